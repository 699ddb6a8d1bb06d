/- How messages, and lists of them, that are arguments are read. -/
import Derived.Test.YteinegcoenlkcacOpen5
import Derived.Test.YteinegcoenlkcacHearA
namespace Go.Proofs.Yteinegcoenlkcac
open Go.ChangeShapes Go.WideShapes Go.ChangeAt Go.RowKit Go.Deep

section
variable {H : Type} {enc : TypeId × Value → H} {w : World} {base : Nat} {spare : Nat → Bool} {held : Bool}
theorem cellsMsg4 : Try.prog.cellsOf 48 = 4 := by kernel_rfl
theorem open_msgC (fuel : Nat) (cs : List Value) (x : DataW H × List MemPlace) (hlen : cs.length = 4) (h : DataW.trod enc Try.prog w 0 spare held fuel 48 cs = some x) : ∃ r : XM, cs = encM r ∧ (PartsAt w r.2.2.2.1.1 r.2.2.2.2 ∧ r.2.2.2.2.length ≤ r.2.2.2.1.2 ∧ r.2.2.2.1.2 ≤ maxLen ∧ (Lit.int .i64 r.1).wf = true ∧ (Lit.int .i64 r.2.1).wf = true ∧ (Lit.int .i64 r.2.2.1).wf = true) := by
  obtain ⟨xs, k, hk, hxy, _, hxl, hf⟩ := DataW.trod_struct Try.underlying48 h
  match xs, hxl, cs, hlen with
  | [y0, y1, y2, y3], _, [v0, v1, v2, v3], _ =>
    have g0 := hf 0 _ rfl
    have g1 := hf 1 _ rfl
    have g2 := hf 2 _ rfl
    have g3 := hf 3 _ rfl
    simp [cellsInt, cellsPartsL] at g0 g1 g2 g3
    obtain ⟨n0, q0, _, w0⟩ := DataW.trod_int Try.underlying3 g0
    obtain ⟨n1, q1, _, w1⟩ := DataW.trod_int Try.underlying3 g1
    obtain ⟨n2, q2, _, w2⟩ := DataW.trod_int Try.underlying3 g2
    obtain ⟨a, cap, l, q3, hp, hc, hm⟩ := open_partsL g3
    simp at q0 q1 q2 q3
    subst q0 q1 q2 q3
    exact ⟨(n0, n1, n2, (a, cap), l), rfl, hp, hc, hm, w0, w1, w2⟩
set_option maxRecDepth 100000 in
/-- Messages that came in. -/
theorem open_msgs {fuel : Nat} {v : Value} {x : DataW H × List MemPlace} (hv : Value.okWide Try.prog w .any base 46 v) (h : DataW.trod enc Try.prog w 0 spare held fuel 46 v.cells.toList = some x) :
    ∃ (a : Option Addr) (cap : Nat) (X : List XM), v = .slice a X.length cap ∧ RowAt 4 encM w a X ∧ (∀ r ∈ X, PartsAt w r.2.2.2.1.1 r.2.2.2.2 ∧ r.2.2.2.2.length ≤ 9223372036854775807 ∧ (Lit.int .i64 r.1).wf = true ∧ (Lit.int .i64 r.2.1).wf = true ∧ (Lit.int .i64 r.2.2.1).wf = true) ∧ X.length ≤ cap ∧ cap ≤ maxLen := by
  obtain ⟨a, len, cap, rfl⟩ := okWide_slice Try.underlying46 hv
  obtain ⟨a', cap', X, e, h1, h2, h3, h4⟩ := open_rows (by decide) lenM Try.underlying46 cellsMsg4 (fun f cs x hl h => open_msgC f cs x hl h) h
  simp [Value.cells] at e
  obtain ⟨rfl, rfl, rfl⟩ := e
  exact ⟨_, _, X, rfl, h1, fun y hy => ⟨(h2 y hy).1, by have := h2 y hy; unfold maxLen at this; omega, (h2 y hy).2.2.2⟩, h3, h4⟩
set_option maxRecDepth 100000 in
/-- A message that came in, by value. -/
theorem open_msgV {fuel : Nat} {v : Value} {x : DataW H × List MemPlace} (hv : Value.okWide Try.prog w .any base 48 v) (h : DataW.trod enc Try.prog w 0 spare held fuel 48 v.cells.toList = some x) :
    ∃ r : XM, v = .agg #[.int .i64 r.1, .int .i64 r.2.1, .int .i64 r.2.2.1, .slice r.2.2.2.1.1 r.2.2.2.2.length r.2.2.2.1.2] ∧ PartsAt w r.2.2.2.1.1 r.2.2.2.2 ∧ r.2.2.2.2.length ≤ 9223372036854775807 ∧ (Lit.int .i64 r.1).wf = true ∧ (Lit.int .i64 r.2.1).wf = true ∧ (Lit.int .i64 r.2.2.1).wf = true := by
  unfold Value.okWide at hv
  rw [Try.underlying48] at hv
  obtain ⟨cs, rfl, hsz, _⟩ := hv
  rw [cellsMsg4] at hsz
  obtain ⟨r, e, h1, h2, h3, h4⟩ := open_msgC _ _ _ (by simpa [Value.cells] using hsz) h
  have e' : cs.toList = encM r := by simpa [Value.cells] using e
  refine ⟨r, ?_, h1, by unfold maxLen at h3; omega, h4⟩
  rw [← Array.toArray_toList (xs := cs), e']
  rfl
end
end Go.Proofs.Yteinegcoenlkcac
