/- Several texts in one: How messages, and lists of them, that are arguments are read; Proved: whatever log and message HouseTwice is called with, it returns true, and each argument reads afterwards as it read before. No condition. -/
import Derived.Test.YtikmnaegalmfeaaKJ38
import Derived.Test.YtikmnaegalmfeaaKHearA
import Derived.Test.YtikmnaegalmfeaaRows
import Derived.Test.YtikmnaegalmfeaaKHouseTwice
import Derived.ProofKit
import Derived.OpenShut
import Derived.ChangeOld
namespace Go.Proofs.Ytikmnaegalmfeaa
open Go.ChangeShapes Go.WideShapes Go.ChangeAt Go.RowKit Go.Deep

section
variable {H : Type} {enc : TypeId × Value → H} {w : World} {base : Nat} {spare : Nat → Bool} {held : Bool}
theorem cellsMsg4 : Try.prog.cellsOf 25 = 4 := by kernel_rfl
set_option maxRecDepth 100000 in
theorem open_msgC (fuel : Nat) (cs : List Value) (x : DataW H × List MemPlace) (hlen : cs.length = 4) (h : DataW.trod enc Try.prog w 0 spare held fuel 25 cs = some x) : ∃ r : XM, cs = encM r ∧ (PartsAt w r.2.2.2.1.1 r.2.2.2.2 ∧ r.2.2.2.2.length ≤ r.2.2.2.1.2 ∧ r.2.2.2.1.2 ≤ maxLen ∧ (Lit.int .i64 r.1).wf = true ∧ (Lit.int .i64 r.2.1).wf = true ∧ (Lit.int .i64 r.2.2.1).wf = true) := by
  obtain ⟨xs, k, hk, hxy, _, hxl, hf⟩ := DataW.trod_struct Try.underlying25 h
  match xs, hxl, cs, hlen with
  | [y0, y1, y2, y3], _, [v0, v1, v2, v3], _ =>
    have g0 := hf 0 _ rfl
    have g1 := hf 1 _ rfl
    have g2 := hf 2 _ rfl
    have g3 := hf 3 _ rfl
    simp [cellsInt, cellsPartsL] at g0 g1 g2 g3
    obtain ⟨n0, q0, _, w0⟩ := DataW.trod_int Try.underlying3 g0
    obtain ⟨n1, q1, _, w1⟩ := DataW.trod_int Try.underlying3 g1
    obtain ⟨n2, q2, _, w2⟩ := DataW.trod_int Try.underlying3 g2
    obtain ⟨a, cap, l, q3, hp, hc, hm⟩ := open_partsL g3
    simp at q0 q1 q2 q3
    subst q0 q1 q2 q3
    exact ⟨(n0, n1, n2, (a, cap), l), rfl, hp, hc, hm, w0, w1, w2⟩
set_option maxRecDepth 100000 in
/-- A message that came in, by value. -/
theorem open_msgV {fuel : Nat} {v : Value} {x : DataW H × List MemPlace} (hv : Value.okWide Try.prog w .any base 25 v) (h : DataW.trod enc Try.prog w 0 spare held fuel 25 v.cells.toList = some x) :
    ∃ r : XM, v = .agg #[.int .i64 r.1, .int .i64 r.2.1, .int .i64 r.2.2.1, .slice r.2.2.2.1.1 r.2.2.2.2.length r.2.2.2.1.2] ∧ PartsAt w r.2.2.2.1.1 r.2.2.2.2 ∧ r.2.2.2.2.length ≤ 9223372036854775807 ∧ (Lit.int .i64 r.1).wf = true ∧ (Lit.int .i64 r.2.1).wf = true ∧ (Lit.int .i64 r.2.2.1).wf = true := by
  unfold Value.okWide at hv
  rw [Try.underlying25] at hv
  obtain ⟨cs, rfl, hsz, _⟩ := hv
  rw [cellsMsg4] at hsz
  obtain ⟨r, e, h1, h2, h3, h4⟩ := open_msgC _ _ _ (by simpa [Value.cells] using hsz) h
  have e' : cs.toList = encM r := by simpa [Value.cells] using e
  refine ⟨r, ?_, h1, by unfold maxLen at h3; omega, h4⟩
  rw [← Array.toArray_toList (xs := cs), e']
  rfl
end
end Go.Proofs.Ytikmnaegalmfeaa

namespace Go.Proofs.Ytikmnaegalmfeaa
open Go.ChangeShapes Go.WideShapes Go.ChangeAt Go.RowKit Go.Deep

theorem ownS : ownKnob Try.prog.godebug = none := by kernel_rfl
theorem laidOutS : laidOutB Try.prog = true := by kernel_rfl

set_option maxRecDepth 100000 in
theorem houseTwice_lifted (os : Os) (started : os.Started) (H : Type) (enc : TypeId × Value → H) :
    ReturnsInHanded {} Try.checked os 4 .any (Rows.houseTwiceSpec.pre6 enc Try.prog Try.f4 Rows.houseTwiceRow.domain false) (Rows.houseTwiceSpec.post enc Try.prog Try.f4 false true false false) := by
  refine returnsInHanded_of_change (C := Try.checked) ownS started (by kernel_rfl) Try.func4
    (ChangeSpec.witness6 (enc := enc) (C := Try.checked) false ⟨#[], #[.slice none 0 0, .agg #[.int .i64 0, .int .i64 0, .int .i64 0, .slice none 0 0]], []⟩ 8 (by kernel_rfl) (by kernel_rfl) (by kernel_rfl) (by kernel_rfl)) ?_
  intro W base args ds gs before hval0 hW hcnd _
  have hval : ∀ (j : Nat) t v, Try.f4.params[j]? = some t → args[j]? = some v → Value.okWide Try.prog W .any base t v := hval0
  have hW' := hW
  obtain ⟨p, q, hA0, hV, rfl, hfz, hnd⟩ := hW
  have hA : DataW.TrodAll enc Try.prog W 0 (fun _ => true) true Try.f4.params.toList args.toList ds p := hA0
  rw [Try.params4] at hA hval
  obtain ⟨v0, v1, d0, d1, p0, p1, rfl, rfl, rfl, h0, h1⟩ := trodAll_two hA
  obtain ⟨rfl, rfl⟩ := trodVars_none hV
  have k0 := h0
  have k1 := h1
  have lt0 : ∀ x ∈ p0, x.block < W.heap.size := by obtain ⟨m, hm⟩ := k0; exact DataW.trod_lt m _ _ _ hm
  have lt1 : ∀ x ∈ p1, x.block < W.heap.size := by obtain ⟨m, hm⟩ := k1; exact DataW.trod_lt m _ _ _ hm
  obtain ⟨f0, h0⟩ := h0
  obtain ⟨f1, h1⟩ := h1
  obtain ⟨a, cap, X, rfl, hp, hm, hcap, hmax⟩ := open_recs (hval 0 22 v0 rfl rfl) h0
  obtain ⟨r, rfl, hq, hr, _⟩ := open_msgV (hval 1 25 v1 rfl rfl) h1
  clear hA0 hval0
  refine (houseTwice_any a X cap _ r.1 r.2.1 r.2.2.1 r.2.2.2.1.1 r.2.2.2.2 _ _ W rfl (by unfold maxLen at hmax; omega) (fun x hx => (hm x hx).1) hp rfl hr hq).mono fun e W' ⟨he, bel⟩ => ?_
  subst he
  exact ⟨_, rfl, _, _, _, [], _, [], hW', trodAll_mk1 (shut_bool Try.underlying4 _), trodAll_mk2 (Below.trod laidOutS (by kernel_rfl) (of_decide_eq_true (by kernel_rfl)) k0 bel lt0) (Below.trod laidOutS (by kernel_rfl) (of_decide_eq_true (by kernel_rfl)) k1 bel lt1), rfl, bel.frame _, fun h => by cases h⟩

theorem houseTwice_holds : Rows.HouseTwiceSaid :=
  OpenClaim.holds_of_wide 4 Try.f4 rfl rfl rfl rfl rfl rfl rfl ⟨rfl, rfl, rfl, rfl, rfl⟩ rfl rfl rfl rfl rfl (by kernel_rfl) Try.func4 (by kernel_rfl)
    (of_decide_eq_true (by kernel_rfl)) (by unfold Func.isWrapper; first | (rw [if_pos (by decide +kernel)]; kernel_rfl) | (rw [if_neg (by decide +kernel)]; exact ⟨rfl, rfl⟩))
    (fun os started H enc _ => houseTwice_lifted os started H enc)

end Go.Proofs.Ytikmnaegalmfeaa
