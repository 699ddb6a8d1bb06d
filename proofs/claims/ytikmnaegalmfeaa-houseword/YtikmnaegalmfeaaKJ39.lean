/- Several texts in one: How messages, and lists of them, that are arguments are read; Proved: whatever log, message and messages HouseWord is called with, it returns true, and each argument reads afterwards as it read before. No condition. -/
import Derived.Test.YtikmnaegalmfeaaKJ38
import Derived.Test.YtikmnaegalmfeaaKHearA
import Derived.Test.YtikmnaegalmfeaaRows
import Derived.Test.YtikmnaegalmfeaaKHouseWord
import Derived.ProofKit
import Derived.OpenShut
import Derived.ChangeOld
import Derived.SizedLaws
namespace Go.Proofs.Ytikmnaegalmfeaa
open Go.ChangeShapes Go.WideShapes Go.ChangeAt Go.RowKit Go.Deep

section
variable {H : Type} {enc : TypeId × Value → H} {w : World} {base : Nat} {spare : Nat → Bool} {held : Bool}
theorem cellsMsg4 : Try.prog.cellsOf 25 = 4 := by kernel_rfl
set_option maxRecDepth 100000 in
theorem open_msgC (fuel : Nat) (cs : List Value) (x : DataW H × List MemPlace) (hlen : cs.length = 4) (h : DataW.trod enc Try.prog w 0 spare held fuel 25 cs = some x) : ∃ r : XM, cs = encM r ∧ (PartsAt w r.2.2.2.1.1 r.2.2.2.2 ∧ r.2.2.2.2.length ≤ r.2.2.2.1.2 ∧ r.2.2.2.1.2 ≤ maxLen ∧ (Lit.int .i64 r.1).wf = true ∧ (Lit.int .i64 r.2.1).wf = true ∧ (Lit.int .i64 r.2.2.1).wf = true) := by
  obtain ⟨xs, k, hk, hxy, _, hxl, hf⟩ := DataW.trod_struct Try.underlying25 h
  match xs, hxl, cs, hlen with
  | [y0, y1, y2, y3], _, [v0, v1, v2, v3], _ =>
    have g0 := hf 0 _ rfl
    have g1 := hf 1 _ rfl
    have g2 := hf 2 _ rfl
    have g3 := hf 3 _ rfl
    simp [cellsInt, cellsPartsL] at g0 g1 g2 g3
    obtain ⟨n0, q0, _, w0⟩ := DataW.trod_int Try.underlying3 g0
    obtain ⟨n1, q1, _, w1⟩ := DataW.trod_int Try.underlying3 g1
    obtain ⟨n2, q2, _, w2⟩ := DataW.trod_int Try.underlying3 g2
    obtain ⟨a, cap, l, q3, hp, hc, hm⟩ := open_partsL g3
    simp at q0 q1 q2 q3
    subst q0 q1 q2 q3
    exact ⟨(n0, n1, n2, (a, cap), l), rfl, hp, hc, hm, w0, w1, w2⟩
set_option maxRecDepth 100000 in
/-- Messages that came in. -/
theorem open_msgs {fuel : Nat} {v : Value} {x : DataW H × List MemPlace} (hv : Value.okWide Try.prog w .any base 33 v) (h : DataW.trod enc Try.prog w 0 spare held fuel 33 v.cells.toList = some x) :
    ∃ (a : Option Addr) (cap : Nat) (X : List XM), v = .slice a X.length cap ∧ RowAt 4 encM w a X ∧ (∀ r ∈ X, PartsAt w r.2.2.2.1.1 r.2.2.2.2 ∧ r.2.2.2.2.length ≤ 9223372036854775807 ∧ (Lit.int .i64 r.1).wf = true ∧ (Lit.int .i64 r.2.1).wf = true ∧ (Lit.int .i64 r.2.2.1).wf = true) ∧ X.length ≤ cap ∧ cap ≤ maxLen := by
  obtain ⟨a, len, cap, rfl⟩ := okWide_slice Try.underlying33 hv
  obtain ⟨a', cap', X, e, h1, h2, h3, h4⟩ := open_rows (by decide) lenM Try.underlying33 cellsMsg4 (fun f cs x hl h => open_msgC f cs x hl h) h
  simp [Value.cells] at e
  obtain ⟨rfl, rfl, rfl⟩ := e
  exact ⟨_, _, X, rfl, h1, fun y hy => ⟨(h2 y hy).1, by have := h2 y hy; unfold maxLen at this; omega, (h2 y hy).2.2.2⟩, h3, h4⟩
set_option maxRecDepth 100000 in
/-- A message that came in, by value. -/
theorem open_msgV {fuel : Nat} {v : Value} {x : DataW H × List MemPlace} (hv : Value.okWide Try.prog w .any base 25 v) (h : DataW.trod enc Try.prog w 0 spare held fuel 25 v.cells.toList = some x) :
    ∃ r : XM, v = .agg #[.int .i64 r.1, .int .i64 r.2.1, .int .i64 r.2.2.1, .slice r.2.2.2.1.1 r.2.2.2.2.length r.2.2.2.1.2] ∧ PartsAt w r.2.2.2.1.1 r.2.2.2.2 ∧ r.2.2.2.2.length ≤ 9223372036854775807 ∧ (Lit.int .i64 r.1).wf = true ∧ (Lit.int .i64 r.2.1).wf = true ∧ (Lit.int .i64 r.2.2.1).wf = true := by
  unfold Value.okWide at hv
  rw [Try.underlying25] at hv
  obtain ⟨cs, rfl, hsz, _⟩ := hv
  rw [cellsMsg4] at hsz
  obtain ⟨r, e, h1, h2, h3, h4⟩ := open_msgC _ _ _ (by simpa [Value.cells] using hsz) h
  have e' : cs.toList = encM r := by simpa [Value.cells] using e
  refine ⟨r, ?_, h1, by unfold maxLen at h3; omega, h4⟩
  rw [← Array.toArray_toList (xs := cs), e']
  rfl
end
end Go.Proofs.Ytikmnaegalmfeaa

namespace Go.Proofs.Ytikmnaegalmfeaa
open Go.ChangeShapes Go.WideShapes Go.ChangeAt Go.RowKit Go.Deep

theorem ownS : ownKnob Try.prog.godebug = none := by kernel_rfl
theorem laidOutS : laidOutB Try.prog = true := by kernel_rfl
theorem bytesMsg : Try.prog.bytesOf 25 = 48 := by kernel_rfl

set_option maxRecDepth 100000 in
theorem houseWord_lifted (os : Os) (started : os.Started) (H : Type) (enc : TypeId × Value → H) :
    ReturnsInHanded {} Try.checked os 5 .any (Rows.houseWordSpec.pre6 enc Try.prog Try.f5 Rows.houseWordRow.domain false) (Rows.houseWordSpec.post enc Try.prog Try.f5 false true false false) := by
  refine returnsInHanded_of_change_sized (C := Try.checked) ownS started (by kernel_rfl) Try.func5
    (ChangeSpec.witness6 (enc := enc) (C := Try.checked) false ⟨#[], #[.slice none 0 0, .agg #[.int .i64 0, .int .i64 0, .int .i64 0, .slice none 0 0], .slice none 0 0], []⟩ 8 (by kernel_rfl) (by kernel_rfl) (by kernel_rfl) (by kernel_rfl)) ?_
  intro W base args ds gs before hval0 hW hcnd hsz0 _
  have hsz : (DataW.weightsEach Try.prog (Try.f5.params.toList ++ Rows.houseWordSpec.plain.varTypes Try.prog) (ds ++ gs)).all (· ≤ reachBytes) = true := hsz0
  have hval : ∀ (j : Nat) t v, Try.f5.params[j]? = some t → args[j]? = some v → Value.okWide Try.prog W .any base t v := hval0
  have hW' := hW
  obtain ⟨p, q, hA0, hV, rfl, hfz, hnd⟩ := hW
  have hA : DataW.TrodAll enc Try.prog W 0 (fun _ => true) true Try.f5.params.toList args.toList ds p := hA0
  rw [Try.params5] at hA hval hsz
  obtain ⟨v0, v1, v2, d0, d1, d2, p0, p1, p2, rfl, rfl, rfl, h0, h1, h2⟩ := trodAll_three hA
  obtain ⟨rfl, rfl⟩ := trodVars_none hV
  have k0 := h0
  have k1 := h1
  have k2 := h2
  have lt0 : ∀ x ∈ p0, x.block < W.heap.size := by obtain ⟨m, hm⟩ := k0; exact DataW.trod_lt m _ _ _ hm
  have lt1 : ∀ x ∈ p1, x.block < W.heap.size := by obtain ⟨m, hm⟩ := k1; exact DataW.trod_lt m _ _ _ hm
  have lt2 : ∀ x ∈ p2, x.block < W.heap.size := by obtain ⟨m, hm⟩ := k2; exact DataW.trod_lt m _ _ _ hm
  obtain ⟨f0, h0⟩ := h0
  obtain ⟨f1, h1⟩ := h1
  obtain ⟨f2, h2⟩ := h2
  obtain ⟨a, cap, X, rfl, hp, hm, hcap, hmax⟩ := open_recs (hval 0 22 v0 rfl rfl) h0
  obtain ⟨r, rfl, hq, hr, _⟩ := open_msgV (hval 1 25 v1 rfl rfl) h1
  obtain ⟨a2, cap2, L, rfl, hrow, hm2, hcap2, hmax2⟩ := open_msgs (hval 2 33 v2 rfl rfl) h2
  have hlen : L.length * 48 ≤ reachBytes := by
    rcases open_slice Try.underlying33 h2 with ⟨hcs, _⟩ | ⟨ad, len, cap', m, n, D, Pl, hcs, hb, hl, hm, hmm, hx, _⟩
    · simp [Value.cells] at hcs
      rw [hcs.2.1]
      simp
    · simp [Value.cells] at hcs
      obtain ⟨_, e, _⟩ := hcs
      rw [Prod.mk.injEq] at hx
      have hd := hx.1
      have := sized_slice hsz (j := 2) (t := 33) (e := 25) (elems := (List.range len).map D) rfl (by simp only [hd]; rfl) Try.underlying33
      rw [bytesMsg] at this
      simp at this
      omega
  clear hA0 hval0
  refine (houseWord_any a X cap _ r.1 r.2.1 r.2.2.1 r.2.2.2.1.1 r.2.2.2.2 _ _ a2 L cap2 _ W rfl (by unfold maxLen at hmax; omega) (fun x hx => (hm x hx).1) hp rfl hr hq rfl (by simp only [reachBytes] at hlen; omega) (fun x hx => (hm2 x hx).2.1) hrow (fun x hx => (hm2 x hx).1)).mono fun e W' ⟨he, bel⟩ => ?_
  subst he
  exact ⟨_, rfl, _, _, _, [], _, [], hW', trodAll_mk1 (shut_bool Try.underlying4 _), trodAll_mk3 (Below.trod laidOutS (by kernel_rfl) (of_decide_eq_true (by kernel_rfl)) k0 bel lt0) (Below.trod laidOutS (by kernel_rfl) (of_decide_eq_true (by kernel_rfl)) k1 bel lt1) (Below.trod laidOutS (by kernel_rfl) (of_decide_eq_true (by kernel_rfl)) k2 bel lt2), rfl, bel.frame _, fun h => by cases h⟩

theorem houseWord_holds : Rows.HouseWordSaid :=
  OpenClaim.holds_of_wide 5 Try.f5 rfl rfl rfl rfl rfl rfl rfl ⟨rfl, rfl, rfl, rfl, rfl⟩ rfl rfl rfl rfl rfl (by kernel_rfl) Try.func5 (by kernel_rfl)
    (of_decide_eq_true (by kernel_rfl)) (by unfold Func.isWrapper; first | (rw [if_pos (by decide +kernel)]; kernel_rfl) | (rw [if_neg (by decide +kernel)]; exact ⟨rfl, rfl⟩))
    (fun os started H enc _ => houseWord_lifted os started H enc)

end Go.Proofs.Ytikmnaegalmfeaa
