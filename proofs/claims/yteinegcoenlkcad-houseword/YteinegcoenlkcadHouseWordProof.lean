/- Proved: whatever log, message and messages HouseWord is called with, it returns true, and each argument reads afterwards as it read before. No condition. -/
import Derived.Test.YteinegcoenlkcadRows
import Derived.Test.YteinegcoenlkcadHouseWord
import Derived.Test.YteinegcoenlkcadOpenM
import Derived.ProofKit
import Derived.OpenShut
import Derived.ChangeOld
import Derived.SizedLaws
namespace Go.Proofs.Yteinegcoenlkcad
open Go.ChangeShapes Go.WideShapes Go.ChangeAt Go.RowKit Go.Deep

theorem ownS : ownKnob Try.prog.godebug = none := by kernel_rfl
theorem laidOutS : laidOutB Try.prog = true := by kernel_rfl
theorem bytesMsg : Try.prog.bytesOf 25 = 48 := by kernel_rfl

set_option maxRecDepth 100000 in
theorem houseWord_lifted (os : Os) (started : os.Started) (H : Type) (enc : TypeId × Value → H) :
    ReturnsInHanded {} Try.checked os 4 .any (Rows.houseWordSpec.pre6 enc Try.prog Try.f4 Rows.houseWordRow.domain false) (Rows.houseWordSpec.post enc Try.prog Try.f4 false true false false) := by
  refine returnsInHanded_of_change_sized (C := Try.checked) ownS started (by kernel_rfl) Try.func4
    (ChangeSpec.witness6 (enc := enc) (C := Try.checked) false ⟨#[], #[.slice none 0 0, .agg #[.int .i64 0, .int .i64 0, .int .i64 0, .slice none 0 0], .slice none 0 0], []⟩ 8 (by kernel_rfl) (by kernel_rfl) (by kernel_rfl) (by kernel_rfl)) ?_
  intro W base args ds gs before hval0 hW hcnd hsz0 _
  have hsz : (DataW.weightsEach Try.prog (Try.f4.params.toList ++ Rows.houseWordSpec.plain.varTypes Try.prog) (ds ++ gs)).all (· ≤ reachBytes) = true := hsz0
  have hval : ∀ (j : Nat) t v, Try.f4.params[j]? = some t → args[j]? = some v → Value.okWide Try.prog W .any base t v := hval0
  have hW' := hW
  obtain ⟨p, q, hA0, hV, rfl, hfz, hnd⟩ := hW
  have hA : DataW.TrodAll enc Try.prog W 0 (fun _ => true) true Try.f4.params.toList args.toList ds p := hA0
  rw [Try.params4] at hA hval hsz
  obtain ⟨v0, v1, v2, d0, d1, d2, p0, p1, p2, rfl, rfl, rfl, h0, h1, h2⟩ := trodAll_three hA
  obtain ⟨rfl, rfl⟩ := trodVars_none hV
  have k0 := h0
  have k1 := h1
  have k2 := h2
  have lt0 : ∀ x ∈ p0, x.block < W.heap.size := by obtain ⟨m, hm⟩ := k0; exact DataW.trod_lt m _ _ _ hm
  have lt1 : ∀ x ∈ p1, x.block < W.heap.size := by obtain ⟨m, hm⟩ := k1; exact DataW.trod_lt m _ _ _ hm
  have lt2 : ∀ x ∈ p2, x.block < W.heap.size := by obtain ⟨m, hm⟩ := k2; exact DataW.trod_lt m _ _ _ hm
  obtain ⟨f0, h0⟩ := h0
  obtain ⟨f1, h1⟩ := h1
  obtain ⟨f2, h2⟩ := h2
  obtain ⟨a, cap, X, rfl, hp, hm, hcap, hmax⟩ := open_recs (hval 0 22 v0 rfl rfl) h0
  obtain ⟨r, rfl, hq, hr, _⟩ := open_msgV (hval 1 25 v1 rfl rfl) h1
  obtain ⟨a2, cap2, L, rfl, hrow, hm2, hcap2, hmax2⟩ := open_msgs (hval 2 33 v2 rfl rfl) h2
  have hlen : L.length * 48 ≤ reachBytes := by
    rcases open_slice Try.underlying33 h2 with ⟨hcs, _⟩ | ⟨ad, len, cap', m, n, D, Pl, hcs, hb, hl, hm, hmm, hx, _⟩
    · simp [Value.cells] at hcs
      rw [hcs.2.1]
      simp
    · simp [Value.cells] at hcs
      obtain ⟨_, e, _⟩ := hcs
      rw [Prod.mk.injEq] at hx
      have hd := hx.1
      have := sized_slice hsz (j := 2) (t := 33) (e := 25) (elems := (List.range len).map D) rfl (by simp only [hd]; rfl) Try.underlying33
      rw [bytesMsg] at this
      simp at this
      omega
  clear hA0 hval0
  refine (houseWord_any a X cap _ r.1 r.2.1 r.2.2.1 r.2.2.2.1.1 r.2.2.2.2 _ _ a2 L cap2 _ W rfl (by unfold maxLen at hmax; omega) (fun x hx => (hm x hx).1) hp rfl hr hq rfl (by simp only [reachBytes] at hlen; omega) (fun x hx => (hm2 x hx).2.1) hrow (fun x hx => (hm2 x hx).1)).mono fun e W' ⟨he, bel⟩ => ?_
  subst he
  exact ⟨_, rfl, _, _, _, [], _, [], hW', trodAll_mk1 (shut_bool Try.underlying4 _), trodAll_mk3 (Below.trod laidOutS (by kernel_rfl) (of_decide_eq_true (by kernel_rfl)) k0 bel lt0) (Below.trod laidOutS (by kernel_rfl) (of_decide_eq_true (by kernel_rfl)) k1 bel lt1) (Below.trod laidOutS (by kernel_rfl) (of_decide_eq_true (by kernel_rfl)) k2 bel lt2), rfl, bel.frame _, fun h => by cases h⟩

theorem houseWord_holds : Rows.HouseWordSaid :=
  OpenClaim.holds_of_wide 4 Try.f4 rfl rfl rfl rfl rfl rfl rfl ⟨rfl, rfl, rfl, rfl, rfl⟩ rfl rfl rfl rfl rfl (by kernel_rfl) Try.func4 (by kernel_rfl)
    (of_decide_eq_true (by kernel_rfl)) (by unfold Func.isWrapper; first | (rw [if_pos (by decide +kernel)]; kernel_rfl) | (rw [if_neg (by decide +kernel)]; exact ⟨rfl, rfl⟩))
    (fun os started H enc _ => houseWord_lifted os started H enc)

end Go.Proofs.Yteinegcoenlkcad
