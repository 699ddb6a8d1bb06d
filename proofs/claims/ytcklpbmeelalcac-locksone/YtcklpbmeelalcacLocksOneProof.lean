/- Proved: whatever messages and key LocksOne is called with, it returns true, and each argument reads afterwards as it read before. No condition. -/
import Derived.Test.YtcklpbmeelalcacRows
import Derived.Test.YtcklpbmeelalcacLocksOne
import Derived.Test.YtcklpbmeelalcacOpenM
import Derived.ProofKit
import Derived.OpenShut
import Derived.ChangeOld
import Derived.SizedLaws
namespace Go.Proofs.Ytcklpbmeelalcac
open Go.ChangeShapes Go.WideShapes Go.ChangeAt Go.RowKit Go.Deep

theorem ownS : ownKnob Try.prog.godebug = none := by kernel_rfl
theorem laidOutS : laidOutB Try.prog = true := by kernel_rfl
theorem bytesMsg : Try.prog.bytesOf 48 = 48 := by kernel_rfl

set_option maxRecDepth 100000 in
theorem locksOne_lifted (os : Os) (started : os.Started) (H : Type) (enc : TypeId × Value → H) :
    ReturnsInHanded {} Try.checked os 6 .any (Rows.locksOneSpec.pre6 enc Try.prog Try.f6 Rows.locksOneRow.domain false) (Rows.locksOneSpec.post enc Try.prog Try.f6 false true false false) := by
  refine returnsInHanded_of_change_sized (C := Try.checked) ownS started (by kernel_rfl) Try.func6
    (ChangeSpec.witness6 (enc := enc) (C := Try.checked) false ⟨#[], #[.slice none 0 0, .int .i64 0], []⟩ 8 (by kernel_rfl) (by kernel_rfl) (by kernel_rfl) (by kernel_rfl)) ?_
  intro W base args ds gs before hval0 hW hcnd hsz0 _
  have hsz : (DataW.weightsEach Try.prog (Try.f6.params.toList ++ Rows.locksOneSpec.plain.varTypes Try.prog) (ds ++ gs)).all (· ≤ reachBytes) = true := hsz0
  have hval : ∀ (j : Nat) t v, Try.f6.params[j]? = some t → args[j]? = some v → Value.okWide Try.prog W .any base t v := hval0
  have hW' := hW
  obtain ⟨p, q, hA0, hV, rfl, hfz, hnd⟩ := hW
  have hA : DataW.TrodAll enc Try.prog W 0 (fun _ => true) true Try.f6.params.toList args.toList ds p := hA0
  rw [Try.params6] at hA hval hsz
  obtain ⟨v0, v1, d0, d1, p0, p1, rfl, rfl, rfl, h0, h1⟩ := trodAll_two hA
  obtain ⟨rfl, rfl⟩ := trodVars_none hV
  have k0 := h0
  have k1 := h1
  have lt0 : ∀ x ∈ p0, x.block < W.heap.size := by obtain ⟨m, hm⟩ := k0; exact DataW.trod_lt m _ _ _ hm
  have lt1 : ∀ x ∈ p1, x.block < W.heap.size := by obtain ⟨m, hm⟩ := k1; exact DataW.trod_lt m _ _ _ hm
  obtain ⟨f0, h0⟩ := h0
  obtain ⟨a, cap, X, rfl, hrow, hm, hcap, hmax⟩ := open_msgs (hval 0 46 v0 rfl rfl) h0
  obtain ⟨key, rfl, hd1, hp1, wx1⟩ := open_int Try.underlying3 (hval 1 3 v1 rfl rfl) h1
  have hlen : X.length * 48 ≤ reachBytes := by
    rcases open_slice Try.underlying46 h0 with ⟨hcs, _⟩ | ⟨ad, len, cap', m, n, D, Pl, hcs, hb, hl, hm, hmm, hx, _⟩
    · simp [Value.cells] at hcs
      rw [hcs.2.1]
      simp
    · simp [Value.cells] at hcs
      obtain ⟨_, e, _⟩ := hcs
      rw [Prod.mk.injEq] at hx
      have hd := hx.1
      have := sized_slice hsz (j := 0) (t := 46) (e := 48) (elems := (List.range len).map D) rfl (by simp only [hd]; rfl) Try.underlying46
      rw [bytesMsg, Nat.add_mul] at this
      simp at this
      omega
  clear hA0 hval0
  refine (locksOne_any a X cap _ key W rfl (by simp only [reachBytes] at hlen; omega) (fun x hx => (hm x hx).2.1) hrow (fun x hx => (hm x hx).1)).mono fun e W' ⟨he, bel⟩ => ?_
  subst he
  exact ⟨_, rfl, _, _, _, [], _, [], hW', trodAll_mk1 (shut_bool Try.underlying4 _), trodAll_mk2 (Below.trod laidOutS (by kernel_rfl) (of_decide_eq_true (by kernel_rfl)) k0 bel lt0) (Below.trod laidOutS (by kernel_rfl) (of_decide_eq_true (by kernel_rfl)) k1 bel lt1), rfl, bel.frame _, fun h => by cases h⟩

theorem locksOne_holds : Rows.LocksOneSaid :=
  OpenClaim.holds_of_wide 6 Try.f6 rfl rfl rfl rfl rfl rfl rfl ⟨rfl, rfl, rfl, rfl, rfl⟩ rfl rfl rfl rfl rfl (by kernel_rfl) Try.func6 (by kernel_rfl)
    (of_decide_eq_true (by kernel_rfl)) (by unfold Func.isWrapper; first | (rw [if_pos (by decide +kernel)]; kernel_rfl) | (rw [if_neg (by decide +kernel)]; exact ⟨rfl, rfl⟩))
    (fun os started H enc _ => locksOne_lifted os started H enc)

end Go.Proofs.Ytcklpbmeelalcac
