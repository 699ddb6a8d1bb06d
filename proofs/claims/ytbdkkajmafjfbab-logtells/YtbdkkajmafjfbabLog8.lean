/- What log.Decided does, called at a log that lies in memory. -/
import Derived.Test.YtbdkkajmafjfbabLog5
namespace Go.Proofs.Ytbdkkajmafjfbab
open Go.RowKit
attribute [local go_sem ↓] Go.wp_at_zero Go.wp_at_succ

set_option maxRecDepth 20000 in
set_option maxHeartbeats 2000000 in
theorem decided_any (a : Option Addr) (X : List XL) (cap n : Nat) (w : World) (hn : n = X.length) (hl : X.length ≤ 1000) (hok : OkL (X.map stripL)) (hp : RecsAt w a X) :
    Calls Try.prog 27 #[.slice a n cap] w fun e w' => ∃ a' n' c' Z, e = .returned (.slice a' n' c') ∧ n' = Z.length ∧ Z.map stripD = decidedB (X.map stripL) ∧ DeedsAt w' a' Z ∧ Below w.heap.size w w' := by
  have HN : Hid (n = X.length ∧ OkL (X.map stripL) ∧ RecsAt w a X) := ⟨hn, hok, hp⟩
  have hnl : n ≤ 1000 := by omega
  clear hn hok hp
  go_enter Try.func27, Try.ntmps27
  go_wp2
  go_loopw [3, 8] (fun v i w' => ∃ (k : Nat) (Z : List XD), k ≤ n ∧ i = .int .i64 k ∧ Hid (Z.map stripD = decidedB ((X.take k).map stripL)) ∧ OwnL 33 2 encD w' w.heap.size v Z ∧ Hid (∀ y ∈ Z, PartsT w' y.2.1.1 y.2.2) ∧ Below w.heap.size w w') (fun _ i _ => n - (intOf i).toNat)
  case atStart => exact ⟨0, [], Nat.zero_le _, rfl, rfl, OwnL.nil _ _, (fun y hy => by cases hy), Below.refl _ _⟩
  case round =>
    obtain ⟨k, Z, hk, rfl, hZ, hown, hT, hbw⟩ := hrel
    have hsz := hbw.size
    by_cases hlt : k < n
    · have hkX : k < X.length := by have := HN.out.1; omega
      obtain ⟨b, o, rfl, hb, c0, c1, c2, hq⟩ := (HN.out.2.2.below hbw).get hkX
      have hokk := okL_get HN.out.2.1 hkX
      have hZl : Z.length ≤ 1000 := by
        have h1 := congrArg List.length hZ.out
        have h2 := decidedB_len ((X.take k).map stripL)
        simp at h1 h2
        omega
      have HE : Hid (decidedB ((X.take (k + 1)).map stripL) = decidedB ((X.take k).map stripL) ++ (if X[k].1 = 5 then [(X[k].2.1, X[k].2.2.2)] else [])) := by show _ = _; rw [map_take_succ hkX, decidedB_snoc]; rfl
      obtain ⟨av, nv, cv, rfl⟩ : ∃ a n c, u3 = .slice a n c := by
        obtain ⟨a, c, hv, _⟩ := hown.row lenD
        exact ⟨a, _, c, hv⟩
      generalize X[k] = x at *
      obtain ⟨kd, dd, ⟨ax, cx⟩, l⟩ := x
      simp only at c0 c1 c2 hq hokk HE
      have HQ : Hid (PartsAt wr ax l ∧ l.length ≤ 1000 ∧ OwnL 33 2 encD wr w.heap.size (.slice av nv cv) Z) := ⟨hq, by have := hokk.1; omega, hown⟩
      clear hq hokk hown
      generalize hll : l.length = nl at *
      have HLL : Hid (l.length = nl) := hll
      clear hll
      by_cases k5 : kd = 5
      · subst k5
        rw [if_pos rfl] at HE
        go_wp2_with fail
        refine (deed_any 5 dd ax l cx nl _ HLL.out.symm (by have := HQ.out.2.1; have := HLL.out; omega) (HQ.out.1.below (below1 wr _))).mono ?_
        rintro e w3 ⟨a3, c3, rfl, ht3, hb3⟩
        have hbr : Below wr.heap.size wr w3 := (below1 wr _).trans (hb3.mono (by simp))
        have HA3 : Hid (OwnL 33 2 encD w3 w.heap.size (.slice av nv cv) Z ∧ (∀ x ∈ Z, PartsT w3 x.2.1.1 x.2.2) ∧ PartsT w3 a3 l ∧ Below w.heap.size w w3) := ⟨HQ.out.2.2.below hbr (Nat.le_refl _), fun x hx => (hT.out x hx).calm (Calm.below hbr (Nat.le_refl _)), ht3, hbw.trans (hbr.mono hsz)⟩
        have hw3 := HA3.out.2.2.2.size
        clear ht3 hb3 hbr c0 c1 c2
        go_wp2_with (at_builtin; refine wpList_append_list lenD oneD Try.underlying24 infoReady rfl (by decide) (by decide) _ rfl _ _ rfl w.heap.size _ Z rfl (HA3.out.1.below (below1 w3 _) (Nat.le_refl _)) (some ⟨w3.heap.size, 0, none⟩) 1 1 [(dd, (a3, c3), l)] rfl rfl (RowAt.one (Blk.new w3 _ _) (by simp [encD, HLL.out])) (by simp; omega) (by simp; omega) ?_; intro a4 n4 c4 w4 hown4 hn4 hgrow4 hat4; clear hn4 hat4)
        have hgT := HA3.out.1.below (below1 w3 (.cells #[.int .i64 dd, .slice a3 nl c3] 33)) (Nat.le_refl _)
        have hC : Calm 41 w3 w4 := (Calm.alloc _ _ _).trans (Calm.grown hgrow4 (hgT.grownT (by decide)))
        have HF : Hid ((Z ++ [(dd, (a3, c3), l)]).map stripD = decidedB ((X.take (k + 1)).map stripL)) := by
          show _ = _
          rw [HE.out, List.map_append, hZ.out]
          rfl
        have HT4 : Hid (∀ y ∈ Z ++ [(dd, (a3, c3), l)], PartsT w4 y.2.1.1 y.2.2) := fun x hx => by
          rcases List.mem_append.1 hx with hx | hx
          · exact (HA3.out.2.1 x hx).calm hC
          · rw [List.mem_singleton.1 hx]; exact HA3.out.2.2.1.calm hC
        have hBf : Below w.heap.size w w4 := (HA3.out.2.2.2.alloc hw3 _).grown hgrow4 (by simp; omega) HA3.out.1.base
        clear hgrow4 hgT hC
        go_wp2
        go_roundw
        case rel => exact ⟨k + 1, _, by omega, by go_num, HF, hown4, HT4, hBf⟩
        case measure => simp [intOf]; omega
      · have k5' : (kd == 5) = false := by simpa using k5
        have HF : Hid (Z.map stripD = decidedB ((X.take (k + 1)).map stripL)) := by
          show _ = _
          rw [HE.out, if_neg k5, List.append_nil, hZ.out]
        have hA := below1 wr (.cells #[.int .i64 kd, .int .i64 dd, .slice ax nl cx] 45)
        have HO : Hid (OwnL 33 2 encD (wr.alloc (.cells #[.int .i64 kd, .int .i64 dd, .slice ax nl cx] 45)) w.heap.size (.slice av nv cv) Z ∧ (∀ x ∈ Z, PartsT (wr.alloc (.cells #[.int .i64 kd, .int .i64 dd, .slice ax nl cx] 45)) x.2.1.1 x.2.2)) := ⟨HQ.out.2.2.below hA (Nat.le_refl _), fun x hx => (hT.out x hx).calm (Calm.below hA (Nat.le_refl _))⟩
        clear k5 hA
        go_wp2
        go_roundw
        case rel => exact ⟨k + 1, Z, by omega, by go_num, HF, HO.out.1, HO.out.2, hbw.alloc hsz _⟩
        case measure => simp [intOf]; omega
    · have hkn : k = n := by omega
      obtain ⟨av, cv, rfl, hrow, _⟩ := hown.row lenD
      have HF : Hid (Z.map stripD = decidedB (X.map stripL) ∧ DeedsAt wr av Z) := ⟨by rw [hZ.out, List.take_of_length_le (by have := HN.out.1; omega)], hrow, fun y hy => (hT.out y hy).at⟩
      clear hown hZ hrow
      generalize hzl : Z.length = nz at *
      have HZL : Hid (Z.length = nz) := hzl
      clear hzl
      go_wp2
      go_ret
      exact ⟨av, nz, cv, Z, rfl, HZL.out.symm, HF.out.1, HF.out.2, hbw⟩

end Go.Proofs.Ytbdkkajmafjfbab
