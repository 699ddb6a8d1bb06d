/- What the document's Decided does, called at a log that lies in memory. -/
import Derived.Test.YtbdkkajmafjfbabLog5
namespace Go.Proofs.Ytbdkkajmafjfbab
open Go.RowKit
attribute [local go_sem ↓] Go.wp_at_zero Go.wp_at_succ

set_option maxRecDepth 20000 in
set_option maxHeartbeats 2000000 in
theorem refDecided_any (a : Option Addr) (X : List XL) (cap n : Nat) (w : World) (hn : n = X.length) (hl : X.length ≤ 1000000) (hp : RecsAt w a X) :
    Calls Try.prog 28 #[.slice a n cap] w fun e w' => ∃ a' n' c' Z, e = .returned (.slice a' n' c') ∧ n' = Z.length ∧ Z.map stripD = decidedB (X.map stripL) ∧ DeedsAt w' a' Z ∧ Below w.heap.size w w' := by
  have HN : Hid (n = X.length ∧ RecsAt w a X) := ⟨hn, hp⟩
  have hnl : n ≤ 1000000 := by omega
  clear hn hp hl
  go_enter Try.func28, Try.ntmps28
  go_wp2
  go_loopw [3, 8] (fun v i w' => ∃ (k : Nat) (Z : List XD), k ≤ n ∧ i = .int .i64 k ∧ Hid (Z.map stripD = decidedB ((X.take k).map stripL)) ∧ OwnL 33 2 encD w' w.heap.size v Z ∧ Hid (∀ y ∈ Z, PartsAt w y.2.1.1 y.2.2) ∧ Below w.heap.size w w') (fun _ i _ => n - (intOf i).toNat)
  case atStart => exact ⟨0, [], Nat.zero_le _, rfl, rfl, OwnL.nil _ _, (fun y hy => by cases hy), Below.refl _ _⟩
  case round =>
    obtain ⟨k, Z, hk, rfl, hZ, hown, hT, hbw⟩ := hrel
    have hsz := hbw.size
    by_cases hlt : k < n
    · have hkX : k < X.length := by have := HN.out.1; omega
      obtain ⟨b, o, rfl, hb, c0, c1, c2, -⟩ := (HN.out.2.below hbw).get hkX
      have hq := HN.out.2.2 _ (List.getElem_mem hkX)
      have hZl : Z.length ≤ k := by
        have h1 := congrArg List.length hZ.out
        have h2 := decidedB_len ((X.take k).map stripL)
        simp at h1 h2
        omega
      have HE : Hid (decidedB ((X.take (k + 1)).map stripL) = decidedB ((X.take k).map stripL) ++ (if X[k].1 = 5 then [(X[k].2.1, X[k].2.2.2)] else [])) := by show _ = _; rw [map_take_succ hkX, decidedB_snoc]; rfl
      obtain ⟨av, nv, cv, rfl⟩ : ∃ a n c, u3 = .slice a n c := by
        obtain ⟨a, c, hv, _⟩ := hown.row lenD
        exact ⟨a, _, c, hv⟩
      generalize X[k] = x at *
      obtain ⟨kd, dd, ⟨ax, cx⟩, l⟩ := x
      simp only at c0 c1 c2 hq HE
      have HQ : Hid (PartsAt w ax l ∧ OwnL 33 2 encD wr w.heap.size (.slice av nv cv) Z) := ⟨hq, hown⟩
      clear hq hown
      generalize hll : l.length = nl at *
      have HLL : Hid (l.length = nl) := hll
      clear hll
      by_cases k5 : kd = 5
      · subst k5
        rw [if_pos rfl] at HE
        go_wp2_with (at_builtin; refine wpList_append_list lenD oneD Try.underlying24 infoReady rfl (by decide) (by decide) _ rfl _ _ rfl w.heap.size _ Z rfl (HQ.out.2.below (below2 wr _ _) (Nat.le_refl _)) (some ⟨wr.heap.size + 1, 0, none⟩) 1 1 [(dd, (ax, cx), l)] rfl rfl (RowAt.one (heap2 wr _ _) (by simp [encD, HLL.out])) (by simp; omega) (by simp; omega) ?_; intro a4 n4 c4 w4 hown4 hn4 hgrow4 hat4; clear hn4 hat4)
        have HF : Hid ((Z ++ [(dd, (ax, cx), l)]).map stripD = decidedB ((X.take (k + 1)).map stripL)) := by
          show _ = _
          rw [HE.out, List.map_append, hZ.out]
          rfl
        have HT4 : Hid (∀ y ∈ Z ++ [(dd, (ax, cx), l)], PartsAt w y.2.1.1 y.2.2) := fun x hx => by
          rcases List.mem_append.1 hx with hx | hx
          · exact hT.out x hx
          · rw [List.mem_singleton.1 hx]; exact HQ.out.1
        have hBf : Below w.heap.size w w4 := ((hbw.alloc hsz _).alloc (by simp; omega) _).grown hgrow4 (by simp; omega) (HQ.out.2.below (below2 wr (.cells #[.int .i64 5, .int .i64 dd, .slice ax nl cx] 45) (.cells #[.int .i64 dd, .slice ax nl cx] 33)) (Nat.le_refl _)).base
        clear hgrow4
        go_wp2
        go_roundw
        case rel => exact ⟨k + 1, _, by omega, by go_num, HF, hown4, HT4, hBf⟩
        case measure => simp [intOf]; omega
      · have k5' : (kd == 5) = false := by simpa using k5
        have HF : Hid (Z.map stripD = decidedB ((X.take (k + 1)).map stripL)) := by
          show _ = _
          rw [HE.out, if_neg k5, List.append_nil, hZ.out]
        have hA := below1 wr (.cells #[.int .i64 kd, .int .i64 dd, .slice ax nl cx] 45)
        have HO : Hid (OwnL 33 2 encD (wr.alloc (.cells #[.int .i64 kd, .int .i64 dd, .slice ax nl cx] 45)) w.heap.size (.slice av nv cv) Z) := HQ.out.2.below hA (Nat.le_refl _)
        clear k5 hA
        go_wp2
        go_roundw
        case rel => exact ⟨k + 1, Z, by omega, by go_num, HF, HO.out, hT, hbw.alloc hsz _⟩
        case measure => simp [intOf]; omega
    · have hkn : k = n := by omega
      obtain ⟨av, cv, rfl, hrow, _⟩ := hown.row lenD
      have HF : Hid (Z.map stripD = decidedB (X.map stripL) ∧ DeedsAt wr av Z) := ⟨by rw [hZ.out, List.take_of_length_le (by have := HN.out.1; omega)], hrow, fun y hy => (hT.out y hy).below hbw⟩
      clear hown hZ hrow
      generalize hzl : Z.length = nz at *
      have HZL : Hid (Z.length = nz) := hzl
      clear hzl
      go_wp2
      go_ret
      exact ⟨av, nz, cv, Z, rfl, HZL.out.symm, HF.out.1, HF.out.2, hbw⟩

end Go.Proofs.Ytbdkkajmafjfbab
