/- What the document's HouseTick does. -/
import Derived.Test.YtikmnaegalmfeaaKHous3
namespace Go.Proofs.Ytikmnaegalmfeaa
open Go.RowKit
attribute [local go_sem ↓] Go.wp_at_zero Go.wp_at_succ

set_option maxRecDepth 20000 in
set_option maxHeartbeats 2000000 in
theorem refTick_any (la ra da : Option Addr) (nl lc nr rc nd dc : Nat) (s0 s1 s2 s3 me : Int) (XR : List XD) (D : List D2) (w : World) (h : RdyAt w ra nr XR D) (hl : XR.length ≤ 2900000000000) :
    Calls Try.prog 16 #[.agg #[.slice la nl lc, .int .i64 s0, .int .i64 s1, .int .i64 s2, .int .i64 s3, .slice ra nr rc, .slice da nd dc], .int .i64 me] w fun e w' => ∃ a' n' c', e = .returned (.slice a' n' c') ∧ OwnL 25 4 encM w' w.heap.size (.slice a' n' c') (D.map fun x => (7, x.1, me, (none, 0), [])) ∧ Below w.heap.size w w' := by
  have HN : Hid (RdyAt w ra nr XR D ∧ XR.length ≤ 2900000000000) := ⟨h, hl⟩
  have hnl : nr ≤ 2900000000000 := by have := h.n; omega
  clear h hl
  go_enter Try.func16, Try.ntmps16
  go_wp2
  have hb0 := below1 w (.cells #[.slice la nl lc, .int .i64 s0, .int .i64 s1, .int .i64 s2, .int .i64 s3, .slice ra nr rc, .slice da nd dc] 31)
  generalize w.alloc (.cells #[.slice la nl lc, .int .i64 s0, .int .i64 s1, .int .i64 s2, .int .i64 s3, .slice ra nr rc, .slice da nd dc] 31) = W at *
  go_loopw [5, 11] (fun v i w' => ∃ (k : Nat), k ≤ nr ∧ i = .int .i64 k ∧ Hid (OwnL 25 4 encM w' w.heap.size v ((D.take k).map fun x => (7, x.1, me, (none, 0), []))) ∧ Below w.heap.size w w') (fun _ i _ => nr - (intOf i).toNat)
  case atStart => exact ⟨0, Nat.zero_le _, rfl, OwnL.nil _ _, hb0⟩
  case round =>
    obtain ⟨k, hk, rfl, hO, hbw⟩ := hrel
    have hsz := hbw.size
    by_cases hlt : k < nr
    · have hkX : k < XR.length := by have := HN.out.1.n; omega
      have hkD : k < D.length := by rw [← HN.out.1.says, List.length_map]; exact hkX
      have HE : Hid ((D.take (k + 1)).map (fun x => ((7 : Int), x.1, me, ((none, 0) : Hd), ([] : List P3))) = (D.take k).map (fun x => (7, x.1, me, (none, 0), [])) ++ [(7, XR[k].1, me, (none, 0), [])] ∧ ((D.take k).map (fun x => ((7 : Int), x.1, me, ((none, 0) : Hd), ([] : List P3)))).length = k) := by
        refine ⟨?_, by simp; omega⟩
        rw [take_snoc hkD, List.map_append]
        have : D = XR.map stripD := HN.out.1.says.symm
        subst this
        simp [stripD]
      obtain ⟨g, o, rfl, hg, d0, d1, hq⟩ := (HN.out.1.lies.below hbw).get hkX
      obtain ⟨av, nv, cv, rfl⟩ : ∃ a n c, u5 = .slice a n c := by
        obtain ⟨a, c, hv, _⟩ := hO.out.row lenM
        exact ⟨a, _, c, hv⟩
      clear hq
      generalize XR[k] = x at *
      obtain ⟨dd, ⟨ax, cx⟩, l⟩ := x
      simp only at d0 d1 HE
      generalize l.length = n2 at *
      generalize (D.take k).map (fun x => ((7 : Int), x.1, me, ((none, 0) : Hd), ([] : List P3))) = Z at *
      have hZl : Z.length = k := HE.out.2
      have HO2 := (hO.out.below (below1 wr (.cells #[.int .i64 dd, .slice ax n2 cx] 69)) (Nat.le_refl _)).below (below1 (wr.alloc (.cells #[.int .i64 dd, .slice ax n2 cx] 69)) (.cells #[.int .i64 7, .int .i64 dd, .int .i64 me, .slice none 0 0] 25)) (Nat.le_refl _)
      have HO3 : Hid (OwnL 25 4 encM ((wr.alloc (.cells #[.int .i64 dd, .slice ax n2 cx] 69)).alloc (.cells #[.int .i64 7, .int .i64 dd, .int .i64 me, .slice none 0 0] 25)) w.heap.size (.slice av nv cv) Z) := HO2
      have hbn := hbw.trans ((below2 wr (.cells #[.int .i64 dd, .slice ax n2 cx] 69) (.cells #[.int .i64 7, .int .i64 dd, .int .i64 me, .slice none 0 0] 25)).mono hsz)
      clear HO2
      go_wp2_with (at_builtin; refine wpList_append_listB lenM oneM Try.underlying33 infoMsg rfl (by decide) _ rfl _ _ rfl w.heap.size _ Z rfl HO3.out (some ⟨wr.heap.size + 1, 0, none⟩) 1 1 [(7, dd, me, (none, 0), [])] rfl rfl (RowAt.one (heap2 wr _ _) rfl) (by unfold maxLen; simp; omega) (by simp; omega) (by simp; omega) ?_; intro a4 n4 c4 w4 hown4 hn4 hgrow4 hat4; clear hn4)
      have HF : Hid (OwnL 25 4 encM w4 w.heap.size (.slice a4 n4 c4) ((D.take (k + 1)).map fun x => (7, x.1, me, (none, 0), []))) := by
        show OwnL _ _ _ _ _ _ _
        rw [HE.out.1]
        exact hown4
      have hB4 : Below w.heap.size w w4 := hbn.grown hgrow4 hbn.size HO3.out.base
      clear hown4 hgrow4 hat4 HO3 hbn d0 d1
      go_wp2
      go_roundw
      case rel => exact ⟨k + 1, by omega, by go_num, HF, hB4⟩
      case measure => simp [intOf]; omega
    · have HF : Hid (OwnL 25 4 encM wr w.heap.size u5 (D.map fun x => (7, x.1, me, (none, 0), []))) := by
        have := hO.out
        rwa [List.take_of_length_le (by have h1 := HN.out.1.n; rw [← HN.out.1.says, List.length_map]; omega)] at this
      obtain ⟨av, nv, cv, rfl⟩ : ∃ a n c, u5 = .slice a n c := by
        obtain ⟨a, c, hv, _⟩ := HF.out.row lenM
        exact ⟨a, _, c, hv⟩
      clear hO
      go_wp2
      go_ret
      exact ⟨av, nv, cv, rfl, HF.out, hbw⟩

end Go.Proofs.Ytikmnaegalmfeaa
