import Derived.Test.YtpcnlifmkhagkaaGreatKFJ09
set_option maxRecDepth 20000
set_option maxHeartbeats 20000000
namespace Go.Proofs.YtpcnlifmkhagkaaGreat
open Go.RowKit
open Go.Value renaming slice → G, int → E
open Go.IntKind renaming i64 → J
open _root_.Option renaming none → U
open Go.Obj renaming cells → T
open Go.RowKit renaming Hid → Q, Below → Z
attribute [local go_sem ↓] Go.wp_at_zero Go.wp_at_succ
theorem zpa (la ra da : Option Addr) (nl lc nr rc nd dc : Nat) (s0 s1 s2 s3 me : Int) (XR : List XD) (D : List D2) (w : World) (h : zfb w ra nr XR D) (hl : XR.length ≤ 2900000000000) :
  Calls Tryz.prog 72 #[.agg #[G la nl lc, E J s0, E J s1, E J s2, E J s3, G ra nr rc, G da nd dc], E J me] w fun e w' => ∃ a' n' c', e = .returned (G a' n' c') ∧ zd 25 4 zcf w' w.heap.size (G a' n' c') (D.map fun x => (7, x.1, me, (U, 0), [])) ∧ Z w.heap.size w w' := by
 have HN := zB h hl;have hnl : nr ≤ 2900000000000 := by have := h.n; omega
 clear h hl;go_enter Tryz.func72, Tryz.ntmps72
 go_wp2;have hb0 := zg w (T #[G la nl lc, E J s0, E J s1, E J s2, E J s3, G ra nr rc, G da nd dc] 77);generalize w.alloc (T #[G la nl lc, E J s0, E J s1, E J s2, E J s3, G ra nr rc, G da nd dc] 77) = W at *;go_loopw [5, 11] (fun v i w' => ∃ (k : Nat), k ≤ nr ∧ i = E J k ∧ Q (zd 25 4 zcf w' w.heap.size v ((D.take k).map fun x => (7, x.1, me, (none, 0), []))) ∧ Z w.heap.size w w') (fun _ i _ => nr - (intOf i).toNat)
 case atStart => exact ⟨0, Nat.zero_le _, rfl, zd.nil _ _, hb0⟩
 case round =>
  obtain ⟨k, hk, rfl, hO, hbw⟩ := hrel;have hsz := hbw.size;by_cases hlt : k < nr
  ·have hkX : k < XR.length := by have := HN.out.1.n; omega
   have hkD : k < D.length := by rw [← HN.out.1.says, List.length_map]; exact hkX
   have HE : Q ((D.take (k + 1)).map (fun x => ((7 : Int), x.1, me, ((none, 0) : Hd), ([] : List P3))) = (D.take k).map (fun x => (7, x.1, me, (none, 0), [])) ++ [(7, XR[k].1, me, (none, 0), [])] ∧ ((D.take k).map (fun x => ((7 : Int), x.1, me, ((U, 0) : Hd), ([] : List P3)))).length = k) := by
    refine ⟨?_, by simp; omega⟩;rw [zax hkD, List.map_append];have : D = XR.map zaz := HN.out.1.says.symm;subst this;simp [zaz]
   obtain ⟨g, o, rfl, hg, d0, d1, hq⟩ := (HN.out.1.lies.below hbw).get hkX
   obtain ⟨av, nv, cv, rfl⟩ : ∃ a n c, u5 = G a n c := by
    obtain ⟨a, c, hv, _⟩ := hO.out.row zby
    exact ⟨a, _, c, hv⟩
   clear hq;generalize XR[k] = x at *;obtain ⟨dd, ⟨ax, cx⟩, l⟩ := x;simp only at d0 d1 HE
   generalize l.length = n2 at *;generalize (D.take k).map (fun x => ((7 : Int), x.1, me, ((U, 0) : Hd), ([] : List P3))) = jz at *;have hZl := HE.out.2;have HO2 := (hO.out.below (zg wr (T #[E J dd, G ax n2 cx] 80)) (Nat.le_refl _)).below (zg (wr.alloc (T #[E J dd, G ax n2 cx] 80)) (T #[E J 7, E J dd, E J me, G U 0 0] 25)) (Nat.le_refl _);have HO3 := zA HO2;have hbn := hbw.trans ((za4 wr (T #[E J dd, G ax n2 cx] 80) (T #[E J 7, E J dd, E J me, G U 0 0] 25)).mono hsz);clear HO2;go_wp2_with (at_builtin; refine zbk zby oneM Tryz.underlying41 zfr rfl (by decide) _ rfl _ _ rfl w.heap.size _ jz rfl HO3.out (some ⟨wr.heap.size + 1, 0, U⟩) 1 1 [(7, dd, me, (U, 0), [])] rfl rfl (zk.one (zap wr _ _) rfl) (by unfold maxLen; simp; omega) (by simp; omega) (by simp; omega) ?_; intro a4 n4 c4 w4 jv hn4 jy jQ; clear hn4)
   have HF : Q (zd 25 4 zcf w4 w.heap.size (G a4 n4 c4) ((D.take (k + 1)).map fun x => (7, x.1, me, (U, 0), []))) := by
    show zd _ _ _ _ _ _ _
    rw [HE.out.1];exact jv
   have hB4 := hbn.grown jy hbn.size HO3.out.base;clear jv jy jQ HO3 hbn d0 d1;go_wp2;go_roundw
   case rel => exact ⟨k + 1, by omega, by go_num, HF, hB4⟩
   case measure => simp [intOf]; omega
  ·have HF : Q (zd 25 4 zcf wr w.heap.size u5 (D.map fun x => (7, x.1, me, (U, 0), []))) := by
    have := hO.out;rwa [List.take_of_length_le (by have h1 := HN.out.1.n; rw [← HN.out.1.says, List.length_map]; omega)] at this
   obtain ⟨av, nv, cv, rfl⟩ : ∃ a n c, u5 = G a n c := by
    obtain ⟨a, c, hv, _⟩ := HF.out.row zby
    exact ⟨a, _, c, hv⟩
   clear hO;go_wp2;go_ret;exact ⟨av, nv, cv, rfl, HF.out, hbw⟩
end Go.Proofs.YtpcnlifmkhagkaaGreat
