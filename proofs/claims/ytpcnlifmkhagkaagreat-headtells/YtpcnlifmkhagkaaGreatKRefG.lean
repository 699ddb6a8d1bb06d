import Derived.Test.YtpcnlifmkhagkaaGreatKRefH
import Derived.Test.YtpcnlifmkhagkaaGreatKJ15
set_option maxRecDepth 20000
set_option maxHeartbeats 20000000
namespace Go.Proofs.YtpcnlifmkhagkaaGreat
open Go.RowKit
attribute [local go_sem ↓] Go.wp_at_zero Go.wp_at_succ
def zcs (kd dd : Int) (D : List D2) : List D2 := if kd = 6 then zal D dd else D
theorem kfil_yes {kd dd : Int} {D : List D2} {j : Nat} (h : j < D.length) (hk : ¬ kd = 6 ∨ ¬ D[j].1 = dd) : zcs kd dd (D.take (j + 1)) = zcs kd dd (D.take j) ++ [D[j]] := by
 rw [zaw h];unfold zcs
 split
 · rename_i h6
  rcases hk with hk | hk
  · exact absurd h6 hk
  · unfold zal
   rw [List.filter_append, List.filter_cons_of_pos (by simp [hk])];rfl
 · rfl
theorem kfil_no {dd : Int} {D : List D2} {j : Nat} (h : j < D.length) (hk : D[j].1 = dd) : zcs 6 dd (D.take (j + 1)) = zcs 6 dd (D.take j) := by
 rw [zaw h];unfold zcs
 rw [if_pos rfl, if_pos rfl];unfold zal
 rw [List.filter_append, List.filter_cons_of_neg (by simp [hk])];simp
theorem zls (kd dd : Int) (D : List D2) : (zcs kd dd D).length ≤ D.length := by
 unfold zcs
 split
 · exact List.length_filter_le _ _
 · exact Nat.le_refl _
theorem zoa (t : Int) (D : List D2) (kd dd : Int) (l : List P3) : zdf (t, D) (kd, dd, l) = (if kd = 4 then t + 1 else t, if kd = 5 then zcs kd dd D ++ [(dd, l)] else zcs kd dd D) := by
 unfold zdf zcs
 simp only
 by_cases h4 : kd = 4
 · simp [h4]
 · by_cases h5 : kd = 5
  · simp [h5]
  · by_cases h6 : kd = 6
   · simp [h6]
   · simp [h4, h5, h6]
end Go.Proofs.YtpcnlifmkhagkaaGreat
