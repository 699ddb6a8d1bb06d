/- Plain facts: sorted, and each once, houses are what going over all of them finds. -/
import Derived.Test.YtembpegakcooeaaRef2
namespace Go.Proofs.Ytembpegakcooeaa
open Go.RowKit

def insI (x : Int) : List Int → List Int
  | [] => [x]
  | y :: t => if x ≤ y then x :: y :: t else y :: insI x t
def isortI : List Int → List Int
  | [] => []
  | x :: t => insI x (isortI t)
theorem insI_perm (x : Int) : ∀ l : List Int, (insI x l).Perm (x :: l)
  | [] => List.Perm.refl _
  | y :: t => by
    unfold insI
    split
    · exact List.Perm.refl _
    · exact ((insI_perm x t).cons y).trans (List.Perm.swap x y t)
theorem isortI_perm : ∀ l : List Int, (isortI l).Perm l
  | [] => List.Perm.refl _
  | x :: t => (insI_perm x _).trans ((isortI_perm t).cons x)
theorem insI_sorted (x : Int) : ∀ l : List Int, l.Pairwise (· ≤ ·) → (insI x l).Pairwise (· ≤ ·)
  | [], _ => List.pairwise_singleton _ _
  | y :: t, h => by
    cases h with
    | cons hy ht =>
      unfold insI
      split
      · rename_i hxy
        refine List.Pairwise.cons (fun z hz => ?_) (List.Pairwise.cons hy ht)
        rcases List.mem_cons.1 hz with rfl | hz
        · exact hxy
        · exact Int.le_trans hxy (hy z hz)
      · rename_i hxy
        refine List.Pairwise.cons (fun z hz => ?_) (insI_sorted x t ht)
        rcases List.mem_cons.1 ((insI_perm x t).mem_iff.1 hz) with rfl | hz
        · omega
        · exact hy z hz
theorem isortI_sorted : ∀ l : List Int, (isortI l).Pairwise (· ≤ ·)
  | [] => List.Pairwise.nil
  | x :: t => insI_sorted x _ (isortI_sorted t)
theorem mergeSort_isortI (l : List Int) : (l.mergeSort fun x y => decide (x ≤ y)) = isortI l := by
  refine List.Perm.eq_of_pairwise (le := fun a b : Int => a ≤ b) (fun a b _ _ h1 h2 => Int.le_antisymm h1 h2) ?_ (isortI_sorted l) ((List.mergeSort_perm _ _).trans (isortI_perm l).symm)
  have := List.pairwise_mergeSort (le := fun x y : Int => decide (x ≤ y)) (fun a b c h1 h2 => by simp at *; omega) (fun a b => by simp; omega) l
  exact this.imp (fun h => by simpa using h)

theorem fin1 : ∀ a ∈ ([0, 1, 2] : List Int), Lib.compact (isortI [a]) = ([0, 1, 2] : List Int).filter fun n => decide (n ∈ [a]) := by decide +kernel
theorem fin2 : ∀ a ∈ ([0, 1, 2] : List Int), ∀ b ∈ ([0, 1, 2] : List Int), Lib.compact (isortI [a, b]) = ([0, 1, 2] : List Int).filter fun n => decide (n ∈ [a, b]) := by decide +kernel
theorem fin3 : ∀ a ∈ ([0, 1, 2] : List Int), ∀ b ∈ ([0, 1, 2] : List Int), ∀ c ∈ ([0, 1, 2] : List Int), Lib.compact (isortI [a, b, c]) = ([0, 1, 2] : List Int).filter fun n => decide (n ∈ [a, b, c]) := by decide +kernel
theorem fin4 : ∀ a ∈ ([0, 1, 2] : List Int), ∀ b ∈ ([0, 1, 2] : List Int), ∀ c ∈ ([0, 1, 2] : List Int), ∀ d ∈ ([0, 1, 2] : List Int), Lib.compact (isortI [a, b, c, d]) = ([0, 1, 2] : List Int).filter fun n => decide (n ∈ [a, b, c, d]) := by decide +kernel
theorem fin_all (ms : List Int) (h1 : 1 ≤ ms.length) (h4 : ms.length ≤ 4) (h : ∀ m ∈ ms, m ∈ ([0, 1, 2] : List Int)) : Lib.compact (isortI ms) = ([0, 1, 2] : List Int).filter fun n => decide (n ∈ ms) := by
  match ms, h1, h4, h with
  | [a], _, _, h => exact fin1 a (h a (by simp))
  | [a, b], _, _, h => exact fin2 a (h a (by simp)) b (h b (by simp))
  | [a, b, c], _, _, h => exact fin3 a (h a (by simp)) b (h b (by simp)) c (h c (by simp))
  | [a, b, c, d], _, _, h => exact fin4 a (h a (by simp)) b (h b (by simp)) c (h c (by simp)) d (h d (by simp))
theorem ofB_pos (l : List P3) (n : Int) : 0 < (ofB l n).length ↔ n ∈ l.map (·.1) := by
  rw [List.length_pos_iff_exists_mem]
  simp only [ofB, List.mem_filter, decide_eq_true_eq, List.mem_map]
theorem houses_same {l : List P3} (h1 : 1 ≤ l.length) (h4 : l.length ≤ 4) (h : ∀ p ∈ l, inB p 3 = true) : housesB l = refHousesTo l 3 := by
  unfold housesB sortB refHousesTo
  rw [mergeSort_isortI, fin_all (l.map (·.1)) (by simpa using h1) (by simpa using h4) ?_]
  · refine List.filter_congr (fun n hn => ?_)
    have : n < 3 := by simp at hn; omega
    simp only [this, ofB_pos, true_and]
  · intro m hm
    obtain ⟨p, hp, rfl⟩ := List.mem_map.1 hm
    have := h p hp
    simp only [inB, decide_eq_true_eq] at this
    simp; omega

end Go.Proofs.Ytembpegakcooeaa
