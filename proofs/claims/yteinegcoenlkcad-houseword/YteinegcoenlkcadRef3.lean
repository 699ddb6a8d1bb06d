/- What the document's Fits and Do do, called at right parts and sums within bounds. -/
import Derived.Test.YteinegcoenlkcadPart4
import Derived.Test.YteinegcoenlkcadPure2
import Derived.WalkSmall
namespace Go.Proofs.Yteinegcoenlkcad
open Go.RowKit

theorem doB_two (s : S4) (l m : List P3) : doB (doB s l) m = doB s (l ++ m) := by simp [doB]
theorem doB_lt_eq (s : S4) (l : List P3) (k : Int) : doB (doB s (l.filter fun p => decide (p.2.1 < k))) (l.filter fun p => decide (p.2.1 = k)) = doB s (l.filter fun p => decide (p.2.1 < k + 1)) := by
  induction l with
  | nil => rfl
  | cons p t ih =>
    by_cases h1 : p.2.1 < k
    · have h2 : ¬ p.2.1 = k := by omega
      have h3 : p.2.1 < k + 1 := by omega
      rw [List.filter_cons_of_pos (p := fun p : P3 => decide (p.2.1 < k)) (by simpa using h1), List.filter_cons_of_neg (p := fun p : P3 => decide (p.2.1 = k)) (by simpa using h2), List.filter_cons_of_pos (p := fun p : P3 => decide (p.2.1 < k + 1)) (by simpa using h3), doB_cons, doB_do1, doB_cons, ih]
    · by_cases h2 : p.2.1 = k
      · have h3 : p.2.1 < k + 1 := by omega
        rw [List.filter_cons_of_neg (p := fun p : P3 => decide (p.2.1 < k)) (by simpa using h1), List.filter_cons_of_pos (p := fun p : P3 => decide (p.2.1 = k)) (by simpa using h2), List.filter_cons_of_pos (p := fun p : P3 => decide (p.2.1 < k + 1)) (by simpa using h3), doB_cons, doB_cons, ih]
      · have h3 : ¬ p.2.1 < k + 1 := by omega
        rw [List.filter_cons_of_neg (p := fun p : P3 => decide (p.2.1 < k)) (by simpa using h1), List.filter_cons_of_neg (p := fun p : P3 => decide (p.2.1 = k)) (by simpa using h2), List.filter_cons_of_neg (p := fun p : P3 => decide (p.2.1 < k + 1)) (by simpa using h3), ih]
theorem filter_lt0 {l : List P3} (h : ∀ p ∈ l, keyB p.2.1 = true) : (l.filter fun p => decide (p.2.1 < 0)) = [] := by
  rw [List.filter_eq_nil_iff]
  intro p hp
  have := h p hp
  simp only [keyB, decide_eq_true_eq] at this
  simp; omega
theorem filter_lt4 {l : List P3} (h : ∀ p ∈ l, keyB p.2.1 = true) : (l.filter fun p => decide (p.2.1 < 4)) = l := by
  rw [List.filter_eq_self]
  intro p hp
  have := h p hp
  simp only [keyB, decide_eq_true_eq] at this
  simp; omega
theorem small_filter {l : List P3} (h : Small l) (f : P3 → Bool) : Small (l.filter f) := fun p hp => h p (List.mem_filter.1 hp).1
theorem within_two {s : S4} {l m : List P3} (hw : Within 2199023255552 s) (hl : Small l) (hm : Small m) (h1 : l.length ≤ 4) (h2 : m.length ≤ 4) : Within (2199023255552 + 8388608) (doB (doB s l) m) :=
  within_mono (within_doB (within_doB hw hl) hm) (by omega)
theorem eq_snoc_yes (l : List P3) (p : P3) (k : Int) (h : p.2.1 = k) : ((l ++ [p]).filter fun p => decide (p.2.1 = k)) = (l.filter fun p => decide (p.2.1 = k)) ++ [p] := by simp [List.filter_append, h]
theorem eq_snoc_no (l : List P3) (p : P3) (k : Int) (h : ¬ p.2.1 = k) : ((l ++ [p]).filter fun p => decide (p.2.1 = k)) = (l.filter fun p => decide (p.2.1 = k)) := by simp [List.filter_append, h]

end Go.Proofs.Yteinegcoenlkcad
