/- Plain functions of locks: who is at what, with no word of the program. -/
import Derived.Test.YteinegcoenlkcacLogP
namespace Go.Proofs.Yteinegcoenlkcac
open Go.RowKit

/-- Has one of the parts that key? -/
def hasK (l : List P3) (k : Int) : Bool := l.any fun p => decide (p.2.1 = k)
/-- Is somebody at that key? -/
def atK (D : List D2) (k : Int) : Bool := D.any fun x => hasK x.2 k
/-- The first deed at that key, or -1. -/
def whoB : List D2 → Int → Int
  | [], _ => -1
  | x :: t, k => if hasK x.2 k = true then x.1 else whoB t k
def freeB (D : List D2) (l : List P3) : Bool := l.all fun p => !atK D p.2.1

theorem whoB_cons (x : D2) (t : List D2) (k : Int) : whoB (x :: t) k = if hasK x.2 k = true then x.1 else whoB t k := rfl
theorem hasK_snoc (l : List P3) (p : P3) (k : Int) : hasK (l ++ [p]) k = (hasK l k || decide (p.2.1 = k)) := by simp [hasK]
theorem atK_snoc (D : List D2) (x : D2) (k : Int) : atK (D ++ [x]) k = (atK D k || hasK x.2 k) := by simp [atK]
theorem whoB_none {D : List D2} {k : Int} (h : atK D k = false) : whoB D k = -1 := by
  induction D with
  | nil => rfl
  | cons x t ih =>
    simp only [atK, List.any_cons, Bool.or_eq_false_iff] at h
    unfold whoB
    rw [h.1, if_neg (by simp)]
    exact ih h.2
theorem whoB_mem {D : List D2} {k : Int} (h : atK D k = true) : ∃ x ∈ D, x.1 = whoB D k ∧ hasK x.2 k = true := by
  induction D with
  | nil => simp [atK] at h
  | cons x t ih =>
    unfold whoB
    by_cases hx : hasK x.2 k = true
    · rw [if_pos hx]; exact ⟨x, by simp, rfl, hx⟩
    · rw [if_neg hx]
      simp only [atK, List.any_cons, Bool.or_eq_true] at h
      rcases h with h | h
      · exact absurd h hx
      · obtain ⟨y, hy, e, hk⟩ := ih h
        exact ⟨y, by simp [hy], e, hk⟩
/-- The first that has the key, by its place. -/
theorem whoB_first {D : List D2} {k : Int} {i : Nat} (h : i < D.length) (hk : hasK D[i].2 k = true) (hlow : ∀ j (hj : j < D.length), j < i → hasK D[j].2 k = false) : whoB D k = D[i].1 := by
  induction D generalizing i with
  | nil => simp at h
  | cons x t ih =>
    unfold whoB
    cases i with
    | zero => rw [if_pos (by simpa using hk)]; rfl
    | succ i =>
      have h0 := hlow 0 (by simp) (by omega)
      simp only [List.getElem_cons_zero] at h0
      rw [h0, if_neg (by simp)]
      exact ih (by simpa using h) (by simpa using hk) (fun j hj hji => by
        have := hlow (j + 1) (by simp; omega) (by omega)
        simpa using this)
theorem whoB_neg {D : List D2} (hD : ∀ x ∈ D, 0 ≤ x.1) (k : Int) : decide (whoB D k < 0) = !atK D k := by
  cases h : atK D k
  · rw [whoB_none h]; rfl
  · obtain ⟨x, hx, e, _⟩ := whoB_mem h
    have := hD x hx
    rw [decide_eq_false (by omega)]; rfl
theorem freeB_snoc (D : List D2) (l : List P3) (p : P3) : freeB D (l ++ [p]) = (freeB D l && !atK D p.2.1) := by simp [freeB]
theorem whoB_drop (D : List D2) (d k : Int) (hd : 0 ≤ d) : whoB (dropD D d) k ≠ d ∧ (whoB D k = d ∨ whoB D k = whoB (dropD D d) k) := by
  induction D with
  | nil => exact ⟨by show (-1 : Int) ≠ d; omega, Or.inr rfl⟩
  | cons x t ih =>
    by_cases hx : x.1 = d
    · have e : dropD (x :: t) d = dropD t d := by simp [dropD, hx]
      rw [e]
      refine ⟨ih.1, ?_⟩
      rw [whoB_cons]
      by_cases hk : hasK x.2 k = true
      · rw [if_pos hk]; exact Or.inl hx
      · rw [if_neg hk]; exact ih.2
    · have e : dropD (x :: t) d = x :: dropD t d := by simp [dropD, hx]
      rw [e, whoB_cons, whoB_cons]
      by_cases hk : hasK x.2 k = true
      · rw [if_pos hk, if_pos hk]; exact ⟨hx, Or.inr rfl⟩
      · rw [if_neg hk, if_neg hk]; exact ih
theorem hstep_gone {h : H3} {k d : Int} {l : List P3} (hk : k = 2 ∨ k = 3) : (hstep h (k, d, l)).2.1 = dropD h.2.1 d := by
  unfold hstep
  rcases hk with rfl | rfl
  · rw [if_neg (fun h => absurd (show (2 : Int) = 1 from h) (by decide)), if_pos rfl]
    cases hh : hasD h.2.1 d
    · rw [if_neg (by simp)]; exact (dropD_none (fun x hx => by simp only [hasD, List.any_eq_false] at hh; simpa using hh x hx)).symm
    · rw [if_pos rfl]
  · rw [if_neg (fun h => absurd (show (3 : Int) = 1 from h) (by decide)), if_neg (fun h => absurd (show (3 : Int) = 2 from h) (by decide)), if_pos rfl]

/-- What LocksGo asks, of plain lists. -/
def goB (was now deed : Int) : Bool := !decide (now = deed) && (decide (was = deed) || decide (was = now)) || decide (deed < 0)
theorem goB_true (h : H3) {k d : Int} {l : List P3} (hk : k = 2 ∨ k = 3) (key : Int) : goB (whoB h.2.1 key) (whoB (hstep h (k, d, l)).2.1 key) d = true := by
  rw [hstep_gone hk]
  unfold goB
  by_cases hd : d < 0
  · rw [decide_eq_true hd, Bool.or_true]
  · obtain ⟨h1, h2⟩ := whoB_drop h.2.1 d key (by omega)
    rw [decide_eq_false h1]
    rcases h2 with h2 | h2
    · rw [decide_eq_true h2]; rfl
    · rw [decide_eq_true h2]; simp

end Go.Proofs.Yteinegcoenlkcac
