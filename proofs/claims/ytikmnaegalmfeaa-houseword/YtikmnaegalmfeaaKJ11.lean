/- Several texts in one: More on plain functions of logs: what is done stays done; ready deeds are the log's; the document's way of making a house comes to the same; What the document's Fits and Do do, called at right parts and sums within bounds. -/
import Derived.Test.YtikmnaegalmfeaaKLog0
import Derived.Test.YtikmnaegalmfeaaKPart4
import Derived.Test.YtikmnaegalmfeaaKPure2
import Derived.WalkSmall
namespace Go.Proofs.Ytikmnaegalmfeaa
open Go.RowKit
theorem hstep_deeds {h : H3} {r : R3} {x : D2} (hx : x ∈ (hstep h r).2.1) : x ∈ h.2.1 ∨ x = (r.2.1, r.2.2) := by
  unfold hstep at hx
  split at hx
  · split at hx
    · exact Or.inl hx
    · rcases List.mem_append.1 hx with hx | hx
      · exact Or.inl hx
      · exact Or.inr (List.mem_singleton.1 hx)
  · split at hx
    · split at hx
      · exact Or.inl (mem_dropD hx).1
      · exact Or.inl hx
    · split at hx
      · exact Or.inl (mem_dropD hx).1
      · exact Or.inl hx
theorem hfold_deeds {x : D2} : ∀ (M : List R3) (h : H3), x ∈ (M.foldl hstep h).2.1 → x ∈ h.2.1 ∨ ∃ r ∈ M, x = (r.2.1, r.2.2)
  | [], h, hx => Or.inl hx
  | r :: M, h, hx => by
    rw [List.foldl_cons] at hx
    rcases hfold_deeds M _ hx with hx | ⟨q, hq, e⟩
    · rcases hstep_deeds hx with hx | e
      · exact Or.inl hx
      · exact Or.inr ⟨r, by simp, e⟩
    · exact Or.inr ⟨q, by simp [hq], e⟩
theorem houseB_deeds {L : List R3} {x : D2} (hx : x ∈ (houseB L).2.1) : ∃ r ∈ L, x = (r.2.1, r.2.2) := by
  rcases hfold_deeds L _ hx with hx | h
  · cases hx
  · exact h

/-- A round of the document's inner loop: what is left, whether the deed was met, sums, what is done. -/
abbrev I4 := List D2 × Bool × S4 × List Int
def istep (k d : Int) (i : I4) (x : D2) : I4 :=
  if ¬ x.1 = d ∨ i.2.1 = true then (i.1 ++ [x], i.2)
  else if k = 2 then (i.1, true, doB i.2.2.1 x.2, i.2.2.2 ++ [d])
  else if k = 3 then (i.1, true, i.2.2.1, i.2.2.2)
  else (i.1 ++ [x], true, i.2.2)
def iall (k d : Int) (s : S4) (dn : List Int) (D : List D2) : I4 := D.foldl (istep k d) ([], false, s, dn)
theorem iall_snoc (k d : Int) (s : S4) (dn : List Int) (D : List D2) (x : D2) : iall k d s dn (D ++ [x]) = istep k d (iall k d s dn D) x := by simp [iall]
theorem iall_take {k d : Int} {s : S4} {dn : List Int} {D : List D2} {j : Nat} (h : j < D.length) : iall k d s dn (D.take (j + 1)) = istep k d (iall k d s dn (D.take j)) D[j] := by rw [take_snoc h, iall_snoc]
theorem ifold_met (k d : Int) : ∀ (D : List D2) (i : I4), (i.2.1 = true ∨ ∀ x ∈ D, x.1 ≠ d) → D.foldl (istep k d) i = (i.1 ++ D, i.2)
  | [], i, _ => by simp
  | x :: D, i, h => by
    have e : istep k d i x = (i.1 ++ [x], i.2) := by
      unfold istep
      rw [if_pos]
      rcases h with h | h
      · exact Or.inr h
      · exact Or.inl (h x (by simp))
    rw [List.foldl_cons, e, ifold_met k d D _ (by
      rcases h with h | h
      · exact Or.inl h
      · exact Or.inr fun y hy => h y (by simp [hy]))]
    simp
theorem ifold_false (k d : Int) : ∀ (D : List D2) (i : I4), (D.foldl (istep k d) i).2.1 = false → (D.foldl (istep k d) i).2.2 = i.2.2
  | [], _, _ => rfl
  | x :: D, i, h => by
    rw [List.foldl_cons] at h ⊢
    rw [ifold_false k d D _ h]
    by_cases hm : (istep k d i x).2.1 = true
    · exfalso
      rw [ifold_met k d D _ (Or.inl hm), hm] at h
      cases h
    · unfold istep at hm ⊢
      split
      · rfl
      · rename_i hc
        rw [if_neg hc] at hm
        split
        · rename_i h2; rw [if_pos h2] at hm; exact absurd rfl hm
        · rename_i h2
          rw [if_neg h2] at hm
          split
          · rfl
          · rfl
theorem iall_false {k d : Int} {s : S4} {dn : List Int} {D : List D2} (h : (iall k d s dn D).2.1 = false) : (iall k d s dn D).2.2 = (s, dn) := ifold_false k d D _ h
theorem ifold_sub (k d : Int) : ∀ (D : List D2) (i : I4), (D.foldl (istep k d) i).1.length ≤ i.1.length + D.length ∧ (D.foldl (istep k d) i).2.2.2.length ≤ i.2.2.2.length + D.length
  | [], _ => ⟨Nat.le_refl _, Nat.le_refl _⟩
  | x :: D, i => by
    obtain ⟨h1, h2⟩ := ifold_sub k d D (istep k d i x)
    have hs : (istep k d i x).1.length ≤ i.1.length + 1 ∧ (istep k d i x).2.2.2.length ≤ i.2.2.2.length + 1 := by
      unfold istep
      split
      · simp
      · split
        · simp
        · split <;> simp
    rw [List.foldl_cons, List.length_cons]
    omega
theorem hasD_split {d : Int} : ∀ {D : List D2}, hasD D d = true → ∃ A x B, D = A ++ x :: B ∧ x.1 = d ∧ (∀ y ∈ A, y.1 ≠ d) ∧ firstP D d = x.2
  | [], h => by cases h
  | x :: D, h => by
    by_cases hx : x.1 = d
    · exact ⟨[], x, D, rfl, hx, (fun y hy => by cases hy), by simp [firstP, hx]⟩
    · have h' : hasD D d = true := by simpa [hasD, hx] using h
      obtain ⟨A, y, B, rfl, hy, hA, hP⟩ := hasD_split h'
      refine ⟨x :: A, y, B, rfl, hy, ?_, ?_⟩
      · intro z hz
        rcases List.mem_cons.1 hz with rfl | hz
        · exact hx
        · exact hA z hz
      · rw [← hP]
        simp [firstP, hx]
theorem hasD_false {D : List D2} {d : Int} (h : hasD D d = false) : ∀ x ∈ D, x.1 ≠ d := by
  simp only [hasD, List.any_eq_false] at h
  exact fun x hx e => h x hx (decide_eq_true e)
theorem dropD_none {D : List D2} {d : Int} (h : ∀ x ∈ D, x.1 ≠ d) : dropD D d = D := by
  unfold dropD
  rw [List.filter_eq_self]
  exact fun x hx => by simp [h x hx]
/-- The document's record: its inner loop, and what is made ready behind it. -/
def rstep (h : H3) (r : R3) : H3 :=
  let i := iall r.1 r.2.1 h.1 h.2.2 h.2.1
  (i.2.2.1, if r.1 = 1 ∧ i.2.1 = false then i.1 ++ [(r.2.1, r.2.2)] else i.1, i.2.2.2)
theorem rstep_hstep {h : H3} (r : R3) (nd : (h.2.1.map (·.1)).Nodup) : rstep h r = hstep h r := by
  obtain ⟨s, D, dn⟩ := h
  obtain ⟨k, d, l⟩ := r
  simp only at nd
  unfold rstep hstep
  simp only
  cases hh : hasD D d with
  | false =>
    have hn := hasD_false hh
    have e : iall k d s dn D = (D, false, s, dn) := by
      unfold iall
      rw [ifold_met k d D _ (Or.inr hn)]
      rfl
    rw [e, dropD_none hn]
    by_cases k1 : k = 1
    · simp [k1]
    · by_cases k2 : k = 2
      · simp [k2]
      · by_cases k3 : k = 3
        · simp [k3]
        · simp [k1, k2, k3]
  | true =>
    obtain ⟨A, x, B, rfl, hx, hA, hP⟩ := hasD_split hh
    have hB : ∀ y ∈ B, y.1 ≠ d := by
      intro y hy e
      rw [List.map_append, List.map_cons, List.nodup_append] at nd
      have := nd.2.1
      rw [List.nodup_cons] at this
      exact this.1 (List.mem_map.2 ⟨y, hy, by rw [e, hx]⟩)
    have hdrop : dropD (A ++ x :: B) d = A ++ B := by
      have e1 := dropD_none hA
      have e2 := dropD_none hB
      unfold dropD at *
      rw [List.filter_append, e1, List.filter_cons_of_neg (by simp [hx]), e2]
    have e0 : iall k d s dn (A ++ x :: B) = B.foldl (istep k d) (istep k d (A, false, s, dn) x) := by
      unfold iall
      rw [List.foldl_append, ifold_met k d A _ (Or.inr hA)]
      rfl
    rw [hP, hdrop, e0]
    by_cases k2 : k = 2
    · subst k2
      have e1 : istep 2 d (A, false, s, dn) x = (A, true, doB s x.2, dn ++ [d]) := by simp [istep, hx]
      rw [e1, ifold_met 2 d B _ (Or.inl rfl)]
      simp
    · by_cases k3 : k = 3
      · subst k3
        have e1 : istep 3 d (A, false, s, dn) x = (A, true, s, dn) := by simp [istep, hx]
        rw [e1, ifold_met 3 d B _ (Or.inl rfl)]
        simp
      · have e1 : istep k d (A, false, s, dn) x = (A ++ [x], true, s, dn) := by simp [istep, hx, k2, k3]
        rw [e1, ifold_met k d B _ (Or.inl rfl)]
        simp [k2, k3]

end Go.Proofs.Ytikmnaegalmfeaa

namespace Go.Proofs.Ytikmnaegalmfeaa
open Go.RowKit
theorem doB_lt_eq (s : S4) (l : List P3) (k : Int) : doB (doB s (l.filter fun p => decide (p.2.1 < k))) (l.filter fun p => decide (p.2.1 = k)) = doB s (l.filter fun p => decide (p.2.1 < k + 1)) := by
  induction l with
  | nil => rfl
  | cons p t ih =>
    by_cases h1 : p.2.1 < k
    · have h2 : ¬ p.2.1 = k := by omega
      have h3 : p.2.1 < k + 1 := by omega
      rw [List.filter_cons_of_pos (p := fun p : P3 => decide (p.2.1 < k)) (by simpa using h1), List.filter_cons_of_neg (p := fun p : P3 => decide (p.2.1 = k)) (by simpa using h2), List.filter_cons_of_pos (p := fun p : P3 => decide (p.2.1 < k + 1)) (by simpa using h3), doB_cons, doB_do1, doB_cons, ih]
    · by_cases h2 : p.2.1 = k
      · have h3 : p.2.1 < k + 1 := by omega
        rw [List.filter_cons_of_neg (p := fun p : P3 => decide (p.2.1 < k)) (by simpa using h1), List.filter_cons_of_pos (p := fun p : P3 => decide (p.2.1 = k)) (by simpa using h2), List.filter_cons_of_pos (p := fun p : P3 => decide (p.2.1 < k + 1)) (by simpa using h3), doB_cons, doB_cons, ih]
      · have h3 : ¬ p.2.1 < k + 1 := by omega
        rw [List.filter_cons_of_neg (p := fun p : P3 => decide (p.2.1 < k)) (by simpa using h1), List.filter_cons_of_neg (p := fun p : P3 => decide (p.2.1 = k)) (by simpa using h2), List.filter_cons_of_neg (p := fun p : P3 => decide (p.2.1 < k + 1)) (by simpa using h3), ih]
theorem filter_lt0 {l : List P3} (h : ∀ p ∈ l, keyB p.2.1 = true) : (l.filter fun p => decide (p.2.1 < 0)) = [] := by
  rw [List.filter_eq_nil_iff]
  intro p hp
  have := h p hp
  simp only [keyB, decide_eq_true_eq] at this
  simp; omega
theorem filter_lt4 {l : List P3} (h : ∀ p ∈ l, keyB p.2.1 = true) : (l.filter fun p => decide (p.2.1 < 4)) = l := by
  rw [List.filter_eq_self]
  intro p hp
  have := h p hp
  simp only [keyB, decide_eq_true_eq] at this
  simp; omega
theorem small_filter {l : List P3} (h : Small l) (f : P3 → Bool) : Small (l.filter f) := fun p hp => h p (List.mem_filter.1 hp).1
theorem within_two {s : S4} {l m : List P3} (hw : Within 2199023255552 s) (hl : Small l) (hm : Small m) (h1 : l.length ≤ 4) (h2 : m.length ≤ 4) : Within (2199023255552 + 8388608) (doB (doB s l) m) :=
  within_mono (within_doB (within_doB hw hl) hm) (by omega)
theorem eq_snoc_yes (l : List P3) (p : P3) (k : Int) (h : p.2.1 = k) : ((l ++ [p]).filter fun p => decide (p.2.1 = k)) = (l.filter fun p => decide (p.2.1 = k)) ++ [p] := by simp [List.filter_append, h]
theorem eq_snoc_no (l : List P3) (p : P3) (k : Int) (h : ¬ p.2.1 = k) : ((l ++ [p]).filter fun p => decide (p.2.1 = k)) = (l.filter fun p => decide (p.2.1 = k)) := by simp [List.filter_append, h]

end Go.Proofs.Ytikmnaegalmfeaa
