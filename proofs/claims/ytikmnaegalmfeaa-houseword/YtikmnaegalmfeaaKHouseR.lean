/- Plain facts of houses that hear: twice is once; who said yes keeps their word; how much parts turn. -/
import Derived.Test.YtikmnaegalmfeaaKHouseP
import Derived.Test.YtikmnaegalmfeaaKJ11
namespace Go.Proofs.Ytikmnaegalmfeaa
open Go.RowKit

theorem hasD_drop (D : List D2) (d : Int) : hasD (dropD D d) d = false := by
  simp only [hasD, dropD, List.any_eq_false, List.mem_filter, Bool.not_eq_true', decide_eq_false_iff_not, decide_eq_true_eq]
  exact fun x hx => hx.2
theorem hasD_drop_ne (D : List D2) {d d' : Int} (h : d' ≠ d) : hasD (dropD D d') d = hasD D d := by
  unfold hasD dropD
  rw [Bool.eq_iff_iff]
  simp only [List.any_eq_true, List.mem_filter, Bool.not_eq_true', decide_eq_false_iff_not, decide_eq_true_eq]
  constructor
  · rintro ⟨x, ⟨hx, _⟩, e⟩; exact ⟨x, hx, e⟩
  · rintro ⟨x, hx, e⟩; exact ⟨x, ⟨hx, fun h' => h (h'.symm.trans e)⟩, e⟩
theorem hasD_put (D : List D2) (d : Int) (l : List P3) (d' : Int) : hasD (D ++ [(d, l)]) d' = (hasD D d' || decide (d = d')) := by simp [hasD]
theorem hstep1 {h : H3} {d : Int} {l : List P3} (hn : hasD h.2.1 d = false) : hstep h (1, d, l) = (h.1, h.2.1 ++ [(d, l)], h.2.2) := by
  unfold hstep; rw [if_pos rfl, if_neg (by rw [hn]; simp)]
theorem hstep2 {h : H3} {d : Int} {l : List P3} (hn : hasD h.2.1 d = true) : hstep h (2, d, l) = (doB h.1 (firstP h.2.1 d), dropD h.2.1 d, h.2.2 ++ [d]) := by
  unfold hstep
  rw [if_neg (fun h => absurd (show (2 : Int) = 1 from h) (by decide)), if_pos rfl, if_pos hn]
theorem hstep3 (h : H3) (d : Int) (l : List P3) : hstep h (3, d, l) = (h.1, dropD h.2.1 d, h.2.2) := by
  unfold hstep
  rw [if_neg (fun h => absurd (show (3 : Int) = 1 from h) (by decide)), if_neg (fun h => absurd (show (3 : Int) = 2 from h) (by decide)), if_pos rfl]
theorem voteB_zero {h : H3} {d : Int} {l : List P3} (hv : voteB h d l = 0) : inI h.2.2 d = false ∧ (hasD h.2.1 d = true ∨ takenB h.2.1 l = false ∧ fitsB h.1 l = 0) := by
  unfold voteB at hv
  split at hv
  · cases hv
  · rename_i h1
    refine ⟨by simpa using h1, ?_⟩
    split at hv
    · rename_i h2; exact Or.inl h2
    · split at hv
      · cases hv
      · rename_i h3; exact Or.inr ⟨by simpa using h3, hv⟩

/-- What is noted, by kinds. -/
theorem hearR_cases (h : H3) (k d : Int) (l : List P3) : hearR h k d l = none ∨ (k = 1 ∧ voteB h d l = 0 ∧ hasD h.2.1 d = false ∧ hearR h k d l = some (1, d, l)) ∨ (k = 4 ∧ hasD h.2.1 d = true ∧ hearR h k d l = some (2, d, [])) ∨ (k = 5 ∧ hasD h.2.1 d = true ∧ hearR h k d l = some (3, d, [])) := by
  by_cases k1 : k = 1
  · subst k1
    by_cases hc : voteB h d l = 0 ∧ hasD h.2.1 d = false
    · exact Or.inr (Or.inl ⟨rfl, hc.1, hc.2, by unfold hearR; rw [if_pos rfl, if_pos hc]⟩)
    · exact Or.inl (by unfold hearR; rw [if_pos rfl, if_neg hc])
  · by_cases k4 : k = 4
    · subst k4
      by_cases hc : hasD h.2.1 d = true
      · exact Or.inr (Or.inr (Or.inl ⟨rfl, hc, by unfold hearR; rw [if_neg k1, if_pos rfl, if_pos hc]⟩))
      · exact Or.inl (by unfold hearR; rw [if_neg k1, if_pos rfl, if_neg hc])
    · by_cases k5 : k = 5
      · subst k5
        by_cases hc : hasD h.2.1 d = true
        · exact Or.inr (Or.inr (Or.inr ⟨rfl, hc, by unfold hearR; rw [if_neg k1, if_neg k4, if_pos rfl, if_pos hc]⟩))
        · exact Or.inl (by unfold hearR; rw [if_neg k1, if_neg k4, if_pos rfl, if_neg hc])
      · exact Or.inl (by unfold hearR; rw [if_neg k1, if_neg k4, if_neg k5])
theorem hearR1_ready {h : H3} {d : Int} {l : List P3} (hn : hasD h.2.1 d = true) : hearR h 1 d l = none := by
  unfold hearR; rw [if_pos rfl, if_neg (by rw [hn]; simp)]
theorem hearR4_not {h : H3} {d : Int} {l : List P3} (hn : hasD h.2.1 d = false) : hearR h 4 d l = none := by
  unfold hearR; rw [if_neg (by decide), if_pos rfl, if_neg (by rw [hn]; simp)]
theorem hearR5_not {h : H3} {d : Int} {l : List P3} (hn : hasD h.2.1 d = false) : hearR h 5 d l = none := by
  unfold hearR; rw [if_neg (by decide), if_neg (by decide), if_pos rfl, if_neg (by rw [hn]; simp)]

/-- A deed is ready, or done. -/
def Word (L : List R3) (d : Int) : Prop := hasD (houseB L).2.1 d = true ∨ inI (houseB L).2.2 d = true
theorem word_yes {L : List R3} {d : Int} {l : List P3} (h : hearS L 1 d l = some 2) : Word (hearL L 1 d l) d := by
  have hv : voteB (houseB L) d l = 0 := by
    unfold hearS at h
    rw [if_pos rfl] at h
    split at h
    · cases h
    · split at h
      · assumption
      · cases h
  rcases hearR_cases (houseB L) 1 d l with h' | ⟨_, _, hn, h'⟩ | ⟨h0, _⟩ | ⟨h0, _⟩
  · rw [hearL_none h']
    left
    by_cases hn : hasD (houseB L).2.1 d = true
    · exact hn
    · unfold hearR at h'
      rw [if_pos rfl, if_pos ⟨hv, by simpa using hn⟩] at h'
      cases h'
  · rw [hearL_some h']
    left
    rw [houseB_snoc, hstep1 hn, hasD_put]
    simp
  · exact absurd h0 (by decide)
  · exact absurd h0 (by decide)
theorem word_keep {L : List R3} {d k d' : Int} {l : List P3} (h : Word L d) (hne : ¬ (d' = d ∧ k = 5)) : Word (hearL L k d' l) d := by
  rcases hearR_cases (houseB L) k d' l with h' | ⟨rfl, _, hn, h'⟩ | ⟨rfl, hn, h'⟩ | ⟨rfl, hn, h'⟩
  · rw [hearL_none h']; exact h
  · rw [hearL_some h']
    unfold Word
    rw [houseB_snoc, hstep1 hn]
    rcases h with h | h
    · left; rw [hasD_put, h]; rfl
    · right; exact h
  · rw [hearL_some h']
    unfold Word
    rw [houseB_snoc, hstep2 hn]
    by_cases e : d' = d
    · right; rw [inI_snoc]; simp [e]
    · rcases h with h | h
      · left; rw [hasD_drop_ne _ e]; exact h
      · right; rw [inI_snoc, h]; rfl
  · rw [hearL_some h']
    unfold Word
    rw [houseB_snoc, hstep3]
    have e : d' ≠ d := fun e => hne ⟨e, rfl⟩
    rcases h with h | h
    · left; rw [hasD_drop_ne _ e]; exact h
    · right; exact h
theorem word_done {L : List R3} {d : Int} {l : List P3} (h : Word L d) : inI (houseB (hearL L 4 d l)).2.2 d = true ∧ hasD (houseB (hearL L 4 d l)).2.1 d = false := by
  rcases hearR_cases (houseB L) 4 d l with h' | ⟨h0, _⟩ | ⟨_, hn, h'⟩ | ⟨h0, _⟩
  · rw [hearL_none h']
    have hn : hasD (houseB L).2.1 d = false := by
      cases hc : hasD (houseB L).2.1 d
      · rfl
      · unfold hearR at h'
        rw [if_neg (by decide), if_pos rfl, if_pos hc] at h'
        cases h'
    refine ⟨?_, hn⟩
    rcases h with h | h
    · rw [hn] at h; cases h
    · exact h
  · exact absurd h0 (by decide)
  · rw [hearL_some h', houseB_snoc, hstep2 hn]
    exact ⟨by rw [inI_snoc]; simp, hasD_drop _ _⟩
  · exact absurd h0 (by decide)
theorem word_says {L : List R3} {d : Int} {l : List P3} (h : Word L d) (me : Int) : hearM L me 4 d l = [(6, d, me, [])] := by
  unfold hearM hearS
  rw [if_neg (by decide), if_pos rfl, if_pos (word_done h).1]
  rfl
theorem word_who {D : List D2} {d key : Int} (h : hasD D d = false) (hd : 0 ≤ d) : whoB D key ≠ d := by
  cases ha : atK D key
  · rw [whoB_none ha]; omega
  · obtain ⟨x, hx, e, _⟩ := whoB_mem ha
    rw [← e]
    exact hasD_false h x hx

/-- How much parts turn at a key, and deeds. -/
def absK : List P3 → Int → Nat
  | [], _ => 0
  | p :: t, k => (if p.2.1 = k then p.2.2.natAbs else 0) + absK t k
def potD : List D2 → Int → Nat
  | [], _ => 0
  | x :: t, k => absK x.2 k + potD t k
theorem absK_le {k : Int} : ∀ {l : List P3}, Small l → absK l k ≤ l.length * 1048576
  | [], _ => Nat.le_refl _
  | p :: t, h => by
    have h1 := h p (by simp)
    have h2 := absK_le (k := k) (l := t) (fun q hq => h q (by simp [hq]))
    have h3 : (if p.2.1 = k then p.2.2.natAbs else 0) ≤ 1048576 := by split <;> omega
    show (if p.2.1 = k then p.2.2.natAbs else 0) + absK t k ≤ (t.length + 1) * 1048576
    omega
theorem absK_none {k : Int} : ∀ {l : List P3}, (∀ p ∈ l, p.2.1 ≠ k) → absK l k = 0
  | [], _ => rfl
  | p :: t, h => by
    show (if p.2.1 = k then p.2.2.natAbs else 0) + absK t k = 0
    rw [if_neg (h p (by simp)), absK_none (fun q hq => h q (by simp [hq]))]
theorem absK_one : ∀ {l : List P3}, l.Pairwise (fun p q => p.2.1 ≠ q.2.1) → ∀ p ∈ l, absK l p.2.1 = p.2.2.natAbs
  | [], _, p, hp => by cases hp
  | x :: t, h, p, hp => by
    rw [List.pairwise_cons] at h
    show (if x.2.1 = p.2.1 then x.2.2.natAbs else 0) + absK t p.2.1 = p.2.2.natAbs
    rcases List.mem_cons.1 hp with e | hp
    · subst e
      rw [if_pos rfl, absK_none (fun q hq e => h.1 q hq e.symm)]
      rfl
    · rw [if_neg (h.1 p hp), absK_one h.2 p hp]
      omega
theorem sget_doB_abs {k : Int} (hk : keyB k = true) (s : S4) : ∀ (l : List P3), (sget (doB s l) k).natAbs ≤ (sget s k).natAbs + absK l k
  | [] => Nat.le_refl _
  | p :: t => by
    have ih := sget_doB_abs hk s t
    rw [doB_cons]
    show _ ≤ _ + ((if p.2.1 = k then p.2.2.natAbs else 0) + absK t k)
    unfold do1
    split
    · rename_i hp
      by_cases e : p.2.1 = k
      · rw [if_pos e, e, sget_sadd_same _ hk]
        omega
      · rw [if_neg e, sget_sadd_other _ hk hp (fun h => e h.symm)]
        omega
    · omega
theorem potD_put (D : List D2) (x : D2) (k : Int) : potD (D ++ [x]) k = potD D k + absK x.2 k := by
  induction D with
  | nil => show absK x.2 k + 0 = 0 + absK x.2 k; omega
  | cons y t ih =>
    show absK y.2 k + potD (t ++ [x]) k = absK y.2 k + potD t k + absK x.2 k
    rw [ih]; omega
theorem potD_zero {k : Int} : ∀ {D : List D2}, (∀ x ∈ D, ∀ p ∈ x.2, p.2.1 ≠ k) → potD D k = 0
  | [], _ => rfl
  | y :: t, h => by
    show absK y.2 k + potD t k = 0
    rw [absK_none (h y (by simp)), potD_zero (fun x hx => h x (by simp [hx]))]
theorem potD_le {k : Int} : ∀ {D : List D2}, (∀ x ∈ D, OkP x.2) → potD D k ≤ D.length * 4194304
  | [], _ => Nat.le_refl _
  | y :: t, h => by
    obtain ⟨h1, h2, _⟩ := h y (by simp)
    have h3 := absK_le (k := k) h2
    have h4 := potD_le (k := k) (D := t) (fun x hx => h x (by simp [hx]))
    show absK y.2 k + potD t k ≤ (t.length + 1) * 4194304
    omega
theorem potD_drop (d k : Int) : ∀ (D : List D2), potD (dropD D d) k ≤ potD D k ∧ (hasD D d = true → potD (dropD D d) k + absK (firstP D d) k ≤ potD D k)
  | [] => ⟨Nat.le_refl _, fun h => by cases h⟩
  | y :: t => by
    obtain ⟨h1, h2⟩ := potD_drop d k t
    by_cases e : y.1 = d
    · have e1 : dropD (y :: t) d = dropD t d := by simp [dropD, e]
      have e2 : firstP (y :: t) d = y.2 := by simp [firstP, e]
      rw [e1, e2]
      show _ ≤ absK y.2 k + potD t k ∧ (_ → _ ≤ absK y.2 k + potD t k)
      exact ⟨by omega, fun _ => by omega⟩
    · have e1 : dropD (y :: t) d = y :: dropD t d := by simp [dropD, e]
      have e2 : firstP (y :: t) d = firstP t d := by simp [firstP, e]
      have e3 : hasD (y :: t) d = hasD t d := by simp [hasD, e]
      rw [e1, e2, e3]
      show absK y.2 k + potD (dropD t d) k ≤ absK y.2 k + potD t k ∧ (_ → absK y.2 k + potD (dropD t d) k + _ ≤ absK y.2 k + potD t k)
      exact ⟨by omega, fun h => by have := h2 h; omega⟩

/-- Sums that stay within bounds, whatever is heard. -/
structure Bound (h : H3) : Prop where
  pos : ∀ x ∈ h.2.1, 0 ≤ x.1
  ok : ∀ x ∈ h.2.1, OkP x.2
  pot : ∀ k, keyB k = true → (sget h.1 k).natAbs + potD h.2.1 k ≤ 1000000000
theorem Bound.within {h : H3} (H : Bound h) : Within 2199023255552 h.1 := by
  have h0 := H.pot 0 (by decide)
  have h1 := H.pot 1 (by decide)
  have h2 := H.pot 2 (by decide)
  have h3 := H.pot 3 (by decide)
  have e0 : sget h.1 0 = h.1.1 := rfl
  have e1 : sget h.1 1 = h.1.2.1 := rfl
  have e2 : sget h.1 2 = h.1.2.2.1 := rfl
  have e3 : sget h.1 3 = h.1.2.2.2 := rfl
  rw [e0] at h0
  rw [e1] at h1
  rw [e2] at h2
  rw [e3] at h3
  exact ⟨by omega, by omega, by omega, by omega⟩
theorem Bound.ready {h : H3} {d c : Int} {l : List P3} (H : Bound h) (hd : 0 ≤ d) (hw : wrong l 3 = 0) (hh : ∀ p ∈ l, p.1 = c) (hv : voteB h d l = 0) (hn : hasD h.2.1 d = false) : Bound (hstep h (1, d, l)) := by
  rw [hstep1 hn]
  obtain ⟨h1, h4, hin, hpw⟩ := wrong_ok hw
  have hok := okP_wrong hw
  have hkeys := keys_at hin hh hpw
  obtain ⟨_, hv⟩ := voteB_zero hv
  rcases hv with hv | ⟨ht, hf⟩
  · rw [hn] at hv; cases hv
  have hfree := takenB_free H.pos ht
  have hfits := fitsB_zero.1 hf
  refine ⟨?_, ?_, ?_⟩
  · intro x hx
    rcases List.mem_append.1 hx with hx | hx
    · exact H.pos x hx
    · rw [List.mem_singleton.1 hx]; exact hd
  · intro x hx
    rcases List.mem_append.1 hx with hx | hx
    · exact H.ok x hx
    · rw [List.mem_singleton.1 hx]; exact hok
  · intro k hk
    show (sget h.1 k).natAbs + potD (h.2.1 ++ [(d, l)]) k ≤ _
    rw [potD_put]
    show (sget h.1 k).natAbs + (potD h.2.1 k + absK l k) ≤ _
    by_cases hx : ∃ p ∈ l, p.2.1 = k
    · obtain ⟨p, hp, rfl⟩ := hx
      have f := hfits p hp hk
      have s := hok.2.1 p hp
      rw [potD_zero (fun x hx q hq => hfree p hp x hx q hq), absK_one hkeys.2 p hp]
      omega
    · rw [absK_none (fun p hp e => hx ⟨p, hp, e⟩)]
      have := H.pot k hk
      omega
theorem Bound.done {h : H3} {d : Int} {l : List P3} (H : Bound h) (hn : hasD h.2.1 d = true) : Bound (hstep h (2, d, l)) := by
  rw [hstep2 hn]
  refine ⟨fun x hx => H.pos x (mem_dropD hx).1, fun x hx => H.ok x (mem_dropD hx).1, fun k hk => ?_⟩
  have h1 := sget_doB_abs hk h.1 (firstP h.2.1 d)
  have h2 := (potD_drop d k h.2.1).2 hn
  have h3 := H.pot k hk
  show (sget (doB h.1 (firstP h.2.1 d)) k).natAbs + potD (dropD h.2.1 d) k ≤ _
  omega
theorem Bound.drop {h : H3} {d : Int} {l : List P3} (H : Bound h) : Bound (hstep h (3, d, l)) := by
  rw [hstep3]
  refine ⟨fun x hx => H.pos x (mem_dropD hx).1, fun x hx => H.ok x (mem_dropD hx).1, fun k hk => ?_⟩
  have h2 := (potD_drop d k h.2.1).1
  have h3 := H.pot k hk
  show (sget h.1 k).natAbs + potD (dropD h.2.1 d) k ≤ _
  omega

end Go.Proofs.Ytikmnaegalmfeaa
