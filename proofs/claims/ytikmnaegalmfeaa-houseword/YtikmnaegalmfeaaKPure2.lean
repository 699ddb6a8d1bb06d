/- Plain facts over parts and sums: what is done can be done back, and in whatever order. -/
import Derived.Test.YtikmnaegalmfeaaKPure
namespace Go.Proofs.Ytikmnaegalmfeaa
open Go.RowKit
theorem sadd_comm (s : S4) (a b m n : Int) : sadd (sadd s a m) b n = sadd (sadd s b n) a m := by
  obtain ⟨s0, s1, s2, s3⟩ := s
  unfold sadd
  repeat' split
  all_goals first | rfl | (exfalso; omega) | (refine Prod.ext ?_ (Prod.ext ?_ (Prod.ext ?_ ?_)) <;> (try simp only) <;> omega)
theorem do1_comm (s : S4) (p q : P3) : do1 (do1 s p) q = do1 (do1 s q) p := by
  unfold do1
  split <;> split <;> first | rfl | exact sadd_comm _ _ _ _ _
theorem doB_do1 (s : S4) (p : P3) (l : List P3) : doB (do1 s p) l = do1 (doB s l) p := by
  induction l generalizing s with
  | nil => rfl
  | cons q t ih => simp only [doB, List.foldl_cons] at *; rw [do1_comm, ih]
theorem doB_cons (s : S4) (p : P3) (l : List P3) : doB s (p :: l) = do1 (doB s l) p := by rw [← doB_do1]; rfl
theorem wrongFrom_ok {H : Int} : ∀ {l seen : List P3}, wrongFrom H seen l = 0 → (∀ p ∈ l, inB p H = true) ∧ (∀ p ∈ l, hasB p seen = false) ∧ l.Pairwise (fun p q => sameB p q = false)
  | [], _, _ => by simp
  | p :: t, seen, h => by
    simp only [wrongFrom] at h
    split at h
    · rename_i hin
      split at h
      · cases h
      · rename_i hh
        obtain ⟨h1, h2, h3⟩ := wrongFrom_ok h
        have h2' : ∀ q ∈ t, hasB q seen = false ∧ sameB p q = false := fun q hq => by
          have := h2 q hq
          rw [hasB_snoc, Bool.or_eq_false_iff] at this
          exact this
        refine ⟨fun q hq => ?_, fun q hq => ?_, List.Pairwise.cons (fun q hq => (h2' q hq).2) h3⟩
        · rcases List.mem_cons.1 hq with rfl | hq
          · exact hin
          · exact h1 q hq
        · rcases List.mem_cons.1 hq with rfl | hq
          · simpa using hh
          · exact (h2' q hq).1
    · cases h
theorem wrong_ok {l : List P3} {H : Int} (h : wrong l H = 0) : 1 ≤ l.length ∧ l.length ≤ 4 ∧ (∀ p ∈ l, inB p H = true) ∧ l.Pairwise (fun p q => sameB p q = false) := by
  unfold wrong at h
  split at h
  · cases h
  · obtain ⟨h1, _, h3⟩ := wrongFrom_ok h
    exact ⟨by omega, by omega, h1, h3⟩
theorem small_of {l : List P3} {H : Int} (h : ∀ p ∈ l, inB p H = true) : Small l := fun p hp => by
  have := h p hp
  simp only [inB, decide_eq_true_eq] at this
  omega
theorem keyB_iff {k : Int} : keyB k = true ↔ k = 0 ∨ k = 1 ∨ k = 2 ∨ k = 3 := by simp only [keyB, decide_eq_true_eq]; omega
theorem sget_sadd_same (s : S4) {k : Int} (h : keyB k = true) (n : Int) : sget (sadd s k n) k = sget s k + n := by
  rcases keyB_iff.1 h with rfl | rfl | rfl | rfl <;> simp [sget, sadd]
theorem sget_sadd_other (s : S4) {j k : Int} (hj : keyB j = true) (hk : keyB k = true) (h : j ≠ k) (n : Int) : sget (sadd s k n) j = sget s j := by
  rcases keyB_iff.1 hj with rfl | rfl | rfl | rfl <;> rcases keyB_iff.1 hk with rfl | rfl | rfl | rfl <;> first | (exact absurd rfl h) | simp [sget, sadd]
theorem sget_doB_none {s : S4} {l : List P3} {k : Int} (hk : keyB k = true) (hl : ∀ p ∈ l, p.2.1 ≠ k) : sget (doB s l) k = sget s k := by
  induction l with
  | nil => rfl
  | cons p t ih =>
    rw [doB_cons]
    have h1 := ih (fun q hq => hl q (by simp [hq]))
    unfold do1
    split
    · rename_i hp; rw [sget_sadd_other _ hk hp (Ne.symm (hl p (by simp)))]; exact h1
    · exact h1
theorem sget_doB_mem {s : S4} : ∀ {l : List P3}, l.Pairwise (fun p q => p.2.1 ≠ q.2.1) → ∀ p ∈ l, keyB p.2.1 = true → sget (doB s l) p.2.1 = sget s p.2.1 + p.2.2
  | q :: t, hpw, p, hp, hk => by
    rw [doB_cons]
    cases hpw with
    | cons hq ht =>
      rcases List.mem_cons.1 hp with rfl | hp
      · unfold do1
        rw [if_pos hk, sget_sadd_same _ hk, sget_doB_none hk (fun r hr => (hq r hr).symm)]
      · have ih := sget_doB_mem (s := s) ht p hp hk
        unfold do1
        split
        · rename_i hqk; rw [sget_sadd_other _ hk hqk (hq p hp).symm]; exact ih
        · exact ih
theorem rightS_iff {s : S4} : rightS s = true ↔ ∀ k, keyB k = true → 0 ≤ sget s k ∧ sget s k ≤ 1048576 := by
  obtain ⟨s0, s1, s2, s3⟩ := s
  simp only [rightS, decide_eq_true_eq]
  constructor
  · rintro ⟨h0, h1, h2, h3⟩ k hk
    rcases keyB_iff.1 hk with rfl | rfl | rfl | rfl <;> simp [sget] <;> omega
  · intro h
    have h0 := h 0 (by decide)
    have h1 := h 1 (by decide)
    have h2 := h 2 (by decide)
    have h3 := h 3 (by decide)
    simp [sget] at h0 h1 h2 h3
    exact ⟨h0, h1, h2, h3⟩
theorem fitsB_zero {s : S4} {l : List P3} : fitsB s l = 0 ↔ ∀ p ∈ l, keyB p.2.1 = true → 0 ≤ sget s p.2.1 + p.2.2 ∧ sget s p.2.1 + p.2.2 ≤ 1048576 := by
  induction l with
  | nil => simp [fitsB]
  | cons p t ih =>
    simp only [fitsB, List.mem_cons, forall_eq_or_imp]
    rw [← ih]
    by_cases hk : keyB p.2.1 = true
    · rw [if_pos hk]
      by_cases h1 : sget s p.2.1 + p.2.2 < 0
      · rw [if_pos h1]; constructor
        · intro h; cases h
        · rintro ⟨h, _⟩; have := h hk; omega
      · rw [if_neg h1]
        by_cases h2 : 1048576 < sget s p.2.1 + p.2.2
        · rw [if_pos h2]; constructor
          · intro h; cases h
          · rintro ⟨h, _⟩; have := h hk; omega
        · rw [if_neg h2]; exact ⟨fun h => ⟨fun _ => by omega, h⟩, fun h => h.2⟩
    · rw [if_neg hk]; exact ⟨fun h => ⟨fun h' => absurd h' hk, h⟩, fun h => h.2⟩
theorem within_right {s : S4} (h : rightS s = true) : Within 1048576 s := by
  simp only [rightS, decide_eq_true_eq] at h
  obtain ⟨h0, h1, h2, h3⟩ := h
  exact ⟨⟨by omega, by omega⟩, ⟨by omega, by omega⟩, ⟨by omega, by omega⟩, ⟨by omega, by omega⟩⟩

end Go.Proofs.Ytikmnaegalmfeaa
