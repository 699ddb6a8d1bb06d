/- The words that the document's Parse reads are just those that tell a house and a key of one digit, and a number that Go's int holds. -/
import Derived.Test.YtkmohigbedocgaaDoorTextR2
namespace Go.Proofs.YtkmohigbedocgaaDoor
open Go.RowKit

theorem refRead_word {p : P3} (h : Told p) : refRead (wordB p) = some p := by
  rw [word_told h]
  obtain ⟨⟨a1, a2⟩, ⟨b1, b2⟩, c1, c2⟩ := h
  obtain ⟨a, k, n⟩ := p
  simp only at *
  obtain ⟨c, ds, hc, hd⟩ := dec_cons n.natAbs
  rw [hc]
  have d1 : a.toNat < 10 := by omega
  have d2 : k.toNat < 10 := by omega
  simp only [refRead]
  rw [if_pos ⟨digit_isDig d1, trivial, digit_isDig d2, by split <;> simp⟩]
  have hi := atoi_itoa n c1 c2
  have key : refNum (if n < 0 then 45 else 43) (if (if n < 0 then (45 : UInt8) else 43) = 43 then c :: ds else 45 :: c :: ds) = some n := by
    by_cases hn : n < 0
    · rw [if_pos hn, if_neg (by decide)]
      have e : Lib.itoa n = 45 :: c :: ds := by unfold Lib.itoa; rw [if_pos hn, hc]
      rw [e] at hi
      unfold refNum
      rw [hi]
      simp only
      rw [if_pos ⟨e, (fun h => absurd h.1 (by decide)), fun h => absurd h.2 (by omega)⟩]
    · rw [if_neg hn, if_pos rfl]
      have e : Lib.itoa n = c :: ds := by unfold Lib.itoa; rw [if_neg hn, show n.toNat = n.natAbs by omega, hc]
      rw [e] at hi
      unfold refNum
      rw [hi]
      simp only
      rw [if_pos ⟨e, (fun h => absurd h.2 hn), fun h => absurd h.1 (by decide)⟩]
  rw [key]
  simp only [Option.map_some, digit_val d1, digit_val d2]
  congr 1
  exact Prod.ext (by simp; omega) (Prod.ext (by simp; omega) rfl)
theorem refRead_back {x : List UInt8} {p : P3} (hr : refRead x = some p) : wordB p = x ∧ Told p := by
  match x, hr with
  | a :: d :: k :: sg :: c :: ds, hr =>
    simp only [refRead] at hr
    split at hr
    · rename_i hc
      obtain ⟨ha, hd, hk, hsg⟩ := hc
      obtain ⟨b1, b2, b3⟩ := dig_back ha
      obtain ⟨k1, k2, k3⟩ := dig_back hk
      obtain ⟨n, hm, rfl⟩ := Option.map_eq_some_iff.1 hr
      unfold refNum at hm
      rcases hn : Lib.atoiAll (if sg = 43 then c :: ds else 45 :: c :: ds) with n' | _ | _
      · rw [hn] at hm
        by_cases hq : Lib.itoa n' = (if sg = 43 then c :: ds else 45 :: c :: ds) ∧ ¬ (sg = 43 ∧ n' < 0) ∧ ¬ (sg = 45 ∧ 0 ≤ n')
        · simp only [if_pos hq, Option.some.injEq] at hm
          subst hm
          obtain ⟨n0, n1⟩ := Lib.atoiAll_bounds hn
          have ht : Told (valB a, valB k, n') := ⟨⟨b2, b3⟩, ⟨k2, k3⟩, n0, n1⟩
          refine ⟨?_, ht⟩
          rw [word_told ht]
          dsimp only
          rw [b1, k1, hd]
          obtain ⟨q1, q2, q3⟩ := hq
          congr 3
          rcases hsg with rfl | rfl
          · rw [if_pos rfl] at q1
            have hn : ¬ n' < 0 := fun h => q2 ⟨rfl, h⟩
            unfold Lib.itoa at q1
            rw [if_neg hn] at q1
            rw [if_neg hn, ← q1, show n'.toNat = n'.natAbs by omega]
          · rw [if_neg (by decide)] at q1
            have hn : n' < 0 := by
              by_cases h : n' < 0
              · exact h
              · exact absurd ⟨rfl, by omega⟩ q3
            unfold Lib.itoa at q1
            rw [if_pos hn] at q1
            rw [if_pos hn, q1]
        · simp only [if_neg hq] at hm
          cases hm
      · rw [hn] at hm; cases hm
      · rw [hn] at hm; cases hm
    · cases hr

/-- The document's Parse reads a word just if a part is so written. -/
theorem refRead_none {x : List UInt8} (h : ∀ p, Told p → wordB p ≠ x) : refRead x = none := by
  cases hr : refRead x with
  | none => rfl
  | some p => exact absurd (refRead_back hr).1 (h p (refRead_back hr).2)

/-- So does the program's. -/
theorem read_ref (x : List UInt8) : readB x = refRead x := by
  cases hr : readB x with
  | none =>
    refine (refRead_none fun p ht e => ?_).symm
    rw [← e, read_told ht] at hr
    cases hr
  | some p =>
    obtain ⟨h1, h2⟩ := read_back hr
    rw [← h1, refRead_word h2]

end Go.Proofs.YtkmohigbedocgaaDoor
