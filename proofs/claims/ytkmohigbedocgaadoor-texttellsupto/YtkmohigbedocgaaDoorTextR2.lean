/- What the document's Parse does with a text that is not too long. -/
import Derived.Test.YtkmohigbedocgaaDoorTextR1
import Derived.Test.YtkmohigbedocgaaDoorText3
import Derived.Test.YtkmohigbedocgaaDoorRef1
namespace Go.Proofs.YtkmohigbedocgaaDoor
open Go.RowKit

/-- What a word tells, by the document's answer. -/
def refNum (sg : UInt8) (x : List UInt8) : Option Int := match Lib.atoiAll x with
  | .ok n => if Lib.itoa n = x ∧ ¬ (sg = 43 ∧ n < 0) ∧ ¬ (sg = 45 ∧ 0 ≤ n) then some n else none
  | _ => none
def refRead : List UInt8 → Option P3
  | h :: d :: k :: sg :: c :: ds =>
    if isDig h = true ∧ d = 46 ∧ isDig k = true ∧ (sg = 43 ∨ sg = 45) then (refNum sg (if sg = 43 then c :: ds else 45 :: c :: ds)).map fun n => (valB h, valB k, n) else none
  | _ => none
def refAll : List (List UInt8) → Option (List P3)
  | [] => some []
  | x :: t => match refRead x, refAll t with
    | some p, some r => some (p :: r)
    | _, _ => none
theorem refAll_snoc : ∀ (xs : List (List UInt8)) (x : List UInt8), refAll (xs ++ [x]) = match refAll xs, refRead x with | some r, some p => some (r ++ [p]) | _, _ => none
  | [], x => by
    simp only [List.nil_append, refAll]
    cases refRead x <;> rfl
  | y :: t, x => by
    simp only [List.cons_append, refAll, refAll_snoc t x]
    cases refRead y <;> cases refAll t <;> cases refRead x <;> rfl
theorem refAll_none {x : List UInt8} (h : refRead x = none) (t : List (List UInt8)) : ∀ (pre : List (List UInt8)), refAll (pre ++ x :: t) = none
  | [] => by simp only [List.nil_append, refAll, h]
  | y :: r => by
    simp only [List.cons_append, refAll, refAll_none h t r]
    cases refRead y <;> rfl
theorem refAll_length : ∀ (xs : List (List UInt8)) (l : List P3), refAll xs = some l → l.length = xs.length
  | [], l, h => by simp only [refAll, Option.some.injEq] at h; subst h; rfl
  | x :: t, l, h => by
    simp only [refAll] at h
    cases hx : refRead x with
    | none => rw [hx] at h; cases h
    | some p =>
      cases ht : refAll t with
      | none => rw [hx, ht] at h; cases h
      | some r =>
        rw [hx, ht] at h
        simp only [Option.some.injEq] at h
        subst h
        simp [refAll_length t r ht]
theorem splitB_length : ∀ (s : List UInt8), (splitB s).length ≤ s.length + 1
  | [] => by simp [splitB]
  | c :: t => by
    have ih := splitB_length t
    unfold splitB
    split
    · simp; omega
    · cases hs : splitB t with
      | nil => simp
      | cons x r => rw [hs] at ih; simp at ih ⊢; omega
def refParseB (s : List UInt8) : Int × List P3 :=
  match refAll (splitB s) with
  | none => (2, [])
  | some l => if wrong l 3 = 0 then (0, l) else (wrong l 3, [])

end Go.Proofs.YtkmohigbedocgaaDoor
