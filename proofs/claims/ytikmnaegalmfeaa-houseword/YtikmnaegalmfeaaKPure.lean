/- Plain functions over parts and sums: what the functions of package part come to, with no word of the program. -/
import Derived.WalkKit
namespace Go.Proofs.Ytikmnaegalmfeaa
open Go.RowKit

abbrev P3 := Int × Int × Int
abbrev S4 := Int × Int × Int × Int

def keyB (k : Int) : Bool := decide (0 ≤ k ∧ k < 4)
def inB (p : P3) (H : Int) : Bool := decide (0 ≤ p.1 ∧ p.1 < H ∧ 0 ≤ p.2.1 ∧ p.2.1 < 4 ∧ -1048576 ≤ p.2.2 ∧ p.2.2 ≤ 1048576)
def sameB (p q : P3) : Bool := decide (p.1 = q.1 ∧ p.2.1 = q.2.1)
def hasB (q : P3) (l : List P3) : Bool := l.any fun p => sameB p q

def wrongFrom (H : Int) : List P3 → List P3 → Int
  | _, [] => 0
  | seen, p :: t => if inB p H then (if hasB p seen then 4 else wrongFrom H (seen ++ [p]) t) else 3
def wrong (l : List P3) (H : Int) : Int := if l.length < 1 ∨ 4 < l.length then 5 else wrongFrom H [] l

def sget (s : S4) (k : Int) : Int := if k = 0 then s.1 else if k = 1 then s.2.1 else if k = 2 then s.2.2.1 else s.2.2.2
def sadd (s : S4) (k n : Int) : S4 :=
  if k = 0 then (s.1 + n, s.2.1, s.2.2.1, s.2.2.2) else if k = 1 then (s.1, s.2.1 + n, s.2.2.1, s.2.2.2)
  else if k = 2 then (s.1, s.2.1, s.2.2.1 + n, s.2.2.2) else (s.1, s.2.1, s.2.2.1, s.2.2.2 + n)
def do1 (s : S4) (p : P3) : S4 := if keyB p.2.1 then sadd s p.2.1 p.2.2 else s
def doB (s : S4) (l : List P3) : S4 := l.foldl do1 s
def fitsB (s : S4) : List P3 → Int
  | [] => 0
  | p :: t => if keyB p.2.1 then (if sget s p.2.1 + p.2.2 < 0 then 11 else if 1048576 < sget s p.2.1 + p.2.2 then 4 else fitsB s t) else fitsB s t
def rightS (s : S4) : Bool := decide ((0 ≤ s.1 ∧ s.1 ≤ 1048576) ∧ (0 ≤ s.2.1 ∧ s.2.1 ≤ 1048576) ∧ (0 ≤ s.2.2.1 ∧ s.2.2.1 ≤ 1048576) ∧ (0 ≤ s.2.2.2 ∧ s.2.2.2 ≤ 1048576))
/-- Each sum lies within that bound. -/
def Within (B : Int) (s : S4) : Prop := (-B ≤ s.1 ∧ s.1 ≤ B) ∧ (-B ≤ s.2.1 ∧ s.2.1 ≤ B) ∧ (-B ≤ s.2.2.1 ∧ s.2.2.1 ≤ B) ∧ (-B ≤ s.2.2.2 ∧ s.2.2.2 ≤ B)
/-- Each part's number is small. -/
def Small (l : List P3) : Prop := ∀ p ∈ l, -1048576 ≤ p.2.2 ∧ p.2.2 ≤ 1048576

theorem drop_cons {l : List P3} {k : Nat} (h : k < l.length) : l.drop k = l[k] :: l.drop (k + 1) := List.drop_eq_getElem_cons h
theorem take_snoc {α : Type} {l : List α} {k : Nat} (h : k < l.length) : l.take (k + 1) = l.take k ++ [l[k]] := List.take_succ_eq_append_getElem h

theorem hasB_snoc (q : P3) (l : List P3) (p : P3) : hasB q (l ++ [p]) = (hasB q l || sameB p q) := by simp [hasB]
theorem doB_snoc (s : S4) (l : List P3) (p : P3) : doB s (l ++ [p]) = do1 (doB s l) p := by simp [doB]
theorem within_do1 {B : Int} {s : S4} (h : Within B s) {p : P3} (hp : -1048576 ≤ p.2.2 ∧ p.2.2 ≤ 1048576) : Within (B + 1048576) (do1 s p) := by
  obtain ⟨⟨a1, a2⟩, ⟨b1, b2⟩, ⟨c1, c2⟩, ⟨d1, d2⟩⟩ := h
  obtain ⟨p1, p2⟩ := hp
  unfold do1 sadd
  repeat' split
  all_goals (refine ⟨⟨?_, ?_⟩, ⟨?_, ?_⟩, ⟨?_, ?_⟩, ⟨?_, ?_⟩⟩ <;> (try simp only) <;> omega)
theorem within_mono {B C : Int} {s : S4} (h : Within B s) (hc : B ≤ C) : Within C s := by
  obtain ⟨⟨a1, a2⟩, ⟨b1, b2⟩, ⟨c1, c2⟩, ⟨d1, d2⟩⟩ := h
  exact ⟨⟨by omega, by omega⟩, ⟨by omega, by omega⟩, ⟨by omega, by omega⟩, ⟨by omega, by omega⟩⟩
theorem within_doB {B : Int} {s : S4} (h : Within B s) : ∀ {l : List P3}, Small l → Within (B + l.length * 1048576) (doB s l) := by
  intro l
  induction l generalizing s B with
  | nil => intro _; simpa [doB] using h
  | cons p t ih =>
    intro hs
    have h1 := within_do1 h (hs p (by simp))
    have h2 := ih h1 (fun q hq => hs q (by simp [hq]))
    exact within_mono h2 (by simp only [List.length_cons]; omega)
theorem small_take {l : List P3} (h : Small l) (k : Nat) : Small (l.take k) := fun p hp => h p (List.mem_of_mem_take hp)
theorem small_get {l : List P3} (h : Small l) {k : Nat} (hk : k < l.length) : -1048576 ≤ l[k].2.2 ∧ l[k].2.2 ≤ 1048576 := h _ (List.getElem_mem hk)

theorem fits_step {s : S4} {l : List P3} {k : Nat} (h : k < l.length) : fitsB s (l.drop k) = if keyB l[k].2.1 then (if sget s l[k].2.1 + l[k].2.2 < 0 then 11 else if 1048576 < sget s l[k].2.1 + l[k].2.2 then 4 else fitsB s (l.drop (k + 1))) else fitsB s (l.drop (k + 1)) := by
  rw [drop_cons h]; simp only [fitsB]
theorem wrong_step {H : Int} {l : List P3} {k : Nat} (h : k < l.length) : wrongFrom H (l.take k) (l.drop k) = if inB l[k] H then (if hasB l[k] (l.take k) then 4 else wrongFrom H (l.take (k + 1)) (l.drop (k + 1))) else 3 := by
  rw [drop_cons h]; simp only [wrongFrom]; rw [take_snoc h]

end Go.Proofs.Ytikmnaegalmfeaa
