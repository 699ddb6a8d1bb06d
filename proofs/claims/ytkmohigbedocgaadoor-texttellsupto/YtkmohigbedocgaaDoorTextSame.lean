/- The program's Parse comes to what the document's does, where their words do. -/
import Derived.Test.YtkmohigbedocgaaDoorTextR4
namespace Go.Proofs.YtkmohigbedocgaaDoor

/-- Two parts that no error can tell apart. -/
def Alike (p q : P3) : Prop := p.1 = q.1 ∧ p.2.1 = q.2.1 ∧ (p.2.2 = q.2.2 ∨ ((p.2.2 < -1048576 ∨ 1048576 < p.2.2) ∧ (q.2.2 < -1048576 ∨ 1048576 < q.2.2)))
def Agree : Option P3 → Option P3 → Prop
  | none, none => True
  | some p, some q => Alike p q
  | _, _ => False
def AlikeAll : List P3 → List P3 → Prop
  | [], [] => True
  | p :: a, q :: b => Alike p q ∧ AlikeAll a b
  | _, _ => False

theorem alike_in {p q : P3} (h : Alike p q) (H : Int) : inB p H = inB q H := by
  obtain ⟨h1, h2, h3⟩ := h
  unfold inB
  rw [Bool.eq_iff_iff, decide_eq_true_eq, decide_eq_true_eq, h1, h2]
  constructor <;> (rintro ⟨a, b, c, d, e, f⟩; refine ⟨a, b, c, d, ?_, ?_⟩ <;> omega)
theorem alike_eq {p q : P3} (h : Alike p q) (hp : inB p 3 = true) : p = q := by
  obtain ⟨h1, h2, h3⟩ := h
  unfold inB at hp
  rw [decide_eq_true_eq] at hp
  refine Prod.ext h1 (Prod.ext h2 ?_)
  omega
theorem alikeAll_len : ∀ {a b : List P3}, AlikeAll a b → a.length = b.length
  | [], [], _ => rfl
  | p :: a, q :: b, h => by simp [alikeAll_len h.2]
  | [], _ :: _, h => h.elim
  | _ :: _, [], h => h.elim
theorem alikeAll_snoc : ∀ {a b : List P3} {p q : P3}, AlikeAll a b → Alike p q → AlikeAll (a ++ [p]) (b ++ [q])
  | [], [], _, _, _, h => ⟨h, trivial⟩
  | _ :: _, _ :: _, _, _, h, k => ⟨h.1, alikeAll_snoc h.2 k⟩
  | [], _ :: _, _, _, h, _ => h.elim
  | _ :: _, [], _, _, h, _ => h.elim
theorem alike_has {p q : P3} (h : Alike p q) : ∀ {a b : List P3}, AlikeAll a b → hasB p a = hasB q b
  | [], [], _ => rfl
  | x :: a, y :: b, k => by
    have ih := alike_has h k.2
    unfold hasB at *
    rw [List.any_cons, List.any_cons, ih]
    congr 1
    unfold sameB
    rw [k.1.1, k.1.2.1, h.1, h.2.1]
  | [], _ :: _, k => k.elim
  | _ :: _, [], k => k.elim
theorem alike_wrongFrom : ∀ {a b s t : List P3}, AlikeAll s t → AlikeAll a b → wrongFrom 3 s a = wrongFrom 3 t b
  | [], [], _, _, _, _ => rfl
  | p :: a, q :: b, s, t, hs, h => by
    simp only [wrongFrom]
    rw [alike_in h.1 3, alike_has h.1 hs, alike_wrongFrom (alikeAll_snoc hs h.1) h.2]
  | [], _ :: _, _, _, _, h => h.elim
  | _ :: _, [], _, _, _, h => h.elim
theorem alike_wrong {a b : List P3} (h : AlikeAll a b) : wrong a 3 = wrong b 3 := by
  unfold wrong
  rw [alikeAll_len h, alike_wrongFrom (s := []) (t := []) trivial h]
theorem alike_same : ∀ {a b : List P3}, AlikeAll a b → (∀ p ∈ a, inB p 3 = true) → a = b
  | [], [], _, _ => rfl
  | p :: a, q :: b, h, k => by rw [alike_eq h.1 (k p (by simp)), alike_same h.2 (fun r hr => k r (by simp [hr]))]
  | [], _ :: _, h, _ => h.elim
  | _ :: _, [], h, _ => h.elim

theorem all_agree (h : ∀ x, Agree (readB x) (refRead x)) : ∀ (xs : List (List UInt8)), (readAll xs = none ∧ refAll xs = none) ∨ ∃ a b, readAll xs = some a ∧ refAll xs = some b ∧ AlikeAll a b
  | [] => Or.inr ⟨[], [], rfl, rfl, trivial⟩
  | x :: t => by
    have hx := h x
    simp only [readAll, refAll]
    rcases all_agree h t with ⟨h1, h2⟩ | ⟨a, b, h1, h2, h3⟩
    · left
      rw [h1, h2]
      constructor
      · cases readB x <;> rfl
      · cases refRead x <;> rfl
    · rw [h1, h2]
      cases hr : readB x with
      | none =>
        cases hq : refRead x with
        | none => exact Or.inl ⟨rfl, rfl⟩
        | some q => rw [hr, hq] at hx; exact hx.elim
      | some p =>
        cases hq : refRead x with
        | none => rw [hr, hq] at hx; exact hx.elim
        | some q => rw [hr, hq] at hx; exact Or.inr ⟨_, _, rfl, rfl, hx, h3⟩

theorem parse_ref_of (h : ∀ x, Agree (readB x) (refRead x)) (L : List UInt8) : parseB L = refParseB L := by
  unfold parseB refParseB
  rcases all_agree h (splitB L) with ⟨h1, h2⟩ | ⟨a, b, h1, h2, h3⟩
  · rw [h1, h2]
  · rw [h1, h2]
    simp only
    have hw := alike_wrong h3
    by_cases hl : a.length ≤ 4
    · rw [List.take_of_length_le (by omega), hw]
      by_cases h0 : wrong b 3 = 0
      · rw [if_pos h0, if_pos h0, alike_same h3 (wrong_right (hw.trans h0)).2.2]
      · rw [if_neg h0, if_neg h0]
    · have e1 : wrong (a.take 5) 3 = 5 := by
        unfold wrong
        rw [if_pos (Or.inr (by rw [List.length_take]; omega))]
      have e2 : wrong b 3 = 5 := by
        unfold wrong
        rw [if_pos (Or.inr (by rw [← alikeAll_len h3]; omega))]
      rw [e1, e2]
      rfl

theorem agree (x : List UInt8) : Agree (readB x) (refRead x) := by
  rw [read_ref]
  cases refRead x with
  | none => trivial
  | some p => exact ⟨rfl, rfl, Or.inl rfl⟩

end Go.Proofs.YtkmohigbedocgaaDoor
