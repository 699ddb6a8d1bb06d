/- Slices that a call has made: nothing older than a bound is written by an append onto one. -/
import Derived.Test.YtikmnaegalmfeaaKLists
namespace Go.Proofs.Ytikmnaegalmfeaa
open Go.RowKit

section
variable {α : Type}
/-- The value v holds the entries xs: it owns them in blocks from B on, or it is an empty slice without room, wherever it was made. -/
def FreshL (e : TypeId) (size : Nat) (enc : α → List Value) (w : World) (B : Nat) (v : Value) (xs : List α) : Prop :=
  OwnL e size enc w B v xs ∨ (xs = [] ∧ ∃ g, v = .slice (some ⟨g, 0, none⟩) 0 0 ∧ Blk w g #[] e)
variable {e : TypeId} {size : Nat} {enc : α → List Value} {w w' : World} {B : Nat} {v : Value} {xs : List α}
theorem FreshL.made {g : Nat} (h : Blk w g #[] e) (B : Nat) : FreshL e size enc w B (.slice (some ⟨g, 0, none⟩) 0 0) [] := Or.inr ⟨rfl, g, rfl, h⟩
theorem FreshL.own (h : OwnL e size enc w B v xs) : FreshL e size enc w B v xs := Or.inl h
theorem FreshL.below (h : FreshL e size enc w B v xs) (hb : Below w.heap.size w w') : FreshL e size enc w' B v xs := by
  rcases h with h | ⟨h0, g, hv, hg⟩
  · exact Or.inl (h.below hb (Nat.le_refl _))
  · exact Or.inr ⟨h0, g, hv, hg.below hb hg.lt⟩
theorem FreshL.at {a : Option Addr} {n cap : Nat} (he : ∀ x, (enc x).length = size) (h : FreshL e size enc w B (.slice a n cap) xs) : RowAt size enc w a xs ∧ n = xs.length ∧ xs.length ≤ cap ∧ cap ≤ maxLen := by
  rcases h with h | ⟨h0, g, hv, hg⟩
  · obtain ⟨a', cap', hv, hrow, h1, h2⟩ := h.row he
    cases hv
    exact ⟨hrow, rfl, h1, h2⟩
  · cases hv
    subst h0
    exact ⟨Or.inl rfl, rfl, Nat.le_refl _, Nat.zero_le _⟩
theorem FreshL.slice (he : ∀ x, (enc x).length = size) (h : FreshL e size enc w B v xs) : ∃ a n cap, v = .slice a n cap := by
  rcases h with h | ⟨h0, g, hv, hg⟩
  · obtain ⟨a, cap, hv, _⟩ := h.row he
    exact ⟨a, _, cap, hv⟩
  · exact ⟨_, _, _, hv⟩

end

end Go.Proofs.Ytikmnaegalmfeaa
