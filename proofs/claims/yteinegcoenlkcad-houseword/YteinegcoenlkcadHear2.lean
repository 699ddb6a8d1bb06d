/- What the document's note does. -/
import Derived.Test.YteinegcoenlkcadHear1
import Derived.Test.YteinegcoenlkcadRelR
import Derived.Deep.RegionHeld3
namespace Go.Proofs.Yteinegcoenlkcad
open Go.RowKit
attribute [local go_sem ↓] Go.wp_at_zero Go.wp_at_succ

theorem FreshL.outR {α : Type} {e : TypeId} {size : Nat} {enc : α → List Value} {w : World} {B : Nat} {a : Option Addr} {n cap : Nat} {xs : List α} (h : FreshL e size enc w B (.slice a n cap) xs) {R : Nat → Prop} (hR : ∀ b, R b → b < B) : Out R a xs.length := by
  rcases h with h | ⟨h0, _⟩
  · exact h.outR hR _
  · exact Or.inl (by rw [h0]; rfl)
theorem FreshL.mono {α : Type} {e : TypeId} {size : Nat} {enc : α → List Value} {w : World} {B : Nat} {v : Value} {xs : List α} (h : FreshL e size enc w B v xs) {B' : Nat} (hB : B' ≤ B) : FreshL e size enc w B' v xs := by
  rcases h with h | h
  · exact Or.inl (OwnL.mono h hB)
  · exact Or.inr h
/-- R, and one block more. -/
theorem more_R (R : Nat → Prop) {N M : Nat} (hR : ∀ b, R b → b < N) (hM : N ≤ M) : ∃ R' : Nat → Prop, (∀ b, R b → R' b) ∧ R' M ∧ (∀ b, R' b → R b ∨ N ≤ b) ∧ (∀ b, R' b → b < M + 1) ∧ (∀ b, R' b → R b ∨ b = M) :=
  ⟨fun b => R b ∨ b = M, fun b h => Or.inl h, Or.inr rfl, fun b h => by rcases h with h | h; exact Or.inl h; exact Or.inr (by omega), fun b h => by rcases h with h | h; have := hR b h; omega; omega, fun b h => h⟩

theorem heap3a (w : World) (o o' o'' : Obj) {cs : Array Value} {t : TypeId} (h : o'' = .cells cs t) : Blk (((w.alloc o).alloc o').alloc o'') (w.heap.size + 1 + 1) cs t := by
  subst h
  have := Blk.new ((w.alloc o).alloc o') cs t
  simpa using this
theorem below3 (w : World) (o o' o'' : Obj) : Below w.heap.size w (((w.alloc o).alloc o').alloc o'') := (below2 w o o').alloc (by simp; omega) _

end Go.Proofs.Yteinegcoenlkcad
