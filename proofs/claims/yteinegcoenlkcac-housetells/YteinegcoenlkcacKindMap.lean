/- The little map of the document's Hear: from what is told to what is noted. -/
import Derived.Test.YteinegcoenlkcacMap1
namespace Go.Proofs.Yteinegcoenlkcac
open Go.RowKit Go.Maps Go.WideMaps

set_option maxRecDepth 100000 in
theorem zeroInt (w : World) : (zeroValue 3).run Try.prog w = .ok (.int .i64 0) w := by kernel_rfl
set_option maxRecDepth 100000 in
theorem kindMap (w : World) (k : Int) (hk : k = 4 ∨ k = 5) : ∃ w1 w2, (Instr.mapUpdate 80 (.map (some w.heap.size)) (.int .i64 4) (.int .i64 2)).run Try.prog (w.alloc (.map #[] 0)) = .ok () w1 ∧ (Instr.mapUpdate 80 (.map (some w.heap.size)) (.int .i64 5) (.int .i64 3)).run Try.prog w1 = .ok () w2 ∧
    (Instr.lookup 80 (.map (some w.heap.size)) (.int .i64 k) false).run Try.prog w2 = .ok (.int .i64 (k - 2)) w2 ∧ Below w.heap.size w w2 := by
  have h0 := World.ownsMap_made (H := Unit) w Try.prog 3 (plainElem Try.prog 3)
  obtain ⟨w1, r1, o1, b1⟩ := h0.update lawInt Try.underlying80 (by unfold maxLen; omega) (keyOf1 4 (by unfold In1; decide)) (plainElem_int Try.underlying3 (a := 2) (by decide))
  obtain ⟨w2, r2, o2, b2⟩ := o1.update lawInt Try.underlying80 (by unfold maxLen; omega) (keyOf1 5 (by unfold In1; decide)) (plainElem_int Try.underlying3 (a := 3) (by decide))
  obtain ⟨c, r3, hat, _⟩ := o2.lookup_int lawInt Try.underlying80 Try.underlying3 (zeroInt w2) (key := .int .i64 k) (kl := ikl k) (keyOf1 k (by rcases hk with rfl | rfl <;> (unfold In1; decide)))
  have hc : c = k - 2 := by
    rcases hk with rfl | rfl
    · have e : (((DataW.map [] : DataW Unit).put (ikl 4) (.lit (.int .i64 2))).put (ikl 5) (.lit (.int .i64 3))).atKey (ikl 4) (.lit (.int .i64 0)) = .lit (.int .i64 2) := by kernel_rfl
      rw [e] at hat
      injection hat with hat
      injection hat with _ hat
      omega
    · have e : (((DataW.map [] : DataW Unit).put (ikl 4) (.lit (.int .i64 2))).put (ikl 5) (.lit (.int .i64 3))).atKey (ikl 5) (.lit (.int .i64 0)) = .lit (.int .i64 3) := by kernel_rfl
      rw [e] at hat
      injection hat with hat
      injection hat with _ hat
      omega
  rw [hc] at r3
  exact ⟨w1, w2, r1, r2, r3, (((Below.refl _ w).alloc (Nat.le_refl _) _).grown b1 (by simp) (fun q hq => by cases hq; exact Nat.le_refl _)).grown b2 (by have := b1.size; simp at this; omega) (fun q hq => by cases hq; exact Nat.le_refl _)⟩

end Go.Proofs.Yteinegcoenlkcac
