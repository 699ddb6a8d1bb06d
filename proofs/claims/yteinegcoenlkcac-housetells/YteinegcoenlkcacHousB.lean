/- The statements' closed fact about package house, asked of the program: it comes out true. -/
import Derived.Test.YteinegcoenlkcacHousA
namespace Go.Proofs.Yteinegcoenlkcac
open Go.RowKit
attribute [local go_sem ↓] Go.wp_at_zero Go.wp_at_succ

abbrev pA : List P3 := [(0, 1, 5)]
abbrev LA1 : List R3 := [(1, 70, pA)]
abbrev LA2 : List R3 := [(1, 70, pA), (2, 70, [])]
theorem okA : OkP pA := ⟨by decide, by intro p hp; simp at hp; subst hp; decide, by intro p hp; simp at hp; subst hp; decide⟩
theorem okA1 : OkL LA1 := by intro r hr; simp at hr; subst hr; exact okA
theorem okA2 : OkL LA2 := by
  intro r hr
  simp at hr
  rcases hr with rfl | rfl
  · exact okA
  · exact okP_nil
theorem houseA1 : houseB LA1 = ((0, 0, 0, 0), [(70, pA)], []) := by decide
theorem houseA2 : houseB LA2 = ((0, 5, 0, 0), [], [70]) := by decide
theorem invA1 : HInv 1 (houseB LA1) := houseB_inv okA1
theorem invA2 : HInv 2 (houseB LA2) := houseB_inv okA2
theorem hearA1 : hearR (houseB []) 1 70 pA = some (1, 70, pA) ∧ hearL [] 1 70 pA = LA1 ∧ hearM [] 0 1 70 pA = [(2, 70, 0, [])] := ⟨rfl, rfl, rfl⟩
theorem hearA2 : hearR (houseB LA1) 4 70 [] = some (2, 70, []) ∧ hearL LA1 4 70 [] = LA2 ∧ hearM LA1 0 4 70 [] = [(6, 70, 0, [])] := ⟨rfl, rfl, rfl⟩
theorem partsOneA {w : World} {b : Nat} {h k n : Int} {t : TypeId} (hb : Blk w b #[.int .i64 h, .int .i64 k, .int .i64 n] t) : PartsAt w (some ⟨b, 0, none⟩) [(h, k, n)] := Or.inr ⟨b, 0, rfl, hb.lt, fun i hi => by
    have h0 : i = 0 := by simpa using hi
    subst h0
    exact ⟨hb.cell 0, hb.cell 1, hb.cell 2⟩⟩

end Go.Proofs.Yteinegcoenlkcac
