/- Parts in memory, and what hasKey of package part does. -/
import Derived.Test.YteinegcoenlkcacProg
import Derived.Test.YteinegcoenlkcacPure
import Derived.WalkKit
import Derived.WalkSpells
import Derived.WalkLawsBesides
import Derived.BigQuiet
import Derived.Deep.RegionHeld3
import Derived.Deep.DrawnRows
namespace Go.Proofs.Yteinegcoenlkcac
open Go.RowKit
attribute [local go_sem ↓] Go.wp_at_zero Go.wp_at_succ

theorem ret_bool {a b : Bool} (h : a = b) : Ending.returned (.bool a) = .returned (.bool b) := by rw [h]
theorem ret_int {k : IntKind} {a b : Int} (h : a = b) : Ending.returned (.int k a) = .returned (.int k b) := by rw [h]
theorem below1 (w : World) (o : Obj) : Below w.heap.size w (w.alloc o) := (Below.refl _ _).alloc (Nat.le_refl _) _
theorem below2 (w : World) (o o' : Obj) : Below w.heap.size w ((w.alloc o).alloc o') := ((Below.refl _ _).alloc (Nat.le_refl _) _).alloc (by simp) _
theorem bcell {W w1 : World} (hb : Below W.heap.size W w1) : (∀ b o, b < W.heap.size → w1.cell? ⟨b, o, none⟩ = W.cell? ⟨b, o, none⟩) ∧ (∀ b o, b < W.heap.size → w1.frozen? ⟨b, o, none⟩ = W.frozen? ⟨b, o, none⟩) :=
  ⟨fun b o h => hb.cell (p := ⟨b, o, none⟩) h, fun b o h => hb.frozen (p := ⟨b, o, none⟩) h⟩

/-- The parts l lie in memory from the address on. -/
def PartsAt (w : World) (a : Option Addr) (l : List P3) : Prop :=
  l = [] ∨ ∃ b o, a = some ⟨b, o, none⟩ ∧ b < w.heap.size ∧ ∀ i (h : i < l.length),
    w.cell? ⟨b, o + i * 3, none⟩ = some (.int .i64 l[i].1) ∧ w.cell? ⟨b, o + i * 3 + 1, none⟩ = some (.int .i64 l[i].2.1) ∧ w.cell? ⟨b, o + i * 3 + 2, none⟩ = some (.int .i64 l[i].2.2)

theorem PartsAt.below {w w' : World} {a : Option Addr} {l : List P3} (h : PartsAt w a l) (hb : Below w.heap.size w w') : PartsAt w' a l := by
  rcases h with rfl | ⟨b, o, rfl, hlt, hc⟩
  · exact Or.inl rfl
  · refine Or.inr ⟨b, o, rfl, Nat.lt_of_lt_of_le hlt hb.size, fun i hi => ?_⟩
    obtain ⟨h1, h2, h3⟩ := hc i hi
    obtain ⟨hcc, _⟩ := bcell hb
    exact ⟨(hcc _ _ hlt).trans h1, (hcc _ _ hlt).trans h2, (hcc _ _ hlt).trans h3⟩

set_option maxHeartbeats 400000 in
theorem hasKey_any (h k n : Int) (w : World) :
    Calls Try.prog 61 #[.agg #[.int .i64 h, .int .i64 k, .int .i64 n]] w fun e w' => e = .returned (.bool (keyB k)) ∧ Below w.heap.size w w' := by
  go_enter Try.func61, Try.ntmps61
  go_wp2
  all_goals
    go_ret
    refine ⟨ret_bool ?_, below1 _ _⟩
    rw [Bool.eq_iff_iff]; simp [keyB]; omega

theorem partsAt_take {w : World} {a : Option Addr} {l : List P3} (h : PartsAt w a l) (k : Nat) : PartsAt w a (l.take k) := by
  rcases h with rfl | ⟨b, o, rfl, hlt, hc⟩
  · exact Or.inl (by simp)
  · refine Or.inr ⟨b, o, rfl, hlt, fun i hi => ?_⟩
    have hi' : i < l.length := by simp at hi; omega
    have := hc i hi'
    simpa using this

end Go.Proofs.Yteinegcoenlkcac
