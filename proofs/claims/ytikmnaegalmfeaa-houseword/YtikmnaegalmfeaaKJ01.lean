/- Several texts in one: Parts in memory, and what hasKey of package part does; Slices that own parts, and append to them. -/
import Derived.Test.YtikmnaegalmfeaaProg
import Derived.Test.YtikmnaegalmfeaaKPure
import Derived.WalkKit
import Derived.WalkSpells
import Derived.WalkLawsBesides
import Derived.BigQuiet
import Derived.Deep.RegionHeld3
import Derived.Deep.DrawnRows
import Derived.Deep.AppendLies
import Derived.WalkSmall
namespace Go.Proofs.Ytikmnaegalmfeaa
open Go.RowKit
attribute [local go_sem ↓] Go.wp_at_zero Go.wp_at_succ

theorem ret_bool {a b : Bool} (h : a = b) : Ending.returned (.bool a) = .returned (.bool b) := by rw [h]
theorem ret_int {k : IntKind} {a b : Int} (h : a = b) : Ending.returned (.int k a) = .returned (.int k b) := by rw [h]
theorem below1 (w : World) (o : Obj) : Below w.heap.size w (w.alloc o) := (Below.refl _ _).alloc (Nat.le_refl _) _
theorem below2 (w : World) (o o' : Obj) : Below w.heap.size w ((w.alloc o).alloc o') := ((Below.refl _ _).alloc (Nat.le_refl _) _).alloc (by simp) _
theorem bcell {W w1 : World} (hb : Below W.heap.size W w1) : (∀ b o, b < W.heap.size → w1.cell? ⟨b, o, none⟩ = W.cell? ⟨b, o, none⟩) ∧ (∀ b o, b < W.heap.size → w1.frozen? ⟨b, o, none⟩ = W.frozen? ⟨b, o, none⟩) :=
  ⟨fun b o h => hb.cell (p := ⟨b, o, none⟩) h, fun b o h => hb.frozen (p := ⟨b, o, none⟩) h⟩

/-- The parts l lie in memory from the address on. -/
def PartsAt (w : World) (a : Option Addr) (l : List P3) : Prop :=
  l = [] ∨ ∃ b o, a = some ⟨b, o, none⟩ ∧ b < w.heap.size ∧ ∀ i (h : i < l.length),
    w.cell? ⟨b, o + i * 3, none⟩ = some (.int .i64 l[i].1) ∧ w.cell? ⟨b, o + i * 3 + 1, none⟩ = some (.int .i64 l[i].2.1) ∧ w.cell? ⟨b, o + i * 3 + 2, none⟩ = some (.int .i64 l[i].2.2)

theorem PartsAt.below {w w' : World} {a : Option Addr} {l : List P3} (h : PartsAt w a l) (hb : Below w.heap.size w w') : PartsAt w' a l := by
  rcases h with rfl | ⟨b, o, rfl, hlt, hc⟩
  · exact Or.inl rfl
  · refine Or.inr ⟨b, o, rfl, Nat.lt_of_lt_of_le hlt hb.size, fun i hi => ?_⟩
    obtain ⟨h1, h2, h3⟩ := hc i hi
    obtain ⟨hcc, _⟩ := bcell hb
    exact ⟨(hcc _ _ hlt).trans h1, (hcc _ _ hlt).trans h2, (hcc _ _ hlt).trans h3⟩

set_option maxHeartbeats 400000 in
theorem hasKey_any (h k n : Int) (w : World) :
    Calls Try.prog 73 #[.agg #[.int .i64 h, .int .i64 k, .int .i64 n]] w fun e w' => e = .returned (.bool (keyB k)) ∧ Below w.heap.size w w' := by
  go_enter Try.func73, Try.ntmps73
  go_wp2
  all_goals
    go_ret
    refine ⟨ret_bool ?_, below1 _ _⟩
    rw [Bool.eq_iff_iff]; simp [keyB]; omega

end Go.Proofs.Ytikmnaegalmfeaa

namespace Go.Proofs.Ytikmnaegalmfeaa
open Go.RowKit

def cells3 (l : List P3) : List Value := l.flatMap fun p => [.int .i64 p.1, .int .i64 p.2.1, .int .i64 p.2.2]
theorem cells3_get : ∀ (l : List P3) (i : Nat) (h : i < l.length), (cells3 l)[i * 3]? = some (.int .i64 l[i].1) ∧ (cells3 l)[i * 3 + 1]? = some (.int .i64 l[i].2.1) ∧ (cells3 l)[i * 3 + 2]? = some (.int .i64 l[i].2.2)
  | p :: t, 0, _ => by simp [cells3]
  | p :: t, i + 1, h => by
    have ih := cells3_get t i (by simpa using h)
    have e : cells3 (p :: t) = [.int .i64 p.1, .int .i64 p.2.1, .int .i64 p.2.2] ++ cells3 t := by simp [cells3]
    rw [e]
    refine ⟨?_, ?_, ?_⟩
    · rw [List.getElem?_append_right (by simp; omega)]; simpa [show (i + 1) * 3 - 3 = i * 3 by omega] using ih.1
    · rw [List.getElem?_append_right (by simp; omega)]; simpa [show (i + 1) * 3 + 1 - 3 = i * 3 + 1 by omega] using ih.2.1
    · rw [List.getElem?_append_right (by simp; omega)]; simpa [show (i + 1) * 3 + 2 - 3 = i * 3 + 2 by omega] using ih.2.2

/-- The value v owns the parts l, in blocks from base on. -/
def OwnP (w : World) (base : Nat) (v : Value) (l : List P3) : Prop := w.ownsRow base 45 3 v l.length (cells3 l)

theorem ownsRow_below {w w' : World} {base : Nat} {e : TypeId} {size : Nat} {v : Value} {n : Nat} {xs : List Value} (h : w.ownsRow base e size v n xs) {B : Nat} (hb : Below B w w') (hB : w.heap.size ≤ B) : w'.ownsRow base e size v n xs := by
  refine ⟨h.1, ?_⟩
  rcases h.2 with h0 | ⟨g, cap, cur, hv, hg, hh, r⟩
  · exact Or.inl h0
  · refine Or.inr ⟨g, cap, cur, hv, hg, ?_, r⟩
    have hlt : g < w.heap.size := by
      rcases Nat.lt_or_ge g w.heap.size with h' | h'
      · exact h'
      · rw [Array.getElem?_eq_none h'] at hh; cases hh
    rw [hb.block g (by omega)]; exact hh

theorem OwnP.below {w w' : World} {base : Nat} {v : Value} {l : List P3} (h : OwnP w base v l) {B : Nat} (hb : Below B w w') (hB : w.heap.size ≤ B) : OwnP w' base v l := ownsRow_below h hb hB

/-- What is owned lies in memory. -/
theorem OwnP.parts {w : World} {base : Nat} {v : Value} {l : List P3} (h : OwnP w base v l) : ∃ a cap, v = .slice a l.length cap ∧ PartsAt w a l ∧ l.length ≤ cap := by
  rcases h.2 with ⟨hv, h0⟩ | ⟨g, cap, cur, hv, hg, hh, hcap, _, hsz, htake⟩
  · exact ⟨none, 0, by rw [hv, h0], Or.inl (List.eq_nil_of_length_eq_zero h0), by omega⟩
  · refine ⟨_, cap, hv, Or.inr ⟨g, 0, rfl, ?_, fun i hi => ?_⟩, hcap⟩
    · rcases Nat.lt_or_ge g w.heap.size with h' | h'
      · exact h'
      · rw [Array.getElem?_eq_none h'] at hh; cases hh
    · have key : ∀ j u, (cells3 l)[j]? = some u → w.cell? ⟨g, j, none⟩ = some u := by
        intro j u hj
        rw [cell_of_row w g j cur _ _ hh]
        rw [← htake] at hj
        have hlt : j < l.length * 3 := by
          rcases Nat.lt_or_ge j (l.length * 3) with h' | h'
          · exact h'
          · rw [List.getElem?_eq_none (by simp; omega)] at hj; cases hj
        rw [List.getElem?_take_of_lt hlt] at hj
        simpa using hj
      obtain ⟨e0, e1, e2⟩ := cells3_get l i hi
      rw [Nat.zero_add]
      exact ⟨key _ _ e0, key _ _ e1, key _ _ e2⟩

theorem infoPart : (Try.prog.info? 45).map (fun i => (i.zero, i.size, i.bytes)) = some (some (.agg #[.int .i64 0, .int .i64 0, .int .i64 0]), 3, 24) := by kernel_rfl

theorem heap2 (w : World) (o o' : Obj) : ((w.alloc o).alloc o').heap[w.heap.size + 1]? = some o' := by have := heap_alloc_new (w.alloc o) o'; simpa using this

end Go.Proofs.Ytikmnaegalmfeaa
