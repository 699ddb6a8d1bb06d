/- What each function of package part does, called at whatever parts and sums that lie in memory: it answers the plain function's value and leaves all older memory as it was. -/
import Derived.Test.YtkmohigbedocgaaDoorProg
import Derived.Test.YtkmohigbedocgaaDoorPure
import Derived.WalkKit
import Derived.WalkSpells
import Derived.WalkLawsBesides
import Derived.BigQuiet
import Derived.Deep.RegionHeld3
import Derived.Deep.DrawnRows
namespace Go.Proofs.YtkmohigbedocgaaDoor
open Go.RowKit
attribute [local go_sem ↓] Go.wp_at_zero Go.wp_at_succ

theorem ret_bool {a b : Bool} (h : a = b) : Ending.returned (.bool a) = .returned (.bool b) := by rw [h]
theorem ret_int {k : IntKind} {a b : Int} (h : a = b) : Ending.returned (.int k a) = .returned (.int k b) := by rw [h]
theorem below1 (w : World) (o : Obj) : Below w.heap.size w (w.alloc o) := (Below.refl _ _).alloc (Nat.le_refl _) _
theorem below2 (w : World) (o o' : Obj) : Below w.heap.size w ((w.alloc o).alloc o') := ((Below.refl _ _).alloc (Nat.le_refl _) _).alloc (by simp) _
theorem bcell {W w1 : World} (hb : Below W.heap.size W w1) : (∀ b o, b < W.heap.size → w1.cell? ⟨b, o, none⟩ = W.cell? ⟨b, o, none⟩) ∧ (∀ b o, b < W.heap.size → w1.frozen? ⟨b, o, none⟩ = W.frozen? ⟨b, o, none⟩) :=
  ⟨fun b o h => hb.cell (p := ⟨b, o, none⟩) h, fun b o h => hb.frozen (p := ⟨b, o, none⟩) h⟩

/-- The parts l lie in memory from the address on. -/
def PartsAt (w : World) (a : Option Addr) (l : List P3) : Prop :=
  l = [] ∨ ∃ b o, a = some ⟨b, o, none⟩ ∧ b < w.heap.size ∧ ∀ i (h : i < l.length),
    w.cell? ⟨b, o + i * 3, none⟩ = some (.int .i64 l[i].1) ∧ w.cell? ⟨b, o + i * 3 + 1, none⟩ = some (.int .i64 l[i].2.1) ∧ w.cell? ⟨b, o + i * 3 + 2, none⟩ = some (.int .i64 l[i].2.2)

theorem PartsAt.below {w w' : World} {a : Option Addr} {l : List P3} (h : PartsAt w a l) (hb : Below w.heap.size w w') : PartsAt w' a l := by
  rcases h with rfl | ⟨b, o, rfl, hlt, hc⟩
  · exact Or.inl rfl
  · refine Or.inr ⟨b, o, rfl, Nat.lt_of_lt_of_le hlt hb.size, fun i hi => ?_⟩
    obtain ⟨h1, h2, h3⟩ := hc i hi
    obtain ⟨hcc, _⟩ := bcell hb
    exact ⟨(hcc _ _ hlt).trans h1, (hcc _ _ hlt).trans h2, (hcc _ _ hlt).trans h3⟩

set_option maxHeartbeats 400000 in
theorem hasKey_any (h k n : Int) (w : World) :
    Calls Tryd.prog 33 #[.agg #[.int .i64 h, .int .i64 k, .int .i64 n]] w fun e w' => e = .returned (.bool (keyB k)) ∧ Below w.heap.size w w' := by
  go_enter Tryd.func33, Tryd.ntmps33
  go_wp2
  all_goals
    go_ret
    refine ⟨ret_bool ?_, below1 _ _⟩
    rw [Bool.eq_iff_iff]; simp [keyB]; omega

set_option maxHeartbeats 400000 in
theorem inRange_any (h k n H : Int) (w : World) :
    Calls Tryd.prog 21 #[.agg #[.int .i64 h, .int .i64 k, .int .i64 n], .int .i64 H] w fun e w' => e = .returned (.bool (inB (h, k, n) H)) ∧ Below w.heap.size w w' := by
  go_enter Tryd.func21, Tryd.ntmps21
  go_wp2
  all_goals
    go_ret
    refine ⟨ret_bool ?_, by first | exact below1 _ _ | exact below2 _ _ _⟩
    rw [Bool.eq_iff_iff]; simp [inB]; omega

set_option maxHeartbeats 400000 in
theorem same_any (h k n h' k' : Int) (b : Nat) (w : World) (hb : b < w.heap.size)
  (c0 : w.cell? ⟨b, 0, none⟩ = some (.int .i64 h')) (c1 : w.cell? ⟨b, 1, none⟩ = some (.int .i64 k')) :
    Calls Tryd.prog 35 #[.agg #[.int .i64 h, .int .i64 k, .int .i64 n], .pointer (some ⟨b, 0, none⟩)] w fun e w' => e = .returned (.bool (decide (h = h' ∧ k = k'))) ∧ Below w.heap.size w w' := by
  go_enter Tryd.func35, Tryd.ntmps35
  go_wp2
  all_goals
    go_ret
    refine ⟨ret_bool ?_, below1 _ _⟩
    rw [Bool.eq_iff_iff]; simp_all

set_option maxHeartbeats 400000 in
theorem samePlace_any (h k n : Int) (w : World) :
    Calls Tryd.prog 23 #[.agg #[.int .i64 h, .int .i64 k, .int .i64 n]] w fun e w' => e = .returned (.func (.func 35) #[] #[.pointer (some ⟨w.heap.size, 0, none⟩)]) ∧ w' = w.alloc (.cells #[.int .i64 h, .int .i64 k, .int .i64 n] 34) := by
  go_enter Tryd.func23, Tryd.ntmps23
  go_wp2
  go_ret
  exact ⟨rfl, rfl⟩

set_option maxHeartbeats 400000 in
theorem indexFunc_any (b : Nat) (q : P3) (a : Option Addr) (l : List P3) (cap : Nat) (w : World) (hl : l.length ≤ 4) (hp : PartsAt w a l) (hb : b < w.heap.size)
    (c0 : w.cell? ⟨b, 0, none⟩ = some (.int .i64 q.1)) (c1 : w.cell? ⟨b, 1, none⟩ = some (.int .i64 q.2.1)) :
    Calls Tryd.prog 34 #[.slice a l.length cap, .func (.func 35) #[] #[.pointer (some ⟨b, 0, none⟩)]] w fun e w' => (∃ i : Int, e = .returned (.int .i64 i) ∧ decide (0 ≤ i) = hasB q l) ∧ Below w.heap.size w w' := by
  go_enter Tryd.func34, Tryd.ntmps34
  go_wp2
  go_loopw [8] (fun i w' => ∃ k : Nat, k ≤ l.length ∧ i = .int .i64 k ∧ Hid (hasB q (l.take k) = false) ∧ Below w.heap.size w w') (fun i _ => l.length - (intOf i).toNat)
  case atStart => exact ⟨0, Nat.zero_le _, rfl, rfl, Below.refl _ _⟩
  case round =>
    obtain ⟨k, hk, rfl, hn, hbw⟩ := hrel
    by_cases hlt : k < l.length
    · rcases hp with rfl | ⟨b', o, rfl, hb', hc⟩
      · simp at hlt
      obtain ⟨d0, d1, d2⟩ := hc k hlt
      clear hc
      obtain ⟨hcc, hff⟩ := bcell hbw
      have hsz := hbw.size
      go_wp2_with fail
      refine (same_any _ _ _ q.1 q.2.1 b _ (by omega) (by rw [hcc _ _ hb]; exact c0) (by rw [hcc _ _ hb]; exact c1)).mono ?_
      rintro e w1 ⟨rfl, hb1⟩
      have hB : Below w.heap.size w w1 := hbw.trans (hb1.mono hsz)
      have hsn : hasB q (l.take (k + 1)) = (hasB q (l.take k) || decide (l[k].1 = q.1 ∧ l[k].2.1 = q.2.1)) := by
        rw [take_snoc hlt, hasB_snoc]; rfl
      have hall : hasB q l = (hasB q (l.take (k + 1)) || hasB q (l.drop (k + 1))) := by
        conv => lhs; rw [← List.take_append_drop (k + 1) l]
        simp only [hasB, List.any_append]
      by_cases hs : l[k].1 = q.1 ∧ l[k].2.1 = q.2.1
      · have HA : Hid (hasB q l = true) := by show _ = _; rw [hall, hsn]; simp [hs]
        have hd : decide (l[k].1 = q.1 ∧ l[k].2.1 = q.2.1) = true := by simpa using hs
        rw [hd]
        clear hall hsn hs hd d0 d1 d2 c0 c1 hcc hff hn
        go_wp2
        go_ret
        exact ⟨⟨k, rfl, by rw [HA.out]; simp⟩, hB⟩
      · have HA : Hid (hasB q (l.take (k + 1)) = false) := by show _ = _; rw [hsn, hn.out]; simpa using hs
        have hd : decide (l[k].1 = q.1 ∧ l[k].2.1 = q.2.1) = false := by simpa using hs
        rw [hd]
        clear hall hsn hs hd d0 d1 d2 c0 c1 hcc hff hn
        go_wp2
        go_roundw
        case rel => exact ⟨k + 1, by omega, by go_num, HA, hB⟩
        case measure => simp [intOf]; omega
    · have HA : Hid (hasB q l = false) := by have := hn.out; rwa [List.take_of_length_le (by omega)] at this
      clear hn
      go_wp2
      go_ret
      exact ⟨⟨-1, rfl, by rw [HA.out]; simp⟩, hbw⟩

set_option maxHeartbeats 400000 in
theorem containsFunc_any (b : Nat) (q : P3) (a : Option Addr) (l : List P3) (cap : Nat) (n : Nat) (w : World) (hn : n = l.length) (hl : l.length ≤ 4) (hp : PartsAt w a l) (hb : b < w.heap.size)
    (c0 : w.cell? ⟨b, 0, none⟩ = some (.int .i64 q.1)) (c1 : w.cell? ⟨b, 1, none⟩ = some (.int .i64 q.2.1)) :
    Calls Tryd.prog 22 #[.slice a n cap, .func (.func 35) #[] #[.pointer (some ⟨b, 0, none⟩)]] w fun e w' => e = .returned (.bool (hasB q l)) ∧ Below w.heap.size w w' := by
  subst hn
  have HC := indexFunc_any b q a l cap w hl hp hb c0 c1
  clear hp
  go_enter Tryd.func22, Tryd.ntmps22
  go_wp2_with fail
  refine HC.mono ?_
  rintro e w1 ⟨⟨i, rfl, hi⟩, hb1⟩
  have HI : Hid (decide (0 ≤ i) = hasB q l) := hi
  clear hi HC
  go_wp2
  go_ret
  exact ⟨ret_bool HI.out, hb1⟩

theorem partsAt_take {w : World} {a : Option Addr} {l : List P3} (h : PartsAt w a l) (k : Nat) : PartsAt w a (l.take k) := by
  rcases h with rfl | ⟨b, o, rfl, hlt, hc⟩
  · exact Or.inl (by simp)
  · refine Or.inr ⟨b, o, rfl, hlt, fun i hi => ?_⟩
    have hi' : i < l.length := by simp at hi; omega
    have := hc i hi'
    simpa using this

end Go.Proofs.YtkmohigbedocgaaDoor
