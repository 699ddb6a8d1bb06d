/- What inRange, samePlace and what looks for a part of the same place do, called at whatever parts that lie in memory: each answers the plain function's value and leaves all older memory as it was. -/
import Derived.Test.YtmjekpdgmdpndaaKJ00
namespace Go.Proofs.Ytmjekpdgmdpndaa
open Go.RowKit
attribute [local go_sem ↓] Go.wp_at_zero Go.wp_at_succ

set_option maxHeartbeats 400000 in
theorem inRange_any (h k n H : Int) (w : World) :
    Calls Try.prog 121 #[.agg #[.int .i64 h, .int .i64 k, .int .i64 n], .int .i64 H] w fun e w' => e = .returned (.bool (inB (h, k, n) H)) ∧ Below w.heap.size w w' := by
  go_enter Try.func121, Try.ntmps121
  go_wp2
  all_goals
    go_ret
    refine ⟨ret_bool ?_, by first | exact below1 _ _ | exact below2 _ _ _⟩
    rw [Bool.eq_iff_iff]; simp [inB]; omega

set_option maxHeartbeats 400000 in
theorem same_any (h k n h' k' : Int) (b : Nat) (w : World) (hb : b < w.heap.size)
  (c0 : w.cell? ⟨b, 0, none⟩ = some (.int .i64 h')) (c1 : w.cell? ⟨b, 1, none⟩ = some (.int .i64 k')) :
    Calls Try.prog 133 #[.agg #[.int .i64 h, .int .i64 k, .int .i64 n], .pointer (some ⟨b, 0, none⟩)] w fun e w' => e = .returned (.bool (decide (h = h' ∧ k = k'))) ∧ Below w.heap.size w w' := by
  go_enter Try.func133, Try.ntmps133
  go_wp2
  all_goals
    go_ret
    refine ⟨ret_bool ?_, below1 _ _⟩
    rw [Bool.eq_iff_iff]; simp_all

set_option maxHeartbeats 400000 in
theorem samePlace_any (h k n : Int) (w : World) :
    Calls Try.prog 123 #[.agg #[.int .i64 h, .int .i64 k, .int .i64 n]] w fun e w' => e = .returned (.func (.func 133) #[] #[.pointer (some ⟨w.heap.size, 0, none⟩)]) ∧ w' = w.alloc (.cells #[.int .i64 h, .int .i64 k, .int .i64 n] 65) := by
  go_enter Try.func123, Try.ntmps123
  go_wp2
  go_ret
  exact ⟨rfl, rfl⟩

set_option maxHeartbeats 400000 in
theorem indexFunc_any (b : Nat) (q : P3) (a : Option Addr) (l : List P3) (cap : Nat) (w : World) (hl : l.length ≤ 4) (hp : PartsAt w a l) (hb : b < w.heap.size)
    (c0 : w.cell? ⟨b, 0, none⟩ = some (.int .i64 q.1)) (c1 : w.cell? ⟨b, 1, none⟩ = some (.int .i64 q.2.1)) :
    Calls Try.prog 132 #[.slice a l.length cap, .func (.func 133) #[] #[.pointer (some ⟨b, 0, none⟩)]] w fun e w' => (∃ i : Int, e = .returned (.int .i64 i) ∧ decide (0 ≤ i) = hasB q l) ∧ Below w.heap.size w w' := by
  go_enter Try.func132, Try.ntmps132
  go_wp2
  go_loopw [8] (fun i w' => ∃ k : Nat, k ≤ l.length ∧ i = .int .i64 k ∧ Hid (hasB q (l.take k) = false) ∧ Below w.heap.size w w') (fun i _ => l.length - (intOf i).toNat)
  case atStart => exact ⟨0, Nat.zero_le _, rfl, rfl, Below.refl _ _⟩
  case round =>
    obtain ⟨k, hk, rfl, hn, hbw⟩ := hrel
    by_cases hlt : k < l.length
    · rcases hp with rfl | ⟨b', o, rfl, hb', hc⟩
      · simp at hlt
      obtain ⟨d0, d1, d2⟩ := hc k hlt
      clear hc
      obtain ⟨hcc, hff⟩ := bcell hbw
      have hsz := hbw.size
      go_wp2_with fail
      refine (same_any _ _ _ q.1 q.2.1 b _ (by omega) (by rw [hcc _ _ hb]; exact c0) (by rw [hcc _ _ hb]; exact c1)).mono ?_
      rintro e w1 ⟨rfl, hb1⟩
      have hB : Below w.heap.size w w1 := hbw.trans (hb1.mono hsz)
      have hsn : hasB q (l.take (k + 1)) = (hasB q (l.take k) || decide (l[k].1 = q.1 ∧ l[k].2.1 = q.2.1)) := by
        rw [take_snoc hlt, hasB_snoc]; rfl
      have hall : hasB q l = (hasB q (l.take (k + 1)) || hasB q (l.drop (k + 1))) := by
        conv => lhs; rw [← List.take_append_drop (k + 1) l]
        simp only [hasB, List.any_append]
      by_cases hs : l[k].1 = q.1 ∧ l[k].2.1 = q.2.1
      · have HA : Hid (hasB q l = true) := by show _ = _; rw [hall, hsn]; simp [hs]
        have hd : decide (l[k].1 = q.1 ∧ l[k].2.1 = q.2.1) = true := by simpa using hs
        rw [hd]
        clear hall hsn hs hd d0 d1 d2 c0 c1 hcc hff hn
        go_wp2
        go_ret
        exact ⟨⟨k, rfl, by rw [HA.out]; simp⟩, hB⟩
      · have HA : Hid (hasB q (l.take (k + 1)) = false) := by show _ = _; rw [hsn, hn.out]; simpa using hs
        have hd : decide (l[k].1 = q.1 ∧ l[k].2.1 = q.2.1) = false := by simpa using hs
        rw [hd]
        clear hall hsn hs hd d0 d1 d2 c0 c1 hcc hff hn
        go_wp2
        go_roundw
        case rel => exact ⟨k + 1, by omega, by go_num, HA, hB⟩
        case measure => simp [intOf]; omega
    · have HA : Hid (hasB q l = false) := by have := hn.out; rwa [List.take_of_length_le (by omega)] at this
      clear hn
      go_wp2
      go_ret
      exact ⟨⟨-1, rfl, by rw [HA.out]; simp⟩, hbw⟩

set_option maxHeartbeats 400000 in
theorem containsFunc_any (b : Nat) (q : P3) (a : Option Addr) (l : List P3) (cap : Nat) (n : Nat) (w : World) (hn : n = l.length) (hl : l.length ≤ 4) (hp : PartsAt w a l) (hb : b < w.heap.size)
    (c0 : w.cell? ⟨b, 0, none⟩ = some (.int .i64 q.1)) (c1 : w.cell? ⟨b, 1, none⟩ = some (.int .i64 q.2.1)) :
    Calls Try.prog 122 #[.slice a n cap, .func (.func 133) #[] #[.pointer (some ⟨b, 0, none⟩)]] w fun e w' => e = .returned (.bool (hasB q l)) ∧ Below w.heap.size w w' := by
  subst hn
  have HC := indexFunc_any b q a l cap w hl hp hb c0 c1
  clear hp
  go_enter Try.func122, Try.ntmps122
  go_wp2_with fail
  refine HC.mono ?_
  rintro e w1 ⟨⟨i, rfl, hi⟩, hb1⟩
  have HI : Hid (decide (0 ≤ i) = hasB q l) := hi
  clear hi HC
  go_wp2
  go_ret
  exact ⟨ret_bool HI.out, hb1⟩

end Go.Proofs.Ytmjekpdgmdpndaa
