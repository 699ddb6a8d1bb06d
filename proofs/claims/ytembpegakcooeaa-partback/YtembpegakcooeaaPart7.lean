/- The statements' closed fact about package part, asked of the program: it comes out true. -/
import Derived.Test.YtembpegakcooeaaPart2
import Derived.Test.YtembpegakcooeaaPart3
import Derived.Test.YtembpegakcooeaaPart4
import Derived.Test.YtembpegakcooeaaPart6
namespace Go.Proofs.Ytembpegakcooeaa
open Go.RowKit

abbrev l2 : List P3 := [(2, 1, 5), (0, 3, -2)]
theorem sort_l2 : sortB l2 = [0, 2] := by simp [sortB, List.mergeSort, List.MergeSort.Internal.splitInTwo]
theorem houses_l2 : housesB l2 = [0, 2] := by rw [housesB, sort_l2]; decide
theorem parts_l2 (w : World) (t : TypeId) : PartsAt (w.alloc (.cells #[.int .i64 2, .int .i64 1, .int .i64 5, .int .i64 0, .int .i64 3, .int .i64 (-2)] t)) (some ⟨w.heap.size, 0, none⟩) l2 := by
  refine Or.inr ⟨w.heap.size, 0, rfl, by simp, fun i hi => ?_⟩
  match i, hi with
  | 0, _ => simp
  | 1, _ => simp
theorem parts_drop {w : World} {b o : Nat} {p : P3} {l : List P3} (h : PartsAt w (some ⟨b, o, none⟩) (p :: l)) : PartsAt w (some ⟨b, o + 3, none⟩) l := by
  rcases h with h | ⟨b', o', e, hlt, hc⟩
  · cases h
  · cases e
    refine Or.inr ⟨b, o + 3, rfl, hlt, fun i hi => ?_⟩
    have := hc (i + 1) (by simpa using hi)
    simpa [show o + (i + 1) * 3 = o + 3 + i * 3 by omega] using this

attribute [local go_sem ↓] idx4_1
set_option maxHeartbeats 1000000 in
theorem alive_any (w : World) :
    Calls Try.prog 17 #[] w fun e w' => e = .returned (.bool true) ∧ Below w.heap.size w w' := by
  go_enter Try.func17, Try.ntmps17
  go_wp2_with fail
  have hp := parts_l2 w 36
  have hbA := below1 w (.cells #[.int .i64 2, .int .i64 1, .int .i64 5, .int .i64 0, .int .i64 3, .int .i64 (-2)] 36)
  have hsA : w.heap.size < (w.alloc (.cells #[.int .i64 2, .int .i64 1, .int .i64 5, .int .i64 0, .int .i64 3, .int .i64 (-2)] 36)).heap.size := by simp
  generalize w.alloc (.cells #[.int .i64 2, .int .i64 1, .int .i64 5, .int .i64 0, .int .i64 3, .int .i64 (-2)] 36) = wa at *
  refine (wrong_any _ l2 2 3 _ (by decide) hp (by decide)).mono ?_
  rw [show wrong l2 3 = 0 by decide]
  rintro e w1 ⟨rfl, hb1⟩
  have hp1 := hp.below hb1
  go_wp2_with fail
  refine (wrong_any _ l2 2 2 _ (by decide) hp1 (by decide)).mono ?_
  rw [show wrong l2 2 = 3 by decide]
  rintro e w2 ⟨rfl, hb2⟩
  have hp2 := hp1.below hb2
  go_wp2_with fail
  refine (of_any 2 _ l2 2 _ _ rfl (by decide) hp2).mono ?_
  rintro e w3 ⟨v3, rfl, ho3, hb3⟩
  have hp3 := hp2.below hb3
  rw [show ofB l2 2 = [(2, 1, 5)] by decide] at ho3
  obtain ⟨a3, c3, rfl, _, _⟩ := ho3.parts
  clear ho3
  go_wp2_with fail
  refine (houses_any _ l2 2 _ _ rfl (by decide) (by decide) hp3).mono ?_
  rintro e w4 ⟨v4, rfl, ho4, hb4⟩
  have hp4 := hp3.below hb4
  rw [houses_l2] at ho4
  obtain ⟨a4, c4, rfl⟩ : ∃ a c, v4 = .slice a 2 c := by
    rcases ho4.2 with ⟨_, h0⟩ | ⟨g, cap, cur, hv, _⟩
    · cases h0
    · exact ⟨_, _, hv⟩
  clear ho4
  go_wp2_with fail
  refine (fits_any 0 0 0 0 _ [(2, 1, 5)] _ _ _ rfl (by decide) (partsAt_take hp4 1) (by simp [Small]) (by simp [Within])).mono ?_
  rw [show fitsB (0, 0, 0, 0) [(2, 1, 5)] = 0 by decide]
  rintro e w5 ⟨rfl, hb5⟩
  have hp5 := hp4.below hb5
  go_wp2_with fail
  refine (fits_any 0 0 0 0 _ [(0, 3, -2)] _ _ _ rfl (by decide) (parts_drop hp5) (by simp [Small]) (by simp [Within])).mono ?_
  rw [show fitsB (0, 0, 0, 0) [(0, 3, -2)] = 11 by decide]
  rintro e w6 ⟨rfl, hb6⟩
  have hp6 := hp5.below hb6
  go_wp2_with fail
  refine (do_any 0 0 0 0 _ [(2, 1, 5)] _ _ _ rfl (by decide) (partsAt_take hp6 1) (by simp [Small]) (by simp [Within])).mono ?_
  rintro e w7 ⟨⟨t0, t1, t2, t3, ht, rfl⟩, hb7⟩
  rw [show doB (0, 0, 0, 0) [(2, 1, 5)] = (0, 5, 0, 0) by decide] at ht
  simp only [Prod.mk.injEq] at ht
  obtain ⟨rfl, rfl, rfl, rfl⟩ := ht
  have hB : Below w.heap.size w w7 := hbA.trans ((hb1.trans ((hb2.trans ((hb3.trans ((hb4.trans ((hb5.trans ((hb6.trans (hb7.mono hb6.size)).mono hb5.size)).mono hb4.size)).mono hb3.size)).mono hb2.size)).mono hb1.size)).mono (Nat.le_of_lt hsA))
  go_wp2
  go_ret
  exact ⟨rfl, hB⟩

end Go.Proofs.Ytembpegakcooeaa
