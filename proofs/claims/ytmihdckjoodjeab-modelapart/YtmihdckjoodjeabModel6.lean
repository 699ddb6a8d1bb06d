/- The statements' closed fact about package model, asked of the program: it comes out true. -/
import Derived.Test.YtmihdckjoodjeabModel4
import Derived.Test.YtmihdckjoodjeabModel5
namespace Go.Proofs.Ytmihdckjoodjeab
open Go.RowKit

theorem parts_one (w : World) (p : P3) (t : TypeId) : PartsAt (w.alloc (.cells #[.int .i64 p.1, .int .i64 p.2.1, .int .i64 p.2.2] t)) (some ⟨w.heap.size, 0, none⟩) [p] := by
  refine Or.inr ⟨w.heap.size, 0, rfl, by simp, fun i hi => ?_⟩
  match i, hi with
  | 0, _ => simp
abbrev L2 : List (List P3) := [[(1, 2, 7)], [(0, 2, -7)]]
abbrev S2 : List S4 := [(0, 0, 0, 0), (0, 0, 7, 0)]
theorem readys_two (w : World) (t t' : TypeId) : ReadysAt (((w.alloc (.cells #[.int .i64 1, .int .i64 2, .int .i64 7] t)).alloc (.cells #[.int .i64 0, .int .i64 2, .int .i64 (-7)] t)).alloc (.cells #[.int .i64 0, .slice (some ⟨w.heap.size, 0, none⟩) 1 1, .int .i64 0, .slice (some ⟨w.heap.size + 1, 0, none⟩) 1 1] t')) (some ⟨w.heap.size + 2, 0, none⟩) L2 := by
  have h1 := parts_one w (1, 2, 7) t
  have h2 := parts_one (w.alloc (.cells #[.int .i64 1, .int .i64 2, .int .i64 7] t)) (0, 2, -7) t
  simp only at h1 h2
  have h1' := (h1.below (below1 _ (.cells #[.int .i64 0, .int .i64 2, .int .i64 (-7)] t))).below (below1 _ (.cells #[.int .i64 0, .slice (some ⟨w.heap.size, 0, none⟩) 1 1, .int .i64 0, .slice (some ⟨w.heap.size + 1, 0, none⟩) 1 1] t'))
  have h2' := h2.below (below1 _ (.cells #[.int .i64 0, .slice (some ⟨w.heap.size, 0, none⟩) 1 1, .int .i64 0, .slice (some ⟨w.heap.size + 1, 0, none⟩) 1 1] t'))
  have hh := heap_alloc_new ((w.alloc (.cells #[.int .i64 1, .int .i64 2, .int .i64 7] t)).alloc (.cells #[.int .i64 0, .int .i64 2, .int .i64 (-7)] t)) (.cells #[.int .i64 0, .slice (some ⟨w.heap.size, 0, none⟩) 1 1, .int .i64 0, .slice (some ⟨w.heap.size + 1, 0, none⟩) 1 1] t')
  rw [show ((w.alloc (.cells #[.int .i64 1, .int .i64 2, .int .i64 7] t)).alloc (.cells #[.int .i64 0, .int .i64 2, .int .i64 (-7)] t)).heap.size = w.heap.size + 2 by simp] at hh
  refine Or.inr ⟨w.heap.size + 2, 0, rfl, by simp, fun i hi => ?_⟩
  match i, hi with
  | 0, _ => exact ⟨0, some ⟨w.heap.size, 0, none⟩, 1, (cell_of_row _ _ _ _ _ _ hh).trans rfl, (cell_of_row _ _ _ _ _ _ hh).trans rfl, h1', by simp, by unfold maxLen; omega⟩
  | 1, _ => exact ⟨0, some ⟨w.heap.size + 1, 0, none⟩, 1, (cell_of_row _ _ _ _ _ _ hh).trans rfl, (cell_of_row _ _ _ _ _ _ hh).trans rfl, by simpa using h2', by simp, by unfold maxLen; omega⟩

set_option maxHeartbeats 2000000 in
theorem alive_any (w : World) :
    Calls Try.prog 14 #[] w fun e w' => e = .returned (.bool true) ∧ Below w.heap.size w w' := by
  obtain ⟨i0, hi, hz0, hz1, hz2⟩ := info_parts infoSums
  go_enter Try.func14, Try.ntmps14
  go_wp2_with (at_make; refine wpList_make_full _ rfl _ _ 22 rfl w.heap.size 29 i0 _ 4 Try.underlying22 hi hz0 hz1 .i64 .i64 _ _ 2 rfl rfl rfl rfl (by rw [hz2]; omega) (by unfold maxLen; omega) (Nat.le_refl _) ?_; intro w1 hown1 hgrow1)
  have hB1 : Below w.heap.size w w1 := (Below.refl _ _).grown hgrow1 (Nat.le_refl _) (fun k hk => by cases hk)
  rw [made_noughts (by omega)] at hown1
  have ho1 : OwnM w1 w.heap.size (.slice (some ⟨w.heap.size, 0, none⟩) 2 2) (noughts 2) := hown1
  clear hgrow1 hown1 hi hz0 hz1 hz2
  obtain ⟨ax, cx, hx, hs1, _⟩ := ho1.sums
  cases hx
  refine (mdo_any _ _ (noughts 2) [(1, 2, 7)] _ _ _ _ _ rfl rfl (by decide) (by decide) (hs1.below (below1 w1 _)) (parts_one w1 (1, 2, 7) _) (by simp [Small]) (fun s hs => within_mono (within_right (right_noughts 2 s hs)) (by omega))).mono ?_
  rw [show errM (noughts 2) [(1, 2, 7)] = 0 by decide, show doM (noughts 2) [(1, 2, 7)] = S2 by decide]
  rintro e w2 ⟨v2, rfl, ho2, hb2⟩
  have hB2 : Below w.heap.size w w2 := hB1.trans (((below1 w1 _).trans (hb2.mono (by simp))).mono hB1.size)
  obtain ⟨a2, c2, rfl, hs2, _⟩ := ho2.sums
  clear ho1 hs1 ho2 hb2 hB1
  go_wp2_with fail
  refine (mall_any 2 _ L2 _ _ _ (by decide) (by decide) rfl (by decide) (readys_two w2 _ _) (by decide)).mono ?_
  rw [show allM (noughts 2) L2 = S2 by decide, show errsM (noughts 2) L2 = [0, 11] by decide]
  rintro e w3 ⟨v3, ve3, rfl, ho3, he3, hb3⟩
  have hbb : Below w2.heap.size w2 w3 := (((below1 w2 _).trans ((below1 _ _).mono (by simp))).trans ((below1 _ _).mono (by simp; omega))).trans (hb3.mono (by simp; omega))
  have hB3 : Below w.heap.size w w3 := hB2.trans (hbb.mono hB2.size)
  have hs3 := hs2.below hbb
  obtain ⟨a3, c3, rfl, ht3, _⟩ := ho3.sums
  obtain ⟨g3, k3, rfl, _, hg3⟩ := World.ownsRow.form he3 (by decide)
  have hce : w3.cell? ⟨g3, 1, none⟩ = some (.int .i64 11) := (World.ownsRow.cellAt he3 1 (by decide)).trans rfl
  clear hs2 ho3 he3 hb3 hbb hB2
  rcases hs3 with h | ⟨b, o, rfl, hb, hc⟩
  · cases h
  have hs3 : Hid (SumsL w3 (some ⟨b, o, none⟩) S2) := Or.inr ⟨b, o, rfl, hb, hc⟩
  obtain ⟨_, _, c6, _⟩ := hc 1 (by decide)
  clear hc
  simp only [S2, List.getElem_cons_succ, List.getElem_cons_zero] at c6
  have c6' : w3.cell? ⟨b, o + 6, none⟩ = some (.int .i64 7) := c6
  go_wp2_with fail
  refine (total_any _ S2 _ _ _ rfl (by decide) hs3.out (by unfold RightM; decide)).mono ?_
  rw [show totalB S2 = 7 by decide]
  rintro e w4 ⟨rfl, hb4⟩
  have hB4 : Below w.heap.size w w4 := hB3.trans (hb4.mono hB3.size)
  have hce4 : w4.cell? ⟨g3, 1, none⟩ = some (.int .i64 11) := by rw [hb4.cell (p := ⟨g3, 1, none⟩) hg3]; exact hce
  have ht4 := ht3.below hb4
  have hs4 := hs3.out.below hb4
  have hsz4 := hb4.size
  clear hb4 hce c6 c6' ht3 hs3 hB3
  go_wp2_with fail
  refine (sameSums_self _ _ S2 _ _ _ _ _ rfl rfl (by decide) hs4 ht4).mono ?_
  rintro e w5 ⟨rfl, hb5⟩
  have hB5 : Below w.heap.size w w5 := hB4.trans (hb5.mono hB4.size)
  have hce5 : w5.cell? ⟨g3, 1, none⟩ = some (.int .i64 11) := by rw [hb5.cell (p := ⟨g3, 1, none⟩) (by show g3 < _; omega)]; exact hce4
  clear hb5 hce4 hs4 ht4 hB4
  go_wp2
  go_ret
  exact ⟨rfl, hB5⟩

end Go.Proofs.Ytmihdckjoodjeab
