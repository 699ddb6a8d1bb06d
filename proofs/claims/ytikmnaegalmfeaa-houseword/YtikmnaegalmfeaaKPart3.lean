/- What part.Fits, part.Do and the document's RightSums do, called at whatever parts and sums that lie within bounds. -/
import Derived.Test.YtikmnaegalmfeaaKJ01
import Derived.Deep.RegionHeld3
import Derived.WalkSmall
import Derived.Deep.DrawnRows
namespace Go.Proofs.Ytikmnaegalmfeaa
open Go.RowKit
attribute [local go_sem ↓] Go.wp_at_zero Go.wp_at_succ

theorem idx4_0 (v0 v1 v2 v3 : Value) (w : World) : (Instr.index 27 (.agg #[v0, v1, v2, v3]) (.int .i64 0)).run Try.prog w = .ok v0 w := by kernel_rfl
theorem idx4_1 (v0 v1 v2 v3 : Value) (w : World) : (Instr.index 27 (.agg #[v0, v1, v2, v3]) (.int .i64 1)).run Try.prog w = .ok v1 w := by kernel_rfl
theorem idx4_2 (v0 v1 v2 v3 : Value) (w : World) : (Instr.index 27 (.agg #[v0, v1, v2, v3]) (.int .i64 2)).run Try.prog w = .ok v2 w := by kernel_rfl
theorem idx4_3 (v0 v1 v2 v3 : Value) (w : World) : (Instr.index 27 (.agg #[v0, v1, v2, v3]) (.int .i64 3)).run Try.prog w = .ok v3 w := by kernel_rfl
attribute [local go_sem ↓] idx4_0 idx4_1 idx4_2 idx4_3
def sv (s : S4) : Value := .agg #[.int .i64 s.1, .int .i64 s.2.1, .int .i64 s.2.2.1, .int .i64 s.2.2.2]

set_option maxHeartbeats 1000000 in
theorem rightSums_any (s0 s1 s2 s3 : Int) (w : World) :
    Calls Try.prog 28 #[.agg #[.int .i64 s0, .int .i64 s1, .int .i64 s2, .int .i64 s3]] w fun e w' => e = .returned (.bool (rightS (s0, s1, s2, s3))) ∧ Below w.heap.size w w' := by
  go_enter Try.func28, Try.ntmps28
  go_wp2
  go_loopw [6] (fun i w' => ∃ k : Int, 0 ≤ k ∧ k ≤ 4 ∧ i = .int .i64 k ∧ (0 < k → 0 ≤ s0 ∧ s0 ≤ 1048576) ∧ (1 < k → 0 ≤ s1 ∧ s1 ≤ 1048576) ∧ (2 < k → 0 ≤ s2 ∧ s2 ≤ 1048576) ∧ (3 < k → 0 ≤ s3 ∧ s3 ≤ 1048576) ∧ Below w.heap.size w w') (fun i _ => 4 - (intOf i).toNat)
  case atStart => exact ⟨0, by omega, by omega, rfl, by omega, by omega, by omega, by omega, below1 _ _⟩
  case round =>
    obtain ⟨k, hk0, hk, rfl, g0, g1, g2, g3, hbw⟩ := hrel
    have hk5 : k = 0 ∨ k = 1 ∨ k = 2 ∨ k = 3 ∨ k = 4 := by omega
    rcases hk5 with rfl | rfl | rfl | rfl | rfl
    · go_wp2
      all_goals first
        | (go_ret; exact ⟨ret_bool (by rw [eq_comm, Bool.eq_false_iff]; simp only [rightS, ne_eq, decide_eq_true_eq]; omega), hbw⟩)
        | (go_roundw
           case rel => exact ⟨1, by omega, by omega, rfl, by omega, by omega, by omega, by omega, hbw⟩
           case measure => simp [intOf])
    · have g := g0 (by omega)
      clear g0 g1 g2 g3
      go_wp2
      all_goals first
        | (go_ret; exact ⟨ret_bool (by rw [eq_comm, Bool.eq_false_iff]; simp only [rightS, ne_eq, decide_eq_true_eq]; omega), hbw⟩)
        | (go_roundw
           case rel => exact ⟨2, by omega, by omega, rfl, by omega, by omega, by omega, by omega, hbw⟩
           case measure => simp [intOf])
    · have g := g0 (by omega)
      have g' := g1 (by omega)
      clear g0 g1 g2 g3
      go_wp2
      all_goals first
        | (go_ret; exact ⟨ret_bool (by rw [eq_comm, Bool.eq_false_iff]; simp only [rightS, ne_eq, decide_eq_true_eq]; omega), hbw⟩)
        | (go_roundw
           case rel => exact ⟨3, by omega, by omega, rfl, by omega, by omega, by omega, by omega, hbw⟩
           case measure => simp [intOf])
    · have g := g0 (by omega)
      have g' := g1 (by omega)
      have g'' := g2 (by omega)
      clear g0 g1 g2 g3
      go_wp2
      all_goals first
        | (go_ret; exact ⟨ret_bool (by rw [eq_comm, Bool.eq_false_iff]; simp only [rightS, ne_eq, decide_eq_true_eq]; omega), hbw⟩)
        | (go_roundw
           case rel => exact ⟨4, by omega, by omega, rfl, by omega, by omega, by omega, by omega, hbw⟩
           case measure => simp [intOf])
    · have G : Hid (rightS (s0, s1, s2, s3) = true) := by
        show _ = _
        simp only [rightS, decide_eq_true_eq]
        exact ⟨g0 (by omega), g1 (by omega), g2 (by omega), g3 (by omega)⟩
      clear g0 g1 g2 g3
      go_wp2
      go_ret
      exact ⟨ret_bool G.out.symm, hbw⟩

set_option maxHeartbeats 1000000 in
theorem fits_any (s0 s1 s2 s3 : Int) (a : Option Addr) (l : List P3) (cap n : Nat) (w : World) (hn : n = l.length) (hl : l.length ≤ 4) (hp : PartsAt w a l) (hs : Small l) (hw : Within 2199023255552 (s0, s1, s2, s3)) :
    Calls Try.prog 40 #[.agg #[.int .i64 s0, .int .i64 s1, .int .i64 s2, .int .i64 s3], .slice a n cap] w fun e w' => e = .returned (.int .i64 (fitsB (s0, s1, s2, s3) l)) ∧ Below w.heap.size w w' := by
  subst hn
  obtain ⟨⟨a1, a2⟩, ⟨b1, b2⟩, ⟨c1, c2⟩, ⟨d1, d2⟩⟩ := hw
  simp only at a1 a2 b1 b2 c1 c2 d1 d2
  go_enter Try.func40, Try.ntmps40
  go_wp2
  go_loopw [10] (fun i w' => ∃ k : Nat, k ≤ l.length ∧ i = .int .i64 k ∧ Hid (fitsB (s0, s1, s2, s3) l = fitsB (s0, s1, s2, s3) (l.drop k)) ∧ Below (w.alloc (.cells #[.int .i64 s0, .int .i64 s1, .int .i64 s2, .int .i64 s3] 27)).heap.size (w.alloc (.cells #[.int .i64 s0, .int .i64 s1, .int .i64 s2, .int .i64 s3] 27)) w') (fun i _ => l.length - (intOf i).toNat)
  case atStart => exact ⟨0, Nat.zero_le _, rfl, rfl, Below.refl _ _⟩
  case round =>
    obtain ⟨k, hk, rfl, hn, hbw⟩ := hrel
    have hB : Below w.heap.size w wr := (below1 w _).trans (hbw.mono (by simp))
    have hsz : w.heap.size + 1 ≤ wr.heap.size := by have := hbw.size; simpa using this
    by_cases hlt : k < l.length
    · rcases hp with rfl | ⟨b', o, rfl, hb', hc⟩
      · simp at hlt
      obtain ⟨d0, d1', d2'⟩ := hc k hlt
      have HS := hn.out
      rw [fits_step hlt] at HS
      have hpn := small_get hs hlt
      obtain ⟨hcc, hff⟩ := bcell hbw
      have z0 : wr.cell? ⟨w.heap.size, 0, none⟩ = some (.int .i64 s0) := by rw [hcc _ _ (by simp)]; simp
      have z1 : wr.cell? ⟨w.heap.size, 1, none⟩ = some (.int .i64 s1) := by rw [hcc _ _ (by simp)]; simp
      have z2 : wr.cell? ⟨w.heap.size, 2, none⟩ = some (.int .i64 s2) := by rw [hcc _ _ (by simp)]; simp
      have z3 : wr.cell? ⟨w.heap.size, 3, none⟩ = some (.int .i64 s3) := by rw [hcc _ _ (by simp)]; simp
      clear hcc hff hc hn hs
      obtain ⟨hcc, hff⟩ := bcell hB
      generalize l[k].1 = p0 at *
      generalize l[k].2.1 = p1 at *
      generalize l[k].2.2 = p2 at *
      have HN : Hid _ := HS
      clear HS
      go_wp2_with fail
      refine (hasKey_any _ _ _ _).mono ?_
      rintro e w1 ⟨rfl, hb1⟩
      obtain ⟨hcc1, hff1⟩ := bcell hb1
      have hsz1 : wr.heap.size + 1 ≤ w1.heap.size := by have := hb1.size; simpa using this
      have hB1 : Below (w.alloc (.cells #[.int .i64 s0, .int .i64 s1, .int .i64 s2, .int .i64 s3] 27)).heap.size (w.alloc (.cells #[.int .i64 s0, .int .i64 s1, .int .i64 s2, .int .i64 s3] 27)) w1 := hbw.trans (((below1 wr _).trans (hb1.mono (by simp))).mono (by simpa using hsz))
      have hB0 : Below w.heap.size w w1 := (below1 w _).trans (hB1.mono (by simp))
      have y0 : w1.cell? ⟨w.heap.size, 0, none⟩ = some (.int .i64 s0) := by rw [hcc1 _ _ (by simp; omega), Below.cell (below1 wr _) (by show w.heap.size < _; omega)]; exact z0
      have y1 : w1.cell? ⟨w.heap.size, 1, none⟩ = some (.int .i64 s1) := by rw [hcc1 _ _ (by simp; omega), Below.cell (below1 wr _) (by show w.heap.size < _; omega)]; exact z1
      have y2 : w1.cell? ⟨w.heap.size, 2, none⟩ = some (.int .i64 s2) := by rw [hcc1 _ _ (by simp; omega), Below.cell (below1 wr _) (by show w.heap.size < _; omega)]; exact z2
      have y3 : w1.cell? ⟨w.heap.size, 3, none⟩ = some (.int .i64 s3) := by rw [hcc1 _ _ (by simp; omega), Below.cell (below1 wr _) (by show w.heap.size < _; omega)]; exact z3
      have q1 : w1.cell? ⟨wr.heap.size, 1, none⟩ = some (.int .i64 p1) := by rw [hcc1 _ _ (by simp)]; simp
      have q2 : w1.cell? ⟨wr.heap.size, 2, none⟩ = some (.int .i64 p2) := by rw [hcc1 _ _ (by simp)]; simp
      clear hcc1 hff1 hcc hff z0 z1 z2 z3 d0 d1' d2' hb1 hbw hB
      by_cases hkey : 0 ≤ p1 ∧ p1 < 4
      · have hkb : keyB p1 = true := by simpa [keyB] using hkey
        have HN2 := HN.out
        rw [hkb] at HN2 ⊢
        clear HN hkb
        have h4 : p1 = 0 ∨ p1 = 1 ∨ p1 = 2 ∨ p1 = 3 := by omega
        clear hkey
        rcases h4 with rfl | rfl | rfl | rfl
        all_goals
          simp only [sget, ↓reduceIte, Int.reduceEq] at HN2
          have HN : Hid _ := HN2
          clear HN2
          obtain ⟨hp1, hp2⟩ := hpn
          go_wp2
          go_quiet (fail)
          go_wp2
          all_goals first
            | (go_ret; exact ⟨ret_int (by rw [HN.out, if_pos (by omega)]), below_drewN hB0 _⟩)
            | (go_ret; exact ⟨ret_int (by rw [HN.out, if_neg (by omega), if_pos (by omega)]), below_drewN hB0 _⟩)
            | (go_roundw
               case rel => exact ⟨k + 1, by omega, by go_num, by show _ = _; rw [HN.out, if_neg (by omega), if_neg (by omega)], below_drewN hB1 _⟩
               case measure => simp [intOf]; omega)
      · have hkb : keyB p1 = false := by simpa [keyB] using hkey
        have HN2 : Hid (fitsB (s0, s1, s2, s3) l = fitsB (s0, s1, s2, s3) (l.drop (k + 1))) := by
          have := HN.out
          rw [hkb] at this
          show _ = _
          simpa using this
        rw [hkb]
        clear HN hkb
        go_wp2
        go_roundw
        case rel => exact ⟨k + 1, by omega, by go_num, HN2, hB1⟩
        case measure => simp [intOf]; omega
    · clear hp
      have HE : Hid (fitsB (s0, s1, s2, s3) l = 0) := by
        have e1 := hn.out
        rw [List.drop_eq_nil_of_le (by omega)] at e1
        exact e1
      clear hn
      go_wp2
      go_ret
      exact ⟨ret_int HE.out.symm, hB⟩

end Go.Proofs.Ytikmnaegalmfeaa
