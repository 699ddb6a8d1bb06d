/- Several texts in one: What inRange, samePlace and what looks for a part of the same place do, called at whatever parts that lie in memory: each answers the plain function's value and leaves all older memory as it was; What part.Wrong does, called at whatever parts. -/
import Derived.Test.YtmjekpdgmdpndaaKJ00
import Derived.Deep.RegionHeld3
import Derived.Deep.DrawnRows
namespace Go.Proofs.Ytmjekpdgmdpndaa
open Go.RowKit
attribute [local go_sem ↓] Go.wp_at_zero Go.wp_at_succ

set_option maxHeartbeats 400000 in
theorem inRange_any (h k n H : Int) (w : World) :
    Calls Try.prog 121 #[.agg #[.int .i64 h, .int .i64 k, .int .i64 n], .int .i64 H] w fun e w' => e = .returned (.bool (inB (h, k, n) H)) ∧ Below w.heap.size w w' := by
  go_enter Try.func121, Try.ntmps121
  go_wp2
  all_goals
    go_ret
    refine ⟨ret_bool ?_, by first | exact below1 _ _ | exact below2 _ _ _⟩
    rw [Bool.eq_iff_iff]; simp [inB]; omega

set_option maxHeartbeats 400000 in
theorem same_any (h k n h' k' : Int) (b : Nat) (w : World) (hb : b < w.heap.size)
  (c0 : w.cell? ⟨b, 0, none⟩ = some (.int .i64 h')) (c1 : w.cell? ⟨b, 1, none⟩ = some (.int .i64 k')) :
    Calls Try.prog 133 #[.agg #[.int .i64 h, .int .i64 k, .int .i64 n], .pointer (some ⟨b, 0, none⟩)] w fun e w' => e = .returned (.bool (decide (h = h' ∧ k = k'))) ∧ Below w.heap.size w w' := by
  go_enter Try.func133, Try.ntmps133
  go_wp2
  all_goals
    go_ret
    refine ⟨ret_bool ?_, below1 _ _⟩
    rw [Bool.eq_iff_iff]; simp_all

set_option maxHeartbeats 400000 in
theorem samePlace_any (h k n : Int) (w : World) :
    Calls Try.prog 123 #[.agg #[.int .i64 h, .int .i64 k, .int .i64 n]] w fun e w' => e = .returned (.func (.func 133) #[] #[.pointer (some ⟨w.heap.size, 0, none⟩)]) ∧ w' = w.alloc (.cells #[.int .i64 h, .int .i64 k, .int .i64 n] 65) := by
  go_enter Try.func123, Try.ntmps123
  go_wp2
  go_ret
  exact ⟨rfl, rfl⟩

set_option maxHeartbeats 400000 in
theorem indexFunc_any (b : Nat) (q : P3) (a : Option Addr) (l : List P3) (cap : Nat) (w : World) (hl : l.length ≤ 4) (hp : PartsAt w a l) (hb : b < w.heap.size)
    (c0 : w.cell? ⟨b, 0, none⟩ = some (.int .i64 q.1)) (c1 : w.cell? ⟨b, 1, none⟩ = some (.int .i64 q.2.1)) :
    Calls Try.prog 132 #[.slice a l.length cap, .func (.func 133) #[] #[.pointer (some ⟨b, 0, none⟩)]] w fun e w' => (∃ i : Int, e = .returned (.int .i64 i) ∧ decide (0 ≤ i) = hasB q l) ∧ Below w.heap.size w w' := by
  go_enter Try.func132, Try.ntmps132
  go_wp2
  go_loopw [8] (fun i w' => ∃ k : Nat, k ≤ l.length ∧ i = .int .i64 k ∧ Hid (hasB q (l.take k) = false) ∧ Below w.heap.size w w') (fun i _ => l.length - (intOf i).toNat)
  case atStart => exact ⟨0, Nat.zero_le _, rfl, rfl, Below.refl _ _⟩
  case round =>
    obtain ⟨k, hk, rfl, hn, hbw⟩ := hrel
    by_cases hlt : k < l.length
    · rcases hp with rfl | ⟨b', o, rfl, hb', hc⟩
      · simp at hlt
      obtain ⟨d0, d1, d2⟩ := hc k hlt
      clear hc
      obtain ⟨hcc, hff⟩ := bcell hbw
      have hsz := hbw.size
      go_wp2_with fail
      refine (same_any _ _ _ q.1 q.2.1 b _ (by omega) (by rw [hcc _ _ hb]; exact c0) (by rw [hcc _ _ hb]; exact c1)).mono ?_
      rintro e w1 ⟨rfl, hb1⟩
      have hB : Below w.heap.size w w1 := hbw.trans (hb1.mono hsz)
      have hsn : hasB q (l.take (k + 1)) = (hasB q (l.take k) || decide (l[k].1 = q.1 ∧ l[k].2.1 = q.2.1)) := by
        rw [take_snoc hlt, hasB_snoc]; rfl
      have hall : hasB q l = (hasB q (l.take (k + 1)) || hasB q (l.drop (k + 1))) := by
        conv => lhs; rw [← List.take_append_drop (k + 1) l]
        simp only [hasB, List.any_append]
      by_cases hs : l[k].1 = q.1 ∧ l[k].2.1 = q.2.1
      · have HA : Hid (hasB q l = true) := by show _ = _; rw [hall, hsn]; simp [hs]
        have hd : decide (l[k].1 = q.1 ∧ l[k].2.1 = q.2.1) = true := by simpa using hs
        rw [hd]
        clear hall hsn hs hd d0 d1 d2 c0 c1 hcc hff hn
        go_wp2
        go_ret
        exact ⟨⟨k, rfl, by rw [HA.out]; simp⟩, hB⟩
      · have HA : Hid (hasB q (l.take (k + 1)) = false) := by show _ = _; rw [hsn, hn.out]; simpa using hs
        have hd : decide (l[k].1 = q.1 ∧ l[k].2.1 = q.2.1) = false := by simpa using hs
        rw [hd]
        clear hall hsn hs hd d0 d1 d2 c0 c1 hcc hff hn
        go_wp2
        go_roundw
        case rel => exact ⟨k + 1, by omega, by go_num, HA, hB⟩
        case measure => simp [intOf]; omega
    · have HA : Hid (hasB q l = false) := by have := hn.out; rwa [List.take_of_length_le (by omega)] at this
      clear hn
      go_wp2
      go_ret
      exact ⟨⟨-1, rfl, by rw [HA.out]; simp⟩, hbw⟩

set_option maxHeartbeats 400000 in
theorem containsFunc_any (b : Nat) (q : P3) (a : Option Addr) (l : List P3) (cap : Nat) (n : Nat) (w : World) (hn : n = l.length) (hl : l.length ≤ 4) (hp : PartsAt w a l) (hb : b < w.heap.size)
    (c0 : w.cell? ⟨b, 0, none⟩ = some (.int .i64 q.1)) (c1 : w.cell? ⟨b, 1, none⟩ = some (.int .i64 q.2.1)) :
    Calls Try.prog 122 #[.slice a n cap, .func (.func 133) #[] #[.pointer (some ⟨b, 0, none⟩)]] w fun e w' => e = .returned (.bool (hasB q l)) ∧ Below w.heap.size w w' := by
  subst hn
  have HC := indexFunc_any b q a l cap w hl hp hb c0 c1
  clear hp
  go_enter Try.func122, Try.ntmps122
  go_wp2_with fail
  refine HC.mono ?_
  rintro e w1 ⟨⟨i, rfl, hi⟩, hb1⟩
  have HI : Hid (decide (0 ≤ i) = hasB q l) := hi
  clear hi HC
  go_wp2
  go_ret
  exact ⟨ret_bool HI.out, hb1⟩

end Go.Proofs.Ytmjekpdgmdpndaa

namespace Go.Proofs.Ytmjekpdgmdpndaa
open Go.RowKit
attribute [local go_sem ↓] Go.wp_at_zero Go.wp_at_succ

set_option maxHeartbeats 1000000 in
theorem wrong_any (a : Option Addr) (l : List P3) (cap : Nat) (H : Int) (w : World) (hm : l.length ≤ 9223372036854775807) (hp : PartsAt w a l) (hcap : l.length ≤ cap) :
    Calls Try.prog 106 #[.slice a l.length cap, .int .i64 H] w fun e w' => e = .returned (.int .i64 (wrong l H)) ∧ Below w.heap.size w w' := by
  by_cases h0 : l.length < 1
  · have HW : Hid (wrong l H = 5) := by show _ = _; simp only [wrong]; rw [if_pos (Or.inl h0)]
    have h0' : (l.length : Int) < 1 := by omega
    clear hp
    go_enter Try.func106, Try.ntmps106
    go_wp2
    go_ret
    exact ⟨ret_int HW.out.symm, Below.refl _ _⟩
  by_cases h4 : 4 < l.length
  · have HW : Hid (wrong l H = 5) := by show _ = _; simp only [wrong]; rw [if_pos (Or.inr h4)]
    have h4' : 4 < (l.length : Int) := by omega
    have h0' : ¬ (l.length : Int) < 1 := by omega
    clear hp
    go_enter Try.func106, Try.ntmps106
    go_wp2
    go_ret
    exact ⟨ret_int HW.out.symm, Below.refl _ _⟩
  have HW : Hid (wrong l H = wrongFrom H [] l) := by show _ = _; simp only [wrong]; rw [if_neg (by omega)]
  have h4' : ¬ 4 < (l.length : Int) := by omega
  have h0' : ¬ (l.length : Int) < 1 := by omega
  go_enter Try.func106, Try.ntmps106
  go_wp2
  go_loopw [17] (fun i w' => ∃ k : Nat, k ≤ l.length ∧ i = .int .i64 k ∧ Hid (wrongFrom H [] l = wrongFrom H (l.take k) (l.drop k)) ∧ Below w.heap.size w w') (fun i _ => l.length - (intOf i).toNat)
  case atStart => exact ⟨0, Nat.zero_le _, rfl, rfl, Below.refl _ _⟩
  case round =>
    obtain ⟨k, hk, rfl, hn, hbw⟩ := hrel
    by_cases hlt : k < l.length
    · have hpt := partsAt_take (hp.below hbw) k
      have hlk : (l.take k).length = k := by simp; omega
      rcases hp with rfl | ⟨b', o, rfl, hb', hc⟩
      · simp at hlt
      obtain ⟨d0, d1, d2⟩ := hc k hlt
      have HS := hn.out
      rw [wrong_step hlt] at HS
      have HN : Hid _ := HS
      clear hc hn HS
      obtain ⟨hcc, hff⟩ := bcell hbw
      have hsz := hbw.size
      go_wp2_with fail
      refine (inRange_any _ _ _ _ _).mono ?_
      rintro e w1 ⟨rfl, hb1⟩
      obtain ⟨hcc1, hff1⟩ := bcell hb1
      have hsz1 : wr.heap.size + 1 ≤ w1.heap.size := by have := hb1.size; simpa using this
      have hB1 : Below w.heap.size w w1 := hbw.trans (((below1 wr _).trans (hb1.mono (by simp))).mono hsz)
      cases hin : inB (l[k].1, l[k].2.1, l[k].2.2) H
      · have HF : Hid (wrongFrom H [] l = 3) := by
          have e1 := HN.out
          rw [show inB l[k] H = false from hin] at e1
          show _ = _
          simpa using e1
        clear HN hin d0 d1 d2
        go_wp2
        go_ret
        exact ⟨ret_int (by rw [HW.out, HF.out]), hB1⟩
      · have HN2 : Hid (wrongFrom H [] l = if hasB l[k] (l.take k) = true then 4 else wrongFrom H (l.take (k + 1)) (l.drop (k + 1))) := by
          have e1 := HN.out
          rw [show inB l[k] H = true from hin] at e1
          show _ = _
          simpa using e1
        clear HN hin d0 d1 d2
        have x0 : w1.cell? ⟨wr.heap.size, 0, none⟩ = some (.int .i64 l[k].1) := by rw [hcc1 _ _ (by simp)]; simp
        have x1 : w1.cell? ⟨wr.heap.size, 1, none⟩ = some (.int .i64 l[k].2.1) := by rw [hcc1 _ _ (by simp)]; simp
        have x2 : w1.cell? ⟨wr.heap.size, 2, none⟩ = some (.int .i64 l[k].2.2) := by rw [hcc1 _ _ (by simp)]; simp
        have hpt1 : PartsAt w1 (some ⟨b', o, none⟩) (l.take k) := hpt.below (((below1 wr _).trans (hb1.mono (by simp))))
        clear hcc1 hff1 hcc hff hpt
        have hkeep : ∀ w', Below w1.heap.size w1 w' → (w'.cell? ⟨wr.heap.size, 0, none⟩ = some (.int .i64 l[k].1) ∧ w'.cell? ⟨wr.heap.size, 1, none⟩ = some (.int .i64 l[k].2.1) ∧ w'.cell? ⟨wr.heap.size, 2, none⟩ = some (.int .i64 l[k].2.2)) := by
          intro w' hb'
          obtain ⟨hc', _⟩ := bcell hb'
          rw [hc' _ _ (by omega), hc' _ _ (by omega), hc' _ _ (by omega)]
          exact ⟨x0, x1, x2⟩
        have HK : Hid _ := hkeep
        clear hkeep
        have hk0 : (0 : Int) ≤ (k : Int) := by omega
        have hkl : (k : Int) ≤ (l.length : Int) := by omega
        have hkc : (k : Int) ≤ (cap : Int) := by omega
        go_wp2_with fail
        go_region_held3 (fun w' => w'.cell? ⟨wr.heap.size, 0, none⟩ = some (.int .i64 l[k].1) ∧ w'.cell? ⟨wr.heap.size, 1, none⟩ = some (.int .i64 l[k].2.1) ∧ w'.cell? ⟨wr.heap.size, 2, none⟩ = some (.int .i64 l[k].2.2)) (
          first
          | exact HK.out _ (Below.refl _ _)
          | exact HK.out _ (Below.refl _ _).drew
          | exact HK.out _ (below1 w1 _).drew
          | exact HK.out _ ((below1 w1 _).drew.trans (hb2.mono (by simp)))) (
          first
          | (go_at_call 123; refine (samePlace_any _ _ _ _).mono ?_; rintro e w2 ⟨rfl, rfl⟩)
          | (go_at_call 122; refine (containsFunc_any w1.heap.size l[k] (some ⟨b', o, none⟩) (l.take k) _ k _ hlk.symm (by omega) (by exact hpt1.below (below1 w1 _).drew) (by simp) (by simp) (by simp)).mono ?_; rintro e w2 ⟨rfl, hb2⟩))
        have hB2 : Below w.heap.size w w2 := hB1.trans (((below1 w1 _).drew.trans (hb2.mono (by simp))).mono (by omega))
        clear x0 x1 x2 HK hb2
        cases hh : hasB l[k] (l.take k)
        · have HR : Hid (wrongFrom H [] l = wrongFrom H (l.take (k + 1)) (l.drop (k + 1))) := by
            have e1 := HN2.out
            rw [hh] at e1
            show _ = _
            simpa using e1
          clear HN2
          go_wp2
          go_roundw
          case rel => exact ⟨k + 1, by omega, by go_num, HR, hB2⟩
          case measure => simp [intOf]; omega
        · have HF : Hid (wrongFrom H [] l = 4) := by
            have e1 := HN2.out
            rw [hh] at e1
            show _ = _
            simpa using e1
          clear HN2
          go_wp2
          go_ret
          exact ⟨ret_int (by rw [HW.out, HF.out]), hB2⟩
    · clear hp
      have HE : Hid (wrongFrom H [] l = 0) := by
        have e1 := hn.out
        rw [List.drop_eq_nil_of_le (by omega)] at e1
        exact e1
      clear hn
      go_wp2
      go_ret
      exact ⟨ret_int (by rw [HW.out, HE.out]), hbw⟩

end Go.Proofs.Ytmjekpdgmdpndaa
