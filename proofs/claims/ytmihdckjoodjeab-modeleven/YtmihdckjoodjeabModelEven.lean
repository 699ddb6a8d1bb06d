/- ModelEven, walked: called at whatever sums and parts it answers true and leaves all older memory as it was. -/
import Derived.Test.YtmihdckjoodjeabModel6
namespace Go.Proofs.Ytmihdckjoodjeab
open Go.RowKit
attribute [local go_sem ↓] Go.wp_at_zero Go.wp_at_succ

theorem sumN_take {l : List P3} {k : Nat} (h : k < l.length) : sumN (l.take (k + 1)) = sumN (l.take k) + l[k].2.2 := by
  rw [take_snoc h]
  simp only [sumN, List.map_append, List.sum_append, List.map_cons, List.map_nil, List.sum_cons, List.sum_nil, Int.add_zero]
theorem sumN_bound {l : List P3} (h : Small l) : -(l.length * 1048576) ≤ sumN l ∧ sumN l ≤ l.length * 1048576 := by
  induction l with
  | nil => simp [sumN]
  | cons p t ih =>
    have h1 := h p (by simp)
    have h2 := ih (fun x hx => h x (by simp [hx]))
    simp only [sumN, List.map_cons, List.sum_cons, List.length_cons] at *
    omega
/-- One sum of a house, where it lies. -/
theorem SumsL.at {w : World} {b o : Nat} {S : List S4} (h : SumsL w (some ⟨b, o, none⟩) S) {i : Nat} (hi : i < S.length) :
    w.cell? ⟨b, o + i * 4, none⟩ = some (.int .i64 (sget S[i] 0)) ∧ w.cell? ⟨b, o + i * 4 + 1, none⟩ = some (.int .i64 (sget S[i] 1)) ∧ w.cell? ⟨b, o + i * 4 + 2, none⟩ = some (.int .i64 (sget S[i] 2)) ∧ w.cell? ⟨b, o + i * 4 + 3, none⟩ = some (.int .i64 (sget S[i] 3)) := by
  rcases h with rfl | ⟨b', o', e, _, hc⟩
  · simp at hi
  · cases e
    exact hc i hi
theorem SumsL.some {w : World} {a : Option Addr} {S : List S4} (h : SumsL w a S) (hn : 1 ≤ S.length) : ∃ b o, a = .some ⟨b, o, none⟩ ∧ b < w.heap.size := by
  rcases h with rfl | ⟨b, o, e, hb, _⟩
  · simp at hn
  · exact ⟨b, o, e, hb⟩

set_option maxHeartbeats 2000000 in
theorem modelEven_any (a a' : Option Addr) (S : List S4) (l : List P3) (cap n cap' n' : Nat) (w : World) (hn : n = S.length) (hn' : n' = l.length) (hl : S.length ≤ 9223372036854775807) (hl' : l.length ≤ 9223372036854775807) (hp : SumsL w a S) (hq : PartsAt w a' l) :
    Calls Try.prog 5 #[.slice a n cap, .slice a' n' cap'] w fun e w' => e = .returned (.bool true) ∧ Below w.heap.size w w' := by
  subst hn hn'
  go_enter Try.func5, Try.ntmps5
  go_wp2_with fail
  refine (alive_any w).mono ?_
  rintro e w1 ⟨rfl, hb1⟩
  have hp1 := hp.below hb1
  have hq1 := hq.below hb1
  clear hp hq
  go_wp2_with fail
  refine (right_any a a' S l cap _ cap' _ w1 rfl rfl hl hl' hp1 hq1).mono ?_
  rintro e w2 ⟨rfl, hb2⟩
  have hp2 := hp1.below hb2
  have hq2 := hq1.below hb2
  have hB2 : Below w.heap.size w w2 := hb1.trans (hb2.mono hb1.size)
  clear hp1 hq1 hb1 hb2
  cases hrb : rightB S l
  · clear hp2 hq2
    go_wp2
    go_ret
    exact ⟨rfl, hB2⟩
  · obtain ⟨hR, h1, h3, hw⟩ := rightB_true hrb
    obtain ⟨_, h4, hin, _⟩ := wrong_ok hw
    have hsm := small_of hin
    have HR : Hid (RightM S ∧ wrong l S.length = 0 ∧ (∀ p ∈ l, inB p S.length = true) ∧ Small l) := ⟨hR, hw, hin, hsm⟩
    clear hR hw hin hsm
    have HP : Hid (SumsL w2 a S ∧ PartsAt w2 a' l) := ⟨hp2, hq2⟩
    clear hp2 hq2
    go_wp2_with fail
    refine (mdo_any a a' S l _ _ _ _ _ rfl rfl h3 h4 HP.out.1 HP.out.2 HR.out.2.2.2 (fun s hs => within_mono (within_right (HR.out.1 s hs)) (by omega))).mono ?_
    rintro e w3 ⟨v3, rfl, ho3, hb3⟩
    have hB3 : Below w.heap.size w w3 := hB2.trans (hb3.mono hB2.size)
    obtain ⟨ax, cx, rfl, hx3, _⟩ := ho3.sums
    have hp3 := HP.out.1.below hb3
    have hq3 := HP.out.2.below hb3
    rw [doM_len]
    clear ho3 hb3 hB2 HP
    by_cases he : errM S l = 0
    · rw [he]
      have hR' : RightM (doM S l) := right_doM HR.out.1 HR.out.2.1
      have HE : Hid (errM S l = 0 ∧ (doM S l).length = S.length ∧ RightM (doM S l)) := ⟨he, doM_len S l, hR'⟩
      clear he hR'
      obtain ⟨bx, ox, rfl, hbx⟩ := hx3.some (by rw [HE.out.2.1]; exact h1)
      obtain ⟨bs, os, rfl, hbs⟩ := hp3.some h1
      have HM : Hid (SumsL w3 (some ⟨bx, ox, none⟩) (doM S l) ∧ SumsL w3 (some ⟨bs, os, none⟩) S ∧ PartsAt w3 a' l) := ⟨hx3, hp3, hq3⟩
      clear hx3 hp3 hq3
      go_wp2
      go_loopw [7, 29] (fun t i w' => ∃ k : Nat, k ≤ l.length ∧ i = .int .i64 k ∧ t = .int .i64 (sumN (l.take k)) ∧ Below w3.heap.size w3 w') (fun _ i _ => l.length - (intOf i).toNat)
      case atStart => exact ⟨0, Nat.zero_le _, rfl, rfl, Below.refl _ _⟩
      case round =>
        obtain ⟨k, hk, rfl, rfl, hbw⟩ := hrel
        have hsz := hbw.size
        by_cases hlt : k < l.length
        · have hpw := HM.out.2.2.below hbw
          rcases hpw with rfl | ⟨b', o, rfl, hb', hc⟩
          · simp at hlt
          obtain ⟨d0, d1, d2⟩ := hc k hlt
          clear hc
          have hmem : l[k] ∈ l := List.getElem_mem hlt
          have hik := HR.out.2.2.1 _ hmem
          simp only [inB, decide_eq_true_eq] at hik
          obtain ⟨i, hi⟩ : ∃ i : Nat, l[k].1 = (i : Int) := ⟨l[k].1.toNat, by omega⟩
          have hiS : i < S.length := by omega
          have hiX : i < (doM S l).length := by rw [HE.out.2.1]; exact hiS
          obtain ⟨p1, p2⟩ := part_even HR.out.2.1 HE.out.1 hmem hi hiS hiX
          have hsb := sget_in (k := l[k].2.1) (HR.out.1 _ (List.getElem_mem hiS)) (by simp only [keyB, decide_eq_true_eq]; omega)
          have hX := (HM.out.1.below hbw).at hiX
          have hS := (HM.out.2.1.below hbw).at hiS
          have HT : Hid (sumN (l.take (k + 1)) = sumN (l.take k) + l[k].2.2) := sumN_take hlt
          have htb := sumN_bound (small_take HR.out.2.2.2 k)
          have htl : (l.take k).length ≤ 4 := by simp; omega
          rw [hi] at d0
          have hiN : (i : Int) < (S.length : Int) := by omega
          have hbx' : bx < wr.heap.size := by omega
          have hbs' : bs < wr.heap.size := by omega
          generalize sumN (l.take k) = T at *
          generalize (l.take k).length = tl at *
          have h4k : l[k].2.1 = 0 ∨ l[k].2.1 = 1 ∨ l[k].2.1 = 2 ∨ l[k].2.1 = 3 := by omega
          obtain ⟨_, _, _, _, n1, n2⟩ := hik
          clear hmem hi
          generalize l[k].2.1 = key at *
          generalize l[k].2.2 = nn at *
          rcases h4k with rfl | rfl | rfl | rfl
          · obtain ⟨x0, -⟩ := hX
            obtain ⟨s0, -⟩ := hS
            rw [p1] at x0
            clear p1 hiX
            generalize sget S[i] 0 = y at *
            have g1 : (y + nn != y + nn) = false := by simp
            go_wp2
            go_quiet (fail)
            go_wp2
            go_roundw
            case rel => exact ⟨k + 1, by omega, by go_num, by rw [HT.out], below_drewN (hbw.alloc hsz _) _⟩
            case measure => simp [intOf]; omega
          · obtain ⟨-, x0, -⟩ := hX
            obtain ⟨-, s0, -⟩ := hS
            rw [p1] at x0
            clear p1 hiX
            generalize sget S[i] 1 = y at *
            have g1 : (y + nn != y + nn) = false := by simp
            go_wp2
            go_quiet (fail)
            go_wp2
            go_roundw
            case rel => exact ⟨k + 1, by omega, by go_num, by rw [HT.out], below_drewN (hbw.alloc hsz _) _⟩
            case measure => simp [intOf]; omega
          · obtain ⟨-, -, x0, -⟩ := hX
            obtain ⟨-, -, s0, -⟩ := hS
            rw [p1] at x0
            clear p1 hiX
            generalize sget S[i] 2 = y at *
            have g1 : (y + nn != y + nn) = false := by simp
            go_wp2
            go_quiet (fail)
            go_wp2
            go_roundw
            case rel => exact ⟨k + 1, by omega, by go_num, by rw [HT.out], below_drewN (hbw.alloc hsz _) _⟩
            case measure => simp [intOf]; omega
          · obtain ⟨-, -, -, x0⟩ := hX
            obtain ⟨-, -, -, s0⟩ := hS
            rw [p1] at x0
            clear p1 hiX
            generalize sget S[i] 3 = y at *
            have g1 : (y + nn != y + nn) = false := by simp
            go_wp2
            go_quiet (fail)
            go_wp2
            go_roundw
            case rel => exact ⟨k + 1, by omega, by go_num, by rw [HT.out], below_drewN (hbw.alloc hsz _) _⟩
            case measure => simp [intOf]; omega
        · have HT : Hid (sumN (l.take k) = sumN l ∧ totalB (doM S l) = totalB S + sumN l) := ⟨by rw [List.take_of_length_le (by omega)], total_even HR.out.2.1 HE.out.1⟩
          have hx4 := HM.out.1.below hbw
          have hs4 := HM.out.2.1.below hbw
          rw [HT.out.1]
          have hBw : Below w.heap.size w wr := hB3.trans (hbw.mono hB3.size)
          have hb1 := total_bound (B := 4194304) (S := S) (fun s hs => by have := sum4_bound (HR.out.1 s hs); omega)
          have hb2 := total_bound (B := 4194304) (S := doM S l) (fun s hs => by have := sum4_bound (HE.out.2.2 s hs); omega)
          rw [HE.out.2.1] at hb2
          clear hbw
          go_wp2_with fail
          refine (total_any _ (doM S l) _ _ _ HE.out.2.1.symm (by rw [HE.out.2.1]; exact h3) hx4 HE.out.2.2).mono ?_
          rintro e w4 ⟨rfl, hb4⟩
          have hs5 := hs4.below hb4
          have hB4 : Below w.heap.size w w4 := hBw.trans (hb4.mono hBw.size)
          clear hx4 hs4 hb4 hBw
          go_wp2_with fail
          refine (total_any _ S _ _ _ rfl h3 hs5 HR.out.1).mono ?_
          rintro e w5 ⟨rfl, hb5⟩
          have hB5 : Below w.heap.size w w5 := hB4.trans (hb5.mono hB4.size)
          clear hs5 hb5 hB4
          rw [HT.out.2] at hb2 ⊢
          generalize totalB S = A at *
          generalize sumN l = B at *
          have g1 : (A + B == A + B) = true := by simp
          go_wp2
          go_ret
          exact ⟨rfl, hB5⟩
    · have HE : Hid (doM S l = S) := by show _ = _; unfold doM; rw [if_neg he]
      have he' : (errM S l != 0) = true := by simpa using he
      rw [HE.out] at hx3
      clear he
      generalize errM S l = er at *
      go_wp2_with fail
      refine (sameSums_self _ _ S _ _ _ _ _ rfl rfl (by omega) hx3 hp3).mono ?_
      rintro e w4 ⟨rfl, hb4⟩
      have hB4 : Below w.heap.size w w4 := hB3.trans (hb4.mono hB3.size)
      go_wp2
      go_ret
      exact ⟨rfl, hB4⟩

end Go.Proofs.Ytmihdckjoodjeab
