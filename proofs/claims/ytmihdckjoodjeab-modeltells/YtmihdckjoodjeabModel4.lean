/- What the statements' right and the document's SameSums (of the same sums) do. -/
import Derived.Test.YtmihdckjoodjeabModel3
import Derived.Test.YtmihdckjoodjeabRef1
namespace Go.Proofs.Ytmihdckjoodjeab
open Go.RowKit
attribute [local go_sem ↓] Go.wp_at_zero Go.wp_at_succ
attribute [local go_sem ↓] eq4_self

set_option maxHeartbeats 1000000 in
theorem sameSums_self (a1 a2 : Option Addr) (S : List S4) (c1 c2 n1 n2 : Nat) (w : World) (hn1 : n1 = S.length) (hn2 : n2 = S.length) (hl : S.length ≤ 1000000) (hp1 : SumsL w a1 S) (hp2 : SumsL w a2 S) :
    Calls Try.prog 9 #[.slice a1 n1 c1, .slice a2 n2 c2] w fun e w' => e = .returned (.bool true) ∧ Below w.heap.size w w' := by
  subst hn1 hn2
  have hne : ((S.length : Int) != (S.length : Int)) = false := by simp
  go_enter Try.func9, Try.ntmps9
  go_wp2
  go_loopw [13] (fun i w' => ∃ k : Nat, k ≤ S.length ∧ i = .int .i64 k ∧ Below w.heap.size w w') (fun i _ => S.length - (intOf i).toNat)
  case atStart => exact ⟨0, Nat.zero_le _, rfl, Below.refl _ _⟩
  case round =>
    obtain ⟨k, hk, rfl, hbw⟩ := hrel
    by_cases hlt : k < S.length
    · rcases hp1 with rfl | ⟨b1, o1, rfl, hb1, hc1⟩
      · simp at hlt
      rcases hp2 with rfl | ⟨b2, o2, rfl, hb2, hc2⟩
      · simp at hlt
      obtain ⟨d0, d1, d2, d3⟩ := hc1 k hlt
      obtain ⟨e0, e1, e2, e3⟩ := hc2 k hlt
      clear hc1 hc2
      obtain ⟨hcc, hff⟩ := bcell hbw
      generalize S[k].1 = s0 at *
      generalize S[k].2.1 = s1 at *
      generalize S[k].2.2.1 = s2 at *
      generalize S[k].2.2.2 = s3 at *
      go_wp2
      go_quiet (fail)
      go_wp2
      go_roundw
      case rel => exact ⟨k + 1, by omega, by go_num, below_drewN hbw _⟩
      case measure => simp [intOf]; omega
    · clear hp1 hp2
      go_wp2
      go_ret
      exact ⟨rfl, hbw⟩

def rightB (S : List S4) (l : List P3) : Bool := S.all rightS && (decide (1 ≤ S.length ∧ S.length ≤ 3) && (wrong l S.length == 0))
theorem rightB_true {S : List S4} {l : List P3} (h : rightB S l = true) : RightM S ∧ 1 ≤ S.length ∧ S.length ≤ 3 ∧ wrong l S.length = 0 := by
  simp only [rightB, Bool.and_eq_true, decide_eq_true_eq, beq_iff_eq, List.all_eq_true] at h
  exact ⟨h.1, h.2.1.1, h.2.1.2, h.2.2⟩

set_option maxHeartbeats 1000000 in
theorem right_any (a a' : Option Addr) (S : List S4) (l : List P3) (cap n cap' n' : Nat) (w : World) (hn : n = S.length) (hn' : n' = l.length) (hl : S.length ≤ 9223372036854775807) (hl' : l.length ≤ 9223372036854775807) (hp : SumsL w a S) (hq : PartsAt w a' l) :
    Calls Try.prog 6 #[.slice a n cap, .slice a' n' cap'] w fun e w' => e = .returned (.bool (rightB S l)) ∧ Below w.heap.size w w' := by
  subst hn hn'
  go_enter Try.func6, Try.ntmps6
  go_wp2
  go_loopw [9] (fun i w' => ∃ k : Nat, k ≤ S.length ∧ i = .int .i64 k ∧ Hid ((S.take k).all rightS = true) ∧ Below w.heap.size w w') (fun i _ => S.length - (intOf i).toNat)
  case atStart => exact ⟨0, Nat.zero_le _, rfl, rfl, Below.refl _ _⟩
  case round =>
    obtain ⟨k, hk, rfl, hal, hbw⟩ := hrel
    by_cases hlt : k < S.length
    · rcases hp with rfl | ⟨b', o, rfl, hb', hc⟩
      · simp at hlt
      obtain ⟨d0, d1, d2, d3⟩ := hc k hlt
      clear hc
      obtain ⟨hcc, hff⟩ := bcell hbw
      have hsz := hbw.size
      obtain ⟨s0, s1, s2, s3, hsk⟩ : ∃ s0 s1 s2 s3, S[k] = (s0, s1, s2, s3) := ⟨_, _, _, _, rfl⟩
      have HK : Hid (S[k] = (s0, s1, s2, s3)) := hsk
      rw [hsk] at d0 d1 d2 d3
      clear hsk
      simp only at d0 d1 d2 d3
      go_wp2_with fail
      refine (rightSums_any s0 s1 s2 s3 _).mono ?_
      rintro e w1 ⟨rfl, hb1⟩
      have hB1 : Below w.heap.size w w1 := hbw.trans (((below1 wr _).trans (hb1.mono (by simp))).mono hsz)
      cases hr : rightS (s0, s1, s2, s3)
      · have HF : Hid (rightB S l = false) := by
          show _ = _
          unfold rightB
          have : S.all rightS = false := by
            rw [List.all_eq_false]
            exact ⟨_, List.getElem_mem hlt, by rw [HK.out, hr]; simp⟩
          rw [this]; rfl
        clear hal hr d0 d1 d2 d3
        go_wp2
        go_ret
        exact ⟨ret_bool HF.out.symm, hB1⟩
      · have HT : Hid ((S.take (k + 1)).all rightS = true) := by
          show _ = _
          rw [take_snoc hlt, List.all_append, hal.out, HK.out]
          simp [hr]
        clear hal hr d0 d1 d2 d3
        go_wp2
        go_roundw
        case rel => exact ⟨k + 1, by omega, by go_num, HT, hB1⟩
        case measure => simp [intOf]; omega
    · have HA : Hid (S.all rightS = true) := by
        have := hal.out
        rw [List.take_of_length_le (by omega)] at this
        exact this
      clear hp hal
      by_cases h1 : 1 ≤ S.length
      · have h1' : (1 : Int) ≤ (S.length : Int) := by omega
        have h1'' : decide ((S.length : Int) ≥ 1) = true := by simpa using h1'
        by_cases h3 : S.length ≤ 3
        · have h3' : (S.length : Int) ≤ 3 := by omega
          have HR : Hid (rightB S l = (wrong l S.length == 0)) := by
            show _ = _
            unfold rightB
            rw [HA.out]
            simp [h1, h3]
          have HQ : Hid (PartsAt wr a' l) := hq.below hbw
          clear hq
          go_wp2_with fail
          refine (wrongParts_any a' l _ _ (S.length : Int) _ rfl hl' HQ.out (by omega)).mono ?_
          rintro e w1 ⟨rfl, hb1⟩
          have hB1 : Below w.heap.size w w1 := hbw.trans (hb1.mono hbw.size)
          generalize wrong l (S.length : Int) = x at *
          go_wp2
          go_ret
          exact ⟨ret_bool (by rw [HR.out]), hB1⟩
        · have h3' : ¬ (S.length : Int) ≤ 3 := by omega
          have HR : Hid (rightB S l = false) := by
            show _ = _
            unfold rightB
            simp [h3]
          clear hq
          go_wp2
          go_ret
          exact ⟨ret_bool (by rw [HR.out]), hbw⟩
      · have h1' : ¬ (1 : Int) ≤ (S.length : Int) := by omega
        have HR : Hid (rightB S l = false) := by
          show _ = _
          unfold rightB
          simp [h1]
        clear hq
        go_wp2
        go_ret
        exact ⟨ret_bool (by rw [HR.out]), hbw⟩

end Go.Proofs.Ytmihdckjoodjeab
