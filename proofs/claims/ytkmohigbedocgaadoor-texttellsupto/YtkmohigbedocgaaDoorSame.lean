/- What the document's SameParts does. -/
import Derived.Test.YtkmohigbedocgaaDoorPart
import Derived.WalkSmall
namespace Go.Proofs.YtkmohigbedocgaaDoor
open Go.RowKit
attribute [local go_sem ↓] Go.wp_at_zero Go.wp_at_succ

theorem take_succ_eq {l1 l2 : List P3} {k : Nat} (h1 : k < l1.length) (h2 : k < l2.length) (h : l1.take k = l2.take k) (he : l1[k] = l2[k]) : l1.take (k + 1) = l2.take (k + 1) := by
  rw [take_snoc h1, take_snoc h2, h, he]

set_option maxHeartbeats 1000000 in
theorem sameParts_any (a1 a2 : Option Addr) (l1 l2 : List P3) (c1 c2 n1 n2 : Nat) (w : World) (hn1 : n1 = l1.length) (hn2 : n2 = l2.length) (hl1 : l1.length ≤ 1000000) (hl2 : l2.length ≤ 1000000) (hp1 : PartsAt w a1 l1) (hp2 : PartsAt w a2 l2) :
    Calls Tryd.prog 6 #[.slice a1 n1 c1, .slice a2 n2 c2] w fun e w' => e = .returned (.bool (decide (l1 = l2))) ∧ Below w.heap.size w w' := by
  subst hn1 hn2
  by_cases hne : l1.length = l2.length
  · have hne' : ((l1.length : Int) == (l2.length : Int)) = true := by simp [hne]
    have hne2 : ((l1.length : Int) != (l2.length : Int)) = false := by simp [hne]
    have HNE : Hid (l1.length = l2.length) := hne
    clear hne
    go_enter Tryd.func6, Tryd.ntmps6
    go_wp2
    go_loopw [13] (fun i w' => ∃ k : Nat, k ≤ l1.length ∧ i = .int .i64 k ∧ Hid (l1.take k = l2.take k) ∧ Below w.heap.size w w') (fun i _ => l1.length - (intOf i).toNat)
    case atStart => exact ⟨0, Nat.zero_le _, rfl, rfl, Below.refl _ _⟩
    case round =>
      obtain ⟨k, hk, rfl, hn, hbw⟩ := hrel
      by_cases hlt : k < l1.length
      · have hlt2 : k < l2.length := by have := HNE.out; omega
        rcases hp1 with rfl | ⟨b1, o1, rfl, hb1, hc1⟩
        · simp at hlt
        rcases hp2 with rfl | ⟨b2, o2, rfl, hb2, hc2⟩
        · simp at hlt2
        obtain ⟨d0, d1, d2⟩ := hc1 k hlt
        obtain ⟨e0, e1, e2⟩ := hc2 k hlt2
        clear hc1 hc2
        obtain ⟨hcc, hff⟩ := bcell hbw
        by_cases he : l1[k] = l2[k]
        · have HT : Hid (l1.take (k + 1) = l2.take (k + 1)) := take_succ_eq hlt hlt2 hn.out he
          rw [← he] at e0 e1 e2
          clear hn he
          go_wp2
          go_quiet (fail)
          go_wp2
          go_roundw
          case rel => exact ⟨k + 1, by omega, by go_num, HT, below_drewN hbw _⟩
          case measure => simp [intOf]; omega
        · have hl : ¬ l1 = l2 := by intro h; subst h; exact he rfl
          have HF : Hid (decide (l1 = l2) = false) := by show _ = _; simpa using hl
          have h3 : ¬ (l1[k].1 = l2[k].1 ∧ l1[k].2.1 = l2[k].2.1 ∧ l1[k].2.2 = l2[k].2.2) := by
            rintro ⟨x, y, z⟩
            exact he (Prod.ext x (Prod.ext y z))
          clear hn he hl
          generalize l1[k].1 = p0 at *
          generalize l1[k].2.1 = p1 at *
          generalize l1[k].2.2 = p2 at *
          generalize l2[k].1 = q0 at *
          generalize l2[k].2.1 = q1 at *
          generalize l2[k].2.2 = q2 at *
          by_cases g0 : p0 = q0
          · subst g0
            by_cases g1 : p1 = q1
            · subst g1
              have g2 : (p2 == q2) = false := by
                rw [beq_eq_false_iff_ne]
                intro h
                exact h3 ⟨rfl, rfl, h⟩
              clear h3
              go_wp2
              go_quiet (fail)
              go_wp2
              go_ret
              exact ⟨ret_bool HF.out.symm, below_drewN hbw _⟩
            · have g1' : (p1 == q1) = false := by simpa using g1
              clear h3 g1
              go_wp2
              go_quiet (fail)
              go_wp2
              go_ret
              exact ⟨ret_bool HF.out.symm, below_drewN hbw _⟩
          · have g0' : (p0 == q0) = false := by simpa using g0
            clear h3 g0
            go_wp2
            go_quiet (fail)
            go_wp2
            go_ret
            exact ⟨ret_bool HF.out.symm, below_drewN hbw _⟩
      · have HT : Hid (decide (l1 = l2) = true) := by
          have e1 := hn.out
          have e2 := HNE.out
          rw [List.take_of_length_le (by omega), List.take_of_length_le (by omega)] at e1
          show _ = _
          simpa using e1
        clear hn hp1 hp2
        go_wp2
        go_ret
        exact ⟨ret_bool HT.out.symm, hbw⟩
  · have hne' : ((l1.length : Int) == (l2.length : Int)) = false := by simp; omega
    have hne2 : ((l1.length : Int) != (l2.length : Int)) = true := by simp; omega
    have HF : Hid (decide (l1 = l2) = false) := by
      show _ = _
      simp
      intro h
      exact hne (by rw [h])
    clear hne hp1 hp2
    go_enter Tryd.func6, Tryd.ntmps6
    go_wp2
    go_ret
    exact ⟨ret_bool HF.out.symm, Below.refl _ _⟩

end Go.Proofs.YtkmohigbedocgaaDoor
