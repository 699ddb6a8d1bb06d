/- ModelApart, walked: called at whatever sums and parts it answers true and leaves all older memory as it was. -/
import Derived.Test.YtmihdckjoodjeabModel6
namespace Go.Proofs.Ytmihdckjoodjeab
open Go.RowKit
attribute [local go_sem ↓] Go.wp_at_zero Go.wp_at_succ

/-- Two deeds, one behind the other, of which the first is a, the second b. -/
theorem apart_take {a b : List P3} {k : Nat} (hk : k < a.length) (h : Apart (a.take k) b) (hq : ∀ q ∈ b, sameB a[k] q = false) : Apart (a.take (k + 1)) b := by
  intro p hp q hqb
  rw [take_snoc hk] at hp
  rcases List.mem_append.1 hp with hp | hp
  · exact h p hp q hqb
  · rw [List.mem_singleton] at hp
    subst hp
    exact hq q hqb
theorem row_take {p : P3} {b : List P3} {j : Nat} (hj : j < b.length) (h : ∀ q ∈ b.take j, sameB p q = false) (hq : ¬ (p.1 = b[j].1 ∧ p.2.1 = b[j].2.1)) : ∀ q ∈ b.take (j + 1), sameB p q = false := by
  intro q hqb
  rw [take_snoc hj] at hqb
  rcases List.mem_append.1 hqb with h' | h'
  · exact h q h'
  · rw [List.mem_singleton] at h'
    subst h'
    simpa [sameB] using hq

set_option maxHeartbeats 2000000 in
theorem modelApart_any (s a b : Option Addr) (S : List S4) (l m : List P3) (cs ca cb ns na nb : Nat) (w : World) (hns : ns = S.length) (hna : na = l.length) (hnb : nb = m.length) (hls : S.length ≤ 9223372036854775807) (hla : l.length ≤ 9223372036854775807) (hlb : m.length ≤ 9223372036854775807) (hp : SumsL w s S) (hq : PartsAt w a l) (hr : PartsAt w b m) :
    Calls Try.prog 4 #[.slice s ns cs, .slice a na ca, .slice b nb cb] w fun e w' => e = .returned (.bool true) ∧ Below w.heap.size w w' := by
  subst hns hna hnb
  go_enter Try.func4, Try.ntmps4
  go_wp2_with fail
  refine (alive_any w).mono ?_
  rintro e w1 ⟨rfl, hb1⟩
  have hp1 := hp.below hb1
  have hq1 := hq.below hb1
  have hr1 := hr.below hb1
  clear hp hq hr
  go_wp2_with fail
  refine (right_any s a S l cs _ ca _ w1 rfl rfl hls hla hp1 hq1).mono ?_
  rintro e w2 ⟨rfl, hb2⟩
  have hp2 := hp1.below hb2
  have hq2 := hq1.below hb2
  have hr2 := hr1.below hb2
  have hB2 : Below w.heap.size w w2 := hb1.trans (hb2.mono hb1.size)
  clear hp1 hq1 hr1 hb1 hb2
  cases hrb : rightB S l
  · clear hp2 hq2 hr2
    go_wp2
    go_ret
    exact ⟨rfl, hB2⟩
  · obtain ⟨hR, h1, h3, hw⟩ := rightB_true hrb
    obtain ⟨_, h4, hin, _⟩ := wrong_ok hw
    have HR : Hid (RightM S ∧ wrong l S.length = 0 ∧ Small l) := ⟨hR, hw, small_of hin⟩
    clear hR hw hin hrb
    have HP : Hid (SumsL w2 s S ∧ PartsAt w2 a l ∧ PartsAt w2 b m) := ⟨hp2, hq2, hr2⟩
    clear hp2 hq2 hr2
    go_wp2_with fail
    refine (right_any s b S m cs _ cb _ w2 rfl rfl hls hlb HP.out.1 HP.out.2.2).mono ?_
    rintro e w3 ⟨rfl, hb3⟩
    have HP3 : Hid (SumsL w3 s S ∧ PartsAt w3 a l ∧ PartsAt w3 b m) := ⟨HP.out.1.below hb3, HP.out.2.1.below hb3, HP.out.2.2.below hb3⟩
    have hB3 : Below w.heap.size w w3 := hB2.trans (hb3.mono hB2.size)
    clear HP hb3 hB2
    cases hrb : rightB S m
    · go_wp2
      go_ret
      exact ⟨rfl, hB3⟩
    · obtain ⟨_, _, _, hw⟩ := rightB_true hrb
      obtain ⟨_, k4, hin, _⟩ := wrong_ok hw
      have HR2 : Hid (wrong m S.length = 0 ∧ Small m) := ⟨hw, small_of hin⟩
      clear hw hin hrb
      go_wp2
      go_loopw [31] (fun i w' => ∃ k : Nat, k ≤ l.length ∧ i = .int .i64 k ∧ Hid (Apart (l.take k) m) ∧ Below w3.heap.size w3 w') (fun i _ => l.length - (intOf i).toNat)
      case atStart => exact ⟨0, Nat.zero_le _, rfl, fun p hp => by simp at hp, Below.refl _ _⟩
      case round =>
        obtain ⟨k, hk, rfl, hap, hbw⟩ := hrel
        have hsz := hbw.size
        by_cases hlt : k < l.length
        · have hpw := HP3.out.2.1.below hbw
          rcases hpw with rfl | ⟨b', o, rfl, hb', hc⟩
          · simp at hlt
          obtain ⟨d0, d1, d2⟩ := hc k hlt
          clear hc
          generalize wr = wo at *
          go_wp2
          go_loopw [37] (fun i w' => ∃ j : Nat, j ≤ m.length ∧ i = .int .i64 j ∧ Hid (∀ q ∈ m.take j, sameB l[k] q = false) ∧ (w'.cell? ⟨wo.heap.size, 0, none⟩ = some (.int .i64 l[k].1) ∧ w'.cell? ⟨wo.heap.size, 1, none⟩ = some (.int .i64 l[k].2.1)) ∧ Below wo.heap.size wo w' ∧ wo.heap.size < w'.heap.size) (fun i _ => m.length - (intOf i).toNat)
          case atStart => exact ⟨0, Nat.zero_le _, rfl, fun q hq => by simp at hq, ⟨by simp, by simp⟩, below1 _ _, by simp⟩
          case round =>
            obtain ⟨j, hj, rfl, hrow, ⟨z0, z1⟩, hbo, hso⟩ := hrel
            have hszo := hbo.size
            have hbx : Below w3.heap.size w3 wr := hbw.trans (hbo.mono hsz)
            clear d0 d1 d2
            by_cases hjt : j < m.length
            · have hpm := HP3.out.2.2.below hbx
              rcases hpm with rfl | ⟨b2, o2, rfl, hb2, hc2⟩
              · simp at hjt
              obtain ⟨e0, e1, e2⟩ := hc2 j hjt
              clear hc2
              have HN : Hid (¬ (l[k].1 = m[j].1 ∧ l[k].2.1 = m[j].2.1) → ∀ q ∈ m.take (j + 1), sameB l[k] q = false) := fun h => row_take hjt hrow.out h
              clear hrow
              generalize m[j].1 = q0 at *
              generalize m[j].2.1 = q1 at *
              generalize m[j].2.2 = q2 at *
              have HB : Hid (Below wo.heap.size wo wr ∧ Below w3.heap.size w3 wr ∧ Below w.heap.size w wr) := ⟨hbo, hbx, hB3.trans (hbx.mono hB3.size)⟩
              have HZ : Hid (∀ w', Below wr.heap.size wr w' → w'.cell? ⟨wo.heap.size, 0, none⟩ = some (.int .i64 l[k].1) ∧ w'.cell? ⟨wo.heap.size, 1, none⟩ = some (.int .i64 l[k].2.1)) := fun w' hb => ⟨by rw [hb.cell (p := ⟨wo.heap.size, 0, none⟩) hso]; exact z0, by rw [hb.cell (p := ⟨wo.heap.size, 1, none⟩) hso]; exact z1⟩
              clear hbo hbx
              generalize l[k].1 = p0 at *
              generalize l[k].2.1 = p1 at *
              by_cases c0 : p0 = q0
              · have c0' : (p0 == q0) = true := by simpa using c0
                by_cases c1 : p1 = q1
                · have c1' : (p1 == q1) = true := by simpa using c1
                  clear c0 c1
                  go_wp2
                  go_ret
                  exact ⟨rfl, HB.out.2.2.alloc (by have := HB.out.2.2.size; omega) _⟩
                · have c1' : (p1 == q1) = false := by simpa using c1
                  have HN2 : Hid _ := HN.out (fun h => c1 h.2)
                  clear c0 c1
                  go_wp2
                  go_roundw
                  case rel => exact ⟨j + 1, by omega, by go_num, HN2, HZ.out _ (below1 wr _), HB.out.1.alloc (by omega) _, by simp; omega⟩
                  case measure => simp [intOf]; omega
              · have c0' : (p0 == q0) = false := by simpa using c0
                have HN2 : Hid _ := HN.out (fun h => c0 h.1)
                clear c0
                go_wp2
                go_roundw
                case rel => exact ⟨j + 1, by omega, by go_num, HN2, HZ.out _ (below1 wr _), HB.out.1.alloc (by omega) _, by simp; omega⟩
                case measure => simp [intOf]; omega
            · have HA : Hid (Apart (l.take (k + 1)) m) := apart_take hlt hap.out (fun q hq => hrow.out q (by rw [List.take_of_length_le (by omega)]; exact hq))
              clear z0 z1
              go_wp2
              go_roundw
              case rel => exact ⟨k + 1, by omega, by go_num, HA, hbx⟩
              case measure => simp [intOf]; omega
        · have hap2 : Apart l m := by have := hap.out; rwa [List.take_of_length_le (by omega)] at this
          have HA : Hid (doM (doM S l) m = doM (doM S m) l ∧ errM (doM S l) m = errM S m ∧ errM (doM S m) l = errM S l) := ⟨apart_do HR.out.2.1 HR2.out.1 hap2 S, apart_err HR.out.2.1 HR2.out.1 hap2 S, apart_err HR2.out.1 HR.out.2.1 hap2.symm S⟩
          have HPw : Hid (SumsL wr s S ∧ PartsAt wr a l ∧ PartsAt wr b m) := ⟨HP3.out.1.below hbw, HP3.out.2.1.below hbw, HP3.out.2.2.below hbw⟩
          have hBw : Below w.heap.size w wr := hB3.trans (hbw.mono hB3.size)
          have HW : Hid ((∀ s ∈ S, Within 2199023255552 s) ∧ (∀ s ∈ doM S l, Within 2199023255552 s) ∧ (∀ s ∈ doM S m, Within 2199023255552 s)) := ⟨fun s hs => within_mono (within_right (HR.out.1 s hs)) (by omega), fun s hs => within_mono (within_right (right_doM HR.out.1 HR.out.2.1 s hs)) (by omega), fun s hs => within_mono (within_right (right_doM HR.out.1 HR2.out.1 s hs)) (by omega)⟩
          clear hap hap2 HP3 hbw
          go_wp2_with fail
          refine (mdo_any s a S l _ _ _ _ _ rfl rfl h3 h4 HPw.out.1 HPw.out.2.1 HR.out.2.2 HW.out.1).mono ?_
          rintro e w4 ⟨v4, rfl, ho4, hb4⟩
          obtain ⟨a4, c4, rfl, hx4, _⟩ := ho4.sums
          have HP4 : Hid (SumsL w4 s S ∧ PartsAt w4 a l ∧ PartsAt w4 b m ∧ SumsL w4 a4 (doM S l)) := ⟨HPw.out.1.below hb4, HPw.out.2.1.below hb4, HPw.out.2.2.below hb4, hx4⟩
          have hB4 : Below w.heap.size w w4 := hBw.trans (hb4.mono hBw.size)
          clear ho4 hx4 hb4 hBw HPw
          have L1 : Hid ((doM S l).length = S.length ∧ (doM S m).length = S.length) := ⟨doM_len S l, doM_len S m⟩
          generalize hn4 : (doM S l).length = n4
          go_wp2_with fail
          refine (mdo_any a4 b (doM S l) m _ _ _ _ _ hn4.symm rfl (by rw [L1.out.1]; exact h3) k4 HP4.out.2.2.2 HP4.out.2.2.1 HR2.out.2 HW.out.2.1).mono ?_
          rintro e w5 ⟨v5, rfl, ho5, hb5⟩
          obtain ⟨a5, c5, rfl, hx5, _⟩ := ho5.sums
          have HP5 : Hid (SumsL w5 s S ∧ PartsAt w5 a l ∧ PartsAt w5 b m ∧ SumsL w5 a5 (doM (doM S l) m)) := ⟨HP4.out.1.below hb5, HP4.out.2.1.below hb5, HP4.out.2.2.1.below hb5, hx5⟩
          have hB5 : Below w.heap.size w w5 := hB4.trans (hb5.mono hB4.size)
          clear ho5 hx5 hb5 hB4 HP4
          have L2 : Hid ((doM (doM S l) m).length = S.length ∧ (doM (doM S m) l).length = S.length) := ⟨by rw [doM_len, doM_len], by rw [doM_len, doM_len]⟩
          generalize hn5 : (doM (doM S l) m).length = n5
          go_wp2_with fail
          refine (mdo_any s b S m _ _ _ _ _ rfl rfl h3 k4 HP5.out.1 HP5.out.2.2.1 HR2.out.2 HW.out.1).mono ?_
          rintro e w6 ⟨v6, rfl, ho6, hb6⟩
          obtain ⟨a6, c6, rfl, hx6, _⟩ := ho6.sums
          have HP6 : Hid (PartsAt w6 a l ∧ SumsL w6 a5 (doM (doM S l) m) ∧ SumsL w6 a6 (doM S m)) := ⟨HP5.out.2.1.below hb6, HP5.out.2.2.2.below hb6, hx6⟩
          have hB6 : Below w.heap.size w w6 := hB5.trans (hb6.mono hB5.size)
          clear ho6 hx6 hb6 hB5 HP5
          generalize hn6 : (doM S m).length = n6
          go_wp2_with fail
          refine (mdo_any a6 a (doM S m) l _ _ _ _ _ hn6.symm rfl (by rw [L1.out.2]; exact h3) h4 HP6.out.2.2 HP6.out.1 HR.out.2.2 HW.out.2.2).mono ?_
          rintro e w7 ⟨v7, rfl, ho7, hb7⟩
          obtain ⟨a7, c7, rfl, hx7, _⟩ := ho7.sums
          have HP7 : Hid (SumsL w7 a5 (doM (doM S l) m) ∧ SumsL w7 a7 (doM (doM S m) l)) := ⟨HP6.out.2.1.below hb7, hx7⟩
          have hB7 : Below w.heap.size w w7 := hB6.trans (hb7.mono hB6.size)
          clear ho7 hx7 hb7 hB6 HP6
          generalize hn7 : (doM (doM S m) l).length = n7
          rw [HA.out.2.1, HA.out.2.2]
          generalize errM S l = E1 at *
          generalize errM S m = E2 at *
          have g1 : (E1 == E1) = true := by simp
          have g2 : (E2 == E2) = true := by simp
          go_wp2_with fail
          refine (sameSums_self a5 a7 (doM (doM S l) m) _ _ _ _ _ hn5.symm (by rw [HA.out.1]; exact hn7.symm) (by rw [L2.out.1]; omega) HP7.out.1 (by rw [HA.out.1]; exact HP7.out.2)).mono ?_
          rintro e w8 ⟨rfl, hb8⟩
          have hB8 : Below w.heap.size w w8 := hB7.trans (hb8.mono hB7.size)
          clear hb8 hB7
          go_wp2
          go_ret
          exact ⟨rfl, hB8⟩

end Go.Proofs.Ytmihdckjoodjeab
