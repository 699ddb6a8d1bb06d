/- ModelTells, walked: called at whatever sums, parts and deeds it answers true and leaves all older memory as it was. -/
import Derived.Test.YtmihdckjoodjeabModel8
import Derived.Deep.DeepCutAuto
namespace Go.Proofs.Ytmihdckjoodjeab
open Go.RowKit
attribute [local go_sem ↓] Go.wp_at_zero Go.wp_at_succ

/-- The errors es lie in memory, at a block's head. -/
def ErrsAt (w : World) (a : Option Addr) (es : List Int) : Prop :=
  es = [] ∨ ∃ b, a = some ⟨b, 0, none⟩ ∧ b < w.heap.size ∧ ∀ i (h : i < es.length), w.cell? ⟨b, i, none⟩ = some (.int .i64 es[i])
theorem ErrsAt.below {w w' : World} {a : Option Addr} {es : List Int} (h : ErrsAt w a es) (hb : Below w.heap.size w w') : ErrsAt w' a es := by
  rcases h with rfl | ⟨b, rfl, hlt, hc⟩
  · exact Or.inl rfl
  · refine Or.inr ⟨b, rfl, Nat.lt_of_lt_of_le hlt hb.size, fun i hi => ?_⟩
    rw [hb.cell (p := ⟨b, i, none⟩) hlt]
    exact hc i hi
theorem OwnE.errs {w : World} {base : Nat} {v : Value} {es : List Int} (h : OwnE w base v es) : ∃ a cap, v = .slice a es.length cap ∧ ErrsAt w a es := by
  rcases h.2 with ⟨hv, h0⟩ | ⟨g, cap, cur, hv, hg, hh, _⟩
  · exact ⟨none, 0, by rw [hv, h0], Or.inl (List.eq_nil_of_length_eq_zero h0)⟩
  · have hh' := h
    unfold OwnE at hh'
    rw [hv] at hh'
    refine ⟨_, cap, hv, Or.inr ⟨g, rfl, ?_, fun i hi => ?_⟩⟩
    · rcases Nat.lt_or_ge g w.heap.size with h' | h'
      · exact h'
      · rw [Array.getElem?_eq_none h'] at hh; cases hh
    · rw [hh'.cellAt i (by omega), List.getElem?_map, List.getElem?_eq_getElem hi]
      rfl

set_option maxRecDepth 20000 in
set_option maxHeartbeats 4000000 in
theorem modelTells_any (s a d : Option Addr) (S : List S4) (l : List P3) (L : List (List P3)) (cs ca cd ns na nd : Nat) (w : World) (hns : ns = S.length) (hna : na = l.length) (hnd : nd = L.length) (hls : S.length ≤ 9223372036854775807) (hla : l.length ≤ 9223372036854775807) (hld : L.length ≤ 4398046511104) (hp : SumsL w s S) (hq : PartsAt w a l) (hr : ReadysAt w d L) :
    Calls Try.prog 3 #[.slice s ns cs, .slice a na ca, .slice d nd cd] w fun e w' => e = .returned (.bool true) ∧ Below w.heap.size w w' := by
  subst hns hna hnd
  go_enter Try.func3, Try.ntmps3
  go_wp2_with fail
  refine (right_any s a S l cs _ ca _ w rfl rfl hls hla hp hq).mono ?_
  rintro e w1 ⟨rfl, hb1⟩
  have HP : Hid (SumsL w1 s S ∧ PartsAt w1 a l ∧ ReadysAt w d L) := ⟨hp.below hb1, hq.below hb1, hr⟩
  clear hp hq hr
  obtain ⟨z, hz⟩ : ∃ z, z = rightB S l := ⟨_, rfl⟩
  rw [← hz]
  have HZ : Hid (z = rightB S l) := hz
  clear hz
  go_upto_if 23 with fail
  go_cut [] (fun wx => Below w.heap.size w wx)
  case first =>
    cases z
    · go_wp2
      go_meet
      case rel => exact hb1
    · obtain ⟨hR, h1, h3, hw⟩ := rightB_true HZ.out.symm
      obtain ⟨_, h4, hin, _⟩ := wrong_ok hw
      have HR : Hid (RightM S ∧ wrong l S.length = 0 ∧ Small l ∧ (∀ p ∈ l, keyB p.2.1 = true) ∧ (∀ s ∈ S, Within 2199023255552 s)) := ⟨hR, hw, small_of hin, fun p hp => by
        have := hin p hp
        simp only [inB, decide_eq_true_eq] at this
        simp only [keyB, decide_eq_true_eq]; omega, fun s hs => within_mono (within_right (hR s hs)) (by omega)⟩
      clear hR hw hin HZ
      go_wp2_with fail
      refine (mdo_any s a S l _ _ _ _ _ rfl rfl h3 h4 HP.out.1 HP.out.2.1 HR.out.2.2.1 HR.out.2.2.2.2).mono ?_
      rintro e w2 ⟨v2, rfl, ho2, hb2⟩
      obtain ⟨a2, c2, rfl, hx2, _⟩ := ho2.sums
      rw [doM_len]
      have HP2 : Hid (SumsL w2 s S ∧ PartsAt w2 a l ∧ SumsL w2 a2 (doM S l)) := ⟨HP.out.1.below hb2, HP.out.2.1.below hb2, hx2⟩
      have hB2 : Below w.heap.size w w2 := hb1.trans (hb2.mono hb1.size)
      clear ho2 hx2 hb2
      go_wp2_with fail
      refine (refDoAll_any s a S l _ _ _ _ _ rfl rfl h3 h4 HP2.out.1 HP2.out.2.1 HR.out.2.2.1 HR.out.2.2.2.1 HR.out.2.2.2.2).mono ?_
      rintro e w3 ⟨a3, c3, rfl, hx3, _, hb3⟩
      have HP3 : Hid (SumsL w3 s S ∧ SumsL w3 a2 (doM S l) ∧ SumsL w3 a3 (doM S l) ∧ (doM S l).length = S.length) := ⟨HP2.out.1.below hb3, HP2.out.2.2.below hb3, hx3, doM_len S l⟩
      have hB3 : Below w.heap.size w w3 := hB2.trans (hb3.mono hB2.size)
      clear hx3 hb3 hB2 HP2 HP hb1
      generalize errM S l = er at *
      go_wp2
      go_loopw [11, 38] (fun t i w' => ∃ k : Nat, k ≤ S.length ∧ i = .int .i64 k ∧ t = .int .i64 (totalB (S.take k)) ∧ Below w3.heap.size w3 w') (fun _ i _ => S.length - (intOf i).toNat)
      case atStart => exact ⟨0, Nat.zero_le _, rfl, rfl, Below.refl _ _⟩
      case round =>
        obtain ⟨k, hk, rfl, rfl, hbw⟩ := hrel
        have hsz := hbw.size
        by_cases hlt : k < S.length
        · have hps := HP3.out.1.below hbw
          rcases hps with rfl | ⟨b', o, rfl, hb', hc⟩
          · simp at hlt
          obtain ⟨d0, d1, d2, d3⟩ := hc k hlt
          clear hc
          have HT : Hid (totalB (S.take (k + 1)) = totalB (S.take k) + sum4 S[k]) := total_take hlt
          have hsr := HR.out.1 _ (List.getElem_mem hlt)
          have hw := within_right hsr
          have htb : -12582912 ≤ totalB (S.take k) ∧ totalB (S.take k) ≤ 12582912 := by
            have := total_bound (B := 4194304) (S := S.take k) (fun s hs => by have := sum4_bound (HR.out.1 s (List.mem_of_mem_take hs)); omega)
            have h2 : (S.take k).length ≤ 3 := by simp; omega
            have h3 : ((S.take k).length : Int) * 4194304 ≤ 12582912 := by omega
            omega
          obtain ⟨⟨a1, a2⟩, ⟨b1, b2⟩, ⟨c1, c2⟩, ⟨e1, e2⟩⟩ := hw
          simp only [sum4] at HT
          clear hsr
          generalize totalB (S.take k) = T at *
          generalize S[k].1 = s0 at *
          generalize S[k].2.1 = s1 at *
          generalize S[k].2.2.1 = s2 at *
          generalize S[k].2.2.2 = s3 at *
          obtain ⟨t1, t2⟩ := htb
          go_wp2
          go_roundw
          case rel => exact ⟨k + 1, by omega, by go_num, by rw [HT.out], hbw.alloc hsz _⟩
          case measure => simp [intOf]; omega
        · have HT : Hid (totalB (S.take k) = totalB S) := by show _ = _; rw [List.take_of_length_le (by omega)]
          rw [HT.out]
          have hB4 : Below w.heap.size w wr := hB3.trans (hbw.mono hB3.size)
          have HP4 : Hid (SumsL wr s S ∧ SumsL wr a2 (doM S l) ∧ SumsL wr a3 (doM S l)) := ⟨HP3.out.1.below hbw, HP3.out.2.1.below hbw, HP3.out.2.2.1.below hbw⟩
          have g1 : (er != er) = false := by simp
          clear hbw hB3
          go_wp2_with fail
          refine (sameSums_self a2 a3 (doM S l) _ _ _ _ _ HP3.out.2.2.2.symm HP3.out.2.2.2.symm (by rw [HP3.out.2.2.2]; omega) HP4.out.2.1 HP4.out.2.2).mono ?_
          rintro e w5 ⟨rfl, hb5⟩
          have hs5 := HP4.out.1.below hb5
          have hB5 : Below w.heap.size w w5 := hB4.trans (hb5.mono hB4.size)
          clear hb5 hB4
          go_wp2_with fail
          refine (total_any s S _ _ _ rfl h3 hs5 HR.out.1).mono ?_
          rintro e w6 ⟨rfl, hb6⟩
          have hB6 : Below w.heap.size w w6 := hB5.trans (hb6.mono hB5.size)
          clear hb6 hB5 hs5
          generalize totalB S = T at *
          have g2 : (T != T) = false := by simp
          go_wp2
          go_meet
          case rel => exact hB6
  case rest =>
    clear hb1 HZ
    have hrc := HP.out.2.2.below hcut
    have HRD : Hid (ReadysAt wc d L) := hrc
    clear hrc HP
    go_wp2
    go_loopw [73] (fun i w' => ∃ k : Nat, k ≤ L.length ∧ i = .int .i64 k ∧ Hid (∀ l ∈ L.take k, wrong l 3 = 0) ∧ Below wc.heap.size wc w') (fun i _ => L.length - (intOf i).toNat)
    case atStart => exact ⟨0, Nat.zero_le _, rfl, fun l hl => by simp at hl, Below.refl _ _⟩
    case round =>
      obtain ⟨k, hk, rfl, hall, hbw⟩ := hrel
      have hsz := hbw.size
      have hBw : Below w.heap.size w wr := hcut.trans (hbw.mono hcut.size)
      by_cases hlt : k < L.length
      · have hpr := HRD.out.below hbw
        rcases hpr with rfl | ⟨b', o, rfl, hb', hc⟩
        · simp at hlt
        obtain ⟨dd, a', cp, d0, d1, hq, hcp, hmx⟩ := hc k hlt
        have HN : Hid (wrong L[k] 3 = 0 → ∀ l ∈ L.take (k + 1), wrong l 3 = 0) := fun h0 m hm => by
          rw [take_snoc hlt] at hm
          rcases List.mem_append.1 hm with hm | hm
          · exact hall.out m hm
          · rw [List.mem_singleton] at hm
            subst hm
            exact h0
        generalize L[k] = m at *
        have HQ : Hid (PartsAt wr a' m) := hq
        clear hc hq hall
        have hml : m.length ≤ 9223372036854775807 := by unfold maxLen at hmx; omega
        go_wp2_with fail
        refine (wrongParts_any a' m _ _ 3 _ rfl hml (HQ.out.below (below1 wr _)) (by omega)).mono ?_
        rintro e w2 ⟨rfl, hb2⟩
        have hB2 : Below wc.heap.size wc w2 := hbw.trans (((below1 wr _).trans (hb2.mono (by simp))).mono hsz)
        have hBw2 : Below w.heap.size w w2 := hcut.trans (hB2.mono hcut.size)
        clear d0 d1 hb2
        by_cases h0 : wrong m 3 = 0
        · have HN2 : Hid _ := HN.out h0
          rw [h0]
          clear h0 HN
          go_wp2
          go_roundw
          case rel => exact ⟨k + 1, by omega, by go_num, HN2, hB2⟩
          case measure => simp [intOf]; omega
        · have h0' : (wrong m 3 != 0) = true := by simpa using h0
          clear h0 HN
          generalize wrong m 3 = x at *
          go_wp2
          go_ret
          exact ⟨rfl, hBw2⟩
      · have HA : Hid (∀ l ∈ L, wrong l ((3 : Nat) : Int) = 0) := fun l hl => hall.out l (by rw [List.take_of_length_le (by omega)]; exact hl)
        have HRw : Hid (ReadysAt wr d L) := HRD.out.below hbw
        clear hall HRD hbw
        go_wp2_with fail
        refine (mall_any 3 d L _ _ _ (by decide) (by decide) rfl hld HRw.out HA.out).mono ?_
        rintro e w2 ⟨v2, ve2, rfl, ho2, he2, hb2⟩
        obtain ⟨a2, c2, rfl, hx2, _⟩ := ho2.sums
        obtain ⟨f2, g2, rfl, hf2⟩ := he2.errs
        rw [allM_len, noughts_len, errsM_len]
        have HW2 : Hid (ReadysAt w2 d L ∧ SumsL w2 a2 (allM (noughts 3) L) ∧ ErrsAt w2 f2 (errsM (noughts 3) L)) := ⟨HRw.out.below hb2, hx2, hf2⟩
        have hB2 : Below w.heap.size w w2 := hBw.trans (hb2.mono hBw.size)
        clear ho2 he2 hx2 hf2 hb2 hBw HRw
        go_wp2_with fail
        refine (refAll_any 3 d L _ _ _ (by decide) (by decide) rfl hld HW2.out.1 HA.out).mono ?_
        rintro e w3 ⟨a3, c3, ve3, rfl, hx3, he3, hb3⟩
        obtain ⟨f3, g3, rfl, hf3⟩ := he3.errs
        rw [errsM_len]
        have HW3 : Hid (SumsL w3 a2 (allM (noughts 3) L) ∧ SumsL w3 a3 (allM (noughts 3) L) ∧ ErrsAt w3 f2 (errsM (noughts 3) L) ∧ ErrsAt w3 f3 (errsM (noughts 3) L)) := ⟨HW2.out.2.1.below hb3, hx3, HW2.out.2.2.below hb3, hf3⟩
        have hB3 : Below w.heap.size w w3 := hB2.trans (hb3.mono hB2.size)
        clear he3 hx3 hf3 hb3 hB2 HW2
        have gl : ((L.length : Int) != (L.length : Int)) = false := by simp
        go_wp2_with fail
        refine (sameSums_self a2 a3 (allM (noughts 3) L) _ _ _ _ _ (by rw [allM_len, noughts_len]) (by rw [allM_len, noughts_len]) (by rw [allM_len, noughts_len]; decide) HW3.out.1 HW3.out.2.1).mono ?_
        rintro e w4 ⟨rfl, hb4⟩
        have HW4 : Hid (ErrsAt w4 f2 (errsM (noughts 3) L) ∧ ErrsAt w4 f3 (errsM (noughts 3) L) ∧ (errsM (noughts 3) L).length = L.length) := ⟨HW3.out.2.2.1.below hb4, HW3.out.2.2.2.below hb4, errsM_len _ _⟩
        have hB4 : Below w.heap.size w w4 := hB3.trans (hb4.mono hB3.size)
        clear hb4 hB3 HW3 HA
        generalize errsM (noughts 3) L = es at *
        go_wp2
        go_loopw [105] (fun i w' => ∃ j : Nat, j ≤ L.length ∧ i = .int .i64 j ∧ Below w4.heap.size w4 w') (fun i _ => L.length - (intOf i).toNat)
        case atStart => exact ⟨0, Nat.zero_le _, rfl, Below.refl _ _⟩
        case round =>
          obtain ⟨j, hj, rfl, hbj⟩ := hrel
          by_cases hjt : j < L.length
          · have hje : j < es.length := by rw [HW4.out.2.2]; exact hjt
            have e1 := HW4.out.1.below hbj
            have e2 := HW4.out.2.1.below hbj
            rcases e1 with rfl | ⟨b1, rfl, hb1, hc1⟩
            · simp at hje
            rcases e2 with rfl | ⟨b2, rfl, hb2, hc2⟩
            · simp at hje
            have x1 := hc1 j hje
            have x2 := hc2 j hje
            clear hc1 hc2
            generalize es[j] = y at *
            have gy : (y != y) = false := by simp
            clear hje
            go_wp2
            go_quiet (fail)
            go_wp2
            go_roundw
            case rel => exact ⟨j + 1, by omega, by go_num, below_drewN hbj _⟩
            case measure => simp [intOf]; omega
          · go_wp2
            go_ret
            exact ⟨rfl, hB4.trans (hbj.mono hB4.size)⟩

end Go.Proofs.Ytmihdckjoodjeab
