/- PartTells, walked: called at whatever parts, numbers and sums it answers true and leaves all older memory as it was. -/
import Derived.Test.YtembpegakcooeaaPure3
import Derived.Test.YtembpegakcooeaaRef4
import Derived.Test.YtembpegakcooeaaPart3
import Derived.Deep.RegionHeld3
import Derived.Deep.RegionWith
import Derived.Deep.DrawnRows
namespace Go.Proofs.Ytembpegakcooeaa
open Go.RowKit
attribute [local go_sem ↓] Go.wp_at_zero Go.wp_at_succ
attribute [local go_sem ↓] eq4_self

/-- The numbers l lie in memory from the address on. -/
def IntsAt (w : World) (a : Option Addr) (l : List Int) : Prop :=
  l = [] ∨ ∃ b o, a = some ⟨b, o, none⟩ ∧ b < w.heap.size ∧ ∀ i (h : i < l.length), w.cell? ⟨b, o + i, none⟩ = some (.int .i64 l[i])
theorem IntsAt.below {w w' : World} {a : Option Addr} {l : List Int} (h : IntsAt w a l) (hb : Below w.heap.size w w') : IntsAt w' a l := by
  rcases h with rfl | ⟨b, o, rfl, hlt, hc⟩
  · exact Or.inl rfl
  · refine Or.inr ⟨b, o, rfl, Nat.lt_of_lt_of_le hlt hb.size, fun i hi => ?_⟩
    obtain ⟨hcc, _⟩ := bcell hb
    exact (hcc _ _ hlt).trans (hc i hi)
theorem OwnI.ints {w : World} {base : Nat} {v : Value} {l : List Int} (h : OwnI w base v l) : ∃ a cap, v = .slice a l.length cap ∧ IntsAt w a l ∧ l.length ≤ cap := by
  rcases h.2 with ⟨hv, h0⟩ | ⟨g, cap, cur, hv, hg, hh, hcap, _, hsz, htake⟩
  · exact ⟨none, 0, by rw [hv, h0], Or.inl (List.eq_nil_of_length_eq_zero h0), by omega⟩
  · refine ⟨_, cap, hv, Or.inr ⟨g, 0, rfl, ?_, fun i hi => ?_⟩, hcap⟩
    · rcases Nat.lt_or_ge g w.heap.size with h' | h'
      · exact h'
      · rw [Array.getElem?_eq_none h'] at hh; cases hh
    · rw [Nat.zero_add, cell_of_row w g i cur _ _ hh]
      have e : (cur.toList.take (l.length * 1))[i]? = (l.map (Value.int .i64))[i]? := by rw [htake]
      rw [List.getElem?_take_of_lt (by omega), List.getElem?_map, List.getElem?_eq_getElem hi] at e
      simpa using e

theorem sameParts_self (a1 a2 : Option Addr) (l : List P3) (c1 c2 n1 n2 : Nat) (w : World) (hn1 : n1 = l.length) (hn2 : n2 = l.length) (hl : l.length ≤ 4) (hp1 : PartsAt w a1 l) (hp2 : PartsAt w a2 l) :
    Calls Try.prog 11 #[.slice a1 n1 c1, .slice a2 n2 c2] w fun e w' => e = .returned (.bool true) ∧ Below w.heap.size w w' :=
  (sameParts_any a1 a2 l l c1 c2 n1 n2 w hn1 hn2 (by omega) (by omega) hp1 hp2).mono fun e w' ⟨he, hb⟩ => ⟨by simpa using he, hb⟩
theorem doV {f : Nat} {s : S4} {l : List P3} {args : Array Value} {w : World} {t0 t1 t2 t3 : Int} (hd : doB s l = (t0, t1, t2, t3))
    (h : Calls Try.prog f args w fun e w' => (∃ t0 t1 t2 t3 : Int, doB s l = (t0, t1, t2, t3) ∧ e = .returned (.agg #[.int .i64 t0, .int .i64 t1, .int .i64 t2, .int .i64 t3])) ∧ Below w.heap.size w w') :
    Calls Try.prog f args w fun e w' => e = .returned (.agg #[.int .i64 t0, .int .i64 t1, .int .i64 t2, .int .i64 t3]) ∧ Below w.heap.size w w' :=
  h.mono fun e w' ⟨⟨u0, u1, u2, u3, hu, he⟩, hb⟩ => by
    rw [hd] at hu
    cases hu
    exact ⟨he, hb⟩

set_option maxHeartbeats 2000000 in
theorem partTells_any (a : Option Addr) (l : List P3) (cap n : Nat) (H N : Int) (s0 s1 s2 s3 : Int) (w : World) (hn : n = l.length) (hm : l.length ≤ 9223372036854775807) (hp : PartsAt w a l) (hcap : l.length ≤ cap) (hH : H ≤ 9223372036854775807) :
    Calls Try.prog 3 #[.slice a n cap, .int .i64 H, .int .i64 N, .agg #[.int .i64 s0, .int .i64 s1, .int .i64 s2, .int .i64 s3]] w fun e w' => e = .returned (.bool true) ∧ Below w.heap.size w w' := by
  subst hn
  go_enter Try.func3, Try.ntmps3
  go_wp2_with fail
  have hbA := below1 w (.cells #[.int .i64 s0, .int .i64 s1, .int .i64 s2, .int .i64 s3] 23)
  have hsA : w.heap.size < (w.alloc (.cells #[.int .i64 s0, .int .i64 s1, .int .i64 s2, .int .i64 s3] 23)).heap.size := by simp
  have hSA : SumsAt (w.alloc (.cells #[.int .i64 s0, .int .i64 s1, .int .i64 s2, .int .i64 s3] 23)) w.heap.size s0 s1 s2 s3 := by simp [SumsAt]
  have hpA := hp.below hbA
  generalize w.alloc (.cells #[.int .i64 s0, .int .i64 s1, .int .i64 s2, .int .i64 s3] 23) = wa at *
  refine (wrong_any _ l _ H _ hm hpA hcap).mono ?_
  rintro e w1 ⟨rfl, hb1⟩
  have hp1 := hpA.below hb1
  have hS1 := hSA.below hb1 hsA
  have hs1 := hb1.size
  have hB1 : Below w.heap.size w w1 := hbA.trans (hb1.mono (Nat.le_of_lt hsA))
  clear hpA hSA hp hb1 hbA
  obtain ⟨wv, hwv⟩ : ∃ x, x = wrong l H := ⟨_, rfl⟩
  rw [← hwv]
  go_wp2_with fail
  refine (wrongParts_any _ l _ _ H _ rfl hm hp1 hH).mono ?_
  rintro e w2 ⟨rfl, hb2⟩
  have hp2 := hp1.below hb2
  have hS2 := hS1.below hb2 (by omega)
  have hs2 := hb2.size
  have hB2 : Below w.heap.size w w2 := hB1.trans (hb2.mono hB1.size)
  clear hp1 hS1 hb2 hB1
  rw [← hwv]
  clear hwv
  have hww : (wv != wv) = false := by simp
  go_wp2_with fail
  refine (wrongParts_any _ l _ _ 3 _ rfl hm hp2 (by omega)).mono ?_
  rintro e w3 ⟨rfl, hb3⟩
  have hp3 := hp2.below hb3
  have hS3 := hS2.below hb3 (by omega)
  have hs3 := hb3.size
  have hB3 : Below w.heap.size w w3 := hB2.trans (hb3.mono hB2.size)
  clear hp2 hS2 hb3 hB2 hww
  by_cases hw : wrong l 3 = 0
  · rw [hw]
    obtain ⟨⟨y0, y1, y2, y3⟩, _⟩ := id hS3
    obtain ⟨hl1, hl4, hin, _⟩ := wrong_ok hw
    have HK : Hid (Small l ∧ (∀ p ∈ l, keyB p.2.1 = true) ∧ housesB l = refHousesTo l 3) := ⟨small_of hin, fun p hp => by
      have := hin p hp
      simp only [inB, decide_eq_true_eq] at this
      simp only [keyB, decide_eq_true_eq]; omega, houses_same hl1 hl4 hin⟩
    clear hw hin
    go_wp2_with fail
    refine (rightSums_any _ _ _ _ _).mono ?_
    rintro e w4 ⟨rfl, hb4⟩
    have hp4 := hp3.below hb4
    have hS4 := hS3.below hb4 (by omega)
    have hs4 := hb4.size
    have hB4 : Below w.heap.size w w4 := hB3.trans (hb4.mono hB3.size)
    clear hp3 hS3 hb4 hB3 y0 y1 y2 y3
    by_cases hr : rightS (s0, s1, s2, s3) = true
    · rw [hr]
      have HR : Hid (rightS (s0, s1, s2, s3) = true) := hr
      clear hr
      go_wp2_with fail
      refine (houses_any a l _ _ _ rfl hl4 hl1 hp4).mono ?_
      rintro e w5 ⟨v5, rfl, ho5, hb5⟩
      rw [HK.out.2.2] at ho5
      have hlenx := refHouses_len l 3
      obtain ⟨xs, hxs⟩ : ∃ xs, xs = refHousesTo l 3 := ⟨_, rfl⟩
      rw [← hxs] at ho5 hlenx
      obtain ⟨ax, cx, rfl, hix, _⟩ := ho5.ints
      have hp5 := hp4.below hb5
      have hS5 := hS4.below hb5 (by omega)
      have hs5 := hb5.size
      have hB5 : Below w.heap.size w w5 := hB4.trans (hb5.mono hB4.size)
      have HXS : Hid (xs = refHousesTo l 3) := hxs
      clear hp4 hS4 hb5 hB4 ho5 hxs
      go_wp2_with fail
      refine (refHouses_any a l _ _ _ rfl hl4 hp5).mono ?_
      rintro e w6 ⟨v6, rfl, ho6, hb6⟩
      rw [← HXS.out] at ho6
      obtain ⟨ay, cy, rfl, hiy, _⟩ := ho6.ints
      have hp6 := hp5.below hb6
      have hix6 := hix.below hb6
      have hS6 := hS5.below hb6 (by omega)
      have hs6 := hb6.size
      have hB6 : Below w.heap.size w w6 := hB5.trans (hb6.mono hB5.size)
      have HS6 : Hid (SumsAt w6 w.heap.size s0 s1 s2 s3) := hS6
      clear hp5 hS5 hb6 hB5 ho6 hix HXS hS6
      have hll : ((xs.length : Int) != (xs.length : Int)) = false := by simp
      go_wp2
      go_loopw [39] (fun i w' => ∃ k : Nat, k ≤ xs.length ∧ i = .int .i64 k ∧ Below w6.heap.size w6 w') (fun i _ => xs.length - (intOf i).toNat)
      case atStart => exact ⟨0, Nat.zero_le _, rfl, Below.refl _ _⟩
      case round =>
        obtain ⟨k, hk, rfl, hbw⟩ := hrel
        by_cases hlt : k < xs.length
        · rcases hix6 with rfl | ⟨bx, ox, rfl, hbx, hcx⟩
          · simp at hlt
          rcases hiy with rfl | ⟨b2, o2, rfl, hb2, hc2⟩
          · simp at hlt
          have e1 := hcx k hlt
          have e2 := hc2 k hlt
          obtain ⟨hcc, hff⟩ := bcell hbw
          have hee : (xs[k] != xs[k]) = false := by simp
          clear hcx hc2
          go_wp2
          go_quiet (fail)
          go_wp2
          go_roundw
          case rel => exact ⟨k + 1, by omega, by go_num, below_drewN hbw _⟩
          case measure => simp [intOf]; omega
        · have hp7 := hp6.below hbw
          have hS7 := HS6.out.below hbw (by omega)
          have hs7 := hbw.size
          have hB7 : Below w.heap.size w wr := hB6.trans (hbw.mono hB6.size)
          clear hp6 hix6 hiy hbw
          go_wp2_with fail
          refine (refOf_any N a l _ _ _ rfl hl4 hp7).mono ?_
          rintro e w8 ⟨v8, rfl, ho8, hb8⟩
          have hsm : Small (ofB l N) := fun p hp => HK.out.1 p (List.mem_filter.1 hp).1
          have hky : ∀ p ∈ ofB l N, keyB p.2.1 = true := fun p hp => HK.out.2.1 p (List.mem_filter.1 hp).1
          have hlo : (ofB l N).length ≤ 4 := Nat.le_trans (List.length_filter_le _ _) hl4
          obtain ⟨ao, co, rfl, hpo, _⟩ := ho8.parts
          have hp8 := hp7.below hb8
          have hS8 := hS7.below hb8 (by omega)
          have hs8 := hb8.size
          have hB8 : Below w.heap.size w w8 := hB7.trans (hb8.mono hB7.size)
          obtain ⟨os, hos⟩ : ∃ os, os = ofB l N := ⟨_, rfl⟩
          rw [← hos] at hpo hsm hky hlo ⊢
          obtain ⟨t0, t1, t2, t3, hd⟩ : ∃ t0 t1 t2 t3, doB (s0, s1, s2, s3) os = (t0, t1, t2, t3) := ⟨_, _, _, _, rfl⟩
          have HO : Hid (os = ofB l N ∧ Small os ∧ (∀ p ∈ os, keyB p.2.1 = true) ∧ os.length ≤ 4 ∧ Within 2199023255552 (s0, s1, s2, s3) ∧ doB (s0, s1, s2, s3) os = (t0, t1, t2, t3)) := ⟨hos, hsm, hky, hlo, within_mono (within_right HR.out) (by omega), hd⟩
          have HPP : Hid (PartsAt w8 a l ∧ PartsAt w8 ao os ∧ SumsAt w8 w.heap.size s0 s1 s2 s3) := ⟨hp8, hpo, hS8⟩
          clear hp7 hS7 hb8 hB7 ho8 hos hsm hky hlo hp8 hpo hS8 hd HS6
          have hkeep : ∀ w', Below w8.heap.size w8 w' → ((w'.cell? ⟨w.heap.size, 0, none⟩ = some (.int .i64 s0) ∧ w'.cell? ⟨w.heap.size, 1, none⟩ = some (.int .i64 s1) ∧ w'.cell? ⟨w.heap.size, 2, none⟩ = some (.int .i64 s2) ∧ w'.cell? ⟨w.heap.size, 3, none⟩ = some (.int .i64 s3))) :=
            fun w' hb => (HPP.out.2.2.below hb (by omega)).1
          have HKP : Hid _ := hkeep
          clear hkeep
          obtain ⟨fv, hfv⟩ : ∃ fv, fv = fitsB (s0, s1, s2, s3) os := ⟨_, rfl⟩
          have HFV : Hid (fv = fitsB (s0, s1, s2, s3) os) := hfv
          clear hfv
          go_wp2_with fail
          go_region_held3 (fun w' => ((w'.cell? ⟨w.heap.size, 0, none⟩ = some (.int .i64 s0) ∧ w'.cell? ⟨w.heap.size, 1, none⟩ = some (.int .i64 s1) ∧ w'.cell? ⟨w.heap.size, 2, none⟩ = some (.int .i64 s2) ∧ w'.cell? ⟨w.heap.size, 3, none⟩ = some (.int .i64 s3)))) (
            first
            | exact HKP.out _ hBh
            | exact HKP.out _ hBg
            | exact HKP.out _ hBf
            | exact HKP.out _ hBe
            | exact HKP.out _ hBd
            | exact HKP.out _ hBc
            | exact HKP.out _ (Below.refl _ _)
            | exact HKP.out _ (Below.refl _ _).drew) (
            first
            | (go_at_call 12; refine (of_any N a l _ _ _ rfl hl4 (by exact HPP.out.1.below (Below.refl _ _).drew)).mono ?_; rintro e wc ⟨vc, rfl, hoc, hbc⟩; rw [← HO.out.1] at hoc; obtain ⟨ac, cc, rfl, hpc, _⟩ := hoc.parts; have hBc : Below w8.heap.size w8 wc := (Below.refl _ _).drew.trans hbc; clear hbc hoc)
            | (go_at_call 11; refine (sameParts_self ac ao os _ _ _ _ _ rfl rfl HO.out.2.2.2.1 hpc (by exact HPP.out.2.1.below hBc)).mono ?_; rintro e wd ⟨rfl, hbd⟩; have hBd : Below w8.heap.size w8 wd := hBc.trans (hbd.mono hBc.size); clear hbd hpc)
            | (go_at_call 13; refine (fits_any s0 s1 s2 s3 ao os _ _ _ rfl HO.out.2.2.2.1 (by exact HPP.out.2.1.below hBd) HO.out.2.1 HO.out.2.2.2.2.1).mono ?_; rw [← HFV.out]; rintro e we ⟨rfl, hbe⟩; have hBe : Below w8.heap.size w8 we := hBd.trans (hbe.mono hBd.size); clear hbe)
            | (go_at_call 14; refine (refFits_any s0 s1 s2 s3 ao os _ _ _ rfl HO.out.2.2.2.1 (by exact HPP.out.2.1.below hBe) HO.out.2.1 HO.out.2.2.1 HO.out.2.2.2.2.1).mono ?_; rw [← HFV.out]; rintro e wf ⟨rfl, hbf⟩; have hBf : Below w8.heap.size w8 wf := hBe.trans (hbf.mono hBe.size); clear hbf)
            | (go_at_call 15; refine (doV HO.out.2.2.2.2.2 (do_any s0 s1 s2 s3 ao os _ _ _ rfl HO.out.2.2.2.1 (by exact HPP.out.2.1.below hBf) HO.out.2.1 HO.out.2.2.2.2.1)).mono ?_; rintro e wg ⟨rfl, hbg⟩; have hBg : Below w8.heap.size w8 wg := hBf.trans (hbg.mono hBf.size); clear hbg)
            | (go_at_call 16; refine (doV HO.out.2.2.2.2.2 (refDo_any s0 s1 s2 s3 ao os _ _ _ rfl HO.out.2.2.2.1 (by exact HPP.out.2.1.below hBg) HO.out.2.1 HO.out.2.2.1 HO.out.2.2.2.2.1)).mono ?_; rintro e wh ⟨rfl, hbh⟩; have hBh : Below w8.heap.size w8 wh := hBg.trans (hbh.mono hBg.size); clear hbh))
          go_wp2
          go_ret
          exact ⟨rfl, hB8.trans (hBh.mono hB8.size)⟩
    · have hr' : rightS (s0, s1, s2, s3) = false := by simpa using hr
      rw [hr']
      clear hr hr' hS4 HK
      go_wp2
      go_ret
      exact ⟨rfl, hB4⟩
  · have hw' : (wrong l 3 == 0) = false := by simpa using hw
    generalize wrong l 3 = x at *
    clear hS3
    have hw2 : (x != 0) = true := by simpa using hw
    clear hw
    go_wp2
    go_ret
    exact ⟨rfl, hB3⟩

end Go.Proofs.Ytembpegakcooeaa
