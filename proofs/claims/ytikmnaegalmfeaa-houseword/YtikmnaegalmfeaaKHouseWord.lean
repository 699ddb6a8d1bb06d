/- What the law HouseWord does, called at whatever log and messages. -/
import Derived.Test.YtikmnaegalmfeaaKHousW
import Derived.Deep.DeepCutAuto
namespace Go.Proofs.Ytikmnaegalmfeaa
open Go.RowKit
attribute [local go_sem ↓] Go.wp_at_zero Go.wp_at_succ

theorem HouseAt.allY {w : World} {la ra da : Option Addr} {nl lc nr rc nd dc : Nat} {t0 t1 t2 t3 : Int} {L : List R3} {h : H3} {k : Nat} (hh : HouseAt w (.agg #[.slice la nl lc, .int .i64 t0, .int .i64 t1, .int .i64 t2, .int .i64 t3, .slice ra nr rc, .slice da nd dc]) L h) (hi : HInv k h) (hk : k ≤ 9223372036854775807) : ∃ XR, RdyAt w ra nr XR h.2.1 ∧ nd = h.2.2.length ∧ RowAt 1 encI w da h.2.2 := by
  obtain ⟨la', nl', lc', ra', nr', rc', XR, da', nd', dc', hv, h1, h2, h3⟩ := hh.all hi hk
  injection hv with hv
  injection hv with hv
  simp only [List.cons.injEq, and_true] at hv
  obtain ⟨e0, -, -, -, -, e5, e6⟩ := hv
  cases e5
  cases e6
  exact ⟨XR, h1, h2, h3⟩

/-- Behind messages: block B holds a house that heard them, and keeps its word. -/
def WordAt (W : World) (B : Nat) (d : Int) (w' : World) (j : Nat) : Prop :=
  ∃ (L : List R3) (tla : Option Addr) (tnl tlc : Nat) (t0 t1 t2 t3 : Int) (tra : Option Addr) (tnr trc : Nat) (tda : Option Addr) (tnd tdc : Nat), Blk w' B #[.slice tla tnl tlc, .int .i64 t0, .int .i64 t1, .int .i64 t2, .int .i64 t3, .slice tra tnr trc, .slice tda tnd tdc] 31 ∧ HouseN W.heap.size w' (.agg #[.slice tla tnl tlc, .int .i64 t0, .int .i64 t1, .int .i64 t2, .int .i64 t3, .slice tra tnr trc, .slice tda tnd tdc]) L (houseB L) ∧ Mild L ∧ Word L d ∧ L.length ≤ 61 + j ∧ Below W.heap.size W w'

set_option maxRecDepth 20000 in
set_option maxHeartbeats 16000000 in
theorem houseWord_any (a : Option Addr) (X : List XL) (cap n : Nat) (k d hs : Int) (ma : Option Addr) (l : List P3) (nm cm : Nat) (ba : Option Addr) (X2 : List XM) (bc n2 : Nat) (w : World) (hn : n = X.length) (hl : X.length ≤ 9223372036854775807) (hm : ∀ x ∈ X, x.2.2.2.length ≤ 9223372036854775807) (hp : RecsAt w a X) (hnm : nm = l.length) (hml : l.length ≤ 9223372036854775807) (hq : PartsAt w ma l)
    (hn2 : n2 = X2.length) (hsz : n2 * 48 ≤ 140737488355328) (hm2 : ∀ x ∈ X2, x.2.2.2.2.length ≤ 9223372036854775807) (hrow2 : RowAt 4 encM w ba X2) (hp2 : ∀ x ∈ X2, PartsAt w x.2.2.2.1.1 x.2.2.2.2) :
    Calls Try.prog 5 #[.slice a n cap, .agg #[.int .i64 k, .int .i64 d, .int .i64 hs, .slice ma nm cm], .slice ba n2 bc] w fun e w' => e = .returned (.bool true) ∧ Below w.heap.size w w' := by
  have HN : Hid ((n = X.length ∧ X.length ≤ 9223372036854775807 ∧ (∀ x ∈ X, x.2.2.2.length ≤ 9223372036854775807) ∧ RecsAt w a X) ∧ (nm = l.length ∧ l.length ≤ 9223372036854775807 ∧ PartsAt w ma l)) := ⟨⟨hn, hl, hm, hp⟩, hnm, hml, hq⟩
  have HX2 : Hid (n2 = X2.length ∧ (∀ x ∈ X2, x.2.2.2.2.length ≤ 9223372036854775807) ∧ RowAt 4 encM w ba X2 ∧ (∀ x ∈ X2, PartsAt w x.2.2.2.1.1 x.2.2.2.2)) := ⟨hn2, hm2, hrow2, hp2⟩
  have hb0 := below1 w (.cells #[.int .i64 k, .int .i64 d, .int .i64 hs, .slice ma nm cm] 25)
  have hm0 : Blk (w.alloc (.cells #[.int .i64 k, .int .i64 d, .int .i64 hs, .slice ma nm cm] 25)) w.heap.size #[.int .i64 k, .int .i64 d, .int .i64 hs, .slice ma nm cm] 25 := Blk.new _ _ _
  clear hn hl hm hp hnm hml hq hn2 hm2 hrow2 hp2
  go_enter Try.func5, Try.ntmps5
  go_wp2_with fail
  generalize (w.alloc (.cells #[.int .i64 k, .int .i64 d, .int .i64 hs, .slice ma nm cm] 25)) = W0 at *
  refine (alive7_any W0).mono ?_
  rintro e w1 ⟨rfl, hb1⟩
  have hm1 := hm0.below hb1 hm0.lt
  have hB1 : Below w.heap.size w w1 := hb0.trans (hb1.mono hb0.size)
  have r0 := hm1.cell 0
  have r1 := hm1.cell 1
  have r2 := hm1.cell 2
  have r3 := hm1.cell 3
  have rl := hm1.lt
  simp at r0 r1 r2 r3
  clear hm0 hb0 hb1
  go_wp2_with fail
  clear r0 r1 r2 r3 rl
  refine (right_any a X cap n k d hs ma l nm cm w1 HN.out.1.1 HN.out.1.2.1 HN.out.1.2.2.1 (HN.out.1.2.2.2.below hB1) HN.out.2.1 HN.out.2.2.1 (HN.out.2.2.2.below hB1)).mono ?_
  rintro e W ⟨rfl, hb2⟩
  have hm2 := hm1.below hb2 hm1.lt
  have hB2 : Below w.heap.size w W := hB1.trans (hb2.mono hB1.size)
  clear hm1 hb2 hB1
  generalize hz : (rightLog (X.map stripL) && decide (wrongMB k d hs l = 0) && rightS (houseB (X.map stripL)).1) = z at *
  cases z
  · clear hz
    go_wp2
    go_ret
    exact ⟨rfl, hB2⟩
  simp only [Bool.and_eq_true, decide_eq_true_eq] at hz
  obtain ⟨⟨hz1, hz2⟩, hz3⟩ := hz
  have hk0 := hm2.cell 0
  simp at hk0
  have hltm := hm2.lt
  by_cases k1 : k = 1
  case neg =>
    have k1' : (k == 1) = false := by simpa using k1
    clear hz1 hz2 hz3 k1
    go_wp2
    go_ret
    exact ⟨rfl, hB2⟩
  subst k1
  have hmild := Mild.right hz1
  have hmild1 : Mild (hearL (X.map stripL) 1 d l) := hmild.hear hz2
  have hlen := (rightLog_ok hz1).2
  have hlen1 := hearL_len (X.map stripL) 1 d l
  have hwl := ((wrongMB_ok hz2).2.2.2.2.2 rfl).1
  have hok : OkP l := okP_wrong hwl
  have hd0 : 0 ≤ d := (wrongMB_ok hz2).1
  have hl1 : 1 ≤ l.length := (wrong_ok hwl).1
  have HD0 : Hid (0 ≤ d ∧ 1 ≤ l.length) := ⟨hd0, hl1⟩
  have HHo : Hid (∀ w', Below W.heap.size W w' → Calls Try.prog 8 #[.slice a n cap] w' fun e w'' => ∃ v, e = .returned v ∧ HouseAt w'' v (X.map stripL) (houseB (X.map stripL)) ∧ Below w'.heap.size w' w'') := fun w' hb => refHouse_any a X cap n w' HN.out.1.1 (hmild.calc (by omega)) ((HN.out.1.2.2.2.below hB2).below hb)
  have HHe : Hid (∀ w' v, Below W.heap.size W w' → HouseAt w' v (X.map stripL) (houseB (X.map stripL)) → Calls Try.prog 9 #[v, .int .i64 hs, .agg #[.int .i64 1, .int .i64 d, .int .i64 hs, .slice ma nm cm]] w' fun e w'' => ∃ v' sa sn sc, e = .returned (.tuple #[v', .slice sa sn sc]) ∧ HouseN w'.heap.size w'' v' (hearL (X.map stripL) 1 d l) (houseB (hearL (X.map stripL) 1 d l)) ∧ OwnL 25 4 encM w'' w'.heap.size (.slice sa sn sc) ((hearM (X.map stripL) hs 1 d l).map msgX) ∧ Below w'.heap.size w' w'') := fun w' v hb hv =>
    hear_any v (X.map stripL) hs 1 d hs ma nm cm l w' hv.u HN.out.2.1 ((HN.out.2.2.2.below hB2).below hb) hok (hmild.calc (by omega)) hmild.bound.pos (fun r hr => by have h := hmild1; rw [hearL_some hr] at h; exact h.calc (by rw [List.length_append, List.length_singleton]; omega))
  have HWd : Hid (Mild (hearL (X.map stripL) 1 d l) ∧ (hearL (X.map stripL) 1 d l).length ≤ 61 ∧ (hearM (X.map stripL) hs 1 d l = [(2, d, hs, [])] → Word (hearL (X.map stripL) 1 d l) d) ∧ (hearM (X.map stripL) hs 1 d l = [] ∨ ∃ s, hearM (X.map stripL) hs 1 d l = [(s, d, hs, [])])) := by
    refine ⟨hmild1, by omega, fun h => ?_, ?_⟩
    · refine word_yes ?_
      unfold hearM at h
      cases hh : hearS (X.map stripL) 1 d l with
      | none => rw [hh] at h; cases h
      | some s => rw [hh] at h; simp at h; rw [h]
    · unfold hearM
      cases hearS (X.map stripL) 1 d l with
      | none => exact Or.inl rfl
      | some s => exact Or.inr ⟨s, rfl⟩
  clear hmild hmild1 hlen hlen1 hz1 hz2 hz3 hok hwl hd0 hl1 hk0
  generalize hearL (X.map stripL) 1 d l = L1 at *
  generalize hearM (X.map stripL) hs 1 d l = M1 at *
  have HW : Hid (Below w.heap.size w W ∧ Blk W w.heap.size #[.int .i64 1, .int .i64 d, .int .i64 hs, .slice ma nm cm] 25) := ⟨hB2, hm2⟩
  have HK : Hid (∀ w', Below W.heap.size W w' → (w'.cell? ⟨w.heap.size, 0, none⟩ = some (.int .i64 1) ∧ w'.cell? ⟨w.heap.size, 1, none⟩ = some (.int .i64 d) ∧ w'.cell? ⟨w.heap.size, 2, none⟩ = some (.int .i64 hs) ∧ w'.cell? ⟨w.heap.size, 3, none⟩ = some (.slice ma nm cm))) := fun w' hb =>
    ⟨(hm2.below hb hm2.lt).cell 0, (hm2.below hb hm2.lt).cell 1, (hm2.below hb hm2.lt).cell 2, (hm2.below hb hm2.lt).cell 3⟩
  have hX0 : Below W.heap.size W W.drew := (Below.refl _ _).drew
  have hX1 := hX0.alloc hX0.size (.cells #[.slice none 0 0, .int .i64 0, .int .i64 0, .int .i64 0, .int .i64 0, .slice none 0 0, .slice none 0 0] 31)
  have hX2 := ((Below.refl W.heap.size W).alloc (Nat.le_refl _) (.cells #[.slice none 0 0, .int .i64 0, .int .i64 0, .int .i64 0, .int .i64 0, .slice none 0 0, .slice none 0 0] 31)).drew
  have hA0 := Blk.new W.drew #[.slice none 0 0, .int .i64 0, .int .i64 0, .int .i64 0, .int .i64 0, .slice none 0 0, .slice none 0 0] 31
  have hA1 := (Blk.new W #[.slice none 0 0, .int .i64 0, .int .i64 0, .int .i64 0, .int .i64 0, .slice none 0 0, .slice none 0 0] 31).drew
  have hlt := hm2.lt
  have r0 := (HK.out W (Below.refl _ _)).1
  clear hB2 hm2
  go_upto_region 5 with fail
  clear r0
  go_cut [7, 8] (fun p s wx => ∃ (B : Nat) (la' : Option Addr) (nl' lc' : Nat) (t0 t1 t2 t3 : Int) (ra' : Option Addr) (nr' rc' : Nat) (da' : Option Addr) (nd' dc' : Nat) (sa : Option Addr) (sn sc : Nat), p = .pointer (some ⟨B, 0, none⟩) ∧ s = .slice sa sn sc ∧ Hid (W.heap.size ≤ B ∧ Blk wx B #[.slice la' nl' lc', .int .i64 t0, .int .i64 t1, .int .i64 t2, .int .i64 t3, .slice ra' nr' rc', .slice da' nd' dc'] 31 ∧ HouseN W.heap.size wx (.agg #[.slice la' nl' lc', .int .i64 t0, .int .i64 t1, .int .i64 t2, .int .i64 t3, .slice ra' nr' rc', .slice da' nd' dc']) L1 (houseB L1) ∧ OwnL 25 4 encM wx W.heap.size (.slice sa sn sc) (M1.map msgX) ∧ Below W.heap.size W wx))
  case first =>
    go_region_held3 (fun w' => (w'.cell? ⟨w.heap.size, 0, none⟩ = some (.int .i64 1) ∧ w'.cell? ⟨w.heap.size, 1, none⟩ = some (.int .i64 d) ∧ w'.cell? ⟨w.heap.size, 2, none⟩ = some (.int .i64 hs) ∧ w'.cell? ⟨w.heap.size, 3, none⟩ = some (.slice ma nm cm))) (
      first
      | with_reducible exact HK.out _ hS7
      | with_reducible exact HK.out _ (Below.refl _ _)
      | with_reducible exact HK.out _ hX0
      | with_reducible exact HK.out _ hX1
      | with_reducible exact HK.out _ hX2
      | with_reducible exact HK.out _ hB2
      | with_reducible exact HK.out _ (hB2.alloc hB2.size _)
      | with_reducible exact HK.out _ hB3
      | with_reducible exact HK.out _ (hB3.alloc hB3.size _)) (
      first
      | (go_at_call 9; refine (HHe.out _ v2 (by first | with_reducible exact hB2 | with_reducible exact hB2.alloc hB2.size _) (by first | with_reducible exact HV2.out | with_reducible exact HV2.out.below (below1 w2 _))).mono ?_; rintro e w3 ⟨v3, sa, sn, sc, rfl, hh3, ho3, hb3⟩; obtain ⟨la', nl', lc', t0, t1, t2, t3, ra', nr', rc', da', nd', dc', rfl⟩ := houseN_open hh3; have hA2 := Blk.new w2 #[.slice none 0 0, .int .i64 0, .int .i64 0, .int .i64 0, .int .i64 0, .slice none 0 0, .slice none 0 0] 31; have hB3 : Below W.heap.size W w3 := (by first | with_reducible exact hB2.trans (hb3.mono hB2.size) | with_reducible exact (hB2.alloc hB2.size _).trans (hb3.mono (hB2.alloc hB2.size _).size)); have HY : Hid (HouseN W.heap.size w3 (.agg #[.slice la' nl' lc', .int .i64 t0, .int .i64 t1, .int .i64 t2, .int .i64 t3, .slice ra' nr' rc', .slice da' nd' dc']) L1 (houseB L1) ∧ OwnL 25 4 encM w3 W.heap.size (.slice sa sn sc) (M1.map msgX)) := ⟨(by first | exact hh3.mono hB2.size | exact hh3.mono (hB2.alloc hB2.size _).size), (by first | exact ho3.mono hB2.size | exact ho3.mono (hB2.alloc hB2.size _).size)⟩; (try (have hZ3 : Blk w3 W.heap.size #[.slice none 0 0, .int .i64 0, .int .i64 0, .int .i64 0, .int .i64 0, .slice none 0 0, .slice none 0 0] 31 := (by with_reducible exact hZ2.below hb3 hZ2.lt); have hBl : W.heap.size ≤ W.heap.size := Nat.le_refl _)); (try (have hZ3 : Blk w3 w2.heap.size #[.slice none 0 0, .int .i64 0, .int .i64 0, .int .i64 0, .int .i64 0, .slice none 0 0, .slice none 0 0] 31 := (by with_reducible exact hA2.below hb3 hA2.lt); have hBl : W.heap.size ≤ w2.heap.size := hB2.size)); (try (obtain ⟨⟨n0, n1, n2, n3, n4, n5, n6⟩, f0, f1, f2, f3, f4, f5, f6⟩ := zcells hZ3; have hZl := hZ3.lt; obtain ⟨hF7, hK7⟩ := fill7K hZ3 (.slice la' nl' lc') (.int .i64 t0) (.int .i64 t1) (.int .i64 t2) (.int .i64 t3) (.slice ra' nr' rc') (.slice da' nd' dc'); have hS7 := hB3.trans (hK7.below hB3.size (fun k hk => (by omega))))); clear hh3 ho3)
      | (go_at_call 8; refine (HHo.out _ (by first | with_reducible exact hX0 | with_reducible exact hX1 | with_reducible exact hX2)).mono ?_; rintro e w2 ⟨v2, rfl, hv2, hb2⟩; have hB2 : Below W.heap.size W w2 := (by first | with_reducible exact hX0.trans (hb2.mono hX0.size) | with_reducible exact hX1.trans (hb2.mono hX1.size) | with_reducible exact hX2.trans (hb2.mono hX2.size)); have HV2 : Hid (HouseAt w2 v2 (X.map stripL) (houseB (X.map stripL))) := hv2; (try (have hZ2 : Blk w2 W.heap.size #[.slice none 0 0, .int .i64 0, .int .i64 0, .int .i64 0, .int .i64 0, .slice none 0 0, .slice none 0 0] 31 := (by first | with_reducible exact hA0.below hb2 hA0.lt | with_reducible exact hA1.below hb2 hA1.lt))); clear hv2))
    · have HM : Hid (W.heap.size ≤ w3.heap.size ∧ Blk (w3.alloc (.cells #[.slice la' nl' lc', .int .i64 t0, .int .i64 t1, .int .i64 t2, .int .i64 t3, .slice ra' nr' rc', .slice da' nd' dc'] 31)) w3.heap.size #[.slice la' nl' lc', .int .i64 t0, .int .i64 t1, .int .i64 t2, .int .i64 t3, .slice ra' nr' rc', .slice da' nd' dc'] 31 ∧ HouseN W.heap.size (w3.alloc (.cells #[.slice la' nl' lc', .int .i64 t0, .int .i64 t1, .int .i64 t2, .int .i64 t3, .slice ra' nr' rc', .slice da' nd' dc'] 31)) (.agg #[.slice la' nl' lc', .int .i64 t0, .int .i64 t1, .int .i64 t2, .int .i64 t3, .slice ra' nr' rc', .slice da' nd' dc']) L1 (houseB L1) ∧ OwnL 25 4 encM (w3.alloc (.cells #[.slice la' nl' lc', .int .i64 t0, .int .i64 t1, .int .i64 t2, .int .i64 t3, .slice ra' nr' rc', .slice da' nd' dc'] 31)) W.heap.size (.slice sa sn sc) (M1.map msgX) ∧ Below W.heap.size W (w3.alloc (.cells #[.slice la' nl' lc', .int .i64 t0, .int .i64 t1, .int .i64 t2, .int .i64 t3, .slice ra' nr' rc', .slice da' nd' dc'] 31))) :=
        ⟨hB3.size, Blk.new _ _ _, HY.out.1.below (below1 w3 _), HY.out.2.below (below1 w3 _) (Nat.le_refl _), hB3.alloc hB3.size _⟩
      go_wp2_with fail
      go_meet
      case rel => exact ⟨_, la', nl', lc', t0, t1, t2, t3, ra', nr', rc', da', nd', dc', sa, sn, sc, rfl, rfl, HM⟩
    all_goals
      obtain ⟨_, hOn⟩ := fill7 hZ3 (.slice la' nl' lc') (.int .i64 t0) (.int .i64 t1) (.int .i64 t2) (.int .i64 t3) (.slice ra' nr' rc') (.slice da' nd' dc')
      have HM : Hid _ := And.intro hBl (And.intro hF7 (And.intro (HY.out.1.only hOn) (And.intro (HY.out.2.only hOn (by decide)) hS7)))
      clear hF7 hOn
      go_wp2_with fail
      go_meet
      case rel => exact ⟨_, la', nl', lc', t0, t1, t2, t3, ra', nr', rc', da', nd', dc', sa, sn, sc, rfl, rfl, HM⟩
  case rest =>
  obtain ⟨B, la', nl', lc', t0, t1, t2, t3, ra', nr', rc', da', nd', dc', sa, sn, sc, rfl, rfl, hcut⟩ := hcut
  obtain ⟨hWB, hx, hxv, hxm, hbc⟩ := hcut.out
  clear hcut hX0 hX1 hX2 hA0 hA1 HHo HHe
  rcases HWd.out.2.2.2 with hM | ⟨s, hM⟩
  · rw [hM] at hxm
    have e0 : sn = 0 := (hxm.at lenM).2.1
    subst e0
    have hBw : Below w.heap.size w wc := HW.out.1.trans (hbc.mono HW.out.1.size)
    clear hxm hx hxv hbc hM HWd
    go_wp2
    go_ret
    exact ⟨rfl, hBw⟩
  rw [hM] at hxm
  obtain ⟨rfl, g1, o1, rfl, hg1, c1⟩ := hxm.one
  simp only [msgX] at c1
  by_cases s2 : s = 2
  case neg =>
    have s2' : (s == 2) = false := by simpa using s2
    have hBw : Below w.heap.size w wc := HW.out.1.trans (hbc.mono HW.out.1.size)
    clear hxm hx hxv hbc hM HWd s2
    go_wp2
    go_ret
    exact ⟨rfl, hBw⟩
  subst s2
  have HS : Hid (WordAt W B d wc 0) := ⟨L1, la', nl', lc', t0, t1, t2, t3, ra', nr', rc', da', nd', dc', hx, hxv, HWd.out.1, HWd.out.2.2.1 hM, by have := HWd.out.2.1; omega, hbc⟩
  clear hxm hx hxv hbc hM HWd
  go_wp2
  clear c1 hg1
  go_loopw [47] (fun i w' => ∃ j : Nat, j ≤ n2 ∧ i = .int .i64 j ∧ Hid (WordAt W B d w' j)) (fun i _ => n2 - (intOf i).toNat)
  case atStart => exact ⟨0, Nat.zero_le _, rfl, HS⟩
  case round =>
    clear HS
    obtain ⟨j, hj, rfl, hS⟩ := hrel
    obtain ⟨L, tla, tnl, tlc, t0, t1, t2, t3, tra, tnr, trc, tda, tnd, tdc, hx, hxv, hmild, hword, hLj, hbw⟩ := hS.out
    clear hS
    have hBr : Below w.heap.size w wr := HW.out.1.trans (hbw.mono HW.out.1.size)
    have hsw := hbw.size
    by_cases hlt2 : j < n2
    · have hjX : j < X2.length := by have := HX2.out.1; omega
      have hpk := HX2.out.2.2.2 _ (List.getElem_mem hjX)
      have hlk := HX2.out.2.1 _ (List.getElem_mem hjX)
      rcases HX2.out.2.2.1.below hBr with h0 | ⟨g, o, rfl, hg, hc⟩
      · rw [h0] at hjX; simp at hjX
      have c0 := hc j hjX 0 _ rfl
      have c1 := hc j hjX 1 _ rfl
      have c2 := hc j hjX 2 _ rfl
      have c3 := hc j hjX 3 _ rfl
      clear hc
      generalize X2[j] = x at *
      obtain ⟨kd, dd, hh, ⟨ax, cx⟩, ll⟩ := x
      simp only [Nat.add_zero] at c0 c1 c2 c3 hpk hlk
      generalize hll : ll.length = nx at *
      have HLL : Hid (ll.length = nx ∧ PartsAt w ax ll) := ⟨hll, hpk⟩
      clear hll hpk
      have hbm := below1 wr (.cells #[.int .i64 kd, .int .i64 dd, .int .i64 hh, .slice ax nx cx] 25)
      have hmm : Blk (wr.alloc (.cells #[.int .i64 kd, .int .i64 dd, .int .i64 hh, .slice ax nx cx] 25)) wr.heap.size #[.int .i64 kd, .int .i64 dd, .int .i64 hh, .slice ax nx cx] 25 := Blk.new _ _ _
      have hx2 := hx.below hbm hx.lt
      have hxv2 := hxv.below hbm
      have hbw2 := hbw.trans (hbm.mono hbw.size)
      clear hx hxv hbw
      go_wp2_with fail
      clear c0 c1 c2 c3
      generalize wr.alloc (.cells #[.int .i64 kd, .int .i64 dd, .int .i64 hh, .slice ax nx cx] 25) = V at *
      have hBV : Below w.heap.size w V := hBr.trans (hbm.mono hBr.size)
      refine (refWrong_any kd dd hh ax ll cx nx V HLL.out.1.symm (by have := HLL.out.1; omega) (HLL.out.2.below hBV)).mono ?_
      rintro e w3 ⟨rfl, hb3⟩
      have hx3 := hx2.below hb3 hx2.lt
      have hxv3 := hxv2.below hb3
      have hmm3 := hmm.below hb3 hmm.lt
      have hbw3 := hbw2.trans (hb3.mono hbw2.size)
      have hB3 : Below w.heap.size w w3 := hBV.trans (hb3.mono hBV.size)
      clear hb3 hbw2 hxv2 hx2 hmm hbm hBV hBr
      have r0 := hmm3.cell 0
      have r1 := hmm3.cell 1
      have r2 := hmm3.cell 2
      have r3 := hmm3.cell 3
      have hrl := hmm3.lt
      simp at r0 r1 r2 r3
      obtain ⟨m0, m1, m2, m3⟩ := HK.out _ hbw3
      have hml : w.heap.size < w3.heap.size := Nat.lt_of_lt_of_le hlt hbw3.size
      generalize hwm : wrongMB kd dd hh ll = wm at *
      by_cases hw0 : wm = 0
      case neg =>
        have hw0' : (wm == 0) = false := by simpa using hw0
        clear hwm hx3 hxv3 hbw3 hmm3 hmild hword
        go_wp2
        go_ret
        exact ⟨rfl, hB3⟩
      subst hw0
      by_cases hs0 : hh = hs
      case neg =>
        have hs0' : (hh == hs) = false := by simpa using hs0
        clear hwm hx3 hxv3 hbw3 hmm3 hmild hword
        go_wp2
        go_ret
        exact ⟨rfl, hB3⟩
      subst hs0
      by_cases hbad : dd = d ∧ kd = 5
      case pos =>
        obtain ⟨rfl, rfl⟩ := hbad
        clear hwm hx3 hxv3 hbw3 hmm3 hmild hword
        go_wp2
        go_ret
        exact ⟨rfl, hB3⟩
      have hmild1 := hmild.hear hwm
      have hword1 := word_keep (l := ll) hword hbad
      have hlen1 := hearL_len L kd dd ll
      have hokl : OkP ll := by
        obtain ⟨_, _, _, _, h5, h6⟩ := wrongMB_ok hwm
        by_cases h1 : 1 < kd
        · rw [h5 h1]; exact okP_nil
        · exact okP_wrong (h6 (by have := (wrongMB_ok hwm).2.2.1; omega)).1
      have HC := hear_any (.agg #[.slice tla tnl tlc, .int .i64 t0, .int .i64 t1, .int .i64 t2, .int .i64 t3, .slice tra tnr trc, .slice tda tnd tdc]) L hh kd dd hh ax nx cx ll w3 hxv3.u HLL.out.1.symm (HLL.out.2.below hB3) hokl (hmild.calc (by omega)) hmild.bound.pos (fun r hr => by have h := hmild1; rw [hearL_some hr] at h; exact h.calc (by rw [List.length_append, List.length_singleton]; omega))
      have HF1 : Hid (Mild (hearL L kd dd ll) ∧ Word (hearL L kd dd ll) d ∧ (hearL L kd dd ll).length ≤ 61 + (j + 1)) := ⟨hmild1, hword1, by omega⟩
      have HX3 : Hid (Blk w3 B #[.slice tla tnl tlc, .int .i64 t0, .int .i64 t1, .int .i64 t2, .int .i64 t3, .slice tra tnr trc, .slice tda tnd tdc] 31 ∧ Below W.heap.size W w3) := ⟨hx3, hbw3⟩
      obtain ⟨⟨q0, q1, q2, q3, q4, q5, q6⟩, -⟩ := zcells hx3
      have hqB := hx3.lt
      clear hwm hx3 hxv3 hbw3 hmm3 hmild hword hmild1 hword1 hlen1 hokl
      generalize hearL L kd dd ll = L9 at *
      generalize hearM L hh kd dd ll = M9 at *
      by_cases hdd : dd = d
      · have hk5 : ¬ kd = 5 := fun h => hbad ⟨hdd, h⟩
        have hk5' : (kd == 5) = false := by simpa using hk5
        obtain rfl : d = dd := hdd.symm
        clear hbad
        go_wp2_with fail
        clear q0 q1 q2 q3 q4 q5 q6 r0 r1 r2 r3 m0 m1 m2 m3
        refine HC.mono ?_
        rintro e w4 ⟨v4, sb, sm, sd, rfl, hh4, ho4, hb4⟩
        obtain ⟨yla, ynl, ylc, y0, y1, y2, y3, yra, ynr, yrc, yda, ynd, ydc, rfl⟩ := houseN_open hh4
        have hx4 := HX3.out.1.below hb4 HX3.out.1.lt
        obtain ⟨hF, hOn⟩ := fill7 hx4 (.slice yla ynl ylc) (.int .i64 y0) (.int .i64 y1) (.int .i64 y2) (.int .i64 y3) (.slice yra ynr yrc) (.slice yda ynd ydc)
        have hKp := (fill7K hx4 (.slice yla ynl ylc) (.int .i64 y0) (.int .i64 y1) (.int .i64 y2) (.int .i64 y3) (.slice yra ynr yrc) (.slice yda ynd ydc)).2
        have hbw4 := HX3.out.2.trans (hb4.mono HX3.out.2.size)
        have HR : Hid (WordAt W B d (((((((w4.setCell ⟨B, 0, none⟩ (.slice yla ynl ylc)).setCell ⟨B, 1, none⟩ (.int .i64 y0)).setCell ⟨B, 2, none⟩ (.int .i64 y1)).setCell ⟨B, 3, none⟩ (.int .i64 y2)).setCell ⟨B, 4, none⟩ (.int .i64 y3)).setCell ⟨B, 5, none⟩ (.slice yra ynr yrc)).setCell ⟨B, 6, none⟩ (.slice yda ynd ydc)) (j + 1)) := ⟨_, yla, ynl, ylc, y0, y1, y2, y3, yra, ynr, yrc, yda, ynd, ydc, hF, (hh4.mono HX3.out.2.size).only hOn, HF1.out.1, HF1.out.2.1, HF1.out.2.2, hbw4.trans (hKp.below hbw4.size (fun b hb => by omega))⟩
        obtain ⟨⟨n0, n1, n2', n3, n4, n5, n6⟩, f0, f1, f2, f3, f4, f5, f6⟩ := zcells hx4
        have hlB := hx4.lt
        clear hF hOn hKp hbw4 hx4 hh4 ho4 hb4 HC HF1 HX3
        go_wp2
        go_roundw
        case rel => exact ⟨j + 1, by omega, by go_num, HR⟩
        case measure => simp [intOf]; omega
      · have hdd' : (dd == d) = false := by simpa using hdd
        clear hbad
        go_wp2_with fail
        clear q0 q1 q2 q3 q4 q5 q6 r0 r1 r2 r3 m0 m1 m2 m3
        refine HC.mono ?_
        rintro e w4 ⟨v4, sb, sm, sd, rfl, hh4, ho4, hb4⟩
        obtain ⟨yla, ynl, ylc, y0, y1, y2, y3, yra, ynr, yrc, yda, ynd, ydc, rfl⟩ := houseN_open hh4
        have hx4 := HX3.out.1.below hb4 HX3.out.1.lt
        obtain ⟨hF, hOn⟩ := fill7 hx4 (.slice yla ynl ylc) (.int .i64 y0) (.int .i64 y1) (.int .i64 y2) (.int .i64 y3) (.slice yra ynr yrc) (.slice yda ynd ydc)
        have hKp := (fill7K hx4 (.slice yla ynl ylc) (.int .i64 y0) (.int .i64 y1) (.int .i64 y2) (.int .i64 y3) (.slice yra ynr yrc) (.slice yda ynd ydc)).2
        have hbw4 := HX3.out.2.trans (hb4.mono HX3.out.2.size)
        have HR : Hid (WordAt W B d (((((((w4.setCell ⟨B, 0, none⟩ (.slice yla ynl ylc)).setCell ⟨B, 1, none⟩ (.int .i64 y0)).setCell ⟨B, 2, none⟩ (.int .i64 y1)).setCell ⟨B, 3, none⟩ (.int .i64 y2)).setCell ⟨B, 4, none⟩ (.int .i64 y3)).setCell ⟨B, 5, none⟩ (.slice yra ynr yrc)).setCell ⟨B, 6, none⟩ (.slice yda ynd ydc)) (j + 1)) := ⟨_, yla, ynl, ylc, y0, y1, y2, y3, yra, ynr, yrc, yda, ynd, ydc, hF, (hh4.mono HX3.out.2.size).only hOn, HF1.out.1, HF1.out.2.1, HF1.out.2.2, hbw4.trans (hKp.below hbw4.size (fun b hb => by omega))⟩
        obtain ⟨⟨n0, n1, n2', n3, n4, n5, n6⟩, f0, f1, f2, f3, f4, f5, f6⟩ := zcells hx4
        have hlB := hx4.lt
        clear hF hOn hKp hbw4 hx4 hh4 ho4 hb4 HC HF1 HX3
        go_wp2
        go_roundw
        case rel => exact ⟨j + 1, by omega, by go_num, HR⟩
        case measure => simp [intOf]; omega
    · have hjn : j = n2 := by omega
      subst hjn
      have hmild1 : Mild (hearL L 4 d []) := by
        rcases hearR_cases (houseB L) 4 d [] with h' | ⟨h0, _⟩ | ⟨_, hn, h'⟩ | ⟨h0, _⟩
        · rw [hearL_none h']; exact hmild
        · exact absurd h0 (by decide)
        · rw [hearL_some h']; exact hmild.note okP_nil (hmild.bound.done hn)
        · exact absurd h0 (by decide)
      have hlen1 := hearL_len L 4 d []
      have HC := hear_any (.agg #[.slice tla tnl tlc, .int .i64 t0, .int .i64 t1, .int .i64 t2, .int .i64 t3, .slice tra tnr trc, .slice tda tnd tdc]) L hs 4 d hs none 0 0 [] wr hxv.u rfl (Or.inl rfl) okP_nil (hmild.calc (by omega)) hmild.bound.pos (fun r hr => by have h := hmild1; rw [hearL_some hr] at h; exact h.calc (by rw [List.length_append, List.length_singleton]; omega))
      rw [word_says hword hs] at HC
      have HF1 : Hid (inI (houseB (hearL L 4 d [])).2.2 d = true ∧ hasD (houseB (hearL L 4 d [])).2.1 d = false ∧ HInv (hearL L 4 d []).length (houseB (hearL L 4 d [])) ∧ (hearL L 4 d []).length ≤ 9223372036854775807) := ⟨(word_done hword).1, (word_done hword).2, houseB_inv hmild1.ok, by omega⟩
      have HX3 : Hid (Blk wr B #[.slice tla tnl tlc, .int .i64 t0, .int .i64 t1, .int .i64 t2, .int .i64 t3, .slice tra tnr trc, .slice tda tnd tdc] 31 ∧ Below W.heap.size W wr) := ⟨hx, hbw⟩
      obtain ⟨⟨q0, q1, q2, q3, q4, q5, q6⟩, -⟩ := zcells hx
      have hqB := hx.lt
      obtain ⟨m0, m1, m2, m3⟩ := HK.out _ hbw
      have hml : w.heap.size < wr.heap.size := Nat.lt_of_lt_of_le hlt hbw.size
      clear hx hxv hmild hword hmild1 hlen1 hbw
      generalize hearL L 4 d [] = L9 at *
      go_wp2_with fail
      clear q0 q1 q2 q3 q4 q5 q6 m0 m1 m2 m3
      refine HC.mono ?_
      rintro e w4 ⟨v4, sb, sm, sd, rfl, hh4, ho4, hb4⟩
      obtain ⟨rfl, g4, o4, rfl, hg4, c4⟩ := ho4.one
      simp only [msgX] at c4
      obtain ⟨yla, ynl, ylc, y0, y1, y2, y3, yra, ynr, yrc, yda, ynd, ydc, rfl⟩ := houseN_open hh4
      have hx4 := HX3.out.1.below hb4 HX3.out.1.lt
      obtain ⟨hF, hOn⟩ := fill7 hx4 (.slice yla ynl ylc) (.int .i64 y0) (.int .i64 y1) (.int .i64 y2) (.int .i64 y3) (.slice yra ynr yrc) (.slice yda ynd ydc)
      have hKp := (fill7K hx4 (.slice yla ynl ylc) (.int .i64 y0) (.int .i64 y1) (.int .i64 y2) (.int .i64 y3) (.slice yra ynr yrc) (.slice yda ynd ydc)).2
      have hbw4 := HX3.out.2.trans (hb4.mono HX3.out.2.size)
      have hv5 := (hh4.mono HX3.out.2.size).only hOn
      have hbw5 := hbw4.trans (hKp.below hbw4.size (fun b hb => by omega))
      have ho5 := (ho4.mono HX3.out.2.size).only hOn (by decide)
      obtain ⟨⟨n0, n1, n2', n3, n4, n5, n6⟩, f0, f1, f2, f3, f4, f5, f6⟩ := zcells hx4
      have hlB := hx4.lt
      clear hOn hKp hbw4 hx4 hh4 ho4 hb4 HC HX3
      go_upto_region 16 with fail
      clear n0 n1 n2' n3 n4 n5 n6 f0 f1 f2 f3 f4 f5 f6 hlB c4 hg4
      generalize (((((((w4.setCell ⟨B, 0, none⟩ (.slice yla ynl ylc)).setCell ⟨B, 1, none⟩ (.int .i64 y0)).setCell ⟨B, 2, none⟩ (.int .i64 y1)).setCell ⟨B, 3, none⟩ (.int .i64 y2)).setCell ⟨B, 4, none⟩ (.int .i64 y3)).setCell ⟨B, 5, none⟩ (.slice yra ynr yrc)).setCell ⟨B, 6, none⟩ (.slice yda ynd ydc)) = U at *
      obtain ⟨-, g5, o5, e5, hg5, c5⟩ := ho5.one
      cases e5
      simp only [msgX] at c5
      obtain ⟨XR9, hrd9, hnd9, hdn9⟩ := hv5.at.allY HF1.out.2.2.1 HF1.out.2.2.2
      have hnd9' : ynd ≤ 9223372036854775807 := by have h1 := HF1.out.2.2.1.done; have h2 := HF1.out.2.2.2; omega
      have hq9 := HN.out.2.2.2.below (HW.out.1.trans (hbw5.mono HW.out.1.size))
      rcases hq9 with h0 | ⟨pb, po, rfl, hpb, hpc⟩
      · have := HD0.out.2; rw [h0] at this; simp at this
      have hnm0 : 0 < nm := by have h1 := HD0.out.2; have h2 := HN.out.2.1; omega
      have hnm0' : (0 : Int) < (nm : Int) := by omega
      have hnm1 : 1 ≤ nm := by have h1 := HD0.out.2; have h2 := HN.out.2.1; omega
      have hnm2 : nm ≤ 9223372036854775807 := by have h1 := HN.out.2.2.1; have h2 := HN.out.2.1; omega
      obtain ⟨-, hkey, -⟩ := hpc 0 HD0.out.2
      simp only [Nat.zero_mul, Nat.add_zero] at hkey
      generalize (l[0]'HD0.out.2).2.1 = key at hkey
      have HU : Hid (RdyAt U yra ynr XR9 (houseB L9).2.1 ∧ ynd = (houseB L9).2.2.length ∧ RowAt 1 encI U yda (houseB L9).2.2 ∧ Below W.heap.size W U ∧ inI (houseB L9).2.2 d = true ∧ hasD (houseB L9).2.1 d = false) := ⟨hrd9, hnd9, hdn9, hbw5, HF1.out.1, HF1.out.2.1⟩
      have HK9 : Hid (∀ w', Below U.heap.size U w' → ((w'.cell? ⟨w.heap.size, 0, none⟩ = some (.int .i64 1) ∧ w'.cell? ⟨w.heap.size, 1, none⟩ = some (.int .i64 d) ∧ w'.cell? ⟨w.heap.size, 2, none⟩ = some (.int .i64 hs) ∧ w'.cell? ⟨w.heap.size, 3, none⟩ = some (.slice (some ⟨pb, po, none⟩) nm cm)) ∧ (w'.cell? ⟨B, 0, none⟩ = some (.slice yla ynl ylc) ∧ w'.cell? ⟨B, 1, none⟩ = some (.int .i64 y0) ∧ w'.cell? ⟨B, 2, none⟩ = some (.int .i64 y1) ∧ w'.cell? ⟨B, 3, none⟩ = some (.int .i64 y2) ∧ w'.cell? ⟨B, 4, none⟩ = some (.int .i64 y3) ∧ w'.cell? ⟨B, 5, none⟩ = some (.slice yra ynr yrc) ∧ w'.cell? ⟨B, 6, none⟩ = some (.slice yda ynd ydc)) ∧ w'.cell? ⟨g4, o4, none⟩ = some (.int .i64 6) ∧ w'.cell? ⟨pb, po + 1, none⟩ = some (.int .i64 key))) := fun w' hb => by
        have hx := hF.below hb hF.lt
        obtain ⟨⟨q0, q1, q2, q3, q4, q5, q6⟩, -⟩ := zcells hx
        exact ⟨HK.out _ (hbw5.trans (hb.mono hbw5.size)), ⟨q0, q1, q2, q3, q4, q5, q6⟩, (hb.cell (p := ⟨g4, o4, none⟩) hg5).trans c5, (hb.cell (p := ⟨pb, po + 1, none⟩) hpb).trans hkey⟩
      have hUl : w.heap.size < U.heap.size := Nat.lt_of_lt_of_le hlt hbw5.size
      have hUB := hF.lt
      clear ho5 c5 hv5 hrd9 hnd9 hdn9 hkey hpc hF HF1 hbw5
      generalize (houseB L9).2.2 = dn at *
      generalize (houseB L9).2.1 = DD at *
      obtain ⟨⟨m0, m1, m2, m3⟩, ⟨q0, q1, q2, q3, q4, q5, q6⟩, x1, x2⟩ := HK9.out _ (Below.refl _ _)
      go_wp2
      go_loopw [12, 97] (fun b i w' => ∃ i2 : Nat, i2 ≤ ynd ∧ i = .int .i64 i2 ∧ b = .bool (inI (dn.take i2) d) ∧ w' = U) (fun _ i _ => ynd - (intOf i).toNat)
      case atStart => exact ⟨0, Nat.zero_le _, rfl, rfl, rfl⟩
      case round =>
        obtain ⟨i2, hi2, rfl, rfl, rfl⟩ := hrel
        by_cases hlt3 : i2 < ynd
        · have hi3 : i2 < dn.length := by have := HU.out.2.1; omega
          rcases HU.out.2.2.1 with h0 | ⟨ga, oa, rfl, hga, hca⟩
          · rw [h0] at hi3; simp at hi3
          have d0 := hca i2 hi3 0 _ rfl
          simp only [Nat.mul_one, Nat.add_zero] at d0
          have HS2 : Hid (inI (dn.take (i2 + 1)) d = (inI (dn.take i2) d || decide (dn[i2] = d))) := by show _ = _; rw [take_snoc hi3, inI_snoc]
          clear hca
          generalize dn[i2] = y at *
          generalize inI (dn.take i2) d = bz at *
          cases bz
          · by_cases hyd : y = d
            · have HF2 : Hid (inI (dn.take (i2 + 1)) d = true) := by show _ = _; rw [HS2.out, decide_eq_true hyd]; rfl
              obtain rfl : d = y := hyd.symm
              clear HS2
              go_wp2
              go_roundw
              case rel => exact ⟨i2 + 1, by omega, by go_num, by rw [HF2.out], trivial⟩
              case measure => simp [intOf]; omega
            · have HF2 : Hid (inI (dn.take (i2 + 1)) d = false) := by show _ = _; rw [HS2.out, decide_eq_false hyd]; rfl
              have hyd' : (y == d) = false := by simpa using hyd
              clear HS2
              go_wp2
              go_roundw
              case rel => exact ⟨i2 + 1, by omega, by go_num, by rw [HF2.out], trivial⟩
              case measure => simp [intOf]; omega
          · have HF2 : Hid (inI (dn.take (i2 + 1)) d = true) := by show _ = _; rw [HS2.out]; rfl
            clear HS2
            go_wp2
            go_roundw
            case rel => exact ⟨i2 + 1, by omega, by go_num, by rw [HF2.out], trivial⟩
            case measure => simp [intOf]; omega
        · have hfull : inI (dn.take i2) d = true := by rw [List.take_of_length_le (by have := HU.out.2.1; omega)]; exact HU.out.2.2.2.2.1
          rw [hfull]
          have hX0 : Below wr.heap.size wr wr.drew := (Below.refl _ _).drew
          have HWho : Hid (∀ w', Below wr.heap.size wr w' → Calls Try.prog 19 #[.agg #[.slice yla ynl ylc, .int .i64 y0, .int .i64 y1, .int .i64 y2, .int .i64 y3, .slice yra ynr yrc, .slice yda ynd ydc], .int .i64 key] w' fun e w'' => e = .returned (.int .i64 (whoB DD key)) ∧ Below w'.heap.size w' w'') := fun w' hb => refWhoR_any yla yra yda ynl ylc ynr yrc ynd ydc y0 y1 y2 y3 key XR9 DD w' (HU.out.1.below hb)
          have hne := word_who (key := key) HU.out.2.2.2.2.2 HD0.out.1
          generalize whoB DD key = z at *
          have hne' : (z == d) = false := by simpa using hne
          clear hfull q0 q1 q2 q3 q4 q5 q6 m0 m1 m2 m3 x1 x2
          go_upto_region 22 with fail
          go_region_held3 (fun w' => ((w'.cell? ⟨w.heap.size, 0, none⟩ = some (.int .i64 1) ∧ w'.cell? ⟨w.heap.size, 1, none⟩ = some (.int .i64 d) ∧ w'.cell? ⟨w.heap.size, 2, none⟩ = some (.int .i64 hs) ∧ w'.cell? ⟨w.heap.size, 3, none⟩ = some (.slice (some ⟨pb, po, none⟩) nm cm)) ∧ (w'.cell? ⟨B, 0, none⟩ = some (.slice yla ynl ylc) ∧ w'.cell? ⟨B, 1, none⟩ = some (.int .i64 y0) ∧ w'.cell? ⟨B, 2, none⟩ = some (.int .i64 y1) ∧ w'.cell? ⟨B, 3, none⟩ = some (.int .i64 y2) ∧ w'.cell? ⟨B, 4, none⟩ = some (.int .i64 y3) ∧ w'.cell? ⟨B, 5, none⟩ = some (.slice yra ynr yrc) ∧ w'.cell? ⟨B, 6, none⟩ = some (.slice yda ynd ydc)) ∧ w'.cell? ⟨g4, o4, none⟩ = some (.int .i64 6) ∧ w'.cell? ⟨pb, po + 1, none⟩ = some (.int .i64 key))) (
            first
            | with_reducible exact HK9.out _ (Below.refl _ _)
            | with_reducible exact HK9.out _ hX0
            | with_reducible exact HK9.out _ hB9) (
            first
            | (go_at_call 19; refine (HWho.out _ (by first | with_reducible exact hX0 | with_reducible exact Below.refl _ _)).mono ?_; rintro e w9 ⟨rfl, hb9⟩; have hB9 : Below wr.heap.size wr w9 := (by first | with_reducible exact hX0.trans (hb9.mono hX0.size) | with_reducible exact hb9)))
          all_goals
            have hBf : Below w.heap.size w w9 := HW.out.1.trans ((HU.out.2.2.2.1.trans (hB9.mono HU.out.2.2.2.1.size)).mono HW.out.1.size)
            clear hB9 hb9 HK9 HWho
            go_wp2
            go_ret
            exact ⟨ret_bool (by simpa using hne), hBf⟩

end Go.Proofs.Ytikmnaegalmfeaa
