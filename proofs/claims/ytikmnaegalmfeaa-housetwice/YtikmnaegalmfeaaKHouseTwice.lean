/- What the law HouseTwice does, called at whatever log and message. -/
import Derived.Test.YtikmnaegalmfeaaKHousW
import Derived.Deep.DeepCutAuto
namespace Go.Proofs.Ytikmnaegalmfeaa
open Go.RowKit
attribute [local go_sem ↓] Go.wp_at_zero Go.wp_at_succ

set_option maxRecDepth 20000 in
set_option maxHeartbeats 8000000 in
theorem houseTwice_any (a : Option Addr) (X : List XL) (cap n : Nat) (k d hs : Int) (ma : Option Addr) (l : List P3) (nm cm : Nat) (w : World) (hn : n = X.length) (hl : X.length ≤ 9223372036854775807) (hm : ∀ x ∈ X, x.2.2.2.length ≤ 9223372036854775807) (hp : RecsAt w a X) (hnm : nm = l.length) (hml : l.length ≤ 9223372036854775807) (hq : PartsAt w ma l) :
    Calls Try.prog 4 #[.slice a n cap, .agg #[.int .i64 k, .int .i64 d, .int .i64 hs, .slice ma nm cm]] w fun e w' => e = .returned (.bool true) ∧ Below w.heap.size w w' := by
  have HN : Hid ((n = X.length ∧ X.length ≤ 9223372036854775807 ∧ (∀ x ∈ X, x.2.2.2.length ≤ 9223372036854775807) ∧ RecsAt w a X) ∧ (nm = l.length ∧ l.length ≤ 9223372036854775807 ∧ PartsAt w ma l)) := ⟨⟨hn, hl, hm, hp⟩, hnm, hml, hq⟩
  have hb0 := below1 w (.cells #[.int .i64 k, .int .i64 d, .int .i64 hs, .slice ma nm cm] 25)
  have hm0 : Blk (w.alloc (.cells #[.int .i64 k, .int .i64 d, .int .i64 hs, .slice ma nm cm] 25)) w.heap.size #[.int .i64 k, .int .i64 d, .int .i64 hs, .slice ma nm cm] 25 := Blk.new _ _ _
  clear hn hl hm hp hnm hml hq
  go_enter Try.func4, Try.ntmps4
  go_wp2_with fail
  generalize (w.alloc (.cells #[.int .i64 k, .int .i64 d, .int .i64 hs, .slice ma nm cm] 25)) = W0 at *
  refine (alive7_any W0).mono ?_
  rintro e w1 ⟨rfl, hb1⟩
  have hm1 := hm0.below hb1 hm0.lt
  have hB1 : Below w.heap.size w w1 := hb0.trans (hb1.mono hb0.size)
  have r0 := hm1.cell 0
  have r1 := hm1.cell 1
  have r2 := hm1.cell 2
  have r3 := hm1.cell 3
  have rl := hm1.lt
  simp at r0 r1 r2 r3
  clear hm0 hb0 hb1
  go_wp2_with fail
  clear r0 r1 r2 r3 rl
  refine (right_any a X cap n k d hs ma l nm cm w1 HN.out.1.1 HN.out.1.2.1 HN.out.1.2.2.1 (HN.out.1.2.2.2.below hB1) HN.out.2.1 HN.out.2.2.1 (HN.out.2.2.2.below hB1)).mono ?_
  rintro e W ⟨rfl, hb2⟩
  have hm2 := hm1.below hb2 hm1.lt
  have hB2 : Below w.heap.size w W := hB1.trans (hb2.mono hB1.size)
  clear hm1 hb2 hB1
  generalize hz : (rightLog (X.map stripL) && decide (wrongMB k d hs l = 0) && rightS (houseB (X.map stripL)).1) = z at *
  cases z
  · clear hz
    go_wp2
    go_ret
    exact ⟨rfl, hB2⟩
  simp only [Bool.and_eq_true, decide_eq_true_eq] at hz
  obtain ⟨⟨hz1, hz2⟩, hz3⟩ := hz
  have hmild := Mild.right hz1
  have hmild1 : Mild (hearL (X.map stripL) k d l) := hmild.hear hz2
  have hlen := (rightLog_ok hz1).2
  have hlen1 := hearL_len (X.map stripL) k d l
  have hok : OkP l := by
    obtain ⟨_, _, _, _, h5, h6⟩ := wrongMB_ok hz2
    by_cases h1 : 1 < k
    · rw [h5 h1]; exact okP_nil
    · have : k = 1 := by have := (wrongMB_ok hz2).2.2.1; omega
      exact okP_wrong (h6 this).1
  have HHo : Hid (∀ w', Below W.heap.size W w' → Calls Try.prog 8 #[.slice a n cap] w' fun e w'' => ∃ v, e = .returned v ∧ HouseAt w'' v (X.map stripL) (houseB (X.map stripL)) ∧ Below w'.heap.size w' w'') := fun w' hb => refHouse_any a X cap n w' HN.out.1.1 (hmild.calc (by omega)) ((HN.out.1.2.2.2.below hB2).below hb)
  have HHe : Hid (∀ w' v, Below W.heap.size W w' → HouseAt w' v (X.map stripL) (houseB (X.map stripL)) → Calls Try.prog 9 #[v, .int .i64 hs, .agg #[.int .i64 k, .int .i64 d, .int .i64 hs, .slice ma nm cm]] w' fun e w'' => ∃ v' sa sn sc, e = .returned (.tuple #[v', .slice sa sn sc]) ∧ HouseN w'.heap.size w'' v' (hearL (X.map stripL) k d l) (houseB (hearL (X.map stripL) k d l)) ∧ OwnL 25 4 encM w'' w'.heap.size (.slice sa sn sc) ((hearM (X.map stripL) hs k d l).map msgX) ∧ Below w'.heap.size w' w'') := fun w' v hb hv =>
    hear_any v (X.map stripL) hs k d hs ma nm cm l w' hv.u HN.out.2.1 ((HN.out.2.2.2.below hB2).below hb) hok (hmild.calc (by omega)) hmild.bound.pos (fun r hr => by have h := hmild1; rw [hearL_some hr] at h; exact h.calc (by rw [List.length_append, List.length_singleton]; omega))
  have HHe2 : Hid (∀ w' v, Below W.heap.size W w' → HouseAt w' v (hearL (X.map stripL) k d l) (houseB (hearL (X.map stripL) k d l)) → Calls Try.prog 9 #[v, .int .i64 hs, .agg #[.int .i64 k, .int .i64 d, .int .i64 hs, .slice ma nm cm]] w' fun e w'' => ∃ v' sa sn sc, e = .returned (.tuple #[v', .slice sa sn sc]) ∧ HouseN w'.heap.size w'' v' (hearL (X.map stripL) k d l) (houseB (hearL (X.map stripL) k d l)) ∧ OwnL 25 4 encM w'' w'.heap.size (.slice sa sn sc) ((hearM (X.map stripL) hs k d l).map msgX) ∧ Below w'.heap.size w' w'') := fun w' v hb hv => by
    have h := hear_any v (hearL (X.map stripL) k d l) hs k d hs ma nm cm l w' hv.u HN.out.2.1 ((HN.out.2.2.2.below hB2).below hb) hok (hmild1.calc (by omega)) hmild1.bound.pos (fun r hr => by have h := hmild1.hear hz2; rw [hearL_some hr] at h; exact h.calc (by rw [List.length_append, List.length_singleton]; omega))
    rw [hear_twice, hearM_twice] at h
    exact h
  have HSz : Hid (SizeH (hearL (X.map stripL) k d l) (houseB (hearL (X.map stripL) k d l)) ∧ (hearM (X.map stripL) hs k d l).length ≤ 1) := ⟨sizeH_of hmild1.ok (by omega) (houseB_inv hmild1.ok) (by omega), hearM_len _ _ _ _ _⟩
  clear hmild hmild1 hlen hlen1 hz1 hz2 hz3 hok
  generalize hearL (X.map stripL) k d l = L1 at *
  generalize hearM (X.map stripL) hs k d l = M1 at *
  have HW : Hid (Below w.heap.size w W ∧ Blk W w.heap.size #[.int .i64 k, .int .i64 d, .int .i64 hs, .slice ma nm cm] 25) := ⟨hB2, hm2⟩
  have HK : Hid (∀ w', Below W.heap.size W w' → (w'.cell? ⟨w.heap.size, 0, none⟩ = some (.int .i64 k) ∧ w'.cell? ⟨w.heap.size, 1, none⟩ = some (.int .i64 d) ∧ w'.cell? ⟨w.heap.size, 2, none⟩ = some (.int .i64 hs) ∧ w'.cell? ⟨w.heap.size, 3, none⟩ = some (.slice ma nm cm))) := fun w' hb =>
    ⟨(hm2.below hb hm2.lt).cell 0, (hm2.below hb hm2.lt).cell 1, (hm2.below hb hm2.lt).cell 2, (hm2.below hb hm2.lt).cell 3⟩
  have hX0 : Below W.heap.size W W.drew := (Below.refl _ _).drew
  have hX1 := hX0.alloc hX0.size (.cells #[.slice none 0 0, .int .i64 0, .int .i64 0, .int .i64 0, .int .i64 0, .slice none 0 0, .slice none 0 0] 31)
  have hX2 := ((Below.refl W.heap.size W).alloc (Nat.le_refl _) (.cells #[.slice none 0 0, .int .i64 0, .int .i64 0, .int .i64 0, .int .i64 0, .slice none 0 0, .slice none 0 0] 31)).drew
  have hA0 := Blk.new W.drew #[.slice none 0 0, .int .i64 0, .int .i64 0, .int .i64 0, .int .i64 0, .slice none 0 0, .slice none 0 0] 31
  have hA1 := (Blk.new W #[.slice none 0 0, .int .i64 0, .int .i64 0, .int .i64 0, .int .i64 0, .slice none 0 0, .slice none 0 0] 31).drew
  have hlt := hm2.lt
  clear hB2 hm2
  go_upto_region 5 with fail
  go_cut [5, 6] (fun p s wx => ∃ (B : Nat) (la' : Option Addr) (nl' lc' : Nat) (t0 t1 t2 t3 : Int) (ra' : Option Addr) (nr' rc' : Nat) (da' : Option Addr) (nd' dc' : Nat) (sa : Option Addr) (sn sc : Nat), p = .pointer (some ⟨B, 0, none⟩) ∧ s = .slice sa sn sc ∧ Hid (Blk wx B #[.slice la' nl' lc', .int .i64 t0, .int .i64 t1, .int .i64 t2, .int .i64 t3, .slice ra' nr' rc', .slice da' nd' dc'] 31 ∧ HouseAt wx (.agg #[.slice la' nl' lc', .int .i64 t0, .int .i64 t1, .int .i64 t2, .int .i64 t3, .slice ra' nr' rc', .slice da' nd' dc']) L1 (houseB L1) ∧ OwnL 25 4 encM wx W.heap.size (.slice sa sn sc) (M1.map msgX) ∧ Below W.heap.size W wx))
  case first =>
    go_region_held3 (fun w' => (w'.cell? ⟨w.heap.size, 0, none⟩ = some (.int .i64 k) ∧ w'.cell? ⟨w.heap.size, 1, none⟩ = some (.int .i64 d) ∧ w'.cell? ⟨w.heap.size, 2, none⟩ = some (.int .i64 hs) ∧ w'.cell? ⟨w.heap.size, 3, none⟩ = some (.slice ma nm cm))) (
      first
      | with_reducible exact HK.out _ hS7
      | with_reducible exact HK.out _ (Below.refl _ _)
      | with_reducible exact HK.out _ hX0
      | with_reducible exact HK.out _ hX1
      | with_reducible exact HK.out _ hX2
      | with_reducible exact HK.out _ hB2
      | with_reducible exact HK.out _ (hB2.alloc hB2.size _)
      | with_reducible exact HK.out _ hB3
      | with_reducible exact HK.out _ (hB3.alloc hB3.size _)) (
      first
      | (go_at_call 9; refine (HHe.out _ v2 (by first | with_reducible exact hB2 | with_reducible exact hB2.alloc hB2.size _) (by first | with_reducible exact HV2.out | with_reducible exact HV2.out.below (below1 w2 _))).mono ?_; rintro e w3 ⟨v3, sa, sn, sc, rfl, hh3, ho3, hb3⟩; obtain ⟨la', nl', lc', t0, t1, t2, t3, ra', nr', rc', da', nd', dc', rfl⟩ := houseN_open hh3; have hA2 := Blk.new w2 #[.slice none 0 0, .int .i64 0, .int .i64 0, .int .i64 0, .int .i64 0, .slice none 0 0, .slice none 0 0] 31; have hB3 : Below W.heap.size W w3 := (by first | with_reducible exact hB2.trans (hb3.mono hB2.size) | with_reducible exact (hB2.alloc hB2.size _).trans (hb3.mono (hB2.alloc hB2.size _).size)); have HY : Hid (HouseN W.heap.size w3 (.agg #[.slice la' nl' lc', .int .i64 t0, .int .i64 t1, .int .i64 t2, .int .i64 t3, .slice ra' nr' rc', .slice da' nd' dc']) L1 (houseB L1) ∧ OwnL 25 4 encM w3 W.heap.size (.slice sa sn sc) (M1.map msgX)) := ⟨(by first | exact hh3.mono hB2.size | exact hh3.mono (hB2.alloc hB2.size _).size), (by first | exact ho3.mono hB2.size | exact ho3.mono (hB2.alloc hB2.size _).size)⟩; (try (have hZ3 : Blk w3 W.heap.size #[.slice none 0 0, .int .i64 0, .int .i64 0, .int .i64 0, .int .i64 0, .slice none 0 0, .slice none 0 0] 31 := (by with_reducible exact hZ2.below hb3 hZ2.lt); have hBl : W.heap.size ≤ W.heap.size := Nat.le_refl _)); (try (have hZ3 : Blk w3 w2.heap.size #[.slice none 0 0, .int .i64 0, .int .i64 0, .int .i64 0, .int .i64 0, .slice none 0 0, .slice none 0 0] 31 := (by with_reducible exact hA2.below hb3 hA2.lt); have hBl : W.heap.size ≤ w2.heap.size := hB2.size)); (try (obtain ⟨⟨n0, n1, n2, n3, n4, n5, n6⟩, f0, f1, f2, f3, f4, f5, f6⟩ := zcells hZ3; have hZl := hZ3.lt; obtain ⟨hF7, hK7⟩ := fill7K hZ3 (.slice la' nl' lc') (.int .i64 t0) (.int .i64 t1) (.int .i64 t2) (.int .i64 t3) (.slice ra' nr' rc') (.slice da' nd' dc'); have hS7 := hB3.trans (hK7.below hB3.size (fun k hk => (by omega))))); clear hh3 ho3)
      | (go_at_call 8; refine (HHo.out _ (by first | with_reducible exact hX0 | with_reducible exact hX1 | with_reducible exact hX2)).mono ?_; rintro e w2 ⟨v2, rfl, hv2, hb2⟩; have hB2 : Below W.heap.size W w2 := (by first | with_reducible exact hX0.trans (hb2.mono hX0.size) | with_reducible exact hX1.trans (hb2.mono hX1.size) | with_reducible exact hX2.trans (hb2.mono hX2.size)); have HV2 : Hid (HouseAt w2 v2 (X.map stripL) (houseB (X.map stripL))) := hv2; (try (have hZ2 : Blk w2 W.heap.size #[.slice none 0 0, .int .i64 0, .int .i64 0, .int .i64 0, .int .i64 0, .slice none 0 0, .slice none 0 0] 31 := (by first | with_reducible exact hA0.below hb2 hA0.lt | with_reducible exact hA1.below hb2 hA1.lt))); clear hv2))
    · have HM : Hid (Blk (w3.alloc (.cells #[.slice la' nl' lc', .int .i64 t0, .int .i64 t1, .int .i64 t2, .int .i64 t3, .slice ra' nr' rc', .slice da' nd' dc'] 31)) w3.heap.size #[.slice la' nl' lc', .int .i64 t0, .int .i64 t1, .int .i64 t2, .int .i64 t3, .slice ra' nr' rc', .slice da' nd' dc'] 31 ∧ HouseAt (w3.alloc (.cells #[.slice la' nl' lc', .int .i64 t0, .int .i64 t1, .int .i64 t2, .int .i64 t3, .slice ra' nr' rc', .slice da' nd' dc'] 31)) (.agg #[.slice la' nl' lc', .int .i64 t0, .int .i64 t1, .int .i64 t2, .int .i64 t3, .slice ra' nr' rc', .slice da' nd' dc']) L1 (houseB L1) ∧ OwnL 25 4 encM (w3.alloc (.cells #[.slice la' nl' lc', .int .i64 t0, .int .i64 t1, .int .i64 t2, .int .i64 t3, .slice ra' nr' rc', .slice da' nd' dc'] 31)) W.heap.size (.slice sa sn sc) (M1.map msgX) ∧ Below W.heap.size W (w3.alloc (.cells #[.slice la' nl' lc', .int .i64 t0, .int .i64 t1, .int .i64 t2, .int .i64 t3, .slice ra' nr' rc', .slice da' nd' dc'] 31))) :=
        ⟨Blk.new _ _ _, HY.out.1.at.below (below1 w3 _), HY.out.2.below (below1 w3 _) (Nat.le_refl _), hB3.alloc hB3.size _⟩
      go_wp2_with fail
      go_meet
      case rel => exact ⟨_, la', nl', lc', t0, t1, t2, t3, ra', nr', rc', da', nd', dc', sa, sn, sc, rfl, rfl, HM⟩
    all_goals
      obtain ⟨_, hOn⟩ := fill7 hZ3 (.slice la' nl' lc') (.int .i64 t0) (.int .i64 t1) (.int .i64 t2) (.int .i64 t3) (.slice ra' nr' rc') (.slice da' nd' dc')
      have HM : Hid _ := And.intro hF7 (And.intro (HY.out.1.only hOn).at (And.intro (HY.out.2.only hOn (by decide)) hS7))
      clear hF7 hOn
      go_wp2_with fail
      go_meet
      case rel => exact ⟨_, la', nl', lc', t0, t1, t2, t3, ra', nr', rc', da', nd', dc', sa, sn, sc, rfl, rfl, HM⟩
  case rest =>
  obtain ⟨B, la', nl', lc', t0, t1, t2, t3, ra', nr', rc', da', nd', dc', sa, sn, sc, rfl, rfl, hcut⟩ := hcut
  obtain ⟨hx, hxv, hxm, hbc⟩ := hcut.out
  clear hcut hX0 hX1 hX2 hA0 hA1 HHo HHe
  obtain ⟨⟨q0, q1, q2, q3, q4, q5, q6⟩, -⟩ := zcells hx
  obtain ⟨r0, r1, r2, r3⟩ := HK.out _ hbc
  have hlc : w.heap.size < wc.heap.size := Nat.lt_of_lt_of_le hlt hbc.size
  have hlx := hx.lt
  go_wp2_with fail
  clear q0 q1 q2 q3 q4 q5 q6 r0 r1 r2 r3
  refine (HHe2.out wc _ hbc hxv).mono ?_
  rintro e w4 ⟨v4, sb, sm, sd, rfl, hh4, ho4, hb4⟩
  obtain ⟨lb, ml, ld, y0, y1, y2, y3, rb, mr, rd, db, md, dd, rfl⟩ := houseN_open hh4
  have hb5 := below1 w4 (.cells #[.slice lb ml ld, .int .i64 y0, .int .i64 y1, .int .i64 y2, .int .i64 y3, .slice rb mr rd, .slice db md dd] 31)
  have hb45 := hb4.trans (hb5.mono hb4.size)
  have hx5 := hx.below hb45 hx.lt
  have hy5 : Blk (w4.alloc (.cells #[.slice lb ml ld, .int .i64 y0, .int .i64 y1, .int .i64 y2, .int .i64 y3, .slice rb mr rd, .slice db md dd] 31)) w4.heap.size #[.slice lb ml ld, .int .i64 y0, .int .i64 y1, .int .i64 y2, .int .i64 y3, .slice rb mr rd, .slice db md dd] 31 := Blk.new _ _ _
  have hxv5 := hxv.below hb45
  have hyv5 := hh4.at.below hb5
  have hxm5 := hxm.below hb45 (Nat.le_refl _)
  have hym5 := ho4.below hb5 (Nat.le_refl _)
  have hbc5 := hbc.trans (hb45.mono hbc.size)
  clear hx hxv hxm hbc hh4 ho4 hb4 hb5 hb45 HHe2
  obtain ⟨⟨q0, q1, q2, q3, q4, q5, q6⟩, -⟩ := zcells hx5
  obtain ⟨⟨p0, p1, p2, p3, p4, p5, p6⟩, -⟩ := zcells hy5
  have hl5 := hx5.lt
  have hl6 := hy5.lt
  have HV : Hid (HouseAt (w4.alloc (.cells #[.slice lb ml ld, .int .i64 y0, .int .i64 y1, .int .i64 y2, .int .i64 y3, .slice rb mr rd, .slice db md dd] 31)) (.agg #[.slice la' nl' lc', .int .i64 t0, .int .i64 t1, .int .i64 t2, .int .i64 t3, .slice ra' nr' rc', .slice da' nd' dc']) L1 (houseB L1) ∧ HouseAt (w4.alloc (.cells #[.slice lb ml ld, .int .i64 y0, .int .i64 y1, .int .i64 y2, .int .i64 y3, .slice rb mr rd, .slice db md dd] 31)) (.agg #[.slice lb ml ld, .int .i64 y0, .int .i64 y1, .int .i64 y2, .int .i64 y3, .slice rb mr rd, .slice db md dd]) L1 (houseB L1) ∧ OwnL 25 4 encM (w4.alloc (.cells #[.slice lb ml ld, .int .i64 y0, .int .i64 y1, .int .i64 y2, .int .i64 y3, .slice rb mr rd, .slice db md dd] 31)) W.heap.size (.slice sa sn sc) (M1.map msgX) ∧ OwnL 25 4 encM (w4.alloc (.cells #[.slice lb ml ld, .int .i64 y0, .int .i64 y1, .int .i64 y2, .int .i64 y3, .slice rb mr rd, .slice db md dd] 31)) wc.heap.size (.slice sb sm sd) (M1.map msgX) ∧ Below W.heap.size W (w4.alloc (.cells #[.slice lb ml ld, .int .i64 y0, .int .i64 y1, .int .i64 y2, .int .i64 y3, .slice rb mr rd, .slice db md dd] 31))) := ⟨hxv5, hyv5, hxm5, hym5, hbc5⟩
  clear hxv5 hyv5 hxm5 hym5 hbc5 hx5 hy5
  go_wp2_with fail
  clear q0 q1 q2 q3 q4 q5 q6 p0 p1 p2 p3 p4 p5 p6
  generalize (w4.alloc (.cells #[.slice lb ml ld, .int .i64 y0, .int .i64 y1, .int .i64 y2, .int .i64 y3, .slice rb mr rd, .slice db md dd] 31)) = U at *
  refine (sameHouse_any _ _ L1 (houseB L1) U HV.out.1 HV.out.2.1 HSz.out.1).mono ?_
  rintro e w6 ⟨rfl, hb6⟩
  have hB6 := HV.out.2.2.2.2.trans (hb6.mono HV.out.2.2.2.2.size)
  obtain ⟨r0, r1, r2, r3⟩ := HK.out _ hB6
  have hlw6 : w.heap.size < w6.heap.size := Nat.lt_of_lt_of_le hlt hB6.size
  have hBw6 : Below w.heap.size w w6 := HW.out.1.trans (hB6.mono HW.out.1.size)
  by_cases k5 : k = 5
  · subst k5
    clear hb6 hB6
    go_wp2
    go_ret
    exact ⟨rfl, hBw6⟩
  · have k5' : (k == 5) = false := by simpa using k5
    have h1 := HV.out.2.2.1.below hb6 (Nat.le_refl _)
    have h2 := HV.out.2.2.2.1.below hb6 (Nat.le_refl _)
    have HS := sameMsgs_any sa sb (M1.map msgX) (M1.map msgX) sc sd sn sm w6 (h1.at lenM).2.1 (h2.at lenM).2.1 rfl (by rw [List.length_map]; have := HSz.out.2; omega) msgX_small (h1.at lenM).1 (h2.at lenM).1 msgX_parts msgX_parts
    clear h1 h2 k5 hb6 hB6
    go_wp2_with fail
    refine HS.mono ?_
    rintro e w7 ⟨rfl, hb7⟩
    have hB7 : Below w.heap.size w w7 := hBw6.trans (hb7.mono hBw6.size)
    clear HS hb7 r0 r1 r2 r3
    go_wp2
    go_ret
    exact ⟨rfl, hB7⟩

end Go.Proofs.Ytikmnaegalmfeaa
