import Derived.Test.YtpcnlifmkhagkaaKAJ33
set_option maxRecDepth 20000
set_option maxHeartbeats 20000000
namespace Go.Proofs.Ytpcnlifmkhagkaa
open Go.RowKit
open Go.Value renaming slice → G, int → E
open Go.IntKind renaming i64 → J
open _root_.Option renaming none → U
open Go.Obj renaming cells → T
open Go.RowKit renaming Hid → Q, Below → Z
open Go.World renaming setCell → r
attribute [local go_sem ↓] Go.wp_at_zero Go.wp_at_succ
theorem zol (R : Nat → Prop) (v : Value) (W : WW) (n : Nat) (P : Int → List P3) (sk sn : Int) (hk : ¬ (1 ≤ sk ∧ sk ≤ 7)) (sa : Option Addr) (ns sc : Nat) (sl : List P3) (w : World) (hR : ∀ b, R b → b < w.heap.size) (hv : zaf R w v W) (I : Inv n P W) (hL : zb0 100000 W) (hns : ns = sl.length) (hp : zae R w sa sl) (hsl : sl.length ≤ 9223372036854775807) :
  Calls Try.prog 34 #[v, .agg #[E J sk, E J sn, G sa ns sc]] w fun e w' => ∃ v', e = .returned (.tuple #[v', E J (zl W (sk, sn, sl)).2]) ∧ zaf R w' v' (zl W (sk, sn, sl)).1 ∧ Z w.heap.size w w' := by
 have HE0 : Q (zl W (sk, sn, sl) = (W, 1)) := by
  show _ = _
  unfold zl
  simp only
  rw [if_neg (by omega), if_neg (by omega), if_neg (by omega), if_neg (by omega), if_neg (by omega)]
 obtain ⟨la, nl, lc, Y, oa, no, oc, X, ha, nh, hc, XHs, na, nn, nc, XNs, rfl, hnc, hF⟩ := hv;have hS0 := DoS.start hF lc oc hc nc hnc (E J sk) (E J sn) (G sa ns sc);have HI := zF I hL hns hp hsl hR;have HN : Q (nh = W.hs.length ∧ nn = W.net.length) := ⟨by rw [hF.hs.n, hF.hs.len], by rw [hF.net.n, ← List.length_map (f := (·.2)), hF.net.says, List.length_map]⟩;have hnn : nn ≤ 24 := by have h1 := HN.out.2; have h2 := I.small; omega
 have hnh : nh ≤ 3 := by have h1 := HN.out.1; have h2 := I.len; have h3 := I.n3; omega
 clear I hL hns hp hsl hR hF hnc;go_enter Try.func34, Try.ntmps34
 go_upto_region 1 with fail
 generalize (((w.alloc (T #[G la nl lc, E J W.hd.boot, E J W.hd.next, G oa no oc, G ha nh hc, G na nn nc] 59)).alloc (T #[E J sk, E J sn, G sa ns sc] 86)).alloc (T #[G U 0 0, E J 0, E J 0, G U 0 0, G U 0 0, G U 0 0] 59)) = V at *;have HS := zA hS0;obtain ⟨x0, x1, x2, x3, x4, x5⟩ := hS0.wb.cells6;obtain ⟨y0, y1, y2⟩ := hS0.sb.cells3;have l0 := hS0.wb.lt;have l1 := hS0.sb.lt;clear hS0;obtain ⟨th, hth⟩ : ∃ th, Q (th = decide (0 ≤ sn ∧ sn < (nn : Int))) := ⟨_, rfl⟩;go_cut [6] (fun tv wx => tv = .bool th ∧ wx = V)
 case first =>
  by_cases h0 : 0 ≤ sn
  ·by_cases h1 : sn < (nn : Int)
   ·have ht : th = true := by rw [hth.out]; simp [h0, h1]
    have g0 : decide (sn ≥ 0) = true := decide_eq_true h0;have g1 := decide_eq_true h1;go_wp2_with fail
    go_meet
    case rel => exact ⟨by rw [ht], rfl⟩
   ·have ht : th = false := by rw [hth.out]; simp [h1]
    have g0 : decide (sn ≥ 0) = true := decide_eq_true h0;have g1 := decide_eq_false h1;go_wp2_with fail
    go_meet
    case rel => exact ⟨by rw [ht], rfl⟩
  ·have ht : th = false := by rw [hth.out]; simp [h0]
   have g0 : decide (sn ≥ 0) = false := decide_eq_false h0;go_wp2_with fail
   go_meet
   case rel => exact ⟨by rw [ht], rfl⟩
 case rest =>
  obtain ⟨rfl, rfl⟩ := hcut;have g1 : (sk == 1) = false := by rw [beq_eq_false_iff_ne]; omega
  have g2 : (sk == 2) = false := by rw [beq_eq_false_iff_ne]; omega
  have g3 : (sk == 3) = false := by rw [beq_eq_false_iff_ne]; omega
  have g4 : (sk == 4) = false := by rw [beq_eq_false_iff_ne]; omega
  have g5 : (sk == 5) = false := by rw [beq_eq_false_iff_ne]; omega
  have g6 : (sk == 6) = false := by rw [beq_eq_false_iff_ne]; omega
  have g7 : (sk == 7) = false := by rw [beq_eq_false_iff_ne]; omega
  go_upto_region 3 with fail
  clear g1 g2 g3 g4 g5 g6 g7;obtain ⟨r0, r1, r2, r3, r4, r5⟩ := (HS.out).rb.cells6;obtain ⟨q0, q1, q2, q3, q4, q5⟩ := (HS.out).rb.free6;have l2 := (HS.out).rb.lt;obtain ⟨p1, p2, p3⟩ := (HS.out).ret;obtain ⟨e0, e1, e2, e3, e4, e5⟩ := p3.cells6;have HF : Q (zaf R (r (r (r (r (r (r wc ⟨w.heap.size + 2, 0, U⟩ (G la nl lc)) ⟨w.heap.size + 2, 1, U⟩ (E J W.hd.boot)) ⟨w.heap.size + 2, 2, U⟩ (E J W.hd.next)) ⟨w.heap.size + 2, 3, U⟩ (G oa no oc)) ⟨w.heap.size + 2, 4, U⟩ (G ha nh hc)) ⟨w.heap.size + 2, 5, U⟩ (G na nn nc)) (.agg #[G la nl lc, E J W.hd.boot, E J W.hd.next, G oa no oc, G ha nh hc, G na nn nc]) (zl W (sk, sn, sl)).1 ∧ Z w.heap.size w (r (r (r (r (r (r wc ⟨w.heap.size + 2, 0, U⟩ (G la nl lc)) ⟨w.heap.size + 2, 1, U⟩ (E J W.hd.boot)) ⟨w.heap.size + 2, 2, U⟩ (E J W.hd.next)) ⟨w.heap.size + 2, 3, U⟩ (G oa no oc)) ⟨w.heap.size + 2, 4, U⟩ (G ha nh hc)) ⟨w.heap.size + 2, 5, U⟩ (G na nn nc))) := by rw [HE0.out]; exact ⟨p1, p2⟩
  have HE : Q ((zl W (sk, sn, sl)).2 = 1) := by show _ = _; rw [HE0.out]
  clear p1 p2 p3;go_wp2_with fail
  clear r0 r1 r2 r3 r4 r5 q0 q1 q2 q3 q4 q5 x0 x1 x2 x3 x4 x5;generalize (r (r (r (r (r (r wc ⟨w.heap.size + 2, 0, U⟩ (G la nl lc)) ⟨w.heap.size + 2, 1, U⟩ (E J W.hd.boot)) ⟨w.heap.size + 2, 2, U⟩ (E J W.hd.next)) ⟨w.heap.size + 2, 3, U⟩ (G oa no oc)) ⟨w.heap.size + 2, 4, U⟩ (G ha nh hc)) ⟨w.heap.size + 2, 5, U⟩ (G na nn nc)) = Z9 at *;refine bodyPost_ret (v := .tuple #[.agg #[G la nl lc, E J W.hd.boot, E J W.hd.next, G oa no oc, G ha nh hc, G na nn nc], E J (1)]) ?_ rfl ⟨_, by rw [HE.out], HF.out.1, HF.out.2⟩;simp [results, Try.results34, go_sem, e0, e1, e2, e3, e4, e5]
theorem zpc (R : Nat → Prop) (v : Value) (W : WW) (n : Nat) (P : Int → List P3) (sn : Int) (sa : Option Addr) (ns sc : Nat) (sl : List P3) (w : World) (hR : ∀ b, R b → b < w.heap.size) (hv : zaf R w v W) (I : Inv n P W) (hL : zb0 100000 W) (hns : ns = sl.length) (hp : zae R w sa sl) (hsl : sl.length ≤ 9223372036854775807) :
  Calls Try.prog 34 #[v, .agg #[E J 1, E J sn, G sa ns sc]] w fun e w' => ∃ v', e = .returned (.tuple #[v', E J (zl W (1, sn, sl)).2]) ∧ zaf R w' v' (zl W (1, sn, sl)).1 ∧ Z w.heap.size w w' := by
 obtain ⟨la, nl, lc, Y, oa, no, oc, X, ha, nh, hc, XHs, na, nn, nc, XNs, rfl, hnc, hF⟩ := hv;have hS0 := DoS.start hF lc oc hc nc hnc (E J 1) (E J sn) (G sa ns sc);have HI := zF I hL hns hp hsl hR;have HN : Q (nh = W.hs.length ∧ nn = W.net.length) := ⟨by rw [hF.hs.n, hF.hs.len], by rw [hF.net.n, ← List.length_map (f := (·.2)), hF.net.says, List.length_map]⟩;have hnn : nn ≤ 24 := by have h1 := HN.out.2; have h2 := I.small; omega
 have hnh : nh ≤ 3 := by have h1 := HN.out.1; have h2 := I.len; have h3 := I.n3; omega
 clear I hL hns hp hsl hR hF hnc;go_enter Try.func34, Try.ntmps34
 go_upto_region 1 with fail
 generalize (((w.alloc (T #[G la nl lc, E J W.hd.boot, E J W.hd.next, G oa no oc, G ha nh hc, G na nn nc] 59)).alloc (T #[E J 1, E J sn, G sa ns sc] 86)).alloc (T #[G U 0 0, E J 0, E J 0, G U 0 0, G U 0 0, G U 0 0] 59)) = V at *;have HS := zA hS0;obtain ⟨x0, x1, x2, x3, x4, x5⟩ := hS0.wb.cells6;obtain ⟨y0, y1, y2⟩ := hS0.sb.cells3;have l0 := hS0.wb.lt;have l1 := hS0.sb.lt;clear hS0;obtain ⟨th, hth⟩ : ∃ th, Q (th = decide (0 ≤ sn ∧ sn < (nn : Int))) := ⟨_, rfl⟩;go_cut [6] (fun tv wx => tv = .bool th ∧ wx = V)
 case first =>
  by_cases h0 : 0 ≤ sn
  ·by_cases h1 : sn < (nn : Int)
   ·have ht : th = true := by rw [hth.out]; simp [h0, h1]
    have g0 : decide (sn ≥ 0) = true := decide_eq_true h0;have g1 := decide_eq_true h1;go_wp2_with fail
    go_meet
    case rel => exact ⟨by rw [ht], rfl⟩
   ·have ht : th = false := by rw [hth.out]; simp [h1]
    have g0 : decide (sn ≥ 0) = true := decide_eq_true h0;have g1 := decide_eq_false h1;go_wp2_with fail
    go_meet
    case rel => exact ⟨by rw [ht], rfl⟩
  ·have ht : th = false := by rw [hth.out]; simp [h0]
   have g0 : decide (sn ≥ 0) = false := decide_eq_false h0;go_wp2_with fail
   go_meet
   case rel => exact ⟨by rw [ht], rfl⟩
 case rest =>
  obtain ⟨rfl, rfl⟩ := hcut;go_wp2_with fail
  refine (zj0 sa sl sc ns (nh : Int) wc HI.out.2.2.1 HI.out.2.2.2.2.1 (HI.out.2.2.2.1.below HS.out.bel).1 (by omega)).mono ?_;rintro e w0 ⟨rfl, hb0⟩;have HW : Q ((nh : Int) = W.hs.length) := by show _ = _; rw [HN.out.1]
  have hg : zay sl (nh : Int) = zay sl W.hs.length := by rw [HW.out]
  have H0 := zA (HS.out.below hb0);clear hb0;rw [hg];clear hg;obtain ⟨er, her⟩ : ∃ er, Q (zay sl (W.hs.length : Int) = er) := ⟨_, rfl⟩;rw [her.out];clear x0 x1 x2 x3 x4 x5 y0 y1 y2 l0 l1;obtain ⟨x0, x1, x2, x3, x4, x5⟩ := (H0.out).wb.cells6;obtain ⟨y0, y1, y2⟩ := (H0.out).sb.cells3;have l0 := (H0.out).wb.lt;have l1 := (H0.out).sb.lt;by_cases hz : er = 0
  ·subst hz
   have hwr : Q (zay sl n = 0) := by show _ = _; rw [← HI.out.1.len]; exact her.out
   go_upto_region 8 with fail
   go_wp2_with fail
   refine (znt (RD R w) _ W.hd sa ns sc sl w0 (RD.lt HI.out.2.2.2.2.2 H0.out.sz) H0.out.hv HI.out.2.2.1 ((HI.out.2.2.2.1.wide RD.new).below H0.out.bel) (zc4 hwr.out).2.1 HI.out.1.fewO ⟨by have := HI.out.1.boot1; omega, by have := HI.out.1.boot20; omega⟩ ⟨HI.out.1.next0, by have := HI.out.1.next64; omega⟩).mono ?_;rintro e w1 ⟨v1, sv, rfl, hv1, hm1, hb1⟩;have h64 : Q (((zo W.hd sl).2.1).length ≤ 1000 ∧ ∀ m ∈ (zo W.hd sl).2.1, zfj m) := ⟨begin_len _ _, fun m hm => by obtain ⟨P2, _, _, h3⟩ := HI.out.1.begin hwr.out; exact (h3 m hm).int64⟩;obtain ⟨ma, mn, mc, XM0, rfl, hM0⟩ := hm1.v (RD.lt HI.out.2.2.2.2.2 (H0.out).sz);obtain ⟨la1, nl1, lc1, Y1, oa1, no1, oc1, X1, rfl, hF1⟩ := hv1;have H1 : Q (DoS R w (E J 1) (E J sn) (G sa ns sc) w1 la nl lc oa no oc ha nh hc na nn nc W ∧ zy (RD R w) w1 (.agg #[G la1 nl1 lc1, E J ((zo W.hd sl).1).boot, E J ((zo W.hd sl).1).next, G oa1 no1 oc1]) ((zo W.hd sl).1) ∧ zat (RD R w) w1 (G ma mn mc) ((zo W.hd sl).2.1)) := ⟨(H0.out).below hb1, ⟨la1, nl1, lc1, Y1, oa1, no1, oc1, X1, rfl, hF1⟩, ⟨ma, mn, mc, XM0, rfl, hM0⟩⟩;clear hm1 hb1 hM0 hF1 x0 x1 x2 x3 x4 x5 y0 y1 y2 l0 l1;go_upto_region 9 with fail
   have hbA := zi w1 (T #[G la1 nl1 lc1, E J ((zo W.hd sl).1).boot, E J ((zo W.hd sl).1).next, G oa1 no1 oc1] 29);have HA : Q (DoS R w (E J 1) (E J sn) (G sa ns sc) (w1.alloc (T #[G la1 nl1 lc1, E J ((zo W.hd sl).1).boot, E J ((zo W.hd sl).1).next, G oa1 no1 oc1] 29)) la nl lc oa no oc ha nh hc na nn nc W ∧ Blk (w1.alloc (T #[G la1 nl1 lc1, E J ((zo W.hd sl).1).boot, E J ((zo W.hd sl).1).next, G oa1 no1 oc1] 29)) w1.heap.size #[G la1 nl1 lc1, E J ((zo W.hd sl).1).boot, E J ((zo W.hd sl).1).next, G oa1 no1 oc1] 29 ∧ zy (RD R w) (w1.alloc (T #[G la1 nl1 lc1, E J ((zo W.hd sl).1).boot, E J ((zo W.hd sl).1).next, G oa1 no1 oc1] 29)) (.agg #[G la1 nl1 lc1, E J ((zo W.hd sl).1).boot, E J ((zo W.hd sl).1).next, G oa1 no1 oc1]) ((zo W.hd sl).1) ∧ zat (RD R w) (w1.alloc (T #[G la1 nl1 lc1, E J ((zo W.hd sl).1).boot, E J ((zo W.hd sl).1).next, G oa1 no1 oc1] 29)) (G ma mn mc) ((zo W.hd sl).2.1) ∧ w1.heap.size < (w1.alloc (T #[G la1 nl1 lc1, E J ((zo W.hd sl).1).boot, E J ((zo W.hd sl).1).next, G oa1 no1 oc1] 29)).heap.size) := ⟨H1.out.1.below hbA, Blk.new _ _ _, H1.out.2.1.below hbA, zat.below H1.out.2.2 hbA, by simp⟩;have hw0 := H1.out.1.sz;clear hbA H1;generalize w1.alloc (T #[G la1 nl1 lc1, E J ((zo W.hd sl).1).boot, E J ((zo W.hd sl).1).next, G oa1 no1 oc1] 29) = A at *;have hw1 := HA.out.1.sz;have hX1 : Z A.heap.size A A.drew := (Below.refl _ _).drew;have HK : Q (∀ w', Z A.heap.size A w' → (w'.cell? ⟨w1.heap.size, 0, U⟩ = some (G la1 nl1 lc1) ∧ w'.cell? ⟨w1.heap.size, 1, U⟩ = some (E J ((zo W.hd sl).1).boot) ∧ w'.cell? ⟨w1.heap.size, 2, U⟩ = some (E J ((zo W.hd sl).1).next) ∧ w'.cell? ⟨w1.heap.size, 3, U⟩ = some (G oa1 no1 oc1) ∧ w'.cell? ⟨w.heap.size, 5, U⟩ = some (G na nn nc))) := fun w' hb => ⟨(HA.out.2.1.below hb HA.out.2.1.lt).cell 0, (HA.out.2.1.below hb HA.out.2.1.lt).cell 1, (HA.out.2.1.below hb HA.out.2.1.lt).cell 2, (HA.out.2.1.below hb HA.out.2.1.lt).cell 3, (HA.out.1.wb.below hb HA.out.1.wb.lt).cell 5⟩
   refine zcf (S := fun w' => (w'.cell? ⟨w1.heap.size, 0, U⟩ = some (G la1 nl1 lc1) ∧ w'.cell? ⟨w1.heap.size, 1, U⟩ = some (E J ((zo W.hd sl).1).boot) ∧ w'.cell? ⟨w1.heap.size, 2, U⟩ = some (E J ((zo W.hd sl).1).next) ∧ w'.cell? ⟨w1.heap.size, 3, U⟩ = some (G oa1 no1 oc1) ∧ w'.cell? ⟨w.heap.size, 5, U⟩ = some (G na nn nc))) 8 (by kernel_rfl) (HK.out _ hX1) (fun jq => ?_);refine tks 5 [(0, 57), (1, 58), (2, 59), (3, 60), (5, 62)] (b := ?_) rfl (by decide +kernel) (fun _ _ _ _ _ h => h) ?_ jq ?_;rotate_left 1
   ·iterate 5 (refine zaa.cons (v := ?_) rfl rfl (by rfl) ?_ ?_; rotate_left 1; (intro w h; (try dsimp only at h); go_simp; try with_reducible rfl))
    exact zaa.nil
   refine rdy 4 (by kernel_rfl) rfl (fun K hK => ?_);go_simp;(go_at_call 46; obtain ⟨XN, hXN⟩ := HA.out.1.net; obtain ⟨ma', mn', mc', XM, em, hXM⟩ := HA.out.2.2.2.1; cases em; refine (zgm (RD R w) na ma nn nc mn mc XN _ XM _ A.drew (RD.lt HI.out.2.2.2.2.2 (Nat.le_trans hw1 hX1.size)) (hXN.below hX1) (hXM.below hX1) (by have h1 := hXN.n; omega) (by have h1 := h64.out.1; omega) h64.out.2).mono ?_; rintro e wB ⟨_, rfl, ⟨na2, nn2, nc2, XN2, rfl, hcap2, hF2⟩, hb2⟩; have HB : Q (DoS R w (E J 1) (E J sn) (G sa ns sc) wB la nl lc oa no oc ha nh hc na nn nc W ∧ Blk wB w1.heap.size #[G la1 nl1 lc1, E J ((zo W.hd sl).1).boot, E J ((zo W.hd sl).1).next, G oa1 no1 oc1] 29 ∧ zy (RD R w) wB (.agg #[G la1 nl1 lc1, E J ((zo W.hd sl).1).boot, E J ((zo W.hd sl).1).next, G oa1 no1 oc1]) ((zo W.hd sl).1) ∧ zbs (RD R w) wB na2 nn2 XN2 ((zbu W.net ((zo W.hd sl).2.1)).map fun m => zau m)) := ⟨HA.out.1.below (hX1.trans (hb2.mono hX1.size)), HA.out.2.1.below (hX1.trans (hb2.mono hX1.size)) HA.out.2.1.lt, HA.out.2.2.1.below (hX1.trans (hb2.mono hX1.size)), by rw [← zgu]; exact hF2⟩; have hX2 : Z A.heap.size A wB := hX1.trans (hb2.mono hX1.size); clear hF2 hb2 hXN hXM)
   go_wp2_with fail
   refine kgo hK (by decide +kernel) ((HK.out _ hX2)) (fun jq => ?_);clear hK K;have hw2 := HB.out.1.wb;have hw3 : Blk (r (r (r (r wB ⟨w.heap.size, 0, U⟩ (G la1 nl1 lc1)) ⟨w.heap.size, 1, U⟩ (E J ((zo W.hd sl).1).boot)) ⟨w.heap.size, 2, U⟩ (E J ((zo W.hd sl).1).next)) ⟨w.heap.size, 3, U⟩ (G oa1 no1 oc1)) w.heap.size #[G la1 nl1 lc1, E J ((zo W.hd sl).1).boot, E J ((zo W.hd sl).1).next, G oa1 no1 oc1, G ha nh hc, G na nn nc] 59 := (((hw2.set 0 _).set 1 _).set 2 _).set 3 _;have hx3 : Blk (r (r (r (r wB ⟨w.heap.size, 0, U⟩ (G la1 nl1 lc1)) ⟨w.heap.size, 1, U⟩ (E J ((zo W.hd sl).1).boot)) ⟨w.heap.size, 2, U⟩ (E J ((zo W.hd sl).1).next)) ⟨w.heap.size, 3, U⟩ (G oa1 no1 oc1)) w1.heap.size #[G la1 nl1 lc1, E J ((zo W.hd sl).1).boot, E J ((zo W.hd sl).1).next, G oa1 no1 oc1] 29 := HB.out.2.1.keep (zg.setCells (R := fun b => b = w.heap.size) rfl [G la1 nl1 lc1, E J ((zo W.hd sl).1).boot, E J ((zo W.hd sl).1).next, G oa1 no1 oc1] 0 wB (zg.refl _ _)) (by omega);have HS4 : Q (((r (r (r (r wB ⟨w.heap.size, 0, U⟩ (G la1 nl1 lc1)) ⟨w.heap.size, 1, U⟩ (E J ((zo W.hd sl).1).boot)) ⟨w.heap.size, 2, U⟩ (E J ((zo W.hd sl).1).next)) ⟨w.heap.size, 3, U⟩ (G oa1 no1 oc1)).cell? ⟨w1.heap.size, 0, U⟩ = some (G la1 nl1 lc1) ∧ (r (r (r (r wB ⟨w.heap.size, 0, U⟩ (G la1 nl1 lc1)) ⟨w.heap.size, 1, U⟩ (E J ((zo W.hd sl).1).boot)) ⟨w.heap.size, 2, U⟩ (E J ((zo W.hd sl).1).next)) ⟨w.heap.size, 3, U⟩ (G oa1 no1 oc1)).cell? ⟨w1.heap.size, 1, U⟩ = some (E J ((zo W.hd sl).1).boot) ∧ (r (r (r (r wB ⟨w.heap.size, 0, U⟩ (G la1 nl1 lc1)) ⟨w.heap.size, 1, U⟩ (E J ((zo W.hd sl).1).boot)) ⟨w.heap.size, 2, U⟩ (E J ((zo W.hd sl).1).next)) ⟨w.heap.size, 3, U⟩ (G oa1 no1 oc1)).cell? ⟨w1.heap.size, 2, U⟩ = some (E J ((zo W.hd sl).1).next) ∧ (r (r (r (r wB ⟨w.heap.size, 0, U⟩ (G la1 nl1 lc1)) ⟨w.heap.size, 1, U⟩ (E J ((zo W.hd sl).1).boot)) ⟨w.heap.size, 2, U⟩ (E J ((zo W.hd sl).1).next)) ⟨w.heap.size, 3, U⟩ (G oa1 no1 oc1)).cell? ⟨w1.heap.size, 3, U⟩ = some (G oa1 no1 oc1) ∧ (r (r (r (r wB ⟨w.heap.size, 0, U⟩ (G la1 nl1 lc1)) ⟨w.heap.size, 1, U⟩ (E J ((zo W.hd sl).1).boot)) ⟨w.heap.size, 2, U⟩ (E J ((zo W.hd sl).1).next)) ⟨w.heap.size, 3, U⟩ (G oa1 no1 oc1)).cell? ⟨w.heap.size, 5, U⟩ = some (G na nn nc))) := ⟨hx3.cell 0, hx3.cell 1, hx3.cell 2, hx3.cell 3, hw3.cell 5⟩
   obtain ⟨u0, u1, u2, u3, u4, u5⟩ := hw2.cells6;obtain ⟨f0, f1, f2, f3, f4, f5⟩ := hw2.free6;have l3 := hw2.lt;have f6 := hw3.free 5;have l4 := hw3.lt;refine rdy 6 (by kernel_rfl) rfl (fun K hK => ?_);go_simp;refine kgo hK (by decide +kernel) (HS4.out) (fun jq => ?_);clear hK K;refine tks 1 [(7, 63)] (b := ?_) rfl (by decide +kernel) (fun _ _ _ _ _ h => h) ?_ jq ?_;rotate_left 1
   ·iterate 1 (refine zaa.cons (v := ?_) rfl rfl (by rfl) ?_ ?_; rotate_left 1; (intro w h; (try dsimp only at h); go_simp; try with_reducible rfl))
    exact zaa.nil
   refine rdy 8 (by kernel_rfl) rfl (fun K hK => ?_);go_simp;refine zbb hK (by decide +kernel) ?_;clear hK K jq;have hk5 : zg (fun b => b = w.heap.size) wB (r (r (r (r (r wB ⟨w.heap.size, 0, U⟩ (G la1 nl1 lc1)) ⟨w.heap.size, 1, U⟩ (E J ((zo W.hd sl).1).boot)) ⟨w.heap.size, 2, U⟩ (E J ((zo W.hd sl).1).next)) ⟨w.heap.size, 3, U⟩ (G oa1 no1 oc1)) ⟨w.heap.size, 5, U⟩ (G na2 nn2 nc2)) := (zg.setCells (R := fun b => b = w.heap.size) rfl [G la1 nl1 lc1, E J ((zo W.hd sl).1).boot, E J ((zo W.hd sl).1).next, G oa1 no1 oc1] 0 wB (zg.refl _ _)).setCell (p := ⟨w.heap.size, 5, U⟩) rfl _;have H5 : Q (DoS R w (E J 1) (E J sn) (G sa ns sc) (r (r (r (r (r wB ⟨w.heap.size, 0, U⟩ (G la1 nl1 lc1)) ⟨w.heap.size, 1, U⟩ (E J ((zo W.hd sl).1).boot)) ⟨w.heap.size, 2, U⟩ (E J ((zo W.hd sl).1).next)) ⟨w.heap.size, 3, U⟩ (G oa1 no1 oc1)) ⟨w.heap.size, 5, U⟩ (G na2 nn2 nc2)) la1 nl1 lc1 oa1 no1 oc1 ha nh hc na2 nn2 nc2 { W with hd := (zo W.hd sl).1, net := zbu W.net ((zo W.hd sl).2.1) }) := HB.out.1.put hk5 (hw3.set 5 _) HB.out.2.2.1 HB.out.1.hs ⟨XN2, HB.out.2.2.2⟩ hcap2;clear hk5 hw2 hw3 hx3 u0 u1 u2 u3 u4 u5 f0 f1 f2 f3 f4 f5 f6 l3 l4 HS4 jq hX1 hX2 HK;generalize (r (r (r (r (r wB ⟨w.heap.size, 0, U⟩ (G la1 nl1 lc1)) ⟨w.heap.size, 1, U⟩ (E J ((zo W.hd sl).1).boot)) ⟨w.heap.size, 2, U⟩ (E J ((zo W.hd sl).1).next)) ⟨w.heap.size, 3, U⟩ (G oa1 no1 oc1)) ⟨w.heap.size, 5, U⟩ (G na2 nn2 nc2)) = w5 at *;refine zbo (by kernel_rfl) ?_ _;go_upto_region 10 with fail
   have HE0 : Q (zl W (1, sn, sl) = ({ W with hd := (zo W.hd sl).1, net := zbu W.net ((zo W.hd sl).2.1) }, (zo W.hd sl).2.2)) := by
    show _ = _
    unfold zl
    simp only [if_true]
    rw [if_pos her.out]
   obtain ⟨x0, x1, x2, x3, x4, x5⟩ := (H5.out).wb.cells6;have l0' := (H5.out).wb.lt;obtain ⟨r0, r1, r2, r3, r4, r5⟩ := (H5.out).rb.cells6;obtain ⟨q0, q1, q2, q3, q4, q5⟩ := (H5.out).rb.free6;have l2 := (H5.out).rb.lt;obtain ⟨p1, p2, p3⟩ := (H5.out).ret;obtain ⟨e0, e1, e2, e3, e4, e5⟩ := p3.cells6;have HF : Q (zaf R (r (r (r (r (r (r w5 ⟨w.heap.size + 2, 0, U⟩ (G la1 nl1 lc1)) ⟨w.heap.size + 2, 1, U⟩ (E J ((zo W.hd sl).1).boot)) ⟨w.heap.size + 2, 2, U⟩ (E J ((zo W.hd sl).1).next)) ⟨w.heap.size + 2, 3, U⟩ (G oa1 no1 oc1)) ⟨w.heap.size + 2, 4, U⟩ (G ha nh hc)) ⟨w.heap.size + 2, 5, U⟩ (G na2 nn2 nc2)) (.agg #[G la1 nl1 lc1, E J ((zo W.hd sl).1).boot, E J ((zo W.hd sl).1).next, G oa1 no1 oc1, G ha nh hc, G na2 nn2 nc2]) (zl W (1, sn, sl)).1 ∧ Z w.heap.size w (r (r (r (r (r (r w5 ⟨w.heap.size + 2, 0, U⟩ (G la1 nl1 lc1)) ⟨w.heap.size + 2, 1, U⟩ (E J ((zo W.hd sl).1).boot)) ⟨w.heap.size + 2, 2, U⟩ (E J ((zo W.hd sl).1).next)) ⟨w.heap.size + 2, 3, U⟩ (G oa1 no1 oc1)) ⟨w.heap.size + 2, 4, U⟩ (G ha nh hc)) ⟨w.heap.size + 2, 5, U⟩ (G na2 nn2 nc2))) := by rw [HE0.out]; exact ⟨p1, p2⟩
   have HE : Q ((zl W (1, sn, sl)).2 = (zo W.hd sl).2.2) := by show _ = _; rw [HE0.out]
   clear p1 p2 p3;go_wp2_with fail
   clear r0 r1 r2 r3 r4 r5 q0 q1 q2 q3 q4 q5 x0 x1 x2 x3 x4 x5;generalize (r (r (r (r (r (r w5 ⟨w.heap.size + 2, 0, U⟩ (G la1 nl1 lc1)) ⟨w.heap.size + 2, 1, U⟩ (E J ((zo W.hd sl).1).boot)) ⟨w.heap.size + 2, 2, U⟩ (E J ((zo W.hd sl).1).next)) ⟨w.heap.size + 2, 3, U⟩ (G oa1 no1 oc1)) ⟨w.heap.size + 2, 4, U⟩ (G ha nh hc)) ⟨w.heap.size + 2, 5, U⟩ (G na2 nn2 nc2)) = Z9 at *;refine bodyPost_ret (v := .tuple #[.agg #[G la1 nl1 lc1, E J ((zo W.hd sl).1).boot, E J ((zo W.hd sl).1).next, G oa1 no1 oc1, G ha nh hc, G na2 nn2 nc2], E J ((zo W.hd sl).2.2)]) ?_ rfl ⟨_, by rw [HE.out], HF.out.1, HF.out.2⟩;simp [results, Try.results34, go_sem, e0, e1, e2, e3, e4, e5]
  ·have hzb : (er == 0) = false := by rw [beq_eq_false_iff_ne]; exact hz
   have HE0 : Q (zl W (1, sn, sl) = (W, er)) := by
    show _ = _
    unfold zl
    simp only [if_true]
    rw [if_neg (by rw [her.out]; exact hz), her.out]
   go_upto_region 7 with fail
   obtain ⟨r0, r1, r2, r3, r4, r5⟩ := (H0.out).rb.cells6;obtain ⟨q0, q1, q2, q3, q4, q5⟩ := (H0.out).rb.free6;have l2 := (H0.out).rb.lt;obtain ⟨p1, p2, p3⟩ := (H0.out).ret;obtain ⟨e0, e1, e2, e3, e4, e5⟩ := p3.cells6;have HF : Q (zaf R (r (r (r (r (r (r w0 ⟨w.heap.size + 2, 0, U⟩ (G la nl lc)) ⟨w.heap.size + 2, 1, U⟩ (E J W.hd.boot)) ⟨w.heap.size + 2, 2, U⟩ (E J W.hd.next)) ⟨w.heap.size + 2, 3, U⟩ (G oa no oc)) ⟨w.heap.size + 2, 4, U⟩ (G ha nh hc)) ⟨w.heap.size + 2, 5, U⟩ (G na nn nc)) (.agg #[G la nl lc, E J W.hd.boot, E J W.hd.next, G oa no oc, G ha nh hc, G na nn nc]) (zl W (1, sn, sl)).1 ∧ Z w.heap.size w (r (r (r (r (r (r w0 ⟨w.heap.size + 2, 0, U⟩ (G la nl lc)) ⟨w.heap.size + 2, 1, U⟩ (E J W.hd.boot)) ⟨w.heap.size + 2, 2, U⟩ (E J W.hd.next)) ⟨w.heap.size + 2, 3, U⟩ (G oa no oc)) ⟨w.heap.size + 2, 4, U⟩ (G ha nh hc)) ⟨w.heap.size + 2, 5, U⟩ (G na nn nc))) := by rw [HE0.out]; exact ⟨p1, p2⟩
   have HE : Q ((zl W (1, sn, sl)).2 = er) := by show _ = _; rw [HE0.out]
   clear p1 p2 p3;go_wp2_with fail
   clear r0 r1 r2 r3 r4 r5 q0 q1 q2 q3 q4 q5 x0 x1 x2 x3 x4 x5;generalize (r (r (r (r (r (r w0 ⟨w.heap.size + 2, 0, U⟩ (G la nl lc)) ⟨w.heap.size + 2, 1, U⟩ (E J W.hd.boot)) ⟨w.heap.size + 2, 2, U⟩ (E J W.hd.next)) ⟨w.heap.size + 2, 3, U⟩ (G oa no oc)) ⟨w.heap.size + 2, 4, U⟩ (G ha nh hc)) ⟨w.heap.size + 2, 5, U⟩ (G na nn nc)) = Z9 at *;refine bodyPost_ret (v := .tuple #[.agg #[G la nl lc, E J W.hd.boot, E J W.hd.next, G oa no oc, G ha nh hc, G na nn nc], E J (er)]) ?_ rfl ⟨_, by rw [HE.out], HF.out.1, HF.out.2⟩;simp [results, Try.results34, go_sem, e0, e1, e2, e3, e4, e5]
theorem zd.firstW {α : Type} {e : TypeId} {size : Nat} {enc : α → List Value} {w : World} {base : Nat} {a : Option Addr} {n c : Nat} {xs : List α} (h : zd e size enc w base (G a n c) xs) (hx : 0 < xs.length) : ∃ g cs, a = some ⟨g, 0, U⟩ ∧ Blk w g cs e ∧ base ≤ g := by
 rcases h.2 with ⟨hv, h0⟩ | ⟨g', cap', cur, hv, hg, hh, _⟩
 ·omega
 ·injection hv with h1 h2 h3
  exact ⟨g', cur, h1, hh, hg⟩
theorem zns (R : Nat → Prop) (v : Value) (W : WW) (k : Nat) (x : XH) (L : List R3) (w : World) (hR : ∀ b, R b → b < w.heap.size) (hv : zaf R w v W) (hx : zbc R w (zei x) L (ze L)) (hk : k < W.hs.length) (hm : W.hs.length ≤ 1000) :
  Calls Try.prog 49 #[v, E J (k : Nat), zei x] w fun e w' => ∃ v', e = .returned v' ∧ zaf R w' v' { W with hs := W.hs.set k L } ∧ Z w.heap.size w w' := by
 obtain ⟨la, nl, lc, Y, oa, no, oc, X, ha, nh, hc, XHs, na, nn, nc, XNs, rfl, hnc, hF⟩ := hv;have HNC := zA hnc;clear hnc;obtain ⟨R', r1, r2, r3, r4⟩ := zip R w 3;obtain ⟨⟨a0, b0, c0⟩, ⟨s0, s1, s2, s3⟩, ⟨a1, b1, c1⟩, ⟨a2, b2, c2⟩⟩ := x;have HX := zA hx;have HL := zC hF.hs.len hF.hs.n hk;have hl3 : XHs.length ≤ 1000 := by have := hF.hs.len; omega
 have hkX : k < XHs.length := by have := hF.hs.len; omega
 clear hx hk hm;simp only [zei]
 have hbX := (za2 w (T #[G la nl lc, E J W.hd.boot, E J W.hd.next, G oa no oc, G ha nh hc, G na nn nc] 59) (T #[G a0 b0 c0, E J s0, E J s1, E J s2, E J s3, G a1 b1 c1, G a2 b2 c2] 100)).alloc (by simp; omega) (T #[G U 0 0, E J 0, E J 0, G U 0 0, G U 0 0, G U 0 0] 59);go_enter Try.func49, Try.ntmps49
 go_upto_region 1 with fail
 generalize hVV : (((w.alloc (T #[G la nl lc, E J W.hd.boot, E J W.hd.next, G oa no oc, G ha nh hc, G na nn nc] 59)).alloc (T #[G a0 b0 c0, E J s0, E J s1, E J s2, E J s3, G a1 b1 c1, G a2 b2 c2] 100)).alloc (T #[G U 0 0, E J 0, E J 0, G U 0 0, G U 0 0, G U 0 0] 59)) = V at *;have hN0 : Blk V w.heap.size #[G la nl lc, E J W.hd.boot, E J W.hd.next, G oa no oc, G ha nh hc, G na nn nc] 59 := by rw [← hVV]; exact ((Blk.new _ _ _).alloc _).alloc _
 have hN1 : Blk V (w.heap.size + 1) #[G a0 b0 c0, E J s0, E J s1, E J s2, E J s3, G a1 b1 c1, G a2 b2 c2] 100 := by rw [← hVV]; exact Blk.alloc (zaq _ _ _) _
 have hsX : V.heap.size = w.heap.size + 3 := by rw [← hVV]; simp
 have hN2 : Blk V (w.heap.size + 2) #[G U 0 0, E J 0, E J 0, G U 0 0, G U 0 0, G U 0 0] 59 := by rw [← hVV]; rw [show w.heap.size + 2 = ((w.alloc (T #[G la nl lc, E J W.hd.boot, E J W.hd.next, G oa no oc, G ha nh hc, G na nn nc] 59)).alloc (T #[G a0 b0 c0, E J s0, E J s1, E J s2, E J s3, G a1 b1 c1, G a2 b2 c2] 100)).heap.size by simp]; exact Blk.new _ _ _
 clear hVV;have HV := zC hbX hN0 hsX;have n4 := hN0.cell 4;have k4 := hN0.free 4;simp only [List.getElem?_toArray, List.getElem?_cons_zero, List.getElem?_cons_succ] at n4
 have nl0 := hN0.lt;have HF := zA hF;have HV2 := zB hN1 hN2;clear hbX hN0 hN1 hN2 hsX hF;have HB1 : Q (Z V.heap.size V (V.alloc (T #[] 100))) := zi _ _;go_upto_region 2 with (at_builtin; refine zhl lenH oneH Try.underlying56 infoHouse rfl (by decide) _ rfl _ _ rfl V.heap.size _ [] rfl (zak.made (Blk.new V _ _) _) ha nh hc XHs rfl HL.out.2.1 (((HF.out.hs.below HV.out.1).below HB1.out).row) (by unfold maxLen; simp; omega) (by simp; omega) (by simp) ?_; intro a3 n3 c3 w3 hfr3 hn3 hb3; obtain ⟨g3, cs3, rfl, hg3, hge⟩ := zd.firstW (hfr3.resolve_right (fun h => by have h1 := h.1; simp at h1; rw [h1] at hkX; simp at hkX)) (by simp; omega); have hO3 : zd 100 7 zd2 w3 V.heap.size (G (some ⟨g3, 0, U⟩) n3 c3) XHs := (by have h := hfr3.resolve_right (fun h => by have h1 := h.1; simp at h1; rw [h1] at hkX; simp at hkX); rw [List.nil_append] at h; exact h); have hb3' := HB1.out.trans (hb3.mono (by have := HB1.out.size; omega)); have hN3 := HV.out.2.1.below hb3' HV.out.2.1.lt; have hM3 := HV2.out.1.below hb3' HV2.out.1.lt; have hZ3 := HV2.out.2.below hb3' HV2.out.2.lt; have n43 := hN3.cell 4; have k43 := hN3.free 4; have l43 := hN3.lt; simp only [List.getElem?_toArray, List.getElem?_cons_zero, List.getElem?_cons_succ] at n43; have hn3' : Q (n3 = XHs.length) := (by show _ = _; rw [hn3]; simp); clear hn3 hfr3)
 have HP : Q (zd 100 7 zd2 (r w3 ⟨w.heap.size, 4, U⟩ (G (some ⟨g3, 0, U⟩) n3 c3)) V.heap.size (G (some ⟨g3, 0, U⟩) n3 c3) XHs ∧ Z w.heap.size w (r w3 ⟨w.heap.size, 4, U⟩ (G (some ⟨g3, 0, U⟩) n3 c3))) := ⟨hO3.setOther (a := ⟨w.heap.size, 4, U⟩) hN3 (by decide) _, (HV.out.1.trans (hb3'.mono HV.out.1.size)).setCell (Nat.le_refl _) _⟩;have hN4 : Blk (r w3 ⟨w.heap.size, 4, U⟩ (G (some ⟨g3, 0, U⟩) n3 c3)) w.heap.size #[G la nl lc, E J W.hd.boot, E J W.hd.next, G oa no oc, G (some ⟨g3, 0, U⟩) n3 c3, G na nn nc] 59 := hN3.set 4 (G (some ⟨g3, 0, U⟩) n3 c3);have hM4 := hM3.setOther (a := ⟨w.heap.size, 4, U⟩) (by simp) (G (some ⟨g3, 0, U⟩) n3 c3);have hZ4 := hZ3.setOther (a := ⟨w.heap.size, 4, U⟩) (by simp) (G (some ⟨g3, 0, U⟩) n3 c3);have hG4 := hg3.setOther (a := ⟨w.heap.size, 4, U⟩) (by have := HV.out.2.2; simp; omega) (G (some ⟨g3, 0, U⟩) n3 c3);clear hN3 hM3 hZ3 hg3 hO3 hb3' n43 k43 l43 hb3;generalize r w3 ⟨w.heap.size, 4, U⟩ (G (some ⟨g3, 0, U⟩) n3 c3) = jz at *;have jX := (HP.out.1.at lenH).1;rcases jX with h0 | ⟨b', o', he', hlt', hc'⟩
 ·rw [h0] at hkX; simp at hkX
 cases he';have d0 := hc' k hkX 0 _ rfl;have d1 := hc' k hkX 1 _ rfl;have d2 := hc' k hkX 2 _ rfl;have d3 := hc' k hkX 3 _ rfl;have d4 := hc' k hkX 4 _ rfl;have d5 := hc' k hkX 5 _ rfl;have d6 := hc' k hkX 6 _ rfl;simp only [Nat.zero_add, Nat.add_zero] at d0 d1 d2 d3 d4 d5 d6
 have hput : zd 100 7 zd2 (((((((jz.setCell ⟨g3, k * 7, U⟩ (G a0 b0 c0)).setCell ⟨g3, k * 7 + 1, U⟩ (E J s0)).setCell ⟨g3, k * 7 + 2, U⟩ (E J s1)).setCell ⟨g3, k * 7 + 3, U⟩ (E J s2)).setCell ⟨g3, k * 7 + 4, U⟩ (E J s3)).setCell ⟨g3, k * 7 + 5, U⟩ (G a1 b1 c1)).setCell ⟨g3, k * 7 + 6, U⟩ (G a2 b2 c2)) V.heap.size (G (some ⟨g3, 0, U⟩) n3 c3) (XHs.set k ((a0, b0, c0), (s0, s1, s2, s3), (a1, b1, c1), (a2, b2, c2))) := HP.out.1.putN lenH hkX ((a0, b0, c0), (s0, s1, s2, s3), (a1, b1, c1), (a2, b2, c2));have hKU : zg (fun b => b = g3) jz (((((((jz.setCell ⟨g3, k * 7, U⟩ (G a0 b0 c0)).setCell ⟨g3, k * 7 + 1, U⟩ (E J s0)).setCell ⟨g3, k * 7 + 2, U⟩ (E J s1)).setCell ⟨g3, k * 7 + 3, U⟩ (E J s2)).setCell ⟨g3, k * 7 + 4, U⟩ (E J s3)).setCell ⟨g3, k * 7 + 5, U⟩ (G a1 b1 c1)).setCell ⟨g3, k * 7 + 6, U⟩ (G a2 b2 c2)) := zg.setCells (R := fun b => b = g3) rfl [(G a0 b0 c0), (E J s0), (E J s1), (E J s2), (E J s3), (G a1 b1 c1), (G a2 b2 c2)] (k * 7) jz (zg.refl _ _);have hN5 := hN4.keep hKU (by have := HV.out.2.2; omega);have hZ5 := hZ4.keep hKU (by have := HV.out.2.2; omega);have f0 := hG4.free (k * 7);have f1 := hG4.free (k * 7 + 1);have f2 := hG4.free (k * 7 + 2);have f3 := hG4.free (k * 7 + 3);have f4 := hG4.free (k * 7 + 4);have f5 := hG4.free (k * 7 + 5);have f6 := hG4.free (k * 7 + 6);have x4 := hN4.cell 4;simp only [List.getElem?_toArray, List.getElem?_cons_zero, List.getElem?_cons_succ] at x4
 obtain ⟨⟨y0, y1, y2, y3, y4, y5, y6⟩, -⟩ := zdk hM4;have HQ := zD hput hN5 hZ5 (HP.out.2.trans (hKU.below HP.out.2.size (fun b hb => by have := HV.out.2.2; omega)));have hkn : k < n3 := by rw [hn3'.out]; exact hkX
 have hg3l := hG4.lt;clear hput hKU hN5 hZ5 hN4 hM4 hZ4 hc' n4 k4 nl0 HP hG4;generalize XHs[k] = xo at *;obtain ⟨⟨z0, z1, z2⟩, ⟨z3, z4, z5, z6⟩, ⟨z7, z8, z9⟩, ⟨zA, zB, zC⟩⟩ := xo;simp only at d0 d1 d2 d3 d4 d5 d6
 go_upto_region 3 with fail
 clear d0 d1 d2 d3 d4 d5 d6 f0 f1 f2 f3 f4 f5 f6 x4 y0 y1 y2 y3 y4 y5 y6;generalize (((((((jz.setCell ⟨g3, k * 7, U⟩ (G a0 b0 c0)).setCell ⟨g3, k * 7 + 1, U⟩ (E J s0)).setCell ⟨g3, k * 7 + 2, U⟩ (E J s1)).setCell ⟨g3, k * 7 + 3, U⟩ (E J s2)).setCell ⟨g3, k * 7 + 4, U⟩ (E J s3)).setCell ⟨g3, k * 7 + 5, U⟩ (G a1 b1 c1)).setCell ⟨g3, k * 7 + 6, U⟩ (G a2 b2 c2)) = zX at *;obtain ⟨hQ, hK6⟩ := zhj HQ.out.2.2.1 (G la nl lc) (E J W.hd.boot) (E J W.hd.next) (G oa no oc) (G (some ⟨g3, 0, U⟩) n3 c3) (G na nn nc);obtain ⟨t0, t1, t2, t3, t4, t5⟩ := HQ.out.2.2.1.cells6;obtain ⟨q0, q1, q2, q3, q4, q5⟩ := HQ.out.2.2.1.free6;obtain ⟨u0, u1, u2, u3, u4, u5⟩ := HQ.out.2.1.cells6;obtain ⟨e0, e1, e2, e3, e4, e5⟩ := hQ.cells6;have hl2 := HQ.out.2.2.1.lt;have hbF := HQ.out.2.2.2.trans (hK6.below HQ.out.2.2.2.size (fun b hb => by omega))
 have hOF : zd 100 7 zd2 ((((((zX.setCell ⟨w.heap.size + 2, 0, U⟩ (G la nl lc)).setCell ⟨w.heap.size + 2, 1, U⟩ (E J W.hd.boot)).setCell ⟨w.heap.size + 2, 2, U⟩ (E J W.hd.next)).setCell ⟨w.heap.size + 2, 3, U⟩ (G oa no oc)).setCell ⟨w.heap.size + 2, 4, U⟩ (G (some ⟨g3, 0, U⟩) n3 c3)).setCell ⟨w.heap.size + 2, 5, U⟩ (G na nn nc)) V.heap.size (G (some ⟨g3, 0, U⟩) n3 c3) (XHs.set k ((a0, b0, c0), (s0, s1, s2, s3), (a1, b1, c1), (a2, b2, c2))) := by
  have z := HQ.out.2.2.1;exact (((((HQ.out.1.setOther (a := ⟨w.heap.size + 2, 0, U⟩) z (by decide) _).setOther (a := ⟨w.heap.size + 2, 1, U⟩) (z.set 0 _) (by decide) _).setOther (a := ⟨w.heap.size + 2, 2, U⟩) ((z.set 0 _).set 1 _) (by decide) _).setOther (a := ⟨w.heap.size + 2, 3, U⟩) (((z.set 0 _).set 1 _).set 2 _) (by decide) _).setOther (a := ⟨w.heap.size + 2, 4, U⟩) ((((z.set 0 _).set 1 _).set 2 _).set 3 _) (by decide) _).setOther (a := ⟨w.heap.size + 2, 5, U⟩) (((((z.set 0 _).set 1 _).set 2 _).set 3 _).set 4 _) (by decide) _
 have HFF : Q (zaf R ((((((zX.setCell ⟨w.heap.size + 2, 0, U⟩ (G la nl lc)).setCell ⟨w.heap.size + 2, 1, U⟩ (E J W.hd.boot)).setCell ⟨w.heap.size + 2, 2, U⟩ (E J W.hd.next)).setCell ⟨w.heap.size + 2, 3, U⟩ (G oa no oc)).setCell ⟨w.heap.size + 2, 4, U⟩ (G (some ⟨g3, 0, U⟩) n3 c3)).setCell ⟨w.heap.size + 2, 5, U⟩ (G na nn nc)) (.agg #[G la nl lc, E J W.hd.boot, E J W.hd.next, G oa no oc, G (some ⟨g3, 0, U⟩) n3 c3, G na nn nc]) { W with hs := W.hs.set k L } ∧ Z w.heap.size w ((((((zX.setCell ⟨w.heap.size + 2, 0, U⟩ (G la nl lc)).setCell ⟨w.heap.size + 2, 1, U⟩ (E J W.hd.boot)).setCell ⟨w.heap.size + 2, 2, U⟩ (E J W.hd.next)).setCell ⟨w.heap.size + 2, 3, U⟩ (G oa no oc)).setCell ⟨w.heap.size + 2, 4, U⟩ (G (some ⟨g3, 0, U⟩) n3 c3)).setCell ⟨w.heap.size + 2, 5, U⟩ (G na nn nc))) := by
  refine ⟨⟨la, nl, lc, Y, oa, no, oc, X, some ⟨g3, 0, U⟩, n3, c3, XHs.set k ((a0, b0, c0), (s0, s1, s2, s3), (a1, b1, c1), (a2, b2, c2)), na, nn, nc, XNs, rfl, HNC.out, ⟨HF.out.hd.below hbF, ?_, HF.out.net.below hbF⟩⟩, hbF⟩;have hat := hOF.at lenH;refine ⟨hat.2.1, hat.1, hOF.outR (fun b hb => by have := hR b hb; have := HV.out.2.2; omega) _, by simp only [List.length_set]; exact HL.out.1, fun i h1 h2 => ?_⟩;by_cases hik : i = k
  ·subst hik
   simp only [List.getElem_set_self]
   exact HX.out.below hbF
  ·simp only [List.getElem_set_ne (Ne.symm hik)]
   rw [List.length_set] at h1 h2;exact (HF.out.hs.each i h1 h2).below hbF
 clear hQ hK6 hbF hOF HQ;go_wp2_with fail
 clear t0 t1 t2 t3 t4 t5 q0 q1 q2 q3 q4 q5 u0 u1 u2 u3 u4 u5;generalize ((((((zX.setCell ⟨w.heap.size + 2, 0, U⟩ (G la nl lc)).setCell ⟨w.heap.size + 2, 1, U⟩ (E J W.hd.boot)).setCell ⟨w.heap.size + 2, 2, U⟩ (E J W.hd.next)).setCell ⟨w.heap.size + 2, 3, U⟩ (G oa no oc)).setCell ⟨w.heap.size + 2, 4, U⟩ (G (some ⟨g3, 0, U⟩) n3 c3)).setCell ⟨w.heap.size + 2, 5, U⟩ (G na nn nc)) = Z9 at *;refine bodyPost_ret (v := .agg #[G la nl lc, E J W.hd.boot, E J W.hd.next, G oa no oc, G (some ⟨g3, 0, U⟩) n3 c3, G na nn nc]) ?_ rfl ⟨_, rfl, HFF.out.1, HFF.out.2⟩;simp [results, Try.results49, go_sem, e0, e1, e2, e3, e4, e5]
open Go.RowKit Go.Maps Go.WideMaps
def ikl (n : Int) : Lit := .int J n
def In1 (n : Int) : Prop := (Lit.int J n).wf = true
theorem zfy : Keyed Try.prog 3 := int_keyed Try.underlying3
theorem zfw (n : Int) (h : In1 n) : keyOf Try.prog 3 (.int J n) = some (ikl n) := keyOf_int_mk Try.underlying3 h
theorem ikl_inj {p q : Int} (h : ikl p = ikl q) : p = q := by injection h
def SetI (w : World) (b : Nat) (ps : List Int) : Prop := w.ownsMap (H := Unit) Try.prog 3 (plainElem Try.prog 4) b ps.length (setOf (.lit (.bool true)) (ps.map ikl)) ∧ ∀ p ∈ ps, In1 p
theorem zl0 (q : Int) (hq : In1 q) : ∀ (ps : List Int) (m : DataW Unit), IsMap m → (∀ p ∈ ps, In1 p) →
  ((ps.map ikl).foldl (fun m x => m.put x (.lit (.bool true))) m).atKey (ikl q) (.lit (.bool false)) = if (ps.any fun p => decide (p = q)) = true then .lit (.bool true) else m.atKey (ikl q) (.lit (.bool false))
 | [], m, _, _ => by simp
 | p :: t, m, hm, h => by
  have hp := h p (by simp);rw [List.map_cons, List.foldl_cons, zl0 q hq t _ (hm.put _ _) (fun jj hr => h jj (by simp [hr])), List.any_cons];by_cases e : p = q
  ·subst e
   rw [atKey_put_same hm (zfy.key (zfw p hp))];simp
  ·rw [atKey_put_other (fun h => e (ikl_inj h.symm))]
   simp [e]
theorem zp7 (ps : List Int) (hps : ∀ p ∈ ps, In1 p) (q : Int) (hq : In1 q) : (setOf (H := Unit) (.lit (.bool true)) (ps.map ikl)).atKey (ikl q) (.lit (.bool false)) = .lit (.bool (ps.any fun p => decide (p = q))) := by
 unfold setOf
 rw [zl0 q hq ps _ isMap_empty hps];cases ps.any fun p => decide (p = q) <;> rfl
theorem SetI.lookup {w : World} {b : Nat} {ps : List Int} (h : SetI w b ps) (q : Int) (hq : In1 q) : (Instr.lookup 39 (.map (some b)) (.int J q) false).run Try.prog w = .ok (.bool (ps.any fun p => decide (p = q))) w := by
 obtain ⟨v, pl, hrun, hv⟩ := h.1.lookup zfy Try.underlying39 (zjv w) (plainElem_bool Try.underlying4 false) (zfw q hq);rw [zp7 ps h.2 q hq] at hv;rw [zjo hv] at hrun;exact hrun
theorem SetI.below {w w' : World} {B b : Nat} {ps : List Int} (h : SetI w b ps) (hb : Z B w w') (hlt : b < B) : SetI w' b ps := by
 refine ⟨?_, h.2⟩;obtain ⟨es, clock, hh, jj⟩ := h.1;exact ⟨es, clock, (hb.block b hlt).trans hh, jj⟩
theorem SetI.alloc {w : World} {b : Nat} {ps : List Int} (h : SetI w b ps) (o : Obj) : SetI (w.alloc o) b ps := ⟨h.1.alloc o, h.2⟩
theorem SetI.lt {w : World} {b : Nat} {ps : List Int} (h : SetI w b ps) : b < w.heap.size := h.1.lt
open Go.RowKit Go.Maps Go.WideMaps
theorem zeroInt (w : World) : (zeroValue 3).run Try.prog w = .ok (E J 0) w := by kernel_rfl
theorem kindMap (w : World) (k : Int) (hk : k = 4 ∨ k = 5) : ∃ w1 w2, (Instr.mapUpdate 123 (.map (some w.heap.size)) (E J 4) (E J 2)).run Try.prog (w.alloc (.map #[] 0)) = .ok () w1 ∧ (Instr.mapUpdate 123 (.map (some w.heap.size)) (E J 5) (E J 3)).run Try.prog w1 = .ok () w2 ∧
  (Instr.lookup 123 (.map (some w.heap.size)) (E J k) false).run Try.prog w2 = .ok (E J (k - 2)) w2 ∧ Z w.heap.size w w2 := by
 have h0 := World.ownsMap_made (H := Unit) w Try.prog 3 (plainElem Try.prog 3);obtain ⟨w1, r1, o1, b1⟩ := h0.update zfy Try.underlying123 (by unfold maxLen; omega) (zfw 4 (by unfold In1; decide)) (plainElem_int Try.underlying3 (a := 2) (by decide));obtain ⟨w2, r2, o2, b2⟩ := o1.update zfy Try.underlying123 (by unfold maxLen; omega) (zfw 5 (by unfold In1; decide)) (plainElem_int Try.underlying3 (a := 3) (by decide));obtain ⟨c, r3, hat, _⟩ := o2.lookup_int zfy Try.underlying123 Try.underlying3 (zeroInt w2) (key := E J k) (kl := ikl k) (zfw k (by rcases hk with rfl | rfl <;> (unfold In1; decide)))
 have hc : c = k - 2 := by
  rcases hk with rfl | rfl
  ·have e : (((DataW.map [] : DataW Unit).put (ikl 4) (.lit (.int J 2))).put (ikl 5) (.lit (.int J 3))).atKey (ikl 4) (.lit (.int J 0)) = .lit (.int J 2) := by kernel_rfl
   rw [e] at hat;injection hat with hat
   injection hat with _ hat
   omega
  ·have e : (((DataW.map [] : DataW Unit).put (ikl 4) (.lit (.int J 2))).put (ikl 5) (.lit (.int J 3))).atKey (ikl 5) (.lit (.int J 0)) = .lit (.int J 3) := by kernel_rfl
   rw [e] at hat;injection hat with hat
   injection hat with _ hat
   omega
 rw [hc] at r3;exact ⟨w1, w2, r1, r2, r3, (((Below.refl _ w).alloc (Nat.le_refl _) _).grown b1 (by simp) (fun q hq => by cases hq; exact Nat.le_refl _)).grown b2 (by have := b1.size; simp at this; omega) (fun q hq => by cases hq; exact Nat.le_refl _)⟩
end Go.Proofs.Ytpcnlifmkhagkaa
