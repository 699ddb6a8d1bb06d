import Derived.Test.YtpcnlifmkhagkaaGreatKFJ28
set_option maxRecDepth 20000
set_option maxHeartbeats 20000000
namespace Go.Proofs.YtpcnlifmkhagkaaGreat
open Go.RowKit
open Go.Value renaming slice → G, int → E
open Go.IntKind renaming i64 → J
open _root_.Option renaming none → U
open Go.Obj renaming cells → T
open Go.RowKit renaming Hid → Q, Below → Z
open Go.World renaming setCell → r
attribute [local go_sem ↓] Go.wp_at_zero Go.wp_at_succ
theorem zqm (R : Nat → Prop) (v : Value) (W : WW) (n : Nat) (P : Int → List P3) (sn : Int) (sa : Option Addr) (ns sc : Nat) (sl : List P3) (w : World) (hR : ∀ b, R b → b < w.heap.size) (hv : zag R w v W) (I : Inv n P W) (hL : zb0 100000 W) (hns : ns = sl.length) (hp : zaf R w sa sl) (hsl : sl.length ≤ 9223372036854775807) :
  Calls Tryz.prog 34 #[v, .agg #[E J 5, E J sn, G sa ns sc]] w fun e w' => ∃ v', e = .returned (.tuple #[v', E J (zl W (5, sn, sl)).2]) ∧ zag R w' v' (zl W (5, sn, sl)).1 ∧ Z w.heap.size w w' := by
 obtain ⟨la, nl, lc, Y, oa, no, oc, X, ha, nh, hc, XHs, na, nn, nc, XNs, rfl, hnc, hF⟩ := hv;have hS0 := DoS.start hF lc oc hc nc hnc (E J 5) (E J sn) (G sa ns sc);have HI := zF I hL hns hp hsl hR;have HN : Q (nh = W.hs.length ∧ nn = W.net.length) := ⟨by rw [hF.hs.n, hF.hs.len], by rw [hF.net.n, ← List.length_map (f := (·.2)), hF.net.says, List.length_map]⟩;have hnn : nn ≤ 24 := by have h1 := HN.out.2; have h2 := I.small; omega
 have hnh : nh ≤ 3 := by have h1 := HN.out.1; have h2 := I.len; have h3 := I.n3; omega
 clear I hL hns hp hsl hR hF hnc;go_enter Tryz.func34, Tryz.ntmps34
 go_upto_region 1 with fail
 generalize (((w.alloc (T #[G la nl lc, E J W.hd.boot, E J W.hd.next, G oa no oc, G ha nh hc, G na nn nc] 65)).alloc (T #[E J 5, E J sn, G sa ns sc] 61)).alloc (T #[G U 0 0, E J 0, E J 0, G U 0 0, G U 0 0, G U 0 0] 65)) = V at *;have HS := zA hS0;obtain ⟨x0, x1, x2, x3, x4, x5⟩ := hS0.wb.cells6;obtain ⟨y0, y1, y2⟩ := hS0.sb.cells3;have l0 := hS0.wb.lt;have l1 := hS0.sb.lt;clear hS0;obtain ⟨th, hth⟩ : ∃ th, Q (th = decide (0 ≤ sn ∧ sn < (nn : Int))) := ⟨_, rfl⟩;go_cut [6] (fun tv wx => tv = .bool th ∧ wx = V)
 case first =>
  by_cases h0 : 0 ≤ sn
  ·by_cases h1 : sn < (nn : Int)
   ·have ht : th = true := by rw [hth.out]; simp [h0, h1]
    have g0 : decide (sn ≥ 0) = true := decide_eq_true h0;have g1 := decide_eq_true h1;go_wp2_with fail
    go_meet
    case rel => exact ⟨by rw [ht], rfl⟩
   ·have ht : th = false := by rw [hth.out]; simp [h1]
    have g0 : decide (sn ≥ 0) = true := decide_eq_true h0;have g1 := decide_eq_false h1;go_wp2_with fail
    go_meet
    case rel => exact ⟨by rw [ht], rfl⟩
  ·have ht : th = false := by rw [hth.out]; simp [h0]
   have g0 : decide (sn ≥ 0) = false := decide_eq_false h0;go_wp2_with fail
   go_meet
   case rel => exact ⟨by rw [ht], rfl⟩
 case rest =>
  obtain ⟨rfl, rfl⟩ := hcut;by_cases h3 : sn = 3
  ·subst h3
   go_upto_region 34 with fail
   go_wp2_with fail
   refine (zop (RD R w) _ W.hd wc (RD.lt HI.out.2.2.2.2.2 HS.out.sz) HS.out.hv (by have := HI.out.2.1.1; omega)).mono ?_;rintro e w1 ⟨v1, rfl, hv1, hb1⟩;obtain ⟨la1, nl1, lc1, Y1, oa1, no1, oc1, X1, rfl, hF1⟩ := hv1;have H1 : Q (DoS R w (E J 5) (E J 3) (G sa ns sc) w1 la nl lc oa no oc ha nh hc na nn nc W ∧ zaa (RD R w) w1 (.agg #[G la1 nl1 lc1, E J ((zz W.hd).1).boot, E J ((zz W.hd).1).next, G oa1 no1 oc1]) ((zz W.hd).1)) := ⟨HS.out.below hb1, ⟨la1, nl1, lc1, Y1, oa1, no1, oc1, X1, rfl, hF1⟩⟩;clear hb1 hF1;clear x0 x1 x2 x3 x4 x5 y0 y1 y2 l0 l1;go_upto_region 35 with fail
   have hbA := zg w1 (T #[G la1 nl1 lc1, E J ((zz W.hd).1).boot, E J ((zz W.hd).1).next, G oa1 no1 oc1] 29);have HA : Q (DoS R w (E J 5) (E J 3) (G sa ns sc) (w1.alloc (T #[G la1 nl1 lc1, E J ((zz W.hd).1).boot, E J ((zz W.hd).1).next, G oa1 no1 oc1] 29)) la nl lc oa no oc ha nh hc na nn nc W ∧ Blk (w1.alloc (T #[G la1 nl1 lc1, E J ((zz W.hd).1).boot, E J ((zz W.hd).1).next, G oa1 no1 oc1] 29)) w1.heap.size #[G la1 nl1 lc1, E J ((zz W.hd).1).boot, E J ((zz W.hd).1).next, G oa1 no1 oc1] 29 ∧ zaa (RD R w) (w1.alloc (T #[G la1 nl1 lc1, E J ((zz W.hd).1).boot, E J ((zz W.hd).1).next, G oa1 no1 oc1] 29)) (.agg #[G la1 nl1 lc1, E J ((zz W.hd).1).boot, E J ((zz W.hd).1).next, G oa1 no1 oc1]) ((zz W.hd).1)) := ⟨H1.out.1.below hbA, Blk.new _ _ _, H1.out.2.below hbA⟩;clear hbA H1;generalize w1.alloc (T #[G la1 nl1 lc1, E J ((zz W.hd).1).boot, E J ((zz W.hd).1).next, G oa1 no1 oc1] 29) = A at *;have hw2 := HA.out.1.wb;have hk5 : zh (fun b => b = w.heap.size) A (r (r (r (r A ⟨w.heap.size, 0, U⟩ (G la1 nl1 lc1)) ⟨w.heap.size, 1, U⟩ (E J ((zz W.hd).1).boot)) ⟨w.heap.size, 2, U⟩ (E J ((zz W.hd).1).next)) ⟨w.heap.size, 3, U⟩ (G oa1 no1 oc1)) := zh.setCells (R := fun b => b = w.heap.size) rfl [G la1 nl1 lc1, E J ((zz W.hd).1).boot, E J ((zz W.hd).1).next, G oa1 no1 oc1] 0 A (zh.refl _ _);have H5 : Q (DoS R w (E J 5) (E J 3) (G sa ns sc) (r (r (r (r A ⟨w.heap.size, 0, U⟩ (G la1 nl1 lc1)) ⟨w.heap.size, 1, U⟩ (E J ((zz W.hd).1).boot)) ⟨w.heap.size, 2, U⟩ (E J ((zz W.hd).1).next)) ⟨w.heap.size, 3, U⟩ (G oa1 no1 oc1)) la1 nl1 lc1 oa1 no1 oc1 ha nh hc na nn nc { W with hd := (zz W.hd).1 }) := HA.out.1.put hk5 ((((hw2.set 0 _).set 1 _).set 2 _).set 3 _) HA.out.2.2 HA.out.1.hs HA.out.1.net HA.out.1.cap
   obtain ⟨u0, u1, u2, u3, u4, u5⟩ := hw2.cells6;obtain ⟨f0, f1, f2, f3, f4, f5⟩ := hw2.free6;obtain ⟨d0, d1, d2, d3⟩ := HA.out.2.1.cells4;have l3 := hw2.lt;have l4 := HA.out.2.1.lt;go_upto_region 36 with fail
   clear hk5 hw2 u0 u1 u2 u3 u4 u5 f0 f1 f2 f3 f4 f5 d0 d1 d2 d3 l3 l4;generalize (r (r (r (r A ⟨w.heap.size, 0, U⟩ (G la1 nl1 lc1)) ⟨w.heap.size, 1, U⟩ (E J ((zz W.hd).1).boot)) ⟨w.heap.size, 2, U⟩ (E J ((zz W.hd).1).next)) ⟨w.heap.size, 3, U⟩ (G oa1 no1 oc1)) = w5 at *;have HE0 : Q (zl W (5, 3, sl) = ({ W with hd := (zz W.hd).1 }, (zz W.hd).2)) := rfl;obtain ⟨x0, x1, x2, x3, x4, x5⟩ := (H5.out).wb.cells6;have l0' := (H5.out).wb.lt;obtain ⟨r0, r1, r2, r3, r4, r5⟩ := (H5.out).rb.cells6;obtain ⟨q0, q1, q2, q3, q4, q5⟩ := (H5.out).rb.free6;have l2 := (H5.out).rb.lt;obtain ⟨p1, p2, p3⟩ := (H5.out).ret;obtain ⟨e0, e1, e2, e3, e4, e5⟩ := p3.cells6;have HF : Q (zag R (r (r (r (r (r (r w5 ⟨w.heap.size + 2, 0, U⟩ (G la1 nl1 lc1)) ⟨w.heap.size + 2, 1, U⟩ (E J ((zz W.hd).1).boot)) ⟨w.heap.size + 2, 2, U⟩ (E J ((zz W.hd).1).next)) ⟨w.heap.size + 2, 3, U⟩ (G oa1 no1 oc1)) ⟨w.heap.size + 2, 4, U⟩ (G ha nh hc)) ⟨w.heap.size + 2, 5, U⟩ (G na nn nc)) (.agg #[G la1 nl1 lc1, E J ((zz W.hd).1).boot, E J ((zz W.hd).1).next, G oa1 no1 oc1, G ha nh hc, G na nn nc]) (zl W (5, 3, sl)).1 ∧ Z w.heap.size w (r (r (r (r (r (r w5 ⟨w.heap.size + 2, 0, U⟩ (G la1 nl1 lc1)) ⟨w.heap.size + 2, 1, U⟩ (E J ((zz W.hd).1).boot)) ⟨w.heap.size + 2, 2, U⟩ (E J ((zz W.hd).1).next)) ⟨w.heap.size + 2, 3, U⟩ (G oa1 no1 oc1)) ⟨w.heap.size + 2, 4, U⟩ (G ha nh hc)) ⟨w.heap.size + 2, 5, U⟩ (G na nn nc))) := by rw [HE0.out]; exact ⟨p1, p2⟩
   have HE : Q ((zl W (5, 3, sl)).2 = (zz W.hd).2) := by show _ = _; rw [HE0.out]
   clear p1 p2 p3;go_wp2_with fail
   clear r0 r1 r2 r3 r4 r5 q0 q1 q2 q3 q4 q5 x0 x1 x2 x3 x4 x5;generalize (r (r (r (r (r (r w5 ⟨w.heap.size + 2, 0, U⟩ (G la1 nl1 lc1)) ⟨w.heap.size + 2, 1, U⟩ (E J ((zz W.hd).1).boot)) ⟨w.heap.size + 2, 2, U⟩ (E J ((zz W.hd).1).next)) ⟨w.heap.size + 2, 3, U⟩ (G oa1 no1 oc1)) ⟨w.heap.size + 2, 4, U⟩ (G ha nh hc)) ⟨w.heap.size + 2, 5, U⟩ (G na nn nc)) = Z9 at *;refine bodyPost_ret (v := .tuple #[.agg #[G la1 nl1 lc1, E J ((zz W.hd).1).boot, E J ((zz W.hd).1).next, G oa1 no1 oc1, G ha nh hc, G na nn nc], E J ((zz W.hd).2)]) ?_ rfl ⟨_, by rw [HE.out], HF.out.1, HF.out.2⟩;simp [results, Tryz.results34, go_sem, e0, e1, e2, e3, e4, e5]
  ·have g3 : (sn == 3) = false := by rw [beq_eq_false_iff_ne]; exact h3
   by_cases h0 : sn < 0
   ·have g0 := decide_eq_true h0
    have HE0 : Q (zl W (5, sn, sl) = (W, 6)) := by
     show (if sn = 3 then _ else if sn < 0 ∨ (W.hs.length : Int) ≤ sn then (W, (6 : Int)) else (W, 0)) = _
     rw [if_neg h3, if_pos (Or.inl h0)]
    go_upto_region 38 with fail
    obtain ⟨r0, r1, r2, r3, r4, r5⟩ := (HS.out).rb.cells6;obtain ⟨q0, q1, q2, q3, q4, q5⟩ := (HS.out).rb.free6;have l2 := (HS.out).rb.lt;obtain ⟨p1, p2, p3⟩ := (HS.out).ret;obtain ⟨e0, e1, e2, e3, e4, e5⟩ := p3.cells6;have HF : Q (zag R (r (r (r (r (r (r wc ⟨w.heap.size + 2, 0, U⟩ (G la nl lc)) ⟨w.heap.size + 2, 1, U⟩ (E J W.hd.boot)) ⟨w.heap.size + 2, 2, U⟩ (E J W.hd.next)) ⟨w.heap.size + 2, 3, U⟩ (G oa no oc)) ⟨w.heap.size + 2, 4, U⟩ (G ha nh hc)) ⟨w.heap.size + 2, 5, U⟩ (G na nn nc)) (.agg #[G la nl lc, E J W.hd.boot, E J W.hd.next, G oa no oc, G ha nh hc, G na nn nc]) (zl W (5, sn, sl)).1 ∧ Z w.heap.size w (r (r (r (r (r (r wc ⟨w.heap.size + 2, 0, U⟩ (G la nl lc)) ⟨w.heap.size + 2, 1, U⟩ (E J W.hd.boot)) ⟨w.heap.size + 2, 2, U⟩ (E J W.hd.next)) ⟨w.heap.size + 2, 3, U⟩ (G oa no oc)) ⟨w.heap.size + 2, 4, U⟩ (G ha nh hc)) ⟨w.heap.size + 2, 5, U⟩ (G na nn nc))) := by rw [HE0.out]; exact ⟨p1, p2⟩
    have HE : Q ((zl W (5, sn, sl)).2 = 6) := by show _ = _; rw [HE0.out]
    clear p1 p2 p3;go_wp2_with fail
    clear r0 r1 r2 r3 r4 r5 q0 q1 q2 q3 q4 q5 x0 x1 x2 x3 x4 x5;generalize (r (r (r (r (r (r wc ⟨w.heap.size + 2, 0, U⟩ (G la nl lc)) ⟨w.heap.size + 2, 1, U⟩ (E J W.hd.boot)) ⟨w.heap.size + 2, 2, U⟩ (E J W.hd.next)) ⟨w.heap.size + 2, 3, U⟩ (G oa no oc)) ⟨w.heap.size + 2, 4, U⟩ (G ha nh hc)) ⟨w.heap.size + 2, 5, U⟩ (G na nn nc)) = Z9 at *;refine bodyPost_ret (v := .tuple #[.agg #[G la nl lc, E J W.hd.boot, E J W.hd.next, G oa no oc, G ha nh hc, G na nn nc], E J (6)]) ?_ rfl ⟨_, by rw [HE.out], HF.out.1, HF.out.2⟩;simp [results, Tryz.results34, go_sem, e0, e1, e2, e3, e4, e5]
   ·have g0 := decide_eq_false h0
    by_cases h1 : (nh : Int) ≤ sn
    ·have g1 : decide (sn ≥ (nh : Int)) = true := decide_eq_true h1
     have HE0 : Q (zl W (5, sn, sl) = (W, 6)) := by
      show (if sn = 3 then _ else if sn < 0 ∨ (W.hs.length : Int) ≤ sn then (W, (6 : Int)) else (W, 0)) = _
      rw [if_neg h3, if_pos (Or.inr (by have := HN.out.1; omega))]
     go_upto_region 38 with fail
     obtain ⟨r0, r1, r2, r3, r4, r5⟩ := (HS.out).rb.cells6;obtain ⟨q0, q1, q2, q3, q4, q5⟩ := (HS.out).rb.free6;have l2 := (HS.out).rb.lt;obtain ⟨p1, p2, p3⟩ := (HS.out).ret;obtain ⟨e0, e1, e2, e3, e4, e5⟩ := p3.cells6;have HF : Q (zag R (r (r (r (r (r (r wc ⟨w.heap.size + 2, 0, U⟩ (G la nl lc)) ⟨w.heap.size + 2, 1, U⟩ (E J W.hd.boot)) ⟨w.heap.size + 2, 2, U⟩ (E J W.hd.next)) ⟨w.heap.size + 2, 3, U⟩ (G oa no oc)) ⟨w.heap.size + 2, 4, U⟩ (G ha nh hc)) ⟨w.heap.size + 2, 5, U⟩ (G na nn nc)) (.agg #[G la nl lc, E J W.hd.boot, E J W.hd.next, G oa no oc, G ha nh hc, G na nn nc]) (zl W (5, sn, sl)).1 ∧ Z w.heap.size w (r (r (r (r (r (r wc ⟨w.heap.size + 2, 0, U⟩ (G la nl lc)) ⟨w.heap.size + 2, 1, U⟩ (E J W.hd.boot)) ⟨w.heap.size + 2, 2, U⟩ (E J W.hd.next)) ⟨w.heap.size + 2, 3, U⟩ (G oa no oc)) ⟨w.heap.size + 2, 4, U⟩ (G ha nh hc)) ⟨w.heap.size + 2, 5, U⟩ (G na nn nc))) := by rw [HE0.out]; exact ⟨p1, p2⟩
     have HE : Q ((zl W (5, sn, sl)).2 = 6) := by show _ = _; rw [HE0.out]
     clear p1 p2 p3;go_wp2_with fail
     clear r0 r1 r2 r3 r4 r5 q0 q1 q2 q3 q4 q5 x0 x1 x2 x3 x4 x5;generalize (r (r (r (r (r (r wc ⟨w.heap.size + 2, 0, U⟩ (G la nl lc)) ⟨w.heap.size + 2, 1, U⟩ (E J W.hd.boot)) ⟨w.heap.size + 2, 2, U⟩ (E J W.hd.next)) ⟨w.heap.size + 2, 3, U⟩ (G oa no oc)) ⟨w.heap.size + 2, 4, U⟩ (G ha nh hc)) ⟨w.heap.size + 2, 5, U⟩ (G na nn nc)) = Z9 at *;refine bodyPost_ret (v := .tuple #[.agg #[G la nl lc, E J W.hd.boot, E J W.hd.next, G oa no oc, G ha nh hc, G na nn nc], E J (6)]) ?_ rfl ⟨_, by rw [HE.out], HF.out.1, HF.out.2⟩;simp [results, Tryz.results34, go_sem, e0, e1, e2, e3, e4, e5]
    ·have g1 : decide (sn ≥ (nh : Int)) = false := decide_eq_false h1
     have HE0 : Q (zl W (5, sn, sl) = (W, 0)) := by
      show (if sn = 3 then _ else if sn < 0 ∨ (W.hs.length : Int) ≤ sn then (W, (6 : Int)) else (W, 0)) = _
      rw [if_neg h3, if_neg (by have := HN.out.1; omega)]
     go_upto_region 49 with fail
     obtain ⟨r0, r1, r2, r3, r4, r5⟩ := (HS.out).rb.cells6;obtain ⟨q0, q1, q2, q3, q4, q5⟩ := (HS.out).rb.free6;have l2 := (HS.out).rb.lt;obtain ⟨p1, p2, p3⟩ := (HS.out).ret;obtain ⟨e0, e1, e2, e3, e4, e5⟩ := p3.cells6;have HF : Q (zag R (r (r (r (r (r (r wc ⟨w.heap.size + 2, 0, U⟩ (G la nl lc)) ⟨w.heap.size + 2, 1, U⟩ (E J W.hd.boot)) ⟨w.heap.size + 2, 2, U⟩ (E J W.hd.next)) ⟨w.heap.size + 2, 3, U⟩ (G oa no oc)) ⟨w.heap.size + 2, 4, U⟩ (G ha nh hc)) ⟨w.heap.size + 2, 5, U⟩ (G na nn nc)) (.agg #[G la nl lc, E J W.hd.boot, E J W.hd.next, G oa no oc, G ha nh hc, G na nn nc]) (zl W (5, sn, sl)).1 ∧ Z w.heap.size w (r (r (r (r (r (r wc ⟨w.heap.size + 2, 0, U⟩ (G la nl lc)) ⟨w.heap.size + 2, 1, U⟩ (E J W.hd.boot)) ⟨w.heap.size + 2, 2, U⟩ (E J W.hd.next)) ⟨w.heap.size + 2, 3, U⟩ (G oa no oc)) ⟨w.heap.size + 2, 4, U⟩ (G ha nh hc)) ⟨w.heap.size + 2, 5, U⟩ (G na nn nc))) := by rw [HE0.out]; exact ⟨p1, p2⟩
     have HE : Q ((zl W (5, sn, sl)).2 = 0) := by show _ = _; rw [HE0.out]
     clear p1 p2 p3;go_wp2_with fail
     clear r0 r1 r2 r3 r4 r5 q0 q1 q2 q3 q4 q5 x0 x1 x2 x3 x4 x5;generalize (r (r (r (r (r (r wc ⟨w.heap.size + 2, 0, U⟩ (G la nl lc)) ⟨w.heap.size + 2, 1, U⟩ (E J W.hd.boot)) ⟨w.heap.size + 2, 2, U⟩ (E J W.hd.next)) ⟨w.heap.size + 2, 3, U⟩ (G oa no oc)) ⟨w.heap.size + 2, 4, U⟩ (G ha nh hc)) ⟨w.heap.size + 2, 5, U⟩ (G na nn nc)) = Z9 at *;refine bodyPost_ret (v := .tuple #[.agg #[G la nl lc, E J W.hd.boot, E J W.hd.next, G oa no oc, G ha nh hc, G na nn nc], E J (0)]) ?_ rfl ⟨_, by rw [HE.out], HF.out.1, HF.out.2⟩;simp [results, Tryz.results34, go_sem, e0, e1, e2, e3, e4, e5]
end Go.Proofs.YtpcnlifmkhagkaaGreat
