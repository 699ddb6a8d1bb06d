import Derived.Test.YtpcnlifmkhagkaaKAJ31
import Derived.Test.YtpcnlifmkhagkaaKARegK
set_option maxRecDepth 20000
set_option maxHeartbeats 20000000
namespace Go.Proofs.Ytpcnlifmkhagkaa
open Go.RowKit
open Go.Value renaming slice → G, int → E
open Go.IntKind renaming i64 → J
open _root_.Option renaming none → U
open Go.Obj renaming cells → T
open Go.RowKit renaming Hid → Q, Below → Z
open Go.World renaming setCell → r
attribute [local go_sem ↓] Go.wp_at_zero Go.wp_at_succ
theorem zqf (R : Nat → Prop) (v : Value) (W : WW) (n : Nat) (P : Int → List P3) (sn : Int) (sa : Option Addr) (ns sc : Nat) (sl : List P3) (w : World) (hR : ∀ b, R b → b < w.heap.size) (hv : zaf R w v W) (I : Inv n P W) (hL : zb0 100000 W) (hns : ns = sl.length) (hp : zae R w sa sl) (hsl : sl.length ≤ 9223372036854775807) :
  Calls Try.prog 34 #[v, .agg #[E J 5, E J sn, G sa ns sc]] w fun e w' => ∃ v', e = .returned (.tuple #[v', E J (zl W (5, sn, sl)).2]) ∧ zaf R w' v' (zl W (5, sn, sl)).1 ∧ Z w.heap.size w w' := by
 obtain ⟨la, nl, lc, Y, oa, no, oc, X, ha, nh, hc, XHs, na, nn, nc, XNs, rfl, hnc, hF⟩ := hv;have hS0 := DoS.start hF lc oc hc nc hnc (E J 5) (E J sn) (G sa ns sc);have HI := zF I hL hns hp hsl hR;have HN : Q (nh = W.hs.length ∧ nn = W.net.length) := ⟨by rw [hF.hs.n, hF.hs.len], by rw [hF.net.n, ← List.length_map (f := (·.2)), hF.net.says, List.length_map]⟩;have hnn : nn ≤ 24 := by have h1 := HN.out.2; have h2 := I.small; omega
 have hnh : nh ≤ 3 := by have h1 := HN.out.1; have h2 := I.len; have h3 := I.n3; omega
 clear I hL hns hp hsl hR hF hnc;go_enter Try.func34, Try.ntmps34
 go_upto_region 1 with fail
 generalize (((w.alloc (T #[G la nl lc, E J W.hd.boot, E J W.hd.next, G oa no oc, G ha nh hc, G na nn nc] 59)).alloc (T #[E J 5, E J sn, G sa ns sc] 86)).alloc (T #[G U 0 0, E J 0, E J 0, G U 0 0, G U 0 0, G U 0 0] 59)) = V at *;have HS := zA hS0;obtain ⟨x0, x1, x2, x3, x4, x5⟩ := hS0.wb.cells6;obtain ⟨y0, y1, y2⟩ := hS0.sb.cells3;have l0 := hS0.wb.lt;have l1 := hS0.sb.lt;clear hS0;obtain ⟨th, hth⟩ : ∃ th, Q (th = decide (0 ≤ sn ∧ sn < (nn : Int))) := ⟨_, rfl⟩;go_cut [6] (fun tv wx => tv = .bool th ∧ wx = V)
 case first =>
  by_cases h0 : 0 ≤ sn
  ·by_cases h1 : sn < (nn : Int)
   ·have ht : th = true := by rw [hth.out]; simp [h0, h1]
    have g0 : decide (sn ≥ 0) = true := decide_eq_true h0;have g1 := decide_eq_true h1;go_wp2_with fail
    go_meet
    case rel => exact ⟨by rw [ht], rfl⟩
   ·have ht : th = false := by rw [hth.out]; simp [h1]
    have g0 : decide (sn ≥ 0) = true := decide_eq_true h0;have g1 := decide_eq_false h1;go_wp2_with fail
    go_meet
    case rel => exact ⟨by rw [ht], rfl⟩
  ·have ht : th = false := by rw [hth.out]; simp [h0]
   have g0 : decide (sn ≥ 0) = false := decide_eq_false h0;go_wp2_with fail
   go_meet
   case rel => exact ⟨by rw [ht], rfl⟩
 case rest =>
  obtain ⟨rfl, rfl⟩ := hcut;by_cases h3 : sn = 3
  ·subst h3
   go_upto_region 34 with fail
   go_wp2_with fail
   refine (zo1 (RD R w) _ W.hd wc (RD.lt HI.out.2.2.2.2.2 HS.out.sz) HS.out.hv (by have := HI.out.2.1.1; omega)).mono ?_;rintro e w1 ⟨v1, rfl, hv1, hb1⟩;obtain ⟨la1, nl1, lc1, Y1, oa1, no1, oc1, X1, rfl, hF1⟩ := hv1;have H1 : Q (DoS R w (E J 5) (E J 3) (G sa ns sc) w1 la nl lc oa no oc ha nh hc na nn nc W ∧ zy (RD R w) w1 (.agg #[G la1 nl1 lc1, E J ((zah W.hd).1).boot, E J ((zah W.hd).1).next, G oa1 no1 oc1]) ((zah W.hd).1)) := ⟨HS.out.below hb1, ⟨la1, nl1, lc1, Y1, oa1, no1, oc1, X1, rfl, hF1⟩⟩;clear hb1 hF1;clear x0 x1 x2 x3 x4 x5 y0 y1 y2 l0 l1;go_upto_region 35 with fail
   have hbA := zi w1 (T #[G la1 nl1 lc1, E J ((zah W.hd).1).boot, E J ((zah W.hd).1).next, G oa1 no1 oc1] 29);have HA : Q (DoS R w (E J 5) (E J 3) (G sa ns sc) (w1.alloc (T #[G la1 nl1 lc1, E J ((zah W.hd).1).boot, E J ((zah W.hd).1).next, G oa1 no1 oc1] 29)) la nl lc oa no oc ha nh hc na nn nc W ∧ Blk (w1.alloc (T #[G la1 nl1 lc1, E J ((zah W.hd).1).boot, E J ((zah W.hd).1).next, G oa1 no1 oc1] 29)) w1.heap.size #[G la1 nl1 lc1, E J ((zah W.hd).1).boot, E J ((zah W.hd).1).next, G oa1 no1 oc1] 29 ∧ zy (RD R w) (w1.alloc (T #[G la1 nl1 lc1, E J ((zah W.hd).1).boot, E J ((zah W.hd).1).next, G oa1 no1 oc1] 29)) (.agg #[G la1 nl1 lc1, E J ((zah W.hd).1).boot, E J ((zah W.hd).1).next, G oa1 no1 oc1]) ((zah W.hd).1)) := ⟨H1.out.1.below hbA, Blk.new _ _ _, H1.out.2.below hbA⟩;clear hbA H1;generalize w1.alloc (T #[G la1 nl1 lc1, E J ((zah W.hd).1).boot, E J ((zah W.hd).1).next, G oa1 no1 oc1] 29) = A at *;have hw2 := HA.out.1.wb;have hk5 : zg (fun b => b = w.heap.size) A (r (r (r (r A ⟨w.heap.size, 0, U⟩ (G la1 nl1 lc1)) ⟨w.heap.size, 1, U⟩ (E J ((zah W.hd).1).boot)) ⟨w.heap.size, 2, U⟩ (E J ((zah W.hd).1).next)) ⟨w.heap.size, 3, U⟩ (G oa1 no1 oc1)) := zg.setCells (R := fun b => b = w.heap.size) rfl [G la1 nl1 lc1, E J ((zah W.hd).1).boot, E J ((zah W.hd).1).next, G oa1 no1 oc1] 0 A (zg.refl _ _);have H5 : Q (DoS R w (E J 5) (E J 3) (G sa ns sc) (r (r (r (r A ⟨w.heap.size, 0, U⟩ (G la1 nl1 lc1)) ⟨w.heap.size, 1, U⟩ (E J ((zah W.hd).1).boot)) ⟨w.heap.size, 2, U⟩ (E J ((zah W.hd).1).next)) ⟨w.heap.size, 3, U⟩ (G oa1 no1 oc1)) la1 nl1 lc1 oa1 no1 oc1 ha nh hc na nn nc { W with hd := (zah W.hd).1 }) := HA.out.1.put hk5 ((((hw2.set 0 _).set 1 _).set 2 _).set 3 _) HA.out.2.2 HA.out.1.hs HA.out.1.net HA.out.1.cap
   obtain ⟨u0, u1, u2, u3, u4, u5⟩ := hw2.cells6;obtain ⟨f0, f1, f2, f3, f4, f5⟩ := hw2.free6;obtain ⟨d0, d1, d2, d3⟩ := HA.out.2.1.cells4;have l3 := hw2.lt;have l4 := HA.out.2.1.lt;go_upto_region 36 with fail
   clear hk5 hw2 u0 u1 u2 u3 u4 u5 f0 f1 f2 f3 f4 f5 d0 d1 d2 d3 l3 l4;generalize (r (r (r (r A ⟨w.heap.size, 0, U⟩ (G la1 nl1 lc1)) ⟨w.heap.size, 1, U⟩ (E J ((zah W.hd).1).boot)) ⟨w.heap.size, 2, U⟩ (E J ((zah W.hd).1).next)) ⟨w.heap.size, 3, U⟩ (G oa1 no1 oc1)) = w5 at *;have HE0 : Q (zl W (5, 3, sl) = ({ W with hd := (zah W.hd).1 }, (zah W.hd).2)) := rfl;obtain ⟨x0, x1, x2, x3, x4, x5⟩ := (H5.out).wb.cells6;have l0' := (H5.out).wb.lt;obtain ⟨r0, r1, r2, r3, r4, r5⟩ := (H5.out).rb.cells6;obtain ⟨q0, q1, q2, q3, q4, q5⟩ := (H5.out).rb.free6;have l2 := (H5.out).rb.lt;obtain ⟨p1, p2, p3⟩ := (H5.out).ret;obtain ⟨e0, e1, e2, e3, e4, e5⟩ := p3.cells6;have HF : Q (zaf R (r (r (r (r (r (r w5 ⟨w.heap.size + 2, 0, U⟩ (G la1 nl1 lc1)) ⟨w.heap.size + 2, 1, U⟩ (E J ((zah W.hd).1).boot)) ⟨w.heap.size + 2, 2, U⟩ (E J ((zah W.hd).1).next)) ⟨w.heap.size + 2, 3, U⟩ (G oa1 no1 oc1)) ⟨w.heap.size + 2, 4, U⟩ (G ha nh hc)) ⟨w.heap.size + 2, 5, U⟩ (G na nn nc)) (.agg #[G la1 nl1 lc1, E J ((zah W.hd).1).boot, E J ((zah W.hd).1).next, G oa1 no1 oc1, G ha nh hc, G na nn nc]) (zl W (5, 3, sl)).1 ∧ Z w.heap.size w (r (r (r (r (r (r w5 ⟨w.heap.size + 2, 0, U⟩ (G la1 nl1 lc1)) ⟨w.heap.size + 2, 1, U⟩ (E J ((zah W.hd).1).boot)) ⟨w.heap.size + 2, 2, U⟩ (E J ((zah W.hd).1).next)) ⟨w.heap.size + 2, 3, U⟩ (G oa1 no1 oc1)) ⟨w.heap.size + 2, 4, U⟩ (G ha nh hc)) ⟨w.heap.size + 2, 5, U⟩ (G na nn nc))) := by rw [HE0.out]; exact ⟨p1, p2⟩
   have HE : Q ((zl W (5, 3, sl)).2 = (zah W.hd).2) := by show _ = _; rw [HE0.out]
   clear p1 p2 p3;go_wp2_with fail
   clear r0 r1 r2 r3 r4 r5 q0 q1 q2 q3 q4 q5 x0 x1 x2 x3 x4 x5;generalize (r (r (r (r (r (r w5 ⟨w.heap.size + 2, 0, U⟩ (G la1 nl1 lc1)) ⟨w.heap.size + 2, 1, U⟩ (E J ((zah W.hd).1).boot)) ⟨w.heap.size + 2, 2, U⟩ (E J ((zah W.hd).1).next)) ⟨w.heap.size + 2, 3, U⟩ (G oa1 no1 oc1)) ⟨w.heap.size + 2, 4, U⟩ (G ha nh hc)) ⟨w.heap.size + 2, 5, U⟩ (G na nn nc)) = Z9 at *;refine bodyPost_ret (v := .tuple #[.agg #[G la1 nl1 lc1, E J ((zah W.hd).1).boot, E J ((zah W.hd).1).next, G oa1 no1 oc1, G ha nh hc, G na nn nc], E J ((zah W.hd).2)]) ?_ rfl ⟨_, by rw [HE.out], HF.out.1, HF.out.2⟩;simp [results, Try.results34, go_sem, e0, e1, e2, e3, e4, e5]
  ·have g3 : (sn == 3) = false := by rw [beq_eq_false_iff_ne]; exact h3
   by_cases h0 : sn < 0
   ·have g0 := decide_eq_true h0
    have HE0 : Q (zl W (5, sn, sl) = (W, 6)) := by
     show (if sn = 3 then _ else if sn < 0 ∨ (W.hs.length : Int) ≤ sn then (W, (6 : Int)) else (W, 0)) = _
     rw [if_neg h3, if_pos (Or.inl h0)]
    go_upto_region 38 with fail
    obtain ⟨r0, r1, r2, r3, r4, r5⟩ := (HS.out).rb.cells6;obtain ⟨q0, q1, q2, q3, q4, q5⟩ := (HS.out).rb.free6;have l2 := (HS.out).rb.lt;obtain ⟨p1, p2, p3⟩ := (HS.out).ret;obtain ⟨e0, e1, e2, e3, e4, e5⟩ := p3.cells6;have HF : Q (zaf R (r (r (r (r (r (r wc ⟨w.heap.size + 2, 0, U⟩ (G la nl lc)) ⟨w.heap.size + 2, 1, U⟩ (E J W.hd.boot)) ⟨w.heap.size + 2, 2, U⟩ (E J W.hd.next)) ⟨w.heap.size + 2, 3, U⟩ (G oa no oc)) ⟨w.heap.size + 2, 4, U⟩ (G ha nh hc)) ⟨w.heap.size + 2, 5, U⟩ (G na nn nc)) (.agg #[G la nl lc, E J W.hd.boot, E J W.hd.next, G oa no oc, G ha nh hc, G na nn nc]) (zl W (5, sn, sl)).1 ∧ Z w.heap.size w (r (r (r (r (r (r wc ⟨w.heap.size + 2, 0, U⟩ (G la nl lc)) ⟨w.heap.size + 2, 1, U⟩ (E J W.hd.boot)) ⟨w.heap.size + 2, 2, U⟩ (E J W.hd.next)) ⟨w.heap.size + 2, 3, U⟩ (G oa no oc)) ⟨w.heap.size + 2, 4, U⟩ (G ha nh hc)) ⟨w.heap.size + 2, 5, U⟩ (G na nn nc))) := by rw [HE0.out]; exact ⟨p1, p2⟩
    have HE : Q ((zl W (5, sn, sl)).2 = 6) := by show _ = _; rw [HE0.out]
    clear p1 p2 p3;go_wp2_with fail
    clear r0 r1 r2 r3 r4 r5 q0 q1 q2 q3 q4 q5 x0 x1 x2 x3 x4 x5;generalize (r (r (r (r (r (r wc ⟨w.heap.size + 2, 0, U⟩ (G la nl lc)) ⟨w.heap.size + 2, 1, U⟩ (E J W.hd.boot)) ⟨w.heap.size + 2, 2, U⟩ (E J W.hd.next)) ⟨w.heap.size + 2, 3, U⟩ (G oa no oc)) ⟨w.heap.size + 2, 4, U⟩ (G ha nh hc)) ⟨w.heap.size + 2, 5, U⟩ (G na nn nc)) = Z9 at *;refine bodyPost_ret (v := .tuple #[.agg #[G la nl lc, E J W.hd.boot, E J W.hd.next, G oa no oc, G ha nh hc, G na nn nc], E J (6)]) ?_ rfl ⟨_, by rw [HE.out], HF.out.1, HF.out.2⟩;simp [results, Try.results34, go_sem, e0, e1, e2, e3, e4, e5]
   ·have g0 := decide_eq_false h0
    by_cases h1 : (nh : Int) ≤ sn
    ·have g1 : decide (sn ≥ (nh : Int)) = true := decide_eq_true h1
     have HE0 : Q (zl W (5, sn, sl) = (W, 6)) := by
      show (if sn = 3 then _ else if sn < 0 ∨ (W.hs.length : Int) ≤ sn then (W, (6 : Int)) else (W, 0)) = _
      rw [if_neg h3, if_pos (Or.inr (by have := HN.out.1; omega))]
     go_upto_region 38 with fail
     obtain ⟨r0, r1, r2, r3, r4, r5⟩ := (HS.out).rb.cells6;obtain ⟨q0, q1, q2, q3, q4, q5⟩ := (HS.out).rb.free6;have l2 := (HS.out).rb.lt;obtain ⟨p1, p2, p3⟩ := (HS.out).ret;obtain ⟨e0, e1, e2, e3, e4, e5⟩ := p3.cells6;have HF : Q (zaf R (r (r (r (r (r (r wc ⟨w.heap.size + 2, 0, U⟩ (G la nl lc)) ⟨w.heap.size + 2, 1, U⟩ (E J W.hd.boot)) ⟨w.heap.size + 2, 2, U⟩ (E J W.hd.next)) ⟨w.heap.size + 2, 3, U⟩ (G oa no oc)) ⟨w.heap.size + 2, 4, U⟩ (G ha nh hc)) ⟨w.heap.size + 2, 5, U⟩ (G na nn nc)) (.agg #[G la nl lc, E J W.hd.boot, E J W.hd.next, G oa no oc, G ha nh hc, G na nn nc]) (zl W (5, sn, sl)).1 ∧ Z w.heap.size w (r (r (r (r (r (r wc ⟨w.heap.size + 2, 0, U⟩ (G la nl lc)) ⟨w.heap.size + 2, 1, U⟩ (E J W.hd.boot)) ⟨w.heap.size + 2, 2, U⟩ (E J W.hd.next)) ⟨w.heap.size + 2, 3, U⟩ (G oa no oc)) ⟨w.heap.size + 2, 4, U⟩ (G ha nh hc)) ⟨w.heap.size + 2, 5, U⟩ (G na nn nc))) := by rw [HE0.out]; exact ⟨p1, p2⟩
     have HE : Q ((zl W (5, sn, sl)).2 = 6) := by show _ = _; rw [HE0.out]
     clear p1 p2 p3;go_wp2_with fail
     clear r0 r1 r2 r3 r4 r5 q0 q1 q2 q3 q4 q5 x0 x1 x2 x3 x4 x5;generalize (r (r (r (r (r (r wc ⟨w.heap.size + 2, 0, U⟩ (G la nl lc)) ⟨w.heap.size + 2, 1, U⟩ (E J W.hd.boot)) ⟨w.heap.size + 2, 2, U⟩ (E J W.hd.next)) ⟨w.heap.size + 2, 3, U⟩ (G oa no oc)) ⟨w.heap.size + 2, 4, U⟩ (G ha nh hc)) ⟨w.heap.size + 2, 5, U⟩ (G na nn nc)) = Z9 at *;refine bodyPost_ret (v := .tuple #[.agg #[G la nl lc, E J W.hd.boot, E J W.hd.next, G oa no oc, G ha nh hc, G na nn nc], E J (6)]) ?_ rfl ⟨_, by rw [HE.out], HF.out.1, HF.out.2⟩;simp [results, Try.results34, go_sem, e0, e1, e2, e3, e4, e5]
    ·have g1 : decide (sn ≥ (nh : Int)) = false := decide_eq_false h1
     have HE0 : Q (zl W (5, sn, sl) = (W, 0)) := by
      show (if sn = 3 then _ else if sn < 0 ∨ (W.hs.length : Int) ≤ sn then (W, (6 : Int)) else (W, 0)) = _
      rw [if_neg h3, if_neg (by have := HN.out.1; omega)]
     go_upto_region 49 with fail
     obtain ⟨r0, r1, r2, r3, r4, r5⟩ := (HS.out).rb.cells6;obtain ⟨q0, q1, q2, q3, q4, q5⟩ := (HS.out).rb.free6;have l2 := (HS.out).rb.lt;obtain ⟨p1, p2, p3⟩ := (HS.out).ret;obtain ⟨e0, e1, e2, e3, e4, e5⟩ := p3.cells6;have HF : Q (zaf R (r (r (r (r (r (r wc ⟨w.heap.size + 2, 0, U⟩ (G la nl lc)) ⟨w.heap.size + 2, 1, U⟩ (E J W.hd.boot)) ⟨w.heap.size + 2, 2, U⟩ (E J W.hd.next)) ⟨w.heap.size + 2, 3, U⟩ (G oa no oc)) ⟨w.heap.size + 2, 4, U⟩ (G ha nh hc)) ⟨w.heap.size + 2, 5, U⟩ (G na nn nc)) (.agg #[G la nl lc, E J W.hd.boot, E J W.hd.next, G oa no oc, G ha nh hc, G na nn nc]) (zl W (5, sn, sl)).1 ∧ Z w.heap.size w (r (r (r (r (r (r wc ⟨w.heap.size + 2, 0, U⟩ (G la nl lc)) ⟨w.heap.size + 2, 1, U⟩ (E J W.hd.boot)) ⟨w.heap.size + 2, 2, U⟩ (E J W.hd.next)) ⟨w.heap.size + 2, 3, U⟩ (G oa no oc)) ⟨w.heap.size + 2, 4, U⟩ (G ha nh hc)) ⟨w.heap.size + 2, 5, U⟩ (G na nn nc))) := by rw [HE0.out]; exact ⟨p1, p2⟩
     have HE : Q ((zl W (5, sn, sl)).2 = 0) := by show _ = _; rw [HE0.out]
     clear p1 p2 p3;go_wp2_with fail
     clear r0 r1 r2 r3 r4 r5 q0 q1 q2 q3 q4 q5 x0 x1 x2 x3 x4 x5;generalize (r (r (r (r (r (r wc ⟨w.heap.size + 2, 0, U⟩ (G la nl lc)) ⟨w.heap.size + 2, 1, U⟩ (E J W.hd.boot)) ⟨w.heap.size + 2, 2, U⟩ (E J W.hd.next)) ⟨w.heap.size + 2, 3, U⟩ (G oa no oc)) ⟨w.heap.size + 2, 4, U⟩ (G ha nh hc)) ⟨w.heap.size + 2, 5, U⟩ (G na nn nc)) = Z9 at *;refine bodyPost_ret (v := .tuple #[.agg #[G la nl lc, E J W.hd.boot, E J W.hd.next, G oa no oc, G ha nh hc, G na nn nc], E J (0)]) ?_ rfl ⟨_, by rw [HE.out], HF.out.1, HF.out.2⟩;simp [results, Try.results34, go_sem, e0, e1, e2, e3, e4, e5]
theorem zov (la ra da : Option Addr) (nl lc nr rc nd dc : Nat) (s0 s1 s2 s3 me : Int) (XR : List XD) (D : List D2) (w : World) (h : ze9 w ra nr XR D) (hl : XR.length ≤ 2900000000000) :
  Calls Try.prog 53 #[.agg #[G la nl lc, E J s0, E J s1, E J s2, E J s3, G ra nr rc, G da nd dc], E J me] w fun e w' => ∃ a' n' c', e = .returned (G a' n' c') ∧ zd 43 4 zb4 w' w.heap.size (G a' n' c') (D.map fun x => (7, x.1, me, (U, 0), [])) ∧ Z w.heap.size w w' := by
 have HN := zB h hl;have hnl : nr ≤ 2900000000000 := by have := h.n; omega
 clear h hl;go_enter Try.func53, Try.ntmps53
 go_wp2;have hb0 := zi w (T #[G la nl lc, E J s0, E J s1, E J s2, E J s3, G ra nr rc, G da nd dc] 100);generalize w.alloc (T #[G la nl lc, E J s0, E J s1, E J s2, E J s3, G ra nr rc, G da nd dc] 100) = W at *;go_loopw [5, 11] (fun v i w' => ∃ (k : Nat), k ≤ nr ∧ i = E J k ∧ Q (zd 43 4 zb4 w' w.heap.size v ((D.take k).map fun x => (7, x.1, me, (none, 0), []))) ∧ Z w.heap.size w w') (fun _ i _ => nr - (intOf i).toNat)
 case atStart => exact ⟨0, Nat.zero_le _, rfl, zd.nil _ _, hb0⟩
 case round =>
  obtain ⟨k, hk, rfl, hO, hbw⟩ := hrel;have hsz := hbw.size;by_cases hlt : k < nr
  ·have hkX : k < XR.length := by have := HN.out.1.n; omega
   have hkD : k < D.length := by rw [← HN.out.1.says, List.length_map]; exact hkX
   have HE : Q ((D.take (k + 1)).map (fun x => ((7 : Int), x.1, me, ((none, 0) : Hd), ([] : List P3))) = (D.take k).map (fun x => (7, x.1, me, (none, 0), [])) ++ [(7, XR[k].1, me, (none, 0), [])] ∧ ((D.take k).map (fun x => ((7 : Int), x.1, me, ((U, 0) : Hd), ([] : List P3)))).length = k) := by
    refine ⟨?_, by simp; omega⟩;rw [zax hkD, List.map_append];have : D = XR.map zba := HN.out.1.says.symm;subst this;simp [zba]
   obtain ⟨g, o, rfl, hg, d0, d1, hq⟩ := (HN.out.1.lies.below hbw).get hkX
   obtain ⟨av, nv, cv, rfl⟩ : ∃ a n c, u5 = G a n c := by
    obtain ⟨a, c, hv, _⟩ := hO.out.row zbw;exact ⟨a, _, c, hv⟩
   clear hq;generalize XR[k] = x at *;obtain ⟨dd, ⟨ax, cx⟩, l⟩ := x;simp only at d0 d1 HE
   generalize l.length = n2 at *;generalize (D.take k).map (fun x => ((7 : Int), x.1, me, ((U, 0) : Hd), ([] : List P3))) = jz at *;have hZl := HE.out.2;have HO2 := (hO.out.below (zi wr (T #[E J dd, G ax n2 cx] 70)) (Nat.le_refl _)).below (zi (wr.alloc (T #[E J dd, G ax n2 cx] 70)) (T #[E J 7, E J dd, E J me, G U 0 0] 43)) (Nat.le_refl _);have HO3 := zA HO2;have hbn := hbw.trans ((za2 wr (T #[E J dd, G ax n2 cx] 70) (T #[E J 7, E J dd, E J me, G U 0 0] 43)).mono hsz);clear HO2;go_wp2_with (at_builtin; refine zbj zbw oneM Try.underlying24 zfm rfl (by decide) _ rfl _ _ rfl w.heap.size _ jz rfl HO3.out (some ⟨wr.heap.size + 1, 0, U⟩) 1 1 [(7, dd, me, (U, 0), [])] rfl rfl (zk.one (zaq wr _ _) rfl) (by unfold maxLen; simp; omega) (by simp; omega) (by simp; omega) ?_; intro a4 n4 c4 w4 jv hn4 jy jQ; clear hn4)
   have HF : Q (zd 43 4 zb4 w4 w.heap.size (G a4 n4 c4) ((D.take (k + 1)).map fun x => (7, x.1, me, (U, 0), []))) := by
    show zd _ _ _ _ _ _ _
    rw [HE.out.1];exact jv
   have hB4 := hbn.grown jy hbn.size HO3.out.base;clear jv jy jQ HO3 hbn d0 d1;go_wp2;go_roundw
   case rel => exact ⟨k + 1, by omega, by go_num, HF, hB4⟩
   case measure => simp [intOf]; omega
  ·have HF : Q (zd 43 4 zb4 wr w.heap.size u5 (D.map fun x => (7, x.1, me, (U, 0), []))) := by
    have := hO.out;rwa [List.take_of_length_le (by have h1 := HN.out.1.n; rw [← HN.out.1.says, List.length_map]; omega)] at this
   obtain ⟨av, nv, cv, rfl⟩ : ∃ a n c, u5 = G a n c := by
    obtain ⟨a, c, hv, _⟩ := HF.out.row zbw;exact ⟨a, _, c, hv⟩
   clear hO;go_wp2;go_ret;exact ⟨av, nv, cv, rfl, HF.out, hbw⟩
end Go.Proofs.Ytpcnlifmkhagkaa
