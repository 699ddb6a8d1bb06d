import Derived.Test.YtpcnlifmkhagkaaGreatKFJ28
set_option maxRecDepth 20000
set_option maxHeartbeats 20000000
namespace Go.Proofs.YtpcnlifmkhagkaaGreat
open Go.RowKit
open Go.Value renaming slice → G, int → E
open Go.IntKind renaming i64 → J
open _root_.Option renaming none → U
open Go.Obj renaming cells → T
open Go.RowKit renaming Hid → Q, Below → Z
open Go.World renaming setCell → r
attribute [local go_sem ↓] Go.wp_at_zero Go.wp_at_succ
theorem zqf (R : Nat → Prop) (v : Value) (W : WW) (n : Nat) (P : Int → List P3) (sk sn : Int) (hk : ¬ (1 ≤ sk ∧ sk ≤ 7)) (sa : Option Addr) (ns sc : Nat) (sl : List P3) (w : World) (hR : ∀ b, R b → b < w.heap.size) (hv : zag R w v W) (I : Inv n P W) (hL : zb0 100000 W) (hns : ns = sl.length) (hp : zaf R w sa sl) (hsl : sl.length ≤ 9223372036854775807) :
  Calls Tryz.prog 34 #[v, .agg #[E J sk, E J sn, G sa ns sc]] w fun e w' => ∃ v', e = .returned (.tuple #[v', E J (zl W (sk, sn, sl)).2]) ∧ zag R w' v' (zl W (sk, sn, sl)).1 ∧ Z w.heap.size w w' := by
 have HE0 : Q (zl W (sk, sn, sl) = (W, 1)) := by
  show _ = _
  unfold zl
  simp only
  rw [if_neg (by omega), if_neg (by omega), if_neg (by omega), if_neg (by omega), if_neg (by omega)]
 obtain ⟨la, nl, lc, Y, oa, no, oc, X, ha, nh, hc, XHs, na, nn, nc, XNs, rfl, hnc, hF⟩ := hv;have hS0 := DoS.start hF lc oc hc nc hnc (E J sk) (E J sn) (G sa ns sc);have HI := zF I hL hns hp hsl hR;have HN : Q (nh = W.hs.length ∧ nn = W.net.length) := ⟨by rw [hF.hs.n, hF.hs.len], by rw [hF.net.n, ← List.length_map (f := (·.2)), hF.net.says, List.length_map]⟩;have hnn : nn ≤ 24 := by have h1 := HN.out.2; have h2 := I.small; omega
 have hnh : nh ≤ 3 := by have h1 := HN.out.1; have h2 := I.len; have h3 := I.n3; omega
 clear I hL hns hp hsl hR hF hnc;go_enter Tryz.func34, Tryz.ntmps34
 go_upto_region 1 with fail
 generalize (((w.alloc (T #[G la nl lc, E J W.hd.boot, E J W.hd.next, G oa no oc, G ha nh hc, G na nn nc] 65)).alloc (T #[E J sk, E J sn, G sa ns sc] 61)).alloc (T #[G U 0 0, E J 0, E J 0, G U 0 0, G U 0 0, G U 0 0] 65)) = V at *;have HS := zA hS0;obtain ⟨x0, x1, x2, x3, x4, x5⟩ := hS0.wb.cells6;obtain ⟨y0, y1, y2⟩ := hS0.sb.cells3;have l0 := hS0.wb.lt;have l1 := hS0.sb.lt;clear hS0;obtain ⟨th, hth⟩ : ∃ th, Q (th = decide (0 ≤ sn ∧ sn < (nn : Int))) := ⟨_, rfl⟩;go_cut [6] (fun tv wx => tv = .bool th ∧ wx = V)
 case first =>
  by_cases h0 : 0 ≤ sn
  ·by_cases h1 : sn < (nn : Int)
   ·have ht : th = true := by rw [hth.out]; simp [h0, h1]
    have g0 : decide (sn ≥ 0) = true := decide_eq_true h0;have g1 := decide_eq_true h1;go_wp2_with fail
    go_meet
    case rel => exact ⟨by rw [ht], rfl⟩
   ·have ht : th = false := by rw [hth.out]; simp [h1]
    have g0 : decide (sn ≥ 0) = true := decide_eq_true h0;have g1 := decide_eq_false h1;go_wp2_with fail
    go_meet
    case rel => exact ⟨by rw [ht], rfl⟩
  ·have ht : th = false := by rw [hth.out]; simp [h0]
   have g0 : decide (sn ≥ 0) = false := decide_eq_false h0;go_wp2_with fail
   go_meet
   case rel => exact ⟨by rw [ht], rfl⟩
 case rest =>
  obtain ⟨rfl, rfl⟩ := hcut;have g1 : (sk == 1) = false := by rw [beq_eq_false_iff_ne]; omega
  have g2 : (sk == 2) = false := by rw [beq_eq_false_iff_ne]; omega
  have g3 : (sk == 3) = false := by rw [beq_eq_false_iff_ne]; omega
  have g4 : (sk == 4) = false := by rw [beq_eq_false_iff_ne]; omega
  have g5 : (sk == 5) = false := by rw [beq_eq_false_iff_ne]; omega
  have g6 : (sk == 6) = false := by rw [beq_eq_false_iff_ne]; omega
  have g7 : (sk == 7) = false := by rw [beq_eq_false_iff_ne]; omega
  go_upto_region 3 with fail
  clear g1 g2 g3 g4 g5 g6 g7;obtain ⟨r0, r1, r2, r3, r4, r5⟩ := (HS.out).rb.cells6;obtain ⟨q0, q1, q2, q3, q4, q5⟩ := (HS.out).rb.free6;have l2 := (HS.out).rb.lt;obtain ⟨p1, p2, p3⟩ := (HS.out).ret;obtain ⟨e0, e1, e2, e3, e4, e5⟩ := p3.cells6;have HF : Q (zag R (r (r (r (r (r (r wc ⟨w.heap.size + 2, 0, U⟩ (G la nl lc)) ⟨w.heap.size + 2, 1, U⟩ (E J W.hd.boot)) ⟨w.heap.size + 2, 2, U⟩ (E J W.hd.next)) ⟨w.heap.size + 2, 3, U⟩ (G oa no oc)) ⟨w.heap.size + 2, 4, U⟩ (G ha nh hc)) ⟨w.heap.size + 2, 5, U⟩ (G na nn nc)) (.agg #[G la nl lc, E J W.hd.boot, E J W.hd.next, G oa no oc, G ha nh hc, G na nn nc]) (zl W (sk, sn, sl)).1 ∧ Z w.heap.size w (r (r (r (r (r (r wc ⟨w.heap.size + 2, 0, U⟩ (G la nl lc)) ⟨w.heap.size + 2, 1, U⟩ (E J W.hd.boot)) ⟨w.heap.size + 2, 2, U⟩ (E J W.hd.next)) ⟨w.heap.size + 2, 3, U⟩ (G oa no oc)) ⟨w.heap.size + 2, 4, U⟩ (G ha nh hc)) ⟨w.heap.size + 2, 5, U⟩ (G na nn nc))) := by rw [HE0.out]; exact ⟨p1, p2⟩
  have HE : Q ((zl W (sk, sn, sl)).2 = 1) := by show _ = _; rw [HE0.out]
  clear p1 p2 p3;go_wp2_with fail
  clear r0 r1 r2 r3 r4 r5 q0 q1 q2 q3 q4 q5 x0 x1 x2 x3 x4 x5;generalize (r (r (r (r (r (r wc ⟨w.heap.size + 2, 0, U⟩ (G la nl lc)) ⟨w.heap.size + 2, 1, U⟩ (E J W.hd.boot)) ⟨w.heap.size + 2, 2, U⟩ (E J W.hd.next)) ⟨w.heap.size + 2, 3, U⟩ (G oa no oc)) ⟨w.heap.size + 2, 4, U⟩ (G ha nh hc)) ⟨w.heap.size + 2, 5, U⟩ (G na nn nc)) = Z9 at *;refine bodyPost_ret (v := .tuple #[.agg #[G la nl lc, E J W.hd.boot, E J W.hd.next, G oa no oc, G ha nh hc, G na nn nc], E J (1)]) ?_ rfl ⟨_, by rw [HE.out], HF.out.1, HF.out.2⟩;simp [results, Tryz.results34, go_sem, e0, e1, e2, e3, e4, e5]
end Go.Proofs.YtpcnlifmkhagkaaGreat
