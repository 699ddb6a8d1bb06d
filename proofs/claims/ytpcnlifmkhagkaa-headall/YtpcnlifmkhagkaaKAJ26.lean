import Derived.Test.YtpcnlifmkhagkaaKAJ21
set_option maxRecDepth 20000
set_option maxHeartbeats 20000000
namespace Go.Proofs.Ytpcnlifmkhagkaa
open Go.RowKit
open Go.Value renaming slice → G, int → E
open Go.IntKind renaming i64 → J
open _root_.Option renaming none → U
open Go.Obj renaming cells → T
open Go.RowKit renaming Hid → Q, Below → Z
open Go.World renaming setCell → r
open _root_.Nat renaming le_refl → kaa
attribute [local go_sem ↓] Go.wp_at_zero Go.wp_at_succ
theorem znq (la oa : Option Addr) (nl lc no oc : Nat) (bt nx : Int) (X : List XO) (O : List O4) (w : World) (h : zfz w oa no X O) (hf : zcd O) (hr : ∀ o ∈ O, zcb o.2.1) :
  Calls Try.prog 14 #[.agg #[G la nl lc, E J bt, E J nx, G oa no oc]] w fun e w' => ∃ v', e = .returned v' ∧ zm w' w.heap.size v' (O.flatMap za6) ∧ Z w.heap.size w w' := by
 have HN : Q (zfz w oa no X O ∧ zcd O ∧ X.length = O.length) := ⟨h, hf, by rw [← h.says, List.length_map]⟩;have hnl : no ≤ 100000 := by have h1 := h.n; have h2 := hf.1; have h3 := HN.out.2.2; omega
 have HRR := zA hr;clear h hf hr;have hb0 := zi w (T #[G la nl lc, E J bt, E J nx, G oa no oc] 29);go_enter Try.func14, Try.ntmps14
 go_wp2;generalize w.alloc (T #[G la nl lc, E J bt, E J nx, G oa no oc] 29) = W at *;go_loopw [3, 9] (fun v i w' => ∃ k : Nat, k ≤ no ∧ i = E J k ∧ Q (zm w' w.heap.size v ((O.take k).flatMap za6) ∧ Z w.heap.size w w')) (fun _ i _ => no - (intOf i).toNat)
 case atStart => exact ⟨0, Nat.zero_le _, rfl, zm.nil _ _, hb0⟩
 case round =>
  obtain ⟨k, hk, rfl, hR⟩ := hrel;by_cases hlt : k < no
  ·have hkX : k < X.length := by have := HN.out.1.n; omega
   have hkO : k < O.length := by have := HN.out.2.2; omega
   obtain ⟨hM, hbw⟩ := hR.out;have HE : Q ((O.take (k + 1)).flatMap za6 = (O.take k).flatMap za6 ++ za6 O[k]) := zkv hkO;have hml : ((O.take k).flatMap za6).length ≤ 300000 := by have h1 := zf6 zf8 (O.take k); rw [List.length_take] at h1; omega
   have hsz := hbw.size;generalize (O.take k).flatMap za6 = ms at *;obtain ⟨jz, hZl, hO, hZ, hT⟩ := hM.len;obtain ⟨av, nv, cv, rfl⟩ := hO.slice zbw;obtain ⟨g, o, rfl, hg, d0, d1, d2, d3, hq⟩ := (HN.out.1.lies.below hbw).get hkX
   have hOk : O[k] = zz X[k] := by
    have : O = X.map zz := HN.out.1.says.symm;subst this;rw [List.getElem_map]
   have hfk := HN.out.2.1.2 O[k] (List.getElem_mem hkO);have hrk := HRR.out O[k] (List.getElem_mem hkO);rw [hOk] at hfk HE hrk;generalize X[k] = x at *;obtain ⟨dd, ⟨⟨pa, pc⟩, l⟩, dec, ⟨ha, hc⟩, hd⟩ := x;simp only [zz] at d0 d1 d2 d3 hq hfk HE hrk
   have HRK := zA hrk;clear hrk;have HW : Q (zd 43 4 zb4 wr w.heap.size (G av nv cv) jz ∧ jz.map zc6 = ms ∧ (∀ x ∈ jz, zam w.heap.size wr x.2.2.2.1.1 x.2.2.2.2) ∧ Z w.heap.size w wr ∧ zal wr pa l ∧ zk 1 zv wr ha hd ∧ l.length ≤ 4 ∧ hd.length ≤ 100000) := ⟨hO, hZ, hT, hbw, hq.1, hq.2, hfk.1, hfk.2⟩;have HLL : ∃ ln hn, Q (l.length = ln ∧ hd.length = hn) := ⟨_, _, rfl, rfl⟩;obtain ⟨ln, hn, HLL⟩ := HLL;rw [HLL.out.1] at d1;rw [HLL.out.2] at d3;have hZ3 : jz.length ≤ 300000 := by omega
   clear hR hM hO hZ hT hbw hq hfk hOk hkO hkX hml hZl;go_wp2_with fail
   have hbA := zi wr (T #[E J dd, G pa ln pc, .bool dec, G ha hn hc] 38);have hsA : (wr.alloc (T #[E J dd, G pa ln pc, .bool dec, G ha hn hc] 38)).heap.size = wr.heap.size + 1 := by simp
   generalize wr.alloc (T #[E J dd, G pa ln pc, .bool dec, G ha hn hc] 38) = A at *;refine (zja dd pa ln pc l dec ha hn hc hd A HLL.out.1.symm HRK.out (HW.out.2.2.2.2.1.below hbA) HLL.out.2.symm (by have := HW.out.2.2.2.2.2.2.2; omega) (HW.out.2.2.2.2.2.1.below hbA)).mono ?_;rintro e w2 ⟨v2, rfl, hM2, hb2⟩;have hml2 := zf8 (dd, l, dec, hd);obtain ⟨zX, hUl, hU, hUs, hUT⟩ := hM2.len;obtain ⟨a2, n2, c2, rfl⟩ := hU.slice zbw;have hUr := hU.at zbw;have HU := zE hUs hUT hUr.2.1 hUr.1 (hbA.trans (hb2.mono (by omega)));have hU3 : zX.length ≤ 3 := by omega
   have hs2 : wr.heap.size + 1 ≤ w2.heap.size := by have := hb2.size; omega
   clear hM2 hU hUs hUT hUr hb2 hbA hUl hml2 d0 d1 d2 d3;go_wp2_with (at_builtin; refine zbj zbw oneM Try.underlying24 zfm rfl (by decide) _ rfl _ _ rfl w.heap.size _ jz rfl (HW.out.1.below HU.out.2.2.2.2 (kaa _)) a2 n2 c2 zX rfl HU.out.2.2.1 HU.out.2.2.2.1 (by unfold maxLen; omega) (by omega) (by omega) ?_; intro a4 n4 c4 w4 jv hn4 jy jQ; clear hn4)
   have HF : Q (zm w4 w.heap.size (G a4 n4 c4) ((O.take (k + 1)).flatMap za6) ∧ Z w.heap.size w w4) := by
    refine ⟨?_, ?_⟩
    ·rw [HE.out]
     exact zm.app HW.out.2.1 HW.out.2.2.1 (zj.below HU.out.2.2.2.2 (kaa _)) (HW.out.1.below HU.out.2.2.2.2 (kaa _)) jy jv HU.out.1 (fun y hy => (HU.out.2.1 y hy).mono (by omega))
    ·exact (HW.out.2.2.2.1.trans (HU.out.2.2.2.2.mono hsz)).grown jy (by omega) HW.out.1.base
   clear jv jy jQ;go_wp2;go_roundw
   case rel => exact ⟨k + 1, by omega, by go_num, HF⟩
   case measure => simp [intOf]; omega
  ·have HF : Q (zm wr w.heap.size u3 (O.flatMap za6) ∧ Z w.heap.size w wr) := by
    have := hR.out;rwa [List.take_of_length_le (by have h1 := HN.out.1.n; have h2 := HN.out.2.2; omega)] at this
   clear hR;go_wp2;go_ret;exact ⟨_, rfl, HF.out.1, HF.out.2⟩
theorem head_gen (a : Option Addr) (X : List XL) (cap n : Nat) (w : World) (hn : n = X.length) (hl : X.length ≤ 500000) (hok : OkL (X.map zf)) (hp : zcc w a X) :
  Calls Try.prog 42 #[G a n cap] w fun e w' => ∃ v, e = .returned v ∧ (∀ R : Nat → Prop, (∀ b, R b → b < w.heap.size) → zy R w' v (zw (X.map zf))) ∧ Z w.heap.size w w' := by
 have HO := zj4 a X cap n (w.alloc (T #[G U 0 0, E J 0, E J 0, G U 0 0] 29)) hn (by omega) hok (hp.below (zi w _));have HN := zC hn hok hp;have hnl : n ≤ 500000 := by omega
 clear hn hok hp;go_enter Try.func42, Try.ntmps42
 go_wp2_with fail
 refine HO.mono ?_;rintro e w1 ⟨la, lc, Y, rfl, hY, hlog, hb1⟩;have hbw1 := (zi w _).trans (hb1.mono (by simp));have hres := (Blk.new w _ _).below hb1 (by simp);have H1 : Q (Y.map zf = X.map zf ∧ zdd w1 (w.heap.size + 1) (G la n lc) Y ∧ Z w.heap.size w w1 ∧ Blk w1 w.heap.size #[G U 0 0, E J 0, E J 0, G U 0 0] 29 ∧ w.heap.size < w1.heap.size) := ⟨hY, by simpa using hlog, hbw1, hres, hres.lt⟩;have hs1 := hres.lt;clear HO hY hlog hb1 hbw1 hres;go_wp2;go_loopw [13] (fun i w' => ∃ k : Nat, k ≤ n ∧ i = E J k ∧ Q (GAt w1.heap.size w1.heap.size (G la n lc) w' (zac ((X.take k).map zf)) ∧ Z w1.heap.size w1 w')) (fun i _ => n - (intOf i).toNat)
 case atStart => exact ⟨0, Nat.zero_le _, rfl, ⟨none, 0, 0, [], Blk.new _ _ _, zd.nil _ _, (fun x hx => by cases hx), rfl⟩, zi _ _⟩
 case round =>
  obtain ⟨k, hk, rfl, hH⟩ := hrel;by_cases hlt : k < n
  ·have hkX : k < X.length := by have := HN.out.1; omega
   have hbw := H1.out.2.2.1.trans (hH.out.2.mono (by omega));obtain ⟨b, o, rfl, hb, c0, c1, c2, hq⟩ := (HN.out.2.2.below hbw).get hkX;have hokk := zjg HN.out.2.1 hkX;have HS : Q (zac ((X.take (k + 1)).map zf) = zdl (zac ((X.take k).map zf)) (zf X[k])) := by show _ = _; rw [zhm hkX, zgo]
   have qx := zkr ((X.take k).map zf);rw [List.length_map, List.length_take, Nat.min_eq_left (by omega)] at qx;obtain ⟨hHA, hB1⟩ := hH.out;generalize zac ((X.take k).map zf) = h at *;obtain ⟨t, DD⟩ := h;obtain ⟨oa, no, oc, XO, hB, hR, hT, hD⟩ := hHA;simp only at hB hD qx
   generalize X[k] = x at *;obtain ⟨kd, dd, ⟨ax, cx⟩, l⟩ := x;simp only at c0 c1 c2 hq hokk
   have hXl : XO.length ≤ 500000 := by
    have h1 := qx.2.2;rw [← hD] at h1;simp at h1
    omega
   obtain ⟨hi1, hi2, _⟩ := qx;have ht : 0 ≤ t ∧ t ≤ 500000 := ⟨hi1, by omega⟩;clear hi1 hi2;obtain ⟨ht0, ht1⟩ := ht;have z1 := hB.cell 1;have z3 := hB.cell 3;have f1 := hB.free 1;have f3 := hB.free 3;simp at z1 z3
   have hsr := hB1.size;have hBlt := hB.lt;have HA := zG hB hR hT hD hq hokk hB1;generalize hll : l.length = nl at *;have HLL := zA hll;clear hq hokk hB hR hT hD hH hll hB1;have HX : Q (Z wr.heap.size wr (wr.alloc (T #[E J kd, E J dd, G ax nl cx] 68))) := zi _ _;have HB := zA (HA.out.2.2.2.2.2.2.trans (HX.out.mono hsr));have hB2 := HA.out.1.below HX.out hBlt;have hR2 := HA.out.2.1.below HX.out (kaa _);have hT2 : ∀ x ∈ XO, zam w1.heap.size (wr.alloc (T #[E J kd, E J dd, G ax nl cx] 68)) x.2.1.1 x.2.2 := fun x hx => (HA.out.2.2.1 x hx).calm (zj.below HX.out (kaa _))
   by_cases k1 : kd = 4
   ·subst k1
    have HE : Q (zdl (t, DD) (zf (4, dd, (ax, cx), l)) = (t + 1, DD)) := rfl
    have HF : Q (GAt w1.heap.size w1.heap.size (G la n lc) ((r wr ⟨w1.heap.size, 1, U⟩ (E J (t + 1))).alloc (T #[E J 4, E J dd, G ax nl cx] 68)) (t + 1, DD)) := by
     have := (GAt.put1 (t := t + 1) HA.out.1 HA.out.2.1 HA.out.2.2.1).below (zi _ (T #[E J 4, E J dd, G ax nl cx] 68));rw [HA.out.2.2.2.1] at this;exact this
    have hBf : Q (Z w1.heap.size w1 ((r wr ⟨w1.heap.size, 1, U⟩ (E J (t + 1))).alloc (T #[E J 4, E J dd, G ax nl cx] 68))) := (HA.out.2.2.2.2.2.2.setCell (kaa _) _).alloc (by simpa using hsr) _;clear hB2 hR2 hT2;go_wp2;go_roundw
    case rel => exact ⟨k + 1, by omega, by go_num, by rw [HS.out, HE.out]; exact HF.out, hBf.out⟩
    case measure => simp [intOf]; omega
   ·have k1' : (kd == 4) = false := by simpa using k1
    by_cases k2 : kd = 5
    ·subst k2
     have HE : Q (zdl (t, DD) (zf (5, dd, (ax, cx), l)) = (t, DD ++ [(dd, l)])) := rfl;have HA2 := zC hB2 hR2 hT2;clear hB2 hR2 hT2;go_wp2_with fail
     refine (deed_any 5 dd ax l cx nl _ HLL.out.symm (by have := HA.out.2.2.2.2.2.1.1; omega) (HA.out.2.2.2.2.1.below HX.out)).mono ?_;rintro e w3 ⟨a3, c3, rfl, ht3, hb3⟩;have hB3 := HA2.out.1.below hb3 HA2.out.1.lt;have hR3 := HA2.out.2.1.below hb3 (kaa _);have hBB := HB.out.trans (hb3.mono (by simp; omega));have HA3 : Q (Blk w3 w1.heap.size #[G la n lc, E J t, E J 0, G oa no oc] 29 ∧ zd 38 4 zb7 w3 w1.heap.size (G oa no oc) XO ∧ (∀ x ∈ XO, zam w1.heap.size w3 x.2.1.1 x.2.2) ∧ zam w1.heap.size w3 a3 l ∧ Z w1.heap.size w1 w3) := ⟨hB3, hR3, fun x hx => (HA2.out.2.2 x hx).calm (zj.below hb3 (kaa _)), ht3.mono (by simp; omega), hBB⟩;have z3' := hB3.cell 3;simp at z3'
     have hw3 := hB3.lt;have hw3' := hBB.size;clear z1 z3 f1 f3 hB3 hR3 hBB ht3 hb3 c0 c1 c2 HA2;have HD : Q (Z w3.heap.size w3 (w3.alloc (T #[E J dd, G a3 nl c3] 70))) := zi _ _;go_wp2_with (at_builtin; refine zhe zdx oneO Try.underlying27 zeg rfl (by decide) (by decide) _ rfl _ _ rfl w1.heap.size _ XO rfl ((HA3.out.2.1.below HD.out (kaa _)).below (zi _ _) (kaa _)) (some ⟨w3.heap.size + 1, 0, U⟩) 1 1 [(dd, (a3, c3), l)] rfl rfl (zk.one (zaq w3 _ _) (by simp [zb7, HLL.out])) (by simp; omega) (by simp; omega) ?_; intro a4 n4 c4 w4 jv hn4 jy jQ; clear hn4 jQ; have hK4 : Blk w4 w1.heap.size #[G la n lc, E J t, E J 0, G oa no oc] 29 := ((HA3.out.1.alloc _).alloc _).keptT jy (((HA3.out.2.1.below HD.out (kaa _)).below (zi _ _) (kaa _)).grownT (by decide)); have j3 := hK4.cell 3; have j3' := hK4.free 3; simp at j3; have HK4 : Q (Blk w4 w1.heap.size #[G la n lc, E J t, E J 0, G oa no oc] 29) := hK4; clear hK4)
     have hgT := (HA3.out.2.1.below HD.out (kaa _)).below (zi _ (T #[E J dd, G a3 nl c3, .bool true, G U 0 0] 38)) (kaa _);have hC : zj 49 w3 w4 := ((zj.alloc _ _ _).trans (zj.alloc _ _ _)).trans (zj.grown jy (hgT.grownT (by decide)))
     have HF : Q (GAt w1.heap.size w1.heap.size (G la n lc) (r w4 ⟨w1.heap.size, 3, U⟩ (G a4 n4 c4)) (t, DD ++ [(dd, l)])) := by
      have := GAt.put3 HK4.out jv (fun x hx => by
       rcases List.mem_append.1 hx with hx | hx
       ·exact (HA3.out.2.2.1 x hx).calm hC
       ·rw [List.mem_singleton.1 hx]; exact HA3.out.2.2.2.1.calm hC)
      rw [List.map_append, HA.out.2.2.2.1] at this;exact this
     have hBf : Z w1.heap.size w1 (r w4 ⟨w1.heap.size, 3, U⟩ (G a4 n4 c4)) := (((HA3.out.2.2.2.2.trans (HD.out.mono (by omega))).alloc (by simp; omega) _).grown jy (by simp; omega) HA3.out.2.1.base).setCell (kaa _) _;clear jy hgT hC jv j3 j3' HK4;go_wp2;go_roundw
     case rel => exact ⟨k + 1, by omega, by go_num, by rw [HS.out, HE.out]; exact HF.out, hBf⟩
     case measure => simp [intOf]; omega
    ·have k2' : (kd == 5) = false := by simpa using k2
     by_cases k3 : kd = 6
     ·subst k3
      have HE : Q (zdl (t, DD) (zf (6, dd, (ax, cx), l)) = (t, zao DD dd)) := rfl;have hr2 : Blk (wr.alloc (T #[E J 6, E J dd, G ax nl cx] 68)) wr.heap.size #[E J 6, E J dd, G ax nl cx] 68 := Blk.new _ _ _;have HA2 := zD hB2 hR2 hT2 hr2;clear hB2 hR2 hT2 hr2;go_wp2_with fail
      refine (zm5 oa XO oc no w1.heap.size wr.heap.size dd _ (by omega) HA2.out.2.1 HA2.out.2.2.2.lt (HA2.out.2.1.neT HA2.out.2.2.2 (by decide)) (HA2.out.2.2.2.cell 1)).mono ?_;rintro e w6 ⟨n6, rfl, ho6, hg6⟩;have hgT := HA2.out.2.1;have hB6 := HA2.out.1.keptT hg6 (hgT.grownT (by decide));have hC6 := zj.grown (t := 49) hg6 (hgT.grownT (by decide))
      have HF : Q (GAt w1.heap.size w1.heap.size (G la n lc) (r w6 ⟨w1.heap.size, 3, U⟩ (G oa n6 oc)) (t, zao DD dd)) := by
       have := GAt.put3 hB6 ho6 (fun x hx => (HA2.out.2.2.1 x (List.mem_filter.1 hx).1).calm hC6);rw [dropD_map, HA.out.2.2.2.1] at this;exact this
      have hBf : Z w1.heap.size w1 (r w6 ⟨w1.heap.size, 3, U⟩ (G oa n6 oc)) := (HB.out.grown hg6 HB.out.size hgT.base).setCell (kaa _) _;have u3 := hB6.cell 3;have g3 := hB6.free 3;simp at u3
      clear hB6 hC6 hgT ho6 hg6 z1 z3 f1 f3;go_wp2;go_roundw
      case rel => exact ⟨k + 1, by omega, by go_num, by rw [HS.out, HE.out]; exact HF.out, hBf⟩
      case measure => simp [intOf]; omega
     ·have k3' : (kd == 6) = false := by simpa using k3
      have HE : Q (zdl (t, DD) (zf (kd, dd, (ax, cx), l)) = (t, DD)) := znp k1 k2 k3;have HF : Q (GAt w1.heap.size w1.heap.size (G la n lc) (wr.alloc (T #[E J kd, E J dd, G ax nl cx] 68)) (t, DD)) := ⟨oa, no, oc, XO, hB2, hR2, hT2, HA.out.2.2.2.1⟩;clear k1 k2 k3 hB2 hR2 hT2;go_wp2;go_roundw
      case rel => exact ⟨k + 1, by omega, by go_num, by rw [HS.out, HE.out]; exact HF.out, HB.out⟩
      case measure => simp [intOf]; omega
  ·have hkn : k = n := by omega
   have hfull : (X.take k).map zf = X.map zf := by rw [List.take_of_length_le (by have := HN.out.1; omega)]
   obtain ⟨hHA, hB1⟩ := hH.out;rw [hfull] at hHA;obtain ⟨oa, no, oc, XO, hB, hR, hT, hD⟩ := hHA;have hN := H1.out.2.2.2.1.below hB1 H1.out.2.2.2.1.lt;generalize hhb : zac (X.map zf) = h at *;have HHB := zA hhb;clear hhb hH hfull;obtain ⟨t, DD⟩ := h;simp only at hB hD
   obtain ⟨hW, hOnly⟩ := fill4 hN (G la n lc) (E J t) (E J 0) (G oa no oc)
   have hBW : Z w.heap.size w (r (r (r (r wr ⟨w.heap.size, 0, U⟩ (G la n lc)) ⟨w.heap.size, 1, U⟩ (E J t)) ⟨w.heap.size, 2, U⟩ (E J 0)) ⟨w.heap.size, 3, U⟩ (G oa no oc)) :=
    ((((H1.out.2.2.1.trans (hB1.mono (by omega))).setCell (kaa _) _).setCell (kaa _) _).setCell (kaa _) _).setCell (kaa _) _
   have HF : Q (∀ R : Nat → Prop, (∀ b, R b → b < w.heap.size) → zy R (r (r (r (r wr ⟨w.heap.size, 0, U⟩ (G la n lc)) ⟨w.heap.size, 1, U⟩ (E J t)) ⟨w.heap.size, 2, U⟩ (E J 0)) ⟨w.heap.size, 3, U⟩ (G oa no oc)) (.agg #[G la n lc, E J t, E J 0, G oa no oc]) (zw (X.map zf))) := by
    intro R hRR;have hlog := H1.out.2.1.below hB1;have k1 := hlog.1.only hOnly (by decide);have k2 := k1.at za4;have k3 := hR.only hOnly (by decide);have k4 := k3.at zdx;have hw1 := H1.out.2.2.2.2;exact zmu HHB.out k2.2.1 k2.1 (k1.outR (fun b hb => by have := hRR b hb; omega) _) H1.out.1 (fun y hy => ((hlog.2 y hy).calm (hOnly.calm (by decide))).outR (fun b hb => by have := hRR b hb; omega)) k4.2.1 k4.1 (k3.outR (fun b hb => by have := hRR b hb; omega) _) hD (fun x hx => ((hT x hx).calm (hOnly.calm (by decide))).outR (fun b hb => by have := hRR b hb; omega))
   have HBlk : Q _ := And.intro hW hBW;have b0 := hB.cell 0;have b1 := hB.cell 1;have b2 := hB.cell 2;have b3 := hB.cell 3;have n0 := hN.cell 0;have n1 := hN.cell 1;have n2 := hN.cell 2;have n3 := hN.cell 3;have f0 := hN.free 0;have f1 := hN.free 1;have f2 := hN.free 2;have f3 := hN.free 3;simp at b0 b1 b2 b3 n0 n1 n2 n3
   clear hW hBW hOnly hB hN hR hT hD;go_wp2_with fail
   clear b0 b1 b2 b3 n0 n1 n2 n3 f0 f1 f2 f3;have e0 := Blk.cell HBlk.out.1 0;have e1 := Blk.cell HBlk.out.1 1;have e2 := Blk.cell HBlk.out.1 2;have e3 := Blk.cell HBlk.out.1 3;simp only [List.getElem?_toArray, List.getElem?_cons_zero, List.getElem?_cons_succ] at e0 e1 e2 e3
   refine bodyPost_ret (v := .agg #[G la n lc, E J t, E J 0, G oa no oc]) ?_ rfl ⟨_, rfl, HF.out, HBlk.out.2⟩;simp [results, Try.results42, go_sem, e0, e1, e2, e3]
theorem zlq (la : Option Addr) (nl lc : Nat) (Y : List XL) (w : World) (hn : nl = Y.length) (hl : Y.length ≤ 400000) (hok : OkL (Y.map zf)) (hp : zcc w la Y) :
  Calls Try.prog 28 #[G la nl lc] w fun e w' => ∃ v', e = .returned v' ∧ (∀ R : Nat → Prop, (∀ b, R b → b < w.heap.size) → zy R w' v' (zw (Y.map zf ++ [(4, 0, [])]))) ∧ Z w.heap.size w w' := by
 have hbV : Z w.heap.size w (((w.alloc (T #[G U 0 0, E J 0, E J 0, G U 0 0] 29)).alloc (T #[E J 4, E J 0, G U 0 0] 68)).alloc (T #[G la nl lc, G (some ⟨w.heap.size + 1, 0, U⟩) 1 1] 26)) := (((zi w _).alloc (by simp) _).alloc (by simp <;> omega) _);have h1 : Blk (((w.alloc (T #[G U 0 0, E J 0, E J 0, G U 0 0] 29)).alloc (T #[E J 4, E J 0, G U 0 0] 68)).alloc (T #[G la nl lc, G (some ⟨w.heap.size + 1, 0, U⟩) 1 1] 26)) w.heap.size #[G U 0 0, E J 0, E J 0, G U 0 0] 29 := ((Blk.new _ _ _).alloc _).alloc _;have h2 : Blk (((w.alloc (T #[G U 0 0, E J 0, E J 0, G U 0 0] 29)).alloc (T #[E J 4, E J 0, G U 0 0] 68)).alloc (T #[G la nl lc, G (some ⟨w.heap.size + 1, 0, U⟩) 1 1] 26)) (w.heap.size + 1) #[E J 4, E J 0, G U 0 0] 68 := Blk.alloc (zaq _ _ _) _;have hs2 : ((w.alloc (T #[G U 0 0, E J 0, E J 0, G U 0 0] 29)).alloc (T #[E J 4, E J 0, G U 0 0] 68)).heap.size = w.heap.size + 2 := by simp
 have h3 : Blk (((w.alloc (T #[G U 0 0, E J 0, E J 0, G U 0 0] 29)).alloc (T #[E J 4, E J 0, G U 0 0] 68)).alloc (T #[G la nl lc, G (some ⟨w.heap.size + 1, 0, U⟩) 1 1] 26)) (w.heap.size + 2) #[G la nl lc, G (some ⟨w.heap.size + 1, 0, U⟩) 1 1] 26 := by rw [← hs2]; exact Blk.new _ _ _
 have hs3 : (((w.alloc (T #[G U 0 0, E J 0, E J 0, G U 0 0] 29)).alloc (T #[E J 4, E J 0, G U 0 0] 68)).alloc (T #[G la nl lc, G (some ⟨w.heap.size + 1, 0, U⟩) 1 1] 26)).heap.size = w.heap.size + 3 := by simp
 have HG := zD hn hl hok hp;clear hn hl hok hp hs2;go_enter Try.func28, Try.ntmps28
 go_wp2_with fail
 generalize (((w.alloc (T #[G U 0 0, E J 0, E J 0, G U 0 0] 29)).alloc (T #[E J 4, E J 0, G U 0 0] 68)).alloc (T #[G la nl lc, G (some ⟨w.heap.size + 1, 0, U⟩) 1 1] 26)) = V at *;have HV := zD hbV h1 hs3 h2;refine (zod (w.heap.size + 2) la (some ⟨w.heap.size + 1, 0, U⟩) Y [(4, 0, (U, 0), [])] nl 1 lc 1 V (by omega) (h3.cell 0) (h3.cell 1) HG.out.1 rfl (by have := HG.out.2.1; simp; omega) (by simp) (HG.out.2.2.2.below hbV).1 (zk.one h2 rfl)).mono ?_;rintro e w1 ⟨a1, n1, c1, rfl, ho1, hb1⟩;have hat := ho1.at za4
 have H1 : Q (zcc w1 a1 (Y ++ [(4, 0, (U, 0), [])]) ∧ n1 = (Y ++ [((4, 0, (U, 0), []) : XL)]).length ∧ Blk w1 w.heap.size #[G U 0 0, E J 0, E J 0, G U 0 0] 29 ∧ Z w.heap.size w w1 ∧ w.heap.size + 3 ≤ w1.heap.size) := by
  refine ⟨⟨hat.1, fun y hy => ?_⟩, hat.2.1, HV.out.2.1.below hb1 HV.out.2.1.lt, HV.out.1.trans (hb1.mono HV.out.1.size), by have := hb1.size; omega⟩;rcases List.mem_append.1 hy with hy | hy
  ·exact ((HG.out.2.2.2.below HV.out.1).below hb1).2 y hy
  ·rw [List.mem_singleton.1 hy]; exact Or.inl rfl
 have hok1 : OkL ((Y ++ [((4, 0, (U, 0), []) : XL)]).map zf) := by
  intro jj hr;rw [List.map_append] at hr;rcases List.mem_append.1 hr with hr | hr
  ·exact HG.out.2.2.1 jj hr
  ·rw [List.mem_singleton.1 hr]; exact zea
 clear ho1 hb1 hat h1 h2 h3 hbV hs3;go_wp2_with fail
 refine (head_gen a1 (Y ++ [(4, 0, (U, 0), [])]) c1 n1 w1 H1.out.2.1 (by have := HG.out.2.1; simp; omega) hok1 H1.out.1).mono ?_;rintro e w2 ⟨v2, rfl, hv2, hb2⟩;rw [show (Y ++ [((4, 0, (U, 0), []) : XL)]).map zf = Y.map zf ++ [(4, 0, [])] by rw [List.map_append]; rfl] at hv2;obtain ⟨la2, nl2, lc2, Y2, oa2, no2, oc2, X2, rfl, -⟩ := hv2 (fun _ => False) (fun _ h => h.elim);have H0 := zB (H1.out.2.2.1.below hb2 H1.out.2.2.1.lt) (H1.out.2.2.2.1.trans (hb2.mono H1.out.2.2.2.1.size));have hsz1 := H1.out.2.2.2.2;clear hb2 hok1;have hz := H0.out.1;have hk4 := zct hz (G la2 nl2 lc2) (E J (zw (Y.map zf ++ [(4, 0, [])])).boot) (E J (zw (Y.map zf ++ [(4, 0, [])])).next) (G oa2 no2 oc2)
 have HF : Q ((∀ R : Nat → Prop, (∀ b, R b → b < w.heap.size) → zy R (r (r (r (r w2 ⟨w.heap.size, 0, U⟩ (G la2 nl2 lc2)) ⟨w.heap.size, 1, U⟩ (E J (zw (Y.map zf ++ [(4, 0, [])])).boot)) ⟨w.heap.size, 2, U⟩ (E J (zw (Y.map zf ++ [(4, 0, [])])).next)) ⟨w.heap.size, 3, U⟩ (G oa2 no2 oc2)) (.agg #[G la2 nl2 lc2, E J (zw (Y.map zf ++ [(4, 0, [])])).boot, E J (zw (Y.map zf ++ [(4, 0, [])])).next, G oa2 no2 oc2]) (zw (Y.map zf ++ [(4, 0, [])]))) ∧ Z w.heap.size w (r (r (r (r w2 ⟨w.heap.size, 0, U⟩ (G la2 nl2 lc2)) ⟨w.heap.size, 1, U⟩ (E J (zw (Y.map zf ++ [(4, 0, [])])).boot)) ⟨w.heap.size, 2, U⟩ (E J (zw (Y.map zf ++ [(4, 0, [])])).next)) ⟨w.heap.size, 3, U⟩ (G oa2 no2 oc2))) := by
  refine ⟨fun R hR => ?_, H0.out.2.trans (hk4.2.below H0.out.2.size (fun b hb => by omega))⟩;exact ((hv2 (fun b => R b ∨ b = w.heap.size) (fun b hb => hb.elim (fun h => by have := hR b h; omega) (fun h => by omega))).keep (hk4.2.mono (fun b _ hb => Or.inr hb))).wide (fun b hb => Or.inl (Or.inl hb))
 obtain ⟨t0, t1, t2, t3⟩ := hz.cells4;obtain ⟨y0, y1, y2, y3⟩ := hz.free4;obtain ⟨e0, e1, e2, e3⟩ := hk4.1.cells4;have lz := hz.lt;clear hk4 hz hv2;go_wp2_with fail
 clear t0 t1 t2 t3 y0 y1 y2 y3 lz;generalize (r (r (r (r w2 ⟨w.heap.size, 0, U⟩ (G la2 nl2 lc2)) ⟨w.heap.size, 1, U⟩ (E J (zw (Y.map zf ++ [(4, 0, [])])).boot)) ⟨w.heap.size, 2, U⟩ (E J (zw (Y.map zf ++ [(4, 0, [])])).next)) ⟨w.heap.size, 3, U⟩ (G oa2 no2 oc2)) = Z9 at *;refine bodyPost_ret (v := .agg #[G la2 nl2 lc2, E J (zw (Y.map zf ++ [(4, 0, [])])).boot, E J (zw (Y.map zf ++ [(4, 0, [])])).next, G oa2 no2 oc2]) ?_ rfl ⟨_, rfl, HF.out.1, HF.out.2⟩;simp [results, Try.results28, go_sem, e0, e1, e2, e3]
theorem hdNew_any (w : World) :
  Calls Try.prog 11 #[] w fun e w' => ∃ v', e = .returned v' ∧ (∀ R : Nat → Prop, (∀ b, R b → b < w.heap.size) → zy R w' v' (zw [(4, 0, [])])) ∧ Z w.heap.size w w' := by
 have hb0 := zi w (T #[G U 0 0, E J 0, E J 0, G U 0 0] 29);have hz0 : Blk (w.alloc (T #[G U 0 0, E J 0, E J 0, G U 0 0] 29)) w.heap.size #[G U 0 0, E J 0, E J 0, G U 0 0] 29 := Blk.new _ _ _;have hs0 : (w.alloc (T #[G U 0 0, E J 0, E J 0, G U 0 0] 29)).heap.size = w.heap.size + 1 := by simp
 go_enter Try.func11, Try.ntmps11
 go_wp2_with fail
 generalize w.alloc (T #[G U 0 0, E J 0, E J 0, G U 0 0] 29) = V at *;refine (zlq U 0 0 [] V rfl (by decide) (fun jj hr => by cases hr) ⟨Or.inl rfl, fun y hy => by cases hy⟩).mono ?_;rintro e w2 ⟨v2, rfl, hv2, hb2⟩;rw [show (([] : List XL).map zf ++ [((4, 0, []) : R3)]) = [(4, 0, [])] from rfl] at hv2;obtain ⟨la2, nl2, lc2, Y2, oa2, no2, oc2, X2, rfl, -⟩ := hv2 (fun _ => False) (fun _ h => h.elim);have H0 := zB (hz0.below hb2 hz0.lt) (hb0.trans (hb2.mono hb0.size));clear hb2 hb0 hz0;have hz := H0.out.1;have hk4 := zct hz (G la2 nl2 lc2) (E J (zw [(4, 0, [])]).boot) (E J (zw [(4, 0, [])]).next) (G oa2 no2 oc2)
 have HF : Q ((∀ R : Nat → Prop, (∀ b, R b → b < w.heap.size) → zy R (r (r (r (r w2 ⟨w.heap.size, 0, U⟩ (G la2 nl2 lc2)) ⟨w.heap.size, 1, U⟩ (E J (zw [(4, 0, [])]).boot)) ⟨w.heap.size, 2, U⟩ (E J (zw [(4, 0, [])]).next)) ⟨w.heap.size, 3, U⟩ (G oa2 no2 oc2)) (.agg #[G la2 nl2 lc2, E J (zw [(4, 0, [])]).boot, E J (zw [(4, 0, [])]).next, G oa2 no2 oc2]) (zw [(4, 0, [])])) ∧ Z w.heap.size w (r (r (r (r w2 ⟨w.heap.size, 0, U⟩ (G la2 nl2 lc2)) ⟨w.heap.size, 1, U⟩ (E J (zw [(4, 0, [])]).boot)) ⟨w.heap.size, 2, U⟩ (E J (zw [(4, 0, [])]).next)) ⟨w.heap.size, 3, U⟩ (G oa2 no2 oc2))) := by
  refine ⟨fun R hR => ?_, H0.out.2.trans (hk4.2.below H0.out.2.size (fun b hb => by omega))⟩;exact ((hv2 (fun b => R b ∨ b = w.heap.size) (fun b hb => hb.elim (fun h => by have := hR b h; omega) (fun h => by omega))).keep (hk4.2.mono (fun b _ hb => Or.inr hb))).wide (fun b hb => Or.inl (Or.inl hb))
 obtain ⟨t0, t1, t2, t3⟩ := hz.cells4;obtain ⟨y0, y1, y2, y3⟩ := hz.free4;obtain ⟨e0, e1, e2, e3⟩ := hk4.1.cells4;have lz := hz.lt;clear hk4 hz hv2;go_wp2_with fail
 clear t0 t1 t2 t3 y0 y1 y2 y3 lz;generalize (r (r (r (r w2 ⟨w.heap.size, 0, U⟩ (G la2 nl2 lc2)) ⟨w.heap.size, 1, U⟩ (E J (zw [(4, 0, [])]).boot)) ⟨w.heap.size, 2, U⟩ (E J (zw [(4, 0, [])]).next)) ⟨w.heap.size, 3, U⟩ (G oa2 no2 oc2)) = Z9 at *;refine bodyPost_ret (v := .agg #[G la2 nl2 lc2, E J (zw [(4, 0, [])]).boot, E J (zw [(4, 0, [])]).next, G oa2 no2 oc2]) ?_ rfl ⟨_, rfl, HF.out.1, HF.out.2⟩;simp [results, Try.results11, go_sem, e0, e1, e2, e3]
theorem zm3 (la oa : Option Addr) (nl lc no oc : Nat) (g : Gh) (Y : List XL) (X : List XO) (w : World) (H : zbk (fun _ => False) w la nl Y oa no X g.log g.opn) (hf : zcd g.opn) (hok : OkL g.log) (hl : g.log.length ≤ 400000) :
  Calls Try.prog 12 #[.agg #[G la nl lc, E J g.boot, E J g.next, G oa no oc]] w fun e w' => ∃ v', e = .returned (.tuple #[v', E J (zah g).2]) ∧ (∀ R : Nat → Prop, (∀ b, R b → b < w.heap.size) → zy R w' v' (zah g).1) ∧ Z w.heap.size w w' := by
 have hb0 := za2 w (T #[G la nl lc, E J g.boot, E J g.next, G oa no oc] 29) (T #[G U 0 0, E J 0, E J 0, G U 0 0] 29);have h0 : Blk ((w.alloc (T #[G la nl lc, E J g.boot, E J g.next, G oa no oc] 29)).alloc (T #[G U 0 0, E J 0, E J 0, G U 0 0] 29)) w.heap.size #[G la nl lc, E J g.boot, E J g.next, G oa no oc] 29 := (Blk.new _ _ _).alloc _;have hz0 : Blk ((w.alloc (T #[G la nl lc, E J g.boot, E J g.next, G oa no oc] 29)).alloc (T #[G U 0 0, E J 0, E J 0, G U 0 0] 29)) (w.heap.size + 1) #[G U 0 0, E J 0, E J 0, G U 0 0] 29 := zaq _ _ _;have hs0 : ((w.alloc (T #[G la nl lc, E J g.boot, E J g.next, G oa no oc] 29)).alloc (T #[G U 0 0, E J 0, E J 0, G U 0 0] 29)).heap.size = w.heap.size + 2 := by simp
 have HG := zD (H.below hb0) hf hok hl;clear H hf hok hl;go_enter Try.func12, Try.ntmps12
 go_upto_region 1 with fail
 generalize ((w.alloc (T #[G la nl lc, E J g.boot, E J g.next, G oa no oc] 29)).alloc (T #[G U 0 0, E J 0, E J 0, G U 0 0] 29)) = V at *;obtain ⟨x0, x1, x2, x3⟩ := h0.cells4;have l0 := h0.lt;by_cases c : 19 < g.boot
 ·have HE : Q (zah g = (g, 5)) := by show _ = _; unfold zah; rw [if_pos c]
  have gc : decide (g.boot ≥ 20) = true := decide_eq_true (by omega);clear c;go_wp2_with fail
  refine (zio la oa nl lc no oc g.boot g.next Y X g.log g.opn V HG.out.1 HG.out.2.1 HG.out.2.2.1 (by have := HG.out.2.2.2; omega)).mono ?_;rintro e w2 ⟨_, rfl, ⟨la2, nl2, lc2, Y2, oa2, no2, oc2, X2, rfl, hO2⟩, hb2⟩;have hv2 : ∀ R : Nat → Prop, (∀ b, R b → b < V.heap.size) → zy R w2 (.agg #[G la2 nl2 lc2, E J g.boot, E J g.next, G oa2 no2 oc2]) g := fun R hR => hO2.v hR rfl rfl
  have H0 := zB (hz0.below hb2 hz0.lt) (hb0.trans (hb2.mono hb0.size));clear hb2 hb0 hz0 h0 hO2 x0 x1 x2 x3 l0;have hz := H0.out.1;have hk4 := zct hz (G la2 nl2 lc2) (E J g.boot) (E J g.next) (G oa2 no2 oc2)
  have HF : Q ((∀ R : Nat → Prop, (∀ b, R b → b < w.heap.size) → zy R (r (r (r (r w2 ⟨(w.heap.size + 1), 0, U⟩ (G la2 nl2 lc2)) ⟨(w.heap.size + 1), 1, U⟩ (E J g.boot)) ⟨(w.heap.size + 1), 2, U⟩ (E J g.next)) ⟨(w.heap.size + 1), 3, U⟩ (G oa2 no2 oc2)) (.agg #[G la2 nl2 lc2, E J g.boot, E J g.next, G oa2 no2 oc2]) g) ∧ Z w.heap.size w (r (r (r (r w2 ⟨(w.heap.size + 1), 0, U⟩ (G la2 nl2 lc2)) ⟨(w.heap.size + 1), 1, U⟩ (E J g.boot)) ⟨(w.heap.size + 1), 2, U⟩ (E J g.next)) ⟨(w.heap.size + 1), 3, U⟩ (G oa2 no2 oc2))) := by
   refine ⟨fun R hR => ?_, H0.out.2.trans (hk4.2.below H0.out.2.size (fun b hb => by omega))⟩;exact ((hv2 (fun b => R b ∨ b = (w.heap.size + 1)) (fun b hb => hb.elim (fun h => by have := hR b h; omega) (fun h => by omega))).keep (hk4.2.mono (fun b _ hb => Or.inr hb))).wide (fun b hb => Or.inl (Or.inl hb))
  obtain ⟨t0, t1, t2, t3⟩ := hz.cells4;obtain ⟨y0, y1, y2, y3⟩ := hz.free4;obtain ⟨e0, e1, e2, e3⟩ := hk4.1.cells4;have lz := hz.lt;clear hk4 hz hv2;go_wp2_with fail
  clear t0 t1 t2 t3 y0 y1 y2 y3 lz;generalize (r (r (r (r w2 ⟨(w.heap.size + 1), 0, U⟩ (G la2 nl2 lc2)) ⟨(w.heap.size + 1), 1, U⟩ (E J g.boot)) ⟨(w.heap.size + 1), 2, U⟩ (E J g.next)) ⟨(w.heap.size + 1), 3, U⟩ (G oa2 no2 oc2)) = Z9 at *;refine bodyPost_ret (v := .tuple #[.agg #[G la2 nl2 lc2, E J g.boot, E J g.next, G oa2 no2 oc2], E J 5]) ?_ rfl ⟨_, by rw [HE.out], by rw [HE.out]; exact HF.out.1, HF.out.2⟩;simp [results, Try.results12, go_sem, e0, e1, e2, e3]
 ·have HE : Q (zah g = (zw (g.log ++ [(4, 0, [])]), 0)) := by show _ = _; unfold zah; rw [if_neg c]
  have gc : decide (g.boot ≥ 20) = false := decide_eq_false (by omega);clear c;go_wp2_with fail
  refine (zlq la nl lc Y V HG.out.1.ln (by have h1 := HG.out.2.2.2; have h2 := HG.out.1.says; rw [← h2, List.length_map] at h1; exact h1) (by rw [HG.out.1.says]; exact HG.out.2.2.1) ⟨HG.out.1.log, fun y hy => (HG.out.1.parts y hy).1⟩).mono ?_;rintro e w2 ⟨v2, rfl, hv2, hb2⟩;rw [HG.out.1.says] at hv2;obtain ⟨la2, nl2, lc2, Y2, oa2, no2, oc2, X2, rfl, -⟩ := hv2 (fun _ => False) (fun _ h => h.elim);have H0 := zB (hz0.below hb2 hz0.lt) (hb0.trans (hb2.mono hb0.size));clear hb2 hb0 hz0 h0 x0 x1 x2 x3 l0;have hz := H0.out.1;have hk4 := zct hz (G la2 nl2 lc2) (E J (zw (g.log ++ [(4, 0, [])])).boot) (E J (zw (g.log ++ [(4, 0, [])])).next) (G oa2 no2 oc2)
  have HF : Q ((∀ R : Nat → Prop, (∀ b, R b → b < w.heap.size) → zy R (r (r (r (r w2 ⟨(w.heap.size + 1), 0, U⟩ (G la2 nl2 lc2)) ⟨(w.heap.size + 1), 1, U⟩ (E J (zw (g.log ++ [(4, 0, [])])).boot)) ⟨(w.heap.size + 1), 2, U⟩ (E J (zw (g.log ++ [(4, 0, [])])).next)) ⟨(w.heap.size + 1), 3, U⟩ (G oa2 no2 oc2)) (.agg #[G la2 nl2 lc2, E J (zw (g.log ++ [(4, 0, [])])).boot, E J (zw (g.log ++ [(4, 0, [])])).next, G oa2 no2 oc2]) (zw (g.log ++ [(4, 0, [])]))) ∧ Z w.heap.size w (r (r (r (r w2 ⟨(w.heap.size + 1), 0, U⟩ (G la2 nl2 lc2)) ⟨(w.heap.size + 1), 1, U⟩ (E J (zw (g.log ++ [(4, 0, [])])).boot)) ⟨(w.heap.size + 1), 2, U⟩ (E J (zw (g.log ++ [(4, 0, [])])).next)) ⟨(w.heap.size + 1), 3, U⟩ (G oa2 no2 oc2))) := by
   refine ⟨fun R hR => ?_, H0.out.2.trans (hk4.2.below H0.out.2.size (fun b hb => by omega))⟩;exact ((hv2 (fun b => R b ∨ b = (w.heap.size + 1)) (fun b hb => hb.elim (fun h => by have := hR b h; omega) (fun h => by omega))).keep (hk4.2.mono (fun b _ hb => Or.inr hb))).wide (fun b hb => Or.inl (Or.inl hb))
  obtain ⟨t0, t1, t2, t3⟩ := hz.cells4;obtain ⟨y0, y1, y2, y3⟩ := hz.free4;obtain ⟨e0, e1, e2, e3⟩ := hk4.1.cells4;have lz := hz.lt;clear hk4 hz hv2;go_wp2_with fail
  clear t0 t1 t2 t3 y0 y1 y2 y3 lz;generalize (r (r (r (r w2 ⟨(w.heap.size + 1), 0, U⟩ (G la2 nl2 lc2)) ⟨(w.heap.size + 1), 1, U⟩ (E J (zw (g.log ++ [(4, 0, [])])).boot)) ⟨(w.heap.size + 1), 2, U⟩ (E J (zw (g.log ++ [(4, 0, [])])).next)) ⟨(w.heap.size + 1), 3, U⟩ (G oa2 no2 oc2)) = Z9 at *;refine bodyPost_ret (v := .tuple #[.agg #[G la2 nl2 lc2, E J (zw (g.log ++ [(4, 0, [])])).boot, E J (zw (g.log ++ [(4, 0, [])])).next, G oa2 no2 oc2], E J 0]) ?_ rfl ⟨_, by rw [HE.out], by rw [HE.out]; exact HF.out.1, HF.out.2⟩;simp [results, Try.results12, go_sem, e0, e1, e2, e3]
end Go.Proofs.Ytpcnlifmkhagkaa
