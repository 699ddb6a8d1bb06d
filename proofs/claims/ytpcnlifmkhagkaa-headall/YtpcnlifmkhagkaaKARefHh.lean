import Derived.Test.YtpcnlifmkhagkaaKAJ21
import Derived.Deep.CutBlock
set_option maxRecDepth 20000
set_option maxHeartbeats 20000000
namespace Go.Proofs.Ytpcnlifmkhagkaa
open Go.RowKit
open Go.Value renaming slice → G, int → E
open Go.IntKind renaming i64 → J
open _root_.Option renaming none → U
open Go.Obj renaming cells → T
open Go.RowKit renaming Hid → Q, Below → Z
open Go.World renaming setCell → r
open Go.RowKit.Below renaming refl → kaa
open _root_.Or renaming inl → kab
open Go.Region renaming wanted → kac
open _root_.List renaming setIfInBounds_toArray → kad, set_cons_zero → kae, set_cons_succ → kaf, getElem?_toArray → kah, getElem?_cons_zero → kai, getElem?_cons_succ → kaj, map_append → kak, mem_append → kal, mem_singleton → kam
open _root_.Nat renaming le_refl → kag
attribute [local go_sem ↓] Go.wp_at_zero Go.wp_at_succ
theorem zpd (R : Nat → Prop) (v : Value) (g : Gh) (mk md mh : Int) (ma : Option Addr) (mn mc : Nat) (ml : List P3) (w : World) (hR : ∀ b, R b → b < w.heap.size) (hv : zy R w v g) (hf : zcd g.opn) (hll : g.log.length ≤ 900000) :
  Calls Try.prog 50 #[v, .agg #[E J mk, E J md, E J mh, G ma mn mc]] w fun e w' => ∃ v' sv, e = .returned (.tuple #[v', sv]) ∧ zy R w' v' (zh g (mk, md, mh, ml)).1 ∧ zm w' w.heap.size sv (zh g (mk, md, mh, ml)).2 ∧ Z w.heap.size w w' := by
 obtain ⟨la, nl, lc, Y0, oa, no, oc, X, rfl, hF⟩ := hv;obtain ⟨L, bt, nx, O⟩ := g;simp only at hF hf hll
 have HG : Q (zbk R w la nl Y0 oa no X L O ∧ zcd O ∧ X.length = O.length ∧ (∀ b, R b → b < w.heap.size) ∧ Y0.length ≤ 900000) := ⟨hF, hf, by rw [← hF.osays, List.length_map], hR, by rw [← hF.says, List.length_map] at hll; exact hll⟩;have hnl : no ≤ 100000 := by have h1 := hF.on; have h2 := hf.1; have h3 := HG.out.2.2.1; omega
 have hS0 : za3 R w (G la nl lc) (E J bt) (E J nx) (G oa no oc) (E J mk) (E J md) (E J mh) (G ma mn mc) bt nx ((((w.alloc (T #[G la nl lc, E J bt, E J nx, G oa no oc] 29)).alloc (T #[E J mk, E J md, E J mh, G ma mn mc] 43)).alloc (T #[G U 0 0, E J 0, E J 0, G U 0 0] 29)).alloc (T #[G la nl lc, E J bt, E J nx, G U 0 0] 29)) la nl lc Y0 U 0 0 [] (G U 0 0) L [] [] := by
  have s1 : (w.alloc (T #[G la nl lc, E J bt, E J nx, G oa no oc] 29)).heap.size = w.heap.size + 1 := by simp
  have s2 : ((w.alloc (T #[G la nl lc, E J bt, E J nx, G oa no oc] 29)).alloc (T #[E J mk, E J md, E J mh, G ma mn mc] 43)).heap.size = w.heap.size + 2 := by simp
  have s3 : (((w.alloc (T #[G la nl lc, E J bt, E J nx, G oa no oc] 29)).alloc (T #[E J mk, E J md, E J mh, G ma mn mc] 43)).alloc (T #[G U 0 0, E J 0, E J 0, G U 0 0] 29)).heap.size = w.heap.size + 3 := by simp
  have b3 : Z w.heap.size w ((((w.alloc (T #[G la nl lc, E J bt, E J nx, G oa no oc] 29)).alloc (T #[E J mk, E J md, E J mh, G ma mn mc] 43)).alloc (T #[G U 0 0, E J 0, E J 0, G U 0 0] 29)).alloc (T #[G la nl lc, E J bt, E J nx, G U 0 0] 29)) := ((((zi w _).alloc (by first | omega | (simp; omega) | simp) _).alloc (by first | omega | (simp; omega) | simp) _).alloc (by first | omega | (simp; omega) | simp) _);refine ⟨(((Blk.new _ _ _).alloc _).alloc _).alloc _, ?_, ?_, ?_, hF.ln, kab ⟨hF.log, hF.lout⟩, hF.says, hF.parts, zd.nil _ _, rfl, (fun z hz => by cases hz), zm.nil _ _, b3, (by first | omega | (simp; omega) | simp)⟩
  ·exact Blk.alloc (Blk.alloc (zaq w _ _) _) _
  ·rw [← s2]; exact (Blk.new _ _ _).alloc _
  ·rw [← s3]; exact Blk.new _ _ _
 clear hF hf hR hll;go_enter Try.func50, Try.ntmps50
 go_upto_region 2 with fail
 generalize ((((w.alloc (T #[G la nl lc, E J bt, E J nx, G oa no oc] 29)).alloc (T #[E J mk, E J md, E J mh, G ma mn mc] 43)).alloc (T #[G U 0 0, E J 0, E J 0, G U 0 0] 29)).alloc (T #[G la nl lc, E J bt, E J nx, G U 0 0] 29)) = V at *;have HV := zA hS0;have x3 := hS0.hb.cell 3;simp only [kah, kai, kaj] at x3
 clear hS0;go_wp2;clear x3;go_loopw [7, 8, 24] (fun sv kv i w' => ∃ (k : Nat) (la' : Option Addr) (nl' lc' : Nat) (Y : List XL) (va : Option Addr) (vn vc : Nat) (jz : List XO), k ≤ no ∧ i = E J k ∧ kv = .bool (zbi (mk, md, mh, ml) (O.take k)).2.2.2 ∧ Q (za3 R w (G la nl lc) (E J bt) (E J nx) (G oa no oc) (E J mk) (E J md) (E J mh) (G ma mn mc) bt nx w' la' nl' lc' Y va vn vc jz sv (L ++ (zbi (mk, md, mh, ml) (O.take k)).2.1) (zbi (mk, md, mh, ml) (O.take k)).1 (zbi (mk, md, mh, ml) (O.take k)).2.2.1 ∧ jz.length ≤ k ∧ Y.length ≤ 900001)) (fun _ _ i _ => no - (intOf i).toNat)
 case atStart => exact ⟨0, la, nl, lc, Y0, U, 0, 0, [], Nat.zero_le _, rfl, rfl, by simp only [List.take_zero, zbi, List.foldl_nil, List.append_nil]; exact ⟨HV.out, kag _, by have := HG.out.2.2.2.2; omega⟩⟩
 case round =>
  obtain ⟨k, la', nl', lc', Y, va, vn, vc, jz, hk, rfl, rfl, hH⟩ := hrel;by_cases hlt : k < no
  ·have hkX : k < X.length := by have := HG.out.1.on; omega
   have hkO : k < O.length := by have := HG.out.2.2.1; omega
   have hOk : O[k] = zz X[k] := by
    have : O = X.map zz := HG.out.1.osays.symm;subst this;rw [List.getElem_map]
   have hfk := HG.out.2.1.2 O[k] (List.getElem_mem hkO);have HE : Q (zbi (mk, md, mh, ml) (O.take (k + 1)) = zd3 (mk, md, mh, ml) (zbi (mk, md, mh, ml) (O.take k)) (zz X[k])) := by show _ = _; rw [hall_take _ hkO, hOk]
   have hop := HG.out.1.oparts _ (List.getElem_mem hkX);obtain ⟨hS, hZk, hYl⟩ := hH.out;have HNW : Q ((zbi (mk, md, mh, ml) (O.take k)).2.2.2 = false → (zbi (mk, md, mh, ml) (O.take k)).2.1 = [] ∧ (zbi (mk, md, mh, ml) (O.take k)).2.2.1 = []) := zk7 _ _;obtain ⟨g, o, rfl, hg, d0, d1, d2, d3, hq⟩ := (HG.out.1.opns.lies.below hS.bel).get hkX;rw [hOk] at hfk;generalize X[k] = x at *;generalize zbi (mk, md, mh, ml) (O.take k) = st at *;obtain ⟨so, sl, ss, kn⟩ := st;obtain ⟨dd, ⟨⟨pa, pc⟩, l⟩, dec, ⟨ha, hc⟩, hd⟩ := x;simp only at d0 d1 d2 d3 hfk hop hS HE HNW
   obtain ⟨ln, hn, HLL⟩ : ∃ ln hn, Q (l.length = ln ∧ hd.length = hn) := ⟨_, _, rfl, rfl⟩;rw [HLL.out.1] at d1;rw [HLL.out.2] at d3;simp only [zz] at HE hfk
   have HW := zG hS hq.1 hq.2 hfk.1 hfk.2 hop.1 hop.2;obtain ⟨m0', m1', m2', m3'⟩ := hS.mb.cells4;obtain ⟨r0, r1, r2, r3⟩ := hS.ob.cells4;obtain ⟨f0, f1, f2, f3⟩ := hS.ob.free4;have hml := hS.mb.lt;have hol := hS.ob.lt;have hsz4 := hS.sz;have hZl : jz.length ≤ 100000 := by omega
   have hZk1 : jz.length ≤ k := hZk;have hYl1 : Y.length ≤ 900001 := hYl;clear hH hS hq hfk hop hkX hOk
   cases kn with
   | true =>
    have HE1 : Q (zbi (mk, md, mh, ml) (O.take (k + 1)) = (so ++ [(dd, l, dec, hd)], sl, ss, true)) := by show _ = _; rw [HE.out]; unfold zd3; rw [if_pos (Or.inr rfl)]
    clear HE;by_cases hdd : dd = md
    ·have hdm : (dd != md) = false := by simpa using hdd
     clear hdd
     as_aux_lemma =>
      have HB2 : Q (Z wr.heap.size wr ((wr.alloc (T #[E J dd, G pa ln pc, .bool dec, G ha hn hc] 38)).alloc (T #[E J dd, G pa ln pc, .bool dec, G ha hn hc] 38))) := za2 _ _ _;have H5 := zA (HW.out.1.below HB2.out);go_wp2_with (at_builtin; refine zbj zas oneQ Try.underlying27 zeg rfl (by decide) _ rfl _ _ rfl (w.heap.size + 4) _ jz rfl H5.out.own (some ⟨wr.heap.size + 1, 0, U⟩) 1 1 [(dd, ((pa, pc), l), dec, ((ha, hc), hd))] rfl rfl (zk.one (zaq wr _ _) (by simp [zan, HLL.out.1, HLL.out.2])) (by unfold maxLen; simp; omega) (by simp; omega) (by simp; omega) ?_; intro a6 n6 c6 w6 j8 hn6 jk hat6; have o6 := H5.out.ob.keptNe jk (fun e => by have := H5.out.own.base _ e; omega); have p3 := o6.cell 3; have q3 := o6.free 3; have l6 := o6.lt; simp only [kah, kai, kaj] at p3; have HF : Q (za3 R w (G la nl lc) (E J bt) (E J nx) (G (some ⟨g, o, U⟩) no oc) (E J mk) (E J md) (E J mh) (G ma mn mc) bt nx (r w6 ⟨w.heap.size + 3, 3, U⟩ (G a6 n6 c6)) la' nl' lc' Y a6 n6 c6 (jz ++ [(dd, ((pa, pc), l), dec, ((ha, hc), hd))]) u7 (L ++ sl) (so ++ [(dd, l, dec, hd)]) ss) := H5.out.push jk j8 ⟨HW.out.2.2.2.2.2.1, kab HW.out.2.2.2.2.2.2⟩; clear hn6 hat6 jk j8 o6)
      clear p3 q3 l6 d0 d1 d2 d3 m0' m1' m2' m3' r0 r1 r2 r3 f0 f1 f2 f3;go_wp2;go_roundw
      case rel => exact ⟨k + 1, la', nl', lc', Y, a6, n6, c6, _, by omega, by go_num, by rw [HE1.out], by rw [HE1.out]; exact ⟨HF.out, by simp; omega, hYl1⟩⟩
      case measure => simp [intOf]; omega
    ·have hdm : (dd != md) = true := by simpa using hdd
     clear hdd
     as_aux_lemma =>
      have HB2 : Q (Z wr.heap.size wr ((wr.alloc (T #[E J dd, G pa ln pc, .bool dec, G ha hn hc] 38)).alloc (T #[E J dd, G pa ln pc, .bool dec, G ha hn hc] 38))) := za2 _ _ _;have H5 := zA (HW.out.1.below HB2.out);go_wp2_with (at_builtin; refine zbj zas oneQ Try.underlying27 zeg rfl (by decide) _ rfl _ _ rfl (w.heap.size + 4) _ jz rfl H5.out.own (some ⟨wr.heap.size + 1, 0, U⟩) 1 1 [(dd, ((pa, pc), l), dec, ((ha, hc), hd))] rfl rfl (zk.one (zaq wr _ _) (by simp [zan, HLL.out.1, HLL.out.2])) (by unfold maxLen; simp; omega) (by simp; omega) (by simp; omega) ?_; intro a6 n6 c6 w6 j8 hn6 jk hat6; have o6 := H5.out.ob.keptNe jk (fun e => by have := H5.out.own.base _ e; omega); have p3 := o6.cell 3; have q3 := o6.free 3; have l6 := o6.lt; simp only [kah, kai, kaj] at p3; have HF : Q (za3 R w (G la nl lc) (E J bt) (E J nx) (G (some ⟨g, o, U⟩) no oc) (E J mk) (E J md) (E J mh) (G ma mn mc) bt nx (r w6 ⟨w.heap.size + 3, 3, U⟩ (G a6 n6 c6)) la' nl' lc' Y a6 n6 c6 (jz ++ [(dd, ((pa, pc), l), dec, ((ha, hc), hd))]) u7 (L ++ sl) (so ++ [(dd, l, dec, hd)]) ss) := H5.out.push jk j8 ⟨HW.out.2.2.2.2.2.1, kab HW.out.2.2.2.2.2.2⟩; clear hn6 hat6 jk j8 o6)
      clear p3 q3 l6 d0 d1 d2 d3 m0' m1' m2' m3' r0 r1 r2 r3 f0 f1 f2 f3;go_wp2;go_roundw
      case rel => exact ⟨k + 1, la', nl', lc', Y, a6, n6, c6, _, by omega, by go_num, by rw [HE1.out], by rw [HE1.out]; exact ⟨HF.out, by simp; omega, hYl1⟩⟩
      case measure => simp [intOf]; omega
   | false =>
    by_cases hdd : dd = md
    ·skip
     have HE1 : Q (zbi (mk, md, mh, ml) (O.take (k + 1)) = (so ++ (zq (mk, md, mh, ml) (dd, l, dec, hd)).1.toList, (zq (mk, md, mh, ml) (dd, l, dec, hd)).2.1, (zq (mk, md, mh, ml) (dd, l, dec, hd)).2.2, true)) := by show _ = _; rw [HE.out]; unfold zd3; rw [if_neg (by simp [hdd])]
     have hdm : (dd != md) = false := by simpa using hdd
     obtain ⟨rfl, rfl⟩ := HNW.out rfl;clear HE hdd HNW;go_upto_region 10 with fail
     clear d0 d1 d2 d3 m0' m1' m2' m3' r0 r1 r2 r3 f0 f1 f2 f3 hdm;have hbA := zi wr (T #[E J dd, G pa ln pc, .bool dec, G ha hn hc] 38);have HA : Q (za3 R w (G la nl lc) (E J bt) (E J nx) (G (some ⟨g, o, U⟩) no oc) (E J mk) (E J md) (E J mh) (G ma mn mc) bt nx (wr.alloc (T #[E J dd, G pa ln pc, .bool dec, G ha hn hc] 38)) la' nl' lc' Y va vn vc jz u7 (L ++ []) so [] ∧ Blk (wr.alloc (T #[E J dd, G pa ln pc, .bool dec, G ha hn hc] 38)) wr.heap.size #[E J dd, G pa ln pc, .bool dec, G ha hn hc] 38 ∧ zal (wr.alloc (T #[E J dd, G pa ln pc, .bool dec, G ha hn hc] 38)) pa l ∧ zk 1 zv (wr.alloc (T #[E J dd, G pa ln pc, .bool dec, G ha hn hc] 38)) ha hd) := ⟨HW.out.1.below hbA, Blk.new _ _ _, HW.out.2.1.below hbA, HW.out.2.2.1.below hbA⟩;have hsA : wr.heap.size < (wr.alloc (T #[E J dd, G pa ln pc, .bool dec, G ha hn hc] 38)).heap.size := by simp
     clear hbA;generalize wr.alloc (T #[E J dd, G pa ln pc, .bool dec, G ha hn hc] 38) = A at *;have HK : Q (∀ w', Z A.heap.size A w' → (w'.cell? ⟨wr.heap.size, 1, U⟩ = some (G pa ln pc) ∧ w'.cell? ⟨wr.heap.size, 3, U⟩ = some (G ha hn hc) ∧ w'.cell? ⟨w.heap.size + 1, 2, U⟩ = some (E J mh))) := fun w' hb => ⟨(HA.out.2.1.below hb HA.out.2.1.lt).cell 1, (HA.out.2.1.below hb HA.out.2.1.lt).cell 3, (HA.out.1.mb.below hb HA.out.1.mb.lt).cell 2⟩
     have hX1 : Z A.heap.size A A.drew := (kaa _ _).drew;have hl4 := zB HW.out.2.2.2.1 HW.out.2.2.2.2.1;obtain ⟨nw, hnw⟩ : ∃ nw, Q (nw = (inI (zp l) mh && !inI hd mh)) := ⟨_, rfl⟩;go_cut [11] (fun nv wx => nv = .bool nw ∧ Q (za3 R w (G la nl lc) (E J bt) (E J nx) (G (some ⟨g, o, U⟩) no oc) (E J mk) (E J md) (E J mh) (G ma mn mc) bt nx wx la' nl' lc' Y va vn vc jz u7 (L ++ []) so [] ∧ Blk wx wr.heap.size #[E J dd, G pa ln pc, .bool dec, G ha hn hc] 38))
     case first =>
      cases h1 : inI (zp l) mh
      ·refine wp_region_held_drew (S := fun w' => (w'.cell? ⟨wr.heap.size, 1, U⟩ = some (G pa ln pc) ∧ w'.cell? ⟨wr.heap.size, 3, U⟩ = some (G ha hn hc) ∧ w'.cell? ⟨w.heap.size + 1, 2, U⟩ = some (E J mh))) (by kernel_rfl) (HK.out _ hX1) (fun jq => ?_)
       refine zeq (i := 0) (d := 42) (oi := _) (v := ?_) rfl rfl (by kernel_rfl) (by decide +kernel) (by decide +kernel) (fun _ _ _ h => h) (kab ⟨by rfl, ?_⟩) jq ?_;rotate_left 1
       ·intro w hSw
        (try dsimp only at hSw)
        go_simp;try with_reducible rfl
       try simp only [Act.put, kad, kae, kaf]
       refine zeq (i := 1) (d := 43) (oi := _) (v := ?_) rfl rfl (by kernel_rfl) (by decide +kernel) (by decide +kernel) (fun _ _ _ h => h) (kab ⟨by rfl, ?_⟩) jq ?_;rotate_left 1
       ·intro w hSw
        (try dsimp only at hSw)
        go_simp;try with_reducible rfl
       try simp only [Act.put, kad, kae, kaf]
       refine zeq (i := 3) (d := 45) (oi := _) (v := ?_) rfl rfl (by kernel_rfl) (by decide +kernel) (by decide +kernel) (fun _ _ _ h => h) (kab ⟨by rfl, ?_⟩) jq ?_;rotate_left 1
       ·intro w hSw
        (try dsimp only at hSw)
        go_simp;try with_reducible rfl
       try simp only [Act.put, kad, kae, kaf]
       refine zeq (i := 4) (d := 46) (oi := _) (v := ?_) rfl rfl (by kernel_rfl) (by decide +kernel) (by decide +kernel) (fun _ _ _ h => h) (kab ⟨by rfl, ?_⟩) jq ?_;rotate_left 1
       ·intro w hSw
        (try dsimp only at hSw)
        go_simp;try with_reducible rfl
       try simp only [Act.put, kad, kae, kaf]
       refine wpAnyH_ready (rs := [2]) (by kernel_rfl) (by simp) ?_;refine AllReadyH.cons (o := _) rfl (fun K hK => ?_) AllReadyH.nil;go_simp;(go_at_call 10; refine (zgg pa l pc ln _ HLL.out.1.symm hl4.out.1 (HA.out.2.2.1.below hX1)).mono ?_; rintro e wB ⟨hv, rfl, hoI, hbB⟩; rw [zfs] at hoI; obtain ⟨ga, gn, gc, rfl⟩ := hoI.own.slice zai; have hrw := hoI.own.at zai; have hgn : Q (gn = (zp l).length) := hrw.2.1; have HI : Q (zk 1 zv wB ga (zp l)) := hrw.1; have hX2 : Z A.heap.size A wB := hX1.trans (hbB.mono hX1.size); clear hoI hbB hrw)
       go_wp2_with fail
       refine hK.out _ _ (HK.out _ hX2) (fun jq => ?_);clear hK K;refine wpAnyH_ready (rs := [5]) (by kernel_rfl) (by simp) ?_;refine AllReadyH.cons (o := _) rfl (fun K hK => ?_) AllReadyH.nil;go_simp;(go_at_call 74; refine (zfq ga (zp l) gc gn mh _ hgn.out (by have := zdy l; omega) (HI.out)).mono ?_; rw [h1]; rintro e wC ⟨rfl, hbC⟩; have hX3 : Z A.heap.size A wC := hX2.trans (hbC.mono hX2.size); clear hbC)
       go_wp2_with fail
       refine hK.out _ _ (HK.out _ hX3) (fun jq => ?_);clear hK K;refine zeq (i := 6) (d := 48) (oi := _) (v := ?_) rfl rfl (by kernel_rfl) (by decide +kernel) (by decide +kernel) (fun _ _ _ h => h) (kab ⟨by rfl, ?_⟩) jq ?_;rotate_left 1
       ·intro w hSw
        (try dsimp only at hSw)
        go_simp;try with_reducible rfl
       try simp only [Act.put, kad, kae, kaf]
       refine zeq (i := 7) (d := 49) (oi := _) (v := undef) rfl rfl (by kernel_rfl) (by decide +kernel) (by decide +kernel) (fun _ _ _ h => h) (Or.inr ⟨by rfl, rfl⟩) jq ?_;try simp only [Act.put, kad, kae, kaf]
       refine zeq (i := 8) (d := 50) (oi := _) (v := undef) rfl rfl (by kernel_rfl) (by decide +kernel) (by decide +kernel) (fun _ _ _ h => h) (Or.inr ⟨by rfl, rfl⟩) jq ?_;try simp only [Act.put, kad, kae, kaf]
       refine zeq (i := 9) (d := 51) (oi := _) (v := undef) rfl rfl (by kernel_rfl) (by decide +kernel) (by decide +kernel) (fun _ _ _ h => h) (Or.inr ⟨by rfl, rfl⟩) jq ?_;try simp only [Act.put, kad, kae, kaf]
       refine zeq (i := 10) (d := 52) (oi := _) (v := undef) rfl rfl (by kernel_rfl) (by decide +kernel) (by decide +kernel) (fun _ _ _ h => h) (Or.inr ⟨by rfl, rfl⟩) jq ?_;try simp only [Act.put, kad, kae, kaf]
       refine zeq (i := 11) (d := 53) (oi := _) (v := undef) rfl rfl (by kernel_rfl) (by decide +kernel) (by decide +kernel) (fun _ _ _ h => h) (Or.inr ⟨by rfl, rfl⟩) jq ?_;try simp only [Act.put, kad, kae, kaf]
       refine zeq (i := 12) (d := 54) (oi := _) (v := undef) rfl rfl (by kernel_rfl) (by decide +kernel) (by decide +kernel) (fun _ _ _ h => h) (Or.inr ⟨by rfl, rfl⟩) jq ?_;try simp only [Act.put, kad, kae, kaf]
       refine zeq (i := 13) (d := 55) (oi := _) (v := ?_) rfl rfl (by kernel_rfl) (by decide +kernel) (by decide +kernel) (fun _ _ _ h => h) (kab ⟨by rfl, ?_⟩) jq ?_;rotate_left 1
       ·intro w hSw
        (try dsimp only at hSw)
        go_simp;try with_reducible rfl
       try simp only [Act.put, kad, kae, kaf]
       refine zeq (i := 14) (d := 11) (oi := _) (v := ?_) rfl rfl (by kernel_rfl) (by decide +kernel) (by decide +kernel) (fun _ _ _ h => h) (kab ⟨by rfl, ?_⟩) jq ?_;rotate_left 1
       ·intro w hSw
        (try dsimp only at hSw)
        go_simp;try with_reducible rfl
       try simp only [Act.put, kad, kae, kaf]
       refine wpAnyH_done (by kernel_rfl) ?_ _;have HF := zB (HA.out.1.below hX3) (HA.out.2.1.below hX3 HA.out.2.1.lt);have hnw1 : nw = false := by rw [hnw.out, h1]; rfl
       go_wp2_with fail
       go_meet
       case rel => exact ⟨by rw [hnw1], HF⟩
      ·cases h2 : inI hd mh
       ·go_region_held3 (fun w' => (w'.cell? ⟨wr.heap.size, 1, U⟩ = some (G pa ln pc) ∧ w'.cell? ⟨wr.heap.size, 3, U⟩ = some (G ha hn hc) ∧ w'.cell? ⟨w.heap.size + 1, 2, U⟩ = some (E J mh))) (
         first
        | (with_reducible exact HK.out _ hX4)
        | (with_reducible exact HK.out _ hX3)
        | (with_reducible exact HK.out _ hX2)
        | (with_reducible exact HK.out _ hX1)) (
         first
         | (have hhh := hX3; go_at_call 74; refine (zfq ha hd hc hn mh _ HLL.out.2.symm (by have := hl4.out.2; omega) (HA.out.2.2.2.below hX3)).mono ?_; rw [h2]; rintro e wD ⟨rfl, hbD⟩; have hX4 : Z A.heap.size A wD := hX3.trans (hbD.mono hX3.size); clear hbD)
         | (have hhh := hX2; go_at_call 74; refine (zfq ga (zp l) gc gn mh _ hgn.out (by have := zdy l; omega) (HI.out)).mono ?_; rw [h1]; rintro e wC ⟨rfl, hbC⟩; have hX3 : Z A.heap.size A wC := hX2.trans (hbC.mono hX2.size); clear hbC)
         | (go_at_call 10; refine (zgg pa l pc ln _ HLL.out.1.symm hl4.out.1 (HA.out.2.2.1.below hX1)).mono ?_; rintro e wB ⟨hv, rfl, hoI, hbB⟩; rw [zfs] at hoI; obtain ⟨ga, gn, gc, rfl⟩ := hoI.own.slice zai; have hrw := hoI.own.at zai; have hgn : Q (gn = (zp l).length) := hrw.2.1; have HI : Q (zk 1 zv wB ga (zp l)) := hrw.1; have hX2 : Z A.heap.size A wB := hX1.trans (hbB.mono hX1.size); clear hoI hbB hrw))
        all_goals
         have HF := zB (HA.out.1.below hX4) (HA.out.2.1.below hX4 HA.out.2.1.lt);have hnw1 : nw = true := by rw [hnw.out, h1, h2]; rfl
         go_wp2_with fail
         go_meet
         case rel => exact ⟨by rw [hnw1], HF⟩
       ·go_region_held3 (fun w' => (w'.cell? ⟨wr.heap.size, 1, U⟩ = some (G pa ln pc) ∧ w'.cell? ⟨wr.heap.size, 3, U⟩ = some (G ha hn hc) ∧ w'.cell? ⟨w.heap.size + 1, 2, U⟩ = some (E J mh))) (
         first
        | (with_reducible exact HK.out _ hX4)
        | (with_reducible exact HK.out _ hX3)
        | (with_reducible exact HK.out _ hX2)
        | (with_reducible exact HK.out _ hX1)) (
         first
         | (have hhh := hX3; go_at_call 74; refine (zfq ha hd hc hn mh _ HLL.out.2.symm (by have := hl4.out.2; omega) (HA.out.2.2.2.below hX3)).mono ?_; rw [h2]; rintro e wD ⟨rfl, hbD⟩; have hX4 : Z A.heap.size A wD := hX3.trans (hbD.mono hX3.size); clear hbD)
         | (have hhh := hX2; go_at_call 74; refine (zfq ga (zp l) gc gn mh _ hgn.out (by have := zdy l; omega) (HI.out)).mono ?_; rw [h1]; rintro e wC ⟨rfl, hbC⟩; have hX3 : Z A.heap.size A wC := hX2.trans (hbC.mono hX2.size); clear hbC)
         | (go_at_call 10; refine (zgg pa l pc ln _ HLL.out.1.symm hl4.out.1 (HA.out.2.2.1.below hX1)).mono ?_; rintro e wB ⟨hv, rfl, hoI, hbB⟩; rw [zfs] at hoI; obtain ⟨ga, gn, gc, rfl⟩ := hoI.own.slice zai; have hrw := hoI.own.at zai; have hgn : Q (gn = (zp l).length) := hrw.2.1; have HI : Q (zk 1 zv wB ga (zp l)) := hrw.1; have hX2 : Z A.heap.size A wB := hX1.trans (hbB.mono hX1.size); clear hoI hbB hrw))
        all_goals
         have HF := zB (HA.out.1.below hX4) (HA.out.2.1.below hX4 HA.out.2.1.lt);have hnw1 : nw = false := by rw [hnw.out, h1, h2]; rfl
         go_wp2_with fail
         go_meet
         case rel => exact ⟨by rw [hnw1], HF⟩
     case rest =>
      obtain ⟨rfl, HC⟩ := hcut;have HK : Q (∀ w', Z wc.heap.size wc w' → (w'.cell? ⟨wr.heap.size, 3, U⟩ = some (G ha hn hc) ∧ w'.cell? ⟨w.heap.size + 1, 2, U⟩ = some (E J mh)) ∧ zk 1 zv w' ha hd) := fun w' hb => ⟨⟨(HC.out.2.below hb HC.out.2.lt).cell 3, (HC.out.1.mb.below hb HC.out.1.mb.lt).cell 2⟩, (HW.out.2.2.2.2.2.2.below (HC.out.1.bel.trans (hb.mono HC.out.1.bel.size))).1⟩
      obtain ⟨i3, i4⟩ := (HK.out _ (kaa _ _)).1;have hhd : hd.length ≤ 100000 := hl4.out.2;have l0 := HC.out.2.lt;have l1 := HC.out.1.mb.lt;have hwc := HC.out.1.sz;go_upto_region 11 with fail
      go_cut [12] (fun hv wx => ∃ a c, hv = G a (hn + 1) c ∧ Q (zd 3 1 zv wx (w.heap.size + 4) (G a (hn + 1) c) (hd ++ [mh]) ∧ za3 R w (G la nl lc) (E J bt) (E J nx) (G (some ⟨g, o, U⟩) no oc) (E J mk) (E J md) (E J mh) (G ma mn mc) bt nx wx la' nl' lc' Y va vn vc jz u7 (L ++ []) so [] ∧ Blk wx wr.heap.size #[E J dd, G pa ln pc, .bool dec, G ha hn hc] 38))
      case first =>
       clear i3 i4;refine zcf (S := fun w' => (w'.cell? ⟨wr.heap.size, 3, U⟩ = some (G ha hn hc) ∧ w'.cell? ⟨w.heap.size + 1, 2, U⟩ = some (E J mh))) 8 (by kernel_rfl) (HK.out _ ((kaa _ _).drew)).1 (fun jq => ?_);refine tk 1 57 (v := ?_) rfl rfl (by decide +kernel) (fun _ _ _ h => h) (by rfl) ?_ jq ?_;rotate_left 1
       ·intro w h
        (try dsimp only at h)
        go_simp;try with_reducible rfl
       refine tk 2 58 (v := ?_) rfl rfl (by decide +kernel) (fun _ _ _ h => h) (by rfl) ?_ jq ?_;rotate_left 1
       ·intro w h
        (try dsimp only at h)
        go_simp;try with_reducible rfl
       refine tk 4 60 (v := ?_) rfl rfl (by decide +kernel) (fun _ _ _ h => h) (by rfl) ?_ jq ?_;rotate_left 1
       ·intro w h
        (try dsimp only at h)
        go_simp;try with_reducible rfl
       refine tk 5 61 (v := ?_) rfl rfl (by decide +kernel) (fun _ _ _ h => h) (by rfl) ?_ jq ?_;rotate_left 1
       ·intro w h
        (try dsimp only at h)
        go_simp;try with_reducible rfl
       refine ze6 (rs := [0, 6]) (by kernel_rfl) (by simp) ?_;refine za8.cons (o := _) rfl (fun K hK => ?_) ?_
       ·go_simp
        refine kgo hK (by decide +kernel) ((HK.out _ (((kaa _ _).drew).alloc (by simp) _)).1) (fun jq => ?_);clear hK K;refine ze6 (rs := [3, 6]) (by kernel_rfl) (by simp) ?_;refine za8.cons (o := _) rfl (fun K hK => ?_) ?_
        ·refine zb3 zai zcx Try.underlying36 zcn rfl (by decide) _ (by first | rfl | simp [kac, yielded]) (.tmp 56) (.tmp 58) rfl _ _ [] rfl (zak.made (Blk.new _ _ _) _) ha hn hc hd rfl HLL.out.2.symm (HK.out _ (((kaa _ _).drew).alloc (by simp) _)).2 (by unfold maxLen; simp; omega) (by simp; omega) (kag _) ?_
         intro a30 n30 c30 w30 qQ hn30 jY;have h30 : Z wc.heap.size wc w30 := (((kaa _ _).drew).alloc (by simp) _).trans (jY.mono (by first | omega | (simp; omega) | simp));have h30s := h30.size;have h30b := jY.size;(try simp at h30b)
         have HO30 : Q (zak 3 1 zv w30 wc.heap.size (G a30 n30 c30) hd) := qQ.mono (by first | omega | (simp; omega) | simp);clear qQ hn30;refine kgo hK (by decide +kernel) ((HK.out _ h30).1) (fun jq => ?_);clear hK K;refine rdy 6 (by kernel_rfl) rfl (fun K hK => ?_);go_simp;refine kgo hK (by decide +kernel) ((HK.out _ (h30.alloc h30.size _)).1) (fun jq => ?_);clear hK K;refine rdy 7 (by kernel_rfl) rfl (fun K hK => ?_);refine zb3 zai zcx Try.underlying36 zcn rfl (by decide) _ (by first | rfl | simp [kac, yielded]) (.tmp 59) (.tmp 62) rfl wc.heap.size (G a30 n30 c30) hd rfl (HO30.out.below (zi w30 _)) _ 1 1 [mh] rfl rfl (zk.one (Blk.new _ _ _) rfl) (by unfold maxLen; simp; omega) (by simp; omega) (by first | omega | (simp; omega) | simp) ?_;intro a33 n33 c33 w33 qw hn33 qk;have h33 : Z wc.heap.size wc w33 := (h30.alloc h30.size _).trans qk;have h33s := h33.size;have HO33 := zA qw;clear qw hn33 qk;refine kgo hK (by decide +kernel) ((HK.out _ h33).1) (fun jq => ?_);clear hK K;refine rdy 8 (by kernel_rfl) rfl (fun K hK => ?_);go_simp;refine zbb hK (by decide +kernel) ?_;clear hK K jq;refine zbo (by kernel_rfl) ?_ _;have hat := HO33.out.at zai;have hn33' : n33 = hn + 1 := by rw [hat.2.1, List.length_append, HLL.out.2]; rfl
         subst hn33';have HF := zC ((HO33.out.resolve_right (fun h => by have h1 := h.1; simp at h1)).mono hwc) (HC.out.1.below h33) (HC.out.2.below h33 HC.out.2.lt);clear hat;go_wp2_with fail
         go_meet
         case rel => exact ⟨a33, c33, rfl, HF⟩
        refine za8.cons (o := _) rfl (fun K hK => ?_) za8.nil
        ·go_simp
         refine kgo hK (by decide +kernel) ((HK.out _ ((((kaa _ _).drew).alloc (by simp) _).alloc (by simp <;> omega) _)).1) (fun jq => ?_);clear hK K;refine rdy 3 (by kernel_rfl) rfl (fun K hK => ?_);refine zb3 zai zcx Try.underlying36 zcn rfl (by decide) _ (by first | rfl | simp [kac, yielded]) (.tmp 56) (.tmp 58) rfl _ _ [] rfl (zak.made ((Blk.new _ _ _).alloc _) _) ha hn hc hd rfl HLL.out.2.symm (HK.out _ ((((kaa _ _).drew).alloc (by simp) _).alloc (by simp <;> omega) _)).2 (by unfold maxLen; simp; omega) (by simp; omega) (kag _) ?_;intro a30 n30 c30 w30 qQ hn30 jY;have h30 : Z wc.heap.size wc w30 := ((((kaa _ _).drew).alloc (by simp) _).alloc (by simp <;> omega) _).trans (jY.mono (by first | omega | (simp; omega) | simp));have h30s := h30.size;have h30b := jY.size;(try simp at h30b)
         have HO30 : Q (zak 3 1 zv w30 wc.heap.size (G a30 n30 c30) hd) := qQ.mono (by first | omega | (simp; omega) | simp);clear qQ hn30;refine kgo hK (by decide +kernel) ((HK.out _ h30).1) (fun jq => ?_);clear hK K;refine rdy 7 (by kernel_rfl) rfl (fun K hK => ?_);refine zb3 zai zcx Try.underlying36 zcn rfl (by decide) _ (by first | rfl | simp [kac, yielded]) (.tmp 59) (.tmp 62) rfl wc.heap.size (G a30 n30 c30) hd rfl (HO30.out) _ 1 1 [mh] rfl rfl (zk.one (Blk.below (Blk.drew (zaq _ _ _)) jY (by first | omega | (simp; omega) | simp)) rfl) (by unfold maxLen; simp; omega) (by simp; omega) (by first | omega | (simp; omega) | simp) ?_;intro a33 n33 c33 w33 qw hn33 qk;have h33 : Z wc.heap.size wc w33 := h30.trans qk;have h33s := h33.size;have HO33 := zA qw;clear qw hn33 qk;refine kgo hK (by decide +kernel) ((HK.out _ h33).1) (fun jq => ?_);clear hK K;refine rdy 8 (by kernel_rfl) rfl (fun K hK => ?_);go_simp;refine zbb hK (by decide +kernel) ?_;clear hK K jq;refine zbo (by kernel_rfl) ?_ _;have hat := HO33.out.at zai;have hn33' : n33 = hn + 1 := by rw [hat.2.1, List.length_append, HLL.out.2]; rfl
         subst hn33';have HF := zC ((HO33.out.resolve_right (fun h => by have h1 := h.1; simp at h1)).mono hwc) (HC.out.1.below h33) (HC.out.2.below h33 HC.out.2.lt);clear hat;go_wp2_with fail
         go_meet
         case rel => exact ⟨a33, c33, rfl, HF⟩
       refine za8.cons (o := _) rfl (fun K hK => ?_) za8.nil
       ·go_simp
        refine kgo hK (by decide +kernel) ((HK.out _ (((kaa _ _).drew).alloc (by simp) _)).1) (fun jq => ?_);clear hK K;refine rdy 0 (by kernel_rfl) rfl (fun K hK => ?_);go_simp;refine kgo hK (by decide +kernel) ((HK.out _ ((((kaa _ _).drew).alloc (by simp) _).alloc (by simp <;> omega) _)).1) (fun jq => ?_);clear hK K;refine rdy 3 (by kernel_rfl) rfl (fun K hK => ?_);refine zb3 zai zcx Try.underlying36 zcn rfl (by decide) _ (by first | rfl | simp [kac, yielded]) (.tmp 56) (.tmp 58) rfl _ _ [] rfl (zak.made (zaq _ _ _) _) ha hn hc hd rfl HLL.out.2.symm (HK.out _ ((((kaa _ _).drew).alloc (by simp) _).alloc (by simp <;> omega) _)).2 (by unfold maxLen; simp; omega) (by simp; omega) (kag _) ?_;intro a30 n30 c30 w30 qQ hn30 jY;have h30 : Z wc.heap.size wc w30 := ((((kaa _ _).drew).alloc (by simp) _).alloc (by simp <;> omega) _).trans (jY.mono (by first | omega | (simp; omega) | simp));have h30s := h30.size;have h30b := jY.size;(try simp at h30b)
        have HO30 : Q (zak 3 1 zv w30 wc.heap.size (G a30 n30 c30) hd) := qQ.mono (by first | omega | (simp; omega) | simp);clear qQ hn30;refine kgo hK (by decide +kernel) ((HK.out _ h30).1) (fun jq => ?_);clear hK K;refine rdy 7 (by kernel_rfl) rfl (fun K hK => ?_);refine zb3 zai zcx Try.underlying36 zcn rfl (by decide) _ (by first | rfl | simp [kac, yielded]) (.tmp 59) (.tmp 62) rfl wc.heap.size (G a30 n30 c30) hd rfl (HO30.out) _ 1 1 [mh] rfl rfl (zk.one (Blk.below (Blk.drew ((Blk.new _ _ _).alloc _)) jY (by first | omega | (simp; omega) | simp)) rfl) (by unfold maxLen; simp; omega) (by simp; omega) (by first | omega | (simp; omega) | simp) ?_;intro a33 n33 c33 w33 qw hn33 qk;have h33 : Z wc.heap.size wc w33 := h30.trans qk;have h33s := h33.size;have HO33 := zA qw;clear qw hn33 qk;refine kgo hK (by decide +kernel) ((HK.out _ h33).1) (fun jq => ?_);clear hK K;refine rdy 8 (by kernel_rfl) rfl (fun K hK => ?_);go_simp;refine zbb hK (by decide +kernel) ?_;clear hK K jq;refine zbo (by kernel_rfl) ?_ _;have hat := HO33.out.at zai;have hn33' : n33 = hn + 1 := by rw [hat.2.1, List.length_append, HLL.out.2]; rfl
        subst hn33';have HF := zC ((HO33.out.resolve_right (fun h => by have h1 := h.1; simp at h1)).mono hwc) (HC.out.1.below h33) (HC.out.2.below h33 HC.out.2.lt);clear hat;go_wp2_with fail
        go_meet
        case rel => exact ⟨a33, c33, rfl, HF⟩
      case rest =>
       obtain ⟨a11, c11, rfl, HC11⟩ := hcut;go_upto_region 12 with fail
       clear HC HK i3 i4 l0 l1 hwc hX1 HA hsA;have x1 := HC11.out.2.2.cell 1;simp only [kah, kai, kaj] at x1
       go_wp2_with fail
       clear x1;refine (zgg pa l pc ln wc HLL.out.1.symm hl4.out.1 (HW.out.2.2.2.2.2.1.below HC11.out.2.1.bel).1).mono ?_;rintro e wB ⟨hv, rfl, hoI, hbB⟩;rw [zfs] at hoI;obtain ⟨ga, gn, gc, rfl⟩ := hoI.own.slice zai;have hgn := zA ((hoI.own.at zai).2.1);have HB := zC (HC11.out.1.below hbB (kag _)) (HC11.out.2.1.below hbB) (HC11.out.2.2.below hbB HC11.out.2.2.lt);have hne := zA (HW.out.1.own.other (kag _));have qy : Q ((hn + 1 = gn ↔ (hd ++ [mh]).length = (zp l).length)) := by show _ ↔ _; rw [List.length_append, HLL.out.2, hgn.out]; simp
       clear hoI hbB HC11;obtain ⟨b0, b1, b2, b3⟩ := HB.out.2.2.cells4;obtain ⟨c0, c1, c2, c3⟩ := HB.out.2.1.mb.cells4;have lb := HB.out.2.2.lt;have lm := HB.out.2.1.mb.lt;have lo := HB.out.2.1.ob.lt;have hszB := HB.out.2.1.sz;go_upto_block 2 with fail
       go_cut [7, 13] (fun sv _ wx => ∃ (sv2 : Value), sv2 = sv ∧ ∃ (dec2 : Bool) (aq : Option Addr) (nq cq : Nat) (hd2 : List Int) (la2 : Option Addr) (nl2 lc2 : Nat) (Y2 : List XL), Q (za3 R w (G la nl lc) (E J bt) (E J nx) (G (some ⟨g, o, U⟩) no oc) (E J mk) (E J md) (E J mh) (G ma mn mc) bt nx wx la2 nl2 lc2 Y2 va vn vc jz sv2 (L ++ (zq (mk, md, mh, ml) (dd, l, dec, hd)).2.1) so (zq (mk, md, mh, ml) (dd, l, dec, hd)).2.2 ∧ Blk wx wr.heap.size #[E J dd, G pa ln pc, .bool dec2, G aq nq cq] 38 ∧ (zq (mk, md, mh, ml) (dd, l, dec, hd)).1 = some (dd, l, dec2, hd2) ∧ hd2.length = nq ∧ OldX R w (w.heap.size + 4) wx (dd, ((pa, pc), l), dec2, ((aq, cq), hd2)) ∧ Y2.length ≤ 900001))
       case first =>
        have nwT : Q (nw = true → inI (zp l) mh = true ∧ inI hd mh = false) := by intro h; rw [hnw.out] at h; simpa using h
        have nwF : Q (nw = false → ¬ (inI (zp l) mh = true ∧ inI hd mh = false)) := by intro h h2; rw [hnw.out, h2.1, h2.2] at h; cases h
        by_cases k2 : mk = 2
        ·subst k2
         have k3 : ¬ (2 : Int) = 3 := by decide
         have k6 : ¬ (2 : Int) = 6 := by decide
         have k7 : ¬ (2 : Int) = 7 := by decide
         cases dec with
         | false =>
          cases nw with
          | true =>
           have nwp := nwT.out rfl;by_cases al : hn + 1 = gn
           ·skip
            as_aux_lemma =>
             have HP := zma (m := (2, md, mh, ml)) (o := (dd, l, false, hd)) ⟨rfl, rfl, nwp⟩ (qy.out.1 al);subst al;have ali : ((hn : Int) + 1 == ((hn + 1 : Nat) : Int)) = true := by rw [beq_iff_eq]; omega
             have fb := HB.out.2.2.free 3;have H6 : Q (za3 R w (G la nl lc) (E J bt) (E J nx) (G (some ⟨g, o, U⟩) no oc) (E J 2) (E J md) (E J mh) (G ma mn mc) bt nx (r wB ⟨wr.heap.size, 3, U⟩ (G a11 (hn + 1) c11)) la' nl' lc' Y va vn vc jz u7 (L ++ []) so [] ∧ zd 3 1 zv (r wB ⟨wr.heap.size, 3, U⟩ (G a11 (hn + 1) c11)) (w.heap.size + 4) (G a11 (hn + 1) c11) (hd ++ [mh]) ∧ Blk (r wB ⟨wr.heap.size, 3, U⟩ (G a11 (hn + 1) c11)) wr.heap.size #[E J dd, G pa ln pc, .bool false, G a11 (hn + 1) c11] 38) := ⟨HB.out.2.1.box HB.out.2.2 hne.out hsz4 _, HB.out.1.setOther (a := ⟨wr.heap.size, 3, U⟩) HB.out.2.2 (by decide) _, HB.out.2.2.set 3 _⟩;go_upto_region 15 with fail
             clear b0 b1 b2 b3 c0 c1 c2 c3 fb lb lm lo;generalize r wB ⟨wr.heap.size, 3, U⟩ (G a11 (hn + 1) c11) = wE at *;obtain ⟨b0, b1, b2, b3⟩ := H6.out.2.2.cells4;obtain ⟨c0, c1, c2, c3⟩ := H6.out.1.mb.cells4;have lb := H6.out.2.2.lt;have lm := H6.out.1.mb.lt;have lo := H6.out.1.ob.lt;have hszB := H6.out.1.sz;have fb2 := H6.out.2.2.free 2;have fb3 := H6.out.2.2.free 3;have H7 : Q (za3 R w (G la nl lc) (E J bt) (E J nx) (G (some ⟨g, o, U⟩) no oc) (E J 2) (E J md) (E J mh) (G ma mn mc) bt nx (r (r wE ⟨wr.heap.size, 2, U⟩ (.bool true)) ⟨wr.heap.size, 3, U⟩ (G U 0 0)) la' nl' lc' Y va vn vc jz u7 (L ++ []) so [] ∧ Blk (r (r wE ⟨wr.heap.size, 2, U⟩ (.bool true)) ⟨wr.heap.size, 3, U⟩ (G U 0 0)) wr.heap.size #[E J dd, G pa ln pc, .bool true, G U 0 0] 38) := ⟨(H6.out.1.box H6.out.2.2 hne.out hsz4 _).box (H6.out.2.2.set 2 _) hne.out hsz4 _, (H6.out.2.2.set 2 _).set 3 _⟩;go_upto_region 17 with fail
             clear b0 b1 b2 b3 c0 c1 c2 c3 fb2 fb3 lb lm lo;generalize (r (r wE ⟨wr.heap.size, 2, U⟩ (.bool true)) ⟨wr.heap.size, 3, U⟩ (G U 0 0)) = wF at *;have HK : Q (∀ w', Z wF.heap.size wF w' → ((w'.cell? ⟨w.heap.size, 0, U⟩ = some (G la nl lc) ∧ w'.cell? ⟨wr.heap.size, 0, U⟩ = some (E J dd) ∧ w'.cell? ⟨wr.heap.size, 1, U⟩ = some (G pa ln pc)) ∧ (w'.cell? ⟨w.heap.size + 3, 0, U⟩ = some (G la' nl' lc') ∧ w'.frozen? ⟨w.heap.size + 3, 0, U⟩ = false)) ∧ zk 3 zaj w' la Y0) := fun w' hb => ⟨⟨⟨((H7.out.1).hb.below hb (H7.out.1).hb.lt).cell 0, ((H7.out.2).below hb (H7.out.2).lt).cell 0, ((H7.out.2).below hb (H7.out.2).lt).cell 1⟩, ⟨((H7.out.1).ob.below hb (H7.out.1).ob.lt).cell 0, ((H7.out.1).ob.below hb (H7.out.1).ob.lt).free 0⟩⟩, HG.out.1.log.below ((H7.out.1).bel.trans (hb.mono (H7.out.1).bel.size))⟩
             have hY0 : Y0.length ≤ 900000 := HG.out.2.2.2.2;have l0 := (H7.out.1).hb.lt;go_cut [13] (fun _ wx => ∃ a n c, Q (za3 R w (G la nl lc) (E J bt) (E J nx) (G (some ⟨g, o, U⟩) no oc) (E J 2) (E J md) (E J mh) (G ma mn mc) bt nx wx a n c (Y0 ++ [(5, dd, (pa, pc), l)]) va vn vc jz u7 (L ++ [(5, dd, l)]) so [] ∧ Blk wx wr.heap.size #[E J dd, G pa ln pc, .bool true, G U 0 0] 38))
             case first =>
              refine zcf (S := fun w' => ((w'.cell? ⟨w.heap.size, 0, U⟩ = some (G la nl lc) ∧ w'.cell? ⟨wr.heap.size, 0, U⟩ = some (E J dd) ∧ w'.cell? ⟨wr.heap.size, 1, U⟩ = some (G pa ln pc)) ∧ (w'.cell? ⟨w.heap.size + 3, 0, U⟩ = some (G la' nl' lc') ∧ w'.frozen? ⟨w.heap.size + 3, 0, U⟩ = false))) 12 (by kernel_rfl) (HK.out _ ((kaa _ _).drew)).1 (fun jq => ?_);refine tk 1 89 (v := ?_) rfl rfl (by decide +kernel) (fun _ _ _ h => h) (by rfl) ?_ jq ?_;rotate_left 1
              ·intro w h
               (try dsimp only at h)
               go_simp;try with_reducible rfl
              refine tk 2 90 (v := ?_) rfl rfl (by decide +kernel) (fun _ _ _ h => h) (by rfl) ?_ jq ?_;rotate_left 1
              ·intro w h
               (try dsimp only at h)
               go_simp;try with_reducible rfl
              refine tk 4 92 (v := ?_) rfl rfl (by decide +kernel) (fun _ _ _ h => h) (by rfl) ?_ jq ?_;rotate_left 1
              ·intro w h
               (try dsimp only at h)
               go_simp;try with_reducible rfl
              refine tk 5 93 (v := ?_) rfl rfl (by decide +kernel) (fun _ _ _ h => h) (by rfl) ?_ jq ?_;rotate_left 1
              ·intro w h
               (try dsimp only at h)
               go_simp;try with_reducible rfl
              refine tk 6 94 (v := ?_) rfl rfl (by decide +kernel) (fun _ _ _ h => h) (by rfl) ?_ jq ?_;rotate_left 1
              ·intro w h
               (try dsimp only at h)
               go_simp;try with_reducible rfl
              refine tk 7 95 (v := ?_) rfl rfl (by decide +kernel) (fun _ _ _ h => h) (by rfl) ?_ jq ?_;rotate_left 1
              ·intro w h
               (try dsimp only at h)
               go_simp;try with_reducible rfl
              refine tk 8 96 (v := ?_) rfl rfl (by decide +kernel) (fun _ _ _ h => h) (by rfl) ?_ jq ?_;rotate_left 1
              ·intro w h
               (try dsimp only at h)
               go_simp;try with_reducible rfl
              refine ze6 (rs := [0, 9]) (by kernel_rfl) (by simp) ?_;refine za8.cons (o := _) rfl (fun K hK => ?_) ?_
              ·go_simp
               refine kgo hK (by decide +kernel) ((HK.out _ (((kaa _ _).drew).alloc (by simp) _)).1) (fun jq => ?_);clear hK K;refine ze6 (rs := [3, 9]) (by kernel_rfl) (by simp) ?_;refine za8.cons (o := _) rfl (fun K hK => ?_) ?_
               ·refine zb3 za4 zcr Try.underlying26 zcl rfl (by decide) _ (by first | rfl | simp [kac, yielded]) (.tmp 88) (.tmp 90) rfl _ _ [] rfl (zak.made (Blk.new _ _ _) _) la nl lc Y0 rfl HG.out.1.ln (HK.out _ (((kaa _ _).drew).alloc (by simp) _)).2 (by unfold maxLen; simp; omega) (by simp; omega) (kag _) ?_
                intro a30 n30 c30 w30 qQ hn30 jY;have h30 : Z wF.heap.size wF w30 := (((kaa _ _).drew).alloc (by simp) _).trans (jY.mono (by first | omega | (simp; omega) | simp));have h30s := h30.size;have h30b := jY.size;(try simp at h30b)
                have HO30 : Q (zak 68 3 zaj w30 wF.heap.size (G a30 n30 c30) Y0) := qQ.mono (by first | omega | (simp; omega) | simp);clear qQ hn30;refine kgo hK (by decide +kernel) ((HK.out _ h30).1) (fun jq => ?_);clear hK K;refine rdy 9 (by kernel_rfl) rfl (fun K hK => ?_);go_simp;refine kgo hK (by decide +kernel) ((HK.out _ (h30.alloc h30.size _)).1) (fun jq => ?_);clear hK K;refine rdy 10 (by kernel_rfl) rfl (fun K hK => ?_);refine zb3 za4 zcr Try.underlying26 zcl rfl (by decide) _ (by first | rfl | simp [kac, yielded]) (.tmp 91) (.tmp 97) rfl wF.heap.size (G a30 n30 c30) Y0 rfl (HO30.out.below (zi w30 _)) _ 1 1 [(5, dd, (pa, pc), l)] rfl rfl (zk.one (Blk.new _ _ _) (by simp [zaj, HLL.out.1])) (by unfold maxLen; simp; omega) (by simp; omega) (by first | omega | (simp; omega) | simp) ?_;intro a33 n33 c33 w33 qw hn33 qk;have h33 : Z wF.heap.size wF w33 := (h30.alloc h30.size _).trans qk;have h33s := h33.size;have HO33 := zA qw;clear qw hn33 qk;refine kgo hK (by decide +kernel) ((HK.out _ h33).1) (fun jq => ?_);clear hK K;obtain ⟨-, p0, p1⟩ := (HK.out _ h33).1;have p2 := ((H7.out.1).ob.below h33 (H7.out.1).ob.lt).lt;refine tk 11 99 (v := ?_) rfl rfl (by decide +kernel) (fun _ _ _ h => h) (by rfl) ?_ jq ?_;rotate_left 1
                ·intro w h
                 (try dsimp only at h)
                 go_simp;try with_reducible rfl
                refine rdy 12 (by kernel_rfl) rfl (fun K hK => ?_);go_simp;refine zbb hK (by decide +kernel) ?_;clear hK K jq;refine zbo (by kernel_rfl) ?_ _;have hO : zd 68 3 zaj w33 (w.heap.size + 4) (G a33 n33 c33) (Y0 ++ [(5, dd, (pa, pc), l)]) := (HO33.out.resolve_right (fun h => by have h1 := h.1; simp at h1)).mono (H7.out.1).sz
                have HF : Q (za3 R w (G la nl lc) (E J bt) (E J nx) (G (some ⟨g, o, U⟩) no oc) (E J 2) (E J md) (E J mh) (G ma mn mc) bt nx (r w33 ⟨w.heap.size + 3, 0, U⟩ (G a33 n33 c33)) a33 n33 c33 (Y0 ++ [(5, dd, (pa, pc), l)]) va vn vc jz u7 (L ++ [(5, dd, l)]) so [] ∧ Blk (r w33 ⟨w.heap.size + 3, 0, U⟩ (G a33 n33 c33)) wr.heap.size #[E J dd, G pa ln pc, .bool true, G U 0 0] 38) := by
                 refine ⟨((H7.out.1).below h33).note hO (by rw [kak, HG.out.1.says]; rfl) (fun y hy => ?_), (((H7.out.2).below h33 (H7.out.2).lt).setOther (a := ⟨w.heap.size + 3, 0, U⟩) (by simp; omega) _)⟩;rcases kal.1 hy with hy | hy
                 ·exact HG.out.1.parts y hy
                 ·rw [kam.1 hy]; first | exact HW.out.2.2.2.2.2.1 | exact zae.nil _ _ _
                clear p0 p1 p2;go_wp2_with fail
                go_meet
                case rel => exact ⟨a33, n33, c33, HF⟩
               refine za8.cons (o := _) rfl (fun K hK => ?_) za8.nil
               ·go_simp
                refine kgo hK (by decide +kernel) ((HK.out _ ((((kaa _ _).drew).alloc (by simp) _).alloc (by simp <;> omega) _)).1) (fun jq => ?_);clear hK K;refine rdy 3 (by kernel_rfl) rfl (fun K hK => ?_);refine zb3 za4 zcr Try.underlying26 zcl rfl (by decide) _ (by first | rfl | simp [kac, yielded]) (.tmp 88) (.tmp 90) rfl _ _ [] rfl (zak.made ((Blk.new _ _ _).alloc _) _) la nl lc Y0 rfl HG.out.1.ln (HK.out _ ((((kaa _ _).drew).alloc (by simp) _).alloc (by simp <;> omega) _)).2 (by unfold maxLen; simp; omega) (by simp; omega) (kag _) ?_;intro a30 n30 c30 w30 qQ hn30 jY;have h30 : Z wF.heap.size wF w30 := ((((kaa _ _).drew).alloc (by simp) _).alloc (by simp <;> omega) _).trans (jY.mono (by first | omega | (simp; omega) | simp));have h30s := h30.size;have h30b := jY.size;(try simp at h30b)
                have HO30 : Q (zak 68 3 zaj w30 wF.heap.size (G a30 n30 c30) Y0) := qQ.mono (by first | omega | (simp; omega) | simp);clear qQ hn30;refine kgo hK (by decide +kernel) ((HK.out _ h30).1) (fun jq => ?_);clear hK K;refine rdy 10 (by kernel_rfl) rfl (fun K hK => ?_);refine zb3 za4 zcr Try.underlying26 zcl rfl (by decide) _ (by first | rfl | simp [kac, yielded]) (.tmp 91) (.tmp 97) rfl wF.heap.size (G a30 n30 c30) Y0 rfl (HO30.out) _ 1 1 [(5, dd, (pa, pc), l)] rfl rfl (zk.one (Blk.below (Blk.drew (zaq _ _ _)) jY (by first | omega | (simp; omega) | simp)) (by simp [zaj, HLL.out.1])) (by unfold maxLen; simp; omega) (by simp; omega) (by first | omega | (simp; omega) | simp) ?_;intro a33 n33 c33 w33 qw hn33 qk;have h33 : Z wF.heap.size wF w33 := h30.trans qk;have h33s := h33.size;have HO33 := zA qw;clear qw hn33 qk;refine kgo hK (by decide +kernel) ((HK.out _ h33).1) (fun jq => ?_);clear hK K;obtain ⟨-, p0, p1⟩ := (HK.out _ h33).1;have p2 := ((H7.out.1).ob.below h33 (H7.out.1).ob.lt).lt;refine tk 11 99 (v := ?_) rfl rfl (by decide +kernel) (fun _ _ _ h => h) (by rfl) ?_ jq ?_;rotate_left 1
                ·intro w h
                 (try dsimp only at h)
                 go_simp;try with_reducible rfl
                refine rdy 12 (by kernel_rfl) rfl (fun K hK => ?_);go_simp;refine zbb hK (by decide +kernel) ?_;clear hK K jq;refine zbo (by kernel_rfl) ?_ _;have hO : zd 68 3 zaj w33 (w.heap.size + 4) (G a33 n33 c33) (Y0 ++ [(5, dd, (pa, pc), l)]) := (HO33.out.resolve_right (fun h => by have h1 := h.1; simp at h1)).mono (H7.out.1).sz
                have HF : Q (za3 R w (G la nl lc) (E J bt) (E J nx) (G (some ⟨g, o, U⟩) no oc) (E J 2) (E J md) (E J mh) (G ma mn mc) bt nx (r w33 ⟨w.heap.size + 3, 0, U⟩ (G a33 n33 c33)) a33 n33 c33 (Y0 ++ [(5, dd, (pa, pc), l)]) va vn vc jz u7 (L ++ [(5, dd, l)]) so [] ∧ Blk (r w33 ⟨w.heap.size + 3, 0, U⟩ (G a33 n33 c33)) wr.heap.size #[E J dd, G pa ln pc, .bool true, G U 0 0] 38) := by
                 refine ⟨((H7.out.1).below h33).note hO (by rw [kak, HG.out.1.says]; rfl) (fun y hy => ?_), (((H7.out.2).below h33 (H7.out.2).lt).setOther (a := ⟨w.heap.size + 3, 0, U⟩) (by simp; omega) _)⟩;rcases kal.1 hy with hy | hy
                 ·exact HG.out.1.parts y hy
                 ·rw [kam.1 hy]; first | exact HW.out.2.2.2.2.2.1 | exact zae.nil _ _ _
                clear p0 p1 p2;go_wp2_with fail
                go_meet
                case rel => exact ⟨a33, n33, c33, HF⟩
              refine za8.cons (o := _) rfl (fun K hK => ?_) za8.nil
              ·go_simp
               refine kgo hK (by decide +kernel) ((HK.out _ (((kaa _ _).drew).alloc (by simp) _)).1) (fun jq => ?_);clear hK K;refine rdy 0 (by kernel_rfl) rfl (fun K hK => ?_);go_simp;refine kgo hK (by decide +kernel) ((HK.out _ ((((kaa _ _).drew).alloc (by simp) _).alloc (by simp <;> omega) _)).1) (fun jq => ?_);clear hK K;refine rdy 3 (by kernel_rfl) rfl (fun K hK => ?_);refine zb3 za4 zcr Try.underlying26 zcl rfl (by decide) _ (by first | rfl | simp [kac, yielded]) (.tmp 88) (.tmp 90) rfl _ _ [] rfl (zak.made (zaq _ _ _) _) la nl lc Y0 rfl HG.out.1.ln (HK.out _ ((((kaa _ _).drew).alloc (by simp) _).alloc (by simp <;> omega) _)).2 (by unfold maxLen; simp; omega) (by simp; omega) (kag _) ?_;intro a30 n30 c30 w30 qQ hn30 jY;have h30 : Z wF.heap.size wF w30 := ((((kaa _ _).drew).alloc (by simp) _).alloc (by simp <;> omega) _).trans (jY.mono (by first | omega | (simp; omega) | simp));have h30s := h30.size;have h30b := jY.size;(try simp at h30b)
               have HO30 : Q (zak 68 3 zaj w30 wF.heap.size (G a30 n30 c30) Y0) := qQ.mono (by first | omega | (simp; omega) | simp);clear qQ hn30;refine kgo hK (by decide +kernel) ((HK.out _ h30).1) (fun jq => ?_);clear hK K;refine rdy 10 (by kernel_rfl) rfl (fun K hK => ?_);refine zb3 za4 zcr Try.underlying26 zcl rfl (by decide) _ (by first | rfl | simp [kac, yielded]) (.tmp 91) (.tmp 97) rfl wF.heap.size (G a30 n30 c30) Y0 rfl (HO30.out) _ 1 1 [(5, dd, (pa, pc), l)] rfl rfl (zk.one (Blk.below (Blk.drew ((Blk.new _ _ _).alloc _)) jY (by first | omega | (simp; omega) | simp)) (by simp [zaj, HLL.out.1])) (by unfold maxLen; simp; omega) (by simp; omega) (by first | omega | (simp; omega) | simp) ?_;intro a33 n33 c33 w33 qw hn33 qk;have h33 : Z wF.heap.size wF w33 := h30.trans qk;have h33s := h33.size;have HO33 := zA qw;clear qw hn33 qk;refine kgo hK (by decide +kernel) ((HK.out _ h33).1) (fun jq => ?_);clear hK K;obtain ⟨-, p0, p1⟩ := (HK.out _ h33).1;have p2 := ((H7.out.1).ob.below h33 (H7.out.1).ob.lt).lt;refine tk 11 99 (v := ?_) rfl rfl (by decide +kernel) (fun _ _ _ h => h) (by rfl) ?_ jq ?_;rotate_left 1
               ·intro w h
                (try dsimp only at h)
                go_simp;try with_reducible rfl
               refine rdy 12 (by kernel_rfl) rfl (fun K hK => ?_);go_simp;refine zbb hK (by decide +kernel) ?_;clear hK K jq;refine zbo (by kernel_rfl) ?_ _;have hO : zd 68 3 zaj w33 (w.heap.size + 4) (G a33 n33 c33) (Y0 ++ [(5, dd, (pa, pc), l)]) := (HO33.out.resolve_right (fun h => by have h1 := h.1; simp at h1)).mono (H7.out.1).sz
               have HF : Q (za3 R w (G la nl lc) (E J bt) (E J nx) (G (some ⟨g, o, U⟩) no oc) (E J 2) (E J md) (E J mh) (G ma mn mc) bt nx (r w33 ⟨w.heap.size + 3, 0, U⟩ (G a33 n33 c33)) a33 n33 c33 (Y0 ++ [(5, dd, (pa, pc), l)]) va vn vc jz u7 (L ++ [(5, dd, l)]) so [] ∧ Blk (r w33 ⟨w.heap.size + 3, 0, U⟩ (G a33 n33 c33)) wr.heap.size #[E J dd, G pa ln pc, .bool true, G U 0 0] 38) := by
                refine ⟨((H7.out.1).below h33).note hO (by rw [kak, HG.out.1.says]; rfl) (fun y hy => ?_), (((H7.out.2).below h33 (H7.out.2).lt).setOther (a := ⟨w.heap.size + 3, 0, U⟩) (by simp; omega) _)⟩;rcases kal.1 hy with hy | hy
                ·exact HG.out.1.parts y hy
                ·rw [kam.1 hy]; first | exact HW.out.2.2.2.2.2.1 | exact zae.nil _ _ _
               clear p0 p1 p2;go_wp2_with fail
               go_meet
               case rel => exact ⟨a33, n33, c33, HF⟩
             case rest =>
              obtain ⟨aL, nL, cL, HL⟩ := hcut;obtain ⟨b0, b1, b2, b3⟩ := HL.out.2.cells4;have lb := HL.out.2.lt;go_wp2_with fail
              clear b0 b1 b2 b3;refine (zj6 dd pa ln pc l true U 0 0 [] wc HLL.out.1.symm hl4.out.1 (HW.out.2.2.2.2.2.1.below HL.out.1.bel).1 rfl (by simp) (kab rfl)).mono ?_;rintro e wD ⟨v2, rfl, hM2, hb2⟩;have H8 := zB ((HL.out.1.below hb2).say (hM2.mono HL.out.1.sz)) (HL.out.2.below hb2 HL.out.2.lt);clear hM2 hb2;obtain ⟨b0, b1, b2, b3⟩ := H8.out.2.cells4;have lb := H8.out.2.lt;have lo := H8.out.1.ob.lt;have hszB := H8.out.1.sz;go_wp2_with fail
              go_meet
              case rel => exact ⟨_, rfl, true, U, 0, 0, [], aL, nL, cL, (Y0 ++ [(5, dd, (pa, pc), l)]), by rw [HP]; exact ⟨H8.out.1, H8.out.2, rfl, rfl, ⟨HW.out.2.2.2.2.2.1, kab (zc0.nil _ _ _)⟩, by have := HG.out.2.2.2.2; simp; omega⟩⟩
           ·skip
            as_aux_lemma =>
             have HP := zlv (m := (2, md, mh, ml)) (o := (dd, l, false, hd)) ⟨rfl, rfl, nwp⟩ (fun h => al (qy.out.2 h));have ali : ((hn : Int) + 1 == (gn : Nat)) = false := by rw [beq_eq_false_iff_ne]; omega
             have fb := HB.out.2.2.free 3;have H6 : Q (za3 R w (G la nl lc) (E J bt) (E J nx) (G (some ⟨g, o, U⟩) no oc) (E J 2) (E J md) (E J mh) (G ma mn mc) bt nx (r wB ⟨wr.heap.size, 3, U⟩ (G a11 (hn + 1) c11)) la' nl' lc' Y va vn vc jz u7 (L ++ []) so [] ∧ zd 3 1 zv (r wB ⟨wr.heap.size, 3, U⟩ (G a11 (hn + 1) c11)) (w.heap.size + 4) (G a11 (hn + 1) c11) (hd ++ [mh]) ∧ Blk (r wB ⟨wr.heap.size, 3, U⟩ (G a11 (hn + 1) c11)) wr.heap.size #[E J dd, G pa ln pc, .bool false, G a11 (hn + 1) c11] 38) := ⟨HB.out.2.1.box HB.out.2.2 hne.out hsz4 _, HB.out.1.setOther (a := ⟨wr.heap.size, 3, U⟩) HB.out.2.2 (by decide) _, HB.out.2.2.set 3 _⟩;go_upto_region 15 with fail
             clear b0 b1 b2 b3 c0 c1 c2 c3 fb lb lm lo;generalize r wB ⟨wr.heap.size, 3, U⟩ (G a11 (hn + 1) c11) = wE at *;obtain ⟨b0, b1, b2, b3⟩ := H6.out.2.2.cells4;obtain ⟨c0, c1, c2, c3⟩ := H6.out.1.mb.cells4;have lb := H6.out.2.2.lt;have lm := H6.out.1.mb.lt;have lo := H6.out.1.ob.lt;have hszB := H6.out.1.sz;go_wp2_with fail
             go_meet
             case rel => exact ⟨_, rfl, false, a11, (hn + 1), c11, (hd ++ [mh]), la', nl', lc', Y, by rw [HP]; exact ⟨H6.out.1, H6.out.2.2, rfl, by rw [List.length_append, HLL.out.2]; rfl, ⟨HW.out.2.2.2.2.2.1, Or.inr H6.out.2.1.intsT⟩, hYl1⟩⟩
          | false =>
           have hnF := nwF.out rfl
           as_aux_lemma =>
            have HP : zq (2, md, mh, ml) (dd, l, false, hd) = (some (dd, l, false, hd), [], []) := zdr (fun h => hnF h.2.2) (fun h => k3 h.1) (fun h => by cases h.2.1) (fun h => by cases h.2);go_wp2_with fail
            go_meet
            case rel => exact ⟨_, rfl, false, ha, hn, hc, hd, la', nl', lc', Y, by rw [HP]; exact ⟨HB.out.2.1, HB.out.2.2, rfl, HLL.out.2, ⟨HW.out.2.2.2.2.2.1, kab HW.out.2.2.2.2.2.2⟩, hYl1⟩⟩
         | true =>
          skip
          as_aux_lemma =>
           have HP : zq (2, md, mh, ml) (dd, l, true, hd) = (some (dd, l, true, hd), [], []) := zdr (fun h => by cases h.2.1) (fun h => by cases h.2) (fun h => k6 h.1) (fun h => k7 h.1);go_wp2_with fail
           go_meet
           case rel => exact ⟨_, rfl, true, ha, hn, hc, hd, la', nl', lc', Y, by rw [HP]; exact ⟨HB.out.2.1, HB.out.2.2, rfl, HLL.out.2, ⟨HW.out.2.2.2.2.2.1, kab HW.out.2.2.2.2.2.2⟩, hYl1⟩⟩
        by_cases k3 : mk = 3
        ·subst k3
         have k2 : ¬ (3 : Int) = 2 := by decide
         have k6 : ¬ (3 : Int) = 6 := by decide
         have k7 : ¬ (3 : Int) = 7 := by decide
         cases dec with
         | false =>
          skip
          as_aux_lemma =>
           have HP := step_no (m := (3, md, mh, ml)) (o := (dd, l, false, hd)) rfl rfl;rw [HP] at HE1;go_wp2_with fail
           refine (zke dd pa ln pc l false ha hn hc hd wB HLL.out.1.symm hl4.out.1 (HW.out.2.2.2.2.2.1.below HB.out.2.1.bel).1).mono ?_;rintro e wD ⟨v2, rfl, hM2, hb2⟩;have HF := zA ((HB.out.2.1.below hb2).say (hM2.mono HB.out.2.1.sz));clear hM2 hb2 b0 b1 b2 b3 c0 c1 c2 c3;go_wp2;go_roundw
           case rel => exact ⟨k + 1, la', nl', lc', Y, va, vn, vc, jz, by omega, by go_num, by rw [HE1.out], by rw [HE1.out, show so ++ (U : Option O4).toList = so from List.append_nil so]; exact ⟨HF.out, by omega, hYl1⟩⟩
           case measure => simp [intOf]; omega
         | true =>
          skip
          as_aux_lemma =>
           have HP : zq (3, md, mh, ml) (dd, l, true, hd) = (some (dd, l, true, hd), [], []) := zdr (fun h => by cases h.2.1) (fun h => by cases h.2) (fun h => k6 h.1) (fun h => k7 h.1);go_wp2_with fail
           go_meet
           case rel => exact ⟨_, rfl, true, ha, hn, hc, hd, la', nl', lc', Y, by rw [HP]; exact ⟨HB.out.2.1, HB.out.2.2, rfl, HLL.out.2, ⟨HW.out.2.2.2.2.2.1, kab HW.out.2.2.2.2.2.2⟩, hYl1⟩⟩
        by_cases k6 : mk = 6
        ·subst k6
         have k2 : ¬ (6 : Int) = 2 := by decide
         have k3 : ¬ (6 : Int) = 3 := by decide
         have k7 : ¬ (6 : Int) = 7 := by decide
         cases dec with
         | false =>
          skip
          as_aux_lemma =>
           have HP : zq (6, md, mh, ml) (dd, l, false, hd) = (some (dd, l, false, hd), [], []) := zdr (fun h => k2 h.1) (fun h => k3 h.1) (fun h => by cases h.2.1) (fun h => by cases h.2);go_wp2_with fail
           go_meet
           case rel => exact ⟨_, rfl, false, ha, hn, hc, hd, la', nl', lc', Y, by rw [HP]; exact ⟨HB.out.2.1, HB.out.2.2, rfl, HLL.out.2, ⟨HW.out.2.2.2.2.2.1, kab HW.out.2.2.2.2.2.2⟩, hYl1⟩⟩
         | true =>
          cases nw with
          | true =>
           have nwp := nwT.out rfl;by_cases al : hn + 1 = gn
           ·skip
            as_aux_lemma =>
             have HP := zl1 (m := (6, md, mh, ml)) (o := (dd, l, true, hd)) ⟨rfl, rfl, nwp⟩ (qy.out.1 al);rw [HP] at HE1;subst al;have ali : ((hn : Int) + 1 == ((hn + 1 : Nat) : Int)) = true := by rw [beq_iff_eq]; omega
             have fb := HB.out.2.2.free 3;have H6 : Q (za3 R w (G la nl lc) (E J bt) (E J nx) (G (some ⟨g, o, U⟩) no oc) (E J 6) (E J md) (E J mh) (G ma mn mc) bt nx (r wB ⟨wr.heap.size, 3, U⟩ (G a11 (hn + 1) c11)) la' nl' lc' Y va vn vc jz u7 (L ++ []) so [] ∧ zd 3 1 zv (r wB ⟨wr.heap.size, 3, U⟩ (G a11 (hn + 1) c11)) (w.heap.size + 4) (G a11 (hn + 1) c11) (hd ++ [mh]) ∧ Blk (r wB ⟨wr.heap.size, 3, U⟩ (G a11 (hn + 1) c11)) wr.heap.size #[E J dd, G pa ln pc, .bool true, G a11 (hn + 1) c11] 38) := ⟨HB.out.2.1.box HB.out.2.2 hne.out hsz4 _, HB.out.1.setOther (a := ⟨wr.heap.size, 3, U⟩) HB.out.2.2 (by decide) _, HB.out.2.2.set 3 _⟩;go_upto_region 23 with fail
             clear b0 b1 b2 b3 c0 c1 c2 c3 fb lb lm lo;generalize r wB ⟨wr.heap.size, 3, U⟩ (G a11 (hn + 1) c11) = wE at *;obtain ⟨b0, b1, b2, b3⟩ := H6.out.2.2.cells4;obtain ⟨c0, c1, c2, c3⟩ := H6.out.1.mb.cells4;have lb := H6.out.2.2.lt;have lm := H6.out.1.mb.lt;have lo := H6.out.1.ob.lt;have hszB := H6.out.1.sz;clear c0 c1 c2 c3 b2 b3;go_upto_region 24 with fail
             have HK : Q (∀ w', Z wE.heap.size wE w' → ((w'.cell? ⟨w.heap.size, 0, U⟩ = some (G la nl lc) ∧ w'.cell? ⟨wr.heap.size, 0, U⟩ = some (E J dd) ∧ w'.cell? ⟨wr.heap.size, 1, U⟩ = some (G pa ln pc)) ∧ (w'.cell? ⟨w.heap.size + 3, 0, U⟩ = some (G la' nl' lc') ∧ w'.frozen? ⟨w.heap.size + 3, 0, U⟩ = false)) ∧ zk 3 zaj w' la Y0) := fun w' hb => ⟨⟨⟨((H6.out.1).hb.below hb (H6.out.1).hb.lt).cell 0, ((H6.out.2.2).below hb (H6.out.2.2).lt).cell 0, ((H6.out.2.2).below hb (H6.out.2.2).lt).cell 1⟩, ⟨((H6.out.1).ob.below hb (H6.out.1).ob.lt).cell 0, ((H6.out.1).ob.below hb (H6.out.1).ob.lt).free 0⟩⟩, HG.out.1.log.below ((H6.out.1).bel.trans (hb.mono (H6.out.1).bel.size))⟩
             have hY0 : Y0.length ≤ 900000 := HG.out.2.2.2.2;have l0 := (H6.out.1).hb.lt;go_cut [13] (fun _ wx => ∃ a n c, Q (za3 R w (G la nl lc) (E J bt) (E J nx) (G (some ⟨g, o, U⟩) no oc) (E J 6) (E J md) (E J mh) (G ma mn mc) bt nx wx a n c (Y0 ++ [(6, dd, (U, 0), [])]) va vn vc jz u7 (L ++ [(6, dd, [])]) so [] ∧ Blk wx wr.heap.size #[E J dd, G pa ln pc, .bool true, G a11 (hn + 1) c11] 38))
             case first =>
              refine zcf (S := fun w' => ((w'.cell? ⟨w.heap.size, 0, U⟩ = some (G la nl lc) ∧ w'.cell? ⟨wr.heap.size, 0, U⟩ = some (E J dd) ∧ w'.cell? ⟨wr.heap.size, 1, U⟩ = some (G pa ln pc)) ∧ (w'.cell? ⟨w.heap.size + 3, 0, U⟩ = some (G la' nl' lc') ∧ w'.frozen? ⟨w.heap.size + 3, 0, U⟩ = false))) 10 (by kernel_rfl) (HK.out _ ((kaa _ _).drew)).1 (fun jq => ?_);refine tk 1 128 (v := ?_) rfl rfl (by decide +kernel) (fun _ _ _ h => h) (by rfl) ?_ jq ?_;rotate_left 1
              ·intro w h
               (try dsimp only at h)
               go_simp;try with_reducible rfl
              refine tk 2 129 (v := ?_) rfl rfl (by decide +kernel) (fun _ _ _ h => h) (by rfl) ?_ jq ?_;rotate_left 1
              ·intro w h
               (try dsimp only at h)
               go_simp;try with_reducible rfl
              refine tk 4 131 (v := ?_) rfl rfl (by decide +kernel) (fun _ _ _ h => h) (by rfl) ?_ jq ?_;rotate_left 1
              ·intro w h
               (try dsimp only at h)
               go_simp;try with_reducible rfl
              refine tk 5 132 (v := ?_) rfl rfl (by decide +kernel) (fun _ _ _ h => h) (by rfl) ?_ jq ?_;rotate_left 1
              ·intro w h
               (try dsimp only at h)
               go_simp;try with_reducible rfl
              refine tk 6 133 (v := ?_) rfl rfl (by decide +kernel) (fun _ _ _ h => h) (by rfl) ?_ jq ?_;rotate_left 1
              ·intro w h
               (try dsimp only at h)
               go_simp;try with_reducible rfl
              refine ze6 (rs := [0, 7]) (by kernel_rfl) (by simp) ?_;refine za8.cons (o := _) rfl (fun K hK => ?_) ?_
              ·go_simp
               refine kgo hK (by decide +kernel) ((HK.out _ (((kaa _ _).drew).alloc (by simp) _)).1) (fun jq => ?_);clear hK K;refine ze6 (rs := [3, 7]) (by kernel_rfl) (by simp) ?_;refine za8.cons (o := _) rfl (fun K hK => ?_) ?_
               ·refine zb3 za4 zcr Try.underlying26 zcl rfl (by decide) _ (by first | rfl | simp [kac, yielded]) (.tmp 127) (.tmp 129) rfl _ _ [] rfl (zak.made (Blk.new _ _ _) _) la nl lc Y0 rfl HG.out.1.ln (HK.out _ (((kaa _ _).drew).alloc (by simp) _)).2 (by unfold maxLen; simp; omega) (by simp; omega) (kag _) ?_
                intro a30 n30 c30 w30 qQ hn30 jY;have h30 : Z wE.heap.size wE w30 := (((kaa _ _).drew).alloc (by simp) _).trans (jY.mono (by first | omega | (simp; omega) | simp));have h30s := h30.size;have h30b := jY.size;(try simp at h30b)
                have HO30 : Q (zak 68 3 zaj w30 wE.heap.size (G a30 n30 c30) Y0) := qQ.mono (by first | omega | (simp; omega) | simp);clear qQ hn30;refine kgo hK (by decide +kernel) ((HK.out _ h30).1) (fun jq => ?_);clear hK K;refine rdy 7 (by kernel_rfl) rfl (fun K hK => ?_);go_simp;refine kgo hK (by decide +kernel) ((HK.out _ (h30.alloc h30.size _)).1) (fun jq => ?_);clear hK K;refine rdy 8 (by kernel_rfl) rfl (fun K hK => ?_);refine zb3 za4 zcr Try.underlying26 zcl rfl (by decide) _ (by first | rfl | simp [kac, yielded]) (.tmp 130) (.tmp 134) rfl wE.heap.size (G a30 n30 c30) Y0 rfl (HO30.out.below (zi w30 _)) _ 1 1 [(6, dd, (U, 0), [])] rfl rfl (zk.one (Blk.new _ _ _) (by simp [zaj])) (by unfold maxLen; simp; omega) (by simp; omega) (by first | omega | (simp; omega) | simp) ?_;intro a33 n33 c33 w33 qw hn33 qk;have h33 : Z wE.heap.size wE w33 := (h30.alloc h30.size _).trans qk;have h33s := h33.size;have HO33 := zA qw;clear qw hn33 qk;refine kgo hK (by decide +kernel) ((HK.out _ h33).1) (fun jq => ?_);clear hK K;obtain ⟨-, p0, p1⟩ := (HK.out _ h33).1;have p2 := ((H6.out.1).ob.below h33 (H6.out.1).ob.lt).lt;refine tk 9 136 (v := ?_) rfl rfl (by decide +kernel) (fun _ _ _ h => h) (by rfl) ?_ jq ?_;rotate_left 1
                ·intro w h
                 (try dsimp only at h)
                 go_simp;try with_reducible rfl
                refine rdy 10 (by kernel_rfl) rfl (fun K hK => ?_);go_simp;refine zbb hK (by decide +kernel) ?_;clear hK K jq;refine zbo (by kernel_rfl) ?_ _;have hO : zd 68 3 zaj w33 (w.heap.size + 4) (G a33 n33 c33) (Y0 ++ [(6, dd, (none, 0), [])]) := (HO33.out.resolve_right (fun h => by have h1 := h.1; simp at h1)).mono (H6.out.1).sz
                have HF : Q (za3 R w (G la nl lc) (E J bt) (E J nx) (G (some ⟨g, o, U⟩) no oc) (E J 6) (E J md) (E J mh) (G ma mn mc) bt nx (r w33 ⟨w.heap.size + 3, 0, U⟩ (G a33 n33 c33)) a33 n33 c33 (Y0 ++ [(6, dd, (U, 0), [])]) va vn vc jz u7 (L ++ [(6, dd, [])]) so [] ∧ Blk (r w33 ⟨w.heap.size + 3, 0, U⟩ (G a33 n33 c33)) wr.heap.size #[E J dd, G pa ln pc, .bool true, G a11 (hn + 1) c11] 38) := by
                 refine ⟨((H6.out.1).below h33).note hO (by rw [kak, HG.out.1.says]; rfl) (fun y hy => ?_), (((H6.out.2.2).below h33 (H6.out.2.2).lt).setOther (a := ⟨w.heap.size + 3, 0, U⟩) (by simp; omega) _)⟩;rcases kal.1 hy with hy | hy
                 ·exact HG.out.1.parts y hy
                 ·rw [kam.1 hy]; first | exact HW.out.2.2.2.2.2.1 | exact zae.nil _ _ _
                clear p0 p1 p2;go_wp2_with fail
                go_meet
                case rel => exact ⟨a33, n33, c33, HF⟩
               refine za8.cons (o := _) rfl (fun K hK => ?_) za8.nil
               ·go_simp
                refine kgo hK (by decide +kernel) ((HK.out _ ((((kaa _ _).drew).alloc (by simp) _).alloc (by simp <;> omega) _)).1) (fun jq => ?_);clear hK K;refine rdy 3 (by kernel_rfl) rfl (fun K hK => ?_);refine zb3 za4 zcr Try.underlying26 zcl rfl (by decide) _ (by first | rfl | simp [kac, yielded]) (.tmp 127) (.tmp 129) rfl _ _ [] rfl (zak.made ((Blk.new _ _ _).alloc _) _) la nl lc Y0 rfl HG.out.1.ln (HK.out _ ((((kaa _ _).drew).alloc (by simp) _).alloc (by simp <;> omega) _)).2 (by unfold maxLen; simp; omega) (by simp; omega) (kag _) ?_;intro a30 n30 c30 w30 qQ hn30 jY;have h30 : Z wE.heap.size wE w30 := ((((kaa _ _).drew).alloc (by simp) _).alloc (by simp <;> omega) _).trans (jY.mono (by first | omega | (simp; omega) | simp));have h30s := h30.size;have h30b := jY.size;(try simp at h30b)
                have HO30 : Q (zak 68 3 zaj w30 wE.heap.size (G a30 n30 c30) Y0) := qQ.mono (by first | omega | (simp; omega) | simp);clear qQ hn30;refine kgo hK (by decide +kernel) ((HK.out _ h30).1) (fun jq => ?_);clear hK K;refine rdy 8 (by kernel_rfl) rfl (fun K hK => ?_);refine zb3 za4 zcr Try.underlying26 zcl rfl (by decide) _ (by first | rfl | simp [kac, yielded]) (.tmp 130) (.tmp 134) rfl wE.heap.size (G a30 n30 c30) Y0 rfl (HO30.out) _ 1 1 [(6, dd, (U, 0), [])] rfl rfl (zk.one (Blk.below (Blk.drew (zaq _ _ _)) jY (by first | omega | (simp; omega) | simp)) (by simp [zaj])) (by unfold maxLen; simp; omega) (by simp; omega) (by first | omega | (simp; omega) | simp) ?_;intro a33 n33 c33 w33 qw hn33 qk;have h33 : Z wE.heap.size wE w33 := h30.trans qk;have h33s := h33.size;have HO33 := zA qw;clear qw hn33 qk;refine kgo hK (by decide +kernel) ((HK.out _ h33).1) (fun jq => ?_);clear hK K;obtain ⟨-, p0, p1⟩ := (HK.out _ h33).1;have p2 := ((H6.out.1).ob.below h33 (H6.out.1).ob.lt).lt;refine tk 9 136 (v := ?_) rfl rfl (by decide +kernel) (fun _ _ _ h => h) (by rfl) ?_ jq ?_;rotate_left 1
                ·intro w h
                 (try dsimp only at h)
                 go_simp;try with_reducible rfl
                refine rdy 10 (by kernel_rfl) rfl (fun K hK => ?_);go_simp;refine zbb hK (by decide +kernel) ?_;clear hK K jq;refine zbo (by kernel_rfl) ?_ _;have hO : zd 68 3 zaj w33 (w.heap.size + 4) (G a33 n33 c33) (Y0 ++ [(6, dd, (none, 0), [])]) := (HO33.out.resolve_right (fun h => by have h1 := h.1; simp at h1)).mono (H6.out.1).sz
                have HF : Q (za3 R w (G la nl lc) (E J bt) (E J nx) (G (some ⟨g, o, U⟩) no oc) (E J 6) (E J md) (E J mh) (G ma mn mc) bt nx (r w33 ⟨w.heap.size + 3, 0, U⟩ (G a33 n33 c33)) a33 n33 c33 (Y0 ++ [(6, dd, (U, 0), [])]) va vn vc jz u7 (L ++ [(6, dd, [])]) so [] ∧ Blk (r w33 ⟨w.heap.size + 3, 0, U⟩ (G a33 n33 c33)) wr.heap.size #[E J dd, G pa ln pc, .bool true, G a11 (hn + 1) c11] 38) := by
                 refine ⟨((H6.out.1).below h33).note hO (by rw [kak, HG.out.1.says]; rfl) (fun y hy => ?_), (((H6.out.2.2).below h33 (H6.out.2.2).lt).setOther (a := ⟨w.heap.size + 3, 0, U⟩) (by simp; omega) _)⟩;rcases kal.1 hy with hy | hy
                 ·exact HG.out.1.parts y hy
                 ·rw [kam.1 hy]; first | exact HW.out.2.2.2.2.2.1 | exact zae.nil _ _ _
                clear p0 p1 p2;go_wp2_with fail
                go_meet
                case rel => exact ⟨a33, n33, c33, HF⟩
              refine za8.cons (o := _) rfl (fun K hK => ?_) za8.nil
              ·go_simp
               refine kgo hK (by decide +kernel) ((HK.out _ (((kaa _ _).drew).alloc (by simp) _)).1) (fun jq => ?_);clear hK K;refine rdy 0 (by kernel_rfl) rfl (fun K hK => ?_);go_simp;refine kgo hK (by decide +kernel) ((HK.out _ ((((kaa _ _).drew).alloc (by simp) _).alloc (by simp <;> omega) _)).1) (fun jq => ?_);clear hK K;refine rdy 3 (by kernel_rfl) rfl (fun K hK => ?_);refine zb3 za4 zcr Try.underlying26 zcl rfl (by decide) _ (by first | rfl | simp [kac, yielded]) (.tmp 127) (.tmp 129) rfl _ _ [] rfl (zak.made (zaq _ _ _) _) la nl lc Y0 rfl HG.out.1.ln (HK.out _ ((((kaa _ _).drew).alloc (by simp) _).alloc (by simp <;> omega) _)).2 (by unfold maxLen; simp; omega) (by simp; omega) (kag _) ?_;intro a30 n30 c30 w30 qQ hn30 jY;have h30 : Z wE.heap.size wE w30 := ((((kaa _ _).drew).alloc (by simp) _).alloc (by simp <;> omega) _).trans (jY.mono (by first | omega | (simp; omega) | simp));have h30s := h30.size;have h30b := jY.size;(try simp at h30b)
               have HO30 : Q (zak 68 3 zaj w30 wE.heap.size (G a30 n30 c30) Y0) := qQ.mono (by first | omega | (simp; omega) | simp);clear qQ hn30;refine kgo hK (by decide +kernel) ((HK.out _ h30).1) (fun jq => ?_);clear hK K;refine rdy 8 (by kernel_rfl) rfl (fun K hK => ?_);refine zb3 za4 zcr Try.underlying26 zcl rfl (by decide) _ (by first | rfl | simp [kac, yielded]) (.tmp 130) (.tmp 134) rfl wE.heap.size (G a30 n30 c30) Y0 rfl (HO30.out) _ 1 1 [(6, dd, (U, 0), [])] rfl rfl (zk.one (Blk.below (Blk.drew ((Blk.new _ _ _).alloc _)) jY (by first | omega | (simp; omega) | simp)) (by simp [zaj])) (by unfold maxLen; simp; omega) (by simp; omega) (by first | omega | (simp; omega) | simp) ?_;intro a33 n33 c33 w33 qw hn33 qk;have h33 : Z wE.heap.size wE w33 := h30.trans qk;have h33s := h33.size;have HO33 := zA qw;clear qw hn33 qk;refine kgo hK (by decide +kernel) ((HK.out _ h33).1) (fun jq => ?_);clear hK K;obtain ⟨-, p0, p1⟩ := (HK.out _ h33).1;have p2 := ((H6.out.1).ob.below h33 (H6.out.1).ob.lt).lt;refine tk 9 136 (v := ?_) rfl rfl (by decide +kernel) (fun _ _ _ h => h) (by rfl) ?_ jq ?_;rotate_left 1
               ·intro w h
                (try dsimp only at h)
                go_simp;try with_reducible rfl
               refine rdy 10 (by kernel_rfl) rfl (fun K hK => ?_);go_simp;refine zbb hK (by decide +kernel) ?_;clear hK K jq;refine zbo (by kernel_rfl) ?_ _;have hO : zd 68 3 zaj w33 (w.heap.size + 4) (G a33 n33 c33) (Y0 ++ [(6, dd, (none, 0), [])]) := (HO33.out.resolve_right (fun h => by have h1 := h.1; simp at h1)).mono (H6.out.1).sz
               have HF : Q (za3 R w (G la nl lc) (E J bt) (E J nx) (G (some ⟨g, o, U⟩) no oc) (E J 6) (E J md) (E J mh) (G ma mn mc) bt nx (r w33 ⟨w.heap.size + 3, 0, U⟩ (G a33 n33 c33)) a33 n33 c33 (Y0 ++ [(6, dd, (U, 0), [])]) va vn vc jz u7 (L ++ [(6, dd, [])]) so [] ∧ Blk (r w33 ⟨w.heap.size + 3, 0, U⟩ (G a33 n33 c33)) wr.heap.size #[E J dd, G pa ln pc, .bool true, G a11 (hn + 1) c11] 38) := by
                refine ⟨((H6.out.1).below h33).note hO (by rw [kak, HG.out.1.says]; rfl) (fun y hy => ?_), (((H6.out.2.2).below h33 (H6.out.2.2).lt).setOther (a := ⟨w.heap.size + 3, 0, U⟩) (by simp; omega) _)⟩;rcases kal.1 hy with hy | hy
                ·exact HG.out.1.parts y hy
                ·rw [kam.1 hy]; first | exact HW.out.2.2.2.2.2.1 | exact zae.nil _ _ _
               clear p0 p1 p2;go_wp2_with fail
               go_meet
               case rel => exact ⟨a33, n33, c33, HF⟩
             case rest =>
              obtain ⟨aL, nL, cL, HL⟩ := hcut;go_wp2;go_roundw
              case rel => exact ⟨k + 1, aL, nL, cL, _, va, vn, vc, jz, by omega, by go_num, by rw [HE1.out], by rw [HE1.out, show so ++ (U : Option O4).toList = so from List.append_nil so]; exact ⟨HL.out.1, by omega, by simp; omega⟩⟩
              case measure => simp [intOf]; omega
           ·skip
            as_aux_lemma =>
             have HP := zj9 (m := (6, md, mh, ml)) (o := (dd, l, true, hd)) ⟨rfl, rfl, nwp⟩ (fun h => al (qy.out.2 h));have ali : ((hn : Int) + 1 == (gn : Nat)) = false := by rw [beq_eq_false_iff_ne]; omega
             have fb := HB.out.2.2.free 3;have H6 : Q (za3 R w (G la nl lc) (E J bt) (E J nx) (G (some ⟨g, o, U⟩) no oc) (E J 6) (E J md) (E J mh) (G ma mn mc) bt nx (r wB ⟨wr.heap.size, 3, U⟩ (G a11 (hn + 1) c11)) la' nl' lc' Y va vn vc jz u7 (L ++ []) so [] ∧ zd 3 1 zv (r wB ⟨wr.heap.size, 3, U⟩ (G a11 (hn + 1) c11)) (w.heap.size + 4) (G a11 (hn + 1) c11) (hd ++ [mh]) ∧ Blk (r wB ⟨wr.heap.size, 3, U⟩ (G a11 (hn + 1) c11)) wr.heap.size #[E J dd, G pa ln pc, .bool true, G a11 (hn + 1) c11] 38) := ⟨HB.out.2.1.box HB.out.2.2 hne.out hsz4 _, HB.out.1.setOther (a := ⟨wr.heap.size, 3, U⟩) HB.out.2.2 (by decide) _, HB.out.2.2.set 3 _⟩;go_upto_region 23 with fail
             clear b0 b1 b2 b3 c0 c1 c2 c3 fb lb lm lo;generalize r wB ⟨wr.heap.size, 3, U⟩ (G a11 (hn + 1) c11) = wE at *;obtain ⟨b0, b1, b2, b3⟩ := H6.out.2.2.cells4;obtain ⟨c0, c1, c2, c3⟩ := H6.out.1.mb.cells4;have lb := H6.out.2.2.lt;have lm := H6.out.1.mb.lt;have lo := H6.out.1.ob.lt;have hszB := H6.out.1.sz;go_wp2_with fail
             go_meet
             case rel => exact ⟨_, rfl, true, a11, (hn + 1), c11, (hd ++ [mh]), la', nl', lc', Y, by rw [HP]; exact ⟨H6.out.1, H6.out.2.2, rfl, by rw [List.length_append, HLL.out.2]; rfl, ⟨HW.out.2.2.2.2.2.1, Or.inr H6.out.2.1.intsT⟩, hYl1⟩⟩
          | false =>
           have hnF := nwF.out rfl
           as_aux_lemma =>
            have HP : zq (6, md, mh, ml) (dd, l, true, hd) = (some (dd, l, true, hd), [], []) := zdr (fun h => k2 h.1) (fun h => by cases h.2) (fun h => hnF h.2.2) (fun h => k7 h.1);go_wp2_with fail
            go_meet
            case rel => exact ⟨_, rfl, true, ha, hn, hc, hd, la', nl', lc', Y, by rw [HP]; exact ⟨HB.out.2.1, HB.out.2.2, rfl, HLL.out.2, ⟨HW.out.2.2.2.2.2.1, kab HW.out.2.2.2.2.2.2⟩, hYl1⟩⟩
        by_cases k7 : mk = 7
        ·subst k7
         have k2 : ¬ (7 : Int) = 2 := by decide
         have k3 : ¬ (7 : Int) = 3 := by decide
         have k6 : ¬ (7 : Int) = 6 := by decide
         cases dec with
         | false =>
          skip
          as_aux_lemma =>
           have HP : zq (7, md, mh, ml) (dd, l, false, hd) = (some (dd, l, false, hd), [], []) := zdr (fun h => k2 h.1) (fun h => k3 h.1) (fun h => by cases h.2.1) (fun h => by cases h.2);go_wp2_with fail
           go_meet
           case rel => exact ⟨_, rfl, false, ha, hn, hc, hd, la', nl', lc', Y, by rw [HP]; exact ⟨HB.out.2.1, HB.out.2.2, rfl, HLL.out.2, ⟨HW.out.2.2.2.2.2.1, kab HW.out.2.2.2.2.2.2⟩, hYl1⟩⟩
         | true =>
          skip
          as_aux_lemma =>
           have HP := zkd (m := (7, md, mh, ml)) (o := (dd, l, true, hd)) rfl rfl;have H6 : Q (za3 R w (G la nl lc) (E J bt) (E J nx) (G (some ⟨g, o, U⟩) no oc) (E J 7) (E J md) (E J mh) (G ma mn mc) bt nx (wB.alloc (T #[E J 4, E J md, E J mh, G U 0 0] 43)) la' nl' lc' Y va vn vc jz (G (some ⟨wB.heap.size, 0, U⟩) 1 1) (L ++ []) so [(4, md, mh, [])] ∧ Blk (wB.alloc (T #[E J 4, E J md, E J mh, G U 0 0] 43)) wr.heap.size #[E J dd, G pa ln pc, .bool true, G ha hn hc] 38) := ⟨(HB.out.2.1.below (zi wB _)).say (zm.new1 wB hszB 4 md mh), HB.out.2.2.below (zi wB _) HB.out.2.2.lt⟩;go_wp2_with fail
           go_meet
           case rel => exact ⟨_, rfl, true, ha, hn, hc, hd, la', nl', lc', Y, by rw [HP]; exact ⟨H6.out.1, H6.out.2, rfl, HLL.out.2, ⟨HW.out.2.2.2.2.2.1, kab HW.out.2.2.2.2.2.2⟩, hYl1⟩⟩
        have e2 : (mk == 2) = false := by simpa using k2
        have e3 : (mk == 3) = false := by simpa using k3
        have e6 : (mk == 6) = false := by simpa using k6
        have e7 : (mk == 7) = false := by simpa using k7
        cases dec with
        | false =>
         skip
         as_aux_lemma =>
          have HP : zq (mk, md, mh, ml) (dd, l, false, hd) = (some (dd, l, false, hd), [], []) := zdr (fun h => k2 h.1) (fun h => k3 h.1) (fun h => by cases h.2.1) (fun h => by cases h.2);go_wp2_with fail
          go_meet
          case rel => exact ⟨_, rfl, false, ha, hn, hc, hd, la', nl', lc', Y, by rw [HP]; exact ⟨HB.out.2.1, HB.out.2.2, rfl, HLL.out.2, ⟨HW.out.2.2.2.2.2.1, kab HW.out.2.2.2.2.2.2⟩, hYl1⟩⟩
        | true =>
         skip
         as_aux_lemma =>
          have HP : zq (mk, md, mh, ml) (dd, l, true, hd) = (some (dd, l, true, hd), [], []) := zdr (fun h => by cases h.2.1) (fun h => by cases h.2) (fun h => k6 h.1) (fun h => k7 h.1);go_wp2_with fail
          go_meet
          case rel => exact ⟨_, rfl, true, ha, hn, hc, hd, la', nl', lc', Y, by rw [HP]; exact ⟨HB.out.2.1, HB.out.2.2, rfl, HLL.out.2, ⟨HW.out.2.2.2.2.2.1, kab HW.out.2.2.2.2.2.2⟩, hYl1⟩⟩
       case rest =>
        obtain ⟨sv2, rfl, dec2, aq, nq, cq, hd2, la2, nl2, lc2, Y2, HC⟩ := hcut;clear b0 b1 b2 b3 c0 c1 c2 c3 lb lm lo hszB;rw [HC.out.2.2.1] at HE1;obtain ⟨b0, b1, b2, b3⟩ := HC.out.2.1.cells4;have lb := HC.out.2.1.lt;have lo := HC.out.1.ob.lt;have hszB := HC.out.1.sz;have H5 : Q (za3 R w (G la nl lc) (E J bt) (E J nx) (G (some ⟨g, o, U⟩) no oc) (E J mk) (E J md) (E J mh) (G ma mn mc) bt nx (wc.alloc (T #[E J dd, G pa ln pc, .bool dec2, G aq nq cq] 38)) la2 nl2 lc2 Y2 va vn vc jz sv2 (L ++ (zq (mk, md, mh, ml) (dd, l, dec, hd)).2.1) so (zq (mk, md, mh, ml) (dd, l, dec, hd)).2.2) := HC.out.1.below (zi wc _);have hzo : Q (OldX R w (w.heap.size + 4) (wc.alloc (T #[E J dd, G pa ln pc, .bool dec2, G aq nq cq] 38)) (dd, ((pa, pc), l), dec2, ((aq, cq), hd2))) := HC.out.2.2.2.2.1.calm (zj.alloc _ _ _);obtain ⟨r0, r1, r2, r3⟩ := HC.out.1.ob.cells4;go_upto_region 27 with fail
        go_wp2_with (at_builtin; refine zbj zas oneQ Try.underlying27 zeg rfl (by decide) _ rfl _ _ rfl (w.heap.size + 4) _ jz rfl H5.out.own (some ⟨wc.heap.size, 0, U⟩) 1 1 [(dd, ((pa, pc), l), dec2, ((aq, cq), hd2))] rfl rfl (zk.one (Blk.new wc _ _) (by simp [zan, HLL.out.1, HC.out.2.2.2.1])) (by unfold maxLen; simp; omega) (by simp; omega) (by simp; omega) ?_; intro a6 n6 c6 w6 j8 hn6 jk hat6; have o6 := H5.out.ob.keptNe jk (fun e => by have := H5.out.own.base _ e; omega); have p3 := o6.cell 3; have q3 := o6.free 3; have l6 := o6.lt; simp only [kah, kai, kaj] at p3; have HF : Q _ := H5.out.push jk j8 hzo.out; clear hn6 hat6 jk j8 o6)
        clear p3 q3 l6 r0 r1 r2 r3 b0 b1 b2 b3;go_wp2;go_roundw
        case rel => exact ⟨k + 1, la2, nl2, lc2, Y2, a6, n6, c6, _, by omega, by go_num, by rw [HE1.out], by rw [HE1.out]; exact ⟨HF.out, by simp; omega, HC.out.2.2.2.2.2⟩⟩
        case measure => simp [intOf]; omega
    ·have HE1 : Q (zbi (mk, md, mh, ml) (O.take (k + 1)) = (so ++ [(dd, l, dec, hd)], sl, ss, false)) := by show _ = _; rw [HE.out]; unfold zd3; rw [if_pos (kab hdd)]
     have hdm : (dd != md) = true := by simpa using hdd
     clear HE hdd
     as_aux_lemma =>
      have HB2 : Q (Z wr.heap.size wr ((wr.alloc (T #[E J dd, G pa ln pc, .bool dec, G ha hn hc] 38)).alloc (T #[E J dd, G pa ln pc, .bool dec, G ha hn hc] 38))) := za2 _ _ _;have H5 := zA (HW.out.1.below HB2.out);go_wp2_with (at_builtin; refine zbj zas oneQ Try.underlying27 zeg rfl (by decide) _ rfl _ _ rfl (w.heap.size + 4) _ jz rfl H5.out.own (some ⟨wr.heap.size + 1, 0, U⟩) 1 1 [(dd, ((pa, pc), l), dec, ((ha, hc), hd))] rfl rfl (zk.one (zaq wr _ _) (by simp [zan, HLL.out.1, HLL.out.2])) (by unfold maxLen; simp; omega) (by simp; omega) (by simp; omega) ?_; intro a6 n6 c6 w6 j8 hn6 jk hat6; have o6 := H5.out.ob.keptNe jk (fun e => by have := H5.out.own.base _ e; omega); have p3 := o6.cell 3; have q3 := o6.free 3; have l6 := o6.lt; simp only [kah, kai, kaj] at p3; have HF : Q (za3 R w (G la nl lc) (E J bt) (E J nx) (G (some ⟨g, o, U⟩) no oc) (E J mk) (E J md) (E J mh) (G ma mn mc) bt nx (r w6 ⟨w.heap.size + 3, 3, U⟩ (G a6 n6 c6)) la' nl' lc' Y a6 n6 c6 (jz ++ [(dd, ((pa, pc), l), dec, ((ha, hc), hd))]) u7 (L ++ sl) (so ++ [(dd, l, dec, hd)]) ss) := H5.out.push jk j8 ⟨HW.out.2.2.2.2.2.1, kab HW.out.2.2.2.2.2.2⟩; clear hn6 hat6 jk j8 o6)
      clear p3 q3 l6 d0 d1 d2 d3 m0' m1' m2' m3' r0 r1 r2 r3 f0 f1 f2 f3;go_wp2;go_roundw
      case rel => exact ⟨k + 1, la', nl', lc', Y, a6, n6, c6, _, by omega, by go_num, by rw [HE1.out], by rw [HE1.out]; exact ⟨HF.out, by simp; omega, hYl1⟩⟩
      case measure => simp [intOf]; omega
  ·as_aux_lemma =>
    have HE : Q (zbi (mk, md, mh, ml) (O.take k) = zbi (mk, md, mh, ml) O) := by show _ = _; rw [List.take_of_length_le (by have h1 := HG.out.1.on; have h2 := HG.out.2.2.1; omega)]
    obtain ⟨hS, -, -⟩ := hH.out;have HNW : Q ((zbi (mk, md, mh, ml) (O.take k)).2.2.2 = false → (zbi (mk, md, mh, ml) (O.take k)).2.1 = [] ∧ (zbi (mk, md, mh, ml) (O.take k)).2.2.1 = []) := zk7 _ _;have HH : Q (zh ⟨L, bt, nx, O⟩ (mk, md, mh, ml) = (⟨L ++ (zbi (mk, md, mh, ml) (O.take k)).2.1, bt, nx, (zbi (mk, md, mh, ml) (O.take k)).1⟩, if (zbi (mk, md, mh, ml) (O.take k)).2.2.2 = true then (zbi (mk, md, mh, ml) (O.take k)).2.2.1 else if mk = 7 then [(5, md, mh, [])] else [])) := by show _ = _; rw [HE.out]; exact head_hall _ _
    clear HE hH;generalize zbi (mk, md, mh, ml) (O.take k) = st at *;obtain ⟨so, sl, ss, kn⟩ := st;simp only at hS HNW
    have HS := zA hS;obtain ⟨m0', m1', m2', m3'⟩ := hS.mb.cells4;have hml := hS.mb.lt;clear hS
    cases kn with
    | true =>
     have HP : Q (zh ⟨L, bt, nx, O⟩ (mk, md, mh, ml) = (⟨L ++ sl, bt, nx, so⟩, ss)) := by show _ = _; rw [HH.out]; rfl
     clear HH HNW;go_upto_region 31 with fail
     clear m0' m1' m2' m3' hml;obtain ⟨s0, s1, s2, s3⟩ := (HS.out).ob.cells4;obtain ⟨t0, t1, t2, t3⟩ := (HS.out).rb.cells4;obtain ⟨y0, y1, y2, y3⟩ := (HS.out).rb.free4;have hl0 := (HS.out).ob.lt;have hl1 := (HS.out).rb.lt;obtain ⟨p1, p2, p3, p4⟩ := (HS.out).done HG.out.2.2.2.1;obtain ⟨e0, e1, e2, e3⟩ := p4.cells4
     have HF : Q (zy R (r (r (r (r wr ⟨w.heap.size + 2, 0, U⟩ (G la' nl' lc')) ⟨w.heap.size + 2, 1, U⟩ (E J bt)) ⟨w.heap.size + 2, 2, U⟩ (E J nx)) ⟨w.heap.size + 2, 3, U⟩ (G va vn vc)) (.agg #[G la' nl' lc', E J bt, E J nx, G va vn vc]) (zh ⟨L, bt, nx, O⟩ (mk, md, mh, ml)).1 ∧ zm (r (r (r (r wr ⟨w.heap.size + 2, 0, U⟩ (G la' nl' lc')) ⟨w.heap.size + 2, 1, U⟩ (E J bt)) ⟨w.heap.size + 2, 2, U⟩ (E J nx)) ⟨w.heap.size + 2, 3, U⟩ (G va vn vc)) w.heap.size u7 (zh ⟨L, bt, nx, O⟩ (mk, md, mh, ml)).2 ∧ Z w.heap.size w (r (r (r (r wr ⟨w.heap.size + 2, 0, U⟩ (G la' nl' lc')) ⟨w.heap.size + 2, 1, U⟩ (E J bt)) ⟨w.heap.size + 2, 2, U⟩ (E J nx)) ⟨w.heap.size + 2, 3, U⟩ (G va vn vc))) := by
      refine ⟨?_, ?_, p3⟩
      ·rw [HP.out]; exact p1
      ·rw [HP.out]; exact p2
     clear p1 p2 p3 p4;go_wp2_with fail
     clear s0 s1 s2 s3 t0 t1 t2 t3 y0 y1 y2 y3 hl0 hl1;generalize (r (r (r (r wr ⟨w.heap.size + 2, 0, U⟩ (G la' nl' lc')) ⟨w.heap.size + 2, 1, U⟩ (E J bt)) ⟨w.heap.size + 2, 2, U⟩ (E J nx)) ⟨w.heap.size + 2, 3, U⟩ (G va vn vc)) = Z9 at *;refine bodyPost_ret (v := .tuple #[.agg #[G la' nl' lc', E J bt, E J nx, G va vn vc], u7]) ?_ rfl ⟨_, _, rfl, HF.out.1, HF.out.2.1, HF.out.2.2⟩;simp [results, Try.results50, go_sem, e0, e1, e2, e3]
    | false =>
     obtain ⟨rfl, rfl⟩ := HNW.out rfl;by_cases k7 : mk = 7
     ·subst k7
      have HP : Q (zh ⟨L, bt, nx, O⟩ (7, md, mh, ml) = (⟨L ++ [], bt, nx, so⟩, [(5, md, mh, [])])) := by show _ = _; rw [HH.out]; simp
      clear HH HNW;go_upto_region 31 with fail
      clear m0' m1' m2' m3' hml;have H3 : Q (za3 R w (G la nl lc) (E J bt) (E J nx) (G oa no oc) (E J 7) (E J md) (E J mh) (G ma mn mc) bt nx (wr.alloc (T #[E J 5, E J md, E J mh, G U 0 0] 43)) la' nl' lc' Y va vn vc jz (G (some ⟨wr.heap.size, 0, U⟩) 1 1) (L ++ []) so [(5, md, mh, [])]) := (HS.out.below (zi wr (T #[E J 5, E J md, E J mh, G U 0 0] 43))).say (zm.new1 wr HS.out.sz 5 md mh);generalize wr.alloc (T #[E J 5, E J md, E J mh, G U 0 0] 43) = wz at *;obtain ⟨s0, s1, s2, s3⟩ := (H3.out).ob.cells4;obtain ⟨t0, t1, t2, t3⟩ := (H3.out).rb.cells4;obtain ⟨y0, y1, y2, y3⟩ := (H3.out).rb.free4;have hl0 := (H3.out).ob.lt;have hl1 := (H3.out).rb.lt;obtain ⟨p1, p2, p3, p4⟩ := (H3.out).done HG.out.2.2.2.1;obtain ⟨e0, e1, e2, e3⟩ := p4.cells4
      have HF : Q (zy R (r (r (r (r wz ⟨w.heap.size + 2, 0, U⟩ (G la' nl' lc')) ⟨w.heap.size + 2, 1, U⟩ (E J bt)) ⟨w.heap.size + 2, 2, U⟩ (E J nx)) ⟨w.heap.size + 2, 3, U⟩ (G va vn vc)) (.agg #[G la' nl' lc', E J bt, E J nx, G va vn vc]) (zh ⟨L, bt, nx, O⟩ (7, md, mh, ml)).1 ∧ zm (r (r (r (r wz ⟨w.heap.size + 2, 0, U⟩ (G la' nl' lc')) ⟨w.heap.size + 2, 1, U⟩ (E J bt)) ⟨w.heap.size + 2, 2, U⟩ (E J nx)) ⟨w.heap.size + 2, 3, U⟩ (G va vn vc)) w.heap.size (G (some ⟨wr.heap.size, 0, U⟩) 1 1) (zh ⟨L, bt, nx, O⟩ (7, md, mh, ml)).2 ∧ Z w.heap.size w (r (r (r (r wz ⟨w.heap.size + 2, 0, U⟩ (G la' nl' lc')) ⟨w.heap.size + 2, 1, U⟩ (E J bt)) ⟨w.heap.size + 2, 2, U⟩ (E J nx)) ⟨w.heap.size + 2, 3, U⟩ (G va vn vc))) := by
       refine ⟨?_, ?_, p3⟩
       ·rw [HP.out]; exact p1
       ·rw [HP.out]; exact p2
      clear p1 p2 p3 p4;go_wp2_with fail
      clear s0 s1 s2 s3 t0 t1 t2 t3 y0 y1 y2 y3 hl0 hl1;generalize (r (r (r (r wz ⟨w.heap.size + 2, 0, U⟩ (G la' nl' lc')) ⟨w.heap.size + 2, 1, U⟩ (E J bt)) ⟨w.heap.size + 2, 2, U⟩ (E J nx)) ⟨w.heap.size + 2, 3, U⟩ (G va vn vc)) = Z9 at *;refine bodyPost_ret (v := .tuple #[.agg #[G la' nl' lc', E J bt, E J nx, G va vn vc], (G (some ⟨wr.heap.size, 0, U⟩) 1 1)]) ?_ rfl ⟨_, _, rfl, HF.out.1, HF.out.2.1, HF.out.2.2⟩;simp [results, Try.results50, go_sem, e0, e1, e2, e3]
     have HP : Q (zh ⟨L, bt, nx, O⟩ (mk, md, mh, ml) = (⟨L ++ [], bt, nx, so⟩, [])) := by show _ = _; rw [HH.out]; simp [k7]
     clear HH HNW;have e7 : (mk == 7) = false := by simpa using k7
     go_upto_region 31 with fail
     clear m0' m1' m2' m3' hml;obtain ⟨s0, s1, s2, s3⟩ := (HS.out).ob.cells4;obtain ⟨t0, t1, t2, t3⟩ := (HS.out).rb.cells4;obtain ⟨y0, y1, y2, y3⟩ := (HS.out).rb.free4;have hl0 := (HS.out).ob.lt;have hl1 := (HS.out).rb.lt;obtain ⟨p1, p2, p3, p4⟩ := (HS.out).done HG.out.2.2.2.1;obtain ⟨e0, e1, e2, e3⟩ := p4.cells4
     have HF : Q (zy R (r (r (r (r wr ⟨w.heap.size + 2, 0, U⟩ (G la' nl' lc')) ⟨w.heap.size + 2, 1, U⟩ (E J bt)) ⟨w.heap.size + 2, 2, U⟩ (E J nx)) ⟨w.heap.size + 2, 3, U⟩ (G va vn vc)) (.agg #[G la' nl' lc', E J bt, E J nx, G va vn vc]) (zh ⟨L, bt, nx, O⟩ (mk, md, mh, ml)).1 ∧ zm (r (r (r (r wr ⟨w.heap.size + 2, 0, U⟩ (G la' nl' lc')) ⟨w.heap.size + 2, 1, U⟩ (E J bt)) ⟨w.heap.size + 2, 2, U⟩ (E J nx)) ⟨w.heap.size + 2, 3, U⟩ (G va vn vc)) w.heap.size u7 (zh ⟨L, bt, nx, O⟩ (mk, md, mh, ml)).2 ∧ Z w.heap.size w (r (r (r (r wr ⟨w.heap.size + 2, 0, U⟩ (G la' nl' lc')) ⟨w.heap.size + 2, 1, U⟩ (E J bt)) ⟨w.heap.size + 2, 2, U⟩ (E J nx)) ⟨w.heap.size + 2, 3, U⟩ (G va vn vc))) := by
      refine ⟨?_, ?_, p3⟩
      ·rw [HP.out]; exact p1
      ·rw [HP.out]; exact p2
     clear p1 p2 p3 p4;go_wp2_with fail
     clear s0 s1 s2 s3 t0 t1 t2 t3 y0 y1 y2 y3 hl0 hl1;generalize (r (r (r (r wr ⟨w.heap.size + 2, 0, U⟩ (G la' nl' lc')) ⟨w.heap.size + 2, 1, U⟩ (E J bt)) ⟨w.heap.size + 2, 2, U⟩ (E J nx)) ⟨w.heap.size + 2, 3, U⟩ (G va vn vc)) = Z9 at *;refine bodyPost_ret (v := .tuple #[.agg #[G la' nl' lc', E J bt, E J nx, G va vn vc], u7]) ?_ rfl ⟨_, _, rfl, HF.out.1, HF.out.2.1, HF.out.2.2⟩;simp [results, Try.results50, go_sem, e0, e1, e2, e3]
end Go.Proofs.Ytpcnlifmkhagkaa
