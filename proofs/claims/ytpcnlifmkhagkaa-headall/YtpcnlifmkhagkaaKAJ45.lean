/- Proved: whatever it is called with, HeadAll returns true, and each argument reads afterwards as it read before. No condition. -/
import Derived.Test.YtpcnlifmkhagkaaKAJ44
import Derived.Test.YtpcnlifmkhagkaaRows
import Derived.ChangeOld
set_option maxRecDepth 20000
set_option maxHeartbeats 20000000
namespace Go.Proofs.Ytpcnlifmkhagkaa
open Go.RowKit
open Go.Value renaming slice → G, int → E
open Go.IntKind renaming i64 → J
open _root_.Option renaming none → U
open Go.RowKit renaming Hid → Q, Below → Z
attribute [local go_sem ↓] Go.wp_at_zero Go.wp_at_succ
theorem zoq {l : List P3} {n : Int} (hn : n ≤ 3) (h : zay l n = 0) : 0 < (zp l).length := by
 obtain ⟨h1, -, hin, -⟩ := zc4 h
 match l, h1 with
 | p :: t, _ =>
  have hp := hin p (List.mem_cons_self ..);unfold inB at hp
  have hp' := of_decide_eq_true hp
  have hm : p.1 ∈ zp (p :: t) := by
   unfold zp
   rw [List.mem_filter];refine ⟨by simp; omega, decide_eq_true ((ofB_pos _ _).2 (by simp))⟩
  exact List.length_pos_of_mem hm
theorem zir {R : Nat → Prop} {la oa : Option Addr} {nl no : Nat} {g : Gh} (lc : Nat) (w : World) (H : za5 R w la nl oa no g) (hl : g.log.length ≤ 1000000) :
  Calls Try.prog 8 #[G la nl lc] w fun e w' => ∃ a' n' c', e = .returned (G a' n' c') ∧ Q (n' = (zab g.log).length) ∧ Z w.heap.size w w' := by
 obtain ⟨Y, X, h⟩ := H;refine (zof la Y lc nl w h.ln (by have := congrArg List.length h.says; rw [List.length_map] at this; omega) ⟨h.log, fun y hy => (h.parts y hy).1⟩).mono ?_;rintro e w' ⟨a', n', c', jz, rfl, hn, hz, -, hb⟩;refine ⟨a', n', c', rfl, ?_, hb⟩;rw [h.says] at hz;show n' = _
 rw [← hz, List.length_map, hn]
theorem newMap (w : World) : ∃ V N, w.alloc (.map #[] 0) = V ∧ w.heap.size = N ∧ Z w.heap.size w V ∧ zc3 V N 0 (fun _ => false) := ⟨_, _, rfl, rfl, zi w _, mapF_made w⟩
structure AllS (w0 : World) (N7 NM : Nat) (la : Option Addr) (nl lc : Nat) (oa : Option Addr) (no oc : Nat) (g : Gh) (k : Nat) (f : Int → Bool) (w : World) : Prop where
 bel : Z w0.heap.size w0 w
 hb : Blk w N7 #[G la nl lc, E J g.boot, E J g.next, G oa no oc] 29
 hd : za5 (fun b => b = N7 ∨ b = NM) w la nl oa no g
 map : zc3 w NM k f
 ok : OkG g
section
variable {w0 : World} {N7 NM : Nat} {la : Option Addr} {nl lc : Nat} {oa : Option Addr} {no oc : Nat} {g : Gh} {k : Nat} {f : Int → Bool} {w w' : World}
theorem AllS.below (H : AllS w0 N7 NM la nl lc oa no oc g k f w) (hb : Z w.heap.size w w') : AllS w0 N7 NM la nl lc oa no oc g k f w' :=
 ⟨H.bel.trans (hb.mono H.bel.size), H.hb.below hb H.hb.lt, H.hd.below hb, H.map.below hb H.map.lt, H.ok⟩
end
theorem zn4 (n : Int) (a : Option Addr) (cap len : Nat) (S : List XL) (pa : Option Addr) (np pc : Nat) (pl : List P3) (ba : Option Addr) (n2 bc : Nat) (X2 : List XM) (w : World) (jw : len = S.length) (hp : zcc w a S) (hx : ∀ x ∈ S, x.2.2.2.length ≤ 9223372036854775807) (hl : S.length ≤ 9223372036854775807) (hnp : np = pl.length) (hpl : pl.length ≤ 9223372036854775807) (hpp : zal w pa pl) (hn2 : n2 = X2.length) (jX : zk 4 zb4 w ba X2) (_hm2 : ∀ x ∈ X2, zal w x.2.2.2.1.1 x.2.2.2.2) (_hlx : ∀ x ∈ X2, x.2.2.2.2.length ≤ 9223372036854775807) (hmax : X2.length ≤ maxLen) :
  Calls Try.prog 3 #[E J n, G a len cap, G pa np pc, G ba n2 bc] w fun e w' => e = .returned (.bool true) ∧ Z w.heap.size w w' := by
 have HX2 : Q (n2 = X2.length ∧ zk 4 zb4 w ba X2 ∧ X2.length ≤ maxLen) := ⟨hn2, jX, hmax⟩;have hn2m : n2 ≤ 9223372036854775807 := by unfold maxLen at hmax; omega
 clear hn2 jX hmax;obtain ⟨ok, hok⟩ : ∃ ok, ok = decide (1 ≤ n ∧ n ≤ 3) := ⟨_, rfl⟩;have HOK : Q (ok = decide (1 ≤ n ∧ n ≤ 3)) := hok;have HN : Q (np = pl.length ∧ pl.length ≤ 9223372036854775807 ∧ zal w pa pl) := ⟨hnp, hpl, hpp⟩;have HS : Q (len = S.length ∧ zcc w a S ∧ (∀ x ∈ S, x.2.2.2.length ≤ 9223372036854775807) ∧ S.length ≤ 9223372036854775807) := ⟨jw, hp, hx, hl⟩;clear jw hp hx hl hnp hpl hpp hok;go_enter Try.func3, Try.ntmps3
 go_wp2_with fail
 refine (zpm w).mono ?_;rintro e w0 ⟨rfl, hb0⟩;go_wp2_with fail
 refine (build_any (fun _ => False) n a cap len S w0 (fun _ h => h.elim) HS.out.1 (HS.out.2.1.below hb0) (fun x hx' => ((HS.out.2.1.2 x hx').below hb0).outR (fun _ h => h.elim)) HS.out.2.2.1 HS.out.2.2.2 ok HOK.out).mono ?_;rintro e w1 ⟨v1, rfl, ⟨la, nl, lc, bt, nx, oa, no, oc, rfl, hB⟩, hb1⟩;obtain ⟨W, N7, e1, e2, hbb, hhW⟩ := newBlk w1 #[G la nl lc, E J bt, E J nx, G oa no oc] 29;have hbW : Z w.heap.size w W := (hb0.trans (hb1.mono hb0.size)).trans (hbb.mono (Nat.le_trans hb0.size hb1.size));have HHD : Q (ok = true → bt = (zav n.toNat (S.map zf)).hd.boot ∧ nx = (zav n.toNat (S.map zf)).hd.next ∧ za5 (fun b => N7 ≤ b) W la nl oa no (zav n.toNat (S.map zf)).hd) := fun h => ⟨(hB h).1, (hB h).2.1, ((hB h).2.2.wide (R' := fun b => N7 ≤ b) (fun b hb => Or.inr (by omega))).below hbb⟩
 have HN7 : Q (w.heap.size ≤ N7) := by show _ ≤ _; have h1 := hb0.size; have h2 := hb1.size; omega
 have HBW : Q (Z w.heap.size w W ∧ Blk W N7 #[G la nl lc, E J bt, E J nx, G oa no oc] 29) := ⟨hbW, hhW⟩;clear hb0 hb1 hbb hB hbW hhW;go_upto_region 4 with fail
 clear e1 e2;cases ok
 ·clear HHD HOK
  go_wp2;go_ret;exact ⟨rfl, HBW.out.1⟩
 obtain ⟨e1, e2, hA⟩ := HHD.out rfl;have hn : 1 ≤ n ∧ n ≤ 3 := of_decide_eq_true HOK.out.symm;obtain ⟨kn, hkn⟩ := Int.eq_ofNat_of_zero_le (show 0 ≤ n by omega);subst hkn;rw [Int.toNat_natCast] at e1 e2 hA;obtain ⟨P, I, -⟩ := zoz (show kn ≤ 3 by omega) (S.map zf);have hokl := okl_play (show kn ≤ 3 by omega) (S.map zf);have hlw := (zmc kn (S.map zf)).mono (show 151 ≤ 200000 by omega);clear HHD HOK HS;generalize zav kn (S.map zf) = PW at *;have K0 := I.okG hokl (by have := hlw.1; omega);have HI : Q (Inv kn P PW ∧ OkL PW.hd.log ∧ zb0 200000 PW ∧ 1 ≤ (kn : Int) ∧ (kn : Int) ≤ 3) := ⟨I, hokl, hlw, hn.1, hn.2⟩;obtain ⟨g, hg⟩ : ∃ g, g = PW.hd := ⟨_, rfl⟩;have HGE : Q (g = PW.hd) := hg;rw [← hg] at e1 e2 hA K0;subst e1 e2;have HB : Q (LawS w W N7 pa pl la nl lc oa no oc g W) := ⟨Below.refl _ _, HBW.out.1, HBW.out.1.size, HBW.out.2, HBW.out.2.lt, hA.wide (fun b hb => Or.inr hb), HN.out.2.2.below HBW.out.1, hA.wide (fun b hb => Or.inl (Nat.le_of_eq hb.symm))⟩;have HK : Q (OkG g) := K0;clear K0 hA hn I hokl hlw hg HBW;go_wp2_with fail
 refine (zj0 pa pl pc np kn W HN.out.1 HN.out.2.1 HB.out.parts (by have := HI.out.2.2.2.2; omega)).mono ?_;rintro e wp ⟨rfl, hbp⟩;replace HB : Q (LawS w W N7 pa pl la nl lc oa no oc g wp) := HB.out.below hbp
 clear hbp;by_cases cw : zay pl kn = 0
 case neg =>
  have gw : (zay pl kn == 0) = false := by simpa using cw
  generalize zay pl kn = wq at *;clear cw;go_wp2;go_ret;exact ⟨rfl, HB.out.bel0⟩
 have HR : Q (zcb pl ∧ pl.length ≤ 4 ∧ zay pl kn = 0) := ⟨right_of (n := kn) (by have := HI.out.2.2.2.2; omega) cw, (zc4 cw).2.1, cw⟩;rw [cw];clear cw;obtain ⟨x0, x1, x2, x3⟩ := HB.out.hb.cells4;have lx := HB.out.hb.lt;have HCt := zmf lc oc wp (R := fun b => b = N7) (fun b hb => by subst hb; exact HB.out.hb.lt) (HB.out.hn.below HB.out.bel) HK.out pa np pc pl HN.out.1 (HB.out.parts.below HB.out.bel) HR.out.1;go_wp2_with fail
 clear x0 x1 x2 x3 lx;by_cases cF : 11 < g.opn.length ∨ 63 < g.next
 ·have HBe : Q (zo g pl = (g, [], 9)) := by show _ = _; unfold zo; rw [if_pos cF]
  rw [HBe.out] at HCt;refine HCt.mono ?_;rintro e w2 ⟨la1, nl1, lc1, oa1, no1, oc1, sa1, sn1, sc1, rfl, -, hM2, hb2⟩;obtain rfl : sn1 = 0 := hM2.len;have hz := HB.out.hb.below hb2 HB.out.hb.lt;obtain ⟨r0, r1, r2, r3⟩ := hz.cells4;obtain ⟨q0, q1, q2, q3⟩ := hz.free4;have lz := hz.lt;obtain ⟨jz, e1, hkZ, hBZ⟩ := fillE hz (G la1 nl1 lc1) (E J g.boot) (E J g.next) (G oa1 no1 oc1);have hBf : Z w.heap.size w jz := (HB.out.below hb2).bel0.trans (hkZ.below (Nat.le_trans HB.out.bel0.size hb2.size) (fun b hb => by subst hb; exact HN7.out));clear cF HCt hM2 hb2 hz hkZ hBZ;go_upto_region 7 with fail
  clear r0 r1 r2 r3 q0 q1 q2 q3 lz e1;go_wp2;go_ret;exact ⟨rfl, hBf⟩
 obtain ⟨dd, hdd⟩ : ∃ dd, dd = 64 * g.boot + g.next := ⟨_, rfl⟩;have HBe : Q (zo g pl = ({ g with opn := g.opn ++ [(dd, pl, false, [])], next := g.next + 1 }, za6 (dd, pl, false, []), 0)) := by show _ = _; unfold zo; rw [if_neg cF, hdd]
 have HSy : Q ((∀ x ∈ g.opn, x.1 ≠ dd) ∧ g.opn.length ≤ 12 ∧ 0 < (zp pl).length ∧ g.log.length ≤ 200000) := by
  refine ⟨fun x hx h => ?_, by rw [HGE.out]; exact HI.out.1.few, zoq (n := kn) (by have := HI.out.2.2.2.2; omega) HR.out.2.2, by rw [HGE.out]; exact HI.out.2.2.1.1⟩;have h1 := (HI.out.1.opn x (by rw [← HGE.out]; exact hx)).old;unfold za0 at h1
  rw [← HGE.out] at h1;omega
 clear hdd;have hnx : 0 ≤ g.next ∧ g.next ≤ 1000 := ⟨HK.out.next.1, by omega⟩
 have K1 : OkG { g with opn := g.opn ++ [(dd, pl, false, [])], next := g.next + 1 } := by
  refine ⟨⟨?_, fun y hy => ?_⟩, HK.out.ok, HK.out.len, fun y hy => ?_, fun y hy => ?_, HK.out.boot, ⟨by show 0 ≤ g.next + 1; omega, by show g.next + 1 ≤ 1000000; omega⟩⟩
  ·simp only [List.length_append, List.length_singleton]; have := HSy.out.2.1; omega
  ·rcases List.mem_append.1 hy with h | h
   ·exact HK.out.few.2 y h
   ·rw [List.mem_singleton.1 h]; exact ⟨HR.out.2.1, by simp⟩
  ·rcases List.mem_append.1 hy with h | h
   ·exact HK.out.right y h
   ·rw [List.mem_singleton.1 h]; exact HR.out.1
  ·rcases List.mem_append.1 hy with h | h
   ·exact HK.out.heard y h
   ·rw [List.mem_singleton.1 h]; exact ⟨List.nodup_nil, fun k hk => (by cases hk), by simp⟩
 have HSa : Q (Says g.log g.opn dd pl [] { g with opn := g.opn ++ [(dd, pl, false, [])], next := g.next + 1 }) := Or.inl ⟨rfl, [], rfl, List.nodup_nil, fun k hk => (by cases hk), HSy.out.2.2.1, fun k _ => by simp⟩;rw [HBe.out] at HCt;simp only at HCt
 refine HCt.mono ?_;rintro e w2 ⟨la1, nl1, lc1, oa1, no1, oc1, sa1, sn1, sc1, rfl, hA2, -, hb2⟩;obtain ⟨ng, hng⟩ : ∃ ng, ng = g.opn.length := ⟨_, rfl⟩;have HNG : Q (ng = g.opn.length) := hng;have hn1 : no1 = ng + 1 := by rw [hA2.lno, hng]; simp
 clear hng;subst hn1;have hz := HB.out.hb.below hb2 HB.out.hb.lt;obtain ⟨r0, r1, r2, r3⟩ := hz.cells4;obtain ⟨q0, q1, q2, q3⟩ := hz.free4;have lz := hz.lt;obtain ⟨jz, e1, hkZ, hBZ⟩ := fillE hz (G la1 nl1 lc1) (E J g.boot) (E J (g.next + 1)) (G oa1 (ng + 1) oc1);obtain ⟨g1, hg1⟩ : ∃ g1 : Gh, g1 = { g with opn := g.opn ++ [(dd, pl, false, [])], next := g.next + 1 } := ⟨_, rfl⟩;have hz1 : Z w.heap.size w jz := (HB.out.below hb2).bel0.trans (hkZ.below (Nat.le_trans HB.out.bel0.size hb2.size) (fun b hb => by subst hb; exact HN7.out))
 have HZ : Q (Z w.heap.size w jz ∧ Blk jz N7 #[G la1 nl1 lc1, E J g1.boot, E J g1.next, G oa1 (ng + 1) oc1] 29 ∧ za5 (fun b => b = N7) jz la1 nl1 oa1 (ng + 1) g1 ∧ OkG g1 ∧ Says g.log g.opn dd pl [] g1) := by
  rw [hg1];exact ⟨hz1, hBZ, hA2.keep hkZ, K1, HSa.out⟩
 have HG1 : Q (g1.log = g.log ∧ g1.opn = g.opn ++ [(dd, pl, false, [])]) := by rw [hg1]; exact ⟨rfl, rfl⟩
 clear cF HCt hb2 hz hkZ hBZ hA2 K1 HSa hz1 hg1;go_upto_region 7 with fail
 clear r0 r1 r2 r3 q0 q1 q2 q3 lz e1;clear HBe;have hgo : ng ≤ 12 := by rw [HNG.out]; exact HSy.out.2.1
 obtain ⟨b2, o2, -, -, -, -, rfl, lb2, c0, -, -, -⟩ := HZ.out.2.2.1.get (k := ng) (by rw [← HZ.out.2.2.1.lno]; omega)
 have hlast : (g1.opn[ng]'(by rw [← HZ.out.2.2.1.lno]; omega)).1 = dd := by
  have h1 : g1.opn[ng]? = some (dd, pl, false, []) := by rw [HG1.out.2, HNG.out, List.getElem?_append_right (Nat.le_refl _)]; simp
  obtain ⟨h2, h3⟩ := List.getElem?_eq_some_iff.1 h1;rw [h3]
 rw [hlast] at c0;obtain ⟨-, -, -, y3⟩ := HZ.out.2.1.cells4;have ly := HZ.out.2.1.lt;have hw1 : IntKind.i64.wrap (((ng + 1 : Nat) : Int) - 1) = (ng : Int) := by rw [IntKind.wrap_i64]; omega
 have hmm := @run_makeMap Try.prog;obtain ⟨VM, NM, e1, e2, hbM, hMM⟩ := newMap jz;have HA : Q (AllS w N7 NM la1 nl1 lc1 (some ⟨b2, o2, U⟩) (ng + 1) oc1 g1 0 (fun _ => false) VM ∧ N7 ≠ NM ∧ w.heap.size ≤ NM) := ⟨⟨HZ.out.1.trans (hbM.mono HZ.out.1.size), HZ.out.2.1.below hbM HZ.out.2.1.lt, (HZ.out.2.2.1.wide (R' := fun b => b = N7 ∨ b = NM) (fun b hb => hb.elim Or.inl (fun h => Or.inr (by omega)))).below hbM, hMM, HZ.out.2.2.2.1⟩, by have := HZ.out.2.1.lt; omega, by have := HZ.out.1.size; omega⟩;have HSa : Q (Says g.log g.opn dd pl [] g1) := HZ.out.2.2.2.2;clear hbM hMM HZ hlast;go_upto_region 11 with fail
 clear e1 e2 y3 ly hw1 hmm c0 lb2;obtain ⟨x0, -, -, -⟩ := HA.out.1.hb.cells4;have lx := HA.out.1.hb.lt;go_wp2_with fail
 clear x0 lx;refine (zir lc1 VM HA.out.1.hd (by rw [HG1.out.1]; have := HSy.out.2.2.2; omega)).mono ?_;rintro e w3 ⟨za, zn, zc, rfl, hzn, hb3⟩;rw [HG1.out.1] at hzn;replace HA : Q (AllS w N7 NM la1 nl1 lc1 (some ⟨b2, o2, U⟩) (ng + 1) oc1 g1 0 (fun _ => false) w3 ∧ N7 ≠ NM ∧ w.heap.size ≤ NM) := ⟨HA.out.1.below hb3, HA.out.2⟩
 clear hb3;go_wp2_with fail
 go_loopw [65] (fun i w' => ∃ k : Nat, k ≤ n2 ∧ i = E J k ∧ Q (∃ (la : Option Addr) (nl lc : Nat) (oa : Option Addr) (no oc : Nat) (g' : Gh) (f : Int → Bool), AllS w N7 NM la nl lc oa no oc g' k f w' ∧ Says g.log g.opn dd pl ((X2.take k).map fun x => (x.1, x.2.2.1)) g' ∧ ∀ q, f q = decide (((2 : Int), q) ∈ (X2.take k).map fun x => (x.1, x.2.2.1)))) (fun i _ => n2 - (intOf i).toNat)
 case atStart => exact ⟨0, Nat.zero_le _, rfl, la1, nl1, lc1, _, _, oc1, g1, _, HA.out.1, HSa.out, fun q => by simp⟩
 case round =>
  obtain ⟨k, hk, rfl, hH⟩ := hrel;by_cases hlt : k < n2
  ·obtain ⟨la, nl, lc, oa, no, oc, g', f, hA, hSa, hf⟩ := hH.out
   have hkX : k < X2.length := by have := HX2.out.1; omega
   have HT : Q ((X2.take (k + 1)).map (fun x => (x.1, x.2.2.1)) = (X2.take k).map (fun x => (x.1, x.2.2.1)) ++ [(X2[k].1, X2[k].2.2.1)]) := by show _ = _; rw [zax hkX, List.map_append]; rfl
   generalize (X2.take k).map (fun x => (x.1, x.2.2.1)) = SS at *;rcases HX2.out.2.1.below hA.bel with h0 | ⟨bm, om, rfl, lbm, hcm⟩
   ·rw [h0] at hkX; simp at hkX
   have c0 := hcm k hkX 0 _ rfl;have c1 := hcm k hkX 1 _ rfl;have c2 := hcm k hkX 2 _ rfl;have c3 := hcm k hkX 3 _ rfl;clear hcm;generalize X2[k] = x at *;obtain ⟨kd, de, hs, ⟨ma, mc⟩, ml⟩ := x;simp only [Nat.add_zero] at c0 c1 c2 c3 HT
   generalize ml.length = mn at *;obtain ⟨A, NB, e1, e2, hbA, hBA⟩ := newBlk wr #[E J kd, E J de, E J hs, G ma mn mc] 43;obtain ⟨B, e3, hkB, hBB⟩ := set13E hBA (E J dd) (G U 0 0);obtain ⟨r0, r1, r2, r3⟩ := hBA.cells4;obtain ⟨q0, q1, q2, q3⟩ := hBA.free4;have lz := hBA.lt;have hbB : Z wr.heap.size wr B := hbA.trans (hkB.below hbA.size (fun b hb => by omega));have HA' : Q (AllS w N7 NM la nl lc oa no oc g' k f B ∧ Blk B NB #[E J kd, E J dd, E J hs, G U 0 0] 43 ∧ N7 ≠ NB ∧ NM ≠ NB ∧ w.heap.size ≤ NB) := ⟨hA.below hbB, hBB, by have := hA.hb.lt; omega, by have := hA.map.lt; omega, by have := hA.bel.size; omega⟩;have HSf : Q (Says g.log g.opn dd pl SS g' ∧ ∀ q, f q = decide (((2 : Int), q) ∈ SS)) := ⟨hSa, hf⟩;clear hbA hBA hkB hBB hbB hA hSa hf hH;go_upto_region 16 with fail
   clear e1 e2 e3 c0 c1 c2 c3 lbm r0 r1 r2 r3 q0 q1 q2 q3 lz;have hB0 : Z w.heap.size w B := HA'.out.1.bel;obtain ⟨m0, m1, m2, m3⟩ := HA'.out.2.1.cells4;have lm := HA'.out.2.1.lt;by_cases ck : kd = 2 ∨ kd = 6
   case neg =>
    have k2 : ¬ kd = 2 := fun h => ck (Or.inl h)
    have k6 : ¬ kd = 6 := fun h => ck (Or.inr h)
    clear ck;go_wp2;go_ret;exact ⟨rfl, hB0⟩
   by_cases ch : hs < 0
   ·have g3 : decide (hs < 0) = true := decide_eq_true ch
    rcases ck with rfl | rfl
    ·go_wp2
     go_ret;exact ⟨rfl, hB0⟩
    ·go_wp2
     go_ret;exact ⟨rfl, hB0⟩
   by_cases cn : (kn : Int) ≤ hs
   ·have g3 : decide (hs < 0) = false := decide_eq_false ch
    have g4 : decide (hs ≥ (kn : Int)) = true := decide_eq_true cn;rcases ck with rfl | rfl
    ·go_wp2
     go_ret;exact ⟨rfl, hB0⟩
    ·go_wp2
     go_ret;exact ⟨rfl, hB0⟩
   have g3 : decide (hs < 0) = false := decide_eq_false ch;have g4 : decide (hs ≥ (kn : Int)) = false := decide_eq_false cn;have HIN : Q (In1 hs ∧ (kd = 2 ∨ kd = 6)) := ⟨by unfold In1; exact WalkArith.wf_i64 (by have := HI.out.2.2.2.2; omega), ck⟩
   have HNx : Q (Says g.log g.opn dd pl (SS ++ [(kd, hs)]) (zh g' (kd, dd, hs, [])).1 ∧ OkG (zh g' (kd, dd, hs, [])).1 ∧ ∀ q, (if q = hs then (f hs || decide (kd = 2)) else f q) = decide (((2 : Int), q) ∈ SS ++ [(kd, hs)])) := by
    have h1 := says_step HSy.out.1 HSy.out.2.2.1 HSf.out.1 kd hs ck;refine ⟨h1, HA'.out.1.ok.hear _ (by have h2 := (zk0 h1).2.2.1; have h3 := HSy.out.2.2.2; omega), fun q => ?_⟩;by_cases e : q = hs
    ·subst e
     rw [if_pos rfl, HSf.out.2];by_cases e2 : kd = 2
     ·subst e2; simp
     ·have : ¬ (2 : Int) = kd := fun h => e2 h.symm
      simp [e2, this]
    ·rw [if_neg e, HSf.out.2]
     simp [e]
   obtain ⟨x0, x1, x2, x3⟩ := HA'.out.1.hb.cells4;have lx := HA'.out.1.hb.lt;have HCt := zj2 lc oc B (R := fun b => b = N7 ∨ b = NM) (fun b hb => hb.elim (fun h => by rw [h]; exact HA'.out.1.hb.lt) (fun h => by rw [h]; exact HA'.out.1.map.lt)) HA'.out.1.hd HA'.out.1.ok kd dd hs U 0 0 [];generalize (zh g' (kd, dd, hs, [])).1 = g2 at *;generalize (zh g' (kd, dd, hs, [])).2 = ms at *;rcases ck with hk2 | hk2
   all_goals
    go_wp2_with fail
    clear x0 x1 x2 x3 lx m0 m1 m2 m3 lm;rw [hk2] at HCt;refine HCt.mono ?_;rintro e w2 ⟨la', nl', lc', oa', no', oc', sa', sn', sc', rfl, hA2, -, hb2⟩;have hz := HA'.out.1.hb.below hb2 HA'.out.1.hb.lt;obtain ⟨r0, r1, r2, r3⟩ := hz.cells4;obtain ⟨q0, q1, q2, q3⟩ := hz.free4;have lz := hz.lt;obtain ⟨jz, e1, hkZ, hBZ⟩ := fillE hz (G la' nl' lc') (E J g2.boot) (E J g2.next) (G oa' no' oc');have hbZ : Z w.heap.size B jz := (hb2.mono HA'.out.1.bel.size).trans (hkZ.below (Nat.le_trans HA'.out.1.bel.size hb2.size) (fun b hb => by subst hb; exact HN7.out));have HZ : Q (Z w.heap.size w jz ∧ Blk jz N7 #[G la' nl' lc', E J g2.boot, E J g2.next, G oa' no' oc'] 29 ∧ za5 (fun b => b = N7 ∨ b = NM) jz la' nl' oa' no' g2 ∧ zc3 jz NM k f ∧ Blk jz NB #[E J kd, E J dd, E J hs, G U 0 0] 43) := ⟨HA'.out.1.bel.trans hbZ, hBZ, hA2.keep (hkZ.mono (fun b _ hb => Or.inl hb)), (HA'.out.1.map.below hb2 HA'.out.1.map.lt).keep hkZ (fun h => HA.out.2.1 h.symm), (HA'.out.2.1.below hb2 HA'.out.2.1.lt).keep hkZ (fun h => HA'.out.2.2.1 h.symm)⟩;clear hb2 hz hkZ hBZ hA2 hbZ HCt;go_upto_region 19 with fail
    clear r0 r1 r2 r3 q0 q1 q2 q3 lz e1 g3 g4;obtain ⟨m0, -, m2, -⟩ := HZ.out.2.2.2.2.cells4;have lm := HZ.out.2.2.2.2.lt;have hlk := HZ.out.2.2.2.1.lookup hs HIN.out.1;cases hfv : f hs
    all_goals
     rw [hfv] at hlk;have HFV : Q (f hs = _) := hfv;clear hfv;go_wp2_with (at_mapUpdate; refine zog _ rfl _ _ _ rfl NM k f hs _ rfl HZ.out.2.2.2.1 (by have := HX2.out.1; have := HX2.out.2.2; omega) rfl rfl HIN.out.1 ?_; intro w8 hm8 hg8)
     have hk8 : zg (fun b => b = NM) jz w8 := zg.ofGrown hg8 (fun b hb => by cases hb; rfl)
     have HR8 : Q (∃ (la : Option Addr) (nl lc : Nat) (oa : Option Addr) (no oc : Nat) (g' : Gh) (f : Int → Bool), AllS w N7 NM la nl lc oa no oc g' (k + 1) f w8 ∧ Says g.log g.opn dd pl ((X2.take (k + 1)).map fun x => (x.1, x.2.2.1)) g' ∧ ∀ q, f q = decide (((2 : Int), q) ∈ (X2.take (k + 1)).map fun x => (x.1, x.2.2.1))) := by
      refine ⟨la', nl', lc', oa', no', oc', g2, _, ⟨HZ.out.1.trans (hk8.below HZ.out.1.size (fun b hb => by subst hb; exact HA.out.2.2)), HZ.out.2.1.keep hk8 HA.out.2.1, HZ.out.2.2.1.keep (hk8.mono (fun b _ hb => Or.inr hb)), hm8, HNx.out.2.1⟩, by rw [HT.out]; exact HNx.out.1, fun q => ?_⟩;rw [HT.out, ← HNx.out.2.2 q, HFV.out];simp [hk2]
     clear m0 m2 lm hlk hm8 hg8 hk8;go_wp2;go_roundw
     case rel => exact ⟨k + 1, by omega, by go_num, HR8.out⟩
     case measure => simp [intOf]; omega
  ·obtain ⟨la, nl, lc, oa, no, oc, g', f, hA, hSa, hf⟩ := hH.out
   rw [List.take_of_length_le (by have := HX2.out.1; omega)] at hSa hf
   have HE : Q (AllS w N7 NM la nl lc oa no oc g' k f wr ∧ ((zn < (zab g'.log).length ↔ ∀ q ∈ zp pl, f q = true) ∧ (zab g'.log).length ≤ zn + 1) ∧ g'.log.length ≤ 300000) := by
    have h1 := zk0 hSa;have h2 : zn = (zab g.log).length := hzn;refine ⟨hA, ⟨?_, by rw [h2]; exact h1.2.1⟩, by have h3 := h1.2.2.1; have h4 := HSy.out.2.2.2; omega⟩;rw [h2, h1.1];exact forall_congr' fun q => forall_congr' fun _ => by rw [hf, decide_eq_true_iff]
   have hzl : zn ≤ 1000000 := by
    have h2 : zn = (zab g.log).length := hzn;have h3 : (zab g.log).length ≤ g.log.length := by unfold zab; rw [List.length_map]; exact List.length_filter_le _ _
    have h4 := HSy.out.2.2.2;omega
   clear hH hA hSa hf;go_wp2_with fail
   refine (zgg pa pl pc np wr HN.out.1 HR.out.2.1 (HN.out.2.2.below HE.out.1.bel)).mono ?_;rintro e w4 ⟨hv, rfl, hoI, hb4⟩;rw [zfs] at hoI;obtain ⟨ga, gn, gc, rfl⟩ := hoI.own.slice zai;have jX := hoI.own.at zai;have hwl := zdy pl
   have HW4 : Q (AllS w N7 NM la nl lc oa no oc g' k f w4 ∧ zk 1 zv w4 ga (zp pl) ∧ gn = (zp pl).length ∧ ∀ q ∈ zp pl, In1 q) := ⟨HE.out.1.below hb4, jX.1, jX.2.1, fun q hq => by
    unfold In1
    have h1 := (List.mem_filter.1 hq).1;have h2 : 0 ≤ q ∧ q ≤ 2 := by simp at h1; omega
    exact WalkArith.wf_i64 (by omega)⟩
   have hgn : gn ≤ 3 := by have := jX.2.1; omega
   have HE2 : Q (((zn < (zab g'.log).length ↔ ∀ q ∈ zp pl, f q = true) ∧ (zab g'.log).length ≤ zn + 1) ∧ g'.log.length ≤ 300000) := HE.out.2;clear hoI jX hb4 HE hwl;generalize zp pl = hsl at *;go_wp2_with fail
   generalize wr = wo at *;go_loopw [113, 18] (fun i t w' => ∃ j : Nat, j ≤ gn ∧ i = E J j ∧ t = .bool ((hsl.take j).all f) ∧ w' = w4) (fun i _ _ => gn - (intOf i).toNat)
   case atStart => exact ⟨0, Nat.zero_le _, rfl, rfl, rfl⟩
   case round =>
    obtain ⟨j, hj, rfl, rfl, hwr⟩ := hrel;subst hwr;by_cases hltj : j < gn
    ·have hjh : j < hsl.length := by have := HW4.out.2.2.1; omega
     have HEj : Q ((hsl.take (j + 1)).all f = ((hsl.take j).all f && f hsl[j])) := by show _ = _; rw [zax hjh, List.all_append]; simp
     rcases HW4.out.2.1 with h0 | ⟨b, o, rfl, hb, hc⟩
     ·rw [h0] at hjh; simp at hjh
     have d0 := hc j hjh 0 _ rfl;simp only [Nat.mul_one, Nat.add_zero] at d0
     have hlk := HW4.out.1.map.lookup hsl[j] (HW4.out.2.2.2 _ (List.getElem_mem hjh));clear hc;generalize (hsl.take j).all f = tj at *;generalize hsl[j] = q at *;cases hfq : f q
     all_goals
      rw [hfq] at hlk;have HFQ : Q (f q = _) := hfq;clear hfq;cases tj
      all_goals
       go_wp2;go_roundw
       case rel => exact ⟨j + 1, by omega, by go_num, by rw [HEj.out, HFQ.out]; rfl, trivial⟩
       case measure => simp [intOf]; omega
    ·have HAll : Q ((hsl.take j).all f = decide (zn < (zab g'.log).length)) := by
      show _ = _
      rw [List.take_of_length_le (by have := HW4.out.2.2.1; omega)];cases h : hsl.all f
      ·symm; rw [decide_eq_false_iff_not, HE2.out.1.1]; intro h'; rw [List.all_eq_true.2 h'] at h; cases h
      ·symm; rw [decide_eq_true_iff, HE2.out.1.1]; exact List.all_eq_true.1 h
     rw [HAll.out];clear HAll;obtain ⟨bd, hbd⟩ : ∃ bd, bd = decide (zn < (zab g'.log).length) := ⟨_, rfl⟩;have HBd : Q (bd = decide (zn < (zab g'.log).length)) := hbd;rw [← hbd];clear hbd;have HD := zir lc wr HW4.out.1.hd (by have := HE2.out.2; omega);obtain ⟨x0, -, -, -⟩ := HW4.out.1.hb.cells4;have lx := HW4.out.1.hb.lt;have HDl : Q ((zab g'.log).length ≤ zn + 1) := HE2.out.1.2;obtain ⟨dn2, hdn2⟩ : ∃ dn2, (zab g'.log).length = dn2 := ⟨_, rfl⟩;have HDn : Q ((zab g'.log).length = dn2) := hdn2;rw [hdn2] at HDl HBd;clear hdn2;have hdn : dn2 ≤ 1000001 := by have := HDl.out; omega
     go_wp2_with fail
     refine HD.mono ?_;rintro e w5 ⟨a5, n5, c5, rfl, hn5, hb5⟩;obtain rfl : dn2 = n5 := (Hid.out hn5 |>.trans HDn.out).symm;have HA5 := HW4.out.1.below hb5;obtain ⟨y0, -, -, -⟩ := HA5.hb.cells4;have ly := HA5.hb.lt;have HBf : Q (AllS w N7 NM la nl lc oa no oc g' k f w5) := HA5;clear x0 lx HA5 hb5;have HDl2 : (dn2 : Int) ≤ (zn : Int) + 1 := by have := HDl.out; omega
     have hw : IntKind.i64.wrap ((zn : Int) + 1) = (zn : Int) + 1 := by rw [IntKind.wrap_i64]; omega
     have HD5 := zir lc w5 HBf.out.hd (by have := HE2.out.2; omega);cases hbd2 : bd
     case false =>
      have hgt : ¬ (zn : Int) < (dn2 : Int) := by have h := HBd.out; rw [hbd2] at h; have h' := of_decide_eq_false h.symm; omega
      have hgn : ¬ zn < dn2 := by omega
      clear hbd2;go_wp2_with fail
      clear y0 ly;refine HD5.mono ?_;rintro e w6 ⟨a6, n6, c6, rfl, hn6, hb6⟩;obtain rfl : dn2 = n6 := (Hid.out hn6 |>.trans HDn.out).symm;have hBf2 := (HBf.out.below hb6).bel;clear hb6;go_wp2;go_ret;exact ⟨rfl, hBf2⟩
     case true =>
      have hgt : (zn : Int) < (dn2 : Int) := by have h := HBd.out; rw [hbd2] at h; have h' := of_decide_eq_true h.symm; omega
      have hgn : zn < dn2 := by omega
      clear hbd2;go_wp2_with fail
      clear y0 ly;refine HD5.mono ?_;rintro e w6 ⟨a6, n6, c6, rfl, hn6, hb6⟩;obtain rfl : dn2 = n6 := (Hid.out hn6 |>.trans HDn.out).symm;have hBf2 := (HBf.out.below hb6).bel;clear hb6;go_wp2;go_ret;exact ⟨rfl, hBf2⟩
open Go.ChangeShapes Go.WideShapes Go.ChangeAt Go.RowKit Go.Deep
section
variable {H : Type} {enc : TypeId × Value → H} {w : World} {base : Nat} {spare : Nat → Bool} {held : Bool}
theorem cellsStep : Try.prog.cellsOf 86 = 3 := by kernel_rfl
theorem zn8 (fuel : Nat) (cs : List Value) (x : DataW H × List MemPlace) (jw : cs.length = 3) (h : DataW.trod enc Try.prog w 0 spare held fuel 86 cs = some x) : ∃ jj : XL, cs = zaj jj ∧ (zal w jj.2.2.1.1 jj.2.2.2 ∧ jj.2.2.2.length ≤ jj.2.2.1.2 ∧ jj.2.2.1.2 ≤ maxLen ∧ (Lit.int J jj.1).wf = true ∧ (Lit.int J jj.2.1).wf = true) := by
 obtain ⟨xs, k, hk, hxy, _, hxl, hf⟩ := DataW.trod_struct Try.underlying86 h
 match xs, hxl, cs, jw with
 | [y0, y1, y2], _, [v0, v1, v2], _ =>
  have g0 := hf 0 _ rfl;have g1 := hf 1 _ rfl;have g2 := hf 2 _ rfl;simp [zib, zl5] at g0 g1 g2
  obtain ⟨n0, q0, _, w0⟩ := DataW.trod_int Try.underlying3 g0;obtain ⟨n1, q1, _, w1⟩ := DataW.trod_int Try.underlying3 g1;obtain ⟨a, cap, l, q2, hp, hc, hm⟩ := zlg g2;simp at q0 q1 q2
  subst q0 q1 q2;exact ⟨(n0, n1, (a, cap), l), rfl, hp, hc, hm, w0, w1⟩
theorem zot {fuel : Nat} {v : Value} {x : DataW H × List MemPlace} (hv : Value.okWide Try.prog w .any base 22 v) (h : DataW.trod enc Try.prog w 0 spare held fuel 22 v.cells.toList = some x) :
  ∃ (a : Option Addr) (cap : Nat) (X : List XL), v = G a X.length cap ∧ zcc w a X ∧ (∀ jj ∈ X, jj.2.2.2.length ≤ 9223372036854775807 ∧ (Lit.int J jj.1).wf = true ∧ (Lit.int J jj.2.1).wf = true) ∧ X.length ≤ cap ∧ cap ≤ maxLen := by
 obtain ⟨a, len, cap, rfl⟩ := okWide_slice Try.underlying22 hv;obtain ⟨a', cap', X, e, h1, h2, h3, h4⟩ := zju (by decide) za4 Try.underlying22 cellsStep (fun f cs x hl h => zn8 f cs x hl h) h;simp [Value.cells] at e
 obtain ⟨rfl, rfl, rfl⟩ := e;exact ⟨_, _, X, rfl, ⟨h1, fun y hy => (h2 y hy).1⟩, fun y hy => ⟨by have := h2 y hy; unfold maxLen at this; omega, (h2 y hy).2.2.2⟩, h3, h4⟩
end
open Go.ChangeShapes Go.WideShapes Go.ChangeAt Go.RowKit Go.Deep
theorem ownS : ownKnob Try.prog.godebug = U := by kernel_rfl
theorem laidOutS : laidOutB Try.prog = true := by kernel_rfl
theorem zqh (os : Os) (started : os.Started) (H : Type) (enc : TypeId × Value → H) :
  ReturnsInHanded {} Try.checked os 3 .any (Rows.headAllSpec.pre6 enc Try.prog Try.f3 Rows.headAllRow.domain false) (Rows.headAllSpec.post enc Try.prog Try.f3 false true false false) := by
 refine returnsInHanded_of_change (C := Try.checked) ownS started (by kernel_rfl) Try.func3
  (ChangeSpec.witness6 (enc := enc) (C := Try.checked) false ⟨#[], #[E J 0, G U 0 0, G U 0 0, G U 0 0], []⟩ 8 (by kernel_rfl) (by kernel_rfl) (by kernel_rfl) (by kernel_rfl)) ?_
 intro W base args ds gs before hval0 hW hcnd _;have hval : ∀ (j : Nat) t v, Try.f3.params[j]? = some t → args[j]? = some v → Value.okWide Try.prog W .any base t v := hval0;have hW' := hW;obtain ⟨p, q, hA0, hV, rfl, hfz, hnd⟩ := hW;have hA : DataW.TrodAll enc Try.prog W 0 (fun _ => true) true Try.f3.params.toList args.toList ds p := hA0;rw [Try.params3] at hA hval;obtain ⟨v0, v1, v2, v3, d0, d1, d2, d3, p0, p1, p2, p3, rfl, rfl, rfl, h0, h1, h2, h3⟩ := trodAll_four hA;obtain ⟨rfl, rfl⟩ := trodVars_none hV;have k0 := h0;have k1 := h1;have k2 := h2;have k3 := h3;have lt0 : ∀ x ∈ p0, x.block < W.heap.size := by obtain ⟨m, hm⟩ := k0; exact DataW.trod_lt m _ _ _ hm
 have lt1 : ∀ x ∈ p1, x.block < W.heap.size := by obtain ⟨m, hm⟩ := k1; exact DataW.trod_lt m _ _ _ hm
 have lt2 : ∀ x ∈ p2, x.block < W.heap.size := by obtain ⟨m, hm⟩ := k2; exact DataW.trod_lt m _ _ _ hm
 have lt3 : ∀ x ∈ p3, x.block < W.heap.size := by obtain ⟨m, hm⟩ := k3; exact DataW.trod_lt m _ _ _ hm
 obtain ⟨f1, h1⟩ := h1;obtain ⟨f2, h2⟩ := h2;obtain ⟨f3, h3⟩ := h3;obtain ⟨n0, rfl⟩ := okWide_int Try.underlying3 (hval 0 3 v0 rfl rfl);obtain ⟨a1, cap1, S1, rfl, hp1, hx1, hc1, hm1⟩ := zot (hval 1 22 v1 rfl rfl) h1;obtain ⟨a2, cap2, l2, rfl, hp2, hc2, hm2⟩ := zon (hval 2 23 v2 rfl rfl) h2;obtain ⟨a3, cap3, U3, rfl, hr3, hx3, hc3, hm3⟩ := open_msgs (hval 3 24 v3 rfl rfl) h3;clear hA0 hval0;refine (zn4 n0 a1 cap1 _ S1 a2 _ cap2 l2 a3 _ cap3 U3 W rfl hp1 (fun x hx => (hx1 x hx).1) (by unfold maxLen at hm1; omega) rfl (by unfold maxLen at hm2; omega) hp2 rfl hr3 (fun x hx => (hx3 x hx).1) (fun x hx => (hx3 x hx).2.1) (Nat.le_trans hc3 hm3)).mono fun e W' ⟨he, bel⟩ => ?_
 subst he;exact ⟨_, rfl, _, _, _, [], _, [], hW', trodAll_mk1 (shut_bool Try.underlying4 _), trodAll_mk4 (Below.trod laidOutS (by kernel_rfl) (of_decide_eq_true (by kernel_rfl)) k0 bel lt0) (Below.trod laidOutS (by kernel_rfl) (of_decide_eq_true (by kernel_rfl)) k1 bel lt1) (Below.trod laidOutS (by kernel_rfl) (of_decide_eq_true (by kernel_rfl)) k2 bel lt2) (Below.trod laidOutS (by kernel_rfl) (of_decide_eq_true (by kernel_rfl)) k3 bel lt3), rfl, bel.frame _, fun h => by cases h⟩
theorem headAll_holds : Rows.HeadAllSaid :=
 OpenClaim.holds_of_wide 3 Try.f3 rfl rfl rfl rfl rfl rfl rfl ⟨rfl, rfl, rfl, rfl, rfl⟩ rfl rfl rfl rfl rfl (by kernel_rfl) Try.func3 (by kernel_rfl)
  (of_decide_eq_true (by kernel_rfl)) (by unfold Func.isWrapper; first | (rw [if_pos (by decide +kernel)]; kernel_rfl) | (rw [if_neg (by decide +kernel)]; exact ⟨rfl, rfl⟩))
  (fun os started H enc _ => zqh os started H enc)
end Go.Proofs.Ytpcnlifmkhagkaa
