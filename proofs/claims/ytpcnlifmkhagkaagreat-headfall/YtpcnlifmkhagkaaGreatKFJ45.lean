/- Proved: whatever it is called with, HeadFall returns true, and each argument reads afterwards as it read before. No condition. -/
import Derived.Test.YtpcnlifmkhagkaaGreatKFJ44
import Derived.Test.YtpcnlifmkhagkaaGreatRows
import Derived.OpenShut
import Derived.Deep.Slices
import Derived.ChangeOld
set_option maxRecDepth 20000
set_option maxHeartbeats 20000000
namespace Go.Proofs.YtpcnlifmkhagkaaGreat
open Go.RowKit
open Go.Value renaming slice → G, int → E
open Go.IntKind renaming i64 → J
open _root_.Option renaming none → U
open Go.RowKit renaming Hid → Q, Below → Z
attribute [local go_sem ↓] Go.wp_at_zero Go.wp_at_succ
theorem any_snoc {α : Type} {f : α → Bool} {l : List α} {k : Nat} (h : k < l.length) : (l.take (k + 1)).any f = ((l.take k).any f || f l[k]) := by rw [zax h, List.any_append]; simp
theorem zol {α : Type} {f : α → Bool} {l : List α} {k : Nat} (h : k < l.length) : ((l.take (k + 1)).filter f).length = ((l.take k).filter f).length + (if f l[k] = true then 1 else 0) := by
 rw [zax h, List.filter_append, List.length_append];cases e : f l[k] <;> simp [e]
theorem zo8 (n : Int) (a : Option Addr) (cap len : Nat) (S : List XL) (pa : Option Addr) (np pc : Nat) (pl : List P3) (w : World) (jw : len = S.length) (hp : zb7 w a S) (hx : ∀ x ∈ S, x.2.2.2.length ≤ 9223372036854775807) (hl : S.length ≤ 9223372036854775807) (hnp : np = pl.length) (hpl : pl.length ≤ 9223372036854775807) (hpp : zai w pa pl) :
  Calls Tryz.prog 4 #[E J n, G a len cap, G pa np pc] w fun e w' => e = .returned (.bool true) ∧ Z w.heap.size w w' := by
 obtain ⟨ok, hok⟩ : ∃ ok, ok = decide (1 ≤ n ∧ n ≤ 3) := ⟨_, rfl⟩;have HOK : Q (ok = decide (1 ≤ n ∧ n ≤ 3)) := hok;have HN : Q (np = pl.length ∧ pl.length ≤ 9223372036854775807 ∧ zai w pa pl) := ⟨hnp, hpl, hpp⟩;have HS : Q (len = S.length ∧ zb7 w a S ∧ (∀ x ∈ S, x.2.2.2.length ≤ 9223372036854775807) ∧ S.length ≤ 9223372036854775807) := ⟨jw, hp, hx, hl⟩;clear jw hp hx hl hnp hpl hpp hok;go_enter Tryz.func4, Tryz.ntmps4
 go_wp2_with fail
 refine (zoo w).mono ?_;rintro e w0 ⟨rfl, hb0⟩;go_wp2_with fail
 refine (build_any (fun _ => False) n a cap len S w0 (fun _ h => h.elim) HS.out.1 (HS.out.2.1.below hb0) (fun x hx' => ((HS.out.2.1.2 x hx').below hb0).outR (fun _ h => h.elim)) HS.out.2.2.1 HS.out.2.2.2 ok HOK.out).mono ?_;rintro e w1 ⟨v1, rfl, ⟨la, nl, lc, bt, nx, oa, no, oc, rfl, hB⟩, hb1⟩;obtain ⟨W, N7, e1, e2, hbb, hhW⟩ := zfy w1 #[G la nl lc, E J bt, E J nx, G oa no oc] 29;have hbW : Z w.heap.size w W := (hb0.trans (hb1.mono hb0.size)).trans (hbb.mono (Nat.le_trans hb0.size hb1.size));have HHD : Q (ok = true → bt = (zav n.toNat (S.map zf)).hd.boot ∧ nx = (zav n.toNat (S.map zf)).hd.next ∧ zay (fun b => N7 ≤ b) W la nl oa no (zav n.toNat (S.map zf)).hd) := fun h => ⟨(hB h).1, (hB h).2.1, ((hB h).2.2.wide (R' := fun b => N7 ≤ b) (fun b hb => Or.inr (by omega))).below hbb⟩
 have HBW : Q (Z w.heap.size w W ∧ Blk W N7 #[G la nl lc, E J bt, E J nx, G oa no oc] 29) := ⟨hbW, hhW⟩;clear hb0 hb1 hbb hB hbW hhW;go_upto_region 4 with fail
 clear e1 e2;cases ok
 ·clear HHD HOK
  go_wp2;go_ret;exact ⟨rfl, HBW.out.1⟩
 obtain ⟨e1, e2, hA⟩ := HHD.out rfl;have hn : 1 ≤ n ∧ n ≤ 3 := of_decide_eq_true HOK.out.symm;obtain ⟨kn, hkn⟩ := Int.eq_ofNat_of_zero_le (show 0 ≤ n by omega);subst hkn;rw [Int.toNat_natCast] at e1 e2 hA;obtain ⟨P, I, -⟩ := zqg (show kn ≤ 3 by omega) (S.map zf);have hokl := okl_play (show kn ≤ 3 by omega) (S.map zf);have hlw := (zm2 kn (S.map zf)).mono (show 151 ≤ 200000 by omega);clear HHD HOK HS;generalize zav kn (S.map zf) = PW at *;have K0 := I.okG hokl (by have := hlw.1; omega);have HI : Q (Inv kn P PW ∧ OkL PW.hd.log ∧ zb0 200000 PW ∧ 1 ≤ (kn : Int) ∧ (kn : Int) ≤ 3) := ⟨I, hokl, hlw, hn.1, hn.2⟩;obtain ⟨g, hg⟩ : ∃ g, g = PW.hd := ⟨_, rfl⟩;have HGE : Q (g = PW.hd) := hg;rw [← hg] at e1 e2 hA K0;subst e1 e2;have HB : Q (zd2 w W N7 pa pl la nl lc oa no oc g W) := ⟨Below.refl _ _, HBW.out.1, HBW.out.1.size, HBW.out.2, HBW.out.2.lt, hA.wide (fun b hb => Or.inr hb), HN.out.2.2.below HBW.out.1, hA.wide (fun b hb => Or.inl (Nat.le_of_eq hb.symm))⟩;have HK : Q (OkG g) := K0;clear K0 hA hn I hokl hlw hg HBW;go_wp2_with fail
 refine (ziz pa pl pc np kn W HN.out.1 HN.out.2.1 HB.out.parts (by have := HI.out.2.2.2.2; omega)).mono ?_;rintro e wp ⟨rfl, hbp⟩;replace HB : Q (zd2 w W N7 pa pl la nl lc oa no oc g wp) := HB.out.below hbp
 clear hbp;by_cases cw : za0 pl kn = 0
 case neg =>
  have gw : (za0 pl kn == 0) = false := by simpa using cw
  generalize za0 pl kn = wq at *;clear cw;go_wp2;go_ret;exact ⟨rfl, HB.out.bel0⟩
 have HR : Q (zcd pl ∧ pl.length ≤ 4 ∧ za0 pl kn = 0) := ⟨right_of (n := kn) (by have := HI.out.2.2.2.2; omega) cw, (zdd cw).2.1, cw⟩;rw [cw];clear cw;obtain ⟨x0, x1, x2, x3⟩ := HB.out.hb.cells4;have lx := HB.out.hb.lt;go_wp2_with fail
 clear x0 x1 x2 x3 lx;refine (zly lc oc wp (R := fun _ => False) (fun _ h => h.elim) (HB.out.at.wide (fun _ h => h.elim)) HK.out).mono ?_;rintro e w2 ⟨la1, nl1, lc1, oa1, no1, oc1, rfl, hA2, hb2⟩;obtain ⟨V, N9, e1, e2, hbb, hxB⟩ := zfy w2 #[G la1 nl1 lc1, E J (zz g).1.boot, E J (zz g).1.next, G oa1 no1 oc1] 29;replace HB : Q (zd2 w W N7 pa pl la nl lc oa no oc g V) := HB.out.below (hb2.trans (hbb.mono hb2.size))
 have HX : Q (zay (fun _ => False) V la1 nl1 oa1 no1 (zz g).1 ∧ Blk V N9 #[G la1 nl1 lc1, E J (zz g).1.boot, E J (zz g).1.next, G oa1 no1 oc1] 29) := ⟨hA2.below hbb, hxB⟩;clear hA2 hb2 hbb hxB;go_upto_region 7 with fail
 clear e1 e2;by_cases c19 : 19 < PW.hd.boot
 ·have HF : Q (zz g = (g, 5)) := by show _ = _; unfold zz; rw [if_pos (by rw [HGE.out]; exact c19)]
  rw [HF.out] at HX ⊢
  obtain ⟨x0, x1, x2, x3⟩ := HB.out.hb.cells4;obtain ⟨y0, y1, y2, y3⟩ := HX.out.2.cells4;have lx := HB.out.hb.lt;have ly := HX.out.2.lt;clear c19;go_wp2_with fail
  refine (zoa lc1 oc1 V HX.out.1 HK.out lc oc HB.out.at).mono ?_;rintro e w3 ⟨rfl, hb3⟩;have hBf := (HB.out.below hb3).bel0;clear x0 x1 x2 x3 y0 y1 y2 y3 lx ly hb3;go_wp2;go_ret;exact ⟨rfl, hBf⟩
 have hknow := zp8 HI.out.1 c19;have hfew : g.opn.length ≤ 12 := by rw [HGE.out]; exact HI.out.1.few
 have hboot := HI.out.1.boot1;have hboot2 := HI.out.1.boot20;rw [← HGE.out] at hknow hboot hboot2;obtain ⟨kn0, kn1, kn2, kn3, kn4, kn5, kn6, kn7⟩ := hknow;have K1 : OkG (zz g).1 := by rw [HGE.out]; exact OkG.fall HI.out.1 HI.out.2.1 HI.out.2.2.1
 have HKn : Q (zad (zz g).1.log = zad g.log ∧ (zz g).1.boot = g.boot + 1 ∧ (zz g).1.next = 0 ∧ (∀ o ∈ g.opn, o.2.2.1 = true → ∃ q ∈ (zz g).1.opn, q.1 = o.1 ∧ q.2.2.1 = true) ∧ (g.opn.filter fun o => o.2.2.1).length = (zz g).1.opn.length ∧ (∀ o ∈ g.opn, o.1 < 64 * (g.boot + 1)) ∧ (∀ jj ∈ g.log, jj.1 = 5 → jj.2.1 < 64 * (g.boot + 1)) ∧ OkG (zz g).1 ∧ g.opn.length ≤ 12 ∧ 1 ≤ g.boot ∧ g.boot ≤ 20) := ⟨kn1, kn2, kn3, kn4, kn5, kn6, kn7, K1, hfew, hboot, hboot2⟩;rw [kn0];rw [kn2, kn3] at HX ⊢
 clear kn0 kn1 kn2 kn3 kn4 kn5 kn6 kn7 K1 hfew c19 hboot hboot2;generalize (zz g).1 = f at *;have hno := HB.out.at.lno;have hno1 := HX.out.1.lno;have hnl := HB.out.at.lnl;have HNO : Q (no = g.opn.length ∧ no1 = f.opn.length ∧ no ≤ 12 ∧ nl = g.log.length) := ⟨hno, hno1, by have := HKn.out.2.2.2.2.2.2.2.2.1; omega, hnl⟩;clear hno hno1 hnl;have HKc : Q (∀ w', Z V.heap.size V w' → (w'.cell? ⟨N7, 0, U⟩ = some (G la nl lc) ∧ w'.cell? ⟨N7, 1, U⟩ = some (E J g.boot) ∧ w'.cell? ⟨N7, 2, U⟩ = some (E J g.next) ∧ w'.cell? ⟨N7, 3, U⟩ = some (G oa no oc)) ∧ (w'.cell? ⟨N9, 0, U⟩ = some (G la1 nl1 lc1) ∧ w'.cell? ⟨N9, 1, U⟩ = some (E J (g.boot + 1)) ∧ w'.cell? ⟨N9, 2, U⟩ = some (E J 0) ∧ w'.cell? ⟨N9, 3, U⟩ = some (G oa1 no1 oc1))) := fun w' hb => ⟨(HB.out.hb.below hb HB.out.hb.lt).cells4, (HX.out.2.below hb HX.out.2.lt).cells4⟩
 have hX0 : Z V.heap.size V V.drew := (Below.refl _ _).drew;have lx := HB.out.hb.lt;have ly := HX.out.2.lt;obtain ⟨Yg, Xg, hFg⟩ := HB.out.at;obtain ⟨Yf, Xf, hFf⟩ := HX.out.1;have HD : Q (zbd (RV W V) V la nl Yg oa no Xg g.log g.opn ∧ zbd (fun _ => False) V la1 nl1 Yf oa1 no1 Xf f.log f.opn ∧ Yg.length ≤ 1000000 ∧ Yf.length ≤ 1000000) := ⟨hFg, hFf, by have h1 := HK.out.len; rw [← hFg.says, List.length_map] at h1; omega, by have h1 := HKn.out.2.2.2.2.2.2.2.1.len; rw [← hFf.says, List.length_map] at h1; omega⟩;clear hFg hFf;have hwb : IntKind.i64.wrap (g.boot + 1) = g.boot + 1 := by have h1 := HKn.out.2.2.2.2.2.2.2.2.2; rw [IntKind.wrap_i64]; omega
 go_upto_region 9 with fail
 refine zcc (S := fun w' => (w'.cell? ⟨N7, 0, U⟩ = some (G la nl lc) ∧ w'.cell? ⟨N7, 1, U⟩ = some (E J g.boot) ∧ w'.cell? ⟨N7, 2, U⟩ = some (E J g.next) ∧ w'.cell? ⟨N7, 3, U⟩ = some (G oa no oc)) ∧ (w'.cell? ⟨N9, 0, U⟩ = some (G la1 nl1 lc1) ∧ w'.cell? ⟨N9, 1, U⟩ = some (E J (g.boot + 1)) ∧ w'.cell? ⟨N9, 2, U⟩ = some (E J 0) ∧ w'.cell? ⟨N9, 3, U⟩ = some (G oa1 no1 oc1))) 15 (by kernel_rfl) (HKc.out _ hX0) (fun jq => ?_);refine tks 4 [(0, 51), (1, 52), (3, 54), (4, 55)] (b := ?_) rfl (by decide +kernel) (fun _ _ _ _ _ h => h) ?_ jq ?_;rotate_left 1
 ·iterate 4 (refine zab.cons (v := ?_) rfl rfl (by rfl) ?_ ?_; rotate_left 1; (intro w h; (try dsimp only at h); go_simp; try with_reducible rfl))
  exact zab.nil
 refine rdy 2 (by kernel_rfl) rfl (fun K hK => ?_);go_simp;(go_at_call 28; refine (zmf la1 Yf lc1 nl1 V.drew HD.out.2.1.ln HD.out.2.2.2 ⟨HD.out.2.1.log.below hX0, fun y hy => ((HD.out.2.1.parts y hy).1).below hX0⟩).mono ?_; rintro e y1 ⟨za, zn, zc, Z1, rfl, hz1, hz2, hz3, j1⟩; rw [HD.out.2.1.says] at hz2; have k1 : Z V.heap.size V y1 := hX0.trans (j1.mono hX0.size); have HZ1 : Q (zn = Z1.length ∧ Z1.map zaz = zad f.log ∧ zdn y1 za Z1) := ⟨hz1, hz2, hz3⟩; clear j1 hz1 hz2 hz3)
 go_wp2_with fail
 refine kgo hK (by decide +kernel) (HKc.out _ k1) (fun jq => ?_);clear hK K;refine rdy 5 (by kernel_rfl) rfl (fun K hK => ?_);go_simp;(go_at_call 28; refine (zmf la Yg lc nl y1 HD.out.1.ln HD.out.2.2.1 ⟨HD.out.1.log.below k1, fun y hy => ((HD.out.1.parts y hy).1).below k1⟩).mono ?_; rintro e y2 ⟨za2, zn2, zc2, Z2, rfl, hz1, hz2, hz3, j1⟩; rw [HD.out.1.says] at hz2; have k2 : Z V.heap.size V y2 := k1.trans (j1.mono k1.size); replace HZ1 : Q (zn = Z1.length ∧ Z1.map zaz = zad f.log ∧ zdn y2 za Z1) := ⟨HZ1.out.1, HZ1.out.2.1, ⟨HZ1.out.2.2.1.below j1, fun x hx => (HZ1.out.2.2.2 x hx).below j1⟩⟩; have HZ2 : Q (zn2 = Z2.length ∧ Z2.map zaz = zad g.log ∧ zdn y2 za2 Z2) := ⟨hz1, hz2, hz3⟩; clear j1 hz1 hz2 hz3)
 go_wp2_with fail
 refine kgo hK (by decide +kernel) (HKc.out _ k2) (fun jq => ?_);clear hK K;refine rdy 6 (by kernel_rfl) rfl (fun K hK => ?_);go_simp;(go_at_call 27; refine (zoe za za2 Z1 Z2 zc zc2 zn zn2 y2 HZ1.out.1 HZ2.out.1 (by rw [HZ1.out.2.1, HZ2.out.2.1, HKn.out.1]) (by have h1 := congrArg List.length HZ1.out.2.1; rw [List.length_map] at h1; have h2 := List.length_filter_le (fun jj : R3 => decide (jj.1 = 5)) f.log; have h3 := HKn.out.2.2.2.2.2.2.2.1.len; unfold zad at h1; rw [List.length_map] at h1; omega) (fun x hx => by obtain ⟨jj, hr, e⟩ := List.mem_map.1 (show zaz x ∈ zad f.log by rw [← HZ1.out.2.1]; exact List.mem_map_of_mem hx); have h1 := (HKn.out.2.2.2.2.2.2.2.1.ok jj (List.mem_filter.1 hr).1).1; have h2 : x.2.2 = jj.2.2 := (by have h3 : (zaz x).2 = jj.2.2 := (by rw [← e]); exact h3); rw [h2]; exact Nat.le_trans h1 (by decide)) HZ1.out.2.2 HZ2.out.2.2).mono ?_; rintro e y3 ⟨rfl, q, rfl⟩; have k3 : Z V.heap.size V (y2.drewN q) := k2.trans ((zgf y2 q).mono k2.size); clear HZ1 HZ2)
 go_wp2_with fail
 refine kgo hK (by decide +kernel) (HKc.out _ k3) (fun jq => ?_);clear hK K;refine tks 8 [(7, 58), (8, 59), (9, 60), (10, 61), (11, 62), (12, 63), (13, 64), (14, 65)] (b := ?_) rfl (by decide +kernel) (fun _ _ _ _ _ h => h) ?_ jq ?_;rotate_left 1
 ·iterate 8 (refine zab.cons (v := ?_) rfl rfl (by rfl) ?_ ?_; rotate_left 1; (intro w h; (try dsimp only at h); go_simp; try with_reducible rfl))
  exact zab.nil
 refine rdy 15 (by kernel_rfl) rfl (fun K hK => ?_);go_simp;refine zbb hK (by decide +kernel) ?_;clear hK K jq;refine zbp (by kernel_rfl) ?_ _;replace HB : Q (zd2 w W N7 pa pl la nl lc oa no oc g (y2.drewN q)) := HB.out.below k3
 replace HX : Q (zay (fun _ => False) (y2.drewN q) la1 nl1 oa1 no1 f ∧ Blk (y2.drewN q) N9 #[G la1 nl1 lc1, E J (g.boot + 1), E J 0, G oa1 no1 oc1] 29) := ⟨HX.out.1.below k3, HX.out.2.below k3 HX.out.2.lt⟩
 clear HKc hX0 lx ly HD k1 k2 k3 hwb;generalize y2.drewN q = zX at *;obtain ⟨-, -, -, x3⟩ := HB.out.hb.cells4;have lx := HB.out.hb.lt;go_wp2_with fail
 clear x3 lx;go_loopw [70, 11] (fun i t w' => ∃ k : Nat, k ≤ no ∧ i = E J k ∧ t = E J (((g.opn.take k).filter fun o => o.2.2.1).length : Nat) ∧ Q (Z zX.heap.size zX w')) (fun i _ _ => no - (intOf i).toNat)
 case atStart => exact ⟨0, Nat.zero_le _, rfl, rfl, Below.refl _ _⟩
 case round =>
  obtain ⟨k, hk, rfl, rfl, hbw⟩ := hrel;have hno12 := HNO.out.2.2.1;have hno1 : no1 ≤ 12 := by have h1 := HKn.out.2.2.2.2.1; have h2 : (g.opn.filter fun o => o.2.2.1).length ≤ g.opn.length := List.length_filter_le _ _; have h3 := HNO.out.2.1; have h4 := HKn.out.2.2.2.2.2.2.2.2.1; omega
  by_cases hlt : k < no
  ·have hkO : k < g.opn.length := by have := HNO.out.1; omega
   have HE : Q (((g.opn.take (k + 1)).filter fun o => o.2.2.1).length = ((g.opn.take k).filter fun o => o.2.2.1).length + (if g.opn[k].2.2.1 = true then 1 else 0)) := by have h := zol (f := fun o : O4 => o.2.2.1) hkO; exact h
   have hfl : ((g.opn.take k).filter fun o => o.2.2.1).length ≤ 12 := by have h1 : ((g.opn.take k).filter fun o => o.2.2.1).length ≤ (g.opn.take k).length := List.length_filter_le _ _; rw [List.length_take] at h1; omega
   have HM : Q (g.opn[k] ∈ g.opn) := List.getElem_mem hkO;obtain ⟨b1, o1, pa1, pc1, ha1, hc1, rfl, lb, c0, c1, c2, c3⟩ := (HB.out.at.below hbw.out).get hkO;generalize ((g.opn.take k).filter fun o => o.2.2.1).length = tk at *;generalize g.opn[k] = x at *;obtain ⟨d, l, dec, hs⟩ := x;simp only at c0 c1 c2 c3
   have HE' := HE.out;simp only at HE'
   replace HE : Q (_ = tk + (if dec = true then 1 else 0)) := HE'
   clear HE';generalize l.length = ln at *;generalize hs.length = hn at *;obtain ⟨A, NA, e1, e2, hbA, hBA⟩ := zfy wr #[E J d, G pa1 ln pc1, .bool dec, G ha1 hn hc1] 58;have HA : Q (Z zX.heap.size zX A ∧ Blk A NA #[E J d, G pa1 ln pc1, .bool dec, G ha1 hn hc1] 58) := ⟨hbw.out.trans (hbA.mono hbw.out.size), hBA⟩;go_upto_region 15 with fail
   clear e1 e2 c0 c1 c2 c3 lb hbA hBA;obtain ⟨a0, -, a2, -⟩ := HA.out.2.cells4;have la' := HA.out.2.lt
   cases dec with
   | false =>
    have HE2 := HE.out;simp only [Bool.false_eq_true, if_false, Nat.add_zero] at HE2
    replace HE : Q _ := HE2
    clear HE2;go_wp2;go_roundw
    case rel => exact ⟨k + 1, by omega, by go_num, by rw [HE.out], HA.out.1⟩
    case measure => simp [intOf]; omega
   | true =>
    have HE2 := HE.out;simp only [if_true] at HE2
    replace HE : Q _ := HE2
    clear HE2;replace HM : Q (∃ q ∈ f.opn, q.1 = d ∧ q.2.2.1 = true) := HKn.out.2.2.2.1 _ HM.out rfl
    have y3 := (HX.out.2.below HA.out.1 HX.out.2.lt).cells4.2.2.2;have ly := (HX.out.2.below HA.out.1 HX.out.2.lt).lt;go_wp2_with fail
    clear y3 ly a0 a2 la';generalize wr = wo at *;go_loopw [80, 14] (fun i t w' => ∃ j : Nat, j ≤ no1 ∧ i = E J j ∧ t = .bool ((f.opn.take j).any fun q => decide (q.1 = d) && q.2.2.1) ∧ Q (Z A.heap.size A w')) (fun i _ _ => no1 - (intOf i).toNat)
    case atStart => exact ⟨0, Nat.zero_le _, rfl, rfl, Below.refl _ _⟩
    case round =>
     obtain ⟨j, hj, rfl, rfl, hbj⟩ := hrel;by_cases hltj : j < no1
     ·have hjO : j < f.opn.length := by have := HNO.out.2.1; omega
      have HEj : Q (((f.opn.take (j + 1)).any fun q => decide (q.1 = d) && q.2.2.1) = (((f.opn.take j).any fun q => decide (q.1 = d) && q.2.2.1) || (decide (f.opn[j].1 = d) && f.opn[j].2.2.1))) := by have h := any_snoc (f := fun q : O4 => decide (q.1 = d) && q.2.2.1) hjO; exact h
      obtain ⟨b2, o2, pa2, pc2, ha2, hc2, rfl, lb, c0, c1, c2, c3⟩ := ((HX.out.1.below HA.out.1).below hbj.out).get hjO;generalize ((f.opn.take j).any fun q => decide (q.1 = d) && q.2.2.1) = tj at *;generalize f.opn[j] = x at *;obtain ⟨d2, l2, dec2, hs2⟩ := x;simp only at c0 c1 c2 c3
      have HE' := HEj.out;simp only at HE'
      replace HEj : Q (_ = (tj || (decide (d2 = d) && dec2))) := HE'
      clear HE';generalize l2.length = ln2 at *;generalize hs2.length = hn2 at *;obtain ⟨B, NB, e1, e2, hbB, hBB⟩ := zfy wr #[E J d2, G pa2 ln2 pc2, .bool dec2, G ha2 hn2 hc2] 58;have HBj : Q (Z A.heap.size A B ∧ Blk B NB #[E J d2, G pa2 ln2 pc2, .bool dec2, G ha2 hn2 hc2] 58) := ⟨hbj.out.trans (hbB.mono hbj.out.size), hBB⟩;go_upto_region 20 with fail
      clear e1 e2 c0 c1 c2 c3 lb hbB hBB;obtain ⟨b0, -, b2, -⟩ := HBj.out.2.cells4;have lb := HBj.out.2.lt;have a0 := (HA.out.2.below HBj.out.1 HA.out.2.lt).cells4.1;have la' := (HA.out.2.below HBj.out.1 HA.out.2.lt).lt
      cases tj with
      | true =>
       go_wp2;go_roundw
       case rel => exact ⟨j + 1, by omega, by go_num, by rw [HEj.out]; simp, HBj.out.1⟩
       case measure => simp [intOf]; omega
      | false =>
       by_cases hd : d2 = d
       ·subst hd
        go_wp2;go_roundw
        case rel => exact ⟨j + 1, by omega, by go_num, by rw [HEj.out]; simp, HBj.out.1⟩
        case measure => simp [intOf]; omega
       ·have hd' : (d2 == d) = false := by simpa using hd
        have HD2 : Q (decide (d2 = d) = false) := decide_eq_false hd;clear hd;go_wp2;go_roundw
        case rel => exact ⟨j + 1, by omega, by go_num, by rw [HEj.out, HD2.out]; simp, HBj.out.1⟩
        case measure => simp [intOf]; omega
     ·have hany : ((f.opn.take j).any fun q => decide (q.1 = d) && q.2.2.1) = true := by
       rw [List.take_of_length_le (by have := HNO.out.2.1; omega), List.any_eq_true];obtain ⟨q, hq, h1, h2⟩ := HM.out;exact ⟨q, hq, by simp [h1, h2]⟩
      rw [hany];clear hany;have HW2 : Q (Z zX.heap.size zX wr) := HA.out.1.trans (hbj.out.mono HA.out.1.size);have hw1 : IntKind.i64.wrap ((tk : Int) + 1) = (tk : Int) + 1 := by rw [IntKind.wrap_i64]; omega
      go_wp2;go_roundw
      case rel => exact ⟨k + 1, by omega, by go_num, by rw [HE.out]; simp, HW2.out⟩
      case measure => simp [intOf]; omega
  ·have hT : ((g.opn.take k).filter fun o => o.2.2.1).length = no1 := by rw [List.take_of_length_le (by have := HNO.out.1; omega), HKn.out.2.2.2.2.1]; exact HNO.out.2.1.symm
   rw [hT];clear hT;replace HB : Q (zd2 w W N7 pa pl la nl lc oa no oc g wr) := HB.out.below hbw.out
   replace HX : Q (zay (fun _ => False) wr la1 nl1 oa1 no1 f ∧ Blk wr N9 #[G la1 nl1 lc1, E J (g.boot + 1), E J 0, G oa1 no1 oc1] 29) := ⟨HX.out.1.below hbw.out, HX.out.2.below hbw.out HX.out.2.lt⟩
   clear hbw;generalize wr = U2 at *;obtain ⟨x0, x1, x2, x3⟩ := HX.out.2.cells4;have lx := HX.out.2.lt;have HCt := zkj lc1 oc1 U2 (R := fun _ => False) (fun _ h => h.elim) HX.out.1 HKn.out.2.2.2.2.2.2.2.1 pa np pc pl HN.out.1 (HB.out.parts.below HB.out.bel) HR.out.1;rw [HKn.out.2.1, HKn.out.2.2.1] at HCt;go_wp2_with fail
   clear x0 x1 x2 x3 lx;by_cases cB : 11 < no1
   ·have HBe : Q (zo f pl = (f, [], 9)) := by show _ = _; unfold zo; rw [if_pos (Or.inl (by rw [← HNO.out.2.1]; exact cB))]
    rw [HBe.out, HKn.out.2.1, HKn.out.2.2.1] at HCt;refine HCt.mono ?_;rintro e w3 ⟨la2, nl2, lc2, oa2, no2, oc2, sa2, sn2, sc2, rfl, -, -, hb3⟩;obtain ⟨V3, N17, e1, e2, hbb, hyB⟩ := zfy w3 #[G la2 nl2 lc2, E J (g.boot + 1), E J 0, G oa2 no2 oc2] 29;have j9 : Z U2.heap.size U2 V3 := hb3.trans (hbb.mono hb3.size);have hBf := (HB.out.below j9).bel0;have x3 := (HX.out.2.below j9 HX.out.2.lt).cells4.2.2.2;have lx := (HX.out.2.below j9 HX.out.2.lt).lt;clear cB hb3 hbb hyB j9;go_upto_region 27 with fail
    clear e1 e2;go_wp2;go_ret;exact ⟨rfl, hBf⟩
   ·have HBe : Q (zo f pl = ({ f with opn := f.opn ++ [(64 * f.boot + f.next, pl, false, [])], next := f.next + 1 }, zba (64 * f.boot + f.next, pl, false, []), 0)) := by show _ = _; unfold zo; rw [if_neg (by rw [← HNO.out.2.1, HKn.out.2.2.1]; omega)]
    rw [HBe.out] at HCt;simp only at HCt
    rw [HKn.out.2.1, HKn.out.2.2.1] at HCt;refine HCt.mono ?_;rintro e w3 ⟨la2, nl2, lc2, oa2, no2, oc2, sa2, sn2, sc2, rfl, hY, -, hb3⟩;obtain ⟨V3, N17, e1, e2, hbb, hyB⟩ := zfy w3 #[G la2 nl2 lc2, E J (g.boot + 1), E J 1, G oa2 no2 oc2] 29;have j9 : Z U2.heap.size U2 V3 := hb3.trans (hbb.mono hb3.size);have hn2 : no2 = no1 + 1 := by rw [hY.lno, HNO.out.2.1]; simp
    obtain ⟨b2, o2, -, -, -, -, rfl, lb2, c0, -, -, -⟩ := (hY.below hbb).get (k := no1) (by rw [HNO.out.2.1]; simp)
    have hlast : ((f.opn ++ [(64 * (g.boot + 1) + 0, pl, false, [])])[no1]'(by rw [HNO.out.2.1]; simp)).1 = 64 * (g.boot + 1) := by
     have h0 := HNO.out.2.1;subst h0;simp
    simp only at c0
    rw [hlast] at c0;replace HB : Q (zd2 w W N7 pa pl la nl lc oa no oc g V3) := HB.out.below j9
    have x3 := (HX.out.2.below j9 HX.out.2.lt).cells4.2.2.2;have lx := (HX.out.2.below j9 HX.out.2.lt).lt;obtain ⟨-, -, -, y3⟩ := hyB.cells4;have ly := hyB.lt;subst hn2;have hw1 : IntKind.i64.wrap (((no1 + 1 : Nat) : Int) - 1) = (no1 : Int) := by rw [IntKind.wrap_i64]; omega
    clear cB hb3 hbb hyB j9 hlast hY HCt;go_upto_region 27 with fail
    clear e1 e2;obtain ⟨dd, hdd⟩ : ∃ dd, dd = 64 * (g.boot + 1) := ⟨_, rfl⟩;have HDD : Q (dd = 64 * (g.boot + 1)) := hdd;rw [← hdd] at c0;clear hdd;have z3 := HB.out.hb.cells4.2.2.2;have lz := HB.out.hb.lt;go_wp2_with fail
    clear x3 lx y3 ly c0 lb2 hw1 z3 lz;go_loopw [139] (fun i w' => ∃ k : Nat, k ≤ no ∧ i = E J k ∧ Q (Z V3.heap.size V3 w')) (fun i _ => no - (intOf i).toNat)
    case atStart => exact ⟨0, Nat.zero_le _, rfl, Below.refl _ _⟩
    case round =>
     obtain ⟨k, hk, rfl, hbw⟩ := hrel;by_cases hlt : k < no
     ·have hkO : k < g.opn.length := by have := HNO.out.1; omega
      have HM : Q (g.opn[k].1 ≠ dd) := fun h => by have h1 := HKn.out.2.2.2.2.2.1 _ (List.getElem_mem hkO); rw [HDD.out] at h; omega
      obtain ⟨b1, o1, pa1, pc1, ha1, hc1, rfl, lb, c0, c1, c2, c3⟩ := (HB.out.at.below hbw.out).get hkO;generalize g.opn[k] = x at *;obtain ⟨d, l, dec, hs⟩ := x;simp only at c0 c1 c2 c3
      have hne : (d == dd) = false := by have h := HM.out; simpa using h
      generalize l.length = ln at *;generalize hs.length = hn at *;obtain ⟨A, NA, e1, e2, hbA, hBA⟩ := zfy wr #[E J d, G pa1 ln pc1, .bool dec, G ha1 hn hc1] 58;have HA : Q (Z V3.heap.size V3 A) := hbw.out.trans (hbA.mono hbw.out.size);obtain ⟨a0, -, -, -⟩ := hBA.cells4;have la' := hBA.lt;clear hbA hBA HM;go_upto_region 33 with fail
      clear e1 e2 c0 c1 c2 c3 lb;go_wp2;go_roundw
      case rel => exact ⟨k + 1, by omega, by go_num, HA.out⟩
      case measure => simp [intOf]; omega
     ·replace HB : Q (zd2 w W N7 pa pl la nl lc oa no oc g wr) := HB.out.below hbw.out
      clear hbw;have x0 := HB.out.hb.cells4.1;have lx := HB.out.hb.lt;have hnl : nl ≤ 1000000 := by have h1 := HNO.out.2.2.2; have h2 := HK.out.len; omega
      go_wp2_with fail
      clear x0 lx;generalize wr = V4 at *;go_loopw [151] (fun i w' => ∃ k : Nat, k ≤ nl ∧ i = E J k ∧ Q (Z V4.heap.size V4 w')) (fun i _ => nl - (intOf i).toNat)
      case atStart => exact ⟨0, Nat.zero_le _, rfl, Below.refl _ _⟩
      case round =>
       obtain ⟨j, hj, rfl, hbj⟩ := hrel;by_cases hltj : j < nl
       ·have hjO : j < g.log.length := by have := HNO.out.2.2.2; omega
        have HM : Q (g.log[j].1 = 5 → g.log[j].2.1 ≠ dd) := fun h5 h => by have h1 := HKn.out.2.2.2.2.2.2.1 _ (List.getElem_mem hjO) h5; rw [HDD.out] at h; omega
        obtain ⟨b3, o3, pa3, pc3, rfl, lb, c0, c1, c2⟩ := (HB.out.at.below hbj.out).rec hjO;generalize g.log[j] = x at *;obtain ⟨kd, d, l⟩ := x;simp only at c0 c1 c2
        generalize l.length = ln at *;obtain ⟨A, NA, e1, e2, hbA, hBA⟩ := zfy wr #[E J kd, E J d, G pa3 ln pc3] 40;have HA : Q (Z V4.heap.size V4 A) := hbj.out.trans (hbA.mono hbj.out.size);obtain ⟨a0, a1, -⟩ := hBA.cells3;have la' := hBA.lt;clear hbA hBA;go_upto_region 39 with fail
        clear e1 e2 c0 c1 c2 lb;by_cases h5 : kd = 5
        ·have hne : (d == dd) = false := by have h := HM.out h5; simpa using h
         subst h5;clear HM;go_wp2;go_roundw
         case rel => exact ⟨j + 1, by omega, by go_num, HA.out⟩
         case measure => simp [intOf]; omega
        ·have h5' : (kd == 5) = false := by simpa using h5
         clear HM h5;go_wp2;go_roundw
         case rel => exact ⟨j + 1, by omega, by go_num, HA.out⟩
         case measure => simp [intOf]; omega
       ·have hBf := (HB.out.below hbj.out).bel0
        clear hbj;go_wp2;go_ret;exact ⟨rfl, hBf⟩
open Go.ChangeShapes Go.WideShapes Go.ChangeAt Go.RowKit Go.Deep
section
variable {H : Type} {enc : TypeId × Value → H} {w : World} {base : Nat} {spare : Nat → Bool} {held : Bool}
theorem zlk : Tryz.prog.cellsOf 90 = 3 := by kernel_rfl
theorem zjw : Tryz.prog.cellsOf 3 = 1 := by kernel_rfl
theorem zlz {w : World} {a : Addr} {v : Value} (h : w.cell? a = some v) : a.block < w.heap.size := by
 rcases Nat.lt_or_ge a.block w.heap.size with h' | h'
 ·exact h'
 ·exfalso
  have : w.heap[a.block]? = U := Array.getElem?_eq_none h';simp [World.cell?, this] at h
theorem zoi {fuel : Nat} {v : Value} {x : DataW H × List MemPlace} (hv : Value.okWide Tryz.prog w .any base 23 v) (h : DataW.trod enc Tryz.prog w 0 spare held fuel 23 v.cells.toList = some x) :
  ∃ (a : Option Addr) (cap : Nat) (l : List P3), v = G a l.length cap ∧ zai w a l ∧ l.length ≤ cap ∧ cap ≤ maxLen := by
 obtain ⟨a, len, cap, rfl⟩ := okWide_slice Tryz.underlying23 hv;rcases open_slice Tryz.underlying23 h with ⟨hcs, _⟩ | ⟨ad, len', cap', m, n, D, Pl, hcs, hb, hl, hm, hmm, _, hx⟩
 ·simp [Value.cells] at hcs
  obtain ⟨rfl, rfl, rfl⟩ := hcs;exact ⟨U, 0, [], rfl, Or.inl rfl, by simp, by simp⟩
 ·simp [Value.cells] at hcs
  obtain ⟨rfl, rfl, rfl⟩ := hcs;have hlm : len ≤ m := by rw [hmm]; split <;> omega
  have each : ∀ i, i < len → ∃ p : P3, w.cell? (ad.add (i * 3)) = some (E J p.1) ∧ w.cell? (ad.add (i * 3 + 1)) = some (E J p.2.1) ∧ w.cell? (ad.add (i * 3 + 2)) = some (E J p.2.2) := by
   intro i hi;obtain ⟨cs', h1, h2⟩ := hx i (by omega);rw [zlk] at h1;obtain ⟨_, jw, hcell⟩ := World.cells?_some h1;obtain ⟨xs, k, hk, hxy, _, hxl, hf⟩ := DataW.trod_struct Tryz.underlying90 h2
   match xs, hxl, cs', jw with
   | [y0, y1, y2], _, [v0, v1, v2], _ =>
    have g0 := hf 0 _ rfl;have g1 := hf 1 _ rfl;have g2 := hf 2 _ rfl;simp [zjw] at g0 g1 g2
    have e0 := hcell 0 (by omega);have e1 := hcell 1 (by omega);have e2 := hcell 2 (by omega);rw [add_add] at e0 e1 e2;obtain ⟨n0, q0, _⟩ := DataW.trod_int Tryz.underlying3 g0;obtain ⟨n1, q1, _⟩ := DataW.trod_int Tryz.underlying3 g1;obtain ⟨n2, q2, _⟩ := DataW.trod_int Tryz.underlying3 g2;simp at q0 q1 q2
    subst q0 q1 q2;exact ⟨(n0, n1, n2), by simpa using e0, by simpa using e1, by simpa using e2⟩
  obtain ⟨f, hf⟩ := choose_lt (α := P3) each;refine ⟨some ad, cap, (List.range len).map f, by simp, ?_, by simpa using hl, hm⟩;by_cases h0 : len = 0
  ·subst h0; exact Or.inl rfl
  ·have c0 := (hf 0 (by omega)).1
   obtain ⟨b, o, spot⟩ := ad;have hspot : spot = U := by simpa [Addr.add] using World.cell?_spot c0
   subst hspot;refine Or.inr ⟨b, o, rfl, ?_, fun i hi => ?_⟩
   ·have := zlz c0
    simpa [Addr.add] using this
   ·have hi' : i < len := by simpa using hi
    obtain ⟨c0, c1, c2⟩ := hf i hi';have hadd : ∀ j, (⟨b, o, U⟩ : Addr).add j = ⟨b, o + j, U⟩ := by intro j; unfold Addr.add; split <;> simp_all
    rw [hadd] at c0 c1 c2;simp only [List.getElem_map, List.getElem_range]
    exact ⟨c0, by rw [Nat.add_assoc]; exact c1, by rw [Nat.add_assoc]; exact c2⟩
end
open Go.ChangeShapes Go.WideShapes Go.ChangeAt Go.RowKit Go.Deep
section
variable {H : Type} {enc : TypeId × Value → H} {w : World} {base : Nat} {spare : Nat → Bool} {held : Bool}
theorem zmk {α : Type} [Inhabited α] {cod : α → List Value} {size : Nat} {tS tE : TypeId} {P : α → Prop} (h0 : 0 < size) (he : ∀ x, (cod x).length = size) (hu : Tryz.prog.underlying tS = some (.slice tE)) (hcells : Tryz.prog.cellsOf tE = size)
  (elem : ∀ (fuel : Nat) (cs : List Value) (x : DataW H × List MemPlace), cs.length = size → DataW.trod enc Tryz.prog w 0 spare held fuel tE cs = some x → ∃ y : α, cs = cod y ∧ P y)
  {fuel : Nat} {cs : List Value} {x : DataW H × List MemPlace} (h : DataW.trod enc Tryz.prog w 0 spare held fuel tS cs = some x) :
  ∃ (a : Option Addr) (cap : Nat) (X : List α), cs = [G a X.length cap] ∧ zk size cod w a X ∧ (∀ y ∈ X, P y) ∧ X.length ≤ cap ∧ cap ≤ maxLen := by
 rcases open_slice hu h with ⟨hcs, _⟩ | ⟨ad, len, cap, m, n, D, Pl, hcs, hb, hl, hm, hmm, _, hx⟩
 ·exact ⟨none, 0, [], hcs, Or.inl rfl, (fun y hy => by cases hy), by simp, by simp⟩
 ·subst hcs
  have hlm : len ≤ m := by rw [hmm]; split <;> omega
  have each : ∀ i, i < len → ∃ y : α, (∀ j u, (cod y)[j]? = some u → w.cell? (ad.add (i * size + j)) = some u) ∧ P y := by
   intro i hi;obtain ⟨cs', h1, h2⟩ := hx i (by omega);rw [hcells] at h1;obtain ⟨_, jw, hcell⟩ := World.cells?_some h1;obtain ⟨y, rfl, hy⟩ := elem _ _ _ jw h2;refine ⟨y, fun j u hu' => ?_, hy⟩
   have hj : j < size := by
    rcases Nat.lt_or_ge j size with h' | h'
    ·exact h'
    ·rw [List.getElem?_eq_none (by rw [he]; exact h')] at hu'; cases hu'
   have := hcell j hj;rw [add_add, hu'] at this;exact this
  obtain ⟨f, hf⟩ := choose_lt (α := α) each;refine ⟨some ad, cap, (List.range len).map f, by simp, ?_, ?_, by simpa using hl, hm⟩
  ·by_cases hz : len = 0
   ·subst hz; exact Or.inl rfl
   ·have hy := hf 0 (by omega)
    have hl0 : 0 < (cod (f 0)).length := by rw [he]; exact h0
    have c0 := hy.1 0 _ (List.getElem?_eq_getElem hl0);obtain ⟨b, o, spot⟩ := ad;have hspot : spot = U := by simpa [Addr.add] using World.cell?_spot c0
    subst hspot;refine Or.inr ⟨b, o, rfl, ?_, fun i hi j u hu' => ?_⟩
    ·have := zlz c0
     simpa [Addr.add] using this
    ·have hi' : i < len := by simpa using hi
     simp only [List.getElem_map, List.getElem_range] at hu'
     have c1 := (hf i hi').1 j u hu';have hadd : ∀ j, (⟨b, o, U⟩ : Addr).add j = ⟨b, o + j, U⟩ := by intro j; unfold Addr.add; split <;> simp_all
     rw [hadd, ← Nat.add_assoc] at c1;exact c1
  ·intro y hy
   simp only [List.mem_map, List.mem_range] at hy
   obtain ⟨i, hi, rfl⟩ := hy;exact (hf i hi).2
theorem znz : Tryz.prog.cellsOf 23 = 1 := by kernel_rfl
theorem zot (fuel : Nat) (cs : List Value) (x : DataW H × List MemPlace) (jw : cs.length = 3) (h : DataW.trod enc Tryz.prog w 0 spare held fuel 90 cs = some x) : ∃ p : P3, cs = zey p ∧ ((Lit.int J p.1).wf = true ∧ (Lit.int J p.2.1).wf = true ∧ (Lit.int J p.2.2).wf = true) := by
 obtain ⟨xs, k, hk, hxy, _, hxl, hf⟩ := DataW.trod_struct Tryz.underlying90 h
 match xs, hxl, cs, jw with
 | [y0, y1, y2], _, [v0, v1, v2], _ =>
  have g0 := hf 0 _ rfl;have g1 := hf 1 _ rfl;have g2 := hf 2 _ rfl;simp [zjw] at g0 g1 g2
  obtain ⟨n0, q0, _, w0⟩ := DataW.trod_int Tryz.underlying3 g0;obtain ⟨n1, q1, _, w1⟩ := DataW.trod_int Tryz.underlying3 g1;obtain ⟨n2, q2, _, w2⟩ := DataW.trod_int Tryz.underlying3 g2;simp at q0 q1 q2
  subst q0 q1 q2;exact ⟨(n0, n1, n2), rfl, w0, w1, w2⟩
theorem row_parts {a : Option Addr} {l : List P3} (h : zk 3 zey w a l) : zai w a l := by
 rcases h with rfl | ⟨b, o, rfl, hlt, hc⟩
 ·exact Or.inl rfl
 ·exact Or.inr ⟨b, o, rfl, hlt, fun i hi => ⟨hc i hi 0 _ rfl, hc i hi 1 _ rfl, hc i hi 2 _ rfl⟩⟩
theorem zqt {fuel : Nat} {cs : List Value} {x : DataW H × List MemPlace} (h : DataW.trod enc Tryz.prog w 0 spare held fuel 23 cs = some x) :
  ∃ (a : Option Addr) (cap : Nat) (l : List P3), cs = [G a l.length cap] ∧ zai w a l ∧ l.length ≤ cap ∧ cap ≤ maxLen := by
 obtain ⟨a, cap, l, h1, h2, _, h3, h4⟩ := zmk (by decide) lenP Tryz.underlying23 zlk (fun f cs x hl h => zot f cs x hl h) h;exact ⟨a, cap, l, h1, row_parts h2, h3, h4⟩
end
open Go.ChangeShapes Go.WideShapes Go.ChangeAt Go.RowKit Go.Deep
section
variable {H : Type} {enc : TypeId × Value → H} {w : World} {base : Nat} {spare : Nat → Bool} {held : Bool}
theorem cellsStep : Tryz.prog.cellsOf 61 = 3 := by kernel_rfl
theorem zoh (fuel : Nat) (cs : List Value) (x : DataW H × List MemPlace) (jw : cs.length = 3) (h : DataW.trod enc Tryz.prog w 0 spare held fuel 61 cs = some x) : ∃ jj : XL, cs = zak jj ∧ (zai w jj.2.2.1.1 jj.2.2.2 ∧ jj.2.2.2.length ≤ jj.2.2.1.2 ∧ jj.2.2.1.2 ≤ maxLen ∧ (Lit.int J jj.1).wf = true ∧ (Lit.int J jj.2.1).wf = true) := by
 obtain ⟨xs, k, hk, hxy, _, hxl, hf⟩ := DataW.trod_struct Tryz.underlying61 h
 match xs, hxl, cs, jw with
 | [y0, y1, y2], _, [v0, v1, v2], _ =>
  have g0 := hf 0 _ rfl;have g1 := hf 1 _ rfl;have g2 := hf 2 _ rfl;simp [zjw, znz] at g0 g1 g2
  obtain ⟨n0, q0, _, w0⟩ := DataW.trod_int Tryz.underlying3 g0;obtain ⟨n1, q1, _, w1⟩ := DataW.trod_int Tryz.underlying3 g1;obtain ⟨a, cap, l, q2, hp, hc, hm⟩ := zqt g2;simp at q0 q1 q2
  subst q0 q1 q2;exact ⟨(n0, n1, (a, cap), l), rfl, hp, hc, hm, w0, w1⟩
theorem zqa {fuel : Nat} {v : Value} {x : DataW H × List MemPlace} (hv : Value.okWide Tryz.prog w .any base 22 v) (h : DataW.trod enc Tryz.prog w 0 spare held fuel 22 v.cells.toList = some x) :
  ∃ (a : Option Addr) (cap : Nat) (X : List XL), v = G a X.length cap ∧ zb7 w a X ∧ (∀ jj ∈ X, jj.2.2.2.length ≤ 9223372036854775807 ∧ (Lit.int J jj.1).wf = true ∧ (Lit.int J jj.2.1).wf = true) ∧ X.length ≤ cap ∧ cap ≤ maxLen := by
 obtain ⟨a, len, cap, rfl⟩ := okWide_slice Tryz.underlying22 hv;obtain ⟨a', cap', X, e, h1, h2, h3, h4⟩ := zmk (by decide) za7 Tryz.underlying22 cellsStep (fun f cs x hl h => zoh f cs x hl h) h;simp [Value.cells] at e
 obtain ⟨rfl, rfl, rfl⟩ := e;exact ⟨_, _, X, rfl, ⟨h1, fun y hy => (h2 y hy).1⟩, fun y hy => ⟨by have := h2 y hy; unfold maxLen at this; omega, (h2 y hy).2.2.2⟩, h3, h4⟩
end
open Go.ChangeShapes Go.WideShapes Go.ChangeAt Go.RowKit Go.Deep
theorem ownS : ownKnob Tryz.prog.godebug = U := by kernel_rfl
theorem laidOutS : laidOutB Tryz.prog = true := by kernel_rfl
theorem znx (os : Os) (started : os.Started) (H : Type) (enc : TypeId × Value → H) :
  ReturnsInHanded {} Tryz.checked os 4 .any (Rows.headFallSpec.pre6 enc Tryz.prog Tryz.f4 Rows.headFallRow.domain false) (Rows.headFallSpec.post enc Tryz.prog Tryz.f4 false true false false) := by
 refine returnsInHanded_of_change (C := Tryz.checked) ownS started (by kernel_rfl) Tryz.func4
  (ChangeSpec.witness6 (enc := enc) (C := Tryz.checked) false ⟨#[], #[E J 0, G U 0 0, G U 0 0], []⟩ 8 (by kernel_rfl) (by kernel_rfl) (by kernel_rfl) (by kernel_rfl)) ?_
 intro W base args ds gs before hval0 hW hcnd _;have hval : ∀ (j : Nat) t v, Tryz.f4.params[j]? = some t → args[j]? = some v → Value.okWide Tryz.prog W .any base t v := hval0;have hW' := hW;obtain ⟨p, q, hA0, hV, rfl, hfz, hnd⟩ := hW;have hA : DataW.TrodAll enc Tryz.prog W 0 (fun _ => true) true Tryz.f4.params.toList args.toList ds p := hA0;rw [Tryz.params4] at hA hval;obtain ⟨v0, v1, v2, d0, d1, d2, p0, p1, p2, rfl, rfl, rfl, h0, h1, h2⟩ := trodAll_three hA;obtain ⟨rfl, rfl⟩ := trodVars_none hV;have k0 := h0;have k1 := h1;have k2 := h2;have lt0 : ∀ x ∈ p0, x.block < W.heap.size := by obtain ⟨m, hm⟩ := k0; exact DataW.trod_lt m _ _ _ hm
 have lt1 : ∀ x ∈ p1, x.block < W.heap.size := by obtain ⟨m, hm⟩ := k1; exact DataW.trod_lt m _ _ _ hm
 have lt2 : ∀ x ∈ p2, x.block < W.heap.size := by obtain ⟨m, hm⟩ := k2; exact DataW.trod_lt m _ _ _ hm
 obtain ⟨f1, h1⟩ := h1;obtain ⟨f2, h2⟩ := h2;obtain ⟨n0, rfl⟩ := okWide_int Tryz.underlying3 (hval 0 3 v0 rfl rfl);obtain ⟨a1, cap1, S1, rfl, hp1, hx1, hc1, hm1⟩ := zqa (hval 1 22 v1 rfl rfl) h1;obtain ⟨a2, cap2, l2, rfl, hp2, hc2, hm2⟩ := zoi (hval 2 23 v2 rfl rfl) h2;clear hA0 hval0;refine (zo8 n0 a1 cap1 _ S1 a2 _ cap2 l2 W rfl hp1 (fun x hx => (hx1 x hx).1) (by unfold maxLen at hm1; omega) rfl (by unfold maxLen at hm2; omega) hp2).mono fun e W' ⟨he, bel⟩ => ?_
 subst he;exact ⟨_, rfl, _, _, _, [], _, [], hW', trodAll_mk1 (shut_bool Tryz.underlying4 _), trodAll_mk3 (Below.trod laidOutS (by kernel_rfl) (of_decide_eq_true (by kernel_rfl)) k0 bel lt0) (Below.trod laidOutS (by kernel_rfl) (of_decide_eq_true (by kernel_rfl)) k1 bel lt1) (Below.trod laidOutS (by kernel_rfl) (of_decide_eq_true (by kernel_rfl)) k2 bel lt2), rfl, bel.frame _, fun h => by cases h⟩
theorem headFall_holds : Rows.HeadFallSaid :=
 OpenClaim.holds_of_wide 4 Tryz.f4 rfl rfl rfl rfl rfl rfl rfl ⟨rfl, rfl, rfl, rfl, rfl⟩ rfl rfl rfl rfl rfl (by kernel_rfl) Tryz.func4 (by kernel_rfl)
  (of_decide_eq_true (by kernel_rfl)) (by unfold Func.isWrapper; first | (rw [if_pos (by decide +kernel)]; kernel_rfl) | (rw [if_neg (by decide +kernel)]; exact ⟨rfl, rfl⟩))
  (fun os started H enc _ => znx os started H enc)
end Go.Proofs.YtpcnlifmkhagkaaGreat
