import Derived.Test.YtpcnlifmkhagkaaKARefPl
import Derived.OpenShut
import Derived.Deep.Slices
set_option maxRecDepth 20000
set_option maxHeartbeats 20000000
namespace Go.Proofs.Ytpcnlifmkhagkaa
open Go.RowKit
open Go.Value renaming slice → G, int → E
open Go.IntKind renaming i64 → J
open _root_.Option renaming none → U
open Go.Obj renaming cells → T
open Go.RowKit renaming Hid → Q, Below → Z
open Go.World renaming setCell → r
attribute [local go_sem ↓] Go.wp_at_zero Go.wp_at_succ
def BuildV (w : World) (v : Value) (ok : Bool) (g : Gh) : Prop :=
 ∃ (la : Option Addr) (nl lc : Nat) (bt nx : Int) (oa : Option Addr) (no oc : Nat), v = .agg #[G la nl lc, E J bt, E J nx, G oa no oc] ∧ (ok = true → bt = g.boot ∧ nx = g.next ∧ za5 (fun _ => False) w la nl oa no g)
theorem build_any (R : Nat → Prop) (n : Int) (a : Option Addr) (cap len : Nat) (S : List XL) (w : World) (hR : ∀ b, R b → b < w.heap.size) (jw : len = S.length) (hp : zcc w a S) (hq : ∀ x ∈ S, zae R w x.2.2.1.1 x.2.2.2) (hx : ∀ x ∈ S, x.2.2.2.length ≤ 9223372036854775807) (hl : S.length ≤ 9223372036854775807) (ok : Bool) (hok : ok = decide (1 ≤ n ∧ n ≤ 3)) :
  Calls Try.prog 5 #[E J n, G a len cap] w fun e w' => ∃ v', e = .returned (.tuple #[v', .bool ok]) ∧ BuildV w' v' ok (zav n.toNat (S.map zf)).hd ∧ Z w.heap.size w w' := by
 have hb0 := zi w (T #[G U 0 0, E J 0, E J 0, G U 0 0] 29);have hr0 : Blk (w.alloc (T #[G U 0 0, E J 0, E J 0, G U 0 0] 29)) w.heap.size #[G U 0 0, E J 0, E J 0, G U 0 0] 29 := Blk.new _ _ _;have hs0 : (w.alloc (T #[G U 0 0, E J 0, E J 0, G U 0 0] 29)).heap.size = w.heap.size + 1 := by simp
 have HG := zF jw hp hq hx hl hR;have HOK := zA hok;clear jw hp hq hx hl hR hok;go_enter Try.func5, Try.ntmps5
 go_upto_region 1 with fail
 generalize w.alloc (T #[G U 0 0, E J 0, E J 0, G U 0 0] 29) = V at *;have HV := zC hb0 hr0 hs0;obtain ⟨r0, r1, r2, r3⟩ := hr0.cells4;obtain ⟨q0, q1, q2, q3⟩ := hr0.free4;have hlt := hr0.lt;clear hb0 hr0 hs0;by_cases c1 : n < 1
 ·have HE : Q (ok = false) := by show _ = _; rw [HOK.out]; exact decide_eq_false (by omega)
  have g1 := decide_eq_true c1;have HK := (zct HV.out.2.1 (G U 0 0) (E J 0) (E J 0) (G U 0 0));obtain ⟨e0, e1, e2, e3⟩ := HK.1.cells4;have HF := zA (HV.out.1.trans (HK.2.below HV.out.1.size (fun b hb => by subst hb; exact Nat.le_refl _)));clear HK;go_wp2_with fail
  clear r0 r1 r2 r3 q0 q1 q2 q3;generalize (r (r (r (r V ⟨w.heap.size, 0, U⟩ (G U 0 0)) ⟨w.heap.size, 1, U⟩ (E J 0)) ⟨w.heap.size, 2, U⟩ (E J 0)) ⟨w.heap.size, 3, U⟩ (G U 0 0)) = jz at *;refine bodyPost_ret (v := .tuple #[.agg #[G U 0 0, E J 0, E J 0, G U 0 0], .bool false]) ?_ rfl ⟨.agg #[G U 0 0, E J 0, E J 0, G U 0 0], by rw [HE.out], ⟨none, 0, 0, 0, 0, none, 0, 0, rfl, fun h => (by rw [HE.out] at h; cases h)⟩, HF.out⟩;simp [results, Try.results5, go_sem, e0, e1, e2, e3]
 ·have g1 := decide_eq_false c1
  by_cases c3 : n > 3
  ·have HE : Q (ok = false) := by show _ = _; rw [HOK.out]; exact decide_eq_false (by omega)
   have g3 := decide_eq_true c3;have HK := (zct HV.out.2.1 (G U 0 0) (E J 0) (E J 0) (G U 0 0));obtain ⟨e0, e1, e2, e3⟩ := HK.1.cells4;have HF := zA (HV.out.1.trans (HK.2.below HV.out.1.size (fun b hb => by subst hb; exact Nat.le_refl _)));clear HK;go_wp2_with fail
   clear r0 r1 r2 r3 q0 q1 q2 q3;generalize (r (r (r (r V ⟨w.heap.size, 0, U⟩ (G U 0 0)) ⟨w.heap.size, 1, U⟩ (E J 0)) ⟨w.heap.size, 2, U⟩ (E J 0)) ⟨w.heap.size, 3, U⟩ (G U 0 0)) = jz at *;refine bodyPost_ret (v := .tuple #[.agg #[G U 0 0, E J 0, E J 0, G U 0 0], .bool false]) ?_ rfl ⟨.agg #[G U 0 0, E J 0, E J 0, G U 0 0], by rw [HE.out], ⟨none, 0, 0, 0, 0, none, 0, 0, rfl, fun h => (by rw [HE.out] at h; cases h)⟩, HF.out⟩;simp [results, Try.results5, go_sem, e0, e1, e2, e3]
  ·have HE : Q (ok = true) := by show _ = _; rw [HOK.out]; exact decide_eq_true (by omega)
   have g3 := decide_eq_false c3;obtain ⟨k, rfl⟩ := Int.eq_ofNat_of_zero_le (show 0 ≤ n by omega);go_wp2_with fail
   refine (znk (fun b => R b ∨ b = w.heap.size) k (by omega) (by omega) a cap len S V (fun b hb => hb.elim (fun h => by have h1 := HG.out.2.2.2.2.2 b h; have h2 := HV.out.2.2; omega) (fun h => by have h2 := HV.out.2.2; omega)) HG.out.1 (HG.out.2.1.below HV.out.1) (fun x hx => ((HG.out.2.2.1 x hx).wide (fun b hb => hb.imp id (fun h => Nat.le_of_eq h.symm))).below HV.out.1) HG.out.2.2.2.1 HG.out.2.2.2.2.1).mono ?_;rintro e w1 ⟨v1, ea, en, ec, rfl, hv1, -, hb1⟩;obtain ⟨la, nl, lc, Y1, oa, no, oc, X1, ha, nh, hc, XH1, na, nn, nc, XN1, rfl, hcap1, hF1⟩ := hv1;have hb2 := zi w1 (T #[G la nl lc, E J (zav k (S.map zf)).hd.boot, E J (zav k (S.map zf)).hd.next, G oa no oc, G ha nh hc, G na nn nc] 59);have H1 : Q (zbk (fun b => R b ∨ b = w.heap.size) (w1.alloc (T #[G la nl lc, E J (zav k (S.map zf)).hd.boot, E J (zav k (S.map zf)).hd.next, G oa no oc, G ha nh hc, G na nn nc] 59)) la nl Y1 oa no X1 (zav k (S.map zf)).hd.log (zav k (S.map zf)).hd.opn ∧ Blk (w1.alloc (T #[G la nl lc, E J (zav k (S.map zf)).hd.boot, E J (zav k (S.map zf)).hd.next, G oa no oc, G ha nh hc, G na nn nc] 59)) w1.heap.size #[G la nl lc, E J (zav k (S.map zf)).hd.boot, E J (zav k (S.map zf)).hd.next, G oa no oc, G ha nh hc, G na nn nc] 59 ∧ Z w.heap.size w (w1.alloc (T #[G la nl lc, E J (zav k (S.map zf)).hd.boot, E J (zav k (S.map zf)).hd.next, G oa no oc, G ha nh hc, G na nn nc] 59)) ∧ Blk (w1.alloc (T #[G la nl lc, E J (zav k (S.map zf)).hd.boot, E J (zav k (S.map zf)).hd.next, G oa no oc, G ha nh hc, G na nn nc] 59)) w.heap.size #[G U 0 0, E J 0, E J 0, G U 0 0] 29) := ⟨hF1.hd.below hb2, Blk.new _ _ _, (HV.out.1.trans (hb1.mono HV.out.1.size)).trans (hb2.mono (by have h1 := hb1.size; have h2 := HV.out.2.2; omega)), (HV.out.2.1.below hb1 HV.out.2.1.lt).below hb2 (by have h1 := hb1.size; have h2 := HV.out.2.2; omega)⟩
   clear hb1 hb2 hF1 hcap1 r0 r1 r2 r3 q0 q1 q2 q3 hlt;go_upto_region 4 with fail
   generalize w1.alloc (T #[G la nl lc, E J (zav k (S.map zf)).hd.boot, E J (zav k (S.map zf)).hd.next, G oa no oc, G ha nh hc, G na nn nc] 59) = zX at *;obtain ⟨x0, x1, x2, x3, x4, x5⟩ := H1.out.2.1.cells6;obtain ⟨r0, r1, r2, r3⟩ := H1.out.2.2.2.cells4;obtain ⟨q0, q1, q2, q3⟩ := H1.out.2.2.2.free4;have l0 := H1.out.2.1.lt;have l1 := H1.out.2.2.2.lt;have HK := (zct H1.out.2.2.2 (G la nl lc) (E J (zav k (S.map zf)).hd.boot) (E J (zav k (S.map zf)).hd.next) (G oa no oc));obtain ⟨e0, e1, e2, e3⟩ := HK.1.cells4
   have HF : Q (za5 (fun _ => False) ((((zX.setCell ⟨w.heap.size, 0, U⟩ (G la nl lc)).setCell ⟨w.heap.size, 1, U⟩ (E J (zav k (S.map zf)).hd.boot)).setCell ⟨w.heap.size, 2, U⟩ (E J (zav k (S.map zf)).hd.next)).setCell ⟨w.heap.size, 3, U⟩ (G oa no oc)) la nl oa no (zav k (S.map zf)).hd ∧ Z w.heap.size w ((((zX.setCell ⟨w.heap.size, 0, U⟩ (G la nl lc)).setCell ⟨w.heap.size, 1, U⟩ (E J (zav k (S.map zf)).hd.boot)).setCell ⟨w.heap.size, 2, U⟩ (E J (zav k (S.map zf)).hd.next)).setCell ⟨w.heap.size, 3, U⟩ (G oa no oc))) := by
    refine ⟨⟨Y1, X1, ?_⟩, H1.out.2.2.1.trans (HK.2.below H1.out.2.2.1.size (fun b hb => by subst hb; exact Nat.le_refl _))⟩;exact (H1.out.1.keep (HK.2.mono (fun b _ hb => Or.inr hb))).wide (fun b hb => hb.elim)
   clear HK H1;go_wp2_with fail
   clear x0 x1 x2 x3 x4 x5 r0 r1 r2 r3 q0 q1 q2 q3 l0 l1;generalize ((((zX.setCell ⟨w.heap.size, 0, U⟩ (G la nl lc)).setCell ⟨w.heap.size, 1, U⟩ (E J (zav k (S.map zf)).hd.boot)).setCell ⟨w.heap.size, 2, U⟩ (E J (zav k (S.map zf)).hd.next)).setCell ⟨w.heap.size, 3, U⟩ (G oa no oc)) = jz at *;refine bodyPost_ret (v := .tuple #[.agg #[G la nl lc, E J (zav k (S.map zf)).hd.boot, E J (zav k (S.map zf)).hd.next, G oa no oc], .bool true]) ?_ rfl ⟨.agg #[G la nl lc, E J (zav k (S.map zf)).hd.boot, E J (zav k (S.map zf)).hd.next, G oa no oc], by rw [HE.out], ⟨la, nl, lc, _, _, oa, no, oc, rfl, fun _ => ⟨rfl, rfl, HF.out.1⟩⟩, HF.out.2⟩;simp [results, Try.results5, go_sem, e0, e1, e2, e3]
theorem zof (a : Option Addr) (X : List XL) (cap n : Nat) (w : World) (hn : n = X.length) (hl : X.length ≤ 1000000) (hp : zcc w a X) :
  Calls Try.prog 8 #[G a n cap] w fun e w' => ∃ a' n' c' jz, e = .returned (G a' n' c') ∧ n' = jz.length ∧ jz.map zba = zab (X.map zf) ∧ ze7 w' a' jz ∧ Z w.heap.size w w' := by
 have HN := zB hn hp;have hnl : n ≤ 1000000 := by omega
 clear hn hp hl;go_enter Try.func8, Try.ntmps8
 go_wp2;go_loopw [3, 8] (fun v i w' => ∃ (k : Nat) (jz : List XD), k ≤ n ∧ i = E J k ∧ Q (jz.map zba = zab ((X.take k).map zf)) ∧ zd 70 2 zc1 w' w.heap.size v jz ∧ Q (∀ y ∈ jz, zal w y.2.1.1 y.2.2) ∧ Z w.heap.size w w') (fun _ i _ => n - (intOf i).toNat)
 case atStart => exact ⟨0, [], Nat.zero_le _, rfl, rfl, zd.nil _ _, (fun y hy => by cases hy), Below.refl _ _⟩
 case round =>
  obtain ⟨k, jz, hk, rfl, hZ, jx, hT, hbw⟩ := hrel;have hsz := hbw.size;by_cases hlt : k < n
  ·have hkX : k < X.length := by have := HN.out.1; omega
   obtain ⟨b, o, rfl, hb, c0, c1, c2, -⟩ := (HN.out.2.below hbw).get hkX;have hq := HN.out.2.2 _ (List.getElem_mem hkX)
   have hZl : jz.length ≤ k := by
    have h1 := congrArg List.length hZ.out;have h2 := zou ((X.take k).map zf);simp at h1 h2
    omega
   have HE : Q (zab ((X.take (k + 1)).map zf) = zab ((X.take k).map zf) ++ (if X[k].1 = 5 then [(X[k].2.1, X[k].2.2.2)] else [])) := by show _ = _; rw [zhm hkX, zfe]; rfl
   obtain ⟨av, nv, cv, rfl⟩ : ∃ a n c, u3 = G a n c := by
    obtain ⟨a, c, hv, _⟩ := jx.row zdz;exact ⟨a, _, c, hv⟩
   generalize X[k] = x at *;obtain ⟨kd, dd, ⟨ax, cx⟩, l⟩ := x;simp only at c0 c1 c2 hq HE
   have HQ := zB hq jx;clear hq jx;generalize hll : l.length = nl at *;have HLL := zA hll;clear hll;by_cases k5 : kd = 5
   ·subst k5
    rw [if_pos rfl] at HE;go_wp2_with (at_builtin; refine zhe zdz oneD Try.underlying40 zhq rfl (by decide) (by decide) _ rfl _ _ rfl w.heap.size _ jz rfl (HQ.out.2.below (za2 wr _ _) (Nat.le_refl _)) (some ⟨wr.heap.size + 1, 0, U⟩) 1 1 [(dd, (ax, cx), l)] rfl rfl (zk.one (zaq wr _ _) (by simp [zc1, HLL.out])) (by simp; omega) (by simp; omega) ?_; intro a4 n4 c4 w4 jv hn4 jy jQ; clear hn4 jQ)
    have HF : Q ((jz ++ [(dd, (ax, cx), l)]).map zba = zab ((X.take (k + 1)).map zf)) := by
     show _ = _
     rw [HE.out, List.map_append, hZ.out];rfl
    have HT4 : Q (∀ y ∈ jz ++ [(dd, (ax, cx), l)], zal w y.2.1.1 y.2.2) := fun x hx => by
     rcases List.mem_append.1 hx with hx | hx
     ·exact hT.out x hx
     ·rw [List.mem_singleton.1 hx]; exact HQ.out.1
    have hBf := ((hbw.alloc hsz _).alloc (by simp; omega) _).grown jy (by simp; omega) (HQ.out.2.below (za2 wr (T #[E J 5, E J dd, G ax nl cx] 68) (T #[E J dd, G ax nl cx] 70)) (Nat.le_refl _)).base;clear jy;go_wp2;go_roundw
    case rel => exact ⟨k + 1, _, by omega, by go_num, HF, jv, HT4, hBf⟩
    case measure => simp [intOf]; omega
   ·have k5' : (kd == 5) = false := by simpa using k5
    have HF : Q (jz.map zba = zab ((X.take (k + 1)).map zf)) := by
     show _ = _
     rw [HE.out, if_neg k5, List.append_nil, hZ.out]
    have hA := zi wr (T #[E J kd, E J dd, G ax nl cx] 68);have HO := zA (HQ.out.2.below hA (Nat.le_refl _));clear k5 hA;go_wp2;go_roundw
    case rel => exact ⟨k + 1, jz, by omega, by go_num, HF, HO.out, hT, hbw.alloc hsz _⟩
    case measure => simp [intOf]; omega
  ·have hkn : k = n := by omega
   obtain ⟨av, cv, rfl, jX, _⟩ := jx.row zdz;have HF : Q (jz.map zba = zab (X.map zf) ∧ ze7 wr av jz) := ⟨by rw [hZ.out, List.take_of_length_le (by have := HN.out.1; omega)], jX, fun y hy => (hT.out y hy).below hbw⟩;clear jx hZ jX;generalize hzl : jz.length = nz at *;have HZL := zA hzl;clear hzl;go_wp2;go_ret;exact ⟨av, nz, cv, jz, rfl, HZL.out.symm, HF.out.1, HF.out.2, hbw⟩
def RV (W V : World) : Nat → Prop := fun b => W.heap.size ≤ b ∧ b < V.heap.size
theorem RV.lt {W V : World} : ∀ b, RV W V b → b < V.heap.size := fun _ h => h.2
theorem za5.at {W V : World} {la oa : Option Addr} {nl no : Nat} {g : Gh} (H : za5 (fun b => W.heap.size ≤ b) W la nl oa no g) (hb : Z W.heap.size W V) : za5 (RV W V) V la nl oa no g :=
 (H.keep (zg.ofBelow hb (fun _ _ h => h))).wide (fun _ h => Or.inl h.1)
theorem zal.rv {W V : World} {a : Option Addr} {l : List P3} (H : zal W a l) (hb : Z W.heap.size W V) : zae (RV W V) V a l :=
 ((H.outR (R := fun b => W.heap.size ≤ b) (fun _ h => h)).keep (zg.ofBelow hb (fun _ _ h => h))).wide (fun _ h => Or.inl h.1)
theorem zqa (m : Q4) (o : O4) : ∀ x ∈ (zq m o).1, x.2.1 = o.2.1 ∧ x.2.2.2.length ≤ o.2.2.2.length + 1 := by
 unfold zq
 intro x hx;split at hx
 ·split at hx
  ·cases hx; exact ⟨rfl, Nat.zero_le _⟩
  ·cases hx; exact ⟨rfl, by simp⟩
 ·split at hx
  ·cases hx
  ·split at hx
   ·split at hx
    ·cases hx
    ·cases hx; exact ⟨rfl, by simp⟩
   ·split at hx
    ·cases hx; exact ⟨rfl, Nat.le_succ _⟩
    ·cases hx; exact ⟨rfl, Nat.le_succ _⟩
theorem OkG.step {n : Nat} {P : Int → List P3} {W : WW} (I : Inv n P W) (hok : OkL W.hd.log) (hl : zb0 200000 W) (s : Int × Int × List P3) : OkG (zl W s).1.hd := by
 obtain ⟨P', _, I'⟩ := I.step s;exact I'.okG (zms hok (fun o ho => zfd (I.opn o ho).right) s) (by have := (zlu hl s).1; omega)
theorem OkG.fall {n : Nat} {P : Int → List P3} {W : WW} (I : Inv n P W) (hok : OkL W.hd.log) (hl : zb0 200000 W) : OkG (zah W.hd).1 := by
 have h := OkG.step I hok hl (5, 3, []);have e : (zl W (5, 3, [])).1.hd = (zah W.hd).1 := by unfold zl; simp
 rwa [e] at h
structure LawS (w0 W : World) (N : Nat) (pa : Option Addr) (pl : List P3) (la : Option Addr) (nl lc : Nat) (oa : Option Addr) (no oc : Nat) (g : Gh) (V : World) : Prop where
 bel : Z W.heap.size W V
 bel0 : Z w0.heap.size w0 V
 hW : w0.heap.size ≤ W.heap.size
 hb : Blk V N #[G la nl lc, E J g.boot, E J g.next, G oa no oc] 29
 hlt : N < W.heap.size
 hd : za5 (fun b => W.heap.size ≤ b) W la nl oa no g
 parts : zal W pa pl
 hn : za5 (fun b => b = N) W la nl oa no g
section
variable {w0 W : World} {N : Nat} {pa : Option Addr} {pl : List P3} {la : Option Addr} {nl lc : Nat} {oa : Option Addr} {no oc : Nat} {g : Gh} {V V' : World}
theorem LawS.go (H : LawS w0 W N pa pl la nl lc oa no oc g V) (hb : Z W.heap.size V V') : LawS w0 W N pa pl la nl lc oa no oc g V' :=
 ⟨H.bel.trans hb, H.bel0.trans (hb.mono H.hW), H.hW, H.hb.below hb H.hlt, H.hlt, H.hd, H.parts, H.hn⟩
theorem LawS.below (H : LawS w0 W N pa pl la nl lc oa no oc g V) (hb : Z V.heap.size V V') : LawS w0 W N pa pl la nl lc oa no oc g V' := H.go (hb.mono H.bel.size)
theorem LawS.at (H : LawS w0 W N pa pl la nl lc oa no oc g V) : za5 (RV W V) V la nl oa no g := H.hd.at H.bel
end
theorem zpi {m : Q4} {o : O4} (h : o.2.2.2.Nodup ∧ ∀ k ∈ o.2.2.2, k ∈ zp o.2.1) : ∀ x ∈ (zq m o).1, x.2.2.2.Nodup ∧ (∀ k ∈ x.2.2.2, k ∈ zp x.2.1) := by
 have ze4 : ∀ k : Int, inI (zp o.2.1) k = true ∧ inI o.2.2.2 k = false → (o.2.2.2 ++ [k]).Nodup ∧ ∀ j ∈ o.2.2.2 ++ [k], j ∈ zp o.2.1 := fun k hk => by
  refine ⟨?_, fun j hj => ?_⟩
  ·rw [List.nodup_append]
   refine ⟨h.1, by simp, fun a ha b hb e => ?_⟩;rw [List.mem_singleton.1 hb] at e;subst e;rw [zci.2 ha] at hk;exact absurd hk.2 (by decide)
  ·rcases List.mem_append.1 hj with hj | hj
   ·exact h.2 j hj
   ·rw [List.mem_singleton.1 hj]; exact zci.1 hk.1
 unfold zq
 intro x hx;split at hx
 ·rename_i hc
  split at hx
  ·cases hx; exact ⟨List.nodup_nil, fun k hk => by cases hk⟩
  ·cases hx; exact ze4 _ hc.2.2
 ·split at hx
  ·cases hx
  ·split at hx
   ·rename_i hc
    split at hx
    ·cases hx
    ·cases hx; exact ze4 _ hc.2.2
   ·split at hx
    ·cases hx; exact h
    ·cases hx; exact h
theorem OkG.hear {g : Gh} (K : OkG g) (m : Q4) (hl : (zh g m).1.log.length ≤ 300000) : OkG (zh g m).1 := by
 revert hl
 unfold zh
 split
 ·rename_i x hx
  intro hl;obtain ⟨A, o, B, hO, _, rfl⟩ := zf4 hx;have ho : o ∈ g.opn := by rw [hO]; simp
  have hmem : ∀ y ∈ A ++ ((zq m o).1.toList ++ B), y ∈ g.opn ∨ y ∈ (zq m o).1 := fun y hy => by
   rcases List.mem_append.1 hy with h | h
   ·exact Or.inl (by rw [hO]; simp [h])
   ·rcases List.mem_append.1 h with h | h
    ·refine Or.inr ?_
     cases e : (zq m o).1 with
     | none => rw [e] at h; cases h
     | some z => rw [e] at h; simp at h; rw [h]; rfl
    ·exact Or.inl (by rw [hO]; simp [h])
  have hk := K.heard o ho
  have hsx : ∀ y ∈ (zq m o).1, y.2.1 = o.2.1 ∧ (y.2.2.2.Nodup ∧ (∀ k ∈ y.2.2.2, k ∈ zp y.2.1)) ∧ y.2.2.2.length ≤ 3 := fun y hy => by
   have h1 := zpi ⟨hk.1, hk.2.1⟩ y hy;have h2 := zf9 h1.1 h1.2;have h3 := zdy y.2.1;exact ⟨(zqa m o y hy).1, h1, by omega⟩
  refine ⟨⟨?_, fun y hy => ?_⟩, ?_, hl, fun y hy => ?_, fun y hy => ?_, K.boot, K.next⟩
  ·have h1 := K.few.1
   have h2 : (zq m o).1.toList.length ≤ 1 := by cases (zq m o).1 <;> simp
   rw [hO] at h1;simp only [List.length_append, List.length_cons] at h1 ⊢
   omega
  ·rcases hmem y hy with h | h
   ·exact K.few.2 y h
   ·have h1 := hsx y h
    have h2 := K.few.2 o ho;rw [h1.1];exact ⟨h2.1, by omega⟩
  ·have hp : OkP o.2.1 := zfd (K.right o ho)
   rcases zhz m o with e | e | e
   ·simp only [e, List.append_nil]; exact K.ok
   ·simp only [e]; exact K.ok.snoc hp
   ·simp only [e]; exact K.ok.snoc zea
  ·rcases hmem y hy with h | h
   ·exact K.right y h
   ·rw [(hsx y h).1]; exact K.right o ho
  ·rcases hmem y hy with h | h
   ·exact K.heard y h
   ·have h1 := hsx y h
    exact ⟨h1.2.1.1, h1.2.1.2, by omega⟩
 ·exact fun _ => K
open Go.RowKit Go.Maps Go.WideMaps
def zc3 (w : World) (b n : Nat) (f : Int → Bool) : Prop := ∃ D : DataW Unit, w.ownsMap (H := Unit) Try.prog 3 (plainElem Try.prog 4) b n D ∧ IsMap D ∧ ∀ q, In1 q → D.atKey (ikl q) (.lit (.bool false)) = .lit (.bool (f q))
theorem zc3.lookup {w : World} {b n : Nat} {f : Int → Bool} (h : zc3 w b n f) (q : Int) (hq : In1 q) : (Instr.lookup 39 (.map (some b)) (.int J q) false).run Try.prog w = .ok (.bool (f q)) w := by
 obtain ⟨D, h1, _, h3⟩ := h;obtain ⟨v, pl, hrun, hv⟩ := h1.lookup zfy Try.underlying39 (zjv w) (plainElem_bool Try.underlying4 false) (zfw q hq);rw [h3 q hq] at hv;rw [zjo hv] at hrun;exact hrun
theorem zc3.below {w w' : World} {B b n : Nat} {f : Int → Bool} (h : zc3 w b n f) (hb : Z B w w') (hlt : b < B) : zc3 w' b n f := by
 obtain ⟨D, ⟨es, clock, hh, jj⟩, h2, h3⟩ := h;exact ⟨D, ⟨es, clock, (hb.block b hlt).trans hh, jj⟩, h2, h3⟩
theorem zc3.alloc {w : World} {b n : Nat} {f : Int → Bool} (h : zc3 w b n f) (o : Obj) : zc3 (w.alloc o) b n f := by
 obtain ⟨D, h1, h2, h3⟩ := h;exact ⟨D, h1.alloc o, h2, h3⟩
theorem zc3.lt {w : World} {b n : Nat} {f : Int → Bool} (h : zc3 w b n f) : b < w.heap.size := by
 obtain ⟨D, h1, _⟩ := h;exact h1.lt
theorem zc3.keep {w w' : World} {b n : Nat} {f : Int → Bool} (h : zc3 w b n f) {R : Nat → Prop} (hk : zg R w w') (hR : ¬ R b) : zc3 w' b n f := by
 have hlt := h.lt;obtain ⟨D, ⟨es, clock, hh, jj⟩, h2, h3⟩ := h;exact ⟨D, ⟨es, clock, (hk.block hlt hR).trans hh, jj⟩, h2, h3⟩
theorem mapF_made (w : World) : zc3 (w.alloc (.map #[] 0)) w.heap.size 0 (fun _ => false) := ⟨_, World.ownsMap_made w _ _ _, isMap_empty, fun _ _ => rfl⟩
theorem zog {ops : Array Oper} {rest : List Oper} {o : Oper} {a : Act} {zZ : Exit → Act → World → Prop} (w : World) (hg : o.guard = U) (m x v : Operand) (hop : o.op = Op.mapUpdate 39 m x v)
  (b n : Nat) (f : Int → Bool) (q : Int) (c : Bool) (hm : a.eval m = .map (some b)) (hset : zc3 w b n f) (hn : n < maxLen) (hx : a.eval x = .int J q) (hv : a.eval v = .bool c) (hq : In1 q)
  (hK : ∀ w', zc3 w' b (n + 1) (fun y => if y = q then c else f y) → w.grownBy w' (some b) → wpList Try.prog ops zZ rest (a.put o.dst undef) w') : wpList Try.prog ops zZ (o :: rest) a w := by
 obtain ⟨D, h1, h2, h3⟩ := hset;refine wpList_mapUpdate_own (H := Unit) w hg m x v 39 hop 3 4 zfy Try.underlying39 _ b n D hm h1 hn _ _ (ikl q) hx hv (zfw q hq) (.lit (.bool c)) [] (plainElem_bool Try.underlying4 c) ?_;intro w' g1 g2;refine hK w' ⟨_, g1, h2.put _ _, fun y hy => ?_⟩ g2;show _ = DataW.lit (Lit.bool (if y = q then c else f y))
 by_cases e : y = q
 ·subst e
  rw [atKey_put_same h2 (zfy.key (zfw y hy)), if_pos rfl]
 ·rw [atKey_put_other (fun h => e (ikl_inj h)), if_neg e, h3 y hy]
open Go.ChangeShapes Go.WideShapes Go.ChangeAt Go.RowKit Go.Deep
section
variable {H : Type} {enc : TypeId × Value → H} {w : World} {base : Nat} {spare : Nat → Bool} {held : Bool}
theorem zmb : Try.prog.cellsOf 49 = 3 := by kernel_rfl
theorem zib : Try.prog.cellsOf 3 = 1 := by kernel_rfl
theorem zlb {w : World} {a : Addr} {v : Value} (h : w.cell? a = some v) : a.block < w.heap.size := by
 rcases Nat.lt_or_ge a.block w.heap.size with h' | h'
 ·exact h'
 ·exfalso
  have : w.heap[a.block]? = U := Array.getElem?_eq_none h';simp [World.cell?, this] at h
theorem zon {fuel : Nat} {v : Value} {x : DataW H × List MemPlace} (hv : Value.okWide Try.prog w .any base 23 v) (h : DataW.trod enc Try.prog w 0 spare held fuel 23 v.cells.toList = some x) :
  ∃ (a : Option Addr) (cap : Nat) (l : List P3), v = G a l.length cap ∧ zal w a l ∧ l.length ≤ cap ∧ cap ≤ maxLen := by
 obtain ⟨a, len, cap, rfl⟩ := okWide_slice Try.underlying23 hv;rcases open_slice Try.underlying23 h with ⟨hcs, _⟩ | ⟨ad, len', cap', m, n, D, Pl, hcs, hb, hl, hm, hmm, _, hx⟩
 ·simp [Value.cells] at hcs
  obtain ⟨rfl, rfl, rfl⟩ := hcs;exact ⟨U, 0, [], rfl, Or.inl rfl, by simp, by simp⟩
 ·simp [Value.cells] at hcs
  obtain ⟨rfl, rfl, rfl⟩ := hcs;have hlm : len ≤ m := by rw [hmm]; split <;> omega
  have each : ∀ i, i < len → ∃ p : P3, w.cell? (ad.add (i * 3)) = some (E J p.1) ∧ w.cell? (ad.add (i * 3 + 1)) = some (E J p.2.1) ∧ w.cell? (ad.add (i * 3 + 2)) = some (E J p.2.2) := by
   intro i hi;obtain ⟨cs', h1, h2⟩ := hx i (by omega);rw [zmb] at h1;obtain ⟨_, jw, hcell⟩ := World.cells?_some h1;obtain ⟨xs, k, hk, hxy, _, hxl, hf⟩ := DataW.trod_struct Try.underlying49 h2
   match xs, hxl, cs', jw with
   | [y0, y1, y2], _, [v0, v1, v2], _ =>
    have g0 := hf 0 _ rfl;have g1 := hf 1 _ rfl;have g2 := hf 2 _ rfl;simp [zib] at g0 g1 g2
    have e0 := hcell 0 (by omega);have e1 := hcell 1 (by omega);have e2 := hcell 2 (by omega);rw [add_add] at e0 e1 e2;obtain ⟨n0, q0, _⟩ := DataW.trod_int Try.underlying3 g0;obtain ⟨n1, q1, _⟩ := DataW.trod_int Try.underlying3 g1;obtain ⟨n2, q2, _⟩ := DataW.trod_int Try.underlying3 g2;simp at q0 q1 q2
    subst q0 q1 q2;exact ⟨(n0, n1, n2), by simpa using e0, by simpa using e1, by simpa using e2⟩
  obtain ⟨f, hf⟩ := choose_lt (α := P3) each;refine ⟨some ad, cap, (List.range len).map f, by simp, ?_, by simpa using hl, hm⟩;by_cases h0 : len = 0
  ·subst h0; exact Or.inl rfl
  ·have c0 := (hf 0 (by omega)).1
   obtain ⟨b, o, spot⟩ := ad;have hspot : spot = U := by simpa [Addr.add] using World.cell?_spot c0
   subst hspot;refine Or.inr ⟨b, o, rfl, ?_, fun i hi => ?_⟩
   ·have := zlb c0
    simpa [Addr.add] using this
   ·have hi' : i < len := by simpa using hi
    obtain ⟨c0, c1, c2⟩ := hf i hi';have hadd : ∀ j, (⟨b, o, U⟩ : Addr).add j = ⟨b, o + j, U⟩ := by intro j; unfold Addr.add; split <;> simp_all
    rw [hadd] at c0 c1 c2;simp only [List.getElem_map, List.getElem_range]
    exact ⟨c0, by rw [Nat.add_assoc]; exact c1, by rw [Nat.add_assoc]; exact c2⟩
end
open Go.ChangeShapes Go.WideShapes Go.ChangeAt Go.RowKit Go.Deep
section
variable {H : Type} {enc : TypeId × Value → H} {w : World} {base : Nat} {spare : Nat → Bool} {held : Bool}
theorem zju {α : Type} [Inhabited α] {cod : α → List Value} {size : Nat} {tS tE : TypeId} {P : α → Prop} (h0 : 0 < size) (he : ∀ x, (cod x).length = size) (hu : Try.prog.underlying tS = some (.slice tE)) (hcells : Try.prog.cellsOf tE = size)
  (elem : ∀ (fuel : Nat) (cs : List Value) (x : DataW H × List MemPlace), cs.length = size → DataW.trod enc Try.prog w 0 spare held fuel tE cs = some x → ∃ y : α, cs = cod y ∧ P y)
  {fuel : Nat} {cs : List Value} {x : DataW H × List MemPlace} (h : DataW.trod enc Try.prog w 0 spare held fuel tS cs = some x) :
  ∃ (a : Option Addr) (cap : Nat) (X : List α), cs = [G a X.length cap] ∧ zk size cod w a X ∧ (∀ y ∈ X, P y) ∧ X.length ≤ cap ∧ cap ≤ maxLen := by
 rcases open_slice hu h with ⟨hcs, _⟩ | ⟨ad, len, cap, m, n, D, Pl, hcs, hb, hl, hm, hmm, _, hx⟩
 ·exact ⟨none, 0, [], hcs, Or.inl rfl, (fun y hy => by cases hy), by simp, by simp⟩
 ·subst hcs
  have hlm : len ≤ m := by rw [hmm]; split <;> omega
  have each : ∀ i, i < len → ∃ y : α, (∀ j u, (cod y)[j]? = some u → w.cell? (ad.add (i * size + j)) = some u) ∧ P y := by
   intro i hi;obtain ⟨cs', h1, h2⟩ := hx i (by omega);rw [hcells] at h1;obtain ⟨_, jw, hcell⟩ := World.cells?_some h1;obtain ⟨y, rfl, hy⟩ := elem _ _ _ jw h2;refine ⟨y, fun j u hu' => ?_, hy⟩
   have hj : j < size := by
    rcases Nat.lt_or_ge j size with h' | h'
    ·exact h'
    ·rw [List.getElem?_eq_none (by rw [he]; exact h')] at hu'; cases hu'
   have := hcell j hj;rw [add_add, hu'] at this;exact this
  obtain ⟨f, hf⟩ := choose_lt (α := α) each;refine ⟨some ad, cap, (List.range len).map f, by simp, ?_, ?_, by simpa using hl, hm⟩
  ·by_cases hz : len = 0
   ·subst hz; exact Or.inl rfl
   ·have hy := hf 0 (by omega)
    have hl0 : 0 < (cod (f 0)).length := by rw [he]; exact h0
    have c0 := hy.1 0 _ (List.getElem?_eq_getElem hl0);obtain ⟨b, o, spot⟩ := ad;have hspot : spot = U := by simpa [Addr.add] using World.cell?_spot c0
    subst hspot;refine Or.inr ⟨b, o, rfl, ?_, fun i hi j u hu' => ?_⟩
    ·have := zlb c0
     simpa [Addr.add] using this
    ·have hi' : i < len := by simpa using hi
     simp only [List.getElem_map, List.getElem_range] at hu'
     have c1 := (hf i hi').1 j u hu';have hadd : ∀ j, (⟨b, o, U⟩ : Addr).add j = ⟨b, o + j, U⟩ := by intro j; unfold Addr.add; split <;> simp_all
     rw [hadd, ← Nat.add_assoc] at c1;exact c1
  ·intro y hy
   simp only [List.mem_map, List.mem_range] at hy
   obtain ⟨i, hi, rfl⟩ := hy;exact (hf i hi).2
theorem zl5 : Try.prog.cellsOf 23 = 1 := by kernel_rfl
theorem zo2 (fuel : Nat) (cs : List Value) (x : DataW H × List MemPlace) (jw : cs.length = 3) (h : DataW.trod enc Try.prog w 0 spare held fuel 49 cs = some x) : ∃ p : P3, cs = ze0 p ∧ ((Lit.int J p.1).wf = true ∧ (Lit.int J p.2.1).wf = true ∧ (Lit.int J p.2.2).wf = true) := by
 obtain ⟨xs, k, hk, hxy, _, hxl, hf⟩ := DataW.trod_struct Try.underlying49 h
 match xs, hxl, cs, jw with
 | [y0, y1, y2], _, [v0, v1, v2], _ =>
  have g0 := hf 0 _ rfl;have g1 := hf 1 _ rfl;have g2 := hf 2 _ rfl;simp [zib] at g0 g1 g2
  obtain ⟨n0, q0, _, w0⟩ := DataW.trod_int Try.underlying3 g0;obtain ⟨n1, q1, _, w1⟩ := DataW.trod_int Try.underlying3 g1;obtain ⟨n2, q2, _, w2⟩ := DataW.trod_int Try.underlying3 g2;simp at q0 q1 q2
  subst q0 q1 q2;exact ⟨(n0, n1, n2), rfl, w0, w1, w2⟩
theorem row_parts {a : Option Addr} {l : List P3} (h : zk 3 ze0 w a l) : zal w a l := by
 rcases h with rfl | ⟨b, o, rfl, hlt, hc⟩
 ·exact Or.inl rfl
 ·exact Or.inr ⟨b, o, rfl, hlt, fun i hi => ⟨hc i hi 0 _ rfl, hc i hi 1 _ rfl, hc i hi 2 _ rfl⟩⟩
theorem zlg {fuel : Nat} {cs : List Value} {x : DataW H × List MemPlace} (h : DataW.trod enc Try.prog w 0 spare held fuel 23 cs = some x) :
  ∃ (a : Option Addr) (cap : Nat) (l : List P3), cs = [G a l.length cap] ∧ zal w a l ∧ l.length ≤ cap ∧ cap ≤ maxLen := by
 obtain ⟨a, cap, l, h1, h2, _, h3, h4⟩ := zju (by decide) lenP Try.underlying23 zmb (fun f cs x hl h => zo2 f cs x hl h) h;exact ⟨a, cap, l, h1, row_parts h2, h3, h4⟩
end
open Go.ChangeShapes Go.WideShapes Go.ChangeAt Go.RowKit Go.Deep
section
variable {H : Type} {enc : TypeId × Value → H} {w : World} {base : Nat} {spare : Nat → Bool} {held : Bool}
theorem cellsMsg4 : Try.prog.cellsOf 43 = 4 := by kernel_rfl
theorem open_msgC (fuel : Nat) (cs : List Value) (x : DataW H × List MemPlace) (jw : cs.length = 4) (h : DataW.trod enc Try.prog w 0 spare held fuel 43 cs = some x) : ∃ jj : XM, cs = zb4 jj ∧ (zal w jj.2.2.2.1.1 jj.2.2.2.2 ∧ jj.2.2.2.2.length ≤ jj.2.2.2.1.2 ∧ jj.2.2.2.1.2 ≤ maxLen ∧ (Lit.int J jj.1).wf = true ∧ (Lit.int J jj.2.1).wf = true ∧ (Lit.int J jj.2.2.1).wf = true) := by
 obtain ⟨xs, k, hk, hxy, _, hxl, hf⟩ := DataW.trod_struct Try.underlying43 h
 match xs, hxl, cs, jw with
 | [y0, y1, y2, y3], _, [v0, v1, v2, v3], _ =>
  have g0 := hf 0 _ rfl;have g1 := hf 1 _ rfl;have g2 := hf 2 _ rfl;have g3 := hf 3 _ rfl;simp [zib, zl5] at g0 g1 g2 g3
  obtain ⟨n0, q0, _, w0⟩ := DataW.trod_int Try.underlying3 g0;obtain ⟨n1, q1, _, w1⟩ := DataW.trod_int Try.underlying3 g1;obtain ⟨n2, q2, _, w2⟩ := DataW.trod_int Try.underlying3 g2;obtain ⟨a, cap, l, q3, hp, hc, hm⟩ := zlg g3;simp at q0 q1 q2 q3
  subst q0 q1 q2 q3;exact ⟨(n0, n1, n2, (a, cap), l), rfl, hp, hc, hm, w0, w1, w2⟩
theorem open_msgs {fuel : Nat} {v : Value} {x : DataW H × List MemPlace} (hv : Value.okWide Try.prog w .any base 24 v) (h : DataW.trod enc Try.prog w 0 spare held fuel 24 v.cells.toList = some x) :
  ∃ (a : Option Addr) (cap : Nat) (X : List XM), v = G a X.length cap ∧ zk 4 zb4 w a X ∧ (∀ jj ∈ X, zal w jj.2.2.2.1.1 jj.2.2.2.2 ∧ jj.2.2.2.2.length ≤ 9223372036854775807 ∧ (Lit.int J jj.1).wf = true ∧ (Lit.int J jj.2.1).wf = true ∧ (Lit.int J jj.2.2.1).wf = true) ∧ X.length ≤ cap ∧ cap ≤ maxLen := by
 obtain ⟨a, len, cap, rfl⟩ := okWide_slice Try.underlying24 hv;obtain ⟨a', cap', X, e, h1, h2, h3, h4⟩ := zju (by decide) zbw Try.underlying24 cellsMsg4 (fun f cs x hl h => open_msgC f cs x hl h) h;simp [Value.cells] at e
 obtain ⟨rfl, rfl, rfl⟩ := e;exact ⟨_, _, X, rfl, h1, fun y hy => ⟨(h2 y hy).1, by have := h2 y hy; unfold maxLen at this; omega, (h2 y hy).2.2.2⟩, h3, h4⟩
end
end Go.Proofs.Ytpcnlifmkhagkaa
