import Derived.Test.YtpcnlifmkhagkaaKAJ09
set_option maxRecDepth 20000
set_option maxHeartbeats 20000000
namespace Go.Proofs.Ytpcnlifmkhagkaa
open Go.RowKit
open Go.Value renaming slice → G, int → E
open Go.IntKind renaming i64 → J
open _root_.Option renaming none → U
open Go.Obj renaming cells → T
open Go.RowKit renaming Hid → Q, Below → Z
open Go.World renaming setCell → r
open _root_.Nat renaming le_refl → kaa
open _root_.List renaming filter_append → kab, take_of_length_le → kac
attribute [local go_sem ↓] Go.wp_at_zero Go.wp_at_succ
theorem zpp {α β : Type} {X : List α} {k : Nat} (h : k < X.length) (f : α → β) : (X.take (k + 1)).map f = (X.take k).map f ++ [f X[k]] := by rw [zax h, List.map_append]; rfl
theorem zm.app {w w2 w4 : World} {base : Nat} {X jz : List XM} {ms zs : List Q4} {v v4 : Value} (hX : X.map zc6 = ms) (hT : ∀ y ∈ X, zam base w y.2.2.2.1.1 y.2.2.2.2) (hC : zj 49 w w2) (hO : zd 43 4 zb4 w2 base v X) (hg : w2.grownBy w4 v.ownBlock) (h4 : zd 43 4 zb4 w4 base v4 (X ++ jz)) (hZ : jz.map zc6 = zs) (hx : ∀ y ∈ jz, zam base w2 y.2.2.2.1.1 y.2.2.2.2) : zm w4 base v4 (ms ++ zs) := by
 have hC2 : zj 49 w2 w4 := zj.grown hg (hO.grownT (by decide));refine ⟨X ++ jz, h4, by rw [List.map_append, hX, hZ], fun y hy => ?_⟩;rcases List.mem_append.1 hy with hy | hy
 ·exact ((hT y hy).calm hC).calm hC2
 ·exact (hx y hy).calm hC2
theorem zf8 (o : O4) : (za6 o).length ≤ 3 := by rw [← zle]; exact Nat.le_trans (zkc _ _) (zdy _)
theorem zg3 (o : O4) : (za9 o).length ≤ 3 := by unfold za9; rw [List.length_map]; exact zdy _
theorem zf6 {f : O4 → List Q4} (hf : ∀ o, (f o).length ≤ 3) : ∀ (O : List O4), (O.flatMap f).length ≤ 3 * O.length
 | [] => by simp
 | o :: t => by
  have ih := zf6 hf t;have := hf o;rw [List.flatMap_cons, List.length_append, List.length_cons];omega
theorem zkv {f : O4 → List Q4} {O : List O4} {k : Nat} (h : k < O.length) : (O.take (k + 1)).flatMap f = (O.take k).flatMap f ++ f O[k] := by rw [zax h, List.flatMap_append]; simp
theorem zke (d : Int) (pa : Option Addr) (np pc : Nat) (l : List P3) (dec : Bool) (ha : Option Addr) (nh hc : Nat) (hd : List Int) (w : World) (hnp : np = l.length) (hl : l.length ≤ 4) (hp : zal w pa l) :
  Calls Try.prog 75 #[.agg #[E J d, G pa np pc, .bool dec, G ha nh hc]] w fun e w' => ∃ v', e = .returned v' ∧ zm w' w.heap.size v' (za9 (d, l, dec, hd)) ∧ Z w.heap.size w w' := by
 have HN := zC hnp hl hp;clear hnp hl hp;have hb0 := zi w (T #[E J d, G pa np pc, .bool dec, G ha nh hc] 38);have hN0 : Blk (w.alloc (T #[E J d, G pa np pc, .bool dec, G ha nh hc] 38)) w.heap.size #[E J d, G pa np pc, .bool dec, G ha nh hc] 38 := Blk.new _ _ _;go_enter Try.func75, Try.ntmps75
 go_wp2_with fail
 generalize w.alloc (T #[E J d, G pa np pc, .bool dec, G ha nh hc] 38) = W at *;refine (zgg pa l pc np W HN.out.1 HN.out.2.1 (HN.out.2.2.below hb0)).mono ?_;rintro e w1 ⟨hv, rfl, hoI, hb1⟩;rw [zfs] at hoI;have hHL := zdy l;have HAll : Q ((zp l).map (fun n => ((5, d, n, []) : Q4)) = za9 (d, l, dec, hd)) := rfl;generalize zp l = hs at *;obtain ⟨ga, gn, gc, rfl⟩ := hoI.own.slice zai;have jX := hoI.own.at zai;have hgn := jX.2.1;have HR := zD jX.1 (hN0.below hb1 hN0.lt) (hb0.trans (hb1.mono hb0.size)) hgn;have hgn3 : gn ≤ 3 := by omega
 clear hoI jX hb1 hb0 hN0 hgn hHL;go_wp2;go_loopw [3, 10] (fun v i w' => ∃ k : Nat, k ≤ gn ∧ i = E J k ∧ Q (zm w' w1.heap.size v ((hs.take k).map (fun n => ((5, d, n, []) : Q4))) ∧ Z w1.heap.size w1 w')) (fun _ i _ => gn - (intOf i).toNat)
 case atStart => exact ⟨0, Nat.zero_le _, rfl, zm.nil _ _, Below.refl _ _⟩
 case round =>
  obtain ⟨k, hk, rfl, hR⟩ := hrel;by_cases hlt : k < gn
  ·have hkh : k < hs.length := by have := HR.out.2.2.2; omega
   obtain ⟨hM, hbw⟩ := hR.out;have HE : Q ((hs.take (k + 1)).map (fun n => ((5, d, n, []) : Q4)) = (hs.take k).map (fun n => ((5, d, n, []) : Q4)) ++ [(5, d, hs[k], [])]) := zpp hkh _;have hml : ((hs.take k).map (fun n => ((5, d, n, []) : Q4))).length ≤ k := by simp; omega
   generalize (hs.take k).map (fun n => ((5, d, n, []) : Q4)) = ms at *;obtain ⟨X, hXl, hO, hX, hT⟩ := hM.len;obtain ⟨av, nv, cv, rfl⟩ := hO.slice zbw;have hBk := HR.out.2.1.below hbw HR.out.2.1.lt;have c0 := hBk.cell 0;simp only [List.getElem?_toArray, List.getElem?_cons_zero] at c0
   have hBl := hBk.lt;rcases HR.out.1.below hbw with h0 | ⟨g, o, rfl, hg, hcs⟩
   ·rw [h0] at hkh; simp at hkh
   have d0 := hcs k hkh 0 _ rfl;simp only [Nat.mul_one, Nat.add_zero] at d0
   have HW := zD hO hX hT hbw;have hX3 : X.length ≤ 3 := by omega
   have hsz := hbw.size;clear hR hM hO hX hT hBk hcs hml hXl hbw;generalize hs[k] = x at *;go_wp2_with (at_builtin; refine zbj zbw oneM Try.underlying24 zfm rfl (by decide) _ rfl _ _ rfl w1.heap.size _ X rfl (HW.out.1.below (zi wr _) (kaa _)) (some ⟨wr.heap.size, 0, U⟩) 1 1 [(5, d, x, (U, 0), [])] rfl rfl (zk.one (Blk.new wr _ _) rfl) (by unfold maxLen; simp; omega) (by simp; omega) (by simp; omega) ?_; intro a4 n4 c4 w4 jv hn4 jy jQ; clear hn4)
   have HF : Q (zm w4 w1.heap.size (G a4 n4 c4) ((hs.take (k + 1)).map (fun n => ((5, d, n, []) : Q4))) ∧ Z w1.heap.size w1 w4) := by
    refine ⟨?_, ?_⟩
    ·rw [HE.out]
     exact zm.snoc (x := (5, d, x, (U, 0), [])) HW.out.2.1 HW.out.2.2.1 (zj.alloc _ _ _) (HW.out.1.below (zi wr _) (kaa _)) jy jv (Or.inl rfl)
    ·exact (HW.out.2.2.2.alloc hsz _).grown jy (by simp; omega) HW.out.1.base
   clear jv jy jQ c0 d0;go_wp2;go_roundw
   case rel => exact ⟨k + 1, by omega, by go_num, HF⟩
   case measure => simp [intOf]; omega
  ·have HF : Q (zm wr w1.heap.size u3 (za9 (d, l, dec, hd)) ∧ Z w1.heap.size w1 wr) := by
    have := hR.out;rwa [kac (by have := HR.out.2.2.2; omega), HAll.out] at this
   clear hR;go_wp2;go_ret;exact ⟨_, rfl, HF.out.1.mono HR.out.2.2.1.size, HR.out.2.2.1.trans (HF.out.2.mono HR.out.2.2.1.size)⟩
structure zfz (w : World) (a : Option Addr) (n : Nat) (X : List XO) (O : List O4) : Prop where
 n : n = X.length
 lies : zgf w a X
 says : X.map zz = O
theorem zfz.below {w w' : World} {a : Option Addr} {n : Nat} {X : List XO} {O : List O4} (h : zfz w a n X O) (hb : Z w.heap.size w w') : zfz w' a n X O := ⟨h.n, h.lies.below hb, h.says⟩
def zcd (O : List O4) : Prop := O.length ≤ 100000 ∧ ∀ o ∈ O, o.2.1.length ≤ 4 ∧ o.2.2.2.length ≤ 100000
theorem zbk.opns {R : Nat → Prop} {w : World} {la : Option Addr} {nl : Nat} {Y : List XL} {oa : Option Addr} {no : Nat} {X : List XO} {L : List R3} {O : List O4} (F : zbk R w la nl Y oa no X L O) : zfz w oa no X O :=
 ⟨F.on, ⟨F.opn, fun x hx => ⟨(F.oparts x hx).1.1, (F.oparts x hx).2.1⟩⟩, F.osays⟩
theorem znj (la oa : Option Addr) (nl lc no oc : Nat) (bt nx : Int) (X : List XO) (O : List O4) (w : World) (h : zfz w oa no X O) (hf : zcd O) :
  Calls Try.prog 52 #[.agg #[G la nl lc, E J bt, E J nx, G oa no oc]] w fun e w' => ∃ v', e = .returned v' ∧ zm w' w.heap.size v' (O.flatMap za6) ∧ Z w.heap.size w w' := by
 have HN : Q (zfz w oa no X O ∧ zcd O ∧ X.length = O.length) := ⟨h, hf, by rw [← h.says, List.length_map]⟩;have hnl : no ≤ 100000 := by have h1 := h.n; have h2 := hf.1; have h3 := HN.out.2.2; omega
 clear h hf;have hb0 := zi w (T #[G la nl lc, E J bt, E J nx, G oa no oc] 29);go_enter Try.func52, Try.ntmps52
 go_wp2;generalize w.alloc (T #[G la nl lc, E J bt, E J nx, G oa no oc] 29) = W at *;go_loopw [3, 9] (fun v i w' => ∃ k : Nat, k ≤ no ∧ i = E J k ∧ Q (zm w' w.heap.size v ((O.take k).flatMap za6) ∧ Z w.heap.size w w')) (fun _ i _ => no - (intOf i).toNat)
 case atStart => exact ⟨0, Nat.zero_le _, rfl, zm.nil _ _, hb0⟩
 case round =>
  obtain ⟨k, hk, rfl, hR⟩ := hrel;by_cases hlt : k < no
  ·have hkX : k < X.length := by have := HN.out.1.n; omega
   have hkO : k < O.length := by have := HN.out.2.2; omega
   obtain ⟨hM, hbw⟩ := hR.out;have HE : Q ((O.take (k + 1)).flatMap za6 = (O.take k).flatMap za6 ++ za6 O[k]) := zkv hkO;have hml : ((O.take k).flatMap za6).length ≤ 300000 := by have h1 := zf6 zf8 (O.take k); rw [List.length_take] at h1; omega
   have hsz := hbw.size;generalize (O.take k).flatMap za6 = ms at *;obtain ⟨jz, hZl, hO, hZ, hT⟩ := hM.len;obtain ⟨av, nv, cv, rfl⟩ := hO.slice zbw;obtain ⟨g, o, rfl, hg, d0, d1, d2, d3, hq⟩ := (HN.out.1.lies.below hbw).get hkX
   have hOk : O[k] = zz X[k] := by
    have : O = X.map zz := HN.out.1.says.symm;subst this;rw [List.getElem_map]
   have hfk := HN.out.2.1.2 O[k] (List.getElem_mem hkO);rw [hOk] at hfk HE;generalize X[k] = x at *;obtain ⟨dd, ⟨⟨pa, pc⟩, l⟩, dec, ⟨ha, hc⟩, hd⟩ := x;simp only [zz] at d0 d1 d2 d3 hq hfk HE
   have HW : Q (zd 43 4 zb4 wr w.heap.size (G av nv cv) jz ∧ jz.map zc6 = ms ∧ (∀ x ∈ jz, zam w.heap.size wr x.2.2.2.1.1 x.2.2.2.2) ∧ Z w.heap.size w wr ∧ zal wr pa l ∧ zk 1 zv wr ha hd ∧ l.length ≤ 4 ∧ hd.length ≤ 100000) := ⟨hO, hZ, hT, hbw, hq.1, hq.2, hfk.1, hfk.2⟩;have HLL : ∃ ln hn, Q (l.length = ln ∧ hd.length = hn) := ⟨_, _, rfl, rfl⟩;obtain ⟨ln, hn, HLL⟩ := HLL;rw [HLL.out.1] at d1;rw [HLL.out.2] at d3;have hZ3 : jz.length ≤ 300000 := by omega
   clear hR hM hO hZ hT hbw hq hfk hOk hkO hkX hml hZl;go_wp2_with fail
   have hbA := zi wr (T #[E J dd, G pa ln pc, .bool dec, G ha hn hc] 38);have hsA : (wr.alloc (T #[E J dd, G pa ln pc, .bool dec, G ha hn hc] 38)).heap.size = wr.heap.size + 1 := by simp
   generalize wr.alloc (T #[E J dd, G pa ln pc, .bool dec, G ha hn hc] 38) = A at *;refine (zj6 dd pa ln pc l dec ha hn hc hd A HLL.out.1.symm HW.out.2.2.2.2.2.2.1 (HW.out.2.2.2.2.1.below hbA) HLL.out.2.symm (by have := HW.out.2.2.2.2.2.2.2; omega) (HW.out.2.2.2.2.2.1.below hbA)).mono ?_;rintro e w2 ⟨v2, rfl, hM2, hb2⟩;have hml2 := zf8 (dd, l, dec, hd);obtain ⟨zX, hUl, hU, hUs, hUT⟩ := hM2.len;obtain ⟨a2, n2, c2, rfl⟩ := hU.slice zbw;have hUr := hU.at zbw;have HU := zE hUs hUT hUr.2.1 hUr.1 (hbA.trans (hb2.mono (by omega)));have hU3 : zX.length ≤ 3 := by omega
   have hs2 : wr.heap.size + 1 ≤ w2.heap.size := by have := hb2.size; omega
   clear hM2 hU hUs hUT hUr hb2 hbA hUl hml2 d0 d1 d2 d3;go_wp2_with (at_builtin; refine zbj zbw oneM Try.underlying24 zfm rfl (by decide) _ rfl _ _ rfl w.heap.size _ jz rfl (HW.out.1.below HU.out.2.2.2.2 (kaa _)) a2 n2 c2 zX rfl HU.out.2.2.1 HU.out.2.2.2.1 (by unfold maxLen; omega) (by omega) (by omega) ?_; intro a4 n4 c4 w4 jv hn4 jy jQ; clear hn4)
   have HF : Q (zm w4 w.heap.size (G a4 n4 c4) ((O.take (k + 1)).flatMap za6) ∧ Z w.heap.size w w4) := by
    refine ⟨?_, ?_⟩
    ·rw [HE.out]
     exact zm.app HW.out.2.1 HW.out.2.2.1 (zj.below HU.out.2.2.2.2 (kaa _)) (HW.out.1.below HU.out.2.2.2.2 (kaa _)) jy jv HU.out.1 (fun y hy => (HU.out.2.1 y hy).mono (by omega))
    ·exact (HW.out.2.2.2.1.trans (HU.out.2.2.2.2.mono hsz)).grown jy (by omega) HW.out.1.base
   clear jv jy jQ;go_wp2;go_roundw
   case rel => exact ⟨k + 1, by omega, by go_num, HF⟩
   case measure => simp [intOf]; omega
  ·have HF : Q (zm wr w.heap.size u3 (O.flatMap za6) ∧ Z w.heap.size w wr) := by
    have := hR.out;rwa [kac (by have h1 := HN.out.1.n; have h2 := HN.out.2.2; omega)] at this
   clear hR;go_wp2;go_ret;exact ⟨_, rfl, HF.out.1, HF.out.2⟩
theorem zli (d : Int) (v1 v2 v3 : Value) (b : Nat) (D : Int) (w : World) (hb : b < w.heap.size) (c1 : w.cell? ⟨b, 1, U⟩ = some (E J D)) :
  Calls Try.prog 62 #[.agg #[E J d, v1, v2, v3], .pointer (some ⟨b, 0, U⟩)] w fun e w' => e = .returned (.bool (decide (d = D))) ∧ Z w.heap.size w w' := by
 have c2 : (w.alloc (T #[E J d, v1, v2, v3] 38)).cell? ⟨b, 1, U⟩ = some (E J D) := by rw [Below.cell (zi w _) hb]; exact c1
 clear c1;go_enter Try.func62, Try.ntmps62
 go_wp2
 all_goals
  go_ret;refine ⟨zf3 ?_, zi _ _⟩;rw [Bool.eq_iff_iff]; simp_all
theorem zj3 {w : World} {g o : Nat} {X : List XD} (h : zk 4 zb7 w (some ⟨g, o, U⟩) X) {k : Nat} (hk : k < X.length) : g < w.heap.size ∧ w.cell? ⟨g, o + k * 4, U⟩ = some (E J X[k].1) ∧ w.cell? ⟨g, o + k * 4 + 1, U⟩ = some (.slice X[k].2.1.1 X[k].2.2.length X[k].2.1.2) ∧ w.cell? ⟨g, o + k * 4 + 2, U⟩ = some (.bool true) ∧ w.cell? ⟨g, o + k * 4 + 3, U⟩ = some (G U 0 0) := by
 rcases h with rfl | ⟨b, o', e, hlt, hc⟩
 ·simp at hk
 ·cases e
  exact ⟨hlt, hc k hk 0 _ rfl, hc k hk 1 _ rfl, hc k hk 2 _ rfl, hc k hk 3 _ rfl⟩
theorem zni (a : Option Addr) (X : List XD) (cap n : Nat) (b : Nat) (D : Int) (w : World) (hn : n = X.length) (hl : X.length ≤ 4398046511104) (hp : zk 4 zb7 w a X) (hb : b < w.heap.size) (c1 : w.cell? ⟨b, 1, U⟩ = some (E J D)) :
  Calls Try.prog 20 #[G a n cap, .func (.func 62) #[] #[.pointer (some ⟨b, 0, U⟩)]] w fun e w' => ∃ jj : Int, e = .returned (E J jj) ∧ Idx X D jj ∧ Z w.heap.size w w' := by
 have HP := zC hn hp c1;have hnl : n ≤ 4398046511104 := by omega
 clear hn hp c1;go_enter Try.func20, Try.ntmps20
 go_wp2;go_loopw [8] (fun i w' => ∃ k : Nat, k ≤ n ∧ i = E J k ∧ Q (∀ x ∈ X.take k, x.1 ≠ D) ∧ Z w.heap.size w w') (fun i _ => n - (intOf i).toNat)
 case atStart => exact ⟨0, Nat.zero_le _, rfl, (fun x hx => by simp at hx), Below.refl _ _⟩
 case round =>
  obtain ⟨k, hk, rfl, hno, hbw⟩ := hrel;have hsz := hbw.size;by_cases hlt : k < n
  ·have hkX : k < X.length := by have := HP.out.1; omega
   have jX := HP.out.2.1.below hbw
   obtain ⟨g, o, rfl⟩ : ∃ g o, a = some ⟨g, o, U⟩ := by
    rcases HP.out.2.1 with h | ⟨g, o, h, _⟩
    ·rw [h] at hkX; simp at hkX
    ·exact ⟨g, o, h⟩
   obtain ⟨_, d0, d1, d2, d3⟩ := zj3 jX hkX;have HI : Q (X[k].1 = D → Idx X D k) := fun h => Or.inr ⟨k, hkX, rfl, h, fun j hj hj' => hno.out _ (List.mem_take_iff_getElem.2 ⟨j, by omega, rfl⟩)⟩
   have HJ : Q (X[k].1 ≠ D → ∀ x ∈ X.take (k + 1), x.1 ≠ D) := fun h x hx => by
    rw [zax hkX] at hx;rcases List.mem_append.1 hx with hx | hx
    ·exact hno.out x hx
    ·rw [List.mem_singleton.1 hx]; exact h
   have hcc := (hbw.cell (p := ⟨b, 1, U⟩) hb).trans HP.out.2.2;clear jX hno;generalize X[k] = x at *;obtain ⟨dd, ⟨ax, cx⟩, l⟩ := x;simp only at d0 d1 d2 d3 HI HJ
   generalize l.length = nl at *;have HC : Q (b < wr.heap.size ∧ wr.cell? ⟨b, 1, U⟩ = some (E J D)) := ⟨by omega, hcc⟩;clear hcc;go_wp2_with fail
   refine (zli dd (G ax nl cx) (.bool true) (G U 0 0) b D _ HC.out.1 HC.out.2).mono ?_;rintro e w1 ⟨rfl, hb1⟩;have hB1 := hbw.trans (hb1.mono hsz);clear d0 d1 d2 d3 hb1;by_cases hd : dd = D
   ·have HI2 : Q _ := HI.out hd
    have e : decide (dd = D) = true := by simpa using hd
    rw [e];clear e hd HI HJ;go_wp2;go_ret;exact ⟨_, rfl, HI2.out, hB1⟩
   ·have HJ2 := zA (HJ.out hd)
    have e : decide (dd = D) = false := by simpa using hd
    rw [e];clear e hd HI HJ;go_wp2;go_roundw
    case rel => exact ⟨k + 1, by omega, by go_num, HJ2, hB1⟩
    case measure => simp [intOf]; omega
  ·have HF : Q (Idx X D (-1)) := Or.inl ⟨rfl, fun x hx => hno.out x (by rw [kac (by have := HP.out.1; omega)]; exact hx)⟩
   clear hno;go_wp2;go_ret;exact ⟨_, rfl, HF.out, hbw⟩
theorem infoO2 (w : World) : (zeroValue 38).run Try.prog w = .ok (.agg #[E J 0, G U 0 0, .bool false, G U 0 0]) w := by kernel_rfl
theorem zm5 (a : Option Addr) (X : List XD) (cap n base : Nat) (b : Nat) (D : Int) (w : World) (hl : X.length ≤ 4398046511104) (jx : zd 38 4 zb7 w base (G a n cap) X) (hb : b < w.heap.size) (hne : Value.ownBlock (G a n cap) ≠ some b) (c1 : w.cell? ⟨b, 1, U⟩ = some (E J D)) :
  Calls Try.prog 29 #[G a n cap, .func (.func 62) #[] #[.pointer (some ⟨b, 0, U⟩)]] w fun e w' => ∃ n', e = .returned (G a n' cap) ∧ zd 38 4 zb7 w' base (G a n' cap) (X.filter fun x => !decide (x.1 = D)) ∧ w.grownBy w' (Value.ownBlock (G a n cap)) := by
 obtain ⟨a', cap', hv, jX, jZ, hmax⟩ := jx.row zdx;cases hv;have HC := zni a X cap X.length b D w rfl hl jX hb c1;have HO := zD jx c1 hne hmax;have hm63 : (cap : Int) ≤ 9223372036854775807 := by unfold maxLen at hmax; omega
 clear jx jX c1 hne hmax;generalize hxl : X.length = n at *;have HL := zA hxl;clear hxl;go_enter Try.func29, Try.ntmps29
 go_wp2_with fail
 refine HC.mono ?_;rintro e w1 ⟨jj, rfl, hidx, hb1⟩;clear HC;rcases hidx with ⟨rfl, qy⟩ | ⟨i0, hi0, rfl, hD, hlow⟩
 ·have HF : Q ((X.filter fun x => !decide (x.1 = D)) = X) := by
   show _ = _
   rw [List.filter_eq_self];intro x hx
   simpa using qy x hx
  clear qy;go_wp2;go_ret;exact ⟨n, rfl, by rw [HF.out]; exact HO.out.1.below hb1 (kaa _), ze5 hb1⟩
 ·rw [HL.out] at hi0
  have hi0n := hi0
  obtain ⟨g, ha⟩ : ∃ g, a = some ⟨g, 0, U⟩ := by
   rcases HO.out.1.2 with ⟨hv, h0⟩ | ⟨g, cap', cur, hv, _⟩
   ·exfalso; have := HL.out; omega
   ·cases hv; exact ⟨g, rfl⟩
  subst ha
  have hK0 : Q ((X.take (i0 + 1)).filter (fun x => !decide (x.1 = D)) = X.take i0) := by
   show _ = _
   have hx : i0 < X.length := by rw [HL.out]; exact hi0
   rw [zax hx, kab]
   have e1 : (X.take i0).filter (fun x => !decide (x.1 = D)) = X.take i0 := by
    rw [List.filter_eq_self];intro x hx';obtain ⟨j, hj, rfl⟩ := List.mem_take_iff_getElem.1 hx'
    simpa using hlow j (by omega) (by omega)
   rw [e1];simp [hD]
  have hne1 : ((i0 : Int) == -1) = false := beq_eq_false_iff_ne.2 (by omega);clear hlow hD hi0;go_wp2_with fail
  go_loopw [5, 6] (fun s5 s6 w' => ∃ (i j : Nat) (K M : List XD), s5 = E J i ∧ s6 = E J j ∧ j ≤ n ∧ i < j ∧ Q (K = (X.take j).filter (fun x => !decide (x.1 = D)) ∧ K.length = i ∧ K.length + M.length = j) ∧ zd 38 4 zb7 w' base (G (some ⟨g, 0, U⟩) n cap) (K ++ (M ++ X.drop j)) ∧ w.grownBy w' (some g)) (fun _ s6 _ => n - (intOf s6).toNat)
  case atStart =>
   have hx : i0 < X.length := by rw [HL.out]; exact hi0n
   refine ⟨i0, i0 + 1, X.take i0, [X[i0]], rfl, by go_num, by omega, by omega, ⟨hK0.out.symm, by simp; omega, by simp; omega⟩, ?_, ze5 hb1⟩;rw [List.singleton_append, ← List.drop_eq_getElem_cons hx, List.take_append_drop];exact HO.out.1.below hb1 (kaa _)
  case round =>
   obtain ⟨i, j, K, M, rfl, rfl, hj, hij, hKM, jx, hgr⟩ := hrel
   have jw : Q ((K ++ (M ++ X.drop j)).length = n) := by
    show _ = _
    have := hKM.out.2.2;have := HL.out;simp only [List.length_append, List.length_drop]; omega
   have hrow2 := (jx.at zdx).1;have hsz := hgr.size;by_cases hlt : j < n
   ·have hjX : j < X.length := by rw [HL.out]; exact hlt
    obtain ⟨hgl, d0, d1, d2, d3⟩ := zj3 hrow2 (k := j) (by rw [jw.out]; exact hlt);obtain ⟨_, t0, t1, t2, t3⟩ := zj3 hrow2 (k := i) (by rw [jw.out]; omega);have ho' := jx;unfold zd at ho'
    rw [jw.out] at ho';have fz : ∀ q, wr.frozen? ⟨g, q, U⟩ = false := fun q => World.ownsRow.frozenAt ho' q
    have hget : (K ++ (M ++ X.drop j))[j]'(by rw [jw.out]; exact hlt) = X[j] := by
     have h1 := hKM.out.2.2;rw [List.getElem_append_right (by omega), List.getElem_append_right (by omega)];rw [List.getElem_drop];congr 1
     omega
    rw [hget] at d0 d1;have HS := zB (List.drop_eq_getElem_cons hjX) (zax hjX);generalize (K ++ (M ++ X.drop j))[i]'(by rw [jw.out]; omega) = old at *;clear hget hrow2;generalize X[j] = x at *;have HX : Q (x = x ∧ zb7 x = [E J x.1, G x.2.1.1 x.2.2.length x.2.1.2, .bool true, G U 0 0]) := ⟨rfl, rfl⟩;obtain ⟨dd, ⟨ax, cx⟩, l⟩ := x;obtain ⟨od, ⟨oa, oc⟩, ol⟩ := old;simp only at d0 d1 t0 t1 HX
    simp only [Nat.zero_add] at d0 d1 t0 t1 d2 d3 t2 t3
    generalize l.length = nl at *;generalize ol.length = nol at *;have hblt : b < wr.heap.size := by omega
    have hcb := hgr.cell HO.out.2.1 (fun h => HO.out.2.2.1 h.symm);have HCB := zA hcb;have HW := zB jx hgr;have hi2 : (i : Int) < (n : Int) := by omega
    have fi0 := fz (i * 4);have fi1 := fz (i * 4 + 1);have fi2 := fz (i * 4 + 2);have fi3 := fz (i * 4 + 3);clear jx hgr hcb ho' fz;have hA : Z wr.heap.size wr (wr.alloc (T #[E J dd, G ax nl cx, .bool true, G U 0 0] 38)) := zi _ _;go_wp2_with fail
    refine (zli dd (G ax nl cx) (.bool true) (G U 0 0) b D _ (by simp; omega) (by rw [Below.cell hA (by show b < _; omega)]; exact HCB.out)).mono ?_;rintro e w2 ⟨rfl, hb2⟩;have hB2 := hA.trans (hb2.mono (by simp));have hv2 : Blk w2 wr.heap.size #[E J dd, G ax nl cx, .bool true, G U 0 0] 38 := (Blk.new wr _ _).below hb2 (by simp);have v0 := hv2.cell 0;have v1 := hv2.cell 1;have v2 := hv2.cell 2;have v3 := hv2.cell 3;simp at v0 v1 v2 v3
    obtain ⟨bc, bf⟩ := zcz hB2;have t0' := (bc g (i * 4) hgl).trans t0;have t1' := (bc g (i * 4 + 1) hgl).trans t1;have f0' := (bf g (i * 4) hgl).trans fi0;have f1' := (bf g (i * 4 + 1) hgl).trans fi1;have t2' := (bc g (i * 4 + 2) hgl).trans t2;have t3' := (bc g (i * 4 + 3) hgl).trans t3;have f2' := (bf g (i * 4 + 2) hgl).trans fi2;have f3' := (bf g (i * 4 + 3) hgl).trans fi3;have HO2 := zB (HW.out.1.below hB2 (kaa _)) (HW.out.2.trans (ze5 hB2));clear bc bf d0 d1 d2 d3 t0 t1 t2 t3 fi0 fi1 fi2 fi3 hA hb2 hB2 hv2 HCB HW;by_cases hd : dd = D
    ·have e : decide (dd = D) = true := by simpa using hd
     rw [e];clear e
     have HN : Q (K = (X.take (j + 1)).filter (fun x => !decide (x.1 = D)) ∧ K.length = i ∧ K.length + (M ++ [(dd, (ax, cx), l)]).length = j + 1 ∧ K ++ (M ++ X.drop j) = K ++ ((M ++ [(dd, (ax, cx), l)]) ++ X.drop (j + 1))) := by
      refine ⟨?_, hKM.out.2.1, by have := hKM.out.2.2; simp; omega, ?_⟩
      ·rw [HS.out.2, kab, ← hKM.out.1]
       simp [hd]
      ·rw [HS.out.1]; simp
     clear hd v0 v1 v2 v3 t0' t1' f0' f1' t2' t3' f2' f3';go_wp2_with fail
     go_roundw
     case rel => exact ⟨i, j + 1, K, M ++ [(dd, (ax, cx), l)], rfl, by go_num, by omega, by omega, ⟨HN.out.1, HN.out.2.1, HN.out.2.2.1⟩, by rw [← HN.out.2.2.2]; exact HO2.out.1, HO2.out.2⟩
     case measure => simp [intOf]; omega
    ·have e : decide (dd = D) = false := by simpa using hd
     rw [e];clear e
     obtain ⟨m, M', hM⟩ : ∃ m M', M = m :: M' := by
      cases M with
      | nil => exfalso; have h1 := hKM.out.2.2; have h2 := hKM.out.2.1; simp at h1; omega
      | cons m M' => exact ⟨m, M', rfl⟩
     have HN : Q (K ++ [(dd, (ax, cx), l)] = (X.take (j + 1)).filter (fun x => !decide (x.1 = D)) ∧ (K ++ [(dd, (ax, cx), l)]).length = i + 1 ∧ (K ++ [(dd, (ax, cx), l)]).length + (M' ++ [(dd, (ax, cx), l)]).length = j + 1 ∧ (K ++ (M ++ X.drop j)).set i (dd, (ax, cx), l) = (K ++ [(dd, (ax, cx), l)]) ++ ((M' ++ [(dd, (ax, cx), l)]) ++ X.drop (j + 1))) := by
      refine ⟨?_, by have := hKM.out.2.1; simp; omega, by have := hKM.out.2.2; rw [hM] at this; simp at this; simp; omega, ?_⟩
      ·rw [HS.out.2, kab, ← hKM.out.1]
       simp [hd]
      ·rw [HS.out.1, hM, List.set_append_right i _ (by have := hKM.out.2.1; omega), hKM.out.2.1, Nat.sub_self]
       simp
     have HP : Q (zd 38 4 zb7 (r (r (r (r w2 ⟨g, i * 4, U⟩ (E J dd)) ⟨g, i * 4 + 1, U⟩ (G ax nl cx)) ⟨g, i * 4 + 2, U⟩ (.bool true)) ⟨g, i * 4 + 3, U⟩ (G U 0 0)) base (G (some ⟨g, 0, U⟩) n cap) ((K ++ [(dd, (ax, cx), l)]) ++ ((M' ++ [(dd, (ax, cx), l)]) ++ X.drop (j + 1)))) := by
      rw [← HN.out.2.2.2];exact HO2.out.1.put4 zdx jw.out.symm (by rw [jw.out]; omega) HX.out.2
     have HG : Q (w.grownBy (r (r (r (r w2 ⟨g, i * 4, U⟩ (E J dd)) ⟨g, i * 4 + 1, U⟩ (G ax nl cx)) ⟨g, i * 4 + 2, U⟩ (.bool true)) ⟨g, i * 4 + 3, U⟩ (G U 0 0)) (some g)) := (((HO2.out.2.trans (zfh _ _ _ _)).trans (zfh _ _ _ _)).trans (zfh _ _ _ _)).trans (zfh _ _ _ _);clear hd hM HO2 jw;go_wp2_with fail
     go_roundw
     case rel => exact ⟨i + 1, j + 1, K ++ [(dd, (ax, cx), l)], M' ++ [(dd, (ax, cx), l)], by go_num, by go_num, by omega, by omega, ⟨HN.out.1, HN.out.2.1, HN.out.2.2.1⟩, HP.out, HG.out⟩
     case measure => simp [intOf]; omega
   ·have hjn : j = n := by omega
    subst hjn;have hdr := List.drop_eq_nil_of_le (by rw [HL.out]; exact kaa _);have hkf : K = X.filter (fun x => !decide (x.1 = D)) := by rw [hKM.out.1, kac (by rw [HL.out]; exact kaa _)]
    have ho' := jx;unfold zd at ho'
    rw [jw.out] at ho';have hin := hij
    obtain ⟨vs, hcl⟩ : ∃ vs, ∀ ty, (Builtin.clear_ #[27] ty #[G (some ⟨g, i * 4, U⟩) (j - i) (cap - i)]).run Try.prog wr = .ok (.tuple #[]) (wr.setCells g (i * 4) vs) := by
     have h1 := zh2 wr 27 38 0 _ Try.underlying27 infoO2 (by intro u hu; simp [Value.cells] at hu; rcases hu with rfl | rfl | rfl | rfl <;> rfl) g (i * 4) (j - i) (cap - i) (by omega) (fun q hq => by
      have hq' : q < (j - i) * 4 := hq;rw [World.ownsRow.cellAt ho' _ (by omega)];have hl2 : (zx zb7 (K ++ (M ++ X.drop j))).length = j * 4 := by rw [zde zdx, jw.out]
      rw [List.getElem?_eq_getElem (by rw [hl2]; omega)]
      rfl) (fun q _ => World.ownsRow.frozenAt ho' _)
     obtain ⟨vs, h1⟩ := h1;exact ⟨vs, fun ty => h1⟩
    have HE : Q (zd 38 4 zb7 (wr.setCells g (i * 4) vs) base (G (some ⟨g, 0, U⟩) i cap) (X.filter fun x => !decide (x.1 = D)) ∧ w.grownBy (wr.setCells g (i * 4) vs) (some g)) := by
     refine ⟨?_, hgr.trans (zie g vs _ _)⟩;rw [← hkf];exact zd.setCells zdx hKM.out.2.1.symm vs _ _ (jx.cut zdx hKM.out.2.1.symm) (by rw [hKM.out.2.1]; exact kaa _)
    clear ho' jx hgr hrow2 hdr hkf hKM jw;have hic : (i : Int) ≤ (cap : Int) := by omega
    have hjc : (j : Int) ≤ (cap : Int) := by omega
    go_wp2;go_ret;exact ⟨i, rfl, HE.out.1, HE.out.2⟩
theorem zeg : (Try.prog.info? 38).map (fun i => (i.zero, i.size, i.bytes)) = some (some (.agg #[E J 0, G U 0 0, .bool false, G U 0 0]), 4, 64) := by kernel_rfl
def zgp (w : World) (a : Option Addr) (X : List XD) : Prop := zk 4 zb7 w a X ∧ ∀ x ∈ X, zal w x.2.1.1 x.2.2
theorem zgp.below {w w' : World} {a : Option Addr} {X : List XD} (h : zgp w a X) (hb : Z w.heap.size w w') : zgp w' a X := ⟨h.1.below hb, fun x hx => (h.2 x hx).below hb⟩
theorem zgp.get {w : World} {a : Option Addr} {X : List XD} (h : zgp w a X) {k : Nat} (hk : k < X.length) : ∃ b o, a = some ⟨b, o, U⟩ ∧ b < w.heap.size ∧ w.cell? ⟨b, o + k * 4, U⟩ = some (E J X[k].1) ∧
  w.cell? ⟨b, o + k * 4 + 1, U⟩ = some (.slice X[k].2.1.1 X[k].2.2.length X[k].2.1.2) ∧ w.cell? ⟨b, o + k * 4 + 2, U⟩ = some (.bool true) ∧ w.cell? ⟨b, o + k * 4 + 3, U⟩ = some (G U 0 0) ∧ zal w X[k].2.1.1 X[k].2.2 := by
 rcases h.1 with rfl | ⟨b, o, rfl, hlt, hc⟩
 ·simp at hk
 ·exact ⟨b, o, rfl, hlt, hc k hk 0 _ rfl, hc k hk 1 _ rfl, hc k hk 2 _ rfl, hc k hk 3 _ rfl, h.2 _ (List.getElem_mem hk)⟩
def HeadAt (w : World) (v : Value) (L : List R3) (g : Int × List D2) : Prop :=
 ∃ (la : Option Addr) (nl lc : Nat) (Y : List XL) (oa : Option Addr) (no oc : Nat) (XO : List XD),
  v = .agg #[G la nl lc, E J g.1, E J 0, G oa no oc] ∧ (nl = L.length ∧ Y.map zf = L ∧ zcc w la Y) ∧ (no = XO.length ∧ XO.map zba = g.2 ∧ zgp w oa XO)
theorem HeadAt.below {w w' : World} {v : Value} {L : List R3} {g : Int × List D2} (hh : HeadAt w v L g) (hb : Z w.heap.size w w') : HeadAt w' v L g := by
 obtain ⟨la, nl, lc, Y, oa, no, oc, XO, hv, ⟨h1, h2, h3⟩, h4, h5, h6⟩ := hh;exact ⟨la, nl, lc, Y, oa, no, oc, XO, hv, ⟨h1, h2, h3.below hb⟩, h4, h5, h6.below hb⟩
def GAt (B base : Nat) (lv : Value) (w : World) (g : Int × List D2) : Prop :=
 ∃ (oa : Option Addr) (no oc : Nat) (XO : List XD),
  Blk w B #[lv, E J g.1, E J 0, G oa no oc] 29 ∧ zd 38 4 zb7 w base (G oa no oc) XO ∧ (∀ x ∈ XO, zam base w x.2.1.1 x.2.2) ∧ XO.map zba = g.2
theorem GAt.below {B base : Nat} {lv : Value} {w w' : World} {g : Int × List D2} (hh : GAt B base lv w g) (hb : Z w.heap.size w w') : GAt B base lv w' g := by
 obtain ⟨oa, no, oc, XO, h1, h2, h3, h4⟩ := hh;exact ⟨oa, no, oc, XO, h1.below hb h1.lt, h2.below hb (kaa _), fun x hx => (h3 x hx).calm (zj.below hb (kaa _)), h4⟩
theorem GAt.put3 {B base : Nat} {lv old : Value} {w : World} {t : Int} {a : Option Addr} {n c : Nat} {XO : List XD} (hB : Blk w B #[lv, E J t, E J 0, old] 29) (hR : zd 38 4 zb7 w base (G a n c) XO) (hT : ∀ x ∈ XO, zam base w x.2.1.1 x.2.2) :
  GAt B base lv (r w ⟨B, 3, U⟩ (G a n c)) (t, XO.map zba) :=
 ⟨a, n, c, XO, hB.set 3 _, hR.setOther (a := ⟨B, 3, U⟩) hB (by decide) _, fun x hx => (hT x hx).calm (zj.setCell (a := ⟨B, 3, U⟩) hB (by decide) _), rfl⟩
theorem GAt.put1 {B base : Nat} {lv old : Value} {w : World} {t : Int} {a : Option Addr} {n c : Nat} {XO : List XD} (hB : Blk w B #[lv, old, E J 0, G a n c] 29) (hR : zd 38 4 zb7 w base (G a n c) XO) (hT : ∀ x ∈ XO, zam base w x.2.1.1 x.2.2) :
  GAt B base lv (r w ⟨B, 1, U⟩ (E J t)) (t, XO.map zba) :=
 ⟨a, n, c, XO, hB.set 1 _, hR.setOther (a := ⟨B, 1, U⟩) hB (by decide) _, fun x hx => (hT x hx).calm (zj.setCell (a := ⟨B, 1, U⟩) hB (by decide) _), rfl⟩
theorem znp {g : Int × List D2} {jj : R3} (h1 : ¬ jj.1 = 4) (h2 : ¬ jj.1 = 5) (h3 : ¬ jj.1 = 6) : zdl g jj = g := by unfold zdl; rw [if_neg h1, if_neg h2, if_neg h3]
theorem fill4 {w : World} {N : Nat} {zV : TypeId} {c0 c1 c2 c3 : Value} (hb : Blk w N #[c0, c1, c2, c3] zV) (v0 v1 v2 v3 : Value) :
  Blk (r (r (r (r w ⟨N, 0, U⟩ v0) ⟨N, 1, U⟩ v1) ⟨N, 2, U⟩ v2) ⟨N, 3, U⟩ v3) N #[v0, v1, v2, v3] zV ∧ zby zV w (r (r (r (r w ⟨N, 0, U⟩ v0) ⟨N, 1, U⟩ v1) ⟨N, 2, U⟩ v2) ⟨N, 3, U⟩ v3) := by
 have b0 : Blk (r w ⟨N, 0, U⟩ v0) N #[v0, c1, c2, c3] zV := hb.set 0 v0;have b1 : Blk (r (r w ⟨N, 0, U⟩ v0) ⟨N, 1, U⟩ v1) N #[v0, v1, c2, c3] zV := b0.set 1 v1;have b2 : Blk (r (r (r w ⟨N, 0, U⟩ v0) ⟨N, 1, U⟩ v1) ⟨N, 2, U⟩ v2) N #[v0, v1, v2, c3] zV := b1.set 2 v2;have b3 : Blk (r (r (r (r w ⟨N, 0, U⟩ v0) ⟨N, 1, U⟩ v1) ⟨N, 2, U⟩ v2) ⟨N, 3, U⟩ v3) N #[v0, v1, v2, v3] zV := b2.set 3 v3;exact ⟨b3, (((zby.setCell (a := ⟨N, 0, U⟩) hb v0).trans (zby.setCell (a := ⟨N, 1, U⟩) b0 v1)).trans (zby.setCell (a := ⟨N, 2, U⟩) b1 v2)).trans (zby.setCell (a := ⟨N, 3, U⟩) b2 v3)⟩
def zcu (kd dd : Int) (D : List D2) : List D2 := if kd = 6 then zao D dd else D
theorem kfil_yes {kd dd : Int} {D : List D2} {j : Nat} (h : j < D.length) (hk : ¬ kd = 6 ∨ ¬ D[j].1 = dd) : zcu kd dd (D.take (j + 1)) = zcu kd dd (D.take j) ++ [D[j]] := by
 rw [zax h];unfold zcu
 split
 ·rename_i h6
  rcases hk with hk | hk
  ·exact absurd h6 hk
  ·unfold zao
   rw [kab, List.filter_cons_of_pos (by simp [hk])];rfl
 ·rfl
theorem kfil_no {dd : Int} {D : List D2} {j : Nat} (h : j < D.length) (hk : D[j].1 = dd) : zcu 6 dd (D.take (j + 1)) = zcu 6 dd (D.take j) := by
 rw [zax h];unfold zcu
 rw [if_pos rfl, if_pos rfl];unfold zao
 rw [kab, List.filter_cons_of_neg (by simp [hk])];simp
theorem zmk (kd dd : Int) (D : List D2) : (zcu kd dd D).length ≤ D.length := by
 unfold zcu
 split
 ·exact List.length_filter_le _ _
 ·exact kaa _
theorem zn6 (t : Int) (D : List D2) (kd dd : Int) (l : List P3) : zdl (t, D) (kd, dd, l) = (if kd = 4 then t + 1 else t, if kd = 5 then zcu kd dd D ++ [(dd, l)] else zcu kd dd D) := by
 unfold zdl zcu
 simp only
 by_cases h4 : kd = 4
 ·simp [h4]
 ·by_cases h5 : kd = 5
  ·simp [h5]
  ·by_cases h6 : kd = 6
   ·simp [h6]
   ·simp [h4, h5, h6]
end Go.Proofs.Ytpcnlifmkhagkaa
