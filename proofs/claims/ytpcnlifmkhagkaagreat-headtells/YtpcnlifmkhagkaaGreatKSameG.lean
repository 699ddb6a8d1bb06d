import Derived.Test.YtpcnlifmkhagkaaGreatKJ11
set_option maxRecDepth 20000
set_option maxHeartbeats 20000000
namespace Go.Proofs.YtpcnlifmkhagkaaGreat
open Go.RowKit
open Value renaming slice → G, int → E
open IntKind renaming i64 → J
open Option renaming none → U
open Obj renaming cells → T
open Go renaming Hid → Q, Below → Z
attribute [local go_sem ↓] Go.wp_at_zero Go.wp_at_succ
abbrev XO := Int × (Hd × List P3) × Bool × (Hd × List Int)
def zaj (x : XO) : List Value := [E J x.1, G x.2.1.1.1 x.2.1.2.length x.2.1.1.2, .bool x.2.2.1, G x.2.2.2.1.1 x.2.2.2.2.length x.2.2.2.1.2]
theorem zar (x : XO) : (zaj x).length = 4 := rfl
theorem oneQ (x : XO) : ∀ u ∈ zaj x, u.oneCell' = true := by intro u hu; simp [zaj] at hu; rcases hu with rfl | rfl | rfl | rfl <;> rfl
def zw (x : XO) : O4 := (x.1, x.2.1.2, x.2.2.1, x.2.2.2.2)
def XOAt (w : World) (x : XO) : Prop := zag w x.2.1.1.1 x.2.1.2 ∧ zi 1 zn w x.2.2.2.1.1 x.2.2.2.2
theorem XOAt.below {w w' : World} {x : XO} (h : XOAt w x) (hb : Z w.heap.size w w') : XOAt w' x := ⟨h.1.below hb, h.2.below hb⟩
def zfg (w : World) (a : Option Addr) (X : List XO) : Prop := zi 4 zaj w a X ∧ ∀ x ∈ X, XOAt w x
theorem zfg.below {w w' : World} {a : Option Addr} {X : List XO} (h : zfg w a X) (hb : Z w.heap.size w w') : zfg w' a X := ⟨h.1.below hb, fun x hx => (h.2 x hx).below hb⟩
theorem zfg.get {w : World} {a : Option Addr} {X : List XO} (h : zfg w a X) {k : Nat} (hk : k < X.length) : ∃ b o, a = some ⟨b, o, U⟩ ∧ b < w.heap.size ∧ w.cell? ⟨b, o + k * 4, U⟩ = some (E J X[k].1) ∧
  w.cell? ⟨b, o + k * 4 + 1, U⟩ = some (G X[k].2.1.1.1 X[k].2.1.2.length X[k].2.1.1.2) ∧ w.cell? ⟨b, o + k * 4 + 2, U⟩ = some (.bool X[k].2.2.1) ∧ w.cell? ⟨b, o + k * 4 + 3, U⟩ = some (G X[k].2.2.2.1.1 X[k].2.2.2.2.length X[k].2.2.2.1.2) ∧ XOAt w X[k] := by
 rcases h.1 with rfl | ⟨b, o, rfl, hlt, hc⟩
 · simp at hk
 · exact ⟨b, o, rfl, hlt, hc k hk 0 _ rfl, hc k hk 1 _ rfl, hc k hk 2 _ rfl, hc k hk 3 _ rfl, h.2 _ (List.getElem_mem hk)⟩
def zgp (w : World) (v : Value) (L : List R3) (boot next : Int) (O : List O4) : Prop :=
 ∃ (la : Option Addr) (nl lc : Nat) (Y : List XL) (oa : Option Addr) (no oc : Nat) (X : List XO),
  v = .agg #[G la nl lc, E J boot, E J next, G oa no oc] ∧ (nl = L.length ∧ Y.map ze = L ∧ zcc w la Y) ∧ (no = X.length ∧ X.map zw = O ∧ zfg w oa X)
theorem zgp.below {w w' : World} {v : Value} {L : List R3} {b n : Int} {O : List O4} (hh : zgp w v L b n O) (hb : Z w.heap.size w w') : zgp w' v L b n O := by
 obtain ⟨la, nl, lc, Y, oa, no, oc, X, hv, ⟨h1, h2, h3⟩, h4, h5, h6⟩ := hh;exact ⟨la, nl, lc, Y, oa, no, oc, X, hv, ⟨h1, h2, h3.below hb⟩, h4, h5, h6.below hb⟩
def SizeG (L : List R3) (O : List O4) : Prop :=
 (L.length ≤ 9223372036854775807 ∧ ∀ jj ∈ L, jj.2.2.length ≤ 9223372036854775807) ∧ (O.length ≤ 9223372036854775807 ∧ ∀ x ∈ O, x.2.1.length ≤ 9223372036854775807 ∧ x.2.2.2.length ≤ 9223372036854775807)
theorem zg2 (v1 v2 : Value) (L : List R3) (bt nx : Int) (O : List O4) (w : World) (h1 : zgp w v1 L bt nx O) (h2 : zgp w v2 L bt nx O) (hs : SizeG L O) :
  Calls Tryz.prog 11 #[v1, v2] w fun e w' => e = .returned (.bool true) ∧ Z w.heap.size w w' := by
 obtain ⟨la, nl, lc, Y, oa, no, oc, X, rfl, ⟨a1, a2, a3⟩, a4, a5, a6⟩ := h1;obtain ⟨lb, ml, ld, jz, ob, mo, od, zX, rfl, ⟨b1, b2, b3⟩, b4, b5, b6⟩ := h2;have hYZ : Y.map ze = jz.map ze := by rw [a2, b2]
 have lY : Y.length = L.length := by rw [← a2, List.length_map]
 have lZ : jz.length = L.length := by rw [← b2, List.length_map]
 have lX : X.length = O.length := by rw [← a5, List.length_map]
 have lU : zX.length = O.length := by rw [← b5, List.length_map]
 have hYm : ∀ x ∈ Y, x.2.2.2.length ≤ 9223372036854775807 := fun x hx => hs.1.2 (ze x) (by rw [← a2]; exact List.mem_map_of_mem hx)
 have hXm : ∀ x ∈ X, x.2.1.2.length ≤ 9223372036854775807 ∧ x.2.2.2.2.length ≤ 9223372036854775807 := fun x hx => hs.2.2 (zw x) (by rw [← a5]; exact List.mem_map_of_mem hx)
 have HL : Q (∀ W, Z w.heap.size w W → Calls Tryz.prog 41 #[G la nl lc, G lb ml ld] W fun e w' => e = .returned (.bool true) ∧ ∃ m, w' = W.drewN m) := fun W hW => sameLog_q la lb Y jz lc ld nl ml W (by omega) (by omega) hYZ (by have := hs.1.1; omega) hYm (a3.below hW) (b3.below hW)
 have hno : no ≤ 9223372036854775807 := by have := hs.2.1; omega
 have em : mo = no := by omega
 subst em;have HX : Q (mo = X.length ∧ mo = zX.length ∧ X.map zw = zX.map zw ∧ zfg w oa X ∧ zfg w ob zX ∧ ∀ x ∈ X, x.2.1.2.length ≤ 9223372036854775807 ∧ x.2.2.2.2.length ≤ 9223372036854775807) := ⟨a4, b4, by rw [a5, b5], a6, b6, hXm⟩;clear hYZ lY lZ lX lU hYm hXm a1 a2 a3 a4 a5 a6 b1 b2 b3 b4 b5 b6 hs;generalize mo = no at *;have hB := zax w (T #[G la nl lc, E J bt, E J nx, G oa no oc] 29) (T #[G lb ml ld, E J bt, E J nx, G ob no od] 29);have hx : Blk ((w.alloc (T #[G la nl lc, E J bt, E J nx, G oa no oc] 29)).alloc (T #[G lb ml ld, E J bt, E J nx, G ob no od] 29)) w.heap.size #[G la nl lc, E J bt, E J nx, G oa no oc] 29 := (Blk.new _ _ _).alloc _;have hy : Blk ((w.alloc (T #[G la nl lc, E J bt, E J nx, G oa no oc] 29)).alloc (T #[G lb ml ld, E J bt, E J nx, G ob no od] 29)) (w.heap.size + 1) #[G lb ml ld, E J bt, E J nx, G ob no od] 29 := zao _ _ _;go_enter Tryz.func11, Tryz.ntmps11
 go_wp2_with fail
 generalize (w.alloc (T #[G la nl lc, E J bt, E J nx, G oa no oc] 29)).alloc (T #[G lb ml ld, E J bt, E J nx, G ob no od] 29) = V at *;have HV := zA hB;have x1 := hx.cell 1;have x2 := hx.cell 2;have x3 := hx.cell 3;have y1 := hy.cell 1;have y2 := hy.cell 2;have y3 := hy.cell 3;simp at x1 x2 x3 y1 y2 y3
 have hVx := hx.lt;have hVy := hy.lt;have hVs := hB.size;refine (HL.out _ HV.out).mono ?_;rintro e w1 ⟨rfl, m1, rfl⟩;have HW : Q (Z w.heap.size w (V.drewN m1)) := below_drewN HV.out _;have hy' : Blk (V.drewN m1) (w.heap.size + 1) #[G lb ml ld, E J bt, E J nx, G ob no od] 29 := hy;have HY := zA hy';clear hx hy hy' hB HV HL;go_wp2;have hVy' : w.heap.size + 1 < (V.drewN m1).heap.size := hVy;clear x1 x2 x3 y1 y2 y3 hVx hVy hVs;generalize V.drewN m1 = V at *;go_loopw [40] (fun i w' => ∃ k : Nat, k ≤ no ∧ i = E J k ∧ Z V.heap.size V w') (fun i _ => no - (intOf i).toNat)
 case atStart => exact ⟨0, Nat.zero_le _, rfl, Below.refl _ _⟩
 case round =>
  obtain ⟨k, hk, rfl, hbw⟩ := hrel;have hsz := hbw.size;by_cases hlt : k < no
  · have hk1 : k < X.length := by have := HX.out.1; omega
   have hk2 : k < zX.length := by have := HX.out.2.1; omega
   have hbW := HW.out.trans (hbw.mono HW.out.size);obtain ⟨b1, o1, rfl, hb1, p0, p1, p2, p3, hq1⟩ := (HX.out.2.2.2.1.below hbW).get hk1;obtain ⟨b2, o2, rfl, hb2, q0, q1, q2, q3, hq2⟩ := (HX.out.2.2.2.2.1.below hbW).get hk2;have hx := zi7 HX.out.2.2.1 hk1 hk2;have hm := HX.out.2.2.2.2.2 _ (List.getElem_mem hk1);have hyy := HY.out.below hbw hVy';have y3 := hyy.cell 3;simp at y3
   have hyl := hyy.lt;generalize X[k] = x1 at *;generalize zX[k] = x2 at *;obtain ⟨dd, ⟨⟨pa, pc⟩, l⟩, dec, ⟨ha, hc⟩, hs⟩ := x1;obtain ⟨dd2, ⟨⟨pa2, pc2⟩, l2⟩, dec2, ⟨ha2, hc2⟩, hs2⟩ := x2;simp only [zw, Prod.mk.injEq] at hx
   obtain ⟨rfl, rfl, rfl, rfl⟩ := hx;simp only [XOAt] at p0 p1 p2 p3 q0 q1 q2 q3 hq1 hq2 hm
   have HP : Q (∀ W, Z wr.heap.size wr W → Calls Tryz.prog 42 #[G pa l.length pc, G pa2 l.length pc2] W fun e w' => e = .returned (.bool true) ∧ ∃ m, w' = W.drewN m) := fun W hW => zjv pa pa2 l pc pc2 _ _ W rfl rfl hm.1 (hq1.1.below hW) (hq2.1.below hW)
   have HI : Q (∀ W, Z wr.heap.size wr W → Calls Tryz.prog 43 #[G ha hs.length hc, G ha2 hs.length hc2] W fun e w' => e = .returned (.bool true) ∧ ∃ m, w' = W.drewN m) := fun W hW => znj ha ha2 hs hc hc2 _ _ W rfl rfl hm.2 (hq1.2.below hW) (hq2.2.below hW)
   clear hyy hq1 hq2 hm hbW;generalize l.length = nl1 at *;generalize hs.length = nh at *;have y3' : (wr.alloc (T #[E J dd, G pa nl1 pc, .bool dec, G ha nh hc] 58)).cell? ⟨w.heap.size + 1, 3, U⟩ = some (G (some ⟨b2, o2, U⟩) no od) := by rw [Below.cell (zh wr _) hyl]; exact y3
   have hx2 := zax wr (T #[E J dd, G pa nl1 pc, .bool dec, G ha nh hc] 58) (T #[E J dd, G pa2 nl1 pc2, .bool dec, G ha2 nh hc2] 58);have tA : Blk ((wr.alloc (T #[E J dd, G pa nl1 pc, .bool dec, G ha nh hc] 58)).alloc (T #[E J dd, G pa2 nl1 pc2, .bool dec, G ha2 nh hc2] 58)) wr.heap.size #[E J dd, G pa nl1 pc, .bool dec, G ha nh hc] 58 := (Blk.new _ _ _).alloc _;have tB : Blk ((wr.alloc (T #[E J dd, G pa nl1 pc, .bool dec, G ha nh hc] 58)).alloc (T #[E J dd, G pa2 nl1 pc2, .bool dec, G ha2 nh hc2] 58)) (wr.heap.size + 1) #[E J dd, G pa2 nl1 pc2, .bool dec, G ha2 nh hc2] 58 := zao _ _ _;clear y3;go_wp2_with fail
   generalize (wr.alloc (T #[E J dd, G pa nl1 pc, .bool dec, G ha nh hc] 58)).alloc (T #[E J dd, G pa2 nl1 pc2, .bool dec, G ha2 nh hc2] 58) = zV at *;have t3 := tA.cell 3;have t4 := tB.cell 3;simp at t3 t4
   have hTs := hx2.size;refine (HP.out _ hx2).mono ?_;rintro e w2 ⟨rfl, m2, rfl⟩;have HT2 : Q (Z wr.heap.size wr (zV.drewN m2)) := below_drewN hx2 _;clear tA tB hx2 p0 p1 p2 p3 q0 q1 q2 q3 y3';go_wp2_with fail
   refine (HI.out _ HT2.out).mono ?_;rintro e w3 ⟨rfl, m3, rfl⟩;have HT3 : Q (Z V.heap.size V (zV.drewN (m2 + m3))) := by have := hbw.trans ((below_drewN HT2.out m3).mono hsz); rw [World.drewN_drewN] at this; exact this
   go_wp2;go_roundw
   case rel => exact ⟨k + 1, by omega, by go_num, HT3.out⟩
   case measure => simp [intOf]; omega
  · go_wp2
   go_ret;exact ⟨rfl, HW.out.trans (hbw.mono HW.out.size)⟩
end Go.Proofs.YtpcnlifmkhagkaaGreat
