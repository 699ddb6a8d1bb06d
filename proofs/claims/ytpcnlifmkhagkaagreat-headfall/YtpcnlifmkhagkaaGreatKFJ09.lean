import Derived.Test.YtpcnlifmkhagkaaGreatKFJ08
set_option maxRecDepth 20000
set_option maxHeartbeats 20000000
namespace Go.Proofs.YtpcnlifmkhagkaaGreat
open Go.RowKit
open Go.Value renaming slice → G, int → E
open Go.IntKind renaming i64 → J
open _root_.Option renaming none → U
open Go.Obj renaming cells → T
open Go.RowKit renaming Hid → Q, Below → Z
attribute [local go_sem ↓] Go.wp_at_zero Go.wp_at_succ
theorem zfr : (Tryz.prog.info? 25).map (fun i => (i.zero, i.size, i.bytes)) = some (some (.agg #[E J 0, E J 0, E J 0, G U 0 0]), 4, 48) := by kernel_rfl
def zfz (w : World) (v : Value) (L : List R3) (h : H3) : Prop :=
 ∃ (la : Option Addr) (nl lc : Nat) (Y : List XL) (ra : Option Addr) (nr rc : Nat) (XR : List XD) (da : Option Addr) (nd dc : Nat),
  v = .agg #[G la nl lc, E J h.1.1, E J h.1.2.1, E J h.1.2.2.1, E J h.1.2.2.2, G ra nr rc, G da nd dc] ∧
  (nl = L.length ∧ Y.map zf = L ∧ zb7 w la Y) ∧ (nr = XR.length ∧ XR.map zaz = h.2.1 ∧ zdn w ra XR) ∧ (nd = h.2.2.length ∧ zk 1 zq w da h.2.2)
theorem ze1.u {w : World} {v : Value} {L : List R3} {h : H3} (hh : ze1 w v L h) : zfz w v L h := by
 obtain ⟨la, nl, lc, Y, ra, nr, rc, XR, da, nd, dc, hv, h1, h2, h3, -, -, h4⟩ := hh;exact ⟨la, nl, lc, Y, ra, nr, rc, XR, da, nd, dc, hv, h1, h2, h3, h4⟩
theorem zck.u {base : Nat} {w : World} {v : Value} {L : List R3} {h : H3} (hh : zck base w v L h) : zfz w v L h := hh.at.u
theorem zfz.below {w w' : World} {v : Value} {L : List R3} {h : H3} (hh : zfz w v L h) (hb : Z w.heap.size w w') : zfz w' v L h := by
 obtain ⟨la, nl, lc, Y, ra, nr, rc, XR, da, nd, dc, hv, ⟨h1, h2, h3⟩, ⟨h4, h5, h6⟩, h7, h10⟩ := hh;exact ⟨la, nl, lc, Y, ra, nr, rc, XR, da, nd, dc, hv, ⟨h1, h2, h3.below hb⟩, ⟨h4, h5, h6.below hb⟩, h7, h10.below hb⟩
theorem zbh.u {R : Nat → Prop} {w : World} {v : Value} {L : List R3} {h : H3} (H : zbh R w v L h) : zfz w v L h := by
 obtain ⟨la, nl, lc, Y, ra, nr, rc, XR, da, nd, dc, hv, F⟩ := H;exact ⟨la, nl, lc, Y, ra, nr, rc, XR, da, nd, dc, hv, ⟨by rw [F.ln, ← F.says, List.length_map], F.says, F.log, fun y hy => (F.parts y hy).1⟩, ⟨F.rn, F.rsays, F.rdy, fun x hx => (F.rparts x hx).1⟩, F.dn, F.done⟩
theorem zhq (a : Option Addr) (n : Nat) : Out (fun _ => False) a n := Or.inr (fun _ _ h => h)
theorem zfz.v {w : World} {v : Value} {L : List R3} {h : H3} (H : zfz w v L h) : zbh (fun _ => False) w v L h := by
 obtain ⟨la, nl, lc, Y, ra, nr, rc, XR, da, nd, dc, hv, ⟨h1, h2, h3⟩, ⟨h4, h5, h6⟩, h7, h8⟩ := H;exact ⟨la, nl, lc, Y, ra, nr, rc, XR, da, nd, dc, hv, ⟨by rw [h1, ← h2, List.length_map], h3.1, zhq _ _, h2, fun y hy => ⟨h3.2 y hy, zhq _ _⟩, h4, h6.1, zhq _ _, h5, fun x hx => ⟨h6.2 x hx, zhq _ _⟩, h7, h8, zhq _ _⟩⟩
theorem zck.v {base : Nat} {w : World} {v : Value} {L : List R3} {h : H3} (H : zck base w v L h) {R : Nat → Prop} (hR : ∀ b, R b → b < base) : zbh R w v L h := by
 obtain ⟨la, nl, lc, Y, ra, nr, rc, XR, da, nd, dc, hv, ⟨h1, h2⟩, ⟨h3, h4, h5⟩, h6⟩ := H;have k1 := h2.1.at za7;have k2 := h4.at zd1;have k3 := h6.at zal
 have hp : ∀ (a : Option Addr) (l : List P3), zam base w a l → zaf R w a l := fun a l h => by
  refine ⟨h.at, ?_⟩;rcases h with rfl | ⟨b, o, cs, rfl, hb, -, -⟩
  ·exact Or.inl rfl
  ·refine Or.inr (fun ad had hr => ?_)
   cases had;have h' : b < base := hR _ hr;omega
 exact ⟨la, nl, lc, Y, ra, nr, rc, XR, da, nd, dc, hv, ⟨k1.2.1, k1.1, h2.1.outR hR _, h1, fun y hy => hp _ _ (h2.2 y hy), k2.2.1, k2.1, h4.outR hR _, h3, fun x hx => hp _ _ (h5 x hx), k3.2.1, k3.1, h6.outR hR _⟩⟩
theorem zk.getI {w : World} {a : Option Addr} {l : List Int} (h : zk 1 zq w a l) {k : Nat} (hk : k < l.length) : ∃ b o, a = some ⟨b, o, U⟩ ∧ b < w.heap.size ∧ w.cell? ⟨b, o + k, U⟩ = some (E J l[k]) := by
 rcases h with rfl | ⟨b, o, rfl, hlt, hc⟩
 ·simp at hk
 ·have := hc k hk 0 _ rfl
  rw [Nat.mul_one, Nat.add_zero] at this;exact ⟨b, o, rfl, hlt, this⟩
theorem zgf (w : World) (n : Nat) : Z w.heap.size w (w.drewN n) := below_drewN (Below.refl _ _) n
theorem znc (a1 a2 : Option Addr) (l : List Int) (c1 c2 n1 n2 : Nat) (w : World) (hn1 : n1 = l.length) (hn2 : n2 = l.length) (hl : l.length ≤ 9223372036854775807) (hp1 : zk 1 zq w a1 l) (hp2 : zk 1 zq w a2 l) :
  Calls Tryz.prog 43 #[G a1 n1 c1, G a2 n2 c2] w fun e w' => e = .returned (.bool true) ∧ ∃ m, w' = w.drewN m := by
 subst hn2;subst hn1;have HP := zB hp1 hp2;clear hp1 hp2;generalize hll : l.length = n at *;have HL := zA hll;clear hll;go_enter Tryz.func43, Tryz.ntmps43
 go_wp2;go_loopw [13] (fun i w' => ∃ k m : Nat, k ≤ n ∧ i = E J k ∧ w' = w.drewN m) (fun i _ => n - (intOf i).toNat)
 case atStart => exact ⟨0, 0, Nat.zero_le _, rfl, rfl⟩
 case round =>
  obtain ⟨k, m, hk, rfl, rfl⟩ := hrel;by_cases hlt : k < n
  ·have hkl : k < l.length := by rw [HL.out]; exact hlt
   obtain ⟨b1, o1, rfl, hb1, d1⟩ := HP.out.1.getI hkl;obtain ⟨b2, o2, rfl, hb2, d2⟩ := HP.out.2.getI hkl;generalize l[k] = x at *;go_wp2;go_quiet (fail)
   go_wp2;go_roundw
   case rel => exact ⟨k + 1, _, by omega, by go_num, rfl⟩
   case measure => simp [intOf]; omega
  ·go_wp2
   go_ret;exact ⟨rfl, m, rfl⟩
theorem zai.get {w : World} {a : Option Addr} {l : List P3} (h : zai w a l) {k : Nat} (hk : k < l.length) : ∃ b o, a = some ⟨b, o, U⟩ ∧ b < w.heap.size ∧ w.cell? ⟨b, o + k * 3, U⟩ = some (E J l[k].1) ∧ w.cell? ⟨b, o + k * 3 + 1, U⟩ = some (E J l[k].2.1) ∧ w.cell? ⟨b, o + k * 3 + 2, U⟩ = some (E J l[k].2.2) := by
 rcases h with rfl | ⟨b, o, rfl, hlt, hc⟩
 ·simp at hk
 ·exact ⟨b, o, rfl, hlt, hc k hk⟩
theorem zj9 (a1 a2 : Option Addr) (l : List P3) (c1 c2 n1 n2 : Nat) (w : World) (hn1 : n1 = l.length) (hn2 : n2 = l.length) (hl : l.length ≤ 9223372036854775807) (hp1 : zai w a1 l) (hp2 : zai w a2 l) :
  Calls Tryz.prog 42 #[G a1 n1 c1, G a2 n2 c2] w fun e w' => e = .returned (.bool true) ∧ ∃ m, w' = w.drewN m := by
 subst hn2;subst hn1;have HP := zB hp1 hp2;clear hp1 hp2;generalize hll : l.length = n at *;have HL := zA hll;clear hll;go_enter Tryz.func42, Tryz.ntmps42
 go_wp2;go_loopw [13] (fun i w' => ∃ k m : Nat, k ≤ n ∧ i = E J k ∧ w' = w.drewN m) (fun i _ => n - (intOf i).toNat)
 case atStart => exact ⟨0, 0, Nat.zero_le _, rfl, rfl⟩
 case round =>
  obtain ⟨k, m, hk, rfl, rfl⟩ := hrel;by_cases hlt : k < n
  ·have hkl : k < l.length := by rw [HL.out]; exact hlt
   obtain ⟨b1, o1, rfl, hb1, d1, d2, d3⟩ := HP.out.1.get hkl;obtain ⟨b2, o2, rfl, hb2, e1, e2, e3⟩ := HP.out.2.get hkl;generalize l[k] = x at *;obtain ⟨x0, x1, x2⟩ := x;simp only at d1 d2 d3 e1 e2 e3
   go_wp2;go_quiet (fail)
   go_wp2;go_roundw
   case rel => exact ⟨k + 1, _, by omega, by go_num, rfl⟩
   case measure => simp [intOf]; omega
  ·go_wp2
   go_ret;exact ⟨rfl, m, rfl⟩
theorem zi1 {α β : Type} {f : α → β} {X Y : List α} (h : X.map f = Y.map f) {k : Nat} (h1 : k < X.length) (h2 : k < Y.length) : f X[k] = f Y[k] := by
 have e : (X.map f)[k]? = (Y.map f)[k]? := by rw [h]
 rw [List.getElem?_map, List.getElem?_map, List.getElem?_eq_getElem h1, List.getElem?_eq_getElem h2] at e
 simpa using e
theorem sameLog_q (a1 a2 : Option Addr) (X1 X2 : List XL) (c1 c2 n1 n2 : Nat) (w : World) (hn1 : n1 = X1.length) (hn2 : n2 = X2.length) (he : X1.map zf = X2.map zf) (hl : X1.length ≤ 9223372036854775807) (hok : ∀ x ∈ X1, x.2.2.2.length ≤ 9223372036854775807) (hp1 : zb7 w a1 X1) (hp2 : zb7 w a2 X2) :
  Calls Tryz.prog 41 #[G a1 n1 c1, G a2 n2 c2] w fun e w' => e = .returned (.bool true) ∧ ∃ m, w' = w.drewN m := by
 have jw : X1.length = X2.length := by have := congrArg List.length he; simpa using this
 have e2 : n2 = n1 := by omega
 subst e2;have HP := zF hp1 hp2 he hn1 hn2 hok;have hnl : n2 ≤ 9223372036854775807 := by omega
 clear hp1 hp2 he hn1 hn2 hok jw hl;generalize n2 = n at *;go_enter Tryz.func41, Tryz.ntmps41
 go_wp2;go_loopw [13] (fun i w' => ∃ k m : Nat, k ≤ n ∧ i = E J k ∧ Q (w' = w.drewN m)) (fun i _ => n - (intOf i).toNat)
 case atStart => exact ⟨0, 0, Nat.zero_le _, rfl, rfl⟩
 case round =>
  obtain ⟨k, m, hk, rfl, hwr⟩ := hrel;have hbw : Z w.heap.size w wr := by rw [hwr.out]; exact zgf w m
  by_cases hlt : k < n
  ·have hk1 : k < X1.length := by have := HP.out.2.2.2.1; omega
   have hk2 : k < X2.length := by have := HP.out.2.2.2.2.1; omega
   obtain ⟨b1, o1, rfl, hb1, p0, p1, p2, hq1⟩ := (HP.out.1.below hbw).get hk1;obtain ⟨b2, o2, rfl, hb2, q0, q1, q2, hq2⟩ := (HP.out.2.1.below hbw).get hk2;have hx := zi1 HP.out.2.2.1 hk1 hk2;have hm := HP.out.2.2.2.2.2 _ (List.getElem_mem hk1);generalize X1[k] = x1 at *;generalize X2[k] = x2 at *;obtain ⟨kd, dd, ⟨ax, cx⟩, l⟩ := x1;obtain ⟨kd2, dd2, ⟨ay, cy⟩, l2⟩ := x2;simp only [zf, Prod.mk.injEq] at hx
   obtain ⟨rfl, rfl, rfl⟩ := hx;simp only at p0 p1 p2 q0 q1 q2 hq1 hq2 hm
   have HQ : Q (∀ W : World, Z wr.heap.size wr W → zai W ax l ∧ zai W ay l) := fun W hW => ⟨hq1.below hW, hq2.below hW⟩
   have HM := zA hm;clear hq1 hq2 hm;generalize hll : l.length = nl at *;have HLL := zA hll;clear hll;go_wp2;go_quiet ((go_at_call 42; exact Calls.quiet_of (zj9 ax ay l cx cy nl nl _ HLL.out.symm HLL.out.symm (by have := HM.out; have := HLL.out; omega) (HQ.out _ (zgf _ _)).1 (HQ.out _ (zgf _ _)).2)))
   go_wp2;go_roundw
   case rel => exact ⟨k + 1, m + nq, by omega, by go_num, by rw [hwr.out, World.drewN_drewN]; rfl⟩
   case measure => simp [intOf]; omega
  ·go_wp2
   go_ret;exact ⟨rfl, m, hwr.out⟩
theorem zoe (a1 a2 : Option Addr) (X1 X2 : List XD) (c1 c2 n1 n2 : Nat) (w : World) (hn1 : n1 = X1.length) (hn2 : n2 = X2.length) (he : X1.map zaz = X2.map zaz) (hl : X1.length ≤ 9223372036854775807) (hok : ∀ x ∈ X1, x.2.2.length ≤ 9223372036854775807) (hp1 : zdn w a1 X1) (hp2 : zdn w a2 X2) :
  Calls Tryz.prog 27 #[G a1 n1 c1, G a2 n2 c2] w fun e w' => e = .returned (.bool true) ∧ ∃ m, w' = w.drewN m := by
 have jw : X1.length = X2.length := by have := congrArg List.length he; simpa using this
 have e2 : n2 = n1 := by omega
 subst e2;have HP := zF hp1 hp2 he hn1 hn2 hok;have hnl : n2 ≤ 9223372036854775807 := by omega
 clear hp1 hp2 he hn1 hn2 hok jw hl;generalize n2 = n at *;go_enter Tryz.func27, Tryz.ntmps27
 go_wp2;go_loopw [13] (fun i w' => ∃ k m : Nat, k ≤ n ∧ i = E J k ∧ Q (w' = w.drewN m)) (fun i _ => n - (intOf i).toNat)
 case atStart => exact ⟨0, 0, Nat.zero_le _, rfl, rfl⟩
 case round =>
  obtain ⟨k, m, hk, rfl, hwr⟩ := hrel;have hbw : Z w.heap.size w wr := by rw [hwr.out]; exact zgf w m
  by_cases hlt : k < n
  ·have hk1 : k < X1.length := by have := HP.out.2.2.2.1; omega
   have hk2 : k < X2.length := by have := HP.out.2.2.2.2.1; omega
   obtain ⟨b1, o1, rfl, hb1, p0, p1, hq1⟩ := (HP.out.1.below hbw).get hk1;obtain ⟨b2, o2, rfl, hb2, q0, q1, hq2⟩ := (HP.out.2.1.below hbw).get hk2;have hx := zi1 HP.out.2.2.1 hk1 hk2;have hm := HP.out.2.2.2.2.2 _ (List.getElem_mem hk1);generalize X1[k] = x1 at *;generalize X2[k] = x2 at *;obtain ⟨dd, ⟨ax, cx⟩, l⟩ := x1;obtain ⟨dd2, ⟨ay, cy⟩, l2⟩ := x2;simp only [zaz, Prod.mk.injEq] at hx
   obtain ⟨rfl, rfl⟩ := hx;simp only at p0 p1 q0 q1 hq1 hq2 hm
   have HQ : Q (∀ W : World, Z wr.heap.size wr W → zai W ax l ∧ zai W ay l) := fun W hW => ⟨hq1.below hW, hq2.below hW⟩
   have HM := zA hm;clear hq1 hq2 hm;generalize hll : l.length = nl at *;have HLL := zA hll;clear hll;go_wp2;go_quiet ((go_at_call 42; exact Calls.quiet_of (zj9 ax ay l cx cy nl nl _ HLL.out.symm HLL.out.symm (by have := HM.out; have := HLL.out; omega) (HQ.out _ (zgf _ _)).1 (HQ.out _ (zgf _ _)).2)))
   go_wp2;go_roundw
   case rel => exact ⟨k + 1, m + nq, by omega, by go_num, by rw [hwr.out, World.drewN_drewN]; rfl⟩
   case measure => simp [intOf]; omega
  ·go_wp2
   go_ret;exact ⟨rfl, m, hwr.out⟩
abbrev XO := Int × (Hd × List P3) × Bool × (Hd × List Int)
def zan (x : XO) : List Value := [E J x.1, G x.2.1.1.1 x.2.1.2.length x.2.1.1.2, .bool x.2.2.1, G x.2.2.2.1.1 x.2.2.2.2.length x.2.2.2.1.2]
theorem zas (x : XO) : (zan x).length = 4 := rfl
theorem oneQ (x : XO) : ∀ u ∈ zan x, u.oneCell' = true := by intro u hu; simp [zan] at hu; rcases hu with rfl | rfl | rfl | rfl <;> rfl
def zw (x : XO) : O4 := (x.1, x.2.1.2, x.2.2.1, x.2.2.2.2)
def XOAt (w : World) (x : XO) : Prop := zai w x.2.1.1.1 x.2.1.2 ∧ zk 1 zq w x.2.2.2.1.1 x.2.2.2.2
theorem XOAt.below {w w' : World} {x : XO} (h : XOAt w x) (hb : Z w.heap.size w w') : XOAt w' x := ⟨h.1.below hb, h.2.below hb⟩
def zfo (w : World) (a : Option Addr) (X : List XO) : Prop := zk 4 zan w a X ∧ ∀ x ∈ X, XOAt w x
theorem zfo.below {w w' : World} {a : Option Addr} {X : List XO} (h : zfo w a X) (hb : Z w.heap.size w w') : zfo w' a X := ⟨h.1.below hb, fun x hx => (h.2 x hx).below hb⟩
theorem zfo.get {w : World} {a : Option Addr} {X : List XO} (h : zfo w a X) {k : Nat} (hk : k < X.length) : ∃ b o, a = some ⟨b, o, U⟩ ∧ b < w.heap.size ∧ w.cell? ⟨b, o + k * 4, U⟩ = some (E J X[k].1) ∧
  w.cell? ⟨b, o + k * 4 + 1, U⟩ = some (.slice X[k].2.1.1.1 X[k].2.1.2.length X[k].2.1.1.2) ∧ w.cell? ⟨b, o + k * 4 + 2, U⟩ = some (.bool X[k].2.2.1) ∧ w.cell? ⟨b, o + k * 4 + 3, U⟩ = some (.slice X[k].2.2.2.1.1 X[k].2.2.2.2.length X[k].2.2.2.1.2) ∧ XOAt w X[k] := by
 rcases h.1 with rfl | ⟨b, o, rfl, hlt, hc⟩
 ·simp at hk
 ·exact ⟨b, o, rfl, hlt, hc k hk 0 _ rfl, hc k hk 1 _ rfl, hc k hk 2 _ rfl, hc k hk 3 _ rfl, h.2 _ (List.getElem_mem hk)⟩
def zgv (w : World) (v : Value) (L : List R3) (boot next : Int) (O : List O4) : Prop :=
 ∃ (la : Option Addr) (nl lc : Nat) (Y : List XL) (oa : Option Addr) (no oc : Nat) (X : List XO),
  v = .agg #[G la nl lc, E J boot, E J next, G oa no oc] ∧ (nl = L.length ∧ Y.map zf = L ∧ zb7 w la Y) ∧ (no = X.length ∧ X.map zw = O ∧ zfo w oa X)
theorem zgv.below {w w' : World} {v : Value} {L : List R3} {b n : Int} {O : List O4} (hh : zgv w v L b n O) (hb : Z w.heap.size w w') : zgv w' v L b n O := by
 obtain ⟨la, nl, lc, Y, oa, no, oc, X, hv, ⟨h1, h2, h3⟩, h4, h5, h6⟩ := hh;exact ⟨la, nl, lc, Y, oa, no, oc, X, hv, ⟨h1, h2, h3.below hb⟩, h4, h5, h6.below hb⟩
def SizeG (L : List R3) (O : List O4) : Prop :=
 (L.length ≤ 9223372036854775807 ∧ ∀ jj ∈ L, jj.2.2.length ≤ 9223372036854775807) ∧ (O.length ≤ 9223372036854775807 ∧ ∀ x ∈ O, x.2.1.length ≤ 9223372036854775807 ∧ x.2.2.2.length ≤ 9223372036854775807)
theorem zqo (v1 v2 : Value) (L : List R3) (bt nx : Int) (O : List O4) (w : World) (h1 : zgv w v1 L bt nx O) (h2 : zgv w v2 L bt nx O) (hs : SizeG L O) :
  Calls Tryz.prog 11 #[v1, v2] w fun e w' => e = .returned (.bool true) ∧ Z w.heap.size w w' := by
 obtain ⟨la, nl, lc, Y, oa, no, oc, X, rfl, ⟨a1, a2, a3⟩, a4, a5, a6⟩ := h1;obtain ⟨lb, ml, ld, jz, ob, mo, od, zX, rfl, ⟨b1, b2, b3⟩, b4, b5, b6⟩ := h2;have hYZ : Y.map zf = jz.map zf := by rw [a2, b2]
 have lY : Y.length = L.length := by rw [← a2, List.length_map]
 have lZ : jz.length = L.length := by rw [← b2, List.length_map]
 have lX : X.length = O.length := by rw [← a5, List.length_map]
 have lU : zX.length = O.length := by rw [← b5, List.length_map]
 have hYm : ∀ x ∈ Y, x.2.2.2.length ≤ 9223372036854775807 := fun x hx => hs.1.2 (zf x) (by rw [← a2]; exact List.mem_map_of_mem hx)
 have hXm : ∀ x ∈ X, x.2.1.2.length ≤ 9223372036854775807 ∧ x.2.2.2.2.length ≤ 9223372036854775807 := fun x hx => hs.2.2 (zw x) (by rw [← a5]; exact List.mem_map_of_mem hx)
 have HL : Q (∀ W, Z w.heap.size w W → Calls Tryz.prog 41 #[G la nl lc, G lb ml ld] W fun e w' => e = .returned (.bool true) ∧ ∃ m, w' = W.drewN m) := fun W hW => sameLog_q la lb Y jz lc ld nl ml W (by omega) (by omega) hYZ (by have := hs.1.1; omega) hYm (a3.below hW) (b3.below hW)
 have hno : no ≤ 9223372036854775807 := by have := hs.2.1; omega
 have em : mo = no := by omega
 subst em;have HX : Q (mo = X.length ∧ mo = zX.length ∧ X.map zw = zX.map zw ∧ zfo w oa X ∧ zfo w ob zX ∧ ∀ x ∈ X, x.2.1.2.length ≤ 9223372036854775807 ∧ x.2.2.2.2.length ≤ 9223372036854775807) := ⟨a4, b4, by rw [a5, b5], a6, b6, hXm⟩;clear hYZ lY lZ lX lU hYm hXm a1 a2 a3 a4 a5 a6 b1 b2 b3 b4 b5 b6 hs;generalize mo = no at *;have hB := za4 w (T #[G la nl lc, E J bt, E J nx, G oa no oc] 29) (T #[G lb ml ld, E J bt, E J nx, G ob no od] 29);have hx : Blk ((w.alloc (T #[G la nl lc, E J bt, E J nx, G oa no oc] 29)).alloc (T #[G lb ml ld, E J bt, E J nx, G ob no od] 29)) w.heap.size #[G la nl lc, E J bt, E J nx, G oa no oc] 29 := (Blk.new _ _ _).alloc _;have hy : Blk ((w.alloc (T #[G la nl lc, E J bt, E J nx, G oa no oc] 29)).alloc (T #[G lb ml ld, E J bt, E J nx, G ob no od] 29)) (w.heap.size + 1) #[G lb ml ld, E J bt, E J nx, G ob no od] 29 := zap _ _ _;go_enter Tryz.func11, Tryz.ntmps11
 go_wp2_with fail
 generalize (w.alloc (T #[G la nl lc, E J bt, E J nx, G oa no oc] 29)).alloc (T #[G lb ml ld, E J bt, E J nx, G ob no od] 29) = V at *;have HV := zA hB;have x1 := hx.cell 1;have x2 := hx.cell 2;have x3 := hx.cell 3;have y1 := hy.cell 1;have y2 := hy.cell 2;have y3 := hy.cell 3;simp at x1 x2 x3 y1 y2 y3
 have hVx := hx.lt;have hVy := hy.lt;have hVs := hB.size;refine (HL.out _ HV.out).mono ?_;rintro e w1 ⟨rfl, m1, rfl⟩;have HW : Q (Z w.heap.size w (V.drewN m1)) := below_drewN HV.out _;have hy' : Blk (V.drewN m1) (w.heap.size + 1) #[G lb ml ld, E J bt, E J nx, G ob no od] 29 := hy;have HY := zA hy';clear hx hy hy' hB HV HL;go_wp2;have hVy' : w.heap.size + 1 < (V.drewN m1).heap.size := hVy;clear x1 x2 x3 y1 y2 y3 hVx hVy hVs;generalize V.drewN m1 = V at *;go_loopw [40] (fun i w' => ∃ k : Nat, k ≤ no ∧ i = E J k ∧ Z V.heap.size V w') (fun i _ => no - (intOf i).toNat)
 case atStart => exact ⟨0, Nat.zero_le _, rfl, Below.refl _ _⟩
 case round =>
  obtain ⟨k, hk, rfl, hbw⟩ := hrel;have hsz := hbw.size;by_cases hlt : k < no
  ·have hk1 : k < X.length := by have := HX.out.1; omega
   have hk2 : k < zX.length := by have := HX.out.2.1; omega
   have hbW := HW.out.trans (hbw.mono HW.out.size);obtain ⟨b1, o1, rfl, hb1, p0, p1, p2, p3, hq1⟩ := (HX.out.2.2.2.1.below hbW).get hk1;obtain ⟨b2, o2, rfl, hb2, q0, q1, q2, q3, hq2⟩ := (HX.out.2.2.2.2.1.below hbW).get hk2;have hx := zi1 HX.out.2.2.1 hk1 hk2;have hm := HX.out.2.2.2.2.2 _ (List.getElem_mem hk1);have hyy := HY.out.below hbw hVy';have y3 := hyy.cell 3;simp at y3
   have hyl := hyy.lt;generalize X[k] = x1 at *;generalize zX[k] = x2 at *;obtain ⟨dd, ⟨⟨pa, pc⟩, l⟩, dec, ⟨ha, hc⟩, hs⟩ := x1;obtain ⟨dd2, ⟨⟨pa2, pc2⟩, l2⟩, dec2, ⟨ha2, hc2⟩, hs2⟩ := x2;simp only [zw, Prod.mk.injEq] at hx
   obtain ⟨rfl, rfl, rfl, rfl⟩ := hx;simp only [XOAt] at p0 p1 p2 p3 q0 q1 q2 q3 hq1 hq2 hm
   have HP : Q (∀ W, Z wr.heap.size wr W → Calls Tryz.prog 42 #[G pa l.length pc, G pa2 l.length pc2] W fun e w' => e = .returned (.bool true) ∧ ∃ m, w' = W.drewN m) := fun W hW => zj9 pa pa2 l pc pc2 _ _ W rfl rfl hm.1 (hq1.1.below hW) (hq2.1.below hW)
   have HI : Q (∀ W, Z wr.heap.size wr W → Calls Tryz.prog 43 #[G ha hs.length hc, G ha2 hs.length hc2] W fun e w' => e = .returned (.bool true) ∧ ∃ m, w' = W.drewN m) := fun W hW => znc ha ha2 hs hc hc2 _ _ W rfl rfl hm.2 (hq1.2.below hW) (hq2.2.below hW)
   clear hyy hq1 hq2 hm hbW;generalize l.length = nl1 at *;generalize hs.length = nh at *;have y3' : (wr.alloc (T #[E J dd, G pa nl1 pc, .bool dec, G ha nh hc] 58)).cell? ⟨w.heap.size + 1, 3, U⟩ = some (G (some ⟨b2, o2, U⟩) no od) := by rw [Below.cell (zg wr _) hyl]; exact y3
   have hx2 := za4 wr (T #[E J dd, G pa nl1 pc, .bool dec, G ha nh hc] 58) (T #[E J dd, G pa2 nl1 pc2, .bool dec, G ha2 nh hc2] 58);have tA : Blk ((wr.alloc (T #[E J dd, G pa nl1 pc, .bool dec, G ha nh hc] 58)).alloc (T #[E J dd, G pa2 nl1 pc2, .bool dec, G ha2 nh hc2] 58)) wr.heap.size #[E J dd, G pa nl1 pc, .bool dec, G ha nh hc] 58 := (Blk.new _ _ _).alloc _;have tB : Blk ((wr.alloc (T #[E J dd, G pa nl1 pc, .bool dec, G ha nh hc] 58)).alloc (T #[E J dd, G pa2 nl1 pc2, .bool dec, G ha2 nh hc2] 58)) (wr.heap.size + 1) #[E J dd, G pa2 nl1 pc2, .bool dec, G ha2 nh hc2] 58 := zap _ _ _;clear y3;go_wp2_with fail
   generalize (wr.alloc (T #[E J dd, G pa nl1 pc, .bool dec, G ha nh hc] 58)).alloc (T #[E J dd, G pa2 nl1 pc2, .bool dec, G ha2 nh hc2] 58) = zV at *;have t3 := tA.cell 3;have t4 := tB.cell 3;simp at t3 t4
   have hTs := hx2.size;refine (HP.out _ hx2).mono ?_;rintro e w2 ⟨rfl, m2, rfl⟩;have HT2 : Q (Z wr.heap.size wr (zV.drewN m2)) := below_drewN hx2 _;clear tA tB hx2 p0 p1 p2 p3 q0 q1 q2 q3 y3';go_wp2_with fail
   refine (HI.out _ HT2.out).mono ?_;rintro e w3 ⟨rfl, m3, rfl⟩;have HT3 : Q (Z V.heap.size V (zV.drewN (m2 + m3))) := by have := hbw.trans ((below_drewN HT2.out m3).mono hsz); rw [World.drewN_drewN] at this; exact this
   go_wp2;go_roundw
   case rel => exact ⟨k + 1, by omega, by go_num, HT3.out⟩
   case measure => simp [intOf]; omega
  ·go_wp2
   go_ret;exact ⟨rfl, HW.out.trans (hbw.mono HW.out.size)⟩
end Go.Proofs.YtpcnlifmkhagkaaGreat
