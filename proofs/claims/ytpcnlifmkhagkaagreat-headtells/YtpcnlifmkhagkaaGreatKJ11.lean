import Derived.Test.YtpcnlifmkhagkaaGreatKHous2
set_option maxRecDepth 20000
set_option maxHeartbeats 20000000
namespace Go.Proofs.YtpcnlifmkhagkaaGreat
open Go.RowKit
open Value renaming slice → G, int → E
open IntKind renaming i64 → J
open Option renaming none → U
open Go renaming Hid → Q, Below → Z
attribute [local go_sem ↓] Go.wp_at_zero Go.wp_at_succ
theorem zfn : (Tryz.prog.info? 25).map (fun i => (i.zero, i.size, i.bytes)) = some (some (.agg #[E J 0, E J 0, E J 0, G U 0 0]), 4, 48) := by kernel_rfl
def zfu (w : World) (v : Value) (L : List R3) (h : H3) : Prop :=
 ∃ (la : Option Addr) (nl lc : Nat) (Y : List XL) (ra : Option Addr) (nr rc : Nat) (XR : List XD) (da : Option Addr) (nd dc : Nat),
  v = .agg #[G la nl lc, E J h.1.1, E J h.1.2.1, E J h.1.2.2.1, E J h.1.2.2.2, G ra nr rc, G da nd dc] ∧
  (nl = L.length ∧ Y.map ze = L ∧ zcc w la Y) ∧ (nr = XR.length ∧ XR.map zbm = h.2.1 ∧ zfe w ra XR) ∧ (nd = h.2.2.length ∧ zi 1 zn w da h.2.2)
theorem zer.u {w : World} {v : Value} {L : List R3} {h : H3} (hh : zer w v L h) : zfu w v L h := by
 obtain ⟨la, nl, lc, Y, ra, nr, rc, XR, da, nd, dc, hv, h1, h2, h3, -, -, h4⟩ := hh;exact ⟨la, nl, lc, Y, ra, nr, rc, XR, da, nd, dc, hv, h1, h2, h3, h4⟩
theorem zcq.u {base : Nat} {w : World} {v : Value} {L : List R3} {h : H3} (hh : zcq base w v L h) : zfu w v L h := hh.at.u
theorem zfu.below {w w' : World} {v : Value} {L : List R3} {h : H3} (hh : zfu w v L h) (hb : Z w.heap.size w w') : zfu w' v L h := by
 obtain ⟨la, nl, lc, Y, ra, nr, rc, XR, da, nd, dc, hv, ⟨h1, h2, h3⟩, ⟨h4, h5, h6⟩, h7, h10⟩ := hh;exact ⟨la, nl, lc, Y, ra, nr, rc, XR, da, nd, dc, hv, ⟨h1, h2, h3.below hb⟩, ⟨h4, h5, h6.below hb⟩, h7, h10.below hb⟩
theorem zbd.u {R : Nat → Prop} {w : World} {v : Value} {L : List R3} {h : H3} (H : zbd R w v L h) : zfu w v L h := by
 obtain ⟨la, nl, lc, Y, ra, nr, rc, XR, da, nd, dc, hv, F⟩ := H;exact ⟨la, nl, lc, Y, ra, nr, rc, XR, da, nd, dc, hv, ⟨by rw [F.ln, ← F.says, List.length_map], F.says, F.log, fun y hy => (F.parts y hy).1⟩, ⟨F.rn, F.rsays, F.rdy, fun x hx => (F.rparts x hx).1⟩, F.dn, F.done⟩
theorem zhf (a : Option Addr) (n : Nat) : Out (fun _ => False) a n := Or.inr (fun _ _ h => h)
theorem zfu.v {w : World} {v : Value} {L : List R3} {h : H3} (H : zfu w v L h) : zbd (fun _ => False) w v L h := by
 obtain ⟨la, nl, lc, Y, ra, nr, rc, XR, da, nd, dc, hv, ⟨h1, h2, h3⟩, ⟨h4, h5, h6⟩, h7, h8⟩ := H;exact ⟨la, nl, lc, Y, ra, nr, rc, XR, da, nd, dc, hv, ⟨by rw [h1, ← h2, List.length_map], h3.1, zhf _ _, h2, fun y hy => ⟨h3.2 y hy, zhf _ _⟩, h4, h6.1, zhf _ _, h5, fun x hx => ⟨h6.2 x hx, zhf _ _⟩, h7, h8, zhf _ _⟩⟩
theorem zcq.v {base : Nat} {w : World} {v : Value} {L : List R3} {h : H3} (H : zcq base w v L h) {R : Nat → Prop} (hR : ∀ b, R b → b < base) : zbd R w v L h := by
 obtain ⟨la, nl, lc, Y, ra, nr, rc, XR, da, nd, dc, hv, ⟨h1, h2⟩, ⟨h3, h4, h5⟩, h6⟩ := H;have k1 := h2.1.at za6;have k2 := h4.at zev;have k3 := h6.at zah
 have hp : ∀ (a : Option Addr) (l : List P3), zai base w a l → zz R w a l := fun a l h => by
  refine ⟨h.at, ?_⟩;rcases h with rfl | ⟨b, o, cs, rfl, hb, -, -⟩
  · exact Or.inl rfl
  · refine Or.inr (fun ad had hr => ?_)
   cases had;have h' : b < base := hR _ hr;omega
 exact ⟨la, nl, lc, Y, ra, nr, rc, XR, da, nd, dc, hv, ⟨k1.2.1, k1.1, h2.1.outR hR _, h1, fun y hy => hp _ _ (h2.2 y hy), k2.2.1, k2.1, h4.outR hR _, h3, fun x hx => hp _ _ (h5 x hx), k3.2.1, k3.1, h6.outR hR _⟩⟩
theorem zi.getI {w : World} {a : Option Addr} {l : List Int} (h : zi 1 zn w a l) {k : Nat} (hk : k < l.length) : ∃ b o, a = some ⟨b, o, U⟩ ∧ b < w.heap.size ∧ w.cell? ⟨b, o + k, U⟩ = some (E J l[k]) := by
 rcases h with rfl | ⟨b, o, rfl, hlt, hc⟩
 · simp at hk
 · have := hc k hk 0 _ rfl
  rw [Nat.mul_one, Nat.add_zero] at this;exact ⟨b, o, rfl, hlt, this⟩
theorem zh1 (w : World) (n : Nat) : Z w.heap.size w (w.drewN n) := below_drewN (Below.refl _ _) n
theorem znj (a1 a2 : Option Addr) (l : List Int) (c1 c2 n1 n2 : Nat) (w : World) (hn1 : n1 = l.length) (hn2 : n2 = l.length) (hl : l.length ≤ 9223372036854775807) (hp1 : zi 1 zn w a1 l) (hp2 : zi 1 zn w a2 l) :
  Calls Tryz.prog 43 #[G a1 n1 c1, G a2 n2 c2] w fun e w' => e = .returned (.bool true) ∧ ∃ m, w' = w.drewN m := by
 subst hn2;subst hn1;have HP := zB hp1 hp2;clear hp1 hp2;generalize hll : l.length = n at *;have HL := zA hll;clear hll;go_enter Tryz.func43, Tryz.ntmps43
 go_wp2;go_loopw [13] (fun i w' => ∃ k m : Nat, k ≤ n ∧ i = E J k ∧ w' = w.drewN m) (fun i _ => n - (intOf i).toNat)
 case atStart => exact ⟨0, 0, Nat.zero_le _, rfl, rfl⟩
 case round =>
  obtain ⟨k, m, hk, rfl, rfl⟩ := hrel;by_cases hlt : k < n
  · have hkl : k < l.length := by rw [HL.out]; exact hlt
   obtain ⟨b1, o1, rfl, hb1, d1⟩ := HP.out.1.getI hkl;obtain ⟨b2, o2, rfl, hb2, d2⟩ := HP.out.2.getI hkl;generalize l[k] = x at *;go_wp2;go_quiet (fail)
   go_wp2;go_roundw
   case rel => exact ⟨k + 1, _, by omega, by go_num, rfl⟩
   case measure => simp [intOf]; omega
  · go_wp2
   go_ret;exact ⟨rfl, m, rfl⟩
theorem zag.get {w : World} {a : Option Addr} {l : List P3} (h : zag w a l) {k : Nat} (hk : k < l.length) : ∃ b o, a = some ⟨b, o, U⟩ ∧ b < w.heap.size ∧ w.cell? ⟨b, o + k * 3, U⟩ = some (E J l[k].1) ∧ w.cell? ⟨b, o + k * 3 + 1, U⟩ = some (E J l[k].2.1) ∧ w.cell? ⟨b, o + k * 3 + 2, U⟩ = some (E J l[k].2.2) := by
 rcases h with rfl | ⟨b, o, rfl, hlt, hc⟩
 · simp at hk
 · exact ⟨b, o, rfl, hlt, hc k hk⟩
theorem zjv (a1 a2 : Option Addr) (l : List P3) (c1 c2 n1 n2 : Nat) (w : World) (hn1 : n1 = l.length) (hn2 : n2 = l.length) (hl : l.length ≤ 9223372036854775807) (hp1 : zag w a1 l) (hp2 : zag w a2 l) :
  Calls Tryz.prog 42 #[G a1 n1 c1, G a2 n2 c2] w fun e w' => e = .returned (.bool true) ∧ ∃ m, w' = w.drewN m := by
 subst hn2;subst hn1;have HP := zB hp1 hp2;clear hp1 hp2;generalize hll : l.length = n at *;have HL := zA hll;clear hll;go_enter Tryz.func42, Tryz.ntmps42
 go_wp2;go_loopw [13] (fun i w' => ∃ k m : Nat, k ≤ n ∧ i = E J k ∧ w' = w.drewN m) (fun i _ => n - (intOf i).toNat)
 case atStart => exact ⟨0, 0, Nat.zero_le _, rfl, rfl⟩
 case round =>
  obtain ⟨k, m, hk, rfl, rfl⟩ := hrel;by_cases hlt : k < n
  · have hkl : k < l.length := by rw [HL.out]; exact hlt
   obtain ⟨b1, o1, rfl, hb1, d1, d2, d3⟩ := HP.out.1.get hkl;obtain ⟨b2, o2, rfl, hb2, e1, e2, e3⟩ := HP.out.2.get hkl;generalize l[k] = x at *;obtain ⟨x0, x1, x2⟩ := x;simp only at d1 d2 d3 e1 e2 e3
   go_wp2;go_quiet (fail)
   go_wp2;go_roundw
   case rel => exact ⟨k + 1, _, by omega, by go_num, rfl⟩
   case measure => simp [intOf]; omega
  · go_wp2
   go_ret;exact ⟨rfl, m, rfl⟩
theorem zi7 {α β : Type} {f : α → β} {X Y : List α} (h : X.map f = Y.map f) {k : Nat} (h1 : k < X.length) (h2 : k < Y.length) : f X[k] = f Y[k] := by
 have e : (X.map f)[k]? = (Y.map f)[k]? := by rw [h]
 rw [List.getElem?_map, List.getElem?_map, List.getElem?_eq_getElem h1, List.getElem?_eq_getElem h2] at e;simpa using e
theorem sameLog_q (a1 a2 : Option Addr) (X1 X2 : List XL) (c1 c2 n1 n2 : Nat) (w : World) (hn1 : n1 = X1.length) (hn2 : n2 = X2.length) (he : X1.map ze = X2.map ze) (hl : X1.length ≤ 9223372036854775807) (hok : ∀ x ∈ X1, x.2.2.2.length ≤ 9223372036854775807) (hp1 : zcc w a1 X1) (hp2 : zcc w a2 X2) :
  Calls Tryz.prog 41 #[G a1 n1 c1, G a2 n2 c2] w fun e w' => e = .returned (.bool true) ∧ ∃ m, w' = w.drewN m := by
 have hlen : X1.length = X2.length := by have := congrArg List.length he; simpa using this
 have e2 : n2 = n1 := by omega
 subst e2;have HP := zF hp1 hp2 he hn1 hn2 hok;have hnl : n2 ≤ 9223372036854775807 := by omega
 clear hp1 hp2 he hn1 hn2 hok hlen hl;generalize n2 = n at *;go_enter Tryz.func41, Tryz.ntmps41
 go_wp2;go_loopw [13] (fun i w' => ∃ k m : Nat, k ≤ n ∧ i = E J k ∧ Q (w' = w.drewN m)) (fun i _ => n - (intOf i).toNat)
 case atStart => exact ⟨0, 0, Nat.zero_le _, rfl, rfl⟩
 case round =>
  obtain ⟨k, m, hk, rfl, hwr⟩ := hrel;have hbw : Z w.heap.size w wr := by rw [hwr.out]; exact zh1 w m
  by_cases hlt : k < n
  · have hk1 : k < X1.length := by have := HP.out.2.2.2.1; omega
   have hk2 : k < X2.length := by have := HP.out.2.2.2.2.1; omega
   obtain ⟨b1, o1, rfl, hb1, p0, p1, p2, hq1⟩ := (HP.out.1.below hbw).get hk1;obtain ⟨b2, o2, rfl, hb2, q0, q1, q2, hq2⟩ := (HP.out.2.1.below hbw).get hk2;have hx := zi7 HP.out.2.2.1 hk1 hk2;have hm := HP.out.2.2.2.2.2 _ (List.getElem_mem hk1);generalize X1[k] = x1 at *;generalize X2[k] = x2 at *;obtain ⟨kd, dd, ⟨ax, cx⟩, l⟩ := x1;obtain ⟨kd2, dd2, ⟨ay, cy⟩, l2⟩ := x2;simp only [ze, Prod.mk.injEq] at hx
   obtain ⟨rfl, rfl, rfl⟩ := hx;simp only at p0 p1 p2 q0 q1 q2 hq1 hq2 hm
   have HQ : Q (∀ W : World, Z wr.heap.size wr W → zag W ax l ∧ zag W ay l) := fun W hW => ⟨hq1.below hW, hq2.below hW⟩
   have HM := zA hm;clear hq1 hq2 hm;generalize hll : l.length = nl at *;have HLL := zA hll;clear hll;go_wp2;go_quiet ((go_at_call 42; exact Calls.quiet_of (zjv ax ay l cx cy nl nl _ HLL.out.symm HLL.out.symm (by have := HM.out; have := HLL.out; omega) (HQ.out _ (zh1 _ _)).1 (HQ.out _ (zh1 _ _)).2)))
   go_wp2;go_roundw
   case rel => exact ⟨k + 1, m + nq, by omega, by go_num, by rw [hwr.out, World.drewN_drewN]; rfl⟩
   case measure => simp [intOf]; omega
  · go_wp2
   go_ret;exact ⟨rfl, m, hwr.out⟩
end Go.Proofs.YtpcnlifmkhagkaaGreat
