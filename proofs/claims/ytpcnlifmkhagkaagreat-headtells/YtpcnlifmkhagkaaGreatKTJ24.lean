import Derived.Test.YtpcnlifmkhagkaaGreatKTJ23
set_option maxRecDepth 20000
set_option maxHeartbeats 20000000
namespace Go.Proofs.YtpcnlifmkhagkaaGreat
open Go.RowKit
open Go.Value renaming slice → G, int → E
open Go.IntKind renaming i64 → J
open _root_.Option renaming none → U
open Go.Obj renaming cells → T
open Go.RowKit renaming Hid → Q, Below → Z
open Go.World renaming setCell → r
open Go.RowKit.Below renaming refl → kaa
attribute [local go_sem ↓] Go.wp_at_zero Go.wp_at_succ
section
theorem zqt (k d h : Int) (a1 a2 : Option Addr) (l : List P3) (c1 c2 n1 n2 : Nat) (w : World) (hn1 : n1 = l.length) (hn2 : n2 = l.length) (hl : l.length ≤ 9223372036854775807) (hp1 : zae w a1 l) (hp2 : zae w a2 l) :
  Calls Tryz.prog 51 #[.agg #[E J k, E J d, E J h, G a1 n1 c1], .agg #[E J k, E J d, E J h, G a2 n2 c2]] w fun e w' => e = .returned (.bool true) ∧ Z w.heap.size w w' := by
 have HS := zi0 a1 a2 l c1 c2 n1 n2 ((w.alloc (T #[E J k, E J d, E J h, G a1 n1 c1] 25)).alloc (T #[E J k, E J d, E J h, G a2 n2 c2] 25)) hn1 hn2 hl (hp1.below (zaw _ _ _)) (hp2.below (zaw _ _ _));clear hp1 hp2 hn1 hn2 hl;go_enter Tryz.func51, Tryz.ntmps51
 go_wp2_with fail
 have hb0 := zaw w (T #[E J k, E J d, E J h, G a1 n1 c1] 25) (T #[E J k, E J d, E J h, G a2 n2 c2] 25);generalize ((w.alloc (T #[E J k, E J d, E J h, G a1 n1 c1] 25)).alloc (T #[E J k, E J d, E J h, G a2 n2 c2] 25)) = W at *;refine HS.mono ?_;rintro e w1 ⟨rfl, m, hm⟩;have hb1 : Z w.heap.size w w1 := by rw [hm]; exact hb0.trans ((zig W m).mono hb0.size)
 clear HS hb0 hm;go_wp2;go_ret;exact ⟨rfl, hb1⟩
theorem zpx (a1 a2 : Option Addr) (X1 X2 : List XM) (c1 c2 n1 n2 : Nat) (w : World) (hn1 : n1 = X1.length) (hn2 : n2 = X2.length) (he : X1.map zce = X2.map zce) (hl : X1.length ≤ 9223372036854775807) (hok : ∀ x ∈ X1, x.2.2.2.2.length ≤ 9223372036854775807) (hr1 : zi 4 zb3 w a1 X1) (hr2 : zi 4 zb3 w a2 X2) (hp1 : ∀ x ∈ X1, zae w x.2.2.2.1.1 x.2.2.2.2) (hp2 : ∀ x ∈ X2, zae w x.2.2.2.1.1 x.2.2.2.2) :
  Calls Tryz.prog 17 #[G a1 n1 c1, G a2 n2 c2] w fun e w' => e = .returned (.bool true) ∧ Z w.heap.size w w' := by
 have hlen : X1.length = X2.length := by have := congrArg List.length he; simpa using this
 have HN := zH hn1 hlen he hok hr1 hr2 hp1 hp2;have e2 : n2 = n1 := by omega
 have hnl : n1 ≤ 9223372036854775807 := by omega
 subst e2;clear hn1 hn2 he hok hr1 hr2 hp1 hp2 hl hlen;go_enter Tryz.func17, Tryz.ntmps17
 go_wp2;go_loopw [13] (fun i w' => ∃ k : Nat, k ≤ n2 ∧ i = E J k ∧ Z w.heap.size w w') (fun i _ => n2 - (intOf i).toNat)
 case atStart => exact ⟨0, Nat.zero_le _, rfl, kaa _ _⟩
 case round =>
  obtain ⟨k, hk, rfl, hbw⟩ := hrel;by_cases hlt : k < n2
  ·have hk1 : k < X1.length := by have := HN.out.1; omega
   have hk2 : k < X2.length := by have := HN.out.2.1; omega
   have hs := ziv HN.out.2.2.1 hk1 hk2;have hl := HN.out.2.2.2.1 _ (List.getElem_mem hk1);have hq1 := (HN.out.2.2.2.2.2.2.1 _ (List.getElem_mem hk1)).below hbw;have hq2 := (HN.out.2.2.2.2.2.2.2 _ (List.getElem_mem hk2)).below hbw;rcases HN.out.2.2.2.2.1.below hbw with h0 | ⟨g1, o1, rfl, hg1, hc1⟩
   ·rw [h0] at hk1; simp at hk1
   rcases HN.out.2.2.2.2.2.1.below hbw with h0 | ⟨g2, o2, rfl, hg2, hc2⟩
   ·rw [h0] at hk2; simp at hk2
   have u0 := hc1 k hk1 0 _ rfl;have u1 := hc1 k hk1 1 _ rfl;have u2 := hc1 k hk1 2 _ rfl;have u3 := hc1 k hk1 3 _ rfl;have v0 := hc2 k hk2 0 _ rfl;have v1 := hc2 k hk2 1 _ rfl;have v2 := hc2 k hk2 2 _ rfl;have v3 := hc2 k hk2 3 _ rfl;clear hc1 hc2;generalize X1[k] = x at *;generalize X2[k] = y at *;obtain ⟨kd, dd, hh, ⟨ax, cx⟩, l⟩ := x;obtain ⟨kd', dd', hh', ⟨ay, cy⟩, l'⟩ := y;simp only [zce, Prod.mk.injEq] at hs
   obtain ⟨rfl, rfl, rfl, rfl⟩ := hs;simp only [Nat.add_zero] at u0 u1 u2 u3 v0 v1 v2 v3 hq1 hq2 hl
   have HL : Q (l.length = l.length ∧ zae wr ax l ∧ zae wr ay l) := ⟨rfl, hq1, hq2⟩
   have HK : Q (∀ w', Z wr.heap.size wr w' → ((w'.cell? ⟨g1, o1 + k * 4, U⟩ = some (E J kd) ∧ w'.cell? ⟨g1, o1 + k * 4 + 1, U⟩ = some (E J dd) ∧ w'.cell? ⟨g1, o1 + k * 4 + 2, U⟩ = some (E J hh) ∧ w'.cell? ⟨g1, o1 + k * 4 + 3, U⟩ = some (G ax l.length cx)) ∧ (w'.cell? ⟨g2, o2 + k * 4, U⟩ = some (E J kd) ∧ w'.cell? ⟨g2, o2 + k * 4 + 1, U⟩ = some (E J dd) ∧ w'.cell? ⟨g2, o2 + k * 4 + 2, U⟩ = some (E J hh) ∧ w'.cell? ⟨g2, o2 + k * 4 + 3, U⟩ = some (G ay l.length cy)))) := fun w' hb =>
    ⟨⟨(hb.cell (p := ⟨g1, o1 + k * 4, U⟩) hg1).trans u0, (hb.cell (p := ⟨g1, o1 + k * 4 + 1, U⟩) hg1).trans u1, (hb.cell (p := ⟨g1, o1 + k * 4 + 2, U⟩) hg1).trans u2, (hb.cell (p := ⟨g1, o1 + k * 4 + 3, U⟩) hg1).trans u3⟩, (hb.cell (p := ⟨g2, o2 + k * 4, U⟩) hg2).trans v0, (hb.cell (p := ⟨g2, o2 + k * 4 + 1, U⟩) hg2).trans v1, (hb.cell (p := ⟨g2, o2 + k * 4 + 2, U⟩) hg2).trans v2, (hb.cell (p := ⟨g2, o2 + k * 4 + 3, U⟩) hg2).trans v3⟩
   have hX0 : Z wr.heap.size wr wr.drew := (kaa _ _).drew;clear hq1 hq2 u0 u1 u2 u3 v0 v1 v2 v3;go_upto_region 6 with fail
   go_region_held3 (fun w' => (w'.cell? ⟨g1, o1 + k * 4, U⟩ = some (E J kd) ∧ w'.cell? ⟨g1, o1 + k * 4 + 1, U⟩ = some (E J dd) ∧ w'.cell? ⟨g1, o1 + k * 4 + 2, U⟩ = some (E J hh) ∧ w'.cell? ⟨g1, o1 + k * 4 + 3, U⟩ = some (G ax l.length cx)) ∧ (w'.cell? ⟨g2, o2 + k * 4, U⟩ = some (E J kd) ∧ w'.cell? ⟨g2, o2 + k * 4 + 1, U⟩ = some (E J dd) ∧ w'.cell? ⟨g2, o2 + k * 4 + 2, U⟩ = some (E J hh) ∧ w'.cell? ⟨g2, o2 + k * 4 + 3, U⟩ = some (G ay l.length cy))) (
    first
    | with_reducible exact HK.out _ (kaa _ _)
    | with_reducible exact HK.out _ hX0
    | with_reducible exact HK.out _ hB2) (
    first
    | (go_at_call 51; refine (zqt kd dd hh ax ay l cx cy l.length l.length _ rfl rfl hl (HL.out.2.1.below hX0) (HL.out.2.2.below hX0)).mono ?_; rintro e w2 ⟨rfl, hb2⟩; have hB2 : Z wr.heap.size wr w2 := hX0.trans (hb2.mono hX0.size)))
   have hBw := hbw.trans (hB2.mono hbw.size);clear hB2 hb2 HK;go_wp2;go_roundw
   case rel => exact ⟨k + 1, by omega, by go_num, hBw⟩
   case measure => simp [intOf]; omega
  ·go_wp2
   go_ret;exact ⟨rfl, hbw⟩
theorem zev.all {w : World} {v : Value} {L : List R3} {h : H3} {k : Nat} (hh : zev w v L h) (hi : zee k h) (hk : k ≤ 9223372036854775807) : ∃ (la : Option Addr) (nl lc : Nat) (ra : Option Addr) (nr rc : Nat) (XR : List XD) (da : Option Addr) (nd dc : Nat),
  v = .agg #[G la nl lc, E J h.1.1, E J h.1.2.1, E J h.1.2.2.1, E J h.1.2.2.2, G ra nr rc, G da nd dc] ∧ ze5 w ra nr XR h.2.1 ∧ nd = h.2.2.length ∧ zi 1 zu w da h.2.2 := by
 obtain ⟨la, nl, lc, Y, ra, nr, rc, XR, da, nd, dc, hv, _, ⟨h4, h5, h6⟩, h7, _, _, h8⟩ := hh;refine ⟨la, nl, lc, ra, nr, rc, XR, da, nd, dc, hv, ⟨h4, ?_, ?_, h6, h5⟩, h7, h8⟩
 ·have h1 := hi.few
  rw [← h5, List.length_map] at h1;omega
 ·intro x hx
  have h1 := (hi.ok (zbm x) (by rw [← h5]; exact List.mem_map.2 ⟨x, hx, rfl⟩)).1;have h2 : x.2.2.length ≤ 4 := h1;omega
theorem za.one {w : World} {base : Nat} {a : Option Addr} {n c : Nat} {x : XM} (h : za 25 4 zb3 w base (G a n c) [x]) : n = 1 ∧ ∃ g o, a = some ⟨g, o, U⟩ ∧ g < w.heap.size ∧ w.cell? ⟨g, o, U⟩ = some (E J x.1) := by
 have hk := h.at zbu;refine ⟨hk.2.1, ?_⟩;rcases hk.1 with h0 | ⟨g, o, ha, hg, hc⟩
 ·cases h0
 ·exact ⟨g, o, ha, hg, hc 0 (by simp) 0 _ rfl⟩
theorem fieldSums (v0 v1 v2 v3 v4 v5 v6 : Value) (w : World) : (Instr.field 77 (.agg #[v0, v1, v2, v3, v4, v5, v6]) 1).run Tryz.prog w = .ok (.agg #[v1, v2, v3, v4]) w := by kernel_rfl
attribute [local go_sem ↓] fieldSums
end
def zak (R : Nat → Prop) (w : World) (la : Option Addr) (nl : Nat) (oa : Option Addr) (no : Nat) (g : Gh) : Prop := ∃ Y X, zbh R w la nl Y oa no X g.log g.opn
def za2 (R : Nat → Prop) (w : World) (a : Option Addr) (n : Nat) (ms : List Q4) : Prop := ∃ jz, zed R w a n jz ms
section
variable {R R' : Nat → Prop} {w w' : World} {la oa a b : Option Addr} {nl no n m : Nat} {g : Gh} {ms : List Q4}
theorem zak.keep (H : zak R w la nl oa no g) (hk : zf R w w') : zak R w' la nl oa no g := by
 obtain ⟨Y, X, h⟩ := H;exact ⟨Y, X, h.keep hk⟩
theorem zak.below (H : zak R w la nl oa no g) (hb : Z w.heap.size w w') : zak R w' la nl oa no g := H.keep (zb8 hb)
theorem zak.wide (H : zak R w la nl oa no g) (hR : ∀ b, R' b → R b ∨ w.heap.size ≤ b) : zak R' w la nl oa no g := by
 obtain ⟨Y, X, h⟩ := H;exact ⟨Y, X, h.wide hR⟩
theorem zak.v (H : zak R w la nl oa no g) (lc oc : Nat) : zy R w (.agg #[G la nl lc, E J g.boot, E J g.next, G oa no oc]) g := by
 obtain ⟨Y, X, h⟩ := H;exact ⟨la, nl, lc, Y, oa, no, oc, X, rfl, h⟩
theorem zy.toA {v : Value} (H : zy R w v g) : ∃ la nl lc oa no oc, v = .agg #[G la nl lc, E J g.boot, E J g.next, G oa no oc] ∧ zak R w la nl oa no g := by
 obtain ⟨la, nl, lc, Y, oa, no, oc, X, hv, h⟩ := H;exact ⟨la, nl, lc, oa, no, oc, hv, Y, X, h⟩
theorem zak.get (H : zak R w la nl oa no g) {k : Nat} (hk : k < g.opn.length) : ∃ b o pa pc ha hc, oa = some ⟨b, o, U⟩ ∧ b < w.heap.size ∧ w.cell? ⟨b, o + k * 4, U⟩ = some (E J g.opn[k].1) ∧
  w.cell? ⟨b, o + k * 4 + 1, U⟩ = some (G pa g.opn[k].2.1.length pc) ∧ w.cell? ⟨b, o + k * 4 + 2, U⟩ = some (.bool g.opn[k].2.2.1) ∧ w.cell? ⟨b, o + k * 4 + 3, U⟩ = some (G ha g.opn[k].2.2.2.length hc) := by
 obtain ⟨Y, X, h⟩ := H;have hX : k < X.length := by have := h.osays; rw [← this, List.length_map] at hk; exact hk
 have e : g.opn[k] = zw X[k] := by
  have h1 := h.osays.symm;have h2 : g.opn[k]? = some (zw X[k]) := by rw [h1, List.getElem?_map, List.getElem?_eq_getElem hX]; rfl
  rw [List.getElem?_eq_getElem hk] at h2;exact Option.some.inj h2
 obtain ⟨b, o, ha, hb, c0, c1, c2, c3, -⟩ := h.opns.lies.get hX;rw [e];exact ⟨b, o, _, _, _, _, ha, hb, c0, c1, c2, c3⟩
theorem za2.keep (H : za2 R w a n ms) (hk : zf R w w') : za2 R w' a n ms := by
 obtain ⟨jz, h⟩ := H;exact ⟨jz, h.keep hk⟩
theorem za2.below (H : za2 R w a n ms) (hb : Z w.heap.size w w') : za2 R w' a n ms := H.keep (zb8 hb)
theorem za2.wide (H : za2 R w a n ms) (hR : ∀ b, R' b → R b ∨ w.heap.size ≤ b) : za2 R' w a n ms := by
 obtain ⟨jz, h⟩ := H;exact ⟨jz, h.wide hR⟩
theorem za2.len (H : za2 R w a n ms) : n = ms.length := by
 obtain ⟨jz, h⟩ := H;rw [h.n, ← h.says, List.length_map]
theorem za2.first {q : Q4} {t : List Q4} (H : za2 R w a n (q :: t)) : ∃ b o, a = some ⟨b, o, U⟩ ∧ b < w.heap.size ∧ w.cell? ⟨b, o, U⟩ = some (E J q.1) := by
 obtain ⟨jz, h⟩ := H;have hs := h.says
 cases jz with
 | nil => cases hs
 | cons z s =>
  rw [List.map_cons] at hs;injection hs with h1 h2
  rcases h.row with h0 | ⟨b, o, rfl, hlt, hc⟩
  ·cases h0
  ·have := hc 0 (by simp) 0 _ rfl
   simp only [Nat.zero_mul, Nat.add_zero, List.getElem_cons_zero] at this
   exact ⟨b, o, rfl, hlt, by rw [← h1]; exact this⟩
theorem zm.toA {base : Nat} {v : Value} (H : zm w base v ms) (hR : ∀ b, R b → b < base) : ∃ a n c, v = G a n c ∧ za2 R w a n ms := by
 obtain ⟨a, n, c, X, hv, h⟩ := H.v hR;exact ⟨a, n, c, hv, X, h⟩
theorem zhg {c d : Nat} (H1 : za2 R w a n ms) (H2 : za2 R' w b m ms) (hl : ms.length ≤ 1000000) (hp : ∀ q ∈ ms, q.2.2.2.length ≤ 1000000) :
  Calls Tryz.prog 17 #[G a n c, G b m d] w fun e w' => e = .returned (.bool true) ∧ Z w.heap.size w w' := by
 obtain ⟨X, h1⟩ := H1;obtain ⟨Y, h2⟩ := H2;refine zpx a b X Y c d n m w h1.n h2.n (by rw [h1.says, h2.says]) ?_ (fun x hx => ?_) h1.row h2.row (fun x hx => (h1.parts x hx).1) (fun x hx => (h2.parts x hx).1)
 ·have := congrArg List.length h1.says
  rw [List.length_map] at this;omega
 ·have := hp (zce x) (by rw [← h1.says]; exact List.mem_map_of_mem hx)
  have e : (zce x).2.2.2 = x.2.2.2.2 := rfl;rw [e] at this;omega
end
structure OkG (g : Gh) : Prop where
 few : zcf g.opn
 ok : OkL g.log
 len : g.log.length ≤ 300000
 right : ∀ o ∈ g.opn, zcj o.2.1
 heard : ∀ o ∈ g.opn, o.2.2.2.Nodup ∧ (∀ k ∈ o.2.2.2, k ∈ zr o.2.1) ∧ o.2.2.2.length ≤ 1000
 boot : 0 ≤ g.boot ∧ g.boot ≤ 1000000
 next : 0 ≤ g.next ∧ g.next ≤ 1000000
theorem OkG.size {g : Gh} (K : OkG g) : SizeG g.log g.opn := by
 refine ⟨⟨by have := K.len; omega, fun jj hr => by have := (K.ok jj hr).1; omega⟩, by have := K.few.1; omega, fun o ho => ?_⟩;have := K.few.2 o ho;exact ⟨by omega, by omega⟩
theorem Inv.okG {n : Nat} {P : Int → List P3} {W : WW} (I : Inv n P W) (hok : OkL W.hd.log) (hl : W.hd.log.length ≤ 300000) : OkG W.hd :=
 ⟨I.fewO, hok, hl, I.rightP, I.heard, ⟨by have := I.boot1; omega, by have := I.boot20; omega⟩, I.next0, by have := I.next64; omega⟩
section
variable {R R' : Nat → Prop} {la oa : Option Addr} {nl no : Nat} (lc oc : Nat) {g : Gh} (w : World)
theorem hdOwn_V (hR : ∀ b, R b → b < w.heap.size) (H : zak R w la nl oa no g) (K : OkG g) : Calls Tryz.prog 12 #[.agg #[G la nl lc, E J g.boot, E J g.next, G oa no oc]] w fun e w' => ∃ la' nl' lc' oa' no' oc', e = .returned (.agg #[G la' nl' lc', E J g.boot, E J g.next, G oa' no' oc']) ∧ zak R w' la' nl' oa' no' g ∧ Z w.heap.size w w' := by
 obtain ⟨Y, X, h⟩ := H.wide (R' := fun _ => False) (fun _ h => h.elim);refine (zil la oa nl lc no oc g.boot g.next Y X g.log g.opn w h K.few K.ok (by have := K.len; omega)).mono ?_;rintro e w' ⟨v, rfl, ⟨a2, n2, c2, Y2, a3, n3, c3, X2, rfl, hO⟩, hb⟩;exact ⟨a2, n2, c2, a3, n3, c3, rfl, ⟨Y2, X2, hO.f hR⟩, hb⟩
theorem hdFall_V (hR : ∀ b, R b → b < w.heap.size) (H : zak R w la nl oa no g) (K : OkG g) : Calls Tryz.prog 9 #[.agg #[G la nl lc, E J g.boot, E J g.next, G oa no oc]] w fun e w' => ∃ la' nl' lc' oa' no' oc', e = .returned (.tuple #[.agg #[G la' nl' lc', E J (zq g).1.boot, E J (zq g).1.next, G oa' no' oc'], E J (zq g).2]) ∧ zak R w' la' nl' oa' no' (zq g).1 ∧ Z w.heap.size w w' := by
 obtain ⟨Y, X, h⟩ := H.wide (R' := fun _ => False) (fun _ h => h.elim);refine (zny la oa nl lc no oc g Y X w h K.few K.ok (by have := K.len; omega)).mono ?_;rintro e w' ⟨v, rfl, hV, hb⟩;obtain ⟨la', nl', lc', oa', no', oc', rfl, hA⟩ := (hV R hR).toA;exact ⟨la', nl', lc', oa', no', oc', rfl, hA, hb⟩
theorem hdQuit_V (hR : ∀ b, R b → b < w.heap.size) (H : zak R w la nl oa no g) (K : OkG g) : Calls Tryz.prog 15 #[.agg #[G la nl lc, E J g.boot, E J g.next, G oa no oc]] w fun e w' => ∃ la' nl' lc' oa' no' oc' sa sn sc, e = .returned (.tuple #[.agg #[G la' nl' lc', E J (zk g).1.boot, E J (zk g).1.next, G oa' no' oc'], G sa sn sc]) ∧ zak R w' la' nl' oa' no' (zk g).1 ∧ za2 R w' sa sn (zk g).2 ∧ Z w.heap.size w w' := by
 obtain ⟨Y, X, h⟩ := H.wide (R' := fun _ => False) (fun _ h => h.elim);refine (zp0 la oa nl lc no oc g.boot g.next g.log g.opn Y X w h K.few K.ok (by have := K.len; omega) K.right).mono ?_;rintro e w' ⟨v, sv, rfl, hV, hM, hb⟩;obtain ⟨la', nl', lc', oa', no', oc', rfl, hA⟩ := (hV R hR).toA;obtain ⟨sa, sn, sc, rfl, hS⟩ := hM.toA hR;exact ⟨la', nl', lc', oa', no', oc', sa, sn, sc, rfl, hA, hS, hb⟩
theorem hdTick_V (hR : ∀ b, R b → b < w.heap.size) (H : zak R w la nl oa no g) (K : OkG g) : Calls Tryz.prog 18 #[.agg #[G la nl lc, E J g.boot, E J g.next, G oa no oc]] w fun e w' => ∃ sa sn sc, e = .returned (G sa sn sc) ∧ za2 R w' sa sn (zdj g) ∧ Z w.heap.size w w' := by
 obtain ⟨Y, X, h⟩ := H.wide (R' := fun _ => False) (fun _ h => h.elim);refine (zo6 la oa nl lc no oc g.boot g.next X g.opn w h.opns K.few K.right).mono ?_;rintro e w' ⟨sv, rfl, hM, hb⟩;obtain ⟨sa, sn, sc, rfl, hS⟩ := hM.toA hR;exact ⟨sa, sn, sc, rfl, hS, hb⟩
theorem hdBegin_V (hR : ∀ b, R b → b < w.heap.size) (H : zak R w la nl oa no g) (K : OkG g) (pa : Option Addr) (np pc : Nat) (l : List P3) (hnp : np = l.length) (hp : zae w pa l) (hr : zcj l) : Calls Tryz.prog 21 #[.agg #[G la nl lc, E J g.boot, E J g.next, G oa no oc], G pa np pc] w fun e w' => ∃ la' nl' lc' oa' no' oc' sa sn sc, e = .returned (.tuple #[.agg #[G la' nl' lc', E J (zj g l).1.boot, E J (zj g l).1.next, G oa' no' oc'], G sa sn sc, E J (zj g l).2.2]) ∧ zak R w' la' nl' oa' no' (zj g l).1 ∧ za2 R w' sa sn (zj g l).2.1 ∧ Z w.heap.size w w' := by
 obtain ⟨Y, X, h⟩ := H.wide (R' := fun _ => False) (fun _ h => h.elim);refine (zo1 la oa nl lc no oc g.boot g.next g.log g.opn Y X pa np pc l w h K.few K.ok (by have := K.len; omega) hnp hp hr K.boot K.next).mono ?_;rintro e w' ⟨v, sv, rfl, hV, hM, hb⟩;obtain ⟨la', nl', lc', oa', no', oc', rfl, hA⟩ := (hV R hR).toA;obtain ⟨sa, sn, sc, rfl, hS⟩ := hM.toA hR;exact ⟨la', nl', lc', oa', no', oc', sa, sn, sc, rfl, hA, hS, hb⟩
theorem zm8 (hR : ∀ b, R b → b < w.heap.size) (H : zak R w la nl oa no g) (K : OkG g) (mk md mh : Int) (ma : Option Addr) (mn mc : Nat) (ml : List P3) : Calls Tryz.prog 24 #[.agg #[G la nl lc, E J g.boot, E J g.next, G oa no oc], .agg #[E J mk, E J md, E J mh, G ma mn mc]] w fun e w' => ∃ la' nl' lc' oa' no' oc' sa sn sc, e = .returned (.tuple #[.agg #[G la' nl' lc', E J (zc g (mk, md, mh, ml)).1.boot, E J (zc g (mk, md, mh, ml)).1.next, G oa' no' oc'], G sa sn sc]) ∧ zak R w' la' nl' oa' no' (zc g (mk, md, mh, ml)).1 ∧ za2 R w' sa sn (zc g (mk, md, mh, ml)).2 ∧ Z w.heap.size w w' := by
 obtain ⟨Y, X, h⟩ := H.wide (R' := fun _ => False) (fun _ h => h.elim);refine (zos la oa nl lc no oc g.boot g.next g.log g.opn Y X mk md mh ma mn mc ml w h K.few K.ok (by have := K.len; omega) K.right K.heard).mono ?_;rintro e w' ⟨v, sv, rfl, hV, hM, hb⟩;obtain ⟨la', nl', lc', oa', no', oc', rfl, hA⟩ := (hV R hR).toA;obtain ⟨sa, sn, sc, rfl, hS⟩ := hM.toA hR;exact ⟨la', nl', lc', oa', no', oc', sa, sn, sc, rfl, hA, hS, hb⟩
end
theorem hdNew_V {R : Nat → Prop} (w : World) (hR : ∀ b, R b → b < w.heap.size) : Calls Tryz.prog 13 #[] w fun e w' => ∃ la' nl' lc' oa' no' oc', e = .returned (.agg #[G la' nl' lc', E J 1, E J 0, G oa' no' oc']) ∧ zak R w' la' nl' oa' no' (zn [(4, 0, [])]) ∧ Z w.heap.size w w' := by
 refine (hdNew_any w).mono ?_;rintro e w' ⟨v, rfl, hV, hb⟩;obtain ⟨la', nl', lc', oa', no', oc', rfl, hA⟩ := (hV R hR).toA;exact ⟨la', nl', lc', oa', no', oc', rfl, hA, hb⟩
theorem okG80 : OkG (zn [(4, 0, [])]) := ⟨⟨by decide, fun o ho => (by cases ho)⟩, fun jj hr => (by rw [List.mem_singleton.1 hr]; exact ze0), by decide, fun o ho => (by cases ho), fun o ho => (by cases ho), by decide, by decide⟩
theorem zm7 (R : Nat → Prop) (v : Value) (g : Gh) (pa : Option Addr) (np pc : Nat) (l : List P3) (w : World) (hR : ∀ b, R b → b < w.heap.size) (hv : zy R w v g) (hnp : np = l.length) (hp : zz R w pa l) (hl : l.length ≤ 4) (hf : zcf g.opn) (hb1 : 0 ≤ g.boot ∧ g.boot ≤ 1000000) (hb2 : 0 ≤ g.next ∧ g.next ≤ 1000000) :
  Calls Tryz.prog 22 #[v, G pa np pc] w fun e w' => ∃ v' sv, e = .returned (.tuple #[v', sv, E J (zj g l).2.2]) ∧ zy R w' v' (zj g l).1 ∧ zm w' w.heap.size sv (zj g l).2.1 ∧ Z w.heap.size w w' := by
 obtain ⟨la, nl, lc, Y, oa, no, oc, X, rfl, hF⟩ := hv;obtain ⟨R', r1, r2, r3, r4⟩ := zhy R w 2;obtain ⟨L, bt, nx, O⟩ := g;simp only at hF hf hb1 hb2
 have hXO : X.length = O.length := by rw [← hF.osays, List.length_map]
 have hbX := zaw w (T #[G la nl lc, E J bt, E J nx, G oa no oc] 29) (T #[G U 0 0, E J 0, E J 0, G U 0 0] 29);have hN0 : Blk ((w.alloc (T #[G la nl lc, E J bt, E J nx, G oa no oc] 29)).alloc (T #[G U 0 0, E J 0, E J 0, G U 0 0] 29)) w.heap.size #[G la nl lc, E J bt, E J nx, G oa no oc] 29 := (Blk.new _ _ _).alloc _;have hN1 : Blk ((w.alloc (T #[G la nl lc, E J bt, E J nx, G oa no oc] 29)).alloc (T #[G U 0 0, E J 0, E J 0, G U 0 0] 29)) (w.heap.size + 1) #[G U 0 0, E J 0, E J 0, G U 0 0] 29 := zao _ _ _;have hsX : ((w.alloc (T #[G la nl lc, E J bt, E J nx, G oa no oc] 29)).alloc (T #[G U 0 0, E J 0, E J 0, G U 0 0] 29)).heap.size = w.heap.size + 2 := by simp
 have HR : Q ((∀ b, R b → R' b) ∧ R' w.heap.size ∧ R' (w.heap.size + 1) ∧ (∀ b, R' b → b < w.heap.size + 2)) := ⟨r1, r2 _ (by omega) (by omega), r2 _ (by omega) (by omega), fun b hb => r4 b hb hR⟩;have HG := zF (hF.wide r3) hf hXO hnp (hp.wide r3) hl;have hnl : no ≤ 100000 := by have h1 := hF.on; have h2 := hf.1; omega
 have hno : Q (no = O.length) := by show _ = _; rw [← hXO]; exact hF.on
 obtain ⟨hb1, hb1'⟩ := hb1;obtain ⟨hb2, hb2'⟩ := hb2;clear hF r1 r2 r3 r4 hR hf hnp hp hl hXO;go_enter Tryz.func22, Tryz.ntmps22
 go_upto_region 1 with fail
 generalize ((w.alloc (T #[G la nl lc, E J bt, E J nx, G oa no oc] 29)).alloc (T #[G U 0 0, E J 0, E J 0, G U 0 0] 29)) = V at *;have HV := zD hbX hN0 hN1 hsX;obtain ⟨m0, m1, m2, m3⟩ := hN0.cells4;have nl0 := hN0.lt;by_cases c : 11 < no ∨ 63 < nx
 ·have HE : Q (zj ⟨L, bt, nx, O⟩ l = (⟨L, bt, nx, O⟩, [], 9)) := by show _ = _; unfold zj; rw [if_pos (by have := hno.out; show 11 < O.length ∨ 63 < nx; omega)]
  obtain ⟨hP, hB, hZ, -⟩ := ziy (R := R) (lc := lc) (oc := oc) (bt := bt) (nx := nx) hN1 (HG.out.1.below hbX) hbX HR.out.1 HR.out.2.2.1 (by omega);have HF : Q _ := And.intro hP hB;obtain ⟨e0, e1, e2, e3⟩ := hZ.cells4;obtain ⟨t0, t1, t2, t3⟩ := hN1.cells4;obtain ⟨y0, y1, y2, y3⟩ := hN1.free4;have nl1 := hN1.lt;clear hP hB hZ hN0 hN1 hbX hsX;by_cases c1 : 11 < no
  ·clear c
   go_wp2_with fail
   clear m0 m1 m2 m3 t0 t1 t2 t3 y0 y1 y2 y3;generalize (r (r (r (r V ⟨w.heap.size + 1, 0, U⟩ (G la nl lc)) ⟨w.heap.size + 1, 1, U⟩ (E J bt)) ⟨w.heap.size + 1, 2, U⟩ (E J nx)) ⟨w.heap.size + 1, 3, U⟩ (G oa no oc)) = jz at *;refine bodyPost_ret (v := .tuple #[.agg #[G la nl lc, E J bt, E J nx, G oa no oc], G U 0 0, E J 9]) ?_ rfl ⟨_, _, by rw [HE.out], by rw [HE.out]; exact HF.out.1, by rw [HE.out]; exact zm.nil _ _, HF.out.2⟩;simp [results, Tryz.results22, go_sem, e0, e1, e2, e3]
  ·have c2 : 63 < nx := by omega
   clear c;go_wp2_with fail
   clear m0 m1 m2 m3 t0 t1 t2 t3 y0 y1 y2 y3;generalize (r (r (r (r V ⟨w.heap.size + 1, 0, U⟩ (G la nl lc)) ⟨w.heap.size + 1, 1, U⟩ (E J bt)) ⟨w.heap.size + 1, 2, U⟩ (E J nx)) ⟨w.heap.size + 1, 3, U⟩ (G oa no oc)) = jz at *;refine bodyPost_ret (v := .tuple #[.agg #[G la nl lc, E J bt, E J nx, G oa no oc], G U 0 0, E J 9]) ?_ rfl ⟨_, _, by rw [HE.out], by rw [HE.out]; exact HF.out.1, by rw [HE.out]; exact zm.nil _ _, HF.out.2⟩;simp [results, Tryz.results22, go_sem, e0, e1, e2, e3]
 ·have HE : Q (zj ⟨L, bt, nx, O⟩ l = (⟨L, bt, nx + 1, O ++ [(64 * bt + nx, l, false, [])]⟩, za4 (64 * bt + nx, l, false, []), 0)) := by show _ = _; unfold zj; rw [if_neg (by have := hno.out; show ¬ (11 < O.length ∨ 63 < nx); omega)]
  have c1 : ¬ 11 < no := by omega
  have c2 : ¬ 63 < nx := by omega
  clear c hN0 hN1 hbX hsX;go_upto_region 4 with fail
  have hYb := zh V (T #[E J (64 * bt + nx), G pa np pc, .bool false, G U 0 0] 58);have hYo : Blk (V.alloc (T #[E J (64 * bt + nx), G pa np pc, .bool false, G U 0 0] 58)) V.heap.size #[E J (64 * bt + nx), G pa np pc, .bool false, G U 0 0] 58 := Blk.new _ _ _;generalize V.alloc (T #[E J (64 * bt + nx), G pa np pc, .bool false, G U 0 0] 58) = W at *;have HW := zD (HV.out.1.trans (hYb.mono HV.out.1.size)) (HV.out.2.1.below hYb HV.out.2.1.lt) (HV.out.2.2.1.below hYb HV.out.2.2.1.lt) hYo
  have HK : Q (∀ w', Z W.heap.size W w' → ((w'.cell? ⟨w.heap.size, 3, U⟩ = some (G oa no oc) ∧ w'.frozen? ⟨w.heap.size, 3, U⟩ = false) ∧ (w'.cell? ⟨V.heap.size, 0, U⟩ = some (E J (64 * bt + nx)) ∧ w'.cell? ⟨V.heap.size, 1, U⟩ = some (G pa np pc) ∧ w'.cell? ⟨V.heap.size, 2, U⟩ = some (.bool false) ∧ w'.cell? ⟨V.heap.size, 3, U⟩ = some (G U 0 0))) ∧ zi 4 zaj w' oa X) := fun w' hb => by
   have k1 := HW.out.2.1.below hb HW.out.2.1.lt;have k2 := HW.out.2.2.2.below hb HW.out.2.2.2.lt;exact ⟨⟨⟨k1.cell 3, k1.free 3⟩, k2.cells4⟩, (HG.out.1.opn.below HW.out.1).below hb⟩
  obtain ⟨⟨i3, i4⟩, ⟨j0, j1, j2, j3⟩⟩ := (HK.out _ (kaa _ _)).1;have l0 := HW.out.2.1.lt;have l0' : w.heap.size < W.heap.size + 1 := by omega
  have l1 := HW.out.2.2.2.lt;have l1' : V.heap.size < W.heap.size + 1 := by omega
  have hXl : X.length ≤ 100000 := by have := HG.out.1.on; omega
  clear m0 m1 m2 m3 nl0 hYb hYo;go_cut [] (fun wx => ∃ a c5 c6, Q (Blk wx w.heap.size #[G la nl lc, E J bt, E J nx, G a c5 c6] 29 ∧ Blk wx (w.heap.size + 1) #[G U 0 0, E J 0, E J 0, G U 0 0] 29 ∧ Blk wx V.heap.size #[E J (64 * bt + nx), G pa np pc, .bool false, G U 0 0] 58 ∧ (zi 4 zaj wx a (X ++ [(64 * bt + nx, ((pa, pc), l), false, ((U, 0), []))]) ∧ c5 = (X ++ [((64 * bt + nx, ((pa, pc), l), false, ((U, 0), [])) : XO)]).length ∧ Out R' a (X ++ [((64 * bt + nx, ((pa, pc), l), false, ((U, 0), [])) : XO)]).length) ∧ zf R' W wx ∧ Z w.heap.size w wx))
  case first =>
   go_region_law (
    first
    | (refine zb1 zaq oneQ Tryz.underlying27 zd9 rfl (by decide) _ (by first | rfl | simp [Region.wanted, yielded]) (.tmp 29) (.tmp 31) rfl W.heap.size (G a30 n30 c30) X rfl (by first | exact HO30.out | exact HO30.out.below (zh w30 _)) _ 1 1 [(64 * bt + nx, ((pa, pc), l), false, ((U, 0), []))] rfl rfl (by first | exact zi.one (Blk.new _ _ _) (by rw [HG.out.2.2.2.1]; rfl) | exact zi.one (Blk.below (Blk.drew (Blk.new _ _ _)) jk (by first | omega | (simp; omega) | simp)) (by rw [HG.out.2.2.2.1]; rfl) | exact zi.one (Blk.below (Blk.drew ((Blk.new _ _ _).alloc _)) jk (by first | omega | (simp; omega) | simp)) (by rw [HG.out.2.2.2.1]; rfl) | exact zi.one (Blk.below (Blk.drew (zao _ _ _)) jk (by first | omega | (simp; omega) | simp)) (by rw [HG.out.2.2.2.1]; rfl) | exact zi.one (Blk.below (Blk.new _ _ _) jk (by first | omega | (simp; omega) | simp)) (by rw [HG.out.2.2.2.1]; rfl) | exact zi.one (Blk.below ((Blk.new _ _ _).alloc _) jk (by first | omega | (simp; omega) | simp)) (by rw [HG.out.2.2.2.1]; rfl) | exact zi.one (Blk.below (zao _ _ _) jk (by first | omega | (simp; omega) | simp)) (by rw [HG.out.2.2.2.1]; rfl)) (by unfold maxLen; simp; omega) (by simp; omega) (by first | omega | (simp; omega) | simp) ?_; intro a33 n33 c33 w33 jQ hn33 jY; have h33 : Z W.heap.size W w33 := (by first | exact h30.trans jY | exact (h30.alloc h30.size _).trans jY); have h33s := h33.size; have HO33 : Q (zag 58 4 zaj w33 W.heap.size (G a33 n33 c33) (X ++ [(64 * bt + nx, ((pa, pc), l), false, ((U, 0), []))])) := jQ; obtain ⟨⟨n3, n4⟩, ⟨q0, q1, q2, q3⟩⟩ := (HK.out _ h33).1; clear jQ hn33 jY)
    | (refine zb1 zaq oneQ Tryz.underlying27 zd9 rfl (by decide) _ (by first | rfl | simp [Region.wanted, yielded]) (.tmp 26) (.tmp 28) rfl _ _ [] rfl (by first | exact zag.made (Blk.drew (Blk.new _ _ _)) _ | exact zag.made (Blk.drew ((Blk.new _ _ _).alloc _)) _ | exact zag.made (Blk.drew (zao _ _ _)) _ | exact zag.made (Blk.new _ _ _) _ | exact zag.made ((Blk.new _ _ _).alloc _) _ | exact zag.made (zao _ _ _) _) oa no oc X rfl HG.out.1.on (by first | exact (HK.out _ (((kaa _ _).alloc (by simp <;> omega) _).drew)).2 | exact (HK.out _ ((((kaa _ _).alloc (by simp <;> omega) _).alloc (by simp <;> omega) _).drew)).2 | exact (HK.out _ (((kaa _ _).alloc (by simp <;> omega) _))).2 | exact (HK.out _ ((((kaa _ _).alloc (by simp <;> omega) _).alloc (by simp <;> omega) _))).2 | exact (HK.out _ ((((kaa _ _).drew).alloc (by simp <;> omega) _))).2 | exact (HK.out _ (((((kaa _ _).drew).alloc (by simp <;> omega) _).alloc (by simp <;> omega) _))).2) (by unfold maxLen; simp; omega) (by simp; omega) (Nat.le_refl _) ?_; intro a30 n30 c30 w30 jX hn30 jk; have h30 : Z W.heap.size W w30 := (by first | exact (((kaa _ _).alloc (by simp <;> omega) _).drew).trans (jk.mono (by first | omega | (simp; omega) | simp)) | exact ((((kaa _ _).alloc (by simp <;> omega) _).alloc (by simp <;> omega) _).drew).trans (jk.mono (by first | omega | (simp; omega) | simp)) | exact (((kaa _ _).alloc (by simp <;> omega) _)).trans (jk.mono (by first | omega | (simp; omega) | simp)) | exact ((((kaa _ _).alloc (by simp <;> omega) _).alloc (by simp <;> omega) _)).trans (jk.mono (by first | omega | (simp; omega) | simp)) | exact ((((kaa _ _).drew).alloc (by simp <;> omega) _)).trans (jk.mono (by first | omega | (simp; omega) | simp)) | exact (((((kaa _ _).drew).alloc (by simp <;> omega) _).alloc (by simp <;> omega) _)).trans (jk.mono (by first | omega | (simp; omega) | simp))); have h30s := h30.size; have h30b := jk.size; (try simp at h30b); have HO30 : Q (zag 58 4 zaj w30 W.heap.size (G a30 n30 c30) X) := jX.mono (by first | omega | (simp; omega) | simp); obtain ⟨⟨k3, k4⟩, ⟨g0, g1, g2, g3⟩⟩ := (HK.out _ h30).1; clear jX hn30))
   all_goals
    have HF : Q (Blk (r w33 ⟨w.heap.size, 3, U⟩ (G a33 n33 c33)) w.heap.size #[G la nl lc, E J bt, E J nx, G a33 n33 c33] 29 ∧ Blk (r w33 ⟨w.heap.size, 3, U⟩ (G a33 n33 c33)) (w.heap.size + 1) #[G U 0 0, E J 0, E J 0, G U 0 0] 29 ∧ Blk (r w33 ⟨w.heap.size, 3, U⟩ (G a33 n33 c33)) V.heap.size #[E J (64 * bt + nx), G pa np pc, .bool false, G U 0 0] 58 ∧ (zi 4 zaj (r w33 ⟨w.heap.size, 3, U⟩ (G a33 n33 c33)) a33 (X ++ [(64 * bt + nx, ((pa, pc), l), false, ((U, 0), []))]) ∧ n33 = (X ++ [((64 * bt + nx, ((pa, pc), l), false, ((U, 0), [])) : XO)]).length ∧ Out R' a33 (X ++ [((64 * bt + nx, ((pa, pc), l), false, ((U, 0), [])) : XO)]).length) ∧ zf R' W (r w33 ⟨w.heap.size, 3, U⟩ (G a33 n33 c33)) ∧ Z w.heap.size w (r w33 ⟨w.heap.size, 3, U⟩ (G a33 n33 c33))) := by
     have k1 := HW.out.2.1.below h33 HW.out.2.1.lt;have k2 := HW.out.2.2.1.below h33 HW.out.2.2.1.lt;have k3 := HW.out.2.2.2.below h33 HW.out.2.2.2.lt;have hat := HO33.out.at zaq;have hout : Out R' a33 (X ++ [((64 * bt + nx, ((pa, pc), l), false, ((none, 0), [])) : XO)]).length := HO33.out.outR (fun b hb => by have := HR.out.2.2.2 b hb; have := HV.out.2.2.2; omega);have hK : zf R' w33 (r w33 ⟨w.heap.size, 3, U⟩ (G a33 n33 c33)) := (zf.refl R' w33).setCell (p := ⟨w.heap.size, 3, U⟩) HR.out.2.1 _;exact ⟨k1.set 3 _, k2.setOther (a := ⟨w.heap.size, 3, U⟩) (by simp) _, k3.setOther (a := ⟨w.heap.size, 3, U⟩) (by have := HV.out.2.2.2; simp; omega) _, ⟨hat.1.keepR hout hK, hat.2.1, hout⟩, (zb8 h33).trans hK, (HW.out.1.trans (h33.mono HW.out.1.size)).setCell (Nat.le_refl _) _⟩
    clear i3 i4 j0 j1 j2 j3 k3 k4 g0 g1 g2 g3 n3 n4 q0 q1 q2 q3;go_wp2_with fail
    go_meet
    case rel => exact ⟨a33, n33, c33, HF⟩
  case rest =>
  clear i3 i4 j0 j1 j2 j3 l0 l0' l1 l1' HK;obtain ⟨a, c5, c6, HC⟩ := hcut
  have HX : Q (zbh R' wc la nl Y a c5 (X ++ [(64 * bt + nx, ((pa, pc), l), false, ((U, 0), []))]) L (O ++ [(64 * bt + nx, l, false, [])]) ∧ Z w.heap.size w wc ∧ zz R' wc pa l) := by
   have hq := (HG.out.1.below HW.out.1).keep HC.out.2.2.2.2.1;have hpq := (HG.out.2.2.2.2.1.below HW.out.1).keep HC.out.2.2.2.2.1;refine ⟨⟨hq.ln, hq.log, hq.lout, hq.says, hq.parts, HC.out.2.2.2.1.2.1, HC.out.2.2.2.1.1, HC.out.2.2.2.1.2.2, by rw [List.map_append, hq.osays]; rfl, fun x hx => ?_⟩, HC.out.2.2.2.2.2, hpq⟩;rcases List.mem_append.1 hx with hx | hx
   ·exact hq.oparts x hx
   ·rw [List.mem_singleton.1 hx]; exact ⟨hpq, zcx.nil _ _ _⟩
  have HB3 := zC HC.out.1 HC.out.2.1 HC.out.2.2.1;clear HC;obtain ⟨m0, m1, m2, m3⟩ := HB3.out.1.cells4;have f2 := (HB3.out.1.free4).2.2.1;have l0 := HB3.out.1.lt;have hS0 : Blk (r wc ⟨w.heap.size, 2, U⟩ (E J (nx + 1))) w.heap.size #[G la nl lc, E J bt, E J (nx + 1), G a c5 c6] 29 := HB3.out.1.set 2 _;have hS1 : Blk (r wc ⟨w.heap.size, 2, U⟩ (E J (nx + 1))) (w.heap.size + 1) #[G U 0 0, E J 0, E J 0, G U 0 0] 29 := HB3.out.2.1.setOther (a := ⟨w.heap.size, 2, U⟩) (by simp) _;have hS2 : Blk (r wc ⟨w.heap.size, 2, U⟩ (E J (nx + 1))) V.heap.size #[E J (64 * bt + nx), G pa np pc, .bool false, G U 0 0] 58 := HB3.out.2.2.setOther (a := ⟨w.heap.size, 2, U⟩) (by have := HV.out.2.2.2; simp; omega) _;have hKc : zf R' wc (r wc ⟨w.heap.size, 2, U⟩ (E J (nx + 1))) := (zf.refl R' wc).setCell (p := ⟨w.heap.size, 2, U⟩) HR.out.2.1 _;have hXc := HX.out.1.keep hKc;have hXb : Z w.heap.size w (r wc ⟨w.heap.size, 2, U⟩ (E J (nx + 1))) := HX.out.2.1.setCell (Nat.le_refl _) _;have hXp := HX.out.2.2.keep hKc;clear HB3 HX hKc;go_upto_region 6 with fail
  clear m0 m1 m2 m3 f2;generalize r wc ⟨w.heap.size, 2, U⟩ (E J (nx + 1)) = zX at *;have HU := zD hXc hXb hXp hS1;have hne : Q (w.heap.size ≠ w.heap.size + 1 ∧ V.heap.size ≠ w.heap.size + 1) := ⟨by omega, by have := HV.out.2.2.2; omega⟩
  have HK2 : Q (∀ w', zf (fun b => b = w.heap.size + 1 ∨ zX.heap.size ≤ b) zX w' → ((w'.cell? ⟨w.heap.size, 0, U⟩ = some (G la nl lc) ∧ w'.cell? ⟨w.heap.size, 1, U⟩ = some (E J bt) ∧ w'.cell? ⟨w.heap.size, 2, U⟩ = some (E J (nx + 1)) ∧ w'.cell? ⟨w.heap.size, 3, U⟩ = some (G a c5 c6)) ∧ (w'.cell? ⟨V.heap.size, 0, U⟩ = some (E J (64 * bt + nx)) ∧ w'.cell? ⟨V.heap.size, 1, U⟩ = some (G pa np pc) ∧ w'.cell? ⟨V.heap.size, 2, U⟩ = some (.bool false) ∧ w'.cell? ⟨V.heap.size, 3, U⟩ = some (G U 0 0)))) := fun w' hk =>
   ⟨(hS0.keep hk (fun h => by rcases h with h | h; exact hne.out.1 h; have := hS0.lt; omega)).cells4, (hS2.keep hk (fun h => by rcases h with h | h; exact hne.out.2 h; have := hS2.lt; omega)).cells4⟩
  have hX0 : Z zX.heap.size zX zX.drew := (kaa _ _).drew;have hK0 : zf (fun b => b = w.heap.size + 1 ∨ zX.heap.size ≤ b) zX zX.drew := (zf.refl _ _).drew;have hl1 := hS1.lt;have hl2 := hS2.lt;have hl0 := hS0.lt;clear hS0 hS1 hS2 hXc hXb hXp
  go_region_held3 (fun w' => ((w'.cell? ⟨w.heap.size, 0, U⟩ = some (G la nl lc) ∧ w'.cell? ⟨w.heap.size, 1, U⟩ = some (E J bt) ∧ w'.cell? ⟨w.heap.size, 2, U⟩ = some (E J (nx + 1)) ∧ w'.cell? ⟨w.heap.size, 3, U⟩ = some (G a c5 c6)) ∧ (w'.cell? ⟨V.heap.size, 0, U⟩ = some (E J (64 * bt + nx)) ∧ w'.cell? ⟨V.heap.size, 1, U⟩ = some (G pa np pc) ∧ w'.cell? ⟨V.heap.size, 2, U⟩ = some (.bool false) ∧ w'.cell? ⟨V.heap.size, 3, U⟩ = some (G U 0 0)))) (
   first
   | (with_reducible exact HK2.out _ hS7)
   | (with_reducible exact HK2.out _ hKA)
   | (with_reducible exact HK2.out _ hK0)
   | (with_reducible exact HK2.out _ (zf.refl _ _))) (
   first
   | (go_at_call 53; refine (zj1 (64 * bt + nx) pa np pc l false U 0 0 [] _ HG.out.2.2.2.1 HG.out.2.2.2.2.2 (HU.out.2.2.1.below hX0).1 rfl (by simp) (Or.inl rfl)).mono ?_; rintro e wA ⟨sv, rfl, hM, hbA⟩; have hA : Z zX.heap.size zX wA := hX0.trans (hbA.mono hX0.size); have hKA : zf (fun b => b = w.heap.size + 1 ∨ zX.heap.size ≤ b) zX wA := zf.ofBelow hA (fun k h1 h2 => Or.inr h2); have hz := HU.out.2.2.2.below hA HU.out.2.2.2.lt; have hS7 := hKA.trans ((zb0 hz (G la nl lc) (E J bt) (E J (nx + 1)) (G a c5 c6)).2.mono (fun b _ hb => Or.inl hb)); obtain ⟨t0, t1, t2, t3⟩ := hz.cells4; obtain ⟨y0, y1, y2, y3⟩ := hz.free4; have hzl := hz.lt; have HA : Q (zm wA zX.heap.size sv (za4 (64 * bt + nx, l, false, [])) ∧ Z zX.heap.size zX wA) := ⟨hM.mono hX0.size, hA⟩; clear hz hM hbA))
  all_goals
   have hz := HU.out.2.2.2.below HA.out.2 HU.out.2.2.2.lt;have hUs := HU.out.2.1.size;obtain ⟨hP, hB, hZ, -⟩ := ziy (R := R) (lc := lc) (oc := c6) (bt := bt) (nx := nx + 1) hz (HU.out.1.below HA.out.2) (HU.out.2.1.trans (HA.out.2.mono hUs)) HR.out.1 HR.out.2.2.1 (by omega);have HF : Q _ := And.intro hP (And.intro hB ((HA.out.1.mono hUs).set4 hz (G la nl lc) (E J bt) (E J (nx + 1)) (G a c5 c6)));obtain ⟨e0, e1, e2, e3⟩ := hZ.cells4;clear hP hB hZ hz t0 t1 t2 t3 y0 y1 y2 y3 hS7 hKA;go_wp2_with fail
   generalize (r (r (r (r wA ⟨w.heap.size + 1, 0, U⟩ (G la nl lc)) ⟨w.heap.size + 1, 1, U⟩ (E J bt)) ⟨w.heap.size + 1, 2, U⟩ (E J (nx + 1))) ⟨w.heap.size + 1, 3, U⟩ (G a c5 c6)) = jz at *;refine bodyPost_ret (v := .tuple #[.agg #[G la nl lc, E J bt, E J (nx + 1), G a c5 c6], sv, E J 0]) ?_ rfl ⟨_, _, by rw [HE.out], by rw [HE.out]; exact HF.out.1, by rw [HE.out]; exact HF.out.2.2, HF.out.2.1⟩;simp [results, Tryz.results22, go_sem, e0, e1, e2, e3]
end Go.Proofs.YtpcnlifmkhagkaaGreat
