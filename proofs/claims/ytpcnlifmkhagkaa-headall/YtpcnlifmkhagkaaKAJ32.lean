import Derived.Test.YtpcnlifmkhagkaaKAJ25
import Derived.Test.YtpcnlifmkhagkaaKAJ31
import Derived.Test.YtpcnlifmkhagkaaKAJ26
import Derived.Test.YtpcnlifmkhagkaaKAHdBegin
set_option maxRecDepth 20000
set_option maxHeartbeats 20000000
namespace Go.Proofs.Ytpcnlifmkhagkaa
open Go.RowKit
open Go.Value renaming slice → G, int → E
open Go.IntKind renaming i64 → J
open _root_.Option renaming none → U
open Go.RowKit renaming Hid → Q, Below → Z
attribute [local go_sem ↓] Go.wp_at_zero Go.wp_at_succ
theorem Inv.heard {n : Nat} {P : Int → List P3} {W : WW} (I : Inv n P W) : ∀ o ∈ W.hd.opn, o.2.2.2.Nodup ∧ (∀ k ∈ o.2.2.2, k ∈ zp o.2.1) ∧ o.2.2.2.length ≤ 1000 := fun o ho => by
 have h := I.opn o ho;have h1 := h.less;have h2 := zdy o.2.1;exact ⟨h.nd, h.sub, by omega⟩
theorem Inv.rightP {n : Nat} {P : Int → List P3} {W : WW} (I : Inv n P W) : ∀ o ∈ W.hd.opn, zcb o.2.1 := fun o ho => by
 obtain ⟨h1, h4, hin, hpw⟩ := zc4 (I.opn o ho).right;have h3 := I.n3;exact zjs h1 h4 (fun p hp => ziz (hin p hp) (by omega)) hpw
theorem OkL.snoc {L : List R3} (h : OkL L) {jj : R3} (hr : OkP jj.2.2) : OkL (L ++ [jj]) := fun x hx => by
 rcases List.mem_append.1 hx with hx | hx
 ·exact h x hx
 ·rw [List.mem_singleton.1 hx]; exact hr
theorem okl_hear {g : Gh} (H : OkL g.log) (ho : ∀ o ∈ g.opn, OkP o.2.1) (m : Q4) : OkL (zh g m).1.log := by
 unfold zh
 split
 ·rename_i x hx
  obtain ⟨A, o, B, hO, _, rfl⟩ := zf4 hx;have hp : OkP o.2.1 := ho o (by rw [hO]; simp);rcases zhz m o with h | h | h
  ·simp [h]; exact H
  ·simp [h]; exact H.snoc hp
  ·simp [h]; exact H.snoc zea
 ·simp; exact H
theorem okl_come {W : WW} (H : OkL W.hd.log) (ho : ∀ o ∈ W.hd.opn, OkP o.2.1) (m : Q4) : OkL (zee W m).hd.log := by
 unfold zee
 split
 ·split
  ·exact H
  ·exact okl_hear H ho m
 ·exact H
theorem zms {W : WW} (H : OkL W.hd.log) (ho : ∀ o ∈ W.hd.opn, OkP o.2.1) (s : Int × Int × List P3) : OkL (zl W s).1.hd.log := by
 unfold zl
 split
 ·split
  ·show OkL (zo W.hd s.2.2).1.log
   unfold zo
   split
   ·exact H
   ·exact H
  ·exact H
 ·split
  ·split
   ·split
    ·exact H
    ·split
     ·exact H
     ·split
      ·exact H
      ·exact okl_come (W := { W with net := W.net.eraseIdx s.2.1.toNat }) H ho _
   ·exact H
  ·split
   ·split
    ·show OkL (zah W.hd).1.log
     unfold zah
     split
     ·exact H
     ·exact OkL.snoc H zea
    ·split
     ·exact H
     ·exact H
   ·split
    ·split
     ·exact H
     ·split
      ·exact H
      ·exact H
    ·split
     ·exact H
     ·exact H
theorem okl_play {n : Nat} (hn : n ≤ 3) (l : List (Int × Int × List P3)) : OkL (zav n l).hd.log := by
 unfold zav
 suffices h : ∀ (l : List (Int × Int × List P3)) (W : WW), (∃ P, Inv n P W) → OkL W.hd.log → OkL (l.foldl (fun W s => (zl W s).1) W).hd.log from h _ _ ⟨fun _ => [], zi5 hn _⟩ (OkL.snoc (L := []) (fun jj hr => by cases hr) zea)
 intro l
 induction l with
 | nil => exact fun W _ h => h
 | cons s t ih =>
  intro W ⟨P, I⟩ h;obtain ⟨P', _, I'⟩ := I.step s;exact ih _ ⟨P', I'⟩ (zms h (fun o ho => zfd (I.opn o ho).right) s)
theorem right_of {l : List P3} {n : Nat} (hn : n ≤ 3) (h : zay l n = 0) : zcb l := by
 obtain ⟨h1, h4, hin, hpw⟩ := zc4 h;exact zjs h1 h4 (fun p hp => ziz (hin p hp) (by omega)) hpw
structure zem (w wx : World) (P : Nat) (k d hs me : Int) (mv : Value) (hc : Array Value) (L : List R3) (u0 u1 u2 u3 u4 u5 u6 sv : Value) : Prop where
 hb : Blk wx w.heap.size hc 100
 eb : Blk wx (w.heap.size + 1) #[E J me] 3
 mb : Blk wx (w.heap.size + 1 + 1) #[E J k, E J d, E J hs, mv] 43
 zb : Blk wx (w.heap.size + 1 + 1 + 1) #[G U 0 0, E J 0, E J 0, E J 0, E J 0, G U 0 0, G U 0 0] 100
 nb : Blk wx P #[u0, u1, u2, u3, u4, u5, u6] 100
 nv : zck w.heap.size wx (.agg #[u0, u1, u2, u3, u4, u5, u6]) L (ze L)
 sb : Blk wx (P + 1) #[sv] 24
 far : w.heap.size + 1 + 1 + 1 < P
 bel : Z w.heap.size w wx
theorem zem.below {w wx wy : World} {P : Nat} {k d hs me : Int} {mv : Value} {hc : Array Value} {L : List R3} {u0 u1 u2 u3 u4 u5 u6 sv : Value} (H : zem w wx P k d hs me mv hc L u0 u1 u2 u3 u4 u5 u6 sv) (hb : Z wx.heap.size wx wy) : zem w wy P k d hs me mv hc L u0 u1 u2 u3 u4 u5 u6 sv :=
 ⟨H.hb.below hb H.hb.lt, H.eb.below hb H.eb.lt, H.mb.below hb H.mb.lt, H.zb.below hb H.zb.lt, H.nb.below hb H.nb.lt, H.nv.below hb, H.sb.below hb H.sb.lt, H.far, H.bel.trans (hb.mono H.bel.size)⟩
theorem zem.note {w wx wy : World} {P : Nat} {k d hs me : Int} {mv : Value} {hc : Array Value} {L L2 : List R3} {u0 u1 u2 u3 u4 u5 u6 v0 v1 v2 v3 v4 v5 v6 sv : Value} (H : zem w wx P k d hs me mv hc L u0 u1 u2 u3 u4 u5 u6 sv) (hP : Blk wy P #[v0, v1, v2, v3, v4, v5, v6] 100) (hv : zck wx.heap.size wy (.agg #[v0, v1, v2, v3, v4, v5, v6]) L2 (ze L2)) (hk : zg (fun b => b = P) wx wy) : zem w wy P k d hs me mv hc L2 v0 v1 v2 v3 v4 v5 v6 sv := by
 have hf := H.far;exact ⟨H.hb.keep hk (by omega), H.eb.keep hk (by omega), H.mb.keep hk (by omega), H.zb.keep hk (by omega), hP, hv.mono H.bel.size, H.sb.keep hk (by omega), hf, H.bel.trans (hk.below H.bel.size (fun b hb => by omega))⟩
theorem zem.say {w wx wy : World} {P : Nat} {k d hs me : Int} {mv : Value} {hc : Array Value} {L : List R3} {u0 u1 u2 u3 u4 u5 u6 sv tv : Value} (H : zem w wx P k d hs me mv hc L u0 u1 u2 u3 u4 u5 u6 sv) (hS : Blk wy (P + 1) #[tv] 24) (hv : zck w.heap.size wy (.agg #[u0, u1, u2, u3, u4, u5, u6]) L (ze L)) (hk : zg (fun b => b = P + 1) wx wy) : zem w wy P k d hs me mv hc L u0 u1 u2 u3 u4 u5 u6 tv := by
 have hf := H.far;exact ⟨H.hb.keep hk (by omega), H.eb.keep hk (by omega), H.mb.keep hk (by omega), H.zb.keep hk (by omega), H.nb.keep hk (by omega), hv, hS, hf, H.bel.trans (hk.below H.bel.size (fun b hb => by omega))⟩
theorem zg.only {zV : TypeId} {S : Nat} {w w' : World} {cs : Array Value} (hb : Blk w S cs zV) (hk : zg (fun b => b = S) w w') : zby zV w w' := fun b cs' t ht x => x.keep hk (fun e => by
 subst e;unfold Blk at hb x
 rw [hb] at x;injection x with x
 injection x with _ q _
 exact ht q.symm)
theorem zem.cells {w wx : World} {P : Nat} {k d hs me : Int} {mv : Value} {c0 c1 c2 c3 c4 c5 c6 : Value} {L : List R3} {u0 u1 u2 u3 u4 u5 u6 sv : Value} (H : zem w wx P k d hs me mv #[c0, c1, c2, c3, c4, c5, c6] L u0 u1 u2 u3 u4 u5 u6 sv) :
  (wx.cell? ⟨w.heap.size, 0, U⟩ = some c0 ∧ wx.cell? ⟨w.heap.size, 1, U⟩ = some c1 ∧ wx.cell? ⟨w.heap.size, 2, U⟩ = some c2 ∧ wx.cell? ⟨w.heap.size, 3, U⟩ = some c3 ∧ wx.cell? ⟨w.heap.size, 4, U⟩ = some c4 ∧ wx.cell? ⟨w.heap.size, 5, U⟩ = some c5 ∧ wx.cell? ⟨w.heap.size, 6, U⟩ = some c6) ∧
  (wx.cell? ⟨w.heap.size + 1 + 1, 0, U⟩ = some (E J k) ∧ wx.cell? ⟨w.heap.size + 1 + 1, 1, U⟩ = some (E J d) ∧ wx.cell? ⟨w.heap.size + 1 + 1, 3, U⟩ = some mv) ∧ (w.heap.size < wx.heap.size ∧ w.heap.size + 1 < wx.heap.size ∧ w.heap.size + 1 + 1 < wx.heap.size ∧ w.heap.size + 1 + 1 + 1 < wx.heap.size) ∧ P < wx.heap.size ∧ P + 1 < wx.heap.size :=
 ⟨⟨H.hb.cell 0, H.hb.cell 1, H.hb.cell 2, H.hb.cell 3, H.hb.cell 4, H.hb.cell 5, H.hb.cell 6⟩, ⟨H.mb.cell 0, H.mb.cell 1, H.mb.cell 3⟩, ⟨H.hb.lt, H.eb.lt, H.mb.lt, H.zb.lt⟩, H.nb.lt, H.sb.lt⟩
theorem zem.open {w wx : World} {P : Nat} {k d hs me : Int} {mv : Value} {hc : Array Value} {L : List R3} {u0 u1 u2 u3 u4 u5 u6 sv : Value} (H : zem w wx P k d hs me mv hc L u0 u1 u2 u3 u4 u5 u6 sv) :
  ∃ (la : Option Addr) (nl lc : Nat) (t0 t1 t2 t3 : Int) (ra : Option Addr) (nr rc : Nat) (da : Option Addr) (nd dc : Nat), u0 = G la nl lc ∧ u1 = E J t0 ∧ u2 = E J t1 ∧ u3 = E J t2 ∧ u4 = E J t3 ∧ u5 = G ra nr rc ∧ u6 = G da nd dc ∧ nd = (ze L).2.2.length ∧ zk 1 zv wx da (ze L).2.2 := by
 obtain ⟨la, nl, lc, Y, ra, nr, rc, XR, da, nd, dc, hv, -, -, h6⟩ := H.nv;injection hv with hv
 injection hv with hv
 simp only [List.cons.injEq, and_true] at hv
 obtain ⟨e0, e1, e2, e3, e4, e5, e6⟩ := hv;have k3 := h6.at zai;exact ⟨la, nl, lc, _, _, _, _, ra, nr, rc, da, nd, dc, e0, e1, e2, e3, e4, e5, e6, k3.2.1, k3.1⟩
section
theorem zez.all {w : World} {v : Value} {L : List R3} {h : H3} {k : Nat} (hh : zez w v L h) (hi : zep k h) (hk : k ≤ 9223372036854775807) : ∃ (la : Option Addr) (nl lc : Nat) (ra : Option Addr) (nr rc : Nat) (XR : List XD) (da : Option Addr) (nd dc : Nat),
  v = .agg #[G la nl lc, E J h.1.1, E J h.1.2.1, E J h.1.2.2.1, E J h.1.2.2.2, G ra nr rc, G da nd dc] ∧ ze9 w ra nr XR h.2.1 ∧ nd = h.2.2.length ∧ zk 1 zv w da h.2.2 := by
 obtain ⟨la, nl, lc, Y, ra, nr, rc, XR, da, nd, dc, hv, _, ⟨h4, h5, h6⟩, h7, _, _, h8⟩ := hh;refine ⟨la, nl, lc, ra, nr, rc, XR, da, nd, dc, hv, ⟨h4, ?_, ?_, h6, h5⟩, h7, h8⟩
 ·have h1 := hi.few
  rw [← h5, List.length_map] at h1;omega
 ·intro x hx
  have h1 := (hi.ok (zba x) (by rw [← h5]; exact List.mem_map.2 ⟨x, hx, rfl⟩)).1;have h2 : x.2.2.length ≤ 4 := h1;omega
theorem zd.one {w : World} {base : Nat} {a : Option Addr} {n c : Nat} {x : XM} (h : zd 43 4 zb4 w base (G a n c) [x]) : n = 1 ∧ ∃ g o, a = some ⟨g, o, U⟩ ∧ g < w.heap.size ∧ w.cell? ⟨g, o, U⟩ = some (E J x.1) := by
 have hk := h.at zbw;refine ⟨hk.2.1, ?_⟩;rcases hk.1 with h0 | ⟨g, o, ha, hg, hc⟩
 ·cases h0
 ·exact ⟨g, o, ha, hg, hc 0 (by simp) 0 _ rfl⟩
theorem fieldSums (v0 v1 v2 v3 v4 v5 v6 : Value) (w : World) : (Instr.field 100 (.agg #[v0, v1, v2, v3, v4, v5, v6]) 1).run Try.prog w = .ok (.agg #[v1, v2, v3, v4]) w := by kernel_rfl
attribute [local go_sem ↓] fieldSums
end
def za5 (R : Nat → Prop) (w : World) (la : Option Addr) (nl : Nat) (oa : Option Addr) (no : Nat) (g : Gh) : Prop := ∃ Y X, zbk R w la nl Y oa no X g.log g.opn
def zcs (R : Nat → Prop) (w : World) (a : Option Addr) (n : Nat) (ms : List Q4) : Prop := ∃ jz, zes R w a n jz ms
section
variable {R R' : Nat → Prop} {w w' : World} {la oa a b : Option Addr} {nl no n m : Nat} {g : Gh} {ms : List Q4}
theorem za5.keep (H : za5 R w la nl oa no g) (hk : zg R w w') : za5 R w' la nl oa no g := by
 obtain ⟨Y, X, h⟩ := H;exact ⟨Y, X, h.keep hk⟩
theorem za5.below (H : za5 R w la nl oa no g) (hb : Z w.heap.size w w') : za5 R w' la nl oa no g := H.keep (zdg hb)
theorem za5.wide (H : za5 R w la nl oa no g) (hR : ∀ b, R' b → R b ∨ w.heap.size ≤ b) : za5 R' w la nl oa no g := by
 obtain ⟨Y, X, h⟩ := H;exact ⟨Y, X, h.wide hR⟩
theorem za5.lnl (H : za5 R w la nl oa no g) : nl = g.log.length := by
 obtain ⟨Y, X, h⟩ := H;rw [h.ln, ← h.says, List.length_map]
theorem za5.lno (H : za5 R w la nl oa no g) : no = g.opn.length := by
 obtain ⟨Y, X, h⟩ := H;rw [h.on, ← h.osays, List.length_map]
theorem za5.v (H : za5 R w la nl oa no g) (lc oc : Nat) : zy R w (.agg #[G la nl lc, E J g.boot, E J g.next, G oa no oc]) g := by
 obtain ⟨Y, X, h⟩ := H;exact ⟨la, nl, lc, Y, oa, no, oc, X, rfl, h⟩
theorem zy.toA {v : Value} (H : zy R w v g) : ∃ la nl lc oa no oc, v = .agg #[G la nl lc, E J g.boot, E J g.next, G oa no oc] ∧ za5 R w la nl oa no g := by
 obtain ⟨la, nl, lc, Y, oa, no, oc, X, hv, h⟩ := H;exact ⟨la, nl, lc, oa, no, oc, hv, Y, X, h⟩
theorem za5.get (H : za5 R w la nl oa no g) {k : Nat} (hk : k < g.opn.length) : ∃ b o pa pc ha hc, oa = some ⟨b, o, U⟩ ∧ b < w.heap.size ∧ w.cell? ⟨b, o + k * 4, U⟩ = some (E J g.opn[k].1) ∧
  w.cell? ⟨b, o + k * 4 + 1, U⟩ = some (G pa g.opn[k].2.1.length pc) ∧ w.cell? ⟨b, o + k * 4 + 2, U⟩ = some (.bool g.opn[k].2.2.1) ∧ w.cell? ⟨b, o + k * 4 + 3, U⟩ = some (G ha g.opn[k].2.2.2.length hc) := by
 obtain ⟨Y, X, h⟩ := H;have hX : k < X.length := by have := h.osays; rw [← this, List.length_map] at hk; exact hk
 have e : g.opn[k] = zz X[k] := by
  have h1 := h.osays.symm;have h2 : g.opn[k]? = some (zz X[k]) := by rw [h1, List.getElem?_map, List.getElem?_eq_getElem hX]; rfl
  rw [List.getElem?_eq_getElem hk] at h2;exact Option.some.inj h2
 obtain ⟨b, o, ha, hb, c0, c1, c2, c3, -⟩ := h.opns.lies.get hX;rw [e];exact ⟨b, o, _, _, _, _, ha, hb, c0, c1, c2, c3⟩
theorem zcs.keep (H : zcs R w a n ms) (hk : zg R w w') : zcs R w' a n ms := by
 obtain ⟨jz, h⟩ := H;exact ⟨jz, h.keep hk⟩
theorem zcs.below (H : zcs R w a n ms) (hb : Z w.heap.size w w') : zcs R w' a n ms := H.keep (zdg hb)
theorem zcs.wide (H : zcs R w a n ms) (hR : ∀ b, R' b → R b ∨ w.heap.size ≤ b) : zcs R' w a n ms := by
 obtain ⟨jz, h⟩ := H;exact ⟨jz, h.wide hR⟩
theorem zcs.len (H : zcs R w a n ms) : n = ms.length := by
 obtain ⟨jz, h⟩ := H;rw [h.n, ← h.says, List.length_map]
theorem zcs.first {q : Q4} {t : List Q4} (H : zcs R w a n (q :: t)) : ∃ b o, a = some ⟨b, o, U⟩ ∧ b < w.heap.size ∧ w.cell? ⟨b, o, U⟩ = some (E J q.1) := by
 obtain ⟨jz, h⟩ := H;have hs := h.says
 cases jz with
 | nil => cases hs
 | cons z s =>
  rw [List.map_cons] at hs;injection hs with h1 h2
  rcases h.row with h0 | ⟨b, o, rfl, hlt, hc⟩
  ·cases h0
  ·have := hc 0 (by simp) 0 _ rfl
   simp only [Nat.zero_mul, Nat.add_zero, List.getElem_cons_zero] at this
   exact ⟨b, o, rfl, hlt, by rw [← h1]; exact this⟩
theorem zm.toA {base : Nat} {v : Value} (H : zm w base v ms) (hR : ∀ b, R b → b < base) : ∃ a n c, v = G a n c ∧ zcs R w a n ms := by
 obtain ⟨a, n, c, X, hv, h⟩ := H.v hR;exact ⟨a, n, c, hv, X, h⟩
end
structure OkG (g : Gh) : Prop where
 few : zcd g.opn
 ok : OkL g.log
 len : g.log.length ≤ 300000
 right : ∀ o ∈ g.opn, zcb o.2.1
 heard : ∀ o ∈ g.opn, o.2.2.2.Nodup ∧ (∀ k ∈ o.2.2.2, k ∈ zp o.2.1) ∧ o.2.2.2.length ≤ 1000
 boot : 0 ≤ g.boot ∧ g.boot ≤ 1000000
 next : 0 ≤ g.next ∧ g.next ≤ 1000000
theorem OkG.size {g : Gh} (K : OkG g) : SizeG g.log g.opn := by
 refine ⟨⟨by have := K.len; omega, fun jj hr => by have := (K.ok jj hr).1; omega⟩, by have := K.few.1; omega, fun o ho => ?_⟩;have := K.few.2 o ho;exact ⟨by omega, by omega⟩
theorem Inv.okG {n : Nat} {P : Int → List P3} {W : WW} (I : Inv n P W) (hok : OkL W.hd.log) (hl : W.hd.log.length ≤ 300000) : OkG W.hd :=
 ⟨I.fewO, hok, hl, I.rightP, I.heard, ⟨by have := I.boot1; omega, by have := I.boot20; omega⟩, I.next0, by have := I.next64; omega⟩
section
variable {R R' : Nat → Prop} {la oa : Option Addr} {nl no : Nat} (lc oc : Nat) {g : Gh} (w : World)
theorem hdOwn_V (hR : ∀ b, R b → b < w.heap.size) (H : za5 R w la nl oa no g) (K : OkG g) : Calls Try.prog 15 #[.agg #[G la nl lc, E J g.boot, E J g.next, G oa no oc]] w fun e w' => ∃ la' nl' lc' oa' no' oc', e = .returned (.agg #[G la' nl' lc', E J g.boot, E J g.next, G oa' no' oc']) ∧ za5 R w' la' nl' oa' no' g ∧ Z w.heap.size w w' := by
 obtain ⟨Y, X, h⟩ := H.wide (R' := fun _ => False) (fun _ h => h.elim);refine (zio la oa nl lc no oc g.boot g.next Y X g.log g.opn w h K.few K.ok (by have := K.len; omega)).mono ?_;rintro e w' ⟨v, rfl, ⟨a2, n2, c2, Y2, a3, n3, c3, X2, rfl, hO⟩, hb⟩;exact ⟨a2, n2, c2, a3, n3, c3, rfl, ⟨Y2, X2, hO.f hR⟩, hb⟩
theorem hdFall_V (hR : ∀ b, R b → b < w.heap.size) (H : za5 R w la nl oa no g) (K : OkG g) : Calls Try.prog 12 #[.agg #[G la nl lc, E J g.boot, E J g.next, G oa no oc]] w fun e w' => ∃ la' nl' lc' oa' no' oc', e = .returned (.tuple #[.agg #[G la' nl' lc', E J (zah g).1.boot, E J (zah g).1.next, G oa' no' oc'], E J (zah g).2]) ∧ za5 R w' la' nl' oa' no' (zah g).1 ∧ Z w.heap.size w w' := by
 obtain ⟨Y, X, h⟩ := H.wide (R' := fun _ => False) (fun _ h => h.elim);refine (zm3 la oa nl lc no oc g Y X w h K.few K.ok (by have := K.len; omega)).mono ?_;rintro e w' ⟨v, rfl, hV, hb⟩;obtain ⟨la', nl', lc', oa', no', oc', rfl, hA⟩ := (hV R hR).toA;exact ⟨la', nl', lc', oa', no', oc', rfl, hA, hb⟩
theorem hdQuit_V (hR : ∀ b, R b → b < w.heap.size) (H : za5 R w la nl oa no g) (K : OkG g) : Calls Try.prog 13 #[.agg #[G la nl lc, E J g.boot, E J g.next, G oa no oc]] w fun e w' => ∃ la' nl' lc' oa' no' oc' sa sn sc, e = .returned (.tuple #[.agg #[G la' nl' lc', E J (zu g).1.boot, E J (zu g).1.next, G oa' no' oc'], G sa sn sc]) ∧ za5 R w' la' nl' oa' no' (zu g).1 ∧ zcs R w' sa sn (zu g).2 ∧ Z w.heap.size w w' := by
 obtain ⟨Y, X, h⟩ := H.wide (R' := fun _ => False) (fun _ h => h.elim);refine (zo0 la oa nl lc no oc g.boot g.next g.log g.opn Y X w h K.few K.ok (by have := K.len; omega) K.right).mono ?_;rintro e w' ⟨v, sv, rfl, hV, hM, hb⟩;obtain ⟨la', nl', lc', oa', no', oc', rfl, hA⟩ := (hV R hR).toA;obtain ⟨sa, sn, sc, rfl, hS⟩ := hM.toA hR;exact ⟨la', nl', lc', oa', no', oc', sa, sn, sc, rfl, hA, hS, hb⟩
theorem hdTick_V (hR : ∀ b, R b → b < w.heap.size) (H : za5 R w la nl oa no g) (K : OkG g) : Calls Try.prog 14 #[.agg #[G la nl lc, E J g.boot, E J g.next, G oa no oc]] w fun e w' => ∃ sa sn sc, e = .returned (G sa sn sc) ∧ zcs R w' sa sn (zev g) ∧ Z w.heap.size w w' := by
 obtain ⟨Y, X, h⟩ := H.wide (R' := fun _ => False) (fun _ h => h.elim);refine (znq la oa nl lc no oc g.boot g.next X g.opn w h.opns K.few K.right).mono ?_;rintro e w' ⟨sv, rfl, hM, hb⟩;obtain ⟨sa, sn, sc, rfl, hS⟩ := hM.toA hR;exact ⟨sa, sn, sc, rfl, hS, hb⟩
theorem zmf (hR : ∀ b, R b → b < w.heap.size) (H : za5 R w la nl oa no g) (K : OkG g) (pa : Option Addr) (np pc : Nat) (l : List P3) (hnp : np = l.length) (hp : zal w pa l) (hr : zcb l) : Calls Try.prog 7 #[.agg #[G la nl lc, E J g.boot, E J g.next, G oa no oc], G pa np pc] w fun e w' => ∃ la' nl' lc' oa' no' oc' sa sn sc, e = .returned (.tuple #[.agg #[G la' nl' lc', E J (zo g l).1.boot, E J (zo g l).1.next, G oa' no' oc'], G sa sn sc, E J (zo g l).2.2]) ∧ za5 R w' la' nl' oa' no' (zo g l).1 ∧ zcs R w' sa sn (zo g l).2.1 ∧ Z w.heap.size w w' := by
 obtain ⟨Y, X, h⟩ := H.wide (R' := fun _ => False) (fun _ h => h.elim);refine (zoh la oa nl lc no oc g.boot g.next g.log g.opn Y X pa np pc l w h K.few K.ok (by have := K.len; omega) hnp hp hr K.boot K.next).mono ?_;rintro e w' ⟨v, sv, rfl, hV, hM, hb⟩;obtain ⟨la', nl', lc', oa', no', oc', rfl, hA⟩ := (hV R hR).toA;obtain ⟨sa, sn, sc, rfl, hS⟩ := hM.toA hR;exact ⟨la', nl', lc', oa', no', oc', sa, sn, sc, rfl, hA, hS, hb⟩
theorem zj2 (hR : ∀ b, R b → b < w.heap.size) (H : za5 R w la nl oa no g) (K : OkG g) (mk md mh : Int) (ma : Option Addr) (mn mc : Nat) (ml : List P3) : Calls Try.prog 9 #[.agg #[G la nl lc, E J g.boot, E J g.next, G oa no oc], .agg #[E J mk, E J md, E J mh, G ma mn mc]] w fun e w' => ∃ la' nl' lc' oa' no' oc' sa sn sc, e = .returned (.tuple #[.agg #[G la' nl' lc', E J (zh g (mk, md, mh, ml)).1.boot, E J (zh g (mk, md, mh, ml)).1.next, G oa' no' oc'], G sa sn sc]) ∧ za5 R w' la' nl' oa' no' (zh g (mk, md, mh, ml)).1 ∧ zcs R w' sa sn (zh g (mk, md, mh, ml)).2 ∧ Z w.heap.size w w' := by
 obtain ⟨Y, X, h⟩ := H.wide (R' := fun _ => False) (fun _ h => h.elim);refine (zn1 la oa nl lc no oc g.boot g.next g.log g.opn Y X mk md mh ma mn mc ml w h K.few K.ok (by have := K.len; omega) K.right K.heard).mono ?_;rintro e w' ⟨v, sv, rfl, hV, hM, hb⟩;obtain ⟨la', nl', lc', oa', no', oc', rfl, hA⟩ := (hV R hR).toA;obtain ⟨sa, sn, sc, rfl, hS⟩ := hM.toA hR;exact ⟨la', nl', lc', oa', no', oc', sa, sn, sc, rfl, hA, hS, hb⟩
end
theorem hdNew_V {R : Nat → Prop} (w : World) (hR : ∀ b, R b → b < w.heap.size) : Calls Try.prog 11 #[] w fun e w' => ∃ la' nl' lc' oa' no' oc', e = .returned (.agg #[G la' nl' lc', E J 1, E J 0, G oa' no' oc']) ∧ za5 R w' la' nl' oa' no' (zw [(4, 0, [])]) ∧ Z w.heap.size w w' := by
 refine (hdNew_any w).mono ?_;rintro e w' ⟨v, rfl, hV, hb⟩;obtain ⟨la', nl', lc', oa', no', oc', rfl, hA⟩ := (hV R hR).toA;exact ⟨la', nl', lc', oa', no', oc', rfl, hA, hb⟩
theorem okG80 : OkG (zw [(4, 0, [])]) := ⟨⟨by decide, fun o ho => (by cases ho)⟩, fun jj hr => (by rw [List.mem_singleton.1 hr]; exact zea), by decide, fun o ho => (by cases ho), fun o ho => (by cases ho), by decide, by decide⟩
end Go.Proofs.Ytpcnlifmkhagkaa
