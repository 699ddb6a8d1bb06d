import Derived.Test.YtpcnlifmkhagkaaKAJ11
import Derived.Laws.BitsAllLaws
import Derived.Maps.Range
set_option maxRecDepth 20000
set_option maxHeartbeats 20000000
namespace Go.Proofs.Ytpcnlifmkhagkaa
open Go.RowKit
open Go.Value renaming slice → G, int → E
open Go.IntKind renaming i64 → J
open _root_.Option renaming none → U
open Go.Obj renaming cells → T
open Go.RowKit renaming Hid → Q, Below → Z
open Go.World renaming setCell → r
open _root_.Nat renaming le_refl → kaa
open _root_.List renaming mem_singleton → kab, eq_nil_of_length_eq_zero → kac
attribute [local go_sem ↓] Go.wp_at_zero Go.wp_at_succ
theorem zi3 {R R' : Nat → Prop} {w S : World} {N : Nat} {c0 c1 c2 c3 : Value} {la : Option Addr} {nl lc : Nat} {Y : List XL} {oa : Option Addr} {no oc : Nat} {X : List XO} {L : List R3} {O : List O4} {bt nx : Int} (hz : Blk S N #[c0, c1, c2, c3] 29) (hF : zbk R' S la nl Y oa no X L O) (hb : Z w.heap.size w S) (hR : ∀ b, R b → R' b) (hN : R' N) (hw : w.heap.size ≤ N) :
  zy R ((((S.setCell ⟨N, 0, U⟩ (G la nl lc)).setCell ⟨N, 1, U⟩ (E J bt)).setCell ⟨N, 2, U⟩ (E J nx)).setCell ⟨N, 3, U⟩ (G oa no oc)) (.agg #[G la nl lc, E J bt, E J nx, G oa no oc]) ⟨L, bt, nx, O⟩ ∧
  Z w.heap.size w ((((S.setCell ⟨N, 0, U⟩ (G la nl lc)).setCell ⟨N, 1, U⟩ (E J bt)).setCell ⟨N, 2, U⟩ (E J nx)).setCell ⟨N, 3, U⟩ (G oa no oc)) ∧
  Blk ((((S.setCell ⟨N, 0, U⟩ (G la nl lc)).setCell ⟨N, 1, U⟩ (E J bt)).setCell ⟨N, 2, U⟩ (E J nx)).setCell ⟨N, 3, U⟩ (G oa no oc)) N #[G la nl lc, E J bt, E J nx, G oa no oc] 29 ∧
  zg (fun b => b = N) S ((((S.setCell ⟨N, 0, U⟩ (G la nl lc)).setCell ⟨N, 1, U⟩ (E J bt)).setCell ⟨N, 2, U⟩ (E J nx)).setCell ⟨N, 3, U⟩ (G oa no oc)) := by
 obtain ⟨h1, h2⟩ := zct hz (G la nl lc) (E J bt) (E J nx) (G oa no oc);exact ⟨⟨la, nl, lc, Y, oa, no, oc, X, rfl, (hF.keep (h2.mono (fun b _ hb => by subst hb; exact hN))).wide (fun b hb => Or.inl (hR b hb))⟩, hb.trans (h2.below hb.size (fun b hb => by omega)), h1, h2⟩
theorem zm.set4 {S : World} {N base : Nat} {c0 c1 c2 c3 : Value} {v : Value} {ms : List Q4} (h : zm S base v ms) (hz : Blk S N #[c0, c1, c2, c3] 29) (v0 v1 v2 v3 : Value) : zm ((((S.setCell ⟨N, 0, U⟩ v0).setCell ⟨N, 1, U⟩ v1).setCell ⟨N, 2, U⟩ v2).setCell ⟨N, 3, U⟩ v3) base v ms := by
 obtain ⟨jz, z1, z2, z3⟩ := h;refine ⟨jz, ?_, z2, fun x hx => (z3 x hx).calm ?_⟩
 ·exact (((z1.setOther (a := ⟨N, 0, U⟩) hz (by decide) _).setOther (a := ⟨N, 1, U⟩) (hz.set 0 _) (by decide) _).setOther (a := ⟨N, 2, U⟩) ((hz.set 0 _).set 1 _) (by decide) _).setOther (a := ⟨N, 3, U⟩) (((hz.set 0 _).set 1 _).set 2 _) (by decide) _
 ·exact (((zj.setCell (a := ⟨N, 0, U⟩) hz (by decide) _).trans (zj.setCell (a := ⟨N, 1, U⟩) (hz.set 0 _) (by decide) _)).trans (zj.setCell (a := ⟨N, 2, U⟩) ((hz.set 0 _).set 1 _) (by decide) _)).trans (zj.setCell (a := ⟨N, 3, U⟩) (((hz.set 0 _).set 1 _).set 2 _) (by decide) _)
theorem zm.slice {w : World} {base : Nat} {v : Value} {ms : List Q4} (h : zm w base v ms) : ∃ a n c, v = G a n c := by
 obtain ⟨X, h1, -⟩ := h;exact h1.slice zbw
def zd1 (base : Nat) (w : World) (a : Option Addr) (l : List Int) : Prop :=
 l = [] ∨ ∃ b o cs, a = some ⟨b, o, U⟩ ∧ base ≤ b ∧ Blk w b cs 3 ∧ ∀ i (h : i < l.length), cs[o + i]? = some (E J l[i])
theorem zd1.calm {base : Nat} {w w' : World} {a : Option Addr} {l : List Int} (h : zd1 base w a l) (hc : zj 3 w w') : zd1 base w' a l := by
 rcases h with h | ⟨b, o, cs, ha, hB, hb, hx⟩
 ·exact Or.inl h
 ·exact Or.inr ⟨b, o, cs, ha, hB, hc _ _ hb, hx⟩
theorem zd1.intsR {base : Nat} {w : World} {a : Option Addr} {l : List Int} (h : zd1 base w a l) {R : Nat → Prop} (hR : ∀ b, R b → b < base) : zc0 R w a l := by
 rcases h with rfl | ⟨b, o, cs, rfl, hB, hb, hx⟩
 ·exact zc0.nil _ _ _
 ·refine ⟨Or.inr ⟨b, o, rfl, hb.lt, fun i hi j u hu => ?_⟩, Or.inr (fun ad had hr => ?_)⟩
  ·have hj : j = 0 := by
    rcases Nat.eq_zero_or_pos j with h0 | h0
    ·exact h0
    ·rw [List.getElem?_eq_none (by rw [zai]; omega)] at hu; cases hu
   subst hj;rw [Nat.mul_one, Nat.add_zero, hb.cell, hx i hi]
   simpa [zv] using hu
  ·cases had
   have h' : b < base := hR _ hr;omega
theorem zd.intsT {w : World} {base : Nat} {a : Option Addr} {n c : Nat} {l : List Int} (h : zd 3 1 zv w base (G a n c) l) : zd1 base w a l := by
 rcases h.2 with ⟨hv, h0⟩ | ⟨g, cap, cur, hv, hg, hh, jZ, hmx, hsz, qJ⟩
 ·exact Or.inl (kac h0)
 ·cases hv
  refine Or.inr ⟨g, 0, cur, rfl, hg, hh, fun i hi => ?_⟩;have hj := zhd zai l i hi 0 (by decide);rw [Nat.mul_one, Nat.add_zero] at hj;rw [← qJ, List.getElem?_take_of_lt (by omega)] at hj;rw [Nat.zero_add, ← Array.getElem?_toList, hj];rfl
def OldX (R : Nat → Prop) (w0 : World) (base : Nat) (w : World) (z : XO) : Prop := zae R w0 z.2.1.1.1 z.2.1.2 ∧ (zc0 R w0 z.2.2.2.1.1 z.2.2.2.2 ∨ zd1 base w z.2.2.2.1.1 z.2.2.2.2)
theorem OldX.calm {R : Nat → Prop} {w0 w w' : World} {base : Nat} {z : XO} (h : OldX R w0 base w z) (hc : zj 3 w w') : OldX R w0 base w' z := ⟨h.1, h.2.imp id (fun h => h.calm hc)⟩
theorem OldX.op {R : Nat → Prop} {w0 w : World} {base : Nat} {z : XO} (h : OldX R w0 base w z) (hb : Z w0.heap.size w0 w) (hR : ∀ b, R b → b < base) : OpR R w z := ⟨h.1.below hb, h.2.elim (fun h => h.below hb) (fun h => h.intsR hR)⟩
theorem zd.new1 {α : Type} {e : TypeId} {size : Nat} {enc : α → List Value} (he : ∀ x, (enc x).length = size) (w : World) {base : Nat} (hb : base ≤ w.heap.size) (x : α) {vs : Array Value} (hv : vs.toList = enc x) : zd e size enc (w.alloc (T vs e)) base (G (some ⟨w.heap.size, 0, U⟩) 1 1) [x] := by
 have hl : vs.toList.length = size := by rw [hv, he]
 refine ⟨by simp [zx, he], Or.inr ⟨w.heap.size, 1, vs, rfl, hb, heap_alloc_new w _, kaa _, by unfold maxLen; omega, by simpa using hl, ?_⟩⟩;rw [hv, List.take_of_length_le (by rw [he]; simp)];simp [zx]
theorem zm.new1 (w : World) {base : Nat} (hb : base ≤ w.heap.size) (k d h : Int) : zm (w.alloc (T #[E J k, E J d, E J h, G U 0 0] 43)) base (G (some ⟨w.heap.size, 0, U⟩) 1 1) [(k, d, h, [])] :=
 ⟨[(k, d, h, (none, 0), [])], zd.new1 zbw w hb _ rfl, rfl, fun x hx => by rw [kab.1 hx]; exact Or.inl rfl⟩
structure za3 (R : Nat → Prop) (w0 : World) (h0 h1 h2 h3 m0 m1 m2 m3 : Value) (bt nx : Int) (w : World) (la : Option Addr) (nl lc : Nat) (Y : List XL) (va : Option Addr) (vn vc : Nat) (jz : List XO) (sv : Value) (L : List R3) (O : List O4) (ms : List Q4) : Prop where
 hb : Blk w w0.heap.size #[h0, h1, h2, h3] 29
 mb : Blk w (w0.heap.size + 1) #[m0, m1, m2, m3] 43
 rb : Blk w (w0.heap.size + 2) #[G U 0 0, E J 0, E J 0, G U 0 0] 29
 ob : Blk w (w0.heap.size + 3) #[G la nl lc, E J bt, E J nx, G va vn vc] 29
 ln : nl = Y.length
 log : (zk 3 zaj w0 la Y ∧ Out R la Y.length) ∨ zd 68 3 zaj w (w0.heap.size + 4) (G la nl lc) Y
 says : Y.map zf = L
 lp : ∀ y ∈ Y, zae R w0 y.2.2.1.1 y.2.2.2
 own : zd 38 4 zan w (w0.heap.size + 4) (G va vn vc) jz
 os : jz.map zz = O
 op : ∀ z ∈ jz, OldX R w0 (w0.heap.size + 4) w z
 ms : zm w (w0.heap.size + 4) sv ms
 bel : Z w0.heap.size w0 w
 sz : w0.heap.size + 4 ≤ w.heap.size
section
variable {R : Nat → Prop} {w0 w w' : World} {h0 h1 h2 h3 m0 m1 m2 m3 : Value} {bt nx : Int} {la : Option Addr} {nl lc : Nat} {Y : List XL} {va : Option Addr} {vn vc : Nat} {jz : List XO} {sv : Value} {L : List R3} {O : List O4} {ms : List Q4}
theorem za3.below (H : za3 R w0 h0 h1 h2 h3 m0 m1 m2 m3 bt nx w la nl lc Y va vn vc jz sv L O ms) (hb : Z w.heap.size w w') : za3 R w0 h0 h1 h2 h3 m0 m1 m2 m3 bt nx w' la nl lc Y va vn vc jz sv L O ms :=
 ⟨H.hb.below hb H.hb.lt, H.mb.below hb H.mb.lt, H.rb.below hb H.rb.lt, H.ob.below hb H.ob.lt, H.ln, H.log.imp id (fun h => h.below hb (kaa _)), H.says, H.lp, H.own.below hb (kaa _), H.os, fun z hz => (H.op z hz).calm (zj.below hb (kaa _)), H.ms.below hb, H.bel.trans (hb.mono H.bel.size), Nat.le_trans H.sz hb.size⟩
theorem za3.say (H : za3 R w0 h0 h1 h2 h3 m0 m1 m2 m3 bt nx w la nl lc Y va vn vc jz sv L O ms) {sv' : Value} {ms' : List Q4} (hm : zm w (w0.heap.size + 4) sv' ms') : za3 R w0 h0 h1 h2 h3 m0 m1 m2 m3 bt nx w la nl lc Y va vn vc jz sv' L O ms' :=
 ⟨H.hb, H.mb, H.rb, H.ob, H.ln, H.log, H.says, H.lp, H.own, H.os, H.op, hm, H.bel, H.sz⟩
theorem za3.push (H : za3 R w0 h0 h1 h2 h3 m0 m1 m2 m3 bt nx w la nl lc Y va vn vc jz sv L O ms) {w4 : World} (hg : w.grownBy w4 (Value.ownBlock (G va vn vc))) {a4 : Option Addr} {n4 c4 : Nat} {z : XO} (h4 : zd 38 4 zan w4 (w0.heap.size + 4) (G a4 n4 c4) (jz ++ [z])) (hz : OldX R w0 (w0.heap.size + 4) w z) :
  za3 R w0 h0 h1 h2 h3 m0 m1 m2 m3 bt nx (r w4 ⟨w0.heap.size + 3, 3, U⟩ (G a4 n4 c4)) la nl lc Y a4 n4 c4 (jz ++ [z]) sv L (O ++ [zz z]) ms := by
 have hne : ∀ b, b < w0.heap.size + 4 → Value.ownBlock (G va vn vc) ≠ some b := fun b hb e => by have := H.own.base _ e; omega
 have o4 := H.ob.keptNe hg (hne _ (by omega));have hCi : zj 3 w (r w4 ⟨w0.heap.size + 3, 3, U⟩ (G a4 n4 c4)) := (zj.grown hg (H.own.grownT (by decide))).trans (zj.setCell (a := ⟨w0.heap.size + 3, 3, U⟩) o4 (by decide) _);refine ⟨(H.hb.keptNe hg (hne _ (by omega))).setOther (a := ⟨w0.heap.size + 3, 3, U⟩) (by simp) _, (H.mb.keptNe hg (hne _ (by omega))).setOther (a := ⟨w0.heap.size + 3, 3, U⟩) (by simp) _, (H.rb.keptNe hg (hne _ (by omega))).setOther (a := ⟨w0.heap.size + 3, 3, U⟩) (by simp) _, o4.set 3 _, H.ln, H.log.imp id (fun h => (h.keptT hg (H.own.grownT (by decide))).setOther (a := ⟨w0.heap.size + 3, 3, U⟩) o4 (by decide) _), H.says, H.lp, h4.setOther (a := ⟨w0.heap.size + 3, 3, U⟩) o4 (by decide) _, by rw [List.map_append, H.os]; rfl, fun x hx => ?_, ?_, (H.bel.grown hg H.bel.size (fun k hk => by have := H.own.base _ hk; omega)).setCell (by simp) _, ?_⟩
 ·rcases List.mem_append.1 hx with hx | hx
  ·exact (H.op x hx).calm hCi
  ·rw [kab.1 hx]; exact hz.calm hCi
 ·obtain ⟨zX, z1, z2, z3⟩ := H.ms.keptT hg (H.own.kinds (by decide) (by decide))
  exact ⟨zX, z1.setOther (a := ⟨w0.heap.size + 3, 3, U⟩) o4 (by decide) _, z2, fun x hx => (z3 x hx).calm (zj.setCell (a := ⟨w0.heap.size + 3, 3, U⟩) o4 (by decide) _)⟩
 ·have h1 := hg.size
  have := H.sz;simp [World.setCell]
  omega
theorem za3.box (H : za3 R w0 h0 h1 h2 h3 m0 m1 m2 m3 bt nx w la nl lc Y va vn vc jz sv L O ms) {ob j : Nat} {cs : Array Value} (hb : Blk w ob cs 38) (hne : Value.ownBlock (G va vn vc) ≠ some ob) (ho : w0.heap.size + 4 ≤ ob) (v : Value) :
  za3 R w0 h0 h1 h2 h3 m0 m1 m2 m3 bt nx (r w ⟨ob, j, U⟩ v) la nl lc Y va vn vc jz sv L O ms := by
 refine ⟨H.hb.setOther (a := ⟨ob, j, U⟩) (by simp; omega) _, H.mb.setOther (a := ⟨ob, j, U⟩) (by simp; omega) _, H.rb.setOther (a := ⟨ob, j, U⟩) (by simp; omega) _, H.ob.setOther (a := ⟨ob, j, U⟩) (by simp; omega) _, H.ln, H.log.imp id (fun h => h.setOther (a := ⟨ob, j, U⟩) hb (by decide) _), H.says, H.lp, H.own.setNew (a := ⟨ob, j, U⟩) hne _, H.os, fun x hx => (H.op x hx).calm (zj.setCell (a := ⟨ob, j, U⟩) hb (by decide) _), ?_, H.bel.setCell (by simp; omega) _, ?_⟩
 ·obtain ⟨zX, z1, z2, z3⟩ := H.ms
  exact ⟨zX, z1.setOther (a := ⟨ob, j, U⟩) hb (by decide) _, z2, fun x hx => (z3 x hx).calm (zj.setCell (a := ⟨ob, j, U⟩) hb (by decide) _)⟩
 ·have := H.sz
  simp [World.setCell]
  omega
theorem za3.note (H : za3 R w0 h0 h1 h2 h3 m0 m1 m2 m3 bt nx w la nl lc Y va vn vc jz sv L O ms) {a4 : Option Addr} {n4 c4 : Nat} {Y4 : List XL} {L4 : List R3} (h4 : zd 68 3 zaj w (w0.heap.size + 4) (G a4 n4 c4) Y4) (hs : Y4.map zf = L4) (hp : ∀ y ∈ Y4, zae R w0 y.2.2.1.1 y.2.2.2) :
  za3 R w0 h0 h1 h2 h3 m0 m1 m2 m3 bt nx (r w ⟨w0.heap.size + 3, 0, U⟩ (G a4 n4 c4)) a4 n4 c4 Y4 va vn vc jz sv L4 O ms := by
 have o4 := H.ob;refine ⟨H.hb.setOther (a := ⟨w0.heap.size + 3, 0, U⟩) (by simp) _, H.mb.setOther (a := ⟨w0.heap.size + 3, 0, U⟩) (by simp) _, H.rb.setOther (a := ⟨w0.heap.size + 3, 0, U⟩) (by simp) _, o4.set 0 _, (h4.at za4).2.1, Or.inr (h4.setOther (a := ⟨w0.heap.size + 3, 0, U⟩) o4 (by decide) _), hs, hp, H.own.setOther (a := ⟨w0.heap.size + 3, 0, U⟩) o4 (by decide) _, H.os, fun x hx => (H.op x hx).calm (zj.setCell (a := ⟨w0.heap.size + 3, 0, U⟩) o4 (by decide) _), ?_, H.bel.setCell (by simp) _, ?_⟩
 ·obtain ⟨zX, z1, z2, z3⟩ := H.ms
  exact ⟨zX, z1.setOther (a := ⟨w0.heap.size + 3, 0, U⟩) o4 (by decide) _, z2, fun x hx => (z3 x hx).calm (zj.setCell (a := ⟨w0.heap.size + 3, 0, U⟩) o4 (by decide) _)⟩
 ·have := H.sz
  simp [World.setCell]
  omega
theorem za3.done (H : za3 R w0 h0 h1 h2 h3 m0 m1 m2 m3 bt nx w la nl lc Y va vn vc jz sv L O ms) (hR : ∀ b, R b → b < w0.heap.size) :
  zy R (r (r (r (r w ⟨w0.heap.size + 2, 0, U⟩ (G la nl lc)) ⟨w0.heap.size + 2, 1, U⟩ (E J bt)) ⟨w0.heap.size + 2, 2, U⟩ (E J nx)) ⟨w0.heap.size + 2, 3, U⟩ (G va vn vc)) (.agg #[G la nl lc, E J bt, E J nx, G va vn vc]) ⟨L, bt, nx, O⟩ ∧
  zm (r (r (r (r w ⟨w0.heap.size + 2, 0, U⟩ (G la nl lc)) ⟨w0.heap.size + 2, 1, U⟩ (E J bt)) ⟨w0.heap.size + 2, 2, U⟩ (E J nx)) ⟨w0.heap.size + 2, 3, U⟩ (G va vn vc)) w0.heap.size sv ms ∧
  Z w0.heap.size w0 (r (r (r (r w ⟨w0.heap.size + 2, 0, U⟩ (G la nl lc)) ⟨w0.heap.size + 2, 1, U⟩ (E J bt)) ⟨w0.heap.size + 2, 2, U⟩ (E J nx)) ⟨w0.heap.size + 2, 3, U⟩ (G va vn vc)) ∧
  Blk (r (r (r (r w ⟨w0.heap.size + 2, 0, U⟩ (G la nl lc)) ⟨w0.heap.size + 2, 1, U⟩ (E J bt)) ⟨w0.heap.size + 2, 2, U⟩ (E J nx)) ⟨w0.heap.size + 2, 3, U⟩ (G va vn vc)) (w0.heap.size + 2) #[G la nl lc, E J bt, E J nx, G va vn vc] 29 := by
 have hR4 : ∀ b, R b → b < w0.heap.size + 4 := fun b hb => by have := hR b hb; omega
 have hat := H.own.at zas
 have hF : zbk R w la nl Y va vn jz L O := by
  refine ⟨H.ln, ?_, ?_, H.says, fun y hy => (H.lp y hy).below H.bel, hat.2.1, hat.1, H.own.outR hR4 _, H.os, fun z hz => (H.op z hz).op H.bel hR4⟩
  ·rcases H.log with h | h
   ·exact h.1.below H.bel
   ·exact (h.at za4).1
  ·rcases H.log with h | h
   ·exact h.2
   ·exact h.outR hR4 _
 have hRR : zbk (fun b => R b ∨ b = w0.heap.size + 2) w la nl Y va vn jz L O := by
  refine ⟨H.ln, hF.log, ?_, H.says, fun y hy => (((H.lp y hy).wide (R' := fun b => R b ∨ b = w0.heap.size + 2) (fun b hb => hb.imp id (fun h => by omega)))).below H.bel, hat.2.1, hat.1, H.own.outR (fun b hb => hb.elim (hR4 b) (fun h => by omega)) _, H.os, fun z hz => ?_⟩
  ·rcases H.log with h | h
   ·exact h.1.out h.2 (fun b hb => hb.imp id (fun h => by omega))
   ·exact h.outR (fun b hb => hb.elim (hR4 b) (fun h => by omega)) _
  ·have hz0 := H.op z hz
   refine ⟨(hz0.1.wide (R' := fun b => R b ∨ b = w0.heap.size + 2) (fun b hb => hb.imp id (fun h => by omega))).below H.bel, hz0.2.elim (fun h => (h.wide (R' := fun b => R b ∨ b = w0.heap.size + 2) (fun b hb => hb.imp id (fun h => by omega))).below H.bel) (fun h => h.intsR (fun b hb => hb.elim (hR4 b) (fun h => by omega)))⟩
 obtain ⟨p1, p2, p3, p4⟩ := zi3 (R := R) (lc := lc) (oc := vc) (bt := bt) (nx := nx) H.rb hRR H.bel (fun b hb => Or.inl hb) (Or.inr rfl) (by omega);exact ⟨p1, (H.ms.set4 H.rb _ _ _ _).mono (by omega), p2, p3⟩
end
structure zbh (w : World) (base : Nat) (la : Option Addr) (nl lc : Nat) (Y : List XL) (oa : Option Addr) (no oc : Nat) (X : List XO) (L : List R3) (O : List O4) : Prop where
 log : zdd w base (G la nl lc) Y
 says : Y.map zf = L
 opn : zd 38 4 zan w base (G oa no oc) X
 osays : X.map zz = O
 op : ∀ x ∈ X, zam base w x.2.1.1.1 x.2.1.2 ∧ zd1 base w x.2.2.2.1.1 x.2.2.2.2
theorem zd1.mono {base base' : Nat} {w : World} {a : Option Addr} {l : List Int} (h : zd1 base w a l) (hb : base' ≤ base) : zd1 base' w a l := by
 rcases h with h | ⟨b, o, cs, ha, hB, hb', hx⟩
 ·exact Or.inl h
 ·exact Or.inr ⟨b, o, cs, ha, Nat.le_trans hb hB, hb', hx⟩
section
variable {w w' : World} {base : Nat} {la : Option Addr} {nl lc : Nat} {Y : List XL} {oa : Option Addr} {no oc : Nat} {X : List XO} {L : List R3} {O : List O4}
theorem zbh.below (H : zbh w base la nl lc Y oa no oc X L O) (hb : Z w.heap.size w w') : zbh w' base la nl lc Y oa no oc X L O :=
 ⟨⟨H.log.1.below hb (kaa _), fun y hy => (H.log.2 y hy).calm (zj.below hb (kaa _))⟩, H.says, H.opn.below hb (kaa _), H.osays, fun x hx => ⟨(H.op x hx).1.calm (zj.below hb (kaa _)), (H.op x hx).2.calm (zj.below hb (kaa _))⟩⟩
theorem zbh.mono (H : zbh w base la nl lc Y oa no oc X L O) {base' : Nat} (hb : base' ≤ base) : zbh w base' la nl lc Y oa no oc X L O :=
 ⟨⟨H.log.1.mono hb, fun y hy => (H.log.2 y hy).mono hb⟩, H.says, H.opn.mono hb, H.osays, fun x hx => ⟨(H.op x hx).1.mono hb, (H.op x hx).2.mono hb⟩⟩
theorem zbh.set (H : zbh w base la nl lc Y oa no oc X L O) {N i : Nat} {cs : Array Value} {t : TypeId} (hb : Blk w N cs t) (h1 : t ≠ 68) (h2 : t ≠ 38) (h3 : t ≠ 49) (h4 : t ≠ 3) (u : Value) : zbh (r w ⟨N, i, U⟩ u) base la nl lc Y oa no oc X L O :=
 ⟨⟨H.log.1.setOther (a := ⟨N, i, U⟩) hb h1 _, fun y hy => (H.log.2 y hy).calm (zj.setCell (a := ⟨N, i, U⟩) hb h3 _)⟩, H.says, H.opn.setOther (a := ⟨N, i, U⟩) hb h2 _, H.osays, fun x hx => ⟨(H.op x hx).1.calm (zj.setCell (a := ⟨N, i, U⟩) hb h3 _), (H.op x hx).2.calm (zj.setCell (a := ⟨N, i, U⟩) hb h4 _)⟩⟩
theorem zbh.box (H : zbh w base la nl lc Y oa no oc X L O) {N i : Nat} {cs : Array Value} (hb : Blk w N cs 38) (hne : Value.ownBlock (G oa no oc) ≠ some N) (u : Value) : zbh (r w ⟨N, i, U⟩ u) base la nl lc Y oa no oc X L O :=
 ⟨⟨H.log.1.setOther (a := ⟨N, i, U⟩) hb (by decide) _, fun y hy => (H.log.2 y hy).calm (zj.setCell (a := ⟨N, i, U⟩) hb (by decide) _)⟩, H.says, H.opn.setNew (a := ⟨N, i, U⟩) hne _, H.osays, fun x hx => ⟨(H.op x hx).1.calm (zj.setCell (a := ⟨N, i, U⟩) hb (by decide) _), (H.op x hx).2.calm (zj.setCell (a := ⟨N, i, U⟩) hb (by decide) _)⟩⟩
theorem zbh.push (H : zbh w base la nl lc Y oa no oc X L O) (hg : w.grownBy w' (Value.ownBlock (G oa no oc))) {a4 : Option Addr} {n4 c4 : Nat} {z : XO} (h4 : zd 38 4 zan w' base (G a4 n4 c4) (X ++ [z])) (hp : zam base w z.2.1.1.1 z.2.1.2) (hi : zd1 base w z.2.2.2.1.1 z.2.2.2.2) :
  zbh w' base la nl lc Y a4 n4 c4 (X ++ [z]) L (O ++ [zz z]) := by
 have hk := H.opn.kinds (t := 49) (t' := 68) (by decide) (by decide);have hcP : zj 49 w w' := zj.grown hg (H.opn.grownT (by decide));have hcI : zj 3 w w' := zj.grown hg (H.opn.grownT (by decide));refine ⟨⟨H.log.1.keptT hg (H.opn.grownT (by decide)), fun y hy => (H.log.2 y hy).calm hcP⟩, H.says, h4, by rw [List.map_append, H.osays]; rfl, fun x hx => ?_⟩;rcases List.mem_append.1 hx with hx | hx
 ·exact ⟨(H.op x hx).1.calm hcP, (H.op x hx).2.calm hcI⟩
 ·rw [kab.1 hx]; exact ⟨hp.calm hcP, hi.calm hcI⟩
theorem zbh.f (H : zbh w base la nl lc Y oa no oc X L O) {R : Nat → Prop} (hR : ∀ b, R b → b < base) : zbk R w la nl Y oa no X L O := by
 have h1 := H.log.1.at za4;have h2 := H.opn.at zas;exact ⟨h1.2.1, h1.1, H.log.1.outR hR _, H.says, fun y hy => (H.log.2 y hy).outR hR, h2.2.1, h2.1, H.opn.outR hR _, H.osays, fun x hx => ⟨(H.op x hx).1.outR hR, (H.op x hx).2.intsR hR⟩⟩
theorem zbh.v (H : zbh w base la nl lc Y oa no oc X L O) {R : Nat → Prop} (hR : ∀ b, R b → b < base) {g : Gh} (hL : g.log = L) (hO : g.opn = O) : zy R w (.agg #[G la nl lc, E J g.boot, E J g.next, G oa no oc]) g := by
 subst hL hO;exact ⟨la, nl, lc, Y, oa, no, oc, X, rfl, H.f hR⟩
end
def hvO (x : XO) : Value := G x.2.2.2.1.1 x.2.2.2.2.length x.2.2.2.1.2
structure zb1 (w : World) (base : Nat) (X : List XO) : Prop where
 own : ∀ x ∈ X, zd 3 1 zv w base (hvO x) x.2.2.2.2
 ne : X.Pairwise fun x y => ∀ b, (hvO x).ownBlock = some b → (hvO y).ownBlock ≠ some b
theorem zb1.nil (w : World) (base : Nat) : zb1 w base [] := ⟨(fun x hx => by cases hx), List.Pairwise.nil⟩
theorem zb1.below {w w' : World} {base : Nat} {X : List XO} (H : zb1 w base X) (hb : Z w.heap.size w w') : zb1 w' base X := ⟨fun x hx => (H.own x hx).below hb (kaa _), H.ne⟩
theorem zb1.mono {w : World} {base base' : Nat} {X : List XO} (H : zb1 w base X) (hb : base' ≤ base) : zb1 w base' X := ⟨fun x hx => (H.own x hx).mono hb, H.ne⟩
theorem zb1.set {w : World} {base : Nat} {X : List XO} (H : zb1 w base X) {N i : Nat} {cs : Array Value} {t : TypeId} (hb : Blk w N cs t) (ht : t ≠ 3) (u : Value) : zb1 (r w ⟨N, i, U⟩ u) base X := ⟨fun x hx => (H.own x hx).setOther (a := ⟨N, i, U⟩) hb ht _, H.ne⟩
theorem zb1.grown {w w' : World} {base : Nat} {X : List XO} (H : zb1 w base X) {row : Option Nat} (hg : w.grownBy w' row) (hr : ∀ k, row = some k → ∃ cs t, Blk w k cs t ∧ t ≠ 3) : zb1 w' base X := ⟨fun x hx => (H.own x hx).keptT hg hr, H.ne⟩
theorem zb1.lt {w : World} {base : Nat} {X : List XO} (H : zb1 w base X) : ∀ x ∈ X, ∀ b, (hvO x).ownBlock = some b → b < w.heap.size := fun x hx b hb => by
 obtain ⟨_, cs, hB⟩ := (H.own x hx).blk hb;exact hB.lt
theorem zb1.push {w : World} {base B : Nat} {X : List XO} (H : zb1 w base X) {z : XO} (hz : zd 3 1 zv w B (hvO z) z.2.2.2.2) (hB : base ≤ B) (hlt : ∀ x ∈ X, ∀ b, (hvO x).ownBlock = some b → b < B) : zb1 w base (X ++ [z]) := by
 refine ⟨fun x hx => ?_, List.pairwise_append.2 ⟨H.ne, List.pairwise_singleton _ _, fun x hx y hy b hb e => ?_⟩⟩
 ·rcases List.mem_append.1 hx with hx | hx
  ·exact H.own x hx
  ·rw [kab.1 hx]; exact hz.mono hB
 ·rw [kab.1 hy] at e
  have h1 := hlt x hx b hb;have h2 := hz.base _ e;omega
abbrev M4 := Int × Int × Int × List P3
def Byt (b : List Nat) : Prop := ∀ c ∈ b, c < 256
def zgs (s c : Nat) : Nat := (s * 263 + c + 1) % 65521
def zce (b : List Nat) : Nat := b.foldl zgs 5
theorem znd (s c : Nat) : zgs s c < 65521 := Nat.mod_lt _ (by decide)
theorem zkf : ∀ (b : List Nat) (s : Nat), s < 65521 → b.foldl zgs s < 65521
 | [], _, h => h
 | _ :: t, _, _ => zkf t _ (znd _ _)
theorem zh4 (b : List Nat) : zce b < 65521 := zkf b 5 (by decide)
theorem sumB_snoc (b : List Nat) (c : Nat) : zce (b ++ [c]) = zgs (zce b) c := by simp [zce]
def zef (n : Int) : Nat := if n < 0 then (-1 - n).toNat * 2 + 1 else n.toNat * 2
def zfa (u : Nat) : Int := if u % 2 = 1 then -1 - ((u / 2 : Nat) : Int) else ((u / 2 : Nat) : Int)
theorem zn9 (n : Int) : zfa (zef n) = n := by
 unfold zfa zef; split <;> split <;> omega
theorem fold_lt {n : Int} (h1 : -1099511627776 < n) (h2 : n < 1099511627776) : zef n < 2199023255552 := by
 unfold zef; split <;> omega
def zc5 : Nat → Nat → List Nat
 | 0, u => [u]
 | f + 1, u => if u < 128 then [u] else (u % 128 + 128) :: zc5 f (u / 128)
def zap (n : Int) : List Nat := zc5 9 (zef n)
theorem zg9 (f : Nat) {u : Nat} (h : u < 128) : zc5 f u = [u] := by
 cases f with
 | zero => rfl
 | succ f => simp [zc5, h]
theorem zhc (f : Nat) {u : Nat} (h : ¬ u < 128) : zc5 (f + 1) u = (u % 128 + 128) :: zc5 f (u / 128) := by simp [zc5, h]
theorem zko : ∀ (f u : Nat), 1 ≤ (zc5 f u).length ∧ (zc5 f u).length ≤ f + 1
 | 0, _ => by simp [zc5]
 | f + 1, u => by
  have ih := zko f (u / 128);by_cases h : u < 128
  ·rw [zg9 _ h]; simp
  ·rw [zhc _ h]; simp; omega
theorem zfv (n : Int) : 1 ≤ (zap n).length ∧ (zap n).length ≤ 10 := zko 9 _
theorem zlr : ∀ (f u : Nat), u < 128 ^ f * 128 → Byt (zc5 f u)
 | 0, u, h => by intro c hc; simp [zc5] at hc; omega
 | f + 1, u, h => by
  by_cases h' : u < 128
  ·rw [zg9 _ h']; intro c hc; simp at hc; omega
  ·rw [zhc _ h']
   intro c hc;rcases List.mem_cons.1 hc with rfl | hc
   ·omega
   ·exact zlr f (u / 128) (by rw [Nat.pow_succ] at h; omega) c hc
theorem zl9 {n : Int} (h1 : -9223372036854775808 ≤ n) (h2 : n ≤ 9223372036854775807) : zef n < 18446744073709551616 := by
 unfold zef; split <;> omega
theorem zfi {n : Int} (h1 : -9223372036854775808 ≤ n) (h2 : n ≤ 9223372036854775807) : Byt (zap n) := zlr 9 _ (by have := zl9 h1 h2; omega)
def zd9 : Nat → Nat → List Nat → Int × Nat × Int
 | _, _, [] => (0, 0, 8)
 | k, u, c :: t => if k = 6 then (0, 0, 3) else if 128 ≤ c then zd9 (k + 1) (u + c % 128 * 128 ^ k) t
  else if c = 0 ∧ 0 < k then (0, 0, 2) else (zfa (u + c % 128 * 128 ^ k), k + 1, 0)
def zt (b : List Nat) : Int × Nat × Int := zd9 0 0 b
theorem get_num : ∀ (f k u a : Nat) (jj : List Nat), 6 ≤ f + k → k < 6 → u < 128 ^ (6 - k) → (0 < k → 0 < u) →
  zd9 k a (zc5 f u ++ jj) = (zfa (a + u * 128 ^ k), k + (zc5 f u).length, 0)
 | 0, k, _, _, _, h, hk, _, _ => by omega
 | f + 1, k, u, a, jj, h, hk, hu, hp => by
  by_cases h' : u < 128
  ·rw [zg9 _ h']
   have h1 : ¬ k = 6 := by omega
   have h2 : ¬ 128 ≤ u := by omega
   have h3 : ¬ (u = 0 ∧ 0 < k) := by rintro ⟨x, y⟩; have := hp y; omega
   simp only [List.cons_append, List.nil_append, zd9, h1, h2, h3, if_false, Nat.mod_eq_of_lt h', List.length_cons, List.length_nil]
  ·rw [zhc _ h']
   have h1 : ¬ k = 6 := by omega
   have h2 : 128 ≤ u % 128 + 128 := by omega
   have h3 : (u % 128 + 128) % 128 = u % 128 := by omega
   have h5 : k + 1 < 6 := by
    rcases Nat.lt_or_ge (k + 1) 6 with h | h
    ·exact h
    ·have : k = 5 := by omega
     subst this;simp at hu
     omega
   have h6 : 128 ^ (6 - k) = 128 ^ (6 - (k + 1)) * 128 := by rw [← Nat.pow_succ]; congr 1; omega
   have h7 : u / 128 < 128 ^ (6 - (k + 1)) := by rw [h6] at hu; omega
   have ih := get_num f (k + 1) (u / 128) (a + u % 128 * 128 ^ k) jj (by omega) h5 h7 (fun _ => by omega);simp only [List.cons_append, zd9, h1, h2, h3, if_false, if_true, ih, List.length_cons]
   have h8 : a + u % 128 * 128 ^ k + u / 128 * 128 ^ (k + 1) = a + u * 128 ^ k := by
    have : u = 128 * (u / 128) + u % 128 := by omega
    conv => rhs; rw [this]
    rw [Nat.pow_succ, Nat.add_mul, Nat.mul_comm 128 (u / 128), Nat.mul_assoc (u / 128), Nat.mul_comm 128 (128 ^ k)];omega
   rw [h8];congr 2
   omega
def zc2 (st : List Nat × Int) : Int × List Nat × Int :=
 if st.2 = 0 then ((zt st.1).1, st.1.drop (zt st.1).2.1, (zt st.1).2.2) else (0, st)
theorem get_numB {n : Int} (h1 : -1099511627776 < n) (h2 : n < 1099511627776) (jj : List Nat) : zt (zap n ++ jj) = (n, (zap n).length, 0) := by
 have := get_num 9 0 (zef n) 0 jj (by omega) (by omega) (by have := fold_lt h1 h2; omega) (fun h => by omega);simp only [Nat.pow_zero, Nat.mul_one, Nat.zero_add, zn9] at this
 exact this
theorem zg8 {n : Int} (h1 : -1099511627776 < n) (h2 : n < 1099511627776) (jj : List Nat) : zc2 (zap n ++ jj, 0) = (n, jj, 0) := by
 have := get_numB h1 h2 jj;simp [zc2, this]
def zb5 (h : Int) : Nat → List Nat × Int → List P3 × List Nat × Int
 | 0, st => ([], st)
 | m + 1, st => if st.2 = 0 then ((h, (zc2 st).1, (zc2 (zc2 st).2).1) :: (zb5 h m (zc2 (zc2 st).2).2).1, (zb5 h m (zc2 (zc2 st).2).2).2) else ([], st)
def zb2 (l : List P3) : List Nat := l.flatMap fun p => zap p.2.1 ++ zap p.2.2
def Fine (h : Int) (l : List P3) : Prop := ∀ p ∈ l, p.1 = h ∧ (0 ≤ p.2.1 ∧ p.2.1 < 4) ∧ -1048576 ≤ p.2.2 ∧ p.2.2 ≤ 1048576
theorem zkn (h : Int) : ∀ (l : List P3) (jj : List Nat), Fine h l → zb5 h l.length (zb2 l ++ jj, 0) = (l, jj, 0)
 | [], jj, _ => by simp [zb5, zb2]
 | p :: t, jj, hl => by
  obtain ⟨h1, h2, h3⟩ := hl p (List.mem_cons_self ..);have ih := zkn h t jj fun q hq => hl q (List.mem_cons_of_mem _ hq)
  have e : zb2 (p :: t) ++ jj = zap p.2.1 ++ (zap p.2.2 ++ (zb2 t ++ jj)) := by simp [zb2]
  simp only [List.length_cons, zb5, e, zg8 (n := p.2.1) (by omega) (by omega), zg8 (n := p.2.2) (by omega) (by omega), ih, if_true]
  rw [← h1]
def zel (s : Int × List Nat × Int) : Int := if s.2.2 = 0 ∧ (s.1 < 0 ∨ 4 < s.1) then 5 else s.2.2
def zfn (s : List Nat × Int) : Int := if s.2 = 0 ∧ 0 < s.1.length then 2 else s.2
def zfu (b : List Nat) : M4 × Int :=
 let s1 := zc2 (b.drop 1, 0)
 let s2 := zc2 s1.2
 let s3 := zc2 s2.2
 let ps := zb5 s2.1 s3.1.toNat (s3.2.1, zel s3)
 (((b.getD 0 0 : Nat), s1.1, s2.1, ps.1), zfn ps.2)
def zdo (m : M4) : Int :=
 if m.1 < 1 ∨ 7 < m.1 then 1 else if m.2.1 < 0 ∨ 1344 ≤ m.2.1 ∨ m.2.2.1 < 0 ∨ 3 ≤ m.2.2.1 then 3
 else if m.1 = 1 then (if zay m.2.2.2 3 = 0 then (if (ofB m.2.2.2 m.2.2.1).length < m.2.2.2.length then 3 else 0) else zay m.2.2.2 3)
 else if 0 < m.2.2.2.length then 5 else 0
def zco (m : M4) : List Nat := (m.1 % 256).toNat :: (zap m.2.1 ++ (zap m.2.2.1 ++ (zap m.2.2.2.length ++ zb2 m.2.2.2)))
def tailB (b : List Nat) : List Nat := [zce b / 256, zce b % 256]
def zau (m : M4) : List Nat := zco m ++ tailB (zco m)
def m0 : M4 := (0, 0, 0, [])
def endB (b : List Nat) : Nat := b.getD (b.length - 2) 0 * 256 + b.getD (b.length - 1) 0
def zej (b : List Nat) : M4 × Int :=
 if b.length < 3 then (m0, 8) else if zce (b.take (b.length - 2)) = endB b then
  (let jj := zfu (b.take (b.length - 2)); let e := if jj.2 = 0 then zdo jj.1 else jj.2; if e = 0 then (jj.1, 0) else (m0, e)) else (m0, 7)
theorem zim {m : M4} (h : zdo m = 0) : (1 ≤ m.1 ∧ m.1 ≤ 7) ∧ (0 ≤ m.2.1 ∧ m.2.1 < 1344) ∧ (0 ≤ m.2.2.1 ∧ m.2.2.1 < 3) ∧ m.2.2.2.length ≤ 4 ∧ Fine m.2.2.1 m.2.2.2 := by
 unfold zdo at h
 split at h
 ·omega
 split at h
 ·omega
 split at h
 ·split at h
  ·rename_i hw
   split at h
   ·omega
   ·rename_i hl
    obtain ⟨_, h4, hin, _⟩ := zc4 hw;refine ⟨by omega, by omega, by omega, h4, fun p hp => ?_⟩
    have qy : ∀ q ∈ m.2.2.2, decide (q.1 = m.2.2.1) = true := by
     have : (ofB m.2.2.2 m.2.2.1).length = m.2.2.2.length := by
      have := List.length_filter_le (fun p : P3 => decide (p.1 = m.2.2.1)) m.2.2.2;simp only [ofB] at hl ⊢
      omega
     exact List.length_filter_eq_length_iff.1 this
    have h1 := qy p hp;have h2 := hin p hp;simp only [inB, decide_eq_true_eq] at h1 h2
    exact ⟨h1, ⟨by omega, by omega⟩, by omega, by omega⟩
  ·omega
 ·split at h
  ·omega
  ·rename_i hn
   have : m.2.2.2 = [] := kac (by omega);refine ⟨by omega, by omega, by omega, by omega, fun p hp => ?_⟩;rw [this] at hp;cases hp
theorem take_body (b t : List Nat) (h : t.length = 2) : (b ++ t).take ((b ++ t).length - 2) = b := by
 have : (b ++ t).length - 2 = b.length := by simp; omega
 rw [this]; simp
theorem endB_two (b : List Nat) (x y : Nat) : endB (b ++ [x, y]) = x * 256 + y := by
 have h1 : (b ++ [x, y]).length - 2 = b.length := by simp
 have h2 : (b ++ [x, y]).length - 1 = b.length + 1 := by simp
 simp only [endB, h1, h2]
 simp [List.getD_eq_getElem?_getD]
theorem zp0 {m : M4} (h : zdo m = 0) : zfu (zco m) = (m, 0) := by
 obtain ⟨k, d, hs, l⟩ := m;obtain ⟨h1, h2, h3, h4, h5⟩ := zim h;simp only at h1 h2 h3 h4 h5
 have e0 : (zco (k, d, hs, l)).drop 1 = zap d ++ (zap hs ++ (zap l.length ++ zb2 l)) := rfl;have e1 : ((zco (k, d, hs, l)).getD 0 0 : Nat) = (k % 256).toNat := rfl;have s1 := zg8 (n := d) (by omega) (by omega) (zap hs ++ (zap l.length ++ zb2 l));have s2 := zg8 (n := hs) (by omega) (by omega) (zap l.length ++ zb2 l);have s3 := zg8 (n := (l.length : Int)) (by omega) (by omega) (zb2 l);have s4 := zkn hs l [] h5;rw [List.append_nil] at s4;have e5 : zel ((l.length : Int), zb2 l, 0) = 0 := by simp only [zel]; rw [if_neg]; omega
 have e6 : (((k % 256).toNat : Nat) : Int) = k := by omega
 simp only [zfu, e0, s1, s2, s3, e5, Int.toNat_natCast, s4, e1, e6]
 simp [zfn]
theorem zjm {m : M4} (h : zdo m = 0) : zej (zau m) = (m, 0) := by
 have hl : ¬ (zau m).length < 3 := by
  have := (zfv m.2.1).1;simp [zau, tailB, zco]; omega
 have he : endB (zau m) = zce (zco m) := by
  simp only [zau, tailB]; rw [endB_two]; omega
 have ht : (zau m).take ((zau m).length - 2) = zco m := take_body _ _ rfl;simp only [zej, hl, if_false, ht, he, if_true, zp0 h, h]
theorem body_byt {m : M4} (h : zdo m = 0) : Byt (zco m) := by
 obtain ⟨h1, h2, h3, h4, h5⟩ := zim h;intro c hc;simp only [zco, List.mem_cons, List.mem_append, zb2, List.mem_flatMap] at hc
 rcases hc with rfl | hc | hc | hc | ⟨p, hp, hc | hc⟩
 ·omega
 ·exact zfi (by omega) (by omega) c hc
 ·exact zfi (by omega) (by omega) c hc
 ·exact zfi (by omega) (by omega) c hc
 ·have := h5 p hp; exact zfi (by omega) (by omega) c hc
 ·have := h5 p hp; exact zfi (by omega) (by omega) c hc
theorem zjh {m : M4} (h : zdo m = 0) : Byt (zau m) := by
 intro c hc;have := zh4 (zco m);simp only [zau, tailB, List.mem_append, List.mem_cons, List.not_mem_nil, or_false] at hc
 rcases hc with hc | rfl | rfl
 ·exact body_byt h c hc
 ·omega
 ·omega
def zdj (w : World) (a : Option Addr) (l : List Nat) : Prop :=
 l = [] ∨ ∃ b o, a = some ⟨b, o, U⟩ ∧ b < w.heap.size ∧ ∀ i (h : i < l.length), w.cell? ⟨b, o + i, U⟩ = some (E .u8 (l[i] : Nat))
theorem zdj.below {w w' : World} {a : Option Addr} {l : List Nat} (h : zdj w a l) (hb : Z w.heap.size w w') : zdj w' a l := by
 rcases h with rfl | ⟨b, o, rfl, hlt, hc⟩
 ·exact Or.inl rfl
 ·refine Or.inr ⟨b, o, rfl, Nat.lt_of_lt_of_le hlt hb.size, fun i hi => ?_⟩
  obtain ⟨hcc, _⟩ := zcz hb;exact (hcc _ _ hlt).trans (hc i hi)
def zdb (l : List Nat) : List Value := l.map fun c : Nat => Value.int .u8 (c : Int)
def zbp (w : World) (base : Nat) (v : Value) (l : List Nat) : Prop := w.ownsRow base 5 1 v l.length (zdb l)
theorem zbp.below {w w' : World} {base : Nat} {v : Value} {l : List Nat} (h : zbp w base v l) {B : Nat} (hb : Z B w w') (hB : w.heap.size ≤ B) : zbp w' base v l := zhf h hb hB
theorem zbp.block {w : World} {base : Nat} {v : Value} {l : List Nat} (h : zbp w base v l) {j : Nat} (hj : v.ownBlock = some j) : base ≤ j := by
 rcases h.2 with ⟨hv, _⟩ | ⟨g, cap, cur, hv, hg, _⟩
 ·rw [hv] at hj; cases hj
 ·rw [hv] at hj; cases hj; exact hg
theorem zbp.base {w : World} {base base' : Nat} {v : Value} {l : List Nat} (h : zbp w base v l) (hb : base' ≤ base) : zbp w base' v l := by
 refine ⟨h.1, ?_⟩;rcases h.2 with h0 | ⟨g, cap, cur, hv, hg, jj⟩
 ·exact Or.inl h0
 ·exact Or.inr ⟨g, cap, cur, hv, by omega, jj⟩
theorem zbp.nil (w : World) (base : Nat) : zbp w base (G U 0 0) [] := World.ownsRow_nil _ _ _ _
theorem zbp.bytes {w : World} {base : Nat} {v : Value} {l : List Nat} (h : zbp w base v l) : ∃ a cap, v = G a l.length cap ∧ zdj w a l ∧ l.length ≤ cap := by
 rcases h.2 with ⟨hv, h0⟩ | ⟨g, cap, cur, hv, hg, hh, jZ, _, hsz, qJ⟩
 ·exact ⟨U, 0, by rw [hv, h0], Or.inl (kac h0), by omega⟩
 ·refine ⟨_, cap, hv, Or.inr ⟨g, 0, rfl, ?_, fun i hi => ?_⟩, jZ⟩
  ·rcases Nat.lt_or_ge g w.heap.size with h' | h'
   ·exact h'
   ·rw [Array.getElem?_eq_none h'] at hh; cases hh
  ·have hj : (zdb l)[i]? = some (E .u8 (l[i] : Nat)) := by simp [zdb, hi]
   rw [cell_of_row w g _ cur _ _ hh];rw [← qJ, List.getElem?_take_of_lt (by omega)] at hj
   simpa using hj
def zeh (w w' : World) (v v' : Value) : Prop := w.grownBy w' v.ownBlock ∧ (v'.ownBlock = v.ownBlock ∨ ∃ g, v'.ownBlock = some g ∧ w.heap.size ≤ g)
theorem zeh.refl (w : World) (v : Value) : zeh w w v v := ⟨⟨rfl, rfl, rfl, kaa _, fun _ _ _ => rfl⟩, Or.inl rfl⟩
theorem zeh.trans {w w1 w2 : World} {v v1 v2 : Value} (h : zeh w w1 v v1) (k : zeh w1 w2 v1 v2) : zeh w w2 v v2 := by
 refine ⟨h.1.andThen k.1 ?_, ?_⟩
 ·intro j hj
  rcases h.2 with e | ⟨g, e, hg⟩
  ·exact Or.inr (e ▸ hj)
  ·rw [e] at hj; cases hj; exact Or.inl hg
 ·rcases k.2 with e | ⟨g, e, hg⟩
  ·rw [e]; exact h.2
  ·exact Or.inr ⟨g, e, Nat.le_trans h.1.size hg⟩
theorem zeh.alloc (w : World) (o : Obj) (v : Value) : zeh w (w.alloc o) v v := ⟨World.grownBy_alloc w o _, Or.inl rfl⟩
theorem zeh.below {w w' : World} {v v' : Value} {base : Nat} {l : List Nat} (h : zeh w w' v v') (ho : zbp w base v l) {B : Nat} (hB : B ≤ base) (hs : B ≤ w.heap.size) : Z B w w' :=
 (Below.refl B w).grown h.1 hs fun _ hj => Nat.le_trans hB (ho.block hj)
theorem zgj : (Try.prog.info? 5).map (fun i => (i.zero, i.size, i.bytes)) = some (some (E .u8 0), 1, 1) := by kernel_rfl
theorem zha {ops : Array Oper} {rest : List Oper} {o : Oper} {a : Act} {zZ : Exit → Act → World → Prop} (w : World) (hgd : o.guard = U) (s x : Operand)
  (ho : o.op = .call { callee := .builtin .append, args := #[s, x], argTypes := #[95, 95] })
  (base : Nat) (v : Value) (l : List Nat) (hs : a.eval s = v) (jx : zbp w base v l) (B m : Nat) (cs : List Nat) (hm : m = cs.length) (h0 : 0 < cs.length) (hx : a.eval x = G (some ⟨B, 0, U⟩) m m)
  (hB : w.heap[B]? = some (T (zdb cs).toArray 5)) (hl : l.length + cs.length ≤ 1000000000) (hbase : base ≤ w.heap.size)
  (h : ∀ g cap w', zbp w' base (G (some ⟨g, 0, U⟩) (l.length + m) cap) (l ++ cs) → zeh w w' v (G (some ⟨g, 0, U⟩) (l.length + m) cap) → wpList Try.prog ops zZ rest (a.put o.dst (G (some ⟨g, 0, U⟩) (l.length + m) cap)) w') : wpList Try.prog ops zZ (o :: rest) a w := by
 subst hm;obtain ⟨i0, hi, hz0, hz1, hz2⟩ := info_parts zgj;refine wpList_append_lies w hgd s x 95 ho base 5 i0 _ 1 1 Try.underlying95 hi hz0 hz1 hz2 rfl (by decide) v l.length (zdb l) hs jx ⟨B, 0, U⟩ cs.length cs.length (zdb cs) hx (by simp [zdb]) (World.news_of_block hB) ?_ h0 (by unfold maxLen; omega) (by omega) hbase w.heap.size rfl ?_
 ·intro u hu
  simp only [zdb, List.mem_map] at hu
  obtain ⟨c, _, rfl⟩ := hu;rfl
 ·intro g cap w' h1 h2 h3 h4
  refine h g cap w' ?_ ⟨h2, ?_⟩
  ·unfold zbp
   simpa [zdb] using h1
  ·rcases h3 with e | e
   ·exact Or.inl e.symm
   ·exact Or.inr ⟨g, rfl, by omega⟩
end Go.Proofs.Ytpcnlifmkhagkaa
