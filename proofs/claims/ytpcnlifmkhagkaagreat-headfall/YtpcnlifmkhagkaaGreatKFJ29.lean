import Derived.Test.YtpcnlifmkhagkaaGreatKFJ28
import Derived.Test.YtpcnlifmkhagkaaGreatKFJ25
set_option maxRecDepth 20000
set_option maxHeartbeats 20000000
namespace Go.Proofs.YtpcnlifmkhagkaaGreat
open Go.RowKit
open Go.Value renaming slice → G, int → E
open Go.IntKind renaming i64 → J
open _root_.Option renaming none → U
open Go.Obj renaming cells → T
open Go.RowKit renaming Hid → Q, Below → Z
open _root_.List renaming mem_singleton → kaa
attribute [local go_sem ↓] Go.wp_at_zero Go.wp_at_succ
section
theorem ze1.all {w : World} {v : Value} {L : List R3} {h : H3} {k : Nat} (hh : ze1 w v L h) (hi : zev k h) (hk : k ≤ 9223372036854775807) : ∃ (la : Option Addr) (nl lc : Nat) (ra : Option Addr) (nr rc : Nat) (XR : List XD) (da : Option Addr) (nd dc : Nat),
  v = .agg #[G la nl lc, E J h.1.1, E J h.1.2.1, E J h.1.2.2.1, E J h.1.2.2.2, G ra nr rc, G da nd dc] ∧ zfb w ra nr XR h.2.1 ∧ nd = h.2.2.length ∧ zk 1 zq w da h.2.2 := by
 obtain ⟨la, nl, lc, Y, ra, nr, rc, XR, da, nd, dc, hv, _, ⟨h4, h5, h6⟩, h7, _, _, h8⟩ := hh;refine ⟨la, nl, lc, ra, nr, rc, XR, da, nd, dc, hv, ⟨h4, ?_, ?_, h6, h5⟩, h7, h8⟩
 ·have h1 := hi.few
  rw [← h5, List.length_map] at h1;omega
 ·intro x hx
  have h1 := (hi.ok (zaz x) (by rw [← h5]; exact List.mem_map.2 ⟨x, hx, rfl⟩)).1;have h2 : x.2.2.length ≤ 4 := h1;omega
theorem zd.one {w : World} {base : Nat} {a : Option Addr} {n c : Nat} {x : XM} (h : zd 25 4 zcf w base (G a n c) [x]) : n = 1 ∧ ∃ g o, a = some ⟨g, o, U⟩ ∧ g < w.heap.size ∧ w.cell? ⟨g, o, U⟩ = some (E J x.1) := by
 have hk := h.at zby
 refine ⟨hk.2.1, ?_⟩;rcases hk.1 with h0 | ⟨g, o, ha, hg, hc⟩
 ·cases h0
 ·exact ⟨g, o, ha, hg, hc 0 (by simp) 0 _ rfl⟩
theorem fieldSums (v0 v1 v2 v3 v4 v5 v6 : Value) (w : World) : (Instr.field 77 (.agg #[v0, v1, v2, v3, v4, v5, v6]) 1).run Tryz.prog w = .ok (.agg #[v1, v2, v3, v4]) w := by kernel_rfl
attribute [local go_sem ↓] fieldSums
end
def zay (R : Nat → Prop) (w : World) (la : Option Addr) (nl : Nat) (oa : Option Addr) (no : Nat) (g : Gh) : Prop := ∃ Y X, zbd R w la nl Y oa no X g.log g.opn
def zcv (R : Nat → Prop) (w : World) (a : Option Addr) (n : Nat) (ms : List Q4) : Prop := ∃ jz, zek R w a n jz ms
section
variable {R R' : Nat → Prop} {w w' : World} {la oa a b : Option Addr} {nl no n m : Nat} {g : Gh} {ms : List Q4}
theorem zay.keep (H : zay R w la nl oa no g) (hk : zh R w w') : zay R w' la nl oa no g := by
 obtain ⟨Y, X, h⟩ := H;exact ⟨Y, X, h.keep hk⟩
theorem zay.below (H : zay R w la nl oa no g) (hb : Z w.heap.size w w') : zay R w' la nl oa no g := H.keep (zdi hb)
theorem zay.wide (H : zay R w la nl oa no g) (hR : ∀ b, R' b → R b ∨ w.heap.size ≤ b) : zay R' w la nl oa no g := by
 obtain ⟨Y, X, h⟩ := H;exact ⟨Y, X, h.wide hR⟩
theorem zay.lnl (H : zay R w la nl oa no g) : nl = g.log.length := by
 obtain ⟨Y, X, h⟩ := H;rw [h.ln, ← h.says, List.length_map]
theorem zay.lno (H : zay R w la nl oa no g) : no = g.opn.length := by
 obtain ⟨Y, X, h⟩ := H;rw [h.on, ← h.osays, List.length_map]
theorem zay.v (H : zay R w la nl oa no g) (lc oc : Nat) : zaa R w (.agg #[G la nl lc, E J g.boot, E J g.next, G oa no oc]) g := by
 obtain ⟨Y, X, h⟩ := H;exact ⟨la, nl, lc, Y, oa, no, oc, X, rfl, h⟩
theorem zaa.toA {v : Value} (H : zaa R w v g) : ∃ la nl lc oa no oc, v = .agg #[G la nl lc, E J g.boot, E J g.next, G oa no oc] ∧ zay R w la nl oa no g := by
 obtain ⟨la, nl, lc, Y, oa, no, oc, X, hv, h⟩ := H;exact ⟨la, nl, lc, oa, no, oc, hv, Y, X, h⟩
theorem zay.get (H : zay R w la nl oa no g) {k : Nat} (hk : k < g.opn.length) : ∃ b o pa pc ha hc, oa = some ⟨b, o, U⟩ ∧ b < w.heap.size ∧ w.cell? ⟨b, o + k * 4, U⟩ = some (E J g.opn[k].1) ∧
  w.cell? ⟨b, o + k * 4 + 1, U⟩ = some (G pa g.opn[k].2.1.length pc) ∧ w.cell? ⟨b, o + k * 4 + 2, U⟩ = some (.bool g.opn[k].2.2.1) ∧ w.cell? ⟨b, o + k * 4 + 3, U⟩ = some (G ha g.opn[k].2.2.2.length hc) := by
 obtain ⟨Y, X, h⟩ := H;have hX : k < X.length := by have := h.osays; rw [← this, List.length_map] at hk; exact hk
 have e : g.opn[k] = zw X[k] := by
  have h1 := h.osays.symm;have h2 : g.opn[k]? = some (zw X[k]) := by rw [h1, List.getElem?_map, List.getElem?_eq_getElem hX]; rfl
  rw [List.getElem?_eq_getElem hk] at h2;exact Option.some.inj h2
 obtain ⟨b, o, ha, hb, c0, c1, c2, c3, -⟩ := h.opns.lies.get hX;rw [e];exact ⟨b, o, _, _, _, _, ha, hb, c0, c1, c2, c3⟩
theorem zcv.keep (H : zcv R w a n ms) (hk : zh R w w') : zcv R w' a n ms := by
 obtain ⟨jz, h⟩ := H;exact ⟨jz, h.keep hk⟩
theorem zcv.below (H : zcv R w a n ms) (hb : Z w.heap.size w w') : zcv R w' a n ms := H.keep (zdi hb)
theorem zcv.wide (H : zcv R w a n ms) (hR : ∀ b, R' b → R b ∨ w.heap.size ≤ b) : zcv R' w a n ms := by
 obtain ⟨jz, h⟩ := H;exact ⟨jz, h.wide hR⟩
theorem zcv.len (H : zcv R w a n ms) : n = ms.length := by
 obtain ⟨jz, h⟩ := H;rw [h.n, ← h.says, List.length_map]
theorem zcv.first {q : Q4} {t : List Q4} (H : zcv R w a n (q :: t)) : ∃ b o, a = some ⟨b, o, U⟩ ∧ b < w.heap.size ∧ w.cell? ⟨b, o, U⟩ = some (E J q.1) := by
 obtain ⟨jz, h⟩ := H;have hs := h.says
 cases jz with
 | nil => cases hs
 | cons z s =>
  rw [List.map_cons] at hs;injection hs with h1 h2
  rcases h.row with h0 | ⟨b, o, rfl, hlt, hc⟩
  ·cases h0
  ·have := hc 0 (by simp) 0 _ rfl
   simp only [Nat.zero_mul, Nat.add_zero, List.getElem_cons_zero] at this
   exact ⟨b, o, rfl, hlt, by rw [← h1]; exact this⟩
theorem zm.toA {base : Nat} {v : Value} (H : zm w base v ms) (hR : ∀ b, R b → b < base) : ∃ a n c, v = G a n c ∧ zcv R w a n ms := by
 obtain ⟨a, n, c, X, hv, h⟩ := H.v hR;exact ⟨a, n, c, hv, X, h⟩
end
structure OkG (g : Gh) : Prop where
 few : zci g.opn
 ok : OkL g.log
 len : g.log.length ≤ 300000
 right : ∀ o ∈ g.opn, zcd o.2.1
 heard : ∀ o ∈ g.opn, o.2.2.2.Nodup ∧ (∀ k ∈ o.2.2.2, k ∈ zu o.2.1) ∧ o.2.2.2.length ≤ 1000
 boot : 0 ≤ g.boot ∧ g.boot ≤ 1000000
 next : 0 ≤ g.next ∧ g.next ≤ 1000000
theorem OkG.size {g : Gh} (K : OkG g) : SizeG g.log g.opn := by
 refine ⟨⟨by have := K.len; omega, fun jj hr => by have := (K.ok jj hr).1; omega⟩, by have := K.few.1; omega, fun o ho => ?_⟩;have := K.few.2 o ho;exact ⟨by omega, by omega⟩
theorem Inv.okG {n : Nat} {P : Int → List P3} {W : WW} (I : Inv n P W) (hok : OkL W.hd.log) (hl : W.hd.log.length ≤ 300000) : OkG W.hd :=
 ⟨I.fewO, hok, hl, I.rightP, I.heard, ⟨by have := I.boot1; omega, by have := I.boot20; omega⟩, I.next0, by have := I.next64; omega⟩
section
variable {R R' : Nat → Prop} {la oa : Option Addr} {nl no : Nat} (lc oc : Nat) {g : Gh} (w : World)
theorem hdOwn_V (hR : ∀ b, R b → b < w.heap.size) (H : zay R w la nl oa no g) (K : OkG g) : Calls Tryz.prog 12 #[.agg #[G la nl lc, E J g.boot, E J g.next, G oa no oc]] w fun e w' => ∃ la' nl' lc' oa' no' oc', e = .returned (.agg #[G la' nl' lc', E J g.boot, E J g.next, G oa' no' oc']) ∧ zay R w' la' nl' oa' no' g ∧ Z w.heap.size w w' := by
 obtain ⟨Y, X, h⟩ := H.wide (R' := fun _ => False) (fun _ h => h.elim);refine (zib la oa nl lc no oc g.boot g.next Y X g.log g.opn w h K.few K.ok (by have := K.len; omega)).mono ?_;rintro e w' ⟨v, rfl, ⟨a2, n2, c2, Y2, a3, n3, c3, X2, rfl, hO⟩, hb⟩;exact ⟨a2, n2, c2, a3, n3, c3, rfl, ⟨Y2, X2, hO.f hR⟩, hb⟩
theorem zly (hR : ∀ b, R b → b < w.heap.size) (H : zay R w la nl oa no g) (K : OkG g) : Calls Tryz.prog 9 #[.agg #[G la nl lc, E J g.boot, E J g.next, G oa no oc]] w fun e w' => ∃ la' nl' lc' oa' no' oc', e = .returned (.tuple #[.agg #[G la' nl' lc', E J (zz g).1.boot, E J (zz g).1.next, G oa' no' oc'], E J (zz g).2]) ∧ zay R w' la' nl' oa' no' (zz g).1 ∧ Z w.heap.size w w' := by
 obtain ⟨Y, X, h⟩ := H.wide (R' := fun _ => False) (fun _ h => h.elim);refine (zpf la oa nl lc no oc g Y X w h K.few K.ok (by have := K.len; omega)).mono ?_;rintro e w' ⟨v, rfl, hV, hb⟩;obtain ⟨la', nl', lc', oa', no', oc', rfl, hA⟩ := (hV R hR).toA;exact ⟨la', nl', lc', oa', no', oc', rfl, hA, hb⟩
theorem hdQuit_V (hR : ∀ b, R b → b < w.heap.size) (H : zay R w la nl oa no g) (K : OkG g) : Calls Tryz.prog 15 #[.agg #[G la nl lc, E J g.boot, E J g.next, G oa no oc]] w fun e w' => ∃ la' nl' lc' oa' no' oc' sa sn sc, e = .returned (.tuple #[.agg #[G la' nl' lc', E J (zt g).1.boot, E J (zt g).1.next, G oa' no' oc'], G sa sn sc]) ∧ zay R w' la' nl' oa' no' (zt g).1 ∧ zcv R w' sa sn (zt g).2 ∧ Z w.heap.size w w' := by
 obtain ⟨Y, X, h⟩ := H.wide (R' := fun _ => False) (fun _ h => h.elim);refine (zpl la oa nl lc no oc g.boot g.next g.log g.opn Y X w h K.few K.ok (by have := K.len; omega) K.right).mono ?_;rintro e w' ⟨v, sv, rfl, hV, hM, hb⟩;obtain ⟨la', nl', lc', oa', no', oc', rfl, hA⟩ := (hV R hR).toA;obtain ⟨sa, sn, sc, rfl, hS⟩ := hM.toA hR;exact ⟨la', nl', lc', oa', no', oc', sa, sn, sc, rfl, hA, hS, hb⟩
theorem hdTick_V (hR : ∀ b, R b → b < w.heap.size) (H : zay R w la nl oa no g) (K : OkG g) : Calls Tryz.prog 18 #[.agg #[G la nl lc, E J g.boot, E J g.next, G oa no oc]] w fun e w' => ∃ sa sn sc, e = .returned (G sa sn sc) ∧ zcv R w' sa sn (ze8 g) ∧ Z w.heap.size w w' := by
 obtain ⟨Y, X, h⟩ := H.wide (R' := fun _ => False) (fun _ h => h.elim);refine (zqr la oa nl lc no oc g.boot g.next X g.opn w h.opns K.few K.right).mono ?_;rintro e w' ⟨sv, rfl, hM, hb⟩;obtain ⟨sa, sn, sc, rfl, hS⟩ := hM.toA hR;exact ⟨sa, sn, sc, rfl, hS, hb⟩
theorem zkj (hR : ∀ b, R b → b < w.heap.size) (H : zay R w la nl oa no g) (K : OkG g) (pa : Option Addr) (np pc : Nat) (l : List P3) (hnp : np = l.length) (hp : zai w pa l) (hr : zcd l) : Calls Tryz.prog 21 #[.agg #[G la nl lc, E J g.boot, E J g.next, G oa no oc], G pa np pc] w fun e w' => ∃ la' nl' lc' oa' no' oc' sa sn sc, e = .returned (.tuple #[.agg #[G la' nl' lc', E J (zo g l).1.boot, E J (zo g l).1.next, G oa' no' oc'], G sa sn sc, E J (zo g l).2.2]) ∧ zay R w' la' nl' oa' no' (zo g l).1 ∧ zcv R w' sa sn (zo g l).2.1 ∧ Z w.heap.size w w' := by
 obtain ⟨Y, X, h⟩ := H.wide (R' := fun _ => False) (fun _ h => h.elim);refine (zpc la oa nl lc no oc g.boot g.next g.log g.opn Y X pa np pc l w h K.few K.ok (by have := K.len; omega) hnp hp hr K.boot K.next).mono ?_;rintro e w' ⟨v, sv, rfl, hV, hM, hb⟩;obtain ⟨la', nl', lc', oa', no', oc', rfl, hA⟩ := (hV R hR).toA;obtain ⟨sa, sn, sc, rfl, hS⟩ := hM.toA hR;exact ⟨la', nl', lc', oa', no', oc', sa, sn, sc, rfl, hA, hS, hb⟩
theorem zkp (hR : ∀ b, R b → b < w.heap.size) (H : zay R w la nl oa no g) (K : OkG g) (mk md mh : Int) (ma : Option Addr) (mn mc : Nat) (ml : List P3) : Calls Tryz.prog 24 #[.agg #[G la nl lc, E J g.boot, E J g.next, G oa no oc], .agg #[E J mk, E J md, E J mh, G ma mn mc]] w fun e w' => ∃ la' nl' lc' oa' no' oc' sa sn sc, e = .returned (.tuple #[.agg #[G la' nl' lc', E J (zj g (mk, md, mh, ml)).1.boot, E J (zj g (mk, md, mh, ml)).1.next, G oa' no' oc'], G sa sn sc]) ∧ zay R w' la' nl' oa' no' (zj g (mk, md, mh, ml)).1 ∧ zcv R w' sa sn (zj g (mk, md, mh, ml)).2 ∧ Z w.heap.size w w' := by
 obtain ⟨Y, X, h⟩ := H.wide (R' := fun _ => False) (fun _ h => h.elim);refine (znb la oa nl lc no oc g.boot g.next g.log g.opn Y X mk md mh ma mn mc ml w h K.few K.ok (by have := K.len; omega) K.right K.heard).mono ?_;rintro e w' ⟨v, sv, rfl, hV, hM, hb⟩;obtain ⟨la', nl', lc', oa', no', oc', rfl, hA⟩ := (hV R hR).toA;obtain ⟨sa, sn, sc, rfl, hS⟩ := hM.toA hR;exact ⟨la', nl', lc', oa', no', oc', sa, sn, sc, rfl, hA, hS, hb⟩
end
theorem hdNew_V {R : Nat → Prop} (w : World) (hR : ∀ b, R b → b < w.heap.size) : Calls Tryz.prog 13 #[] w fun e w' => ∃ la' nl' lc' oa' no' oc', e = .returned (.agg #[G la' nl' lc', E J 1, E J 0, G oa' no' oc']) ∧ zay R w' la' nl' oa' no' (zv [(4, 0, [])]) ∧ Z w.heap.size w w' := by
 refine (hdNew_any w).mono ?_;rintro e w' ⟨v, rfl, hV, hb⟩;obtain ⟨la', nl', lc', oa', no', oc', rfl, hA⟩ := (hV R hR).toA;exact ⟨la', nl', lc', oa', no', oc', rfl, hA, hb⟩
theorem okG80 : OkG (zv [(4, 0, [])]) := ⟨⟨by decide, fun o ho => (by cases ho)⟩, fun jj hr => (by rw [kaa.1 hr]; exact zec), by decide, fun o ho => (by cases ho), fun o ho => (by cases ho), by decide, by decide⟩
section
abbrev p8 : List P3 := [(1, 1, 5)]
abbrev g81 : Gh := ⟨[(4, 0, [])], 1, 1, [(64, p8, false, [])]⟩
abbrev g82 : Gh := ⟨[(4, 0, []), (5, 64, p8)], 1, 1, [(64, p8, true, [])]⟩
abbrev g83 : Gh := ⟨[(4, 0, []), (5, 64, p8), (6, 64, [])], 1, 1, []⟩
abbrev g84 : Gh := ⟨[(4, 0, []), (5, 64, p8), (4, 0, [])], 2, 0, [(64, p8, true, [])]⟩
abbrev g85 : Gh := ⟨[(4, 0, [])], 1, 1, []⟩
theorem zh5 : zcd p8 := by unfold zcd; decide
theorem begin8 : zo (zv [(4, 0, [])]) p8 = (g81, [(1, 64, 1, p8)], 0) := by rfl
theorem yes8 : zj g81 (2, 64, 1, []) = (g82, [(4, 64, 1, [])]) := by rfl
theorem ack8 : zj g82 (6, 64, 1, []) = (g83, []) := by rfl
theorem fall8 : zz g82 = (g84, 0) := by rfl
theorem quit8 : zt g81 = (g85, [(5, 64, 1, [])]) := by rfl
theorem tick8 : ze8 g82 = [(4, 64, 1, [])] := by rfl
theorem okP8 : OkP p8 := zff zh5
theorem okG81 : OkG g81 := ⟨⟨by decide, fun o ho => by rw [kaa.1 ho]; decide⟩, fun jj hr => by rw [kaa.1 hr]; exact zec, by decide, fun o ho => by rw [kaa.1 ho]; exact zh5, fun o ho => by rw [kaa.1 ho]; exact ⟨List.nodup_nil, fun k hk => (by cases hk), by decide⟩, by decide, by decide⟩
theorem okG82 : OkG g82 := ⟨⟨by decide, fun o ho => by rw [kaa.1 ho]; decide⟩, fun jj hr => by simp at hr; rcases hr with rfl | rfl; exact zec; exact okP8, by decide, fun o ho => by rw [kaa.1 ho]; exact zh5, fun o ho => by rw [kaa.1 ho]; exact ⟨List.nodup_nil, fun k hk => (by cases hk), by decide⟩, by decide, by decide⟩
theorem fieldLog (la oa : Option Addr) (nl lc no oc : Nat) (bt nx : Int) (w : World) : (Instr.field 29 (.agg #[G la nl lc, E J bt, E J nx, G oa no oc]) 0).run Tryz.prog w = .ok (G la nl lc) w := by kernel_rfl
attribute [local go_sem ↓] fieldLog
theorem zoo (w : World) :
  Calls Tryz.prog 26 #[] w fun e w' => e = .returned (.bool true) ∧ Z w.heap.size w w' := by
 have hb0 := zg w (T #[E J 1, E J 1, E J 5] 90);have hp0 : Blk (w.alloc (T #[E J 1, E J 1, E J 5] 90)) w.heap.size #[E J 1, E J 1, E J 5] 90 := Blk.new _ _ _;go_enter Tryz.func26, Tryz.ntmps26
 go_wp2_with fail
 generalize w.alloc (T #[E J 1, E J 1, E J 5] 90) = W0 at *
 have HP : Q (zai W0 (some ⟨w.heap.size, 0, U⟩) p8 ∧ Z w.heap.size w W0) := ⟨Or.inr ⟨_, 0, rfl, hp0.lt, fun i hi => by
  have h0 : i = 0 := by simpa using hi
  subst h0
  exact ⟨hp0.cell 0, hp0.cell 1, hp0.cell 2⟩⟩, hb0⟩
 clear hb0 hp0;refine (hdNew_V (R := fun _ => False) W0 (fun _ h => h.elim)).mono ?_;rintro e w1 ⟨la0, nl0, lc0, oa0, no0, oc0, rfl, hA0, hb1⟩;have H0 : Q (zay (fun _ => False) w1 la0 nl0 oa0 no0 (zv [(4, 0, [])]) ∧ Z W0.heap.size W0 w1) := ⟨hA0, hb1⟩;clear hA0 hb1;go_wp2_with fail
 refine (zkj lc0 oc0 w1 (fun _ h => h.elim) H0.out.1 okG80 (some ⟨w.heap.size, 0, U⟩) 1 1 p8 rfl (HP.out.1.below H0.out.2) zh5).mono ?_;rw [begin8];rintro e w2 ⟨la1, nl1, lc1, oa1, no1, oc1, sa1, sn1, sc1, rfl, hA1, hM1, hb2⟩;have hbb := zg w2 (T #[G la1 nl1 lc1, E J 1, E J 1, G oa1 no1 oc1] 29)
 have H1 : Q (zay (fun _ => False) (w2.alloc (T #[G la1 nl1 lc1, E J 1, E J 1, G oa1 no1 oc1] 29)) la1 nl1 oa1 no1 g81 ∧ zcv (fun _ => False) (w2.alloc (T #[G la1 nl1 lc1, E J 1, E J 1, G oa1 no1 oc1] 29)) sa1 sn1 [(1, 64, 1, p8)] ∧ Blk (w2.alloc (T #[G la1 nl1 lc1, E J 1, E J 1, G oa1 no1 oc1] 29)) w2.heap.size #[G la1 nl1 lc1, E J 1, E J 1, G oa1 no1 oc1] 29 ∧ Z w.heap.size w (w2.alloc (T #[G la1 nl1 lc1, E J 1, E J 1, G oa1 no1 oc1] 29))) := by
  have h1 := HP.out.2.trans (H0.out.2.mono HP.out.2.size);have h2 := h1.trans (hb2.mono h1.size);exact ⟨hA1.below hbb, hM1.below hbb, Blk.new _ _ _, h2.trans (hbb.mono h2.size)⟩
 clear H0 HP hA1 hM1 hb2 hbb;go_upto_region 3 with fail
 generalize w2.alloc (T #[G la1 nl1 lc1, E J 1, E J 1, G oa1 no1 oc1] 29) = V1 at *;generalize w2.heap.size = N1 at *;obtain ⟨x0, x1, x2, x3⟩ := H1.out.2.2.1.cells4;have l1 := H1.out.2.2.1.lt;go_wp2_with fail
 clear x0 x1 x2 x3;refine (zkp lc1 oc1 V1 (fun _ h => h.elim) H1.out.1 okG81 2 64 1 U 0 0 []).mono ?_;rw [yes8];rintro e w3 ⟨la2, nl2, lc2, oa2, no2, oc2, sa2, sn2, sc2, rfl, hA2, hM2, hb3⟩;have hbb := zg w3 (T #[G la2 nl2 lc2, E J 1, E J 1, G oa2 no2 oc2] 29);have H2 : Q (zay (fun _ => False) (w3.alloc (T #[G la2 nl2 lc2, E J 1, E J 1, G oa2 no2 oc2] 29)) la2 nl2 oa2 no2 g82 ∧ zcv (fun _ => False) (w3.alloc (T #[G la2 nl2 lc2, E J 1, E J 1, G oa2 no2 oc2] 29)) sa2 sn2 [(4, 64, 1, [])] ∧ Blk (w3.alloc (T #[G la2 nl2 lc2, E J 1, E J 1, G oa2 no2 oc2] 29)) w3.heap.size #[G la2 nl2 lc2, E J 1, E J 1, G oa2 no2 oc2] 29 ∧ Z V1.heap.size V1 (w3.alloc (T #[G la2 nl2 lc2, E J 1, E J 1, G oa2 no2 oc2] 29))) := ⟨hA2.below hbb, hM2.below hbb, Blk.new _ _ _, hb3.trans (hbb.mono hb3.size)⟩;clear hA2 hM2 hb3 hbb;go_upto_region 4 with fail
 generalize w3.alloc (T #[G la2 nl2 lc2, E J 1, E J 1, G oa2 no2 oc2] 29) = V2 at *;generalize w3.heap.size = N2 at *;obtain ⟨x0, x1, x2, x3⟩ := H2.out.2.2.1.cells4;have l2 := H2.out.2.2.1.lt;go_wp2_with fail
 clear x0 x1 x2 x3;refine (zkp lc2 oc2 V2 (fun _ h => h.elim) H2.out.1 okG82 6 64 1 U 0 0 []).mono ?_;rw [ack8];rintro e w4 ⟨la3, nl3, lc3, oa3, no3, oc3, sa3, sn3, sc3, rfl, hA3, hM3, hb4⟩;have hbb := zg w4 (T #[G la3 nl3 lc3, E J 1, E J 1, G oa3 no3 oc3] 29);have H3 : Q (zay (fun _ => False) (w4.alloc (T #[G la3 nl3 lc3, E J 1, E J 1, G oa3 no3 oc3] 29)) la3 nl3 oa3 no3 g83 ∧ Blk (w4.alloc (T #[G la3 nl3 lc3, E J 1, E J 1, G oa3 no3 oc3] 29)) w4.heap.size #[G la3 nl3 lc3, E J 1, E J 1, G oa3 no3 oc3] 29 ∧ Z V2.heap.size V2 (w4.alloc (T #[G la3 nl3 lc3, E J 1, E J 1, G oa3 no3 oc3] 29))) := ⟨hA3.below hbb, Blk.new _ _ _, hb4.trans (hbb.mono hb4.size)⟩;clear hA3 hM3 hb4 hbb;go_upto_region 5 with fail
 generalize w4.alloc (T #[G la3 nl3 lc3, E J 1, E J 1, G oa3 no3 oc3] 29) = V3 at *;generalize w4.heap.size = N3 at *;obtain ⟨x0, x1, x2, x3⟩ := (H2.out.2.2.1.below H3.out.2.2 H2.out.2.2.1.lt).cells4;have l3 := (H2.out.2.2.1.below H3.out.2.2 H2.out.2.2.1.lt).lt;go_wp2_with fail
 clear x0 x1 x2 x3;refine (zly lc2 oc2 V3 (fun _ h => h.elim) (H2.out.1.below H3.out.2.2) okG82).mono ?_;rw [fall8];rintro e w5 ⟨la4, nl4, lc4, oa4, no4, oc4, rfl, hA4, hb5⟩;have hbb := zg w5 (T #[G la4 nl4 lc4, E J 2, E J 0, G oa4 no4 oc4] 29);have H4 : Q (zay (fun _ => False) (w5.alloc (T #[G la4 nl4 lc4, E J 2, E J 0, G oa4 no4 oc4] 29)) la4 nl4 oa4 no4 g84 ∧ Blk (w5.alloc (T #[G la4 nl4 lc4, E J 2, E J 0, G oa4 no4 oc4] 29)) w5.heap.size #[G la4 nl4 lc4, E J 2, E J 0, G oa4 no4 oc4] 29 ∧ Z V3.heap.size V3 (w5.alloc (T #[G la4 nl4 lc4, E J 2, E J 0, G oa4 no4 oc4] 29))) := ⟨hA4.below hbb, Blk.new _ _ _, hb5.trans (hbb.mono hb5.size)⟩;clear hA4 hb5 hbb;go_upto_region 6 with fail
 generalize w5.alloc (T #[G la4 nl4 lc4, E J 2, E J 0, G oa4 no4 oc4] 29) = V4 at *;generalize w5.heap.size = N4 at *
 have hb14 : Z V1.heap.size V1 V4 := by
  have h1 := H2.out.2.2.2.trans (H3.out.2.2.mono H2.out.2.2.2.size);exact h1.trans (H4.out.2.2.mono h1.size)
 obtain ⟨x0, x1, x2, x3⟩ := (H1.out.2.2.1.below hb14 H1.out.2.2.1.lt).cells4;have l4 := (H1.out.2.2.1.below hb14 H1.out.2.2.1.lt).lt;go_wp2_with fail
 clear x0 x1 x2 x3;refine (hdQuit_V lc1 oc1 V4 (fun _ h => h.elim) (H1.out.1.below hb14) okG81).mono ?_;rw [quit8];rintro e w6 ⟨la5, nl5, lc5, oa5, no5, oc5, sa5, sn5, sc5, rfl, hA5, hM5, hb6⟩;have hbb := zg w6 (T #[G la5 nl5 lc5, E J 1, E J 1, G oa5 no5 oc5] 29);have hb46 := hb6.trans (hbb.mono hb6.size);have hb36 := H4.out.2.2.trans (hb46.mono H4.out.2.2.size);have hb26 := H3.out.2.2.trans (hb36.mono H3.out.2.2.size);have hb16 := hb14.trans (hb46.mono hb14.size);have q1 := H1.out.2.1.below hb16;have q2 := H2.out.2.1.below hb26;have q5 := hM5.below hbb;have a2 := H2.out.1.below hb26;have a3 := H3.out.1.below hb36;have a4 := H4.out.1.below hb46;have a5 := hA5.below hbb;have y2 := H2.out.2.2.1.below hb26 H2.out.2.2.1.lt;have y3 := H3.out.2.1.below hb36 H3.out.2.1.lt;have y4 := H4.out.2.1.below hb46 H4.out.2.1.lt;have y5 : Blk (w6.alloc (T #[G la5 nl5 lc5, E J 1, E J 1, G oa5 no5 oc5] 29)) w6.heap.size #[G la5 nl5 lc5, E J 1, E J 1, G oa5 no5 oc5] 29 := Blk.new _ _ _;have hBW := H1.out.2.2.2.trans (hb16.mono H1.out.2.2.2.size);go_upto_region 7 with fail
 generalize w6.alloc (T #[G la5 nl5 lc5, E J 1, E J 1, G oa5 no5 oc5] 29) = V at *;generalize w6.heap.size = N5 at *;obtain rfl : sn1 = 1 := q1.len;obtain rfl : sn2 = 1 := q2.len;obtain rfl : sn5 = 1 := q5.len;obtain rfl : no2 = 1 := a2.lno;obtain rfl : no3 = 0 := a3.lno;obtain rfl : no4 = 1 := a4.lno;obtain rfl : no5 = 0 := a5.lno;obtain ⟨b1, o1, rfl, j1, c1⟩ := q1.first;obtain ⟨b2, o2, rfl, j2, c2⟩ := q2.first;obtain ⟨b3, o3, pa, pc, ha, hc, rfl, j3, -, -, c3, -⟩ := a2.get (k := 0) (by decide);simp only [Nat.zero_mul, Nat.add_zero, List.getElem_cons_zero] at c3
 obtain ⟨y20, y21, y22, y23⟩ := y2.cells4;have y33 := y3.cells4.2.2.2;have y41 := y4.cells4.2.1;have y43 := y4.cells4.2.2.2;have y53 := y5.cells4.2.2.2;have k2 := y2.lt;have k3 := y3.lt;have k4 := y4.lt;have k5 := y5.lt;have HV : Q (zay (fun _ => False) V la2 nl2 (some ⟨b3, o3, U⟩) 1 g82 ∧ Z w.heap.size w V ∧ Blk V N2 #[G la2 nl2 lc2, E J 1, E J 1, G (some ⟨b3, o3, U⟩) 1 oc2] 29) := ⟨a2, hBW, y2⟩;clear H1 H2 H3 H4 hb6 hbb hb46 hb36 hb26 hb16 hb14 q1 q2 q5 a2 a3 a4 a5 y2 y3 y4 y5 hBW hA5 hM5 l1 l2 l3 l4;go_wp2_with fail
 refine (hdTick_V lc2 oc2 V (fun _ h => h.elim) HV.out.1 okG82).mono ?_;rw [tick8];rintro e w7 ⟨sa6, sn6, sc6, rfl, hM6, hb7⟩;obtain rfl : sn6 = 1 := hM6.len;have z2 := HV.out.2.2.below hb7 HV.out.2.2.lt;obtain ⟨z20, z21, z22, z23⟩ := z2.cells4;have m2 := z2.lt;have H7 : Q (zay (fun _ => False) w7 la2 nl2 (some ⟨b3, o3, U⟩) 1 g82 ∧ Z w.heap.size w w7) := ⟨HV.out.1.below hb7, HV.out.2.1.trans (hb7.mono HV.out.2.1.size)⟩;clear y20 y21 y22 y23 y33 y41 y43 y53 k2 k3 k4 k5 c1 c2 c3 j1 j2 j3 z2 hM6 hb7 HV;go_wp2_with fail
 refine (hdOwn_V lc2 oc2 w7 (fun _ h => h.elim) H7.out.1 okG82).mono ?_;rintro e w8 ⟨la9, nl9, lc9, oa9, no9, oc9, rfl, hA9, hb8⟩;obtain rfl : nl9 = 2 := hA9.lnl;have hBf := H7.out.2.trans (hb8.mono H7.out.2.size);clear z20 z21 z22 z23 m2 H7 hA9 hb8;go_wp2;go_ret;exact ⟨rfl, hBf⟩
end
end Go.Proofs.YtpcnlifmkhagkaaGreat
