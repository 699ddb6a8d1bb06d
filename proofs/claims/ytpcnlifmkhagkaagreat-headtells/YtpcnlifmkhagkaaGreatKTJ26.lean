import Derived.Test.YtpcnlifmkhagkaaGreatKTJ24
import Derived.Test.YtpcnlifmkhagkaaGreatKTRefHh
set_option maxRecDepth 20000
set_option maxHeartbeats 20000000
namespace Go.Proofs.YtpcnlifmkhagkaaGreat
open Go.RowKit
open Go.Value renaming slice → G, int → E
open Go.IntKind renaming i64 → J
open _root_.Option renaming none → U
open Go.Obj renaming cells → T
open Go.RowKit renaming Hid → Q, Below → Z
open Go.World renaming setCell → r
open _root_.List renaming mem_singleton → kaa
attribute [local go_sem ↓] Go.wp_at_zero Go.wp_at_succ
section
variable {R R' : Nat → Prop} {la oa : Option Addr} {nl no : Nat} (lc oc : Nat) {g : Gh} (w : World)
theorem refFall_V (hR : ∀ b, R b → b < w.heap.size) (H : zak R w la nl oa no g) (K : OkG g) : Calls Tryz.prog 10 #[.agg #[G la nl lc, E J g.boot, E J g.next, G oa no oc]] w fun e w' => ∃ la' nl' lc' oa' no' oc', e = .returned (.tuple #[.agg #[G la' nl' lc', E J (zq g).1.boot, E J (zq g).1.next, G oa' no' oc'], E J (zq g).2]) ∧ zak R w' la' nl' oa' no' (zq g).1 ∧ Z w.heap.size w w' := by
 refine (zm1 R _ g w hR (H.v lc oc) (by have := K.len; omega)).mono ?_;rintro e w' ⟨v, rfl, hV, hb⟩;obtain ⟨la', nl', lc', oa', no', oc', rfl, hA⟩ := hV.toA;exact ⟨la', nl', lc', oa', no', oc', rfl, hA, hb⟩
theorem refQuit_V (hR : ∀ b, R b → b < w.heap.size) (H : zak R w la nl oa no g) (K : OkG g) : Calls Tryz.prog 16 #[.agg #[G la nl lc, E J g.boot, E J g.next, G oa no oc]] w fun e w' => ∃ la' nl' lc' oa' no' oc' sa sn sc, e = .returned (.tuple #[.agg #[G la' nl' lc', E J (zk g).1.boot, E J (zk g).1.next, G oa' no' oc'], G sa sn sc]) ∧ zak R w' la' nl' oa' no' (zk g).1 ∧ za2 R w' sa sn (zk g).2 ∧ Z w.heap.size w w' := by
 refine (zkj R _ g w hR (H.v lc oc) K.few).mono ?_;rintro e w' ⟨v, sv, rfl, hV, hM, hb⟩;obtain ⟨la', nl', lc', oa', no', oc', rfl, hA⟩ := hV.toA;obtain ⟨sa, sn, sc, rfl, hS⟩ := hM.toA hR;exact ⟨la', nl', lc', oa', no', oc', sa, sn, sc, rfl, hA, hS, hb⟩
theorem refTick_V (hR : ∀ b, R b → b < w.heap.size) (H : zak R w la nl oa no g) (K : OkG g) : Calls Tryz.prog 19 #[.agg #[G la nl lc, E J g.boot, E J g.next, G oa no oc]] w fun e w' => ∃ sa sn sc, e = .returned (G sa sn sc) ∧ za2 R w' sa sn (zdj g) ∧ Z w.heap.size w w' := by
 obtain ⟨Y, X, h⟩ := H.wide (R' := fun _ => False) (fun _ h => h.elim);refine (zlp la oa nl lc no oc g.boot g.next X g.opn w h.opns K.few).mono ?_;rintro e w' ⟨sv, rfl, hM, hb⟩;obtain ⟨sa, sn, sc, rfl, hS⟩ := hM.toA hR;exact ⟨sa, sn, sc, rfl, hS, hb⟩
theorem zqj (hR : ∀ b, R b → b < w.heap.size) (H : zak R w la nl oa no g) (K : OkG g) (pa : Option Addr) (np pc : Nat) (l : List P3) (hnp : np = l.length) (hp : zz R w pa l) (hl : l.length ≤ 4) : Calls Tryz.prog 22 #[.agg #[G la nl lc, E J g.boot, E J g.next, G oa no oc], G pa np pc] w fun e w' => ∃ la' nl' lc' oa' no' oc' sa sn sc, e = .returned (.tuple #[.agg #[G la' nl' lc', E J (zj g l).1.boot, E J (zj g l).1.next, G oa' no' oc'], G sa sn sc, E J (zj g l).2.2]) ∧ zak R w' la' nl' oa' no' (zj g l).1 ∧ za2 R w' sa sn (zj g l).2.1 ∧ Z w.heap.size w w' := by
 refine (zm7 R _ g pa np pc l w hR (H.v lc oc) hnp hp hl K.few K.boot K.next).mono ?_;rintro e w' ⟨v, sv, rfl, hV, hM, hb⟩;obtain ⟨la', nl', lc', oa', no', oc', rfl, hA⟩ := hV.toA;obtain ⟨sa, sn, sc, rfl, hS⟩ := hM.toA hR;exact ⟨la', nl', lc', oa', no', oc', sa, sn, sc, rfl, hA, hS, hb⟩
theorem zlv (hR : ∀ b, R b → b < w.heap.size) (H : zak R w la nl oa no g) (K : OkG g) (mk md mh : Int) (ma : Option Addr) (mn mc : Nat) (ml : List P3) : Calls Tryz.prog 25 #[.agg #[G la nl lc, E J g.boot, E J g.next, G oa no oc], .agg #[E J mk, E J md, E J mh, G ma mn mc]] w fun e w' => ∃ la' nl' lc' oa' no' oc' sa sn sc, e = .returned (.tuple #[.agg #[G la' nl' lc', E J (zc g (mk, md, mh, ml)).1.boot, E J (zc g (mk, md, mh, ml)).1.next, G oa' no' oc'], G sa sn sc]) ∧ zak R w' la' nl' oa' no' (zc g (mk, md, mh, ml)).1 ∧ za2 R w' sa sn (zc g (mk, md, mh, ml)).2 ∧ Z w.heap.size w w' := by
 refine (zls R _ g mk md mh ma mn mc ml w hR (H.v lc oc) K.few (by have := K.len; omega)).mono ?_;rintro e w' ⟨v, sv, rfl, hV, hM, hb⟩;obtain ⟨la', nl', lc', oa', no', oc', rfl, hA⟩ := hV.toA;obtain ⟨sa, sn, sc, rfl, hS⟩ := hM.toA hR;exact ⟨la', nl', lc', oa', no', oc', sa, sn, sc, rfl, hA, hS, hb⟩
theorem zip (H : zak R w la nl oa no g) (K : OkG g) {lb ob : Option Addr} {ml mo : Nat} (ld od : Nat) (H2 : zak R' w lb ml ob mo g) : Calls Tryz.prog 11 #[.agg #[G la nl lc, E J g.boot, E J g.next, G oa no oc], .agg #[G lb ml ld, E J g.boot, E J g.next, G ob mo od]] w fun e w' => e = .returned (.bool true) ∧ Z w.heap.size w w' :=
 zhi _ _ g.log g.boot g.next g.opn w (H.v lc oc).g (H2.v ld od).g K.size
end
def zXH : XH := ((U, 0, 0), (0, 0, 0, 0), (U, 0, 0), (U, 0, 0))
theorem zj7 (R : Nat → Prop) (n : Nat) {w : World} {B : Nat} {cs : Array Value} (h : Blk w B cs 77) (hc : cs.toList = zx zec (List.replicate n zXH)) (hR : ¬ R B) : zd8 R w (some ⟨B, 0, U⟩) n (List.replicate n zXH) (List.replicate n []) := by
 refine ⟨by simp, Or.inr ⟨B, 0, rfl, h.lt, fun i hi j u hu => ?_⟩, Or.inr (fun ad had hr => by cases had; exact hR hr), by simp, fun i h1 h2 => ?_⟩
 ·have hj : j < 7 := by
   rcases Nat.lt_or_ge j 7 with h' | h'
   ·exact h'
   ·rw [List.getElem?_eq_none (by rw [lenH]; exact h')] at hu; cases hu
  rw [Nat.zero_add, h.cell, ← Array.getElem?_toList, hc, zg4 lenH _ i hi j hj];exact hu
 ·simp only [List.getElem_replicate]
  exact zoh R w
theorem zj4 {R R' : Nat → Prop} {w : World} {N : Nat} {c0 c1 c2 c3 c4 c5 : Value} (hN : Blk w N #[c0, c1, c2, c3, c4, c5] 65) (hR : ∀ b, R' b ↔ (R b ∨ b = N)) {la : Option Addr} {nl lc : Nat} {oa : Option Addr} {no oc : Nat} {g : Gh} (hv : zy R' w (.agg #[G la nl lc, E J g.boot, E J g.next, G oa no oc]) g) {ha : Option Addr} {n : Nat} {X : List XH} {Ls : List (List R3)} (hH : zd8 R' w ha n X Ls) :
  zac R (r (r (r (r (r (r w ⟨N, 0, U⟩ (G la nl lc)) ⟨N, 1, U⟩ (E J g.boot)) ⟨N, 2, U⟩ (E J g.next)) ⟨N, 3, U⟩ (G oa no oc)) ⟨N, 4, U⟩ (G ha n n)) ⟨N, 5, U⟩ (G U 0 0)) (.agg #[G la nl lc, E J g.boot, E J g.next, G oa no oc, G ha n n, G U 0 0]) ⟨g, Ls, []⟩ ∧
  Blk (r (r (r (r (r (r w ⟨N, 0, U⟩ (G la nl lc)) ⟨N, 1, U⟩ (E J g.boot)) ⟨N, 2, U⟩ (E J g.next)) ⟨N, 3, U⟩ (G oa no oc)) ⟨N, 4, U⟩ (G ha n n)) ⟨N, 5, U⟩ (G U 0 0)) N #[G la nl lc, E J g.boot, E J g.next, G oa no oc, G ha n n, G U 0 0] 65 ∧
  Z N w (r (r (r (r (r (r w ⟨N, 0, U⟩ (G la nl lc)) ⟨N, 1, U⟩ (E J g.boot)) ⟨N, 2, U⟩ (E J g.next)) ⟨N, 3, U⟩ (G oa no oc)) ⟨N, 4, U⟩ (G ha n n)) ⟨N, 5, U⟩ (G U 0 0)) := by
 obtain ⟨h1, hk⟩ := zhd hN (G la nl lc) (E J g.boot) (E J g.next) (G oa no oc) (G ha n n) (G U 0 0);have hk' : zf R' w _ := hk.mono (fun b _ hb => (hR b).2 (Or.inr hb));refine ⟨?_, h1, hk.below (Nat.le_of_lt hN.lt) (fun b hb => by subst hb; exact Nat.le_refl _)⟩;obtain ⟨la2, nl2, lc2, Y, oa2, no2, oc2, X2, e, hF⟩ := hv.keep hk';simp only [Value.agg.injEq, Array.mk.injEq, List.cons.injEq, Value.slice.injEq, and_true, true_and] at e
 obtain ⟨⟨rfl, rfl, rfl⟩, rfl, rfl, rfl⟩ := e;exact ⟨la, nl, lc, Y, oa, no, oc, X2, ha, n, n, X, none, 0, 0, [], rfl, Nat.le_refl _, zep.wide (R := R') ⟨hF, hH.keep hk', zbp.nil _ _ _⟩ (fun b hb => Or.inl ((hR b).2 (Or.inl hb)))⟩
theorem zjl (n : Nat) (cs : Array Value) (h1 : 1 ≤ n) (h3 : n ≤ 3) (hc : cs.toList = zx zec (List.replicate n zXH)) (hmk : ∀ w : World, (Instr.makeSlice 62 (E J (n : Nat)) (E J (n : Nat))).run Tryz.prog w = .ok (G (some ⟨w.heap.size, 0, U⟩) n n) (w.alloc (T cs 77))) (R : Nat → Prop) (w : World) (hR : ∀ b, R b → b < w.heap.size) :
  Calls Tryz.prog 30 #[E J (n : Nat)] w fun e w' => ∃ v', e = .returned (.tuple #[v', E J 0]) ∧ zac R w' v' (zay n) ∧ Z w.heap.size w w' := by
 have HC := zA hc;clear hc;have hb0 := zh w (T #[G U 0 0, E J 0, E J 0, G U 0 0, G U 0 0, G U 0 0] 65);have hN0 : Blk (w.alloc (T #[G U 0 0, E J 0, E J 0, G U 0 0, G U 0 0, G U 0 0] 65)) w.heap.size #[G U 0 0, E J 0, E J 0, G U 0 0, G U 0 0, G U 0 0] 65 := Blk.new _ _ _;have hs0 : (w.alloc (T #[G U 0 0, E J 0, E J 0, G U 0 0, G U 0 0, G U 0 0] 65)).heap.size = w.heap.size + 1 := by simp
 go_enter Tryz.func30, Tryz.ntmps30
 go_upto_region 3 with fail
 generalize w.alloc (T #[G U 0 0, E J 0, E J 0, G U 0 0, G U 0 0, G U 0 0] 65) = V at *;obtain ⟨R', hR'⟩ : ∃ R' : Nat → Prop, Q (∀ b, R' b ↔ (R b ∨ b = w.heap.size)) := ⟨fun b => R b ∨ b = w.heap.size, fun _ => Iff.rfl⟩;have HV : Q (Z w.heap.size w V ∧ Blk V w.heap.size #[G U 0 0, E J 0, E J 0, G U 0 0, G U 0 0, G U 0 0] 65 ∧ (∀ b, R' b ↔ (R b ∨ b = w.heap.size)) ∧ (∀ b, R' b → b < V.heap.size)) := ⟨hb0, hN0, hR'.out, fun b hb => ((hR'.out b).1 hb).elim (fun h => by have := hR b h; omega) (fun h => by omega)⟩;have hX1 : Z V.heap.size V V.drew := (Below.refl _ _).drew;clear hb0 hN0 hs0 hR;go_cut [3] (fun ev wx => ∃ (la : Option Addr) (nl lc : Nat) (oa : Option Addr) (no oc : Nat) (HB : Nat), ev = E J 0 ∧ Q (zac R wx (.agg #[G la nl lc, E J (zn [(4, 0, [])]).boot, E J (zn [(4, 0, [])]).next, G oa no oc, G (some ⟨HB, 0, U⟩) n n, G U 0 0]) (zay n) ∧ Blk wx w.heap.size #[G la nl lc, E J (zn [(4, 0, [])]).boot, E J (zn [(4, 0, [])]).next, G oa no oc, G (some ⟨HB, 0, U⟩) n n, G U 0 0] 65 ∧ Z w.heap.size w wx))
 case first =>
  refine zb9 (S := fun _ => True) 7 (by kernel_rfl) trivial (fun hHeld => ?_);refine tks 2 [(0, 11), (3, 14)] (b := ?_) rfl (by decide +kernel) (fun _ _ _ _ _ h => h) ?_ hHeld ?_;rotate_left 1
  ·iterate 2 (refine zo.cons (v := ?_) rfl rfl (by rfl) ?_ ?_; rotate_left 1; (intro w h; (try dsimp only at h); go_simp; try with_reducible rfl))
   exact zo.nil
  refine zeg (rs := [1, 4]) (by kernel_rfl) (by simp) ?_;refine zaz.cons (o := _) rfl (fun K hK => ?_) ?_
  ·go_simp
   refine kgo hK (by decide +kernel) (trivial) (fun hHeld => ?_);clear hK K;have hXa : Z V.heap.size V (V.drew.alloc (T #[E J 4, E J 0, G U 0 0] 40)) := hX1.alloc (by simp) _;refine zeg (rs := [2, 4]) (by kernel_rfl) (by simp) ?_;refine zaz.cons (o := _) rfl (fun K hK => ?_) ?_
   ·have hrb : Blk (V.drew.alloc (T #[E J 4, E J 0, G U 0 0] 40)) V.heap.size #[E J 4, E J 0, G U 0 0] 40 := Blk.new V.drew _ _
    go_simp;go_at_call 14
    refine (zgh (zz R' _) R' (some ⟨V.heap.size, 0, U⟩) [(4, 0, (none, 0), [])] 1 1 _ rfl (by decide) (fun b hb => by have h1 := HV.out.2.2.2 b hb; have h2 := hXa.size; omega) (fun _ _ h => h) ⟨zi.one hrb rfl, fun x hx => by rw [kaa.1 hx]; exact Or.inl rfl⟩ (Or.inr (fun ad had hr => by cases had; have h1 : V.heap.size < V.heap.size := HV.out.2.2.2 _ hr; omega)) (fun x hx => by rw [kaa.1 hx]; exact zz.nil _ _ _)).mono ?_;rintro e wH ⟨v9, rfl, hv9, hb9⟩;obtain ⟨la, nl, lc, Y9, oa, no, oc, X9, rfl, hF9⟩ := hv9;have hXH := hXa.trans (hb9.mono hXa.size);have hXHs := hXH.size;refine kgo hK (by decide +kernel) (trivial) (fun hHeld => ?_);clear hK K;refine rdy 4 (by kernel_rfl) rfl (fun K hK => ?_);go_simp;refine kgo hK (by decide +kernel) (trivial) (fun hHeld => ?_);clear hK K;have hXM : Z V.heap.size V (wH.alloc (T cs 77)) := hXH.alloc hXHs _;have hHb : Blk (wH.alloc (T cs 77)) wH.heap.size cs 77 := Blk.new _ _ _;have hN := HV.out.2.1.below hXM HV.out.2.1.lt;obtain ⟨q0, q1, q2, q3, q4, q5⟩ := hN.cells6;obtain ⟨f0, f1, f2, f3, f4, f5⟩ := hN.free6;have hNl := hN.lt;have hHH := zj7 R' n (hHb) HC.out (fun hr => by have := HV.out.2.2.2 _ hr; omega);obtain ⟨p1, p2, p3⟩ := zj4 hN HV.out.2.2.1 (zy.below (⟨_, _, _, Y9, _, _, _, X9, rfl, hF9⟩ : zy R' wH _ (zn [(4, 0, [])])) (zh wH _)) hHH;refine tks 1 [(5, 16)] (b := ?_) rfl (by decide +kernel) (fun _ _ _ _ _ h => h) ?_ hHeld ?_;rotate_left 1
    ·iterate 1 (refine zo.cons (v := ?_) rfl rfl (by rfl) ?_ ?_; rotate_left 1; (intro w h; (try dsimp only at h); go_simp; try with_reducible rfl))
     exact zo.nil
    refine rdy 6 (by kernel_rfl) rfl (fun K hK => ?_);go_simp;refine kgo hK (by decide +kernel) (trivial) (fun hHeld => ?_);clear hK K;refine rdy 7 (by kernel_rfl) rfl (fun K hK => ?_);go_simp;refine za5 hK (by decide +kernel) ?_;clear hK K hHeld;refine zbd (by kernel_rfl) ?_ _;have HF : Q (zac R (((((((wH.alloc (T cs 77)).setCell ⟨w.heap.size, 0, U⟩ (G la nl lc)).setCell ⟨w.heap.size, 1, U⟩ (E J (zn [(4, 0, [])]).boot)).setCell ⟨w.heap.size, 2, U⟩ (E J (zn [(4, 0, [])]).next)).setCell ⟨w.heap.size, 3, U⟩ (G oa no oc)).setCell ⟨w.heap.size, 4, U⟩ (G (some ⟨wH.heap.size, 0, U⟩) n n)).setCell ⟨w.heap.size, 5, U⟩ (G U 0 0)) (.agg #[G la nl lc, E J (zn [(4, 0, [])]).boot, E J (zn [(4, 0, [])]).next, G oa no oc, G (some ⟨wH.heap.size, 0, U⟩) n n, G U 0 0]) (zay n) ∧ Blk (((((((wH.alloc (T cs 77)).setCell ⟨w.heap.size, 0, U⟩ (G la nl lc)).setCell ⟨w.heap.size, 1, U⟩ (E J (zn [(4, 0, [])]).boot)).setCell ⟨w.heap.size, 2, U⟩ (E J (zn [(4, 0, [])]).next)).setCell ⟨w.heap.size, 3, U⟩ (G oa no oc)).setCell ⟨w.heap.size, 4, U⟩ (G (some ⟨wH.heap.size, 0, U⟩) n n)).setCell ⟨w.heap.size, 5, U⟩ (G U 0 0)) w.heap.size #[G la nl lc, E J (zn [(4, 0, [])]).boot, E J (zn [(4, 0, [])]).next, G oa no oc, G (some ⟨wH.heap.size, 0, U⟩) n n, G U 0 0] 65 ∧ Z w.heap.size w (((((((wH.alloc (T cs 77)).setCell ⟨w.heap.size, 0, U⟩ (G la nl lc)).setCell ⟨w.heap.size, 1, U⟩ (E J (zn [(4, 0, [])]).boot)).setCell ⟨w.heap.size, 2, U⟩ (E J (zn [(4, 0, [])]).next)).setCell ⟨w.heap.size, 3, U⟩ (G oa no oc)).setCell ⟨w.heap.size, 4, U⟩ (G (some ⟨wH.heap.size, 0, U⟩) n n)).setCell ⟨w.heap.size, 5, U⟩ (G U 0 0))) := ⟨p1, p2, HV.out.1.trans ((hXM.mono HV.out.1.size).trans p3)⟩
    clear q0 q1 q2 q3 q4 q5 f0 f1 f2 f3 f4 f5 hNl hN hHH p1 p2 p3 hF9 hb9;go_wp2_with fail
    go_meet
    case rel => exact ⟨_, _, _, _, _, _, _, rfl, HF⟩
   refine zaz.cons (o := _) rfl (fun K hK => ?_) zaz.nil
   ·go_simp
    refine kgo hK (by decide +kernel) (trivial) (fun hHeld => ?_);clear hK K;have hXb : Z V.heap.size V ((V.drew.alloc (T #[E J 4, E J 0, G U 0 0] 40)).alloc (T cs 77)) := hXa.alloc hXa.size _;have hrb : Blk ((V.drew.alloc (T #[E J 4, E J 0, G U 0 0] 40)).alloc (T cs 77)) V.heap.size #[E J 4, E J 0, G U 0 0] 40 := (Blk.new V.drew _ _).alloc _;have hHb0 : Blk ((V.drew.alloc (T #[E J 4, E J 0, G U 0 0] 40)).alloc (T cs 77)) (V.heap.size + 1) cs 77 := zao V.drew _ _;refine rdy 2 (by kernel_rfl) rfl (fun K hK => ?_);go_simp;go_at_call 14
    refine (zgh (zz R' _) R' (some ⟨V.heap.size, 0, U⟩) [(4, 0, (none, 0), [])] 1 1 _ rfl (by decide) (fun b hb => by have h1 := HV.out.2.2.2 b hb; have h2 := hXb.size; omega) (fun _ _ h => h) ⟨zi.one hrb rfl, fun x hx => by rw [kaa.1 hx]; exact Or.inl rfl⟩ (Or.inr (fun ad had hr => by cases had; have h1 : V.heap.size < V.heap.size := HV.out.2.2.2 _ hr; omega)) (fun x hx => by rw [kaa.1 hx]; exact zz.nil _ _ _)).mono ?_;rintro e wH ⟨v9, rfl, hv9, hb9⟩;obtain ⟨la, nl, lc, Y9, oa, no, oc, X9, rfl, hF9⟩ := hv9;have hXH := hXb.trans (hb9.mono hXb.size);have hXHs := hXH.size;refine kgo hK (by decide +kernel) (trivial) (fun hHeld => ?_);clear hK K;have hHb := hHb0.below hb9 hHb0.lt;have hN := HV.out.2.1.below hXH HV.out.2.1.lt;obtain ⟨q0, q1, q2, q3, q4, q5⟩ := hN.cells6;obtain ⟨f0, f1, f2, f3, f4, f5⟩ := hN.free6;have hNl := hN.lt;have hHH := zj7 R' n (hHb) HC.out (fun hr => by have := HV.out.2.2.2 _ hr; omega);obtain ⟨p1, p2, p3⟩ := zj4 hN HV.out.2.2.1 (⟨_, _, _, Y9, _, _, _, X9, rfl, hF9⟩ : zy R' wH _ (zn [(4, 0, [])])) hHH;refine tks 1 [(5, 16)] (b := ?_) rfl (by decide +kernel) (fun _ _ _ _ _ h => h) ?_ hHeld ?_;rotate_left 1
    ·iterate 1 (refine zo.cons (v := ?_) rfl rfl (by rfl) ?_ ?_; rotate_left 1; (intro w h; (try dsimp only at h); go_simp; try with_reducible rfl))
     exact zo.nil
    refine rdy 6 (by kernel_rfl) rfl (fun K hK => ?_);go_simp;refine kgo hK (by decide +kernel) (trivial) (fun hHeld => ?_);clear hK K;refine rdy 7 (by kernel_rfl) rfl (fun K hK => ?_);go_simp;refine za5 hK (by decide +kernel) ?_;clear hK K hHeld;refine zbd (by kernel_rfl) ?_ _;have HF : Q (zac R ((((((wH.setCell ⟨w.heap.size, 0, U⟩ (G la nl lc)).setCell ⟨w.heap.size, 1, U⟩ (E J (zn [(4, 0, [])]).boot)).setCell ⟨w.heap.size, 2, U⟩ (E J (zn [(4, 0, [])]).next)).setCell ⟨w.heap.size, 3, U⟩ (G oa no oc)).setCell ⟨w.heap.size, 4, U⟩ (G (some ⟨(V.heap.size + 1), 0, U⟩) n n)).setCell ⟨w.heap.size, 5, U⟩ (G U 0 0)) (.agg #[G la nl lc, E J (zn [(4, 0, [])]).boot, E J (zn [(4, 0, [])]).next, G oa no oc, G (some ⟨(V.heap.size + 1), 0, U⟩) n n, G U 0 0]) (zay n) ∧ Blk ((((((wH.setCell ⟨w.heap.size, 0, U⟩ (G la nl lc)).setCell ⟨w.heap.size, 1, U⟩ (E J (zn [(4, 0, [])]).boot)).setCell ⟨w.heap.size, 2, U⟩ (E J (zn [(4, 0, [])]).next)).setCell ⟨w.heap.size, 3, U⟩ (G oa no oc)).setCell ⟨w.heap.size, 4, U⟩ (G (some ⟨(V.heap.size + 1), 0, U⟩) n n)).setCell ⟨w.heap.size, 5, U⟩ (G U 0 0)) w.heap.size #[G la nl lc, E J (zn [(4, 0, [])]).boot, E J (zn [(4, 0, [])]).next, G oa no oc, G (some ⟨(V.heap.size + 1), 0, U⟩) n n, G U 0 0] 65 ∧ Z w.heap.size w ((((((wH.setCell ⟨w.heap.size, 0, U⟩ (G la nl lc)).setCell ⟨w.heap.size, 1, U⟩ (E J (zn [(4, 0, [])]).boot)).setCell ⟨w.heap.size, 2, U⟩ (E J (zn [(4, 0, [])]).next)).setCell ⟨w.heap.size, 3, U⟩ (G oa no oc)).setCell ⟨w.heap.size, 4, U⟩ (G (some ⟨(V.heap.size + 1), 0, U⟩) n n)).setCell ⟨w.heap.size, 5, U⟩ (G U 0 0))) := ⟨p1, p2, HV.out.1.trans ((hXH.mono HV.out.1.size).trans p3)⟩
    clear q0 q1 q2 q3 q4 q5 f0 f1 f2 f3 f4 f5 hNl hN hHH p1 p2 p3 hF9 hb9;go_wp2_with fail
    go_meet
    case rel => exact ⟨_, _, _, _, _, _, _, rfl, HF⟩
  refine zaz.cons (o := _) rfl (fun K hK => ?_) zaz.nil
  ·go_simp
   refine kgo hK (by decide +kernel) (trivial) (fun hHeld => ?_);clear hK K;have hXa : Z V.heap.size V ((V.drew.alloc (T cs 77)).alloc (T #[E J 4, E J 0, G U 0 0] 40)) := (hX1.alloc (by simp) _).alloc (by simp <;> omega) _;refine rdy 1 (by kernel_rfl) rfl (fun K hK => ?_);go_simp;refine kgo hK (by decide +kernel) (trivial) (fun hHeld => ?_);clear hK K;have hrb : Blk ((V.drew.alloc (T cs 77)).alloc (T #[E J 4, E J 0, G U 0 0] 40)) (V.heap.size + 1) #[E J 4, E J 0, G U 0 0] 40 := zao V.drew _ _;have hHb0 : Blk ((V.drew.alloc (T cs 77)).alloc (T #[E J 4, E J 0, G U 0 0] 40)) V.heap.size cs 77 := (Blk.new V.drew _ _).alloc _;refine rdy 2 (by kernel_rfl) rfl (fun K hK => ?_);go_simp;go_at_call 14
   refine (zgh (zz R' _) R' (some ⟨(V.heap.size + 1), 0, U⟩) [(4, 0, (none, 0), [])] 1 1 _ rfl (by decide) (fun b hb => by have h1 := HV.out.2.2.2 b hb; have h2 := hXa.size; omega) (fun _ _ h => h) ⟨zi.one hrb rfl, fun x hx => by rw [kaa.1 hx]; exact Or.inl rfl⟩ (Or.inr (fun ad had hr => by cases had; have h1 : (V.heap.size + 1) < V.heap.size := HV.out.2.2.2 _ hr; omega)) (fun x hx => by rw [kaa.1 hx]; exact zz.nil _ _ _)).mono ?_;rintro e wH ⟨v9, rfl, hv9, hb9⟩;obtain ⟨la, nl, lc, Y9, oa, no, oc, X9, rfl, hF9⟩ := hv9;have hXH := hXa.trans (hb9.mono hXa.size);have hXHs := hXH.size;refine kgo hK (by decide +kernel) (trivial) (fun hHeld => ?_);clear hK K;have hHb := hHb0.below hb9 hHb0.lt;have hN := HV.out.2.1.below hXH HV.out.2.1.lt;obtain ⟨q0, q1, q2, q3, q4, q5⟩ := hN.cells6;obtain ⟨f0, f1, f2, f3, f4, f5⟩ := hN.free6;have hNl := hN.lt;have hHH := zj7 R' n (hHb) HC.out (fun hr => by have := HV.out.2.2.2 _ hr; omega);obtain ⟨p1, p2, p3⟩ := zj4 hN HV.out.2.2.1 (⟨_, _, _, Y9, _, _, _, X9, rfl, hF9⟩ : zy R' wH _ (zn [(4, 0, [])])) hHH;refine tks 1 [(5, 16)] (b := ?_) rfl (by decide +kernel) (fun _ _ _ _ _ h => h) ?_ hHeld ?_;rotate_left 1
   ·iterate 1 (refine zo.cons (v := ?_) rfl rfl (by rfl) ?_ ?_; rotate_left 1; (intro w h; (try dsimp only at h); go_simp; try with_reducible rfl))
    exact zo.nil
   refine rdy 6 (by kernel_rfl) rfl (fun K hK => ?_);go_simp;refine kgo hK (by decide +kernel) (trivial) (fun hHeld => ?_);clear hK K;refine rdy 7 (by kernel_rfl) rfl (fun K hK => ?_);go_simp;refine za5 hK (by decide +kernel) ?_;clear hK K hHeld;refine zbd (by kernel_rfl) ?_ _;have HF : Q (zac R ((((((wH.setCell ⟨w.heap.size, 0, U⟩ (G la nl lc)).setCell ⟨w.heap.size, 1, U⟩ (E J (zn [(4, 0, [])]).boot)).setCell ⟨w.heap.size, 2, U⟩ (E J (zn [(4, 0, [])]).next)).setCell ⟨w.heap.size, 3, U⟩ (G oa no oc)).setCell ⟨w.heap.size, 4, U⟩ (G (some ⟨V.heap.size, 0, U⟩) n n)).setCell ⟨w.heap.size, 5, U⟩ (G U 0 0)) (.agg #[G la nl lc, E J (zn [(4, 0, [])]).boot, E J (zn [(4, 0, [])]).next, G oa no oc, G (some ⟨V.heap.size, 0, U⟩) n n, G U 0 0]) (zay n) ∧ Blk ((((((wH.setCell ⟨w.heap.size, 0, U⟩ (G la nl lc)).setCell ⟨w.heap.size, 1, U⟩ (E J (zn [(4, 0, [])]).boot)).setCell ⟨w.heap.size, 2, U⟩ (E J (zn [(4, 0, [])]).next)).setCell ⟨w.heap.size, 3, U⟩ (G oa no oc)).setCell ⟨w.heap.size, 4, U⟩ (G (some ⟨V.heap.size, 0, U⟩) n n)).setCell ⟨w.heap.size, 5, U⟩ (G U 0 0)) w.heap.size #[G la nl lc, E J (zn [(4, 0, [])]).boot, E J (zn [(4, 0, [])]).next, G oa no oc, G (some ⟨V.heap.size, 0, U⟩) n n, G U 0 0] 65 ∧ Z w.heap.size w ((((((wH.setCell ⟨w.heap.size, 0, U⟩ (G la nl lc)).setCell ⟨w.heap.size, 1, U⟩ (E J (zn [(4, 0, [])]).boot)).setCell ⟨w.heap.size, 2, U⟩ (E J (zn [(4, 0, [])]).next)).setCell ⟨w.heap.size, 3, U⟩ (G oa no oc)).setCell ⟨w.heap.size, 4, U⟩ (G (some ⟨V.heap.size, 0, U⟩) n n)).setCell ⟨w.heap.size, 5, U⟩ (G U 0 0))) := ⟨p1, p2, HV.out.1.trans ((hXH.mono HV.out.1.size).trans p3)⟩
   clear q0 q1 q2 q3 q4 q5 f0 f1 f2 f3 f4 f5 hNl hN hHH p1 p2 p3 hF9 hb9;go_wp2_with fail
   go_meet
   case rel => exact ⟨_, _, _, _, _, _, _, rfl, HF⟩
 case rest =>
  obtain ⟨la, nl, lc, oa, no, oc, HB, rfl, HF⟩ := hcut;obtain ⟨e0, e1, e2, e3, e4, e5⟩ := HF.out.2.1.cells6;go_wp2_with fail
  refine bodyPost_ret (v := .tuple #[.agg #[G la nl lc, E J (zn [(4, 0, [])]).boot, E J (zn [(4, 0, [])]).next, G oa no oc, G (some ⟨HB, 0, U⟩) n n, G U 0 0], E J 0]) ?_ rfl ⟨_, rfl, HF.out.1, HF.out.2.2⟩;simp [results, Tryz.results30, go_sem, e0, e1, e2, e3, e4, e5]
theorem zqb (R : Nat → Prop) (n : Nat) (h1 : 1 ≤ n) (h3 : n ≤ 3) (w : World) (hR : ∀ b, R b → b < w.heap.size) :
  Calls Tryz.prog 30 #[E J (n : Nat)] w fun e w' => ∃ v', e = .returned (.tuple #[v', E J 0]) ∧ zac R w' v' (zay n) ∧ Z w.heap.size w w' := by
 obtain rfl | rfl | rfl : n = 1 ∨ n = 2 ∨ n = 3 := by omega
 ·exact zjl 1 #[G U 0 0, E J 0, E J 0, E J 0, E J 0, G U 0 0, G U 0 0] (by decide) (by decide) rfl (fun _ => by kernel_rfl) R w hR
 ·exact zjl 2 #[G U 0 0, E J 0, E J 0, E J 0, E J 0, G U 0 0, G U 0 0, G U 0 0, E J 0, E J 0, E J 0, E J 0, G U 0 0, G U 0 0] (by decide) (by decide) rfl (fun _ => by kernel_rfl) R w hR
 ·exact zjl 3 #[G U 0 0, E J 0, E J 0, E J 0, E J 0, G U 0 0, G U 0 0, G U 0 0, E J 0, E J 0, E J 0, E J 0, G U 0 0, G U 0 0, G U 0 0, E J 0, E J 0, E J 0, E J 0, G U 0 0, G U 0 0] (by decide) (by decide) rfl (fun _ => by kernel_rfl) R w hR
theorem znz (R : Nat → Prop) (v : Value) (W : WW) (n : Nat) (P : Int → List P3) (sk sn : Int) (hk : ¬ (1 ≤ sk ∧ sk ≤ 7)) (sa : Option Addr) (ns sc : Nat) (sl : List P3) (w : World) (hR : ∀ b, R b → b < w.heap.size) (hv : zac R w v W) (I : Inv n P W) (hL : zbz 100000 W) (hns : ns = sl.length) (hp : zz R w sa sl) (hsl : sl.length ≤ 9223372036854775807) :
  Calls Tryz.prog 34 #[v, .agg #[E J sk, E J sn, G sa ns sc]] w fun e w' => ∃ v', e = .returned (.tuple #[v', E J (zl W (sk, sn, sl)).2]) ∧ zac R w' v' (zl W (sk, sn, sl)).1 ∧ Z w.heap.size w w' := by
 have HE0 : Q (zl W (sk, sn, sl) = (W, 1)) := by
  show _ = _
  unfold zl
  simp only
  rw [if_neg (by omega), if_neg (by omega), if_neg (by omega), if_neg (by omega), if_neg (by omega)]
 obtain ⟨la, nl, lc, Y, oa, no, oc, X, ha, nh, hc, XHs, na, nn, nc, XNs, rfl, hnc, hF⟩ := hv;have hS0 := DoS.start hF lc oc hc nc hnc (E J sk) (E J sn) (G sa ns sc);have HI := zF I hL hns hp hsl hR;have HN : Q (nh = W.hs.length ∧ nn = W.net.length) := ⟨by rw [hF.hs.n, hF.hs.len], by rw [hF.net.n, ← List.length_map (f := (·.2)), hF.net.says, List.length_map]⟩;have hnn : nn ≤ 24 := by have h1 := HN.out.2; have h2 := I.small; omega
 have hnh : nh ≤ 3 := by have h1 := HN.out.1; have h2 := I.len; have h3 := I.n3; omega
 clear I hL hns hp hsl hR hF hnc;go_enter Tryz.func34, Tryz.ntmps34
 go_upto_region 1 with fail
 generalize (((w.alloc (T #[G la nl lc, E J W.hd.boot, E J W.hd.next, G oa no oc, G ha nh hc, G na nn nc] 65)).alloc (T #[E J sk, E J sn, G sa ns sc] 61)).alloc (T #[G U 0 0, E J 0, E J 0, G U 0 0, G U 0 0, G U 0 0] 65)) = V at *;have HS := zA hS0;obtain ⟨x0, x1, x2, x3, x4, x5⟩ := hS0.wb.cells6;obtain ⟨y0, y1, y2⟩ := hS0.sb.cells3;have l0 := hS0.wb.lt;have l1 := hS0.sb.lt;clear hS0;obtain ⟨th, hth⟩ : ∃ th, Q (th = decide (0 ≤ sn ∧ sn < (nn : Int))) := ⟨_, rfl⟩;go_cut [6] (fun tv wx => tv = .bool th ∧ wx = V)
 case first =>
  by_cases h0 : 0 ≤ sn
  ·by_cases h1 : sn < (nn : Int)
   ·have ht : th = true := by rw [hth.out]; simp [h0, h1]
    have g0 : decide (sn ≥ 0) = true := decide_eq_true h0;have g1 := decide_eq_true h1;go_wp2_with fail
    go_meet
    case rel => exact ⟨by rw [ht], rfl⟩
   ·have ht : th = false := by rw [hth.out]; simp [h1]
    have g0 : decide (sn ≥ 0) = true := decide_eq_true h0;have g1 := decide_eq_false h1;go_wp2_with fail
    go_meet
    case rel => exact ⟨by rw [ht], rfl⟩
  ·have ht : th = false := by rw [hth.out]; simp [h0]
   have g0 : decide (sn ≥ 0) = false := decide_eq_false h0;go_wp2_with fail
   go_meet
   case rel => exact ⟨by rw [ht], rfl⟩
 case rest =>
  obtain ⟨rfl, rfl⟩ := hcut;have g1 : (sk == 1) = false := by rw [beq_eq_false_iff_ne]; omega
  have g2 : (sk == 2) = false := by rw [beq_eq_false_iff_ne]; omega
  have g3 : (sk == 3) = false := by rw [beq_eq_false_iff_ne]; omega
  have g4 : (sk == 4) = false := by rw [beq_eq_false_iff_ne]; omega
  have g5 : (sk == 5) = false := by rw [beq_eq_false_iff_ne]; omega
  have g6 : (sk == 6) = false := by rw [beq_eq_false_iff_ne]; omega
  have g7 : (sk == 7) = false := by rw [beq_eq_false_iff_ne]; omega
  go_upto_region 3 with fail
  clear g1 g2 g3 g4 g5 g6 g7;obtain ⟨r0, r1, r2, r3, r4, r5⟩ := (HS.out).rb.cells6;obtain ⟨q0, q1, q2, q3, q4, q5⟩ := (HS.out).rb.free6;have l2 := (HS.out).rb.lt;obtain ⟨p1, p2, p3⟩ := (HS.out).ret;obtain ⟨e0, e1, e2, e3, e4, e5⟩ := p3.cells6;have HF : Q (zac R (r (r (r (r (r (r wc ⟨w.heap.size + 2, 0, U⟩ (G la nl lc)) ⟨w.heap.size + 2, 1, U⟩ (E J W.hd.boot)) ⟨w.heap.size + 2, 2, U⟩ (E J W.hd.next)) ⟨w.heap.size + 2, 3, U⟩ (G oa no oc)) ⟨w.heap.size + 2, 4, U⟩ (G ha nh hc)) ⟨w.heap.size + 2, 5, U⟩ (G na nn nc)) (.agg #[G la nl lc, E J W.hd.boot, E J W.hd.next, G oa no oc, G ha nh hc, G na nn nc]) (zl W (sk, sn, sl)).1 ∧ Z w.heap.size w (r (r (r (r (r (r wc ⟨w.heap.size + 2, 0, U⟩ (G la nl lc)) ⟨w.heap.size + 2, 1, U⟩ (E J W.hd.boot)) ⟨w.heap.size + 2, 2, U⟩ (E J W.hd.next)) ⟨w.heap.size + 2, 3, U⟩ (G oa no oc)) ⟨w.heap.size + 2, 4, U⟩ (G ha nh hc)) ⟨w.heap.size + 2, 5, U⟩ (G na nn nc))) := by rw [HE0.out]; exact ⟨p1, p2⟩
  have HE : Q ((zl W (sk, sn, sl)).2 = 1) := by show _ = _; rw [HE0.out]
  clear p1 p2 p3;go_wp2_with fail
  clear r0 r1 r2 r3 r4 r5 q0 q1 q2 q3 q4 q5 x0 x1 x2 x3 x4 x5;generalize (r (r (r (r (r (r wc ⟨w.heap.size + 2, 0, U⟩ (G la nl lc)) ⟨w.heap.size + 2, 1, U⟩ (E J W.hd.boot)) ⟨w.heap.size + 2, 2, U⟩ (E J W.hd.next)) ⟨w.heap.size + 2, 3, U⟩ (G oa no oc)) ⟨w.heap.size + 2, 4, U⟩ (G ha nh hc)) ⟨w.heap.size + 2, 5, U⟩ (G na nn nc)) = Z9 at *;refine bodyPost_ret (v := .tuple #[.agg #[G la nl lc, E J W.hd.boot, E J W.hd.next, G oa no oc, G ha nh hc, G na nn nc], E J (1)]) ?_ rfl ⟨_, by rw [HE.out], HF.out.1, HF.out.2⟩;simp [results, Tryz.results34, go_sem, e0, e1, e2, e3, e4, e5]
end Go.Proofs.YtpcnlifmkhagkaaGreat
