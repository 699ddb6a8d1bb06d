import Derived.Test.YtpcnlifmkhagkaaGreatKTJ26
import Derived.Test.YtpcnlifmkhagkaaGreatKTRefDo1
import Derived.Test.YtpcnlifmkhagkaaGreatKTRefDo2h
import Derived.Test.YtpcnlifmkhagkaaGreatKTRefDo2g
import Derived.Test.YtpcnlifmkhagkaaGreatKTJ32
import Derived.Test.YtpcnlifmkhagkaaGreatKTRefDo5
import Derived.Test.YtpcnlifmkhagkaaGreatKTRefDo6
import Derived.Test.YtpcnlifmkhagkaaGreatKTRefDo7
set_option maxRecDepth 20000
set_option maxHeartbeats 20000000
namespace Go.Proofs.YtpcnlifmkhagkaaGreat
open Go.RowKit
open Go.Value renaming slice → G, int → E
open Go.IntKind renaming i64 → J
open _root_.Option renaming none → U
open Go.Obj renaming cells → T
open Go.RowKit renaming Hid → Q, Below → Z
open Go.World renaming setCell → r
open _root_.Or renaming inl → kaa, inr → kab
open _root_.List renaming mem_append → kac, mem_singleton → kad
attribute [local go_sem ↓] Go.wp_at_zero Go.wp_at_succ
theorem zqm (R : Nat → Prop) (v : Value) (W : WW) (n : Nat) (P : Int → List P3) (sk sn : Int) (sa : Option Addr) (ns sc : Nat) (sl : List P3) (w : World) (hR : ∀ b, R b → b < w.heap.size) (hv : zac R w v W) (I : Inv n P W) (hL : zbz 100000 W) (hns : ns = sl.length) (hp : zz R w sa sl) (hsl : sl.length ≤ 9223372036854775807) :
  Calls Tryz.prog 34 #[v, .agg #[E J sk, E J sn, G sa ns sc]] w fun e w' => ∃ v', e = .returned (.tuple #[v', E J (zl W (sk, sn, sl)).2]) ∧ zac R w' v' (zl W (sk, sn, sl)).1 ∧ Z w.heap.size w w' := by
 by_cases hk : 1 ≤ sk ∧ sk ≤ 7
 ·obtain rfl | rfl | rfl | rfl | rfl | rfl | rfl : sk = 1 ∨ sk = 2 ∨ sk = 3 ∨ sk = 4 ∨ sk = 5 ∨ sk = 6 ∨ sk = 7 := by omega
  ·exact zqr R v W n P sn sa ns sc sl w hR hv I hL hns hp hsl
  ·cases hm : W.net[sn.toNat]? with
   | none => exact zkv R v W n P sn sa ns sc sl w hR hv I hL hns hp hsl (fun m h => by rw [hm] at h; cases h)
   | some m =>
    by_cases k1 : m.1 = 1 ∨ m.1 = 4 ∨ m.1 = 5
    ·exact zpy R v W n P sn sa ns sc sl w hR hv I hL hns hp hsl (fun m' h => by rw [hm] at h; cases h; exact k1)
    exact zkv R v W n P sn sa ns sc sl w hR hv I hL hns hp hsl (fun m' h => by rw [hm] at h; cases h; exact k1)
  ·exact zps R v W n P sn sa ns sc sl w hR hv I hL hns hp hsl
  ·exact znu R v W n P sn sa ns sc sl w hR hv I hL hns hp hsl
  ·exact zpr R v W n P sn sa ns sc sl w hR hv I hL hns hp hsl
  ·exact zp9 R v W n P sn sa ns sc sl w hR hv I hL hns hp hsl
  ·exact zpa R v W n P sn sa ns sc sl w hR hv I hL hns hp hsl
 ·exact znz R v W n P sk sn hk sa ns sc sl w hR hv I hL hns hp hsl
def zad (n : Nat) (l : List R3) : WW × List Int := l.foldl (fun x s => ((zl x.1 s).1, x.2 ++ [(zl x.1 s).2])) (zay n, [])
def playE (n : Nat) (l : List R3) : List Int := (zad n (l.take 150)).2
theorem zm3 (n : Nat) (l : List R3) : (zad n l).1 = l.foldl (fun W s => (zl W s).1) (zay n) := by
 unfold zad
 suffices h : ∀ (l : List R3) (x : WW × List Int), (l.foldl (fun x s => ((zl x.1 s).1, x.2 ++ [(zl x.1 s).2])) x).1 = l.foldl (fun W s => (zl W s).1) x.1 from h l _
 intro l
 induction l with
 | nil => intro x; rfl
 | cons s t ih => intro x; exact ih _
theorem zli (n : Nat) (l : List R3) : (zad n (l.take 150)).1 = zat n l := zm3 n _
theorem playS_len (n : Nat) (l : List R3) : (zad n l).2.length = l.length := by
 unfold zad
 suffices h : ∀ (l : List R3) (x : WW × List Int), (l.foldl (fun x s => ((zl x.1 s).1, x.2 ++ [(zl x.1 s).2])) x).2.length = x.2.length + l.length by
  have := h l (zay n, [])
  simpa using this
 intro l
 induction l with
 | nil => intro x; simp
 | cons s t ih => intro x; rw [List.foldl_cons, ih, List.length_append, List.length_cons]; simp; omega
theorem zp2 (n : Nat) {l : List R3} {k : Nat} (h : k < l.length) : zad n (l.take (k + 1)) = ((zl (zad n (l.take k)).1 l[k]).1, (zad n (l.take k)).2 ++ [(zl (zad n (l.take k)).1 l[k]).2]) := by
 unfold zad
 rw [zav h, List.foldl_append];rfl
theorem playS_ok {n : Nat} (hn : n ≤ 3) (l : List R3) (hl : l.length ≤ 150) : (∃ P, Inv n P (zad n l).1) ∧ zbz 100000 (zad n l).1 := by
 have e : (zad n l).1 = zat n l := by rw [zm3]; unfold zat; rw [List.take_of_length_le hl]
 rw [e];exact ⟨inv_play hn l, (zk9 n l).mono (by decide)⟩
theorem infoErrno : (Tryz.prog.info? 32).map (fun i => (i.zero, i.size, i.bytes)) = some (some (E J 0), 1, 8) := by kernel_rfl
def RP (R : Nat → Prop) (w0 : World) (N6 : Nat) (ev : Value) : Nat → Prop := fun b => R b ∨ b = w0.heap.size ∨ b = N6 ∨ ev.ownBlock = some b
structure zck (R : Nat → Prop) (w0 : World) (N6 : Nat) (w : World) (la : Option Addr) (nl lc : Nat) (oa : Option Addr) (no oc : Nat) (ha : Option Addr) (nh hc : Nat) (na : Option Addr) (nn nc : Nat) (W : WW) (ev : Value) (es : List Int) : Prop where
 ne : w0.heap.size < N6
 rb : Blk w w0.heap.size #[G U 0 0, E J 0, E J 0, G U 0 0, G U 0 0, G U 0 0] 65
 wb : Blk w N6 #[G la nl lc, E J W.hd.boot, E J W.hd.next, G oa no oc, G ha nh hc, G na nn nc] 65
 wv : zac (RP R w0 N6 ev) w (.agg #[G la nl lc, E J W.hd.boot, E J W.hd.next, G oa no oc, G ha nh hc, G na nn nc]) W
 es : za 32 1 zu w (N6 + 1) ev es
 bel : Z w0.heap.size w0 w
section
variable {R : Nat → Prop} {w0 w w' : World} {N6 : Nat} {la : Option Addr} {nl lc : Nat} {oa : Option Addr} {no oc : Nat} {ha : Option Addr} {nh hc : Nat} {na : Option Addr} {nn nc : Nat} {W : WW} {ev : Value} {es : List Int}
theorem zck.below (H : zck R w0 N6 w la nl lc oa no oc ha nh hc na nn nc W ev es) (hb : Z w.heap.size w w') : zck R w0 N6 w' la nl lc oa no oc ha nh hc na nn nc W ev es :=
 ⟨H.ne, H.rb.below hb H.rb.lt, H.wb.below hb H.wb.lt, H.wv.below hb, H.es.below hb (Nat.le_refl _), H.bel.trans (hb.mono H.bel.size)⟩
theorem zck.ltR (H : zck R w0 N6 w la nl lc oa no oc ha nh hc na nn nc W ev es) (hR : ∀ b, R b → b < w0.heap.size) : ∀ b, RP R w0 N6 ev b → b < w.heap.size := fun b hb => by
 have h1 := H.wb.lt;have h2 := H.ne;rcases hb with h | h | h | h
 ·have := hR b h; omega
 ·omega
 ·omega
 ·obtain ⟨_, cs, hB⟩ := H.es.blk h; exact hB.lt
theorem zck.ret {ea : Option Addr} {en ec : Nat} (H : zck R w0 N6 w la nl lc oa no oc ha nh hc na nn nc W (G ea en ec) es) :
  zac R (r (r (r (r (r (r w ⟨w0.heap.size, 0, U⟩ (G la nl lc)) ⟨w0.heap.size, 1, U⟩ (E J W.hd.boot)) ⟨w0.heap.size, 2, U⟩ (E J W.hd.next)) ⟨w0.heap.size, 3, U⟩ (G oa no oc)) ⟨w0.heap.size, 4, U⟩ (G ha nh hc)) ⟨w0.heap.size, 5, U⟩ (G na nn nc)) (.agg #[G la nl lc, E J W.hd.boot, E J W.hd.next, G oa no oc, G ha nh hc, G na nn nc]) W ∧
  Z w0.heap.size w0 (r (r (r (r (r (r w ⟨w0.heap.size, 0, U⟩ (G la nl lc)) ⟨w0.heap.size, 1, U⟩ (E J W.hd.boot)) ⟨w0.heap.size, 2, U⟩ (E J W.hd.next)) ⟨w0.heap.size, 3, U⟩ (G oa no oc)) ⟨w0.heap.size, 4, U⟩ (G ha nh hc)) ⟨w0.heap.size, 5, U⟩ (G na nn nc)) ∧
  Blk (r (r (r (r (r (r w ⟨w0.heap.size, 0, U⟩ (G la nl lc)) ⟨w0.heap.size, 1, U⟩ (E J W.hd.boot)) ⟨w0.heap.size, 2, U⟩ (E J W.hd.next)) ⟨w0.heap.size, 3, U⟩ (G oa no oc)) ⟨w0.heap.size, 4, U⟩ (G ha nh hc)) ⟨w0.heap.size, 5, U⟩ (G na nn nc)) w0.heap.size #[G la nl lc, E J W.hd.boot, E J W.hd.next, G oa no oc, G ha nh hc, G na nn nc] 65 ∧
  za 32 1 zu (r (r (r (r (r (r w ⟨w0.heap.size, 0, U⟩ (G la nl lc)) ⟨w0.heap.size, 1, U⟩ (E J W.hd.boot)) ⟨w0.heap.size, 2, U⟩ (E J W.hd.next)) ⟨w0.heap.size, 3, U⟩ (G oa no oc)) ⟨w0.heap.size, 4, U⟩ (G ha nh hc)) ⟨w0.heap.size, 5, U⟩ (G na nn nc)) w0.heap.size (G ea en ec) es := by
 obtain ⟨h1, hk⟩ := zhd H.rb (G la nl lc) (E J W.hd.boot) (E J W.hd.next) (G oa no oc) (G ha nh hc) (G na nn nc);have hk' : zf (RP R w0 N6 (G ea en ec)) w _ := hk.mono (fun b _ hb => kab (kaa hb));refine ⟨(H.wv.keep hk').wide (fun b hb => kaa (kaa hb)), H.bel.trans (hk.below H.bel.size (fun b hb => by subst hb; exact Nat.le_refl _)), h1, ?_⟩;have z := H.rb;exact ((((((H.es.mono (by have := H.ne; omega)).setOther (a := ⟨w0.heap.size, 0, U⟩) z (by decide) _).setOther (a := ⟨w0.heap.size, 1, U⟩) (z.set 0 _) (by decide) _).setOther (a := ⟨w0.heap.size, 2, U⟩) ((z.set 0 _).set 1 _) (by decide) _).setOther (a := ⟨w0.heap.size, 3, U⟩) (((z.set 0 _).set 1 _).set 2 _) (by decide) _).setOther (a := ⟨w0.heap.size, 4, U⟩) ((((z.set 0 _).set 1 _).set 2 _).set 3 _) (by decide) _).setOther (a := ⟨w0.heap.size, 5, U⟩) (((((z.set 0 _).set 1 _).set 2 _).set 3 _).set 4 _) (by decide) _
theorem zck.put (H : zck R w0 N6 w la nl lc oa no oc ha nh hc na nn nc W ev es) {la2 : Option Addr} {nl2 lc2 : Nat} {oa2 : Option Addr} {no2 oc2 : Nat} {ha2 : Option Addr} {nh2 hc2 : Nat} {na2 : Option Addr} {nn2 nc2 : Nat} {W2 : WW} (hv : zac (RP R w0 N6 ev) w (.agg #[G la2 nl2 lc2, E J W2.hd.boot, E J W2.hd.next, G oa2 no2 oc2, G ha2 nh2 hc2, G na2 nn2 nc2]) W2) :
  zck R w0 N6 (r (r (r (r (r (r w ⟨N6, 0, U⟩ (G la2 nl2 lc2)) ⟨N6, 1, U⟩ (E J W2.hd.boot)) ⟨N6, 2, U⟩ (E J W2.hd.next)) ⟨N6, 3, U⟩ (G oa2 no2 oc2)) ⟨N6, 4, U⟩ (G ha2 nh2 hc2)) ⟨N6, 5, U⟩ (G na2 nn2 nc2)) la2 nl2 lc2 oa2 no2 oc2 ha2 nh2 hc2 na2 nn2 nc2 W2 ev es := by
 obtain ⟨h1, hk⟩ := zhd H.wb (G la2 nl2 lc2) (E J W2.hd.boot) (E J W2.hd.next) (G oa2 no2 oc2) (G ha2 nh2 hc2) (G na2 nn2 nc2);have hk' : zf (RP R w0 N6 ev) w _ := hk.mono (fun b _ hb => kab (kab (kaa hb)));have hne := H.ne;have z := H.wb;refine ⟨hne, H.rb.keep hk (by omega), h1, hv.keep hk', ?_, H.bel.trans (hk.below H.bel.size (fun b hb => by subst hb; omega))⟩;exact (((((H.es.setOther (a := ⟨N6, 0, U⟩) z (by decide) _).setOther (a := ⟨N6, 1, U⟩) (z.set 0 _) (by decide) _).setOther (a := ⟨N6, 2, U⟩) ((z.set 0 _).set 1 _) (by decide) _).setOther (a := ⟨N6, 3, U⟩) (((z.set 0 _).set 1 _).set 2 _) (by decide) _).setOther (a := ⟨N6, 4, U⟩) ((((z.set 0 _).set 1 _).set 2 _).set 3 _) (by decide) _).setOther (a := ⟨N6, 5, U⟩) (((((z.set 0 _).set 1 _).set 2 _).set 3 _).set 4 _) (by decide) _
theorem zck.newR (H : zck R w0 N6 w la nl lc oa no oc ha nh hc na nn nc W ev es) : ∀ b, RP R w0 N6 ev b → R b ∨ w0.heap.size ≤ b := fun b hb => by
 have h2 := H.ne;rcases hb with h | h | h | h
 ·exact kaa h
 ·exact kab (by omega)
 ·exact kab (by omega)
 ·exact kab (by have := H.es.base _ h; omega)
theorem zck.grown (H : zck R w0 N6 w la nl lc oa no oc ha nh hc na nn nc W ev es) {ev' : Value} {es' : List Int} (ho : za 32 1 zu w' (N6 + 1) ev' es') (hg : w.grownBy w' ev.ownBlock) (hat : ev'.ownBlock = ev.ownBlock ∨ ev'.ownBlock = some w.heap.size) : zck R w0 N6 w' la nl lc oa no oc ha nh hc na nn nc W ev' es' := by
 have hne : ∀ b, b ≤ N6 → ev.ownBlock ≠ some b := fun b hb e => by have := H.es.base _ e; omega
 have h0 := H.ne
 have hv : zac (fun b => RP R w0 N6 ev b ∨ RP R w0 N6 ev' b) w (.agg #[G la nl lc, E J W.hd.boot, E J W.hd.next, G oa no oc, G ha nh hc, G na nn nc]) W := H.wv.wide (fun b hb => by
  rcases hb with h | h | h | h | h
  ·exact kaa h
  ·exact kaa (kaa h)
  ·exact kaa (kab (kaa h))
  ·exact kaa (kab (kab (kaa h)))
  ·rcases hat with e | e
   ·exact kaa (kab (kab (kab (by rw [← e]; exact h))))
   ·rw [e] at h; cases h; exact kab (Nat.le_refl _))
 have hK : zf (fun b => RP R w0 N6 ev b ∨ RP R w0 N6 ev' b) w w' := zf.ofGrown hg (fun k hk => kaa (kab (kab (kab hk))));exact ⟨h0, H.rb.keptNe hg (hne _ (by omega)), H.wb.keptNe hg (hne _ (Nat.le_refl _)), (hv.keep hK).wide (fun b hb => kaa (kab hb)), ho, H.bel.grown hg H.bel.size (fun k hk => by have := H.es.base _ hk; omega)⟩
end
theorem znq (R : Nat → Prop) (n : Nat) (h1 : 1 ≤ n) (h3 : n ≤ 3) (a : Option Addr) (cap len : Nat) (S : List XL) (w : World) (hR : ∀ b, R b → b < w.heap.size) (hlen : len = S.length) (hp : zcc w a S) (hq : ∀ x ∈ S, zz R w x.2.2.1.1 x.2.2.2) (hx : ∀ x ∈ S, x.2.2.2.length ≤ 9223372036854775807) (hl : S.length ≤ 9223372036854775807) :
  Calls Tryz.prog 32 #[E J (n : Nat), G a len cap] w fun e w' => ∃ v' ea en ec, e = .returned (.tuple #[v', G ea en ec]) ∧ zac R w' v' (zat n (S.map ze)) ∧ za 32 1 zu w' w.heap.size (G ea en ec) (playE n (S.map ze)) ∧ Z w.heap.size w w' := by
 have HG := zF hp hq hx hR h1 h3;have hll : len ≤ 9223372036854775807 := by omega
 have hb0 := zh w (T #[G U 0 0, E J 0, E J 0, G U 0 0, G U 0 0, G U 0 0] 65);have hr0 : Blk (w.alloc (T #[G U 0 0, E J 0, E J 0, G U 0 0, G U 0 0, G U 0 0] 65)) w.heap.size #[G U 0 0, E J 0, E J 0, G U 0 0, G U 0 0, G U 0 0] 65 := Blk.new _ _ _;have hs0 : (w.alloc (T #[G U 0 0, E J 0, E J 0, G U 0 0, G U 0 0, G U 0 0] 65)).heap.size = w.heap.size + 1 := by simp
 clear hp hq hx hR h1 h3 hl;go_enter Tryz.func32, Tryz.ntmps32
 go_upto_region 1 with fail
 generalize w.alloc (T #[G U 0 0, E J 0, E J 0, G U 0 0, G U 0 0, G U 0 0] 65) = V at *;have HV := zC hb0 hr0 hs0;clear hb0 hr0 hs0;go_wp2_with fail
 refine (zqb (fun b => R b ∨ b = w.heap.size) n HG.out.2.2.2.2.1 HG.out.2.2.2.2.2 V (fun b hb => hb.elim (fun h => by have h1 := HG.out.2.2.2.1 b h; have h2 := HV.out.2.2; omega) (fun h => by have h2 := HV.out.2.2; omega))).mono ?_;rintro e w1 ⟨v1, rfl, hv1, hb1⟩;obtain ⟨la, nl, lc, Y1, oa, no, oc, X1, ha, nh, hc, XH1, na, nn, nc, XN1, rfl, hcap1, hF1⟩ := hv1;have hsz1 : w.heap.size < w1.heap.size := by have h1 := hb1.size; have h2 := HV.out.2.2; omega
 have H1 : Q (zck R w w1.heap.size (w1.alloc (T #[G la nl lc, E J (zay n).hd.boot, E J (zay n).hd.next, G oa no oc, G ha nh hc, G na nn nc] 65)) la nl lc oa no oc ha nh hc na nn nc (zay n) (G U 0 0) []) := by
  have hbb := zh w1 (T #[G la nl lc, E J (zay n).hd.boot, E J (zay n).hd.next, G oa no oc, G ha nh hc, G na nn nc] 65);refine ⟨hsz1, (HV.out.2.1.below hb1 HV.out.2.1.lt).below hbb hsz1, Blk.new _ _ _, zac.below (zac.wide (⟨_, _, _, Y1, _, _, _, X1, _, _, _, XH1, _, _, _, XN1, rfl, hcap1, hF1⟩ : zac (fun b => R b ∨ b = w.heap.size) w1 (.agg #[G la nl lc, E J (zay n).hd.boot, E J (zay n).hd.next, G oa no oc, G ha nh hc, G na nn nc]) (zay n)) (fun b hb => ?_)) hbb, za.nil _ _, (HV.out.1.trans (hb1.mono HV.out.1.size)).trans (hbb.mono (Nat.le_of_lt hsz1))⟩;rcases hb with h | h | h | h
  ·exact kaa (kaa h)
  ·exact kaa (kab h)
  ·exact kab (by omega)
  ·cases h
 clear hF1 hcap1 hb1;go_upto_region 3 with fail
 obtain ⟨N6, hN6⟩ : ∃ N6, N6 = w1.heap.size := ⟨_, rfl⟩;rw [← hN6] at H1;generalize w1.alloc (T #[G la nl lc, E J (zay n).hd.boot, E J (zay n).hd.next, G oa no oc, G ha nh hc, G na nn nc] 65) = V1 at *;rw [← hN6];clear hN6 hsz1;go_wp2;go_loopw [8, 20] (fun ev i w' => ∃ (k : Nat) (la : Option Addr) (nl lc : Nat) (oa : Option Addr) (no oc : Nat) (ha : Option Addr) (nh hc : Nat) (na : Option Addr) (nn nc : Nat), k ≤ len ∧ k ≤ 150 ∧ i = E J k ∧ Q (zck R w N6 w' la nl lc oa no oc ha nh hc na nn nc (zad n ((S.map ze).take k)).1 ev (zad n ((S.map ze).take k)).2)) (fun _ i _ => len - (intOf i).toNat)
 case atStart => exact ⟨0, la, nl, lc, oa, no, oc, ha, nh, hc, na, nn, nc, Nat.zero_le _, Nat.zero_le _, rfl, H1.out⟩
 case round =>
  obtain ⟨k, la, nl, lc, oa, no, oc, ha, nh, hc, na, nn, nc, hk, hk2, rfl, hH⟩ := hrel;obtain ⟨ea, en, ec, rfl⟩ := hH.out.es.slice zaf;by_cases hlt : k < len
  ·skip
   have hkS : k < S.length := by omega
   rcases (HG.out.1.1.below hH.out.bel) with h0 | ⟨g, o, rfl, hg, hc⟩
   ·rw [h0] at hkS; simp at hkS
   have d0 := hc k hkS 0 _ rfl;have d1 := hc k hkS 1 _ rfl;have d2 := hc k hkS 2 _ rfl;have hpq := HG.out.2.1 _ (List.getElem_mem hkS);have hpl := HG.out.2.2.1 _ (List.getElem_mem hkS)
   have HT : Q (zad n ((S.map ze).take (k + 1)) = ((zl (zad n ((S.map ze).take k)).1 (ze S[k])).1, (zad n ((S.map ze).take k)).2 ++ [(zl (zad n ((S.map ze).take k)).1 (ze S[k])).2])) := by
    have h := zp2 n (l := S.map ze) (k := k) (by rw [List.length_map]; exact hkS);rw [List.getElem_map] at h;exact h
   clear hc;generalize S[k] = x at *;obtain ⟨s0, s1, ⟨sa, sc⟩, sl⟩ := x;simp only [ze, Nat.add_zero] at d0 d1 d2 hpq hpl HT
   obtain ⟨sn, hsn⟩ : ∃ sn, Q (sn = sl.length) := ⟨_, rfl⟩;rw [← hsn.out] at d2;have HX := zB hpq hpl;clear hpq hpl;by_cases h150 : k = 150
   ·have hb : ((k : Int) == 150) = true := by rw [beq_iff_eq]; omega
    have HP : Q ((zad n ((S.map ze).take k)).1 = zat n (S.map ze) ∧ (zad n ((S.map ze).take k)).2 = playE n (S.map ze)) := by show _ ∧ _; subst h150; exact ⟨zli _ _, rfl⟩
    clear h150 HX HT;have H1 : Q (zck R w N6 (wr.alloc (T #[E J s0, E J s1, G sa sn sc] 61)) la nl lc oa no oc ha nh hc na nn nc (zad n ((S.map ze).take k)).1 (G ea en ec) (zad n ((S.map ze).take k)).2) := hH.out.below (zh wr _);go_upto_region 11 with fail
    clear hH d0 d1 d2 hg;generalize wr.alloc (T #[E J s0, E J s1, G sa sn sc] 61) = A at *;obtain ⟨x0, x1, x2, x3, x4, x5⟩ := (H1.out).wb.cells6;obtain ⟨r0, r1, r2, r3, r4, r5⟩ := (H1.out).rb.cells6;obtain ⟨q0, q1, q2, q3, q4, q5⟩ := (H1.out).rb.free6;have l0 := (H1.out).wb.lt;have l2 := (H1.out).rb.lt;obtain ⟨p1, p2, p3, p4⟩ := (H1.out).ret;obtain ⟨e0, e1, e2, e3, e4, e5⟩ := p3.cells6;have HF : Q (zac R (r (r (r (r (r (r A ⟨w.heap.size, 0, U⟩ (G la nl lc)) ⟨w.heap.size, 1, U⟩ (E J (zad n ((S.map ze).take k)).1.hd.boot)) ⟨w.heap.size, 2, U⟩ (E J (zad n ((S.map ze).take k)).1.hd.next)) ⟨w.heap.size, 3, U⟩ (G oa no oc)) ⟨w.heap.size, 4, U⟩ (G ha nh hc)) ⟨w.heap.size, 5, U⟩ (G na nn nc)) (.agg #[G la nl lc, E J (zad n ((S.map ze).take k)).1.hd.boot, E J (zad n ((S.map ze).take k)).1.hd.next, G oa no oc, G ha nh hc, G na nn nc]) (zat n (S.map ze)) ∧ za 32 1 zu (r (r (r (r (r (r A ⟨w.heap.size, 0, U⟩ (G la nl lc)) ⟨w.heap.size, 1, U⟩ (E J (zad n ((S.map ze).take k)).1.hd.boot)) ⟨w.heap.size, 2, U⟩ (E J (zad n ((S.map ze).take k)).1.hd.next)) ⟨w.heap.size, 3, U⟩ (G oa no oc)) ⟨w.heap.size, 4, U⟩ (G ha nh hc)) ⟨w.heap.size, 5, U⟩ (G na nn nc)) w.heap.size (G ea en ec) (playE n (S.map ze)) ∧ Z w.heap.size w (r (r (r (r (r (r A ⟨w.heap.size, 0, U⟩ (G la nl lc)) ⟨w.heap.size, 1, U⟩ (E J (zad n ((S.map ze).take k)).1.hd.boot)) ⟨w.heap.size, 2, U⟩ (E J (zad n ((S.map ze).take k)).1.hd.next)) ⟨w.heap.size, 3, U⟩ (G oa no oc)) ⟨w.heap.size, 4, U⟩ (G ha nh hc)) ⟨w.heap.size, 5, U⟩ (G na nn nc))) := by rw [← HP.out.1, ← HP.out.2]; exact ⟨p1, p4, p2⟩
    clear p1 p2 p3 p4;go_wp2_with fail
    clear x0 x1 x2 x3 x4 x5 r0 r1 r2 r3 r4 r5 q0 q1 q2 q3 q4 q5;generalize (r (r (r (r (r (r A ⟨w.heap.size, 0, U⟩ (G la nl lc)) ⟨w.heap.size, 1, U⟩ (E J (zad n ((S.map ze).take k)).1.hd.boot)) ⟨w.heap.size, 2, U⟩ (E J (zad n ((S.map ze).take k)).1.hd.next)) ⟨w.heap.size, 3, U⟩ (G oa no oc)) ⟨w.heap.size, 4, U⟩ (G ha nh hc)) ⟨w.heap.size, 5, U⟩ (G na nn nc)) = Z9 at *;refine bodyPost_ret (v := .tuple #[.agg #[G la nl lc, E J (zad n ((S.map ze).take k)).1.hd.boot, E J (zad n ((S.map ze).take k)).1.hd.next, G oa no oc, G ha nh hc, G na nn nc], G ea en ec]) ?_ rfl ⟨_, _, _, _, rfl, HF.out.1, HF.out.2.1, HF.out.2.2⟩;simp [results, Tryz.results32, go_sem, e0, e1, e2, e3, e4, e5]
   ·have hb : ((k : Int) == 150) = false := by rw [beq_eq_false_iff_ne]; omega
    go_upto_region 6 with fail
    have H1 : Q (zck R w N6 (wr.alloc (T #[E J s0, E J s1, G sa sn sc] 61)) la nl lc oa no oc ha nh hc na nn nc (zad n ((S.map ze).take k)).1 (G ea en ec) (zad n ((S.map ze).take k)).2 ∧ Blk (wr.alloc (T #[E J s0, E J s1, G sa sn sc] 61)) wr.heap.size #[E J s0, E J s1, G sa sn sc] 61) := ⟨hH.out.below (zh wr _), Blk.new _ _ _⟩;clear hH d0 d1 d2 hg;generalize wr.alloc (T #[E J s0, E J s1, G sa sn sc] 61) = A at *;obtain ⟨x0, x1, x2, x3, x4, x5⟩ := H1.out.1.wb.cells6;obtain ⟨y0, y1, y2⟩ := H1.out.2.cells3;have l0 := H1.out.1.wb.lt;have l1 := H1.out.2.lt;have hok := playS_ok HG.out.2.2.2.2.2 ((S.map ze).take k) (by rw [List.length_take]; omega);obtain ⟨P, hP⟩ := hok.1;have HI := zB hP hok.2;clear hok hP;go_wp2_with fail
    refine (zqm (RP R w N6 (G ea en ec)) _ (zad n ((S.map ze).take k)).1 n P s0 s1 sa sn sc sl A (H1.out.1.ltR HG.out.2.2.2.1) H1.out.1.wv HI.out.1 HI.out.2 hsn.out ((HX.out.1.wide (H1.out.1.newR)).below H1.out.1.bel) HX.out.2).mono ?_;rintro e w2 ⟨v2, rfl, hv2, hb2⟩;obtain ⟨la2, nl2, lc2, Y2, oa2, no2, oc2, X2, ha2, nh2, hc2, XH2, na2, nn2, nc2, XN2, rfl, hcap2, hF2⟩ := hv2;have H2 : Q (zck R w N6 (w2.alloc (T #[G la2 nl2 lc2, E J ((zl (zad n ((S.map ze).take k)).1 (s0, s1, sl)).1).hd.boot, E J ((zl (zad n ((S.map ze).take k)).1 (s0, s1, sl)).1).hd.next, G oa2 no2 oc2, G ha2 nh2 hc2, G na2 nn2 nc2] 65)) la nl lc oa no oc ha nh hc na nn nc (zad n ((S.map ze).take k)).1 (G ea en ec) (zad n ((S.map ze).take k)).2 ∧ Blk (w2.alloc (T #[G la2 nl2 lc2, E J ((zl (zad n ((S.map ze).take k)).1 (s0, s1, sl)).1).hd.boot, E J ((zl (zad n ((S.map ze).take k)).1 (s0, s1, sl)).1).hd.next, G oa2 no2 oc2, G ha2 nh2 hc2, G na2 nn2 nc2] 65)) w2.heap.size #[G la2 nl2 lc2, E J ((zl (zad n ((S.map ze).take k)).1 (s0, s1, sl)).1).hd.boot, E J ((zl (zad n ((S.map ze).take k)).1 (s0, s1, sl)).1).hd.next, G oa2 no2 oc2, G ha2 nh2 hc2, G na2 nn2 nc2] 65 ∧ zac (RP R w N6 (G ea en ec)) (w2.alloc (T #[G la2 nl2 lc2, E J ((zl (zad n ((S.map ze).take k)).1 (s0, s1, sl)).1).hd.boot, E J ((zl (zad n ((S.map ze).take k)).1 (s0, s1, sl)).1).hd.next, G oa2 no2 oc2, G ha2 nh2 hc2, G na2 nn2 nc2] 65)) (.agg #[G la2 nl2 lc2, E J ((zl (zad n ((S.map ze).take k)).1 (s0, s1, sl)).1).hd.boot, E J ((zl (zad n ((S.map ze).take k)).1 (s0, s1, sl)).1).hd.next, G oa2 no2 oc2, G ha2 nh2 hc2, G na2 nn2 nc2]) ((zl (zad n ((S.map ze).take k)).1 (s0, s1, sl)).1)) := ⟨(H1.out.1.below hb2).below (zh w2 _), Blk.new _ _ _, zac.below ⟨_, _, _, Y2, _, _, _, X2, _, _, _, XH2, _, _, _, XN2, rfl, hcap2, hF2⟩ (zh w2 _)⟩
    clear hb2 hF2 hcap2 x0 x1 x2 x3 x4 x5 y0 y1 y2 l0 l1 H1;go_upto_region 8 with fail
    generalize w2.alloc (T #[G la2 nl2 lc2, E J ((zl (zad n ((S.map ze).take k)).1 (s0, s1, sl)).1).hd.boot, E J ((zl (zad n ((S.map ze).take k)).1 (s0, s1, sl)).1).hd.next, G oa2 no2 oc2, G ha2 nh2 hc2, G na2 nn2 nc2] 65) = B at *;obtain ⟨x0, x1, x2, x3, x4, x5⟩ := H2.out.2.1.cells6;obtain ⟨r0, r1, r2, r3, r4, r5⟩ := H2.out.1.wb.cells6;obtain ⟨q0, q1, q2, q3, q4, q5⟩ := H2.out.1.wb.free6;have l0 := H2.out.2.1.lt;have l1 := H2.out.1.wb.lt;have H3 := zA (H2.out.1.put H2.out.2.2);go_upto_region 9 with fail
    clear x0 x1 x2 x3 x4 x5 r0 r1 r2 r3 r4 r5 q0 q1 q2 q3 q4 q5 l0 l1 H2;generalize ((((((B.setCell ⟨N6, 0, U⟩ (G la2 nl2 lc2)).setCell ⟨N6, 1, U⟩ (E J ((zl (zad n ((S.map ze).take k)).1 (s0, s1, sl)).1).hd.boot)).setCell ⟨N6, 2, U⟩ (E J ((zl (zad n ((S.map ze).take k)).1 (s0, s1, sl)).1).hd.next)).setCell ⟨N6, 3, U⟩ (G oa2 no2 oc2)).setCell ⟨N6, 4, U⟩ (G ha2 nh2 hc2)).setCell ⟨N6, 5, U⟩ (G na2 nn2 nc2)) = w4 at *;have hel : (zad n ((S.map ze).take k)).2.length = k := by rw [playS_len, List.length_take, List.length_map]; omega
    have H4 : Q (zck R w N6 (w4.alloc (T #[E J ((zl (zad n ((S.map ze).take k)).1 (s0, s1, sl)).2)] 32)) la2 nl2 lc2 oa2 no2 oc2 ha2 nh2 hc2 na2 nn2 nc2 ((zl (zad n ((S.map ze).take k)).1 (s0, s1, sl)).1) (G ea en ec) (zad n ((S.map ze).take k)).2) := H3.out.below (zh w4 _);go_wp2_with (at_builtin; refine zbi zaf zcw Tryz.underlying69 infoErrno rfl (by decide) _ rfl _ _ rfl (N6 + 1) (G ea en ec) (zad n ((S.map ze).take k)).2 rfl H4.out.es (some ⟨w4.heap.size, 0, U⟩) 1 1 [(zl (zad n ((S.map ze).take k)).1 (s0, s1, sl)).2] rfl rfl (zi.one (Blk.new w4 _ _) rfl) (by unfold maxLen; simp; omega) (by simp; omega) (by have := H4.out.wb.lt; omega) ?_; intro a6 n6 c6 w6 hown6 hn6 jx hat6; have HF : Q _ := H4.out.grown hown6 jx hat6; clear hown6 hn6 jx hat6)
    go_wp2;go_roundw
    case rel => exact ⟨k + 1, la2, nl2, lc2, oa2, no2, oc2, ha2, nh2, hc2, na2, nn2, nc2, by omega, by omega, by go_num, by rw [HT.out]; exact HF.out⟩
    case measure => simp [intOf]; omega
  ·have HP : Q ((zad n ((S.map ze).take k)).1 = zat n (S.map ze) ∧ (zad n ((S.map ze).take k)).2 = playE n (S.map ze)) := by
    show _ ∧ _
    have e1 : (S.map ze).take k = (S.map ze).take 150 := by rw [List.take_of_length_le (by rw [List.length_map]; omega), List.take_of_length_le (by rw [List.length_map]; omega)]
    rw [e1];exact ⟨zli _ _, rfl⟩
   go_upto_region 11 with fail
   obtain ⟨x0, x1, x2, x3, x4, x5⟩ := (hH.out).wb.cells6;obtain ⟨r0, r1, r2, r3, r4, r5⟩ := (hH.out).rb.cells6;obtain ⟨q0, q1, q2, q3, q4, q5⟩ := (hH.out).rb.free6;have l0 := (hH.out).wb.lt;have l2 := (hH.out).rb.lt;obtain ⟨p1, p2, p3, p4⟩ := (hH.out).ret;obtain ⟨e0, e1, e2, e3, e4, e5⟩ := p3.cells6;have HF : Q (zac R (r (r (r (r (r (r wr ⟨w.heap.size, 0, U⟩ (G la nl lc)) ⟨w.heap.size, 1, U⟩ (E J (zad n ((S.map ze).take k)).1.hd.boot)) ⟨w.heap.size, 2, U⟩ (E J (zad n ((S.map ze).take k)).1.hd.next)) ⟨w.heap.size, 3, U⟩ (G oa no oc)) ⟨w.heap.size, 4, U⟩ (G ha nh hc)) ⟨w.heap.size, 5, U⟩ (G na nn nc)) (.agg #[G la nl lc, E J (zad n ((S.map ze).take k)).1.hd.boot, E J (zad n ((S.map ze).take k)).1.hd.next, G oa no oc, G ha nh hc, G na nn nc]) (zat n (S.map ze)) ∧ za 32 1 zu (r (r (r (r (r (r wr ⟨w.heap.size, 0, U⟩ (G la nl lc)) ⟨w.heap.size, 1, U⟩ (E J (zad n ((S.map ze).take k)).1.hd.boot)) ⟨w.heap.size, 2, U⟩ (E J (zad n ((S.map ze).take k)).1.hd.next)) ⟨w.heap.size, 3, U⟩ (G oa no oc)) ⟨w.heap.size, 4, U⟩ (G ha nh hc)) ⟨w.heap.size, 5, U⟩ (G na nn nc)) w.heap.size (G ea en ec) (playE n (S.map ze)) ∧ Z w.heap.size w (r (r (r (r (r (r wr ⟨w.heap.size, 0, U⟩ (G la nl lc)) ⟨w.heap.size, 1, U⟩ (E J (zad n ((S.map ze).take k)).1.hd.boot)) ⟨w.heap.size, 2, U⟩ (E J (zad n ((S.map ze).take k)).1.hd.next)) ⟨w.heap.size, 3, U⟩ (G oa no oc)) ⟨w.heap.size, 4, U⟩ (G ha nh hc)) ⟨w.heap.size, 5, U⟩ (G na nn nc))) := by rw [← HP.out.1, ← HP.out.2]; exact ⟨p1, p4, p2⟩
   clear p1 p2 p3 p4;go_wp2_with fail
   clear x0 x1 x2 x3 x4 x5 r0 r1 r2 r3 r4 r5 q0 q1 q2 q3 q4 q5;generalize (r (r (r (r (r (r wr ⟨w.heap.size, 0, U⟩ (G la nl lc)) ⟨w.heap.size, 1, U⟩ (E J (zad n ((S.map ze).take k)).1.hd.boot)) ⟨w.heap.size, 2, U⟩ (E J (zad n ((S.map ze).take k)).1.hd.next)) ⟨w.heap.size, 3, U⟩ (G oa no oc)) ⟨w.heap.size, 4, U⟩ (G ha nh hc)) ⟨w.heap.size, 5, U⟩ (G na nn nc)) = Z9 at *;refine bodyPost_ret (v := .tuple #[.agg #[G la nl lc, E J (zad n ((S.map ze).take k)).1.hd.boot, E J (zad n ((S.map ze).take k)).1.hd.next, G oa no oc, G ha nh hc, G na nn nc], G ea en ec]) ?_ rfl ⟨_, _, _, _, rfl, HF.out.1, HF.out.2.1, HF.out.2.2⟩;simp [results, Tryz.results32, go_sem, e0, e1, e2, e3, e4, e5]
def BuildV (w : World) (v : Value) (ok : Bool) (g : Gh) : Prop :=
 ∃ (la : Option Addr) (nl lc : Nat) (bt nx : Int) (oa : Option Addr) (no oc : Nat), v = .agg #[G la nl lc, E J bt, E J nx, G oa no oc] ∧ (ok = true → bt = g.boot ∧ nx = g.next ∧ zak (fun _ => False) w la nl oa no g)
theorem build_any (R : Nat → Prop) (n : Int) (a : Option Addr) (cap len : Nat) (S : List XL) (w : World) (hR : ∀ b, R b → b < w.heap.size) (hlen : len = S.length) (hp : zcc w a S) (hq : ∀ x ∈ S, zz R w x.2.2.1.1 x.2.2.2) (hx : ∀ x ∈ S, x.2.2.2.length ≤ 9223372036854775807) (hl : S.length ≤ 9223372036854775807) (ok : Bool) (hok : ok = decide (1 ≤ n ∧ n ≤ 3)) :
  Calls Tryz.prog 8 #[E J n, G a len cap] w fun e w' => ∃ v', e = .returned (.tuple #[v', .bool ok]) ∧ BuildV w' v' ok (zat n.toNat (S.map ze)).hd ∧ Z w.heap.size w w' := by
 have hb0 := zh w (T #[G U 0 0, E J 0, E J 0, G U 0 0] 29);have hr0 : Blk (w.alloc (T #[G U 0 0, E J 0, E J 0, G U 0 0] 29)) w.heap.size #[G U 0 0, E J 0, E J 0, G U 0 0] 29 := Blk.new _ _ _;have hs0 : (w.alloc (T #[G U 0 0, E J 0, E J 0, G U 0 0] 29)).heap.size = w.heap.size + 1 := by simp
 have HG := zF hlen hp hq hx hl hR;have HOK := zA hok;clear hlen hp hq hx hl hR hok;go_enter Tryz.func8, Tryz.ntmps8
 go_upto_region 1 with fail
 generalize w.alloc (T #[G U 0 0, E J 0, E J 0, G U 0 0] 29) = V at *;have HV := zC hb0 hr0 hs0;obtain ⟨r0, r1, r2, r3⟩ := hr0.cells4;obtain ⟨q0, q1, q2, q3⟩ := hr0.free4;have hlt := hr0.lt;clear hb0 hr0 hs0;by_cases c1 : n < 1
 ·have HE : Q (ok = false) := by show _ = _; rw [HOK.out]; exact decide_eq_false (by omega)
  have g1 := decide_eq_true c1;have HK := (zb0 HV.out.2.1 (G U 0 0) (E J 0) (E J 0) (G U 0 0));obtain ⟨e0, e1, e2, e3⟩ := HK.1.cells4;have HF := zA (HV.out.1.trans (HK.2.below HV.out.1.size (fun b hb => by subst hb; exact Nat.le_refl _)));clear HK;go_wp2_with fail
  clear r0 r1 r2 r3 q0 q1 q2 q3;generalize (r (r (r (r V ⟨w.heap.size, 0, U⟩ (G U 0 0)) ⟨w.heap.size, 1, U⟩ (E J 0)) ⟨w.heap.size, 2, U⟩ (E J 0)) ⟨w.heap.size, 3, U⟩ (G U 0 0)) = jz at *;refine bodyPost_ret (v := .tuple #[.agg #[G U 0 0, E J 0, E J 0, G U 0 0], .bool false]) ?_ rfl ⟨.agg #[G U 0 0, E J 0, E J 0, G U 0 0], by rw [HE.out], ⟨none, 0, 0, 0, 0, none, 0, 0, rfl, fun h => (by rw [HE.out] at h; cases h)⟩, HF.out⟩;simp [results, Tryz.results8, go_sem, e0, e1, e2, e3]
 ·have g1 := decide_eq_false c1
  by_cases c3 : n > 3
  ·have HE : Q (ok = false) := by show _ = _; rw [HOK.out]; exact decide_eq_false (by omega)
   have g3 := decide_eq_true c3;have HK := (zb0 HV.out.2.1 (G U 0 0) (E J 0) (E J 0) (G U 0 0));obtain ⟨e0, e1, e2, e3⟩ := HK.1.cells4;have HF := zA (HV.out.1.trans (HK.2.below HV.out.1.size (fun b hb => by subst hb; exact Nat.le_refl _)));clear HK;go_wp2_with fail
   clear r0 r1 r2 r3 q0 q1 q2 q3;generalize (r (r (r (r V ⟨w.heap.size, 0, U⟩ (G U 0 0)) ⟨w.heap.size, 1, U⟩ (E J 0)) ⟨w.heap.size, 2, U⟩ (E J 0)) ⟨w.heap.size, 3, U⟩ (G U 0 0)) = jz at *;refine bodyPost_ret (v := .tuple #[.agg #[G U 0 0, E J 0, E J 0, G U 0 0], .bool false]) ?_ rfl ⟨.agg #[G U 0 0, E J 0, E J 0, G U 0 0], by rw [HE.out], ⟨none, 0, 0, 0, 0, none, 0, 0, rfl, fun h => (by rw [HE.out] at h; cases h)⟩, HF.out⟩;simp [results, Tryz.results8, go_sem, e0, e1, e2, e3]
  ·have HE : Q (ok = true) := by show _ = _; rw [HOK.out]; exact decide_eq_true (by omega)
   have g3 := decide_eq_false c3;obtain ⟨k, rfl⟩ := Int.eq_ofNat_of_zero_le (show 0 ≤ n by omega);go_wp2_with fail
   refine (znq (fun b => R b ∨ b = w.heap.size) k (by omega) (by omega) a cap len S V (fun b hb => hb.elim (fun h => by have h1 := HG.out.2.2.2.2.2 b h; have h2 := HV.out.2.2; omega) (fun h => by have h2 := HV.out.2.2; omega)) HG.out.1 (HG.out.2.1.below HV.out.1) (fun x hx => ((HG.out.2.2.1 x hx).wide (fun b hb => hb.imp id (fun h => Nat.le_of_eq h.symm))).below HV.out.1) HG.out.2.2.2.1 HG.out.2.2.2.2.1).mono ?_;rintro e w1 ⟨v1, ea, en, ec, rfl, hv1, -, hb1⟩;obtain ⟨la, nl, lc, Y1, oa, no, oc, X1, ha, nh, hc, XH1, na, nn, nc, XN1, rfl, hcap1, hF1⟩ := hv1;have hb2 := zh w1 (T #[G la nl lc, E J (zat k (S.map ze)).hd.boot, E J (zat k (S.map ze)).hd.next, G oa no oc, G ha nh hc, G na nn nc] 65);have H1 : Q (zbh (fun b => R b ∨ b = w.heap.size) (w1.alloc (T #[G la nl lc, E J (zat k (S.map ze)).hd.boot, E J (zat k (S.map ze)).hd.next, G oa no oc, G ha nh hc, G na nn nc] 65)) la nl Y1 oa no X1 (zat k (S.map ze)).hd.log (zat k (S.map ze)).hd.opn ∧ Blk (w1.alloc (T #[G la nl lc, E J (zat k (S.map ze)).hd.boot, E J (zat k (S.map ze)).hd.next, G oa no oc, G ha nh hc, G na nn nc] 65)) w1.heap.size #[G la nl lc, E J (zat k (S.map ze)).hd.boot, E J (zat k (S.map ze)).hd.next, G oa no oc, G ha nh hc, G na nn nc] 65 ∧ Z w.heap.size w (w1.alloc (T #[G la nl lc, E J (zat k (S.map ze)).hd.boot, E J (zat k (S.map ze)).hd.next, G oa no oc, G ha nh hc, G na nn nc] 65)) ∧ Blk (w1.alloc (T #[G la nl lc, E J (zat k (S.map ze)).hd.boot, E J (zat k (S.map ze)).hd.next, G oa no oc, G ha nh hc, G na nn nc] 65)) w.heap.size #[G U 0 0, E J 0, E J 0, G U 0 0] 29) := ⟨hF1.hd.below hb2, Blk.new _ _ _, (HV.out.1.trans (hb1.mono HV.out.1.size)).trans (hb2.mono (by have h1 := hb1.size; have h2 := HV.out.2.2; omega)), (HV.out.2.1.below hb1 HV.out.2.1.lt).below hb2 (by have h1 := hb1.size; have h2 := HV.out.2.2; omega)⟩
   clear hb1 hb2 hF1 hcap1 r0 r1 r2 r3 q0 q1 q2 q3 hlt;go_upto_region 4 with fail
   generalize w1.alloc (T #[G la nl lc, E J (zat k (S.map ze)).hd.boot, E J (zat k (S.map ze)).hd.next, G oa no oc, G ha nh hc, G na nn nc] 65) = zX at *;obtain ⟨x0, x1, x2, x3, x4, x5⟩ := H1.out.2.1.cells6;obtain ⟨r0, r1, r2, r3⟩ := H1.out.2.2.2.cells4;obtain ⟨q0, q1, q2, q3⟩ := H1.out.2.2.2.free4;have l0 := H1.out.2.1.lt;have l1 := H1.out.2.2.2.lt;have HK := (zb0 H1.out.2.2.2 (G la nl lc) (E J (zat k (S.map ze)).hd.boot) (E J (zat k (S.map ze)).hd.next) (G oa no oc));obtain ⟨e0, e1, e2, e3⟩ := HK.1.cells4
   have HF : Q (zak (fun _ => False) ((((zX.setCell ⟨w.heap.size, 0, U⟩ (G la nl lc)).setCell ⟨w.heap.size, 1, U⟩ (E J (zat k (S.map ze)).hd.boot)).setCell ⟨w.heap.size, 2, U⟩ (E J (zat k (S.map ze)).hd.next)).setCell ⟨w.heap.size, 3, U⟩ (G oa no oc)) la nl oa no (zat k (S.map ze)).hd ∧ Z w.heap.size w ((((zX.setCell ⟨w.heap.size, 0, U⟩ (G la nl lc)).setCell ⟨w.heap.size, 1, U⟩ (E J (zat k (S.map ze)).hd.boot)).setCell ⟨w.heap.size, 2, U⟩ (E J (zat k (S.map ze)).hd.next)).setCell ⟨w.heap.size, 3, U⟩ (G oa no oc))) := by
    refine ⟨⟨Y1, X1, ?_⟩, H1.out.2.2.1.trans (HK.2.below H1.out.2.2.1.size (fun b hb => by subst hb; exact Nat.le_refl _))⟩;exact (H1.out.1.keep (HK.2.mono (fun b _ hb => kab hb))).wide (fun b hb => hb.elim)
   clear HK H1;go_wp2_with fail
   clear x0 x1 x2 x3 x4 x5 r0 r1 r2 r3 q0 q1 q2 q3 l0 l1;generalize ((((zX.setCell ⟨w.heap.size, 0, U⟩ (G la nl lc)).setCell ⟨w.heap.size, 1, U⟩ (E J (zat k (S.map ze)).hd.boot)).setCell ⟨w.heap.size, 2, U⟩ (E J (zat k (S.map ze)).hd.next)).setCell ⟨w.heap.size, 3, U⟩ (G oa no oc)) = jz at *;refine bodyPost_ret (v := .tuple #[.agg #[G la nl lc, E J (zat k (S.map ze)).hd.boot, E J (zat k (S.map ze)).hd.next, G oa no oc], .bool true]) ?_ rfl ⟨.agg #[G la nl lc, E J (zat k (S.map ze)).hd.boot, E J (zat k (S.map ze)).hd.next, G oa no oc], by rw [HE.out], ⟨la, nl, lc, _, _, oa, no, oc, rfl, fun _ => ⟨rfl, rfl, HF.out.1⟩⟩, HF.out.2⟩;simp [results, Tryz.results8, go_sem, e0, e1, e2, e3]
def RV (W V : World) : Nat → Prop := fun b => W.heap.size ≤ b ∧ b < V.heap.size
theorem RV.lt {W V : World} : ∀ b, RV W V b → b < V.heap.size := fun _ h => h.2
theorem zak.at {W V : World} {la oa : Option Addr} {nl no : Nat} {g : Gh} (H : zak (fun b => W.heap.size ≤ b) W la nl oa no g) (hb : Z W.heap.size W V) : zak (RV W V) V la nl oa no g :=
 (H.keep (zf.ofBelow hb (fun _ _ h => h))).wide (fun _ h => kaa h.1)
theorem zae.rv {W V : World} {a : Option Addr} {l : List P3} (H : zae W a l) (hb : Z W.heap.size W V) : zz (RV W V) V a l :=
 ((H.outR (R := fun b => W.heap.size ≤ b) (fun _ h => h)).keep (zf.ofBelow hb (fun _ _ h => h))).wide (fun _ h => kaa h.1)
theorem zpp {g : Gh} (K : OkG g) : SizeG (zk g).1.log (zk g).1.opn := by
 have h := K.size;refine ⟨h.1, ?_, fun o ho => h.2.2 o (List.mem_filter.1 ho).1⟩;have : (zk g).1.opn.length ≤ g.opn.length := List.length_filter_le _ _;have := h.2.1;omega
theorem zqv {g : Gh} (K : OkG g) {l : List P3} (hl : l.length ≤ 4) : SizeG (zj g l).1.log (zj g l).1.opn := by
 have h := K.size;have h1 := K.few.1;unfold zj
 split
 ·exact h
 ·refine ⟨h.1, ?_, fun o ho => ?_⟩
  ·show (g.opn ++ [_]).length ≤ _
   rw [List.length_append, List.length_singleton];omega
  ·rcases kac.1 ho with ho | ho
   ·exact h.2.2 o ho
   ·rw [kad.1 ho]
    exact ⟨by show l.length ≤ _; omega, by simp⟩
theorem zmn (m : Q4) (o : O4) : ∀ x ∈ (zv m o).1, x.2.1 = o.2.1 ∧ x.2.2.2.length ≤ o.2.2.2.length + 1 := by
 unfold zv
 intro x hx;split at hx
 ·split at hx
  ·cases hx; exact ⟨rfl, Nat.zero_le _⟩
  ·cases hx; exact ⟨rfl, by simp⟩
 ·split at hx
  ·cases hx
  ·split at hx
   ·split at hx
    ·cases hx
    ·cases hx; exact ⟨rfl, by simp⟩
   ·split at hx
    ·cases hx; exact ⟨rfl, Nat.le_succ _⟩
    ·cases hx; exact ⟨rfl, Nat.le_succ _⟩
theorem znd {g : Gh} (K : OkG g) (m : Q4) : SizeG (zc g m).1.log (zc g m).1.opn := by
 have h := K.size;have h1 := K.few;have h2 := K.len;unfold zc
 split
 ·rename_i x hx
  obtain ⟨A, o, B, hO, _, rfl⟩ := zfe hx;have hmem : ∀ y, y ∈ A ∨ y ∈ B → y ∈ g.opn := fun y hy => by rw [hO]; rcases hy with h | h <;> simp [h]
  have ho : o ∈ g.opn := by rw [hO]; simp
  refine ⟨⟨?_, fun jj hr => ?_⟩, ?_, fun y hy => ?_⟩
  ·show (g.log ++ _).length ≤ _
   rw [List.length_append];rcases zgl m o with e | e | e <;> rw [e] <;> simp <;> omega
  ·rcases kac.1 hr with hr | hr
   ·exact h.1.2 jj hr
   ·rcases zgl m o with e | e | e
    ·rw [e] at hr; cases hr
    ·rw [e, kad] at hr; subst hr; exact (h.2.2 o ho).1
    ·rw [e, kad] at hr; subst hr; exact Nat.zero_le _
  ·have hl : (A ++ o :: B).length ≤ 100000 := by rw [← hO]; exact h1.1
   simp only [List.length_append, List.length_cons] at hl ⊢
   have : (zv m o).1.toList.length ≤ 1 := by cases (zv m o).1 <;> simp
   omega
  ·rcases kac.1 hy with hy | hy
   ·exact h.2.2 y (hmem y (kaa hy))
   ·rcases kac.1 hy with hy | hy
    ·have h3 := zmn m o y (by cases e : (zv m o).1 with
      | none => rw [e] at hy; cases hy
      | some z => rw [e] at hy; simp at hy; rw [hy]; rfl)
     have h4 := h1.2 o ho;rw [h3.1];exact ⟨by omega, by omega⟩
    ·exact h.2.2 y (hmem y (kab hy))
 ·exact h
theorem OkG.step {n : Nat} {P : Int → List P3} {W : WW} (I : Inv n P W) (hok : OkL W.hd.log) (hl : zbz 200000 W) (s : Int × Int × List P3) : OkG (zl W s).1.hd := by
 obtain ⟨P', _, I'⟩ := I.step s;exact I'.okG (zlm hok (fun o ho => zfk (I.opn o ho).right) s) (by have := (zlb hl s).1; omega)
theorem OkG.fall {n : Nat} {P : Int → List P3} {W : WW} (I : Inv n P W) (hok : OkL W.hd.log) (hl : zbz 200000 W) : OkG (zq W.hd).1 := by
 have h := OkG.step I hok hl (5, 3, []);have e : (zl W (5, 3, [])).1.hd = (zq W.hd).1 := by unfold zl; simp
 rwa [e] at h
theorem zje {o : O4} (h : o.2.1.length ≤ 4) : (za4 o).length ≤ 3 ∧ ∀ q ∈ za4 o, q.2.2.2.length ≤ 1000000 := by
 refine ⟨?_, fun q hq => ?_⟩
 ·unfold za4
  rw [List.length_map];have h1 : ((zr o.2.1).filter fun n => !inI o.2.2.2 n).length ≤ (zr o.2.1).length := List.length_filter_le _ _;have h2 := zdl o.2.1;omega
 ·obtain ⟨n, _, rfl⟩ := List.mem_map.1 hq
  split
  ·simp
  ·have : (ofB o.2.1 n).length ≤ o.2.1.length := by unfold ofB; exact List.length_filter_le _ _
   show (ofB o.2.1 n).length ≤ _
   omega
theorem zl8 (o : O4) : (za3 o).length ≤ 3 ∧ ∀ q ∈ za3 o, q.2.2.2.length ≤ 1000000 := by
 refine ⟨?_, fun q hq => ?_⟩
 ·unfold za3
  rw [List.length_map];exact zdl o.2.1
 ·obtain ⟨n, _, rfl⟩ := List.mem_map.1 hq
  simp
theorem zlo {f : O4 → List Q4} {O : List O4} (h : ∀ o ∈ O, (f o).length ≤ 3 ∧ ∀ q ∈ f o, q.2.2.2.length ≤ 1000000) (hO : O.length ≤ 100000) : (O.flatMap f).length ≤ 1000000 ∧ ∀ q ∈ O.flatMap f, q.2.2.2.length ≤ 1000000 := by
 refine ⟨?_, fun q hq => ?_⟩
 ·have : (O.flatMap f).length ≤ O.length * 3 := by
   clear hO
   induction O with
   | nil => simp
   | cons o t ih =>
    rw [List.flatMap_cons, List.length_append, List.length_cons];have := ih (fun x hx => h x (List.mem_cons_of_mem _ hx));have := (h o (List.mem_cons_self ..)).1;omega
  omega
 ·obtain ⟨o, ho, hq⟩ := List.mem_flatMap.1 hq
  exact (h o ho).2 q hq
theorem zme {g : Gh} (K : OkG g) : (zk g).2.length ≤ 1000000 ∧ ∀ q ∈ (zk g).2, q.2.2.2.length ≤ 1000000 :=
 zlo (fun o _ => zl8 o) (by have h : (g.opn.filter fun o => !o.2.2.1).length ≤ g.opn.length := List.length_filter_le _ _; have := K.few.1; omega)
theorem zk5 {g : Gh} (K : OkG g) : (zdj g).length ≤ 1000000 ∧ ∀ q ∈ zdj g, q.2.2.2.length ≤ 1000000 :=
 zlo (fun o ho => zje (K.few.2 o ho).1) K.few.1
theorem zlc {g : Gh} {l : List P3} (hl : l.length ≤ 4) : (zj g l).2.1.length ≤ 1000000 ∧ ∀ q ∈ (zj g l).2.1, q.2.2.2.length ≤ 1000000 := by
 unfold zj
 split
 ·exact ⟨by simp, fun q hq => by cases hq⟩
 ·have h := zje (o := (64 * g.boot + g.next, l, false, [])) hl
  exact ⟨Nat.le_trans h.1 (by omega), h.2⟩
theorem zpc {m : Q4} {o : O4} (h : o.2.1.length ≤ 4) : (zv m o).2.2.length ≤ 1000000 ∧ ∀ q ∈ (zv m o).2.2, q.2.2.2.length ≤ 1000000 := by
 unfold zv
 split
 ·split
  ·have h := zje (o := (o.1, o.2.1, true, [])) h
   exact ⟨Nat.le_trans h.1 (by omega), h.2⟩
  ·exact ⟨by simp, fun q hq => by cases hq⟩
 ·split
  ·have h := zl8 o
   exact ⟨Nat.le_trans h.1 (by omega), h.2⟩
  ·split
   ·split
    ·exact ⟨by simp, fun q hq => by cases hq⟩
    ·exact ⟨by simp, fun q hq => by cases hq⟩
   ·split
    ·exact ⟨by simp, fun q hq => by rw [kad.1 hq]; simp⟩
    ·exact ⟨by simp, fun q hq => by cases hq⟩
theorem zie {g : Gh} (K : OkG g) (m : Q4) : (zc g m).2.length ≤ 1000000 ∧ ∀ q ∈ (zc g m).2, q.2.2.2.length ≤ 1000000 := by
 unfold zc
 split
 ·rename_i x hx
  obtain ⟨A, o, B, hO, _, rfl⟩ := zfe hx;exact zpc (K.few.2 o (by rw [hO]; simp)).1
 ·split
  ·exact ⟨by simp, fun q hq => by rw [kad.1 hq]; simp⟩
  ·exact ⟨by simp, fun q hq => by cases hq⟩
structure LawS (w0 W : World) (N : Nat) (pa : Option Addr) (pl : List P3) (la : Option Addr) (nl lc : Nat) (oa : Option Addr) (no oc : Nat) (g : Gh) (V : World) : Prop where
 bel : Z W.heap.size W V
 bel0 : Z w0.heap.size w0 V
 hW : w0.heap.size ≤ W.heap.size
 hb : Blk V N #[G la nl lc, E J g.boot, E J g.next, G oa no oc] 29
 hlt : N < W.heap.size
 hd : zak (fun b => W.heap.size ≤ b) W la nl oa no g
 parts : zae W pa pl
 hn : zak (fun b => b = N) W la nl oa no g
section
variable {w0 W : World} {N : Nat} {pa : Option Addr} {pl : List P3} {la : Option Addr} {nl lc : Nat} {oa : Option Addr} {no oc : Nat} {g : Gh} {V V' : World}
theorem LawS.go (H : LawS w0 W N pa pl la nl lc oa no oc g V) (hb : Z W.heap.size V V') : LawS w0 W N pa pl la nl lc oa no oc g V' :=
 ⟨H.bel.trans hb, H.bel0.trans (hb.mono H.hW), H.hW, H.hb.below hb H.hlt, H.hlt, H.hd, H.parts, H.hn⟩
theorem LawS.below (H : LawS w0 W N pa pl la nl lc oa no oc g V) (hb : Z V.heap.size V V') : LawS w0 W N pa pl la nl lc oa no oc g V' := H.go (hb.mono H.bel.size)
theorem LawS.at (H : LawS w0 W N pa pl la nl lc oa no oc g V) : zak (RV W V) V la nl oa no g := H.hd.at H.bel
end
theorem zqg {m : Q4} {o : O4} (h : o.2.2.2.Nodup ∧ ∀ k ∈ o.2.2.2, k ∈ zr o.2.1) : ∀ x ∈ (zv m o).1, x.2.2.2.Nodup ∧ (∀ k ∈ x.2.2.2, k ∈ zr x.2.1) := by
 have zes : ∀ k : Int, inI (zr o.2.1) k = true ∧ inI o.2.2.2 k = false → (o.2.2.2 ++ [k]).Nodup ∧ ∀ j ∈ o.2.2.2 ++ [k], j ∈ zr o.2.1 := fun k hk => by
  refine ⟨?_, fun j hj => ?_⟩
  ·rw [List.nodup_append]
   refine ⟨h.1, by simp, fun a ha b hb e => ?_⟩;rw [kad.1 hb] at e;subst e;rw [zc6.2 ha] at hk;exact absurd hk.2 (by decide)
  ·rcases kac.1 hj with hj | hj
   ·exact h.2 j hj
   ·rw [kad.1 hj]; exact zc6.1 hk.1
 unfold zv
 intro x hx;split at hx
 ·rename_i hc
  split at hx
  ·cases hx; exact ⟨List.nodup_nil, fun k hk => by cases hk⟩
  ·cases hx; exact zes _ hc.2.2
 ·split at hx
  ·cases hx
  ·split at hx
   ·rename_i hc
    split at hx
    ·cases hx
    ·cases hx; exact zes _ hc.2.2
   ·split at hx
    ·cases hx; exact h
    ·cases hx; exact h
theorem OkG.hear {g : Gh} (K : OkG g) (m : Q4) (hl : (zc g m).1.log.length ≤ 300000) : OkG (zc g m).1 := by
 revert hl
 unfold zc
 split
 ·rename_i x hx
  intro hl;obtain ⟨A, o, B, hO, _, rfl⟩ := zfe hx;have ho : o ∈ g.opn := by rw [hO]; simp
  have hmem : ∀ y ∈ A ++ ((zv m o).1.toList ++ B), y ∈ g.opn ∨ y ∈ (zv m o).1 := fun y hy => by
   rcases kac.1 hy with h | h
   ·exact kaa (by rw [hO]; simp [h])
   ·rcases kac.1 h with h | h
    ·refine kab ?_
     cases e : (zv m o).1 with
     | none => rw [e] at h; cases h
     | some z => rw [e] at h; simp at h; rw [h]; rfl
    ·exact kaa (by rw [hO]; simp [h])
  have hk := K.heard o ho
  have hsx : ∀ y ∈ (zv m o).1, y.2.1 = o.2.1 ∧ (y.2.2.2.Nodup ∧ (∀ k ∈ y.2.2.2, k ∈ zr y.2.1)) ∧ y.2.2.2.length ≤ 3 := fun y hy => by
   have h1 := zqg ⟨hk.1, hk.2.1⟩ y hy;have h2 := zg1 h1.1 h1.2;have h3 := zdl y.2.1;exact ⟨(zmn m o y hy).1, h1, by omega⟩
  refine ⟨⟨?_, fun y hy => ?_⟩, ?_, hl, fun y hy => ?_, fun y hy => ?_, K.boot, K.next⟩
  ·have h1 := K.few.1
   have h2 : (zv m o).1.toList.length ≤ 1 := by cases (zv m o).1 <;> simp
   rw [hO] at h1;simp only [List.length_append, List.length_cons] at h1 ⊢
   omega
  ·rcases hmem y hy with h | h
   ·exact K.few.2 y h
   ·have h1 := hsx y h
    have h2 := K.few.2 o ho;rw [h1.1];exact ⟨h2.1, by omega⟩
  ·have hp : OkP o.2.1 := zfk (K.right o ho)
   rcases zgl m o with e | e | e
   ·simp only [e, List.append_nil]; exact K.ok
   ·simp only [e]; exact K.ok.snoc hp
   ·simp only [e]; exact K.ok.snoc ze0
  ·rcases hmem y hy with h | h
   ·exact K.right y h
   ·rw [(hsx y h).1]; exact K.right o ho
  ·rcases hmem y hy with h | h
   ·exact K.heard y h
   ·have h1 := hsx y h
    exact ⟨h1.2.1.1, h1.2.1.2, by omega⟩
 ·exact fun _ => K
end Go.Proofs.YtpcnlifmkhagkaaGreat
