import Derived.Test.YtpcnlifmkhagkaaGreatKFRefDo0
import Derived.Test.YtpcnlifmkhagkaaGreatKFRefDo1
import Derived.Test.YtpcnlifmkhagkaaGreatKFRefDo2h
import Derived.Test.YtpcnlifmkhagkaaGreatKFRefDo2g
import Derived.Test.YtpcnlifmkhagkaaGreatKFJ39
import Derived.Test.YtpcnlifmkhagkaaGreatKFRefDo5
import Derived.Test.YtpcnlifmkhagkaaGreatKFRefDo6
import Derived.Test.YtpcnlifmkhagkaaGreatKFRefDo7
import Derived.Test.YtpcnlifmkhagkaaGreatKFJ32
set_option maxRecDepth 20000
set_option maxHeartbeats 20000000
namespace Go.Proofs.YtpcnlifmkhagkaaGreat
open Go.RowKit
open Go.Value renaming slice → G, int → E
open Go.IntKind renaming i64 → J
open _root_.Option renaming none → U
open Go.Obj renaming cells → T
open Go.RowKit renaming Hid → Q, Below → Z
open Go.World renaming setCell → r
open _root_.Or renaming inl → kaa, inr → kab
open _root_.Nat renaming le_refl → kac
open _root_.List renaming take_of_length_le → kad
attribute [local go_sem ↓] Go.wp_at_zero Go.wp_at_succ
theorem zoc (R : Nat → Prop) (v : Value) (W : WW) (n : Nat) (P : Int → List P3) (sk sn : Int) (sa : Option Addr) (ns sc : Nat) (sl : List P3) (w : World) (hR : ∀ b, R b → b < w.heap.size) (hv : zag R w v W) (I : Inv n P W) (hL : zb0 100000 W) (hns : ns = sl.length) (hp : zaf R w sa sl) (hsl : sl.length ≤ 9223372036854775807) :
  Calls Tryz.prog 34 #[v, .agg #[E J sk, E J sn, G sa ns sc]] w fun e w' => ∃ v', e = .returned (.tuple #[v', E J (zl W (sk, sn, sl)).2]) ∧ zag R w' v' (zl W (sk, sn, sl)).1 ∧ Z w.heap.size w w' := by
 by_cases hk : 1 ≤ sk ∧ sk ≤ 7
 ·obtain rfl | rfl | rfl | rfl | rfl | rfl | rfl : sk = 1 ∨ sk = 2 ∨ sk = 3 ∨ sk = 4 ∨ sk = 5 ∨ sk = 6 ∨ sk = 7 := by omega
  ·exact zpd R v W n P sn sa ns sc sl w hR hv I hL hns hp hsl
  ·cases hm : W.net[sn.toNat]? with
   | none => exact zml R v W n P sn sa ns sc sl w hR hv I hL hns hp hsl (fun m h => by rw [hm] at h; cases h)
   | some m =>
    by_cases k1 : m.1 = 1 ∨ m.1 = 4 ∨ m.1 = 5
    ·exact zpz R v W n P sn sa ns sc sl w hR hv I hL hns hp hsl (fun m' h => by rw [hm] at h; cases h; exact k1)
    exact zml R v W n P sn sa ns sc sl w hR hv I hL hns hp hsl (fun m' h => by rw [hm] at h; cases h; exact k1)
  ·exact zov R v W n P sn sa ns sc sl w hR hv I hL hns hp hsl
  ·exact zqs R v W n P sn sa ns sc sl w hR hv I hL hns hp hsl
  ·exact zqm R v W n P sn sa ns sc sl w hR hv I hL hns hp hsl
  ·exact znt R v W n P sn sa ns sc sl w hR hv I hL hns hp hsl
  ·exact zo4 R v W n P sn sa ns sc sl w hR hv I hL hns hp hsl
 ·exact zqf R v W n P sk sn hk sa ns sc sl w hR hv I hL hns hp hsl
def zah (n : Nat) (l : List R3) : WW × List Int := l.foldl (fun x s => ((zl x.1 s).1, x.2 ++ [(zl x.1 s).2])) (za3 n, [])
def playE (n : Nat) (l : List R3) : List Int := (zah n (l.take 150)).2
theorem zlc (n : Nat) (l : List R3) : (zah n l).1 = l.foldl (fun W s => (zl W s).1) (za3 n) := by
 unfold zah
 suffices h : ∀ (l : List R3) (x : WW × List Int), (l.foldl (fun x s => ((zl x.1 s).1, x.2 ++ [(zl x.1 s).2])) x).1 = l.foldl (fun W s => (zl W s).1) x.1 from h l _
 intro l
 induction l with
 | nil => intro x; rfl
 | cons s t ih => intro x; exact ih _
theorem zl7 (n : Nat) (l : List R3) : (zah n (l.take 150)).1 = zav n l := zlc n _
theorem playS_len (n : Nat) (l : List R3) : (zah n l).2.length = l.length := by
 unfold zah
 suffices h : ∀ (l : List R3) (x : WW × List Int), (l.foldl (fun x s => ((zl x.1 s).1, x.2 ++ [(zl x.1 s).2])) x).2.length = x.2.length + l.length by
  have := h l (za3 n, [])
  simpa using this
 intro l
 induction l with
 | nil => intro x; simp
 | cons s t ih => intro x; rw [List.foldl_cons, ih, List.length_append, List.length_cons]; simp; omega
theorem zqd (n : Nat) {l : List R3} {k : Nat} (h : k < l.length) : zah n (l.take (k + 1)) = ((zl (zah n (l.take k)).1 l[k]).1, (zah n (l.take k)).2 ++ [(zl (zah n (l.take k)).1 l[k]).2]) := by
 unfold zah
 rw [zax h, List.foldl_append];rfl
theorem playS_ok {n : Nat} (hn : n ≤ 3) (l : List R3) (hl : l.length ≤ 150) : (∃ P, Inv n P (zah n l).1) ∧ zb0 100000 (zah n l).1 := by
 have e : (zah n l).1 = zav n l := by rw [zlc]; unfold zav; rw [kad hl]
 rw [e];exact ⟨inv_play hn l, (zm2 n l).mono (by decide)⟩
theorem infoErrno : (Tryz.prog.info? 32).map (fun i => (i.zero, i.size, i.bytes)) = some (some (E J 0), 1, 8) := by kernel_rfl
def RP (R : Nat → Prop) (w0 : World) (N6 : Nat) (ev : Value) : Nat → Prop := fun b => R b ∨ b = w0.heap.size ∨ b = N6 ∨ ev.ownBlock = some b
structure zcp (R : Nat → Prop) (w0 : World) (N6 : Nat) (w : World) (la : Option Addr) (nl lc : Nat) (oa : Option Addr) (no oc : Nat) (ha : Option Addr) (nh hc : Nat) (na : Option Addr) (nn nc : Nat) (W : WW) (ev : Value) (es : List Int) : Prop where
 ne : w0.heap.size < N6
 rb : Blk w w0.heap.size #[G U 0 0, E J 0, E J 0, G U 0 0, G U 0 0, G U 0 0] 65
 wb : Blk w N6 #[G la nl lc, E J W.hd.boot, E J W.hd.next, G oa no oc, G ha nh hc, G na nn nc] 65
 wv : zag (RP R w0 N6 ev) w (.agg #[G la nl lc, E J W.hd.boot, E J W.hd.next, G oa no oc, G ha nh hc, G na nn nc]) W
 es : zd 32 1 zq w (N6 + 1) ev es
 bel : Z w0.heap.size w0 w
section
variable {R : Nat → Prop} {w0 w w' : World} {N6 : Nat} {la : Option Addr} {nl lc : Nat} {oa : Option Addr} {no oc : Nat} {ha : Option Addr} {nh hc : Nat} {na : Option Addr} {nn nc : Nat} {W : WW} {ev : Value} {es : List Int}
theorem zcp.below (H : zcp R w0 N6 w la nl lc oa no oc ha nh hc na nn nc W ev es) (hb : Z w.heap.size w w') : zcp R w0 N6 w' la nl lc oa no oc ha nh hc na nn nc W ev es :=
 ⟨H.ne, H.rb.below hb H.rb.lt, H.wb.below hb H.wb.lt, H.wv.below hb, H.es.below hb (kac _), H.bel.trans (hb.mono H.bel.size)⟩
theorem zcp.ltR (H : zcp R w0 N6 w la nl lc oa no oc ha nh hc na nn nc W ev es) (hR : ∀ b, R b → b < w0.heap.size) : ∀ b, RP R w0 N6 ev b → b < w.heap.size := fun b hb => by
 have h1 := H.wb.lt;have h2 := H.ne;rcases hb with h | h | h | h
 ·have := hR b h; omega
 ·omega
 ·omega
 ·obtain ⟨_, cs, hB⟩ := H.es.blk h; exact hB.lt
theorem zcp.ret {ea : Option Addr} {en ec : Nat} (H : zcp R w0 N6 w la nl lc oa no oc ha nh hc na nn nc W (G ea en ec) es) :
  zag R (r (r (r (r (r (r w ⟨w0.heap.size, 0, U⟩ (G la nl lc)) ⟨w0.heap.size, 1, U⟩ (E J W.hd.boot)) ⟨w0.heap.size, 2, U⟩ (E J W.hd.next)) ⟨w0.heap.size, 3, U⟩ (G oa no oc)) ⟨w0.heap.size, 4, U⟩ (G ha nh hc)) ⟨w0.heap.size, 5, U⟩ (G na nn nc)) (.agg #[G la nl lc, E J W.hd.boot, E J W.hd.next, G oa no oc, G ha nh hc, G na nn nc]) W ∧
  Z w0.heap.size w0 (r (r (r (r (r (r w ⟨w0.heap.size, 0, U⟩ (G la nl lc)) ⟨w0.heap.size, 1, U⟩ (E J W.hd.boot)) ⟨w0.heap.size, 2, U⟩ (E J W.hd.next)) ⟨w0.heap.size, 3, U⟩ (G oa no oc)) ⟨w0.heap.size, 4, U⟩ (G ha nh hc)) ⟨w0.heap.size, 5, U⟩ (G na nn nc)) ∧
  Blk (r (r (r (r (r (r w ⟨w0.heap.size, 0, U⟩ (G la nl lc)) ⟨w0.heap.size, 1, U⟩ (E J W.hd.boot)) ⟨w0.heap.size, 2, U⟩ (E J W.hd.next)) ⟨w0.heap.size, 3, U⟩ (G oa no oc)) ⟨w0.heap.size, 4, U⟩ (G ha nh hc)) ⟨w0.heap.size, 5, U⟩ (G na nn nc)) w0.heap.size #[G la nl lc, E J W.hd.boot, E J W.hd.next, G oa no oc, G ha nh hc, G na nn nc] 65 ∧
  zd 32 1 zq (r (r (r (r (r (r w ⟨w0.heap.size, 0, U⟩ (G la nl lc)) ⟨w0.heap.size, 1, U⟩ (E J W.hd.boot)) ⟨w0.heap.size, 2, U⟩ (E J W.hd.next)) ⟨w0.heap.size, 3, U⟩ (G oa no oc)) ⟨w0.heap.size, 4, U⟩ (G ha nh hc)) ⟨w0.heap.size, 5, U⟩ (G na nn nc)) w0.heap.size (G ea en ec) es := by
 obtain ⟨h1, hk⟩ := zhs H.rb (G la nl lc) (E J W.hd.boot) (E J W.hd.next) (G oa no oc) (G ha nh hc) (G na nn nc);have hk' : zh (RP R w0 N6 (G ea en ec)) w _ := hk.mono (fun b _ hb => kab (kaa hb));refine ⟨(H.wv.keep hk').wide (fun b hb => kaa (kaa hb)), H.bel.trans (hk.below H.bel.size (fun b hb => by subst hb; exact kac _)), h1, ?_⟩;have z := H.rb;exact ((((((H.es.mono (by have := H.ne; omega)).setOther (a := ⟨w0.heap.size, 0, U⟩) z (by decide) _).setOther (a := ⟨w0.heap.size, 1, U⟩) (z.set 0 _) (by decide) _).setOther (a := ⟨w0.heap.size, 2, U⟩) ((z.set 0 _).set 1 _) (by decide) _).setOther (a := ⟨w0.heap.size, 3, U⟩) (((z.set 0 _).set 1 _).set 2 _) (by decide) _).setOther (a := ⟨w0.heap.size, 4, U⟩) ((((z.set 0 _).set 1 _).set 2 _).set 3 _) (by decide) _).setOther (a := ⟨w0.heap.size, 5, U⟩) (((((z.set 0 _).set 1 _).set 2 _).set 3 _).set 4 _) (by decide) _
theorem zcp.put (H : zcp R w0 N6 w la nl lc oa no oc ha nh hc na nn nc W ev es) {la2 : Option Addr} {nl2 lc2 : Nat} {oa2 : Option Addr} {no2 oc2 : Nat} {ha2 : Option Addr} {nh2 hc2 : Nat} {na2 : Option Addr} {nn2 nc2 : Nat} {W2 : WW} (hv : zag (RP R w0 N6 ev) w (.agg #[G la2 nl2 lc2, E J W2.hd.boot, E J W2.hd.next, G oa2 no2 oc2, G ha2 nh2 hc2, G na2 nn2 nc2]) W2) :
  zcp R w0 N6 (r (r (r (r (r (r w ⟨N6, 0, U⟩ (G la2 nl2 lc2)) ⟨N6, 1, U⟩ (E J W2.hd.boot)) ⟨N6, 2, U⟩ (E J W2.hd.next)) ⟨N6, 3, U⟩ (G oa2 no2 oc2)) ⟨N6, 4, U⟩ (G ha2 nh2 hc2)) ⟨N6, 5, U⟩ (G na2 nn2 nc2)) la2 nl2 lc2 oa2 no2 oc2 ha2 nh2 hc2 na2 nn2 nc2 W2 ev es := by
 obtain ⟨h1, hk⟩ := zhs H.wb (G la2 nl2 lc2) (E J W2.hd.boot) (E J W2.hd.next) (G oa2 no2 oc2) (G ha2 nh2 hc2) (G na2 nn2 nc2);have hk' : zh (RP R w0 N6 ev) w _ := hk.mono (fun b _ hb => kab (kab (kaa hb)));have hne := H.ne;have z := H.wb;refine ⟨hne, H.rb.keep hk (by omega), h1, hv.keep hk', ?_, H.bel.trans (hk.below H.bel.size (fun b hb => by subst hb; omega))⟩;exact (((((H.es.setOther (a := ⟨N6, 0, U⟩) z (by decide) _).setOther (a := ⟨N6, 1, U⟩) (z.set 0 _) (by decide) _).setOther (a := ⟨N6, 2, U⟩) ((z.set 0 _).set 1 _) (by decide) _).setOther (a := ⟨N6, 3, U⟩) (((z.set 0 _).set 1 _).set 2 _) (by decide) _).setOther (a := ⟨N6, 4, U⟩) ((((z.set 0 _).set 1 _).set 2 _).set 3 _) (by decide) _).setOther (a := ⟨N6, 5, U⟩) (((((z.set 0 _).set 1 _).set 2 _).set 3 _).set 4 _) (by decide) _
theorem zcp.newR (H : zcp R w0 N6 w la nl lc oa no oc ha nh hc na nn nc W ev es) : ∀ b, RP R w0 N6 ev b → R b ∨ w0.heap.size ≤ b := fun b hb => by
 have h2 := H.ne;rcases hb with h | h | h | h
 ·exact kaa h
 ·exact kab (by omega)
 ·exact kab (by omega)
 ·exact kab (by have := H.es.base _ h; omega)
theorem zcp.grown (H : zcp R w0 N6 w la nl lc oa no oc ha nh hc na nn nc W ev es) {ev' : Value} {es' : List Int} (ho : zd 32 1 zq w' (N6 + 1) ev' es') (hg : w.grownBy w' ev.ownBlock) (hat : ev'.ownBlock = ev.ownBlock ∨ ev'.ownBlock = some w.heap.size) : zcp R w0 N6 w' la nl lc oa no oc ha nh hc na nn nc W ev' es' := by
 have hne : ∀ b, b ≤ N6 → ev.ownBlock ≠ some b := fun b hb e => by have := H.es.base _ e; omega
 have h0 := H.ne
 have hv : zag (fun b => RP R w0 N6 ev b ∨ RP R w0 N6 ev' b) w (.agg #[G la nl lc, E J W.hd.boot, E J W.hd.next, G oa no oc, G ha nh hc, G na nn nc]) W := H.wv.wide (fun b hb => by
  rcases hb with h | h | h | h | h
  ·exact kaa h
  ·exact kaa (kaa h)
  ·exact kaa (kab (kaa h))
  ·exact kaa (kab (kab (kaa h)))
  ·rcases hat with e | e
   ·exact kaa (kab (kab (kab (by rw [← e]; exact h))))
   ·rw [e] at h; cases h; exact kab (kac _))
 have hK : zh (fun b => RP R w0 N6 ev b ∨ RP R w0 N6 ev' b) w w' := zh.ofGrown hg (fun k hk => kaa (kab (kab (kab hk))));exact ⟨h0, H.rb.keptNe hg (hne _ (by omega)), H.wb.keptNe hg (hne _ (kac _)), (hv.keep hK).wide (fun b hb => kaa (kab hb)), ho, H.bel.grown hg H.bel.size (fun k hk => by have := H.es.base _ hk; omega)⟩
end
theorem zqe (R : Nat → Prop) (n : Nat) (h1 : 1 ≤ n) (h3 : n ≤ 3) (a : Option Addr) (cap len : Nat) (S : List XL) (w : World) (hR : ∀ b, R b → b < w.heap.size) (jw : len = S.length) (hp : zb7 w a S) (hq : ∀ x ∈ S, zaf R w x.2.2.1.1 x.2.2.2) (hx : ∀ x ∈ S, x.2.2.2.length ≤ 9223372036854775807) (hl : S.length ≤ 9223372036854775807) :
  Calls Tryz.prog 32 #[E J (n : Nat), G a len cap] w fun e w' => ∃ v' ea en ec, e = .returned (.tuple #[v', G ea en ec]) ∧ zag R w' v' (zav n (S.map zf)) ∧ zd 32 1 zq w' w.heap.size (G ea en ec) (playE n (S.map zf)) ∧ Z w.heap.size w w' := by
 have HG := zF hp hq hx hR h1 h3;have hll : len ≤ 9223372036854775807 := by omega
 have hb0 := zg w (T #[G U 0 0, E J 0, E J 0, G U 0 0, G U 0 0, G U 0 0] 65);have hr0 : Blk (w.alloc (T #[G U 0 0, E J 0, E J 0, G U 0 0, G U 0 0, G U 0 0] 65)) w.heap.size #[G U 0 0, E J 0, E J 0, G U 0 0, G U 0 0, G U 0 0] 65 := Blk.new _ _ _;have hs0 : (w.alloc (T #[G U 0 0, E J 0, E J 0, G U 0 0, G U 0 0, G U 0 0] 65)).heap.size = w.heap.size + 1 := by simp
 clear hp hq hx hR h1 h3 hl;go_enter Tryz.func32, Tryz.ntmps32
 go_upto_region 1 with fail
 generalize w.alloc (T #[G U 0 0, E J 0, E J 0, G U 0 0, G U 0 0, G U 0 0] 65) = V at *;have HV := zC hb0 hr0 hs0;clear hb0 hr0 hs0;go_wp2_with fail
 refine (zns (fun b => R b ∨ b = w.heap.size) n HG.out.2.2.2.2.1 HG.out.2.2.2.2.2 V (fun b hb => hb.elim (fun h => by have h1 := HG.out.2.2.2.1 b h; have h2 := HV.out.2.2; omega) (fun h => by have h2 := HV.out.2.2; omega))).mono ?_;rintro e w1 ⟨v1, rfl, hv1, hb1⟩;obtain ⟨la, nl, lc, Y1, oa, no, oc, X1, ha, nh, hc, XH1, na, nn, nc, XN1, rfl, hcap1, hF1⟩ := hv1;have hsz1 : w.heap.size < w1.heap.size := by have h1 := hb1.size; have h2 := HV.out.2.2; omega
 have H1 : Q (zcp R w w1.heap.size (w1.alloc (T #[G la nl lc, E J (za3 n).hd.boot, E J (za3 n).hd.next, G oa no oc, G ha nh hc, G na nn nc] 65)) la nl lc oa no oc ha nh hc na nn nc (za3 n) (G U 0 0) []) := by
  have hbb := zg w1 (T #[G la nl lc, E J (za3 n).hd.boot, E J (za3 n).hd.next, G oa no oc, G ha nh hc, G na nn nc] 65);refine ⟨hsz1, (HV.out.2.1.below hb1 HV.out.2.1.lt).below hbb hsz1, Blk.new _ _ _, zag.below (zag.wide (⟨_, _, _, Y1, _, _, _, X1, _, _, _, XH1, _, _, _, XN1, rfl, hcap1, hF1⟩ : zag (fun b => R b ∨ b = w.heap.size) w1 (.agg #[G la nl lc, E J (za3 n).hd.boot, E J (za3 n).hd.next, G oa no oc, G ha nh hc, G na nn nc]) (za3 n)) (fun b hb => ?_)) hbb, zd.nil _ _, (HV.out.1.trans (hb1.mono HV.out.1.size)).trans (hbb.mono (Nat.le_of_lt hsz1))⟩;rcases hb with h | h | h | h
  ·exact kaa (kaa h)
  ·exact kaa (kab h)
  ·exact kab (by omega)
  ·cases h
 clear hF1 hcap1 hb1;go_upto_region 3 with fail
 obtain ⟨N6, hN6⟩ : ∃ N6, N6 = w1.heap.size := ⟨_, rfl⟩;rw [← hN6] at H1;generalize w1.alloc (T #[G la nl lc, E J (za3 n).hd.boot, E J (za3 n).hd.next, G oa no oc, G ha nh hc, G na nn nc] 65) = V1 at *;rw [← hN6];clear hN6 hsz1;go_wp2;go_loopw [8, 20] (fun ev i w' => ∃ (k : Nat) (la : Option Addr) (nl lc : Nat) (oa : Option Addr) (no oc : Nat) (ha : Option Addr) (nh hc : Nat) (na : Option Addr) (nn nc : Nat), k ≤ len ∧ k ≤ 150 ∧ i = E J k ∧ Q (zcp R w N6 w' la nl lc oa no oc ha nh hc na nn nc (zah n ((S.map zf).take k)).1 ev (zah n ((S.map zf).take k)).2)) (fun _ i _ => len - (intOf i).toNat)
 case atStart => exact ⟨0, la, nl, lc, oa, no, oc, ha, nh, hc, na, nn, nc, Nat.zero_le _, Nat.zero_le _, rfl, H1.out⟩
 case round =>
  obtain ⟨k, la, nl, lc, oa, no, oc, ha, nh, hc, na, nn, nc, hk, hk2, rfl, hH⟩ := hrel;obtain ⟨ea, en, ec, rfl⟩ := hH.out.es.slice zal;by_cases hlt : k < len
  ·skip
   have hkS : k < S.length := by omega
   rcases (HG.out.1.1.below hH.out.bel) with h0 | ⟨g, o, rfl, hg, hc⟩
   ·rw [h0] at hkS; simp at hkS
   have d0 := hc k hkS 0 _ rfl;have d1 := hc k hkS 1 _ rfl;have d2 := hc k hkS 2 _ rfl;have hpq := HG.out.2.1 _ (List.getElem_mem hkS);have hpl := HG.out.2.2.1 _ (List.getElem_mem hkS)
   have HT : Q (zah n ((S.map zf).take (k + 1)) = ((zl (zah n ((S.map zf).take k)).1 (zf S[k])).1, (zah n ((S.map zf).take k)).2 ++ [(zl (zah n ((S.map zf).take k)).1 (zf S[k])).2])) := by
    have h := zqd n (l := S.map zf) (k := k) (by rw [List.length_map]; exact hkS);rw [List.getElem_map] at h;exact h
   clear hc;generalize S[k] = x at *;obtain ⟨s0, s1, ⟨sa, sc⟩, sl⟩ := x;simp only [zf, Nat.add_zero] at d0 d1 d2 hpq hpl HT
   obtain ⟨sn, hsn⟩ : ∃ sn, Q (sn = sl.length) := ⟨_, rfl⟩;rw [← hsn.out] at d2;have HX := zB hpq hpl;clear hpq hpl;by_cases h150 : k = 150
   ·have hb : ((k : Int) == 150) = true := by rw [beq_iff_eq]; omega
    have HP : Q ((zah n ((S.map zf).take k)).1 = zav n (S.map zf) ∧ (zah n ((S.map zf).take k)).2 = playE n (S.map zf)) := by show _ ∧ _; subst h150; exact ⟨zl7 _ _, rfl⟩
    clear h150 HX HT;have H1 : Q (zcp R w N6 (wr.alloc (T #[E J s0, E J s1, G sa sn sc] 61)) la nl lc oa no oc ha nh hc na nn nc (zah n ((S.map zf).take k)).1 (G ea en ec) (zah n ((S.map zf).take k)).2) := hH.out.below (zg wr _);go_upto_region 11 with fail
    clear hH d0 d1 d2 hg;generalize wr.alloc (T #[E J s0, E J s1, G sa sn sc] 61) = A at *;obtain ⟨x0, x1, x2, x3, x4, x5⟩ := (H1.out).wb.cells6;obtain ⟨r0, r1, r2, r3, r4, r5⟩ := (H1.out).rb.cells6;obtain ⟨q0, q1, q2, q3, q4, q5⟩ := (H1.out).rb.free6;have l0 := (H1.out).wb.lt;have l2 := (H1.out).rb.lt;obtain ⟨p1, p2, p3, p4⟩ := (H1.out).ret;obtain ⟨e0, e1, e2, e3, e4, e5⟩ := p3.cells6;have HF : Q (zag R (r (r (r (r (r (r A ⟨w.heap.size, 0, U⟩ (G la nl lc)) ⟨w.heap.size, 1, U⟩ (E J (zah n ((S.map zf).take k)).1.hd.boot)) ⟨w.heap.size, 2, U⟩ (E J (zah n ((S.map zf).take k)).1.hd.next)) ⟨w.heap.size, 3, U⟩ (G oa no oc)) ⟨w.heap.size, 4, U⟩ (G ha nh hc)) ⟨w.heap.size, 5, U⟩ (G na nn nc)) (.agg #[G la nl lc, E J (zah n ((S.map zf).take k)).1.hd.boot, E J (zah n ((S.map zf).take k)).1.hd.next, G oa no oc, G ha nh hc, G na nn nc]) (zav n (S.map zf)) ∧ zd 32 1 zq (r (r (r (r (r (r A ⟨w.heap.size, 0, U⟩ (G la nl lc)) ⟨w.heap.size, 1, U⟩ (E J (zah n ((S.map zf).take k)).1.hd.boot)) ⟨w.heap.size, 2, U⟩ (E J (zah n ((S.map zf).take k)).1.hd.next)) ⟨w.heap.size, 3, U⟩ (G oa no oc)) ⟨w.heap.size, 4, U⟩ (G ha nh hc)) ⟨w.heap.size, 5, U⟩ (G na nn nc)) w.heap.size (G ea en ec) (playE n (S.map zf)) ∧ Z w.heap.size w (r (r (r (r (r (r A ⟨w.heap.size, 0, U⟩ (G la nl lc)) ⟨w.heap.size, 1, U⟩ (E J (zah n ((S.map zf).take k)).1.hd.boot)) ⟨w.heap.size, 2, U⟩ (E J (zah n ((S.map zf).take k)).1.hd.next)) ⟨w.heap.size, 3, U⟩ (G oa no oc)) ⟨w.heap.size, 4, U⟩ (G ha nh hc)) ⟨w.heap.size, 5, U⟩ (G na nn nc))) := by rw [← HP.out.1, ← HP.out.2]; exact ⟨p1, p4, p2⟩
    clear p1 p2 p3 p4;go_wp2_with fail
    clear x0 x1 x2 x3 x4 x5 r0 r1 r2 r3 r4 r5 q0 q1 q2 q3 q4 q5;generalize (r (r (r (r (r (r A ⟨w.heap.size, 0, U⟩ (G la nl lc)) ⟨w.heap.size, 1, U⟩ (E J (zah n ((S.map zf).take k)).1.hd.boot)) ⟨w.heap.size, 2, U⟩ (E J (zah n ((S.map zf).take k)).1.hd.next)) ⟨w.heap.size, 3, U⟩ (G oa no oc)) ⟨w.heap.size, 4, U⟩ (G ha nh hc)) ⟨w.heap.size, 5, U⟩ (G na nn nc)) = Z9 at *;refine bodyPost_ret (v := .tuple #[.agg #[G la nl lc, E J (zah n ((S.map zf).take k)).1.hd.boot, E J (zah n ((S.map zf).take k)).1.hd.next, G oa no oc, G ha nh hc, G na nn nc], G ea en ec]) ?_ rfl ⟨_, _, _, _, rfl, HF.out.1, HF.out.2.1, HF.out.2.2⟩;simp [results, Tryz.results32, go_sem, e0, e1, e2, e3, e4, e5]
   ·have hb : ((k : Int) == 150) = false := by rw [beq_eq_false_iff_ne]; omega
    go_upto_region 6 with fail
    have H1 : Q (zcp R w N6 (wr.alloc (T #[E J s0, E J s1, G sa sn sc] 61)) la nl lc oa no oc ha nh hc na nn nc (zah n ((S.map zf).take k)).1 (G ea en ec) (zah n ((S.map zf).take k)).2 ∧ Blk (wr.alloc (T #[E J s0, E J s1, G sa sn sc] 61)) wr.heap.size #[E J s0, E J s1, G sa sn sc] 61) := ⟨hH.out.below (zg wr _), Blk.new _ _ _⟩;clear hH d0 d1 d2 hg;generalize wr.alloc (T #[E J s0, E J s1, G sa sn sc] 61) = A at *;obtain ⟨x0, x1, x2, x3, x4, x5⟩ := H1.out.1.wb.cells6;obtain ⟨y0, y1, y2⟩ := H1.out.2.cells3;have l0 := H1.out.1.wb.lt;have l1 := H1.out.2.lt;have hok := playS_ok HG.out.2.2.2.2.2 ((S.map zf).take k) (by rw [List.length_take]; omega);obtain ⟨P, hP⟩ := hok.1;have HI := zB hP hok.2;clear hok hP;go_wp2_with fail
    refine (zoc (RP R w N6 (G ea en ec)) _ (zah n ((S.map zf).take k)).1 n P s0 s1 sa sn sc sl A (H1.out.1.ltR HG.out.2.2.2.1) H1.out.1.wv HI.out.1 HI.out.2 hsn.out ((HX.out.1.wide (H1.out.1.newR)).below H1.out.1.bel) HX.out.2).mono ?_;rintro e w2 ⟨v2, rfl, hv2, hb2⟩;obtain ⟨la2, nl2, lc2, Y2, oa2, no2, oc2, X2, ha2, nh2, hc2, XH2, na2, nn2, nc2, XN2, rfl, hcap2, hF2⟩ := hv2;have H2 : Q (zcp R w N6 (w2.alloc (T #[G la2 nl2 lc2, E J ((zl (zah n ((S.map zf).take k)).1 (s0, s1, sl)).1).hd.boot, E J ((zl (zah n ((S.map zf).take k)).1 (s0, s1, sl)).1).hd.next, G oa2 no2 oc2, G ha2 nh2 hc2, G na2 nn2 nc2] 65)) la nl lc oa no oc ha nh hc na nn nc (zah n ((S.map zf).take k)).1 (G ea en ec) (zah n ((S.map zf).take k)).2 ∧ Blk (w2.alloc (T #[G la2 nl2 lc2, E J ((zl (zah n ((S.map zf).take k)).1 (s0, s1, sl)).1).hd.boot, E J ((zl (zah n ((S.map zf).take k)).1 (s0, s1, sl)).1).hd.next, G oa2 no2 oc2, G ha2 nh2 hc2, G na2 nn2 nc2] 65)) w2.heap.size #[G la2 nl2 lc2, E J ((zl (zah n ((S.map zf).take k)).1 (s0, s1, sl)).1).hd.boot, E J ((zl (zah n ((S.map zf).take k)).1 (s0, s1, sl)).1).hd.next, G oa2 no2 oc2, G ha2 nh2 hc2, G na2 nn2 nc2] 65 ∧ zag (RP R w N6 (G ea en ec)) (w2.alloc (T #[G la2 nl2 lc2, E J ((zl (zah n ((S.map zf).take k)).1 (s0, s1, sl)).1).hd.boot, E J ((zl (zah n ((S.map zf).take k)).1 (s0, s1, sl)).1).hd.next, G oa2 no2 oc2, G ha2 nh2 hc2, G na2 nn2 nc2] 65)) (.agg #[G la2 nl2 lc2, E J ((zl (zah n ((S.map zf).take k)).1 (s0, s1, sl)).1).hd.boot, E J ((zl (zah n ((S.map zf).take k)).1 (s0, s1, sl)).1).hd.next, G oa2 no2 oc2, G ha2 nh2 hc2, G na2 nn2 nc2]) ((zl (zah n ((S.map zf).take k)).1 (s0, s1, sl)).1)) := ⟨(H1.out.1.below hb2).below (zg w2 _), Blk.new _ _ _, zag.below ⟨_, _, _, Y2, _, _, _, X2, _, _, _, XH2, _, _, _, XN2, rfl, hcap2, hF2⟩ (zg w2 _)⟩
    clear hb2 hF2 hcap2 x0 x1 x2 x3 x4 x5 y0 y1 y2 l0 l1 H1;go_upto_region 8 with fail
    generalize w2.alloc (T #[G la2 nl2 lc2, E J ((zl (zah n ((S.map zf).take k)).1 (s0, s1, sl)).1).hd.boot, E J ((zl (zah n ((S.map zf).take k)).1 (s0, s1, sl)).1).hd.next, G oa2 no2 oc2, G ha2 nh2 hc2, G na2 nn2 nc2] 65) = B at *;obtain ⟨x0, x1, x2, x3, x4, x5⟩ := H2.out.2.1.cells6;obtain ⟨r0, r1, r2, r3, r4, r5⟩ := H2.out.1.wb.cells6;obtain ⟨q0, q1, q2, q3, q4, q5⟩ := H2.out.1.wb.free6;have l0 := H2.out.2.1.lt;have l1 := H2.out.1.wb.lt;have H3 := zA (H2.out.1.put H2.out.2.2);go_upto_region 9 with fail
    clear x0 x1 x2 x3 x4 x5 r0 r1 r2 r3 r4 r5 q0 q1 q2 q3 q4 q5 l0 l1 H2;generalize ((((((B.setCell ⟨N6, 0, U⟩ (G la2 nl2 lc2)).setCell ⟨N6, 1, U⟩ (E J ((zl (zah n ((S.map zf).take k)).1 (s0, s1, sl)).1).hd.boot)).setCell ⟨N6, 2, U⟩ (E J ((zl (zah n ((S.map zf).take k)).1 (s0, s1, sl)).1).hd.next)).setCell ⟨N6, 3, U⟩ (G oa2 no2 oc2)).setCell ⟨N6, 4, U⟩ (G ha2 nh2 hc2)).setCell ⟨N6, 5, U⟩ (G na2 nn2 nc2)) = w4 at *;have hel : (zah n ((S.map zf).take k)).2.length = k := by rw [playS_len, List.length_take, List.length_map]; omega
    have H4 : Q (zcp R w N6 (w4.alloc (T #[E J ((zl (zah n ((S.map zf).take k)).1 (s0, s1, sl)).2)] 32)) la2 nl2 lc2 oa2 no2 oc2 ha2 nh2 hc2 na2 nn2 nc2 ((zl (zah n ((S.map zf).take k)).1 (s0, s1, sl)).1) (G ea en ec) (zah n ((S.map zf).take k)).2) := H3.out.below (zg w4 _);go_wp2_with (at_builtin; refine zbk zal zcw Tryz.underlying69 infoErrno rfl (by decide) _ rfl _ _ rfl (N6 + 1) (G ea en ec) (zah n ((S.map zf).take k)).2 rfl H4.out.es (some ⟨w4.heap.size, 0, U⟩) 1 1 [(zl (zah n ((S.map zf).take k)).1 (s0, s1, sl)).2] rfl rfl (zk.one (Blk.new w4 _ _) rfl) (by unfold maxLen; simp; omega) (by simp; omega) (by have := H4.out.wb.lt; omega) ?_; intro a6 n6 c6 w6 jZ hn6 jk hat6; have HF : Q _ := H4.out.grown jZ jk hat6; clear jZ hn6 jk hat6)
    go_wp2;go_roundw
    case rel => exact ⟨k + 1, la2, nl2, lc2, oa2, no2, oc2, ha2, nh2, hc2, na2, nn2, nc2, by omega, by omega, by go_num, by rw [HT.out]; exact HF.out⟩
    case measure => simp [intOf]; omega
  ·have HP : Q ((zah n ((S.map zf).take k)).1 = zav n (S.map zf) ∧ (zah n ((S.map zf).take k)).2 = playE n (S.map zf)) := by
    show _ ∧ _
    have e1 : (S.map zf).take k = (S.map zf).take 150 := by rw [kad (by rw [List.length_map]; omega), kad (by rw [List.length_map]; omega)]
    rw [e1];exact ⟨zl7 _ _, rfl⟩
   go_upto_region 11 with fail
   obtain ⟨x0, x1, x2, x3, x4, x5⟩ := (hH.out).wb.cells6;obtain ⟨r0, r1, r2, r3, r4, r5⟩ := (hH.out).rb.cells6;obtain ⟨q0, q1, q2, q3, q4, q5⟩ := (hH.out).rb.free6;have l0 := (hH.out).wb.lt;have l2 := (hH.out).rb.lt;obtain ⟨p1, p2, p3, p4⟩ := (hH.out).ret;obtain ⟨e0, e1, e2, e3, e4, e5⟩ := p3.cells6;have HF : Q (zag R (r (r (r (r (r (r wr ⟨w.heap.size, 0, U⟩ (G la nl lc)) ⟨w.heap.size, 1, U⟩ (E J (zah n ((S.map zf).take k)).1.hd.boot)) ⟨w.heap.size, 2, U⟩ (E J (zah n ((S.map zf).take k)).1.hd.next)) ⟨w.heap.size, 3, U⟩ (G oa no oc)) ⟨w.heap.size, 4, U⟩ (G ha nh hc)) ⟨w.heap.size, 5, U⟩ (G na nn nc)) (.agg #[G la nl lc, E J (zah n ((S.map zf).take k)).1.hd.boot, E J (zah n ((S.map zf).take k)).1.hd.next, G oa no oc, G ha nh hc, G na nn nc]) (zav n (S.map zf)) ∧ zd 32 1 zq (r (r (r (r (r (r wr ⟨w.heap.size, 0, U⟩ (G la nl lc)) ⟨w.heap.size, 1, U⟩ (E J (zah n ((S.map zf).take k)).1.hd.boot)) ⟨w.heap.size, 2, U⟩ (E J (zah n ((S.map zf).take k)).1.hd.next)) ⟨w.heap.size, 3, U⟩ (G oa no oc)) ⟨w.heap.size, 4, U⟩ (G ha nh hc)) ⟨w.heap.size, 5, U⟩ (G na nn nc)) w.heap.size (G ea en ec) (playE n (S.map zf)) ∧ Z w.heap.size w (r (r (r (r (r (r wr ⟨w.heap.size, 0, U⟩ (G la nl lc)) ⟨w.heap.size, 1, U⟩ (E J (zah n ((S.map zf).take k)).1.hd.boot)) ⟨w.heap.size, 2, U⟩ (E J (zah n ((S.map zf).take k)).1.hd.next)) ⟨w.heap.size, 3, U⟩ (G oa no oc)) ⟨w.heap.size, 4, U⟩ (G ha nh hc)) ⟨w.heap.size, 5, U⟩ (G na nn nc))) := by rw [← HP.out.1, ← HP.out.2]; exact ⟨p1, p4, p2⟩
   clear p1 p2 p3 p4;go_wp2_with fail
   clear x0 x1 x2 x3 x4 x5 r0 r1 r2 r3 r4 r5 q0 q1 q2 q3 q4 q5;generalize (r (r (r (r (r (r wr ⟨w.heap.size, 0, U⟩ (G la nl lc)) ⟨w.heap.size, 1, U⟩ (E J (zah n ((S.map zf).take k)).1.hd.boot)) ⟨w.heap.size, 2, U⟩ (E J (zah n ((S.map zf).take k)).1.hd.next)) ⟨w.heap.size, 3, U⟩ (G oa no oc)) ⟨w.heap.size, 4, U⟩ (G ha nh hc)) ⟨w.heap.size, 5, U⟩ (G na nn nc)) = Z9 at *;refine bodyPost_ret (v := .tuple #[.agg #[G la nl lc, E J (zah n ((S.map zf).take k)).1.hd.boot, E J (zah n ((S.map zf).take k)).1.hd.next, G oa no oc, G ha nh hc, G na nn nc], G ea en ec]) ?_ rfl ⟨_, _, _, _, rfl, HF.out.1, HF.out.2.1, HF.out.2.2⟩;simp [results, Tryz.results32, go_sem, e0, e1, e2, e3, e4, e5]
def BuildV (w : World) (v : Value) (ok : Bool) (g : Gh) : Prop :=
 ∃ (la : Option Addr) (nl lc : Nat) (bt nx : Int) (oa : Option Addr) (no oc : Nat), v = .agg #[G la nl lc, E J bt, E J nx, G oa no oc] ∧ (ok = true → bt = g.boot ∧ nx = g.next ∧ zay (fun _ => False) w la nl oa no g)
theorem build_any (R : Nat → Prop) (n : Int) (a : Option Addr) (cap len : Nat) (S : List XL) (w : World) (hR : ∀ b, R b → b < w.heap.size) (jw : len = S.length) (hp : zb7 w a S) (hq : ∀ x ∈ S, zaf R w x.2.2.1.1 x.2.2.2) (hx : ∀ x ∈ S, x.2.2.2.length ≤ 9223372036854775807) (hl : S.length ≤ 9223372036854775807) (ok : Bool) (hok : ok = decide (1 ≤ n ∧ n ≤ 3)) :
  Calls Tryz.prog 8 #[E J n, G a len cap] w fun e w' => ∃ v', e = .returned (.tuple #[v', .bool ok]) ∧ BuildV w' v' ok (zav n.toNat (S.map zf)).hd ∧ Z w.heap.size w w' := by
 have hb0 := zg w (T #[G U 0 0, E J 0, E J 0, G U 0 0] 29);have hr0 : Blk (w.alloc (T #[G U 0 0, E J 0, E J 0, G U 0 0] 29)) w.heap.size #[G U 0 0, E J 0, E J 0, G U 0 0] 29 := Blk.new _ _ _;have hs0 : (w.alloc (T #[G U 0 0, E J 0, E J 0, G U 0 0] 29)).heap.size = w.heap.size + 1 := by simp
 have HG := zF jw hp hq hx hl hR;have HOK := zA hok;clear jw hp hq hx hl hR hok;go_enter Tryz.func8, Tryz.ntmps8
 go_upto_region 1 with fail
 generalize w.alloc (T #[G U 0 0, E J 0, E J 0, G U 0 0] 29) = V at *;have HV := zC hb0 hr0 hs0;obtain ⟨r0, r1, r2, r3⟩ := hr0.cells4;obtain ⟨q0, q1, q2, q3⟩ := hr0.free4;have hlt := hr0.lt;clear hb0 hr0 hs0;by_cases c1 : n < 1
 ·have HE : Q (ok = false) := by show _ = _; rw [HOK.out]; exact decide_eq_false (by omega)
  have g1 := decide_eq_true c1;have HK := (zct HV.out.2.1 (G U 0 0) (E J 0) (E J 0) (G U 0 0));obtain ⟨e0, e1, e2, e3⟩ := HK.1.cells4;have HF := zA (HV.out.1.trans (HK.2.below HV.out.1.size (fun b hb => by subst hb; exact kac _)));clear HK;go_wp2_with fail
  clear r0 r1 r2 r3 q0 q1 q2 q3;generalize (r (r (r (r V ⟨w.heap.size, 0, U⟩ (G U 0 0)) ⟨w.heap.size, 1, U⟩ (E J 0)) ⟨w.heap.size, 2, U⟩ (E J 0)) ⟨w.heap.size, 3, U⟩ (G U 0 0)) = jz at *;refine bodyPost_ret (v := .tuple #[.agg #[G U 0 0, E J 0, E J 0, G U 0 0], .bool false]) ?_ rfl ⟨.agg #[G U 0 0, E J 0, E J 0, G U 0 0], by rw [HE.out], ⟨none, 0, 0, 0, 0, none, 0, 0, rfl, fun h => (by rw [HE.out] at h; cases h)⟩, HF.out⟩;simp [results, Tryz.results8, go_sem, e0, e1, e2, e3]
 ·have g1 := decide_eq_false c1
  by_cases c3 : n > 3
  ·have HE : Q (ok = false) := by show _ = _; rw [HOK.out]; exact decide_eq_false (by omega)
   have g3 := decide_eq_true c3;have HK := (zct HV.out.2.1 (G U 0 0) (E J 0) (E J 0) (G U 0 0));obtain ⟨e0, e1, e2, e3⟩ := HK.1.cells4;have HF := zA (HV.out.1.trans (HK.2.below HV.out.1.size (fun b hb => by subst hb; exact kac _)));clear HK;go_wp2_with fail
   clear r0 r1 r2 r3 q0 q1 q2 q3;generalize (r (r (r (r V ⟨w.heap.size, 0, U⟩ (G U 0 0)) ⟨w.heap.size, 1, U⟩ (E J 0)) ⟨w.heap.size, 2, U⟩ (E J 0)) ⟨w.heap.size, 3, U⟩ (G U 0 0)) = jz at *;refine bodyPost_ret (v := .tuple #[.agg #[G U 0 0, E J 0, E J 0, G U 0 0], .bool false]) ?_ rfl ⟨.agg #[G U 0 0, E J 0, E J 0, G U 0 0], by rw [HE.out], ⟨none, 0, 0, 0, 0, none, 0, 0, rfl, fun h => (by rw [HE.out] at h; cases h)⟩, HF.out⟩;simp [results, Tryz.results8, go_sem, e0, e1, e2, e3]
  ·have HE : Q (ok = true) := by show _ = _; rw [HOK.out]; exact decide_eq_true (by omega)
   have g3 := decide_eq_false c3;obtain ⟨k, rfl⟩ := Int.eq_ofNat_of_zero_le (show 0 ≤ n by omega);go_wp2_with fail
   refine (zqe (fun b => R b ∨ b = w.heap.size) k (by omega) (by omega) a cap len S V (fun b hb => hb.elim (fun h => by have h1 := HG.out.2.2.2.2.2 b h; have h2 := HV.out.2.2; omega) (fun h => by have h2 := HV.out.2.2; omega)) HG.out.1 (HG.out.2.1.below HV.out.1) (fun x hx => ((HG.out.2.2.1 x hx).wide (fun b hb => hb.imp id (fun h => Nat.le_of_eq h.symm))).below HV.out.1) HG.out.2.2.2.1 HG.out.2.2.2.2.1).mono ?_;rintro e w1 ⟨v1, ea, en, ec, rfl, hv1, -, hb1⟩;obtain ⟨la, nl, lc, Y1, oa, no, oc, X1, ha, nh, hc, XH1, na, nn, nc, XN1, rfl, hcap1, hF1⟩ := hv1;have hb2 := zg w1 (T #[G la nl lc, E J (zav k (S.map zf)).hd.boot, E J (zav k (S.map zf)).hd.next, G oa no oc, G ha nh hc, G na nn nc] 65);have H1 : Q (zbd (fun b => R b ∨ b = w.heap.size) (w1.alloc (T #[G la nl lc, E J (zav k (S.map zf)).hd.boot, E J (zav k (S.map zf)).hd.next, G oa no oc, G ha nh hc, G na nn nc] 65)) la nl Y1 oa no X1 (zav k (S.map zf)).hd.log (zav k (S.map zf)).hd.opn ∧ Blk (w1.alloc (T #[G la nl lc, E J (zav k (S.map zf)).hd.boot, E J (zav k (S.map zf)).hd.next, G oa no oc, G ha nh hc, G na nn nc] 65)) w1.heap.size #[G la nl lc, E J (zav k (S.map zf)).hd.boot, E J (zav k (S.map zf)).hd.next, G oa no oc, G ha nh hc, G na nn nc] 65 ∧ Z w.heap.size w (w1.alloc (T #[G la nl lc, E J (zav k (S.map zf)).hd.boot, E J (zav k (S.map zf)).hd.next, G oa no oc, G ha nh hc, G na nn nc] 65)) ∧ Blk (w1.alloc (T #[G la nl lc, E J (zav k (S.map zf)).hd.boot, E J (zav k (S.map zf)).hd.next, G oa no oc, G ha nh hc, G na nn nc] 65)) w.heap.size #[G U 0 0, E J 0, E J 0, G U 0 0] 29) := ⟨hF1.hd.below hb2, Blk.new _ _ _, (HV.out.1.trans (hb1.mono HV.out.1.size)).trans (hb2.mono (by have h1 := hb1.size; have h2 := HV.out.2.2; omega)), (HV.out.2.1.below hb1 HV.out.2.1.lt).below hb2 (by have h1 := hb1.size; have h2 := HV.out.2.2; omega)⟩
   clear hb1 hb2 hF1 hcap1 r0 r1 r2 r3 q0 q1 q2 q3 hlt;go_upto_region 4 with fail
   generalize w1.alloc (T #[G la nl lc, E J (zav k (S.map zf)).hd.boot, E J (zav k (S.map zf)).hd.next, G oa no oc, G ha nh hc, G na nn nc] 65) = zX at *;obtain ⟨x0, x1, x2, x3, x4, x5⟩ := H1.out.2.1.cells6;obtain ⟨r0, r1, r2, r3⟩ := H1.out.2.2.2.cells4;obtain ⟨q0, q1, q2, q3⟩ := H1.out.2.2.2.free4;have l0 := H1.out.2.1.lt;have l1 := H1.out.2.2.2.lt;have HK := (zct H1.out.2.2.2 (G la nl lc) (E J (zav k (S.map zf)).hd.boot) (E J (zav k (S.map zf)).hd.next) (G oa no oc));obtain ⟨e0, e1, e2, e3⟩ := HK.1.cells4
   have HF : Q (zay (fun _ => False) ((((zX.setCell ⟨w.heap.size, 0, U⟩ (G la nl lc)).setCell ⟨w.heap.size, 1, U⟩ (E J (zav k (S.map zf)).hd.boot)).setCell ⟨w.heap.size, 2, U⟩ (E J (zav k (S.map zf)).hd.next)).setCell ⟨w.heap.size, 3, U⟩ (G oa no oc)) la nl oa no (zav k (S.map zf)).hd ∧ Z w.heap.size w ((((zX.setCell ⟨w.heap.size, 0, U⟩ (G la nl lc)).setCell ⟨w.heap.size, 1, U⟩ (E J (zav k (S.map zf)).hd.boot)).setCell ⟨w.heap.size, 2, U⟩ (E J (zav k (S.map zf)).hd.next)).setCell ⟨w.heap.size, 3, U⟩ (G oa no oc))) := by
    refine ⟨⟨Y1, X1, ?_⟩, H1.out.2.2.1.trans (HK.2.below H1.out.2.2.1.size (fun b hb => by subst hb; exact kac _))⟩;exact (H1.out.1.keep (HK.2.mono (fun b _ hb => kab hb))).wide (fun b hb => hb.elim)
   clear HK H1;go_wp2_with fail
   clear x0 x1 x2 x3 x4 x5 r0 r1 r2 r3 q0 q1 q2 q3 l0 l1;generalize ((((zX.setCell ⟨w.heap.size, 0, U⟩ (G la nl lc)).setCell ⟨w.heap.size, 1, U⟩ (E J (zav k (S.map zf)).hd.boot)).setCell ⟨w.heap.size, 2, U⟩ (E J (zav k (S.map zf)).hd.next)).setCell ⟨w.heap.size, 3, U⟩ (G oa no oc)) = jz at *;refine bodyPost_ret (v := .tuple #[.agg #[G la nl lc, E J (zav k (S.map zf)).hd.boot, E J (zav k (S.map zf)).hd.next, G oa no oc], .bool true]) ?_ rfl ⟨.agg #[G la nl lc, E J (zav k (S.map zf)).hd.boot, E J (zav k (S.map zf)).hd.next, G oa no oc], by rw [HE.out], ⟨la, nl, lc, _, _, oa, no, oc, rfl, fun _ => ⟨rfl, rfl, HF.out.1⟩⟩, HF.out.2⟩;simp [results, Tryz.results8, go_sem, e0, e1, e2, e3]
theorem zmf (a : Option Addr) (X : List XL) (cap n : Nat) (w : World) (hn : n = X.length) (hl : X.length ≤ 1000000) (hp : zb7 w a X) :
  Calls Tryz.prog 28 #[G a n cap] w fun e w' => ∃ a' n' c' jz, e = .returned (G a' n' c') ∧ n' = jz.length ∧ jz.map zaz = zad (X.map zf) ∧ zdn w' a' jz ∧ Z w.heap.size w w' := by
 have HN := zB hn hp;have hnl : n ≤ 1000000 := by omega
 clear hn hp hl;go_enter Tryz.func28, Tryz.ntmps28
 go_wp2;go_loopw [3, 8] (fun v i w' => ∃ (k : Nat) (jz : List XD), k ≤ n ∧ i = E J k ∧ Q (jz.map zaz = zad ((X.take k).map zf)) ∧ zd 80 2 zcz w' w.heap.size v jz ∧ Q (∀ y ∈ jz, zai w y.2.1.1 y.2.2) ∧ Z w.heap.size w w') (fun _ i _ => n - (intOf i).toNat)
 case atStart => exact ⟨0, [], Nat.zero_le _, rfl, rfl, zd.nil _ _, (fun y hy => by cases hy), Below.refl _ _⟩
 case round =>
  obtain ⟨k, jz, hk, rfl, hZ, jx, hT, hbw⟩ := hrel;have hsz := hbw.size;by_cases hlt : k < n
  ·have hkX : k < X.length := by have := HN.out.1; omega
   obtain ⟨b, o, rfl, hb, c0, c1, c2, -⟩ := (HN.out.2.below hbw).get hkX;have hq := HN.out.2.2 _ (List.getElem_mem hkX)
   have hZl : jz.length ≤ k := by
    have h1 := congrArg List.length hZ.out;have h2 := zn8 ((X.take k).map zf);simp at h1 h2
    omega
   have HE : Q (zad ((X.take (k + 1)).map zf) = zad ((X.take k).map zf) ++ (if X[k].1 = 5 then [(X[k].2.1, X[k].2.2.2)] else [])) := by show _ = _; rw [zhi hkX, zf0]; rfl
   obtain ⟨av, nv, cv, rfl⟩ : ∃ a n c, u3 = G a n c := by
    obtain ⟨a, c, hv, _⟩ := jx.row zd1;exact ⟨a, _, c, hv⟩
   generalize X[k] = x at *;obtain ⟨kd, dd, ⟨ax, cx⟩, l⟩ := x;simp only at c0 c1 c2 hq HE
   have HQ := zB hq jx;clear hq jx;generalize hll : l.length = nl at *;have HLL := zA hll;clear hll;by_cases k5 : kd = 5
   ·subst k5
    rw [if_pos rfl] at HE;go_wp2_with (at_builtin; refine zhx zd1 oneD Tryz.underlying54 zho rfl (by decide) (by decide) _ rfl _ _ rfl w.heap.size _ jz rfl (HQ.out.2.below (za4 wr _ _) (kac _)) (some ⟨wr.heap.size + 1, 0, U⟩) 1 1 [(dd, (ax, cx), l)] rfl rfl (zk.one (zap wr _ _) (by simp [zcz, HLL.out])) (by simp; omega) (by simp; omega) ?_; intro a4 n4 c4 w4 jv hn4 jy jQ; clear hn4 jQ)
    have HF : Q ((jz ++ [(dd, (ax, cx), l)]).map zaz = zad ((X.take (k + 1)).map zf)) := by
     show _ = _
     rw [HE.out, List.map_append, hZ.out];rfl
    have HT4 : Q (∀ y ∈ jz ++ [(dd, (ax, cx), l)], zai w y.2.1.1 y.2.2) := fun x hx => by
     rcases List.mem_append.1 hx with hx | hx
     ·exact hT.out x hx
     ·rw [List.mem_singleton.1 hx]; exact HQ.out.1
    have hBf := ((hbw.alloc hsz _).alloc (by simp; omega) _).grown jy (by simp; omega) (HQ.out.2.below (za4 wr (T #[E J 5, E J dd, G ax nl cx] 40) (T #[E J dd, G ax nl cx] 80)) (kac _)).base;clear jy;go_wp2;go_roundw
    case rel => exact ⟨k + 1, _, by omega, by go_num, HF, jv, HT4, hBf⟩
    case measure => simp [intOf]; omega
   ·have k5' : (kd == 5) = false := by simpa using k5
    have HF : Q (jz.map zaz = zad ((X.take (k + 1)).map zf)) := by
     show _ = _
     rw [HE.out, if_neg k5, List.append_nil, hZ.out]
    have hA := zg wr (T #[E J kd, E J dd, G ax nl cx] 40);have HO := zA (HQ.out.2.below hA (kac _));clear k5 hA;go_wp2;go_roundw
    case rel => exact ⟨k + 1, jz, by omega, by go_num, HF, HO.out, hT, hbw.alloc hsz _⟩
    case measure => simp [intOf]; omega
  ·have hkn : k = n := by omega
   obtain ⟨av, cv, rfl, j8, _⟩ := jx.row zd1;have HF : Q (jz.map zaz = zad (X.map zf) ∧ zdn wr av jz) := ⟨by rw [hZ.out, kad (by have := HN.out.1; omega)], j8, fun y hy => (hT.out y hy).below hbw⟩;clear jx hZ j8;generalize hzl : jz.length = nz at *;have HZL := zA hzl;clear hzl;go_wp2;go_ret;exact ⟨av, nz, cv, jz, rfl, HZL.out.symm, HF.out.1, HF.out.2, hbw⟩
def RV (W V : World) : Nat → Prop := fun b => W.heap.size ≤ b ∧ b < V.heap.size
theorem RV.lt {W V : World} : ∀ b, RV W V b → b < V.heap.size := fun _ h => h.2
theorem zay.at {W V : World} {la oa : Option Addr} {nl no : Nat} {g : Gh} (H : zay (fun b => W.heap.size ≤ b) W la nl oa no g) (hb : Z W.heap.size W V) : zay (RV W V) V la nl oa no g :=
 (H.keep (zh.ofBelow hb (fun _ _ h => h))).wide (fun _ h => kaa h.1)
theorem zai.rv {W V : World} {a : Option Addr} {l : List P3} (H : zai W a l) (hb : Z W.heap.size W V) : zaf (RV W V) V a l :=
 ((H.outR (R := fun b => W.heap.size ≤ b) (fun _ h => h)).keep (zh.ofBelow hb (fun _ _ h => h))).wide (fun _ h => kaa h.1)
theorem zp9 (m : Q4) (o : O4) : ∀ x ∈ (zx m o).1, x.2.1 = o.2.1 ∧ x.2.2.2.length ≤ o.2.2.2.length + 1 := by
 unfold zx
 intro x hx;split at hx
 ·split at hx
  ·cases hx; exact ⟨rfl, Nat.zero_le _⟩
  ·cases hx; exact ⟨rfl, by simp⟩
 ·split at hx
  ·cases hx
  ·split at hx
   ·split at hx
    ·cases hx
    ·cases hx; exact ⟨rfl, by simp⟩
   ·split at hx
    ·cases hx; exact ⟨rfl, Nat.le_succ _⟩
    ·cases hx; exact ⟨rfl, Nat.le_succ _⟩
theorem OkG.step {n : Nat} {P : Int → List P3} {W : WW} (I : Inv n P W) (hok : OkL W.hd.log) (hl : zb0 200000 W) (s : Int × Int × List P3) : OkG (zl W s).1.hd := by
 obtain ⟨P', _, I'⟩ := I.step s;exact I'.okG (zkr hok (fun o ho => zff (I.opn o ho).right) s) (by have := (zma hl s).1; omega)
theorem OkG.fall {n : Nat} {P : Int → List P3} {W : WW} (I : Inv n P W) (hok : OkL W.hd.log) (hl : zb0 200000 W) : OkG (zz W.hd).1 := by
 have h := OkG.step I hok hl (5, 3, []);have e : (zl W (5, 3, [])).1.hd = (zz W.hd).1 := by unfold zl; simp
 rwa [e] at h
structure zd2 (w0 W : World) (N : Nat) (pa : Option Addr) (pl : List P3) (la : Option Addr) (nl lc : Nat) (oa : Option Addr) (no oc : Nat) (g : Gh) (V : World) : Prop where
 bel : Z W.heap.size W V
 bel0 : Z w0.heap.size w0 V
 hW : w0.heap.size ≤ W.heap.size
 hb : Blk V N #[G la nl lc, E J g.boot, E J g.next, G oa no oc] 29
 hlt : N < W.heap.size
 hd : zay (fun b => W.heap.size ≤ b) W la nl oa no g
 parts : zai W pa pl
 hn : zay (fun b => b = N) W la nl oa no g
section
variable {w0 W : World} {N : Nat} {pa : Option Addr} {pl : List P3} {la : Option Addr} {nl lc : Nat} {oa : Option Addr} {no oc : Nat} {g : Gh} {V V' : World}
theorem zd2.go (H : zd2 w0 W N pa pl la nl lc oa no oc g V) (hb : Z W.heap.size V V') : zd2 w0 W N pa pl la nl lc oa no oc g V' :=
 ⟨H.bel.trans hb, H.bel0.trans (hb.mono H.hW), H.hW, H.hb.below hb H.hlt, H.hlt, H.hd, H.parts, H.hn⟩
theorem zd2.below (H : zd2 w0 W N pa pl la nl lc oa no oc g V) (hb : Z V.heap.size V V') : zd2 w0 W N pa pl la nl lc oa no oc g V' := H.go (hb.mono H.bel.size)
theorem zd2.at (H : zd2 w0 W N pa pl la nl lc oa no oc g V) : zay (RV W V) V la nl oa no g := H.hd.at H.bel
end
theorem zay.rec {R : Nat → Prop} {w : World} {la oa : Option Addr} {nl no : Nat} {g : Gh} (H : zay R w la nl oa no g) {k : Nat} (hk : k < g.log.length) : ∃ b o pa pc, la = some ⟨b, o, U⟩ ∧ b < w.heap.size ∧ w.cell? ⟨b, o + k * 3, U⟩ = some (E J g.log[k].1) ∧
  w.cell? ⟨b, o + k * 3 + 1, U⟩ = some (E J g.log[k].2.1) ∧ w.cell? ⟨b, o + k * 3 + 2, U⟩ = some (G pa g.log[k].2.2.length pc) := by
 obtain ⟨Y, X, h⟩ := H;have hY : k < Y.length := by have := h.says; rw [← this, List.length_map] at hk; exact hk
 have e : g.log[k] = zf Y[k] := by
  have h2 : g.log[k]? = some (zf Y[k]) := by rw [← h.says, List.getElem?_map, List.getElem?_eq_getElem hY]; rfl
  rw [List.getElem?_eq_getElem hk] at h2;exact Option.some.inj h2
 obtain ⟨b, o, ha, hb, c0, c1, c2, -⟩ := zb7.get ⟨h.log, fun y hy => (h.parts y hy).1⟩ hY;rw [e];exact ⟨b, o, _, _, ha, hb, c0, c1, c2⟩
theorem zpt {m : Q4} {o : O4} (h : o.2.2.2.Nodup ∧ ∀ k ∈ o.2.2.2, k ∈ zu o.2.1) : ∀ x ∈ (zx m o).1, x.2.2.2.Nodup ∧ (∀ k ∈ x.2.2.2, k ∈ zu x.2.1) := by
 have ze5 : ∀ k : Int, inI (zu o.2.1) k = true ∧ inI o.2.2.2 k = false → (o.2.2.2 ++ [k]).Nodup ∧ ∀ j ∈ o.2.2.2 ++ [k], j ∈ zu o.2.1 := fun k hk => by
  refine ⟨?_, fun j hj => ?_⟩
  ·rw [List.nodup_append]
   refine ⟨h.1, by simp, fun a ha b hb e => ?_⟩;rw [List.mem_singleton.1 hb] at e;subst e;rw [zc7.2 ha] at hk;exact absurd hk.2 (by decide)
  ·rcases List.mem_append.1 hj with hj | hj
   ·exact h.2 j hj
   ·rw [List.mem_singleton.1 hj]; exact zc7.1 hk.1
 unfold zx
 intro x hx;split at hx
 ·rename_i hc
  split at hx
  ·cases hx; exact ⟨List.nodup_nil, fun k hk => by cases hk⟩
  ·cases hx; exact ze5 _ hc.2.2
 ·split at hx
  ·cases hx
  ·split at hx
   ·rename_i hc
    split at hx
    ·cases hx
    ·cases hx; exact ze5 _ hc.2.2
   ·split at hx
    ·cases hx; exact h
    ·cases hx; exact h
theorem OkG.hear {g : Gh} (K : OkG g) (m : Q4) (hl : (zj g m).1.log.length ≤ 300000) : OkG (zj g m).1 := by
 revert hl
 unfold zj
 split
 ·rename_i x hx
  intro hl;obtain ⟨A, o, B, hO, _, rfl⟩ := zge hx;have ho : o ∈ g.opn := by rw [hO]; simp
  have hmem : ∀ y ∈ A ++ ((zx m o).1.toList ++ B), y ∈ g.opn ∨ y ∈ (zx m o).1 := fun y hy => by
   rcases List.mem_append.1 hy with h | h
   ·exact kaa (by rw [hO]; simp [h])
   ·rcases List.mem_append.1 h with h | h
    ·refine kab ?_
     cases e : (zx m o).1 with
     | none => rw [e] at h; cases h
     | some z => rw [e] at h; simp at h; rw [h]; rfl
    ·exact kaa (by rw [hO]; simp [h])
  have hk := K.heard o ho
  have hsx : ∀ y ∈ (zx m o).1, y.2.1 = o.2.1 ∧ (y.2.2.2.Nodup ∧ (∀ k ∈ y.2.2.2, k ∈ zu y.2.1)) ∧ y.2.2.2.length ≤ 3 := fun y hy => by
   have h1 := zpt ⟨hk.1, hk.2.1⟩ y hy;have h2 := zf2 h1.1 h1.2;have h3 := zee y.2.1;exact ⟨(zp9 m o y hy).1, h1, by omega⟩
  refine ⟨⟨?_, fun y hy => ?_⟩, ?_, hl, fun y hy => ?_, fun y hy => ?_, K.boot, K.next⟩
  ·have h1 := K.few.1
   have h2 : (zx m o).1.toList.length ≤ 1 := by cases (zx m o).1 <;> simp
   rw [hO] at h1;simp only [List.length_append, List.length_cons] at h1 ⊢
   omega
  ·rcases hmem y hy with h | h
   ·exact K.few.2 y h
   ·have h1 := hsx y h
    have h2 := K.few.2 o ho;rw [h1.1];exact ⟨h2.1, by omega⟩
  ·have hp : OkP o.2.1 := zff (K.right o ho)
   rcases zip m o with e | e | e
   ·simp only [e, List.append_nil]; exact K.ok
   ·simp only [e]; exact K.ok.snoc hp
   ·simp only [e]; exact K.ok.snoc zec
  ·rcases hmem y hy with h | h
   ·exact K.right y h
   ·rw [(hsx y h).1]; exact K.right o ho
  ·rcases hmem y hy with h | h
   ·exact K.heard y h
   ·have h1 := hsx y h
    exact ⟨h1.2.1.1, h1.2.1.2, by omega⟩
 ·exact fun _ => K
end Go.Proofs.YtpcnlifmkhagkaaGreat
