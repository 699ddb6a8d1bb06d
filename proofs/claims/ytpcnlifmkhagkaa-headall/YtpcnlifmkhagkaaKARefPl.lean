import Derived.Test.YtpcnlifmkhagkaaKAJ35
import Derived.Test.YtpcnlifmkhagkaaKAJ42
set_option maxRecDepth 20000
set_option maxHeartbeats 20000000
namespace Go.Proofs.Ytpcnlifmkhagkaa
open Go.RowKit
open Go.Value renaming slice → G, int → E
open Go.IntKind renaming i64 → J
open _root_.Option renaming none → U
open Go.Obj renaming cells → T
open Go.RowKit renaming Hid → Q, Below → Z
open Go.World renaming setCell → r
open _root_.Or renaming inr → kaa, inl → kab
attribute [local go_sem ↓] Go.wp_at_zero Go.wp_at_succ
def zag (n : Nat) (l : List R3) : WW × List Int := l.foldl (fun x s => ((zl x.1 s).1, x.2 ++ [(zl x.1 s).2])) (zaz n, [])
def playE (n : Nat) (l : List R3) : List Int := (zag n (l.take 150)).2
theorem zmm (n : Nat) (l : List R3) : (zag n l).1 = l.foldl (fun W s => (zl W s).1) (zaz n) := by
 unfold zag
 suffices h : ∀ (l : List R3) (x : WW × List Int), (l.foldl (fun x s => ((zl x.1 s).1, x.2 ++ [(zl x.1 s).2])) x).1 = l.foldl (fun W s => (zl W s).1) x.1 from h l _
 intro l
 induction l with
 | nil => intro x; rfl
 | cons s t ih => intro x; exact ih _
theorem zla (n : Nat) (l : List R3) : (zag n (l.take 150)).1 = zav n l := zmm n _
theorem playS_len (n : Nat) (l : List R3) : (zag n l).2.length = l.length := by
 unfold zag
 suffices h : ∀ (l : List R3) (x : WW × List Int), (l.foldl (fun x s => ((zl x.1 s).1, x.2 ++ [(zl x.1 s).2])) x).2.length = x.2.length + l.length by
  have := h l (zaz n, [])
  simpa using this
 intro l
 induction l with
 | nil => intro x; simp
 | cons s t ih => intro x; rw [List.foldl_cons, ih, List.length_append, List.length_cons]; simp; omega
theorem zpn (n : Nat) {l : List R3} {k : Nat} (h : k < l.length) : zag n (l.take (k + 1)) = ((zl (zag n (l.take k)).1 l[k]).1, (zag n (l.take k)).2 ++ [(zl (zag n (l.take k)).1 l[k]).2]) := by
 unfold zag
 rw [zax h, List.foldl_append];rfl
theorem playS_ok {n : Nat} (hn : n ≤ 3) (l : List R3) (hl : l.length ≤ 150) : (∃ P, Inv n P (zag n l).1) ∧ zb0 100000 (zag n l).1 := by
 have e : (zag n l).1 = zav n l := by rw [zmm]; unfold zav; rw [List.take_of_length_le hl]
 rw [e];exact ⟨inv_play hn l, (zmc n l).mono (by decide)⟩
theorem infoErrno : (Try.prog.info? 32).map (fun i => (i.zero, i.size, i.bytes)) = some (some (E J 0), 1, 8) := by kernel_rfl
def RP (R : Nat → Prop) (w0 : World) (N6 : Nat) (ev : Value) : Nat → Prop := fun b => R b ∨ b = w0.heap.size ∨ b = N6 ∨ ev.ownBlock = some b
structure zcq (R : Nat → Prop) (w0 : World) (N6 : Nat) (w : World) (la : Option Addr) (nl lc : Nat) (oa : Option Addr) (no oc : Nat) (ha : Option Addr) (nh hc : Nat) (na : Option Addr) (nn nc : Nat) (W : WW) (ev : Value) (es : List Int) : Prop where
 ne : w0.heap.size < N6
 rb : Blk w w0.heap.size #[G U 0 0, E J 0, E J 0, G U 0 0, G U 0 0, G U 0 0] 59
 wb : Blk w N6 #[G la nl lc, E J W.hd.boot, E J W.hd.next, G oa no oc, G ha nh hc, G na nn nc] 59
 wv : zaf (RP R w0 N6 ev) w (.agg #[G la nl lc, E J W.hd.boot, E J W.hd.next, G oa no oc, G ha nh hc, G na nn nc]) W
 es : zd 32 1 zv w (N6 + 1) ev es
 bel : Z w0.heap.size w0 w
section
variable {R : Nat → Prop} {w0 w w' : World} {N6 : Nat} {la : Option Addr} {nl lc : Nat} {oa : Option Addr} {no oc : Nat} {ha : Option Addr} {nh hc : Nat} {na : Option Addr} {nn nc : Nat} {W : WW} {ev : Value} {es : List Int}
theorem zcq.below (H : zcq R w0 N6 w la nl lc oa no oc ha nh hc na nn nc W ev es) (hb : Z w.heap.size w w') : zcq R w0 N6 w' la nl lc oa no oc ha nh hc na nn nc W ev es :=
 ⟨H.ne, H.rb.below hb H.rb.lt, H.wb.below hb H.wb.lt, H.wv.below hb, H.es.below hb (Nat.le_refl _), H.bel.trans (hb.mono H.bel.size)⟩
theorem zcq.ltR (H : zcq R w0 N6 w la nl lc oa no oc ha nh hc na nn nc W ev es) (hR : ∀ b, R b → b < w0.heap.size) : ∀ b, RP R w0 N6 ev b → b < w.heap.size := fun b hb => by
 have h1 := H.wb.lt;have h2 := H.ne;rcases hb with h | h | h | h
 ·have := hR b h; omega
 ·omega
 ·omega
 ·obtain ⟨_, cs, hB⟩ := H.es.blk h; exact hB.lt
theorem zcq.ret {ea : Option Addr} {en ec : Nat} (H : zcq R w0 N6 w la nl lc oa no oc ha nh hc na nn nc W (G ea en ec) es) :
  zaf R (r (r (r (r (r (r w ⟨w0.heap.size, 0, U⟩ (G la nl lc)) ⟨w0.heap.size, 1, U⟩ (E J W.hd.boot)) ⟨w0.heap.size, 2, U⟩ (E J W.hd.next)) ⟨w0.heap.size, 3, U⟩ (G oa no oc)) ⟨w0.heap.size, 4, U⟩ (G ha nh hc)) ⟨w0.heap.size, 5, U⟩ (G na nn nc)) (.agg #[G la nl lc, E J W.hd.boot, E J W.hd.next, G oa no oc, G ha nh hc, G na nn nc]) W ∧
  Z w0.heap.size w0 (r (r (r (r (r (r w ⟨w0.heap.size, 0, U⟩ (G la nl lc)) ⟨w0.heap.size, 1, U⟩ (E J W.hd.boot)) ⟨w0.heap.size, 2, U⟩ (E J W.hd.next)) ⟨w0.heap.size, 3, U⟩ (G oa no oc)) ⟨w0.heap.size, 4, U⟩ (G ha nh hc)) ⟨w0.heap.size, 5, U⟩ (G na nn nc)) ∧
  Blk (r (r (r (r (r (r w ⟨w0.heap.size, 0, U⟩ (G la nl lc)) ⟨w0.heap.size, 1, U⟩ (E J W.hd.boot)) ⟨w0.heap.size, 2, U⟩ (E J W.hd.next)) ⟨w0.heap.size, 3, U⟩ (G oa no oc)) ⟨w0.heap.size, 4, U⟩ (G ha nh hc)) ⟨w0.heap.size, 5, U⟩ (G na nn nc)) w0.heap.size #[G la nl lc, E J W.hd.boot, E J W.hd.next, G oa no oc, G ha nh hc, G na nn nc] 59 ∧
  zd 32 1 zv (r (r (r (r (r (r w ⟨w0.heap.size, 0, U⟩ (G la nl lc)) ⟨w0.heap.size, 1, U⟩ (E J W.hd.boot)) ⟨w0.heap.size, 2, U⟩ (E J W.hd.next)) ⟨w0.heap.size, 3, U⟩ (G oa no oc)) ⟨w0.heap.size, 4, U⟩ (G ha nh hc)) ⟨w0.heap.size, 5, U⟩ (G na nn nc)) w0.heap.size (G ea en ec) es := by
 obtain ⟨h1, hk⟩ := zhj H.rb (G la nl lc) (E J W.hd.boot) (E J W.hd.next) (G oa no oc) (G ha nh hc) (G na nn nc);have hk' : zg (RP R w0 N6 (G ea en ec)) w _ := hk.mono (fun b _ hb => kaa (kab hb));refine ⟨(H.wv.keep hk').wide (fun b hb => kab (kab hb)), H.bel.trans (hk.below H.bel.size (fun b hb => by subst hb; exact Nat.le_refl _)), h1, ?_⟩;have z := H.rb;exact ((((((H.es.mono (by have := H.ne; omega)).setOther (a := ⟨w0.heap.size, 0, U⟩) z (by decide) _).setOther (a := ⟨w0.heap.size, 1, U⟩) (z.set 0 _) (by decide) _).setOther (a := ⟨w0.heap.size, 2, U⟩) ((z.set 0 _).set 1 _) (by decide) _).setOther (a := ⟨w0.heap.size, 3, U⟩) (((z.set 0 _).set 1 _).set 2 _) (by decide) _).setOther (a := ⟨w0.heap.size, 4, U⟩) ((((z.set 0 _).set 1 _).set 2 _).set 3 _) (by decide) _).setOther (a := ⟨w0.heap.size, 5, U⟩) (((((z.set 0 _).set 1 _).set 2 _).set 3 _).set 4 _) (by decide) _
theorem zcq.put (H : zcq R w0 N6 w la nl lc oa no oc ha nh hc na nn nc W ev es) {la2 : Option Addr} {nl2 lc2 : Nat} {oa2 : Option Addr} {no2 oc2 : Nat} {ha2 : Option Addr} {nh2 hc2 : Nat} {na2 : Option Addr} {nn2 nc2 : Nat} {W2 : WW} (hv : zaf (RP R w0 N6 ev) w (.agg #[G la2 nl2 lc2, E J W2.hd.boot, E J W2.hd.next, G oa2 no2 oc2, G ha2 nh2 hc2, G na2 nn2 nc2]) W2) :
  zcq R w0 N6 (r (r (r (r (r (r w ⟨N6, 0, U⟩ (G la2 nl2 lc2)) ⟨N6, 1, U⟩ (E J W2.hd.boot)) ⟨N6, 2, U⟩ (E J W2.hd.next)) ⟨N6, 3, U⟩ (G oa2 no2 oc2)) ⟨N6, 4, U⟩ (G ha2 nh2 hc2)) ⟨N6, 5, U⟩ (G na2 nn2 nc2)) la2 nl2 lc2 oa2 no2 oc2 ha2 nh2 hc2 na2 nn2 nc2 W2 ev es := by
 obtain ⟨h1, hk⟩ := zhj H.wb (G la2 nl2 lc2) (E J W2.hd.boot) (E J W2.hd.next) (G oa2 no2 oc2) (G ha2 nh2 hc2) (G na2 nn2 nc2);have hk' : zg (RP R w0 N6 ev) w _ := hk.mono (fun b _ hb => kaa (kaa (kab hb)));have hne := H.ne;have z := H.wb;refine ⟨hne, H.rb.keep hk (by omega), h1, hv.keep hk', ?_, H.bel.trans (hk.below H.bel.size (fun b hb => by subst hb; omega))⟩;exact (((((H.es.setOther (a := ⟨N6, 0, U⟩) z (by decide) _).setOther (a := ⟨N6, 1, U⟩) (z.set 0 _) (by decide) _).setOther (a := ⟨N6, 2, U⟩) ((z.set 0 _).set 1 _) (by decide) _).setOther (a := ⟨N6, 3, U⟩) (((z.set 0 _).set 1 _).set 2 _) (by decide) _).setOther (a := ⟨N6, 4, U⟩) ((((z.set 0 _).set 1 _).set 2 _).set 3 _) (by decide) _).setOther (a := ⟨N6, 5, U⟩) (((((z.set 0 _).set 1 _).set 2 _).set 3 _).set 4 _) (by decide) _
theorem zcq.newR (H : zcq R w0 N6 w la nl lc oa no oc ha nh hc na nn nc W ev es) : ∀ b, RP R w0 N6 ev b → R b ∨ w0.heap.size ≤ b := fun b hb => by
 have h2 := H.ne;rcases hb with h | h | h | h
 ·exact kab h
 ·exact kaa (by omega)
 ·exact kaa (by omega)
 ·exact kaa (by have := H.es.base _ h; omega)
theorem zcq.grown (H : zcq R w0 N6 w la nl lc oa no oc ha nh hc na nn nc W ev es) {ev' : Value} {es' : List Int} (ho : zd 32 1 zv w' (N6 + 1) ev' es') (hg : w.grownBy w' ev.ownBlock) (hat : ev'.ownBlock = ev.ownBlock ∨ ev'.ownBlock = some w.heap.size) : zcq R w0 N6 w' la nl lc oa no oc ha nh hc na nn nc W ev' es' := by
 have hne : ∀ b, b ≤ N6 → ev.ownBlock ≠ some b := fun b hb e => by have := H.es.base _ e; omega
 have h0 := H.ne
 have hv : zaf (fun b => RP R w0 N6 ev b ∨ RP R w0 N6 ev' b) w (.agg #[G la nl lc, E J W.hd.boot, E J W.hd.next, G oa no oc, G ha nh hc, G na nn nc]) W := H.wv.wide (fun b hb => by
  rcases hb with h | h | h | h | h
  ·exact kab h
  ·exact kab (kab h)
  ·exact kab (kaa (kab h))
  ·exact kab (kaa (kaa (kab h)))
  ·rcases hat with e | e
   ·exact kab (kaa (kaa (kaa (by rw [← e]; exact h))))
   ·rw [e] at h; cases h; exact kaa (Nat.le_refl _))
 have hK : zg (fun b => RP R w0 N6 ev b ∨ RP R w0 N6 ev' b) w w' := zg.ofGrown hg (fun k hk => kab (kaa (kaa (kaa hk))));exact ⟨h0, H.rb.keptNe hg (hne _ (by omega)), H.wb.keptNe hg (hne _ (Nat.le_refl _)), (hv.keep hK).wide (fun b hb => kab (kaa hb)), ho, H.bel.grown hg H.bel.size (fun k hk => by have := H.es.base _ hk; omega)⟩
end
theorem znk (R : Nat → Prop) (n : Nat) (h1 : 1 ≤ n) (h3 : n ≤ 3) (a : Option Addr) (cap len : Nat) (S : List XL) (w : World) (hR : ∀ b, R b → b < w.heap.size) (jw : len = S.length) (hp : zcc w a S) (hq : ∀ x ∈ S, zae R w x.2.2.1.1 x.2.2.2) (hx : ∀ x ∈ S, x.2.2.2.length ≤ 9223372036854775807) (hl : S.length ≤ 9223372036854775807) :
  Calls Try.prog 16 #[E J (n : Nat), G a len cap] w fun e w' => ∃ v' ea en ec, e = .returned (.tuple #[v', G ea en ec]) ∧ zaf R w' v' (zav n (S.map zf)) ∧ zd 32 1 zv w' w.heap.size (G ea en ec) (playE n (S.map zf)) ∧ Z w.heap.size w w' := by
 have HG := zF hp hq hx hR h1 h3;have hll : len ≤ 9223372036854775807 := by omega
 have hb0 := zi w (T #[G U 0 0, E J 0, E J 0, G U 0 0, G U 0 0, G U 0 0] 59);have hr0 : Blk (w.alloc (T #[G U 0 0, E J 0, E J 0, G U 0 0, G U 0 0, G U 0 0] 59)) w.heap.size #[G U 0 0, E J 0, E J 0, G U 0 0, G U 0 0, G U 0 0] 59 := Blk.new _ _ _;have hs0 : (w.alloc (T #[G U 0 0, E J 0, E J 0, G U 0 0, G U 0 0, G U 0 0] 59)).heap.size = w.heap.size + 1 := by simp
 clear hp hq hx hR h1 h3 hl;go_enter Try.func16, Try.ntmps16
 go_upto_region 1 with fail
 generalize w.alloc (T #[G U 0 0, E J 0, E J 0, G U 0 0, G U 0 0, G U 0 0] 59) = V at *;have HV := zC hb0 hr0 hs0;clear hb0 hr0 hs0;go_wp2_with fail
 refine (zpr (fun b => R b ∨ b = w.heap.size) n HG.out.2.2.2.2.1 HG.out.2.2.2.2.2 V (fun b hb => hb.elim (fun h => by have h1 := HG.out.2.2.2.1 b h; have h2 := HV.out.2.2; omega) (fun h => by have h2 := HV.out.2.2; omega))).mono ?_;rintro e w1 ⟨v1, rfl, hv1, hb1⟩;obtain ⟨la, nl, lc, Y1, oa, no, oc, X1, ha, nh, hc, XH1, na, nn, nc, XN1, rfl, hcap1, hF1⟩ := hv1;have hsz1 : w.heap.size < w1.heap.size := by have h1 := hb1.size; have h2 := HV.out.2.2; omega
 have H1 : Q (zcq R w w1.heap.size (w1.alloc (T #[G la nl lc, E J (zaz n).hd.boot, E J (zaz n).hd.next, G oa no oc, G ha nh hc, G na nn nc] 59)) la nl lc oa no oc ha nh hc na nn nc (zaz n) (G U 0 0) []) := by
  have hbb := zi w1 (T #[G la nl lc, E J (zaz n).hd.boot, E J (zaz n).hd.next, G oa no oc, G ha nh hc, G na nn nc] 59);refine ⟨hsz1, (HV.out.2.1.below hb1 HV.out.2.1.lt).below hbb hsz1, Blk.new _ _ _, zaf.below (zaf.wide (⟨_, _, _, Y1, _, _, _, X1, _, _, _, XH1, _, _, _, XN1, rfl, hcap1, hF1⟩ : zaf (fun b => R b ∨ b = w.heap.size) w1 (.agg #[G la nl lc, E J (zaz n).hd.boot, E J (zaz n).hd.next, G oa no oc, G ha nh hc, G na nn nc]) (zaz n)) (fun b hb => ?_)) hbb, zd.nil _ _, (HV.out.1.trans (hb1.mono HV.out.1.size)).trans (hbb.mono (Nat.le_of_lt hsz1))⟩;rcases hb with h | h | h | h
  ·exact kab (kab h)
  ·exact kab (kaa h)
  ·exact kaa (by omega)
  ·cases h
 clear hF1 hcap1 hb1;go_upto_region 3 with fail
 obtain ⟨N6, hN6⟩ : ∃ N6, N6 = w1.heap.size := ⟨_, rfl⟩;rw [← hN6] at H1;generalize w1.alloc (T #[G la nl lc, E J (zaz n).hd.boot, E J (zaz n).hd.next, G oa no oc, G ha nh hc, G na nn nc] 59) = V1 at *;rw [← hN6];clear hN6 hsz1;go_wp2;go_loopw [8, 20] (fun ev i w' => ∃ (k : Nat) (la : Option Addr) (nl lc : Nat) (oa : Option Addr) (no oc : Nat) (ha : Option Addr) (nh hc : Nat) (na : Option Addr) (nn nc : Nat), k ≤ len ∧ k ≤ 150 ∧ i = E J k ∧ Q (zcq R w N6 w' la nl lc oa no oc ha nh hc na nn nc (zag n ((S.map zf).take k)).1 ev (zag n ((S.map zf).take k)).2)) (fun _ i _ => len - (intOf i).toNat)
 case atStart => exact ⟨0, la, nl, lc, oa, no, oc, ha, nh, hc, na, nn, nc, Nat.zero_le _, Nat.zero_le _, rfl, H1.out⟩
 case round =>
  obtain ⟨k, la, nl, lc, oa, no, oc, ha, nh, hc, na, nn, nc, hk, hk2, rfl, hH⟩ := hrel;obtain ⟨ea, en, ec, rfl⟩ := hH.out.es.slice zai;by_cases hlt : k < len
  ·skip
   have hkS : k < S.length := by omega
   rcases (HG.out.1.1.below hH.out.bel) with h0 | ⟨g, o, rfl, hg, hc⟩
   ·rw [h0] at hkS; simp at hkS
   have d0 := hc k hkS 0 _ rfl;have d1 := hc k hkS 1 _ rfl;have d2 := hc k hkS 2 _ rfl;have hpq := HG.out.2.1 _ (List.getElem_mem hkS);have hpl := HG.out.2.2.1 _ (List.getElem_mem hkS)
   have HT : Q (zag n ((S.map zf).take (k + 1)) = ((zl (zag n ((S.map zf).take k)).1 (zf S[k])).1, (zag n ((S.map zf).take k)).2 ++ [(zl (zag n ((S.map zf).take k)).1 (zf S[k])).2])) := by
    have h := zpn n (l := S.map zf) (k := k) (by rw [List.length_map]; exact hkS);rw [List.getElem_map] at h;exact h
   clear hc;generalize S[k] = x at *;obtain ⟨s0, s1, ⟨sa, sc⟩, sl⟩ := x;simp only [zf, Nat.add_zero] at d0 d1 d2 hpq hpl HT
   obtain ⟨sn, hsn⟩ : ∃ sn, Q (sn = sl.length) := ⟨_, rfl⟩;rw [← hsn.out] at d2;have HX := zB hpq hpl;clear hpq hpl;by_cases h150 : k = 150
   ·have hb : ((k : Int) == 150) = true := by rw [beq_iff_eq]; omega
    have HP : Q ((zag n ((S.map zf).take k)).1 = zav n (S.map zf) ∧ (zag n ((S.map zf).take k)).2 = playE n (S.map zf)) := by show _ ∧ _; subst h150; exact ⟨zla _ _, rfl⟩
    clear h150 HX HT;have H1 : Q (zcq R w N6 (wr.alloc (T #[E J s0, E J s1, G sa sn sc] 86)) la nl lc oa no oc ha nh hc na nn nc (zag n ((S.map zf).take k)).1 (G ea en ec) (zag n ((S.map zf).take k)).2) := hH.out.below (zi wr _);go_upto_region 11 with fail
    clear hH d0 d1 d2 hg;generalize wr.alloc (T #[E J s0, E J s1, G sa sn sc] 86) = A at *;obtain ⟨x0, x1, x2, x3, x4, x5⟩ := (H1.out).wb.cells6;obtain ⟨r0, r1, r2, r3, r4, r5⟩ := (H1.out).rb.cells6;obtain ⟨q0, q1, q2, q3, q4, q5⟩ := (H1.out).rb.free6;have l0 := (H1.out).wb.lt;have l2 := (H1.out).rb.lt;obtain ⟨p1, p2, p3, p4⟩ := (H1.out).ret;obtain ⟨e0, e1, e2, e3, e4, e5⟩ := p3.cells6;have HF : Q (zaf R (r (r (r (r (r (r A ⟨w.heap.size, 0, U⟩ (G la nl lc)) ⟨w.heap.size, 1, U⟩ (E J (zag n ((S.map zf).take k)).1.hd.boot)) ⟨w.heap.size, 2, U⟩ (E J (zag n ((S.map zf).take k)).1.hd.next)) ⟨w.heap.size, 3, U⟩ (G oa no oc)) ⟨w.heap.size, 4, U⟩ (G ha nh hc)) ⟨w.heap.size, 5, U⟩ (G na nn nc)) (.agg #[G la nl lc, E J (zag n ((S.map zf).take k)).1.hd.boot, E J (zag n ((S.map zf).take k)).1.hd.next, G oa no oc, G ha nh hc, G na nn nc]) (zav n (S.map zf)) ∧ zd 32 1 zv (r (r (r (r (r (r A ⟨w.heap.size, 0, U⟩ (G la nl lc)) ⟨w.heap.size, 1, U⟩ (E J (zag n ((S.map zf).take k)).1.hd.boot)) ⟨w.heap.size, 2, U⟩ (E J (zag n ((S.map zf).take k)).1.hd.next)) ⟨w.heap.size, 3, U⟩ (G oa no oc)) ⟨w.heap.size, 4, U⟩ (G ha nh hc)) ⟨w.heap.size, 5, U⟩ (G na nn nc)) w.heap.size (G ea en ec) (playE n (S.map zf)) ∧ Z w.heap.size w (r (r (r (r (r (r A ⟨w.heap.size, 0, U⟩ (G la nl lc)) ⟨w.heap.size, 1, U⟩ (E J (zag n ((S.map zf).take k)).1.hd.boot)) ⟨w.heap.size, 2, U⟩ (E J (zag n ((S.map zf).take k)).1.hd.next)) ⟨w.heap.size, 3, U⟩ (G oa no oc)) ⟨w.heap.size, 4, U⟩ (G ha nh hc)) ⟨w.heap.size, 5, U⟩ (G na nn nc))) := by rw [← HP.out.1, ← HP.out.2]; exact ⟨p1, p4, p2⟩
    clear p1 p2 p3 p4;go_wp2_with fail
    clear x0 x1 x2 x3 x4 x5 r0 r1 r2 r3 r4 r5 q0 q1 q2 q3 q4 q5;generalize (r (r (r (r (r (r A ⟨w.heap.size, 0, U⟩ (G la nl lc)) ⟨w.heap.size, 1, U⟩ (E J (zag n ((S.map zf).take k)).1.hd.boot)) ⟨w.heap.size, 2, U⟩ (E J (zag n ((S.map zf).take k)).1.hd.next)) ⟨w.heap.size, 3, U⟩ (G oa no oc)) ⟨w.heap.size, 4, U⟩ (G ha nh hc)) ⟨w.heap.size, 5, U⟩ (G na nn nc)) = Z9 at *;refine bodyPost_ret (v := .tuple #[.agg #[G la nl lc, E J (zag n ((S.map zf).take k)).1.hd.boot, E J (zag n ((S.map zf).take k)).1.hd.next, G oa no oc, G ha nh hc, G na nn nc], G ea en ec]) ?_ rfl ⟨_, _, _, _, rfl, HF.out.1, HF.out.2.1, HF.out.2.2⟩;simp [results, Try.results16, go_sem, e0, e1, e2, e3, e4, e5]
   ·have hb : ((k : Int) == 150) = false := by rw [beq_eq_false_iff_ne]; omega
    go_upto_region 6 with fail
    have H1 : Q (zcq R w N6 (wr.alloc (T #[E J s0, E J s1, G sa sn sc] 86)) la nl lc oa no oc ha nh hc na nn nc (zag n ((S.map zf).take k)).1 (G ea en ec) (zag n ((S.map zf).take k)).2 ∧ Blk (wr.alloc (T #[E J s0, E J s1, G sa sn sc] 86)) wr.heap.size #[E J s0, E J s1, G sa sn sc] 86) := ⟨hH.out.below (zi wr _), Blk.new _ _ _⟩;clear hH d0 d1 d2 hg;generalize wr.alloc (T #[E J s0, E J s1, G sa sn sc] 86) = A at *;obtain ⟨x0, x1, x2, x3, x4, x5⟩ := H1.out.1.wb.cells6;obtain ⟨y0, y1, y2⟩ := H1.out.2.cells3;have l0 := H1.out.1.wb.lt;have l1 := H1.out.2.lt;have hok := playS_ok HG.out.2.2.2.2.2 ((S.map zf).take k) (by rw [List.length_take]; omega);obtain ⟨P, hP⟩ := hok.1;have HI := zB hP hok.2;clear hok hP;go_wp2_with fail
    refine (zo6 (RP R w N6 (G ea en ec)) _ (zag n ((S.map zf).take k)).1 n P s0 s1 sa sn sc sl A (H1.out.1.ltR HG.out.2.2.2.1) H1.out.1.wv HI.out.1 HI.out.2 hsn.out ((HX.out.1.wide (H1.out.1.newR)).below H1.out.1.bel) HX.out.2).mono ?_;rintro e w2 ⟨v2, rfl, hv2, hb2⟩;obtain ⟨la2, nl2, lc2, Y2, oa2, no2, oc2, X2, ha2, nh2, hc2, XH2, na2, nn2, nc2, XN2, rfl, hcap2, hF2⟩ := hv2;have H2 : Q (zcq R w N6 (w2.alloc (T #[G la2 nl2 lc2, E J ((zl (zag n ((S.map zf).take k)).1 (s0, s1, sl)).1).hd.boot, E J ((zl (zag n ((S.map zf).take k)).1 (s0, s1, sl)).1).hd.next, G oa2 no2 oc2, G ha2 nh2 hc2, G na2 nn2 nc2] 59)) la nl lc oa no oc ha nh hc na nn nc (zag n ((S.map zf).take k)).1 (G ea en ec) (zag n ((S.map zf).take k)).2 ∧ Blk (w2.alloc (T #[G la2 nl2 lc2, E J ((zl (zag n ((S.map zf).take k)).1 (s0, s1, sl)).1).hd.boot, E J ((zl (zag n ((S.map zf).take k)).1 (s0, s1, sl)).1).hd.next, G oa2 no2 oc2, G ha2 nh2 hc2, G na2 nn2 nc2] 59)) w2.heap.size #[G la2 nl2 lc2, E J ((zl (zag n ((S.map zf).take k)).1 (s0, s1, sl)).1).hd.boot, E J ((zl (zag n ((S.map zf).take k)).1 (s0, s1, sl)).1).hd.next, G oa2 no2 oc2, G ha2 nh2 hc2, G na2 nn2 nc2] 59 ∧ zaf (RP R w N6 (G ea en ec)) (w2.alloc (T #[G la2 nl2 lc2, E J ((zl (zag n ((S.map zf).take k)).1 (s0, s1, sl)).1).hd.boot, E J ((zl (zag n ((S.map zf).take k)).1 (s0, s1, sl)).1).hd.next, G oa2 no2 oc2, G ha2 nh2 hc2, G na2 nn2 nc2] 59)) (.agg #[G la2 nl2 lc2, E J ((zl (zag n ((S.map zf).take k)).1 (s0, s1, sl)).1).hd.boot, E J ((zl (zag n ((S.map zf).take k)).1 (s0, s1, sl)).1).hd.next, G oa2 no2 oc2, G ha2 nh2 hc2, G na2 nn2 nc2]) ((zl (zag n ((S.map zf).take k)).1 (s0, s1, sl)).1)) := ⟨(H1.out.1.below hb2).below (zi w2 _), Blk.new _ _ _, zaf.below ⟨_, _, _, Y2, _, _, _, X2, _, _, _, XH2, _, _, _, XN2, rfl, hcap2, hF2⟩ (zi w2 _)⟩
    clear hb2 hF2 hcap2 x0 x1 x2 x3 x4 x5 y0 y1 y2 l0 l1 H1;go_upto_region 8 with fail
    generalize w2.alloc (T #[G la2 nl2 lc2, E J ((zl (zag n ((S.map zf).take k)).1 (s0, s1, sl)).1).hd.boot, E J ((zl (zag n ((S.map zf).take k)).1 (s0, s1, sl)).1).hd.next, G oa2 no2 oc2, G ha2 nh2 hc2, G na2 nn2 nc2] 59) = B at *;obtain ⟨x0, x1, x2, x3, x4, x5⟩ := H2.out.2.1.cells6;obtain ⟨r0, r1, r2, r3, r4, r5⟩ := H2.out.1.wb.cells6;obtain ⟨q0, q1, q2, q3, q4, q5⟩ := H2.out.1.wb.free6;have l0 := H2.out.2.1.lt;have l1 := H2.out.1.wb.lt;have H3 := zA (H2.out.1.put H2.out.2.2);go_upto_region 9 with fail
    clear x0 x1 x2 x3 x4 x5 r0 r1 r2 r3 r4 r5 q0 q1 q2 q3 q4 q5 l0 l1 H2;generalize ((((((B.setCell ⟨N6, 0, U⟩ (G la2 nl2 lc2)).setCell ⟨N6, 1, U⟩ (E J ((zl (zag n ((S.map zf).take k)).1 (s0, s1, sl)).1).hd.boot)).setCell ⟨N6, 2, U⟩ (E J ((zl (zag n ((S.map zf).take k)).1 (s0, s1, sl)).1).hd.next)).setCell ⟨N6, 3, U⟩ (G oa2 no2 oc2)).setCell ⟨N6, 4, U⟩ (G ha2 nh2 hc2)).setCell ⟨N6, 5, U⟩ (G na2 nn2 nc2)) = w4 at *;have hel : (zag n ((S.map zf).take k)).2.length = k := by rw [playS_len, List.length_take, List.length_map]; omega
    have H4 : Q (zcq R w N6 (w4.alloc (T #[E J ((zl (zag n ((S.map zf).take k)).1 (s0, s1, sl)).2)] 32)) la2 nl2 lc2 oa2 no2 oc2 ha2 nh2 hc2 na2 nn2 nc2 ((zl (zag n ((S.map zf).take k)).1 (s0, s1, sl)).1) (G ea en ec) (zag n ((S.map zf).take k)).2) := H3.out.below (zi w4 _);go_wp2_with (at_builtin; refine zbj zai zcx Try.underlying60 infoErrno rfl (by decide) _ rfl _ _ rfl (N6 + 1) (G ea en ec) (zag n ((S.map zf).take k)).2 rfl H4.out.es (some ⟨w4.heap.size, 0, U⟩) 1 1 [(zl (zag n ((S.map zf).take k)).1 (s0, s1, sl)).2] rfl rfl (zk.one (Blk.new w4 _ _) rfl) (by unfold maxLen; simp; omega) (by simp; omega) (by have := H4.out.wb.lt; omega) ?_; intro a6 n6 c6 w6 j8 hn6 jk hat6; have HF : Q _ := H4.out.grown j8 jk hat6; clear j8 hn6 jk hat6)
    go_wp2;go_roundw
    case rel => exact ⟨k + 1, la2, nl2, lc2, oa2, no2, oc2, ha2, nh2, hc2, na2, nn2, nc2, by omega, by omega, by go_num, by rw [HT.out]; exact HF.out⟩
    case measure => simp [intOf]; omega
  ·have HP : Q ((zag n ((S.map zf).take k)).1 = zav n (S.map zf) ∧ (zag n ((S.map zf).take k)).2 = playE n (S.map zf)) := by
    show _ ∧ _
    have e1 : (S.map zf).take k = (S.map zf).take 150 := by rw [List.take_of_length_le (by rw [List.length_map]; omega), List.take_of_length_le (by rw [List.length_map]; omega)]
    rw [e1];exact ⟨zla _ _, rfl⟩
   go_upto_region 11 with fail
   obtain ⟨x0, x1, x2, x3, x4, x5⟩ := (hH.out).wb.cells6;obtain ⟨r0, r1, r2, r3, r4, r5⟩ := (hH.out).rb.cells6;obtain ⟨q0, q1, q2, q3, q4, q5⟩ := (hH.out).rb.free6;have l0 := (hH.out).wb.lt;have l2 := (hH.out).rb.lt;obtain ⟨p1, p2, p3, p4⟩ := (hH.out).ret;obtain ⟨e0, e1, e2, e3, e4, e5⟩ := p3.cells6;have HF : Q (zaf R (r (r (r (r (r (r wr ⟨w.heap.size, 0, U⟩ (G la nl lc)) ⟨w.heap.size, 1, U⟩ (E J (zag n ((S.map zf).take k)).1.hd.boot)) ⟨w.heap.size, 2, U⟩ (E J (zag n ((S.map zf).take k)).1.hd.next)) ⟨w.heap.size, 3, U⟩ (G oa no oc)) ⟨w.heap.size, 4, U⟩ (G ha nh hc)) ⟨w.heap.size, 5, U⟩ (G na nn nc)) (.agg #[G la nl lc, E J (zag n ((S.map zf).take k)).1.hd.boot, E J (zag n ((S.map zf).take k)).1.hd.next, G oa no oc, G ha nh hc, G na nn nc]) (zav n (S.map zf)) ∧ zd 32 1 zv (r (r (r (r (r (r wr ⟨w.heap.size, 0, U⟩ (G la nl lc)) ⟨w.heap.size, 1, U⟩ (E J (zag n ((S.map zf).take k)).1.hd.boot)) ⟨w.heap.size, 2, U⟩ (E J (zag n ((S.map zf).take k)).1.hd.next)) ⟨w.heap.size, 3, U⟩ (G oa no oc)) ⟨w.heap.size, 4, U⟩ (G ha nh hc)) ⟨w.heap.size, 5, U⟩ (G na nn nc)) w.heap.size (G ea en ec) (playE n (S.map zf)) ∧ Z w.heap.size w (r (r (r (r (r (r wr ⟨w.heap.size, 0, U⟩ (G la nl lc)) ⟨w.heap.size, 1, U⟩ (E J (zag n ((S.map zf).take k)).1.hd.boot)) ⟨w.heap.size, 2, U⟩ (E J (zag n ((S.map zf).take k)).1.hd.next)) ⟨w.heap.size, 3, U⟩ (G oa no oc)) ⟨w.heap.size, 4, U⟩ (G ha nh hc)) ⟨w.heap.size, 5, U⟩ (G na nn nc))) := by rw [← HP.out.1, ← HP.out.2]; exact ⟨p1, p4, p2⟩
   clear p1 p2 p3 p4;go_wp2_with fail
   clear x0 x1 x2 x3 x4 x5 r0 r1 r2 r3 r4 r5 q0 q1 q2 q3 q4 q5;generalize (r (r (r (r (r (r wr ⟨w.heap.size, 0, U⟩ (G la nl lc)) ⟨w.heap.size, 1, U⟩ (E J (zag n ((S.map zf).take k)).1.hd.boot)) ⟨w.heap.size, 2, U⟩ (E J (zag n ((S.map zf).take k)).1.hd.next)) ⟨w.heap.size, 3, U⟩ (G oa no oc)) ⟨w.heap.size, 4, U⟩ (G ha nh hc)) ⟨w.heap.size, 5, U⟩ (G na nn nc)) = Z9 at *;refine bodyPost_ret (v := .tuple #[.agg #[G la nl lc, E J (zag n ((S.map zf).take k)).1.hd.boot, E J (zag n ((S.map zf).take k)).1.hd.next, G oa no oc, G ha nh hc, G na nn nc], G ea en ec]) ?_ rfl ⟨_, _, _, _, rfl, HF.out.1, HF.out.2.1, HF.out.2.2⟩;simp [results, Try.results16, go_sem, e0, e1, e2, e3, e4, e5]
end Go.Proofs.Ytpcnlifmkhagkaa
