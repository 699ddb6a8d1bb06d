import Derived.Test.YtpcnlifmkhagkaaGreatKTRefRd
import Derived.Test.YtpcnlifmkhagkaaGreatKTJ20
set_option maxRecDepth 20000
set_option maxHeartbeats 20000000
namespace Go.Proofs.YtpcnlifmkhagkaaGreat
open Go.RowKit
open Go.Value renaming slice → G, int → E
open Go.IntKind renaming i64 → J
open _root_.Option renaming none → U
open Go.Obj renaming cells → T
open Go.RowKit renaming Hid → Q, Below → Z
open Go.World renaming setCell → r
open _root_.Nat renaming le_succ_of_le → kaa
attribute [local go_sem ↓] Go.wp_at_zero Go.wp_at_succ
def zbz (B : Nat) (W : WW) : Prop := W.hd.log.length ≤ B ∧ ∀ L ∈ W.hs, L.length ≤ B
theorem at_len {B : Nat} {W : WW} (H : zbz B W) (k : Int) : (W.at k).length ≤ B := by
 unfold WW.at
 rw [List.getD_eq_getElem?_getD]
 cases h : W.hs[k.toNat]? with
 | none => simp
 | some L => exact H.2 L (List.mem_of_getElem? h)
theorem len_hear (g : Gh) (m : Q4) : (zc g m).1.log.length ≤ g.log.length + 1 := by
 unfold zc
 split
 ·rename_i x hx
  obtain ⟨A, o, B, _, _, rfl⟩ := zfe hx;rcases zgl m o with h | h | h <;> simp [h]
 ·simp
theorem len_come {B : Nat} {W : WW} (H : zbz B W) (m : Q4) : zbz (B + 1) (zd5 W m) := by
 unfold zd5
 split
 ·split
  ·refine ⟨kaa H.1, fun L hL => ?_⟩
   rcases List.mem_or_eq_of_mem_set hL with h | h
   ·exact kaa (H.2 L h)
   ·rw [h]
    have h1 := hearL_len (W.at m.2.2.1) m.1 m.2.1 m.2.2.2;have h2 := at_len H m.2.2.1;omega
  ·refine ⟨?_, fun L hL => kaa (H.2 L hL)⟩
   have h1 := len_hear W.hd m;have h2 := H.1;show (zc W.hd m).1.log.length ≤ B + 1
   omega
 ·exact ⟨kaa H.1, fun L hL => kaa (H.2 L hL)⟩
theorem zlb {B : Nat} {W : WW} (H : zbz B W) (s : Int × Int × List P3) : zbz (B + 1) (zl W s).1 := by
 have H' : zbz (B + 1) W := ⟨kaa H.1, fun L hL => kaa (H.2 L hL)⟩;unfold zl
 split
 ·split
  ·refine ⟨?_, H'.2⟩
   show (zj W.hd s.2.2).1.log.length ≤ B + 1
   unfold zj
   split
   ·exact H'.1
   ·exact H'.1
  ·exact H'
 ·split
  ·split
   ·split
    ·exact H'
    ·split
     ·exact ⟨H'.1, H'.2⟩
     ·split
      ·exact ⟨H'.1, H'.2⟩
      ·exact len_come (W := { W with net := W.net.eraseIdx s.2.1.toNat }) ⟨H.1, H.2⟩ _
   ·exact H'
  ·split
   ·split
    ·refine ⟨?_, H'.2⟩
     show (zq W.hd).1.log.length ≤ B + 1
     unfold zq
     split
     ·exact H'.1
     ·show (W.hd.log ++ [(4, 0, [])]).length ≤ B + 1
      rw [List.length_append];have := H.1;simp
      omega
    ·split
     ·exact H'
     ·exact H'
   ·split
    ·split
     ·exact ⟨H'.1, H'.2⟩
     ·split
      ·exact H'
      ·exact ⟨H'.1, H'.2⟩
    ·split
     ·exact ⟨H'.1, H'.2⟩
     ·exact H'
theorem zmb : ∀ (l : List (Int × Int × List P3)) {B : Nat} {W : WW}, zbz B W → zbz (B + l.length) (l.foldl (fun W s => (zl W s).1) W)
 | [], _, _, H => H
 | s :: t, B, W, H => by
  have := zmb t (zlb H s);rw [List.length_cons, Nat.add_comm t.length 1, ← Nat.add_assoc];exact this
theorem len_new (n : Nat) : zbz 1 (zay n) := by
 refine ⟨Nat.le_refl _, fun L hL => ?_⟩;rw [(List.mem_replicate.1 hL).2];exact Nat.zero_le _
theorem zbz.mono {B C : Nat} {W : WW} (H : zbz B W) (h : B ≤ C) : zbz C W := ⟨Nat.le_trans H.1 h, fun L hL => Nat.le_trans (H.2 L hL) h⟩
theorem zk9 (n : Nat) (l : List (Int × Int × List P3)) : zbz 151 (zat n l) :=
 (zmb (l.take 150) (len_new n)).mono (by rw [List.length_take]; omega)
def RD (R : Nat → Prop) (w0 : World) : Nat → Prop := fun b => R b ∨ (w0.heap.size ≤ b ∧ b < w0.heap.size + 3)
theorem RD.lt {R : Nat → Prop} {w0 : World} (hR : ∀ b, R b → b < w0.heap.size) {n : Nat} (hn : w0.heap.size + 3 ≤ n) : ∀ b, RD R w0 b → b < n := fun b hb => hb.elim (fun h => by have := hR b h; omega) (fun h => by omega)
theorem RD.sub {R : Nat → Prop} {w0 : World} : ∀ b, R b → RD R w0 b := fun _ h => Or.inl h
theorem RD.new {R : Nat → Prop} {w0 : World} : ∀ b, RD R w0 b → R b ∨ w0.heap.size ≤ b := fun _ h => h.elim Or.inl (fun x => Or.inr x.1)
theorem Blk.cells3 {w : World} {N : Nat} {zV : TypeId} {c0 c1 c2 : Value} (h : Blk w N #[c0, c1, c2] zV) : w.cell? ⟨N, 0, U⟩ = some c0 ∧ w.cell? ⟨N, 1, U⟩ = some c1 ∧ w.cell? ⟨N, 2, U⟩ = some c2 := ⟨h.cell 0, h.cell 1, h.cell 2⟩
structure DoS (R : Nat → Prop) (w0 : World) (s0 s1 s2 : Value) (w : World) (la : Option Addr) (nl lc : Nat) (oa : Option Addr) (no oc : Nat) (ha : Option Addr) (nh hc : Nat) (na : Option Addr) (nn nc : Nat) (W : WW) : Prop where
 wb : Blk w w0.heap.size #[G la nl lc, E J W.hd.boot, E J W.hd.next, G oa no oc, G ha nh hc, G na nn nc] 65
 sb : Blk w (w0.heap.size + 1) #[s0, s1, s2] 61
 rb : Blk w (w0.heap.size + 2) #[G U 0 0, E J 0, E J 0, G U 0 0, G U 0 0, G U 0 0] 65
 hv : zy (RD R w0) w (.agg #[G la nl lc, E J W.hd.boot, E J W.hd.next, G oa no oc]) W.hd
 hs : ∃ X, zd8 (RD R w0) w ha nh X W.hs
 net : ∃ X, zbp (RD R w0) w na nn X (W.net.map fun m => zas m)
 cap : nn ≤ nc
 bel : Z w0.heap.size w0 w
 sz : w0.heap.size + 3 ≤ w.heap.size
section
variable {R : Nat → Prop} {w0 w w' : World} {s0 s1 s2 : Value} {la : Option Addr} {nl lc : Nat} {oa : Option Addr} {no oc : Nat} {ha : Option Addr} {nh hc : Nat} {na : Option Addr} {nn nc : Nat} {W : WW}
theorem DoS.below (H : DoS R w0 s0 s1 s2 w la nl lc oa no oc ha nh hc na nn nc W) (hb : Z w.heap.size w w') : DoS R w0 s0 s1 s2 w' la nl lc oa no oc ha nh hc na nn nc W :=
 ⟨H.wb.below hb H.wb.lt, H.sb.below hb H.sb.lt, H.rb.below hb H.rb.lt, H.hv.below hb, H.hs.imp (fun _ h => h.below hb), H.net.imp (fun _ h => h.below hb), H.cap, H.bel.trans (hb.mono H.bel.size), Nat.le_trans H.sz hb.size⟩
theorem DoS.put (H : DoS R w0 s0 s1 s2 w la nl lc oa no oc ha nh hc na nn nc W) (hk : zf (fun b => b = w0.heap.size) w w') {la' : Option Addr} {nl' lc' : Nat} {oa' : Option Addr} {no' oc' : Nat} {ha' : Option Addr} {nh' hc' : Nat} {na' : Option Addr} {nn' nc' : Nat} {W' : WW}
  (hb : Blk w' w0.heap.size #[G la' nl' lc', E J W'.hd.boot, E J W'.hd.next, G oa' no' oc', G ha' nh' hc', G na' nn' nc'] 65)
  (hv : zy (RD R w0) w (.agg #[G la' nl' lc', E J W'.hd.boot, E J W'.hd.next, G oa' no' oc']) W'.hd) (hs : ∃ X, zd8 (RD R w0) w ha' nh' X W'.hs) (hn : ∃ X, zbp (RD R w0) w na' nn' X (W'.net.map fun m => zas m)) (hcap : nn' ≤ nc') :
  DoS R w0 s0 s1 s2 w' la' nl' lc' oa' no' oc' ha' nh' hc' na' nn' nc' W' := by
 have hk' : zf (RD R w0) w w' := hk.mono (fun b _ hb => by subst hb; exact Or.inr ⟨Nat.le_refl _, by omega⟩);exact ⟨hb, H.sb.keep hk (by omega), H.rb.keep hk (by omega), hv.keep hk', hs.imp (fun _ h => h.keep hk'), hn.imp (fun _ h => h.keep hk'), hcap, H.bel.trans (hk.below H.bel.size (fun b hb => by subst hb; exact Nat.le_refl _)), Nat.le_trans H.sz hk.size⟩
theorem DoS.start {Y : List XL} {X : List XO} {XH : List XH} {XN : List XN} (hF : zep R w0 la nl Y oa no X ha nh XH na nn XN W) (lc oc hc nc : Nat) (hcap : nn ≤ nc) (s0 s1 s2 : Value) :
  DoS R w0 s0 s1 s2 (((w0.alloc (T #[G la nl lc, E J W.hd.boot, E J W.hd.next, G oa no oc, G ha nh hc, G na nn nc] 65)).alloc (T #[s0, s1, s2] 61)).alloc (T #[G U 0 0, E J 0, E J 0, G U 0 0, G U 0 0, G U 0 0] 65)) la nl lc oa no oc ha nh hc na nn nc W := by
 have b3 := (zaw w0 (T #[G la nl lc, E J W.hd.boot, E J W.hd.next, G oa no oc, G ha nh hc, G na nn nc] 65) (T #[s0, s1, s2] 61)).alloc (by simp; omega) (T #[G U 0 0, E J 0, E J 0, G U 0 0, G U 0 0, G U 0 0] 65);have s2' : ((w0.alloc (T #[G la nl lc, E J W.hd.boot, E J W.hd.next, G oa no oc, G ha nh hc, G na nn nc] 65)).alloc (T #[s0, s1, s2] 61)).heap.size = w0.heap.size + 2 := by simp
 refine ⟨((Blk.new _ _ _).alloc _).alloc _, Blk.alloc (zao _ _ _) _, ?_, ⟨la, nl, lc, Y, oa, no, oc, X, rfl, (hF.hd.wide RD.new).below b3⟩, ⟨XH, (hF.hs.wide RD.new).below b3⟩, ⟨XN, (hF.net.wide RD.new).below b3⟩, hcap, b3, by simp⟩;rw [← s2'];exact Blk.new _ _ _
theorem DoS.headF (H : DoS R w0 s0 s1 s2 w la nl lc oa no oc ha nh hc na nn nc W) : ∃ Y X, zbh (RD R w0) w la nl Y oa no X W.hd.log W.hd.opn := by
 obtain ⟨la2, nl2, lc2, Y, oa2, no2, oc2, X, e, hF⟩ := H.hv;simp only [Value.agg.injEq, Array.mk.injEq, List.cons.injEq, Value.slice.injEq, and_true, true_and] at e
 obtain ⟨⟨rfl, rfl, rfl⟩, rfl, rfl, rfl⟩ := e;exact ⟨Y, X, hF⟩
theorem DoS.worV (H : DoS R w0 s0 s1 s2 w la nl lc oa no oc ha nh hc na nn nc W) : zac (RD R w0) w (.agg #[G la nl lc, E J W.hd.boot, E J W.hd.next, G oa no oc, G ha nh hc, G na nn nc]) W := by
 obtain ⟨Y, X, hF⟩ := H.headF;obtain ⟨XH, hH⟩ := H.hs;obtain ⟨XN, hN⟩ := H.net;exact ⟨la, nl, lc, Y, oa, no, oc, X, ha, nh, hc, XH, na, nn, nc, XN, rfl, H.cap, ⟨hF, hH, hN⟩⟩
theorem DoS.ret (H : DoS R w0 s0 s1 s2 w la nl lc oa no oc ha nh hc na nn nc W) :
  zac R (r (r (r (r (r (r w ⟨w0.heap.size + 2, 0, U⟩ (G la nl lc)) ⟨w0.heap.size + 2, 1, U⟩ (E J W.hd.boot)) ⟨w0.heap.size + 2, 2, U⟩ (E J W.hd.next)) ⟨w0.heap.size + 2, 3, U⟩ (G oa no oc)) ⟨w0.heap.size + 2, 4, U⟩ (G ha nh hc)) ⟨w0.heap.size + 2, 5, U⟩ (G na nn nc)) (.agg #[G la nl lc, E J W.hd.boot, E J W.hd.next, G oa no oc, G ha nh hc, G na nn nc]) W ∧
  Z w0.heap.size w0 (r (r (r (r (r (r w ⟨w0.heap.size + 2, 0, U⟩ (G la nl lc)) ⟨w0.heap.size + 2, 1, U⟩ (E J W.hd.boot)) ⟨w0.heap.size + 2, 2, U⟩ (E J W.hd.next)) ⟨w0.heap.size + 2, 3, U⟩ (G oa no oc)) ⟨w0.heap.size + 2, 4, U⟩ (G ha nh hc)) ⟨w0.heap.size + 2, 5, U⟩ (G na nn nc)) ∧
  Blk (r (r (r (r (r (r w ⟨w0.heap.size + 2, 0, U⟩ (G la nl lc)) ⟨w0.heap.size + 2, 1, U⟩ (E J W.hd.boot)) ⟨w0.heap.size + 2, 2, U⟩ (E J W.hd.next)) ⟨w0.heap.size + 2, 3, U⟩ (G oa no oc)) ⟨w0.heap.size + 2, 4, U⟩ (G ha nh hc)) ⟨w0.heap.size + 2, 5, U⟩ (G na nn nc)) (w0.heap.size + 2) #[G la nl lc, E J W.hd.boot, E J W.hd.next, G oa no oc, G ha nh hc, G na nn nc] 65 := by
 obtain ⟨h1, hk⟩ := zhd H.rb (G la nl lc) (E J W.hd.boot) (E J W.hd.next) (G oa no oc) (G ha nh hc) (G na nn nc);have hk' : zf (RD R w0) w _ := hk.mono (fun b _ hb => by subst hb; exact Or.inr ⟨by omega, by omega⟩);refine ⟨?_, H.bel.trans (hk.below H.bel.size (fun b hb => by subst hb; omega)), h1⟩;obtain ⟨la2, nl2, lc2, Y, oa2, no2, oc2, X, e, hF⟩ := H.hv.keep hk';obtain ⟨XH, hH⟩ := H.hs;obtain ⟨XN, hN⟩ := H.net;simp only [Value.agg.injEq, Array.mk.injEq, List.cons.injEq, Value.slice.injEq, and_true, true_and] at e
 obtain ⟨⟨rfl, rfl, rfl⟩, rfl, rfl, rfl⟩ := e;exact ⟨la, nl, lc, Y, oa, no, oc, X, ha, nh, hc, XH, na, nn, nc, XN, rfl, H.cap, zep.wide ⟨hF, hH.keep hk', hN.keep hk'⟩ (fun b hb => Or.inl (RD.sub b hb))⟩
end
/- What holds of a world that came of steps. -/
theorem Inv.fewO {n : Nat} {P : Int → List P3} {W : WW} (I : Inv n P W) : zcf W.hd.opn :=
 ⟨by have := I.few; omega, fun o ho => by
  have h := I.opn o ho;have h1 := (zc5 h.right).2.1;have h2 := h.less;have h3 := zdl o.2.1
  exact ⟨h1, by omega⟩⟩
theorem zbo.wrongM {n : Nat} {P : Int → List P3} {W : WW} {m : Q4} (h : zbo n P W m) : zdn m = 0 := by
 rw [← zm5];exact h.right
theorem zn8 {m : Q4} (h : zdn m = 0) : ze9 m := by
 obtain ⟨h1, h2, h3, h4, h5⟩ := zhu h;exact ⟨by omega, by omega, fun p hp => by have := h5 p hp; omega, by omega⟩
theorem zbo.int64 {n : Nat} {P : Int → List P3} {W : WW} {m : Q4} (h : zbo n P W m) : ze9 m := zn8 h.wrongM
theorem zbo.bounds {n : Nat} {P : Int → List P3} {W : WW} {m : Q4} (h : zbo n P W m) : 0 ≤ m.2.1 ∧ m.2.1 ≤ 1343 ∧ 0 ≤ m.2.2.1 ∧ OkP m.2.2.2 := by
 have h1 := (zhu h.wrongM).2.2.1;obtain ⟨h2, h3, h4, h5, h6, h7⟩ := zih h.right;refine ⟨h2, h3, h1.1, ?_⟩;by_cases k : m.1 = 1
 ·exact zfk (h7 k).1
 ·rw [h6 (by omega)]; exact ze0
theorem zdt.calc {L : List R3} (H : zdt L) (h : L.length * 40 ≤ 140737488355328) : zc8 L := ⟨H.ok, H.within, h⟩
theorem zko {L : List R3} (H : zdt L) (hl : L.length ≤ 100000) {k d c : Int} {l : List P3} (hw : za9 k d c l = 0) : ∀ jj, za0 (zd L) k d l = some jj → zc8 (L ++ [jj]) := by
 intro jj hr;have h1 := H.hear hw;rw [zd7 hr] at h1;exact h1.calc (by rw [List.length_append]; simp; omega)
theorem zdt.bound {L : List R3} (H : zdt L) : zbj 2199023255552 (zd L).1 := by
 have h := H.within L.length (Nat.le_refl _);rwa [List.take_of_length_le (Nat.le_refl _)] at h
theorem at_get {W : WW} {k : Nat} (hk : k < W.hs.length) : W.at (k : Int) = W.hs[k] := by
 unfold WW.at
 rw [List.getD_eq_getElem?_getD, Int.toNat_natCast, List.getElem?_eq_getElem hk];rfl
theorem zar.below {R : Nat → Prop} {w w' : World} {v : Value} {ms : List Q4} (h : zar R w v ms) (hb : Z w.heap.size w w') : zar R w' v ms := by
 obtain ⟨a, n, c, X, hv, hf⟩ := h;exact ⟨a, n, c, X, hv, hf.below hb⟩
theorem zar.keep {R : Nat → Prop} {w w' : World} {v : Value} {ms : List Q4} (h : zar R w v ms) (hk : zf R w w') : zar R w' v ms := by
 obtain ⟨a, n, c, X, hv, hf⟩ := h;exact ⟨a, n, c, X, hv, hf.keep hk⟩
theorem zar.narrow {R R' : Nat → Prop} {w : World} {v : Value} {ms : List Q4} (h : zar R w v ms) (hR : ∀ b, R' b → R b) : zar R' w v ms := by
 obtain ⟨a, n, c, X, hv, hf⟩ := h;exact ⟨a, n, c, X, hv, hf.n, hf.row, hf.out.imp id (fun ho ad had hr => ho ad had (hR _ hr)), hf.says, fun x hx => (hf.parts x hx).wide (fun b hb => Or.inl (hR b hb))⟩
theorem hearM_len (L : List R3) (me k d : Int) (l : List P3) : (zau L me k d l).length ≤ 1 := by
 unfold zau
 cases zdg L k d l <;> simp
theorem stepO_len (m : Q4) (o : O4) : (zv m o).2.2.length ≤ 3 := by
 unfold zv
 split
 ·split
  ·exact zf5 _
  ·exact Nat.zero_le _
 ·split
  ·exact zgs _
  ·split
   ·split <;> exact Nat.zero_le _
   ·split
    ·exact Nat.le_of_lt (by decide : 1 < 3)
    ·exact Nat.zero_le _
theorem zpm (g : Gh) (m : Q4) : (zc g m).2.length ≤ 1000 := by
 unfold zc
 cases h : zb2 m g.opn with
 | none => simp only; split <;> simp
 | some x =>
  obtain ⟨A, o, B, _, _, rfl⟩ := zfe h;exact Nat.le_trans (stepO_len m o) (by decide)
theorem begin_len (g : Gh) (l : List P3) : (zj g l).2.1.length ≤ 1000 := by
 unfold zj
 split
 ·simp
 ·have := zf5 (64 * g.boot + g.next, l, false, [])
  exact Nat.le_trans this (by decide)
theorem quit_len {g : Gh} (h : g.opn.length ≤ 12) : (zk g).2.length ≤ 1000 := by
 have h1 := zf8 zgs (g.opn.filter fun o => !o.2.2.1);have h2 : (g.opn.filter fun o => !o.2.2.1).length ≤ g.opn.length := List.length_filter_le _ _;show ((g.opn.filter fun o => !o.2.2.1).flatMap za3).length ≤ 1000
 omega
theorem tick_len {g : Gh} (h : g.opn.length ≤ 12) : (zdj g).length ≤ 1000 := by
 have h1 := zf8 zf5 g.opn;unfold zdj
 omega
theorem asks_msgs {w : World} {base : Nat} {v : Value} {D : List D2} {me : Int} (h : za 25 4 zb3 w base v (D.map fun x => (7, x.1, me, (U, 0), []))) : zm w base v (askW D me) :=
 ⟨_, h, by simp [askW, zce], fun x hx => by obtain ⟨y, _, rfl⟩ := List.mem_map.1 hx; exact Or.inl rfl⟩
theorem zbp.of {R : Nat → Prop} {w w' : World} {na : Option Addr} {nn : Nat} {X : List XN} {bs : List (List Nat)} (H : zbp R w na nn X bs) (hb : Z w.heap.size w w') {X' : List XN} (hs : ∀ x ∈ X', x ∈ X) {base : Nat} {a : Option Addr} {n c : Nat}
  (ho : zag 113 1 zcd w' base (G a n c) X') (hR : ∀ b, R b → b < base) : zbp R w' a n X' (X'.map (·.2)) := by
 obtain ⟨h1, h2, _⟩ := ho.at zci;refine ⟨h2, h1, ?_, rfl, fun x hx => (H.bytes x (hs x hx)).below hb, fun x hx => H.caps x (hs x hx)⟩;rcases ho with h | ⟨h, _⟩
 ·exact h.outR hR _
 ·exact Or.inl (by rw [h]; rfl)
theorem zi.drop1 {α : Type} {enc : α → List Value} {w : World} {b o : Nat} {xs : List α} (h : zi 1 enc w (some ⟨b, o, U⟩) xs) (j : Nat) : zi 1 enc w (some ⟨b, o + j, U⟩) (xs.drop j) := by
 rcases h with rfl | ⟨b', o', e, hlt, hc⟩
 ·exact Or.inl (by simp)
 ·cases e
  refine Or.inr ⟨b, o + j, rfl, hlt, fun i hi q u hu => ?_⟩;rw [List.getElem_drop] at hu;rw [List.length_drop] at hi;have h1 := hc (j + i) (by omega) q u hu;rw [show o + j + i * 1 + q = o + (j + i) * 1 + q by omega];exact h1
theorem zi.cut1 {α : Type} {enc : α → List Value} {w : World} {b o : Nat} {xs : List α} (h : zi 1 enc w (some ⟨b, o, U⟩) xs) {j nc : Nat} (hn : xs.length ≤ nc) : zi 1 enc w (if nc = j then some ⟨b, o, U⟩ else some ⟨b, o + j, U⟩) (xs.drop j) := by
 split
 ·exact Or.inl (List.drop_of_length_le (by omega))
 ·exact h.drop1 j
theorem zj0 {X : List XN} {bs : List (List Nat)} (h : X.map (·.2) = bs) (k : Nat) : (X.take k ++ X.drop (k + 1)).map (·.2) = bs.eraseIdx k := by
 rw [← h, List.eraseIdx_eq_take_drop_succ, List.map_append, List.map_take, List.map_drop]
theorem zfr {W : WW} {sk sn : Int} {sl : List P3} (hk : sk = 2 ∨ sk = 3 ∨ sk = 4) (h : ¬ (0 ≤ sn ∧ sn < (W.net.length : Int))) : zl W (sk, sn, sl) = (W, 6) := by
 unfold zl
 simp only
 rw [if_neg (by omega), if_pos hk];by_cases h0 : 0 ≤ sn
 ·rw [if_pos h0, List.getElem?_eq_none (by omega)]
 ·rw [if_neg h0]
theorem zms {W : WW} {k : Nat} {sl : List P3} {m : Q4} (h : W.net[k]? = some m) : zl W (4, (k : Int), sl) = ({ W with net := if W.net.length < 24 then W.net ++ [m] else W.net }, 0) := by
 unfold zl
 simp only [Int.toNat_natCast, h]
 rw [if_neg (by decide), if_pos (by decide), if_pos (by omega)];simp
theorem step_lose {W : WW} {k : Nat} {sl : List P3} {m : Q4} (h : W.net[k]? = some m) : zl W (3, (k : Int), sl) = ({ W with net := W.net.eraseIdx k }, 0) := by
 unfold zl
 simp only [Int.toNat_natCast, h]
 rw [if_neg (by decide), if_pos (by decide), if_pos (by omega)];simp
theorem zl3 {W : WW} {k : Nat} {sl : List P3} {m : Q4} (h : W.net[k]? = some m) : zl W (2, (k : Int), sl) = (zd5 { W with net := W.net.eraseIdx k } m, 0) := by
 unfold zl
 simp only [Int.toNat_natCast, h]
 rw [if_neg (by decide), if_pos (by decide), if_pos (by omega)];simp
theorem Inv.heard {n : Nat} {P : Int → List P3} {W : WW} (I : Inv n P W) : ∀ o ∈ W.hd.opn, o.2.2.2.Nodup ∧ (∀ k ∈ o.2.2.2, k ∈ zr o.2.1) ∧ o.2.2.2.length ≤ 1000 := fun o ho => by
 have h := I.opn o ho;have h1 := h.less;have h2 := zdl o.2.1;exact ⟨h.nd, h.sub, by omega⟩
theorem Inv.rightP {n : Nat} {P : Int → List P3} {W : WW} (I : Inv n P W) : ∀ o ∈ W.hd.opn, zcj o.2.1 := fun o ho => by
 obtain ⟨h1, h4, hin, hpw⟩ := zc5 (I.opn o ho).right;have h3 := I.n3;exact zi3 h1 h4 (fun p hp => zjo (hin p hp) (by omega)) hpw
theorem OkL.snoc {L : List R3} (h : OkL L) {jj : R3} (hr : OkP jj.2.2) : OkL (L ++ [jj]) := fun x hx => by
 rcases List.mem_append.1 hx with hx | hx
 ·exact h x hx
 ·rw [List.mem_singleton.1 hx]; exact hr
theorem okl_hear {g : Gh} (H : OkL g.log) (ho : ∀ o ∈ g.opn, OkP o.2.1) (m : Q4) : OkL (zc g m).1.log := by
 unfold zc
 split
 ·rename_i x hx
  obtain ⟨A, o, B, hO, _, rfl⟩ := zfe hx;have hp : OkP o.2.1 := ho o (by rw [hO]; simp);rcases zgl m o with h | h | h
  ·simp [h]; exact H
  ·simp [h]; exact H.snoc hp
  ·simp [h]; exact H.snoc ze0
 ·simp; exact H
theorem okl_come {W : WW} (H : OkL W.hd.log) (ho : ∀ o ∈ W.hd.opn, OkP o.2.1) (m : Q4) : OkL (zd5 W m).hd.log := by
 unfold zd5
 split
 ·split
  ·exact H
  ·exact okl_hear H ho m
 ·exact H
theorem zlm {W : WW} (H : OkL W.hd.log) (ho : ∀ o ∈ W.hd.opn, OkP o.2.1) (s : Int × Int × List P3) : OkL (zl W s).1.hd.log := by
 unfold zl
 split
 ·split
  ·show OkL (zj W.hd s.2.2).1.log
   unfold zj
   split
   ·exact H
   ·exact H
  ·exact H
 ·split
  ·split
   ·split
    ·exact H
    ·split
     ·exact H
     ·split
      ·exact H
      ·exact okl_come (W := { W with net := W.net.eraseIdx s.2.1.toNat }) H ho _
   ·exact H
  ·split
   ·split
    ·show OkL (zq W.hd).1.log
     unfold zq
     split
     ·exact H
     ·exact OkL.snoc H ze0
    ·split
     ·exact H
     ·exact H
   ·split
    ·split
     ·exact H
     ·split
      ·exact H
      ·exact H
    ·split
     ·exact H
     ·exact H
theorem okl_play {n : Nat} (hn : n ≤ 3) (l : List (Int × Int × List P3)) : OkL (zat n l).hd.log := by
 unfold zat
 suffices h : ∀ (l : List (Int × Int × List P3)) (W : WW), (∃ P, Inv n P W) → OkL W.hd.log → OkL (l.foldl (fun W s => (zl W s).1) W).hd.log from h _ _ ⟨fun _ => [], ziu hn _⟩ (OkL.snoc (L := []) (fun jj hr => by cases hr) ze0)
 intro l
 induction l with
 | nil => exact fun W _ h => h
 | cons s t ih =>
  intro W ⟨P, I⟩ h;obtain ⟨P', _, I'⟩ := I.step s;exact ih _ ⟨P', I'⟩ (zlm h (fun o ho => zfk (I.opn o ho).right) s)
theorem right_of {l : List P3} {n : Nat} (hn : n ≤ 3) (h : zax l n = 0) : zcj l := by
 obtain ⟨h1, h4, hin, hpw⟩ := zc5 h;exact zi3 h1 h4 (fun p hp => zjo (hin p hp) (by omega)) hpw
structure zem (w wx : World) (P : Nat) (k d hs me : Int) (mv : Value) (hc : Array Value) (L : List R3) (u0 u1 u2 u3 u4 u5 u6 sv : Value) : Prop where
 hb : Blk wx w.heap.size hc 77
 eb : Blk wx (w.heap.size + 1) #[E J me] 3
 mb : Blk wx (w.heap.size + 1 + 1) #[E J k, E J d, E J hs, mv] 25
 zb : Blk wx (w.heap.size + 1 + 1 + 1) #[G U 0 0, E J 0, E J 0, E J 0, E J 0, G U 0 0, G U 0 0] 77
 nb : Blk wx P #[u0, u1, u2, u3, u4, u5, u6] 77
 nv : zcm w.heap.size wx (.agg #[u0, u1, u2, u3, u4, u5, u6]) L (zd L)
 sb : Blk wx (P + 1) #[sv] 41
 far : w.heap.size + 1 + 1 + 1 < P
 bel : Z w.heap.size w wx
theorem zem.below {w wx wy : World} {P : Nat} {k d hs me : Int} {mv : Value} {hc : Array Value} {L : List R3} {u0 u1 u2 u3 u4 u5 u6 sv : Value} (H : zem w wx P k d hs me mv hc L u0 u1 u2 u3 u4 u5 u6 sv) (hb : Z wx.heap.size wx wy) : zem w wy P k d hs me mv hc L u0 u1 u2 u3 u4 u5 u6 sv :=
 ⟨H.hb.below hb H.hb.lt, H.eb.below hb H.eb.lt, H.mb.below hb H.mb.lt, H.zb.below hb H.zb.lt, H.nb.below hb H.nb.lt, H.nv.below hb, H.sb.below hb H.sb.lt, H.far, H.bel.trans (hb.mono H.bel.size)⟩
theorem zem.note {w wx wy : World} {P : Nat} {k d hs me : Int} {mv : Value} {hc : Array Value} {L L2 : List R3} {u0 u1 u2 u3 u4 u5 u6 v0 v1 v2 v3 v4 v5 v6 sv : Value} (H : zem w wx P k d hs me mv hc L u0 u1 u2 u3 u4 u5 u6 sv) (hP : Blk wy P #[v0, v1, v2, v3, v4, v5, v6] 77) (hv : zcm wx.heap.size wy (.agg #[v0, v1, v2, v3, v4, v5, v6]) L2 (zd L2)) (hk : zf (fun b => b = P) wx wy) : zem w wy P k d hs me mv hc L2 v0 v1 v2 v3 v4 v5 v6 sv := by
 have hf := H.far;exact ⟨H.hb.keep hk (by omega), H.eb.keep hk (by omega), H.mb.keep hk (by omega), H.zb.keep hk (by omega), hP, hv.mono H.bel.size, H.sb.keep hk (by omega), hf, H.bel.trans (hk.below H.bel.size (fun b hb => by omega))⟩
theorem zem.say {w wx wy : World} {P : Nat} {k d hs me : Int} {mv : Value} {hc : Array Value} {L : List R3} {u0 u1 u2 u3 u4 u5 u6 sv tv : Value} (H : zem w wx P k d hs me mv hc L u0 u1 u2 u3 u4 u5 u6 sv) (hS : Blk wy (P + 1) #[tv] 41) (hv : zcm w.heap.size wy (.agg #[u0, u1, u2, u3, u4, u5, u6]) L (zd L)) (hk : zf (fun b => b = P + 1) wx wy) : zem w wy P k d hs me mv hc L u0 u1 u2 u3 u4 u5 u6 tv := by
 have hf := H.far;exact ⟨H.hb.keep hk (by omega), H.eb.keep hk (by omega), H.mb.keep hk (by omega), H.zb.keep hk (by omega), H.nb.keep hk (by omega), hv, hS, hf, H.bel.trans (hk.below H.bel.size (fun b hb => by omega))⟩
theorem zf.only {zV : TypeId} {S : Nat} {w w' : World} {cs : Array Value} (hb : Blk w S cs zV) (hk : zf (fun b => b = S) w w') : zbv zV w w' := fun b cs' t ht x => x.keep hk (fun e => by
 subst e;unfold Blk at hb x
 rw [hb] at x;injection x with x
 injection x with _ q _
 exact ht q.symm)
theorem zem.cells {w wx : World} {P : Nat} {k d hs me : Int} {mv : Value} {c0 c1 c2 c3 c4 c5 c6 : Value} {L : List R3} {u0 u1 u2 u3 u4 u5 u6 sv : Value} (H : zem w wx P k d hs me mv #[c0, c1, c2, c3, c4, c5, c6] L u0 u1 u2 u3 u4 u5 u6 sv) :
  (wx.cell? ⟨w.heap.size, 0, U⟩ = some c0 ∧ wx.cell? ⟨w.heap.size, 1, U⟩ = some c1 ∧ wx.cell? ⟨w.heap.size, 2, U⟩ = some c2 ∧ wx.cell? ⟨w.heap.size, 3, U⟩ = some c3 ∧ wx.cell? ⟨w.heap.size, 4, U⟩ = some c4 ∧ wx.cell? ⟨w.heap.size, 5, U⟩ = some c5 ∧ wx.cell? ⟨w.heap.size, 6, U⟩ = some c6) ∧
  (wx.cell? ⟨w.heap.size + 1 + 1, 0, U⟩ = some (E J k) ∧ wx.cell? ⟨w.heap.size + 1 + 1, 1, U⟩ = some (E J d) ∧ wx.cell? ⟨w.heap.size + 1 + 1, 3, U⟩ = some mv) ∧ (w.heap.size < wx.heap.size ∧ w.heap.size + 1 < wx.heap.size ∧ w.heap.size + 1 + 1 < wx.heap.size ∧ w.heap.size + 1 + 1 + 1 < wx.heap.size) ∧ P < wx.heap.size ∧ P + 1 < wx.heap.size :=
 ⟨⟨H.hb.cell 0, H.hb.cell 1, H.hb.cell 2, H.hb.cell 3, H.hb.cell 4, H.hb.cell 5, H.hb.cell 6⟩, ⟨H.mb.cell 0, H.mb.cell 1, H.mb.cell 3⟩, ⟨H.hb.lt, H.eb.lt, H.mb.lt, H.zb.lt⟩, H.nb.lt, H.sb.lt⟩
theorem zem.open {w wx : World} {P : Nat} {k d hs me : Int} {mv : Value} {hc : Array Value} {L : List R3} {u0 u1 u2 u3 u4 u5 u6 sv : Value} (H : zem w wx P k d hs me mv hc L u0 u1 u2 u3 u4 u5 u6 sv) :
  ∃ (la : Option Addr) (nl lc : Nat) (t0 t1 t2 t3 : Int) (ra : Option Addr) (nr rc : Nat) (da : Option Addr) (nd dc : Nat), u0 = G la nl lc ∧ u1 = E J t0 ∧ u2 = E J t1 ∧ u3 = E J t2 ∧ u4 = E J t3 ∧ u5 = G ra nr rc ∧ u6 = G da nd dc ∧ nd = (zd L).2.2.length ∧ zi 1 zu wx da (zd L).2.2 := by
 obtain ⟨la, nl, lc, Y, ra, nr, rc, XR, da, nd, dc, hv, -, -, h6⟩ := H.nv;injection hv with hv
 injection hv with hv
 simp only [List.cons.injEq, and_true] at hv
 obtain ⟨e0, e1, e2, e3, e4, e5, e6⟩ := hv;have k3 := h6.at zaf;exact ⟨la, nl, lc, _, _, _, _, ra, nr, rc, da, nd, dc, e0, e1, e2, e3, e4, e5, e6, k3.2.1, k3.1⟩
end Go.Proofs.YtpcnlifmkhagkaaGreat
