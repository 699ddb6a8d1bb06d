import Derived.Test.YtpcnlifmkhagkaaGreatKJ27
import Derived.Test.YtpcnlifmkhagkaaGreatKJ26
set_option maxRecDepth 20000
set_option maxHeartbeats 20000000
namespace Go.Proofs.YtpcnlifmkhagkaaGreat
open Go.RowKit
open Value renaming slice → G, int → E
open IntKind renaming i64 → J
open Option renaming none → U
open Obj renaming cells → T
open Go renaming Hid → Q, Below → Z
open World renaming setCell → r
open Or renaming inr → kaa, inl → kac
open List renaming mem_append → kab, mem_singleton → kad, mem_map → kae, getElem?_toArray → kaf, getElem?_cons_zero → kag, mem_cons → kai, nodup_append → kaj
open Value renaming ownBlock → kah
attribute [local go_sem ↓] Go.wp_at_zero Go.wp_at_succ
theorem zm9 {H : Int} : ∀ {l seen : List P3}, (∀ p ∈ l, inB p H = true) → (∀ p ∈ l, hasB p seen = false) → l.Pairwise (fun p q => zey p q = false) → zdo H seen l = 0
 | [], _, _, _, _ => rfl
 | p :: t, seen, h1, h2, h3 => by
  rw [List.pairwise_cons] at h3;unfold zdo
  rw [if_pos (h1 p (by simp)), if_neg (by rw [h2 p (by simp)]; simp)];refine zm9 (fun q hq => h1 q (by simp [hq])) (fun q hq => ?_) h3.2;rw [zlr, h2 q (by simp [hq]), h3.1 q hq];rfl
theorem zjo {l : List P3} {H : Int} (h1 : 1 ≤ l.length) (h4 : l.length ≤ 4) (hin : ∀ p ∈ l, inB p H = true) (hpw : l.Pairwise (fun p q => zey p q = false)) : zaz l H = 0 := by
 unfold zaz
 rw [if_neg (by omega)];exact zm9 hin (fun p _ => rfl) hpw
theorem zit {p : P3} {H H' : Int} (h : inB p H = true) (hH : H ≤ H') : inB p H' = true := by
 simp only [inB, decide_eq_true_eq] at h ⊢
 omega
theorem zml {l : List P3} {n : Nat} (hn : n ≤ 3) (h : zaz l n = 0) {k : Int} (hk : k ∈ zr l) : zaz (ofB l k) 3 = 0 ∧ (∀ p ∈ ofB l k, p.1 = k) ∧ 0 ≤ k ∧ k < n := by
 obtain ⟨h1, h4, hin, hpw⟩ := zc4 h;obtain ⟨_, hpos⟩ := zi8.1 hk;have hsub : (ofB l k).Sublist l := List.filter_sublist
 have hall : ∀ p ∈ ofB l k, p.1 = k := fun p hp => by
  have := (List.mem_filter.1 hp).2;simpa using this
 refine ⟨zjo (by omega) (Nat.le_trans hsub.length_le h4) (fun p hp => zit (hin p (hsub.subset hp)) (by omega)) (hpw.sublist hsub), hall, ?_⟩;obtain ⟨p, hp⟩ := List.exists_mem_of_length_pos hpos;have h5 := hin p (hsub.subset hp);have h6 := hall p hp;simp only [inB, decide_eq_true_eq] at h5
 omega
theorem zi1 {l : List P3} {n : Nat} (hn : n ≤ 3) (h : zaz l n = 0) : 0 < (zr l).length := by
 obtain ⟨h1, h4, hin, _⟩ := zc4 h;obtain ⟨p, hp⟩ := List.exists_mem_of_length_pos (show 0 < l.length by omega);have h5 := hin p hp;simp only [inB, decide_eq_true_eq] at h5
 have : p.1 ∈ zr l := zi8.2 ⟨by omega, List.length_pos_iff_exists_mem.2 ⟨p, List.mem_filter.2 ⟨hp, by simp⟩⟩⟩;exact List.length_pos_iff_exists_mem.2 ⟨_, this⟩
theorem zh4 (l : List P3) : (zr l).Nodup := List.Nodup.sublist List.filter_sublist (by decide)
theorem cover : ∀ {A B : List Int}, A.Nodup → (∀ x ∈ A, x ∈ B) → B.length ≤ A.length → B.Nodup → ∀ x ∈ B, x ∈ A
 | [], B, _, _, hl, _, x, hx => by
  have : B = [] := List.eq_nil_of_length_eq_zero (by simpa using hl);rw [this] at hx; cases hx
 | a :: t, B, hA, hs, hl, hB, x, hx => by
  rw [List.nodup_cons] at hA;by_cases e : x = a
  · rw [e]; simp
  · have ha := hs a (by simp)
   have hx' := (List.mem_erase_of_ne e).2 hx;have := cover (A := t) (B := B.erase a) hA.2 (fun y hy => (List.mem_erase_of_ne (fun (e' : y = a) => hA.1 (e' ▸ hy))).2 (hs y (by simp [hy]))) (by rw [List.length_erase_of_mem ha]; simp at hl; omega) (hB.erase a) x hx';simp [this]
theorem zg1 : ∀ {A B : List Int}, A.Nodup → (∀ x ∈ A, x ∈ B) → A.length ≤ B.length
 | [], _, _, _ => Nat.zero_le _
 | a :: t, B, hA, hs => by
  rw [List.nodup_cons] at hA;have ha := hs a (by simp);have := zg1 (A := t) (B := B.erase a) hA.2 (fun y hy => (List.mem_erase_of_ne (fun (e' : y = a) => hA.1 (e' ▸ hy))).2 (hs y (by simp [hy])));rw [List.length_erase_of_mem ha] at this;have hp := List.length_pos_iff_exists_mem.2 ⟨a, ha⟩;simp; omega
theorem zjy {n : Nat} {P : Int → List P3} {W : WW} (hn : n ≤ 3) (hnum : za4 W ≤ 1344) {o : O4} (O : zgk n P W o) : ∀ q ∈ za2 o, zbo n P W q := by
 intro q hq;unfold za2 at hq
 obtain ⟨k, hk, rfl⟩ := kae.1 hq;have hkh := (List.mem_filter.1 hk).1;obtain ⟨hw, hall, hk0, hkn⟩ := zml hn O.right hkh;have h0 := O.pos;have h1 := O.old;have hd : o.1 ≤ 1343 := by omega
 split
 · rename_i hdec
  exact ⟨by unfold za9; simp; omega, hkn, h1, fun h => absurd h (by simp), fun h => absurd h (by simp), fun _ => ⟨O.dec.1 hdec, by show k ∈ zr (P o.1); rw [← O.parts]; exact hkh⟩, fun h => absurd h (by simp), fun h => absurd h (by simp), fun h => absurd h (by simp)⟩
 · refine ⟨?_, hkn, h1, fun _ => ⟨by show ofB o.2.1 k = ofB (P o.1) k; rw [← O.parts], by show k ∈ zr (P o.1); rw [← O.parts]; exact hkh⟩, fun h => absurd h (by simp), fun h => absurd h (by simp), fun h => absurd h (by simp), fun h => absurd h (by simp), fun h => absurd h (by simp)⟩
  show za9 1 o.1 k (ofB o.2.1 k) = 0
  unfold za9
  rw [if_neg (by omega), if_neg (by omega), if_neg (by omega), if_pos hw, if_neg];simp only [List.any_eq_true, Bool.not_eq_true', decide_eq_false_iff_not, not_exists, not_and, Decidable.not_not]
  exact hall
theorem zkv {n : Nat} {P : Int → List P3} {W : WW} (hn : n ≤ 3) (hnum : za4 W ≤ 1344) {o : O4} (h0 : 0 ≤ o.1) (h1 : o.1 < za4 W) (hr : zaz o.2.1 n = 0) (ho : ¬ zds W o.1) (hd : ¬ zbb W o.1) : ∀ q ∈ za1 o, zbo n P W q := by
 intro q hq;unfold za1 at hq
 obtain ⟨k, hk, rfl⟩ := kae.1 hq;obtain ⟨hw, hall, hk0, hkn⟩ := zml hn hr hk;exact ⟨by unfold za9; simp; omega, hkn, h1, fun h => absurd h (by simp), fun h => absurd h (by simp), fun h => absurd h (by simp), fun _ => ⟨ho, fun h => absurd h hd⟩, fun h => absurd h (by simp), fun h => absurd h (by simp)⟩
theorem Inv.ofHead {n : Nat} {P P' : Int → List P3} {W : WW} (I : Inv n P W) {g : Gh} (M : zdu P P' W { W with hd := g })
  (boot1 : 1 ≤ g.boot) (boot20 : g.boot ≤ 20) (next0 : 0 ≤ g.next) (next64 : g.next ≤ 64) (bootL : g.boot = (zaa g.log).1) (few : g.opn.length ≤ 12) (apart : (g.opn.map (·.1)).Nodup)
  (opn : ∀ o ∈ g.opn, zgk n P' { W with hd := g } o) (dec : ∀ x ∈ zan g.log, 0 ≤ x.1 ∧ x.1 < za4 { W with hd := g } ∧ x.2 = P' x.1 ∧ zaz x.2 n = 0) (decNd : ((zan g.log).map (·.1)).Nodup)
  (dr : ∀ x ∈ zan g.log, ∀ k ∈ zr x.2, zdw W k x.1 ∨ dnW W k x.1) (en : ∀ x ∈ zan g.log, ¬ zds { W with hd := g } x.1 → ∀ k ∈ zr x.2, dnW W k x.1)
  (hl : ∀ d, (∃ x ∈ (zaa g.log).2, x.1 = d) ↔ ∃ o ∈ g.opn, o.1 = d ∧ o.2.2.1 = true) (hlNd : ((zaa g.log).2.map (·.1)).Nodup) (hlIn : ∀ x ∈ (zaa g.log).2, x ∈ zan g.log) : Inv n P' { W with hd := g } := by
 refine ⟨I.n3, I.len, boot1, boot20, next0, next64, bootL, I.small, few, apart, opn, dec, decNd, dr, en, hl, hlNd, hlIn, fun m hm => (I.net m hm).mono M, fun k h0 hk => ?_⟩;have zY := I.hou k h0 hk
 have hold : ∀ d ∈ (zd (W.at k)).2.2, P' d = P d := fun d hd => by
  obtain ⟨x, hx, e⟩ := (zY.done d hd).1;have := (I.dec x hx).2.1;exact M.same d (by rw [← e]; exact this)
 refine ⟨zY.good, fun x hx => Int.lt_of_lt_of_le (zY.old x hx) M.num, fun x hx => ?_, zY.nd, fun d hd => ?_, zY.apart, ?_⟩
 · rw [M.same _ (zY.old x hx)]; exact zY.parts x hx
 · rw [hold d hd]; exact ⟨M.dcd _ (zY.done d hd).1, (zY.done d hd).2⟩
 · show (zd (W.at k)).1 = _
  rw [zY.sums]
  have key : ∀ (l : List Int) (s : S4), (∀ d ∈ l, P' d = P d) → l.foldl (fun s d => doB s (ofB (P d) k)) s = l.foldl (fun s d => doB s (ofB (P' d) k)) s := by
   intro l
   induction l with
   | nil => intro s _; rfl
   | cons a t ih =>
    intro s h;rw [List.foldl_cons, List.foldl_cons, h a (by simp)];exact ih _ (fun d hd => h d (by simp [hd]))
  exact key _ _ hold
def zci (l : List P3) : Prop := zaz l 3 = 0
theorem zci.houses {l : List P3} (h : zci l) : zhc l = zr l := by
 obtain ⟨h1, h4, hin, _⟩ := zc4 h;rw [zof h1 h4 hin, zfw]
theorem zoz (b : Nat) (dd : Int) (pa : Option Addr) (ln pc : Nat) (dec : Bool) (ha : Option Addr) (hn hc : Nat) (hd : List Int) (x : Int) (w : World) (hb : Blk w b #[E J dd, G pa ln pc, .bool dec, G ha hn hc] 58) (hnn : hn = hd.length) (hl : hd.length ≤ 100000) (hr : zi 1 zn w ha hd) :
  Calls Tryz.prog 111 #[E J x, .pointer (some ⟨b, 0, U⟩)] w fun e w' => e = .returned (.bool (inI hd x)) ∧ Z w.heap.size w w' := by
 have HC := zm8 ha hd hc hn x w hnn (by omega) hr;have b3 := hb.cell 3;simp only [kaf, kag, List.getElem?_cons_succ] at b3
 have lb := hb.lt;clear hb hnn hl hr;generalize inI hd x = jj at *;go_enter Tryz.func111, Tryz.ntmps111
 go_wp2_with fail
 refine HC.mono ?_;rintro e w1 ⟨rfl, hb1⟩;clear b3 HC lb;go_wp2;go_ret;exact ⟨rfl, hb1⟩
theorem entersW : zfb 111 := fun _ _ => rfl
theorem zjx (dd : Int) (pa : Option Addr) (ln pc : Nat) (l : List P3) (dec : Bool) (ha : Option Addr) (hn hc : Nat) (hd : List Int) (w : World) (hln : ln = l.length) (hr : zci l) (hp : zag w pa l) (hnn : hn = hd.length) (hl : hd.length ≤ 100000) (hi : zi 1 zn w ha hd) :
  Calls Tryz.prog 80 #[.agg #[E J dd, G pa ln pc, .bool dec, G ha hn hc]] w fun e w' => ∃ v', e = .returned v' ∧ za 3 1 zn w' w.heap.size v' ((zr l).filter fun n => !inI hd n) ∧ Z w.heap.size w w' := by
 have hb0 := zh w (T #[E J dd, G pa ln pc, .bool dec, G ha hn hc] 58);have hbx : Blk (w.alloc (T #[E J dd, G pa ln pc, .bool dec, G ha hn hc] 58)) w.heap.size #[E J dd, G pa ln pc, .bool dec, G ha hn hc] 58 := Blk.new _ _ _;have hout : Out (fun q => w.heap.size ≤ q) ha hd.length := (zi.out (R := fun _ => False) hi (kaa (fun _ _ h => h)) (fun b hb => kaa hb)).elim kac kaa;have HQ := zG hln hr hp hnn hl hi hout;have hsA : w.heap.size < (w.alloc (T #[E J dd, G pa ln pc, .bool dec, G ha hn hc] 58)).heap.size := by simp
 clear hln hr hp hnn hl hi hout;go_enter Tryz.func80, Tryz.ntmps80
 go_upto_region 1 with fail
 generalize w.alloc (T #[E J dd, G pa ln pc, .bool dec, G ha hn hc] 58) = A at *;have HA := zC hb0 hbx hsA;have b1 := hbx.cell 1;simp only [kaf, kag, List.getElem?_cons_succ] at b1
 have lb := hbx.lt;clear hb0 hbx hsA;go_wp2_with fail
 obtain ⟨h1, h4, -, -⟩ := zc4 HQ.out.2.1;refine (zk8 pa l pc ln A HQ.out.1 h4 h1 (HQ.out.2.2.1.below HA.out.1)).mono ?_;rintro e w1 ⟨v1, rfl, ho1, hb1⟩;rw [HQ.out.2.1.houses] at ho1;obtain ⟨ga, gn, gc, rfl⟩ := ho1.own.slice zah;have H1 := zB ho1.own hb1;clear ho1 hb1 b1 h1 h4;go_wp2_with fail
 refine (zo2 111 w.heap.size entersW (fun x => inI hd x) ga (zr l) gc gn A.heap.size w1 (by have := zdm l; omega) H1.out.1 (fun x _ w' hg => ?_)).mono ?_
 · have hbx := (HA.out.2.1.below H1.out.2 HA.out.2.1.lt).keptNe hg (fun e => by have h1 := H1.out.1.base _ e; have h2 := HA.out.2.2; omega)
  have hk : zf (fun q => w.heap.size ≤ q) w1 w' := zf.ofGrown hg (fun k hk => by have h1 := H1.out.1.base _ hk; have h2 := HA.out.2.2; omega);exact zoz w.heap.size dd pa ln pc dec ha hn hc hd x w' hbx HQ.out.2.2.2.1 HQ.out.2.2.2.2.1 ((((HQ.out.2.2.2.2.2.1.below HA.out.1).below H1.out.2)).keepR HQ.out.2.2.2.2.2.2 hk)
 · rintro e w2 ⟨n2, rfl, ho2, hg2⟩
  have HF := zB (ho2.mono HA.out.1.size) ((HA.out.1.trans (H1.out.2.mono HA.out.1.size)).grown hg2 (by have h1 := HA.out.1.size; have h2 := H1.out.2.size; omega) (fun k hk => by have h1 := H1.out.1.base _ hk; have h2 := HA.out.2.2; omega));clear ho2 hg2;go_wp2;go_ret;exact ⟨_, rfl, HF.out.1, HF.out.2⟩
def wtO (l : List P3) (hd : List Int) : List Int := (zr l).filter fun n => !inI hd n
theorem zmt (g q : Nat) (dd : Int) (pa : Option Addr) (ln pc : Nat) (l : List P3) (dec : Bool) (ha : Option Addr) (hn hc : Nat) (hd : List Int) (house : Int) (base : Nat) (w : World) (hg : g < w.heap.size) (c0 : w.cell? ⟨g, q, U⟩ = some (E J dd)) (c1 : w.cell? ⟨g, q + 1, U⟩ = some (G pa ln pc)) (c2 : w.cell? ⟨g, q + 2, U⟩ = some (.bool dec)) (c3 : w.cell? ⟨g, q + 3, U⟩ = some (G ha hn hc)) (f3 : w.frozen? ⟨g, q + 3, U⟩ = false)
  (hln : ln = l.length) (hr : zci l) (hp : zai base w pa l) (hO : za 3 1 zn w base (G ha hn hc) hd) (hbase : base ≤ w.heap.size) (hne : kah (G ha hn hc) ≠ some g) (hl : hd.length ≤ 1000) (gcs : Array Value) (hgb : Blk w g gcs 58) :
  Calls Tryz.prog 60 #[.pointer (some ⟨g, q, U⟩), E J house] w fun e w' =>
   (inI (wtO l hd) house = false ∧ e = .returned (.bool false) ∧ Z w.heap.size w w') ∨
   (inI (wtO l hd) house = true ∧ ∃ (w1 w2 : World) (a' : Option Addr) (n' c' : Nat), e = .returned (.bool (decide ((wtO l (hd ++ [house])).length = 0))) ∧ Z w.heap.size w w1 ∧ w1.grownBy w2 (kah (G ha hn hc)) ∧ za 3 1 zn w2 base (G a' n' c') (hd ++ [house]) ∧ Z (r w2 ⟨g, q + 3, U⟩ (G a' n' c')).heap.size (r w2 ⟨g, q + 3, U⟩ (G a' n' c')) w') := by
 have hat := hO.at zah;have HQ : Q (ln = l.length ∧ zci l ∧ zai base w pa l ∧ za 3 1 zn w base (G ha hn hc) hd ∧ hd.length ≤ 1000 ∧ hn = hd.length ∧ zi 1 zn w ha hd ∧ kah (G ha hn hc) ≠ some g ∧ Blk w g gcs 58) := ⟨hln, hr, hp, hO, hl, hat.2.1, hat.1, hne, hgb⟩;have HC := zG hg c0 c1 c2 c3 f3 hbase;clear hln hr hp hO hl hat hne f3 hbase hgb;go_enter Tryz.func60, Tryz.ntmps60
 go_wp2_with fail
 refine (zjx dd pa ln pc l dec ha hn hc hd w HQ.out.1 HQ.out.2.1 HQ.out.2.2.1.at HQ.out.2.2.2.2.2.1 (by have := HQ.out.2.2.2.2.1; omega) HQ.out.2.2.2.2.2.2.1).mono ?_;rintro e w1 ⟨v1, rfl, ho1, hb1⟩;obtain ⟨ga, gn, gc, rfl⟩ := ho1.slice zah;have H1 : Q (zi 1 zn w1 ga (wtO l hd) ∧ gn = (wtO l hd).length) := ⟨(ho1.at zah).1, (ho1.at zah).2.1⟩;clear c0 c1 c2 c3 hg;go_wp2_with fail
 refine (zm8 ga (wtO l hd) gc gn house w1 H1.out.2 (by have h1 := zdm l; have h2 : (wtO l hd).length ≤ (zr l).length := List.length_filter_le _ _; omega) H1.out.1).mono ?_;rintro e w2 ⟨rfl, hb2⟩;have H2 := zA (hb1.trans (hb2.mono hb1.size));clear ho1 hb1 hb2 H1;obtain ⟨jj, hrr⟩ : ∃ jj, Q (inI (wtO l hd) house = jj) := ⟨_, rfl⟩;rw [hrr.out]
 cases jj with
 | false =>
  go_wp2;go_ret;exact kac ⟨hrr.out, rfl, H2.out⟩
 | true =>
  obtain ⟨bc, bf⟩ := zc1 H2.out;have d3 := (bc g (q + 3) HC.out.1).trans HC.out.2.2.2.2.1;have hgl := Nat.lt_of_lt_of_le HC.out.1 H2.out.size;have hhl := HQ.out.2.2.2.2.1;have hbs := Nat.le_trans HC.out.2.2.2.2.2.2 H2.out.size;have hA : Z w.heap.size w (w2.alloc (T #[E J house] 3)) := H2.out.alloc H2.out.size _;have hoA := HQ.out.2.2.2.1.below hA (Nat.le_refl _);obtain ⟨ac, af⟩ := zc1 hA;have e0 := (ac g q HC.out.1).trans HC.out.2.1;have e1 := (ac g (q + 1) HC.out.1).trans HC.out.2.2.1;have e2 := (ac g (q + 2) HC.out.1).trans HC.out.2.2.2.1;have e3 := (ac g (q + 3) HC.out.1).trans HC.out.2.2.2.2.1;have ef := (af g (q + 3) HC.out.1).trans HC.out.2.2.2.2.2.1;have HE := zE e0 e1 e2 e3 ef;clear bc bf ac af e0 e1 e2 e3 ef;go_upto_region 3 with fail
  go_upto_region 4 with (at_builtin; refine zbi zah zcw Tryz.underlying56 zcl rfl (by decide) _ rfl _ _ rfl base _ hd rfl hoA (some ⟨w2.heap.size, 0, U⟩) 1 1 [house] rfl rfl (zi.one (Blk.new w2 _ _) rfl) (by unfold maxLen; simp; omega) (by simp; omega) (by simp; omega) ?_; intro a4 n4 c4 w4 hown4 hn4 hgrow4 hat4; have hgA : g < (w2.alloc (T #[E J house] 3)).heap.size := (by simp; omega); have hg4 : g < w4.heap.size := Nat.lt_of_lt_of_le hgA hgrow4.size; have hfar : some g ≠ kah (G ha hn hc) := (fun h => HQ.out.2.2.2.2.2.2.2.1 h.symm); have m3 := (hgrow4.cell_far ⟨g, q + 3, U⟩ hgA hfar).trans HE.out.2.2.2.1; have mf := (hgrow4.frozen_far ⟨g, q + 3, U⟩ hgA hfar).trans HE.out.2.2.2.2; have HM : Q (w4.cell? ⟨g, q, U⟩ = some (E J dd) ∧ w4.cell? ⟨g, q + 1, U⟩ = some (G pa ln pc) ∧ w4.cell? ⟨g, q + 2, U⟩ = some (.bool dec) ∧ za 3 1 zn w4 base (G a4 n4 c4) (hd ++ [house]) ∧ (w2.alloc (T #[E J house] 3)).grownBy w4 (kah (G ha hn hc)) ∧ zai base w4 pa l ∧ n4 = (hd ++ [house]).length) := ⟨(hgrow4.cell_far ⟨g, q, U⟩ hgA hfar).trans HE.out.1, (hgrow4.cell_far ⟨g, q + 1, U⟩ hgA hfar).trans HE.out.2.1, (hgrow4.cell_far ⟨g, q + 2, U⟩ hgA hfar).trans HE.out.2.2.1, hown4, hgrow4, (HQ.out.2.2.1.calm (zg.below hA (Nat.le_refl _))).calm (zg.grown hgrow4 (hoA.grownT (by decide))), by rw [hn4]; simp⟩; have HB4 : Q (Blk w4 g gcs 58 ∧ kah (G a4 n4 c4) ≠ some g) := ⟨(HQ.out.2.2.2.2.2.2.2.2.below hA HC.out.1).keptNe hgrow4 (fun h => HQ.out.2.2.2.2.2.2.2.1 h), fun e => by rcases hat4 with h | h; exact HQ.out.2.2.2.2.2.2.2.1 (h.symm.trans e); rw [h] at e; cases e; omega⟩; clear hn4 hat4 hown4 hgrow4 hgA hfar)
  obtain ⟨s0, s1, s2, -, -, -, -⟩ := HM.out;have HS : Q (za 3 1 zn (r w4 ⟨g, q + 3, U⟩ (G a4 n4 c4)) base (G a4 n4 c4) (hd ++ [house]) ∧ zai base (r w4 ⟨g, q + 3, U⟩ (G a4 n4 c4)) pa l) := ⟨HM.out.2.2.2.1.setNew (a := ⟨g, q + 3, U⟩) HB4.out.2 _, HM.out.2.2.2.2.2.1.calm (zg.setCell (a := ⟨g, q + 3, U⟩) HB4.out.1 (by decide) _)⟩;go_wp2_with fail
  refine (zjx dd pa ln pc l dec a4 n4 c4 (hd ++ [house]) _ HQ.out.1 HQ.out.2.1 HS.out.2.at HM.out.2.2.2.2.2.2 (by simp; omega) (HS.out.1.at zah).1).mono ?_;rintro e w5 ⟨v5, rfl, ho5, hb5⟩;obtain ⟨ga5, gn5, gc5, rfl⟩ := ho5.slice zah
  have H5 : Q (decide ((wtO l (hd ++ [house])).length = 0) = ((gn5 : Int) == 0) ∧ Z (r w4 ⟨g, q + 3, U⟩ (G a4 n4 c4)).heap.size (r w4 ⟨g, q + 3, U⟩ (G a4 n4 c4)) w5) := by
   refine ⟨?_, hb5⟩;have h : gn5 = (wtO l (hd ++ [house])).length := (ho5.at zah).2.1;rw [← h, Bool.eq_iff_iff];simp
  have HR := zA hA;clear ho5 hb5 s0 s1 s2 m3 mf hoA hA;go_wp2;go_ret;exact kaa ⟨hrr.out, _, w4, a4, n4, c4, by rw [H5.out.1]; rfl, HR.out, HM.out.2.2.2.2.1, HM.out.2.2.2.1, H5.out.2⟩
theorem zm1 {m : Q4} : ∀ {opn : List O4}, zb2 m opn = U → ∀ o ∈ opn, o.1 ≠ m.2.1
 | [], _, o, ho => by cases ho
 | x :: t, h, o, ho => by
  unfold zb2 at h
  split at h
  · cases h
  · rename_i hne
   rw [Option.map_eq_none_iff] at h;rcases kai.1 ho with e | ho
   · rw [e]; exact hne
   · exact zm1 h o ho
theorem zff {m : Q4} : ∀ {opn : List O4} {x : List O4 × List R3 × List Q4}, zb2 m opn = some x → ∃ A o B, opn = A ++ o :: B ∧ o.1 = m.2.1 ∧ x = (A ++ ((zv m o).1.toList ++ B), (zv m o).2.1, (zv m o).2.2)
 | [], _, h => by cases h
 | y :: t, x, h => by
  unfold zb2 at h
  split at h
  · rename_i e
   cases h;exact ⟨[], y, t, rfl, e, rfl⟩
  · obtain ⟨z, hz, rfl⟩ := Option.map_eq_some_iff.1 h
   obtain ⟨A, o, B, rfl, e, rfl⟩ := zff hz;exact ⟨y :: A, o, B, rfl, e, rfl⟩
theorem dcd_iff {W : WW} {d : Int} : zbb W d ↔ d ∈ (zan W.hd.log).map (·.1) := by
 unfold zbb
 rw [kae]
theorem zf6 {P P' : Int → List P3} {W : WW} {g : Gh} (num : za4 W ≤ za4 { W with hd := g }) (same : ∀ d, d < za4 W → P' d = P d) (dcd : ∀ d, zbb W d → zbb { W with hd := g } d)
  (dcd2 : ∀ d, d < za4 W → zbb { W with hd := g } d → ¬ zds W d → zbb W d) (und : ∀ d, d < za4 W → undW { W with hd := g } d → undW W d) (opn : ∀ d, d < za4 W → zds { W with hd := g } d → zds W d) : zdu P P' W { W with hd := g } :=
 ⟨num, same, dcd, dcd2, fun _ _ h => h, und, opn, fun _ _ _ _ h => h, fun _ _ _ h => kac h⟩
theorem others {A B : List O4} {o : O4} (h : ((A ++ o :: B).map (·.1)).Nodup) : ∀ x, x ∈ A ∨ x ∈ B → x.1 ≠ o.1 := by
 rw [List.map_append, List.map_cons, kaj, List.nodup_cons] at h;obtain ⟨_, ⟨h2, _⟩, h3⟩ := h;intro x hx e;rcases hx with hx | hx
 · exact h3 x.1 (kae.2 ⟨x, hx, rfl⟩) o.1 (by simp) e
 · exact h2 (e ▸ kae.2 ⟨x, hx, rfl⟩)
theorem cut_nd {A B : List O4} {o : O4} (h : ((A ++ o :: B).map (·.1)).Nodup) : ((A ++ B).map (·.1)).Nodup := by
 refine List.Nodup.sublist ?_ h;exact List.Sublist.map _ (List.Sublist.append (List.Sublist.refl A) (List.sublist_cons_self o B))
theorem Inv.swap {n : Nat} {P : Int → List P3} {W : WW} (I : Inv n P W) {A B : List O4} {o o' : O4} (ho : W.hd.opn = A ++ o :: B) (e1 : o'.1 = o.1) (e2 : o'.2.2.1 = o.2.2.1) (O : zgk n P W o') : Inv n P { W with hd := { W.hd with opn := A ++ o' :: B } } := by
 have mem : ∀ x, x ∈ A ++ o' :: B → x = o' ∨ x ∈ W.hd.opn := fun x hx => by
  rw [ho];rcases kab.1 hx with hx | hx
  · exact kaa (by simp [hx])
  · rcases kai.1 hx with hx | hx
   · exact kac hx
   · exact kaa (by simp [hx])
 have mem2 : ∀ x, x ∈ W.hd.opn → x = o ∨ x ∈ A ++ o' :: B := fun x hx => by
  rw [ho] at hx;rcases kab.1 hx with hx | hx
  · exact kaa (by simp [hx])
  · rcases kai.1 hx with hx | hx
   · exact kac hx
   · exact kaa (by simp [hx])
 have hoin : o ∈ W.hd.opn := by rw [ho]; simp
 have hkeys : (A ++ o' :: B).map (·.1) = W.hd.opn.map (·.1) := by rw [ho]; simp [e1]
 have hop : ∀ d, zds { W with hd := { W.hd with opn := A ++ o' :: B } } d ↔ zds W d := fun d => by
  constructor
  · rintro ⟨x, hx, e⟩
   rcases mem x hx with rfl | hx
   · exact ⟨o, hoin, by rw [← e1]; exact e⟩
   · exact ⟨x, hx, e⟩
  · rintro ⟨x, hx, e⟩
   rcases mem2 x hx with rfl | hx
   · exact ⟨o', by simp, by rw [e1]; exact e⟩
   · exact ⟨x, hx, e⟩
 have hun : ∀ d, undW { W with hd := { W.hd with opn := A ++ o' :: B } } d → undW W d := fun d => by
  rintro ⟨x, hx, e, hd⟩;rcases mem x hx with rfl | hx
  · exact ⟨o, hoin, by rw [← e1]; exact e, by rw [← e2]; exact hd⟩
  · exact ⟨x, hx, e, hd⟩
 have M : zdu P P W { W with hd := { W.hd with opn := A ++ o' :: B } } := zf6 (Int.le_refl _) (fun _ _ => rfl) (fun _ h => h) (fun _ _ h _ => h) (fun d _ h => hun d h) (fun d _ h => (hop d).1 h);refine I.ofHead M I.boot1 I.boot20 I.next0 I.next64 I.bootL ?_ (by show ((A ++ o' :: B).map _).Nodup; rw [hkeys]; exact I.apart) ?_ I.dec I.decNd I.dr (fun x hx hn => I.en x hx (fun h => hn ((hop _).2 h))) ?_ I.hlNd I.hlIn
 · have := I.few
  rw [ho] at this;simpa using this
 · intro x hx
  rcases mem x hx with rfl | hx
  · exact ⟨O.pos, O.old, O.parts, O.right, O.nd, O.sub, O.less, O.dec, O.rdy, O.dn⟩
  · have Y := I.opn x hx
   exact ⟨Y.pos, Y.old, Y.parts, Y.right, Y.nd, Y.sub, Y.less, Y.dec, Y.rdy, Y.dn⟩
 · intro d
  rw [I.hl d];constructor
  · rintro ⟨x, hx, e, hd⟩
   rcases mem2 x hx with rfl | hx
   · exact ⟨o', by simp, by rw [e1]; exact e, by rw [e2]; exact hd⟩
   · exact ⟨x, hx, e, hd⟩
  · rintro ⟨x, hx, e, hd⟩
   rcases mem x hx with rfl | hx
   · exact ⟨o, hoin, by rw [← e1]; exact e, by rw [← e2]; exact hd⟩
   · exact ⟨x, hx, e, hd⟩
theorem Inv.head {n : Nat} {P : Int → List P3} {W : WW} (I : Inv n P W) {m : Q4} (hm : zbo n P W m) :
  Inv n P { W with hd := (zc W.hd m).1 } ∧ ∀ q ∈ (zc W.hd m).2, zbo n P { W with hd := (zc W.hd m).1 } q := by
 have hk0 : 0 ≤ m.2.2.1 ∧ m.2.2.1 ≤ 2 ∧ 0 ≤ m.2.1 ∧ m.2.1 ≤ 1343 := by
  have hr := hm.right;unfold za9 at hr
  split at hr
  · cases hr
  · split at hr
   · cases hr
   · omega
 unfold zc
 cases hh : zb2 m W.hd.opn with
 | none =>
  refine ⟨I, fun q hq => ?_⟩;simp only at hq
  split at hq
  · rename_i h7
   rw [kad.1 hq];have hno : ¬ zds W m.2.1 := fun ⟨o, ho, e⟩ => zm1 hh o ho e
   refine ⟨by unfold za9; simp; omega, hm.here, hm.old, fun h => absurd h (by simp), fun h => absurd h (by simp), fun h => absurd h (by simp), fun _ => ⟨hno, fun hd => ?_⟩, fun h => absurd h (by simp), fun h => absurd h (by simp)⟩;obtain ⟨x, hx, e⟩ := hd;have hp := (I.dec x hx).2.2.1;have := I.en x hx (by rw [e]; exact hno) m.2.2.1 (by rw [hp, e]; exact hm.ask h7);show dnW W m.2.2.1 m.2.1
   rw [← e];exact this
  · cases hq
 | some x =>
  obtain ⟨A, o, B, ho, eo, rfl⟩ := zff hh;simp only
  have hoin : o ∈ W.hd.opn := by rw [ho]; simp
  have O := I.opn o hoin;have hnum := zf4 I;have hap := I.apart;rw [ho] at hap;have hoth := others hap;unfold zv
  by_cases c1 : m.1 = 2 ∧ o.2.2.1 = false ∧ (inI (zr o.2.1) m.2.2.1 = true ∧ inI o.2.2.2 m.2.2.1 = false)
  · rw [if_pos c1]
   obtain ⟨k2, hud, hin, hnew⟩ := c1;have hkin := zc9.1 hin;have hknot : m.2.2.1 ∉ o.2.2.2 := fun h => by rw [zc9.2 h] at hnew; cases hnew
   have hnd' : (o.2.2.2 ++ [m.2.2.1]).Nodup := by
    rw [kaj];exact ⟨O.nd, by simp, fun a ha b hb e => hknot (by rw [kad.1 hb] at e; exact e ▸ ha)⟩
   have hsub' : ∀ k ∈ o.2.2.2 ++ [m.2.2.1], k ∈ zr o.2.1 := fun k hk => by
    rcases kab.1 hk with hk | hk
    · exact O.sub k hk
    · rw [kad.1 hk]; exact hkin
   have hrd : ∀ k ∈ o.2.2.2 ++ [m.2.2.1], zdw W k o.1 := fun k hk => by
    rcases kab.1 hk with hk | hk
    · exact O.rdy hud k hk
    · rw [kad.1 hk, eo]; exact hm.yes k2 ⟨o, hoin, eo, hud⟩
   by_cases c2 : (o.2.2.2 ++ [m.2.2.1]).length = (zr o.2.1).length
   · -- it is decided
    rw [if_pos c2];have hnd : ¬ zbb W o.1 := fun h => by have := O.dec.2 h; rw [hud] at this; cases this
    have hall : ∀ k ∈ zr o.2.1, zdw W k o.1 := fun k hk => hrd k (cover hnd' hsub' (by omega) (zh4 _) k hk)
    have hD : zan (W.hd.log ++ [(5, o.1, o.2.1)]) = zan W.hd.log ++ [(o.1, o.2.1)] := by rw [zgv, if_pos rfl]
    have hH : zaa (W.hd.log ++ [(5, o.1, o.2.1)]) = ((zaa W.hd.log).1, (zaa W.hd.log).2 ++ [(o.1, o.2.1)]) := by rw [zgy]; rfl
    have hdc : ∀ d, zbb { W with hd := { W.hd with opn := A ++ ([(o.1, o.2.1, true, [])] ++ B), log := W.hd.log ++ [(5, o.1, o.2.1)] } } d ↔ zbb W d ∨ d = o.1 := fun d => by
     unfold zbb
     simp only [hD, kab, kad]
     constructor
     · rintro ⟨x, hx | rfl, e⟩
      · exact kac ⟨x, hx, e⟩
      · exact kaa e.symm
     · rintro (⟨x, hx, e⟩ | rfl)
      · exact ⟨x, kac hx, e⟩
      · exact ⟨_, kaa rfl, rfl⟩
    have mem : ∀ x, x ∈ A ++ ([(o.1, o.2.1, true, [])] ++ B) → x = (o.1, o.2.1, true, []) ∨ (x ∈ W.hd.opn ∧ x.1 ≠ o.1) := fun x hx => by
     rw [ho];rcases kab.1 hx with hx | hx
     · exact kaa ⟨by simp [hx], hoth x (kac hx)⟩
     · rcases kab.1 hx with hx | hx
      · exact kac (kad.1 hx)
      · exact kaa ⟨by simp [hx], hoth x (kaa hx)⟩
    have mem2 : ∀ x, x ∈ W.hd.opn → x = o ∨ x ∈ A ++ ([(o.1, o.2.1, true, [])] ++ B) := fun x hx => by
     rw [ho] at hx;rcases kab.1 hx with hx | hx
     · exact kaa (by simp [hx])
     · rcases kai.1 hx with hx | hx
      · exact kac hx
      · exact kaa (by simp [hx])
    have hop : ∀ d, zds { W with hd := { W.hd with opn := A ++ ([(o.1, o.2.1, true, [])] ++ B), log := W.hd.log ++ [(5, o.1, o.2.1)] } } d ↔ zds W d := fun d => by
     constructor
     · rintro ⟨x, hx, e⟩
      rcases mem x hx with rfl | ⟨hx, _⟩
      · exact ⟨o, hoin, e⟩
      · exact ⟨x, hx, e⟩
     · rintro ⟨x, hx, e⟩
      rcases mem2 x hx with ex | hx
      · exact ⟨(o.1, o.2.1, true, []), by simp, by rw [← e, ex]⟩
      · exact ⟨x, hx, e⟩
    have M : zdu P P W { W with hd := { W.hd with opn := A ++ ([(o.1, o.2.1, true, [])] ++ B), log := W.hd.log ++ [(5, o.1, o.2.1)] } } := by
     refine zf6 (Int.le_refl _) (fun _ _ => rfl) (fun d h => (hdc d).2 (kac h)) (fun d _ h hno => ?_) (fun d _ => ?_) (fun d _ h => (hop d).1 h)
     · rcases (hdc d).1 h with h | rfl
      · exact h
      · exact absurd ⟨o, hoin, rfl⟩ hno
     · rintro ⟨x, hx, e, hd⟩
      rcases mem x hx with rfl | ⟨hx, _⟩
      · cases hd
      · exact ⟨x, hx, e, hd⟩
    have O' : zgk n P { W with hd := { W.hd with opn := A ++ ([(o.1, o.2.1, true, [])] ++ B), log := W.hd.log ++ [(5, o.1, o.2.1)] } } (o.1, o.2.1, true, []) :=
     ⟨O.pos, O.old, O.parts, O.right, List.nodup_nil, (fun k hk => by cases hk), zi1 I.n3 O.right, ⟨fun _ => (hdc _).2 (kaa rfl), fun _ => rfl⟩, (fun h => by cases h), (fun _ k hk => by cases hk)⟩
    have I' : Inv n P { W with hd := { W.hd with opn := A ++ ([(o.1, o.2.1, true, [])] ++ B), log := W.hd.log ++ [(5, o.1, o.2.1)] } } := by
     refine I.ofHead M I.boot1 I.boot20 I.next0 I.next64 ?_ ?_ ?_ ?_ ?_ ?_ ?_ ?_ ?_ ?_ ?_
     · show W.hd.boot = (zaa (W.hd.log ++ [(5, o.1, o.2.1)])).1; rw [hH]; exact I.bootL
     · have := I.few; rw [ho] at this; simpa using this
     · show ((A ++ ([((o.1, o.2.1, true, []) : O4)] ++ B)).map (fun o : O4 => o.1)).Nodup
      have := I.apart;rw [ho] at this;simpa using this
     · intro x hx
      rcases mem x hx with rfl | ⟨hx, hne⟩
      · exact O'
      · have Y := I.opn x hx
       refine ⟨Y.pos, Y.old, Y.parts, Y.right, Y.nd, Y.sub, Y.less, ?_, Y.rdy, Y.dn⟩;rw [hdc, Y.dec];constructor
       · exact kac
       · rintro (h | h)
        · exact h
        · exact absurd h hne
     · show ∀ x ∈ zan (W.hd.log ++ [(5, o.1, o.2.1)]), _
      rw [hD];intro x hx;rcases kab.1 hx with hx | hx
      · exact I.dec x hx
      · rw [kad.1 hx]; exact ⟨O.pos, O.old, O.parts, O.right⟩
     · show ((zan (W.hd.log ++ [(5, o.1, o.2.1)])).map (·.1)).Nodup
      rw [hD, List.map_append, kaj];refine ⟨I.decNd, by simp, fun a ha b hb e => ?_⟩;simp at hb
      subst hb;subst e;exact hnd (dcd_iff.2 ha)
     · show ∀ x ∈ zan (W.hd.log ++ [(5, o.1, o.2.1)]), _
      rw [hD];intro x hx;rcases kab.1 hx with hx | hx
      · exact I.dr x hx
      · rw [kad.1 hx]; exact fun k hk => kac (hall k hk)
     · show ∀ x ∈ zan (W.hd.log ++ [(5, o.1, o.2.1)]), _
      rw [hD];intro x hx hno;rcases kab.1 hx with hx | hx
      · exact I.en x hx (fun h => hno ((hop _).2 h))
      · rw [kad.1 hx] at hno; exact absurd ((hop _).2 ⟨o, hoin, rfl⟩) hno
     · intro d
      show (∃ x ∈ (zaa (W.hd.log ++ [(5, o.1, o.2.1)])).2, x.1 = d) ↔ _
      rw [hH];constructor
      · rintro ⟨x, hx, e⟩
       rcases kab.1 hx with hx | hx
       · obtain ⟨y, hy, e', hd⟩ := (I.hl d).1 ⟨x, hx, e⟩
        rcases mem2 y hy with rfl | hy
        · rw [hud] at hd; cases hd
        · exact ⟨y, hy, e', hd⟩
       · rw [kad.1 hx] at e; exact ⟨(o.1, o.2.1, true, []), by simp, e, rfl⟩
      · rintro ⟨x, hx, e, hd⟩
       rcases mem x hx with rfl | ⟨hx, _⟩
       · exact ⟨(o.1, o.2.1), by simp, e⟩
       · obtain ⟨y, hy, e'⟩ := (I.hl d).2 ⟨x, hx, e, hd⟩
        exact ⟨y, kab.2 (kac hy), e'⟩
     · show ((zaa (W.hd.log ++ [(5, o.1, o.2.1)])).2.map (·.1)).Nodup
      rw [hH];show (((zaa W.hd.log).2 ++ [(o.1, o.2.1)]).map (·.1)).Nodup
      rw [List.map_append, kaj];refine ⟨I.hlNd, by simp, fun a ha b hb e => ?_⟩;simp at hb
      subst hb;subst e;obtain ⟨y, hy, e'⟩ := kae.1 ha;exact hnd ⟨y, I.hlIn y hy, e'⟩
     · show ∀ x ∈ (zaa (W.hd.log ++ [(5, o.1, o.2.1)])).2, x ∈ zan (W.hd.log ++ [(5, o.1, o.2.1)])
      rw [hH, hD];intro x hx;rcases kab.1 hx with hx | hx
      · exact kab.2 (kac (I.hlIn x hx))
      · exact kab.2 (kaa hx)
    exact ⟨I', fun q hq => zjy I.n3 (zf4 I') O' q hq⟩
   · -- one zeu was heard
    rw [if_neg c2]
    have hlt : (o.2.2.2 ++ [m.2.2.1]).length < (zr o.2.1).length := by
     have := O.less;rw [List.length_append, List.length_singleton] at c2 ⊢
     omega
    have := I.swap (o' := (o.1, o.2.1, false, o.2.2.2 ++ [m.2.2.1])) ho rfl hud.symm ⟨O.pos, O.old, O.parts, O.right, hnd', hsub', hlt, by show false = true ↔ _; rw [← hud]; exact O.dec, fun _ => hrd, fun h => by cases h⟩;refine ⟨?_, fun q hq => by cases hq⟩;simpa using this
  · rw [if_neg c1]
   by_cases c3 : m.1 = 3 ∧ o.2.2.1 = false
   · -- it is given up
    rw [if_pos c3];have hnd : ¬ zbb W o.1 := fun h => by have := O.dec.2 h; rw [c3.2] at this; cases this
    have mem : ∀ x, x ∈ A ++ B → x ∈ W.hd.opn ∧ x.1 ≠ o.1 := fun x hx => by
     rw [ho];rcases kab.1 hx with hx | hx
     · exact ⟨by simp [hx], hoth x (kac hx)⟩
     · exact ⟨by simp [hx], hoth x (kaa hx)⟩
    have mem2 : ∀ x, x ∈ W.hd.opn → x = o ∨ x ∈ A ++ B := fun x hx => by
     rw [ho] at hx;rcases kab.1 hx with hx | hx
     · exact kaa (by simp [hx])
     · rcases kai.1 hx with hx | hx
      · exact kac hx
      · exact kaa (by simp [hx])
    have M : zdu P P W { W with hd := { W.hd with opn := A ++ B } } := zf6 (Int.le_refl _) (fun _ _ => rfl) (fun _ h => h) (fun _ _ h _ => h) (fun d _ ⟨x, hx, e, hd⟩ => ⟨x, (mem x hx).1, e, hd⟩) (fun d _ ⟨x, hx, e⟩ => ⟨x, (mem x hx).1, e⟩)
    have I' : Inv n P { W with hd := { W.hd with opn := A ++ B } } := by
     refine I.ofHead M I.boot1 I.boot20 I.next0 I.next64 I.bootL ?_ (cut_nd hap) ?_ I.dec I.decNd I.dr ?_ ?_ I.hlNd I.hlIn
     · have := I.few; rw [ho] at this; simp at this ⊢; omega
     · intro x hx
      have Y := I.opn x (mem x hx).1;exact ⟨Y.pos, Y.old, Y.parts, Y.right, Y.nd, Y.sub, Y.less, Y.dec, Y.rdy, Y.dn⟩
     · intro x hx hno
      refine I.en x hx (fun ⟨y, hy, e⟩ => ?_);rcases mem2 y hy with rfl | hy
      · exact hnd ⟨x, hx, e.symm⟩
      · exact hno ⟨y, hy, e⟩
     · intro d
      rw [I.hl d];constructor
      · rintro ⟨x, hx, e, hd⟩
       rcases mem2 x hx with rfl | hx
       · rw [c3.2] at hd; cases hd
       · exact ⟨x, hx, e, hd⟩
      · rintro ⟨x, hx, e, hd⟩
       exact ⟨x, (mem x hx).1, e, hd⟩
    have : Inv n P { W with hd := { W.hd with opn := A ++ ((U : Option O4).toList ++ B), log := W.hd.log ++ [] } } := by simpa using I'
    refine ⟨this, fun q hq => ?_⟩;have := zkv (P := P) (W := { W with hd := { W.hd with opn := A ++ B } }) I.n3 hnum O.pos O.old O.right (fun ⟨x, hx, e⟩ => (mem x hx).2 e) hnd q hq;simpa using this
   · rw [if_neg c3]
    by_cases c4 : m.1 = 6 ∧ o.2.2.1 = true ∧ (inI (zr o.2.1) m.2.2.1 = true ∧ inI o.2.2.2 m.2.2.1 = false)
    · rw [if_pos c4]
     obtain ⟨k6, hud, hin, hnew⟩ := c4;have hkin := zc9.1 hin;have hknot : m.2.2.1 ∉ o.2.2.2 := fun h => by rw [zc9.2 h] at hnew; cases hnew
     have hnd' : (o.2.2.2 ++ [m.2.2.1]).Nodup := by
      rw [kaj];exact ⟨O.nd, by simp, fun a ha b hb e => hknot (by rw [kad.1 hb] at e; exact e ▸ ha)⟩
     have hsub' : ∀ k ∈ o.2.2.2 ++ [m.2.2.1], k ∈ zr o.2.1 := fun k hk => by
      rcases kab.1 hk with hk | hk
      · exact O.sub k hk
      · rw [kad.1 hk]; exact hkin
     have hdn : ∀ k ∈ o.2.2.2 ++ [m.2.2.1], dnW W k o.1 := fun k hk => by
      rcases kab.1 hk with hk | hk
      · exact O.dn hud k hk
      · rw [kad.1 hk, eo]; exact hm.ack k6
     by_cases c5 : (o.2.2.2 ++ [m.2.2.1]).length = (zr o.2.1).length
     · -- it has ended
      rw [if_pos c5];have hall : ∀ k ∈ zr o.2.1, dnW W k o.1 := fun k hk => hdn k (cover hnd' hsub' (by omega) (zh4 _) k hk)
      have hD : zan (W.hd.log ++ [(6, o.1, [])]) = zan W.hd.log := by rw [zgv, if_neg (show ¬ (6 : Int) = 5 by decide), List.append_nil]
      have hH : zaa (W.hd.log ++ [(6, o.1, [])]) = ((zaa W.hd.log).1, zal (zaa W.hd.log).2 o.1) := by rw [zgy]; rfl
      have mem : ∀ x, x ∈ A ++ B → x ∈ W.hd.opn ∧ x.1 ≠ o.1 := fun x hx => by
       rw [ho];rcases kab.1 hx with hx | hx
       · exact ⟨by simp [hx], hoth x (kac hx)⟩
       · exact ⟨by simp [hx], hoth x (kaa hx)⟩
      have mem2 : ∀ x, x ∈ W.hd.opn → x = o ∨ x ∈ A ++ B := fun x hx => by
       rw [ho] at hx;rcases kab.1 hx with hx | hx
       · exact kaa (by simp [hx])
       · rcases kai.1 hx with hx | hx
        · exact kac hx
        · exact kaa (by simp [hx])
      have hdc : ∀ d, zbb { W with hd := { W.hd with opn := A ++ B, log := W.hd.log ++ [(6, o.1, [])] } } d ↔ zbb W d := fun d => by
       unfold zbb
       simp only [hD]
      have M : zdu P P W { W with hd := { W.hd with opn := A ++ B, log := W.hd.log ++ [(6, o.1, [])] } } := zf6 (Int.le_refl _) (fun _ _ => rfl) (fun d h => (hdc d).2 h) (fun d _ h _ => (hdc d).1 h) (fun d _ ⟨x, hx, e, hd⟩ => ⟨x, (mem x hx).1, e, hd⟩) (fun d _ ⟨x, hx, e⟩ => ⟨x, (mem x hx).1, e⟩)
      have I' : Inv n P { W with hd := { W.hd with opn := A ++ B, log := W.hd.log ++ [(6, o.1, [])] } } := by
       refine I.ofHead M I.boot1 I.boot20 I.next0 I.next64 ?_ ?_ (cut_nd hap) ?_ ?_ ?_ ?_ ?_ ?_ ?_ ?_
       · show W.hd.boot = (zaa (W.hd.log ++ [(6, o.1, [])])).1; rw [hH]; exact I.bootL
       · have := I.few; rw [ho] at this; simp at this ⊢; omega
       · intro x hx
        have Y := I.opn x (mem x hx).1;exact ⟨Y.pos, Y.old, Y.parts, Y.right, Y.nd, Y.sub, Y.less, by rw [hdc]; exact Y.dec, Y.rdy, Y.dn⟩
       · show ∀ x ∈ zan (W.hd.log ++ [(6, o.1, [])]), _
        rw [hD]; exact I.dec
       · show ((zan (W.hd.log ++ [(6, o.1, [])])).map (·.1)).Nodup
        rw [hD]; exact I.decNd
       · show ∀ x ∈ zan (W.hd.log ++ [(6, o.1, [])]), _
        rw [hD]; exact I.dr
       · show ∀ x ∈ zan (W.hd.log ++ [(6, o.1, [])]), _
        rw [hD];intro x hx hno;by_cases e : x.1 = o.1
        · have hp : x.2 = o.2.1 := by rw [(I.dec x hx).2.2.1, O.parts, e]
         intro k hk;rw [e];exact hall k (by rw [← hp]; exact hk)
        · refine I.en x hx (fun ⟨y, hy, e'⟩ => ?_)
         rcases mem2 y hy with rfl | hy
         · exact e e'.symm
         · exact hno ⟨y, hy, e'⟩
       · intro d
        show (∃ x ∈ (zaa (W.hd.log ++ [(6, o.1, [])])).2, x.1 = d) ↔ _
        rw [hH];constructor
        · rintro ⟨x, hx, e⟩
         obtain ⟨hx1, hx2⟩ := zc0 hx;obtain ⟨y, hy, e', hd⟩ := (I.hl d).1 ⟨x, hx1, e⟩;rcases mem2 y hy with rfl | hy
         · exact absurd (e.trans e'.symm) hx2
         · exact ⟨y, hy, e', hd⟩
        · rintro ⟨x, hx, e, hd⟩
         obtain ⟨y, hy, e'⟩ := (I.hl d).2 ⟨x, (mem x hx).1, e, hd⟩;refine ⟨y, ?_, e'⟩;show y ∈ zal _ _
         unfold zal
         rw [List.mem_filter];refine ⟨hy, ?_⟩;have : y.1 ≠ o.1 := fun h => (mem x hx).2 (by rw [e, ← e', h])
         simpa using this
       · show ((zaa (W.hd.log ++ [(6, o.1, [])])).2.map (·.1)).Nodup
        rw [hH]; exact zhy I.hlNd _
       · show ∀ x ∈ (zaa (W.hd.log ++ [(6, o.1, [])])).2, x ∈ zan (W.hd.log ++ [(6, o.1, [])])
        rw [hH, hD];exact fun x hx => I.hlIn x (zc0 hx).1
      refine ⟨?_, fun q hq => by cases hq⟩;simpa using I'
     · rw [if_neg c5]
      have hlt : (o.2.2.2 ++ [m.2.2.1]).length < (zr o.2.1).length := by
       have := O.less;rw [List.length_append, List.length_singleton] at c5 ⊢
       omega
      have := I.swap (o' := (o.1, o.2.1, true, o.2.2.2 ++ [m.2.2.1])) ho rfl hud.symm ⟨O.pos, O.old, O.parts, O.right, hnd', hsub', hlt, ⟨fun _ => O.dec.1 hud, fun _ => rfl⟩, (fun h => by cases h), fun _ => hdn⟩;refine ⟨?_, fun q hq => by cases hq⟩;simpa using this
    · rw [if_neg c4]
     have hsame : ({ W with hd := { W.hd with opn := A ++ ((some o).toList ++ B), log := W.hd.log ++ [] } } : WW) = W := by
      have e : A ++ ((some o).toList ++ B) = W.hd.opn := by rw [ho]; rfl
      rw [e, List.append_nil]
     by_cases c6 : m.1 = 7 ∧ o.2.2.1 = true
     · rw [if_pos c6]
      simp only
      rw [hsame];refine ⟨I, fun q hq => ?_⟩;rw [kad.1 hq];exact ⟨by unfold za9; simp; omega, hm.here, hm.old, fun h => absurd h (by simp), fun h => absurd h (by simp), fun _ => ⟨by show zbb W m.2.1; rw [← eo]; exact O.dec.1 c6.2, hm.ask c6.1⟩, fun h => absurd h (by simp), fun h => absurd h (by simp), fun h => absurd h (by simp)⟩
     · rw [if_neg c6]
      simp only
      rw [hsame];exact ⟨I, fun q hq => by cases hq⟩
theorem zht (l : List P3) (hd : List Int) (x : Int) : inI (wtO l hd) x = (inI (zr l) x && !inI hd x) := by
 rw [Bool.eq_iff_iff, zc9, Bool.and_eq_true, zc9, Bool.not_eq_true'];unfold wtO
 rw [List.mem_filter];simp
theorem zmm {l : List P3} {hd : List Int} {x : Int} (hn : hd.Nodup) (hs : ∀ k ∈ hd, k ∈ zr l) (hx : x ∈ zr l) (hxn : x ∉ hd) : (wtO l (hd ++ [x])).length = 0 ↔ (hd ++ [x]).length = (zr l).length := by
 have hn' : (hd ++ [x]).Nodup := by
  rw [kaj];exact ⟨hn, by simp, fun a ha b hb e => by rw [kad.1 hb] at e; exact hxn (e ▸ ha)⟩
 have hs' : ∀ k ∈ hd ++ [x], k ∈ zr l := fun k hk => by
  rcases kab.1 hk with hk | hk
  · exact hs k hk
  · rw [kad.1 hk]; exact hx
 have hle := zg1 hn' hs';constructor
 · intro h
  have h0 := List.eq_nil_of_length_eq_zero h;unfold wtO at h0
  rw [List.filter_eq_nil_iff] at h0
  have h1 : ∀ k ∈ zr l, k ∈ hd ++ [x] := fun k hk => by
   have h2 := h0 k hk;rw [Bool.not_eq_true, Bool.not_eq_false'] at h2;exact zc9.1 h2
  have h3 := zg1 (zh4 l) h1;omega
 · intro h
  have h1 := cover hn' hs' (by omega) (zh4 l)
  have h0 : wtO l (hd ++ [x]) = [] := by
   unfold wtO
   rw [List.filter_eq_nil_iff];intro k hk;rw [Bool.not_eq_true, Bool.not_eq_false'];exact zc9.2 (h1 k hk)
  rw [h0]; rfl
theorem zgd {m : Q4} : ∀ {O : List O4} {i : Nat} (hi : i < O.length), O[i].1 = m.2.1 → (∀ j (hj : j < O.length), j < i → O[j].1 ≠ m.2.1) → zb2 m O = some (O.take i ++ ((zv m O[i]).1.toList ++ O.drop (i + 1)), (zv m O[i]).2.1, (zv m O[i]).2.2)
 | [], i, hi, _, _ => by simp at hi
 | o :: t, 0, _, h, _ => by
  simp only [List.getElem_cons_zero] at h
  simp [zb2, h]
 | o :: t, i + 1, hi, h, hl => by
  have h0 : o.1 ≠ m.2.1 := hl 0 (by simp) (by omega);have ih := zgd (m := m) (O := t) (i := i) (by simpa using hi) (by simpa using h) (fun j hj hji => hl (j + 1) (Nat.succ_lt_succ hj) (by omega));simp only [zb2, if_neg h0, ih, Option.map_some, List.take_succ_cons, List.getElem_cons_succ, List.drop_succ_cons, List.cons_append]
theorem znc {m : Q4} : ∀ {O : List O4}, (∀ o ∈ O, o.1 ≠ m.2.1) → zb2 m O = U
 | [], _ => rfl
 | o :: t, h => by
  simp only [zb2, if_neg (h o List.mem_cons_self), znc (fun x hx => h x (List.mem_cons_of_mem _ hx)), Option.map_none]
theorem zpi (la oa : Option Addr) (nl lc no oc : Nat) (bt nx : Int) (L : List R3) (O : List O4) (Y : List XL) (X : List XO) (mk md mh : Int) (ma : Option Addr) (mn mc : Nat) (ml : List P3) (w : World) (H : zbf (fun _ => False) w la nl Y oa no X L O) (hf : zcd O) (hok : OkL L) (hl : L.length ≤ 400000) (hno : ∀ o ∈ O, o.1 ≠ md) :
  Calls Tryz.prog 24 #[.agg #[G la nl lc, E J bt, E J nx, G oa no oc], .agg #[E J mk, E J md, E J mh, G ma mn mc]] w fun e w' => ∃ v' sv, e = .returned (.tuple #[v', sv]) ∧ (∀ R : Nat → Prop, (∀ b, R b → b < w.heap.size) → zy R w' v' (zc ⟨L, bt, nx, O⟩ (mk, md, mh, ml)).1) ∧ zm w' w.heap.size sv (zc ⟨L, bt, nx, O⟩ (mk, md, mh, ml)).2 ∧ Z w.heap.size w w' := by
 have hb0 : Z w.heap.size w (((w.alloc (T #[G la nl lc, E J bt, E J nx, G oa no oc] 29)).alloc (T #[E J mk, E J md, E J mh, G ma mn mc] 25)).alloc (T #[G U 0 0, E J 0, E J 0, G U 0 0] 29)) := (zax w (T #[G la nl lc, E J bt, E J nx, G oa no oc] 29) (T #[E J mk, E J md, E J mh, G ma mn mc] 25)).alloc (by simp; omega) _;have h0 : Blk (((w.alloc (T #[G la nl lc, E J bt, E J nx, G oa no oc] 29)).alloc (T #[E J mk, E J md, E J mh, G ma mn mc] 25)).alloc (T #[G U 0 0, E J 0, E J 0, G U 0 0] 29)) w.heap.size #[G la nl lc, E J bt, E J nx, G oa no oc] 29 := ((Blk.new _ _ _).alloc _).alloc _;have hm0 : Blk (((w.alloc (T #[G la nl lc, E J bt, E J nx, G oa no oc] 29)).alloc (T #[E J mk, E J md, E J mh, G ma mn mc] 25)).alloc (T #[G U 0 0, E J 0, E J 0, G U 0 0] 29)) (w.heap.size + 1) #[E J mk, E J md, E J mh, G ma mn mc] 25 := Blk.alloc (zao _ _ _) _;have hs2 : ((w.alloc (T #[G la nl lc, E J bt, E J nx, G oa no oc] 29)).alloc (T #[E J mk, E J md, E J mh, G ma mn mc] 25)).heap.size = w.heap.size + 2 := by simp
 have hz0 : Blk (((w.alloc (T #[G la nl lc, E J bt, E J nx, G oa no oc] 29)).alloc (T #[E J mk, E J md, E J mh, G ma mn mc] 25)).alloc (T #[G U 0 0, E J 0, E J 0, G U 0 0] 29)) (w.heap.size + 2) #[G U 0 0, E J 0, E J 0, G U 0 0] 29 := by rw [← hs2]; exact Blk.new _ _ _
 have hs0 : (((w.alloc (T #[G la nl lc, E J bt, E J nx, G oa no oc] 29)).alloc (T #[E J mk, E J md, E J mh, G ma mn mc] 25)).alloc (T #[G U 0 0, E J 0, E J 0, G U 0 0] 29)).heap.size = w.heap.size + 3 := by simp
 have hnL : nl = L.length := by rw [← H.says, List.length_map]; exact H.ln
 have HG := zE (H.below hb0) hf hok hl hnL;clear H hf hok hl hnL hs2;go_enter Tryz.func24, Tryz.ntmps24
 go_upto_region 1 with fail
 generalize (((w.alloc (T #[G la nl lc, E J bt, E J nx, G oa no oc] 29)).alloc (T #[E J mk, E J md, E J mh, G ma mn mc] 25)).alloc (T #[G U 0 0, E J 0, E J 0, G U 0 0] 29)) = V at *;obtain ⟨x0, x1, x2, x3⟩ := h0.cells4;have l0 := h0.lt;go_wp2_with fail
 refine (zfy la oa nl lc no oc bt nx Y X L O V HG.out.1 HG.out.2.1 HG.out.2.2.1 (by have := HG.out.2.2.2.1; omega)).mono ?_;rintro e w2 ⟨_, rfl, ⟨a2, n2, c2, Y2, a3, n3, c3, X2, rfl, hO2, hE2⟩, hbw2⟩;have hn2 : n2 = nl := by rw [(hO2.log.1.at za6).2.1, HG.out.2.2.2.2, ← hO2.says, List.length_map]
 subst hn2
 have H1 : Q (HrS w mk md mh (G ma mn mc) bt nx w2.heap.size (w2.alloc (T #[G a2 n2 c2, E J bt, E J nx, G a3 n3 c3] 29)) a2 n2 c2 Y2 L a3 n3 c3 X2 O) := by
  have hbb := zh w2 (T #[G a2 n2 c2, E J bt, E J nx, G a3 n3 c3] 29);have hsz := hbw2.size;exact ⟨(hm0.below hbw2 hm0.lt).below hbb (by omega), (hz0.below hbw2 hz0.lt).below hbb (by omega), Blk.new _ _ _, (hO2.mono (by omega : w.heap.size + 3 ≤ V.heap.size)).below hbb, (hE2.mono (by omega : w.heap.size + 3 ≤ V.heap.size)).below hbb, (hb0.trans (hbw2.mono hb0.size)).trans (hbb.mono (by omega)), by omega⟩
 clear hO2 hE2 hbw2 hb0 hz0 hm0 h0 hs0 x0 x1 x2 x3 l0;go_upto_region 3 with fail
 obtain ⟨N7, hN7⟩ : ∃ N7, N7 = w2.heap.size := ⟨_, rfl⟩;rw [← hN7] at H1;generalize w2.alloc (T #[G a2 n2 c2, E J bt, E J nx, G a3 n3 c3] 29) = A at *;rw [← hN7];clear hN7;obtain ⟨nl, hnl'⟩ : ∃ nl, nl = n2 := ⟨_, rfl⟩;subst hnl';have x3 := H1.out.ob.cell 3;simp only [kaf, kag, List.getElem?_cons_succ] at x3
 have l0 := H1.out.ob.lt;have hn3 : Q (n3 = X2.length ∧ X2.length ≤ 100000) := ⟨(H1.out.hd.opn.at zar).2.1, by have h1 := H1.out.hd.osays; have h2 := HG.out.2.1.1; rw [← h1, List.length_map] at h2; exact h2⟩;go_wp2_with fail
 refine (zf0 56 #[.pointer (some ⟨w.heap.size + 1, 0, U⟩)] zgl (fun x => x.1 == md) a3 X2 c3 n3 A hn3.out.1 (by have := hn3.out.2; omega) (H1.out.hd.opn.at zar).1 (fun x _ w' hb => zgj (w.heap.size + 1) mk md mh x.1 (G ma mn mc) _ _ _ w' (H1.out.mb.below hb H1.out.mb.lt))).mono ?_;rintro e w3 ⟨jj, rfl, hidx, hb3⟩;have HX := zA hidx;have H3 : Q (HrS w mk md mh (G ma mn mc) bt nx N7 (w3.alloc (T #[E J jj] 3)) a2 nl c2 Y2 L a3 n3 c3 X2 O ∧ Blk (w3.alloc (T #[E J jj] 3)) w3.heap.size #[E J jj] 3) := ⟨(H1.out.below hb3).below (zh w3 _), Blk.new _ _ _⟩;clear hidx hb3 H1 x3 l0;go_upto_region 4 with fail
 generalize w3.alloc (T #[E J jj] 3) = D at *;have i0 := H3.out.2.cell 0;simp only [kaf, kag] at i0
 have li := H3.out.2.lt
 have hr : Q (jj = -1) := by
  rcases HX.out with ⟨h, _⟩ | ⟨i, hi, _, hp, _⟩
  · exact h
  · exfalso
   have h1 := hno (zw X2[i]) (by rw [← H3.out.1.hd.osays]; exact kae.2 ⟨_, List.getElem_mem hi, rfl⟩);exact h1 (by simpa [zw] using hp)
 have hrn := hr.out;subst hrn;have HH : Q (zb2 (mk, md, mh, ml) O = U) := znc hno;clear hno;by_cases k7 : mk = 7
 · have HP : Q (zc ⟨L, bt, nx, O⟩ (mk, md, mh, ml) = (⟨L, bt, nx, O⟩, [(5, md, mh, [])])) := by
   show _ = _
   unfold zc
   simp only
   rw [HH.out];simp [k7]
  have m0 := H3.out.1.mb.cell 0;simp only [kaf, kag] at m0
  have lm := H3.out.1.mb.lt;have e7 : (mk == 7) = true := by simpa using k7
  clear k7;go_upto_region 6 with fail
  clear i0 li m0 lm e7;have hX1 : Z D.heap.size D D.drew := (Below.refl _ _).drew;have HK : Q (∀ w', Z D.heap.size D w' → (w'.cell? ⟨N7, 0, U⟩ = some (G a2 nl c2) ∧ w'.cell? ⟨N7, 1, U⟩ = some (E J bt) ∧ w'.cell? ⟨N7, 2, U⟩ = some (E J nx) ∧ w'.cell? ⟨N7, 3, U⟩ = some (G a3 n3 c3))) := fun w' hb => ⟨(H3.out.1.ob.below hb H3.out.1.ob.lt).cell 0, (H3.out.1.ob.below hb H3.out.1.ob.lt).cell 1, (H3.out.1.ob.below hb H3.out.1.ob.lt).cell 2, (H3.out.1.ob.below hb H3.out.1.ob.lt).cell 3⟩
  refine zb8 (S := fun w' => (w'.cell? ⟨N7, 0, U⟩ = some (G a2 nl c2) ∧ w'.cell? ⟨N7, 1, U⟩ = some (E J bt) ∧ w'.cell? ⟨N7, 2, U⟩ = some (E J nx) ∧ w'.cell? ⟨N7, 3, U⟩ = some (G a3 n3 c3))) 3 (by kernel_rfl) (HK.out _ hX1) (fun hHeld => ?_);refine tks 2 [(0, 25), (1, 26)] (b := ?_) rfl (by decide +kernel) (fun _ _ _ _ _ h => h) ?_ hHeld ?_;rotate_left 1
  · iterate 2 (refine zp.cons (v := ?_) rfl rfl (by rfl) ?_ ?_; rotate_left 1; (intro w h; (try dsimp only at h); go_simp; try with_reducible rfl))
   exact zp.nil
  refine rdy 2 (by kernel_rfl) rfl (fun K hK => ?_);go_simp;refine (zm6 (w.heap.size + 1) mk md mh 5 (G ma mn mc) D.drew (H3.out.1.mb.below hX1 H3.out.1.mb.lt)).mono ?_;rintro e w4 ⟨v4, rfl, hM4, hb4⟩;have hX4 := hX1.trans (hb4.mono hX1.size);have hM4' : zm w4 w.heap.size v4 [(5, md, mh, [])] := hM4.mono (by have h1 := H3.out.1.bel.size; have h2 := hX1.size; omega);clear hM4 hb4;go_wp2_with fail
  refine kgo hK (by decide +kernel) ((HK.out _ hX4)) (fun hHeld => ?_);clear hK K;have z := H3.out.1.rb.below hX4 H3.out.1.rb.lt;obtain ⟨t0, t1, t2, t3⟩ := z.cells4;obtain ⟨y0, y1, y2, y3⟩ := z.free4;have lr := z.lt;refine rdy 3 (by kernel_rfl) rfl (fun K hK => ?_);go_simp;refine za8 hK (by decide +kernel) ?_;clear hK K hHeld;refine rdy 4 (by kernel_rfl) rfl (fun K hK => ?_);go_simp;refine za8 hK (by decide +kernel) ?_;clear hK K;refine zba (by kernel_rfl) ?_ _;obtain ⟨p1, p2, p3⟩ := (H3.out.1.below hX4).ret;obtain ⟨e0, e1, e2, e3⟩ := p3.cells4;have HF : Q ((∀ R : Nat → Prop, (∀ b, R b → b < w.heap.size) → zy R (r (r (r (r w4 ⟨(w.heap.size + 2), 0, U⟩ (G a2 nl c2)) ⟨(w.heap.size + 2), 1, U⟩ (E J bt)) ⟨(w.heap.size + 2), 2, U⟩ (E J nx)) ⟨(w.heap.size + 2), 3, U⟩ (G a3 n3 c3)) (.agg #[G a2 nl c2, E J bt, E J nx, G a3 n3 c3]) (zc ⟨L, bt, nx, O⟩ (mk, md, mh, ml)).1) ∧ zm (r (r (r (r w4 ⟨(w.heap.size + 2), 0, U⟩ (G a2 nl c2)) ⟨(w.heap.size + 2), 1, U⟩ (E J bt)) ⟨(w.heap.size + 2), 2, U⟩ (E J nx)) ⟨(w.heap.size + 2), 3, U⟩ (G a3 n3 c3)) w.heap.size v4 (zc ⟨L, bt, nx, O⟩ (mk, md, mh, ml)).2 ∧ Z w.heap.size w (r (r (r (r w4 ⟨(w.heap.size + 2), 0, U⟩ (G a2 nl c2)) ⟨(w.heap.size + 2), 1, U⟩ (E J bt)) ⟨(w.heap.size + 2), 2, U⟩ (E J nx)) ⟨(w.heap.size + 2), 3, U⟩ (G a3 n3 c3))) := by rw [HP.out]; exact ⟨p1, hM4'.set4 z _ _ _ _, p2⟩
  clear p1 p2 p3 hM4' z t0 t1 t2 t3 y0 y1 y2 y3 lr;generalize (r (r (r (r w4 ⟨(w.heap.size + 2), 0, U⟩ (G a2 nl c2)) ⟨(w.heap.size + 2), 1, U⟩ (E J bt)) ⟨(w.heap.size + 2), 2, U⟩ (E J nx)) ⟨(w.heap.size + 2), 3, U⟩ (G a3 n3 c3)) = Z9 at *;go_wp2_with fail
  refine bodyPost_ret (v := .tuple #[.agg #[G a2 nl c2, E J bt, E J nx, G a3 n3 c3], v4]) ?_ rfl ⟨_, _, rfl, HF.out.1, HF.out.2.1, HF.out.2.2⟩;simp [results, Tryz.results24, go_sem, e0, e1, e2, e3]
 · have HP : Q (zc ⟨L, bt, nx, O⟩ (mk, md, mh, ml) = (⟨L, bt, nx, O⟩, [])) := by
   show _ = _
   unfold zc
   simp only
   rw [HH.out];simp [k7]
  have m0 := H3.out.1.mb.cell 0;simp only [kaf, kag] at m0
  have lm := H3.out.1.mb.lt;have e7 : (mk == 7) = false := by simpa using k7
  clear k7;go_upto_region 7 with fail
  clear i0 li m0 lm e7;obtain ⟨r0, r1, r2, r3⟩ := (H3.out.1).ob.cells4;obtain ⟨t0, t1, t2, t3⟩ := (H3.out.1).rb.cells4;obtain ⟨y0, y1, y2, y3⟩ := (H3.out.1).rb.free4;have lo := (H3.out.1).ob.lt;have lr := (H3.out.1).rb.lt;obtain ⟨p1, p2, p3⟩ := (H3.out.1).ret;obtain ⟨e0, e1, e2, e3⟩ := p3.cells4;have HF : Q ((∀ R : Nat → Prop, (∀ b, R b → b < w.heap.size) → zy R ((((D.setCell ⟨(w.heap.size + 2), 0, U⟩ (G a2 nl c2)).setCell ⟨(w.heap.size + 2), 1, U⟩ (E J bt)).setCell ⟨(w.heap.size + 2), 2, U⟩ (E J nx)).setCell ⟨(w.heap.size + 2), 3, U⟩ (G a3 n3 c3)) (.agg #[G a2 nl c2, E J bt, E J nx, G a3 n3 c3]) (zc ⟨L, bt, nx, O⟩ (mk, md, mh, ml)).1) ∧ zm ((((D.setCell ⟨(w.heap.size + 2), 0, U⟩ (G a2 nl c2)).setCell ⟨(w.heap.size + 2), 1, U⟩ (E J bt)).setCell ⟨(w.heap.size + 2), 2, U⟩ (E J nx)).setCell ⟨(w.heap.size + 2), 3, U⟩ (G a3 n3 c3)) w.heap.size (G U 0 0) (zc ⟨L, bt, nx, O⟩ (mk, md, mh, ml)).2 ∧ Z w.heap.size w ((((D.setCell ⟨(w.heap.size + 2), 0, U⟩ (G a2 nl c2)).setCell ⟨(w.heap.size + 2), 1, U⟩ (E J bt)).setCell ⟨(w.heap.size + 2), 2, U⟩ (E J nx)).setCell ⟨(w.heap.size + 2), 3, U⟩ (G a3 n3 c3))) := by rw [HP.out]; exact ⟨p1, zm.nil _ _, p2⟩
  clear p1 p2 p3;go_wp2_with fail
  clear r0 r1 r2 r3 t0 t1 t2 t3 y0 y1 y2 y3 lo lr;generalize ((((D.setCell ⟨(w.heap.size + 2), 0, U⟩ (G a2 nl c2)).setCell ⟨(w.heap.size + 2), 1, U⟩ (E J bt)).setCell ⟨(w.heap.size + 2), 2, U⟩ (E J nx)).setCell ⟨(w.heap.size + 2), 3, U⟩ (G a3 n3 c3)) = Z9 at *;refine bodyPost_ret (v := .tuple #[.agg #[G a2 nl c2, E J bt, E J nx, G a3 n3 c3], (G U 0 0)]) ?_ rfl ⟨_, _, rfl, HF.out.1, HF.out.2.1, HF.out.2.2⟩;simp [results, Tryz.results24, go_sem, e0, e1, e2, e3]
end Go.Proofs.YtpcnlifmkhagkaaGreat
