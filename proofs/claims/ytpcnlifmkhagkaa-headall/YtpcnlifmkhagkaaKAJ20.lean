import Derived.Test.YtpcnlifmkhagkaaKAJ19
import Derived.Test.YtpcnlifmkhagkaaKAJ18
set_option maxRecDepth 20000
set_option maxHeartbeats 20000000
namespace Go.Proofs.Ytpcnlifmkhagkaa
open Go.RowKit
open Go.Value renaming slice → G, int → E
open Go.IntKind renaming i64 → J
open _root_.Option renaming none → U
open Go.Obj renaming cells → T
open Go.RowKit renaming Hid → Q, Below → Z
open Go.World renaming setCell → r
open _root_.Or renaming inr → kaa, inl → kac
open _root_.List renaming mem_append → kab, mem_singleton → kad, mem_cons → kaf, nodup_append → kag
open Go.Value renaming ownBlock → kae
attribute [local go_sem ↓] Go.wp_at_zero Go.wp_at_succ
theorem zkt {H : Int} : ∀ {l seen : List P3}, (∀ p ∈ l, inB p H = true) → (∀ p ∈ l, hasB p seen = false) → l.Pairwise (fun p q => zex p q = false) → zdp H seen l = 0
 | [], _, _, _, _ => rfl
 | p :: t, seen, h1, h2, h3 => by
  rw [List.pairwise_cons] at h3;unfold zdp
  rw [if_pos (h1 p (by simp)), if_neg (by rw [h2 p (by simp)]; simp)];refine zkt (fun q hq => h1 q (by simp [hq])) (fun q hq => ?_) h3.2;rw [zl6, h2 q (by simp [hq]), h3.1 q hq];rfl
theorem zjs {l : List P3} {H : Int} (h1 : 1 ≤ l.length) (h4 : l.length ≤ 4) (hin : ∀ p ∈ l, inB p H = true) (hpw : l.Pairwise (fun p q => zex p q = false)) : zay l H = 0 := by
 unfold zay
 rw [if_neg (by omega)];exact zkt hin (fun p _ => rfl) hpw
theorem ziz {p : P3} {H H' : Int} (h : inB p H = true) (hH : H ≤ H') : inB p H' = true := by
 simp only [inB, decide_eq_true_eq] at h ⊢
 omega
theorem zlz {l : List P3} {n : Nat} (hn : n ≤ 3) (h : zay l n = 0) {k : Int} (hk : k ∈ zp l) : zay (ofB l k) 3 = 0 ∧ (∀ p ∈ ofB l k, p.1 = k) ∧ 0 ≤ k ∧ k < n := by
 obtain ⟨h1, h4, hin, hpw⟩ := zc4 h;obtain ⟨_, hpos⟩ := zjx.1 hk;have hsub : (ofB l k).Sublist l := List.filter_sublist
 have qy : ∀ p ∈ ofB l k, p.1 = k := fun p hp => by
  have := (List.mem_filter.1 hp).2
  simpa using this
 refine ⟨zjs (by omega) (Nat.le_trans hsub.length_le h4) (fun p hp => ziz (hin p (hsub.subset hp)) (by omega)) (hpw.sublist hsub), qy, ?_⟩;obtain ⟨p, hp⟩ := List.exists_mem_of_length_pos hpos;have h5 := hin p (hsub.subset hp);have h6 := qy p hp;simp only [inB, decide_eq_true_eq] at h5
 omega
theorem ziv {l : List P3} {n : Nat} (hn : n ≤ 3) (h : zay l n = 0) : 0 < (zp l).length := by
 obtain ⟨h1, h4, hin, _⟩ := zc4 h;obtain ⟨p, hp⟩ := List.exists_mem_of_length_pos (show 0 < l.length by omega);have h5 := hin p hp;simp only [inB, decide_eq_true_eq] at h5
 have : p.1 ∈ zp l := zjx.2 ⟨by omega, List.length_pos_iff_exists_mem.2 ⟨p, List.mem_filter.2 ⟨hp, by simp⟩⟩⟩;exact List.length_pos_iff_exists_mem.2 ⟨_, this⟩
theorem zgt (l : List P3) : (zp l).Nodup := List.Nodup.sublist List.filter_sublist (by decide)
theorem cover : ∀ {A B : List Int}, A.Nodup → (∀ x ∈ A, x ∈ B) → B.length ≤ A.length → B.Nodup → ∀ x ∈ B, x ∈ A
 | [], B, _, _, hl, _, x, hx => by
  have : B = [] := List.eq_nil_of_length_eq_zero (by simpa using hl);rw [this] at hx; cases hx
 | a :: t, B, hA, hs, hl, hB, x, hx => by
  rw [List.nodup_cons] at hA;by_cases e : x = a
  ·rw [e]; simp
  ·have ha := hs a (by simp)
   have hx' := (List.mem_erase_of_ne e).2 hx;have := cover (A := t) (B := B.erase a) hA.2 (fun y hy => (List.mem_erase_of_ne (fun (e' : y = a) => hA.1 (e' ▸ hy))).2 (hs y (by simp [hy]))) (by rw [List.length_erase_of_mem ha]; simp at hl; omega) (hB.erase a) x hx';simp [this]
theorem zf9 : ∀ {A B : List Int}, A.Nodup → (∀ x ∈ A, x ∈ B) → A.length ≤ B.length
 | [], _, _, _ => Nat.zero_le _
 | a :: t, B, hA, hs => by
  rw [List.nodup_cons] at hA;have ha := hs a (by simp);have := zf9 (A := t) (B := B.erase a) hA.2 (fun y hy => (List.mem_erase_of_ne (fun (e' : y = a) => hA.1 (e' ▸ hy))).2 (hs y (by simp [hy])));rw [List.length_erase_of_mem ha] at this;have hp := List.length_pos_iff_exists_mem.2 ⟨a, ha⟩;simp; omega
theorem zi2 {n : Nat} {P : Int → List P3} {W : WW} (hn : n ≤ 3) (hnum : za0 W ≤ 1344) {o : O4} (O : zgr n P W o) : ∀ q ∈ za6 o, zbq n P W q := by
 intro q hq;unfold za6 at hq
 obtain ⟨k, hk, rfl⟩ := List.mem_map.1 hq;have hkh := (List.mem_filter.1 hk).1;obtain ⟨hw, qy, hk0, hkn⟩ := zlz hn O.right hkh;have h0 := O.pos;have h1 := O.old;have hd : o.1 ≤ 1343 := by omega
 split
 ·rename_i hdec
  exact ⟨by unfold zbd; simp; omega, hkn, h1, fun h => absurd h (by simp), fun h => absurd h (by simp), fun _ => ⟨O.dec.1 hdec, by show k ∈ zp (P o.1); rw [← O.parts]; exact hkh⟩, fun h => absurd h (by simp), fun h => absurd h (by simp), fun h => absurd h (by simp)⟩
 ·refine ⟨?_, hkn, h1, fun _ => ⟨by show ofB o.2.1 k = ofB (P o.1) k; rw [← O.parts], by show k ∈ zp (P o.1); rw [← O.parts]; exact hkh⟩, fun h => absurd h (by simp), fun h => absurd h (by simp), fun h => absurd h (by simp), fun h => absurd h (by simp), fun h => absurd h (by simp)⟩
  show zbd 1 o.1 k (ofB o.2.1 k) = 0
  unfold zbd
  rw [if_neg (by omega), if_neg (by omega), if_neg (by omega), if_pos hw, if_neg];simp only [List.any_eq_true, Bool.not_eq_true', decide_eq_false_iff_not, not_exists, not_and, Decidable.not_not]
  exact qy
theorem zlj {n : Nat} {P : Int → List P3} {W : WW} (hn : n ≤ 3) (hnum : za0 W ≤ 1344) {o : O4} (h0 : 0 ≤ o.1) (h1 : o.1 < za0 W) (hr : zay o.2.1 n = 0) (ho : ¬ zds W o.1) (hd : ¬ zbf W o.1) : ∀ q ∈ za9 o, zbq n P W q := by
 intro q hq;unfold za9 at hq
 obtain ⟨k, hk, rfl⟩ := List.mem_map.1 hq;obtain ⟨hw, qy, hk0, hkn⟩ := zlz hn hr hk;exact ⟨by unfold zbd; simp; omega, hkn, h1, fun h => absurd h (by simp), fun h => absurd h (by simp), fun h => absurd h (by simp), fun _ => ⟨ho, fun h => absurd h hd⟩, fun h => absurd h (by simp), fun h => absurd h (by simp)⟩
theorem Inv.ofHead {n : Nat} {P P' : Int → List P3} {W : WW} (I : Inv n P W) {g : Gh} (M : zdw P P' W { W with hd := g })
  (boot1 : 1 ≤ g.boot) (boot20 : g.boot ≤ 20) (next0 : 0 ≤ g.next) (next64 : g.next ≤ 64) (bootL : g.boot = (zac g.log).1) (few : g.opn.length ≤ 12) (apart : (g.opn.map (·.1)).Nodup)
  (opn : ∀ o ∈ g.opn, zgr n P' { W with hd := g } o) (dec : ∀ x ∈ zab g.log, 0 ≤ x.1 ∧ x.1 < za0 { W with hd := g } ∧ x.2 = P' x.1 ∧ zay x.2 n = 0) (decNd : ((zab g.log).map (·.1)).Nodup)
  (dr : ∀ x ∈ zab g.log, ∀ k ∈ zp x.2, zd0 W k x.1 ∨ dnW W k x.1) (en : ∀ x ∈ zab g.log, ¬ zds { W with hd := g } x.1 → ∀ k ∈ zp x.2, dnW W k x.1)
  (hl : ∀ d, (∃ x ∈ (zac g.log).2, x.1 = d) ↔ ∃ o ∈ g.opn, o.1 = d ∧ o.2.2.1 = true) (hlNd : ((zac g.log).2.map (·.1)).Nodup) (hlIn : ∀ x ∈ (zac g.log).2, x ∈ zab g.log) : Inv n P' { W with hd := g } := by
 refine ⟨I.n3, I.len, boot1, boot20, next0, next64, bootL, I.small, few, apart, opn, dec, decNd, dr, en, hl, hlNd, hlIn, fun m hm => (I.net m hm).mono M, fun k h0 hk => ?_⟩;have zY := I.hou k h0 hk
 have hold : ∀ d ∈ (ze (W.at k)).2.2, P' d = P d := fun d hd => by
  obtain ⟨x, hx, e⟩ := (zY.done d hd).1;have := (I.dec x hx).2.1;exact M.same d (by rw [← e]; exact this)
 refine ⟨zY.good, fun x hx => Int.lt_of_lt_of_le (zY.old x hx) M.num, fun x hx => ?_, zY.nd, fun d hd => ?_, zY.apart, ?_⟩
 ·rw [M.same _ (zY.old x hx)]; exact zY.parts x hx
 ·rw [hold d hd]; exact ⟨M.dcd _ (zY.done d hd).1, (zY.done d hd).2⟩
 ·show (ze (W.at k)).1 = _
  rw [zY.sums]
  have key : ∀ (l : List Int) (s : S4), (∀ d ∈ l, P' d = P d) → l.foldl (fun s d => doB s (ofB (P d) k)) s = l.foldl (fun s d => doB s (ofB (P' d) k)) s := by
   intro l
   induction l with
   | nil => intro s _; rfl
   | cons a t ih =>
    intro s h;rw [List.foldl_cons, List.foldl_cons, h a (by simp)];exact ih _ (fun d hd => h d (by simp [hd]))
  exact key _ _ hold
def zcb (l : List P3) : Prop := zay l 3 = 0
theorem zcb.houses {l : List P3} (h : zcb l) : zht l = zp l := by
 obtain ⟨h1, h4, hin, _⟩ := zc4 h;rw [zm4 h1 h4 hin, zfs]
theorem zn7 (b : Nat) (dd : Int) (pa : Option Addr) (ln pc : Nat) (dec : Bool) (ha : Option Addr) (hn hc : Nat) (hd : List Int) (x : Int) (w : World) (hb : Blk w b #[E J dd, G pa ln pc, .bool dec, G ha hn hc] 38) (hnn : hn = hd.length) (hl : hd.length ≤ 100000) (hr : zk 1 zv w ha hd) :
  Calls Try.prog 56 #[E J x, .pointer (some ⟨b, 0, U⟩)] w fun e w' => e = .returned (.bool (inI hd x)) ∧ Z w.heap.size w w' := by
 have HC := zl7 ha hd hc hn x w hnn (by omega) hr;have b3 := hb.cell 3;simp only [List.getElem?_toArray, List.getElem?_cons_zero, List.getElem?_cons_succ] at b3
 have lb := hb.lt;clear hb hnn hl hr;generalize inI hd x = jj at *;go_enter Try.func56, Try.ntmps56
 go_wp2_with fail
 refine HC.mono ?_;rintro e w1 ⟨rfl, hb1⟩;clear b3 HC lb;go_wp2;go_ret;exact ⟨rfl, hb1⟩
theorem entersW : zfc 56 := fun _ _ => rfl
theorem zjk (dd : Int) (pa : Option Addr) (ln pc : Nat) (l : List P3) (dec : Bool) (ha : Option Addr) (hn hc : Nat) (hd : List Int) (w : World) (hln : ln = l.length) (hr : zcb l) (hp : zal w pa l) (hnn : hn = hd.length) (hl : hd.length ≤ 100000) (hi : zk 1 zv w ha hd) :
  Calls Try.prog 36 #[.agg #[E J dd, G pa ln pc, .bool dec, G ha hn hc]] w fun e w' => ∃ v', e = .returned v' ∧ zd 3 1 zv w' w.heap.size v' ((zp l).filter fun n => !inI hd n) ∧ Z w.heap.size w w' := by
 have hb0 := zi w (T #[E J dd, G pa ln pc, .bool dec, G ha hn hc] 38);have hbx : Blk (w.alloc (T #[E J dd, G pa ln pc, .bool dec, G ha hn hc] 38)) w.heap.size #[E J dd, G pa ln pc, .bool dec, G ha hn hc] 38 := Blk.new _ _ _;have hout : Out (fun q => w.heap.size ≤ q) ha hd.length := (zk.out (R := fun _ => False) hi (kaa (fun _ _ h => h)) (fun b hb => kaa hb)).elim kac kaa;have HQ := zG hln hr hp hnn hl hi hout;have hsA : w.heap.size < (w.alloc (T #[E J dd, G pa ln pc, .bool dec, G ha hn hc] 38)).heap.size := by simp
 clear hln hr hp hnn hl hi hout;go_enter Try.func36, Try.ntmps36
 go_upto_region 1 with fail
 generalize w.alloc (T #[E J dd, G pa ln pc, .bool dec, G ha hn hc] 38) = A at *;have HA := zC hb0 hbx hsA;have b1 := hbx.cell 1;simp only [List.getElem?_toArray, List.getElem?_cons_zero, List.getElem?_cons_succ] at b1
 have lb := hbx.lt;clear hb0 hbx hsA;go_wp2_with fail
 obtain ⟨h1, h4, -, -⟩ := zc4 HQ.out.2.1;refine (zme pa l pc ln A HQ.out.1 h4 h1 (HQ.out.2.2.1.below HA.out.1)).mono ?_;rintro e w1 ⟨v1, rfl, ho1, hb1⟩;rw [HQ.out.2.1.houses] at ho1;obtain ⟨ga, gn, gc, rfl⟩ := ho1.own.slice zai;have H1 := zB ho1.own hb1;clear ho1 hb1 b1 h1 h4;go_wp2_with fail
 refine (zpl 56 w.heap.size entersW (fun x => inI hd x) ga (zp l) gc gn A.heap.size w1 (by have := zdy l; omega) H1.out.1 (fun x _ w' hg => ?_)).mono ?_
 ·have hbx := (HA.out.2.1.below H1.out.2 HA.out.2.1.lt).keptNe hg (fun e => by have h1 := H1.out.1.base _ e; have h2 := HA.out.2.2; omega)
  have hk : zg (fun q => w.heap.size ≤ q) w1 w' := zg.ofGrown hg (fun k hk => by have h1 := H1.out.1.base _ hk; have h2 := HA.out.2.2; omega);exact zn7 w.heap.size dd pa ln pc dec ha hn hc hd x w' hbx HQ.out.2.2.2.1 HQ.out.2.2.2.2.1 ((((HQ.out.2.2.2.2.2.1.below HA.out.1).below H1.out.2)).keepR HQ.out.2.2.2.2.2.2 hk)
 ·rintro e w2 ⟨n2, rfl, ho2, hg2⟩
  have HF := zB (ho2.mono HA.out.1.size) ((HA.out.1.trans (H1.out.2.mono HA.out.1.size)).grown hg2 (by have h1 := HA.out.1.size; have h2 := H1.out.2.size; omega) (fun k hk => by have h1 := H1.out.1.base _ hk; have h2 := HA.out.2.2; omega));clear ho2 hg2;go_wp2;go_ret;exact ⟨_, rfl, HF.out.1, HF.out.2⟩
def wtO (l : List P3) (hd : List Int) : List Int := (zp l).filter fun n => !inI hd n
theorem zmo (g q : Nat) (dd : Int) (pa : Option Addr) (ln pc : Nat) (l : List P3) (dec : Bool) (ha : Option Addr) (hn hc : Nat) (hd : List Int) (house : Int) (base : Nat) (w : World) (hg : g < w.heap.size) (c0 : w.cell? ⟨g, q, U⟩ = some (E J dd)) (c1 : w.cell? ⟨g, q + 1, U⟩ = some (G pa ln pc)) (c2 : w.cell? ⟨g, q + 2, U⟩ = some (.bool dec)) (c3 : w.cell? ⟨g, q + 3, U⟩ = some (G ha hn hc)) (f3 : w.frozen? ⟨g, q + 3, U⟩ = false)
  (hln : ln = l.length) (hr : zcb l) (hp : zam base w pa l) (hO : zd 3 1 zv w base (G ha hn hc) hd) (hbase : base ≤ w.heap.size) (hne : kae (G ha hn hc) ≠ some g) (hl : hd.length ≤ 1000) (gcs : Array Value) (hgb : Blk w g gcs 38) :
  Calls Try.prog 25 #[.pointer (some ⟨g, q, U⟩), E J house] w fun e w' =>
   (inI (wtO l hd) house = false ∧ e = .returned (.bool false) ∧ Z w.heap.size w w') ∨
   (inI (wtO l hd) house = true ∧ ∃ (w1 w2 : World) (a' : Option Addr) (n' c' : Nat), e = .returned (.bool (decide ((wtO l (hd ++ [house])).length = 0))) ∧ Z w.heap.size w w1 ∧ w1.grownBy w2 (kae (G ha hn hc)) ∧ zd 3 1 zv w2 base (G a' n' c') (hd ++ [house]) ∧ Z (r w2 ⟨g, q + 3, U⟩ (G a' n' c')).heap.size (r w2 ⟨g, q + 3, U⟩ (G a' n' c')) w') := by
 have hat := hO.at zai;have HQ : Q (ln = l.length ∧ zcb l ∧ zam base w pa l ∧ zd 3 1 zv w base (G ha hn hc) hd ∧ hd.length ≤ 1000 ∧ hn = hd.length ∧ zk 1 zv w ha hd ∧ kae (G ha hn hc) ≠ some g ∧ Blk w g gcs 38) := ⟨hln, hr, hp, hO, hl, hat.2.1, hat.1, hne, hgb⟩;have HC := zG hg c0 c1 c2 c3 f3 hbase;clear hln hr hp hO hl hat hne f3 hbase hgb;go_enter Try.func25, Try.ntmps25
 go_wp2_with fail
 refine (zjk dd pa ln pc l dec ha hn hc hd w HQ.out.1 HQ.out.2.1 HQ.out.2.2.1.at HQ.out.2.2.2.2.2.1 (by have := HQ.out.2.2.2.2.1; omega) HQ.out.2.2.2.2.2.2.1).mono ?_;rintro e w1 ⟨v1, rfl, ho1, hb1⟩;obtain ⟨ga, gn, gc, rfl⟩ := ho1.slice zai;have H1 : Q (zk 1 zv w1 ga (wtO l hd) ∧ gn = (wtO l hd).length) := ⟨(ho1.at zai).1, (ho1.at zai).2.1⟩;clear c0 c1 c2 c3 hg;go_wp2_with fail
 refine (zl7 ga (wtO l hd) gc gn house w1 H1.out.2 (by have h1 := zdy l; have h2 : (wtO l hd).length ≤ (zp l).length := List.length_filter_le _ _; omega) H1.out.1).mono ?_;rintro e w2 ⟨rfl, hb2⟩;have H2 := zA (hb1.trans (hb2.mono hb1.size));clear ho1 hb1 hb2 H1;obtain ⟨jj, hrr⟩ : ∃ jj, Q (inI (wtO l hd) house = jj) := ⟨_, rfl⟩;rw [hrr.out]
 cases jj with
 | false =>
  go_wp2;go_ret;exact kac ⟨hrr.out, rfl, H2.out⟩
 | true =>
  obtain ⟨bc, bf⟩ := zcz H2.out;have d3 := (bc g (q + 3) HC.out.1).trans HC.out.2.2.2.2.1;have hgl := Nat.lt_of_lt_of_le HC.out.1 H2.out.size;have hhl := HQ.out.2.2.2.2.1;have hbs := Nat.le_trans HC.out.2.2.2.2.2.2 H2.out.size;have hA : Z w.heap.size w (w2.alloc (T #[E J house] 3)) := H2.out.alloc H2.out.size _;have hoA := HQ.out.2.2.2.1.below hA (Nat.le_refl _);obtain ⟨ac, af⟩ := zcz hA;have e0 := (ac g q HC.out.1).trans HC.out.2.1;have e1 := (ac g (q + 1) HC.out.1).trans HC.out.2.2.1;have e2 := (ac g (q + 2) HC.out.1).trans HC.out.2.2.2.1;have e3 := (ac g (q + 3) HC.out.1).trans HC.out.2.2.2.2.1;have ef := (af g (q + 3) HC.out.1).trans HC.out.2.2.2.2.2.1;have HE := zE e0 e1 e2 e3 ef;clear bc bf ac af e0 e1 e2 e3 ef;go_upto_region 3 with fail
  go_upto_region 4 with (at_builtin; refine zbj zai zcx Try.underlying36 zcn rfl (by decide) _ rfl _ _ rfl base _ hd rfl hoA (some ⟨w2.heap.size, 0, U⟩) 1 1 [house] rfl rfl (zk.one (Blk.new w2 _ _) rfl) (by unfold maxLen; simp; omega) (by simp; omega) (by simp; omega) ?_; intro a4 n4 c4 w4 jv hn4 jy jQ; have hgA : g < (w2.alloc (T #[E J house] 3)).heap.size := (by simp; omega); have hg4 : g < w4.heap.size := Nat.lt_of_lt_of_le hgA jy.size; have hfar : some g ≠ kae (G ha hn hc) := (fun h => HQ.out.2.2.2.2.2.2.2.1 h.symm); have m3 := (jy.cell_far ⟨g, q + 3, U⟩ hgA hfar).trans HE.out.2.2.2.1; have mf := (jy.frozen_far ⟨g, q + 3, U⟩ hgA hfar).trans HE.out.2.2.2.2; have HM : Q (w4.cell? ⟨g, q, U⟩ = some (E J dd) ∧ w4.cell? ⟨g, q + 1, U⟩ = some (G pa ln pc) ∧ w4.cell? ⟨g, q + 2, U⟩ = some (.bool dec) ∧ zd 3 1 zv w4 base (G a4 n4 c4) (hd ++ [house]) ∧ (w2.alloc (T #[E J house] 3)).grownBy w4 (kae (G ha hn hc)) ∧ zam base w4 pa l ∧ n4 = (hd ++ [house]).length) := ⟨(jy.cell_far ⟨g, q, U⟩ hgA hfar).trans HE.out.1, (jy.cell_far ⟨g, q + 1, U⟩ hgA hfar).trans HE.out.2.1, (jy.cell_far ⟨g, q + 2, U⟩ hgA hfar).trans HE.out.2.2.1, jv, jy, (HQ.out.2.2.1.calm (zj.below hA (Nat.le_refl _))).calm (zj.grown jy (hoA.grownT (by decide))), by rw [hn4]; simp⟩; have HB4 : Q (Blk w4 g gcs 38 ∧ kae (G a4 n4 c4) ≠ some g) := ⟨(HQ.out.2.2.2.2.2.2.2.2.below hA HC.out.1).keptNe jy (fun h => HQ.out.2.2.2.2.2.2.2.1 h), fun e => by rcases jQ with h | h; exact HQ.out.2.2.2.2.2.2.2.1 (h.symm.trans e); rw [h] at e; cases e; omega⟩; clear hn4 jQ jv jy hgA hfar)
  obtain ⟨s0, s1, s2, -, -, -, -⟩ := HM.out;have HS : Q (zd 3 1 zv (r w4 ⟨g, q + 3, U⟩ (G a4 n4 c4)) base (G a4 n4 c4) (hd ++ [house]) ∧ zam base (r w4 ⟨g, q + 3, U⟩ (G a4 n4 c4)) pa l) := ⟨HM.out.2.2.2.1.setNew (a := ⟨g, q + 3, U⟩) HB4.out.2 _, HM.out.2.2.2.2.2.1.calm (zj.setCell (a := ⟨g, q + 3, U⟩) HB4.out.1 (by decide) _)⟩;go_wp2_with fail
  refine (zjk dd pa ln pc l dec a4 n4 c4 (hd ++ [house]) _ HQ.out.1 HQ.out.2.1 HS.out.2.at HM.out.2.2.2.2.2.2 (by simp; omega) (HS.out.1.at zai).1).mono ?_;rintro e w5 ⟨v5, rfl, ho5, hb5⟩;obtain ⟨ga5, gn5, gc5, rfl⟩ := ho5.slice zai
  have H5 : Q (decide ((wtO l (hd ++ [house])).length = 0) = ((gn5 : Int) == 0) ∧ Z (r w4 ⟨g, q + 3, U⟩ (G a4 n4 c4)).heap.size (r w4 ⟨g, q + 3, U⟩ (G a4 n4 c4)) w5) := by
   refine ⟨?_, hb5⟩;have h : gn5 = (wtO l (hd ++ [house])).length := (ho5.at zai).2.1;rw [← h, Bool.eq_iff_iff];simp
  have HR := zA hA;clear ho5 hb5 s0 s1 s2 m3 mf hoA hA;go_wp2;go_ret;exact kaa ⟨hrr.out, _, w4, a4, n4, c4, by rw [H5.out.1]; rfl, HR.out, HM.out.2.2.2.2.1, HM.out.2.2.2.1, H5.out.2⟩
theorem zm0 {m : Q4} : ∀ {opn : List O4}, zbx m opn = U → ∀ o ∈ opn, o.1 ≠ m.2.1
 | [], _, o, ho => by cases ho
 | x :: t, h, o, ho => by
  unfold zbx at h
  split at h
  ·cases h
  ·rename_i hne
   rw [Option.map_eq_none_iff] at h;rcases kaf.1 ho with e | ho
   ·rw [e]; exact hne
   ·exact zm0 h o ho
theorem zf4 {m : Q4} : ∀ {opn : List O4} {x : List O4 × List R3 × List Q4}, zbx m opn = some x → ∃ A o B, opn = A ++ o :: B ∧ o.1 = m.2.1 ∧ x = (A ++ ((zq m o).1.toList ++ B), (zq m o).2.1, (zq m o).2.2)
 | [], _, h => by cases h
 | y :: t, x, h => by
  unfold zbx at h
  split at h
  ·rename_i e
   cases h;exact ⟨[], y, t, rfl, e, rfl⟩
  ·obtain ⟨z, hz, rfl⟩ := Option.map_eq_some_iff.1 h
   obtain ⟨A, o, B, rfl, e, rfl⟩ := zf4 hz;exact ⟨y :: A, o, B, rfl, e, rfl⟩
theorem dcd_iff {W : WW} {d : Int} : zbf W d ↔ d ∈ (zab W.hd.log).map (·.1) := by
 unfold zbf
 rw [List.mem_map]
theorem zgi {P P' : Int → List P3} {W : WW} {g : Gh} (num : za0 W ≤ za0 { W with hd := g }) (same : ∀ d, d < za0 W → P' d = P d) (dcd : ∀ d, zbf W d → zbf { W with hd := g } d)
  (dcd2 : ∀ d, d < za0 W → zbf { W with hd := g } d → ¬ zds W d → zbf W d) (und : ∀ d, d < za0 W → undW { W with hd := g } d → undW W d) (opn : ∀ d, d < za0 W → zds { W with hd := g } d → zds W d) : zdw P P' W { W with hd := g } :=
 ⟨num, same, dcd, dcd2, fun _ _ h => h, und, opn, fun _ _ _ _ h => h, fun _ _ _ h => kac h⟩
theorem others {A B : List O4} {o : O4} (h : ((A ++ o :: B).map (·.1)).Nodup) : ∀ x, x ∈ A ∨ x ∈ B → x.1 ≠ o.1 := by
 rw [List.map_append, List.map_cons, kag, List.nodup_cons] at h;obtain ⟨_, ⟨h2, _⟩, h3⟩ := h;intro x hx e;rcases hx with hx | hx
 ·exact h3 x.1 (List.mem_map.2 ⟨x, hx, rfl⟩) o.1 (by simp) e
 ·exact h2 (e ▸ List.mem_map.2 ⟨x, hx, rfl⟩)
theorem cut_nd {A B : List O4} {o : O4} (h : ((A ++ o :: B).map (·.1)).Nodup) : ((A ++ B).map (·.1)).Nodup := by
 refine List.Nodup.sublist ?_ h;exact List.Sublist.map _ (List.Sublist.append (List.Sublist.refl A) (List.sublist_cons_self o B))
theorem Inv.swap {n : Nat} {P : Int → List P3} {W : WW} (I : Inv n P W) {A B : List O4} {o o' : O4} (ho : W.hd.opn = A ++ o :: B) (e1 : o'.1 = o.1) (e2 : o'.2.2.1 = o.2.2.1) (O : zgr n P W o') : Inv n P { W with hd := { W.hd with opn := A ++ o' :: B } } := by
 have mem : ∀ x, x ∈ A ++ o' :: B → x = o' ∨ x ∈ W.hd.opn := fun x hx => by
  rw [ho];rcases kab.1 hx with hx | hx
  ·exact kaa (by simp [hx])
  ·rcases kaf.1 hx with hx | hx
   ·exact kac hx
   ·exact kaa (by simp [hx])
 have mem2 : ∀ x, x ∈ W.hd.opn → x = o ∨ x ∈ A ++ o' :: B := fun x hx => by
  rw [ho] at hx;rcases kab.1 hx with hx | hx
  ·exact kaa (by simp [hx])
  ·rcases kaf.1 hx with hx | hx
   ·exact kac hx
   ·exact kaa (by simp [hx])
 have hoin : o ∈ W.hd.opn := by rw [ho]; simp
 have hkeys : (A ++ o' :: B).map (·.1) = W.hd.opn.map (·.1) := by rw [ho]; simp [e1]
 have hop : ∀ d, zds { W with hd := { W.hd with opn := A ++ o' :: B } } d ↔ zds W d := fun d => by
  constructor
  ·rintro ⟨x, hx, e⟩
   rcases mem x hx with rfl | hx
   ·exact ⟨o, hoin, by rw [← e1]; exact e⟩
   ·exact ⟨x, hx, e⟩
  ·rintro ⟨x, hx, e⟩
   rcases mem2 x hx with rfl | hx
   ·exact ⟨o', by simp, by rw [e1]; exact e⟩
   ·exact ⟨x, hx, e⟩
 have hun : ∀ d, undW { W with hd := { W.hd with opn := A ++ o' :: B } } d → undW W d := fun d => by
  rintro ⟨x, hx, e, hd⟩;rcases mem x hx with rfl | hx
  ·exact ⟨o, hoin, by rw [← e1]; exact e, by rw [← e2]; exact hd⟩
  ·exact ⟨x, hx, e, hd⟩
 have M : zdw P P W { W with hd := { W.hd with opn := A ++ o' :: B } } := zgi (Int.le_refl _) (fun _ _ => rfl) (fun _ h => h) (fun _ _ h _ => h) (fun d _ h => hun d h) (fun d _ h => (hop d).1 h);refine I.ofHead M I.boot1 I.boot20 I.next0 I.next64 I.bootL ?_ (by show ((A ++ o' :: B).map _).Nodup; rw [hkeys]; exact I.apart) ?_ I.dec I.decNd I.dr (fun x hx hn => I.en x hx (fun h => hn ((hop _).2 h))) ?_ I.hlNd I.hlIn
 ·have := I.few
  rw [ho] at this
  simpa using this
 ·intro x hx
  rcases mem x hx with rfl | hx
  ·exact ⟨O.pos, O.old, O.parts, O.right, O.nd, O.sub, O.less, O.dec, O.rdy, O.dn⟩
  ·have Y := I.opn x hx
   exact ⟨Y.pos, Y.old, Y.parts, Y.right, Y.nd, Y.sub, Y.less, Y.dec, Y.rdy, Y.dn⟩
 ·intro d
  rw [I.hl d];constructor
  ·rintro ⟨x, hx, e, hd⟩
   rcases mem2 x hx with rfl | hx
   ·exact ⟨o', by simp, by rw [e1]; exact e, by rw [e2]; exact hd⟩
   ·exact ⟨x, hx, e, hd⟩
  ·rintro ⟨x, hx, e, hd⟩
   rcases mem x hx with rfl | hx
   ·exact ⟨o, hoin, by rw [← e1]; exact e, by rw [← e2]; exact hd⟩
   ·exact ⟨x, hx, e, hd⟩
theorem Inv.head {n : Nat} {P : Int → List P3} {W : WW} (I : Inv n P W) {m : Q4} (hm : zbq n P W m) :
  Inv n P { W with hd := (zh W.hd m).1 } ∧ ∀ q ∈ (zh W.hd m).2, zbq n P { W with hd := (zh W.hd m).1 } q := by
 have hk0 : 0 ≤ m.2.2.1 ∧ m.2.2.1 ≤ 2 ∧ 0 ≤ m.2.1 ∧ m.2.1 ≤ 1343 := by
  have hr := hm.right;unfold zbd at hr
  split at hr
  ·cases hr
  ·split at hr
   ·cases hr
   ·omega
 unfold zh
 cases hh : zbx m W.hd.opn with
 | none =>
  refine ⟨I, fun q hq => ?_⟩;simp only at hq
  split at hq
  ·rename_i h7
   rw [kad.1 hq];have hno : ¬ zds W m.2.1 := fun ⟨o, ho, e⟩ => zm0 hh o ho e
   refine ⟨by unfold zbd; simp; omega, hm.here, hm.old, fun h => absurd h (by simp), fun h => absurd h (by simp), fun h => absurd h (by simp), fun _ => ⟨hno, fun hd => ?_⟩, fun h => absurd h (by simp), fun h => absurd h (by simp)⟩;obtain ⟨x, hx, e⟩ := hd;have hp := (I.dec x hx).2.2.1;have := I.en x hx (by rw [e]; exact hno) m.2.2.1 (by rw [hp, e]; exact hm.ask h7);show dnW W m.2.2.1 m.2.1
   rw [← e];exact this
  ·cases hq
 | some x =>
  obtain ⟨A, o, B, ho, eo, rfl⟩ := zf4 hh;simp only
  have hoin : o ∈ W.hd.opn := by rw [ho]; simp
  have O := I.opn o hoin;have hnum := zgc I;have hap := I.apart;rw [ho] at hap;have hoth := others hap;unfold zq
  by_cases c1 : m.1 = 2 ∧ o.2.2.1 = false ∧ (inI (zp o.2.1) m.2.2.1 = true ∧ inI o.2.2.2 m.2.2.1 = false)
  ·rw [if_pos c1]
   obtain ⟨k2, hud, hin, hnew⟩ := c1;have hkin := zci.1 hin;have hknot : m.2.2.1 ∉ o.2.2.2 := fun h => by rw [zci.2 h] at hnew; cases hnew
   have hnd' : (o.2.2.2 ++ [m.2.2.1]).Nodup := by
    rw [kag];exact ⟨O.nd, by simp, fun a ha b hb e => hknot (by rw [kad.1 hb] at e; exact e ▸ ha)⟩
   have hsub' : ∀ k ∈ o.2.2.2 ++ [m.2.2.1], k ∈ zp o.2.1 := fun k hk => by
    rcases kab.1 hk with hk | hk
    ·exact O.sub k hk
    ·rw [kad.1 hk]; exact hkin
   have hrd : ∀ k ∈ o.2.2.2 ++ [m.2.2.1], zd0 W k o.1 := fun k hk => by
    rcases kab.1 hk with hk | hk
    ·exact O.rdy hud k hk
    ·rw [kad.1 hk, eo]; exact hm.yes k2 ⟨o, hoin, eo, hud⟩
   by_cases c2 : (o.2.2.2 ++ [m.2.2.1]).length = (zp o.2.1).length
   ·
    rw [if_pos c2];have hnd : ¬ zbf W o.1 := fun h => by have := O.dec.2 h; rw [hud] at this; cases this
    have qy : ∀ k ∈ zp o.2.1, zd0 W k o.1 := fun k hk => hrd k (cover hnd' hsub' (by omega) (zgt _) k hk)
    have hD : zab (W.hd.log ++ [(5, o.1, o.2.1)]) = zab W.hd.log ++ [(o.1, o.2.1)] := by rw [zfe, if_pos rfl]
    have hH : zac (W.hd.log ++ [(5, o.1, o.2.1)]) = ((zac W.hd.log).1, (zac W.hd.log).2 ++ [(o.1, o.2.1)]) := by rw [zgo]; rfl
    have hdc : ∀ d, zbf { W with hd := { W.hd with opn := A ++ ([(o.1, o.2.1, true, [])] ++ B), log := W.hd.log ++ [(5, o.1, o.2.1)] } } d ↔ zbf W d ∨ d = o.1 := fun d => by
     unfold zbf
     simp only [hD, kab, kad]
     constructor
     ·rintro ⟨x, hx | rfl, e⟩
      ·exact kac ⟨x, hx, e⟩
      ·exact kaa e.symm
     ·rintro (⟨x, hx, e⟩ | rfl)
      ·exact ⟨x, kac hx, e⟩
      ·exact ⟨_, kaa rfl, rfl⟩
    have mem : ∀ x, x ∈ A ++ ([(o.1, o.2.1, true, [])] ++ B) → x = (o.1, o.2.1, true, []) ∨ (x ∈ W.hd.opn ∧ x.1 ≠ o.1) := fun x hx => by
     rw [ho];rcases kab.1 hx with hx | hx
     ·exact kaa ⟨by simp [hx], hoth x (kac hx)⟩
     ·rcases kab.1 hx with hx | hx
      ·exact kac (kad.1 hx)
      ·exact kaa ⟨by simp [hx], hoth x (kaa hx)⟩
    have mem2 : ∀ x, x ∈ W.hd.opn → x = o ∨ x ∈ A ++ ([(o.1, o.2.1, true, [])] ++ B) := fun x hx => by
     rw [ho] at hx;rcases kab.1 hx with hx | hx
     ·exact kaa (by simp [hx])
     ·rcases kaf.1 hx with hx | hx
      ·exact kac hx
      ·exact kaa (by simp [hx])
    have hop : ∀ d, zds { W with hd := { W.hd with opn := A ++ ([(o.1, o.2.1, true, [])] ++ B), log := W.hd.log ++ [(5, o.1, o.2.1)] } } d ↔ zds W d := fun d => by
     constructor
     ·rintro ⟨x, hx, e⟩
      rcases mem x hx with rfl | ⟨hx, _⟩
      ·exact ⟨o, hoin, e⟩
      ·exact ⟨x, hx, e⟩
     ·rintro ⟨x, hx, e⟩
      rcases mem2 x hx with ex | hx
      ·exact ⟨(o.1, o.2.1, true, []), by simp, by rw [← e, ex]⟩
      ·exact ⟨x, hx, e⟩
    have M : zdw P P W { W with hd := { W.hd with opn := A ++ ([(o.1, o.2.1, true, [])] ++ B), log := W.hd.log ++ [(5, o.1, o.2.1)] } } := by
     refine zgi (Int.le_refl _) (fun _ _ => rfl) (fun d h => (hdc d).2 (kac h)) (fun d _ h hno => ?_) (fun d _ => ?_) (fun d _ h => (hop d).1 h)
     ·rcases (hdc d).1 h with h | rfl
      ·exact h
      ·exact absurd ⟨o, hoin, rfl⟩ hno
     ·rintro ⟨x, hx, e, hd⟩
      rcases mem x hx with rfl | ⟨hx, _⟩
      ·cases hd
      ·exact ⟨x, hx, e, hd⟩
    have O' : zgr n P { W with hd := { W.hd with opn := A ++ ([(o.1, o.2.1, true, [])] ++ B), log := W.hd.log ++ [(5, o.1, o.2.1)] } } (o.1, o.2.1, true, []) :=
     ⟨O.pos, O.old, O.parts, O.right, List.nodup_nil, (fun k hk => by cases hk), ziv I.n3 O.right, ⟨fun _ => (hdc _).2 (kaa rfl), fun _ => rfl⟩, (fun h => by cases h), (fun _ k hk => by cases hk)⟩
    have I' : Inv n P { W with hd := { W.hd with opn := A ++ ([(o.1, o.2.1, true, [])] ++ B), log := W.hd.log ++ [(5, o.1, o.2.1)] } } := by
     refine I.ofHead M I.boot1 I.boot20 I.next0 I.next64 ?_ ?_ ?_ ?_ ?_ ?_ ?_ ?_ ?_ ?_ ?_
     ·show W.hd.boot = (zac (W.hd.log ++ [(5, o.1, o.2.1)])).1; rw [hH]; exact I.bootL
     ·have := I.few; rw [ho] at this; simpa using this
     ·show ((A ++ ([((o.1, o.2.1, true, []) : O4)] ++ B)).map (fun o : O4 => o.1)).Nodup
      have := I.apart;rw [ho] at this
      simpa using this
     ·intro x hx
      rcases mem x hx with rfl | ⟨hx, hne⟩
      ·exact O'
      ·have Y := I.opn x hx
       refine ⟨Y.pos, Y.old, Y.parts, Y.right, Y.nd, Y.sub, Y.less, ?_, Y.rdy, Y.dn⟩;rw [hdc, Y.dec];constructor
       ·exact kac
       ·rintro (h | h)
        ·exact h
        ·exact absurd h hne
     ·show ∀ x ∈ zab (W.hd.log ++ [(5, o.1, o.2.1)]), _
      rw [hD];intro x hx;rcases kab.1 hx with hx | hx
      ·exact I.dec x hx
      ·rw [kad.1 hx]; exact ⟨O.pos, O.old, O.parts, O.right⟩
     ·show ((zab (W.hd.log ++ [(5, o.1, o.2.1)])).map (·.1)).Nodup
      rw [hD, List.map_append, kag];refine ⟨I.decNd, by simp, fun a ha b hb e => ?_⟩;simp at hb
      subst hb;subst e;exact hnd (dcd_iff.2 ha)
     ·show ∀ x ∈ zab (W.hd.log ++ [(5, o.1, o.2.1)]), _
      rw [hD];intro x hx;rcases kab.1 hx with hx | hx
      ·exact I.dr x hx
      ·rw [kad.1 hx]; exact fun k hk => kac (qy k hk)
     ·show ∀ x ∈ zab (W.hd.log ++ [(5, o.1, o.2.1)]), _
      rw [hD];intro x hx hno;rcases kab.1 hx with hx | hx
      ·exact I.en x hx (fun h => hno ((hop _).2 h))
      ·rw [kad.1 hx] at hno; exact absurd ((hop _).2 ⟨o, hoin, rfl⟩) hno
     ·intro d
      show (∃ x ∈ (zac (W.hd.log ++ [(5, o.1, o.2.1)])).2, x.1 = d) ↔ _
      rw [hH];constructor
      ·rintro ⟨x, hx, e⟩
       rcases kab.1 hx with hx | hx
       ·obtain ⟨y, hy, e', hd⟩ := (I.hl d).1 ⟨x, hx, e⟩
        rcases mem2 y hy with rfl | hy
        ·rw [hud] at hd; cases hd
        ·exact ⟨y, hy, e', hd⟩
       ·rw [kad.1 hx] at e; exact ⟨(o.1, o.2.1, true, []), by simp, e, rfl⟩
      ·rintro ⟨x, hx, e, hd⟩
       rcases mem x hx with rfl | ⟨hx, _⟩
       ·exact ⟨(o.1, o.2.1), by simp, e⟩
       ·obtain ⟨y, hy, e'⟩ := (I.hl d).2 ⟨x, hx, e, hd⟩
        exact ⟨y, kab.2 (kac hy), e'⟩
     ·show ((zac (W.hd.log ++ [(5, o.1, o.2.1)])).2.map (·.1)).Nodup
      rw [hH];show (((zac W.hd.log).2 ++ [(o.1, o.2.1)]).map (·.1)).Nodup
      rw [List.map_append, kag];refine ⟨I.hlNd, by simp, fun a ha b hb e => ?_⟩;simp at hb
      subst hb;subst e;obtain ⟨y, hy, e'⟩ := List.mem_map.1 ha;exact hnd ⟨y, I.hlIn y hy, e'⟩
     ·show ∀ x ∈ (zac (W.hd.log ++ [(5, o.1, o.2.1)])).2, x ∈ zab (W.hd.log ++ [(5, o.1, o.2.1)])
      rw [hH, hD];intro x hx;rcases kab.1 hx with hx | hx
      ·exact kab.2 (kac (I.hlIn x hx))
      ·exact kab.2 (kaa hx)
    exact ⟨I', fun q hq => zi2 I.n3 (zgc I') O' q hq⟩
   ·
    rw [if_neg c2]
    have hlt : (o.2.2.2 ++ [m.2.2.1]).length < (zp o.2.1).length := by
     have := O.less;rw [List.length_append, List.length_singleton] at c2 ⊢
     omega
    have := I.swap (o' := (o.1, o.2.1, false, o.2.2.2 ++ [m.2.2.1])) ho rfl hud.symm ⟨O.pos, O.old, O.parts, O.right, hnd', hsub', hlt, by show false = true ↔ _; rw [← hud]; exact O.dec, fun _ => hrd, fun h => by cases h⟩;refine ⟨?_, fun q hq => by cases hq⟩
    simpa using this
  ·rw [if_neg c1]
   by_cases c3 : m.1 = 3 ∧ o.2.2.1 = false
   ·
    rw [if_pos c3];have hnd : ¬ zbf W o.1 := fun h => by have := O.dec.2 h; rw [c3.2] at this; cases this
    have mem : ∀ x, x ∈ A ++ B → x ∈ W.hd.opn ∧ x.1 ≠ o.1 := fun x hx => by
     rw [ho];rcases kab.1 hx with hx | hx
     ·exact ⟨by simp [hx], hoth x (kac hx)⟩
     ·exact ⟨by simp [hx], hoth x (kaa hx)⟩
    have mem2 : ∀ x, x ∈ W.hd.opn → x = o ∨ x ∈ A ++ B := fun x hx => by
     rw [ho] at hx;rcases kab.1 hx with hx | hx
     ·exact kaa (by simp [hx])
     ·rcases kaf.1 hx with hx | hx
      ·exact kac hx
      ·exact kaa (by simp [hx])
    have M : zdw P P W { W with hd := { W.hd with opn := A ++ B } } := zgi (Int.le_refl _) (fun _ _ => rfl) (fun _ h => h) (fun _ _ h _ => h) (fun d _ ⟨x, hx, e, hd⟩ => ⟨x, (mem x hx).1, e, hd⟩) (fun d _ ⟨x, hx, e⟩ => ⟨x, (mem x hx).1, e⟩)
    have I' : Inv n P { W with hd := { W.hd with opn := A ++ B } } := by
     refine I.ofHead M I.boot1 I.boot20 I.next0 I.next64 I.bootL ?_ (cut_nd hap) ?_ I.dec I.decNd I.dr ?_ ?_ I.hlNd I.hlIn
     ·have := I.few; rw [ho] at this; simp at this ⊢; omega
     ·intro x hx
      have Y := I.opn x (mem x hx).1;exact ⟨Y.pos, Y.old, Y.parts, Y.right, Y.nd, Y.sub, Y.less, Y.dec, Y.rdy, Y.dn⟩
     ·intro x hx hno
      refine I.en x hx (fun ⟨y, hy, e⟩ => ?_);rcases mem2 y hy with rfl | hy
      ·exact hnd ⟨x, hx, e.symm⟩
      ·exact hno ⟨y, hy, e⟩
     ·intro d
      rw [I.hl d];constructor
      ·rintro ⟨x, hx, e, hd⟩
       rcases mem2 x hx with rfl | hx
       ·rw [c3.2] at hd; cases hd
       ·exact ⟨x, hx, e, hd⟩
      ·rintro ⟨x, hx, e, hd⟩
       exact ⟨x, (mem x hx).1, e, hd⟩
    have : Inv n P { W with hd := { W.hd with opn := A ++ ((U : Option O4).toList ++ B), log := W.hd.log ++ [] } } := by simpa using I'
    refine ⟨this, fun q hq => ?_⟩;have := zlj (P := P) (W := { W with hd := { W.hd with opn := A ++ B } }) I.n3 hnum O.pos O.old O.right (fun ⟨x, hx, e⟩ => (mem x hx).2 e) hnd q hq
    simpa using this
   ·rw [if_neg c3]
    by_cases c4 : m.1 = 6 ∧ o.2.2.1 = true ∧ (inI (zp o.2.1) m.2.2.1 = true ∧ inI o.2.2.2 m.2.2.1 = false)
    ·rw [if_pos c4]
     obtain ⟨k6, hud, hin, hnew⟩ := c4;have hkin := zci.1 hin;have hknot : m.2.2.1 ∉ o.2.2.2 := fun h => by rw [zci.2 h] at hnew; cases hnew
     have hnd' : (o.2.2.2 ++ [m.2.2.1]).Nodup := by
      rw [kag];exact ⟨O.nd, by simp, fun a ha b hb e => hknot (by rw [kad.1 hb] at e; exact e ▸ ha)⟩
     have hsub' : ∀ k ∈ o.2.2.2 ++ [m.2.2.1], k ∈ zp o.2.1 := fun k hk => by
      rcases kab.1 hk with hk | hk
      ·exact O.sub k hk
      ·rw [kad.1 hk]; exact hkin
     have hdn : ∀ k ∈ o.2.2.2 ++ [m.2.2.1], dnW W k o.1 := fun k hk => by
      rcases kab.1 hk with hk | hk
      ·exact O.dn hud k hk
      ·rw [kad.1 hk, eo]; exact hm.ack k6
     by_cases c5 : (o.2.2.2 ++ [m.2.2.1]).length = (zp o.2.1).length
     ·
      rw [if_pos c5];have qy : ∀ k ∈ zp o.2.1, dnW W k o.1 := fun k hk => hdn k (cover hnd' hsub' (by omega) (zgt _) k hk)
      have hD : zab (W.hd.log ++ [(6, o.1, [])]) = zab W.hd.log := by rw [zfe, if_neg (show ¬ (6 : Int) = 5 by decide), List.append_nil]
      have hH : zac (W.hd.log ++ [(6, o.1, [])]) = ((zac W.hd.log).1, zao (zac W.hd.log).2 o.1) := by rw [zgo]; rfl
      have mem : ∀ x, x ∈ A ++ B → x ∈ W.hd.opn ∧ x.1 ≠ o.1 := fun x hx => by
       rw [ho];rcases kab.1 hx with hx | hx
       ·exact ⟨by simp [hx], hoth x (kac hx)⟩
       ·exact ⟨by simp [hx], hoth x (kaa hx)⟩
      have mem2 : ∀ x, x ∈ W.hd.opn → x = o ∨ x ∈ A ++ B := fun x hx => by
       rw [ho] at hx;rcases kab.1 hx with hx | hx
       ·exact kaa (by simp [hx])
       ·rcases kaf.1 hx with hx | hx
        ·exact kac hx
        ·exact kaa (by simp [hx])
      have hdc : ∀ d, zbf { W with hd := { W.hd with opn := A ++ B, log := W.hd.log ++ [(6, o.1, [])] } } d ↔ zbf W d := fun d => by
       unfold zbf
       simp only [hD]
      have M : zdw P P W { W with hd := { W.hd with opn := A ++ B, log := W.hd.log ++ [(6, o.1, [])] } } := zgi (Int.le_refl _) (fun _ _ => rfl) (fun d h => (hdc d).2 h) (fun d _ h _ => (hdc d).1 h) (fun d _ ⟨x, hx, e, hd⟩ => ⟨x, (mem x hx).1, e, hd⟩) (fun d _ ⟨x, hx, e⟩ => ⟨x, (mem x hx).1, e⟩)
      have I' : Inv n P { W with hd := { W.hd with opn := A ++ B, log := W.hd.log ++ [(6, o.1, [])] } } := by
       refine I.ofHead M I.boot1 I.boot20 I.next0 I.next64 ?_ ?_ (cut_nd hap) ?_ ?_ ?_ ?_ ?_ ?_ ?_ ?_
       ·show W.hd.boot = (zac (W.hd.log ++ [(6, o.1, [])])).1; rw [hH]; exact I.bootL
       ·have := I.few; rw [ho] at this; simp at this ⊢; omega
       ·intro x hx
        have Y := I.opn x (mem x hx).1;exact ⟨Y.pos, Y.old, Y.parts, Y.right, Y.nd, Y.sub, Y.less, by rw [hdc]; exact Y.dec, Y.rdy, Y.dn⟩
       ·show ∀ x ∈ zab (W.hd.log ++ [(6, o.1, [])]), _
        rw [hD]; exact I.dec
       ·show ((zab (W.hd.log ++ [(6, o.1, [])])).map (·.1)).Nodup
        rw [hD]; exact I.decNd
       ·show ∀ x ∈ zab (W.hd.log ++ [(6, o.1, [])]), _
        rw [hD]; exact I.dr
       ·show ∀ x ∈ zab (W.hd.log ++ [(6, o.1, [])]), _
        rw [hD];intro x hx hno;by_cases e : x.1 = o.1
        ·have hp : x.2 = o.2.1 := by rw [(I.dec x hx).2.2.1, O.parts, e]
         intro k hk;rw [e];exact qy k (by rw [← hp]; exact hk)
        ·refine I.en x hx (fun ⟨y, hy, e'⟩ => ?_)
         rcases mem2 y hy with rfl | hy
         ·exact e e'.symm
         ·exact hno ⟨y, hy, e'⟩
       ·intro d
        show (∃ x ∈ (zac (W.hd.log ++ [(6, o.1, [])])).2, x.1 = d) ↔ _
        rw [hH];constructor
        ·rintro ⟨x, hx, e⟩
         obtain ⟨hx1, hx2⟩ := zcy hx;obtain ⟨y, hy, e', hd⟩ := (I.hl d).1 ⟨x, hx1, e⟩;rcases mem2 y hy with rfl | hy
         ·exact absurd (e.trans e'.symm) hx2
         ·exact ⟨y, hy, e', hd⟩
        ·rintro ⟨x, hx, e, hd⟩
         obtain ⟨y, hy, e'⟩ := (I.hl d).2 ⟨x, (mem x hx).1, e, hd⟩;refine ⟨y, ?_, e'⟩;show y ∈ zao _ _
         unfold zao
         rw [List.mem_filter];refine ⟨hy, ?_⟩;have : y.1 ≠ o.1 := fun h => (mem x hx).2 (by rw [e, ← e', h])
         simpa using this
       ·show ((zac (W.hd.log ++ [(6, o.1, [])])).2.map (·.1)).Nodup
        rw [hH]; exact zh8 I.hlNd _
       ·show ∀ x ∈ (zac (W.hd.log ++ [(6, o.1, [])])).2, x ∈ zab (W.hd.log ++ [(6, o.1, [])])
        rw [hH, hD];exact fun x hx => I.hlIn x (zcy hx).1
      refine ⟨?_, fun q hq => by cases hq⟩
      simpa using I'
     ·rw [if_neg c5]
      have hlt : (o.2.2.2 ++ [m.2.2.1]).length < (zp o.2.1).length := by
       have := O.less;rw [List.length_append, List.length_singleton] at c5 ⊢
       omega
      have := I.swap (o' := (o.1, o.2.1, true, o.2.2.2 ++ [m.2.2.1])) ho rfl hud.symm ⟨O.pos, O.old, O.parts, O.right, hnd', hsub', hlt, ⟨fun _ => O.dec.1 hud, fun _ => rfl⟩, (fun h => by cases h), fun _ => hdn⟩;refine ⟨?_, fun q hq => by cases hq⟩
      simpa using this
    ·rw [if_neg c4]
     have hsame : ({ W with hd := { W.hd with opn := A ++ ((some o).toList ++ B), log := W.hd.log ++ [] } } : WW) = W := by
      have e : A ++ ((some o).toList ++ B) = W.hd.opn := by rw [ho]; rfl
      rw [e, List.append_nil]
     by_cases c6 : m.1 = 7 ∧ o.2.2.1 = true
     ·rw [if_pos c6]
      simp only
      rw [hsame];refine ⟨I, fun q hq => ?_⟩;rw [kad.1 hq];exact ⟨by unfold zbd; simp; omega, hm.here, hm.old, fun h => absurd h (by simp), fun h => absurd h (by simp), fun _ => ⟨by show zbf W m.2.1; rw [← eo]; exact O.dec.1 c6.2, hm.ask c6.1⟩, fun h => absurd h (by simp), fun h => absurd h (by simp), fun h => absurd h (by simp)⟩
     ·rw [if_neg c6]
      simp only
      rw [hsame];exact ⟨I, fun q hq => by cases hq⟩
end Go.Proofs.Ytpcnlifmkhagkaa
