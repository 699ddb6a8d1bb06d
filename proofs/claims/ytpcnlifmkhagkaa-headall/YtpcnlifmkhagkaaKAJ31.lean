import Derived.Test.YtpcnlifmkhagkaaKAJ28
import Derived.Test.YtpcnlifmkhagkaaKARefRd
set_option maxRecDepth 20000
set_option maxHeartbeats 20000000
namespace Go.Proofs.Ytpcnlifmkhagkaa
open Go.RowKit
open Go.Value renaming slice → G, int → E
open Go.IntKind renaming i64 → J
open _root_.Option renaming none → U
open Go.Obj renaming cells → T
open Go.RowKit renaming Hid → Q, Below → Z
open Go.World renaming setCell → r
open _root_.List renaming mem_append → kaa, append_nil → kac
open _root_.Nat renaming le_succ_of_le → kab
def zb0 (B : Nat) (W : WW) : Prop := W.hd.log.length ≤ B ∧ ∀ L ∈ W.hs, L.length ≤ B
theorem at_len {B : Nat} {W : WW} (H : zb0 B W) (k : Int) : (W.at k).length ≤ B := by
 unfold WW.at
 rw [List.getD_eq_getElem?_getD]
 cases h : W.hs[k.toNat]? with
 | none => simp
 | some L => exact H.2 L (List.mem_of_getElem? h)
theorem len_hear (g : Gh) (m : Q4) : (zh g m).1.log.length ≤ g.log.length + 1 := by
 unfold zh
 split
 ·rename_i x hx
  obtain ⟨A, o, B, _, _, rfl⟩ := zf4 hx;rcases zhz m o with h | h | h <;> simp [h]
 ·simp
theorem len_come {B : Nat} {W : WW} (H : zb0 B W) (m : Q4) : zb0 (B + 1) (zee W m) := by
 unfold zee
 split
 ·split
  ·refine ⟨kab H.1, fun L hL => ?_⟩
   rcases List.mem_or_eq_of_mem_set hL with h | h
   ·exact kab (H.2 L h)
   ·rw [h]
    have h1 := hearL_len (W.at m.2.2.1) m.1 m.2.1 m.2.2.2;have h2 := at_len H m.2.2.1;omega
  ·refine ⟨?_, fun L hL => kab (H.2 L hL)⟩
   have h1 := len_hear W.hd m;have h2 := H.1;show (zh W.hd m).1.log.length ≤ B + 1
   omega
 ·exact ⟨kab H.1, fun L hL => kab (H.2 L hL)⟩
theorem zlu {B : Nat} {W : WW} (H : zb0 B W) (s : Int × Int × List P3) : zb0 (B + 1) (zl W s).1 := by
 have H' : zb0 (B + 1) W := ⟨kab H.1, fun L hL => kab (H.2 L hL)⟩;unfold zl
 split
 ·split
  ·refine ⟨?_, H'.2⟩
   show (zo W.hd s.2.2).1.log.length ≤ B + 1
   unfold zo
   split
   ·exact H'.1
   ·exact H'.1
  ·exact H'
 ·split
  ·split
   ·split
    ·exact H'
    ·split
     ·exact ⟨H'.1, H'.2⟩
     ·split
      ·exact ⟨H'.1, H'.2⟩
      ·exact len_come (W := { W with net := W.net.eraseIdx s.2.1.toNat }) ⟨H.1, H.2⟩ _
   ·exact H'
  ·split
   ·split
    ·refine ⟨?_, H'.2⟩
     show (zah W.hd).1.log.length ≤ B + 1
     unfold zah
     split
     ·exact H'.1
     ·show (W.hd.log ++ [(4, 0, [])]).length ≤ B + 1
      rw [List.length_append];have := H.1;simp
      omega
    ·split
     ·exact H'
     ·exact H'
   ·split
    ·split
     ·exact ⟨H'.1, H'.2⟩
     ·split
      ·exact H'
      ·exact ⟨H'.1, H'.2⟩
    ·split
     ·exact ⟨H'.1, H'.2⟩
     ·exact H'
theorem zmh : ∀ (l : List (Int × Int × List P3)) {B : Nat} {W : WW}, zb0 B W → zb0 (B + l.length) (l.foldl (fun W s => (zl W s).1) W)
 | [], _, _, H => H
 | s :: t, B, W, H => by
  have := zmh t (zlu H s);rw [List.length_cons, Nat.add_comm t.length 1, ← Nat.add_assoc];exact this
theorem len_new (n : Nat) : zb0 1 (zaz n) := by
 refine ⟨Nat.le_refl _, fun L hL => ?_⟩;rw [(List.mem_replicate.1 hL).2];exact Nat.zero_le _
theorem zb0.mono {B C : Nat} {W : WW} (H : zb0 B W) (h : B ≤ C) : zb0 C W := ⟨Nat.le_trans H.1 h, fun L hL => Nat.le_trans (H.2 L hL) h⟩
theorem zmc (n : Nat) (l : List (Int × Int × List P3)) : zb0 151 (zav n l) :=
 (zmh (l.take 150) (len_new n)).mono (by rw [List.length_take]; omega)
theorem zi1 {m : Q4} {o : O4} (ho : o.1 = m.2.1) : ∀ {A : List O4}, (∀ x ∈ A, x.1 ≠ m.2.1) → zbx m (A ++ [o]) = some (A ++ (zq m o).1.toList, (zq m o).2.1, (zq m o).2.2)
 | [], _ => by
  show (if o.1 = m.2.1 then _ else _) = _
  rw [if_pos ho, kac];rfl
 | x :: t, h => by
  show (if x.1 = m.2.1 then _ else _) = _
  rw [if_neg (h x (List.mem_cons_self ..))];show Option.map _ (zbx m (t ++ [o])) = _
  rw [zi1 ho (fun y hy => h y (List.mem_cons_of_mem _ hy))];rfl
theorem zly {m : Q4} : ∀ {A : List O4}, (∀ x ∈ A, x.1 ≠ m.2.1) → zbx m A = U
 | [], _ => rfl
 | x :: t, h => by
  show (if x.1 = m.2.1 then _ else _) = _
  rw [if_neg (h x (List.mem_cons_self ..)), zly (fun y hy => h y (List.mem_cons_of_mem _ hy))];rfl
def Says (L0 : List R3) (A : List O4) (d : Int) (l : List P3) (S : List (Int × Int)) (g : Gh) : Prop :=
  (g.log = L0 ∧ ∃ hd, g.opn = A ++ [(d, l, false, hd)] ∧ hd.Nodup ∧ (∀ k ∈ hd, k ∈ zp l) ∧ hd.length < (zp l).length ∧ ∀ k ∈ zp l, (k ∈ hd ↔ ((2 : Int), k) ∈ S)) ∨
  ((∀ k ∈ zp l, ((2 : Int), k) ∈ S) ∧
    ((g.log = L0 ++ [(5, d, l)] ∧ ∃ hd, g.opn = A ++ [(d, l, true, hd)] ∧ hd.length < (zp l).length) ∨ (g.log = L0 ++ [(5, d, l), (6, d, [])] ∧ g.opn = A)))
theorem says_step {L0 : List R3} {A : List O4} {d : Int} {l : List P3} {S : List (Int × Int)} {g : Gh} (hA : ∀ x ∈ A, x.1 ≠ d) (hpos : 0 < (zp l).length) (H : Says L0 A d l S g) (kd k : Int) (hk : kd = 2 ∨ kd = 6) :
  Says L0 A d l (S ++ [(kd, k)]) (zh g (kd, d, k, [])).1 := by
 have up : ∀ j, ((2 : Int), j) ∈ S → ((2 : Int), j) ∈ S ++ [(kd, k)] := fun j h => kaa.2 (Or.inl h)
 rcases H with ⟨hl, hd, ho, nd, sub, less, hS⟩ | ⟨qy, ⟨hl, hd, ho, less⟩ | ⟨hl, ho⟩⟩
 ·have e := zi1 (m := (kd, d, k, [])) (o := (d, l, false, hd)) rfl hA
  unfold zh
  rw [ho, e];rcases hk with rfl | rfl
  ·by_cases c : inI (zp l) k = true ∧ inI hd k = false
   ·have hkh := zci.1 c.1
    have hkn : k ∉ hd := fun h => by rw [zci.2 h] at c; exact absurd c.2 (by decide)
    have nd2 : (hd ++ [k]).Nodup := by
     rw [List.nodup_append];refine ⟨nd, by simp, fun a ha b hb e => ?_⟩;rw [List.mem_singleton.1 hb] at e;exact hkn (e ▸ ha)
    have sub2 : ∀ j ∈ hd ++ [k], j ∈ zp l := fun j hj => by
     rcases kaa.1 hj with h | h
     ·exact sub j h
     ·rw [List.mem_singleton.1 h]; exact hkh
    by_cases f : (hd ++ [k]).length = (zp l).length
    ·have es : zq (2, d, k, []) (d, l, false, hd) = (some (d, l, true, []), [(5, d, l)], za6 (d, l, true, [])) := by
      unfold zq
      rw [if_pos ⟨rfl, rfl, c⟩, if_pos f]
     rw [es];refine Or.inr ⟨fun j hj => ?_, Or.inl ⟨by rw [hl], [], rfl, hpos⟩⟩;have hc := cover nd2 sub2 (by omega) (zgt l) j hj;rcases kaa.1 hc with h | h
     ·exact up j ((hS j hj).1 h)
     ·rw [List.mem_singleton.1 h]; simp
    ·have es : zq (2, d, k, []) (d, l, false, hd) = (some (d, l, false, hd ++ [k]), [], []) := by
      unfold zq
      rw [if_pos ⟨rfl, rfl, c⟩, if_neg f]
     rw [es];have hle := zf9 nd2 sub2;refine Or.inl ⟨by show g.log ++ [] = _; rw [kac, hl], hd ++ [k], rfl, nd2, sub2, by omega, fun j hj => ?_⟩;have := hS j hj;constructor
     ·intro h
      rcases kaa.1 h with h | h
      ·exact up j (this.1 h)
      ·rw [List.mem_singleton.1 h]; simp
     ·intro h
      rcases kaa.1 h with h | h
      ·exact kaa.2 (Or.inl (this.2 h))
      ·have : j = k := by simpa using h
       rw [this]; simp
   ·have es : zq (2, d, k, []) (d, l, false, hd) = (some (d, l, false, hd), [], []) := by
     unfold zq
     rw [if_neg (fun h => c h.2.2), if_neg (fun h => absurd h.1 (show ¬ (2 : Int) = 3 by decide)), if_neg (fun h => absurd h.1 (show ¬ (2 : Int) = 6 by decide)), if_neg (fun h => absurd h.1 (show ¬ (2 : Int) = 7 by decide))]
    rw [es];refine Or.inl ⟨by show g.log ++ [] = _; rw [kac, hl], hd, rfl, nd, sub, less, fun j hj => ?_⟩;have := hS j hj;constructor
    ·intro h
     exact up j (this.1 h)
    ·intro h
     rcases kaa.1 h with h | h
     ·exact this.2 h
     ·have e' : j = k := by simpa using h
      subst e';rcases Bool.eq_false_or_eq_true (inI hd j) with h' | h'
      ·exact zci.1 h'
      ·exact absurd ⟨zci.2 hj, h'⟩ c
  ·have es : zq (6, d, k, []) (d, l, false, hd) = (some (d, l, false, hd), [], []) := by
    unfold zq
    rw [if_neg (fun h => absurd h.1 (show ¬ (6 : Int) = 2 by decide)), if_neg (fun h => absurd h.1 (show ¬ (6 : Int) = 3 by decide)), if_neg (fun h => absurd h.2.1 (show ¬ false = true by decide)), if_neg (fun h => absurd h.1 (show ¬ (6 : Int) = 7 by decide))]
   rw [es];refine Or.inl ⟨by show g.log ++ [] = _; rw [kac, hl], hd, rfl, nd, sub, less, fun j hj => ?_⟩;have := hS j hj;constructor
   ·intro h
    exact up j (this.1 h)
   ·intro h
    rcases kaa.1 h with h | h
    ·exact this.2 h
    ·simp at h
 ·have e := zi1 (m := (kd, d, k, [])) (o := (d, l, true, hd)) rfl hA
  unfold zh
  rw [ho, e];refine Or.inr ⟨fun j hj => up j (qy j hj), ?_⟩;rcases hk with rfl | rfl
  ·have es : zq (2, d, k, []) (d, l, true, hd) = (some (d, l, true, hd), [], []) := by
    unfold zq
    rw [if_neg (fun h => absurd h.2.1 (show ¬ true = false by decide)), if_neg (fun h => absurd h.1 (show ¬ (2 : Int) = 3 by decide)), if_neg (fun h => absurd h.1 (show ¬ (2 : Int) = 6 by decide)), if_neg (fun h => absurd h.1 (show ¬ (2 : Int) = 7 by decide))]
   rw [es];exact Or.inl ⟨by show g.log ++ [] = _; rw [kac, hl], hd, rfl, less⟩
  ·by_cases c : inI (zp l) k = true ∧ inI hd k = false
   ·by_cases f : (hd ++ [k]).length = (zp l).length
    ·have es : zq (6, d, k, []) (d, l, true, hd) = (U, [(6, d, [])], []) := by
      unfold zq
      rw [if_neg (fun h => absurd h.1 (show ¬ (6 : Int) = 2 by decide)), if_neg (fun h => absurd h.1 (show ¬ (6 : Int) = 3 by decide)), if_pos ⟨rfl, rfl, c⟩, if_pos f]
     rw [es];exact Or.inr ⟨by rw [hl]; simp, by simp⟩
    ·have es : zq (6, d, k, []) (d, l, true, hd) = (some (d, l, true, hd ++ [k]), [], []) := by
      unfold zq
      rw [if_neg (fun h => absurd h.1 (show ¬ (6 : Int) = 2 by decide)), if_neg (fun h => absurd h.1 (show ¬ (6 : Int) = 3 by decide)), if_pos ⟨rfl, rfl, c⟩, if_neg f]
     rw [es];refine Or.inl ⟨by show g.log ++ [] = _; rw [kac, hl], hd ++ [k], rfl, ?_⟩;rw [List.length_append] at f ⊢
     simp at f ⊢
     omega
   ·have es : zq (6, d, k, []) (d, l, true, hd) = (some (d, l, true, hd), [], []) := by
     unfold zq
     rw [if_neg (fun h => absurd h.1 (show ¬ (6 : Int) = 2 by decide)), if_neg (fun h => absurd h.1 (show ¬ (6 : Int) = 3 by decide)), if_neg (fun h => c h.2.2), if_neg (fun h => absurd h.1 (show ¬ (6 : Int) = 7 by decide))]
    rw [es];exact Or.inl ⟨by show g.log ++ [] = _; rw [kac, hl], hd, rfl, less⟩
 ·have e := zly (m := (kd, d, k, [])) hA
  unfold zh
  rw [ho, e];exact Or.inr ⟨fun j hj => up j (qy j hj), Or.inr ⟨hl, ho⟩⟩
theorem zk0 {L0 : List R3} {A : List O4} {d : Int} {l : List P3} {S : List (Int × Int)} {g : Gh} (H : Says L0 A d l S g) :
  ((zab L0).length < (zab g.log).length ↔ ∀ k ∈ zp l, ((2 : Int), k) ∈ S) ∧ (zab g.log).length ≤ (zab L0).length + 1 ∧ g.log.length ≤ L0.length + 2 ∧ g.opn.length ≤ A.length + 1 := by
 rcases H with ⟨hl, hd, ho, nd, sub, less, hS⟩ | ⟨qy, ⟨hl, hd, ho, less⟩ | ⟨hl, ho⟩⟩
 ·rw [hl, ho]
  refine ⟨⟨fun h => absurd h (Nat.lt_irrefl _), fun h => ?_⟩, Nat.le_succ _, by omega, by simp⟩;have := zf9 (zgt l) (fun k hk => (hS k hk).2 (h k hk));omega
 ·rw [hl, ho, zfe]
  simp only [if_pos, List.length_append, List.length_cons, List.length_nil]
  exact ⟨⟨fun _ => qy, fun _ => by omega⟩, by omega, by omega, by simp⟩
 ·have e : L0 ++ [((5 : Int), d, l), (6, d, [])] = (L0 ++ [(5, d, l)]) ++ [(6, d, [])] := by simp
  rw [hl, ho, e, zfe, zfe, if_neg (show ¬ (6 : Int) = 5 by decide), if_pos rfl];simp only [List.length_append, List.length_cons, List.length_nil]
  exact ⟨⟨fun _ => qy, fun _ => by omega⟩, by omega, by omega, by simp⟩
def RD (R : Nat → Prop) (w0 : World) : Nat → Prop := fun b => R b ∨ (w0.heap.size ≤ b ∧ b < w0.heap.size + 3)
theorem RD.lt {R : Nat → Prop} {w0 : World} (hR : ∀ b, R b → b < w0.heap.size) {n : Nat} (hn : w0.heap.size + 3 ≤ n) : ∀ b, RD R w0 b → b < n := fun b hb => hb.elim (fun h => by have := hR b h; omega) (fun h => by omega)
theorem RD.sub {R : Nat → Prop} {w0 : World} : ∀ b, R b → RD R w0 b := fun _ h => Or.inl h
theorem RD.new {R : Nat → Prop} {w0 : World} : ∀ b, RD R w0 b → R b ∨ w0.heap.size ≤ b := fun _ h => h.elim Or.inl (fun x => Or.inr x.1)
theorem Blk.cells3 {w : World} {N : Nat} {zV : TypeId} {c0 c1 c2 : Value} (h : Blk w N #[c0, c1, c2] zV) : w.cell? ⟨N, 0, U⟩ = some c0 ∧ w.cell? ⟨N, 1, U⟩ = some c1 ∧ w.cell? ⟨N, 2, U⟩ = some c2 := ⟨h.cell 0, h.cell 1, h.cell 2⟩
structure DoS (R : Nat → Prop) (w0 : World) (s0 s1 s2 : Value) (w : World) (la : Option Addr) (nl lc : Nat) (oa : Option Addr) (no oc : Nat) (ha : Option Addr) (nh hc : Nat) (na : Option Addr) (nn nc : Nat) (W : WW) : Prop where
 wb : Blk w w0.heap.size #[G la nl lc, E J W.hd.boot, E J W.hd.next, G oa no oc, G ha nh hc, G na nn nc] 59
 sb : Blk w (w0.heap.size + 1) #[s0, s1, s2] 86
 rb : Blk w (w0.heap.size + 2) #[G U 0 0, E J 0, E J 0, G U 0 0, G U 0 0, G U 0 0] 59
 hv : zy (RD R w0) w (.agg #[G la nl lc, E J W.hd.boot, E J W.hd.next, G oa no oc]) W.hd
 hs : ∃ X, zed (RD R w0) w ha nh X W.hs
 net : ∃ X, zbs (RD R w0) w na nn X (W.net.map fun m => zau m)
 cap : nn ≤ nc
 bel : Z w0.heap.size w0 w
 sz : w0.heap.size + 3 ≤ w.heap.size
section
variable {R : Nat → Prop} {w0 w w' : World} {s0 s1 s2 : Value} {la : Option Addr} {nl lc : Nat} {oa : Option Addr} {no oc : Nat} {ha : Option Addr} {nh hc : Nat} {na : Option Addr} {nn nc : Nat} {W : WW}
theorem DoS.below (H : DoS R w0 s0 s1 s2 w la nl lc oa no oc ha nh hc na nn nc W) (hb : Z w.heap.size w w') : DoS R w0 s0 s1 s2 w' la nl lc oa no oc ha nh hc na nn nc W :=
 ⟨H.wb.below hb H.wb.lt, H.sb.below hb H.sb.lt, H.rb.below hb H.rb.lt, H.hv.below hb, H.hs.imp (fun _ h => h.below hb), H.net.imp (fun _ h => h.below hb), H.cap, H.bel.trans (hb.mono H.bel.size), Nat.le_trans H.sz hb.size⟩
theorem DoS.put (H : DoS R w0 s0 s1 s2 w la nl lc oa no oc ha nh hc na nn nc W) (hk : zg (fun b => b = w0.heap.size) w w') {la' : Option Addr} {nl' lc' : Nat} {oa' : Option Addr} {no' oc' : Nat} {ha' : Option Addr} {nh' hc' : Nat} {na' : Option Addr} {nn' nc' : Nat} {W' : WW}
  (hb : Blk w' w0.heap.size #[G la' nl' lc', E J W'.hd.boot, E J W'.hd.next, G oa' no' oc', G ha' nh' hc', G na' nn' nc'] 59)
  (hv : zy (RD R w0) w (.agg #[G la' nl' lc', E J W'.hd.boot, E J W'.hd.next, G oa' no' oc']) W'.hd) (hs : ∃ X, zed (RD R w0) w ha' nh' X W'.hs) (hn : ∃ X, zbs (RD R w0) w na' nn' X (W'.net.map fun m => zau m)) (jZ : nn' ≤ nc') :
  DoS R w0 s0 s1 s2 w' la' nl' lc' oa' no' oc' ha' nh' hc' na' nn' nc' W' := by
 have hk' : zg (RD R w0) w w' := hk.mono (fun b _ hb => by subst hb; exact Or.inr ⟨Nat.le_refl _, by omega⟩);exact ⟨hb, H.sb.keep hk (by omega), H.rb.keep hk (by omega), hv.keep hk', hs.imp (fun _ h => h.keep hk'), hn.imp (fun _ h => h.keep hk'), jZ, H.bel.trans (hk.below H.bel.size (fun b hb => by subst hb; exact Nat.le_refl _)), Nat.le_trans H.sz hk.size⟩
theorem DoS.start {Y : List XL} {X : List XO} {XH : List XH} {XN : List XN} (hF : zeo R w0 la nl Y oa no X ha nh XH na nn XN W) (lc oc hc nc : Nat) (jZ : nn ≤ nc) (s0 s1 s2 : Value) :
  DoS R w0 s0 s1 s2 (((w0.alloc (T #[G la nl lc, E J W.hd.boot, E J W.hd.next, G oa no oc, G ha nh hc, G na nn nc] 59)).alloc (T #[s0, s1, s2] 86)).alloc (T #[G U 0 0, E J 0, E J 0, G U 0 0, G U 0 0, G U 0 0] 59)) la nl lc oa no oc ha nh hc na nn nc W := by
 have b3 := (za2 w0 (T #[G la nl lc, E J W.hd.boot, E J W.hd.next, G oa no oc, G ha nh hc, G na nn nc] 59) (T #[s0, s1, s2] 86)).alloc (by simp; omega) (T #[G U 0 0, E J 0, E J 0, G U 0 0, G U 0 0, G U 0 0] 59);have s2' : ((w0.alloc (T #[G la nl lc, E J W.hd.boot, E J W.hd.next, G oa no oc, G ha nh hc, G na nn nc] 59)).alloc (T #[s0, s1, s2] 86)).heap.size = w0.heap.size + 2 := by simp
 refine ⟨((Blk.new _ _ _).alloc _).alloc _, Blk.alloc (zaq _ _ _) _, ?_, ⟨la, nl, lc, Y, oa, no, oc, X, rfl, (hF.hd.wide RD.new).below b3⟩, ⟨XH, (hF.hs.wide RD.new).below b3⟩, ⟨XN, (hF.net.wide RD.new).below b3⟩, jZ, b3, by simp⟩;rw [← s2'];exact Blk.new _ _ _
theorem DoS.headF (H : DoS R w0 s0 s1 s2 w la nl lc oa no oc ha nh hc na nn nc W) : ∃ Y X, zbk (RD R w0) w la nl Y oa no X W.hd.log W.hd.opn := by
 obtain ⟨la2, nl2, lc2, Y, oa2, no2, oc2, X, e, hF⟩ := H.hv;simp only [Value.agg.injEq, Array.mk.injEq, List.cons.injEq, Value.slice.injEq, and_true, true_and] at e
 obtain ⟨⟨rfl, rfl, rfl⟩, rfl, rfl, rfl⟩ := e;exact ⟨Y, X, hF⟩
theorem DoS.worV (H : DoS R w0 s0 s1 s2 w la nl lc oa no oc ha nh hc na nn nc W) : zaf (RD R w0) w (.agg #[G la nl lc, E J W.hd.boot, E J W.hd.next, G oa no oc, G ha nh hc, G na nn nc]) W := by
 obtain ⟨Y, X, hF⟩ := H.headF;obtain ⟨XH, hH⟩ := H.hs;obtain ⟨XN, hN⟩ := H.net;exact ⟨la, nl, lc, Y, oa, no, oc, X, ha, nh, hc, XH, na, nn, nc, XN, rfl, H.cap, ⟨hF, hH, hN⟩⟩
theorem DoS.ret (H : DoS R w0 s0 s1 s2 w la nl lc oa no oc ha nh hc na nn nc W) :
  zaf R (r (r (r (r (r (r w ⟨w0.heap.size + 2, 0, U⟩ (G la nl lc)) ⟨w0.heap.size + 2, 1, U⟩ (E J W.hd.boot)) ⟨w0.heap.size + 2, 2, U⟩ (E J W.hd.next)) ⟨w0.heap.size + 2, 3, U⟩ (G oa no oc)) ⟨w0.heap.size + 2, 4, U⟩ (G ha nh hc)) ⟨w0.heap.size + 2, 5, U⟩ (G na nn nc)) (.agg #[G la nl lc, E J W.hd.boot, E J W.hd.next, G oa no oc, G ha nh hc, G na nn nc]) W ∧
  Z w0.heap.size w0 (r (r (r (r (r (r w ⟨w0.heap.size + 2, 0, U⟩ (G la nl lc)) ⟨w0.heap.size + 2, 1, U⟩ (E J W.hd.boot)) ⟨w0.heap.size + 2, 2, U⟩ (E J W.hd.next)) ⟨w0.heap.size + 2, 3, U⟩ (G oa no oc)) ⟨w0.heap.size + 2, 4, U⟩ (G ha nh hc)) ⟨w0.heap.size + 2, 5, U⟩ (G na nn nc)) ∧
  Blk (r (r (r (r (r (r w ⟨w0.heap.size + 2, 0, U⟩ (G la nl lc)) ⟨w0.heap.size + 2, 1, U⟩ (E J W.hd.boot)) ⟨w0.heap.size + 2, 2, U⟩ (E J W.hd.next)) ⟨w0.heap.size + 2, 3, U⟩ (G oa no oc)) ⟨w0.heap.size + 2, 4, U⟩ (G ha nh hc)) ⟨w0.heap.size + 2, 5, U⟩ (G na nn nc)) (w0.heap.size + 2) #[G la nl lc, E J W.hd.boot, E J W.hd.next, G oa no oc, G ha nh hc, G na nn nc] 59 := by
 obtain ⟨h1, hk⟩ := zhj H.rb (G la nl lc) (E J W.hd.boot) (E J W.hd.next) (G oa no oc) (G ha nh hc) (G na nn nc);have hk' : zg (RD R w0) w _ := hk.mono (fun b _ hb => by subst hb; exact Or.inr ⟨by omega, by omega⟩);refine ⟨?_, H.bel.trans (hk.below H.bel.size (fun b hb => by subst hb; omega)), h1⟩;obtain ⟨la2, nl2, lc2, Y, oa2, no2, oc2, X, e, hF⟩ := H.hv.keep hk';obtain ⟨XH, hH⟩ := H.hs;obtain ⟨XN, hN⟩ := H.net;simp only [Value.agg.injEq, Array.mk.injEq, List.cons.injEq, Value.slice.injEq, and_true, true_and] at e
 obtain ⟨⟨rfl, rfl, rfl⟩, rfl, rfl, rfl⟩ := e;exact ⟨la, nl, lc, Y, oa, no, oc, X, ha, nh, hc, XH, na, nn, nc, XN, rfl, H.cap, zeo.wide ⟨hF, hH.keep hk', hN.keep hk'⟩ (fun b hb => Or.inl (RD.sub b hb))⟩
end
/- What holds of a world that came of steps. -/
theorem Inv.fewO {n : Nat} {P : Int → List P3} {W : WW} (I : Inv n P W) : zcd W.hd.opn :=
 ⟨by have := I.few; omega, fun o ho => by
  have h := I.opn o ho;have h1 := (zc4 h.right).2.1;have h2 := h.less;have h3 := zdy o.2.1
  exact ⟨h1, by omega⟩⟩
theorem zbq.wrongM {n : Nat} {P : Int → List P3} {W : WW} {m : Q4} (h : zbq n P W m) : zdo m = 0 := by
 rw [← zmx];exact h.right
theorem znb {m : Q4} (h : zdo m = 0) : zfj m := by
 obtain ⟨h1, h2, h3, h4, h5⟩ := zim h;exact ⟨by omega, by omega, fun p hp => by have := h5 p hp; omega, by omega⟩
theorem zbq.int64 {n : Nat} {P : Int → List P3} {W : WW} {m : Q4} (h : zbq n P W m) : zfj m := znb h.wrongM
theorem zbq.bounds {n : Nat} {P : Int → List P3} {W : WW} {m : Q4} (h : zbq n P W m) : 0 ≤ m.2.1 ∧ m.2.1 ≤ 1343 ∧ 0 ≤ m.2.2.1 ∧ OkP m.2.2.2 := by
 have h1 := (zim h.wrongM).2.2.1;obtain ⟨h2, h3, h4, h5, h6, h7⟩ := zhw h.right;refine ⟨h2, h3, h1.1, ?_⟩;by_cases k : m.1 = 1
 ·exact zfd (h7 k).1
 ·rw [h6 (by omega)]; exact zea
theorem zdv.calc {L : List R3} (H : zdv L) (h : L.length * 40 ≤ 140737488355328) : zc9 L := ⟨H.ok, H.within, h⟩
theorem zlt {L : List R3} (H : zdv L) (hl : L.length ≤ 100000) {k d c : Int} {l : List P3} (hw : zbd k d c l = 0) : ∀ jj, za1 (ze L) k d l = some jj → zc9 (L ++ [jj]) := by
 intro jj hr;have h1 := H.hear hw;rw [zd6 hr] at h1;exact h1.calc (by rw [List.length_append]; simp; omega)
theorem zdv.bound {L : List R3} (H : zdv L) : zbl 2199023255552 (ze L).1 := by
 have h := H.within L.length (Nat.le_refl _);rwa [List.take_of_length_le (Nat.le_refl _)] at h
theorem at_get {W : WW} {k : Nat} (hk : k < W.hs.length) : W.at (k : Int) = W.hs[k] := by
 unfold WW.at
 rw [List.getD_eq_getElem?_getD, Int.toNat_natCast, List.getElem?_eq_getElem hk];rfl
theorem zat.below {R : Nat → Prop} {w w' : World} {v : Value} {ms : List Q4} (h : zat R w v ms) (hb : Z w.heap.size w w') : zat R w' v ms := by
 obtain ⟨a, n, c, X, hv, hf⟩ := h;exact ⟨a, n, c, X, hv, hf.below hb⟩
theorem zat.keep {R : Nat → Prop} {w w' : World} {v : Value} {ms : List Q4} (h : zat R w v ms) (hk : zg R w w') : zat R w' v ms := by
 obtain ⟨a, n, c, X, hv, hf⟩ := h;exact ⟨a, n, c, X, hv, hf.keep hk⟩
theorem zat.narrow {R R' : Nat → Prop} {w : World} {v : Value} {ms : List Q4} (h : zat R w v ms) (hR : ∀ b, R' b → R b) : zat R' w v ms := by
 obtain ⟨a, n, c, X, hv, hf⟩ := h;exact ⟨a, n, c, X, hv, hf.n, hf.row, hf.out.imp id (fun ho ad had hr => ho ad had (hR _ hr)), hf.says, fun x hx => (hf.parts x hx).wide (fun b hb => Or.inl (hR b hb))⟩
theorem hearM_len (L : List R3) (me k d : Int) (l : List P3) : (zaw L me k d l).length ≤ 1 := by
 unfold zaw
 cases zdf L k d l <;> simp
theorem stepO_len (m : Q4) (o : O4) : (zq m o).2.2.length ≤ 3 := by
 unfold zq
 split
 ·split
  ·exact zf8 _
  ·exact Nat.zero_le _
 ·split
  ·exact zg3 _
  ·split
   ·split <;> exact Nat.zero_le _
   ·split
    ·exact Nat.le_of_lt (by decide : 1 < 3)
    ·exact Nat.zero_le _
theorem zor (g : Gh) (m : Q4) : (zh g m).2.length ≤ 1000 := by
 unfold zh
 cases h : zbx m g.opn with
 | none => simp only; split <;> simp
 | some x =>
  obtain ⟨A, o, B, _, _, rfl⟩ := zf4 h;exact Nat.le_trans (stepO_len m o) (by decide)
theorem begin_len (g : Gh) (l : List P3) : (zo g l).2.1.length ≤ 1000 := by
 unfold zo
 split
 ·simp
 ·have := zf8 (64 * g.boot + g.next, l, false, [])
  exact Nat.le_trans this (by decide)
theorem quit_len {g : Gh} (h : g.opn.length ≤ 12) : (zu g).2.length ≤ 1000 := by
 have h1 := zf6 zg3 (g.opn.filter fun o => !o.2.2.1);have h2 : (g.opn.filter fun o => !o.2.2.1).length ≤ g.opn.length := List.length_filter_le _ _;show ((g.opn.filter fun o => !o.2.2.1).flatMap za9).length ≤ 1000
 omega
theorem tick_len {g : Gh} (h : g.opn.length ≤ 12) : (zev g).length ≤ 1000 := by
 have h1 := zf6 zf8 g.opn;unfold zev
 omega
theorem asks_msgs {w : World} {base : Nat} {v : Value} {D : List D2} {me : Int} (h : zd 43 4 zb4 w base v (D.map fun x => (7, x.1, me, (U, 0), []))) : zm w base v (askW D me) :=
 ⟨_, h, by simp [askW, zc6], fun x hx => by obtain ⟨y, _, rfl⟩ := List.mem_map.1 hx; exact Or.inl rfl⟩
theorem zbs.of {R : Nat → Prop} {w w' : World} {na : Option Addr} {nn : Nat} {X : List XN} {bs : List (List Nat)} (H : zbs R w na nn X bs) (hb : Z w.heap.size w w') {X' : List XN} (hs : ∀ x ∈ X', x ∈ X) {base : Nat} {a : Option Addr} {n c : Nat}
  (ho : zak 95 1 zch w' base (G a n c) X') (hR : ∀ b, R b → b < base) : zbs R w' a n X' (X'.map (·.2)) := by
 obtain ⟨h1, h2, _⟩ := ho.at zcj;refine ⟨h2, h1, ?_, rfl, fun x hx => (H.bytes x (hs x hx)).below hb, fun x hx => H.caps x (hs x hx)⟩;rcases ho with h | ⟨h, _⟩
 ·exact h.outR hR _
 ·exact Or.inl (by rw [h]; rfl)
theorem zk.drop1 {α : Type} {enc : α → List Value} {w : World} {b o : Nat} {xs : List α} (h : zk 1 enc w (some ⟨b, o, U⟩) xs) (j : Nat) : zk 1 enc w (some ⟨b, o + j, U⟩) (xs.drop j) := by
 rcases h with rfl | ⟨b', o', e, hlt, hc⟩
 ·exact Or.inl (by simp)
 ·cases e
  refine Or.inr ⟨b, o + j, rfl, hlt, fun i hi q u hu => ?_⟩;rw [List.getElem_drop] at hu;rw [List.length_drop] at hi;have h1 := hc (j + i) (by omega) q u hu;rw [show o + j + i * 1 + q = o + (j + i) * 1 + q by omega];exact h1
theorem zk.cut1 {α : Type} {enc : α → List Value} {w : World} {b o : Nat} {xs : List α} (h : zk 1 enc w (some ⟨b, o, U⟩) xs) {j nc : Nat} (hn : xs.length ≤ nc) : zk 1 enc w (if nc = j then some ⟨b, o, U⟩ else some ⟨b, o + j, U⟩) (xs.drop j) := by
 split
 ·exact Or.inl (List.drop_of_length_le (by omega))
 ·exact h.drop1 j
theorem zi0 {X : List XN} {bs : List (List Nat)} (h : X.map (·.2) = bs) (k : Nat) : (X.take k ++ X.drop (k + 1)).map (·.2) = bs.eraseIdx k := by
 rw [← h, List.eraseIdx_eq_take_drop_succ, List.map_append, List.map_take, List.map_drop]
theorem zft {W : WW} {sk sn : Int} {sl : List P3} (hk : sk = 2 ∨ sk = 3 ∨ sk = 4) (h : ¬ (0 ≤ sn ∧ sn < (W.net.length : Int))) : zl W (sk, sn, sl) = (W, 6) := by
 unfold zl
 simp only
 rw [if_neg (by omega), if_pos hk];by_cases h0 : 0 ≤ sn
 ·rw [if_pos h0, List.getElem?_eq_none (by omega)]
 ·rw [if_neg h0]
theorem zlm {W : WW} {k : Nat} {sl : List P3} {m : Q4} (h : W.net[k]? = some m) : zl W (4, (k : Int), sl) = ({ W with net := if W.net.length < 24 then W.net ++ [m] else W.net }, 0) := by
 unfold zl
 simp only [Int.toNat_natCast, h]
 rw [if_neg (by decide), if_pos (by decide), if_pos (by omega)];simp
theorem step_lose {W : WW} {k : Nat} {sl : List P3} {m : Q4} (h : W.net[k]? = some m) : zl W (3, (k : Int), sl) = ({ W with net := W.net.eraseIdx k }, 0) := by
 unfold zl
 simp only [Int.toNat_natCast, h]
 rw [if_neg (by decide), if_pos (by decide), if_pos (by omega)];simp
theorem zlx {W : WW} {k : Nat} {sl : List P3} {m : Q4} (h : W.net[k]? = some m) : zl W (2, (k : Int), sl) = (zee { W with net := W.net.eraseIdx k } m, 0) := by
 unfold zl
 simp only [Int.toNat_natCast, h]
 rw [if_neg (by decide), if_pos (by decide), if_pos (by omega)];simp
end Go.Proofs.Ytpcnlifmkhagkaa
