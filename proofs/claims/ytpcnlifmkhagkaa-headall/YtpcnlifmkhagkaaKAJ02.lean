import Derived.Test.YtpcnlifmkhagkaaKALists
import Derived.Lib.SliceRun
import Derived.Deep.RegionWith
import Derived.Deep.DeepCutAuto
import Derived.OwnWalk
set_option maxRecDepth 20000
set_option maxHeartbeats 20000000
namespace Go.Proofs.Ytpcnlifmkhagkaa
open Go.RowKit
open Go.Value renaming slice → G, int → E
open Go.IntKind renaming i64 → J
open _root_.Option renaming none → U
open Go.Obj renaming cells → T
open Go.RowKit renaming Hid → Q, Below → Z
open Go.World renaming setCell → r
open _root_.Nat renaming le_refl → kaa
attribute [local go_sem ↓] Go.wp_at_zero Go.wp_at_succ
def ofB (l : List P3) (H : Int) : List P3 := l.filter fun p => decide (p.1 = H)
theorem sadd_comm (s : S4) (a b m n : Int) : zdq (zdq s a m) b n = zdq (zdq s b n) a m := by
 obtain ⟨s0, s1, s2, s3⟩ := s;unfold zdq
 repeat' split
 all_goals first | rfl | (exfalso; omega) | (refine Prod.ext ?_ (Prod.ext ?_ (Prod.ext ?_ ?_)) <;> (try simp only) <;> omega)
theorem zlp (s : S4) (p q : P3) : do1 (do1 s p) q = do1 (do1 s q) p := by
 unfold do1
 split <;> split <;> first | rfl | exact sadd_comm _ _ _ _ _
theorem doB_do1 (s : S4) (p : P3) (l : List P3) : doB (do1 s p) l = do1 (doB s l) p := by
 induction l generalizing s with
 | nil => rfl
 | cons q t ih => simp only [doB, List.foldl_cons] at *; rw [zlp, ih]
theorem zf1 (s : S4) (p : P3) (l : List P3) : doB s (p :: l) = do1 (doB s l) p := by rw [← doB_do1]; rfl
theorem zky {H : Int} : ∀ {l seen : List P3}, zdp H seen l = 0 → (∀ p ∈ l, inB p H = true) ∧ (∀ p ∈ l, hasB p seen = false) ∧ l.Pairwise (fun p q => zex p q = false)
 | [], _, _ => by simp
 | p :: t, seen, h => by
  simp only [zdp] at h
  split at h
  ·rename_i hin
   split at h
   ·cases h
   ·rename_i hh
    obtain ⟨h1, h2, h3⟩ := zky h
    have h2' : ∀ q ∈ t, hasB q seen = false ∧ zex p q = false := fun q hq => by
     have := h2 q hq;rw [zl6, Bool.or_eq_false_iff] at this;exact this
    refine ⟨fun q hq => ?_, fun q hq => ?_, List.Pairwise.cons (fun q hq => (h2' q hq).2) h3⟩
    ·rcases List.mem_cons.1 hq with rfl | hq
     ·exact hin
     ·exact h1 q hq
    ·rcases List.mem_cons.1 hq with rfl | hq
     ·simpa using hh
     ·exact (h2' q hq).1
  ·cases h
theorem zc4 {l : List P3} {H : Int} (h : zay l H = 0) : 1 ≤ l.length ∧ l.length ≤ 4 ∧ (∀ p ∈ l, inB p H = true) ∧ l.Pairwise (fun p q => zex p q = false) := by
 unfold zay at h
 split at h
 ·cases h
 ·obtain ⟨h1, _, h3⟩ := zky h
  exact ⟨by omega, by omega, h1, h3⟩
theorem small_of {l : List P3} {H : Int} (h : ∀ p ∈ l, inB p H = true) : zd7 l := fun p hp => by
 have := h p hp;simp only [inB, decide_eq_true_eq] at this
 omega
theorem zg4 {k : Int} : zb6 k = true ↔ k = 0 ∨ k = 1 ∨ k = 2 ∨ k = 3 := by simp only [zb6, decide_eq_true_eq]; omega
theorem zml (s : S4) {k : Int} (h : zb6 k = true) (n : Int) : za7 (zdq s k n) k = za7 s k + n := by
 rcases zg4.1 h with rfl | rfl | rfl | rfl <;> simp [za7, zdq]
theorem zjz (s : S4) {j k : Int} (hj : zb6 j = true) (hk : zb6 k = true) (h : j ≠ k) (n : Int) : za7 (zdq s k n) j = za7 s j := by
 rcases zg4.1 hj with rfl | rfl | rfl | rfl <;> rcases zg4.1 hk with rfl | rfl | rfl | rfl <;> first | (exact absurd rfl h) | simp [za7, zdq]
theorem zij {s : S4} {l : List P3} {k : Int} (hk : zb6 k = true) (hl : ∀ p ∈ l, p.2.1 ≠ k) : za7 (doB s l) k = za7 s k := by
 induction l with
 | nil => rfl
 | cons p t ih =>
  rw [zf1];have h1 := ih (fun q hq => hl q (by simp [hq]));unfold do1
  split
  ·rename_i hp; rw [zjz _ hk hp (Ne.symm (hl p (by simp)))]; exact h1
  ·exact h1
theorem zkl {s : S4} : ∀ {l : List P3}, l.Pairwise (fun p q => p.2.1 ≠ q.2.1) → ∀ p ∈ l, zb6 p.2.1 = true → za7 (doB s l) p.2.1 = za7 s p.2.1 + p.2.2
 | q :: t, hpw, p, hp, hk => by
  rw [zf1]
  cases hpw with
  | cons hq ht =>
   rcases List.mem_cons.1 hp with rfl | hp
   ·unfold do1
    rw [if_pos hk, zml _ hk, zij hk (fun jj hr => (hq jj hr).symm)]
   ·have ih := zkl (s := s) ht p hp hk
    unfold do1
    split
    ·rename_i hqk; rw [zjz _ hk hqk (hq p hp).symm]; exact ih
    ·exact ih
theorem zpa {s : S4} : zf2 s = true ↔ ∀ k, zb6 k = true → 0 ≤ za7 s k ∧ za7 s k ≤ 1048576 := by
 obtain ⟨s0, s1, s2, s3⟩ := s;simp only [zf2, decide_eq_true_eq]
 constructor
 ·rintro ⟨h0, h1, h2, h3⟩ k hk
  rcases zg4.1 hk with rfl | rfl | rfl | rfl <;> simp [za7] <;> omega
 ·intro h
  have h0 := h 0 (by decide);have h1 := h 1 (by decide);have h2 := h 2 (by decide);have h3 := h 3 (by decide);simp [za7] at h0 h1 h2 h3
  exact ⟨h0, h1, h2, h3⟩
theorem zjt {s : S4} {l : List P3} : zcp s l = 0 ↔ ∀ p ∈ l, zb6 p.2.1 = true → 0 ≤ za7 s p.2.1 + p.2.2 ∧ za7 s p.2.1 + p.2.2 ≤ 1048576 := by
 induction l with
 | nil => simp [zcp]
 | cons p t ih =>
  simp only [zcp, List.mem_cons, forall_eq_or_imp]
  rw [← ih];by_cases hk : zb6 p.2.1 = true
  ·rw [if_pos hk]
   by_cases h1 : za7 s p.2.1 + p.2.2 < 0
   ·rw [if_pos h1]; constructor
    ·intro h; cases h
    ·rintro ⟨h, _⟩; have := h hk; omega
   ·rw [if_neg h1]
    by_cases h2 : 1048576 < za7 s p.2.1 + p.2.2
    ·rw [if_pos h2]; constructor
     ·intro h; cases h
     ·rintro ⟨h, _⟩; have := h hk; omega
    ·rw [if_neg h2]; exact ⟨fun h => ⟨fun _ => by omega, h⟩, fun h => h.2⟩
  ·rw [if_neg hk]; exact ⟨fun h => ⟨fun h' => absurd h' hk, h⟩, fun h => h.2⟩
theorem znn {s : S4} (h : zf2 s = true) : zbl 1048576 s := by
 simp only [zf2, decide_eq_true_eq] at h
 obtain ⟨h0, h1, h2, h3⟩ := h;exact ⟨⟨by omega, by omega⟩, ⟨by omega, by omega⟩, ⟨by omega, by omega⟩, ⟨by omega, by omega⟩⟩
abbrev R3 := Int × Int × List P3
abbrev D2 := Int × List P3
abbrev H3 := S4 × List D2 × List Int
abbrev O4 := Int × List P3 × Bool × List Int
def zad (D : List D2) (d : Int) : Bool := D.any fun x => decide (x.1 = d)
def zao (D : List D2) (d : Int) : List D2 := D.filter fun x => !decide (x.1 = d)
def zcg (D : List D2) (d : Int) : List P3 := ((D.find? fun x => decide (x.1 = d)).map (·.2)).getD []
def zbg (h : H3) (jj : R3) : H3 :=
 if jj.1 = 1 then (if zad h.2.1 jj.2.1 then h else (h.1, h.2.1 ++ [(jj.2.1, jj.2.2)], h.2.2))
 else if jj.1 = 2 then (if zad h.2.1 jj.2.1 then (doB h.1 (zcg h.2.1 jj.2.1), zao h.2.1 jj.2.1, h.2.2 ++ [jj.2.1]) else h)
 else if jj.1 = 3 then (h.1, zao h.2.1 jj.2.1, h.2.2)
 else h
def ze (L : List R3) : H3 := L.foldl zbg ((0, 0, 0, 0), [], [])
theorem zey (L : List R3) (jj : R3) : ze (L ++ [jj]) = zbg (ze L) jj := by simp [ze]
def zdl (g : Int × List D2) (jj : R3) : Int × List D2 :=
 if jj.1 = 4 then (g.1 + 1, g.2)
 else if jj.1 = 5 then (g.1, g.2 ++ [(jj.2.1, jj.2.2)])
 else if jj.1 = 6 then (g.1, zao g.2 jj.2.1)
 else g
def zac (L : List R3) : Int × List D2 := L.foldl zdl (0, [])
theorem zgo (L : List R3) (jj : R3) : zac (L ++ [jj]) = zdl (zac L) jj := by simp [zac]
def zab (L : List R3) : List D2 := (L.filter fun jj => decide (jj.1 = 5)).map fun jj => (jj.2.1, jj.2.2)
theorem zfe (L : List R3) (jj : R3) : zab (L ++ [jj]) = zab L ++ (if jj.1 = 5 then [(jj.2.1, jj.2.2)] else []) := by
 by_cases h : jj.1 = 5 <;> simp [zab, List.filter_append, h]
def OkP (l : List P3) : Prop := l.length ≤ 4 ∧ zd7 l ∧ ∀ p ∈ l, zb6 p.2.1 = true
def OkL (L : List R3) : Prop := ∀ jj ∈ L, OkP jj.2.2
theorem zea : OkP [] := ⟨by simp, (fun p hp => by cases hp), (fun p hp => by cases hp)⟩
theorem zfd {l : List P3} {H : Int} (h : zay l H = 0) : OkP l := by
 obtain ⟨_, h4, hin, _⟩ := zc4 h;refine ⟨h4, small_of hin, fun p hp => ?_⟩;have := hin p hp;simp only [inB, decide_eq_true_eq] at this
 simp only [zb6, decide_eq_true_eq]; omega
theorem zcy {D : List D2} {d : Int} {x : D2} (h : x ∈ zao D d) : x ∈ D ∧ x.1 ≠ d := by
 simp only [zao, List.mem_filter] at h
 exact ⟨h.1, by simpa using h.2⟩
theorem zi8 {D : List D2} {d : Int} (h : zad D d = true) : ∃ x ∈ D, x.1 = d ∧ zcg D d = x.2 := by
 unfold zcg
 cases hf : D.find? fun x => decide (x.1 = d) with
 | none =>
  rw [List.find?_eq_none] at hf;simp only [zad, List.any_eq_true] at h
  obtain ⟨x, hx, hd⟩ := h;exact absurd hd (by simpa using hf x hx)
 | some x => exact ⟨x, List.mem_of_find?_eq_some hf, by simpa using List.find?_some hf, rfl⟩
structure zep (k : Nat) (h : H3) : Prop where
 ok : ∀ x ∈ h.2.1, OkP x.2
 nd : (h.2.1.map (·.1)).Nodup
 within : zbl (k * 4194304) h.1
 few : h.2.1.length ≤ k
 done : h.2.2.length ≤ k
theorem zh8 {D : List D2} (h : (D.map (·.1)).Nodup) (d : Int) : ((zao D d).map (·.1)).Nodup :=
 List.Nodup.sublist (List.Sublist.map _ List.filter_sublist) h
theorem hstep_inv {k : Nat} {h : H3} {jj : R3} (H : zep k h) (hr : OkP jj.2.2) : zep (k + 1) (zbg h jj) := by
 have e : (((k + 1 : Nat) : Int) * 4194304) = (k : Int) * 4194304 + 4194304 := by omega
 have hw : zbl (((k + 1 : Nat) : Int) * 4194304) h.1 := zgv H.within (by omega);unfold zbg
 split
 ·split
  ·exact ⟨H.ok, H.nd, hw, by have := H.few; omega, by have := H.done; omega⟩
  ·rename_i hn
   refine ⟨?_, ?_, hw, ?_, by have := H.done; show h.2.2.length ≤ _; omega⟩
   ·intro x hx
    rcases List.mem_append.1 hx with hx | hx
    ·exact H.ok x hx
    ·rw [List.mem_singleton.1 hx]; exact hr
   ·show ((h.2.1 ++ [(jj.2.1, jj.2.2)]).map (·.1)).Nodup
    rw [List.map_append, List.nodup_append];refine ⟨H.nd, by simp, ?_⟩;intro a ha b hb hab;simp at hb
    subst hb;subst hab;obtain ⟨x, hx, hxa⟩ := List.mem_map.1 ha;exact hn (by simp only [zad, List.any_eq_true]; exact ⟨x, hx, by simpa using hxa⟩)
   ·show (h.2.1 ++ [(jj.2.1, jj.2.2)]).length ≤ k + 1
    have := H.few;simp; omega
 ·split
  ·split
   ·rename_i hs
    obtain ⟨x, hx, hd, hp⟩ := zi8 hs;obtain ⟨o1, o2, _⟩ := H.ok x hx;refine ⟨fun y hy => H.ok y (zcy hy).1, zh8 H.nd _, ?_, ?_, ?_⟩
    ·show zbl _ (doB h.1 (zcg h.2.1 jj.2.1))
     rw [hp];refine zgv (zj7 H.within o2) ?_;omega
    ·have := H.few
     have := List.length_filter_le (fun x : D2 => !decide (x.1 = jj.2.1)) h.2.1;show (zao h.2.1 jj.2.1).length ≤ _
     unfold zao; omega
    ·have := H.done
     show (h.2.2 ++ [jj.2.1]).length ≤ _
     simp; omega
   ·exact ⟨H.ok, H.nd, hw, by have := H.few; omega, by have := H.done; omega⟩
  ·split
   ·refine ⟨fun y hy => H.ok y (zcy hy).1, zh8 H.nd _, hw, ?_, by have := H.done; show h.2.2.length ≤ _; omega⟩
    have := H.few;have := List.length_filter_le (fun x : D2 => !decide (x.1 = jj.2.1)) h.2.1;show (zao h.2.1 jj.2.1).length ≤ _
    unfold zao; omega
   ·exact ⟨H.ok, H.nd, hw, by have := H.few; omega, by have := H.done; omega⟩
theorem zfx : ∀ {L : List R3}, OkL L → zep L.length (ze L) := by
 intro L;suffices h : ∀ (n : Nat) (L : List R3), L.length = n → OkL L → zep n (ze L) from fun h' => h _ L rfl h'
 intro n
 induction n with
 | zero =>
  intro L hL _;obtain rfl := List.eq_nil_of_length_eq_zero hL;exact ⟨(fun x hx => by cases hx), by simp [ze], by simp [ze, zbl], by simp [ze], by simp [ze]⟩
 | succ n ih =>
  intro L hL hok;have hne : n < L.length := by omega
  have e : L = L.take n ++ [L[n]] := by rw [← zax hne, List.take_of_length_le (by omega)]
  rw [e, zey];refine hstep_inv (ih _ (by simp; omega) (fun jj hr => hok jj (List.mem_of_mem_take hr))) (hok _ (List.getElem_mem hne))
theorem okL_take {L : List R3} (h : OkL L) (k : Nat) : OkL (L.take k) := fun jj hr => h jj (List.mem_of_mem_take hr)
theorem zk4 {L : List R3} (h : OkL L) {k : Nat} (hk : k ≤ L.length) : zep k (ze (L.take k)) := by
 have := zfx (okL_take h k);rwa [List.length_take, Nat.min_eq_left hk] at this
theorem zkr : ∀ (L : List R3), 0 ≤ (zac L).1 ∧ (zac L).1 ≤ L.length ∧ (zac L).2.length ≤ L.length := by
 intro L;suffices h : ∀ (n : Nat) (L : List R3), L.length = n → 0 ≤ (zac L).1 ∧ (zac L).1 ≤ n ∧ (zac L).2.length ≤ n from h _ L rfl
 intro n
 induction n with
 | zero =>
  intro L hL;obtain rfl := List.eq_nil_of_length_eq_zero hL;simp [zac]
 | succ n ih =>
  intro L hL;have hne : n < L.length := by omega
  have e : L = L.take n ++ [L[n]] := by rw [← zax hne, List.take_of_length_le (by omega)]
  rw [e, zgo];obtain ⟨h1, h2, h3⟩ := ih (L.take n) (by simp; omega);have hf := List.length_filter_le (fun x : D2 => !decide (x.1 = (L[n]).2.1)) (zac (L.take n)).2;unfold zdl
  repeat' split
  ·exact ⟨by show 0 ≤ (zac (L.take n)).1 + 1; omega, by show (zac (L.take n)).1 + 1 ≤ _; omega, by show (zac (L.take n)).2.length ≤ _; omega⟩
  ·exact ⟨h1, by show (zac (L.take n)).1 ≤ _; omega, by simp; omega⟩
  ·exact ⟨h1, by show (zac (L.take n)).1 ≤ _; omega, by show (zao _ _).length ≤ _; unfold zao; omega⟩
  ·exact ⟨h1, by omega, by omega⟩
theorem zpx (L : List R3) {k : Nat} (hk : k ≤ L.length) : 0 ≤ (zac (L.take k)).1 ∧ (zac (L.take k)).1 ≤ k ∧ (zac (L.take k)).2.length ≤ k := by
 have := zkr (L.take k);rwa [List.length_take, Nat.min_eq_left hk] at this
theorem zou (L : List R3) : (zab L).length ≤ L.length := by
 unfold zab
 rw [List.length_map];exact List.length_filter_le _ _
structure zc9 (L : List R3) : Prop where
 ok : OkL L
 within : ∀ k, k ≤ L.length → zbl 2199023255552 (ze (L.take k)).1
 size : L.length * 40 ≤ 140737488355328
theorem zc9.of {L : List R3} (h : OkL L) (hl : L.length ≤ 500000) : zc9 L :=
 ⟨h, fun k hk => zgv (zk4 h hk).within (by omega), by omega⟩
abbrev Hd := Option Addr × Nat
abbrev XL := Int × Int × Hd × List P3
abbrev XD := Int × Hd × List P3
def ze0 (p : P3) : List Value := [E J p.1, E J p.2.1, E J p.2.2]
def zaj (x : XL) : List Value := [E J x.1, E J x.2.1, G x.2.2.1.1 x.2.2.2.length x.2.2.1.2]
def zc1 (x : XD) : List Value := [E J x.1, G x.2.1.1 x.2.2.length x.2.1.2]
def zb7 (x : XD) : List Value := [E J x.1, G x.2.1.1 x.2.2.length x.2.1.2, .bool true, G U 0 0]
def zv (x : Int) : List Value := [E J x]
theorem lenP (x : P3) : (ze0 x).length = 3 := rfl
theorem za4 (x : XL) : (zaj x).length = 3 := rfl
theorem zdz (x : XD) : (zc1 x).length = 2 := rfl
theorem zdx (x : XD) : (zb7 x).length = 4 := rfl
theorem zai (x : Int) : (zv x).length = 1 := rfl
theorem oneP (x : P3) : ∀ u ∈ ze0 x, u.oneCell' = true := by intro u hu; simp [ze0] at hu; rcases hu with rfl | rfl | rfl <;> rfl
theorem zcr (x : XL) : ∀ u ∈ zaj x, u.oneCell' = true := by intro u hu; simp [zaj] at hu; rcases hu with rfl | rfl | rfl <;> rfl
theorem oneD (x : XD) : ∀ u ∈ zc1 x, u.oneCell' = true := by intro u hu; simp [zc1] at hu; rcases hu with rfl | rfl <;> rfl
theorem oneO (x : XD) : ∀ u ∈ zb7 x, u.oneCell' = true := by intro u hu; simp [zb7] at hu; rcases hu with rfl | rfl | rfl | rfl <;> rfl
theorem zcx (x : Int) : ∀ u ∈ zv x, u.oneCell' = true := by intro u hu; simp [zv] at hu; rcases hu with rfl; rfl
def zf (x : XL) : R3 := (x.1, x.2.1, x.2.2.2)
def zba (x : XD) : D2 := (x.1, x.2.2)
theorem zcl : (Try.prog.info? 68).map (fun i => (i.zero, i.size, i.bytes)) = some (some (.agg #[E J 0, E J 0, G U 0 0]), 3, 40) := by kernel_rfl
theorem zhq : (Try.prog.info? 70).map (fun i => (i.zero, i.size, i.bytes)) = some (some (.agg #[E J 0, G U 0 0]), 2, 32) := by kernel_rfl
theorem zmr {w : World} {a : Option Addr} {l : List P3} (h : zal w a l) : zk 3 ze0 w a l := by
 rcases h with rfl | ⟨b, o, rfl, hlt, hc⟩
 ·exact Or.inl rfl
 ·refine Or.inr ⟨b, o, rfl, hlt, fun i hi j u hu => ?_⟩
  obtain ⟨h0, h1, h2⟩ := hc i hi
  match j, hu with
  | 0, hu => rw [← hu]; exact h0
  | 1, hu => rw [← hu]; exact h1
  | 2, hu => rw [← hu]; exact h2
  | j + 3, hu => simp [ze0] at hu
def zcc (w : World) (a : Option Addr) (X : List XL) : Prop := zk 3 zaj w a X ∧ ∀ x ∈ X, zal w x.2.2.1.1 x.2.2.2
theorem zcc.below {w w' : World} {a : Option Addr} {X : List XL} (h : zcc w a X) (hb : Z w.heap.size w w') : zcc w' a X := ⟨h.1.below hb, fun x hx => (h.2 x hx).below hb⟩
theorem zcc.get {w : World} {a : Option Addr} {X : List XL} (h : zcc w a X) {k : Nat} (hk : k < X.length) : ∃ b o, a = some ⟨b, o, U⟩ ∧ b < w.heap.size ∧ w.cell? ⟨b, o + k * 3, U⟩ = some (E J X[k].1) ∧ w.cell? ⟨b, o + k * 3 + 1, U⟩ = some (E J X[k].2.1) ∧
  w.cell? ⟨b, o + k * 3 + 2, U⟩ = some (.slice X[k].2.2.1.1 X[k].2.2.2.length X[k].2.2.1.2) ∧ zal w X[k].2.2.1.1 X[k].2.2.2 := by
 rcases h.1 with rfl | ⟨b, o, rfl, hlt, hc⟩
 ·simp at hk
 ·exact ⟨b, o, rfl, hlt, hc k hk 0 _ rfl, hc k hk 1 _ rfl, hc k hk 2 _ rfl, h.2 _ (List.getElem_mem hk)⟩
def ze7 (w : World) (a : Option Addr) (X : List XD) : Prop := zk 2 zc1 w a X ∧ ∀ x ∈ X, zal w x.2.1.1 x.2.2
theorem ze7.below {w w' : World} {a : Option Addr} {X : List XD} (h : ze7 w a X) (hb : Z w.heap.size w w') : ze7 w' a X := ⟨h.1.below hb, fun x hx => (h.2 x hx).below hb⟩
theorem ze7.get {w : World} {a : Option Addr} {X : List XD} (h : ze7 w a X) {k : Nat} (hk : k < X.length) : ∃ b o, a = some ⟨b, o, U⟩ ∧ b < w.heap.size ∧ w.cell? ⟨b, o + k * 2, U⟩ = some (E J X[k].1) ∧
  w.cell? ⟨b, o + k * 2 + 1, U⟩ = some (.slice X[k].2.1.1 X[k].2.2.length X[k].2.1.2) ∧ zal w X[k].2.1.1 X[k].2.2 := by
 rcases h.1 with rfl | ⟨b, o, rfl, hlt, hc⟩
 ·simp at hk
 ·exact ⟨b, o, rfl, hlt, hc k hk 0 _ rfl, hc k hk 1 _ rfl, h.2 _ (List.getElem_mem hk)⟩
theorem zg1 (a : Option Addr) (l : List P3) (cap n : Nat) (w : World) (hn : n = l.length) (hl : l.length ≤ 1000) (hp : zal w a l) :
  Calls Try.prog 17 #[G a n cap] w fun e w' => ∃ a' c', e = .returned (G a' n c') ∧ zam w.heap.size w' a' l ∧ Z w.heap.size w w' := by
 have q : ∀ (w : World) (a : Option Addr) (n c n' c' : Nat), (binOp .eql 23 (G a n c) (G U n' c')).run Try.prog w = .ok (.bool a.isNone) w := fun w a n c n' c' => Lib.run_eql_slice_nil w _ _ a n c n' c' Try.underlying23
 cases a with
 | none =>
  have h0 : l = [] := by
   rcases hp with h | ⟨b, o, h, _⟩
   ·exact h
   ·cases h
  subst h0;subst hn;clear hp;go_enter Try.func17, Try.ntmps17
  go_wp2;go_ret;exact ⟨_, _, rfl, Or.inl rfl, Below.refl _ _⟩
 | some ad =>
  have HP := zA hp;have HN := zA hn;clear hp hn;go_enter Try.func17, Try.ntmps17
  go_wp2_with (at_builtin; refine zhe lenP oneP Try.underlying23 zh9 rfl (by decide) (by decide) _ rfl _ _ rfl w.heap.size _ [] rfl (World.ownsRow_made w #[] 0 (kaa _) (Nat.zero_le _) (by simp)) (some ad) n cap l rfl HN.out (zmr (HP.out.below (zi w _))) (by simp; omega) (by simp) ?_; intro a' n' c' w1 jx hn' j9 hat)
  have HO : Q (zbz w1 w.heap.size (G a' n' c') l ∧ n' = n) := ⟨by rw [List.nil_append] at jx; exact jx, by rw [hn', HN.out]; simp⟩;clear jx hn' hat;go_wp2;go_ret;obtain ⟨a2, c2, hv, ht, _⟩ := HO.out.1.typed;cases hv;have e := HO.out.2;subst e;refine ⟨a', c', rfl, ht, ?_⟩;exact ((Below.refl _ w).alloc (kaa _) _).grown j9 (by simp) (by intro k hk; cases hk; exact kaa _)
theorem deed_any (k d : Int) (a : Option Addr) (l : List P3) (cap n : Nat) (w : World) (hn : n = l.length) (hl : l.length ≤ 1000) (hp : zal w a l) :
  Calls Try.prog 63 #[.agg #[E J k, E J d, G a n cap]] w fun e w' => ∃ a' c', e = .returned (.agg #[E J d, G a' n c']) ∧ zam w.heap.size w' a' l ∧ Z w.heap.size w w' := by
 have HP := zB hp hn;clear hp hn;go_enter Try.func63, Try.ntmps63
 go_wp2_with fail
 have hbX := za2 w (T #[E J k, E J d, G a n cap] 68) (T #[E J 0, G U 0 0] 70);have hr : Blk ((w.alloc (T #[E J k, E J d, G a n cap] 68)).alloc (T #[E J 0, G U 0 0] 70)) w.heap.size #[E J k, E J d, G a n cap] 68 := (Blk.new w _ _).alloc _;have hz : Blk ((w.alloc (T #[E J k, E J d, G a n cap] 68)).alloc (T #[E J 0, G U 0 0] 70)) (w.heap.size + 1) #[E J 0, G U 0 0] 70 := zaq _ _ _;have hp := HP.out.1.below hbX;generalize ((w.alloc (T #[E J k, E J d, G a n cap] 68)).alloc (T #[E J 0, G U 0 0] 70)) = X at *;have HX : Q (zal X a l ∧ Z w.heap.size w X ∧ (∀ w', Z X.heap.size X w' → Blk w' (w.heap.size + 1) #[E J 0, G U 0 0] 70)) := ⟨hp, hbX, fun w' hb => hz.below hb hz.lt⟩
 have HK : Q (∀ w', Z X.heap.size X w' → ((w'.cell? ⟨w.heap.size, 1, U⟩ = some (E J d) ∧ w'.cell? ⟨w.heap.size, 2, U⟩ = some (G a n cap)) ∧ (w'.cell? ⟨w.heap.size + 1, 0, U⟩ = some (E J 0) ∧ w'.cell? ⟨w.heap.size + 1, 1, U⟩ = some (G U 0 0)) ∧ w'.frozen? ⟨w.heap.size + 1, 0, U⟩ = false ∧ w'.frozen? ⟨w.heap.size + 1, 1, U⟩ = false)) := fun w' hb =>
  ⟨⟨(hr.below hb hr.lt).cell 1, (hr.below hb hr.lt).cell 2⟩, ⟨(hz.below hb hz.lt).cell 0, (hz.below hb hz.lt).cell 1⟩, (hz.below hb hz.lt).free 0, (hz.below hb hz.lt).free 1⟩
 have hX0 : Z X.heap.size X X.drew := (Below.refl _ _).drew;obtain ⟨⟨i0, i1⟩, ⟨i2, i3⟩, i4, i5⟩ := HK.out _ hX0;clear hr hz hp hbX;go_region_with (go_at_call 17; refine (zg1 a l cap n _ HP.out.2 hl (by exact HX.out.1.below hX0)).mono ?_; rintro e we ⟨a', c', rfl, ht, hbe⟩; have hBe : Z X.heap.size X we := hX0.trans (hbe.mono hX0.size); obtain ⟨⟨j0, j1⟩, ⟨j2, j3⟩, j4, j5⟩ := HK.out _ hBe; clear hbe i0 i1 i2 i3 i4 i5)
 all_goals
  have hz := HX.out.2.2 _ hBe;have hb2 := (hz.set 0 (E J d)).set 1 (G a' n c');have ht2 : zam w.heap.size ((we.setCell ⟨w.heap.size + 1, 0, U⟩ (E J d)).setCell ⟨w.heap.size + 1, 1, U⟩ (G a' n c')) a' l := ((ht.mono (show w.heap.size ≤ _ from HX.out.2.1.size)).calm (zj.setCell (a := ⟨w.heap.size + 1, 0, U⟩) hz (by decide) _)).calm (zj.setCell (a := ⟨w.heap.size + 1, 1, U⟩) (hz.set 0 (E J d)) (by decide) _);have hbw : Z w.heap.size w ((we.setCell ⟨w.heap.size + 1, 0, U⟩ (E J d)).setCell ⟨w.heap.size + 1, 1, U⟩ (G a' n c')) := ((HX.out.2.1.trans (hBe.mono HX.out.2.1.size)).setCell (by simp) _).setCell (by simp) _;clear ht j0 j1 j2 j3 j4 j5 hz;go_wp2_with fail
  have e0 := hb2.cell 0;have e1 := hb2.cell 1;simp only [List.setIfInBounds_toArray, List.set_cons_zero, List.set_cons_succ, List.getElem?_toArray, List.getElem?_cons_zero, List.getElem?_cons_succ] at e0 e1
  refine bodyPost_ret (v := .agg #[E J d, G a' n c']) ?_ rfl ⟨a', c', rfl, ht2, hbw⟩;simp [results, Try.results63, go_sem, e0, e1]
theorem zd.setNew {α : Type} {e : TypeId} {size : Nat} {enc : α → List Value} {w : World} {base : Nat} {v : Value} {xs : List α} (h : zd e size enc w base v xs) {a : Addr} (ha : v.ownBlock ≠ some a.block) (u : Value) : zd e size enc (r w a u) base v xs := ownsRow_setCell_other h ha u
theorem zd.other {α : Type} {e : TypeId} {size : Nat} {enc : α → List Value} {w : World} {base : Nat} {v : Value} {xs : List α} (h : zd e size enc w base v xs) {g : Nat} (hg : w.heap.size ≤ g) : v.ownBlock ≠ some g := fun hv => by
 have := (World.ownsRow.lt h g hv).2;omega
theorem zd.base {α : Type} {e : TypeId} {size : Nat} {enc : α → List Value} {w : World} {base : Nat} {v : Value} {xs : List α} (h : zd e size enc w base v xs) : ∀ k, v.ownBlock = some k → base ≤ k := fun k hk => (World.ownsRow.lt h k hk).1
theorem zhm {α β : Type} {X : List α} {k : Nat} (h : k < X.length) (f : α → β) : (X.take (k + 1)).map f = (X.take k).map f ++ [f X[k]] := by rw [zax h, List.map_append]; rfl
theorem zjg {X : List XL} (h : OkL (X.map zf)) {k : Nat} (hk : k < X.length) : OkP X[k].2.2.2 := h (zf X[k]) (List.mem_map.2 ⟨_, List.getElem_mem hk, rfl⟩)
def zdd (w : World) (base : Nat) (v : Value) (Y : List XL) : Prop := zd 68 3 zaj w base v Y ∧ ∀ y ∈ Y, zam base w y.2.2.1.1 y.2.2.2
theorem zdd.at {w : World} {base : Nat} {a : Option Addr} {n c : Nat} {Y : List XL} (h : zdd w base (G a n c) Y) : zcc w a Y := by
 obtain ⟨a', c', hv, jX, _⟩ := h.1.row za4;cases hv;exact ⟨jX, fun y hy => (h.2 y hy).at⟩
theorem zdd.below {w w' : World} {base : Nat} {v : Value} {Y : List XL} (h : zdd w base v Y) (hb : Z w.heap.size w w') : zdd w' base v Y := ⟨h.1.below hb (kaa _), fun y hy => (h.2 y hy).calm (zj.below hb (kaa _))⟩
theorem zdd.mono {w : World} {base base' : Nat} {v : Value} {Y : List XL} (h : zdd w base v Y) (hb : base' ≤ base) : zdd w base' v Y := ⟨h.1.mono hb, fun y hy => (h.2 y hy).mono hb⟩
theorem zj4 (a : Option Addr) (X : List XL) (cap n : Nat) (w : World) (hn : n = X.length) (hl : X.length ≤ 3518437208883) (hok : OkL (X.map zf)) (hp : zcc w a X) :
  Calls Try.prog 31 #[G a n cap] w fun e w' => ∃ a' c' Y, e = .returned (G a' n c') ∧ Y.map zf = X.map zf ∧ zdd w' w.heap.size (G a' n c') Y ∧ Z w.heap.size w w' := by
 have HN := zC hn hok hp;have hnl : n ≤ 3518437208883 := by omega
 clear hn hok hp;go_enter Try.func31, Try.ntmps31
 go_wp2;go_loopw [3, 8] (fun v i w' => ∃ (k : Nat) (Y : List XL), k ≤ n ∧ i = E J k ∧ Q (Y.map zf = (X.take k).map zf) ∧ zd 68 3 zaj w' w.heap.size v Y ∧ Q (∀ y ∈ Y, zam w.heap.size w' y.2.2.1.1 y.2.2.2) ∧ Z w.heap.size w w') (fun _ i _ => n - (intOf i).toNat)
 case atStart => exact ⟨0, [], Nat.zero_le _, rfl, rfl, zd.nil _ _, (fun y hy => by cases hy), Below.refl _ _⟩
 case round =>
  obtain ⟨k, Y, hk, rfl, hY, jx, hT, hbw⟩ := hrel;have hsz := hbw.size
  have hYl : Y.length = k := by
   have := congrArg List.length hY.out;have h2 := HN.out.1;simp at this
   omega
  by_cases hlt : k < n
  ·have hkX : k < X.length := by have := HN.out.1; omega
   obtain ⟨b, o, rfl, hb, c0, c1, c2, hq⟩ := (HN.out.2.2.below hbw).get hkX;have hokk := zjg HN.out.2.1 hkX;have HE : Q ((X.take (k + 1)).map zf = (X.take k).map zf ++ [zf X[k]]) := zhm hkX _
   obtain ⟨av, nv, cv, rfl⟩ : ∃ a n c, u3 = G a n c := by
    obtain ⟨a, c, hv, _⟩ := jx.row za4;exact ⟨a, _, c, hv⟩
   generalize X[k] = x at *;obtain ⟨kd, dd, ⟨ax, cx⟩, l⟩ := x;simp only at c0 c1 c2 hq hokk
   have HQ : Q (zal wr ax l ∧ l.length ≤ 1000 ∧ zd 68 3 zaj wr w.heap.size (G av nv cv) Y) := ⟨hq, by have := hokk.1; omega, jx⟩;clear hq hokk jx;generalize hll : l.length = nl at *;go_wp2_with fail
   refine (zg1 ax l cx nl _ hll.symm (by have := HQ.out.2.1; omega) (HQ.out.1.below (zi wr _))).mono ?_;rintro e w1 ⟨a1, c1', rfl, ht1, hb1⟩;have hbr := (zi wr _).trans (hb1.mono (by simp));have hr1 : Blk w1 wr.heap.size #[E J kd, E J dd, G ax nl cx] 68 := (Blk.new wr _ _).below hb1 (by simp);have hr2 := hr1.set 2 (G a1 nl c1');have hne := HQ.out.2.2.other (kaa wr.heap.size);have ho2 : zd 68 3 zaj (r w1 ⟨wr.heap.size, 2, U⟩ (G a1 nl c1')) w.heap.size (G av nv cv) Y := (HQ.out.2.2.below hbr (kaa _)).setNew (a := ⟨wr.heap.size, 2, U⟩) hne _;have hcalm : zj 49 w1 (r w1 ⟨wr.heap.size, 2, U⟩ (G a1 nl c1')) := zj.setCell (a := ⟨wr.heap.size, 2, U⟩) hr1 (by decide) _
   have hT2 : Q (∀ y ∈ Y ++ [(kd, dd, (a1, c1'), l)], zam w.heap.size (r w1 ⟨wr.heap.size, 2, U⟩ (G a1 nl c1')) y.2.2.1.1 y.2.2.2) := fun y hy => by
    rcases List.mem_append.1 hy with hy | hy
    ·exact ((hT.out y hy).calm (zj.below hbr (kaa _))).calm hcalm
    ·rw [List.mem_singleton.1 hy]; exact (ht1.mono (by simp; omega)).calm hcalm
   have hB2 : Z w.heap.size w (r w1 ⟨wr.heap.size, 2, U⟩ (G a1 nl c1')) := (hbw.trans (hbr.mono hsz)).setCell (by simpa using hsz) _;have f2 := hr1.free 2;have g2 := hr1.cell 2;simp at g2
   have HB : Q (Blk (r w1 ⟨wr.heap.size, 2, U⟩ (G a1 nl c1')) wr.heap.size #[E J kd, E J dd, G a1 nl c1'] 68) := hr2;clear ht1 hb1 hbr hr1 hcalm c0 c1 c2 hr2 hT;have HO := zA ho2;clear ho2;go_upto_region 6 with fail
   generalize r w1 ⟨wr.heap.size, 2, U⟩ (G a1 nl c1') = w2 at *;have e0 := HB.out.cell 0;have e1 := HB.out.cell 1;have e2 := HB.out.cell 2;simp at e0 e1 e2
   clear f2 g2;have hlY : Y.length + 1 ≤ 3518437208883 := by omega
   have HL := zA hll;clear hll;go_wp2_with (at_builtin; refine zbj za4 zcr Try.underlying26 zcl rfl (by decide) _ rfl _ _ rfl w.heap.size _ Y rfl (HO.out.below (zi w2 _) (kaa _)) (some ⟨w2.heap.size, 0, U⟩) 1 1 [(kd, dd, (a1, c1'), l)] rfl rfl (zk.one (Blk.new w2 _ _) (by simp [zaj, HL.out])) (by unfold maxLen; simp; omega) (by simp; omega) (by have := hB2.size; simp; omega) ?_; intro a' n' c' w3 hown3 hn3 hgrow3 hat3; clear hn3)
   have hB3 := (hB2.alloc hB2.size _).grown hgrow3 (by have := hB2.size; simp; omega) HO.out.base;have hC3 : zj 49 w2 w3 := (zj.alloc _ _ _).trans (zj.grown hgrow3 ((HO.out.below (zi w2 _) (kaa _)).grownT (by decide)))
   have HF : Q ((Y ++ [(kd, dd, (a1, c1'), l)]).map zf = (X.take (k + 1)).map zf) := by
    show _ = _
    rw [HE.out, List.map_append, hY.out];rfl
   have HT3 : Q (∀ y ∈ Y ++ [(kd, dd, (a1, c1'), l)], zam w.heap.size w3 y.2.2.1.1 y.2.2.2) := fun y hy => (hT2.out y hy).calm hC3
   clear hC3 hgrow3 hat3 hT2 HO HB e0 e1 e2;go_wp2;go_roundw
   case rel => exact ⟨k + 1, _, by omega, by go_num, HF, hown3, HT3, hB3⟩
   case measure => simp [intOf]; omega
  ·have hkn : k = n := by omega
   obtain ⟨av, cv, rfl, jX, _⟩ := jx.row za4;have HF : Q (Y.map zf = X.map zf ∧ Y.length = n ∧ zd 68 3 zaj wr w.heap.size (G av Y.length cv) Y) := ⟨by rw [hY.out, List.take_of_length_le (by have := HN.out.1; omega)], by omega, jx⟩;clear jx hY jX;generalize Y.length = ny at *;go_wp2;go_ret;have e := HF.out.2.1;subst e;exact ⟨av, cv, Y, rfl, HF.out.1, ⟨HF.out.2.2, hT.out⟩, hbw⟩
def Idx (X : List XD) (D jj : Int) : Prop := (jj = -1 ∧ ∀ x ∈ X, x.1 ≠ D) ∨ ∃ i, ∃ h : i < X.length, jj = (i : Int) ∧ X[i].1 = D ∧ ∀ j, j < i → ∀ h' : j < X.length, X[j].1 ≠ D
theorem ze5 {w w' : World} (h : Z w.heap.size w w') {row : Option Nat} : w.grownBy w' row := ⟨h.os, h.tape, h.output, h.size, fun k hk _ => h.block k hk⟩
theorem zd.at {α : Type} {e : TypeId} {size : Nat} {enc : α → List Value} {w : World} {base : Nat} {a : Option Addr} {n cap : Nat} {xs : List α} (he : ∀ x, (enc x).length = size) (h : zd e size enc w base (G a n cap) xs) : zk size enc w a xs ∧ n = xs.length ∧ xs.length ≤ cap ∧ cap ≤ maxLen := by
 obtain ⟨a', cap', hv, h1, h2, h3⟩ := h.row he;cases hv;exact ⟨h1, rfl, h2, h3⟩
theorem zfh (w : World) (g j : Nat) (u : Value) : w.grownBy (r w ⟨g, j, U⟩ u) (some g) := ⟨rfl, rfl, rfl, by simp, fun k _ hk => heap_setCell_other w ⟨g, j, U⟩ k u (fun e => hk (by simp [e]))⟩
theorem zie (g : Nat) : ∀ (vs : List Value) (j : Nat) (w : World), w.grownBy (w.setCells g j vs) (some g)
 | [], _, w => World.grownBy.refl _ _
 | u :: jj, j, w => by
  rw [World.setCells];exact (zfh w g j u).trans (zie g jj (j + 1) _)
theorem sz_int (w : World) : (sizeOf 3).run Try.prog w = .ok 1 w := by kernel_rfl
theorem part4_0 (v0 v1 v2 v3 : Value) (w : World) : (part 3 #[v0, v1, v2, v3] 0).run Try.prog w = .ok v0 w := by kernel_rfl
theorem part4_1 (v0 v1 v2 v3 : Value) (w : World) : (part 3 #[v0, v1, v2, v3] 1).run Try.prog w = .ok v1 w := by kernel_rfl
theorem part4_2 (v0 v1 v2 v3 : Value) (w : World) : (part 3 #[v0, v1, v2, v3] 2).run Try.prog w = .ok v2 w := by kernel_rfl
theorem part4_3 (v0 v1 v2 v3 : Value) (w : World) : (part 3 #[v0, v1, v2, v3] 3).run Try.prog w = .ok v3 w := by kernel_rfl
theorem eq4d (d : Nat) (a0 a1 a2 a3 b0 b1 b2 b3 : Int) (w : World) : (Op.equalIn (d + 2) 98 (.agg #[E J a0, E J a1, E J a2, E J a3]) (.agg #[E J b0, E J b1, E J b2, E J b3])).run Try.prog w = .ok (a0 == b0 && a1 == b1 && a2 == b2 && a3 == b3) w := by
 rw [Op.equalIn];simp only [Sem.run_bind, run_underlying Try.underlying98, Result.andThen_ok, sz_int, Std.Legacy.Range.forIn_eq_forIn_range', Std.Legacy.Range.size]
 rw [show List.range' 0 ((4 - 0 + 1 - 1) / 1) 1 = [0, 1, 2, 3] from rfl];simp only [List.forIn_cons, List.forIn_nil, Sem.run_bind, Nat.mul_one, part4_0, Result.andThen_ok, run_equalIn_int _ _ _ _ _ _ _ Try.underlying3, Sem.run_ite]
 cases h0 : a0 == b0 <;> cases h1 : a1 == b1 <;> cases h2 : a2 == b2 <;> cases h3 : a3 == b3 <;> simp [part4_1, part4_2, part4_3, run_equalIn_int _ _ _ _ _ _ _ Try.underlying3, h1, h2, h3]
theorem eq4 (a0 a1 a2 a3 b0 b1 b2 b3 : Int) (w : World) : (Op.equalIn 10000 98 (.agg #[E J a0, E J a1, E J a2, E J a3]) (.agg #[E J b0, E J b1, E J b2, E J b3])).run Try.prog w = .ok (a0 == b0 && a1 == b1 && a2 == b2 && a3 == b3) w := eq4d 9998 a0 a1 a2 a3 b0 b1 b2 b3 w
def zbm (w : World) (b : Nat) (t0 t1 t2 t3 : Int) : Prop :=
 (w.cell? ⟨b, 0, U⟩ = some (E J t0) ∧ w.cell? ⟨b, 1, U⟩ = some (E J t1) ∧ w.cell? ⟨b, 2, U⟩ = some (E J t2) ∧ w.cell? ⟨b, 3, U⟩ = some (E J t3)) ∧
 (w.frozen? ⟨b, 0, U⟩ = false ∧ w.frozen? ⟨b, 1, U⟩ = false ∧ w.frozen? ⟨b, 2, U⟩ = false ∧ w.frozen? ⟨b, 3, U⟩ = false)
theorem zbm.below {w w' : World} {B b : Nat} {t0 t1 t2 t3 : Int} (h : zbm w b t0 t1 t2 t3) (hb : Z B w w') (hlt : b < B) : zbm w' b t0 t1 t2 t3 := by
 obtain ⟨⟨c0, c1, c2, c3⟩, ⟨f0, f1, f2, f3⟩⟩ := h;refine ⟨⟨?_, ?_, ?_, ?_⟩, ⟨?_, ?_, ?_, ?_⟩⟩
 ·rw [hb.cell (p := ⟨b, 0, U⟩) hlt]; exact c0
 ·rw [hb.cell (p := ⟨b, 1, U⟩) hlt]; exact c1
 ·rw [hb.cell (p := ⟨b, 2, U⟩) hlt]; exact c2
 ·rw [hb.cell (p := ⟨b, 3, U⟩) hlt]; exact c3
 ·rw [hb.frozen (p := ⟨b, 0, U⟩) hlt]; exact f0
 ·rw [hb.frozen (p := ⟨b, 1, U⟩) hlt]; exact f1
 ·rw [hb.frozen (p := ⟨b, 2, U⟩) hlt]; exact f2
 ·rw [hb.frozen (p := ⟨b, 3, U⟩) hlt]; exact f3
theorem zh0 {w : World} {a : Addr} {u : Value} (v : Value) (h : w.cell? a = some u) : (r w a v).cell? a = some v := World.cell?_setCell_same' w a v (by rw [h]; rfl)
theorem zer {w : World} {a b : Addr} (v : Value) (h : a ≠ b) : (r w a v).cell? b = w.cell? b := by apply World.cell?_setCell_other; exact h
theorem zbm.far {w : World} {b c j : Nat} {t0 t1 t2 t3 : Int} (h : zbm w b t0 t1 t2 t3) (hc : c ≠ b) (v : Value) : zbm (r w ⟨c, j, U⟩ v) b t0 t1 t2 t3 := by
 obtain ⟨⟨c0, c1, c2, c3⟩, ⟨f0, f1, f2, f3⟩⟩ := h;refine ⟨⟨?_, ?_, ?_, ?_⟩, ⟨by simpa using f0, by simpa using f1, by simpa using f2, by simpa using f3⟩⟩
 all_goals (rw [zer _ (fun h => hc (congrArg Addr.block h))]; assumption)
theorem zbm.put0 {w : World} {b : Nat} {t0 t1 t2 t3 : Int} (h : zbm w b t0 t1 t2 t3) (x : Int) : zbm (r w ⟨b, 0, U⟩ (E J x)) b x t1 t2 t3 := by
 obtain ⟨⟨c0, c1, c2, c3⟩, ⟨f0, f1, f2, f3⟩⟩ := h;exact ⟨⟨zh0 _ c0, by rw [zer _ (by simp)]; exact c1, by rw [zer _ (by simp)]; exact c2, by rw [zer _ (by simp)]; exact c3⟩, ⟨by simpa using f0, by simpa using f1, by simpa using f2, by simpa using f3⟩⟩
theorem zbm.put1 {w : World} {b : Nat} {t0 t1 t2 t3 : Int} (h : zbm w b t0 t1 t2 t3) (x : Int) : zbm (r w ⟨b, 1, U⟩ (E J x)) b t0 x t2 t3 := by
 obtain ⟨⟨c0, c1, c2, c3⟩, ⟨f0, f1, f2, f3⟩⟩ := h;exact ⟨⟨by rw [zer _ (by simp)]; exact c0, zh0 _ c1, by rw [zer _ (by simp)]; exact c2, by rw [zer _ (by simp)]; exact c3⟩, ⟨by simpa using f0, by simpa using f1, by simpa using f2, by simpa using f3⟩⟩
theorem zbm.put2 {w : World} {b : Nat} {t0 t1 t2 t3 : Int} (h : zbm w b t0 t1 t2 t3) (x : Int) : zbm (r w ⟨b, 2, U⟩ (E J x)) b t0 t1 x t3 := by
 obtain ⟨⟨c0, c1, c2, c3⟩, ⟨f0, f1, f2, f3⟩⟩ := h;exact ⟨⟨by rw [zer _ (by simp)]; exact c0, by rw [zer _ (by simp)]; exact c1, zh0 _ c2, by rw [zer _ (by simp)]; exact c3⟩, ⟨by simpa using f0, by simpa using f1, by simpa using f2, by simpa using f3⟩⟩
theorem zbm.put3 {w : World} {b : Nat} {t0 t1 t2 t3 : Int} (h : zbm w b t0 t1 t2 t3) (x : Int) : zbm (r w ⟨b, 3, U⟩ (E J x)) b t0 t1 t2 x := by
 obtain ⟨⟨c0, c1, c2, c3⟩, ⟨f0, f1, f2, f3⟩⟩ := h;exact ⟨⟨by rw [zer _ (by simp)]; exact c0, by rw [zer _ (by simp)]; exact c1, by rw [zer _ (by simp)]; exact c2, zh0 _ c3⟩, ⟨by simpa using f0, by simpa using f1, by simpa using f2, by simpa using f3⟩⟩
theorem zbm.drew {w : World} {b : Nat} {t0 t1 t2 t3 : Int} (h : zbm w b t0 t1 t2 t3) : zbm w.drew b t0 t1 t2 t3 := h
end Go.Proofs.Ytpcnlifmkhagkaa
