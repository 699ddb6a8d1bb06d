import Derived.Test.YtpcnlifmkhagkaaGreatKJ00
import Derived.Lib.SliceRun
import Derived.Deep.RegionWith
import Derived.Deep.DeepCutAuto
import Derived.OwnWalk
set_option maxRecDepth 20000
set_option maxHeartbeats 20000000
namespace Go.Proofs.YtpcnlifmkhagkaaGreat
open Go.RowKit
open Value renaming slice → G, int → E
open IntKind renaming i64 → J
open Option renaming none → U
open Obj renaming cells → T
open Go renaming Hid → Q, Below → Z
open World renaming setCell → r
open Nat renaming le_refl → kaa
attribute [local go_sem ↓] Go.wp_at_zero Go.wp_at_succ
def ofB (l : List P3) (H : Int) : List P3 := l.filter fun p => decide (p.1 = H)
theorem sadd_comm (s : S4) (a b m n : Int) : zdl (zdl s a m) b n = zdl (zdl s b n) a m := by
 obtain ⟨s0, s1, s2, s3⟩ := s;unfold zdl
 repeat' split
 all_goals first | rfl | (exfalso; omega) | (refine Prod.ext ?_ (Prod.ext ?_ (Prod.ext ?_ ?_)) <;> (try simp only) <;> omega)
theorem zlz (s : S4) (p q : P3) : do1 (do1 s p) q = do1 (do1 s q) p := by
 unfold do1
 split <;> split <;> first | rfl | exact sadd_comm _ _ _ _ _
theorem doB_do1 (s : S4) (p : P3) (l : List P3) : doB (do1 s p) l = do1 (doB s l) p := by
 induction l generalizing s with
 | nil => rfl
 | cons q t ih => simp only [doB, List.foldl_cons] at *; rw [zlz, ih]
theorem zf1 (s : S4) (p : P3) (l : List P3) : doB s (p :: l) = do1 (doB s l) p := by rw [← doB_do1]; rfl
theorem znd {H : Int} : ∀ {l seen : List P3}, zdo H seen l = 0 → (∀ p ∈ l, inB p H = true) ∧ (∀ p ∈ l, hasB p seen = false) ∧ l.Pairwise (fun p q => zey p q = false)
 | [], _, _ => by simp
 | p :: t, seen, h => by
  simp only [zdo] at h
  split at h
  · rename_i hin
   split at h
   · cases h
   · rename_i hh
    obtain ⟨h1, h2, h3⟩ := znd h
    have h2' : ∀ q ∈ t, hasB q seen = false ∧ zey p q = false := fun q hq => by
     have := h2 q hq;rw [zlr, Bool.or_eq_false_iff] at this;exact this
    refine ⟨fun q hq => ?_, fun q hq => ?_, List.Pairwise.cons (fun q hq => (h2' q hq).2) h3⟩
    · rcases List.mem_cons.1 hq with rfl | hq
     · exact hin
     · exact h1 q hq
    · rcases List.mem_cons.1 hq with rfl | hq
     · simpa using hh
     · exact (h2' q hq).1
  · cases h
theorem zc4 {l : List P3} {H : Int} (h : zaz l H = 0) : 1 ≤ l.length ∧ l.length ≤ 4 ∧ (∀ p ∈ l, inB p H = true) ∧ l.Pairwise (fun p q => zey p q = false) := by
 unfold zaz at h
 split at h
 · cases h
 · obtain ⟨h1, _, h3⟩ := znd h
  exact ⟨by omega, by omega, h1, h3⟩
theorem small_of {l : List P3} {H : Int} (h : ∀ p ∈ l, inB p H = true) : zd5 l := fun p hp => by
 have := h p hp;simp only [inB, decide_eq_true_eq] at this
 omega
theorem zgs {k : Int} : zb5 k = true ↔ k = 0 ∨ k = 1 ∨ k = 2 ∨ k = 3 := by simp only [zb5, decide_eq_true_eq]; omega
theorem zk4 (s : S4) {k : Int} (h : zb5 k = true) (n : Int) : za7 (zdl s k n) k = za7 s k + n := by
 rcases zgs.1 h with rfl | rfl | rfl | rfl <;> simp [za7, zdl]
theorem zjg (s : S4) {j k : Int} (hj : zb5 j = true) (hk : zb5 k = true) (h : j ≠ k) (n : Int) : za7 (zdl s k n) j = za7 s j := by
 rcases zgs.1 hj with rfl | rfl | rfl | rfl <;> rcases zgs.1 hk with rfl | rfl | rfl | rfl <;> first | (exact absurd rfl h) | simp [za7, zdl]
theorem zhs {s : S4} {l : List P3} {k : Int} (hk : zb5 k = true) (hl : ∀ p ∈ l, p.2.1 ≠ k) : za7 (doB s l) k = za7 s k := by
 induction l with
 | nil => rfl
 | cons p t ih =>
  rw [zf1];have h1 := ih (fun q hq => hl q (by simp [hq]));unfold do1
  split
  · rename_i hp; rw [zjg _ hk hp (Ne.symm (hl p (by simp)))]; exact h1
  · exact h1
theorem zlh {s : S4} : ∀ {l : List P3}, l.Pairwise (fun p q => p.2.1 ≠ q.2.1) → ∀ p ∈ l, zb5 p.2.1 = true → za7 (doB s l) p.2.1 = za7 s p.2.1 + p.2.2
 | q :: t, hpw, p, hp, hk => by
  rw [zf1]
  cases hpw with
  | cons hq ht =>
   rcases List.mem_cons.1 hp with rfl | hp
   · unfold do1
    rw [if_pos hk, zk4 _ hk, zhs hk (fun jj hr => (hq jj hr).symm)]
   · have ih := zlh (s := s) ht p hp hk
    unfold do1
    split
    · rename_i hqk; rw [zjg _ hk hqk (hq p hp).symm]; exact ih
    · exact ih
theorem zn5 {s : S4} : zf3 s = true ↔ ∀ k, zb5 k = true → 0 ≤ za7 s k ∧ za7 s k ≤ 1048576 := by
 obtain ⟨s0, s1, s2, s3⟩ := s;simp only [zf3, decide_eq_true_eq]
 constructor
 · rintro ⟨h0, h1, h2, h3⟩ k hk
  rcases zgs.1 hk with rfl | rfl | rfl | rfl <;> simp [za7] <;> omega
 · intro h
  have h0 := h 0 (by decide);have h1 := h 1 (by decide);have h2 := h 2 (by decide);have h3 := h 3 (by decide);simp [za7] at h0 h1 h2 h3
  exact ⟨h0, h1, h2, h3⟩
theorem zj3 {s : S4} {l : List P3} : zck s l = 0 ↔ ∀ p ∈ l, zb5 p.2.1 = true → 0 ≤ za7 s p.2.1 + p.2.2 ∧ za7 s p.2.1 + p.2.2 ≤ 1048576 := by
 induction l with
 | nil => simp [zck]
 | cons p t ih =>
  simp only [zck, List.mem_cons, forall_eq_or_imp]
  rw [← ih];by_cases hk : zb5 p.2.1 = true
  · rw [if_pos hk]
   by_cases h1 : za7 s p.2.1 + p.2.2 < 0
   · rw [if_pos h1]; constructor
    · intro h; cases h
    · rintro ⟨h, _⟩; have := h hk; omega
   · rw [if_neg h1]
    by_cases h2 : 1048576 < za7 s p.2.1 + p.2.2
    · rw [if_pos h2]; constructor
     · intro h; cases h
     · rintro ⟨h, _⟩; have := h hk; omega
    · rw [if_neg h2]; exact ⟨fun h => ⟨fun _ => by omega, h⟩, fun h => h.2⟩
  · rw [if_neg hk]; exact ⟨fun h => ⟨fun h' => absurd h' hk, h⟩, fun h => h.2⟩
theorem zor {s : S4} (h : zf3 s = true) : zbj 1048576 s := by
 simp only [zf3, decide_eq_true_eq] at h
 obtain ⟨h0, h1, h2, h3⟩ := h;exact ⟨⟨by omega, by omega⟩, ⟨by omega, by omega⟩, ⟨by omega, by omega⟩, ⟨by omega, by omega⟩⟩
abbrev R3 := Int × Int × List P3
abbrev D2 := Int × List P3
abbrev H3 := S4 × List D2 × List Int
abbrev O4 := Int × List P3 × Bool × List Int
def zab (D : List D2) (d : Int) : Bool := D.any fun x => decide (x.1 = d)
def zal (D : List D2) (d : Int) : List D2 := D.filter fun x => !decide (x.1 = d)
def zcg (D : List D2) (d : Int) : List P3 := ((D.find? fun x => decide (x.1 = d)).map (·.2)).getD []
def zbe (h : H3) (jj : R3) : H3 :=
 if jj.1 = 1 then (if zab h.2.1 jj.2.1 then h else (h.1, h.2.1 ++ [(jj.2.1, jj.2.2)], h.2.2))
 else if jj.1 = 2 then (if zab h.2.1 jj.2.1 then (doB h.1 (zcg h.2.1 jj.2.1), zal h.2.1 jj.2.1, h.2.2 ++ [jj.2.1]) else h)
 else if jj.1 = 3 then (h.1, zal h.2.1 jj.2.1, h.2.2)
 else h
def zd (L : List R3) : H3 := L.foldl zbe ((0, 0, 0, 0), [], [])
theorem ze2 (L : List R3) (jj : R3) : zd (L ++ [jj]) = zbe (zd L) jj := by simp [zd]
def zdf (g : Int × List D2) (jj : R3) : Int × List D2 :=
 if jj.1 = 4 then (g.1 + 1, g.2)
 else if jj.1 = 5 then (g.1, g.2 ++ [(jj.2.1, jj.2.2)])
 else if jj.1 = 6 then (g.1, zal g.2 jj.2.1)
 else g
def zaa (L : List R3) : Int × List D2 := L.foldl zdf (0, [])
theorem zgy (L : List R3) (jj : R3) : zaa (L ++ [jj]) = zdf (zaa L) jj := by simp [zaa]
def zan (L : List R3) : List D2 := (L.filter fun jj => decide (jj.1 = 5)).map fun jj => (jj.2.1, jj.2.2)
theorem zgv (L : List R3) (jj : R3) : zan (L ++ [jj]) = zan L ++ (if jj.1 = 5 then [(jj.2.1, jj.2.2)] else []) := by
 by_cases h : jj.1 = 5 <;> simp [zan, List.filter_append, h]
def OkP (l : List P3) : Prop := l.length ≤ 4 ∧ zd5 l ∧ ∀ p ∈ l, zb5 p.2.1 = true
def OkL (L : List R3) : Prop := ∀ jj ∈ L, OkP jj.2.2
theorem ze0 : OkP [] := ⟨by simp, (fun p hp => by cases hp), (fun p hp => by cases hp)⟩
theorem zfm {l : List P3} {H : Int} (h : zaz l H = 0) : OkP l := by
 obtain ⟨_, h4, hin, _⟩ := zc4 h;refine ⟨h4, small_of hin, fun p hp => ?_⟩;have := hin p hp;simp only [inB, decide_eq_true_eq] at this
 simp only [zb5, decide_eq_true_eq]; omega
theorem zc0 {D : List D2} {d : Int} {x : D2} (h : x ∈ zal D d) : x ∈ D ∧ x.1 ≠ d := by
 simp only [zal, List.mem_filter] at h
 exact ⟨h.1, by simpa using h.2⟩
theorem zjm {D : List D2} {d : Int} (h : zab D d = true) : ∃ x ∈ D, x.1 = d ∧ zcg D d = x.2 := by
 unfold zcg
 cases hf : D.find? fun x => decide (x.1 = d) with
 | none =>
  rw [List.find?_eq_none] at hf;simp only [zab, List.any_eq_true] at h
  obtain ⟨x, hx, hd⟩ := h;exact absurd hd (by simpa using hf x hx)
 | some x => exact ⟨x, List.mem_of_find?_eq_some hf, by simpa using List.find?_some hf, rfl⟩
structure zek (k : Nat) (h : H3) : Prop where
 ok : ∀ x ∈ h.2.1, OkP x.2
 nd : (h.2.1.map (·.1)).Nodup
 within : zbj (k * 4194304) h.1
 few : h.2.1.length ≤ k
 done : h.2.2.length ≤ k
theorem zhy {D : List D2} (h : (D.map (·.1)).Nodup) (d : Int) : ((zal D d).map (·.1)).Nodup :=
 List.Nodup.sublist (List.Sublist.map _ List.filter_sublist) h
theorem hstep_inv {k : Nat} {h : H3} {jj : R3} (H : zek k h) (hr : OkP jj.2.2) : zek (k + 1) (zbe h jj) := by
 have e : (((k + 1 : Nat) : Int) * 4194304) = (k : Int) * 4194304 + 4194304 := by omega
 have hw : zbj (((k + 1 : Nat) : Int) * 4194304) h.1 := zgt H.within (by omega);unfold zbe
 split
 · split
  · exact ⟨H.ok, H.nd, hw, by have := H.few; omega, by have := H.done; omega⟩
  · rename_i hn
   refine ⟨?_, ?_, hw, ?_, by have := H.done; show h.2.2.length ≤ _; omega⟩
   · intro x hx
    rcases List.mem_append.1 hx with hx | hx
    · exact H.ok x hx
    · rw [List.mem_singleton.1 hx]; exact hr
   · show ((h.2.1 ++ [(jj.2.1, jj.2.2)]).map (·.1)).Nodup
    rw [List.map_append, List.nodup_append];refine ⟨H.nd, by simp, ?_⟩;intro a ha b hb hab;simp at hb
    subst hb;subst hab;obtain ⟨x, hx, hxa⟩ := List.mem_map.1 ha;exact hn (by simp only [zab, List.any_eq_true]; exact ⟨x, hx, by simpa using hxa⟩)
   · show (h.2.1 ++ [(jj.2.1, jj.2.2)]).length ≤ k + 1
    have := H.few;simp; omega
 · split
  · split
   · rename_i hs
    obtain ⟨x, hx, hd, hp⟩ := zjm hs;obtain ⟨o1, o2, _⟩ := H.ok x hx;refine ⟨fun y hy => H.ok y (zc0 hy).1, zhy H.nd _, ?_, ?_, ?_⟩
    · show zbj _ (doB h.1 (zcg h.2.1 jj.2.1))
     rw [hp];refine zgt (ziu H.within o2) ?_;omega
    · have := H.few
     have := List.length_filter_le (fun x : D2 => !decide (x.1 = jj.2.1)) h.2.1;show (zal h.2.1 jj.2.1).length ≤ _
     unfold zal; omega
    · have := H.done
     show (h.2.2 ++ [jj.2.1]).length ≤ _
     simp; omega
   · exact ⟨H.ok, H.nd, hw, by have := H.few; omega, by have := H.done; omega⟩
  · split
   · refine ⟨fun y hy => H.ok y (zc0 hy).1, zhy H.nd _, hw, ?_, by have := H.done; show h.2.2.length ≤ _; omega⟩
    have := H.few;have := List.length_filter_le (fun x : D2 => !decide (x.1 = jj.2.1)) h.2.1;show (zal h.2.1 jj.2.1).length ≤ _
    unfold zal; omega
   · exact ⟨H.ok, H.nd, hw, by have := H.few; omega, by have := H.done; omega⟩
theorem zfr : ∀ {L : List R3}, OkL L → zek L.length (zd L) := by
 intro L;suffices h : ∀ (n : Nat) (L : List R3), L.length = n → OkL L → zek n (zd L) from fun h' => h _ L rfl h'
 intro n
 induction n with
 | zero =>
  intro L hL _;obtain rfl := List.eq_nil_of_length_eq_zero hL;exact ⟨(fun x hx => by cases hx), by simp [zd], by simp [zd, zbj], by simp [zd], by simp [zd]⟩
 | succ n ih =>
  intro L hL hok;have hne : n < L.length := by omega
  have e : L = L.take n ++ [L[n]] := by rw [← zaw hne, List.take_of_length_le (by omega)]
  rw [e, ze2];refine hstep_inv (ih _ (by simp; omega) (fun jj hr => hok jj (List.mem_of_mem_take hr))) (hok _ (List.getElem_mem hne))
theorem okL_take {L : List R3} (h : OkL L) (k : Nat) : OkL (L.take k) := fun jj hr => h jj (List.mem_of_mem_take hr)
theorem zmi {L : List R3} (h : OkL L) {k : Nat} (hk : k ≤ L.length) : zek k (zd (L.take k)) := by
 have := zfr (okL_take h k);rwa [List.length_take, Nat.min_eq_left hk] at this
theorem zln : ∀ (L : List R3), 0 ≤ (zaa L).1 ∧ (zaa L).1 ≤ L.length ∧ (zaa L).2.length ≤ L.length := by
 intro L;suffices h : ∀ (n : Nat) (L : List R3), L.length = n → 0 ≤ (zaa L).1 ∧ (zaa L).1 ≤ n ∧ (zaa L).2.length ≤ n from h _ L rfl
 intro n
 induction n with
 | zero =>
  intro L hL;obtain rfl := List.eq_nil_of_length_eq_zero hL;simp [zaa]
 | succ n ih =>
  intro L hL;have hne : n < L.length := by omega
  have e : L = L.take n ++ [L[n]] := by rw [← zaw hne, List.take_of_length_le (by omega)]
  rw [e, zgy];obtain ⟨h1, h2, h3⟩ := ih (L.take n) (by simp; omega);have hf := List.length_filter_le (fun x : D2 => !decide (x.1 = (L[n]).2.1)) (zaa (L.take n)).2;unfold zdf
  repeat' split
  · exact ⟨by show 0 ≤ (zaa (L.take n)).1 + 1; omega, by show (zaa (L.take n)).1 + 1 ≤ _; omega, by show (zaa (L.take n)).2.length ≤ _; omega⟩
  · exact ⟨h1, by show (zaa (L.take n)).1 ≤ _; omega, by simp; omega⟩
  · exact ⟨h1, by show (zaa (L.take n)).1 ≤ _; omega, by show (zal _ _).length ≤ _; unfold zal; omega⟩
  · exact ⟨h1, by omega, by omega⟩
theorem zqu (L : List R3) {k : Nat} (hk : k ≤ L.length) : 0 ≤ (zaa (L.take k)).1 ∧ (zaa (L.take k)).1 ≤ k ∧ (zaa (L.take k)).2.length ≤ k := by
 have := zln (L.take k);rwa [List.length_take, Nat.min_eq_left hk] at this
structure zc8 (L : List R3) : Prop where
 ok : OkL L
 within : ∀ k, k ≤ L.length → zbj 2199023255552 (zd (L.take k)).1
 size : L.length * 40 ≤ 140737488355328
theorem zc8.of {L : List R3} (h : OkL L) (hl : L.length ≤ 500000) : zc8 L :=
 ⟨h, fun k hk => zgt (zmi h hk).within (by omega), by omega⟩
abbrev Hd := Option Addr × Nat
abbrev XL := Int × Int × Hd × List P3
abbrev XD := Int × Hd × List P3
def zes (p : P3) : List Value := [E J p.1, E J p.2.1, E J p.2.2]
def zaf (x : XL) : List Value := [E J x.1, E J x.2.1, G x.2.2.1.1 x.2.2.2.length x.2.2.1.2]
def zde (x : XD) : List Value := [E J x.1, G x.2.1.1 x.2.2.length x.2.1.2]
def zb7 (x : XD) : List Value := [E J x.1, G x.2.1.1 x.2.2.length x.2.1.2, .bool true, G U 0 0]
def zn (x : Int) : List Value := [E J x]
theorem lenP (x : P3) : (zes x).length = 3 := rfl
theorem za6 (x : XL) : (zaf x).length = 3 := rfl
theorem zev (x : XD) : (zde x).length = 2 := rfl
theorem zdt (x : XD) : (zb7 x).length = 4 := rfl
theorem zah (x : Int) : (zn x).length = 1 := rfl
theorem oneP (x : P3) : ∀ u ∈ zes x, u.oneCell' = true := by intro u hu; simp [zes] at hu; rcases hu with rfl | rfl | rfl <;> rfl
theorem zcv (x : XL) : ∀ u ∈ zaf x, u.oneCell' = true := by intro u hu; simp [zaf] at hu; rcases hu with rfl | rfl | rfl <;> rfl
theorem oneD (x : XD) : ∀ u ∈ zde x, u.oneCell' = true := by intro u hu; simp [zde] at hu; rcases hu with rfl | rfl <;> rfl
theorem oneO (x : XD) : ∀ u ∈ zb7 x, u.oneCell' = true := by intro u hu; simp [zb7] at hu; rcases hu with rfl | rfl | rfl | rfl <;> rfl
theorem zcw (x : Int) : ∀ u ∈ zn x, u.oneCell' = true := by intro u hu; simp [zn] at hu; rcases hu with rfl; rfl
def ze (x : XL) : R3 := (x.1, x.2.1, x.2.2.2)
def zbm (x : XD) : D2 := (x.1, x.2.2)
theorem zcm : (Tryz.prog.info? 40).map (fun i => (i.zero, i.size, i.bytes)) = some (some (.agg #[E J 0, E J 0, G U 0 0]), 3, 40) := by kernel_rfl
theorem zir : (Tryz.prog.info? 80).map (fun i => (i.zero, i.size, i.bytes)) = some (some (.agg #[E J 0, G U 0 0]), 2, 32) := by kernel_rfl
theorem zkg {w : World} {a : Option Addr} {l : List P3} (h : zag w a l) : zi 3 zes w a l := by
 rcases h with rfl | ⟨b, o, rfl, hlt, hc⟩
 · exact Or.inl rfl
 · refine Or.inr ⟨b, o, rfl, hlt, fun i hi j u hu => ?_⟩
  obtain ⟨h0, h1, h2⟩ := hc i hi
  match j, hu with
  | 0, hu => rw [← hu]; exact h0
  | 1, hu => rw [← hu]; exact h1
  | 2, hu => rw [← hu]; exact h2
  | j + 3, hu => simp [zes] at hu
def zcc (w : World) (a : Option Addr) (X : List XL) : Prop := zi 3 zaf w a X ∧ ∀ x ∈ X, zag w x.2.2.1.1 x.2.2.2
theorem zcc.below {w w' : World} {a : Option Addr} {X : List XL} (h : zcc w a X) (hb : Z w.heap.size w w') : zcc w' a X := ⟨h.1.below hb, fun x hx => (h.2 x hx).below hb⟩
theorem zcc.get {w : World} {a : Option Addr} {X : List XL} (h : zcc w a X) {k : Nat} (hk : k < X.length) : ∃ b o, a = some ⟨b, o, U⟩ ∧ b < w.heap.size ∧ w.cell? ⟨b, o + k * 3, U⟩ = some (E J X[k].1) ∧ w.cell? ⟨b, o + k * 3 + 1, U⟩ = some (E J X[k].2.1) ∧
  w.cell? ⟨b, o + k * 3 + 2, U⟩ = some (G X[k].2.2.1.1 X[k].2.2.2.length X[k].2.2.1.2) ∧ zag w X[k].2.2.1.1 X[k].2.2.2 := by
 rcases h.1 with rfl | ⟨b, o, rfl, hlt, hc⟩
 · simp at hk
 · exact ⟨b, o, rfl, hlt, hc k hk 0 _ rfl, hc k hk 1 _ rfl, hc k hk 2 _ rfl, h.2 _ (List.getElem_mem hk)⟩
def zfe (w : World) (a : Option Addr) (X : List XD) : Prop := zi 2 zde w a X ∧ ∀ x ∈ X, zag w x.2.1.1 x.2.2
theorem zfe.below {w w' : World} {a : Option Addr} {X : List XD} (h : zfe w a X) (hb : Z w.heap.size w w') : zfe w' a X := ⟨h.1.below hb, fun x hx => (h.2 x hx).below hb⟩
theorem zfe.get {w : World} {a : Option Addr} {X : List XD} (h : zfe w a X) {k : Nat} (hk : k < X.length) : ∃ b o, a = some ⟨b, o, U⟩ ∧ b < w.heap.size ∧ w.cell? ⟨b, o + k * 2, U⟩ = some (E J X[k].1) ∧
  w.cell? ⟨b, o + k * 2 + 1, U⟩ = some (G X[k].2.1.1 X[k].2.2.length X[k].2.1.2) ∧ zag w X[k].2.1.1 X[k].2.2 := by
 rcases h.1 with rfl | ⟨b, o, rfl, hlt, hc⟩
 · simp at hk
 · exact ⟨b, o, rfl, hlt, hc k hk 0 _ rfl, hc k hk 1 _ rfl, h.2 _ (List.getElem_mem hk)⟩
theorem zgw (a : Option Addr) (l : List P3) (cap n : Nat) (w : World) (hn : n = l.length) (hl : l.length ≤ 1000) (hp : zag w a l) :
  Calls Tryz.prog 45 #[G a n cap] w fun e w' => ∃ a' c', e = .returned (G a' n c') ∧ zai w.heap.size w' a' l ∧ Z w.heap.size w w' := by
 have q : ∀ (w : World) (a : Option Addr) (n c n' c' : Nat), (binOp .eql 23 (G a n c) (G U n' c')).run Tryz.prog w = .ok (.bool a.isNone) w := fun w a n c n' c' => Lib.run_eql_slice_nil w _ _ a n c n' c' Tryz.underlying23
 cases a with
 | none =>
  have h0 : l = [] := by
   rcases hp with h | ⟨b, o, h, _⟩
   · exact h
   · cases h
  subst h0;subst hn;clear hp;go_enter Tryz.func45, Tryz.ntmps45
  go_wp2;go_ret;exact ⟨_, _, rfl, Or.inl rfl, Below.refl _ _⟩
 | some ad =>
  have HP := zA hp;have HN := zA hn;clear hp hn;go_enter Tryz.func45, Tryz.ntmps45
  go_wp2_with (at_builtin; refine zip lenP oneP Tryz.underlying23 zh9 rfl (by decide) (by decide) _ rfl _ _ rfl w.heap.size _ [] rfl (World.ownsRow_made w #[] 0 (kaa _) (Nat.zero_le _) (by simp)) (some ad) n cap l rfl HN.out (zkg (HP.out.below (zh w _))) (by simp; omega) (by simp) ?_; intro a' n' c' w1 hown hn' hgrow hat)
  have HO : Q (zby w1 w.heap.size (G a' n' c') l ∧ n' = n) := ⟨by rw [List.nil_append] at hown; exact hown, by rw [hn', HN.out]; simp⟩;clear hown hn' hat;go_wp2;go_ret;obtain ⟨a2, c2, hv, ht, _⟩ := HO.out.1.typed;cases hv;have e := HO.out.2;subst e;refine ⟨a', c', rfl, ht, ?_⟩;exact ((Below.refl _ w).alloc (kaa _) _).grown hgrow (by simp) (by intro k hk; cases hk; exact kaa _)
theorem deed_any (k d : Int) (a : Option Addr) (l : List P3) (cap n : Nat) (w : World) (hn : n = l.length) (hl : l.length ≤ 1000) (hp : zag w a l) :
  Calls Tryz.prog 86 #[.agg #[E J k, E J d, G a n cap]] w fun e w' => ∃ a' c', e = .returned (.agg #[E J d, G a' n c']) ∧ zai w.heap.size w' a' l ∧ Z w.heap.size w w' := by
 have HP := zB hp hn;clear hp hn;go_enter Tryz.func86, Tryz.ntmps86
 go_wp2_with fail
 have hbX := zax w (T #[E J k, E J d, G a n cap] 40) (T #[E J 0, G U 0 0] 80);have hr : Blk ((w.alloc (T #[E J k, E J d, G a n cap] 40)).alloc (T #[E J 0, G U 0 0] 80)) w.heap.size #[E J k, E J d, G a n cap] 40 := (Blk.new w _ _).alloc _;have hz : Blk ((w.alloc (T #[E J k, E J d, G a n cap] 40)).alloc (T #[E J 0, G U 0 0] 80)) (w.heap.size + 1) #[E J 0, G U 0 0] 80 := zao _ _ _;have hp := HP.out.1.below hbX;generalize ((w.alloc (T #[E J k, E J d, G a n cap] 40)).alloc (T #[E J 0, G U 0 0] 80)) = X at *;have HX : Q (zag X a l ∧ Z w.heap.size w X ∧ (∀ w', Z X.heap.size X w' → Blk w' (w.heap.size + 1) #[E J 0, G U 0 0] 80)) := ⟨hp, hbX, fun w' hb => hz.below hb hz.lt⟩
 have HK : Q (∀ w', Z X.heap.size X w' → ((w'.cell? ⟨w.heap.size, 1, U⟩ = some (E J d) ∧ w'.cell? ⟨w.heap.size, 2, U⟩ = some (G a n cap)) ∧ (w'.cell? ⟨w.heap.size + 1, 0, U⟩ = some (E J 0) ∧ w'.cell? ⟨w.heap.size + 1, 1, U⟩ = some (G U 0 0)) ∧ w'.frozen? ⟨w.heap.size + 1, 0, U⟩ = false ∧ w'.frozen? ⟨w.heap.size + 1, 1, U⟩ = false)) := fun w' hb =>
  ⟨⟨(hr.below hb hr.lt).cell 1, (hr.below hb hr.lt).cell 2⟩, ⟨(hz.below hb hz.lt).cell 0, (hz.below hb hz.lt).cell 1⟩, (hz.below hb hz.lt).free 0, (hz.below hb hz.lt).free 1⟩
 have hX0 : Z X.heap.size X X.drew := (Below.refl _ _).drew;obtain ⟨⟨i0, i1⟩, ⟨i2, i3⟩, i4, i5⟩ := HK.out _ hX0;clear hr hz hp hbX;go_region_with (go_at_call 45; refine (zgw a l cap n _ HP.out.2 hl (by exact HX.out.1.below hX0)).mono ?_; rintro e we ⟨a', c', rfl, ht, hbe⟩; have hBe : Z X.heap.size X we := hX0.trans (hbe.mono hX0.size); obtain ⟨⟨j0, j1⟩, ⟨j2, j3⟩, j4, j5⟩ := HK.out _ hBe; clear hbe i0 i1 i2 i3 i4 i5)
 all_goals
  have hz := HX.out.2.2 _ hBe;have hb2 := (hz.set 0 (E J d)).set 1 (G a' n c');have ht2 : zai w.heap.size ((we.setCell ⟨w.heap.size + 1, 0, U⟩ (E J d)).setCell ⟨w.heap.size + 1, 1, U⟩ (G a' n c')) a' l := ((ht.mono (show w.heap.size ≤ _ from HX.out.2.1.size)).calm (zg.setCell (a := ⟨w.heap.size + 1, 0, U⟩) hz (by decide) _)).calm (zg.setCell (a := ⟨w.heap.size + 1, 1, U⟩) (hz.set 0 (E J d)) (by decide) _);have hbw : Z w.heap.size w ((we.setCell ⟨w.heap.size + 1, 0, U⟩ (E J d)).setCell ⟨w.heap.size + 1, 1, U⟩ (G a' n c')) := ((HX.out.2.1.trans (hBe.mono HX.out.2.1.size)).setCell (by simp) _).setCell (by simp) _;clear ht j0 j1 j2 j3 j4 j5 hz;go_wp2_with fail
  have e0 := hb2.cell 0;have e1 := hb2.cell 1;simp only [List.setIfInBounds_toArray, List.set_cons_zero, List.set_cons_succ, List.getElem?_toArray, List.getElem?_cons_zero, List.getElem?_cons_succ] at e0 e1
  refine bodyPost_ret (v := .agg #[E J d, G a' n c']) ?_ rfl ⟨a', c', rfl, ht2, hbw⟩;simp [results, Tryz.results86, go_sem, e0, e1]
theorem za.setNew {α : Type} {e : TypeId} {size : Nat} {enc : α → List Value} {w : World} {base : Nat} {v : Value} {xs : List α} (h : za e size enc w base v xs) {a : Addr} (ha : v.ownBlock ≠ some a.block) (u : Value) : za e size enc (r w a u) base v xs := ownsRow_setCell_other h ha u
theorem za.other {α : Type} {e : TypeId} {size : Nat} {enc : α → List Value} {w : World} {base : Nat} {v : Value} {xs : List α} (h : za e size enc w base v xs) {g : Nat} (hg : w.heap.size ≤ g) : v.ownBlock ≠ some g := fun hv => by
 have := (World.ownsRow.lt h g hv).2;omega
theorem za.base {α : Type} {e : TypeId} {size : Nat} {enc : α → List Value} {w : World} {base : Nat} {v : Value} {xs : List α} (h : za e size enc w base v xs) : ∀ k, v.ownBlock = some k → base ≤ k := fun k hk => (World.ownsRow.lt h k hk).1
theorem zif {α β : Type} {X : List α} {k : Nat} (h : k < X.length) (f : α → β) : (X.take (k + 1)).map f = (X.take k).map f ++ [f X[k]] := by rw [zaw h, List.map_append]; rfl
theorem zi5 {X : List XL} (h : OkL (X.map ze)) {k : Nat} (hk : k < X.length) : OkP X[k].2.2.2 := h (ze X[k]) (List.mem_map.2 ⟨_, List.getElem_mem hk, rfl⟩)
def zc5 (w : World) (base : Nat) (v : Value) (Y : List XL) : Prop := za 40 3 zaf w base v Y ∧ ∀ y ∈ Y, zai base w y.2.2.1.1 y.2.2.2
theorem zc5.at {w : World} {base : Nat} {a : Option Addr} {n c : Nat} {Y : List XL} (h : zc5 w base (G a n c) Y) : zcc w a Y := by
 obtain ⟨a', c', hv, hrow, _⟩ := h.1.row za6;cases hv;exact ⟨hrow, fun y hy => (h.2 y hy).at⟩
theorem zc5.below {w w' : World} {base : Nat} {v : Value} {Y : List XL} (h : zc5 w base v Y) (hb : Z w.heap.size w w') : zc5 w' base v Y := ⟨h.1.below hb (kaa _), fun y hy => (h.2 y hy).calm (zg.below hb (kaa _))⟩
theorem zc5.mono {w : World} {base base' : Nat} {v : Value} {Y : List XL} (h : zc5 w base v Y) (hb : base' ≤ base) : zc5 w base' v Y := ⟨h.1.mono hb, fun y hy => (h.2 y hy).mono hb⟩
theorem zju (a : Option Addr) (X : List XL) (cap n : Nat) (w : World) (hn : n = X.length) (hl : X.length ≤ 3518437208883) (hok : OkL (X.map ze)) (hp : zcc w a X) :
  Calls Tryz.prog 44 #[G a n cap] w fun e w' => ∃ a' c' Y, e = .returned (G a' n c') ∧ Y.map ze = X.map ze ∧ zc5 w' w.heap.size (G a' n c') Y ∧ Z w.heap.size w w' := by
 have HN := zC hn hok hp;have hnl : n ≤ 3518437208883 := by omega
 clear hn hok hp;go_enter Tryz.func44, Tryz.ntmps44
 go_wp2;go_loopw [3, 8] (fun v i w' => ∃ (k : Nat) (Y : List XL), k ≤ n ∧ i = E J k ∧ Q (Y.map ze = (X.take k).map ze) ∧ za 40 3 zaf w' w.heap.size v Y ∧ Q (∀ y ∈ Y, zai w.heap.size w' y.2.2.1.1 y.2.2.2) ∧ Z w.heap.size w w') (fun _ i _ => n - (intOf i).toNat)
 case atStart => exact ⟨0, [], Nat.zero_le _, rfl, rfl, za.nil _ _, (fun y hy => by cases hy), Below.refl _ _⟩
 case round =>
  obtain ⟨k, Y, hk, rfl, hY, hown, hT, hbw⟩ := hrel;have hsz := hbw.size
  have hYl : Y.length = k := by
   have := congrArg List.length hY.out;have h2 := HN.out.1;simp at this
   omega
  by_cases hlt : k < n
  · have hkX : k < X.length := by have := HN.out.1; omega
   obtain ⟨b, o, rfl, hb, c0, c1, c2, hq⟩ := (HN.out.2.2.below hbw).get hkX;have hokk := zi5 HN.out.2.1 hkX;have HE : Q ((X.take (k + 1)).map ze = (X.take k).map ze ++ [ze X[k]]) := zif hkX _
   obtain ⟨av, nv, cv, rfl⟩ : ∃ a n c, u3 = G a n c := by
    obtain ⟨a, c, hv, _⟩ := hown.row za6;exact ⟨a, _, c, hv⟩
   generalize X[k] = x at *;obtain ⟨kd, dd, ⟨ax, cx⟩, l⟩ := x;simp only at c0 c1 c2 hq hokk
   have HQ : Q (zag wr ax l ∧ l.length ≤ 1000 ∧ za 40 3 zaf wr w.heap.size (G av nv cv) Y) := ⟨hq, by have := hokk.1; omega, hown⟩;clear hq hokk hown;generalize hll : l.length = nl at *;go_wp2_with fail
   refine (zgw ax l cx nl _ hll.symm (by have := HQ.out.2.1; omega) (HQ.out.1.below (zh wr _))).mono ?_;rintro e w1 ⟨a1, c1', rfl, ht1, hb1⟩;have hbr := (zh wr _).trans (hb1.mono (by simp));have hr1 : Blk w1 wr.heap.size #[E J kd, E J dd, G ax nl cx] 40 := (Blk.new wr _ _).below hb1 (by simp);have hr2 := hr1.set 2 (G a1 nl c1');have hne := HQ.out.2.2.other (kaa wr.heap.size);have ho2 : za 40 3 zaf (r w1 ⟨wr.heap.size, 2, U⟩ (G a1 nl c1')) w.heap.size (G av nv cv) Y := (HQ.out.2.2.below hbr (kaa _)).setNew (a := ⟨wr.heap.size, 2, U⟩) hne _;have hcalm : zg 90 w1 (r w1 ⟨wr.heap.size, 2, U⟩ (G a1 nl c1')) := zg.setCell (a := ⟨wr.heap.size, 2, U⟩) hr1 (by decide) _
   have hT2 : Q (∀ y ∈ Y ++ [(kd, dd, (a1, c1'), l)], zai w.heap.size (r w1 ⟨wr.heap.size, 2, U⟩ (G a1 nl c1')) y.2.2.1.1 y.2.2.2) := fun y hy => by
    rcases List.mem_append.1 hy with hy | hy
    · exact ((hT.out y hy).calm (zg.below hbr (kaa _))).calm hcalm
    · rw [List.mem_singleton.1 hy]; exact (ht1.mono (by simp; omega)).calm hcalm
   have hB2 : Z w.heap.size w (r w1 ⟨wr.heap.size, 2, U⟩ (G a1 nl c1')) := (hbw.trans (hbr.mono hsz)).setCell (by simpa using hsz) _;have f2 := hr1.free 2;have g2 := hr1.cell 2;simp at g2
   have HB : Q (Blk (r w1 ⟨wr.heap.size, 2, U⟩ (G a1 nl c1')) wr.heap.size #[E J kd, E J dd, G a1 nl c1'] 40) := hr2;clear ht1 hb1 hbr hr1 hcalm c0 c1 c2 hr2 hT;have HO := zA ho2;clear ho2;go_upto_region 6 with fail
   generalize r w1 ⟨wr.heap.size, 2, U⟩ (G a1 nl c1') = w2 at *;have e0 := HB.out.cell 0;have e1 := HB.out.cell 1;have e2 := HB.out.cell 2;simp at e0 e1 e2
   clear f2 g2;have hlY : Y.length + 1 ≤ 3518437208883 := by omega
   have HL := zA hll;clear hll;go_wp2_with (at_builtin; refine zbi za6 zcv Tryz.underlying26 zcm rfl (by decide) _ rfl _ _ rfl w.heap.size _ Y rfl (HO.out.below (zh w2 _) (kaa _)) (some ⟨w2.heap.size, 0, U⟩) 1 1 [(kd, dd, (a1, c1'), l)] rfl rfl (zi.one (Blk.new w2 _ _) (by simp [zaf, HL.out])) (by unfold maxLen; simp; omega) (by simp; omega) (by have := hB2.size; simp; omega) ?_; intro a' n' c' w3 hown3 hn3 hgrow3 hat3; clear hn3)
   have hB3 := (hB2.alloc hB2.size _).grown hgrow3 (by have := hB2.size; simp; omega) HO.out.base;have hC3 : zg 90 w2 w3 := (zg.alloc _ _ _).trans (zg.grown hgrow3 ((HO.out.below (zh w2 _) (kaa _)).grownT (by decide)))
   have HF : Q ((Y ++ [(kd, dd, (a1, c1'), l)]).map ze = (X.take (k + 1)).map ze) := by
    show _ = _
    rw [HE.out, List.map_append, hY.out];rfl
   have HT3 : Q (∀ y ∈ Y ++ [(kd, dd, (a1, c1'), l)], zai w.heap.size w3 y.2.2.1.1 y.2.2.2) := fun y hy => (hT2.out y hy).calm hC3
   clear hC3 hgrow3 hat3 hT2 HO HB e0 e1 e2;go_wp2;go_roundw
   case rel => exact ⟨k + 1, _, by omega, by go_num, HF, hown3, HT3, hB3⟩
   case measure => simp [intOf]; omega
  · have hkn : k = n := by omega
   obtain ⟨av, cv, rfl, hrow, _⟩ := hown.row za6;have HF : Q (Y.map ze = X.map ze ∧ Y.length = n ∧ za 40 3 zaf wr w.heap.size (G av Y.length cv) Y) := ⟨by rw [hY.out, List.take_of_length_le (by have := HN.out.1; omega)], by omega, hown⟩;clear hown hY hrow;generalize Y.length = ny at *;go_wp2;go_ret;have e := HF.out.2.1;subst e;exact ⟨av, cv, Y, rfl, HF.out.1, ⟨HF.out.2.2, hT.out⟩, hbw⟩
def Idx (X : List XD) (D jj : Int) : Prop := (jj = -1 ∧ ∀ x ∈ X, x.1 ≠ D) ∨ ∃ i, ∃ h : i < X.length, jj = (i : Int) ∧ X[i].1 = D ∧ ∀ j, j < i → ∀ h' : j < X.length, X[j].1 ≠ D
theorem zez {w w' : World} (h : Z w.heap.size w w') {row : Option Nat} : w.grownBy w' row := ⟨h.os, h.tape, h.output, h.size, fun k hk _ => h.block k hk⟩
theorem za.at {α : Type} {e : TypeId} {size : Nat} {enc : α → List Value} {w : World} {base : Nat} {a : Option Addr} {n cap : Nat} {xs : List α} (he : ∀ x, (enc x).length = size) (h : za e size enc w base (G a n cap) xs) : zi size enc w a xs ∧ n = xs.length ∧ xs.length ≤ cap ∧ cap ≤ maxLen := by
 obtain ⟨a', cap', hv, h1, h2, h3⟩ := h.row he;cases hv;exact ⟨h1, rfl, h2, h3⟩
theorem zfd (w : World) (g j : Nat) (u : Value) : w.grownBy (r w ⟨g, j, U⟩ u) (some g) := ⟨rfl, rfl, rfl, by simp, fun k _ hk => heap_setCell_other w ⟨g, j, U⟩ k u (fun e => hk (by simp [e]))⟩
theorem zic (g : Nat) : ∀ (vs : List Value) (j : Nat) (w : World), w.grownBy (w.setCells g j vs) (some g)
 | [], _, w => World.grownBy.refl _ _
 | u :: jj, j, w => by
  rw [World.setCells];exact (zfd w g j u).trans (zic g jj (j + 1) _)
end Go.Proofs.YtpcnlifmkhagkaaGreat
