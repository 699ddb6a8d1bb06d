import Derived.Test.YtpcnlifmkhagkaaGreatKTJ01
set_option maxRecDepth 20000
set_option maxHeartbeats 20000000
namespace Go.Proofs.YtpcnlifmkhagkaaGreat
open Go.RowKit
open Go.Value renaming slice → G, int → E
open Go.IntKind renaming i64 → J
open _root_.Option renaming none → U
open Go.Obj renaming cells → T
open Go.RowKit renaming Hid → Q, Below → Z
open Go.World renaming setCell → r
open _root_.List renaming filter_cons_of_neg → kaa, filter_cons_of_pos → kab
theorem zqh {h : H3} {jj : R3} {x : D2} (hx : x ∈ (zbe h jj).2.1) : x ∈ h.2.1 ∨ x = (jj.2.1, jj.2.2) := by
 unfold zbe at hx
 split at hx
 ·split at hx
  ·exact Or.inl hx
  ·rcases List.mem_append.1 hx with hx | hx
   ·exact Or.inl hx
   ·exact Or.inr (List.mem_singleton.1 hx)
 ·split at hx
  ·split at hx
   ·exact Or.inl (zcz hx).1
   ·exact Or.inl hx
  ·split at hx
   ·exact Or.inl (zcz hx).1
   ·exact Or.inl hx
theorem zkm {x : D2} : ∀ (M : List R3) (h : H3), x ∈ (M.foldl zbe h).2.1 → x ∈ h.2.1 ∨ ∃ jj ∈ M, x = (jj.2.1, jj.2.2)
 | [], h, hx => Or.inl hx
 | jj :: M, h, hx => by
  rw [List.foldl_cons] at hx;rcases zkm M _ hx with hx | ⟨q, hq, e⟩
  ·rcases zqh hx with hx | e
   ·exact Or.inl hx
   ·exact Or.inr ⟨jj, by simp, e⟩
  ·exact Or.inr ⟨q, by simp [hq], e⟩
theorem zp1 {L : List R3} {x : D2} (hx : x ∈ (zd L).2.1) : ∃ jj ∈ L, x = (jj.2.1, jj.2.2) := by
 rcases zkm L _ hx with hx | h
 ·cases hx
 ·exact h
abbrev I4 := List D2 × Bool × S4 × List Int
def zbl (k d : Int) (i : I4) (x : D2) : I4 :=
 if ¬ x.1 = d ∨ i.2.1 = true then (i.1 ++ [x], i.2)
 else if k = 2 then (i.1, true, doB i.2.2.1 x.2, i.2.2.2 ++ [d])
 else if k = 3 then (i.1, true, i.2.2.1, i.2.2.2)
 else (i.1 ++ [x], true, i.2.2)
def zbq (k d : Int) (s : S4) (dn : List Int) (D : List D2) : I4 := D.foldl (zbl k d) ([], false, s, dn)
theorem iall_snoc (k d : Int) (s : S4) (dn : List Int) (D : List D2) (x : D2) : zbq k d s dn (D ++ [x]) = zbl k d (zbq k d s dn D) x := by simp [zbq]
theorem iall_take {k d : Int} {s : S4} {dn : List Int} {D : List D2} {j : Nat} (h : j < D.length) : zbq k d s dn (D.take (j + 1)) = zbl k d (zbq k d s dn (D.take j)) D[j] := by rw [zav h, iall_snoc]
theorem zf0 (k d : Int) : ∀ (D : List D2) (i : I4), (i.2.1 = true ∨ ∀ x ∈ D, x.1 ≠ d) → D.foldl (zbl k d) i = (i.1 ++ D, i.2)
 | [], i, _ => by simp
 | x :: D, i, h => by
  have e : zbl k d i x = (i.1 ++ [x], i.2) := by
   unfold zbl
   rw [if_pos];rcases h with h | h
   ·exact Or.inr h
   ·exact Or.inl (h x (by simp))
  rw [List.foldl_cons, e, zf0 k d D _ (by
   rcases h with h | h
   ·exact Or.inl h
   ·exact Or.inr fun y hy => h y (by simp [hy]))]
  simp
theorem zmm (k d : Int) : ∀ (D : List D2) (i : I4), (D.foldl (zbl k d) i).2.1 = false → (D.foldl (zbl k d) i).2.2 = i.2.2
 | [], _, _ => rfl
 | x :: D, i, h => by
  rw [List.foldl_cons] at h ⊢
  rw [zmm k d D _ h];by_cases hm : (zbl k d i x).2.1 = true
  ·exfalso
   rw [zf0 k d D _ (Or.inl hm), hm] at h;cases h
  ·unfold zbl at hm ⊢
   split
   ·rfl
   ·rename_i hc
    rw [if_neg hc] at hm;split
    ·rename_i h2; rw [if_pos h2] at hm; exact absurd rfl hm
    ·rename_i h2
     rw [if_neg h2] at hm;split
     ·rfl
     ·rfl
theorem zqp {k d : Int} {s : S4} {dn : List Int} {D : List D2} (h : (zbq k d s dn D).2.1 = false) : (zbq k d s dn D).2.2 = (s, dn) := zmm k d D _ h
theorem zi5 (k d : Int) : ∀ (D : List D2) (i : I4), (D.foldl (zbl k d) i).1.length ≤ i.1.length + D.length ∧ (D.foldl (zbl k d) i).2.2.2.length ≤ i.2.2.2.length + D.length
 | [], _ => ⟨Nat.le_refl _, Nat.le_refl _⟩
 | x :: D, i => by
  obtain ⟨h1, h2⟩ := zi5 k d D (zbl k d i x)
  have hs : (zbl k d i x).1.length ≤ i.1.length + 1 ∧ (zbl k d i x).2.2.2.length ≤ i.2.2.2.length + 1 := by
   unfold zbl
   split
   ·simp
   ·split
    ·simp
    ·split <;> simp
  rw [List.foldl_cons, List.length_cons];omega
theorem zjd {d : Int} : ∀ {D : List D2}, zab D d = true → ∃ A x B, D = A ++ x :: B ∧ x.1 = d ∧ (∀ y ∈ A, y.1 ≠ d) ∧ zcg D d = x.2
 | [], h => by cases h
 | x :: D, h => by
  by_cases hx : x.1 = d
  ·exact ⟨[], x, D, rfl, hx, (fun y hy => by cases hy), by simp [zcg, hx]⟩
  ·have h' : zab D d = true := by simpa [zab, hx] using h
   obtain ⟨A, y, B, rfl, hy, hA, hP⟩ := zjd h';refine ⟨x :: A, y, B, rfl, hy, ?_, ?_⟩
   ·intro z hz
    rcases List.mem_cons.1 hz with rfl | hz
    ·exact hx
    ·exact hA z hz
   ·rw [← hP]
    simp [zcg, hx]
theorem zqq {D : List D2} {d : Int} (h : zab D d = false) : ∀ x ∈ D, x.1 ≠ d := by
 simp only [zab, List.any_eq_false] at h
 exact fun x hx e => h x hx (decide_eq_true e)
theorem zj5 {D : List D2} {d : Int} (h : ∀ x ∈ D, x.1 ≠ d) : zal D d = D := by
 unfold zal
 rw [List.filter_eq_self];exact fun x hx => by simp [h x hx]
def rstep (h : H3) (jj : R3) : H3 :=
 let i := zbq jj.1 jj.2.1 h.1 h.2.2 h.2.1
 (i.2.2.1, if jj.1 = 1 ∧ i.2.1 = false then i.1 ++ [(jj.2.1, jj.2.2)] else i.1, i.2.2.2)
theorem znl {h : H3} (jj : R3) (nd : (h.2.1.map (·.1)).Nodup) : rstep h jj = zbe h jj := by
 obtain ⟨s, D, dn⟩ := h;obtain ⟨k, d, l⟩ := jj;simp only at nd
 unfold rstep zbe
 simp only
 cases hh : zab D d with
 | false =>
  have hn := zqq hh
  have e : zbq k d s dn D = (D, false, s, dn) := by
   unfold zbq
   rw [zf0 k d D _ (Or.inr hn)];rfl
  rw [e, zj5 hn];by_cases k1 : k = 1
  ·simp [k1]
  ·by_cases k2 : k = 2
   ·simp [k2]
   ·by_cases k3 : k = 3
    ·simp [k3]
    ·simp [k1, k2, k3]
 | true =>
  obtain ⟨A, x, B, rfl, hx, hA, hP⟩ := zjd hh
  have hB : ∀ y ∈ B, y.1 ≠ d := by
   intro y hy e;rw [List.map_append, List.map_cons, List.nodup_append] at nd;have := nd.2.1;rw [List.nodup_cons] at this;exact this.1 (List.mem_map.2 ⟨y, hy, by rw [e, hx]⟩)
  have hdrop : zal (A ++ x :: B) d = A ++ B := by
   have e1 := zj5 hA;have e2 := zj5 hB;unfold zal at *
   rw [List.filter_append, e1, kaa (by simp [hx]), e2]
  have e0 : zbq k d s dn (A ++ x :: B) = B.foldl (zbl k d) (zbl k d (A, false, s, dn) x) := by
   unfold zbq
   rw [List.foldl_append, zf0 k d A _ (Or.inr hA)];rfl
  rw [hP, hdrop, e0];by_cases k2 : k = 2
  ·subst k2
   have e1 : zbl 2 d (A, false, s, dn) x = (A, true, doB s x.2, dn ++ [d]) := by simp [zbl, hx]
   rw [e1, zf0 2 d B _ (Or.inl rfl)];simp
  ·by_cases k3 : k = 3
   ·subst k3
    have e1 : zbl 3 d (A, false, s, dn) x = (A, true, s, dn) := by simp [zbl, hx]
    rw [e1, zf0 3 d B _ (Or.inl rfl)];simp
   ·have e1 : zbl k d (A, false, s, dn) x = (A ++ [x], true, s, dn) := by simp [zbl, hx, k2, k3]
    rw [e1, zf0 k d B _ (Or.inl rfl)];simp [k2, k3]
theorem doB_lt_eq (s : S4) (l : List P3) (k : Int) : doB (doB s (l.filter fun p => decide (p.2.1 < k))) (l.filter fun p => decide (p.2.1 = k)) = doB s (l.filter fun p => decide (p.2.1 < k + 1)) := by
 induction l with
 | nil => rfl
 | cons p t ih =>
  by_cases h1 : p.2.1 < k
  ·have h2 : ¬ p.2.1 = k := by omega
   have h3 : p.2.1 < k + 1 := by omega
   rw [kab (p := fun p : P3 => decide (p.2.1 < k)) (by simpa using h1), kaa (p := fun p : P3 => decide (p.2.1 = k)) (by simpa using h2), kab (p := fun p : P3 => decide (p.2.1 < k + 1)) (by simpa using h3), zf3, doB_do1, zf3, ih]
  ·by_cases h2 : p.2.1 = k
   ·have h3 : p.2.1 < k + 1 := by omega
    rw [kaa (p := fun p : P3 => decide (p.2.1 < k)) (by simpa using h1), kab (p := fun p : P3 => decide (p.2.1 = k)) (by simpa using h2), kab (p := fun p : P3 => decide (p.2.1 < k + 1)) (by simpa using h3), zf3, zf3, ih]
   ·have h3 : ¬ p.2.1 < k + 1 := by omega
    rw [kaa (p := fun p : P3 => decide (p.2.1 < k)) (by simpa using h1), kaa (p := fun p : P3 => decide (p.2.1 = k)) (by simpa using h2), kaa (p := fun p : P3 => decide (p.2.1 < k + 1)) (by simpa using h3), ih]
theorem zpz {l : List P3} (h : ∀ p ∈ l, zb4 p.2.1 = true) : (l.filter fun p => decide (p.2.1 < 0)) = [] := by
 rw [List.filter_eq_nil_iff];intro p hp;have := h p hp;simp only [zb4, decide_eq_true_eq] at this
 simp; omega
theorem znm {l : List P3} (h : ∀ p ∈ l, zb4 p.2.1 = true) : (l.filter fun p => decide (p.2.1 < 4)) = l := by
 rw [List.filter_eq_self];intro p hp;have := h p hp;simp only [zb4, decide_eq_true_eq] at this
 simp; omega
theorem zk3 {l : List P3} (h : zdz l) (f : P3 → Bool) : zdz (l.filter f) := fun p hp => h p (List.mem_filter.1 hp).1
theorem zn9 {s : S4} {l m : List P3} (hw : zbj 2199023255552 s) (hl : zdz l) (hm : zdz m) (h1 : l.length ≤ 4) (h2 : m.length ≤ 4) : zbj (2199023255552 + 8388608) (doB (doB s l) m) :=
 zgx (zi4 (zi4 hw hl) hm) (by omega)
theorem zpn (l : List P3) (p : P3) (k : Int) (h : p.2.1 = k) : ((l ++ [p]).filter fun p => decide (p.2.1 = k)) = (l.filter fun p => decide (p.2.1 = k)) ++ [p] := by simp [List.filter_append, h]
theorem zni (l : List P3) (p : P3) (k : Int) (h : ¬ p.2.1 = k) : ((l ++ [p]).filter fun p => decide (p.2.1 = k)) = (l.filter fun p => decide (p.2.1 = k)) := by simp [List.filter_append, h]
theorem zoa (s0 s1 s2 s3 : Int) (a : Option Addr) (l : List P3) (cap n : Nat) (w : World) (hn : n = l.length) (hl : l.length ≤ 4) (hp : zae w a l) (hs : zdz l) (hky : ∀ p ∈ l, zb4 p.2.1 = true) (hw : zbj 2199023255552 (s0, s1, s2, s3)) :
    Calls Tryz.prog 126 #[.agg #[E J s0, E J s1, E J s2, E J s3], G a n cap] w fun e w' => e = .returned (E J (zco (s0, s1, s2, s3) l)) ∧ Z w.heap.size w w' := by
  subst hn;obtain ⟨⟨a1, a2⟩, ⟨b1, b2⟩, ⟨c1, c2⟩, ⟨d1, d2⟩⟩ := hw;simp only at a1 a2 b1 b2 c1 c2 d1 d2
  go_enter Tryz.func126, Tryz.ntmps126
  go_wp2;go_loopw [9] (fun i w' => ∃ k : Nat, k ≤ l.length ∧ i = E J k ∧ Q (zco (s0, s1, s2, s3) l = zco (s0, s1, s2, s3) (l.drop k)) ∧ Z (w.alloc (T #[E J s0, E J s1, E J s2, E J s3] 75)).heap.size (w.alloc (T #[E J s0, E J s1, E J s2, E J s3] 75)) w') (fun i _ => l.length - (intOf i).toNat)
  case atStart => exact ⟨0, Nat.zero_le _, rfl, rfl, Below.refl _ _⟩
  case round =>
    obtain ⟨k, hk, rfl, hn, hbw⟩ := hrel;have hB := (zh w _).trans (hbw.mono (by simp));have hsz : w.heap.size + 1 ≤ wr.heap.size := by have := hbw.size; simpa using this
    by_cases hlt : k < l.length
    · rcases hp with rfl | ⟨b', o, rfl, hb', hc⟩
      · simp at hlt
      obtain ⟨d0, d1', d2'⟩ := hc k hlt;have HS := hn.out;rw [fits_step hlt, if_pos (hky _ (List.getElem_mem hlt))] at HS;have hpn := zhf hs hlt;have hkey := zgg.1 (hky _ (List.getElem_mem hlt));obtain ⟨hcc, hff⟩ := zc0 hbw;have z0 : wr.cell? ⟨w.heap.size, 0, U⟩ = some (E J s0) := by rw [hcc _ _ (by simp)]; simp
      have z1 : wr.cell? ⟨w.heap.size, 1, U⟩ = some (E J s1) := by rw [hcc _ _ (by simp)]; simp
      have z2 : wr.cell? ⟨w.heap.size, 2, U⟩ = some (E J s2) := by rw [hcc _ _ (by simp)]; simp
      have z3 : wr.cell? ⟨w.heap.size, 3, U⟩ = some (E J s3) := by rw [hcc _ _ (by simp)]; simp
      have hsw : w.heap.size < wr.heap.size := by omega
      have hB1 : ∀ o, Z (w.alloc (T #[E J s0, E J s1, E J s2, E J s3] 75)).heap.size (w.alloc (T #[E J s0, E J s1, E J s2, E J s3] 75)) (wr.alloc o) := fun o => hbw.alloc (by simpa using hsz) o
      have HB : Q _ := hB1;clear hcc hff hc hn hs hky hB1 hbw;obtain ⟨hcc, hff⟩ := zc0 hB;generalize l[k].1 = p0 at *;generalize l[k].2.1 = p1 at *;generalize l[k].2.2 = p2 at *;obtain ⟨hp1, hp2⟩ := hpn;rcases hkey with rfl | rfl | rfl | rfl
      all_goals
        simp only [za8, ↓reduceIte, Int.reduceEq] at HS
        have HN : Q _ := HS;clear HS;go_wp2;go_quiet (fail)
        go_wp2
      all_goals first
        | (go_ret; exact ⟨zca (by rw [HN.out, if_pos (by omega)]), below_drewN (hB.alloc (by omega) _) _⟩)
        | (go_quiet (fail)
           go_wp2
           all_goals first
             | (go_ret; exact ⟨zca (by rw [HN.out, if_neg (by omega), if_pos (by omega)]), by first | exact below_drewN (hB.alloc (by omega) _) _ | exact below_drewN (below_drewN (hB.alloc (by omega) _) _) _⟩)
             | (go_roundw
                case rel => exact ⟨k + 1, by omega, by go_num, by show _ = _; rw [HN.out, if_neg (by omega), if_neg (by omega)], by first | exact below_drewN (HB.out _) _ | exact below_drewN (below_drewN (HB.out _) _) _⟩
                case measure => simp [intOf]; omega))
    · clear hp
      have HE : Q (zco (s0, s1, s2, s3) l = 0) := by
        have e1 := hn.out;rw [List.drop_eq_nil_of_le (by omega)] at e1;exact e1
      clear hn;go_wp2;go_ret;exact ⟨zca HE.out.symm, hB⟩
def ltK (l : List P3) (k : Int) : List P3 := l.filter fun p => decide (p.2.1 < k)
def eqK (l : List P3) (k : Int) : List P3 := l.filter fun p => decide (p.2.1 = k)
theorem zhw {l : List P3} {j : Nat} (hj : j < l.length) (k : Int) (h : l[j].2.1 = k) : eqK (l.take (j + 1)) k = eqK (l.take j) k ++ [l[j]] := by rw [zav hj]; exact zpn _ _ _ h
theorem eqK_no {l : List P3} {j : Nat} (hj : j < l.length) (k : Int) (h : ¬ l[j].2.1 = k) : eqK (l.take (j + 1)) k = eqK (l.take j) k := by rw [zav hj]; exact zni _ _ _ h
theorem zic {s : S4} {l : List P3} (hw : zbj 2199023255552 s) (hs : zdz l) (hl : l.length ≤ 4) (k : Int) (j : Nat) : zbj (2199023255552 + 8388608) (doB (doB s (ltK l k)) (eqK (l.take j) k)) := by
 refine zn9 hw (zk3 hs _) (zk3 (zot hs j) _) ?_ ?_
 ·exact Nat.le_trans (List.length_filter_le _ _) hl
 ·exact Nat.le_trans (List.length_filter_le _ _) (by simp; omega)
theorem zio {s : S4} {p : P3} {k : Int} (h : p.2.1 = k) (hk : zb4 k = true) : do1 s p = zdp s k p.2.2 := by
 unfold do1; rw [h, if_pos hk]
def zeu (w w' : World) (s : S4) (l : List P3) (k : Int) (j : Nat) : Prop :=
 ∃ t0 t1 t2 t3 : Int, doB (doB s (ltK l k)) (eqK (l.take j) k) = (t0, t1, t2, t3) ∧ zbk w' w.heap.size t0 t1 t2 t3 ∧ zbk w' (w.heap.size + 1) 0 0 0 0 ∧ w.heap.size + 2 ≤ w'.heap.size ∧ Z w.heap.size w w'
def zix (w w' : World) (s : S4) (l : List P3) (k : Int) : Prop :=
 ∃ t0 t1 t2 t3 : Int, doB s (ltK l k) = (t0, t1, t2, t3) ∧ zbk w' w.heap.size t0 t1 t2 t3 ∧ zbk w' (w.heap.size + 1) 0 0 0 0 ∧ w.heap.size + 2 ≤ w'.heap.size ∧ Z w.heap.size w w'
theorem zhx {w w' : World} {s : S4} {l : List P3} {k : Int} (h : zix w w' s l k) : zeu w w' s l k 0 := h
theorem zin {w w' : World} {s : S4} {l : List P3} {k : Int} {j : Nat} (h : zeu w w' s l k j) (hj : l.length ≤ j) : zix w w' s l (k + 1) := by
 obtain ⟨t0, t1, t2, t3, e, jj⟩ := h;rw [List.take_of_length_le hj] at e;exact ⟨t0, t1, t2, t3, by rw [← e]; exact (doB_lt_eq s l k).symm, jj⟩
theorem zh0 {w w' w'' : World} {s : S4} {l : List P3} {k : Int} {j : Nat} (h : zeu w w' s l k j) (hj : j < l.length) (hk : ¬ l[j].2.1 = k) (hb : Z w'.heap.size w' w'') : zeu w w'' s l k (j + 1) := by
 obtain ⟨t0, t1, t2, t3, e, hS, hR, hz, hB⟩ := h;refine ⟨t0, t1, t2, t3, by rw [eqK_no hj k hk]; exact e, hS.below hb (by omega), hR.below hb (by omega), Nat.le_trans hz hb.size, hB.trans (hb.mono (by omega))⟩
theorem zoj {w w' : World} {s : S4} {l : List P3} {j : Nat} {t0 t1 t2 t3 n : Int} (hj : j < l.length) (hk : l[j].2.1 = 0) (hn : l[j].2.2 = n) (e : doB (doB s (ltK l 0)) (eqK (l.take j) 0) = (t0, t1, t2, t3))
  (hS : zbk w' w.heap.size t0 t1 t2 t3) (hR : zbk w' (w.heap.size + 1) 0 0 0 0) (hz : w.heap.size + 2 ≤ w'.heap.size) (hB : Z w.heap.size w w') (o : Obj) :
  zeu w ((r w' ⟨w.heap.size, 0, U⟩ (E J (t0 + n))).alloc o).drew s l 0 (j + 1) := by
 refine ⟨t0 + n, t1, t2, t3, ?_, ((hS.put0 _).below (zh _ o) (by simp; omega)).drew, ((hR.far (by omega) _).below (zh _ o) (by simp; omega)).drew, by simp; omega, ((hB.setCell (Nat.le_refl _) _).alloc (by simp; omega) o).drew⟩;rw [zhw hj 0 hk, zhz, e, zio hk (by decide), hn];simp [zdp]
theorem zof {w w' : World} {s : S4} {l : List P3} {j : Nat} {t0 t1 t2 t3 n : Int} (hj : j < l.length) (hk : l[j].2.1 = 1) (hn : l[j].2.2 = n) (e : doB (doB s (ltK l 1)) (eqK (l.take j) 1) = (t0, t1, t2, t3))
  (hS : zbk w' w.heap.size t0 t1 t2 t3) (hR : zbk w' (w.heap.size + 1) 0 0 0 0) (hz : w.heap.size + 2 ≤ w'.heap.size) (hB : Z w.heap.size w w') (o : Obj) :
  zeu w ((r w' ⟨w.heap.size, 1, U⟩ (E J (t1 + n))).alloc o).drew s l 1 (j + 1) := by
 refine ⟨t0, t1 + n, t2, t3, ?_, ((hS.put1 _).below (zh _ o) (by simp; omega)).drew, ((hR.far (by omega) _).below (zh _ o) (by simp; omega)).drew, by simp; omega, ((hB.setCell (Nat.le_refl _) _).alloc (by simp; omega) o).drew⟩;rw [zhw hj 1 hk, zhz, e, zio hk (by decide), hn];simp [zdp]
theorem zod {w w' : World} {s : S4} {l : List P3} {j : Nat} {t0 t1 t2 t3 n : Int} (hj : j < l.length) (hk : l[j].2.1 = 2) (hn : l[j].2.2 = n) (e : doB (doB s (ltK l 2)) (eqK (l.take j) 2) = (t0, t1, t2, t3))
  (hS : zbk w' w.heap.size t0 t1 t2 t3) (hR : zbk w' (w.heap.size + 1) 0 0 0 0) (hz : w.heap.size + 2 ≤ w'.heap.size) (hB : Z w.heap.size w w') (o : Obj) :
  zeu w ((r w' ⟨w.heap.size, 2, U⟩ (E J (t2 + n))).alloc o).drew s l 2 (j + 1) := by
 refine ⟨t0, t1, t2 + n, t3, ?_, ((hS.put2 _).below (zh _ o) (by simp; omega)).drew, ((hR.far (by omega) _).below (zh _ o) (by simp; omega)).drew, by simp; omega, ((hB.setCell (Nat.le_refl _) _).alloc (by simp; omega) o).drew⟩;rw [zhw hj 2 hk, zhz, e, zio hk (by decide), hn];simp [zdp]
theorem zpw {w w' : World} {s : S4} {l : List P3} {j : Nat} {t0 t1 t2 t3 n : Int} (hj : j < l.length) (hk : l[j].2.1 = 3) (hn : l[j].2.2 = n) (e : doB (doB s (ltK l 3)) (eqK (l.take j) 3) = (t0, t1, t2, t3))
  (hS : zbk w' w.heap.size t0 t1 t2 t3) (hR : zbk w' (w.heap.size + 1) 0 0 0 0) (hz : w.heap.size + 2 ≤ w'.heap.size) (hB : Z w.heap.size w w') (o : Obj) :
  zeu w ((r w' ⟨w.heap.size, 3, U⟩ (E J (t3 + n))).alloc o).drew s l 3 (j + 1) := by
 refine ⟨t0, t1, t2, t3 + n, ?_, ((hS.put3 _).below (zh _ o) (by simp; omega)).drew, ((hR.far (by omega) _).below (zh _ o) (by simp; omega)).drew, by simp; omega, ((hB.setCell (Nat.le_refl _) _).alloc (by simp; omega) o).drew⟩;rw [zhw hj 3 hk, zhz, e, zio hk (by decide), hn];simp [zdp]
theorem refDo_any (s0 s1 s2 s3 : Int) (a : Option Addr) (l : List P3) (cap n : Nat) (w : World) (hn : n = l.length) (hl : l.length ≤ 4) (hp : zae w a l) (hs : zdz l) (hky : ∀ p ∈ l, zb4 p.2.1 = true) (hw : zbj 2199023255552 (s0, s1, s2, s3)) :
  Calls Tryz.prog 38 #[.agg #[E J s0, E J s1, E J s2, E J s3], G a n cap] w fun e w' => (∃ t0 t1 t2 t3 : Int, doB (s0, s1, s2, s3) l = (t0, t1, t2, t3) ∧ e = .returned (.agg #[E J t0, E J t1, E J t2, E J t3])) ∧ Z w.heap.size w w' := by
 subst hn;go_enter Tryz.func38, Tryz.ntmps38
 go_wp2;go_loopw [8] (fun i w' => ∃ k : Int, 0 ≤ k ∧ k ≤ 4 ∧ i = E J k ∧ zix w w' (s0, s1, s2, s3) l k) (fun i _ => (4 - intOf i).toNat)
 case atStart => exact ⟨0, by omega, by omega, rfl, s0, s1, s2, s3, by rw [ltK, zpz hky]; rfl, by simp [zbk], by simp [zbk], by simp, zaw _ _ _⟩
 case round =>
  obtain ⟨k, hk0, hk4, rfl, hO⟩ := hrel;have h5 : k = 0 ∨ k = 1 ∨ k = 2 ∨ k = 3 ∨ k = 4 := by omega
  clear hk0 hk4;rcases h5 with rfl | rfl | rfl | rfl | rfl
  ·have HO := zA hO
   clear hO;go_wp2;go_loopw [13] (fun i w' => ∃ j : Nat, j ≤ l.length ∧ i = E J j ∧ zeu w w' (s0, s1, s2, s3) l 0 j) (fun i _ => l.length - (intOf i).toNat)
   case atStart => exact ⟨0, Nat.zero_le _, rfl, zhx HO.out⟩
   case round =>
    obtain ⟨j, hj, rfl, hI⟩ := hrel;clear HO;by_cases hlt : j < l.length
    ·have hwi := zic hw hs hl 0 j
     have hI2 := hI;obtain ⟨t0, t1, t2, t3, e, hS, hR, hz, hB⟩ := hI2;rw [e] at hwi;obtain ⟨⟨a1, a2⟩, ⟨b1, b2⟩, ⟨c1, c2⟩, ⟨d1, d2⟩⟩ := hwi;simp only at a1 a2 b1 b2 c1 c2 d1 d2
     rcases hp with rfl | ⟨b', o, rfl, hb', hc⟩
     ·simp at hlt
     obtain ⟨x0, x1, x2⟩ := hc j hlt;obtain ⟨hn1, hn2⟩ := zhf hs hlt;obtain ⟨hcc, hff⟩ := zc0 hB;clear hc hw hs hky;by_cases hkk : l[j].2.1 = 0
     ·rw [hkk] at x1
      obtain ⟨m, hm⟩ : ∃ m, l[j].2.2 = m := ⟨_, rfl⟩;rw [hm] at x2 hn1 hn2;have HE := zC hkk hm e;have HX := zB hS hR;have hlt3 : w.heap.size < wr.heap.size := by omega
      obtain ⟨⟨y0, y1, y2, y3⟩, ⟨f0, f1, f2, f3⟩⟩ := hS;clear hkk hm e hR hI;go_wp2;go_region
      go_wp2;go_roundw
      case rel => exact ⟨j + 1, by omega, by go_num, zoj hlt HE.out.1 HE.out.2.1 HE.out.2.2 HX.out.1 HX.out.2 hz hB _⟩
      case measure => simp [intOf]; omega
     ·have hk2 : (l[j].2.1 == 0) = false := by simpa using hkk
      have HI := zB hI hkk;clear hkk hI e hS hR;go_wp2;go_roundw
      case rel => exact ⟨j + 1, by omega, by go_num, zh0 HI.out.1 hlt HI.out.2 (zh _ _)⟩
      case measure => simp [intOf]; omega
    ·have HI := zA (zin hI (by omega))
     clear hI hp;go_wp2;go_roundw
     case rel => exact ⟨0 + 1, by omega, by omega, by go_num, HI.out⟩
     case measure => simp [intOf]
  ·have HO := zA hO
   clear hO;go_wp2;go_loopw [13] (fun i w' => ∃ j : Nat, j ≤ l.length ∧ i = E J j ∧ zeu w w' (s0, s1, s2, s3) l 1 j) (fun i _ => l.length - (intOf i).toNat)
   case atStart => exact ⟨0, Nat.zero_le _, rfl, zhx HO.out⟩
   case round =>
    obtain ⟨j, hj, rfl, hI⟩ := hrel;clear HO;by_cases hlt : j < l.length
    ·have hwi := zic hw hs hl 1 j
     have hI2 := hI;obtain ⟨t0, t1, t2, t3, e, hS, hR, hz, hB⟩ := hI2;rw [e] at hwi;obtain ⟨⟨a1, a2⟩, ⟨b1, b2⟩, ⟨c1, c2⟩, ⟨d1, d2⟩⟩ := hwi;simp only at a1 a2 b1 b2 c1 c2 d1 d2
     rcases hp with rfl | ⟨b', o, rfl, hb', hc⟩
     ·simp at hlt
     obtain ⟨x0, x1, x2⟩ := hc j hlt;obtain ⟨hn1, hn2⟩ := zhf hs hlt;obtain ⟨hcc, hff⟩ := zc0 hB;clear hc hw hs hky;by_cases hkk : l[j].2.1 = 1
     ·rw [hkk] at x1
      obtain ⟨m, hm⟩ : ∃ m, l[j].2.2 = m := ⟨_, rfl⟩;rw [hm] at x2 hn1 hn2;have HE := zC hkk hm e;have HX := zB hS hR;have hlt3 : w.heap.size < wr.heap.size := by omega
      obtain ⟨⟨y0, y1, y2, y3⟩, ⟨f0, f1, f2, f3⟩⟩ := hS;clear hkk hm e hR hI;go_wp2;go_region
      go_wp2;go_roundw
      case rel => exact ⟨j + 1, by omega, by go_num, zof hlt HE.out.1 HE.out.2.1 HE.out.2.2 HX.out.1 HX.out.2 hz hB _⟩
      case measure => simp [intOf]; omega
     ·have hk2 : (l[j].2.1 == 1) = false := by simpa using hkk
      have HI := zB hI hkk;clear hkk hI e hS hR;go_wp2;go_roundw
      case rel => exact ⟨j + 1, by omega, by go_num, zh0 HI.out.1 hlt HI.out.2 (zh _ _)⟩
      case measure => simp [intOf]; omega
    ·have HI := zA (zin hI (by omega))
     clear hI hp;go_wp2;go_roundw
     case rel => exact ⟨1 + 1, by omega, by omega, by go_num, HI.out⟩
     case measure => simp [intOf]
  ·have HO := zA hO
   clear hO;go_wp2;go_loopw [13] (fun i w' => ∃ j : Nat, j ≤ l.length ∧ i = E J j ∧ zeu w w' (s0, s1, s2, s3) l 2 j) (fun i _ => l.length - (intOf i).toNat)
   case atStart => exact ⟨0, Nat.zero_le _, rfl, zhx HO.out⟩
   case round =>
    obtain ⟨j, hj, rfl, hI⟩ := hrel;clear HO;by_cases hlt : j < l.length
    ·have hwi := zic hw hs hl 2 j
     have hI2 := hI;obtain ⟨t0, t1, t2, t3, e, hS, hR, hz, hB⟩ := hI2;rw [e] at hwi;obtain ⟨⟨a1, a2⟩, ⟨b1, b2⟩, ⟨c1, c2⟩, ⟨d1, d2⟩⟩ := hwi;simp only at a1 a2 b1 b2 c1 c2 d1 d2
     rcases hp with rfl | ⟨b', o, rfl, hb', hc⟩
     ·simp at hlt
     obtain ⟨x0, x1, x2⟩ := hc j hlt;obtain ⟨hn1, hn2⟩ := zhf hs hlt;obtain ⟨hcc, hff⟩ := zc0 hB;clear hc hw hs hky;by_cases hkk : l[j].2.1 = 2
     ·rw [hkk] at x1
      obtain ⟨m, hm⟩ : ∃ m, l[j].2.2 = m := ⟨_, rfl⟩;rw [hm] at x2 hn1 hn2;have HE := zC hkk hm e;have HX := zB hS hR;have hlt3 : w.heap.size < wr.heap.size := by omega
      obtain ⟨⟨y0, y1, y2, y3⟩, ⟨f0, f1, f2, f3⟩⟩ := hS;clear hkk hm e hR hI;go_wp2;go_region
      go_wp2;go_roundw
      case rel => exact ⟨j + 1, by omega, by go_num, zod hlt HE.out.1 HE.out.2.1 HE.out.2.2 HX.out.1 HX.out.2 hz hB _⟩
      case measure => simp [intOf]; omega
     ·have hk2 : (l[j].2.1 == 2) = false := by simpa using hkk
      have HI := zB hI hkk;clear hkk hI e hS hR;go_wp2;go_roundw
      case rel => exact ⟨j + 1, by omega, by go_num, zh0 HI.out.1 hlt HI.out.2 (zh _ _)⟩
      case measure => simp [intOf]; omega
    ·have HI := zA (zin hI (by omega))
     clear hI hp;go_wp2;go_roundw
     case rel => exact ⟨2 + 1, by omega, by omega, by go_num, HI.out⟩
     case measure => simp [intOf]
  ·have HO := zA hO
   clear hO;go_wp2;go_loopw [13] (fun i w' => ∃ j : Nat, j ≤ l.length ∧ i = E J j ∧ zeu w w' (s0, s1, s2, s3) l 3 j) (fun i _ => l.length - (intOf i).toNat)
   case atStart => exact ⟨0, Nat.zero_le _, rfl, zhx HO.out⟩
   case round =>
    obtain ⟨j, hj, rfl, hI⟩ := hrel;clear HO;by_cases hlt : j < l.length
    ·have hwi := zic hw hs hl 3 j
     have hI2 := hI;obtain ⟨t0, t1, t2, t3, e, hS, hR, hz, hB⟩ := hI2;rw [e] at hwi;obtain ⟨⟨a1, a2⟩, ⟨b1, b2⟩, ⟨c1, c2⟩, ⟨d1, d2⟩⟩ := hwi;simp only at a1 a2 b1 b2 c1 c2 d1 d2
     rcases hp with rfl | ⟨b', o, rfl, hb', hc⟩
     ·simp at hlt
     obtain ⟨x0, x1, x2⟩ := hc j hlt;obtain ⟨hn1, hn2⟩ := zhf hs hlt;obtain ⟨hcc, hff⟩ := zc0 hB;clear hc hw hs hky;by_cases hkk : l[j].2.1 = 3
     ·rw [hkk] at x1
      obtain ⟨m, hm⟩ : ∃ m, l[j].2.2 = m := ⟨_, rfl⟩;rw [hm] at x2 hn1 hn2;have HE := zC hkk hm e;have HX := zB hS hR;have hlt3 : w.heap.size < wr.heap.size := by omega
      obtain ⟨⟨y0, y1, y2, y3⟩, ⟨f0, f1, f2, f3⟩⟩ := hS;clear hkk hm e hR hI;go_wp2;go_region
      go_wp2;go_roundw
      case rel => exact ⟨j + 1, by omega, by go_num, zpw hlt HE.out.1 HE.out.2.1 HE.out.2.2 HX.out.1 HX.out.2 hz hB _⟩
      case measure => simp [intOf]; omega
     ·have hk2 : (l[j].2.1 == 3) = false := by simpa using hkk
      have HI := zB hI hkk;clear hkk hI e hS hR;go_wp2;go_roundw
      case rel => exact ⟨j + 1, by omega, by go_num, zh0 HI.out.1 hlt HI.out.2 (zh _ _)⟩
      case measure => simp [intOf]; omega
    ·have HI := zA (zin hI (by omega))
     clear hI hp;go_wp2;go_roundw
     case rel => exact ⟨3 + 1, by omega, by omega, by go_num, HI.out⟩
     case measure => simp [intOf]
  ·obtain ⟨t0, t1, t2, t3, e, hS, hR, hz, hB⟩ := hO
   have HE : Q (doB (s0, s1, s2, s3) l = (t0, t1, t2, t3)) := by show _ = _; rw [← e, ltK, znm hky]
   clear e hp hky hs hw;obtain ⟨⟨y0, y1, y2, y3⟩, ⟨f0, f1, f2, f3⟩⟩ := hS;obtain ⟨⟨x0, x1, x2, x3⟩, ⟨g0, g1, g2, g3⟩⟩ := hR;go_wp2;refine bodyPost_ret (v := .agg #[E J t0, E J t1, E J t2, E J t3]) ?_ rfl ⟨⟨t0, t1, t2, t3, HE.out, rfl⟩, (((hB.setCell (by simp) _).setCell (by simp) _).setCell (by simp) _).setCell (by simp) _⟩;simp [results, Tryz.results38, go_sem, *]
end Go.Proofs.YtpcnlifmkhagkaaGreat
