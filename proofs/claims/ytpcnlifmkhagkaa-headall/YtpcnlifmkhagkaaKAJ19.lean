import Derived.Test.YtpcnlifmkhagkaaKAJ09
set_option maxRecDepth 20000
set_option maxHeartbeats 20000000
namespace Go.Proofs.Ytpcnlifmkhagkaa
open Go.RowKit
open _root_.List renaming mem_singleton → kaa
def insI (x : Int) : List Int → List Int
 | [] => [x]
 | y :: t => if x ≤ y then x :: y :: t else y :: insI x t
def zfk : List Int → List Int
 | [] => []
 | x :: t => insI x (zfk t)
theorem zjb (x : Int) : ∀ l : List Int, (insI x l).Perm (x :: l)
 | [] => List.Perm.refl _
 | y :: t => by
  unfold insI
  split
  ·exact List.Perm.refl _
  ·exact ((zjb x t).cons y).trans (List.Perm.swap x y t)
theorem zmz : ∀ l : List Int, (zfk l).Perm l
 | [] => List.Perm.refl _
 | x :: t => (zjb x _).trans ((zmz t).cons x)
theorem zlf (x : Int) : ∀ l : List Int, l.Pairwise (· ≤ ·) → (insI x l).Pairwise (· ≤ ·)
 | [], _ => List.pairwise_singleton _ _
 | y :: t, h => by
  cases h with
  | cons hy ht =>
   unfold insI
   split
   ·rename_i hxy
    refine List.Pairwise.cons (fun z hz => ?_) (List.Pairwise.cons hy ht);rcases List.mem_cons.1 hz with rfl | hz
    ·exact hxy
    ·exact Int.le_trans hxy (hy z hz)
   ·rename_i hxy
    refine List.Pairwise.cons (fun z hz => ?_) (zlf x t ht);rcases List.mem_cons.1 ((zjb x t).mem_iff.1 hz) with rfl | hz
    ·omega
    ·exact hy z hz
theorem zmj : ∀ l : List Int, (zfk l).Pairwise (· ≤ ·)
 | [] => List.Pairwise.nil
 | x :: t => zlf x _ (zmj t)
theorem zm6 (l : List Int) : (l.mergeSort fun x y => decide (x ≤ y)) = zfk l := by
 refine List.Perm.eq_of_pairwise (le := fun a b : Int => a ≤ b) (fun a b _ _ h1 h2 => Int.le_antisymm h1 h2) ?_ (zmj l) ((List.mergeSort_perm _ _).trans (zmz l).symm);have := List.pairwise_mergeSort (le := fun x y : Int => decide (x ≤ y)) (fun a b c h1 h2 => by simp at *; omega) (fun a b => by simp; omega) l;exact this.imp (fun h => by simpa using h)
theorem fin1 : ∀ a ∈ ([0, 1, 2] : List Int), Lib.compact (zfk [a]) = ([0, 1, 2] : List Int).filter fun n => decide (n ∈ [a]) := by decide +kernel
theorem fin2 : ∀ a ∈ ([0, 1, 2] : List Int), ∀ b ∈ ([0, 1, 2] : List Int), Lib.compact (zfk [a, b]) = ([0, 1, 2] : List Int).filter fun n => decide (n ∈ [a, b]) := by decide +kernel
theorem fin3 : ∀ a ∈ ([0, 1, 2] : List Int), ∀ b ∈ ([0, 1, 2] : List Int), ∀ c ∈ ([0, 1, 2] : List Int), Lib.compact (zfk [a, b, c]) = ([0, 1, 2] : List Int).filter fun n => decide (n ∈ [a, b, c]) := by decide +kernel
theorem fin4 : ∀ a ∈ ([0, 1, 2] : List Int), ∀ b ∈ ([0, 1, 2] : List Int), ∀ c ∈ ([0, 1, 2] : List Int), ∀ d ∈ ([0, 1, 2] : List Int), Lib.compact (zfk [a, b, c, d]) = ([0, 1, 2] : List Int).filter fun n => decide (n ∈ [a, b, c, d]) := by decide +kernel
theorem fin_all (ms : List Int) (h1 : 1 ≤ ms.length) (h4 : ms.length ≤ 4) (h : ∀ m ∈ ms, m ∈ ([0, 1, 2] : List Int)) : Lib.compact (zfk ms) = ([0, 1, 2] : List Int).filter fun n => decide (n ∈ ms) := by
 match ms, h1, h4, h with
 | [a], _, _, h => exact fin1 a (h a (by simp))
 | [a, b], _, _, h => exact fin2 a (h a (by simp)) b (h b (by simp))
 | [a, b, c], _, _, h => exact fin3 a (h a (by simp)) b (h b (by simp)) c (h c (by simp))
 | [a, b, c, d], _, _, h => exact fin4 a (h a (by simp)) b (h b (by simp)) c (h c (by simp)) d (h d (by simp))
theorem ofB_pos (l : List P3) (n : Int) : 0 < (ofB l n).length ↔ n ∈ l.map (·.1) := by
 rw [List.length_pos_iff_exists_mem];simp only [ofB, List.mem_filter, decide_eq_true_eq, List.mem_map]
theorem zm4 {l : List P3} (h1 : 1 ≤ l.length) (h4 : l.length ≤ 4) (h : ∀ p ∈ l, inB p 3 = true) : zht l = zdu l 3 := by
 unfold zht sortB zdu
 rw [zm6, fin_all (l.map (·.1)) (by simpa using h1) (by simpa using h4) ?_]
 ·refine List.filter_congr (fun n hn => ?_)
  have : n < 3 := by simp at hn; omega
  simp only [this, ofB_pos, true_and]
 ·intro m hm
  obtain ⟨p, hp, rfl⟩ := List.mem_map.1 hm;have := h p hp;simp only [inB, decide_eq_true_eq] at this
  simp; omega
def zd0 (W : WW) (k d : Int) : Prop := zad (ze (W.at k)).2.1 d = true
def dnW (W : WW) (k d : Int) : Prop := inI (ze (W.at k)).2.2 d = true
def undW (W : WW) (d : Int) : Prop := ∃ o ∈ W.hd.opn, o.1 = d ∧ o.2.2.1 = false
def zds (W : WW) (d : Int) : Prop := ∃ o ∈ W.hd.opn, o.1 = d
def zbf (W : WW) (d : Int) : Prop := ∃ x ∈ zab W.hd.log, x.1 = d
def za0 (W : WW) : Int := 64 * W.hd.boot + W.hd.next
structure zbq (n : Nat) (P : Int → List P3) (W : WW) (m : Q4) : Prop where
 right : zbd m.1 m.2.1 m.2.2.1 m.2.2.2 = 0
 here : m.2.2.1 < n
 old : m.2.1 < za0 W
 prep : m.1 = 1 → m.2.2.2 = ofB (P m.2.1) m.2.2.1 ∧ m.2.2.1 ∈ zp (P m.2.1)
 yes : m.1 = 2 → undW W m.2.1 → zd0 W m.2.2.1 m.2.1
 com : m.1 = 4 → zbf W m.2.1 ∧ m.2.2.1 ∈ zp (P m.2.1)
 abo : m.1 = 5 → ¬ zds W m.2.1 ∧ (zbf W m.2.1 → dnW W m.2.2.1 m.2.1)
 ack : m.1 = 6 → dnW W m.2.2.1 m.2.1
 ask : m.1 = 7 → m.2.2.1 ∈ zp (P m.2.1)
structure zdw (P P' : Int → List P3) (W W' : WW) : Prop where
 num : za0 W ≤ za0 W'
 same : ∀ d, d < za0 W → P' d = P d
 dcd : ∀ d, zbf W d → zbf W' d
 dcd2 : ∀ d, d < za0 W → zbf W' d → ¬ zds W d → zbf W d
 dn : ∀ k d, dnW W k d → dnW W' k d
 und : ∀ d, d < za0 W → undW W' d → undW W d
 opn : ∀ d, d < za0 W → zds W' d → zds W d
 rdyU : ∀ k d, d < za0 W → undW W' d → zd0 W k d → zd0 W' k d
 rdyD : ∀ k d, zbf W d → zd0 W k d → zd0 W' k d ∨ dnW W' k d
theorem zbq.mono {n : Nat} {P P' : Int → List P3} {W W' : WW} {m : Q4} (h : zbq n P W m) (M : zdw P P' W W') : zbq n P' W' m := by
 have hs := M.same _ h.old;refine ⟨h.right, h.here, Int.lt_of_lt_of_le h.old M.num, ?_, ?_, ?_, ?_, ?_, ?_⟩
 ·intro k; rw [hs]; exact h.prep k
 ·intro k hu; exact M.rdyU _ _ h.old hu (h.yes k (M.und _ h.old hu))
 ·intro k; rw [hs]; exact ⟨M.dcd _ (h.com k).1, (h.com k).2⟩
 ·intro k
  obtain ⟨h1, h2⟩ := h.abo k;exact ⟨fun ho => h1 (M.opn _ h.old ho), fun hd => M.dn _ _ (h2 (M.dcd2 _ h.old hd h1))⟩
 ·intro k; exact M.dn _ _ (h.ack k)
 ·intro k; rw [hs]; exact h.ask k
structure zgr (n : Nat) (P : Int → List P3) (W : WW) (o : O4) : Prop where
 pos : 0 ≤ o.1
 old : o.1 < za0 W
 parts : o.2.1 = P o.1
 right : zay o.2.1 n = 0
 nd : o.2.2.2.Nodup
 sub : ∀ k ∈ o.2.2.2, k ∈ zp o.2.1
 less : o.2.2.2.length < (zp o.2.1).length
 dec : o.2.2.1 = true ↔ zbf W o.1
 rdy : o.2.2.1 = false → ∀ k ∈ o.2.2.2, zd0 W k o.1
 dn : o.2.2.1 = true → ∀ k ∈ o.2.2.2, dnW W k o.1
structure HouOK (P : Int → List P3) (W : WW) (k : Int) : Prop where
 good : zdv (W.at k)
 old : ∀ x ∈ (ze (W.at k)).2.1, x.1 < za0 W
 parts : ∀ x ∈ (ze (W.at k)).2.1, x.2 = ofB (P x.1) k ∧ k ∈ zp (P x.1)
 nd : (ze (W.at k)).2.2.Nodup
 done : ∀ d ∈ (ze (W.at k)).2.2, zbf W d ∧ k ∈ zp (P d)
 apart : ∀ d ∈ (ze (W.at k)).2.2, zad (ze (W.at k)).2.1 d = false
 sums : (ze (W.at k)).1 = (ze (W.at k)).2.2.foldl (fun s d => doB s (ofB (P d) k)) (0, 0, 0, 0)
structure Inv (n : Nat) (P : Int → List P3) (W : WW) : Prop where
 n3 : n ≤ 3
 len : W.hs.length = n
 boot1 : 1 ≤ W.hd.boot
 boot20 : W.hd.boot ≤ 20
 next0 : 0 ≤ W.hd.next
 next64 : W.hd.next ≤ 64
 bootL : W.hd.boot = (zac W.hd.log).1
 small : W.net.length ≤ 24
 few : W.hd.opn.length ≤ 12
 apart : (W.hd.opn.map (·.1)).Nodup
 opn : ∀ o ∈ W.hd.opn, zgr n P W o
 dec : ∀ x ∈ zab W.hd.log, 0 ≤ x.1 ∧ x.1 < za0 W ∧ x.2 = P x.1 ∧ zay x.2 n = 0
 decNd : ((zab W.hd.log).map (·.1)).Nodup
 dr : ∀ x ∈ zab W.hd.log, ∀ k ∈ zp x.2, zd0 W k x.1 ∨ dnW W k x.1
 en : ∀ x ∈ zab W.hd.log, ¬ zds W x.1 → ∀ k ∈ zp x.2, dnW W k x.1
 hl : ∀ d, (∃ x ∈ (zac W.hd.log).2, x.1 = d) ↔ ∃ o ∈ W.hd.opn, o.1 = d ∧ o.2.2.1 = true
 hlNd : ((zac W.hd.log).2.map (·.1)).Nodup
 hlIn : ∀ x ∈ (zac W.hd.log).2, x ∈ zab W.hd.log
 net : ∀ m ∈ W.net, zbq n P W m
 hou : ∀ k : Int, 0 ≤ k → k < n → HouOK P W k
theorem zgc {n : Nat} {P : Int → List P3} {W : WW} (I : Inv n P W) : za0 W ≤ 1344 := by
 have h1 := I.boot20;have h2 := I.next64;unfold za0
 omega
theorem und_not {n : Nat} {P : Int → List P3} {W : WW} (I : Inv n P W) {d : Int} (h : undW W d) : ¬ zbf W d := by
 obtain ⟨o, ho, rfl, hd⟩ := h;intro hc;have := (I.opn o ho).dec.2 hc;rw [hd] at this;cases this
theorem zkg {α : Type} : ∀ {l : List α} {f : α → Int}, (l.map f).Nodup → ∀ x ∈ l, ∀ y ∈ l, f x = f y → x = y
 | [], _, _, x, hx => by cases hx
 | a :: t, f, h, x, hx => by
  intro y hy e;rw [List.map_cons, List.nodup_cons] at h;rcases List.mem_cons.1 hx with ex | hx
  ·rcases List.mem_cons.1 hy with ey | hy
   ·rw [ex, ey]
   ·exact absurd (by rw [← ex, e]; exact List.mem_map.2 ⟨y, hy, rfl⟩) h.1
  ·rcases List.mem_cons.1 hy with ey | hy
   ·exact absurd (by rw [← ey, ← e]; exact List.mem_map.2 ⟨x, hx, rfl⟩) h.1
   ·exact zkg h.2 x hx y hy e
theorem Inv.netOf {n : Nat} {P : Int → List P3} {W : WW} (I : Inv n P W) {net : List Q4} (hl : net.length ≤ 24) (hm : ∀ m ∈ net, zbq n P W m) : Inv n P { W with net := net } :=
 ⟨I.n3, I.len, I.boot1, I.boot20, I.next0, I.next64, I.bootL, hl, I.few, I.apart, fun o ho => ⟨(I.opn o ho).pos, (I.opn o ho).old, (I.opn o ho).parts, (I.opn o ho).right, (I.opn o ho).nd, (I.opn o ho).sub, (I.opn o ho).less, (I.opn o ho).dec, (I.opn o ho).rdy, (I.opn o ho).dn⟩, I.dec, I.decNd, I.dr, I.en, I.hl, I.hlNd, I.hlIn,
  fun m hm' => ⟨(hm m hm').right, (hm m hm').here, (hm m hm').old, (hm m hm').prep, (hm m hm').yes, (hm m hm').com, (hm m hm').abo, (hm m hm').ack, (hm m hm').ask⟩,
  fun k h0 hk => ⟨(I.hou k h0 hk).good, (I.hou k h0 hk).old, (I.hou k h0 hk).parts, (I.hou k h0 hk).nd, (I.hou k h0 hk).done, (I.hou k h0 hk).apart, (I.hou k h0 hk).sums⟩⟩
theorem sendB_len {net ms : List Q4} (h : net.length ≤ 24) : (zbu net ms).length ≤ 24 := by
 unfold zbu
 rw [List.length_append, List.length_take];omega
theorem mem_sendB {net ms : List Q4} {m : Q4} (h : m ∈ zbu net ms) : m ∈ net ∨ m ∈ ms := by
 unfold zbu at h
 rcases List.mem_append.1 h with h | h
 ·exact Or.inl h
 ·exact Or.inr (List.mem_of_mem_take h)
theorem Inv.send {n : Nat} {P : Int → List P3} {W : WW} (I : Inv n P W) {ms : List Q4} (hm : ∀ m ∈ ms, zbq n P W m) : Inv n P { W with net := zbu W.net ms } :=
 I.netOf (sendB_len I.small) (fun m h => (mem_sendB h).elim (I.net m) (hm m))
def WW.put (W : WW) (k : Int) (L : List R3) : WW := { W with hs := W.hs.set k.toNat L }
theorem at_put {W : WW} {k : Int} (h0 : 0 ≤ k) (hk : k < W.hs.length) (L : List R3) (j : Int) (hj : 0 ≤ j) : (W.put k L).at j = if j = k then L else W.at j := by
 unfold WW.put WW.at
 simp only [List.getD_eq_getElem?_getD]
 by_cases e : j = k
 ·subst e
  rw [if_pos rfl, List.getElem?_set_self (by omega)];rfl
 ·rw [if_neg e, List.getElem?_set_ne (by omega)]
theorem zlc (W : WW) (k : Int) (hk : k.toNat < W.hs.length) : W.put k (W.at k) = W := by
 unfold WW.put WW.at
 have e : W.hs.set k.toNat (W.hs.getD k.toNat []) = W.hs := by
  rw [List.getD_eq_getElem?_getD, List.getElem?_eq_getElem hk];simp
 rw [e]
theorem Inv.put {n : Nat} {P : Int → List P3} {W : WW} (I : Inv n P W) {k : Int} (h0 : 0 ≤ k) (hk : k < n) {L : List R3} (M : zdw P P W (W.put k L)) (H : HouOK P (W.put k L) k) : Inv n P (W.put k L) := by
 have jw : (W.put k L).hs.length = n := by show (W.hs.set _ _).length = n; rw [List.length_set]; exact I.len
 have hkl : k < (W.hs.length : Int) := by rw [I.len]; exact hk
 refine ⟨I.n3, jw, I.boot1, I.boot20, I.next0, I.next64, I.bootL, I.small, I.few, I.apart, ?_, I.dec, I.decNd, ?_, ?_, I.hl, I.hlNd, I.hlIn, fun m hm => (I.net m hm).mono M, ?_⟩
 ·intro o ho
  have O := I.opn o ho;exact ⟨O.pos, O.old, O.parts, O.right, O.nd, O.sub, O.less, O.dec, fun hd j hj => M.rdyU _ _ O.old ⟨o, ho, rfl, hd⟩ (O.rdy hd j hj), fun hd j hj => M.dn _ _ (O.dn hd j hj)⟩
 ·intro x hx j hj
  rcases I.dr x hx j hj with h | h
  ·exact M.rdyD _ _ ⟨x, hx, rfl⟩ h
  ·exact Or.inr (M.dn _ _ h)
 ·intro x hx hn j hj
  exact M.dn _ _ (I.en x hx hn j hj)
 ·intro j hj0 hjn
  by_cases e : j = k
  ·subst e; exact H
  ·have zY := I.hou j hj0 hjn
   have ea : (W.put k L).at j = W.at j := by rw [at_put h0 hkl L j hj0, if_neg e]
   exact ⟨by rw [ea]; exact zY.good, by rw [ea]; exact zY.old, by rw [ea]; exact zY.parts, by rw [ea]; exact zY.nd, by rw [ea]; exact zY.done, by rw [ea]; exact zY.apart, by rw [ea]; exact zY.sums⟩
theorem zjx {l : List P3} {k : Int} : k ∈ zp l ↔ (k = 0 ∨ k = 1 ∨ k = 2) ∧ 0 < (ofB l k).length := by
 unfold zp
 rw [List.mem_filter];simp
theorem zg2 {W : WW} {k : Int} (hk : k.toNat < W.hs.length) (L : List R3) (j : Int) : (W.put k L).at j = if j.toNat = k.toNat then L else W.at j := by
 unfold WW.put WW.at
 simp only [List.getD_eq_getElem?_getD]
 by_cases e : j.toNat = k.toNat
 ·rw [if_pos e, e, List.getElem?_set_self hk]
  rfl
 ·rw [if_neg e, List.getElem?_set_ne (fun h => e h.symm)]
theorem at_eq {W : WW} {j k : Int} (h : j.toNat = k.toNat) : W.at j = W.at k := by unfold WW.at; rw [h]
theorem zjy {P : Int → List P3} {W : WW} {k : Int} {L : List R3} (hk : k.toNat < W.hs.length) (hd : ∀ e, inI (ze (W.at k)).2.2 e = true → inI (ze L).2.2 e = true)
  (hu : ∀ e, undW W e → zad (ze (W.at k)).2.1 e = true → zad (ze L).2.1 e = true) (hc : ∀ e, zbf W e → zad (ze (W.at k)).2.1 e = true → zad (ze L).2.1 e = true ∨ inI (ze L).2.2 e = true) : zdw P P W (W.put k L) := by
 refine ⟨Int.le_refl _, fun _ _ => rfl, fun _ h => h, fun _ _ h _ => h, ?_, fun _ _ h => h, fun _ _ h => h, ?_, ?_⟩
 ·intro j e h
  unfold dnW at h ⊢
  rw [zg2 hk];split
  ·rename_i hj; rw [at_eq hj] at h; exact hd e h
  ·exact h
 ·intro j e _ hx h
  unfold zd0 at h ⊢
  rw [zg2 hk];split
  ·rename_i hj; rw [at_eq hj] at h; exact hu e hx h
  ·exact h
 ·intro j e hx h
  unfold zd0 at h ⊢
  unfold dnW
  rw [zg2 hk];split
  ·rename_i hj; rw [at_eq hj] at h; exact hc e hx h
  ·exact Or.inl h
theorem zci {l : List Int} {d : Int} : inI l d = true ↔ d ∈ l := by
 unfold inI
 rw [List.any_eq_true];constructor
 ·rintro ⟨x, hx, e⟩; rw [← of_decide_eq_true e]; exact hx
 ·intro h; exact ⟨d, h, by simp⟩
theorem hasD_mem {D : List D2} {d : Int} : zad D d = true ↔ ∃ x ∈ D, x.1 = d := by
 unfold zad
 rw [List.any_eq_true];simp only [decide_eq_true_eq]
theorem firstP_in {D : List D2} {d : Int} (h : zad D d = true) : (d, zcg D d) ∈ D := by
 obtain ⟨x, hx, e, hp⟩ := zi8 h;rw [hp, ← e];exact hx
theorem Inv.hear {n : Nat} {P : Int → List P3} {W : WW} (I : Inv n P W) {m : Q4} (hm : zbq n P W m) (hkd : m.1 = 1 ∨ m.1 = 4 ∨ m.1 = 5) :
  Inv n P (W.put m.2.2.1 (zr (W.at m.2.2.1) m.1 m.2.1 m.2.2.2)) ∧ ∀ q ∈ zaw (W.at m.2.2.1) m.2.2.1 m.1 m.2.1 m.2.2.2, zbq n P (W.put m.2.2.1 (zr (W.at m.2.2.1) m.1 m.2.1 m.2.2.2)) q := by
 obtain ⟨kd, d, k, l⟩ := m;simp only at hkd ⊢
 have hr := hm.right;have hold := hm.old;have hhere := hm.here;have hprep := hm.prep;have hcom := hm.com;have habo := hm.abo;simp only at hr hold hhere hprep hcom habo
 obtain ⟨hd0, hd1, hk1, hk7, hl0, hl1⟩ := zhw hr
 have hk0 : 0 ≤ k := by
  unfold zbd at hr
  split at hr
  ·cases hr
  ·split at hr
   ·cases hr
   ·omega
 have hk2 : k ≤ 2 := by have := I.n3; omega
 have hkl : k.toNat < W.hs.length := by rw [I.len]; omega
 have zY := I.hou k hk0 hhere;have hgood := zY.good.hear hr;have qj : ∀ L, (W.put k L).at k = L := fun L => by rw [zg2 hkl, if_pos rfl]
 rcases zj5 (ze (W.at k)) kd d l with h | ⟨rfl, hv, hn, h⟩ | ⟨rfl, hn, h⟩ | ⟨rfl, hn, h⟩
 ·
  rw [zfb h, zlc W k hkl];refine ⟨I, fun q hq => ?_⟩;unfold zaw at hq
  obtain ⟨s, hs, rfl⟩ := List.mem_map.1 hq;unfold zdf at hs
  split at hs
  ·rename_i hk
   subst hk;split at hs
   ·cases hs
   ·split at hs
    ·rename_i hv
     simp at hs
     subst hs
     have hrd : zad (ze (W.at k)).2.1 d = true := by
      cases hc : zad (ze (W.at k)).2.1 d
      ·unfold za1 at h
       rw [if_pos rfl, if_pos ⟨hv, hc⟩] at h;cases h
      ·rfl
     exact ⟨by unfold zbd; simp; omega, hhere, hold, fun h => absurd h (by simp), fun _ _ => hrd, fun h => absurd h (by simp), fun h => absurd h (by simp), fun h => absurd h (by simp), fun h => absurd h (by simp)⟩
    ·simp at hs
     subst hs;exact ⟨by unfold zbd; simp; omega, hhere, hold, fun h => absurd h (by simp), fun h => absurd h (by simp), fun h => absurd h (by simp), fun h => absurd h (by simp), fun h => absurd h (by simp), fun h => absurd h (by simp)⟩
  ·split at hs
   ·rename_i hk
    subst hk;rw [zfb h] at hs;split at hs
    ·rename_i hi
     simp at hs
     subst hs;exact ⟨by unfold zbd; simp; omega, hhere, hold, fun h => absurd h (by simp), fun h => absurd h (by simp), fun h => absurd h (by simp), fun h => absurd h (by simp), fun _ => hi, fun h => absurd h (by simp)⟩
    ·cases hs
   ·cases hs
 ·
  have hM : zaw (W.at k) k 1 d l = [(2, d, k, [])] := by
   unfold zaw zdf
   rw [if_pos rfl, hv, if_neg (by decide), if_pos rfl];rfl
  rw [hM];have hL := zd6 h;rw [hL] at hgood ⊢
  have hB : ze (W.at k ++ [(1, d, l)]) = ((ze (W.at k)).1, (ze (W.at k)).2.1 ++ [(d, l)], (ze (W.at k)).2.2) := by rw [zey, hstep1 hn]
  have hnd := (zjj hv).1
  have M : zdw P P W (W.put k (W.at k ++ [(1, d, l)])) := by
   refine zjy hkl ?_ ?_ ?_
   ·intro e he; rw [hB]; exact he
   ·intro e _ he; rw [hB]; show zad (_ ++ [(d, l)]) e = true; rw [zg5, he]; rfl
   ·intro e _ he; left; rw [hB]; show zad (_ ++ [(d, l)]) e = true; rw [zg5, he]; rfl
  have H : HouOK P (W.put k (W.at k ++ [(1, d, l)])) k := by
   refine ⟨by rw [qj]; exact hgood, ?_, ?_, ?_, ?_, ?_, ?_⟩
   ·rw [qj, hB]
    intro x hx;rcases List.mem_append.1 hx with hx | hx
    ·exact zY.old x hx
    ·rw [kaa.1 hx]; exact hold
   ·rw [qj, hB]
    intro x hx;rcases List.mem_append.1 hx with hx | hx
    ·exact zY.parts x hx
    ·rw [kaa.1 hx]; exact hprep rfl
   ·rw [qj, hB]; exact zY.nd
   ·rw [qj, hB]; exact zY.done
   ·rw [qj, hB]
    intro e he;show zad (_ ++ [(d, l)]) e = false
    rw [zg5, zY.apart e he, Bool.false_or];refine decide_eq_false (fun e' => ?_);subst e';rw [zci.2 he] at hnd;cases hnd
   ·rw [qj, hB]; exact zY.sums
  refine ⟨I.put hk0 hhere M H, fun q hq => ?_⟩;rw [kaa.1 hq];exact ⟨by unfold zbd; simp; omega, hhere, hold, fun h => absurd h (by simp), fun _ _ => by unfold zd0; rw [qj, hB]; show zad (_ ++ [(d, l)]) d = true; rw [zg5]; simp, fun h => absurd h (by simp), fun h => absurd h (by simp), fun h => absurd h (by simp), fun h => absurd h (by simp)⟩
 ·
  have hL := zd6 h;have hB : ze (W.at k ++ [(2, d, [])]) = (doB (ze (W.at k)).1 (zcg (ze (W.at k)).2.1 d), zao (ze (W.at k)).2.1 d, (ze (W.at k)).2.2 ++ [d]) := by rw [zey, hstep2 hn]
  have hin : inI (ze (W.at k ++ [(2, d, [])])).2.2 d = true := by rw [hB]; show inI (_ ++ [d]) d = true; rw [zhh]; simp
  have hM : zaw (W.at k) k 4 d l = [(6, d, k, [])] := by
   unfold zaw zdf
   rw [if_neg (by decide), if_pos rfl, hL, if_pos hin];rfl
  rw [hM];rw [hL] at hgood ⊢
  obtain ⟨hc1, hc2⟩ := hcom rfl;have hfp := zY.parts _ (firstP_in hn);simp only at hfp
  have M : zdw P P W (W.put k (W.at k ++ [(2, d, [])])) := by
   refine zjy hkl ?_ ?_ ?_
   ·intro e he; rw [hB]; show inI (_ ++ [d]) e = true; rw [zhh, he]; rfl
   ·intro e hu he
    rw [hB];show zad (zao _ d) e = true
    rw [zgw _ (fun e' => by subst e'; exact und_not I hu hc1)];exact he
   ·intro e _ he
    rw [hB];by_cases e' : d = e
    ·right; show inI (_ ++ [d]) e = true; rw [zhh]; simp [e']
    ·left; show zad (zao _ d) e = true; rw [zgw _ e']; exact he
  have hnot : d ∉ (ze (W.at k)).2.2 := fun hd => by
   have := zY.apart d hd;rw [hn] at this;cases this
  have H : HouOK P (W.put k (W.at k ++ [(2, d, [])])) k := by
   refine ⟨by rw [qj]; exact hgood, ?_, ?_, ?_, ?_, ?_, ?_⟩
   ·rw [qj, hB]; intro x hx; exact zY.old x (zcy hx).1
   ·rw [qj, hB]; intro x hx; exact zY.parts x (zcy hx).1
   ·rw [qj, hB]
    show ((ze (W.at k)).2.2 ++ [d]).Nodup
    rw [List.nodup_append];refine ⟨zY.nd, by simp, ?_⟩;intro a ha b hb e;rw [kaa.1 hb] at e;exact hnot (e ▸ ha)
   ·rw [qj, hB]
    intro e he;rcases List.mem_append.1 he with he | he
    ·exact zY.done e he
    ·rw [kaa.1 he]; exact ⟨hc1, hc2⟩
   ·rw [qj, hB]
    intro e he;show zad (zao _ d) e = false
    rcases List.mem_append.1 he with he | he
    ·have hne : d ≠ e := fun e' => hnot (e' ▸ he)
     rw [zgw _ hne]; exact zY.apart e he
    ·rw [kaa.1 he]; exact zmi _ _
   ·rw [qj, hB]
    show doB (ze (W.at k)).1 (zcg (ze (W.at k)).2.1 d) = ((ze (W.at k)).2.2 ++ [d]).foldl _ _
    rw [List.foldl_append, ← zY.sums, hfp.1];rfl
  refine ⟨I.put hk0 hhere M H, fun q hq => ?_⟩;rw [kaa.1 hq];exact ⟨by unfold zbd; simp; omega, hhere, hold, fun h => absurd h (by simp), fun h => absurd h (by simp), fun h => absurd h (by simp), fun h => absurd h (by simp), fun _ => by unfold dnW; rw [qj]; exact hin, fun h => absurd h (by simp)⟩
 ·
  have hL := zd6 h;have hB : ze (W.at k ++ [(3, d, [])]) = ((ze (W.at k)).1, zao (ze (W.at k)).2.1 d, (ze (W.at k)).2.2) := by rw [zey, hstep3]
  have hM : zaw (W.at k) k 5 d l = [] := by
   unfold zaw zdf
   rw [if_neg (by decide), if_neg (by decide)];rfl
  rw [hM];rw [hL] at hgood ⊢
  obtain ⟨ha1, ha2⟩ := habo rfl
  have hnd : ¬ zbf W d := fun hc => by
   have h1 := ha2 hc;have := zY.apart d (zci.1 h1);rw [hn] at this;cases this
  have M : zdw P P W (W.put k (W.at k ++ [(3, d, [])])) := by
   refine zjy hkl ?_ ?_ ?_
   ·intro e he; rw [hB]; exact he
   ·intro e hu he
    rw [hB];show zad (zao _ d) e = true
    rw [zgw _ (fun e' => by subst e'; obtain ⟨o, ho, e1, _⟩ := hu; exact ha1 ⟨o, ho, e1⟩)];exact he
   ·intro e hc he
    rw [hB];left
    show zad (zao _ d) e = true
    rw [zgw _ (fun e' => by subst e'; exact hnd hc)];exact he
  have H : HouOK P (W.put k (W.at k ++ [(3, d, [])])) k := by
   refine ⟨by rw [qj]; exact hgood, ?_, ?_, ?_, ?_, ?_, ?_⟩
   ·rw [qj, hB]; intro x hx; exact zY.old x (zcy hx).1
   ·rw [qj, hB]; intro x hx; exact zY.parts x (zcy hx).1
   ·rw [qj, hB]; exact zY.nd
   ·rw [qj, hB]; exact zY.done
   ·rw [qj, hB]
    intro e he;show zad (zao _ d) e = false
    by_cases e' : d = e
    ·subst e'; exact zmi _ _
    ·rw [zgw _ e']; exact zY.apart e he
   ·rw [qj, hB]; exact zY.sums
  exact ⟨I.put hk0 hhere M H, fun q hq => by cases hq⟩
end Go.Proofs.Ytpcnlifmkhagkaa
