import Derived.Test.YtpcnlifmkhagkaaGreatKFJ05
import Derived.Test.YtpcnlifmkhagkaaGreatKFRefH
import Derived.Laws.EntriesVeiled
set_option maxRecDepth 20000
set_option maxHeartbeats 20000000
namespace Go.Proofs.YtpcnlifmkhagkaaGreat
open Go.RowKit
open Go.Value renaming slice → G, int → E
open Go.IntKind renaming i64 → J
open _root_.Option renaming none → U
open Go.Obj renaming cells → T
open Go.RowKit renaming Hid → Q, Below → Z
open _root_.List renaming mem_singleton → kaa, mem_append → kab, any_eq_false → kac, any_eq_true → kad, take_of_length_le → kae
attribute [local go_sem ↓] Go.wp_at_zero Go.wp_at_succ
def zij (jj : R3) : Bool := !decide (jj.2.1 < 0) && (decide (jj.2.2.length = 0) || decide (za0 jj.2.2 3 = 0)) && !(decide (jj.1 = 1) && decide (jj.2.2.length = 0))
def zh7 (L : List R3) : Bool := L.all zij && decide (L.length ≤ 60)
theorem rightR_ok {jj : R3} (h : zij jj = true) : OkP jj.2.2 := by
 simp only [zij, Bool.and_eq_true, Bool.or_eq_true, decide_eq_true_eq] at h
 rcases h.1.2 with h | h
 ·rw [List.eq_nil_of_length_eq_zero h]; exact zec
 ·exact zff h
theorem zny {L : List R3} (h : zh7 L = true) : OkL L ∧ L.length ≤ 60 := by
 simp only [zh7, Bool.and_eq_true, decide_eq_true_eq, List.all_eq_true] at h
 exact ⟨fun jj hr => rightR_ok (h.1 jj hr), h.2⟩
def zc8 (l : List P3) (k : Int) : Bool := l.any fun p => decide (p.2.1 = k)
def atK (D : List D2) (k : Int) : Bool := D.any fun x => zc8 x.2 k
def zdk : List D2 → Int → Int
 | [], _ => -1
 | x :: t, k => if zc8 x.2 k = true then x.1 else zdk t k
theorem hasK_snoc (l : List P3) (p : P3) (k : Int) : zc8 (l ++ [p]) k = (zc8 l k || decide (p.2.1 = k)) := by simp [zc8]
theorem zle {D : List D2} {k : Int} (h : atK D k = false) : zdk D k = -1 := by
 induction D with
 | nil => rfl
 | cons x t ih =>
  simp only [atK, List.any_cons, Bool.or_eq_false_iff] at h
  unfold zdk
  rw [h.1, if_neg (by simp)];exact ih h.2
theorem whoB_mem {D : List D2} {k : Int} (h : atK D k = true) : ∃ x ∈ D, x.1 = zdk D k ∧ zc8 x.2 k = true := by
 induction D with
 | nil => simp [atK] at h
 | cons x t ih =>
  unfold zdk
  by_cases hx : zc8 x.2 k = true
  ·rw [if_pos hx]; exact ⟨x, by simp, rfl, hx⟩
  ·rw [if_neg hx]
   simp only [atK, List.any_cons, Bool.or_eq_true] at h
   rcases h with h | h
   ·exact absurd h hx
   ·obtain ⟨y, hy, e, hk⟩ := ih h
    exact ⟨y, by simp [hy], e, hk⟩
theorem zql {D : List D2} {k : Int} {i : Nat} (h : i < D.length) (hk : zc8 D[i].2 k = true) (hlow : ∀ j (hj : j < D.length), j < i → zc8 D[j].2 k = false) : zdk D k = D[i].1 := by
 induction D generalizing i with
 | nil => simp at h
 | cons x t ih =>
  unfold zdk
  cases i with
  | zero => rw [if_pos (by simpa using hk)]; rfl
  | succ i =>
   have h0 := hlow 0 (by simp) (by omega);simp only [List.getElem_cons_zero] at h0
   rw [h0, if_neg (by simp)]
   exact ih (by simpa using h) (by simpa using hk) (fun j hj hji => by
    have := hlow (j + 1) (by simp; omega) (by omega)
    simpa using this)
theorem whoB_neg {D : List D2} (hD : ∀ x ∈ D, 0 ≤ x.1) (k : Int) : decide (zdk D k < 0) = !atK D k := by
 cases h : atK D k
 ·rw [zle h]; rfl
 ·obtain ⟨x, hx, e, _⟩ := whoB_mem h
  have := hD x hx;rw [decide_eq_false (by omega)]; rfl
def IdxP {α : Type} (X : List α) (p : α → Bool) (jj : Int) : Prop := (jj = -1 ∧ ∀ x ∈ X, p x = false) ∨ ∃ (i : Nat) (h : i < X.length), jj = i ∧ p X[i] = true ∧ ∀ j (hj : j < X.length), j < i → p X[j] = false
theorem IdxP.any {α : Type} {X : List α} {p : α → Bool} {jj : Int} (h : IdxP X p jj) : decide (0 ≤ jj) = X.any p := by
 rcases h with ⟨rfl, h⟩ | ⟨i, hi, rfl, hp, _⟩
 ·have : X.any p = false := by rw [kac]; intro x hx; rw [h x hx]; simp
  rw [this]; rfl
 ·have : X.any p = true := by rw [kad]; exact ⟨_, List.getElem_mem hi, hp⟩
  rw [this];exact decide_eq_true (by omega)
def zfg (F : Nat) : Prop := Q (∀ (args : Array Value) (w : World), (callFunc F args).run Tryz.prog w = .ok (.enter F args) w)
def AtFn (w : World) (c : Nat) (key : Int) : Prop := ∃ b, w.cell? ⟨c, 0, U⟩ = some (.func (.func 177) #[] #[.pointer (some ⟨b, 0, U⟩)]) ∧ w.cell? ⟨b, 0, U⟩ = some (E J key) ∧ b < w.heap.size ∧ c < w.heap.size
theorem AtFn.below {w w' : World} {c : Nat} {key : Int} (h : AtFn w c key) (hb : Z w.heap.size w w') : AtFn w' c key := by
 obtain ⟨b, h1, h2, h3, h4⟩ := h;have hs := hb.size;exact ⟨b, (hb.cell (p := ⟨c, 0, U⟩) h4).trans h1, (hb.cell (p := ⟨b, 0, U⟩) h3).trans h2, by omega, by omega⟩
theorem zor (la ra da : Option Addr) (nl lc nr rc nd dc : Nat) (s0 s1 s2 s3 key : Int) (XR : List XD) (w : World) (hn : nr = XR.length) (hl : XR.length ≤ 9223372036854775807) (hm : ∀ x ∈ XR, x.2.2.length ≤ 9223372036854775807) (hp : zdn w ra XR) :
  Calls Tryz.prog 125 #[.agg #[G la nl lc, E J s0, E J s1, E J s2, E J s3, G ra nr rc, G da nd dc], E J key] w fun e w' => e = .returned (E J (zdk (XR.map zaz) key)) ∧ Z w.heap.size w w' := by
 have HN := zD hn hl hm hp;have hnl : nr ≤ 9223372036854775807 := by omega
 clear hn hl hm hp;go_enter Tryz.func125, Tryz.ntmps125
 go_wp2;have hb0 := zg w (T #[G la nl lc, E J s0, E J s1, E J s2, E J s3, G ra nr rc, G da nd dc] 77);generalize w.alloc (T #[G la nl lc, E J s0, E J s1, E J s2, E J s3, G ra nr rc, G da nd dc] 77) = W at *;go_loopw [12] (fun i w' => ∃ k : Nat, k ≤ nr ∧ i = E J k ∧ Q (∀ x ∈ XR.take k, zc8 x.2.2 key = false) ∧ Z w.heap.size w w') (fun i _ => nr - (intOf i).toNat)
 case atStart => exact ⟨0, Nat.zero_le _, rfl, (fun x hx => by simp at hx), hb0⟩
 case round =>
  obtain ⟨k, hk, rfl, hno, hbw⟩ := hrel;have hsz := hbw.size;by_cases hlt : k < nr
  ·have hkX : k < XR.length := by have := HN.out.1; omega
   obtain ⟨g, o, rfl, hg, d0, d1, hq⟩ := (HN.out.2.2.2.below hbw).get hkX;have hmk := HN.out.2.2.1 _ (List.getElem_mem hkX)
   have HI : Q (zc8 XR[k].2.2 key = true → zdk (XR.map zaz) key = XR[k].1) := fun h => by
    have h := zql (D := XR.map zaz) (k := key) (i := k) (by rw [List.length_map]; exact hkX) (by rw [List.getElem_map]; exact h) (fun j hj hji => by rw [List.getElem_map]; exact hno.out _ (List.mem_take_iff_getElem.2 ⟨j, by rw [List.length_map] at hj; omega, rfl⟩));rw [h, List.getElem_map];rfl
   have HJ : Q (zc8 XR[k].2.2 key = false → ∀ x ∈ XR.take (k + 1), zc8 x.2.2 key = false) := fun h x hx => by
    rw [zax hkX] at hx;rcases kab.1 hx with hx | hx
    ·exact hno.out x hx
    ·rw [kaa.1 hx]; exact h
   clear hno;generalize XR[k] = x at *;obtain ⟨dd, ⟨ax, cx⟩, l⟩ := x;simp only at d0 d1 hq hmk HI HJ
   have hbV := zg wr (T #[E J dd, G ax l.length cx] 80);have hrV : Blk (wr.alloc (T #[E J dd, G ax l.length cx] 80)) wr.heap.size #[E J dd, G ax l.length cx] 80 := Blk.new _ _ _;have HQ := zB (hq.below hbV) (hbw.trans (hbV.mono hsz));clear hq hbV hbw;generalize hll : l.length = n2 at *;have HL := zA hll;clear hll;go_wp2;clear d0 d1;generalize wr.alloc (T #[E J dd, G ax n2 cx] 80) = V at *;generalize wr = wo at *;go_loopw [19] (fun i w' => ∃ j : Nat, j ≤ n2 ∧ i = E J j ∧ Q (zc8 (l.take j) key = false) ∧ Z V.heap.size V w') (fun i _ => n2 - (intOf i).toNat)
   case atStart => exact ⟨0, Nat.zero_le _, rfl, rfl, Below.refl _ _⟩
   case round =>
    obtain ⟨j, hj, rfl, hnj, hbj⟩ := hrel;have hszj := hbj.size;have hBj := HQ.out.2.trans (hbj.mono HQ.out.2.size);by_cases hltj : j < n2
    ·have hjl : j < l.length := by rw [HL.out]; exact hltj
     rcases HQ.out.1.below hbj with h0 | ⟨g2, o2, rfl, hg2, hc2⟩
     ·rw [h0] at hjl; simp at hjl
     obtain ⟨e0, e1, e2⟩ := hc2 j hjl
     have HA : Q (l[j].2.1 = key → zc8 l key = true) := fun h => by
      unfold zc8
      rw [kad];exact ⟨_, List.getElem_mem hjl, by simpa using h⟩
     have HB : Q (¬ l[j].2.1 = key → zc8 (l.take (j + 1)) key = false) := fun h => by
      rw [zax hjl, hasK_snoc, hnj.out, decide_eq_false h]; rfl
     have hrw := hrV.below hbj hrV.lt;have q0 := hrw.cell 0;have hql := hrw.lt;simp at q0
     have hbp := hBj;clear hc2 hnj hrw;generalize l[j] = p at *;obtain ⟨ph, pk, pn⟩ := p;simp only at e0 e1 e2 HA HB
     have hBn : Z w.heap.size w (wr.alloc (T #[E J ph, E J pk, E J pn] 90)) := hBj.trans ((zg wr _).mono hBj.size);have hBm : Z V.heap.size V (wr.alloc (T #[E J ph, E J pk, E J pn] 90)) := hbj.trans ((zg wr _).mono hbj.size);by_cases hd : pk = key
     ·have HF := zA (HI.out (HA.out hd))
      subst hd;clear HA HB HI HJ;go_wp2;go_ret;exact ⟨zca HF.out.symm, hBn⟩
     ·have HF := zA (HB.out hd)
      have hd' : (pk == key) = false := by simpa using hd
      clear HA HB HI hd;go_wp2;go_roundw
      case rel => exact ⟨j + 1, by omega, by go_num, HF, hBm⟩
      case measure => simp [intOf]; omega
    ·have HF := zA (HJ.out (by have := hnj.out; rwa [kae (by rw [HL.out]; omega)] at this))
     clear HI HJ hnj;go_wp2;go_roundw
     case rel => exact ⟨k + 1, by omega, by go_num, HF, hBj⟩
     case measure => simp [intOf]; omega
  ·have HF : Q (zdk (XR.map zaz) key = -1) := by
    show _ = _
    refine zle ?_;unfold atK
    rw [List.any_map, kac];intro x hx;have := hno.out x (by rw [kae (by have := HN.out.1; omega)]; exact hx)
    simpa [zaz] using this
   clear hno;go_wp2;go_ret;exact ⟨zca HF.out.symm, hbw⟩
structure zfb (w : World) (ra : Option Addr) (nr : Nat) (XR : List XD) (D : List D2) : Prop where
 n : nr = XR.length
 few : XR.length ≤ 9223372036854775807
 small : ∀ x ∈ XR, x.2.2.length ≤ 9223372036854775807
 lies : zdn w ra XR
 says : XR.map zaz = D
theorem zfb.below {w w' : World} {ra : Option Addr} {nr : Nat} {XR : List XD} {D : List D2} (h : zfb w ra nr XR D) (hb : Z w.heap.size w w') : zfb w' ra nr XR D := ⟨h.n, h.few, h.small, h.lies.below hb, h.says⟩
theorem ze1.open {w : World} {v : Value} {L : List R3} {h : H3} {k : Nat} (hh : ze1 w v L h) (hi : zev k h) (hk : k ≤ 9223372036854775807) : ∃ (la : Option Addr) (nl lc : Nat) (ra : Option Addr) (nr rc : Nat) (XR : List XD) (da : Option Addr) (nd dc : Nat),
  v = .agg #[G la nl lc, E J h.1.1, E J h.1.2.1, E J h.1.2.2.1, E J h.1.2.2.2, G ra nr rc, G da nd dc] ∧ zfb w ra nr XR h.2.1 := by
 obtain ⟨la, nl, lc, Y, ra, nr, rc, XR, da, nd, dc, hv, _, ⟨h4, h5, h6⟩, _⟩ := hh;refine ⟨la, nl, lc, ra, nr, rc, XR, da, nd, dc, hv, h4, ?_, ?_, h6, h5⟩
 ·have h1 := hi.few
  rw [← h5, List.length_map] at h1;omega
 ·intro x hx
  have h1 := (hi.ok (zaz x) (by rw [← h5]; exact List.mem_map.2 ⟨x, hx, rfl⟩)).1;have h2 : x.2.2.length ≤ 4 := h1;omega
theorem zpx (la ra da : Option Addr) (nl lc nr rc nd dc : Nat) (s0 s1 s2 s3 key : Int) (XR : List XD) (D : List D2) (w : World) (h : zfb w ra nr XR D) :
  Calls Tryz.prog 125 #[.agg #[G la nl lc, E J s0, E J s1, E J s2, E J s3, G ra nr rc, G da nd dc], E J key] w fun e w' => e = .returned (E J (zdk D key)) ∧ Z w.heap.size w w' := by
 rw [← h.says];exact zor la ra da nl lc nr rc nd dc s0 s1 s2 s3 key XR w h.n h.few h.small h.lies
def inI (l : List Int) (d : Int) : Bool := l.any fun x => decide (x = d)
theorem zg8 (l : List Int) (x d : Int) : inI (l ++ [x]) d = (inI l d || decide (x = d)) := by simp [inI]
def ze7 (D : List D2) (l : List P3) : Bool := l.any fun p => decide (0 ≤ zdk D p.2.1)
theorem zp2 (D : List D2) (l : List P3) (p : P3) : ze7 D (l ++ [p]) = (ze7 D l || decide (0 ≤ zdk D p.2.1)) := by simp [ze7]
def zcx (h : H3) (d : Int) (l : List P3) : Int :=
 if inI h.2.2 d = true then 10 else if zae h.2.1 d = true then 0 else if ze7 h.2.1 l = true then 12 else zcq h.1 l
def za5 (h : H3) (k d : Int) (l : List P3) : Option R3 :=
 if k = 1 then (if zcx h d l = 0 ∧ zae h.2.1 d = false then some (1, d, l) else U)
 else if k = 4 then (if zae h.2.1 d = true then some (2, d, []) else U)
 else if k = 5 then (if zae h.2.1 d = true then some (3, d, []) else U)
 else U
def zp (L : List R3) (k d : Int) (l : List P3) : List R3 := L ++ (za5 (ze L) k d l).toList
theorem hearL_len (L : List R3) (k d : Int) (l : List P3) : (zp L k d l).length ≤ L.length + 1 := by
 unfold zp
 rw [List.length_append];cases za5 (ze L) k d l <;> simp
theorem zfd {L : List R3} {k d : Int} {l : List P3} (h : za5 (ze L) k d l = U) : zp L k d l = L := by simp [zp, h]
theorem zd7 {L : List R3} {k d : Int} {l : List P3} {jj : R3} (h : za5 (ze L) k d l = some jj) : zp L k d l = L ++ [jj] := by simp [zp, h]
abbrev Q4 := Int × Int × Int × List P3
def zdj (L : List R3) (k d : Int) (l : List P3) : Option Int :=
 if k = 1 then (if zcx (ze L) d l = 10 then U else if zcx (ze L) d l = 0 then some 2 else some 3)
 else if k = 4 then (if inI (ze (zp L k d l)).2.2 d = true then some 6 else U)
 else U
def zaw (L : List R3) (me k d : Int) (l : List P3) : List Q4 := (zdj L k d l).toList.map fun s => (s, d, me, [])
def zbf (k d h : Int) (l : List P3) : Int :=
 if k < 1 ∨ 7 < k then 1 else if d < 0 ∨ 1343 < d ∨ h < 0 ∨ 2 < h then 3
 else if 1 < k then (if l.length = 0 then 0 else 5)
 else if za0 l 3 = 0 then (if (l.any fun p => !decide (p.1 = h)) = true then 3 else 0) else za0 l 3
theorem zh1 {k d h : Int} {l : List P3} (hw : zbf k d h l = 0) : 0 ≤ d ∧ d ≤ 1343 ∧ 1 ≤ k ∧ k ≤ 7 ∧ (1 < k → l = []) ∧ (k = 1 → za0 l 3 = 0 ∧ ∀ p ∈ l, p.1 = h) := by
 unfold zbf at hw
 split at hw
 ·cases hw
 ·rename_i h1
  split at hw
  ·cases hw
  ·rename_i h2
   refine ⟨by omega, by omega, by omega, by omega, fun h3 => ?_, fun h3 => ?_⟩
   ·rw [if_pos h3] at hw
    split at hw
    ·rename_i h4; exact List.eq_nil_of_length_eq_zero h4
    ·cases hw
   ·rw [if_neg (by omega)] at hw
    split at hw
    ·rename_i h4
     split at hw
     ·cases hw
     ·rename_i h5
      refine ⟨h4, fun p hp => ?_⟩;simp only [kad, Bool.not_eq_true', decide_eq_false_iff_not, not_exists, not_and, Decidable.not_not] at h5
      exact h5 p hp
    ·rename_i h4; exact absurd hw h4
structure Lone (h : H3) : Prop where
 pos : ∀ x ∈ h.2.1, 0 ≤ x.1
 ok : ∀ x ∈ h.2.1, OkP x.2
 nd : (h.2.1.map (·.1)).Nodup
 sep : h.2.1.Pairwise (fun x y => ∀ p ∈ x.2, ∀ q ∈ y.2, p.2.1 ≠ q.2.1)
 own : ∀ x ∈ h.2.1, x.2.Pairwise (fun p q => p.2.1 ≠ q.2.1)
 fits : ∀ x ∈ h.2.1, ∀ p ∈ x.2, 0 ≤ za8 h.1 p.2.1 + p.2.2 ∧ za8 h.1 p.2.1 + p.2.2 ≤ 1048576
 right : zga h.1 = true
theorem lone_nil : Lone ((0, 0, 0, 0), [], []) := ⟨(fun _ h => by cases h), (fun _ h => by cases h), by simp, by simp, (fun _ h => by cases h), (fun _ h => by cases h), by decide⟩
theorem zja : ∀ {D : List D2}, D.Pairwise (fun x y => ∀ p ∈ x.2, ∀ q ∈ y.2, p.2.1 ≠ q.2.1) → ∀ x ∈ D, ∀ y ∈ D, x.1 ≠ y.1 → ∀ p ∈ x.2, ∀ q ∈ y.2, p.2.1 ≠ q.2.1
 | [], _, x, hx => by cases hx
 | z :: t, h, x, hx => by
  intro y hy hne p hp q hq;rw [List.pairwise_cons] at h;rcases List.mem_cons.1 hx with ex | hx
  ·rcases List.mem_cons.1 hy with ey | hy
   ·exact absurd (by rw [ex, ey]) hne
   ·rw [ex] at hp
    exact h.1 y hy p hp q hq
  ·rcases List.mem_cons.1 hy with ey | hy
   ·rw [ey] at hq
    exact fun e => h.1 x hx q hq p hp e.symm
   ·exact zja h.2 x hx y hy hne p hp q hq
theorem zm1 {D : List D2} {l : List P3} (hD : ∀ x ∈ D, 0 ≤ x.1) (h : ze7 D l = false) : ∀ p ∈ l, ∀ x ∈ D, ∀ q ∈ x.2, q.2.1 ≠ p.2.1 := by
 intro p hp x hx q hq e;simp only [ze7, kac, decide_eq_true_eq] at h
 have h1 := h p hp;have h2 := whoB_neg hD p.2.1
 have h3 : atK D p.2.1 = true := by
  simp only [atK, zc8, kad, decide_eq_true_eq]
  exact ⟨x, hx, q, hq, e⟩
 rw [h3, decide_eq_true (by omega)] at h2;cases h2
theorem keys_at {l : List P3} {c H : Int} (hin : ∀ p ∈ l, inB p H = true) (hc : ∀ p ∈ l, p.1 = c) (hpw : l.Pairwise (fun p q => ze3 p q = false)) : (∀ p ∈ l, zb6 p.2.1 = true) ∧ l.Pairwise (fun p q => p.2.1 ≠ q.2.1) := by
 refine ⟨fun p hp => ?_, List.Pairwise.imp_of_mem (fun hp hq h => ?_) hpw⟩
 ·have := hin p hp
  simp only [inB, decide_eq_true_eq] at this
  simp only [zb6, decide_eq_true_eq]; omega
 ·simp only [ze3, decide_eq_false_iff_not, not_and] at h
  exact h ((hc _ hp).trans (hc _ hq).symm)
theorem zo7 {h : H3} {d c : Int} {l : List P3} (H : Lone h) (hd : 0 ≤ d) (hw : za0 l 3 = 0) (hh : ∀ p ∈ l, p.1 = c) (hv : zcx h d l = 0) (hn : zae h.2.1 d = false) : Lone (zbi h (1, d, l)) := by
 obtain ⟨s, D, dn⟩ := h
 have e : zbi (s, D, dn) (1, d, l) = (s, D ++ [(d, l)], dn) := by
  unfold zbi
  rw [if_pos rfl, if_neg (by rw [hn]; simp)]
 rw [e];obtain ⟨h1, h4, hin, hpw⟩ := zdd hw;have hok := zff hw;have hkeys := keys_at hin hh hpw;unfold zcx at hv
 simp only at hv hn
 split at hv
 ·cases hv
 rw [if_neg (by rw [hn]; simp)] at hv;split at hv
 ·cases hv
 rename_i ht
 have hfree := zm1 H.pos (by simpa using ht);have hfits := zjk.1 hv;refine ⟨?_, ?_, ?_, ?_, ?_, ?_, H.right⟩
 ·intro x hx
  rcases kab.1 hx with hx | hx
  ·exact H.pos x hx
  ·rw [kaa.1 hx]; exact hd
 ·intro x hx
  rcases kab.1 hx with hx | hx
  ·exact H.ok x hx
  ·rw [kaa.1 hx]; exact hok
 ·show ((D ++ [(d, l)]).map (·.1)).Nodup
  rw [List.map_append, List.nodup_append];refine ⟨H.nd, by simp, ?_⟩;intro a ha b hb hab;simp at hb
  subst hb;subst hab;obtain ⟨x, hx, hxa⟩ := List.mem_map.1 ha;simp only [zae, kac, decide_eq_true_eq] at hn
  exact hn x hx hxa
 ·show (D ++ [(d, l)]).Pairwise _
  rw [List.pairwise_append];refine ⟨H.sep, by simp, ?_⟩;intro x hx y hy p hp q hq;rw [kaa.1 hy] at hq;exact hfree q hq x hx p hp
 ·intro x hx
  rcases kab.1 hx with hx | hx
  ·exact H.own x hx
  ·rw [kaa.1 hx]; exact hkeys.2
 ·intro x hx p hp
  rcases kab.1 hx with hx | hx
  ·exact H.fits x hx p hp
  ·rw [kaa.1 hx] at hp
   exact hfits p hp (hkeys.1 p hp)
theorem zmm {h : H3} (H : Lone h) (d : Int) (dn : List Int) : Lone (h.1, zao h.2.1 d, dn) :=
 ⟨fun x hx => H.pos x (zc3 hx).1, fun x hx => H.ok x (zc3 hx).1, zia H.nd d, List.Pairwise.sublist List.filter_sublist H.sep, fun x hx => H.own x (zc3 hx).1, fun x hx => H.fits x (zc3 hx).1, H.right⟩
theorem lone_drop {h : H3} {d : Int} {l : List P3} (H : Lone h) : Lone (zbi h (3, d, l)) := by
 have e : zbi h (3, d, l) = (h.1, zao h.2.1 d, h.2.2) := by
  unfold zbi
  rw [if_neg (fun h => absurd (show (3 : Int) = 1 from h) (by decide)), if_neg (fun h => absurd (show (3 : Int) = 2 from h) (by decide)), if_pos rfl]
 rw [e];exact zmm H d _
theorem right_doB {s : S4} {l : List P3} (hs : zga s = true) (hpw : l.Pairwise (fun p q => p.2.1 ≠ q.2.1)) (hf : ∀ p ∈ l, 0 ≤ za8 s p.2.1 + p.2.2 ∧ za8 s p.2.1 + p.2.2 ≤ 1048576) : zga (doB s l) = true := by
 rw [zp0] at hs ⊢
 intro k hkk;by_cases hx : ∃ p ∈ l, p.2.1 = k
 ·obtain ⟨p, hp, rfl⟩ := hx
  rw [zkg hpw p hp hkk];exact hf p hp
 ·rw [zig hkk (fun p hp e => hx ⟨p, hp, e⟩)]
  exact hs k hkk
theorem lone_done {h : H3} {d : Int} {l : List P3} (H : Lone h) (hd : zae h.2.1 d = true) : Lone (zbi h (2, d, l)) := by
 have e : zbi h (2, d, l) = (doB h.1 (zcg h.2.1 d), zao h.2.1 d, h.2.2 ++ [d]) := by
  unfold zbi
  rw [if_neg (fun h => absurd (show (2 : Int) = 1 from h) (by decide)), if_pos rfl, if_pos hd]
 rw [e];obtain ⟨x, hx, hxd, hf⟩ := zi3 hd;rw [hf];have A := zmm H d (h.2.2 ++ [d]);refine ⟨A.pos, A.ok, A.nd, A.sep, A.own, ?_, right_doB H.right (H.own x hx) (H.fits x hx)⟩;intro y hy p hp;obtain ⟨hyD, hyd⟩ := zc3 hy;have hky := (H.ok y hyD).2.2 p hp;show 0 ≤ za8 (doB h.1 x.2) p.2.1 + p.2.2 ∧ _
 rw [zig hky (fun q hq => zja H.sep x hx y hyD (by rw [hxd]; exact fun e => hyd e.symm) q hq p hp)];exact H.fits y hyD p hp
structure zd0 (L : List R3) : Prop where
 ok : OkL L
 within : ∀ k, k ≤ L.length → zbm 2199023255552 (ze (L.take k)).1
 lone : Lone (ze L)
theorem good_nil : zd0 [] := ⟨(fun jj hr => by cases hr), (fun k hk => by
 have e : ze (([] : List R3).take k) = ((0, 0, 0, 0), [], []) := by simp [ze]
 rw [e]
 simp [zbm]), lone_nil⟩
theorem zd0.note {L : List R3} (H : zd0 L) {jj : R3} (hr : OkP jj.2.2) (ha : Lone (zbi (ze L) jj)) : zd0 (L ++ [jj]) := by
 refine ⟨?_, ?_, by rw [ze4]; exact ha⟩
 ·intro q hq
  rcases kab.1 hq with hq | hq
  ·exact H.ok q hq
  ·rw [kaa.1 hq]; exact hr
 ·intro k hk
  by_cases h : k ≤ L.length
  ·rw [List.take_append_of_le_length h]
   exact H.within k h
  ·rw [kae (by simp; omega), ze4]
   exact zgt (zno ha.right) (by decide)
theorem zd0.hear {L : List R3} (H : zd0 L) {k d c : Int} {l : List P3} (hw : zbf k d c l = 0) : zd0 (zp L k d l) := by
 obtain ⟨h1, h2, h3, h4, h5, h6⟩ := zh1 hw
 cases hr : za5 (ze L) k d l with
 | none => rw [zfd hr]; exact H
 | some jj =>
  rw [zd7 hr];unfold za5 at hr
  split at hr
  ·rename_i hk
   split at hr
   ·rename_i hc
    cases hr;obtain ⟨h7, h8⟩ := h6 hk;exact H.note (zff h7) (zo7 H.lone h1 h7 h8 hc.1 hc.2)
   ·cases hr
  ·split at hr
   ·split at hr
    ·rename_i hc
     cases hr;exact H.note zec (lone_done H.lone hc)
    ·cases hr
   ·split at hr
    ·split at hr
     ·rename_i hc
      cases hr;exact H.note zec (lone_drop H.lone)
     ·cases hr
    ·cases hr
theorem zmu (D : List D2) (d : Int) : zae (zao D d) d = false := by
 simp only [zae, zao, kac, List.mem_filter, Bool.not_eq_true', decide_eq_false_iff_not, decide_eq_true_eq]
 exact fun x hx => hx.2
theorem zg4 (D : List D2) {d d' : Int} (h : d' ≠ d) : zae (zao D d') d = zae D d := by
 unfold zae zao
 rw [Bool.eq_iff_iff];simp only [kad, List.mem_filter, Bool.not_eq_true', decide_eq_false_iff_not, decide_eq_true_eq]
 constructor
 ·rintro ⟨x, ⟨hx, _⟩, e⟩; exact ⟨x, hx, e⟩
 ·rintro ⟨x, hx, e⟩; exact ⟨x, ⟨hx, fun h' => h (h'.symm.trans e)⟩, e⟩
theorem zhu (D : List D2) (d : Int) (l : List P3) (d' : Int) : zae (D ++ [(d, l)]) d' = (zae D d' || decide (d = d')) := by simp [zae]
theorem hstep1 {h : H3} {d : Int} {l : List P3} (hn : zae h.2.1 d = false) : zbi h (1, d, l) = (h.1, h.2.1 ++ [(d, l)], h.2.2) := by
 unfold zbi; rw [if_pos rfl, if_neg (by rw [hn]; simp)]
theorem hstep2 {h : H3} {d : Int} {l : List P3} (hn : zae h.2.1 d = true) : zbi h (2, d, l) = (doB h.1 (zcg h.2.1 d), zao h.2.1 d, h.2.2 ++ [d]) := by
 unfold zbi
 rw [if_neg (fun h => absurd (show (2 : Int) = 1 from h) (by decide)), if_pos rfl, if_pos hn]
theorem hstep3 (h : H3) (d : Int) (l : List P3) : zbi h (3, d, l) = (h.1, zao h.2.1 d, h.2.2) := by
 unfold zbi
 rw [if_neg (fun h => absurd (show (3 : Int) = 1 from h) (by decide)), if_neg (fun h => absurd (show (3 : Int) = 2 from h) (by decide)), if_pos rfl]
theorem zj6 {h : H3} {d : Int} {l : List P3} (hv : zcx h d l = 0) : inI h.2.2 d = false ∧ (zae h.2.1 d = true ∨ ze7 h.2.1 l = false ∧ zcq h.1 l = 0) := by
 unfold zcx at hv
 split at hv
 ·cases hv
 ·rename_i h1
  refine ⟨by simpa using h1, ?_⟩;split at hv
  ·rename_i h2; exact Or.inl h2
  ·split at hv
   ·cases hv
   ·rename_i h3; exact Or.inr ⟨by simpa using h3, hv⟩
theorem zjx (h : H3) (k d : Int) (l : List P3) : za5 h k d l = U ∨ (k = 1 ∧ zcx h d l = 0 ∧ zae h.2.1 d = false ∧ za5 h k d l = some (1, d, l)) ∨ (k = 4 ∧ zae h.2.1 d = true ∧ za5 h k d l = some (2, d, [])) ∨ (k = 5 ∧ zae h.2.1 d = true ∧ za5 h k d l = some (3, d, [])) := by
 by_cases k1 : k = 1
 ·subst k1
  by_cases hc : zcx h d l = 0 ∧ zae h.2.1 d = false
  ·exact Or.inr (Or.inl ⟨rfl, hc.1, hc.2, by unfold za5; rw [if_pos rfl, if_pos hc]⟩)
  ·exact Or.inl (by unfold za5; rw [if_pos rfl, if_neg hc])
 ·by_cases k4 : k = 4
  ·subst k4
   by_cases hc : zae h.2.1 d = true
   ·exact Or.inr (Or.inr (Or.inl ⟨rfl, hc, by unfold za5; rw [if_neg k1, if_pos rfl, if_pos hc]⟩))
   ·exact Or.inl (by unfold za5; rw [if_neg k1, if_pos rfl, if_neg hc])
  ·by_cases k5 : k = 5
   ·subst k5
    by_cases hc : zae h.2.1 d = true
    ·exact Or.inr (Or.inr (Or.inr ⟨rfl, hc, by unfold za5; rw [if_neg k1, if_neg k4, if_pos rfl, if_pos hc]⟩))
    ·exact Or.inl (by unfold za5; rw [if_neg k1, if_neg k4, if_pos rfl, if_neg hc])
   ·exact Or.inl (by unfold za5; rw [if_neg k1, if_neg k4, if_neg k5])
def zb8 : List P3 → Int → Nat
 | [], _ => 0
 | p :: t, k => (if p.2.1 = k then p.2.2.natAbs else 0) + zb8 t k
def zcb : List D2 → Int → Nat
 | [], _ => 0
 | x :: t, k => zb8 x.2 k + zcb t k
theorem absK_le {k : Int} : ∀ {l : List P3}, zed l → zb8 l k ≤ l.length * 1048576
 | [], _ => Nat.le_refl _
 | p :: t, h => by
  have h1 := h p (by simp);have h2 := absK_le (k := k) (l := t) (fun q hq => h q (by simp [hq]));have h3 : (if p.2.1 = k then p.2.2.natAbs else 0) ≤ 1048576 := by split <;> omega
  show (if p.2.1 = k then p.2.2.natAbs else 0) + zb8 t k ≤ (t.length + 1) * 1048576
  omega
theorem zim {k : Int} : ∀ {l : List P3}, (∀ p ∈ l, p.2.1 ≠ k) → zb8 l k = 0
 | [], _ => rfl
 | p :: t, h => by
  show (if p.2.1 = k then p.2.2.natAbs else 0) + zb8 t k = 0
  rw [if_neg (h p (by simp)), zim (fun q hq => h q (by simp [hq]))]
theorem zln : ∀ {l : List P3}, l.Pairwise (fun p q => p.2.1 ≠ q.2.1) → ∀ p ∈ l, zb8 l p.2.1 = p.2.2.natAbs
 | [], _, p, hp => by cases hp
 | x :: t, h, p, hp => by
  rw [List.pairwise_cons] at h;show (if x.2.1 = p.2.1 then x.2.2.natAbs else 0) + zb8 t p.2.1 = p.2.2.natAbs
  rcases List.mem_cons.1 hp with e | hp
  ·subst e
   rw [if_pos rfl, zim (fun q hq e => h.1 q hq e.symm)];rfl
  ·rw [if_neg (h.1 p hp), zln h.2 p hp]
   omega
theorem zl2 {k : Int} (hk : zb6 k = true) (s : S4) : ∀ (l : List P3), (za8 (doB s l) k).natAbs ≤ (za8 s k).natAbs + zb8 l k
 | [] => Nat.le_refl _
 | p :: t => by
  have ih := zl2 hk s t;rw [zf4];show _ ≤ _ + ((if p.2.1 = k then p.2.2.natAbs else 0) + zb8 t k)
  unfold do1
  split
  ·rename_i hp
   by_cases e : p.2.1 = k
   ·rw [if_pos e, e, zmo _ hk]
    omega
   ·rw [if_neg e, zj8 _ hk hp (fun h => e h.symm)]
    omega
  ·omega
theorem potD_put (D : List D2) (x : D2) (k : Int) : zcb (D ++ [x]) k = zcb D k + zb8 x.2 k := by
 induction D with
 | nil => show zb8 x.2 k + 0 = 0 + zb8 x.2 k; omega
 | cons y t ih =>
  show zb8 y.2 k + zcb (t ++ [x]) k = zb8 y.2 k + zcb t k + zb8 x.2 k
  rw [ih]; omega
theorem zl4 {k : Int} : ∀ {D : List D2}, (∀ x ∈ D, ∀ p ∈ x.2, p.2.1 ≠ k) → zcb D k = 0
 | [], _ => rfl
 | y :: t, h => by
  show zb8 y.2 k + zcb t k = 0
  rw [zim (h y (by simp)), zl4 (fun x hx => h x (by simp [hx]))]
theorem potD_le {k : Int} : ∀ {D : List D2}, (∀ x ∈ D, OkP x.2) → zcb D k ≤ D.length * 4194304
 | [], _ => Nat.le_refl _
 | y :: t, h => by
  obtain ⟨h1, h2, _⟩ := h y (by simp);have h3 := absK_le (k := k) h2;have h4 := potD_le (k := k) (D := t) (fun x hx => h x (by simp [hx]));show zb8 y.2 k + zcb t k ≤ (t.length + 1) * 4194304
  omega
theorem zi9 (d k : Int) : ∀ (D : List D2), zcb (zao D d) k ≤ zcb D k ∧ (zae D d = true → zcb (zao D d) k + zb8 (zcg D d) k ≤ zcb D k)
 | [] => ⟨Nat.le_refl _, fun h => by cases h⟩
 | y :: t => by
  obtain ⟨h1, h2⟩ := zi9 d k t;by_cases e : y.1 = d
  ·have e1 : zao (y :: t) d = zao t d := by simp [zao, e]
   have e2 : zcg (y :: t) d = y.2 := by simp [zcg, e]
   rw [e1, e2];show _ ≤ zb8 y.2 k + zcb t k ∧ (_ → _ ≤ zb8 y.2 k + zcb t k)
   exact ⟨by omega, fun _ => by omega⟩
  ·have e1 : zao (y :: t) d = y :: zao t d := by simp [zao, e]
   have e2 : zcg (y :: t) d = zcg t d := by simp [zcg, e]
   have e3 : zae (y :: t) d = zae t d := by simp [zae, e]
   rw [e1, e2, e3];show zb8 y.2 k + zcb (zao t d) k ≤ zb8 y.2 k + zcb t k ∧ (_ → zb8 y.2 k + zcb (zao t d) k + _ ≤ zb8 y.2 k + zcb t k)
   exact ⟨by omega, fun h => by have := h2 h; omega⟩
structure zep (h : H3) : Prop where
 pos : ∀ x ∈ h.2.1, 0 ≤ x.1
 ok : ∀ x ∈ h.2.1, OkP x.2
 pot : ∀ k, zb6 k = true → (za8 h.1 k).natAbs + zcb h.2.1 k ≤ 1000000000
theorem zep.within {h : H3} (H : zep h) : zbm 2199023255552 h.1 := by
 have h0 := H.pot 0 (by decide);have h1 := H.pot 1 (by decide);have h2 := H.pot 2 (by decide);have h3 := H.pot 3 (by decide);have e0 : za8 h.1 0 = h.1.1 := rfl;have e1 : za8 h.1 1 = h.1.2.1 := rfl;have e2 : za8 h.1 2 = h.1.2.2.1 := rfl;have e3 : za8 h.1 3 = h.1.2.2.2 := rfl;rw [e0] at h0;rw [e1] at h1;rw [e2] at h2;rw [e3] at h3;exact ⟨by omega, by omega, by omega, by omega⟩
theorem zep.ready {h : H3} {d c : Int} {l : List P3} (H : zep h) (hd : 0 ≤ d) (hw : za0 l 3 = 0) (hh : ∀ p ∈ l, p.1 = c) (hv : zcx h d l = 0) (hn : zae h.2.1 d = false) : zep (zbi h (1, d, l)) := by
 rw [hstep1 hn];obtain ⟨h1, h4, hin, hpw⟩ := zdd hw;have hok := zff hw;have hkeys := keys_at hin hh hpw;obtain ⟨_, hv⟩ := zj6 hv;rcases hv with hv | ⟨ht, hf⟩
 ·rw [hn] at hv; cases hv
 have hfree := zm1 H.pos ht;have hfits := zjk.1 hf;refine ⟨?_, ?_, ?_⟩
 ·intro x hx
  rcases kab.1 hx with hx | hx
  ·exact H.pos x hx
  ·rw [kaa.1 hx]; exact hd
 ·intro x hx
  rcases kab.1 hx with hx | hx
  ·exact H.ok x hx
  ·rw [kaa.1 hx]; exact hok
 ·intro k hk
  show (za8 h.1 k).natAbs + zcb (h.2.1 ++ [(d, l)]) k ≤ _
  rw [potD_put];show (za8 h.1 k).natAbs + (zcb h.2.1 k + zb8 l k) ≤ _
  by_cases hx : ∃ p ∈ l, p.2.1 = k
  ·obtain ⟨p, hp, rfl⟩ := hx
   have f := hfits p hp hk;have s := hok.2.1 p hp;rw [zl4 (fun x hx q hq => hfree p hp x hx q hq), zln hkeys.2 p hp];omega
  ·rw [zim (fun p hp e => hx ⟨p, hp, e⟩)]
   have := H.pot k hk;omega
theorem zep.done {h : H3} {d : Int} {l : List P3} (H : zep h) (hn : zae h.2.1 d = true) : zep (zbi h (2, d, l)) := by
 rw [hstep2 hn];refine ⟨fun x hx => H.pos x (zc3 hx).1, fun x hx => H.ok x (zc3 hx).1, fun k hk => ?_⟩;have h1 := zl2 hk h.1 (zcg h.2.1 d);have h2 := (zi9 d k h.2.1).2 hn;have h3 := H.pot k hk;show (za8 (doB h.1 (zcg h.2.1 d)) k).natAbs + zcb (zao h.2.1 d) k ≤ _
 omega
theorem zep.drop {h : H3} {d : Int} {l : List P3} (H : zep h) : zep (zbi h (3, d, l)) := by
 rw [hstep3];refine ⟨fun x hx => H.pos x (zc3 hx).1, fun x hx => H.ok x (zc3 hx).1, fun k hk => ?_⟩;have h2 := (zi9 d k h.2.1).1;have h3 := H.pot k hk;show (za8 h.1 k).natAbs + zcb (zao h.2.1 d) k ≤ _
 omega
structure Mild (L : List R3) : Prop where
 ok : OkL L
 within : ∀ k, k ≤ L.length → zbm 2199023255552 (ze (L.take k)).1
 bound : zep (ze L)
theorem Mild.calc {L : List R3} (H : Mild L) (h : L.length * 40 ≤ 140737488355328) : zdb L := ⟨H.ok, H.within, h⟩
theorem zpk {B : Int} {s : S4} (h : zbm B s) {k : Int} (hk : zb6 k = true) : ((za8 s k).natAbs : Int) ≤ B := by
 obtain ⟨a, b, c, d⟩ := h;rcases zgz.1 hk with rfl | rfl | rfl | rfl
 ·show ((s.1).natAbs : Int) ≤ B; omega
 ·show ((s.2.1).natAbs : Int) ≤ B; omega
 ·show ((s.2.2.1).natAbs : Int) ≤ B; omega
 ·show ((s.2.2.2).natAbs : Int) ≤ B; omega
theorem Mild.right {L : List R3} (h : zh7 L = true) : Mild L := by
 obtain ⟨hok, hl⟩ := zny h;have hC := zdb.of hok (by omega);have hi := zf1 hok;refine ⟨hok, hC.within, fun x hx => ?_, hi.ok, fun k hk => ?_⟩
 ·obtain ⟨jj, hr, rfl⟩ := znh hx
  simp only [zh7, Bool.and_eq_true, List.all_eq_true] at h
  have := h.1 jj hr;simp only [zij, Bool.and_eq_true, Bool.not_eq_true', decide_eq_false_iff_not] at this
  show 0 ≤ jj.2.1
  omega
 ·have h1 := zpk hi.within hk
  have h2 := potD_le (k := k) hi.ok;have h3 := hi.few;omega
theorem Mild.note {L : List R3} (H : Mild L) {jj : R3} (hr : OkP jj.2.2) (hb : zep (zbi (ze L) jj)) : Mild (L ++ [jj]) := by
 refine ⟨?_, ?_, by rw [ze4]; exact hb⟩
 ·intro q hq
  rcases kab.1 hq with hq | hq
  ·exact H.ok q hq
  ·rw [kaa.1 hq]; exact hr
 ·intro k hk
  by_cases h : k ≤ L.length
  ·rw [List.take_append_of_le_length h]
   exact H.within k h
  ·rw [kae (by simp; omega), ze4]
   exact hb.within
theorem Mild.hear {L : List R3} (H : Mild L) {k d c : Int} {l : List P3} (hw : zbf k d c l = 0) : Mild (zp L k d l) := by
 obtain ⟨h1, h2, h3, h4, h5, h6⟩ := zh1 hw;rcases zjx (ze L) k d l with h' | ⟨rfl, hv, hn, h'⟩ | ⟨rfl, hn, h'⟩ | ⟨rfl, hn, h'⟩
 ·rw [zfd h']; exact H
 ·rw [zd7 h']
  obtain ⟨h7, h8⟩ := h6 rfl;exact H.note (zff h7) (H.bound.ready h1 h7 h8 hv hn)
 ·rw [zd7 h']; exact H.note zec (H.bound.done hn)
 ·rw [zd7 h']; exact H.note zec H.bound.drop
end Go.Proofs.YtpcnlifmkhagkaaGreat
