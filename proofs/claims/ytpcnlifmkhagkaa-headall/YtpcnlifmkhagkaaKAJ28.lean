import Derived.Test.YtpcnlifmkhagkaaKAJ20
set_option maxRecDepth 20000
set_option maxHeartbeats 20000000
namespace Go.Proofs.Ytpcnlifmkhagkaa
open Go.RowKit
open _root_.List renaming mem_map → kaa, filter_append → kab, append_nil → kac, filter_cons_of_neg → kad
def ze4 (P : Int → List P3) (d : Int) (l : List P3) : Int → List P3 := fun x => if x = d then l else P x
theorem zh6 {P : Int → List P3} {d : Int} {l : List P3} {x : Int} (h : x < d) : ze4 P d l x = P x := by unfold ze4; rw [if_neg (by omega)]
theorem more_new {P : Int → List P3} {d : Int} {l : List P3} : ze4 P d l d = l := by unfold ze4; rw [if_pos rfl]
theorem Inv.begin {n : Nat} {P : Int → List P3} {W : WW} (I : Inv n P W) {l : List P3} (hw : zay l n = 0) :
  ∃ P', (∀ d, d < za0 W → P' d = P d) ∧ Inv n P' { W with hd := (zo W.hd l).1 } ∧ ∀ q ∈ (zo W.hd l).2.1, zbq n P' { W with hd := (zo W.hd l).1 } q := by
 unfold zo
 by_cases c : 11 < W.hd.opn.length ∨ 63 < W.hd.next
 ·rw [if_pos c]
  exact ⟨P, fun _ _ => rfl, I, fun q hq => by cases hq⟩
 ·rw [if_neg c]
  have hnum := zgc I;have h0 := I.next0;have hb1 := I.boot1;have hb2 := I.boot20;have hpos : 0 ≤ za0 W := by unfold za0; omega
  have hnew : za0 { W with hd := { W.hd with opn := W.hd.opn ++ [(64 * W.hd.boot + W.hd.next, l, false, [])], next := W.hd.next + 1 } } = za0 W + 1 := by show 64 * W.hd.boot + (W.hd.next + 1) = 64 * W.hd.boot + W.hd.next + 1; omega
  refine ⟨ze4 P (za0 W) l, fun d hd => zh6 hd, ?_⟩
  have mem : ∀ x, x ∈ W.hd.opn ++ [(64 * W.hd.boot + W.hd.next, l, false, [])] → x ∈ W.hd.opn ∨ x = (za0 W, l, false, []) := fun x hx => by
   rcases List.mem_append.1 hx with hx | hx
   ·exact Or.inl hx
   ·exact Or.inr (List.mem_singleton.1 hx)
  have M : zdw P (ze4 P (za0 W) l) W { W with hd := { W.hd with opn := W.hd.opn ++ [(64 * W.hd.boot + W.hd.next, l, false, [])], next := W.hd.next + 1 } } := by
   refine zgi (by rw [hnew]; omega) (fun d hd => zh6 hd) (fun _ h => h) (fun _ _ h _ => h) ?_ ?_
   ·rintro d hd ⟨x, hx, e, hu⟩
    rcases mem x hx with hx | rfl
    ·exact ⟨x, hx, e, hu⟩
    ·exact absurd (show za0 W = d from e) (by omega)
   ·rintro d hd ⟨x, hx, e⟩
    rcases mem x hx with hx | rfl
    ·exact ⟨x, hx, e⟩
    ·exact absurd (show za0 W = d from e) (by omega)
  have hnd : ¬ zbf W (za0 W) := fun ⟨x, hx, e⟩ => by have := (I.dec x hx).2.1; omega
  have O : zgr n (ze4 P (za0 W) l) { W with hd := { W.hd with opn := W.hd.opn ++ [(64 * W.hd.boot + W.hd.next, l, false, [])], next := W.hd.next + 1 } } (za0 W, l, false, []) :=
   ⟨hpos, by rw [hnew]; show za0 W < _; omega, more_new.symm, hw, List.nodup_nil, (fun k hk => by cases hk), ziv I.n3 hw, ⟨(fun h => by cases h), (fun h => absurd h hnd)⟩, (fun _ k hk => by cases hk), (fun h => by cases h)⟩
  have I' : Inv n (ze4 P (za0 W) l) { W with hd := { W.hd with opn := W.hd.opn ++ [(64 * W.hd.boot + W.hd.next, l, false, [])], next := W.hd.next + 1 } } := by
   refine I.ofHead M I.boot1 I.boot20 (by show 0 ≤ W.hd.next + 1; omega) (by show W.hd.next + 1 ≤ 64; omega) I.bootL (by show (W.hd.opn ++ _).length ≤ 12; rw [List.length_append]; simp; omega) ?_ ?_ ?_ I.decNd I.dr ?_ ?_ I.hlNd I.hlIn
   ·show ((W.hd.opn ++ [((64 * W.hd.boot + W.hd.next, l, false, []) : O4)]).map (fun o : O4 => o.1)).Nodup
    rw [List.map_append, List.nodup_append];refine ⟨I.apart, by simp, fun a ha b hb e => ?_⟩;simp at hb
    obtain ⟨x, hx, e'⟩ := kaa.1 ha;have := (I.opn x hx).old;unfold za0 at this
    omega
   ·intro x hx
    rcases mem x hx with hx | rfl
    ·have Y := I.opn x hx
     exact ⟨Y.pos, Int.lt_of_lt_of_le Y.old M.num, by rw [zh6 Y.old]; exact Y.parts, Y.right, Y.nd, Y.sub, Y.less, Y.dec, Y.rdy, Y.dn⟩
    ·exact O
   ·intro x hx
    obtain ⟨h1, h2, h3, h4⟩ := I.dec x hx;exact ⟨h1, Int.lt_of_lt_of_le h2 M.num, by rw [zh6 h2]; exact h3, h4⟩
   ·intro x hx hno
    exact I.en x hx (fun ⟨y, hy, e⟩ => hno ⟨y, List.mem_append.2 (Or.inl hy), e⟩)
   ·intro d
    rw [I.hl d];constructor
    ·rintro ⟨x, hx, e, hd⟩
     exact ⟨x, List.mem_append.2 (Or.inl hx), e, hd⟩
    ·rintro ⟨x, hx, e, hd⟩
     rcases mem x hx with hx | rfl
     ·exact ⟨x, hx, e, hd⟩
     ·cases hd
  exact ⟨I', fun q hq => zi2 I.n3 (zgc I') O q hq⟩
theorem Inv.fall {n : Nat} {P : Int → List P3} {W : WW} (I : Inv n P W) : Inv n P { W with hd := (zah W.hd).1 } := by
 unfold zah
 by_cases c : 19 < W.hd.boot
 ·rw [if_pos c]; exact I
 ·rw [if_neg c]
  have hD : zab (W.hd.log ++ [(4, 0, [])]) = zab W.hd.log := by rw [zfe, if_neg (show ¬ (4 : Int) = 5 by decide), kac]
  have hH : zac (W.hd.log ++ [(4, 0, [])]) = ((zac W.hd.log).1 + 1, (zac W.hd.log).2) := by rw [zgo]; rfl
  have hO : zw (W.hd.log ++ [(4, 0, [])]) = ⟨W.hd.log ++ [(4, 0, [])], W.hd.boot + 1, 0, (zac W.hd.log).2.map fun x => (x.1, x.2, true, [])⟩ := by
   unfold zw
   rw [hH, I.bootL]
  rw [hO];have h64 := I.next64;have hb1 := I.boot1;have hnew : za0 { W with hd := ⟨W.hd.log ++ [(4, 0, [])], W.hd.boot + 1, 0, (zac W.hd.log).2.map fun x => (x.1, x.2, true, [])⟩ } = 64 * (W.hd.boot + 1) + 0 := rfl;have hge : za0 W ≤ 64 * (W.hd.boot + 1) + 0 := by unfold za0; omega
  have hdc : ∀ d, zbf { W with hd := ⟨W.hd.log ++ [(4, 0, [])], W.hd.boot + 1, 0, (zac W.hd.log).2.map fun x => (x.1, x.2, true, [])⟩ } d ↔ zbf W d := fun d => by
   unfold zbf
   simp only [hD]
  have hop : ∀ d, zds { W with hd := ⟨W.hd.log ++ [(4, 0, [])], W.hd.boot + 1, 0, (zac W.hd.log).2.map fun x => (x.1, x.2, true, [])⟩ } d → ∃ o ∈ W.hd.opn, o.1 = d ∧ o.2.2.1 = true := fun d ⟨o, ho, e⟩ => by
   obtain ⟨x, hx, rfl⟩ := kaa.1 ho;exact (I.hl d).1 ⟨x, hx, e⟩
  have M : zdw P P W { W with hd := ⟨W.hd.log ++ [(4, 0, [])], W.hd.boot + 1, 0, (zac W.hd.log).2.map fun x => (x.1, x.2, true, [])⟩ } := by
   refine zgi (by rw [hnew]; exact hge) (fun _ _ => rfl) (fun d h => (hdc d).2 h) (fun d _ h _ => (hdc d).1 h) ?_ ?_
   ·rintro d _ ⟨o, ho, e, hu⟩
    obtain ⟨x, hx, rfl⟩ := kaa.1 ho;cases hu
   ·intro d _ h
    obtain ⟨o, ho, e, _⟩ := hop d h;exact ⟨o, ho, e⟩
  refine I.ofHead M (by show 1 ≤ W.hd.boot + 1; omega) (by show W.hd.boot + 1 ≤ 20; omega) (by show (0 : Int) ≤ 0; omega) (by show (0 : Int) ≤ 64; omega) ?_ ?_ ?_ ?_ ?_ ?_ ?_ ?_ ?_ ?_ ?_
  ·show W.hd.boot + 1 = (zac (W.hd.log ++ [(4, 0, [])])).1; rw [hH, I.bootL]
  ·show ((zac W.hd.log).2.map fun x => ((x.1, x.2, true, []) : O4)).length ≤ 12
   rw [List.length_map]
   have h1 := zf9 I.hlNd (B := W.hd.opn.map (·.1)) (fun d hd => by
    obtain ⟨x, hx, e⟩ := kaa.1 hd;obtain ⟨o, ho, e', _⟩ := (I.hl d).1 ⟨x, hx, e⟩
    exact kaa.2 ⟨o, ho, e'⟩)
   rw [List.length_map, List.length_map] at h1;have := I.few;omega
  ·show (((zac W.hd.log).2.map fun x => ((x.1, x.2, true, []) : O4)).map (fun o : O4 => o.1)).Nodup
   rw [List.map_map];exact I.hlNd
  ·intro o ho
   obtain ⟨x, hx, rfl⟩ := kaa.1 ho;have hxD := I.hlIn x hx;obtain ⟨h1, h2, h3, h4⟩ := I.dec x hxD;exact ⟨h1, Int.lt_of_lt_of_le h2 hge, h3, h4, List.nodup_nil, (fun k hk => by cases hk), ziv I.n3 h4, ⟨fun _ => (hdc _).2 ⟨x, hxD, rfl⟩, fun _ => rfl⟩, (fun h => by cases h), (fun _ k hk => by cases hk)⟩
  ·show ∀ x ∈ zab (W.hd.log ++ [(4, 0, [])]), _
   rw [hD];intro x hx;obtain ⟨h1, h2, h3, h4⟩ := I.dec x hx;exact ⟨h1, Int.lt_of_lt_of_le h2 hge, h3, h4⟩
  ·show ((zab (W.hd.log ++ [(4, 0, [])])).map (·.1)).Nodup
   rw [hD]; exact I.decNd
  ·show ∀ x ∈ zab (W.hd.log ++ [(4, 0, [])]), _
   rw [hD]; exact I.dr
  ·show ∀ x ∈ zab (W.hd.log ++ [(4, 0, [])]), _
   rw [hD];intro x hx hno;refine I.en x hx (fun ⟨o, ho, e⟩ => hno ?_);have hdt := (I.opn o ho).dec.2 ⟨x, hx, e.symm⟩;obtain ⟨y, hy, e'⟩ := (I.hl x.1).2 ⟨o, ho, e, hdt⟩;exact ⟨(y.1, y.2, true, []), kaa.2 ⟨y, hy, rfl⟩, e'⟩
  ·intro d
   show (∃ x ∈ (zac (W.hd.log ++ [(4, 0, [])])).2, x.1 = d) ↔ ∃ o ∈ (zac W.hd.log).2.map fun x => ((x.1, x.2, true, []) : O4), o.1 = d ∧ o.2.2.1 = true
   rw [hH];constructor
   ·rintro ⟨x, hx, e⟩
    exact ⟨(x.1, x.2, true, []), kaa.2 ⟨x, hx, rfl⟩, e, rfl⟩
   ·rintro ⟨o, ho, e, _⟩
    obtain ⟨x, hx, rfl⟩ := kaa.1 ho;exact ⟨x, hx, e⟩
  ·show ((zac (W.hd.log ++ [(4, 0, [])])).2.map (·.1)).Nodup
   rw [hH]; exact I.hlNd
  ·show ∀ x ∈ (zac (W.hd.log ++ [(4, 0, [])])).2, x ∈ zab (W.hd.log ++ [(4, 0, [])])
   rw [hH, hD]; exact I.hlIn
theorem Inv.quit {n : Nat} {P : Int → List P3} {W : WW} (I : Inv n P W) : Inv n P { W with hd := (zu W.hd).1 } ∧ ∀ q ∈ (zu W.hd).2, zbq n P { W with hd := (zu W.hd).1 } q := by
 have mem : ∀ x, x ∈ (W.hd.opn.filter fun o => o.2.2.1) ↔ x ∈ W.hd.opn ∧ x.2.2.1 = true := fun x => List.mem_filter
 have M : zdw P P W { W with hd := (zu W.hd).1 } := zgi (Int.le_refl _) (fun _ _ => rfl) (fun _ h => h) (fun _ _ h _ => h) (fun d _ ⟨x, hx, e, hd⟩ => ⟨x, ((mem x).1 hx).1, e, hd⟩) (fun d _ ⟨x, hx, e⟩ => ⟨x, ((mem x).1 hx).1, e⟩)
 have I' : Inv n P { W with hd := (zu W.hd).1 } := by
  refine I.ofHead M I.boot1 I.boot20 I.next0 I.next64 I.bootL ?_ ?_ ?_ I.dec I.decNd I.dr ?_ ?_ I.hlNd I.hlIn
  ·exact Nat.le_trans (List.length_filter_le _ _) I.few
  ·exact List.Nodup.sublist (List.Sublist.map _ List.filter_sublist) I.apart
  ·intro x hx
   have Y := I.opn x ((mem x).1 hx).1;exact ⟨Y.pos, Y.old, Y.parts, Y.right, Y.nd, Y.sub, Y.less, Y.dec, Y.rdy, Y.dn⟩
  ·intro x hx hno
   refine I.en x hx (fun ⟨o, ho, e⟩ => hno ⟨o, (mem o).2 ⟨ho, (I.opn o ho).dec.2 ⟨x, hx, e.symm⟩⟩, e⟩)
  ·intro d
   show (∃ x ∈ (zac W.hd.log).2, x.1 = d) ↔ ∃ o ∈ (W.hd.opn.filter fun o => o.2.2.1), o.1 = d ∧ o.2.2.1 = true
   rw [I.hl d];constructor
   ·rintro ⟨x, hx, e, hd⟩
    exact ⟨x, (mem x).2 ⟨hx, hd⟩, e, hd⟩
   ·rintro ⟨x, hx, e, hd⟩
    exact ⟨x, ((mem x).1 hx).1, e, hd⟩
 refine ⟨I', fun q hq => ?_⟩;obtain ⟨o, ho, hq⟩ := List.mem_flatMap.1 hq;obtain ⟨ho, hu⟩ := List.mem_filter.1 ho;have hu' : o.2.2.1 = false := by simpa using hu
 have O := I.opn o ho;refine zlj (P := P) (W := { W with hd := (zu W.hd).1 }) I.n3 (zgc I') O.pos O.old O.right (fun ⟨x, hx, e⟩ => ?_) (fun h => ?_) q hq
 ·have hxo := zkg I.apart x ((mem x).1 hx).1 o ho e
  have := ((mem x).1 hx).2;rw [hxo, hu'] at this;cases this
 ·have := O.dec.2 h
  rw [hu'] at this;cases this
theorem Inv.tick {n : Nat} {P : Int → List P3} {W : WW} (I : Inv n P W) : ∀ q ∈ zev W.hd, zbq n P W q := fun q hq => by
 obtain ⟨o, ho, hq⟩ := List.mem_flatMap.1 hq;exact zi2 I.n3 (zgc I) (I.opn o ho) q hq
theorem Inv.asks {n : Nat} {P : Int → List P3} {W : WW} (I : Inv n P W) {k : Int} (h0 : 0 ≤ k) (hk : k < n) : ∀ q ∈ askW (ze (W.at k)).2.1 k, zbq n P W q := fun q hq => by
 obtain ⟨x, hx, rfl⟩ := kaa.1 hq;have zY := I.hou k h0 hk;have h1 := zY.old x hx;have h2 := zgc I;have h3 := zY.good.lone.pos x hx;have h4 := I.n3;exact ⟨by unfold zbd; simp; omega, hk, h1, fun h => absurd h (by simp), fun h => absurd h (by simp), fun h => absurd h (by simp), fun h => absurd h (by simp), fun h => absurd h (by simp), fun _ => (zY.parts x hx).2⟩
theorem zi5 {n : Nat} (hn : n ≤ 3) (P : Int → List P3) : Inv n P (zaz n) := by
 have e : zw [(4, 0, [])] = ⟨[(4, 0, [])], 1, 0, []⟩ := rfl
 have hat : ∀ k, (zaz n).at k = [] := fun k => by
  unfold WW.at zaz
  simp only [List.getD_eq_getElem?_getD, List.getElem?_replicate]
  split <;> rfl
 refine ⟨hn, by simp [zaz], by simp [zaz, e], by simp [zaz, e], by simp [zaz, e], by simp [zaz, e], rfl, by simp [zaz], by simp [zaz, e], by simp [zaz, e], (fun o ho => by simp [zaz, e] at ho), (fun x hx => by simp [zaz, e, zab] at hx), by simp [zaz, e, zab], (fun x hx => by simp [zaz, e, zab] at hx), (fun x hx => by simp [zaz, e, zab] at hx), ?_, by simp [zaz, e, zac, zdl], (fun x hx => by simp [zaz, e, zac, zdl] at hx), (fun m hm => by simp [zaz] at hm), ?_⟩
 ·intro d
  simp [zaz, e, zac, zdl]
 ·intro k _ _
  exact ⟨by rw [hat]; exact good_nil, by rw [hat]; simp [ze], by rw [hat]; simp [ze], by rw [hat]; simp [ze], by rw [hat]; simp [ze], by rw [hat]; simp [ze], by rw [hat]; simp [ze]⟩
theorem Inv.come {n : Nat} {P : Int → List P3} {W : WW} (I : Inv n P W) {m : Q4} (hm : zbq n P W m) : Inv n P (zee W m) := by
 unfold zee
 split
 ·split
  ·rename_i hk
   obtain ⟨I', h⟩ := I.hear hm hk;exact I'.send h
  ·obtain ⟨I', h⟩ := I.head hm
   exact I'.send h
 ·exact I
theorem Inv.step {n : Nat} {P : Int → List P3} {W : WW} (I : Inv n P W) (s : Int × Int × List P3) : ∃ P', (∀ d, d < za0 W → P' d = P d) ∧ Inv n P' (zl W s).1 := by
 unfold zl
 split
 ·split
  ·rename_i hw
   rw [I.len] at hw;obtain ⟨P', h1, h2, h3⟩ := I.begin hw;exact ⟨P', h1, h2.send h3⟩
  ·exact ⟨P, fun _ _ => rfl, I⟩
 refine ⟨P, fun _ _ => rfl, ?_⟩;split
 ·split
  ·cases hg : W.net[s.2.1.toNat]? with
   | none => exact I
   | some m =>
    have hmem := List.mem_of_getElem? hg;have hm := I.net m hmem;simp only
    split
    ·refine I.netOf ?_ ?_
     ·split
      ·rw [List.length_append]; simp; omega
      ·exact I.small
     ·intro q hq
      split at hq
      ·rcases List.mem_append.1 hq with hq | hq
       ·exact I.net q hq
       ·rw [List.mem_singleton.1 hq]; exact hm
      ·exact I.net q hq
    ·have I2 : Inv n P { W with net := W.net.eraseIdx s.2.1.toNat } := I.netOf (Nat.le_trans (List.length_eraseIdx_le _ _) I.small) (fun q hq => I.net q (List.mem_of_mem_eraseIdx hq))
     split
     ·exact I2
     ·exact I2.come ⟨hm.right, hm.here, hm.old, hm.prep, hm.yes, hm.com, hm.abo, hm.ack, hm.ask⟩
  ·exact I
 split
 ·split
  ·exact I.fall
  ·split
   ·exact I
   ·exact I
 split
 ·split
  ·exact I.send I.tick
  ·split
   ·exact I
   ·rename_i h1 h2
    rw [I.len] at h2;exact I.send (I.asks (by omega) (by omega))
 split
 ·obtain ⟨h1, h2⟩ := I.quit
  exact h1.send h2
 ·exact I
theorem inv_play {n : Nat} (hn : n ≤ 3) (l : List (Int × Int × List P3)) : ∃ P, Inv n P (zav n l) := by
 unfold zav
 suffices h : ∀ (l : List (Int × Int × List P3)) (W : WW), (∃ P, Inv n P W) → ∃ P, Inv n P (l.foldl (fun W s => (zl W s).1) W) from h _ _ ⟨fun _ => [], zi5 hn _⟩
 intro l
 induction l with
 | nil => exact fun W h => h
 | cons s t ih =>
  intro W ⟨P, I⟩;obtain ⟨P', _, I'⟩ := I.step s;exact ih _ ⟨P', I'⟩
def zdc (W : WW) (d : Int) : Bool := zad (zab W.hd.log) d
theorem zis {W : WW} {d : Int} : zdc W d = true ↔ zbf W d := hasD_mem
theorem zix {W : WW} {d : Int} (h : ¬ zbf W d) : zdc W d = false := by
 cases hb : zdc W d
 ·rfl
 ·exact absurd (zis.1 hb) h
def vS (W : WW) (k : Int) : S4 := doB (ze (W.at k)).1 (((ze (W.at k)).2.1.filter fun x => zdc W x.1).flatMap (·.2))
abbrev zgb (n : Nat) : List S4 := List.replicate n (0, 0, 0, 0)
structure zda (n : Nat) (W : WW) : Prop where
 errs : ∀ e ∈ zgy (zgb n) ((zab W.hd.log).map (·.2)), e = 0
 sums : ∀ k, k < n → (zd4 (zgb n) ((zab W.hd.log).map (·.2)))[k]? = some (vS W k)
theorem zl2 {l m : List P3} (h : l.Perm m) (s : S4) : doB s l = doB s m := h.foldl_eq' (fun x _ y _ z => zlp z x y) s
theorem doB_app (s : S4) (l m : List P3) : doB s (l ++ m) = doB (doB s l) m := by simp [doB]
theorem ze3 {n : Nat} {W W' : WW} (zQ : zda n W) (hs : W'.hs = W.hs) (hD : zab W'.hd.log = zab W.hd.log) : zda n W' := by
 have hv : ∀ k, vS W' k = vS W k := fun k => by
  unfold vS zdc WW.at
  rw [hs, hD]
 exact ⟨by rw [hD]; exact zQ.errs, fun k hk => by rw [hD, hv]; exact zQ.sums k hk⟩
theorem zi4 {n : Nat} {W : WW} (zQ : zda n W) {k : Int} (hk : k.toNat < W.hs.length) (hk0 : 0 ≤ k) {L : List R3} (hv : vS (W.put k L) k = vS W k) : zda n (W.put k L) := by
 refine ⟨zQ.errs, fun j hj => ?_⟩;show (zd4 (zgb n) ((zab W.hd.log).map (·.2)))[j]? = some (vS (W.put k L) j)
 rw [zQ.sums j hj];by_cases e : (j : Int) = k
 ·rw [e, hv]
 ·have ea : (W.put k L).at j = W.at j := by rw [zg2 hk, if_neg (by omega)]
  unfold vS
  rw [ea];rfl
theorem zjq {D : List D2} {d : Int} (nd : (D.map (·.1)).Nodup) (h : zad D d = true) : ∃ A l B, D = A ++ (d, l) :: B ∧ zcg D d = l ∧ zao D d = A ++ B ∧ (∀ y, y ∈ A ∨ y ∈ B → y.1 ≠ d) := by
 obtain ⟨A, x, B, hD, hx, hA, hf⟩ := zit h;subst hx
 have hB : ∀ y ∈ B, y.1 ≠ x.1 := by
  rw [hD, List.map_append, List.map_cons, List.nodup_append, List.nodup_cons] at nd;exact fun y hy e => nd.2.1.1 (e ▸ kaa.2 ⟨y, hy, rfl⟩)
 refine ⟨A, x.2, B, hD, hf, ?_, fun y hy => hy.elim (hA y) (hB y)⟩;rw [hD];unfold zao
 rw [kab, kad (by simp)];rw [List.filter_eq_self.2 (fun y hy => by simpa using hA y hy), List.filter_eq_self.2 (fun y hy => by simpa using hB y hy)]
theorem even_hear {n : Nat} {P : Int → List P3} {W : WW} (I : Inv n P W) (zQ : zda n W) {m : Q4} (hm : zbq n P W m) : zda n (W.put m.2.2.1 (zr (W.at m.2.2.1) m.1 m.2.1 m.2.2.2)) := by
 obtain ⟨kd, d, k, l⟩ := m;have hr := hm.right;have hhere := hm.here;have hprep := hm.prep;have hcom := hm.com;have habo := hm.abo;simp only at hr hhere hprep hcom habo ⊢
 have hk0 : 0 ≤ k := by
  unfold zbd at hr
  split at hr
  ·cases hr
  ·split at hr
   ·cases hr
   ·omega
 have hkl : k.toNat < W.hs.length := by rw [I.len]; omega
 have zY := I.hou k hk0 hhere;have qj : ∀ L, (W.put k L).at k = L := fun L => by rw [zg2 hkl, if_pos rfl]
 rcases zj5 (ze (W.at k)) kd d l with h | ⟨rfl, hv, hn, h⟩ | ⟨rfl, hn, h⟩ | ⟨rfl, hn, h⟩
 ·rw [zfb h, zlc W k hkl]; exact zQ
 ·rw [zd6 h]
  have hnd : ¬ zbf W d := fun ⟨x, hx, e⟩ => by
   have hp := (I.dec x hx).2.2.1;rcases I.dr x hx k (by rw [hp, e]; exact (hprep rfl).2) with h1 | h1
   ·unfold zd0 at h1; rw [e, hn] at h1; cases h1
   ·unfold dnW at h1; rw [e, (zjj hv).1] at h1; cases h1
  refine zi4 zQ hkl hk0 ?_;have hB : ze (W.at k ++ [(1, d, l)]) = ((ze (W.at k)).1, (ze (W.at k)).2.1 ++ [(d, l)], (ze (W.at k)).2.2) := by rw [zey, hstep1 hn]
  unfold vS
  rw [qj, hB];show doB (ze (W.at k)).1 ((((ze (W.at k)).2.1 ++ [(d, l)]).filter fun x => zdc W x.1).flatMap (·.2)) = _
  rw [kab, kad (by rw [zix hnd]; simp), List.filter_nil, kac]
 ·rw [zd6 h]
  have hc := (hcom rfl).1;refine zi4 zQ hkl hk0 ?_;have hB : ze (W.at k ++ [(2, d, [])]) = (doB (ze (W.at k)).1 (zcg (ze (W.at k)).2.1 d), zao (ze (W.at k)).2.1 d, (ze (W.at k)).2.2 ++ [d]) := by rw [zey, hstep2 hn]
  obtain ⟨A, l', B, hD, hf, hdr, _⟩ := zjq zY.good.lone.nd hn;unfold vS
  rw [qj, hB];show doB (doB (ze (W.at k)).1 (zcg (ze (W.at k)).2.1 d)) (((zao (ze (W.at k)).2.1 d).filter fun x => zdc W x.1).flatMap (·.2)) = _
  rw [hf, hdr, hD, ← doB_app];refine zl2 ?_ _;rw [kab, kab, List.filter_cons_of_pos (p := fun x : D2 => zdc W x.1) (a := (d, l')) (zis.2 hc), List.flatMap_append, List.flatMap_append, List.flatMap_cons];exact List.perm_append_comm_assoc _ _ _
 ·rw [zd6 h]
  have hnd : ¬ zbf W d := fun hc => by
   have h1 := (habo rfl).2 hc;have := zY.apart d (zci.1 h1);rw [hn] at this;cases this
  refine zi4 zQ hkl hk0 ?_;have hB : ze (W.at k ++ [(3, d, [])]) = ((ze (W.at k)).1, zao (ze (W.at k)).2.1 d, (ze (W.at k)).2.2) := by rw [zey, hstep3]
  obtain ⟨A, l', B, hD, hf, hdr, _⟩ := zjq zY.good.lone.nd hn;unfold vS
  rw [qj, hB];show doB (ze (W.at k)).1 (((zao (ze (W.at k)).2.1 d).filter fun x => zdc W x.1).flatMap (·.2)) = _
  rw [hdr, hD, kab, kab, kad (by rw [zix hnd]; simp)]
theorem zoj {n : Nat} {P : Int → List P3} {W W' : WW} (I : Inv n P W) (I' : Inv n P W') (zQ : zda n W) (hs : W'.hs = W.hs) {x : D2} (hD : zab W'.hd.log = zab W.hd.log ++ [x]) : zda n W' := by
 obtain ⟨d, l⟩ := x;have hx : (d, l) ∈ zab W'.hd.log := by rw [hD]; simp
 obtain ⟨_, _, hlP, hlr⟩ := I'.dec _ hx;simp only at hlP hlr
 have hnd : ¬ zbf W d := fun h => by
  have := I'.decNd;rw [hD, List.map_append, List.nodup_append] at this;exact this.2.2 d (dcd_iff.1 h) d (by simp) rfl
 have hat : ∀ k, W'.at k = W.at k := fun k => by unfold WW.at; rw [hs]
 have hdec : ∀ e, zdc W' e = (zdc W e || decide (d = e)) := fun e => by unfold zdc; rw [hD, zg5]
 have hM : (zd4 (zgb n) ((zab W.hd.log).map (·.2))).length = n := by rw [zl4]; simp
 have hget : ∀ k (hk : k < n), (zd4 (zgb n) ((zab W.hd.log).map (·.2)))[k]'(by rw [hM]; exact hk) = vS W k := fun k hk => by
  have := zQ.sums k hk;rw [List.getElem?_eq_getElem (by rw [hM]; exact hk)] at this;exact Option.some.inj this
 have hrd : ∀ k : Nat, k < n → (k : Int) ∈ zp l → ∃ A B, (ze (W.at k)).2.1 = A ++ (d, ofB l k) :: B ∧ (∀ y, y ∈ A ∨ y ∈ B → y.1 ≠ d) := fun k hk hkh => by
  have zY := I.hou k (by omega) (by omega)
  have h1 : zad (ze (W.at k)).2.1 d = true := by
   rcases I'.dr _ hx k hkh with h | h
   ·unfold zd0 at h; rw [hat] at h; exact h
   ·unfold dnW at h; rw [hat] at h; exact absurd (zY.done d (zci.1 h)).1 hnd
  obtain ⟨A, l', B, hDk, hf, _, ho⟩ := zjq zY.good.lone.nd h1;refine ⟨A, B, ?_, ho⟩;have := (zY.parts (d, l') (by rw [hDk]; simp)).1;simp only at this
  rw [hlP, ← this];exact hDk
 have hno : ∀ k : Nat, k < n → (k : Int) ∉ zp l → ofB l k = [] ∧ ∀ y ∈ (ze (W.at k)).2.1, y.1 ≠ d := fun k hk hkh => by
  have zY := I.hou k (by omega) (by omega);have h3 := I.n3;refine ⟨?_, fun y hy e => hkh ?_⟩
  ·rcases Nat.eq_zero_or_pos (ofB l k).length with h | h
   ·exact List.eq_nil_of_length_eq_zero h
   ·exact absurd (zjx.2 ⟨by omega, h⟩) hkh
  ·have := (zY.parts y hy).2
   rw [e, ← hlP] at this;exact this
 have herr : errM (zd4 (zgb n) ((zab W.hd.log).map (·.2))) l = 0 := by
  unfold errM
  rw [zjp];intro k hk;have hkn : k < n := by rw [hM] at hk; exact hk
  rw [hget k hkn, Nat.zero_add];show zcp (vS W k) (ofB l k) = 0
  by_cases hkh : (k : Int) ∈ zp l
  ·obtain ⟨A, B, hDk, ho⟩ := hrd k hkn hkh
   have zY := I.hou k (by omega) (by omega);rw [zjt];intro p hp hkey;have hin : (d, ofB l k) ∈ (ze (W.at k)).2.1 := by rw [hDk]; simp
   have hfit := zY.good.lone.fits _ hin p hp
   have hnone : za7 (vS W k) p.2.1 = za7 (ze (W.at k)).1 p.2.1 := by
    unfold vS
    refine zij hkey (fun q hq => ?_);obtain ⟨y, hy, hqy⟩ := List.mem_flatMap.1 hq;obtain ⟨hyD, hyd⟩ := List.mem_filter.1 hy;have hyne : y.1 ≠ d := fun e => hnd (zis.1 (by rw [← e]; exact hyd))
    exact zjn zY.good.lone.sep y hyD _ hin hyne q hqy p hp
   rw [hnone];exact hfit
  ·rw [(hno k hkn hkh).1]
   rfl
 refine ⟨?_, fun k hk => ?_⟩
 ·rw [hD, List.map_append]
  intro e he;rw [show ([(d, l)] : List D2).map (·.2) = [l] from rfl, zkx] at he;rcases List.mem_append.1 he with he | he
  ·exact zQ.errs e he
  ·rw [List.mem_singleton.1 he]; exact herr
 ·rw [hD, List.map_append, show ([(d, l)] : List D2).map (·.2) = [l] from rfl, zmv]
  unfold doM
  rw [if_pos herr, List.getElem?_eq_getElem (by rw [zig, hM]; exact hk)];congr 1
  rw [zks l 0 _ k (by rw [hM]; exact hk), hget k hk, Nat.zero_add];show doB (vS W k) (ofB l k) = vS W' k
  unfold vS
  rw [hat, ← doB_app];by_cases hkh : (k : Int) ∈ zp l
  ·obtain ⟨A, B, hDk, ho⟩ := hrd k hk hkh
   rw [hDk];refine zl2 ?_ _;have fA : A.filter (fun x => zdc W' x.1) = A.filter (fun x => zdc W x.1) := List.filter_congr (fun y hy => by rw [hdec, decide_eq_false (fun e => ho y (Or.inl hy) e.symm), Bool.or_false]);have fB : B.filter (fun x => zdc W' x.1) = B.filter (fun x => zdc W x.1) := List.filter_congr (fun y hy => by rw [hdec, decide_eq_false (fun e => ho y (Or.inr hy) e.symm), Bool.or_false]);rw [kab, kad (by rw [zix hnd]; simp), kab, List.filter_cons_of_pos (by rw [hdec]; simp), fA, fB];rw [List.flatMap_append, List.flatMap_append, List.flatMap_cons, List.append_assoc];exact List.Perm.append_left _ List.perm_append_comm
  ·obtain ⟨h1, h2⟩ := hno k hk hkh
   rw [h1, kac];have : (ze (W.at k)).2.1.filter (fun x => zdc W' x.1) = (ze (W.at k)).2.1.filter (fun x => zdc W x.1) := List.filter_congr (fun y hy => by rw [hdec, decide_eq_false (fun e => h2 y hy e.symm), Bool.or_false]);rw [this]
theorem zhz (m : Q4) (o : O4) : (zq m o).2.1 = [] ∨ (zq m o).2.1 = [(5, o.1, o.2.1)] ∨ (zq m o).2.1 = [(6, o.1, [])] := by
 unfold zq
 repeat' split
 all_goals simp
theorem even_head {n : Nat} {P : Int → List P3} {W : WW} (I : Inv n P W) (zQ : zda n W) {m : Q4} (hm : zbq n P W m) : zda n { W with hd := (zh W.hd m).1 } := by
 have I' := (I.head hm).1;revert I'
 unfold zh
 cases hh : zbx m W.hd.opn with
 | none => exact fun _ => zQ
 | some x =>
  obtain ⟨A, o, B, ho, eo, rfl⟩ := zf4 hh;simp only
  intro I';rcases zhz m o with e | e | e
  ·exact ze3 zQ rfl (by show zab (W.hd.log ++ (zq m o).2.1) = _; rw [e, kac])
  ·exact zoj I I' zQ rfl (x := (o.1, o.2.1)) (by show zab (W.hd.log ++ (zq m o).2.1) = _; rw [e, zfe, if_pos rfl])
  ·exact ze3 zQ rfl (by show zab (W.hd.log ++ (zq m o).2.1) = _; rw [e, zfe, if_neg (show ¬ (6 : Int) = 5 by decide), kac])
theorem even_come {n : Nat} {P : Int → List P3} {W : WW} (I : Inv n P W) (zQ : zda n W) {m : Q4} (hm : zbq n P W m) : zda n (zee W m) := by
 unfold zee
 split
 ·split
  ·exact ze3 (even_hear I zQ hm) rfl rfl
  ·exact ze3 (even_head I zQ hm) rfl rfl
 ·exact zQ
theorem even_step {n : Nat} {P : Int → List P3} {W : WW} (I : Inv n P W) (zQ : zda n W) (s : Int × Int × List P3) : zda n (zl W s).1 := by
 unfold zl
 split
 ·split
  ·refine ze3 zQ rfl ?_
   show zab (zo W.hd s.2.2).1.log = _
   unfold zo
   split <;> rfl
  ·exact zQ
 split
 ·split
  ·cases hg : W.net[s.2.1.toNat]? with
   | none => exact zQ
   | some m =>
    have hm := I.net m (List.mem_of_getElem? hg);simp only
    split
    ·exact ze3 zQ rfl rfl
    ·split
     ·exact ze3 zQ rfl rfl
     ·have I2 : Inv n P { W with net := W.net.eraseIdx s.2.1.toNat } := I.netOf (Nat.le_trans (List.length_eraseIdx_le _ _) I.small) (fun q hq => I.net q (List.mem_of_mem_eraseIdx hq))
      exact even_come I2 (ze3 zQ rfl rfl) ⟨hm.right, hm.here, hm.old, hm.prep, hm.yes, hm.com, hm.abo, hm.ack, hm.ask⟩
  ·exact zQ
 split
 ·split
  ·refine ze3 zQ rfl ?_
   show zab (zah W.hd).1.log = _
   unfold zah
   split
   ·rfl
   ·show zab (W.hd.log ++ [(4, 0, [])]) = _
    rw [zfe, if_neg (show ¬ (4 : Int) = 5 by decide), kac]
  ·split <;> exact zQ
 split
 ·split
  ·exact ze3 zQ rfl rfl
  ·split
   ·exact zQ
   ·exact ze3 zQ rfl rfl
 split
 ·exact ze3 zQ rfl rfl
 ·exact zQ
theorem even_new (n : Nat) : zda n (zaz n) := by
 have hD : zab (zaz n).hd.log = [] := rfl;refine ⟨by rw [hD]; simp [zgy], fun k hk => ?_⟩
 have hat : (zaz n).at k = [] := by
  unfold WW.at zaz
  simp only [List.getD_eq_getElem?_getD, List.getElem?_replicate]
  split <;> rfl
 rw [hD];unfold vS
 rw [hat];simp [zd4, zgb, hk, ze, doB]
theorem zoz {n : Nat} (hn : n ≤ 3) (l : List (Int × Int × List P3)) : ∃ P, Inv n P (zav n l) ∧ zda n (zav n l) := by
 unfold zav
 suffices h : ∀ (l : List (Int × Int × List P3)) (W : WW), (∃ P, Inv n P W ∧ zda n W) → ∃ P, Inv n P (l.foldl (fun W s => (zl W s).1) W) ∧ zda n (l.foldl (fun W s => (zl W s).1) W) from h _ _ ⟨fun _ => [], zi5 hn _, even_new n⟩
 intro l
 induction l with
 | nil => exact fun W h => h
 | cons s t ih =>
  intro W ⟨P, I, zQ⟩;obtain ⟨P', _, I'⟩ := I.step s;exact ih _ ⟨P', I', even_step I zQ s⟩
end Go.Proofs.Ytpcnlifmkhagkaa
