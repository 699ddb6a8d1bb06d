import Derived.Test.YtpcnlifmkhagkaaKAJ02
import Derived.Deep.RegionLaw
set_option maxRecDepth 20000
set_option maxHeartbeats 20000000
namespace Go.Proofs.Ytpcnlifmkhagkaa
open Go.RowKit
open Go.Value renaming slice → G, int → E
open Go.IntKind renaming i64 → J
open _root_.Option renaming none → U
open Go.Obj renaming cells → T
open Go.RowKit renaming Hid → Q, Below → Z
open Go.World renaming setCell → r
open _root_.Nat renaming le_refl → kaa
open _root_.List renaming filter_cons_of_neg → kab, filter_cons_of_pos → kac
attribute [local go_sem ↓] Go.wp_at_zero Go.wp_at_succ
theorem doV {f : Nat} {s : S4} {l : List P3} {args : Array Value} {w : World} {t0 t1 t2 t3 : Int} (hd : doB s l = (t0, t1, t2, t3))
  (h : Calls Try.prog f args w fun e w' => (∃ x0 x1 x2 x3, doB s l = (x0, x1, x2, x3) ∧ e = .returned (.agg #[E J x0, E J x1, E J x2, E J x3])) ∧ Z w.heap.size w w') :
  Calls Try.prog f args w fun e w' => e = .returned (.agg #[E J t0, E J t1, E J t2, E J t3]) ∧ Z w.heap.size w w' := by
 refine h.mono ?_;rintro e w' ⟨⟨x0, x1, x2, x3, hx, rfl⟩, hb⟩;rw [hd] at hx;simp only [Prod.mk.injEq] at hx
 obtain ⟨rfl, rfl, rfl, rfl⟩ := hx;exact ⟨rfl, hb⟩
theorem zcn : (Try.prog.info? 3).map (fun i => (i.zero, i.size, i.bytes)) = some (some (E J 0), 1, 8) := by kernel_rfl
theorem Blk.keptT {w w' : World} {b : Nat} {cs : Array Value} {t : TypeId} (h : Blk w b cs t) {row : Option Nat} (hg : w.grownBy w' row) (hr : ∀ k, row = some k → ∃ cs t', Blk w k cs t' ∧ t' ≠ t) : Blk w' b cs t := zj.grown hg hr _ _ h
theorem zd.neT {α : Type} {e : TypeId} {size : Nat} {enc : α → List Value} {w : World} {base : Nat} {v : Value} {xs : List α} (h : zd e size enc w base v xs) {g : Nat} {cs : Array Value} {t : TypeId} (hb : Blk w g cs t) (ht : t ≠ e) : v.ownBlock ≠ some g := fun hv => by
 obtain ⟨_, cs', hb'⟩ := h.blk hv;unfold Blk at hb hb'
 rw [hb] at hb';injection hb' with hb'
 injection hb' with _ q _
 exact ht q
def zby (zV : TypeId) (w w' : World) : Prop := ∀ b cs t, t ≠ zV → Blk w b cs t → Blk w' b cs t
theorem zby.trans {zV : TypeId} {a b c : World} (h : zby zV a b) (k : zby zV b c) : zby zV a c := fun _ _ _ ht x => k _ _ _ ht (h _ _ _ ht x)
theorem zby.setCell {zV : TypeId} {w : World} {a : Addr} {cs : Array Value} (hb : Blk w a.block cs zV) (u : Value) : zby zV w (r w a u) := fun _ _ _ ht x => zj.setCell hb (fun e => ht e.symm) u _ _ x
theorem zby.calm {zV t : TypeId} {w w' : World} (h : zby zV w w') (ht : t ≠ zV) : zj t w w' := fun _ _ x => h _ _ _ ht x
theorem zd.only {α : Type} {e zV : TypeId} {size : Nat} {enc : α → List Value} {w w' : World} {base : Nat} {v : Value} {xs : List α} (h : zd e size enc w base v xs) (ho : zby zV w w') (he : e ≠ zV) : zd e size enc w' base v xs := by
 refine ⟨h.1, ?_⟩;rcases h.2 with h0 | ⟨g, cap, cur, hv, hg, hh, jj⟩
 ·exact Or.inl h0
 ·exact Or.inr ⟨g, cap, cur, hv, hg, ho _ _ _ he hh, jj⟩
theorem fill7 {w : World} {N : Nat} {zV : TypeId} {c0 c1 c2 c3 c4 c5 c6 : Value} (hb : Blk w N #[c0, c1, c2, c3, c4, c5, c6] zV) (v0 v1 v2 v3 v4 v5 v6 : Value) :
  Blk (r (r (r (r (r (r (r w ⟨N, 0, U⟩ v0) ⟨N, 1, U⟩ v1) ⟨N, 2, U⟩ v2) ⟨N, 3, U⟩ v3) ⟨N, 4, U⟩ v4) ⟨N, 5, U⟩ v5) ⟨N, 6, U⟩ v6) N #[v0, v1, v2, v3, v4, v5, v6] zV ∧
  zby zV w (r (r (r (r (r (r (r w ⟨N, 0, U⟩ v0) ⟨N, 1, U⟩ v1) ⟨N, 2, U⟩ v2) ⟨N, 3, U⟩ v3) ⟨N, 4, U⟩ v4) ⟨N, 5, U⟩ v5) ⟨N, 6, U⟩ v6) := by
 have b0 : Blk (r w ⟨N, 0, U⟩ v0) N #[v0, c1, c2, c3, c4, c5, c6] zV := hb.set 0 v0;have b1 : Blk (r (r w ⟨N, 0, U⟩ v0) ⟨N, 1, U⟩ v1) N #[v0, v1, c2, c3, c4, c5, c6] zV := b0.set 1 v1;have b2 : Blk (r (r (r w ⟨N, 0, U⟩ v0) ⟨N, 1, U⟩ v1) ⟨N, 2, U⟩ v2) N #[v0, v1, v2, c3, c4, c5, c6] zV := b1.set 2 v2;have b3 : Blk (r (r (r (r w ⟨N, 0, U⟩ v0) ⟨N, 1, U⟩ v1) ⟨N, 2, U⟩ v2) ⟨N, 3, U⟩ v3) N #[v0, v1, v2, v3, c4, c5, c6] zV := b2.set 3 v3;have b4 : Blk (r (r (r (r (r w ⟨N, 0, U⟩ v0) ⟨N, 1, U⟩ v1) ⟨N, 2, U⟩ v2) ⟨N, 3, U⟩ v3) ⟨N, 4, U⟩ v4) N #[v0, v1, v2, v3, v4, c5, c6] zV := b3.set 4 v4;have b5 : Blk (r (r (r (r (r (r w ⟨N, 0, U⟩ v0) ⟨N, 1, U⟩ v1) ⟨N, 2, U⟩ v2) ⟨N, 3, U⟩ v3) ⟨N, 4, U⟩ v4) ⟨N, 5, U⟩ v5) N #[v0, v1, v2, v3, v4, v5, c6] zV := b4.set 5 v5;have b6 : Blk (r (r (r (r (r (r (r w ⟨N, 0, U⟩ v0) ⟨N, 1, U⟩ v1) ⟨N, 2, U⟩ v2) ⟨N, 3, U⟩ v3) ⟨N, 4, U⟩ v4) ⟨N, 5, U⟩ v5) ⟨N, 6, U⟩ v6) N #[v0, v1, v2, v3, v4, v5, v6] zV := b5.set 6 v6;exact ⟨b6, (((((((zby.setCell (a := ⟨N, 0, U⟩) hb v0).trans (zby.setCell (a := ⟨N, 1, U⟩) b0 v1)).trans (zby.setCell (a := ⟨N, 2, U⟩) b1 v2)).trans (zby.setCell (a := ⟨N, 3, U⟩) b2 v3)).trans (zby.setCell (a := ⟨N, 4, U⟩) b3 v4)).trans (zby.setCell (a := ⟨N, 5, U⟩) b4 v5)).trans (zby.setCell (a := ⟨N, 6, U⟩) b5 v6))⟩
def zez (w : World) (v : Value) (L : List R3) (h : H3) : Prop :=
 ∃ (la : Option Addr) (nl lc : Nat) (Y : List XL) (ra : Option Addr) (nr rc : Nat) (XR : List XD) (da : Option Addr) (nd dc : Nat),
  v = .agg #[G la nl lc, E J h.1.1, E J h.1.2.1, E J h.1.2.2.1, E J h.1.2.2.2, G ra nr rc, G da nd dc] ∧
  (nl = L.length ∧ Y.map zf = L ∧ zcc w la Y) ∧ (nr = XR.length ∧ XR.map zba = h.2.1 ∧ ze7 w ra XR) ∧ (nd = h.2.2.length ∧ nd ≤ dc ∧ dc ≤ maxLen ∧ zk 1 zv w da h.2.2)
theorem zez.below {w w' : World} {v : Value} {L : List R3} {h : H3} (hh : zez w v L h) (hb : Z w.heap.size w w') : zez w' v L h := by
 obtain ⟨la, nl, lc, Y, ra, nr, rc, XR, da, nd, dc, hv, ⟨h1, h2, h3⟩, ⟨h4, h5, h6⟩, h7, h8, h9, h10⟩ := hh;exact ⟨la, nl, lc, Y, ra, nr, rc, XR, da, nd, dc, hv, ⟨h1, h2, h3.below hb⟩, ⟨h4, h5, h6.below hb⟩, h7, h8, h9, h10.below hb⟩
def zck (base : Nat) (w : World) (v : Value) (L : List R3) (h : H3) : Prop :=
 ∃ (la : Option Addr) (nl lc : Nat) (Y : List XL) (ra : Option Addr) (nr rc : Nat) (XR : List XD) (da : Option Addr) (nd dc : Nat),
  v = .agg #[G la nl lc, E J h.1.1, E J h.1.2.1, E J h.1.2.2.1, E J h.1.2.2.2, G ra nr rc, G da nd dc] ∧
  (Y.map zf = L ∧ zdd w base (G la nl lc) Y) ∧ (XR.map zba = h.2.1 ∧ zd 70 2 zc1 w base (G ra nr rc) XR ∧ ∀ x ∈ XR, zam base w x.2.1.1 x.2.2) ∧ zd 3 1 zv w base (G da nd dc) h.2.2
def zhg (w : World) (v : Value) (L : List R3) (h : H3) : Prop := zck 0 w v L h
theorem zck.mono {base base' : Nat} {w : World} {v : Value} {L : List R3} {h : H3} (hh : zck base w v L h) (hb : base' ≤ base) : zck base' w v L h := by
 obtain ⟨la, nl, lc, Y, ra, nr, rc, XR, da, nd, dc, hv, ⟨h1, h2⟩, ⟨h3, h4, h5⟩, h6⟩ := hh;exact ⟨la, nl, lc, Y, ra, nr, rc, XR, da, nd, dc, hv, ⟨h1, h2.mono hb⟩, ⟨h3, h4.mono hb, fun x hx => (h5 x hx).mono hb⟩, h6.mono hb⟩
theorem zck.at {base : Nat} {w : World} {v : Value} {L : List R3} {h : H3} (hh : zck base w v L h) : zez w v L h := by
 obtain ⟨la, nl, lc, Y, ra, nr, rc, XR, da, nd, dc, hv, ⟨h1, h2⟩, ⟨h3, h4, h5⟩, h6⟩ := hh;have k1 := h2.1.at za4;have k2 := h4.at zdz;have k3 := h6.at zai;exact ⟨la, nl, lc, Y, ra, nr, rc, XR, da, nd, dc, hv, ⟨by rw [k1.2.1, ← h1, List.length_map], h1, h2.at⟩, ⟨k2.2.1, h3, k2.1, fun x hx => (h5 x hx).at⟩, k3.2.1, by rw [k3.2.1]; exact k3.2.2.1, k3.2.2.2, k3.1⟩
theorem zck.only {base : Nat} {w w' : World} {v : Value} {L : List R3} {h : H3} (hh : zck base w v L h) (ho : zby 100 w w') : zck base w' v L h := by
 obtain ⟨la, nl, lc, Y, ra, nr, rc, XR, da, nd, dc, hv, ⟨h1, h2⟩, ⟨h3, h4, h5⟩, h6⟩ := hh;exact ⟨la, nl, lc, Y, ra, nr, rc, XR, da, nd, dc, hv, ⟨h1, h2.1.only ho (by decide), fun y hy => (h2.2 y hy).calm (ho.calm (by decide))⟩, ⟨h3, h4.only ho (by decide), fun x hx => (h5 x hx).calm (ho.calm (by decide))⟩, h6.only ho (by decide)⟩
theorem zck.below {base : Nat} {w w' : World} {v : Value} {L : List R3} {h : H3} (hh : zck base w v L h) (hb : Z w.heap.size w w') : zck base w' v L h := by
 obtain ⟨la, nl, lc, Y, ra, nr, rc, XR, da, nd, dc, hv, ⟨h1, h2⟩, ⟨h3, h4, h5⟩, h6⟩ := hh;exact ⟨la, nl, lc, Y, ra, nr, rc, XR, da, nd, dc, hv, ⟨h1, h2.below hb⟩, ⟨h3, h4.below hb (kaa _), fun x hx => (h5 x hx).calm (zj.below hb (kaa _))⟩, h6.below hb (kaa _)⟩
theorem zhg.at {w : World} {v : Value} {L : List R3} {h : H3} (hh : zhg w v L h) : zez w v L h := zck.at hh
theorem zhg.only {w w' : World} {v : Value} {L : List R3} {h : H3} (hh : zhg w v L h) (ho : zby 100 w w') : zhg w' v L h := zck.only hh ho
def HAt (B base : Nat) (lv : Value) (w : World) (h : H3) : Prop :=
 ∃ (ra : Option Addr) (nr rc : Nat) (XR : List XD) (da : Option Addr) (nd dc : Nat),
  Blk w B #[lv, E J h.1.1, E J h.1.2.1, E J h.1.2.2.1, E J h.1.2.2.2, G ra nr rc, G da nd dc] 100 ∧
  zd 70 2 zc1 w base (G ra nr rc) XR ∧ (∀ x ∈ XR, zam base w x.2.1.1 x.2.2) ∧ XR.map zba = h.2.1 ∧ zd 3 1 zv w base (G da nd dc) h.2.2
theorem HAt.below {B base : Nat} {lv : Value} {w w' : World} {h : H3} (hh : HAt B base lv w h) (hb : Z w.heap.size w w') : HAt B base lv w' h := by
 obtain ⟨ra, nr, rc, XR, da, nd, dc, h1, h2, h3, h4, h5⟩ := hh;exact ⟨ra, nr, rc, XR, da, nd, dc, h1.below hb h1.lt, h2.below hb (kaa _), fun x hx => (h3 x hx).calm (zj.below hb (kaa _)), h4, h5.below hb (kaa _)⟩
theorem dropD_map (XR : List XD) (D : Int) : (XR.filter fun x => !decide (x.1 = D)).map zba = zao (XR.map zba) D := by
 unfold zao
 rw [List.filter_map];rfl
theorem HAt.put1 {B base : Nat} {lv : Value} {w : World} {h : H3} (hh : HAt B base lv w h) (t0 t1 t2 t3 : Int) :
  HAt B base lv (r (r (r (r w ⟨B, 1, U⟩ (E J t0)) ⟨B, 2, U⟩ (E J t1)) ⟨B, 3, U⟩ (E J t2)) ⟨B, 4, U⟩ (E J t3)) ((t0, t1, t2, t3), h.2.1, h.2.2) := by
 obtain ⟨ra, nr, rc, XR, da, nd, dc, hB, hR, hT, hD, hI⟩ := hh;have b1 := hB.set 1 (E J t0);have b2 := b1.set 2 (E J t1);have b3 := b2.set 3 (E J t2);refine ⟨ra, nr, rc, XR, da, nd, dc, b3.set 4 _, ?_, fun x hx => ?_, hD, ?_⟩
 ·exact (((hR.setOther (a := ⟨B, 1, U⟩) hB (by decide) _).setOther (a := ⟨B, 2, U⟩) b1 (by decide) _).setOther (a := ⟨B, 3, U⟩) b2 (by decide) _).setOther (a := ⟨B, 4, U⟩) b3 (by decide) _
 ·exact ((((hT x hx).calm (zj.setCell (a := ⟨B, 1, U⟩) hB (by decide) _)).calm (zj.setCell (a := ⟨B, 2, U⟩) b1 (by decide) _)).calm (zj.setCell (a := ⟨B, 3, U⟩) b2 (by decide) _)).calm (zj.setCell (a := ⟨B, 4, U⟩) b3 (by decide) _)
 ·exact (((hI.setOther (a := ⟨B, 1, U⟩) hB (by decide) _).setOther (a := ⟨B, 2, U⟩) b1 (by decide) _).setOther (a := ⟨B, 3, U⟩) b2 (by decide) _).setOther (a := ⟨B, 4, U⟩) b3 (by decide) _
theorem zom {h : H3} {jj : R3} {x : D2} (hx : x ∈ (zbg h jj).2.1) : x ∈ h.2.1 ∨ x = (jj.2.1, jj.2.2) := by
 unfold zbg at hx
 split at hx
 ·split at hx
  ·exact Or.inl hx
  ·rcases List.mem_append.1 hx with hx | hx
   ·exact Or.inl hx
   ·exact Or.inr (List.mem_singleton.1 hx)
 ·split at hx
  ·split at hx
   ·exact Or.inl (zcy hx).1
   ·exact Or.inl hx
  ·split at hx
   ·exact Or.inl (zcy hx).1
   ·exact Or.inl hx
theorem zkb {x : D2} : ∀ (M : List R3) (h : H3), x ∈ (M.foldl zbg h).2.1 → x ∈ h.2.1 ∨ ∃ jj ∈ M, x = (jj.2.1, jj.2.2)
 | [], h, hx => Or.inl hx
 | jj :: M, h, hx => by
  rw [List.foldl_cons] at hx;rcases zkb M _ hx with hx | ⟨q, hq, e⟩
  ·rcases zom hx with hx | e
   ·exact Or.inl hx
   ·exact Or.inr ⟨jj, by simp, e⟩
  ·exact Or.inr ⟨q, by simp [hq], e⟩
theorem zqg {L : List R3} {x : D2} (hx : x ∈ (ze L).2.1) : ∃ jj ∈ L, x = (jj.2.1, jj.2.2) := by
 rcases zkb L _ hx with hx | h
 ·cases hx
 ·exact h
abbrev I4 := List D2 × Bool × S4 × List Int
def zbn (k d : Int) (i : I4) (x : D2) : I4 :=
 if ¬ x.1 = d ∨ i.2.1 = true then (i.1 ++ [x], i.2)
 else if k = 2 then (i.1, true, doB i.2.2.1 x.2, i.2.2.2 ++ [d])
 else if k = 3 then (i.1, true, i.2.2.1, i.2.2.2)
 else (i.1 ++ [x], true, i.2.2)
def zbr (k d : Int) (s : S4) (dn : List Int) (D : List D2) : I4 := D.foldl (zbn k d) ([], false, s, dn)
theorem iall_snoc (k d : Int) (s : S4) (dn : List Int) (D : List D2) (x : D2) : zbr k d s dn (D ++ [x]) = zbn k d (zbr k d s dn D) x := by simp [zbr]
theorem iall_take {k d : Int} {s : S4} {dn : List Int} {D : List D2} {j : Nat} (h : j < D.length) : zbr k d s dn (D.take (j + 1)) = zbn k d (zbr k d s dn (D.take j)) D[j] := by rw [zax h, iall_snoc]
theorem zf7 (k d : Int) : ∀ (D : List D2) (i : I4), (i.2.1 = true ∨ ∀ x ∈ D, x.1 ≠ d) → D.foldl (zbn k d) i = (i.1 ++ D, i.2)
 | [], i, _ => by simp
 | x :: D, i, h => by
  have e : zbn k d i x = (i.1 ++ [x], i.2) := by
   unfold zbn
   rw [if_pos];rcases h with h | h
   ·exact Or.inr h
   ·exact Or.inl (h x (by simp))
  rw [List.foldl_cons, e, zf7 k d D _ (by
   rcases h with h | h
   ·exact Or.inl h
   ·exact Or.inr fun y hy => h y (by simp [hy]))]
  simp
theorem zka (k d : Int) : ∀ (D : List D2) (i : I4), (D.foldl (zbn k d) i).2.1 = false → (D.foldl (zbn k d) i).2.2 = i.2.2
 | [], _, _ => rfl
 | x :: D, i, h => by
  rw [List.foldl_cons] at h ⊢
  rw [zka k d D _ h];by_cases hm : (zbn k d i x).2.1 = true
  ·exfalso
   rw [zf7 k d D _ (Or.inl hm), hm] at h;cases h
  ·unfold zbn at hm ⊢
   split
   ·rfl
   ·rename_i hc
    rw [if_neg hc] at hm;split
    ·rename_i h2; rw [if_pos h2] at hm; exact absurd rfl hm
    ·rename_i h2
     rw [if_neg h2] at hm;split
     ·rfl
     ·rfl
theorem zp8 {k d : Int} {s : S4} {dn : List Int} {D : List D2} (h : (zbr k d s dn D).2.1 = false) : (zbr k d s dn D).2.2 = (s, dn) := zka k d D _ h
theorem zj1 (k d : Int) : ∀ (D : List D2) (i : I4), (D.foldl (zbn k d) i).1.length ≤ i.1.length + D.length ∧ (D.foldl (zbn k d) i).2.2.2.length ≤ i.2.2.2.length + D.length
 | [], _ => ⟨kaa _, kaa _⟩
 | x :: D, i => by
  obtain ⟨h1, h2⟩ := zj1 k d D (zbn k d i x)
  have hs : (zbn k d i x).1.length ≤ i.1.length + 1 ∧ (zbn k d i x).2.2.2.length ≤ i.2.2.2.length + 1 := by
   unfold zbn
   split
   ·simp
   ·split
    ·simp
    ·split <;> simp
  rw [List.foldl_cons, List.length_cons];omega
theorem zit {d : Int} : ∀ {D : List D2}, zad D d = true → ∃ A x B, D = A ++ x :: B ∧ x.1 = d ∧ (∀ y ∈ A, y.1 ≠ d) ∧ zcg D d = x.2
 | [], h => by cases h
 | x :: D, h => by
  by_cases hx : x.1 = d
  ·exact ⟨[], x, D, rfl, hx, (fun y hy => by cases hy), by simp [zcg, hx]⟩
  ·have h' : zad D d = true := by simpa [zad, hx] using h
   obtain ⟨A, y, B, rfl, hy, hA, hP⟩ := zit h';refine ⟨x :: A, y, B, rfl, hy, ?_, ?_⟩
   ·intro z hz
    rcases List.mem_cons.1 hz with rfl | hz
    ·exact hx
    ·exact hA z hz
   ·rw [← hP]
    simp [zcg, hx]
theorem zny {D : List D2} {d : Int} (h : zad D d = false) : ∀ x ∈ D, x.1 ≠ d := by
 simp only [zad, List.any_eq_false] at h
 exact fun x hx e => h x hx (decide_eq_true e)
theorem zjw {D : List D2} {d : Int} (h : ∀ x ∈ D, x.1 ≠ d) : zao D d = D := by
 unfold zao
 rw [List.filter_eq_self];exact fun x hx => by simp [h x hx]
def rstep (h : H3) (jj : R3) : H3 :=
 let i := zbr jj.1 jj.2.1 h.1 h.2.2 h.2.1
 (i.2.2.1, if jj.1 = 1 ∧ i.2.1 = false then i.1 ++ [(jj.2.1, jj.2.2)] else i.1, i.2.2.2)
theorem zpq {h : H3} (jj : R3) (nd : (h.2.1.map (·.1)).Nodup) : rstep h jj = zbg h jj := by
 obtain ⟨s, D, dn⟩ := h;obtain ⟨k, d, l⟩ := jj;simp only at nd
 unfold rstep zbg
 simp only
 cases hh : zad D d with
 | false =>
  have hn := zny hh
  have e : zbr k d s dn D = (D, false, s, dn) := by
   unfold zbr
   rw [zf7 k d D _ (Or.inr hn)];rfl
  rw [e, zjw hn];by_cases k1 : k = 1
  ·simp [k1]
  ·by_cases k2 : k = 2
   ·simp [k2]
   ·by_cases k3 : k = 3
    ·simp [k3]
    ·simp [k1, k2, k3]
 | true =>
  obtain ⟨A, x, B, rfl, hx, hA, hP⟩ := zit hh
  have hB : ∀ y ∈ B, y.1 ≠ d := by
   intro y hy e;rw [List.map_append, List.map_cons, List.nodup_append] at nd;have := nd.2.1;rw [List.nodup_cons] at this;exact this.1 (List.mem_map.2 ⟨y, hy, by rw [e, hx]⟩)
  have hdrop : zao (A ++ x :: B) d = A ++ B := by
   have e1 := zjw hA;have e2 := zjw hB;unfold zao at *
   rw [List.filter_append, e1, kab (by simp [hx]), e2]
  have e0 : zbr k d s dn (A ++ x :: B) = B.foldl (zbn k d) (zbn k d (A, false, s, dn) x) := by
   unfold zbr
   rw [List.foldl_append, zf7 k d A _ (Or.inr hA)];rfl
  rw [hP, hdrop, e0];by_cases k2 : k = 2
  ·subst k2
   have e1 : zbn 2 d (A, false, s, dn) x = (A, true, doB s x.2, dn ++ [d]) := by simp [zbn, hx]
   rw [e1, zf7 2 d B _ (Or.inl rfl)];simp
  ·by_cases k3 : k = 3
   ·subst k3
    have e1 : zbn 3 d (A, false, s, dn) x = (A, true, s, dn) := by simp [zbn, hx]
    rw [e1, zf7 3 d B _ (Or.inl rfl)];simp
   ·have e1 : zbn k d (A, false, s, dn) x = (A ++ [x], true, s, dn) := by simp [zbn, hx, k2, k3]
    rw [e1, zf7 k d B _ (Or.inl rfl)];simp [k2, k3]
theorem doB_lt_eq (s : S4) (l : List P3) (k : Int) : doB (doB s (l.filter fun p => decide (p.2.1 < k))) (l.filter fun p => decide (p.2.1 = k)) = doB s (l.filter fun p => decide (p.2.1 < k + 1)) := by
 induction l with
 | nil => rfl
 | cons p t ih =>
  by_cases h1 : p.2.1 < k
  ·have h2 : ¬ p.2.1 = k := by omega
   have h3 : p.2.1 < k + 1 := by omega
   rw [kac (p := fun p : P3 => decide (p.2.1 < k)) (by simpa using h1), kab (p := fun p : P3 => decide (p.2.1 = k)) (by simpa using h2), kac (p := fun p : P3 => decide (p.2.1 < k + 1)) (by simpa using h3), zf1, doB_do1, zf1, ih]
  ·by_cases h2 : p.2.1 = k
   ·have h3 : p.2.1 < k + 1 := by omega
    rw [kab (p := fun p : P3 => decide (p.2.1 < k)) (by simpa using h1), kac (p := fun p : P3 => decide (p.2.1 = k)) (by simpa using h2), kac (p := fun p : P3 => decide (p.2.1 < k + 1)) (by simpa using h3), zf1, zf1, ih]
   ·have h3 : ¬ p.2.1 < k + 1 := by omega
    rw [kab (p := fun p : P3 => decide (p.2.1 < k)) (by simpa using h1), kab (p := fun p : P3 => decide (p.2.1 = k)) (by simpa using h2), kab (p := fun p : P3 => decide (p.2.1 < k + 1)) (by simpa using h3), ih]
theorem zp3 {l : List P3} (h : ∀ p ∈ l, zb6 p.2.1 = true) : (l.filter fun p => decide (p.2.1 < 0)) = [] := by
 rw [List.filter_eq_nil_iff];intro p hp;have := h p hp;simp only [zb6, decide_eq_true_eq] at this
 simp; omega
theorem zoe {l : List P3} (h : ∀ p ∈ l, zb6 p.2.1 = true) : (l.filter fun p => decide (p.2.1 < 4)) = l := by
 rw [List.filter_eq_self];intro p hp;have := h p hp;simp only [zb6, decide_eq_true_eq] at this
 simp; omega
theorem zk6 {l : List P3} (h : zd7 l) (f : P3 → Bool) : zd7 (l.filter f) := fun p hp => h p (List.mem_filter.1 hp).1
theorem znv {s : S4} {l m : List P3} (hw : zbl 2199023255552 s) (hl : zd7 l) (hm : zd7 m) (h1 : l.length ≤ 4) (h2 : m.length ≤ 4) : zbl (2199023255552 + 8388608) (doB (doB s l) m) :=
 zgv (zj7 (zj7 hw hl) hm) (by omega)
theorem zp4 (l : List P3) (p : P3) (k : Int) (h : p.2.1 = k) : ((l ++ [p]).filter fun p => decide (p.2.1 = k)) = (l.filter fun p => decide (p.2.1 = k)) ++ [p] := by simp [List.filter_append, h]
theorem zop (l : List P3) (p : P3) (k : Int) (h : ¬ p.2.1 = k) : ((l ++ [p]).filter fun p => decide (p.2.1 = k)) = (l.filter fun p => decide (p.2.1 = k)) := by simp [List.filter_append, h]
theorem zql (s0 s1 s2 s3 : Int) (a : Option Addr) (l : List P3) (cap n : Nat) (w : World) (hn : n = l.length) (hl : l.length ≤ 4) (hp : zal w a l) (hs : zd7 l) (hky : ∀ p ∈ l, zb6 p.2.1 = true) (hw : zbl 2199023255552 (s0, s1, s2, s3)) :
    Calls Try.prog 81 #[.agg #[E J s0, E J s1, E J s2, E J s3], G a n cap] w fun e w' => e = .returned (E J (zcp (s0, s1, s2, s3) l)) ∧ Z w.heap.size w w' := by
  subst hn;obtain ⟨⟨a1, a2⟩, ⟨b1, b2⟩, ⟨c1, c2⟩, ⟨d1, d2⟩⟩ := hw;simp only at a1 a2 b1 b2 c1 c2 d1 d2
  go_enter Try.func81, Try.ntmps81
  go_wp2;go_loopw [9] (fun i w' => ∃ k : Nat, k ≤ l.length ∧ i = E J k ∧ Q (zcp (s0, s1, s2, s3) l = zcp (s0, s1, s2, s3) (l.drop k)) ∧ Z (w.alloc (T #[E J s0, E J s1, E J s2, E J s3] 98)).heap.size (w.alloc (T #[E J s0, E J s1, E J s2, E J s3] 98)) w') (fun i _ => l.length - (intOf i).toNat)
  case atStart => exact ⟨0, Nat.zero_le _, rfl, rfl, Below.refl _ _⟩
  case round =>
    obtain ⟨k, hk, rfl, hn, hbw⟩ := hrel;have hB := (zi w _).trans (hbw.mono (by simp));have hsz : w.heap.size + 1 ≤ wr.heap.size := by have := hbw.size; simpa using this
    by_cases hlt : k < l.length
    · rcases hp with rfl | ⟨b', o, rfl, hb', hc⟩
      · simp at hlt
      obtain ⟨d0, d1', d2'⟩ := hc k hlt;have HS := hn.out;rw [fits_step hlt, if_pos (hky _ (List.getElem_mem hlt))] at HS;have hpn := zhb hs hlt;have hkey := zg4.1 (hky _ (List.getElem_mem hlt));obtain ⟨hcc, hff⟩ := zcz hbw;have z0 : wr.cell? ⟨w.heap.size, 0, U⟩ = some (E J s0) := by rw [hcc _ _ (by simp)]; simp
      have z1 : wr.cell? ⟨w.heap.size, 1, U⟩ = some (E J s1) := by rw [hcc _ _ (by simp)]; simp
      have z2 : wr.cell? ⟨w.heap.size, 2, U⟩ = some (E J s2) := by rw [hcc _ _ (by simp)]; simp
      have z3 : wr.cell? ⟨w.heap.size, 3, U⟩ = some (E J s3) := by rw [hcc _ _ (by simp)]; simp
      have hsw : w.heap.size < wr.heap.size := by omega
      have hB1 : ∀ o, Z (w.alloc (T #[E J s0, E J s1, E J s2, E J s3] 98)).heap.size (w.alloc (T #[E J s0, E J s1, E J s2, E J s3] 98)) (wr.alloc o) := fun o => hbw.alloc (by simpa using hsz) o
      have HB : Q _ := hB1;clear hcc hff hc hn hs hky hB1 hbw;obtain ⟨hcc, hff⟩ := zcz hB;generalize l[k].1 = p0 at *;generalize l[k].2.1 = p1 at *;generalize l[k].2.2 = p2 at *;obtain ⟨hp1, hp2⟩ := hpn;rcases hkey with rfl | rfl | rfl | rfl
      all_goals
        simp only [za7, ↓reduceIte, Int.reduceEq] at HS
        have HN : Q _ := HS;clear HS;go_wp2;go_quiet (fail)
        go_wp2
      all_goals first
        | (go_ret; exact ⟨zb9 (by rw [HN.out, if_pos (by omega)]), below_drewN (hB.alloc (by omega) _) _⟩)
        | (go_quiet (fail)
           go_wp2
           all_goals first
             | (go_ret; exact ⟨zb9 (by rw [HN.out, if_neg (by omega), if_pos (by omega)]), by first | exact below_drewN (hB.alloc (by omega) _) _ | exact below_drewN (below_drewN (hB.alloc (by omega) _) _) _⟩)
             | (go_roundw
                case rel => exact ⟨k + 1, by omega, by go_num, by show _ = _; rw [HN.out, if_neg (by omega), if_neg (by omega)], by first | exact below_drewN (HB.out _) _ | exact below_drewN (below_drewN (HB.out _) _) _⟩
                case measure => simp [intOf]; omega))
    · clear hp
      have HE : Q (zcp (s0, s1, s2, s3) l = 0) := by
        have e1 := hn.out;rw [List.drop_eq_nil_of_le (by omega)] at e1;exact e1
      clear hn;go_wp2;go_ret;exact ⟨zb9 HE.out.symm, hB⟩
def ltK (l : List P3) (k : Int) : List P3 := l.filter fun p => decide (p.2.1 < k)
def eqK (l : List P3) (k : Int) : List P3 := l.filter fun p => decide (p.2.1 = k)
theorem zh1 {l : List P3} {j : Nat} (hj : j < l.length) (k : Int) (h : l[j].2.1 = k) : eqK (l.take (j + 1)) k = eqK (l.take j) k ++ [l[j]] := by rw [zax hj]; exact zp4 _ _ _ h
theorem eqK_no {l : List P3} {j : Nat} (hj : j < l.length) (k : Int) (h : ¬ l[j].2.1 = k) : eqK (l.take (j + 1)) k = eqK (l.take j) k := by rw [zax hj]; exact zop _ _ _ h
theorem zic {s : S4} {l : List P3} (hw : zbl 2199023255552 s) (hs : zd7 l) (hl : l.length ≤ 4) (k : Int) (j : Nat) : zbl (2199023255552 + 8388608) (doB (doB s (ltK l k)) (eqK (l.take j) k)) := by
 refine znv hw (zk6 hs _) (zk6 (zna hs j) _) ?_ ?_
 ·exact Nat.le_trans (List.length_filter_le _ _) hl
 ·exact Nat.le_trans (List.length_filter_le _ _) (by simp; omega)
theorem zh5 {s : S4} {p : P3} {k : Int} (h : p.2.1 = k) (hk : zb6 k = true) : do1 s p = zdq s k p.2.2 := by
 unfold do1; rw [h, if_pos hk]
def ze1 (w w' : World) (s : S4) (l : List P3) (k : Int) (j : Nat) : Prop :=
 ∃ t0 t1 t2 t3 : Int, doB (doB s (ltK l k)) (eqK (l.take j) k) = (t0, t1, t2, t3) ∧ zbm w' w.heap.size t0 t1 t2 t3 ∧ zbm w' (w.heap.size + 1) 0 0 0 0 ∧ w.heap.size + 2 ≤ w'.heap.size ∧ Z w.heap.size w w'
def zjf (w w' : World) (s : S4) (l : List P3) (k : Int) : Prop :=
 ∃ t0 t1 t2 t3 : Int, doB s (ltK l k) = (t0, t1, t2, t3) ∧ zbm w' w.heap.size t0 t1 t2 t3 ∧ zbm w' (w.heap.size + 1) 0 0 0 0 ∧ w.heap.size + 2 ≤ w'.heap.size ∧ Z w.heap.size w w'
theorem zii {w w' : World} {s : S4} {l : List P3} {k : Int} (h : zjf w w' s l k) : ze1 w w' s l k 0 := h
theorem zif {w w' : World} {s : S4} {l : List P3} {k : Int} {j : Nat} (h : ze1 w w' s l k j) (hj : l.length ≤ j) : zjf w w' s l (k + 1) := by
 obtain ⟨t0, t1, t2, t3, e, jj⟩ := h;rw [List.take_of_length_le hj] at e;exact ⟨t0, t1, t2, t3, by rw [← e]; exact (doB_lt_eq s l k).symm, jj⟩
theorem zhv {w w' w'' : World} {s : S4} {l : List P3} {k : Int} {j : Nat} (h : ze1 w w' s l k j) (hj : j < l.length) (hk : ¬ l[j].2.1 = k) (hb : Z w'.heap.size w' w'') : ze1 w w'' s l k (j + 1) := by
 obtain ⟨t0, t1, t2, t3, e, hS, hR, hz, hB⟩ := h;refine ⟨t0, t1, t2, t3, by rw [eqK_no hj k hk]; exact e, hS.below hb (by omega), hR.below hb (by omega), Nat.le_trans hz hb.size, hB.trans (hb.mono (by omega))⟩
theorem zps {w w' : World} {s : S4} {l : List P3} {j : Nat} {t0 t1 t2 t3 n : Int} (hj : j < l.length) (hk : l[j].2.1 = 0) (hn : l[j].2.2 = n) (e : doB (doB s (ltK l 0)) (eqK (l.take j) 0) = (t0, t1, t2, t3))
  (hS : zbm w' w.heap.size t0 t1 t2 t3) (hR : zbm w' (w.heap.size + 1) 0 0 0 0) (hz : w.heap.size + 2 ≤ w'.heap.size) (hB : Z w.heap.size w w') (o : Obj) :
  ze1 w ((r w' ⟨w.heap.size, 0, U⟩ (E J (t0 + n))).alloc o).drew s l 0 (j + 1) := by
 refine ⟨t0 + n, t1, t2, t3, ?_, ((hS.put0 _).below (zi _ o) (by simp; omega)).drew, ((hR.far (by omega) _).below (zi _ o) (by simp; omega)).drew, by simp; omega, ((hB.setCell (kaa _) _).alloc (by simp; omega) o).drew⟩;rw [zh1 hj 0 hk, zhx, e, zh5 hk (by decide), hn];simp [zdq]
theorem zqc {w w' : World} {s : S4} {l : List P3} {j : Nat} {t0 t1 t2 t3 n : Int} (hj : j < l.length) (hk : l[j].2.1 = 1) (hn : l[j].2.2 = n) (e : doB (doB s (ltK l 1)) (eqK (l.take j) 1) = (t0, t1, t2, t3))
  (hS : zbm w' w.heap.size t0 t1 t2 t3) (hR : zbm w' (w.heap.size + 1) 0 0 0 0) (hz : w.heap.size + 2 ≤ w'.heap.size) (hB : Z w.heap.size w w') (o : Obj) :
  ze1 w ((r w' ⟨w.heap.size, 1, U⟩ (E J (t1 + n))).alloc o).drew s l 1 (j + 1) := by
 refine ⟨t0, t1 + n, t2, t3, ?_, ((hS.put1 _).below (zi _ o) (by simp; omega)).drew, ((hR.far (by omega) _).below (zi _ o) (by simp; omega)).drew, by simp; omega, ((hB.setCell (kaa _) _).alloc (by simp; omega) o).drew⟩;rw [zh1 hj 1 hk, zhx, e, zh5 hk (by decide), hn];simp [zdq]
theorem zoy {w w' : World} {s : S4} {l : List P3} {j : Nat} {t0 t1 t2 t3 n : Int} (hj : j < l.length) (hk : l[j].2.1 = 2) (hn : l[j].2.2 = n) (e : doB (doB s (ltK l 2)) (eqK (l.take j) 2) = (t0, t1, t2, t3))
  (hS : zbm w' w.heap.size t0 t1 t2 t3) (hR : zbm w' (w.heap.size + 1) 0 0 0 0) (hz : w.heap.size + 2 ≤ w'.heap.size) (hB : Z w.heap.size w w') (o : Obj) :
  ze1 w ((r w' ⟨w.heap.size, 2, U⟩ (E J (t2 + n))).alloc o).drew s l 2 (j + 1) := by
 refine ⟨t0, t1, t2 + n, t3, ?_, ((hS.put2 _).below (zi _ o) (by simp; omega)).drew, ((hR.far (by omega) _).below (zi _ o) (by simp; omega)).drew, by simp; omega, ((hB.setCell (kaa _) _).alloc (by simp; omega) o).drew⟩;rw [zh1 hj 2 hk, zhx, e, zh5 hk (by decide), hn];simp [zdq]
theorem zpo {w w' : World} {s : S4} {l : List P3} {j : Nat} {t0 t1 t2 t3 n : Int} (hj : j < l.length) (hk : l[j].2.1 = 3) (hn : l[j].2.2 = n) (e : doB (doB s (ltK l 3)) (eqK (l.take j) 3) = (t0, t1, t2, t3))
  (hS : zbm w' w.heap.size t0 t1 t2 t3) (hR : zbm w' (w.heap.size + 1) 0 0 0 0) (hz : w.heap.size + 2 ≤ w'.heap.size) (hB : Z w.heap.size w w') (o : Obj) :
  ze1 w ((r w' ⟨w.heap.size, 3, U⟩ (E J (t3 + n))).alloc o).drew s l 3 (j + 1) := by
 refine ⟨t0, t1, t2, t3 + n, ?_, ((hS.put3 _).below (zi _ o) (by simp; omega)).drew, ((hR.far (by omega) _).below (zi _ o) (by simp; omega)).drew, by simp; omega, ((hB.setCell (kaa _) _).alloc (by simp; omega) o).drew⟩;rw [zh1 hj 3 hk, zhx, e, zh5 hk (by decide), hn];simp [zdq]
theorem refDo_any (s0 s1 s2 s3 : Int) (a : Option Addr) (l : List P3) (cap n : Nat) (w : World) (hn : n = l.length) (hl : l.length ≤ 4) (hp : zal w a l) (hs : zd7 l) (hky : ∀ p ∈ l, zb6 p.2.1 = true) (hw : zbl 2199023255552 (s0, s1, s2, s3)) :
  Calls Try.prog 94 #[.agg #[E J s0, E J s1, E J s2, E J s3], G a n cap] w fun e w' => (∃ t0 t1 t2 t3 : Int, doB (s0, s1, s2, s3) l = (t0, t1, t2, t3) ∧ e = .returned (.agg #[E J t0, E J t1, E J t2, E J t3])) ∧ Z w.heap.size w w' := by
 subst hn;go_enter Try.func94, Try.ntmps94
 go_wp2;go_loopw [8] (fun i w' => ∃ k : Int, 0 ≤ k ∧ k ≤ 4 ∧ i = E J k ∧ zjf w w' (s0, s1, s2, s3) l k) (fun i _ => (4 - intOf i).toNat)
 case atStart => exact ⟨0, by omega, by omega, rfl, s0, s1, s2, s3, by rw [ltK, zp3 hky]; rfl, by simp [zbm], by simp [zbm], by simp, za2 _ _ _⟩
 case round =>
  obtain ⟨k, hk0, hk4, rfl, hO⟩ := hrel;have h5 : k = 0 ∨ k = 1 ∨ k = 2 ∨ k = 3 ∨ k = 4 := by omega
  clear hk0 hk4;rcases h5 with rfl | rfl | rfl | rfl | rfl
  ·have HO := zA hO
   clear hO;go_wp2;go_loopw [13] (fun i w' => ∃ j : Nat, j ≤ l.length ∧ i = E J j ∧ ze1 w w' (s0, s1, s2, s3) l 0 j) (fun i _ => l.length - (intOf i).toNat)
   case atStart => exact ⟨0, Nat.zero_le _, rfl, zii HO.out⟩
   case round =>
    obtain ⟨j, hj, rfl, hI⟩ := hrel;clear HO;by_cases hlt : j < l.length
    ·have hwi := zic hw hs hl 0 j
     have hI2 := hI;obtain ⟨t0, t1, t2, t3, e, hS, hR, hz, hB⟩ := hI2;rw [e] at hwi;obtain ⟨⟨a1, a2⟩, ⟨b1, b2⟩, ⟨c1, c2⟩, ⟨d1, d2⟩⟩ := hwi;simp only at a1 a2 b1 b2 c1 c2 d1 d2
     rcases hp with rfl | ⟨b', o, rfl, hb', hc⟩
     ·simp at hlt
     obtain ⟨x0, x1, x2⟩ := hc j hlt;obtain ⟨hn1, hn2⟩ := zhb hs hlt;obtain ⟨hcc, hff⟩ := zcz hB;clear hc hw hs hky;by_cases hkk : l[j].2.1 = 0
     ·rw [hkk] at x1
      obtain ⟨m, hm⟩ : ∃ m, l[j].2.2 = m := ⟨_, rfl⟩;rw [hm] at x2 hn1 hn2;have HE := zC hkk hm e;have HX := zB hS hR;have hlt3 : w.heap.size < wr.heap.size := by omega
      obtain ⟨⟨y0, y1, y2, y3⟩, ⟨f0, f1, f2, f3⟩⟩ := hS;clear hkk hm e hR hI;go_wp2;go_region
      go_wp2;go_roundw
      case rel => exact ⟨j + 1, by omega, by go_num, zps hlt HE.out.1 HE.out.2.1 HE.out.2.2 HX.out.1 HX.out.2 hz hB _⟩
      case measure => simp [intOf]; omega
     ·have hk2 : (l[j].2.1 == 0) = false := by simpa using hkk
      have HI := zB hI hkk;clear hkk hI e hS hR;go_wp2;go_roundw
      case rel => exact ⟨j + 1, by omega, by go_num, zhv HI.out.1 hlt HI.out.2 (zi _ _)⟩
      case measure => simp [intOf]; omega
    ·have HI := zA (zif hI (by omega))
     clear hI hp;go_wp2;go_roundw
     case rel => exact ⟨0 + 1, by omega, by omega, by go_num, HI.out⟩
     case measure => simp [intOf]
  ·have HO := zA hO
   clear hO;go_wp2;go_loopw [13] (fun i w' => ∃ j : Nat, j ≤ l.length ∧ i = E J j ∧ ze1 w w' (s0, s1, s2, s3) l 1 j) (fun i _ => l.length - (intOf i).toNat)
   case atStart => exact ⟨0, Nat.zero_le _, rfl, zii HO.out⟩
   case round =>
    obtain ⟨j, hj, rfl, hI⟩ := hrel;clear HO;by_cases hlt : j < l.length
    ·have hwi := zic hw hs hl 1 j
     have hI2 := hI;obtain ⟨t0, t1, t2, t3, e, hS, hR, hz, hB⟩ := hI2;rw [e] at hwi;obtain ⟨⟨a1, a2⟩, ⟨b1, b2⟩, ⟨c1, c2⟩, ⟨d1, d2⟩⟩ := hwi;simp only at a1 a2 b1 b2 c1 c2 d1 d2
     rcases hp with rfl | ⟨b', o, rfl, hb', hc⟩
     ·simp at hlt
     obtain ⟨x0, x1, x2⟩ := hc j hlt;obtain ⟨hn1, hn2⟩ := zhb hs hlt;obtain ⟨hcc, hff⟩ := zcz hB;clear hc hw hs hky;by_cases hkk : l[j].2.1 = 1
     ·rw [hkk] at x1
      obtain ⟨m, hm⟩ : ∃ m, l[j].2.2 = m := ⟨_, rfl⟩;rw [hm] at x2 hn1 hn2;have HE := zC hkk hm e;have HX := zB hS hR;have hlt3 : w.heap.size < wr.heap.size := by omega
      obtain ⟨⟨y0, y1, y2, y3⟩, ⟨f0, f1, f2, f3⟩⟩ := hS;clear hkk hm e hR hI;go_wp2;go_region
      go_wp2;go_roundw
      case rel => exact ⟨j + 1, by omega, by go_num, zqc hlt HE.out.1 HE.out.2.1 HE.out.2.2 HX.out.1 HX.out.2 hz hB _⟩
      case measure => simp [intOf]; omega
     ·have hk2 : (l[j].2.1 == 1) = false := by simpa using hkk
      have HI := zB hI hkk;clear hkk hI e hS hR;go_wp2;go_roundw
      case rel => exact ⟨j + 1, by omega, by go_num, zhv HI.out.1 hlt HI.out.2 (zi _ _)⟩
      case measure => simp [intOf]; omega
    ·have HI := zA (zif hI (by omega))
     clear hI hp;go_wp2;go_roundw
     case rel => exact ⟨1 + 1, by omega, by omega, by go_num, HI.out⟩
     case measure => simp [intOf]
  ·have HO := zA hO
   clear hO;go_wp2;go_loopw [13] (fun i w' => ∃ j : Nat, j ≤ l.length ∧ i = E J j ∧ ze1 w w' (s0, s1, s2, s3) l 2 j) (fun i _ => l.length - (intOf i).toNat)
   case atStart => exact ⟨0, Nat.zero_le _, rfl, zii HO.out⟩
   case round =>
    obtain ⟨j, hj, rfl, hI⟩ := hrel;clear HO;by_cases hlt : j < l.length
    ·have hwi := zic hw hs hl 2 j
     have hI2 := hI;obtain ⟨t0, t1, t2, t3, e, hS, hR, hz, hB⟩ := hI2;rw [e] at hwi;obtain ⟨⟨a1, a2⟩, ⟨b1, b2⟩, ⟨c1, c2⟩, ⟨d1, d2⟩⟩ := hwi;simp only at a1 a2 b1 b2 c1 c2 d1 d2
     rcases hp with rfl | ⟨b', o, rfl, hb', hc⟩
     ·simp at hlt
     obtain ⟨x0, x1, x2⟩ := hc j hlt;obtain ⟨hn1, hn2⟩ := zhb hs hlt;obtain ⟨hcc, hff⟩ := zcz hB;clear hc hw hs hky;by_cases hkk : l[j].2.1 = 2
     ·rw [hkk] at x1
      obtain ⟨m, hm⟩ : ∃ m, l[j].2.2 = m := ⟨_, rfl⟩;rw [hm] at x2 hn1 hn2;have HE := zC hkk hm e;have HX := zB hS hR;have hlt3 : w.heap.size < wr.heap.size := by omega
      obtain ⟨⟨y0, y1, y2, y3⟩, ⟨f0, f1, f2, f3⟩⟩ := hS;clear hkk hm e hR hI;go_wp2;go_region
      go_wp2;go_roundw
      case rel => exact ⟨j + 1, by omega, by go_num, zoy hlt HE.out.1 HE.out.2.1 HE.out.2.2 HX.out.1 HX.out.2 hz hB _⟩
      case measure => simp [intOf]; omega
     ·have hk2 : (l[j].2.1 == 2) = false := by simpa using hkk
      have HI := zB hI hkk;clear hkk hI e hS hR;go_wp2;go_roundw
      case rel => exact ⟨j + 1, by omega, by go_num, zhv HI.out.1 hlt HI.out.2 (zi _ _)⟩
      case measure => simp [intOf]; omega
    ·have HI := zA (zif hI (by omega))
     clear hI hp;go_wp2;go_roundw
     case rel => exact ⟨2 + 1, by omega, by omega, by go_num, HI.out⟩
     case measure => simp [intOf]
  ·have HO := zA hO
   clear hO;go_wp2;go_loopw [13] (fun i w' => ∃ j : Nat, j ≤ l.length ∧ i = E J j ∧ ze1 w w' (s0, s1, s2, s3) l 3 j) (fun i _ => l.length - (intOf i).toNat)
   case atStart => exact ⟨0, Nat.zero_le _, rfl, zii HO.out⟩
   case round =>
    obtain ⟨j, hj, rfl, hI⟩ := hrel;clear HO;by_cases hlt : j < l.length
    ·have hwi := zic hw hs hl 3 j
     have hI2 := hI;obtain ⟨t0, t1, t2, t3, e, hS, hR, hz, hB⟩ := hI2;rw [e] at hwi;obtain ⟨⟨a1, a2⟩, ⟨b1, b2⟩, ⟨c1, c2⟩, ⟨d1, d2⟩⟩ := hwi;simp only at a1 a2 b1 b2 c1 c2 d1 d2
     rcases hp with rfl | ⟨b', o, rfl, hb', hc⟩
     ·simp at hlt
     obtain ⟨x0, x1, x2⟩ := hc j hlt;obtain ⟨hn1, hn2⟩ := zhb hs hlt;obtain ⟨hcc, hff⟩ := zcz hB;clear hc hw hs hky;by_cases hkk : l[j].2.1 = 3
     ·rw [hkk] at x1
      obtain ⟨m, hm⟩ : ∃ m, l[j].2.2 = m := ⟨_, rfl⟩;rw [hm] at x2 hn1 hn2;have HE := zC hkk hm e;have HX := zB hS hR;have hlt3 : w.heap.size < wr.heap.size := by omega
      obtain ⟨⟨y0, y1, y2, y3⟩, ⟨f0, f1, f2, f3⟩⟩ := hS;clear hkk hm e hR hI;go_wp2;go_region
      go_wp2;go_roundw
      case rel => exact ⟨j + 1, by omega, by go_num, zpo hlt HE.out.1 HE.out.2.1 HE.out.2.2 HX.out.1 HX.out.2 hz hB _⟩
      case measure => simp [intOf]; omega
     ·have hk2 : (l[j].2.1 == 3) = false := by simpa using hkk
      have HI := zB hI hkk;clear hkk hI e hS hR;go_wp2;go_roundw
      case rel => exact ⟨j + 1, by omega, by go_num, zhv HI.out.1 hlt HI.out.2 (zi _ _)⟩
      case measure => simp [intOf]; omega
    ·have HI := zA (zif hI (by omega))
     clear hI hp;go_wp2;go_roundw
     case rel => exact ⟨3 + 1, by omega, by omega, by go_num, HI.out⟩
     case measure => simp [intOf]
  ·obtain ⟨t0, t1, t2, t3, e, hS, hR, hz, hB⟩ := hO
   have HE : Q (doB (s0, s1, s2, s3) l = (t0, t1, t2, t3)) := by show _ = _; rw [← e, ltK, zoe hky]
   clear e hp hky hs hw;obtain ⟨⟨y0, y1, y2, y3⟩, ⟨f0, f1, f2, f3⟩⟩ := hS;obtain ⟨⟨x0, x1, x2, x3⟩, ⟨g0, g1, g2, g3⟩⟩ := hR;go_wp2;refine bodyPost_ret (v := .agg #[E J t0, E J t1, E J t2, E J t3]) ?_ rfl ⟨⟨t0, t1, t2, t3, HE.out, rfl⟩, (((hB.setCell (by simp) _).setCell (by simp) _).setCell (by simp) _).setCell (by simp) _⟩;simp [results, Try.results94, go_sem, *]
end Go.Proofs.Ytpcnlifmkhagkaa
