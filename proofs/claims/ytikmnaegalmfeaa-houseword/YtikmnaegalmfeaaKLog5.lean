/- What log.House does, called at a log that lies in memory. -/
import Derived.Test.YtikmnaegalmfeaaKLog3
import Derived.Test.YtikmnaegalmfeaaKPart4
import Derived.Deep.RegionLaw
namespace Go.Proofs.Ytikmnaegalmfeaa
open Go.RowKit
attribute [local go_sem ↓] Go.wp_at_zero Go.wp_at_succ

theorem doV {f : Nat} {s : S4} {l : List P3} {args : Array Value} {w : World} {t0 t1 t2 t3 : Int} (hd : doB s l = (t0, t1, t2, t3))
    (h : Calls Try.prog f args w fun e w' => (∃ x0 x1 x2 x3, doB s l = (x0, x1, x2, x3) ∧ e = .returned (.agg #[.int .i64 x0, .int .i64 x1, .int .i64 x2, .int .i64 x3])) ∧ Below w.heap.size w w') :
    Calls Try.prog f args w fun e w' => e = .returned (.agg #[.int .i64 t0, .int .i64 t1, .int .i64 t2, .int .i64 t3]) ∧ Below w.heap.size w w' := by
  refine h.mono ?_
  rintro e w' ⟨⟨x0, x1, x2, x3, hx, rfl⟩, hb⟩
  rw [hd] at hx
  simp only [Prod.mk.injEq] at hx
  obtain ⟨rfl, rfl, rfl, rfl⟩ := hx
  exact ⟨rfl, hb⟩
theorem infoInt : (Try.prog.info? 3).map (fun i => (i.zero, i.size, i.bytes)) = some (some (.int .i64 0), 1, 8) := by kernel_rfl

theorem Blk.keptT {w w' : World} {b : Nat} {cs : Array Value} {t : TypeId} (h : Blk w b cs t) {row : Option Nat} (hg : w.grownBy w' row) (hr : ∀ k, row = some k → ∃ cs t', Blk w k cs t' ∧ t' ≠ t) : Blk w' b cs t := Calm.grown hg hr _ _ h

theorem OwnL.neT {α : Type} {e : TypeId} {size : Nat} {enc : α → List Value} {w : World} {base : Nat} {v : Value} {xs : List α} (h : OwnL e size enc w base v xs) {g : Nat} {cs : Array Value} {t : TypeId} (hb : Blk w g cs t) (ht : t ≠ e) : v.ownBlock ≠ some g := fun hv => by
  obtain ⟨_, cs', hb'⟩ := h.blk hv
  unfold Blk at hb hb'
  rw [hb] at hb'
  injection hb' with hb'
  injection hb' with _ q _
  exact ht q

/-- All blocks of other types are as they were. -/
def Only (T : TypeId) (w w' : World) : Prop := ∀ b cs t, t ≠ T → Blk w b cs t → Blk w' b cs t
theorem Only.trans {T : TypeId} {a b c : World} (h : Only T a b) (k : Only T b c) : Only T a c := fun _ _ _ ht x => k _ _ _ ht (h _ _ _ ht x)
theorem Only.setCell {T : TypeId} {w : World} {a : Addr} {cs : Array Value} (hb : Blk w a.block cs T) (u : Value) : Only T w (w.setCell a u) := fun _ _ _ ht x => Calm.setCell hb (fun e => ht e.symm) u _ _ x
theorem Only.calm {T t : TypeId} {w w' : World} (h : Only T w w') (ht : t ≠ T) : Calm t w w' := fun _ _ x => h _ _ _ ht x
theorem OwnL.only {α : Type} {e T : TypeId} {size : Nat} {enc : α → List Value} {w w' : World} {base : Nat} {v : Value} {xs : List α} (h : OwnL e size enc w base v xs) (ho : Only T w w') (he : e ≠ T) : OwnL e size enc w' base v xs := by
  refine ⟨h.1, ?_⟩
  rcases h.2 with h0 | ⟨g, cap, cur, hv, hg, hh, r⟩
  · exact Or.inl h0
  · exact Or.inr ⟨g, cap, cur, hv, hg, ho _ _ _ he hh, r⟩
theorem hstep_other {h : H3} {r : R3} (h1 : ¬ r.1 = 1) (h2 : ¬ r.1 = 2) (h3 : ¬ r.1 = 3) : hstep h r = h := by unfold hstep; rw [if_neg h1, if_neg h2, if_neg h3]
theorem fill7 {w : World} {N : Nat} {T : TypeId} {c0 c1 c2 c3 c4 c5 c6 : Value} (hb : Blk w N #[c0, c1, c2, c3, c4, c5, c6] T) (v0 v1 v2 v3 v4 v5 v6 : Value) :
    Blk (((((((w.setCell ⟨N, 0, none⟩ v0).setCell ⟨N, 1, none⟩ v1).setCell ⟨N, 2, none⟩ v2).setCell ⟨N, 3, none⟩ v3).setCell ⟨N, 4, none⟩ v4).setCell ⟨N, 5, none⟩ v5).setCell ⟨N, 6, none⟩ v6) N #[v0, v1, v2, v3, v4, v5, v6] T ∧
    Only T w (((((((w.setCell ⟨N, 0, none⟩ v0).setCell ⟨N, 1, none⟩ v1).setCell ⟨N, 2, none⟩ v2).setCell ⟨N, 3, none⟩ v3).setCell ⟨N, 4, none⟩ v4).setCell ⟨N, 5, none⟩ v5).setCell ⟨N, 6, none⟩ v6) := by
  have b0 : Blk (w.setCell ⟨N, 0, none⟩ v0) N #[v0, c1, c2, c3, c4, c5, c6] T := hb.set 0 v0
  have b1 : Blk ((w.setCell ⟨N, 0, none⟩ v0).setCell ⟨N, 1, none⟩ v1) N #[v0, v1, c2, c3, c4, c5, c6] T := b0.set 1 v1
  have b2 : Blk (((w.setCell ⟨N, 0, none⟩ v0).setCell ⟨N, 1, none⟩ v1).setCell ⟨N, 2, none⟩ v2) N #[v0, v1, v2, c3, c4, c5, c6] T := b1.set 2 v2
  have b3 : Blk ((((w.setCell ⟨N, 0, none⟩ v0).setCell ⟨N, 1, none⟩ v1).setCell ⟨N, 2, none⟩ v2).setCell ⟨N, 3, none⟩ v3) N #[v0, v1, v2, v3, c4, c5, c6] T := b2.set 3 v3
  have b4 : Blk (((((w.setCell ⟨N, 0, none⟩ v0).setCell ⟨N, 1, none⟩ v1).setCell ⟨N, 2, none⟩ v2).setCell ⟨N, 3, none⟩ v3).setCell ⟨N, 4, none⟩ v4) N #[v0, v1, v2, v3, v4, c5, c6] T := b3.set 4 v4
  have b5 : Blk ((((((w.setCell ⟨N, 0, none⟩ v0).setCell ⟨N, 1, none⟩ v1).setCell ⟨N, 2, none⟩ v2).setCell ⟨N, 3, none⟩ v3).setCell ⟨N, 4, none⟩ v4).setCell ⟨N, 5, none⟩ v5) N #[v0, v1, v2, v3, v4, v5, c6] T := b4.set 5 v5
  have b6 : Blk (((((((w.setCell ⟨N, 0, none⟩ v0).setCell ⟨N, 1, none⟩ v1).setCell ⟨N, 2, none⟩ v2).setCell ⟨N, 3, none⟩ v3).setCell ⟨N, 4, none⟩ v4).setCell ⟨N, 5, none⟩ v5).setCell ⟨N, 6, none⟩ v6) N #[v0, v1, v2, v3, v4, v5, v6] T := b5.set 6 v6
  exact ⟨b6, (((((((Only.setCell (a := ⟨N, 0, none⟩) hb v0).trans (Only.setCell (a := ⟨N, 1, none⟩) b0 v1)).trans (Only.setCell (a := ⟨N, 2, none⟩) b1 v2)).trans (Only.setCell (a := ⟨N, 3, none⟩) b2 v3)).trans (Only.setCell (a := ⟨N, 4, none⟩) b3 v4)).trans (Only.setCell (a := ⟨N, 5, none⟩) b4 v5)).trans (Only.setCell (a := ⟨N, 6, none⟩) b5 v6))⟩

/-- A house as a value: its log, and what the log made. -/
def HouseAt (w : World) (v : Value) (L : List R3) (h : H3) : Prop :=
  ∃ (la : Option Addr) (nl lc : Nat) (Y : List XL) (ra : Option Addr) (nr rc : Nat) (XR : List XD) (da : Option Addr) (nd dc : Nat),
    v = .agg #[.slice la nl lc, .int .i64 h.1.1, .int .i64 h.1.2.1, .int .i64 h.1.2.2.1, .int .i64 h.1.2.2.2, .slice ra nr rc, .slice da nd dc] ∧
    (nl = L.length ∧ Y.map stripL = L ∧ RecsAt w la Y) ∧ (nr = XR.length ∧ XR.map stripD = h.2.1 ∧ DeedsAt w ra XR) ∧ (nd = h.2.2.length ∧ nd ≤ dc ∧ dc ≤ maxLen ∧ RowAt 1 encI w da h.2.2)
theorem HouseAt.below {w w' : World} {v : Value} {L : List R3} {h : H3} (hh : HouseAt w v L h) (hb : Below w.heap.size w w') : HouseAt w' v L h := by
  obtain ⟨la, nl, lc, Y, ra, nr, rc, XR, da, nd, dc, hv, ⟨h1, h2, h3⟩, ⟨h4, h5, h6⟩, h7, h8, h9, h10⟩ := hh
  exact ⟨la, nl, lc, Y, ra, nr, rc, XR, da, nd, dc, hv, ⟨h1, h2, h3.below hb⟩, ⟨h4, h5, h6.below hb⟩, h7, h8, h9, h10.below hb⟩

/-- .. all of it in blocks of their own kinds, from base on. -/
def HouseN (base : Nat) (w : World) (v : Value) (L : List R3) (h : H3) : Prop :=
  ∃ (la : Option Addr) (nl lc : Nat) (Y : List XL) (ra : Option Addr) (nr rc : Nat) (XR : List XD) (da : Option Addr) (nd dc : Nat),
    v = .agg #[.slice la nl lc, .int .i64 h.1.1, .int .i64 h.1.2.1, .int .i64 h.1.2.2.1, .int .i64 h.1.2.2.2, .slice ra nr rc, .slice da nd dc] ∧
    (Y.map stripL = L ∧ RecsO w base (.slice la nl lc) Y) ∧ (XR.map stripD = h.2.1 ∧ OwnL 69 2 encD w base (.slice ra nr rc) XR ∧ ∀ x ∈ XR, PartsT base w x.2.1.1 x.2.2) ∧ OwnL 3 1 encI w base (.slice da nd dc) h.2.2
def HouseO (w : World) (v : Value) (L : List R3) (h : H3) : Prop := HouseN 0 w v L h
theorem HouseN.mono {base base' : Nat} {w : World} {v : Value} {L : List R3} {h : H3} (hh : HouseN base w v L h) (hb : base' ≤ base) : HouseN base' w v L h := by
  obtain ⟨la, nl, lc, Y, ra, nr, rc, XR, da, nd, dc, hv, ⟨h1, h2⟩, ⟨h3, h4, h5⟩, h6⟩ := hh
  exact ⟨la, nl, lc, Y, ra, nr, rc, XR, da, nd, dc, hv, ⟨h1, h2.mono hb⟩, ⟨h3, h4.mono hb, fun x hx => (h5 x hx).mono hb⟩, h6.mono hb⟩
theorem HouseN.at {base : Nat} {w : World} {v : Value} {L : List R3} {h : H3} (hh : HouseN base w v L h) : HouseAt w v L h := by
  obtain ⟨la, nl, lc, Y, ra, nr, rc, XR, da, nd, dc, hv, ⟨h1, h2⟩, ⟨h3, h4, h5⟩, h6⟩ := hh
  have k1 := h2.1.at lenL
  have k2 := h4.at lenD
  have k3 := h6.at lenI
  exact ⟨la, nl, lc, Y, ra, nr, rc, XR, da, nd, dc, hv, ⟨by rw [k1.2.1, ← h1, List.length_map], h1, h2.at⟩, ⟨k2.2.1, h3, k2.1, fun x hx => (h5 x hx).at⟩, k3.2.1, by rw [k3.2.1]; exact k3.2.2.1, k3.2.2.2, k3.1⟩
theorem HouseN.only {base : Nat} {w w' : World} {v : Value} {L : List R3} {h : H3} (hh : HouseN base w v L h) (ho : Only 31 w w') : HouseN base w' v L h := by
  obtain ⟨la, nl, lc, Y, ra, nr, rc, XR, da, nd, dc, hv, ⟨h1, h2⟩, ⟨h3, h4, h5⟩, h6⟩ := hh
  exact ⟨la, nl, lc, Y, ra, nr, rc, XR, da, nd, dc, hv, ⟨h1, h2.1.only ho (by decide), fun y hy => (h2.2 y hy).calm (ho.calm (by decide))⟩, ⟨h3, h4.only ho (by decide), fun x hx => (h5 x hx).calm (ho.calm (by decide))⟩, h6.only ho (by decide)⟩
theorem HouseN.below {base : Nat} {w w' : World} {v : Value} {L : List R3} {h : H3} (hh : HouseN base w v L h) (hb : Below w.heap.size w w') : HouseN base w' v L h := by
  obtain ⟨la, nl, lc, Y, ra, nr, rc, XR, da, nd, dc, hv, ⟨h1, h2⟩, ⟨h3, h4, h5⟩, h6⟩ := hh
  exact ⟨la, nl, lc, Y, ra, nr, rc, XR, da, nd, dc, hv, ⟨h1, h2.below hb⟩, ⟨h3, h4.below hb (Nat.le_refl _), fun x hx => (h5 x hx).calm (Calm.below hb (Nat.le_refl _))⟩, h6.below hb (Nat.le_refl _)⟩
theorem HouseO.at {w : World} {v : Value} {L : List R3} {h : H3} (hh : HouseO w v L h) : HouseAt w v L h := HouseN.at hh
theorem HouseO.only {w w' : World} {v : Value} {L : List R3} {h : H3} (hh : HouseO w v L h) (ho : Only 31 w w') : HouseO w' v L h := HouseN.only hh ho

/-- On the way: block B holds the house h, whose log is the slice lv; what it has lies from base on. -/
def HAt (B base : Nat) (lv : Value) (w : World) (h : H3) : Prop :=
  ∃ (ra : Option Addr) (nr rc : Nat) (XR : List XD) (da : Option Addr) (nd dc : Nat),
    Blk w B #[lv, .int .i64 h.1.1, .int .i64 h.1.2.1, .int .i64 h.1.2.2.1, .int .i64 h.1.2.2.2, .slice ra nr rc, .slice da nd dc] 31 ∧
    OwnL 69 2 encD w base (.slice ra nr rc) XR ∧ (∀ x ∈ XR, PartsT base w x.2.1.1 x.2.2) ∧ XR.map stripD = h.2.1 ∧ OwnL 3 1 encI w base (.slice da nd dc) h.2.2
theorem HAt.below {B base : Nat} {lv : Value} {w w' : World} {h : H3} (hh : HAt B base lv w h) (hb : Below w.heap.size w w') : HAt B base lv w' h := by
  obtain ⟨ra, nr, rc, XR, da, nd, dc, h1, h2, h3, h4, h5⟩ := hh
  exact ⟨ra, nr, rc, XR, da, nd, dc, h1.below hb h1.lt, h2.below hb (Nat.le_refl _), fun x hx => (h3 x hx).calm (Calm.below hb (Nat.le_refl _)), h4, h5.below hb (Nat.le_refl _)⟩
theorem hasD_idx {XR : List XD} {D : Int} {i : Nat} (hi : i < XR.length) (h : XR[i].1 = D) (hlow : ∀ j, j < i → ∀ h' : j < XR.length, XR[j].1 ≠ D) : hasD (XR.map stripD) D = true ∧ firstP (XR.map stripD) D = XR[i].2.2 := by
  have e : (XR.map stripD).find? (fun x => decide (x.1 = D)) = some (stripD XR[i]) := by
    rw [List.find?_eq_some_iff_getElem]
    refine ⟨decide_eq_true h, i, by simpa using hi, by simp, fun j hj => ?_⟩
    have := hlow j hj (by omega)
    rw [List.getElem_map]
    exact Bool.not_eq_true' _ ▸ decide_eq_false this
  constructor
  · simp only [hasD, List.any_eq_true]
    exact ⟨stripD XR[i], List.mem_map.2 ⟨_, List.getElem_mem hi, rfl⟩, decide_eq_true h⟩
  · unfold firstP; rw [e]; rfl
theorem hasD_none {XR : List XD} {D : Int} (h : ∀ x ∈ XR, x.1 ≠ D) : hasD (XR.map stripD) D = false := by
  simp only [hasD, List.any_eq_false]
  intro y hy
  obtain ⟨x, hx, rfl⟩ := List.mem_map.1 hy
  intro hd
  exact h x hx (of_decide_eq_true hd)
theorem dropD_map (XR : List XD) (D : Int) : (XR.filter fun x => !decide (x.1 = D)).map stripD = dropD (XR.map stripD) D := by
  unfold dropD
  rw [List.filter_map]
  rfl

theorem HAt.put5 {B base : Nat} {lv old : Value} {w : World} {t0 t1 t2 t3 : Int} {a da : Option Addr} {n c nd dc : Nat} {XR : List XD} {dn : List Int}
    (hB : Blk w B #[lv, .int .i64 t0, .int .i64 t1, .int .i64 t2, .int .i64 t3, old, .slice da nd dc] 31) (hR : OwnL 69 2 encD w base (.slice a n c) XR) (hT : ∀ x ∈ XR, PartsT base w x.2.1.1 x.2.2) (hI : OwnL 3 1 encI w base (.slice da nd dc) dn) :
    HAt B base lv (w.setCell ⟨B, 5, none⟩ (.slice a n c)) ((t0, t1, t2, t3), XR.map stripD, dn) :=
  ⟨a, n, c, XR, da, nd, dc, hB.set 5 _, hR.setOther (a := ⟨B, 5, none⟩) hB (by decide) _, fun x hx => (hT x hx).calm (Calm.setCell (a := ⟨B, 5, none⟩) hB (by decide) _), rfl, hI.setOther (a := ⟨B, 5, none⟩) hB (by decide) _⟩
theorem HAt.put6 {B base : Nat} {lv old : Value} {w : World} {t0 t1 t2 t3 : Int} {a da : Option Addr} {n c nd dc : Nat} {XR : List XD} {dn : List Int}
    (hB : Blk w B #[lv, .int .i64 t0, .int .i64 t1, .int .i64 t2, .int .i64 t3, .slice a n c, old] 31) (hR : OwnL 69 2 encD w base (.slice a n c) XR) (hT : ∀ x ∈ XR, PartsT base w x.2.1.1 x.2.2) (hI : OwnL 3 1 encI w base (.slice da nd dc) dn) :
    HAt B base lv (w.setCell ⟨B, 6, none⟩ (.slice da nd dc)) ((t0, t1, t2, t3), XR.map stripD, dn) :=
  ⟨a, n, c, XR, da, nd, dc, hB.set 6 _, hR.setOther (a := ⟨B, 6, none⟩) hB (by decide) _, fun x hx => (hT x hx).calm (Calm.setCell (a := ⟨B, 6, none⟩) hB (by decide) _), rfl, hI.setOther (a := ⟨B, 6, none⟩) hB (by decide) _⟩
theorem HAt.put1 {B base : Nat} {lv : Value} {w : World} {h : H3} (hh : HAt B base lv w h) (t0 t1 t2 t3 : Int) :
    HAt B base lv ((((w.setCell ⟨B, 1, none⟩ (.int .i64 t0)).setCell ⟨B, 2, none⟩ (.int .i64 t1)).setCell ⟨B, 3, none⟩ (.int .i64 t2)).setCell ⟨B, 4, none⟩ (.int .i64 t3)) ((t0, t1, t2, t3), h.2.1, h.2.2) := by
  obtain ⟨ra, nr, rc, XR, da, nd, dc, hB, hR, hT, hD, hI⟩ := hh
  have b1 := hB.set 1 (.int .i64 t0)
  have b2 := b1.set 2 (.int .i64 t1)
  have b3 := b2.set 3 (.int .i64 t2)
  refine ⟨ra, nr, rc, XR, da, nd, dc, b3.set 4 _, ?_, fun x hx => ?_, hD, ?_⟩
  · exact (((hR.setOther (a := ⟨B, 1, none⟩) hB (by decide) _).setOther (a := ⟨B, 2, none⟩) b1 (by decide) _).setOther (a := ⟨B, 3, none⟩) b2 (by decide) _).setOther (a := ⟨B, 4, none⟩) b3 (by decide) _
  · exact ((((hT x hx).calm (Calm.setCell (a := ⟨B, 1, none⟩) hB (by decide) _)).calm (Calm.setCell (a := ⟨B, 2, none⟩) b1 (by decide) _)).calm (Calm.setCell (a := ⟨B, 3, none⟩) b2 (by decide) _)).calm (Calm.setCell (a := ⟨B, 4, none⟩) b3 (by decide) _)
  · exact (((hI.setOther (a := ⟨B, 1, none⟩) hB (by decide) _).setOther (a := ⟨B, 2, none⟩) b1 (by decide) _).setOther (a := ⟨B, 3, none⟩) b2 (by decide) _).setOther (a := ⟨B, 4, none⟩) b3 (by decide) _

set_option maxRecDepth 20000 in
set_option maxHeartbeats 2000000 in
theorem house_gen (a : Option Addr) (X : List XL) (cap n : Nat) (w : World) (hn : n = X.length) (hc : CalcL (X.map stripL)) (hp : RecsAt w a X) :
    Calls Try.prog 65 #[.slice a n cap] w fun e w' => ∃ v, e = .returned v ∧ HouseN w.heap.size w' v (X.map stripL) (houseB (X.map stripL)) ∧ Below w.heap.size w w' := by
  have HO := own_gen a X cap n (w.alloc (.cells #[.slice none 0 0, .int .i64 0, .int .i64 0, .int .i64 0, .int .i64 0, .slice none 0 0, .slice none 0 0] 31)) hn (by have := hc.size; rw [List.length_map] at this; omega) hc.ok (hp.below (below1 w _))
  have HN : Hid (n = X.length ∧ OkL (X.map stripL) ∧ RecsAt w a X) := ⟨hn, hc.ok, hp⟩
  have HWi : Hid (∀ k, k ≤ n → Within 2199023255552 (houseB ((X.take k).map stripL)).1) := fun k hk => by
    rw [List.map_take]; exact hc.within k (by rw [List.length_map]; omega)
  have hnl : n ≤ 3518437208883 := by have := hc.size; rw [List.length_map] at this; omega
  clear hn hc hp
  go_enter Try.func65, Try.ntmps65
  go_wp2_with fail
  refine HO.mono ?_
  rintro e w1 ⟨la, lc, Y, rfl, hY, hlog, hb1⟩
  have hbw1 : Below w.heap.size w w1 := (below1 w _).trans (hb1.mono (by simp))
  have hres : Blk w1 w.heap.size #[.slice none 0 0, .int .i64 0, .int .i64 0, .int .i64 0, .int .i64 0, .slice none 0 0, .slice none 0 0] 31 := (Blk.new w _ _).below hb1 (by simp)
  have H1 : Hid (Y.map stripL = X.map stripL ∧ RecsO w1 (w.heap.size + 1) (.slice la n lc) Y ∧ Below w.heap.size w w1 ∧ Blk w1 w.heap.size #[.slice none 0 0, .int .i64 0, .int .i64 0, .int .i64 0, .int .i64 0, .slice none 0 0, .slice none 0 0] 31 ∧ w.heap.size < w1.heap.size) := ⟨hY, by simpa using hlog, hbw1, hres, hres.lt⟩
  have hs1 : w.heap.size < w1.heap.size := hres.lt
  clear HO hY hlog hb1 hbw1 hres
  go_wp2
  go_loopw [13] (fun i w' => ∃ k : Nat, k ≤ n ∧ i = .int .i64 k ∧ Hid (HAt w1.heap.size w1.heap.size (.slice la n lc) w' (houseB ((X.take k).map stripL)) ∧ Below w1.heap.size w1 w')) (fun i _ => n - (intOf i).toNat)
  case atStart => exact ⟨0, Nat.zero_le _, rfl, ⟨none, 0, 0, [], none, 0, 0, Blk.new _ _ _, OwnL.nil _ _, (fun x hx => by cases hx), rfl, OwnL.nil _ _⟩, below1 _ _⟩
  case round =>
    obtain ⟨k, hk, rfl, hH⟩ := hrel
    by_cases hlt : k < n
    · have hkX : k < X.length := by have := HN.out.1; omega
      have hbw : Below w.heap.size w wr := H1.out.2.2.1.trans (hH.out.2.mono (by omega))
      obtain ⟨b, o, rfl, hb, c0, c1, c2, hq⟩ := (HN.out.2.2.below hbw).get hkX
      have hokk := okL_get HN.out.2.1 hkX
      have HS : Hid (houseB ((X.take (k + 1)).map stripL) = hstep (houseB ((X.take k).map stripL)) (stripL X[k])) := by show _ = _; rw [map_take_succ hkX, houseB_snoc]
      have hinv : HInv k (houseB ((X.take k).map stripL)) := by
        have h1 := houseB_inv (L := (X.take k).map stripL) (fun r hr => by
          obtain ⟨x, hx, rfl⟩ := List.mem_map.1 hr
          exact HN.out.2.1 _ (List.mem_map.2 ⟨x, List.mem_of_mem_take hx, rfl⟩))
        rwa [List.length_map, List.length_take, Nat.min_eq_left (by omega)] at h1
      have hwk : Hid (Within 2199023255552 (houseB ((X.take k).map stripL)).1) := HWi.out k hk
      obtain ⟨hHA, hB1⟩ := hH.out
      generalize houseB ((X.take k).map stripL) = h at *
      obtain ⟨⟨t0, t1, t2, t3⟩, DD, dn⟩ := h
      obtain ⟨ra, nr, rc, XR, da, nd, dc, hB, hR, hT, hD, hI⟩ := hHA
      simp only at hB hD hI
      generalize X[k] = x at *
      obtain ⟨kd, dd, ⟨ax, cx⟩, l⟩ := x
      simp only at c0 c1 c2 hq hokk
      have hXl : XR.length ≤ 3518437208882 := by
        have h1 := hinv.few
        rw [← hD] at h1
        simp at h1
        omega
      have hdl : dn.length ≤ 3518437208882 := by have h1 := hinv.done; simp at h1; omega
      obtain ⟨hRow, hnr, _⟩ := hR.at lenD
      have hx5 := hB.cell 5
      simp at hx5
      have HW : Hid (PartsAt wr ax l ∧ OkP l ∧ HInv k ((t0, t1, t2, t3), DD, dn)) := ⟨hq, hokk, hinv⟩
      have HA : Hid (Blk wr w1.heap.size #[.slice la n lc, .int .i64 t0, .int .i64 t1, .int .i64 t2, .int .i64 t3, .slice ra nr rc, .slice da nd dc] 31 ∧ OwnL 69 2 encD wr w1.heap.size (.slice ra nr rc) XR ∧ (∀ x ∈ XR, PartsT w1.heap.size wr x.2.1.1 x.2.2) ∧ XR.map stripD = DD ∧ OwnL 3 1 encI wr w1.heap.size (.slice da nd dc) dn ∧ nr = XR.length ∧ RowAt 2 encD wr ra XR) := ⟨hB, hR, hT, hD, hI, hnr, hRow⟩
      have hsr := hB1.size
      have hBlt : w1.heap.size < wr.heap.size := hB.lt
      have HL : Hid (l.length = l.length) := rfl
      generalize hll : l.length = nl at *
      have HLL : Hid (l.length = nl) := hll
      clear hq hokk hinv hB hR hT hD hI hnr hRow hH hll HL
      go_wp2_with fail
      refine (indexD_any ra XR rc nr wr.heap.size dd _ HA.out.2.2.2.2.2.1 (by omega) (HA.out.2.2.2.2.2.2.below (below1 wr _)) (by simp) (by simp)).mono ?_
      rintro e w2 ⟨r, rfl, hidx, hb2⟩
      have hbr : Below wr.heap.size wr w2 := (below1 wr _).trans (hb2.mono (by simp))
      have hr2 : Blk w2 wr.heap.size #[.int .i64 kd, .int .i64 dd, .slice ax nl cx] 67 := (Blk.new wr _ _).below hb2 (by simp)
      have hB2 := HA.out.1.below hbr hBlt
      have hR2 := HA.out.2.1.below hbr (Nat.le_refl _)
      have hI2 := HA.out.2.2.2.2.1.below hbr (Nat.le_refl _)
      have hBel : Below w1.heap.size w1 w2 := hB1.trans (hbr.mono hsr)
      have hs2 : wr.heap.size < w2.heap.size := hr2.lt
      have HA2 : Hid (Blk w2 w1.heap.size #[.slice la n lc, .int .i64 t0, .int .i64 t1, .int .i64 t2, .int .i64 t3, .slice ra nr rc, .slice da nd dc] 31 ∧ OwnL 69 2 encD w2 w1.heap.size (.slice ra nr rc) XR ∧ (∀ x ∈ XR, PartsT w1.heap.size w2 x.2.1.1 x.2.2) ∧ XR.map stripD = DD ∧ OwnL 3 1 encI w2 w1.heap.size (.slice da nd dc) dn ∧ nr = XR.length ∧ RowAt 2 encD w2 ra XR ∧ Blk w2 wr.heap.size #[.int .i64 kd, .int .i64 dd, .slice ax nl cx] 67 ∧ PartsAt w2 ax l ∧ Below w1.heap.size w1 w2) :=
        ⟨hB2, hR2, fun x hx => (HA.out.2.2.1 x hx).calm (Calm.below hbr (Nat.le_refl _)), HA.out.2.2.2.1, hI2, HA.out.2.2.2.2.2.1, HA.out.2.2.2.2.2.2.below hbr, hr2, HW.out.1.below hbr, hBel⟩
      have HAll : Hid (HAt w1.heap.size w1.heap.size (.slice la n lc) w2 ((t0, t1, t2, t3), DD, dn)) := ⟨ra, nr, rc, XR, da, nd, dc, hB2, hR2, HA2.out.2.2.1, HA2.out.2.2.2.1, hI2⟩
      have y0 := hr2.cell 0
      have y1 := hr2.cell 1
      have y2 := hr2.cell 2
      have z1 := hB2.cell 1
      have z2 := hB2.cell 2
      have z3 := hB2.cell 3
      have z4 := hB2.cell 4
      have z5 := hB2.cell 5
      have z6 := hB2.cell 6
      simp at y0 y1 y2 z1 z2 z3 z4 z5 z6
      have HI : Hid (Idx XR dd r) := hidx
      clear hb2 hbr hr2 hB2 hR2 hI2 hBel hidx c0 c1 c2 hx5 HA hB1
      by_cases k1 : kd = 1
      · subst k1
        by_cases hr0 : r < 0
        · have HE : Hid (hstep ((t0, t1, t2, t3), DD, dn) (stripL (1, dd, (ax, cx), l)) = ((t0, t1, t2, t3), DD ++ [(dd, l)], dn)) := by
            show _ = _
            have hno : hasD DD dd = false := by
              rcases HI.out with ⟨_, h⟩ | ⟨i, hi, rfl, _⟩
              · rw [← HA2.out.2.2.2.1]; exact hasD_none h
              · omega
            simp only [hstep, stripL, hno]
            rfl
          have HK : Hid (∀ w', Below w2.heap.size w2 w' → ((w'.cell? ⟨wr.heap.size, 0, none⟩ = some (.int .i64 1) ∧ w'.cell? ⟨wr.heap.size, 1, none⟩ = some (.int .i64 dd) ∧ w'.cell? ⟨wr.heap.size, 2, none⟩ = some (.slice ax nl cx)) ∧ w'.cell? ⟨w1.heap.size, 5, none⟩ = some (.slice ra nr rc) ∧ w'.frozen? ⟨w1.heap.size, 5, none⟩ = false ∧ OwnL 69 2 encD w' w1.heap.size (.slice ra nr rc) XR ∧ Blk w' w1.heap.size #[.slice la n lc, .int .i64 t0, .int .i64 t1, .int .i64 t2, .int .i64 t3, .slice ra nr rc, .slice da nd dc] 31)) := fun w' hb => by
            have h1 := HA2.out.2.2.2.2.2.2.2.1
            have h2 := HA2.out.1
            exact ⟨⟨(h1.below hb h1.lt).cell 0, (h1.below hb h1.lt).cell 1, (h1.below hb h1.lt).cell 2⟩, (h2.below hb h2.lt).cell 5, (h2.below hb h2.lt).free 5, HA2.out.2.1.below hb (Nat.le_refl _), h2.below hb h2.lt⟩
          clear y1 y2 z1 z2 z3 z4 z5 z6
          go_upto_region 10 with fail
          have hX0 : Below w2.heap.size w2 w2.drew := (Below.refl _ _).drew
          obtain ⟨⟨i0, i1, i2⟩, i5, i6, _, _⟩ := HK.out _ hX0
          go_region_law (
            first
            | (go_simp; go_at_call 88; refine (deed_any 1 dd ax l cx nl _ HLL.out.symm (by have := HW.out.2.1.1; omega) (by exact HA2.out.2.2.2.2.2.2.2.2.1.below hX0)).mono ?_; rintro e w3 ⟨a3, c3, rfl, ht3, hb3⟩; have hB3 : Below w2.heap.size w2 w3 := hX0.trans (hb3.mono hX0.size); obtain ⟨⟨j0, j1, j2⟩, j5, j6, hO3, hK3⟩ := HK.out _ hB3; have hlt3 : w1.heap.size < w3.heap.size := hK3.lt; have hlt3' : wr.heap.size < w3.heap.size := Nat.lt_of_lt_of_le hs2 hB3.size; have HT3 : Hid (PartsT w1.heap.size w3 a3 l) := ht3.mono (by simp; omega); have HO3 : Hid (OwnL 69 2 encD w3 w1.heap.size (.slice ra nr rc) XR ∧ Blk w3 w1.heap.size #[.slice la n lc, .int .i64 t0, .int .i64 t1, .int .i64 t2, .int .i64 t3, .slice ra nr rc, .slice da nd dc] 31) := ⟨hO3, hK3⟩; clear hb3 i0 i1 i2 i5 i6 ht3 hO3 hK3)
            | (refine step_append_listB lenD oneD Try.underlying28 infoReady rfl (by decide) _ rfl (.tmp 29) (.tmp 32) rfl w1.heap.size (.slice ra nr rc) XR rfl (HO3.out.1.below (below1 w3 _) (Nat.le_refl _)) (some ⟨w3.heap.size, 0, none⟩) 1 1 [(dd, (a3, c3), l)] rfl rfl (RowAt.one (Blk.new w3 _ _) (by simp [encD, HLL.out])) (by unfold maxLen; simp; omega) (by simp; omega) (by have := hB3.size; simp; omega) ?_; intro a4 n4 c4 w4 hown4 hn4 hgrow4 hat4; have hK4 : Blk w4 w1.heap.size #[.slice la n lc, .int .i64 t0, .int .i64 t1, .int .i64 t2, .int .i64 t3, .slice ra nr rc, .slice da nd dc] 31 := (HO3.out.2.alloc _).keptT hgrow4 ((HO3.out.1.below (below1 w3 _) (Nat.le_refl _)).grownT (by decide)); have j5' := hK4.cell 5; have j6' := hK4.free 5; simp at j5'; have HK4 : Hid (Blk w4 w1.heap.size #[.slice la n lc, .int .i64 t0, .int .i64 t1, .int .i64 t2, .int .i64 t3, .slice ra nr rc, .slice da nd dc] 31) := hK4; clear hn4 hat4 hK4))
          all_goals
            have hg4 := (HO3.out.1.below (below1 w3 (.cells #[.int .i64 dd, .slice a3 nl c3] 69)) (Nat.le_refl _))
            have hC : Calm 45 w3 w4 := (Calm.alloc _ _ _).trans (Calm.grown hgrow4 (hg4.grownT (by decide)))
            have hI4 : OwnL 3 1 encI w4 w1.heap.size (.slice da nd dc) dn := ((HA2.out.2.2.2.2.1.below hB3 (Nat.le_refl _)).below (below1 w3 _) (Nat.le_refl _)).keptT hgrow4 (hg4.grownT (by decide))
            have HF : Hid (HAt w1.heap.size w1.heap.size (.slice la n lc) (w4.setCell ⟨w1.heap.size, 5, none⟩ (.slice a4 n4 c4)) ((t0, t1, t2, t3), DD ++ [(dd, l)], dn)) := by
              have := HAt.put5 HK4.out hown4 (fun x hx => by
                rcases List.mem_append.1 hx with hx | hx
                · exact ((HA2.out.2.2.1 x hx).calm (Calm.below hB3 (Nat.le_refl _))).calm hC
                · rw [List.mem_singleton.1 hx]; exact HT3.out.calm hC) hI4
              rw [List.map_append, HA2.out.2.2.2.1] at this
              exact this
            have hBf : Below w1.heap.size w1 (w4.setCell ⟨w1.heap.size, 5, none⟩ (.slice a4 n4 c4)) := (((HA2.out.2.2.2.2.2.2.2.2.2.trans (hB3.mono (by omega))).trans ((below1 w3 _).mono (by have := hB3.size; omega))).grown hgrow4 (by have := hB3.size; simp; omega) HO3.out.1.base).setCell (Nat.le_refl _) _
            clear hgrow4 hg4 hC hI4 hown4 j0 j1 j2 j5 j6 j5' j6'
            go_wp2
            go_roundw
            case rel => exact ⟨k + 1, by omega, by go_num, by rw [HS.out, HE.out]; exact HF.out, hBf⟩
            case measure => simp [intOf]; omega
        · have HE : Hid (hstep ((t0, t1, t2, t3), DD, dn) (stripL (1, dd, (ax, cx), l)) = ((t0, t1, t2, t3), DD, dn)) := by
            show _ = _
            have hno : hasD DD dd = true := by
              rcases HI.out with ⟨rfl, h⟩ | ⟨i, hi, rfl, h1, h2⟩
              · omega
              · rw [← HA2.out.2.2.2.1]; exact (hasD_idx hi h1 h2).1
            simp only [hstep, stripL, hno]
            rfl
          go_wp2
          go_roundw
          case rel => exact ⟨k + 1, by omega, by go_num, by rw [HS.out, HE.out]; exact HAll.out, HA2.out.2.2.2.2.2.2.2.2.2⟩
          case measure => simp [intOf]; omega
      · have k1' : (kd == 1) = false := by simpa using k1
        by_cases k2 : kd = 2
        · subst k2
          by_cases hr0 : r < 0
          · have HE : Hid (hstep ((t0, t1, t2, t3), DD, dn) (stripL (2, dd, (ax, cx), l)) = ((t0, t1, t2, t3), DD, dn)) := by
              show _ = _
              have hno : hasD DD dd = false := by
                rcases HI.out with ⟨_, h⟩ | ⟨i, hi, rfl, _⟩
                · rw [← HA2.out.2.2.2.1]; exact hasD_none h
                · omega
              simp only [hstep, stripL, hno]
              rfl
            have hr0' : ¬ 0 ≤ r := by omega
            go_wp2
            go_roundw
            case rel => exact ⟨k + 1, by omega, by go_num, by rw [HS.out, HE.out]; exact HAll.out, HA2.out.2.2.2.2.2.2.2.2.2⟩
            case measure => simp [intOf]; omega
          · obtain ⟨i, hi, rfl, h1, h2⟩ : ∃ i, ∃ h : i < XR.length, r = (i : Int) ∧ XR[i].1 = dd ∧ ∀ j, j < i → ∀ h' : j < XR.length, XR[j].1 ≠ dd := by
              rcases HI.out with ⟨rfl, h⟩ | h
              · omega
              · exact h
            obtain ⟨hhas, hfst⟩ := hasD_idx hi h1 h2
            rw [HA2.out.2.2.2.1] at hhas hfst
            have hmem : (XR[i].1, XR[i].2.2) ∈ DD := by rw [← HA2.out.2.2.2.1]; exact List.mem_map.2 ⟨_, List.getElem_mem hi, rfl⟩
            have hoky : OkP XR[i].2.2 := HW.out.2.2.ok _ hmem
            have hpy := (HA2.out.2.2.1 _ (List.getElem_mem hi)).at
            obtain ⟨g, o', rfl⟩ : ∃ g o', ra = some ⟨g, o', none⟩ := by
              rcases HA2.out.2.2.2.2.2.2.1 with h | ⟨g, o', h, _⟩
              · rw [h] at hi; simp at hi
              · exact ⟨g, o', h⟩
            obtain ⟨hgl, _, p1⟩ := rowD_get HA2.out.2.2.2.2.2.2.1 hi
            obtain ⟨s0, s1, s2, s3, hdo⟩ : ∃ s0 s1 s2 s3, doB (t0, t1, t2, t3) XR[i].2.2 = (s0, s1, s2, s3) := ⟨_, _, _, _, rfl⟩
            have HE : Hid (hstep ((t0, t1, t2, t3), DD, dn) (stripL (2, dd, (ax, cx), l)) = ((s0, s1, s2, s3), dropD DD dd, dn ++ [dd])) := by
              show _ = _
              have e1 : hstep ((t0, t1, t2, t3), DD, dn) (stripL (2, dd, (ax, cx), l)) = (doB (t0, t1, t2, t3) (firstP DD dd), dropD DD dd, dn ++ [dd]) := by
                simp only [hstep, stripL, hhas]
                rfl
              rw [e1, hfst, hdo]
            have hin : (i : Int) < (nr : Int) := by have := HA2.out.2.2.2.2.2.1; omega
            generalize XR[i] = y at *
            obtain ⟨yd, ⟨ya, yc⟩, yl⟩ := y
            simp only at p1 hpy hoky hdo
            have HY : Hid (PartsAt w2 ya yl ∧ OkP yl ∧ doB (t0, t1, t2, t3) yl = (s0, s1, s2, s3) ∧ Within 2199023255552 (t0, t1, t2, t3)) := ⟨hpy, hoky, hdo, hwk.out⟩
            generalize hyl : yl.length = ny at *
            have HYL : Hid (yl.length = ny) := hyl
            have HK : Hid (∀ w', Below w2.heap.size w2 w' → ((w'.cell? ⟨w1.heap.size, 1, none⟩ = some (.int .i64 t0) ∧ w'.cell? ⟨w1.heap.size, 2, none⟩ = some (.int .i64 t1) ∧ w'.cell? ⟨w1.heap.size, 3, none⟩ = some (.int .i64 t2) ∧ w'.cell? ⟨w1.heap.size, 4, none⟩ = some (.int .i64 t3)) ∧ (w'.cell? ⟨w1.heap.size, 5, none⟩ = some (.slice (some ⟨g, o', none⟩) nr rc) ∧ w'.cell? ⟨g, o' + i * 2 + 1, none⟩ = some (.slice ya ny yc)) ∧
                (w'.frozen? ⟨w1.heap.size, 1, none⟩ = false ∧ w'.frozen? ⟨w1.heap.size, 2, none⟩ = false ∧ w'.frozen? ⟨w1.heap.size, 3, none⟩ = false ∧ w'.frozen? ⟨w1.heap.size, 4, none⟩ = false))) := fun w' hb => by
              have h2 := HA2.out.1
              have h3 := h2.below hb h2.lt
              exact ⟨⟨h3.cell 1, h3.cell 2, h3.cell 3, h3.cell 4⟩, ⟨h3.cell 5, (hb.cell (p := ⟨g, o' + i * 2 + 1, none⟩) hgl).trans p1⟩, h3.free 1, h3.free 2, h3.free 3, h3.free 4⟩
            clear y1 y2 z1 z2 z3 z4 z5 z6 hyl hpy hoky hdo hhas hfst hmem h1 h2 p1 hi
            have hr0' : 0 ≤ (i : Int) := by omega
            go_upto_region 13 with fail
            have hX0 : Below w2.heap.size w2 w2.drew := (Below.refl _ _).drew
            obtain ⟨⟨i1, i2, i3, i4⟩, ⟨i5, i6⟩, f1, f2, f3, f4⟩ := HK.out _ hX0
            go_cut [] (fun wx => Hid (HAt w1.heap.size w1.heap.size (.slice la n lc) wx ((s0, s1, s2, s3), DD, dn) ∧ Blk wx wr.heap.size #[.int .i64 2, .int .i64 dd, .slice ax nl cx] 67 ∧ Below w1.heap.size w1 wx))
            case first =>
              go_region_with (go_at_call 89; refine (doV HY.out.2.2.1 (do_any t0 t1 t2 t3 ya yl yc ny _ HYL.out.symm HY.out.2.1.1 (by exact HY.out.1.below hX0) HY.out.2.1.2.1 HY.out.2.2.2)).mono ?_; rintro e w3 ⟨rfl, hb3⟩; have hB3 : Below w2.heap.size w2 w3 := hX0.trans (hb3.mono hX0.size); obtain ⟨⟨j1, j2, j3, j4⟩, ⟨j5, j6⟩, e1, e2, e3, e4⟩ := HK.out _ hB3; clear hb3 i1 i2 i3 i4 i5 i6 f1 f2 f3 f4)
              all_goals
                have HM : Hid (HAt w1.heap.size w1.heap.size (.slice la n lc) ((((w3.setCell ⟨w1.heap.size, 1, none⟩ (.int .i64 s0)).setCell ⟨w1.heap.size, 2, none⟩ (.int .i64 s1)).setCell ⟨w1.heap.size, 3, none⟩ (.int .i64 s2)).setCell ⟨w1.heap.size, 4, none⟩ (.int .i64 s3)) ((s0, s1, s2, s3), DD, dn) ∧ Blk ((((w3.setCell ⟨w1.heap.size, 1, none⟩ (.int .i64 s0)).setCell ⟨w1.heap.size, 2, none⟩ (.int .i64 s1)).setCell ⟨w1.heap.size, 3, none⟩ (.int .i64 s2)).setCell ⟨w1.heap.size, 4, none⟩ (.int .i64 s3)) wr.heap.size #[.int .i64 2, .int .i64 dd, .slice ax nl cx] 67 ∧ Below w1.heap.size w1 ((((w3.setCell ⟨w1.heap.size, 1, none⟩ (.int .i64 s0)).setCell ⟨w1.heap.size, 2, none⟩ (.int .i64 s1)).setCell ⟨w1.heap.size, 3, none⟩ (.int .i64 s2)).setCell ⟨w1.heap.size, 4, none⟩ (.int .i64 s3))) := by
                  have hrb := HA2.out.2.2.2.2.2.2.2.1
                  have hne : wr.heap.size ≠ w1.heap.size := by omega
                  exact ⟨(HAll.out.below hB3).put1 s0 s1 s2 s3, ((((hrb.below hB3 hrb.lt).setOther (a := ⟨w1.heap.size, 1, none⟩) hne _).setOther (a := ⟨w1.heap.size, 2, none⟩) hne _).setOther (a := ⟨w1.heap.size, 3, none⟩) hne _).setOther (a := ⟨w1.heap.size, 4, none⟩) hne _, ((((HA2.out.2.2.2.2.2.2.2.2.2.trans (hB3.mono (by omega))).setCell (Nat.le_refl _) _).setCell (Nat.le_refl _) _).setCell (Nat.le_refl _) _).setCell (Nat.le_refl _) _⟩
                go_wp2_with fail
                go_meet
                case rel => exact HM
            case rest =>
            clear i1 i2 i3 i4 i5 i6 f1 f2 f3 f4 HK HAll
            obtain ⟨ra5, nr5, rc5, XR5, da5, nd5, dc5, hB5, hR5, hT5, hD5, hI5⟩ := hcut.out.1
            simp only at hB5 hD5 hI5
            have v1 := hcut.out.2.1.cell 1
            have v6 := hB5.cell 6
            have f6 := hB5.free 6
            simp at v1 v6
            have HC5 : Hid (Blk wc w1.heap.size #[.slice la n lc, .int .i64 s0, .int .i64 s1, .int .i64 s2, .int .i64 s3, .slice ra5 nr5 rc5, .slice da5 nd5 dc5] 31 ∧ OwnL 69 2 encD wc w1.heap.size (.slice ra5 nr5 rc5) XR5 ∧ (∀ x ∈ XR5, PartsT w1.heap.size wc x.2.1.1 x.2.2) ∧ XR5.map stripD = DD ∧ OwnL 3 1 encI wc w1.heap.size (.slice da5 nd5 dc5) dn) := ⟨hB5, hR5, hT5, hD5, hI5⟩
            have hwl := hB5.lt
            have hwr := hcut.out.2.1.lt
            clear hB5 hR5 hT5 hD5 hI5
            go_upto_region 15 with (at_builtin; refine wpList_append_listB lenI oneI Try.underlying29 infoInt rfl (by decide) _ rfl _ _ rfl w1.heap.size _ dn rfl (HC5.out.2.2.2.2.below (below1 wc _) (Nat.le_refl _)) (some ⟨wc.heap.size, 0, none⟩) 1 1 [dd] rfl rfl (RowAt.one (Blk.new wc _ _) (by simp [encI])) (by unfold maxLen; simp; omega) (by simp; omega) (by simp; omega) ?_; intro a4 n4 c4 w4 hown4 hn4 hgrow4 hat4; clear hn4 hat4; have hK4 : Blk w4 w1.heap.size #[.slice la n lc, .int .i64 s0, .int .i64 s1, .int .i64 s2, .int .i64 s3, .slice ra5 nr5 rc5, .slice da5 nd5 dc5] 31 := (HC5.out.1.alloc _).keptT hgrow4 ((HC5.out.2.2.2.2.below (below1 wc _) (Nat.le_refl _)).grownT (by decide)); have j6 := hK4.cell 6; have j6' := hK4.free 6; simp at j6; have HK4 : Hid (Blk w4 w1.heap.size #[.slice la n lc, .int .i64 s0, .int .i64 s1, .int .i64 s2, .int .i64 s3, .slice ra5 nr5 rc5, .slice da5 nd5 dc5] 31) := hK4; clear hK4)
            have hgT := HC5.out.2.2.2.2.below (below1 wc (.cells #[.int .i64 dd] 3)) (Nat.le_refl _)
            have HAW : Hid (HAt w1.heap.size w1.heap.size (.slice la n lc) (w4.setCell ⟨w1.heap.size, 6, none⟩ (.slice a4 n4 c4)) ((s0, s1, s2, s3), DD, dn ++ [dd])) := by
              have := HAt.put6 HK4.out ((HC5.out.2.1.below (below1 wc _) (Nat.le_refl _)).keptT hgrow4 (hgT.grownT (by decide))) (fun x hx => (HC5.out.2.2.1 x hx).calm ((Calm.alloc _ _ _).trans (Calm.grown hgrow4 (hgT.grownT (by decide))))) hown4
              rw [HC5.out.2.2.2.1] at this
              exact this
            have HRW : Hid (Blk (w4.setCell ⟨w1.heap.size, 6, none⟩ (.slice a4 n4 c4)) wr.heap.size #[.int .i64 2, .int .i64 dd, .slice ax nl cx] 67) := ((hcut.out.2.1.alloc _).keptT hgrow4 (hgT.grownT (by decide))).setOther (a := ⟨w1.heap.size, 6, none⟩) (by simp; omega) _
            have HBW : Hid (Below w1.heap.size w1 (w4.setCell ⟨w1.heap.size, 6, none⟩ (.slice a4 n4 c4))) := ((hcut.out.2.2.alloc hcut.out.2.2.size _).grown hgrow4 (by have := hcut.out.2.2.size; simp; omega) HC5.out.2.2.2.2.base).setCell (Nat.le_refl _) _
            clear hgT hgrow4 hown4 j6 j6' v1 v6 f6 HC5 HK4
            generalize w4.setCell ⟨w1.heap.size, 6, none⟩ (.slice a4 n4 c4) = W at *
            obtain ⟨ra5, nr5, rc5, XR5, da5, nd5, dc5, hB5, hR5, hT5, hD5, hI5⟩ := HAW.out
            simp only at hB5 hD5 hI5
            have hX5 : XR5.length ≤ 4398046511104 := by
              have h1 : XR5.length = XR.length := by
                have := congrArg List.length (hD5.trans HA2.out.2.2.2.1.symm)
                simpa using this
              omega
            have v1 := HRW.out.cell 1
            have v5 := hB5.cell 5
            have f5 := hB5.free 5
            simp at v1 v5
            have HB5 : Hid (Blk W w1.heap.size #[.slice la n lc, .int .i64 s0, .int .i64 s1, .int .i64 s2, .int .i64 s3, .slice ra5 nr5 rc5, .slice da5 nd5 dc5] 31 ∧ OwnL 69 2 encD W w1.heap.size (.slice ra5 nr5 rc5) XR5 ∧ (∀ x ∈ XR5, PartsT w1.heap.size W x.2.1.1 x.2.2) ∧ XR5.map stripD = DD ∧ OwnL 3 1 encI W w1.heap.size (.slice da5 nd5 dc5) (dn ++ [dd])) := ⟨hB5, hR5, hT5, hD5, hI5⟩
            have hWlt := hB5.lt
            have hWrt := HRW.out.lt
            clear hB5 hR5 hT5 hD5 hI5 HAW
            go_wp2_with fail
            refine (deleteD_any ra5 XR5 rc5 nr5 w1.heap.size wr.heap.size dd _ hX5 HB5.out.2.1 hWrt (HB5.out.2.1.neT HRW.out (by decide)) v1).mono ?_
            rintro e w6 ⟨n6, rfl, ho6, hg6⟩
            have hgT := HB5.out.2.1
            have hB6 := HB5.out.1.keptT hg6 (hgT.grownT (by decide))
            have hI6 := HB5.out.2.2.2.2.keptT hg6 (hgT.grownT (by decide))
            have hC6 : Calm 45 W w6 := Calm.grown hg6 (hgT.grownT (by decide))
            have HF : Hid (HAt w1.heap.size w1.heap.size (.slice la n lc) (w6.setCell ⟨w1.heap.size, 5, none⟩ (.slice ra5 n6 rc5)) ((s0, s1, s2, s3), dropD DD dd, (dn ++ [dd]))) := by
              have := HAt.put5 hB6 ho6 (fun x hx => (HB5.out.2.2.1 x (List.mem_filter.1 hx).1).calm hC6) hI6
              rw [dropD_map, HB5.out.2.2.2.1] at this
              exact this
            have hBf : Below w1.heap.size w1 (w6.setCell ⟨w1.heap.size, 5, none⟩ (.slice ra5 n6 rc5)) := (HBW.out.grown hg6 HBW.out.size hgT.base).setCell (Nat.le_refl _) _
            have u5 := hB6.cell 5
            have g5 := hB6.free 5
            simp at u5
            clear hB6 hI6 hC6 hgT ho6 hg6 v1 v5 f5
            go_wp2
            go_roundw
            case rel => exact ⟨k + 1, by omega, by go_num, by rw [HS.out, HE.out]; exact HF.out, hBf⟩
            case measure => simp [intOf]; omega
        · have k2' : (kd == 2) = false := by simpa using k2
          by_cases k3 : kd = 3
          · subst k3
            have HE : Hid (hstep ((t0, t1, t2, t3), DD, dn) (stripL (3, dd, (ax, cx), l)) = ((t0, t1, t2, t3), dropD DD dd, dn)) := rfl
            have HAW : Hid (HAt w1.heap.size w1.heap.size (.slice la n lc) w2 ((t0, t1, t2, t3), DD, dn)) := HAll.out
            have HRW : Hid (Blk w2 wr.heap.size #[.int .i64 3, .int .i64 dd, .slice ax nl cx] 67) := HA2.out.2.2.2.2.2.2.2.1
            have HBW : Hid (Below w1.heap.size w1 w2) := HA2.out.2.2.2.2.2.2.2.2.2
            clear y1 y2 z1 z2 z3 z4 z5 z6 HAll
            go_upto_region 17 with fail
            generalize w2 = W at *
            obtain ⟨ra5, nr5, rc5, XR5, da5, nd5, dc5, hB5, hR5, hT5, hD5, hI5⟩ := HAW.out
            simp only at hB5 hD5 hI5
            have hX5 : XR5.length ≤ 4398046511104 := by
              have h1 : XR5.length = XR.length := by
                have := congrArg List.length (hD5.trans HA2.out.2.2.2.1.symm)
                simpa using this
              omega
            have v1 := HRW.out.cell 1
            have v5 := hB5.cell 5
            have f5 := hB5.free 5
            simp at v1 v5
            have HB5 : Hid (Blk W w1.heap.size #[.slice la n lc, .int .i64 t0, .int .i64 t1, .int .i64 t2, .int .i64 t3, .slice ra5 nr5 rc5, .slice da5 nd5 dc5] 31 ∧ OwnL 69 2 encD W w1.heap.size (.slice ra5 nr5 rc5) XR5 ∧ (∀ x ∈ XR5, PartsT w1.heap.size W x.2.1.1 x.2.2) ∧ XR5.map stripD = DD ∧ OwnL 3 1 encI W w1.heap.size (.slice da5 nd5 dc5) dn) := ⟨hB5, hR5, hT5, hD5, hI5⟩
            have hWlt := hB5.lt
            have hWrt := HRW.out.lt
            clear hB5 hR5 hT5 hD5 hI5 HAW
            go_wp2_with fail
            refine (deleteD_any ra5 XR5 rc5 nr5 w1.heap.size wr.heap.size dd _ hX5 HB5.out.2.1 hWrt (HB5.out.2.1.neT HRW.out (by decide)) v1).mono ?_
            rintro e w6 ⟨n6, rfl, ho6, hg6⟩
            have hgT := HB5.out.2.1
            have hB6 := HB5.out.1.keptT hg6 (hgT.grownT (by decide))
            have hI6 := HB5.out.2.2.2.2.keptT hg6 (hgT.grownT (by decide))
            have hC6 : Calm 45 W w6 := Calm.grown hg6 (hgT.grownT (by decide))
            have HF : Hid (HAt w1.heap.size w1.heap.size (.slice la n lc) (w6.setCell ⟨w1.heap.size, 5, none⟩ (.slice ra5 n6 rc5)) ((t0, t1, t2, t3), dropD DD dd, dn)) := by
              have := HAt.put5 hB6 ho6 (fun x hx => (HB5.out.2.2.1 x (List.mem_filter.1 hx).1).calm hC6) hI6
              rw [dropD_map, HB5.out.2.2.2.1] at this
              exact this
            have hBf : Below w1.heap.size w1 (w6.setCell ⟨w1.heap.size, 5, none⟩ (.slice ra5 n6 rc5)) := (HBW.out.grown hg6 HBW.out.size hgT.base).setCell (Nat.le_refl _) _
            have u5 := hB6.cell 5
            have g5 := hB6.free 5
            simp at u5
            clear hB6 hI6 hC6 hgT ho6 hg6 v1 v5 f5
            go_wp2
            go_roundw
            case rel => exact ⟨k + 1, by omega, by go_num, by rw [HS.out, HE.out]; exact HF.out, hBf⟩
            case measure => simp [intOf]; omega
          · have k3' : (kd == 3) = false := by simpa using k3
            have HE : Hid (hstep ((t0, t1, t2, t3), DD, dn) (stripL (kd, dd, (ax, cx), l)) = ((t0, t1, t2, t3), DD, dn)) := by
              show _ = _
              exact hstep_other k1 k2 k3
            clear k1 k2 k3
            go_wp2
            go_roundw
            case rel => exact ⟨k + 1, by omega, by go_num, by rw [HS.out, HE.out]; exact HAll.out, HA2.out.2.2.2.2.2.2.2.2.2⟩
            case measure => simp [intOf]; omega
    · have hkn : k = n := by omega
      have hfull : (X.take k).map stripL = X.map stripL := by rw [List.take_of_length_le (by have := HN.out.1; omega)]
      obtain ⟨hHA, hB1⟩ := hH.out
      rw [hfull] at hHA
      obtain ⟨ra, nr, rc, XR, da, nd, dc, hB, hR, hT, hD, hI⟩ := hHA
      have hN := H1.out.2.2.2.1.below hB1 H1.out.2.2.2.1.lt
      generalize hhb : houseB (X.map stripL) = h at *
      have HHB : Hid (houseB (X.map stripL) = h) := hhb
      clear hhb hH hfull
      obtain ⟨⟨t0, t1, t2, t3⟩, DD, dn⟩ := h
      simp only at hB hD hI
      obtain ⟨hW, hOnly⟩ := fill7 hN (.slice la n lc) (.int .i64 t0) (.int .i64 t1) (.int .i64 t2) (.int .i64 t3) (.slice ra nr rc) (.slice da nd dc)
      have hBW : Below w.heap.size w (((((((wr.setCell ⟨w.heap.size, 0, none⟩ (.slice la n lc)).setCell ⟨w.heap.size, 1, none⟩ (.int .i64 t0)).setCell ⟨w.heap.size, 2, none⟩ (.int .i64 t1)).setCell ⟨w.heap.size, 3, none⟩ (.int .i64 t2)).setCell ⟨w.heap.size, 4, none⟩ (.int .i64 t3)).setCell ⟨w.heap.size, 5, none⟩ (.slice ra nr rc)).setCell ⟨w.heap.size, 6, none⟩ (.slice da nd dc)) :=
        (((((((H1.out.2.2.1.trans (hB1.mono (by omega))).setCell (Nat.le_refl _) _).setCell (Nat.le_refl _) _).setCell (Nat.le_refl _) _).setCell (Nat.le_refl _) _).setCell (Nat.le_refl _) _).setCell (Nat.le_refl _) _).setCell (Nat.le_refl _) _
      have HF : Hid (HouseN w.heap.size (((((((wr.setCell ⟨w.heap.size, 0, none⟩ (.slice la n lc)).setCell ⟨w.heap.size, 1, none⟩ (.int .i64 t0)).setCell ⟨w.heap.size, 2, none⟩ (.int .i64 t1)).setCell ⟨w.heap.size, 3, none⟩ (.int .i64 t2)).setCell ⟨w.heap.size, 4, none⟩ (.int .i64 t3)).setCell ⟨w.heap.size, 5, none⟩ (.slice ra nr rc)).setCell ⟨w.heap.size, 6, none⟩ (.slice da nd dc))
          (.agg #[.slice la n lc, .int .i64 t0, .int .i64 t1, .int .i64 t2, .int .i64 t3, .slice ra nr rc, .slice da nd dc]) (X.map stripL) ((t0, t1, t2, t3), DD, dn)) := by
        have hlog := H1.out.2.1.below hB1
        exact ⟨la, n, lc, Y, ra, nr, rc, XR, da, nd, dc, rfl, ⟨H1.out.1, (hlog.1.only hOnly (by decide)).mono (by omega), fun y hy => ((hlog.2 y hy).mono (by omega)).calm (hOnly.calm (by decide))⟩, ⟨hD, (hR.only hOnly (by decide)).mono (by omega), fun x hx => ((hT x hx).mono (by omega)).calm (hOnly.calm (by decide))⟩, (hI.only hOnly (by decide)).mono (by omega)⟩
      have HBlk : Hid _ := And.intro hW hBW
      have b0 := hB.cell 0
      have b1 := hB.cell 1
      have b2 := hB.cell 2
      have b3 := hB.cell 3
      have b4 := hB.cell 4
      have b5 := hB.cell 5
      have b6 := hB.cell 6
      have n0 := hN.cell 0
      have n1 := hN.cell 1
      have n2 := hN.cell 2
      have n3 := hN.cell 3
      have n4 := hN.cell 4
      have n5 := hN.cell 5
      have n6 := hN.cell 6
      have f0 := hN.free 0
      have f1 := hN.free 1
      have f2 := hN.free 2
      have f3 := hN.free 3
      have f4 := hN.free 4
      have f5 := hN.free 5
      have f6 := hN.free 6
      simp at b0 b1 b2 b3 b4 b5 b6 n0 n1 n2 n3 n4 n5 n6
      clear hW hBW hOnly hB hN hR hT hD hI
      go_wp2_with fail
      clear b0 b1 b2 b3 b4 b5 b6 n0 n1 n2 n3 n4 n5 n6 f0 f1 f2 f3 f4 f5 f6
      have e0 := Blk.cell HBlk.out.1 0
      have e1 := Blk.cell HBlk.out.1 1
      have e2 := Blk.cell HBlk.out.1 2
      have e3 := Blk.cell HBlk.out.1 3
      have e4 := Blk.cell HBlk.out.1 4
      have e5 := Blk.cell HBlk.out.1 5
      have e6 := Blk.cell HBlk.out.1 6
      simp only [List.getElem?_toArray, List.getElem?_cons_zero, List.getElem?_cons_succ] at e0 e1 e2 e3 e4 e5 e6
      refine bodyPost_ret (v := .agg #[.slice la n lc, .int .i64 t0, .int .i64 t1, .int .i64 t2, .int .i64 t3, .slice ra nr rc, .slice da nd dc]) ?_ rfl ⟨_, rfl, by rw [HHB.out]; exact HF.out, HBlk.out.2⟩
      simp [results, Try.results65, go_sem, e0, e1, e2, e3, e4, e5, e6]

end Go.Proofs.Ytikmnaegalmfeaa
