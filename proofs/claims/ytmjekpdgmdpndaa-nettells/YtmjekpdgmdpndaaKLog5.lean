/- What log.House does, called at a log that lies in memory. -/
import Derived.Test.YtmjekpdgmdpndaaKJ04
import Derived.Deep.RegionLaw
namespace Go.Proofs.Ytmjekpdgmdpndaa
open Go.RowKit
attribute [local go_sem ↓] Go.wp_at_zero Go.wp_at_succ
theorem infoInt : (Try.prog.info? 3).map (fun i => (i.zero, i.size, i.bytes)) = some (some (.int .i64 0), 1, 8) := by kernel_rfl

theorem Blk.keptT {w w' : World} {b : Nat} {cs : Array Value} {t : TypeId} (h : Blk w b cs t) {row : Option Nat} (hg : w.grownBy w' row) (hr : ∀ k, row = some k → ∃ cs t', Blk w k cs t' ∧ t' ≠ t) : Blk w' b cs t := Calm.grown hg hr _ _ h

/-- All blocks of other types are as they were. -/
def Only (T : TypeId) (w w' : World) : Prop := ∀ b cs t, t ≠ T → Blk w b cs t → Blk w' b cs t
theorem Only.trans {T : TypeId} {a b c : World} (h : Only T a b) (k : Only T b c) : Only T a c := fun _ _ _ ht x => k _ _ _ ht (h _ _ _ ht x)
theorem Only.setCell {T : TypeId} {w : World} {a : Addr} {cs : Array Value} (hb : Blk w a.block cs T) (u : Value) : Only T w (w.setCell a u) := fun _ _ _ ht x => Calm.setCell hb (fun e => ht e.symm) u _ _ x
theorem Only.calm {T t : TypeId} {w w' : World} (h : Only T w w') (ht : t ≠ T) : Calm t w w' := fun _ _ x => h _ _ _ ht x
theorem OwnL.only {α : Type} {e T : TypeId} {size : Nat} {enc : α → List Value} {w w' : World} {base : Nat} {v : Value} {xs : List α} (h : OwnL e size enc w base v xs) (ho : Only T w w') (he : e ≠ T) : OwnL e size enc w' base v xs := by
  refine ⟨h.1, ?_⟩
  rcases h.2 with h0 | ⟨g, cap, cur, hv, hg, hh, r⟩
  · exact Or.inl h0
  · exact Or.inr ⟨g, cap, cur, hv, hg, ho _ _ _ he hh, r⟩
theorem fill7 {w : World} {N : Nat} {T : TypeId} {c0 c1 c2 c3 c4 c5 c6 : Value} (hb : Blk w N #[c0, c1, c2, c3, c4, c5, c6] T) (v0 v1 v2 v3 v4 v5 v6 : Value) :
    Blk (((((((w.setCell ⟨N, 0, none⟩ v0).setCell ⟨N, 1, none⟩ v1).setCell ⟨N, 2, none⟩ v2).setCell ⟨N, 3, none⟩ v3).setCell ⟨N, 4, none⟩ v4).setCell ⟨N, 5, none⟩ v5).setCell ⟨N, 6, none⟩ v6) N #[v0, v1, v2, v3, v4, v5, v6] T ∧
    Only T w (((((((w.setCell ⟨N, 0, none⟩ v0).setCell ⟨N, 1, none⟩ v1).setCell ⟨N, 2, none⟩ v2).setCell ⟨N, 3, none⟩ v3).setCell ⟨N, 4, none⟩ v4).setCell ⟨N, 5, none⟩ v5).setCell ⟨N, 6, none⟩ v6) := by
  have b0 : Blk (w.setCell ⟨N, 0, none⟩ v0) N #[v0, c1, c2, c3, c4, c5, c6] T := hb.set 0 v0
  have b1 : Blk ((w.setCell ⟨N, 0, none⟩ v0).setCell ⟨N, 1, none⟩ v1) N #[v0, v1, c2, c3, c4, c5, c6] T := b0.set 1 v1
  have b2 : Blk (((w.setCell ⟨N, 0, none⟩ v0).setCell ⟨N, 1, none⟩ v1).setCell ⟨N, 2, none⟩ v2) N #[v0, v1, v2, c3, c4, c5, c6] T := b1.set 2 v2
  have b3 : Blk ((((w.setCell ⟨N, 0, none⟩ v0).setCell ⟨N, 1, none⟩ v1).setCell ⟨N, 2, none⟩ v2).setCell ⟨N, 3, none⟩ v3) N #[v0, v1, v2, v3, c4, c5, c6] T := b2.set 3 v3
  have b4 : Blk (((((w.setCell ⟨N, 0, none⟩ v0).setCell ⟨N, 1, none⟩ v1).setCell ⟨N, 2, none⟩ v2).setCell ⟨N, 3, none⟩ v3).setCell ⟨N, 4, none⟩ v4) N #[v0, v1, v2, v3, v4, c5, c6] T := b3.set 4 v4
  have b5 : Blk ((((((w.setCell ⟨N, 0, none⟩ v0).setCell ⟨N, 1, none⟩ v1).setCell ⟨N, 2, none⟩ v2).setCell ⟨N, 3, none⟩ v3).setCell ⟨N, 4, none⟩ v4).setCell ⟨N, 5, none⟩ v5) N #[v0, v1, v2, v3, v4, v5, c6] T := b4.set 5 v5
  have b6 : Blk (((((((w.setCell ⟨N, 0, none⟩ v0).setCell ⟨N, 1, none⟩ v1).setCell ⟨N, 2, none⟩ v2).setCell ⟨N, 3, none⟩ v3).setCell ⟨N, 4, none⟩ v4).setCell ⟨N, 5, none⟩ v5).setCell ⟨N, 6, none⟩ v6) N #[v0, v1, v2, v3, v4, v5, v6] T := b5.set 6 v6
  exact ⟨b6, (((((((Only.setCell (a := ⟨N, 0, none⟩) hb v0).trans (Only.setCell (a := ⟨N, 1, none⟩) b0 v1)).trans (Only.setCell (a := ⟨N, 2, none⟩) b1 v2)).trans (Only.setCell (a := ⟨N, 3, none⟩) b2 v3)).trans (Only.setCell (a := ⟨N, 4, none⟩) b3 v4)).trans (Only.setCell (a := ⟨N, 5, none⟩) b4 v5)).trans (Only.setCell (a := ⟨N, 6, none⟩) b5 v6))⟩

/-- A house as a value: its log, and what the log made. -/
def HouseAt (w : World) (v : Value) (L : List R3) (h : H3) : Prop :=
  ∃ (la : Option Addr) (nl lc : Nat) (Y : List XL) (ra : Option Addr) (nr rc : Nat) (XR : List XD) (da : Option Addr) (nd dc : Nat),
    v = .agg #[.slice la nl lc, .int .i64 h.1.1, .int .i64 h.1.2.1, .int .i64 h.1.2.2.1, .int .i64 h.1.2.2.2, .slice ra nr rc, .slice da nd dc] ∧
    (nl = L.length ∧ Y.map stripL = L ∧ RecsAt w la Y) ∧ (nr = XR.length ∧ XR.map stripD = h.2.1 ∧ DeedsAt w ra XR) ∧ (nd = h.2.2.length ∧ nd ≤ dc ∧ dc ≤ maxLen ∧ RowAt 1 encI w da h.2.2)
theorem HouseAt.below {w w' : World} {v : Value} {L : List R3} {h : H3} (hh : HouseAt w v L h) (hb : Below w.heap.size w w') : HouseAt w' v L h := by
  obtain ⟨la, nl, lc, Y, ra, nr, rc, XR, da, nd, dc, hv, ⟨h1, h2, h3⟩, ⟨h4, h5, h6⟩, h7, h8, h9, h10⟩ := hh
  exact ⟨la, nl, lc, Y, ra, nr, rc, XR, da, nd, dc, hv, ⟨h1, h2, h3.below hb⟩, ⟨h4, h5, h6.below hb⟩, h7, h8, h9, h10.below hb⟩

/-- .. all of it in blocks of their own kinds, from base on. -/
def HouseN (base : Nat) (w : World) (v : Value) (L : List R3) (h : H3) : Prop :=
  ∃ (la : Option Addr) (nl lc : Nat) (Y : List XL) (ra : Option Addr) (nr rc : Nat) (XR : List XD) (da : Option Addr) (nd dc : Nat),
    v = .agg #[.slice la nl lc, .int .i64 h.1.1, .int .i64 h.1.2.1, .int .i64 h.1.2.2.1, .int .i64 h.1.2.2.2, .slice ra nr rc, .slice da nd dc] ∧
    (Y.map stripL = L ∧ RecsO w base (.slice la nl lc) Y) ∧ (XR.map stripD = h.2.1 ∧ OwnL 85 2 encD w base (.slice ra nr rc) XR ∧ ∀ x ∈ XR, PartsT base w x.2.1.1 x.2.2) ∧ OwnL 3 1 encI w base (.slice da nd dc) h.2.2
def HouseO (w : World) (v : Value) (L : List R3) (h : H3) : Prop := HouseN 0 w v L h
theorem HouseN.mono {base base' : Nat} {w : World} {v : Value} {L : List R3} {h : H3} (hh : HouseN base w v L h) (hb : base' ≤ base) : HouseN base' w v L h := by
  obtain ⟨la, nl, lc, Y, ra, nr, rc, XR, da, nd, dc, hv, ⟨h1, h2⟩, ⟨h3, h4, h5⟩, h6⟩ := hh
  exact ⟨la, nl, lc, Y, ra, nr, rc, XR, da, nd, dc, hv, ⟨h1, h2.mono hb⟩, ⟨h3, h4.mono hb, fun x hx => (h5 x hx).mono hb⟩, h6.mono hb⟩
theorem HouseN.at {base : Nat} {w : World} {v : Value} {L : List R3} {h : H3} (hh : HouseN base w v L h) : HouseAt w v L h := by
  obtain ⟨la, nl, lc, Y, ra, nr, rc, XR, da, nd, dc, hv, ⟨h1, h2⟩, ⟨h3, h4, h5⟩, h6⟩ := hh
  have k1 := h2.1.at lenL
  have k2 := h4.at lenD
  have k3 := h6.at lenI
  exact ⟨la, nl, lc, Y, ra, nr, rc, XR, da, nd, dc, hv, ⟨by rw [k1.2.1, ← h1, List.length_map], h1, h2.at⟩, ⟨k2.2.1, h3, k2.1, fun x hx => (h5 x hx).at⟩, k3.2.1, by rw [k3.2.1]; exact k3.2.2.1, k3.2.2.2, k3.1⟩
theorem HouseN.only {base : Nat} {w w' : World} {v : Value} {L : List R3} {h : H3} (hh : HouseN base w v L h) (ho : Only 123 w w') : HouseN base w' v L h := by
  obtain ⟨la, nl, lc, Y, ra, nr, rc, XR, da, nd, dc, hv, ⟨h1, h2⟩, ⟨h3, h4, h5⟩, h6⟩ := hh
  exact ⟨la, nl, lc, Y, ra, nr, rc, XR, da, nd, dc, hv, ⟨h1, h2.1.only ho (by decide), fun y hy => (h2.2 y hy).calm (ho.calm (by decide))⟩, ⟨h3, h4.only ho (by decide), fun x hx => (h5 x hx).calm (ho.calm (by decide))⟩, h6.only ho (by decide)⟩
theorem HouseN.below {base : Nat} {w w' : World} {v : Value} {L : List R3} {h : H3} (hh : HouseN base w v L h) (hb : Below w.heap.size w w') : HouseN base w' v L h := by
  obtain ⟨la, nl, lc, Y, ra, nr, rc, XR, da, nd, dc, hv, ⟨h1, h2⟩, ⟨h3, h4, h5⟩, h6⟩ := hh
  exact ⟨la, nl, lc, Y, ra, nr, rc, XR, da, nd, dc, hv, ⟨h1, h2.below hb⟩, ⟨h3, h4.below hb (Nat.le_refl _), fun x hx => (h5 x hx).calm (Calm.below hb (Nat.le_refl _))⟩, h6.below hb (Nat.le_refl _)⟩
theorem HouseO.at {w : World} {v : Value} {L : List R3} {h : H3} (hh : HouseO w v L h) : HouseAt w v L h := HouseN.at hh
theorem HouseO.only {w w' : World} {v : Value} {L : List R3} {h : H3} (hh : HouseO w v L h) (ho : Only 123 w w') : HouseO w' v L h := HouseN.only hh ho

/-- On the way: block B holds the house h, whose log is the slice lv; what it has lies from base on. -/
def HAt (B base : Nat) (lv : Value) (w : World) (h : H3) : Prop :=
  ∃ (ra : Option Addr) (nr rc : Nat) (XR : List XD) (da : Option Addr) (nd dc : Nat),
    Blk w B #[lv, .int .i64 h.1.1, .int .i64 h.1.2.1, .int .i64 h.1.2.2.1, .int .i64 h.1.2.2.2, .slice ra nr rc, .slice da nd dc] 123 ∧
    OwnL 85 2 encD w base (.slice ra nr rc) XR ∧ (∀ x ∈ XR, PartsT base w x.2.1.1 x.2.2) ∧ XR.map stripD = h.2.1 ∧ OwnL 3 1 encI w base (.slice da nd dc) h.2.2
theorem HAt.below {B base : Nat} {lv : Value} {w w' : World} {h : H3} (hh : HAt B base lv w h) (hb : Below w.heap.size w w') : HAt B base lv w' h := by
  obtain ⟨ra, nr, rc, XR, da, nd, dc, h1, h2, h3, h4, h5⟩ := hh
  exact ⟨ra, nr, rc, XR, da, nd, dc, h1.below hb h1.lt, h2.below hb (Nat.le_refl _), fun x hx => (h3 x hx).calm (Calm.below hb (Nat.le_refl _)), h4, h5.below hb (Nat.le_refl _)⟩
end Go.Proofs.Ytmjekpdgmdpndaa
