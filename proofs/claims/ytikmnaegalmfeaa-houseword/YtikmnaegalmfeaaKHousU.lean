/- Houses as values, of whatever capacity their slices are. -/
import Derived.Test.YtikmnaegalmfeaaKJ27
namespace Go.Proofs.Ytikmnaegalmfeaa
open Go.RowKit

/-- A house as a value: its log, and what the log made. -/
def HouseU (w : World) (v : Value) (L : List R3) (h : H3) : Prop :=
  ∃ (la : Option Addr) (nl lc : Nat) (Y : List XL) (ra : Option Addr) (nr rc : Nat) (XR : List XD) (da : Option Addr) (nd dc : Nat),
    v = .agg #[.slice la nl lc, .int .i64 h.1.1, .int .i64 h.1.2.1, .int .i64 h.1.2.2.1, .int .i64 h.1.2.2.2, .slice ra nr rc, .slice da nd dc] ∧
    (nl = L.length ∧ Y.map stripL = L ∧ RecsAt w la Y) ∧ (nr = XR.length ∧ XR.map stripD = h.2.1 ∧ DeedsAt w ra XR) ∧ (nd = h.2.2.length ∧ RowAt 1 encI w da h.2.2)
theorem HouseAt.u {w : World} {v : Value} {L : List R3} {h : H3} (hh : HouseAt w v L h) : HouseU w v L h := by
  obtain ⟨la, nl, lc, Y, ra, nr, rc, XR, da, nd, dc, hv, h1, h2, h3, -, -, h4⟩ := hh
  exact ⟨la, nl, lc, Y, ra, nr, rc, XR, da, nd, dc, hv, h1, h2, h3, h4⟩
theorem HouseN.u {base : Nat} {w : World} {v : Value} {L : List R3} {h : H3} (hh : HouseN base w v L h) : HouseU w v L h := hh.at.u
theorem HouseU.below {w w' : World} {v : Value} {L : List R3} {h : H3} (hh : HouseU w v L h) (hb : Below w.heap.size w w') : HouseU w' v L h := by
  obtain ⟨la, nl, lc, Y, ra, nr, rc, XR, da, nd, dc, hv, ⟨h1, h2, h3⟩, ⟨h4, h5, h6⟩, h7, h10⟩ := hh
  exact ⟨la, nl, lc, Y, ra, nr, rc, XR, da, nd, dc, hv, ⟨h1, h2, h3.below hb⟩, ⟨h4, h5, h6.below hb⟩, h7, h10.below hb⟩
theorem HouseV.u {R : Nat → Prop} {w : World} {v : Value} {L : List R3} {h : H3} (H : HouseV R w v L h) : HouseU w v L h := by
  obtain ⟨la, nl, lc, Y, ra, nr, rc, XR, da, nd, dc, hv, F⟩ := H
  exact ⟨la, nl, lc, Y, ra, nr, rc, XR, da, nd, dc, hv, ⟨by rw [F.ln, ← F.says, List.length_map], F.says, F.log, fun y hy => (F.parts y hy).1⟩, ⟨F.rn, F.rsays, F.rdy, fun x hx => (F.rparts x hx).1⟩, F.dn, F.done⟩
theorem out_none (a : Option Addr) (n : Nat) : Out (fun _ => False) a n := Or.inr (fun _ _ h => h)
theorem HouseU.v {w : World} {v : Value} {L : List R3} {h : H3} (H : HouseU w v L h) : HouseV (fun _ => False) w v L h := by
  obtain ⟨la, nl, lc, Y, ra, nr, rc, XR, da, nd, dc, hv, ⟨h1, h2, h3⟩, ⟨h4, h5, h6⟩, h7, h8⟩ := H
  exact ⟨la, nl, lc, Y, ra, nr, rc, XR, da, nd, dc, hv, ⟨by rw [h1, ← h2, List.length_map], h3.1, out_none _ _, h2, fun y hy => ⟨h3.2 y hy, out_none _ _⟩, h4, h6.1, out_none _ _, h5, fun x hx => ⟨h6.2 x hx, out_none _ _⟩, h7, h8, out_none _ _⟩⟩
/-- What a call has made lies outside whatever was there. -/
theorem HouseN.v {base : Nat} {w : World} {v : Value} {L : List R3} {h : H3} (H : HouseN base w v L h) {R : Nat → Prop} (hR : ∀ b, R b → b < base) : HouseV R w v L h := by
  obtain ⟨la, nl, lc, Y, ra, nr, rc, XR, da, nd, dc, hv, ⟨h1, h2⟩, ⟨h3, h4, h5⟩, h6⟩ := H
  have k1 := h2.1.at lenL
  have k2 := h4.at lenD
  have k3 := h6.at lenI
  have hp : ∀ (a : Option Addr) (l : List P3), PartsT base w a l → PartsR R w a l := fun a l h => by
    refine ⟨h.at, ?_⟩
    rcases h with rfl | ⟨b, o, cs, rfl, hb, -, -⟩
    · exact Or.inl rfl
    · refine Or.inr (fun ad had hr => ?_)
      cases had
      have h' : b < base := hR _ hr
      omega
  exact ⟨la, nl, lc, Y, ra, nr, rc, XR, da, nd, dc, hv, ⟨k1.2.1, k1.1, h2.1.outR hR _, h1, fun y hy => hp _ _ (h2.2 y hy), k2.2.1, k2.1, h4.outR hR _, h3, fun x hx => hp _ _ (h5 x hx), k3.2.1, k3.1, h6.outR hR _⟩⟩

end Go.Proofs.Ytikmnaegalmfeaa
