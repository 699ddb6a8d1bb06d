/- Houses that right logs make: their deeds, as locks read them. -/
import Derived.Test.YtikmnaegalmfeaaKRefH
import Derived.Test.YtikmnaegalmfeaaKJ15
import Derived.Test.YtikmnaegalmfeaaKLock2
import Derived.Test.YtikmnaegalmfeaaKLock1
namespace Go.Proofs.Ytikmnaegalmfeaa
open Go.RowKit

/-- What a house is ready for, as it lies. -/
structure RdyAt (w : World) (ra : Option Addr) (nr : Nat) (XR : List XD) (D : List D2) : Prop where
  n : nr = XR.length
  few : XR.length ≤ 9223372036854775807
  small : ∀ x ∈ XR, x.2.2.length ≤ 9223372036854775807
  lies : DeedsAt w ra XR
  says : XR.map stripD = D
theorem RdyAt.below {w w' : World} {ra : Option Addr} {nr : Nat} {XR : List XD} {D : List D2} (h : RdyAt w ra nr XR D) (hb : Below w.heap.size w w') : RdyAt w' ra nr XR D := ⟨h.n, h.few, h.small, h.lies.below hb, h.says⟩
/-- A house's value, opened. -/
theorem HouseAt.open {w : World} {v : Value} {L : List R3} {h : H3} {k : Nat} (hh : HouseAt w v L h) (hi : HInv k h) (hk : k ≤ 9223372036854775807) : ∃ (la : Option Addr) (nl lc : Nat) (ra : Option Addr) (nr rc : Nat) (XR : List XD) (da : Option Addr) (nd dc : Nat),
    v = .agg #[.slice la nl lc, .int .i64 h.1.1, .int .i64 h.1.2.1, .int .i64 h.1.2.2.1, .int .i64 h.1.2.2.2, .slice ra nr rc, .slice da nd dc] ∧ RdyAt w ra nr XR h.2.1 := by
  obtain ⟨la, nl, lc, Y, ra, nr, rc, XR, da, nd, dc, hv, _, ⟨h4, h5, h6⟩, _⟩ := hh
  refine ⟨la, nl, lc, ra, nr, rc, XR, da, nd, dc, hv, h4, ?_, ?_, h6, h5⟩
  · have h1 := hi.few
    rw [← h5, List.length_map] at h1
    omega
  · intro x hx
    have h1 := (hi.ok (stripD x) (by rw [← h5]; exact List.mem_map.2 ⟨x, hx, rfl⟩)).1
    have h2 : x.2.2.length ≤ 4 := h1
    omega
theorem freeR_any (la ra da pa : Option Addr) (nl lc nr rc nd dc np pc : Nat) (s0 s1 s2 s3 : Int) (XR : List XD) (D : List D2) (l : List P3) (w : World) (h : RdyAt w ra nr XR D) (hnp : np = l.length) (hlp : l.length ≤ 9223372036854775807) (hq : PartsAt w pa l) :
    Calls Try.prog 39 #[.agg #[.slice la nl lc, .int .i64 s0, .int .i64 s1, .int .i64 s2, .int .i64 s3, .slice ra nr rc, .slice da nd dc], .slice pa np pc] w fun e w' => e = .returned (.bool (freeB D l)) ∧ Below w.heap.size w w' := by
  rw [← h.says]
  exact free_any la ra da pa nl lc nr rc nd dc np pc s0 s1 s2 s3 XR l w h.n h.few h.small h.lies hnp hlp hq

end Go.Proofs.Ytikmnaegalmfeaa
