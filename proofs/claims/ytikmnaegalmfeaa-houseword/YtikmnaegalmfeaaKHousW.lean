/- Small facts for the statements about chapter 7. -/
import Derived.Test.YtikmnaegalmfeaaKHousB
namespace Go.Proofs.Ytikmnaegalmfeaa
open Go.RowKit

theorem houseN_open {base : Nat} {w : World} {v : Value} {L : List R3} {h : H3} (hh : HouseN base w v L h) : ∃ (la : Option Addr) (nl lc : Nat) (t0 t1 t2 t3 : Int) (ra : Option Addr) (nr rc : Nat) (da : Option Addr) (nd dc : Nat), v = .agg #[.slice la nl lc, .int .i64 t0, .int .i64 t1, .int .i64 t2, .int .i64 t3, .slice ra nr rc, .slice da nd dc] := by
  obtain ⟨la, nl, lc, Y, ra, nr, rc, XR, da, nd, dc, hv, -⟩ := hh
  exact ⟨la, nl, lc, _, _, _, _, ra, nr, rc, da, nd, dc, hv⟩
end Go.Proofs.Ytikmnaegalmfeaa
