/- Small facts for the statements about chapter 7. -/
import Derived.Test.YtikmnaegalmfeaaKHousB
namespace Go.Proofs.Ytikmnaegalmfeaa
open Go.RowKit

theorem houseN_open {base : Nat} {w : World} {v : Value} {L : List R3} {h : H3} (hh : HouseN base w v L h) : ∃ (la : Option Addr) (nl lc : Nat) (t0 t1 t2 t3 : Int) (ra : Option Addr) (nr rc : Nat) (da : Option Addr) (nd dc : Nat), v = .agg #[.slice la nl lc, .int .i64 t0, .int .i64 t1, .int .i64 t2, .int .i64 t3, .slice ra nr rc, .slice da nd dc] := by
  obtain ⟨la, nl, lc, Y, ra, nr, rc, XR, da, nd, dc, hv, -⟩ := hh
  exact ⟨la, nl, lc, _, _, _, _, ra, nr, rc, da, nd, dc, hv⟩
theorem msgX_parts {w : World} {M : List Q4} : ∀ x ∈ M.map msgX, PartsAt w x.2.2.2.1.1 x.2.2.2.2 := fun x hx => by
  obtain ⟨q, _, rfl⟩ := List.mem_map.1 hx
  exact Or.inl rfl
theorem msgX_small {M : List Q4} : ∀ x ∈ M.map msgX, x.2.2.2.2.length ≤ 9223372036854775807 := fun x hx => by
  obtain ⟨q, _, rfl⟩ := List.mem_map.1 hx
  simp [msgX]
theorem hearM_len (L : List R3) (me k d : Int) (l : List P3) : (hearM L me k d l).length ≤ 1 := by
  unfold hearM
  rw [List.length_map]
  cases hearS L k d l <;> simp

end Go.Proofs.Ytikmnaegalmfeaa
