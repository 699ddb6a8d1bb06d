/- Deeds that are ready, in memory. -/
import Derived.Test.YtmihdckjoodjeabPartA
namespace Go.Proofs.Ytmihdckjoodjeab
open Go.RowKit

/-- Deeds whose parts are L lie in memory from the address on. -/
def ReadysAt (w : World) (a : Option Addr) (L : List (List P3)) : Prop :=
  L = [] ∨ ∃ b o, a = some ⟨b, o, none⟩ ∧ b < w.heap.size ∧ ∀ i (h : i < L.length), ∃ (d : Int) (a' : Option Addr) (cap : Nat),
    w.cell? ⟨b, o + i * 2, none⟩ = some (.int .i64 d) ∧ w.cell? ⟨b, o + i * 2 + 1, none⟩ = some (.slice a' L[i].length cap) ∧ PartsAt w a' L[i] ∧ L[i].length ≤ cap ∧ cap ≤ maxLen
theorem ReadysAt.below {w w' : World} {a : Option Addr} {L : List (List P3)} (h : ReadysAt w a L) (hb : Below w.heap.size w w') : ReadysAt w' a L := by
  rcases h with rfl | ⟨b, o, rfl, hlt, hc⟩
  · exact Or.inl rfl
  · refine Or.inr ⟨b, o, rfl, Nat.lt_of_lt_of_le hlt hb.size, fun i hi => ?_⟩
    obtain ⟨d, a', cap, h1, h2, h3, h4⟩ := hc i hi
    obtain ⟨hcc, _⟩ := bcell hb
    exact ⟨d, a', cap, (hcc _ _ hlt).trans h1, (hcc _ _ hlt).trans h2, h3.below hb, h4⟩

end Go.Proofs.Ytmihdckjoodjeab
