/- How lists of sums that are arguments are read. -/
import Derived.Test.YtmihdckjoodjeabOpen
import Derived.Test.YtmihdckjoodjeabModel1
namespace Go.Proofs.Ytmihdckjoodjeab
open Go.ChangeShapes Go.WideShapes Go.ChangeAt Go.RowKit Go.Deep

section
variable {H : Type} {enc : TypeId × Value → H} {w : World} {base : Nat} {spare : Nat → Bool} {held : Bool}

set_option maxRecDepth 100000 in
/-- A slice of sums that came in. -/
theorem open_sumsL {fuel : Nat} {v : Value} {x : DataW H × List MemPlace} (hv : Value.okWide Try.prog w .any base 22 v) (h : DataW.trod enc Try.prog w 0 spare held fuel 22 v.cells.toList = some x) :
    ∃ (a : Option Addr) (cap : Nat) (S : List S4), v = .slice a S.length cap ∧ SumsL w a S ∧ S.length ≤ cap ∧ cap ≤ maxLen := by
  obtain ⟨a, len, cap, rfl⟩ := okWide_slice Try.underlying22 hv
  rcases open_slice Try.underlying22 h with ⟨hcs, _⟩ | ⟨ad, len', cap', m, n, D, Pl, hcs, hb, hl, hm, hmm, _, hx⟩
  · simp [Value.cells] at hcs
    obtain ⟨rfl, rfl, rfl⟩ := hcs
    exact ⟨none, 0, [], rfl, Or.inl rfl, by simp, by simp⟩
  · simp [Value.cells] at hcs
    obtain ⟨rfl, rfl, rfl⟩ := hcs
    have hlm : len ≤ m := by rw [hmm]; split <;> omega
    have each : ∀ i, i < len → ∃ p : S4, w.cell? (ad.add (i * 4)) = some (.int .i64 p.1) ∧ w.cell? (ad.add (i * 4 + 1)) = some (.int .i64 p.2.1) ∧ w.cell? (ad.add (i * 4 + 2)) = some (.int .i64 p.2.2.1) ∧ w.cell? (ad.add (i * 4 + 3)) = some (.int .i64 p.2.2.2) := by
      intro i hi
      obtain ⟨cs', h1, h2⟩ := hx i (by omega)
      rw [cells4] at h1
      obtain ⟨_, hlen, hcell⟩ := World.cells?_some h1
      obtain ⟨xs, k, _, _, _, hxl, hf⟩ := DataW.trod_array Try.underlying29 h2
      match xs, hxl, cs', hlen with
      | [y0, y1, y2, y3], _, [v0, v1, v2, v3], _ =>
        have g0 := hf 0 (by omega)
        have g1 := hf 1 (by omega)
        have g2 := hf 2 (by omega)
        have g3 := hf 3 (by omega)
        simp [cellsInt] at g0 g1 g2 g3
        have e0 := hcell 0 (by omega)
        have e1 := hcell 1 (by omega)
        have e2 := hcell 2 (by omega)
        have e3 := hcell 3 (by omega)
        rw [add_add] at e0 e1 e2 e3
        obtain ⟨n0, q0, _⟩ := DataW.trod_int Try.underlying3 g0
        obtain ⟨n1, q1, _⟩ := DataW.trod_int Try.underlying3 g1
        obtain ⟨n2, q2, _⟩ := DataW.trod_int Try.underlying3 g2
        obtain ⟨n3, q3, _⟩ := DataW.trod_int Try.underlying3 g3
        simp at q0 q1 q2 q3
        subst q0 q1 q2 q3
        exact ⟨(n0, n1, n2, n3), by simpa using e0, by simpa using e1, by simpa using e2, by simpa using e3⟩
    obtain ⟨f, hf⟩ := choose_lt (α := S4) each
    refine ⟨some ad, cap, (List.range len).map f, by simp, ?_, by simpa using hl, hm⟩
    by_cases h0 : len = 0
    · subst h0; exact Or.inl rfl
    · have c0 := (hf 0 (by omega)).1
      obtain ⟨b, o, spot⟩ := ad
      have hspot : spot = none := by simpa [Addr.add] using World.cell?_spot c0
      subst hspot
      refine Or.inr ⟨b, o, rfl, ?_, fun i hi => ?_⟩
      · have := block_of_cell c0
        simpa [Addr.add] using this
      · have hi' : i < len := by simpa using hi
        obtain ⟨c0, c1, c2, c3⟩ := hf i hi'
        have hadd : ∀ j, (⟨b, o, none⟩ : Addr).add j = ⟨b, o + j, none⟩ := by intro j; unfold Addr.add; split <;> simp_all
        rw [hadd] at c0 c1 c2 c3
        simp only [List.getElem_map, List.getElem_range]
        exact ⟨c0, by rw [Nat.add_assoc]; exact c1, by rw [Nat.add_assoc]; exact c2, by rw [Nat.add_assoc]; exact c3⟩

end
end Go.Proofs.Ytmihdckjoodjeab
