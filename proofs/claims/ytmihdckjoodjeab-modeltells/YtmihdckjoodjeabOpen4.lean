/- How lists of deeds that are arguments are read. -/
import Derived.Test.YtmihdckjoodjeabOpenP
import Derived.Test.YtmihdckjoodjeabReady
namespace Go.Proofs.Ytmihdckjoodjeab
open Go.ChangeShapes Go.WideShapes Go.ChangeAt Go.RowKit Go.Deep

section
variable {H : Type} {enc : TypeId × Value → H} {w : World} {base : Nat} {spare : Nat → Bool} {held : Bool}

theorem cellsReady : Try.prog.cellsOf 33 = 2 := by kernel_rfl
theorem cellsPartsR : Try.prog.cellsOf 23 = 1 := by kernel_rfl

/-- A slice of parts that came in, as it lies in a cell. -/
theorem open_partsR {fuel : Nat} {cs : List Value} {x : DataW H × List MemPlace} (h : DataW.trod enc Try.prog w 0 spare held fuel 23 cs = some x) :
    ∃ (a : Option Addr) (cap : Nat) (l : List P3), cs = [.slice a l.length cap] ∧ PartsAt w a l ∧ l.length ≤ cap ∧ cap ≤ maxLen := by
  rcases open_slice Try.underlying23 h with ⟨hcs, _⟩ | ⟨ad, len, cap, m, n, D, Pl, hcs, hb, hl, hm, hmm, _, hx⟩
  · exact ⟨none, 0, [], hcs, Or.inl rfl, by simp, by simp⟩
  · subst hcs
    have hlm : len ≤ m := by rw [hmm]; split <;> omega
    have each : ∀ i, i < len → ∃ p : P3, w.cell? (ad.add (i * 3)) = some (.int .i64 p.1) ∧ w.cell? (ad.add (i * 3 + 1)) = some (.int .i64 p.2.1) ∧ w.cell? (ad.add (i * 3 + 2)) = some (.int .i64 p.2.2) := by
      intro i hi
      obtain ⟨cs', h1, h2⟩ := hx i (by omega)
      rw [cellsPart] at h1
      obtain ⟨_, hlen, hcell⟩ := World.cells?_some h1
      obtain ⟨xs, k, hk, hxy, _, hxl, hf⟩ := DataW.trod_struct Try.underlying41 h2
      match xs, hxl, cs', hlen with
      | [y0, y1, y2], _, [v0, v1, v2], _ =>
        have g0 := hf 0 _ rfl
        have g1 := hf 1 _ rfl
        have g2 := hf 2 _ rfl
        simp [cellsInt] at g0 g1 g2
        have e0 := hcell 0 (by omega)
        have e1 := hcell 1 (by omega)
        have e2 := hcell 2 (by omega)
        rw [add_add] at e0 e1 e2
        obtain ⟨n0, q0, _⟩ := DataW.trod_int Try.underlying3 g0
        obtain ⟨n1, q1, _⟩ := DataW.trod_int Try.underlying3 g1
        obtain ⟨n2, q2, _⟩ := DataW.trod_int Try.underlying3 g2
        simp at q0 q1 q2
        subst q0 q1 q2
        exact ⟨(n0, n1, n2), by simpa using e0, by simpa using e1, by simpa using e2⟩
    obtain ⟨f, hf⟩ := choose_lt (α := P3) each
    refine ⟨some ad, cap, (List.range len).map f, by simp, ?_, by simpa using hl, hm⟩
    by_cases h0 : len = 0
    · subst h0; exact Or.inl rfl
    · have c0 := (hf 0 (by omega)).1
      obtain ⟨b, o, spot⟩ := ad
      have hspot : spot = none := by simpa [Addr.add] using World.cell?_spot c0
      subst hspot
      refine Or.inr ⟨b, o, rfl, ?_, fun i hi => ?_⟩
      · have := block_of_cell c0
        simpa [Addr.add] using this
      · have hi' : i < len := by simpa using hi
        obtain ⟨c0, c1, c2⟩ := hf i hi'
        have hadd : ∀ j, (⟨b, o, none⟩ : Addr).add j = ⟨b, o + j, none⟩ := by intro j; unfold Addr.add; split <;> simp_all
        rw [hadd] at c0 c1 c2
        simp only [List.getElem_map, List.getElem_range]
        exact ⟨c0, by rw [Nat.add_assoc]; exact c1, by rw [Nat.add_assoc]; exact c2⟩

set_option maxRecDepth 100000 in
/-- A slice of deeds that came in. -/
theorem open_readys {fuel : Nat} {v : Value} {x : DataW H × List MemPlace} (hv : Value.okWide Try.prog w .any base 24 v) (h : DataW.trod enc Try.prog w 0 spare held fuel 24 v.cells.toList = some x) :
    ∃ (a : Option Addr) (cap : Nat) (L : List (List P3)), v = .slice a L.length cap ∧ ReadysAt w a L ∧ L.length ≤ cap ∧ cap ≤ maxLen := by
  obtain ⟨a, len, cap, rfl⟩ := okWide_slice Try.underlying24 hv
  rcases open_slice Try.underlying24 h with ⟨hcs, _⟩ | ⟨ad, len', cap', m, n, D, Pl, hcs, hb, hl, hm, hmm, _, hx⟩
  · simp [Value.cells] at hcs
    obtain ⟨rfl, rfl, rfl⟩ := hcs
    exact ⟨none, 0, [], rfl, Or.inl rfl, by simp, by simp⟩
  · simp [Value.cells] at hcs
    obtain ⟨rfl, rfl, rfl⟩ := hcs
    have hlm : len ≤ m := by rw [hmm]; split <;> omega
    have each : ∀ i, i < len → ∃ p : List P3, ∃ (d : Int) (a' : Option Addr) (cap : Nat), w.cell? (ad.add (i * 2)) = some (.int .i64 d) ∧ w.cell? (ad.add (i * 2 + 1)) = some (.slice a' p.length cap) ∧ PartsAt w a' p ∧ p.length ≤ cap ∧ cap ≤ maxLen := by
      intro i hi
      obtain ⟨cs', h1, h2⟩ := hx i (by omega)
      rw [cellsReady] at h1
      obtain ⟨_, hlen, hcell⟩ := World.cells?_some h1
      obtain ⟨xs, k, hk, hxy, _, hxl, hf⟩ := DataW.trod_struct Try.underlying33 h2
      match xs, hxl, cs', hlen with
      | [y0, y1], _, [v0, v1], _ =>
        have g0 := hf 0 _ rfl
        have g1 := hf 1 _ rfl
        simp [cellsInt, cellsPartsR] at g0 g1
        have e0 := hcell 0 (by omega)
        have e1 := hcell 1 (by omega)
        rw [add_add] at e0 e1
        obtain ⟨n0, q0, _⟩ := DataW.trod_int Try.underlying3 g0
        obtain ⟨a1, c1, l1, q1, hp, hc, hm⟩ := open_partsR g1
        simp at q0 q1
        subst q0 q1
        exact ⟨l1, n0, a1, c1, by simpa using e0, by simpa using e1, hp, hc, hm⟩
    obtain ⟨f, hf⟩ := choose_lt (α := List P3) each
    refine ⟨some ad, cap, (List.range len).map f, by simp, ?_, by simpa using hl, hm⟩
    by_cases h0 : len = 0
    · subst h0; exact Or.inl rfl
    · obtain ⟨d, a', cp, c0, _⟩ := hf 0 (by omega)
      obtain ⟨b, o, spot⟩ := ad
      have hspot : spot = none := by simpa [Addr.add] using World.cell?_spot c0
      subst hspot
      refine Or.inr ⟨b, o, rfl, ?_, fun i hi => ?_⟩
      · have := block_of_cell c0
        simpa [Addr.add] using this
      · have hi' : i < len := by simpa using hi
        obtain ⟨d, a', cp, c0, c1, c2⟩ := hf i hi'
        have hadd : ∀ j, (⟨b, o, none⟩ : Addr).add j = ⟨b, o + j, none⟩ := by intro j; unfold Addr.add; split <;> simp_all
        rw [hadd] at c0 c1
        simp only [List.getElem_map, List.getElem_range]
        exact ⟨d, a', cp, c0, by rw [Nat.add_assoc]; exact c1, c2⟩

end
end Go.Proofs.Ytmihdckjoodjeab
