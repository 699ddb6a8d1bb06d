/- Several texts in one: How parts that are arguments are read; How lists of entries that are arguments are read; records as arguments. -/
import Derived.Test.YtikmnaegalmfeaaKJ01
import Derived.Test.YtikmnaegalmfeaaKLog1
import Derived.ProofKit
import Derived.OpenShut
import Derived.Deep.Slices
namespace Go.Proofs.Ytikmnaegalmfeaa
open Go.ChangeShapes Go.WideShapes Go.ChangeAt Go.RowKit Go.Deep

section
variable {H : Type} {enc : TypeId × Value → H} {w : World} {base : Nat} {spare : Nat → Bool} {held : Bool}

theorem cellsPart : Try.prog.cellsOf 45 = 3 := by kernel_rfl
theorem cellsInt : Try.prog.cellsOf 3 = 1 := by kernel_rfl

theorem block_of_cell {w : World} {a : Addr} {v : Value} (h : w.cell? a = some v) : a.block < w.heap.size := by
  rcases Nat.lt_or_ge a.block w.heap.size with h' | h'
  · exact h'
  · exfalso
    have : w.heap[a.block]? = none := Array.getElem?_eq_none h'
    simp [World.cell?, this] at h

end
end Go.Proofs.Ytikmnaegalmfeaa

namespace Go.Proofs.Ytikmnaegalmfeaa
open Go.ChangeShapes Go.WideShapes Go.ChangeAt Go.RowKit Go.Deep

section
variable {H : Type} {enc : TypeId × Value → H} {w : World} {base : Nat} {spare : Nat → Bool} {held : Bool}

/-- A slice of entries that came in, as it lies in a cell. -/
theorem open_rows {α : Type} [Inhabited α] {cod : α → List Value} {size : Nat} {tS tE : TypeId} {P : α → Prop} (h0 : 0 < size) (he : ∀ x, (cod x).length = size) (hu : Try.prog.underlying tS = some (.slice tE)) (hcells : Try.prog.cellsOf tE = size)
    (elem : ∀ (fuel : Nat) (cs : List Value) (x : DataW H × List MemPlace), cs.length = size → DataW.trod enc Try.prog w 0 spare held fuel tE cs = some x → ∃ y : α, cs = cod y ∧ P y)
    {fuel : Nat} {cs : List Value} {x : DataW H × List MemPlace} (h : DataW.trod enc Try.prog w 0 spare held fuel tS cs = some x) :
    ∃ (a : Option Addr) (cap : Nat) (X : List α), cs = [.slice a X.length cap] ∧ RowAt size cod w a X ∧ (∀ y ∈ X, P y) ∧ X.length ≤ cap ∧ cap ≤ maxLen := by
  rcases open_slice hu h with ⟨hcs, _⟩ | ⟨ad, len, cap, m, n, D, Pl, hcs, hb, hl, hm, hmm, _, hx⟩
  · exact ⟨none, 0, [], hcs, Or.inl rfl, (fun y hy => by cases hy), by simp, by simp⟩
  · subst hcs
    have hlm : len ≤ m := by rw [hmm]; split <;> omega
    have each : ∀ i, i < len → ∃ y : α, (∀ j u, (cod y)[j]? = some u → w.cell? (ad.add (i * size + j)) = some u) ∧ P y := by
      intro i hi
      obtain ⟨cs', h1, h2⟩ := hx i (by omega)
      rw [hcells] at h1
      obtain ⟨_, hlen, hcell⟩ := World.cells?_some h1
      obtain ⟨y, rfl, hy⟩ := elem _ _ _ hlen h2
      refine ⟨y, fun j u hu' => ?_, hy⟩
      have hj : j < size := by
        rcases Nat.lt_or_ge j size with h' | h'
        · exact h'
        · rw [List.getElem?_eq_none (by rw [he]; exact h')] at hu'; cases hu'
      have := hcell j hj
      rw [add_add, hu'] at this
      exact this
    obtain ⟨f, hf⟩ := choose_lt (α := α) each
    refine ⟨some ad, cap, (List.range len).map f, by simp, ?_, ?_, by simpa using hl, hm⟩
    · by_cases hz : len = 0
      · subst hz; exact Or.inl rfl
      · have hy := hf 0 (by omega)
        have hl0 : 0 < (cod (f 0)).length := by rw [he]; exact h0
        have c0 := hy.1 0 _ (List.getElem?_eq_getElem hl0)
        obtain ⟨b, o, spot⟩ := ad
        have hspot : spot = none := by simpa [Addr.add] using World.cell?_spot c0
        subst hspot
        refine Or.inr ⟨b, o, rfl, ?_, fun i hi j u hu' => ?_⟩
        · have := block_of_cell c0
          simpa [Addr.add] using this
        · have hi' : i < len := by simpa using hi
          simp only [List.getElem_map, List.getElem_range] at hu'
          have c1 := (hf i hi').1 j u hu'
          have hadd : ∀ j, (⟨b, o, none⟩ : Addr).add j = ⟨b, o + j, none⟩ := by intro j; unfold Addr.add; split <;> simp_all
          rw [hadd, ← Nat.add_assoc] at c1
          exact c1
    · intro y hy
      simp only [List.mem_map, List.mem_range] at hy
      obtain ⟨i, hi, rfl⟩ := hy
      exact (hf i hi).2

theorem cellsRec : Try.prog.cellsOf 67 = 3 := by kernel_rfl
theorem cellsPartsL : Try.prog.cellsOf 23 = 1 := by kernel_rfl

set_option maxRecDepth 100000 in
theorem open_partC (fuel : Nat) (cs : List Value) (x : DataW H × List MemPlace) (hlen : cs.length = 3) (h : DataW.trod enc Try.prog w 0 spare held fuel 45 cs = some x) : ∃ p : P3, cs = encP p ∧ ((Lit.int .i64 p.1).wf = true ∧ (Lit.int .i64 p.2.1).wf = true ∧ (Lit.int .i64 p.2.2).wf = true) := by
  obtain ⟨xs, k, hk, hxy, _, hxl, hf⟩ := DataW.trod_struct Try.underlying45 h
  match xs, hxl, cs, hlen with
  | [y0, y1, y2], _, [v0, v1, v2], _ =>
    have g0 := hf 0 _ rfl
    have g1 := hf 1 _ rfl
    have g2 := hf 2 _ rfl
    simp [cellsInt] at g0 g1 g2
    obtain ⟨n0, q0, _, w0⟩ := DataW.trod_int Try.underlying3 g0
    obtain ⟨n1, q1, _, w1⟩ := DataW.trod_int Try.underlying3 g1
    obtain ⟨n2, q2, _, w2⟩ := DataW.trod_int Try.underlying3 g2
    simp at q0 q1 q2
    subst q0 q1 q2
    exact ⟨(n0, n1, n2), rfl, w0, w1, w2⟩
theorem row_parts {a : Option Addr} {l : List P3} (h : RowAt 3 encP w a l) : PartsAt w a l := by
  rcases h with rfl | ⟨b, o, rfl, hlt, hc⟩
  · exact Or.inl rfl
  · exact Or.inr ⟨b, o, rfl, hlt, fun i hi => ⟨hc i hi 0 _ rfl, hc i hi 1 _ rfl, hc i hi 2 _ rfl⟩⟩
/-- A slice of parts that came in, as it lies in a cell. -/
theorem open_partsL {fuel : Nat} {cs : List Value} {x : DataW H × List MemPlace} (h : DataW.trod enc Try.prog w 0 spare held fuel 23 cs = some x) :
    ∃ (a : Option Addr) (cap : Nat) (l : List P3), cs = [.slice a l.length cap] ∧ PartsAt w a l ∧ l.length ≤ cap ∧ cap ≤ maxLen := by
  obtain ⟨a, cap, l, h1, h2, _, h3, h4⟩ := open_rows (by decide) lenP Try.underlying23 cellsPart (fun f cs x hl h => open_partC f cs x hl h) h
  exact ⟨a, cap, l, h1, row_parts h2, h3, h4⟩
set_option maxRecDepth 100000 in
theorem open_recC (fuel : Nat) (cs : List Value) (x : DataW H × List MemPlace) (hlen : cs.length = 3) (h : DataW.trod enc Try.prog w 0 spare held fuel 67 cs = some x) : ∃ r : XL, cs = encL r ∧ (PartsAt w r.2.2.1.1 r.2.2.2 ∧ r.2.2.2.length ≤ r.2.2.1.2 ∧ r.2.2.1.2 ≤ maxLen ∧ (Lit.int .i64 r.1).wf = true ∧ (Lit.int .i64 r.2.1).wf = true) := by
  obtain ⟨xs, k, hk, hxy, _, hxl, hf⟩ := DataW.trod_struct Try.underlying67 h
  match xs, hxl, cs, hlen with
  | [y0, y1, y2], _, [v0, v1, v2], _ =>
    have g0 := hf 0 _ rfl
    have g1 := hf 1 _ rfl
    have g2 := hf 2 _ rfl
    simp [cellsInt, cellsPartsL] at g0 g1 g2
    obtain ⟨n0, q0, _, w0⟩ := DataW.trod_int Try.underlying3 g0
    obtain ⟨n1, q1, _, w1⟩ := DataW.trod_int Try.underlying3 g1
    obtain ⟨a, cap, l, q2, hp, hc, hm⟩ := open_partsL g2
    simp at q0 q1 q2
    subst q0 q1 q2
    exact ⟨(n0, n1, (a, cap), l), rfl, hp, hc, hm, w0, w1⟩
set_option maxRecDepth 100000 in
/-- A log that came in. -/
theorem open_recs {fuel : Nat} {v : Value} {x : DataW H × List MemPlace} (hv : Value.okWide Try.prog w .any base 22 v) (h : DataW.trod enc Try.prog w 0 spare held fuel 22 v.cells.toList = some x) :
    ∃ (a : Option Addr) (cap : Nat) (X : List XL), v = .slice a X.length cap ∧ RecsAt w a X ∧ (∀ r ∈ X, r.2.2.2.length ≤ 9223372036854775807 ∧ (Lit.int .i64 r.1).wf = true ∧ (Lit.int .i64 r.2.1).wf = true) ∧ X.length ≤ cap ∧ cap ≤ maxLen := by
  obtain ⟨a, len, cap, rfl⟩ := okWide_slice Try.underlying22 hv
  obtain ⟨a', cap', X, e, h1, h2, h3, h4⟩ := open_rows (by decide) lenL Try.underlying22 cellsRec (fun f cs x hl h => open_recC f cs x hl h) h
  simp [Value.cells] at e
  obtain ⟨rfl, rfl, rfl⟩ := e
  exact ⟨_, _, X, rfl, ⟨h1, fun y hy => (h2 y hy).1⟩, fun y hy => ⟨by have := h2 y hy; unfold maxLen at this; omega, (h2 y hy).2.2.2⟩, h3, h4⟩
end
end Go.Proofs.Ytikmnaegalmfeaa
