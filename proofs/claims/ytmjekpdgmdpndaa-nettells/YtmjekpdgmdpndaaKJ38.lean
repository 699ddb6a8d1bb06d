/- Several texts in one: How parts that are arguments are read; How lists of entries that are arguments are read; records as arguments; How messages, and lists of them, that are arguments are read; How parts and sums that are arguments are read; How messages and bytes that are arguments are read. -/
import Derived.Test.YtmjekpdgmdpndaaKJ00
import Derived.Test.YtmjekpdgmdpndaaKJ04
import Derived.Test.YtmjekpdgmdpndaaKJ11
import Derived.Test.YtmjekpdgmdpndaaKWire1
import Derived.ProofKit
import Derived.OpenShut
import Derived.Deep.Slices
namespace Go.Proofs.Ytmjekpdgmdpndaa
open Go.ChangeShapes Go.WideShapes Go.ChangeAt Go.RowKit Go.Deep

section
variable {H : Type} {enc : TypeId × Value → H} {w : World} {base : Nat} {spare : Nat → Bool} {held : Bool}

theorem cellsPart : Try.prog.cellsOf 65 = 3 := by kernel_rfl
theorem cellsInt : Try.prog.cellsOf 3 = 1 := by kernel_rfl

theorem block_of_cell {w : World} {a : Addr} {v : Value} (h : w.cell? a = some v) : a.block < w.heap.size := by
  rcases Nat.lt_or_ge a.block w.heap.size with h' | h'
  · exact h'
  · exfalso
    have : w.heap[a.block]? = none := Array.getElem?_eq_none h'
    simp [World.cell?, this] at h

end
end Go.Proofs.Ytmjekpdgmdpndaa

namespace Go.Proofs.Ytmjekpdgmdpndaa
open Go.ChangeShapes Go.WideShapes Go.ChangeAt Go.RowKit Go.Deep

section
variable {H : Type} {enc : TypeId × Value → H} {w : World} {base : Nat} {spare : Nat → Bool} {held : Bool}

/-- A slice of entries that came in, as it lies in a cell. -/
theorem open_rows {α : Type} [Inhabited α] {cod : α → List Value} {size : Nat} {tS tE : TypeId} {P : α → Prop} (h0 : 0 < size) (he : ∀ x, (cod x).length = size) (hu : Try.prog.underlying tS = some (.slice tE)) (hcells : Try.prog.cellsOf tE = size)
    (elem : ∀ (fuel : Nat) (cs : List Value) (x : DataW H × List MemPlace), cs.length = size → DataW.trod enc Try.prog w 0 spare held fuel tE cs = some x → ∃ y : α, cs = cod y ∧ P y)
    {fuel : Nat} {cs : List Value} {x : DataW H × List MemPlace} (h : DataW.trod enc Try.prog w 0 spare held fuel tS cs = some x) :
    ∃ (a : Option Addr) (cap : Nat) (X : List α), cs = [.slice a X.length cap] ∧ RowAt size cod w a X ∧ (∀ y ∈ X, P y) ∧ X.length ≤ cap ∧ cap ≤ maxLen := by
  rcases open_slice hu h with ⟨hcs, _⟩ | ⟨ad, len, cap, m, n, D, Pl, hcs, hb, hl, hm, hmm, _, hx⟩
  · exact ⟨none, 0, [], hcs, Or.inl rfl, (fun y hy => by cases hy), by simp, by simp⟩
  · subst hcs
    have hlm : len ≤ m := by rw [hmm]; split <;> omega
    have each : ∀ i, i < len → ∃ y : α, (∀ j u, (cod y)[j]? = some u → w.cell? (ad.add (i * size + j)) = some u) ∧ P y := by
      intro i hi
      obtain ⟨cs', h1, h2⟩ := hx i (by omega)
      rw [hcells] at h1
      obtain ⟨_, hlen, hcell⟩ := World.cells?_some h1
      obtain ⟨y, rfl, hy⟩ := elem _ _ _ hlen h2
      refine ⟨y, fun j u hu' => ?_, hy⟩
      have hj : j < size := by
        rcases Nat.lt_or_ge j size with h' | h'
        · exact h'
        · rw [List.getElem?_eq_none (by rw [he]; exact h')] at hu'; cases hu'
      have := hcell j hj
      rw [add_add, hu'] at this
      exact this
    obtain ⟨f, hf⟩ := choose_lt (α := α) each
    refine ⟨some ad, cap, (List.range len).map f, by simp, ?_, ?_, by simpa using hl, hm⟩
    · by_cases hz : len = 0
      · subst hz; exact Or.inl rfl
      · have hy := hf 0 (by omega)
        have hl0 : 0 < (cod (f 0)).length := by rw [he]; exact h0
        have c0 := hy.1 0 _ (List.getElem?_eq_getElem hl0)
        obtain ⟨b, o, spot⟩ := ad
        have hspot : spot = none := by simpa [Addr.add] using World.cell?_spot c0
        subst hspot
        refine Or.inr ⟨b, o, rfl, ?_, fun i hi j u hu' => ?_⟩
        · have := block_of_cell c0
          simpa [Addr.add] using this
        · have hi' : i < len := by simpa using hi
          simp only [List.getElem_map, List.getElem_range] at hu'
          have c1 := (hf i hi').1 j u hu'
          have hadd : ∀ j, (⟨b, o, none⟩ : Addr).add j = ⟨b, o + j, none⟩ := by intro j; unfold Addr.add; split <;> simp_all
          rw [hadd, ← Nat.add_assoc] at c1
          exact c1
    · intro y hy
      simp only [List.mem_map, List.mem_range] at hy
      obtain ⟨i, hi, rfl⟩ := hy
      exact (hf i hi).2

theorem cellsPartsL : Try.prog.cellsOf 23 = 1 := by kernel_rfl

set_option maxRecDepth 100000 in
theorem open_partC (fuel : Nat) (cs : List Value) (x : DataW H × List MemPlace) (hlen : cs.length = 3) (h : DataW.trod enc Try.prog w 0 spare held fuel 65 cs = some x) : ∃ p : P3, cs = encP p ∧ ((Lit.int .i64 p.1).wf = true ∧ (Lit.int .i64 p.2.1).wf = true ∧ (Lit.int .i64 p.2.2).wf = true) := by
  obtain ⟨xs, k, hk, hxy, _, hxl, hf⟩ := DataW.trod_struct Try.underlying65 h
  match xs, hxl, cs, hlen with
  | [y0, y1, y2], _, [v0, v1, v2], _ =>
    have g0 := hf 0 _ rfl
    have g1 := hf 1 _ rfl
    have g2 := hf 2 _ rfl
    simp [cellsInt] at g0 g1 g2
    obtain ⟨n0, q0, _, w0⟩ := DataW.trod_int Try.underlying3 g0
    obtain ⟨n1, q1, _, w1⟩ := DataW.trod_int Try.underlying3 g1
    obtain ⟨n2, q2, _, w2⟩ := DataW.trod_int Try.underlying3 g2
    simp at q0 q1 q2
    subst q0 q1 q2
    exact ⟨(n0, n1, n2), rfl, w0, w1, w2⟩
theorem row_parts {a : Option Addr} {l : List P3} (h : RowAt 3 encP w a l) : PartsAt w a l := by
  rcases h with rfl | ⟨b, o, rfl, hlt, hc⟩
  · exact Or.inl rfl
  · exact Or.inr ⟨b, o, rfl, hlt, fun i hi => ⟨hc i hi 0 _ rfl, hc i hi 1 _ rfl, hc i hi 2 _ rfl⟩⟩
/-- A slice of parts that came in, as it lies in a cell. -/
theorem open_partsL {fuel : Nat} {cs : List Value} {x : DataW H × List MemPlace} (h : DataW.trod enc Try.prog w 0 spare held fuel 23 cs = some x) :
    ∃ (a : Option Addr) (cap : Nat) (l : List P3), cs = [.slice a l.length cap] ∧ PartsAt w a l ∧ l.length ≤ cap ∧ cap ≤ maxLen := by
  obtain ⟨a, cap, l, h1, h2, _, h3, h4⟩ := open_rows (by decide) lenP Try.underlying23 cellsPart (fun f cs x hl h => open_partC f cs x hl h) h
  exact ⟨a, cap, l, h1, row_parts h2, h3, h4⟩
end
end Go.Proofs.Ytmjekpdgmdpndaa

namespace Go.Proofs.Ytmjekpdgmdpndaa
open Go.ChangeShapes Go.WideShapes Go.ChangeAt Go.RowKit Go.Deep

section
variable {H : Type} {enc : TypeId × Value → H} {w : World} {base : Nat} {spare : Nat → Bool} {held : Bool}
theorem cellsMsg4 : Try.prog.cellsOf 43 = 4 := by kernel_rfl
set_option maxRecDepth 100000 in
theorem open_msgC (fuel : Nat) (cs : List Value) (x : DataW H × List MemPlace) (hlen : cs.length = 4) (h : DataW.trod enc Try.prog w 0 spare held fuel 43 cs = some x) : ∃ r : XM, cs = encM r ∧ (PartsAt w r.2.2.2.1.1 r.2.2.2.2 ∧ r.2.2.2.2.length ≤ r.2.2.2.1.2 ∧ r.2.2.2.1.2 ≤ maxLen ∧ (Lit.int .i64 r.1).wf = true ∧ (Lit.int .i64 r.2.1).wf = true ∧ (Lit.int .i64 r.2.2.1).wf = true) := by
  obtain ⟨xs, k, hk, hxy, _, hxl, hf⟩ := DataW.trod_struct Try.underlying43 h
  match xs, hxl, cs, hlen with
  | [y0, y1, y2, y3], _, [v0, v1, v2, v3], _ =>
    have g0 := hf 0 _ rfl
    have g1 := hf 1 _ rfl
    have g2 := hf 2 _ rfl
    have g3 := hf 3 _ rfl
    simp [cellsInt, cellsPartsL] at g0 g1 g2 g3
    obtain ⟨n0, q0, _, w0⟩ := DataW.trod_int Try.underlying3 g0
    obtain ⟨n1, q1, _, w1⟩ := DataW.trod_int Try.underlying3 g1
    obtain ⟨n2, q2, _, w2⟩ := DataW.trod_int Try.underlying3 g2
    obtain ⟨a, cap, l, q3, hp, hc, hm⟩ := open_partsL g3
    simp at q0 q1 q2 q3
    subst q0 q1 q2 q3
    exact ⟨(n0, n1, n2, (a, cap), l), rfl, hp, hc, hm, w0, w1, w2⟩
set_option maxRecDepth 100000 in
/-- Messages that came in. -/
theorem open_msgs {fuel : Nat} {v : Value} {x : DataW H × List MemPlace} (hv : Value.okWide Try.prog w .any base 24 v) (h : DataW.trod enc Try.prog w 0 spare held fuel 24 v.cells.toList = some x) :
    ∃ (a : Option Addr) (cap : Nat) (X : List XM), v = .slice a X.length cap ∧ RowAt 4 encM w a X ∧ (∀ r ∈ X, PartsAt w r.2.2.2.1.1 r.2.2.2.2 ∧ r.2.2.2.2.length ≤ 9223372036854775807 ∧ (Lit.int .i64 r.1).wf = true ∧ (Lit.int .i64 r.2.1).wf = true ∧ (Lit.int .i64 r.2.2.1).wf = true) ∧ X.length ≤ cap ∧ cap ≤ maxLen := by
  obtain ⟨a, len, cap, rfl⟩ := okWide_slice Try.underlying24 hv
  obtain ⟨a', cap', X, e, h1, h2, h3, h4⟩ := open_rows (by decide) lenM Try.underlying24 cellsMsg4 (fun f cs x hl h => open_msgC f cs x hl h) h
  simp [Value.cells] at e
  obtain ⟨rfl, rfl, rfl⟩ := e
  exact ⟨_, _, X, rfl, h1, fun y hy => ⟨(h2 y hy).1, by have := h2 y hy; unfold maxLen at this; omega, (h2 y hy).2.2.2⟩, h3, h4⟩
end
end Go.Proofs.Ytmjekpdgmdpndaa

namespace Go.Proofs.Ytmjekpdgmdpndaa
open Go.ChangeShapes Go.WideShapes Go.ChangeAt Go.RowKit Go.Deep

section
variable {H : Type} {enc : TypeId × Value → H} {w : World} {base : Nat} {spare : Nat → Bool} {held : Bool}

set_option maxRecDepth 100000 in
theorem cells4 : Try.prog.cellsOf 121 = 4 := by kernel_rfl

end
end Go.Proofs.Ytmjekpdgmdpndaa

namespace Go.Proofs.Ytmjekpdgmdpndaa
open Go.ChangeShapes Go.WideShapes Go.ChangeAt Go.RowKit Go.Deep

section
variable {H : Type} {enc : TypeId × Value → H} {w : World} {base : Nat} {spare : Nat → Bool} {held : Bool}

set_option maxRecDepth 100000 in
theorem cellsU8 : Try.prog.cellsOf 5 = 1 := by kernel_rfl
set_option maxRecDepth 100000 in
/-- A slice of bytes that came in, as it lies in a cell. -/
theorem open_bytesC {fuel : Nat} {cs : List Value} {x : DataW H × List MemPlace} (h : DataW.trod enc Try.prog w 0 spare held fuel 57 cs = some x) :
    ∃ (a : Option Addr) (cap : Nat) (l : List Nat), cs = [.slice a l.length cap] ∧ BytesAt w a l ∧ Byt l ∧ l.length ≤ cap ∧ cap ≤ maxLen := by
  rcases open_slice Try.underlying57 h with ⟨hcs, _⟩ | ⟨ad, len, cap, m, n, D, Pl, hcs, hb, hl, hm, hmm, _, hx⟩
  · exact ⟨none, 0, [], hcs, Or.inl rfl, (fun c hc => by cases hc), by simp, by simp⟩
  · subst hcs
    have hlm : len ≤ m := by rw [hmm]; split <;> omega
    have each : ∀ i, i < len → ∃ c : Nat, c < 256 ∧ w.cell? (ad.add i) = some (.int .u8 (c : Int)) := by
      intro i hi
      obtain ⟨cs', h1, h2⟩ := hx i (by omega)
      rw [cellsU8] at h1
      obtain ⟨_, hlen, hcell⟩ := World.cells?_some h1
      match cs', hlen with
      | [v0], _ =>
        obtain ⟨n0, q0, _, wf0⟩ := DataW.trod_int Try.underlying5 h2
        simp at q0
        subst q0
        have hb := bounds_u8 wf0
        have e0 := hcell 0 (by omega)
        rw [add_add] at e0
        refine ⟨n0.toNat, by omega, ?_⟩
        rw [show ((n0.toNat : Nat) : Int) = n0 by omega]
        simpa using e0
    obtain ⟨f, hf⟩ := choose_lt (α := Nat) each
    refine ⟨some ad, cap, (List.range len).map f, by simp, ?_, ?_, by simpa using hl, hm⟩
    · by_cases h0 : len = 0
      · subst h0; exact Or.inl rfl
      · have c0 := (hf 0 (by omega)).2
        obtain ⟨b, o, spot⟩ := ad
        have hspot : spot = none := by simpa [Addr.add] using World.cell?_spot c0
        subst hspot
        refine Or.inr ⟨b, o, rfl, ?_, fun i hi => ?_⟩
        · have := block_of_cell c0
          simpa [Addr.add] using this
        · have hi' : i < len := by simpa using hi
          have c0 := (hf i hi').2
          have hadd : ∀ j, (⟨b, o, none⟩ : Addr).add j = ⟨b, o + j, none⟩ := by intro j; unfold Addr.add; split <;> simp_all
          rw [hadd] at c0
          simp only [List.getElem_map, List.getElem_range]
          exact c0
    · intro c hc
      simp only [List.mem_map, List.mem_range] at hc
      obtain ⟨i, hi, rfl⟩ := hc
      exact (hf i hi).1

end
end Go.Proofs.Ytmjekpdgmdpndaa
