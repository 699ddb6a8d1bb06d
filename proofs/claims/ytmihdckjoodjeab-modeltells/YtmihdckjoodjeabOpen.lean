/- How parts and sums that are arguments are read. -/
import Derived.Test.YtmihdckjoodjeabOpenP
namespace Go.Proofs.Ytmihdckjoodjeab
open Go.ChangeShapes Go.WideShapes Go.ChangeAt Go.RowKit Go.Deep

section
variable {H : Type} {enc : TypeId × Value → H} {w : World} {base : Nat} {spare : Nat → Bool} {held : Bool}

theorem cells4 : Try.prog.cellsOf 29 = 4 := by kernel_rfl

/-- Four sums that came in, by value. -/
theorem open_sums {fuel : Nat} {v : Value} {x : DataW H × List MemPlace} (hv : Value.okWide Try.prog w .any base 29 v) (h : DataW.trod enc Try.prog w 0 spare held fuel 29 v.cells.toList = some x) :
    ∃ (s0 s1 s2 s3 : Int), v = .agg #[.int .i64 s0, .int .i64 s1, .int .i64 s2, .int .i64 s3] ∧ (Lit.int .i64 s0).wf = true ∧ (Lit.int .i64 s1).wf = true ∧ (Lit.int .i64 s2).wf = true ∧ (Lit.int .i64 s3).wf = true := by
  unfold Value.okWide at hv
  rw [Try.underlying29] at hv
  obtain ⟨cs, rfl, hsz, _⟩ := hv
  rw [cells4] at hsz
  obtain ⟨xs, m, _, _, _, hxl, hf⟩ := DataW.trod_array Try.underlying29 h
  match cs, hsz with
  | ⟨[v0, v1, v2, v3]⟩, _ =>
    match xs, hxl with
    | [y0, y1, y2, y3], _ =>
      have g0 := hf 0 (by omega)
      have g1 := hf 1 (by omega)
      have g2 := hf 2 (by omega)
      have g3 := hf 3 (by omega)
      simp [cellsInt, Value.cells] at g0 g1 g2 g3
      obtain ⟨n0, q0, _, w0⟩ := DataW.trod_int Try.underlying3 g0
      obtain ⟨n1, q1, _, w1⟩ := DataW.trod_int Try.underlying3 g1
      obtain ⟨n2, q2, _, w2⟩ := DataW.trod_int Try.underlying3 g2
      obtain ⟨n3, q3, _, w3⟩ := DataW.trod_int Try.underlying3 g3
      simp at q0 q1 q2 q3
      subst q0 q1 q2 q3
      exact ⟨n0, n1, n2, n3, rfl, w0, w1, w2, w3⟩

end
end Go.Proofs.Ytmihdckjoodjeab
