/- What the listed tables give, and a world that lays them. -/
import Derived.Test.YtkmohigbedocgaaDoorRows
import Derived.Test.YtkmohigbedocgaaDoorText3
import Derived.ProofKit
import Derived.Lay
import Derived.LaidMore
import Derived.Lib.LaidU8
import Derived.LaidLaws
namespace Go.Proofs.YtkmohigbedocgaaDoor
open Go.ChangeShapes Go.WideShapes Go.ChangeAt Go.RowKit

theorem own : ownKnob Tryd.prog.godebug = none := by kernel_rfl
theorem laidOut : laidOutB Tryd.prog = true := by kernel_rfl
theorem tTab : (Tryd.prog.globals[5]?).map (·.type) = some 102 := by kernel_rfl
theorem cTab : Tryd.prog.cellsOf 102 = 20 := by kernel_rfl
theorem cU64 : Tryd.prog.cellsOf 75 = 1 := by kernel_rfl
theorem dTab : (Rows.laid_internal_strconv_uint64pow10 : DataW Unit) = Lib.tabData .u64 Lib.pow10Tab := by kernel_rfl

theorem tab_of_laid {W : World} {laid : List (String × DataW Unit)} (hl : ("internal/strconv.uint64pow10", Rows.laid_internal_strconv_uint64pow10) ∈ laid) (h : laidMet Tryd.prog laid W) : Tab W := by
  obtain ⟨g, t, cs, fuel, p, hg, ht, hv, hd⟩ := Lib.laidMet.reads h hl
  obtain rfl := Option.some.inj (globTab.symm.trans hg)
  obtain rfl := Option.some.inj (tTab.symm.trans ht)
  rw [dTab] at hd
  unfold Tab Lib.TabIs
  rw [hv, ← Lib.cells_of_tab Tryd.underlying102 Tryd.underlying75 cU64 cTab hd]

theorem tSyntax : (Tryd.prog.globals[0]?).map (·.type) = some 38 := by kernel_rfl
theorem tRange : (Tryd.prog.globals[1]?).map (·.type) = some 38 := by kernel_rfl
theorem one_cell {cs : Array Value} {v : Value} (h : cs.toList = [v]) : cs = #[v] := by
  cases cs; simp at h; subst h; rfl
theorem errs_of_laid {W : World} {laid : List (String × DataW Unit)} (h1 : ("strconv.ErrSyntax", Rows.laid_strconv_ErrSyntax) ∈ laid) (h2 : ("strconv.ErrRange", Rows.laid_strconv_ErrRange) ∈ laid) (h : laidMet Tryd.prog laid W) : Errs W := by
  obtain ⟨g, t, cs, fuel, p, hg, ht, hv, hd⟩ := Lib.laidMet.reads h h1
  obtain rfl := Option.some.inj (globSyntax.symm.trans hg)
  obtain rfl := Option.some.inj (tSyntax.symm.trans ht)
  obtain ⟨_, u1, v1, hc1, _⟩ := iface_of_trod Tryd.underlying38 hd
  obtain ⟨g, t, cs', fuel, p, hg, ht, hv', hd'⟩ := Lib.laidMet.reads h h2
  obtain rfl := Option.some.inj (globRange.symm.trans hg)
  obtain rfl := Option.some.inj (tRange.symm.trans ht)
  obtain ⟨_, u2, v2, hc2, _⟩ := iface_of_trod Tryd.underlying38 hd'
  exact ⟨u1, v1, u2, v2, by rw [hv, one_cell hc1], by rw [hv', one_cell hc2]⟩

end Go.Proofs.YtkmohigbedocgaaDoor
