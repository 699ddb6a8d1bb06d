/- What the listed tables give, and a world that lays them. -/
import Derived.Test.YtndfkggcfdbepabDoorRows
import Derived.Test.YtndfkggcfdbepabDoorText1
import Derived.ProofKit
import Derived.Lay
import Derived.LaidMore
import Derived.Lib.LaidU8
namespace Go.Proofs.YtndfkggcfdbepabDoor
open Go.ChangeShapes Go.WideShapes Go.ChangeAt Go.RowKit

theorem own : ownKnob Tryd.prog.godebug = none := by kernel_rfl
theorem laidOut : laidOutB Tryd.prog = true := by kernel_rfl
theorem tTab : (Tryd.prog.globals[0]?).map (·.type) = some 81 := by kernel_rfl
theorem cTab : Tryd.prog.cellsOf 81 = 20 := by kernel_rfl
theorem cU64 : Tryd.prog.cellsOf 71 = 1 := by kernel_rfl
theorem dTab : (Rows.laid_internal_strconv_uint64pow10 : DataW Unit) = Lib.tabData .u64 Lib.pow10Tab := by kernel_rfl

theorem tab_of_laid {W : World} {laid : List (String × DataW Unit)} (hl : ("internal/strconv.uint64pow10", Rows.laid_internal_strconv_uint64pow10) ∈ laid) (h : laidMet Tryd.prog laid W) : Tab W := by
  obtain ⟨g, t, cs, fuel, p, hg, ht, hv, hd⟩ := Lib.laidMet.reads h hl
  obtain rfl := Option.some.inj (globTab.symm.trans hg)
  obtain rfl := Option.some.inj (tTab.symm.trans ht)
  rw [dTab] at hd
  unfold Tab Lib.TabIs
  rw [hv, ← Lib.cells_of_tab Tryd.underlying81 Tryd.underlying71 cU64 cTab hd]

end Go.Proofs.YtndfkggcfdbepabDoor
