/- What the document's in, ready, Vote and note do, called at a house that lies in memory. -/
import Derived.Test.YteinegcoenlkcadLockW
import Derived.Test.YteinegcoenlkcadHouseP
import Derived.Test.YteinegcoenlkcadFresh
namespace Go.Proofs.Yteinegcoenlkcad
open Go.RowKit
attribute [local go_sem ↓] Go.wp_at_zero Go.wp_at_succ

theorem hasD_snoc (D : List D2) (x : D2) (d : Int) : hasD (D ++ [x]) d = (hasD D d || decide (x.1 = d)) := by simp [hasD]

end Go.Proofs.Yteinegcoenlkcad
