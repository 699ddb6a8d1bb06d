/-
  No cell of these rows narrows 'for every input' (looked for: loops, veiled, ifaces, maps, wideKeys, modest, calm, conditions, laid).
  DERIVED. THE GIVEN ROWS OF THIS SEAT. 6 by the template 'for every input the law returns true; each argument reads behind the call as it read before'; 0 by the template 'total and deterministic' (their statements: YteinegcoenlkcacTotals.lean).
  GIVEN WITH THE SEED: the statements are not yours to turn. If you find one false, say at which input.
  Laid BY PROGRAM, IN A SANDBOX (cutbox-rows.mjs): the forced cells as the released guide's own fill.sh prints them over the translation 6c11283b9175201a… (all of the seat's roots in one cut). By AI agents, Wed Nov 11 2026. No macro, syntax, notation, axiom, sorry.
-/
import Derived.Test.YteinegcoenlkcacChecked
import GoSem.Claim
import GoSem.ClaimJoined
import GoSem.ClaimMapViews
import Derived.JoinedTies
import Derived.KernelRfl
namespace Go.Proofs.Yteinegcoenlkcac
/- THE CELL 'sum', in the pinned program and in every row, IS THE sha256 OF THE DUMP (.gsa) THAT YteinegcoenlkcacProg.lean LOADS. Nothing in Lean hashes anything: it is a label: what it is worth is what the hold of that sum in a sandbox is worth. -/
noncomputable def Try.pinned : Pinned := { name := "yteinegcoenlkcac", sum := "6c11283b9175201aab4f787adb9bc0e5792ff506e4b6e57460a56072ea6ec2ac", checked := Try.checked }
namespace Rows
def none {H : Type} : Left H := { results := [], args := [] }

/-- 'anlaw5.LogStill': WHATEVER THE INPUT: true; the input reads as it did. -/
def logStillSpec : ChangeSpec := { name := "logStill", fn := fun _ => fun
  | [d1, d2] => { results := [.lit (.bool true)], args := [d1, d2] }
  | _ => none }
def logStillRow : OpenClaim := { program := "yteinegcoenlkcac", sum := "6c11283b9175201aab4f787adb9bc0e5792ff506e4b6e57460a56072ea6ec2ac", func := "allornone/anlaw5.LogStill", spec := "logStill", unfollowed := true, recurses := true, plainKeys := false, apart := false }
def LogStillSaid : Prop := logStillRow.holds Try.pinned (OpenSpec.ofChange logStillSpec)

/-- ITS FALSE NEIGHBOUR: 'it returns false'. Refute it at one input. -/
def logStillWrong : ChangeSpec := { name := "logStill", fn := fun _ => fun
  | [d1, d2] => { results := [.lit (.bool false)], args := [d1, d2] }
  | _ => none }
def LogStillWrongFalsely : Prop := logStillRow.holds Try.pinned (OpenSpec.ofChange logStillWrong)

/-- 'anlaw5.LogDone': WHATEVER THE INPUT: true; the input reads as it did. -/
def logDoneSpec : ChangeSpec := { name := "logDone", fn := fun _ => fun
  | [d1, d2] => { results := [.lit (.bool true)], args := [d1, d2] }
  | _ => none }
def logDoneRow : OpenClaim := { program := "yteinegcoenlkcac", sum := "6c11283b9175201aab4f787adb9bc0e5792ff506e4b6e57460a56072ea6ec2ac", func := "allornone/anlaw5.LogDone", spec := "logDone", unfollowed := true, recurses := true, plainKeys := false, apart := false }
def LogDoneSaid : Prop := logDoneRow.holds Try.pinned (OpenSpec.ofChange logDoneSpec)

/-- ITS FALSE NEIGHBOUR: 'it returns false'. Refute it at one input. -/
def logDoneWrong : ChangeSpec := { name := "logDone", fn := fun _ => fun
  | [d1, d2] => { results := [.lit (.bool false)], args := [d1, d2] }
  | _ => none }
def LogDoneWrongFalsely : Prop := logDoneRow.holds Try.pinned (OpenSpec.ofChange logDoneWrong)

/-- 'anlaw6.LocksTells': WHATEVER THE INPUT: true; the input reads as it did. -/
def locksTellsSpec : ChangeSpec := { name := "locksTells", fn := fun _ => fun
  | [d1, d2, d3] => { results := [.lit (.bool true)], args := [d1, d2, d3] }
  | _ => none }
def locksTellsRow : OpenClaim := { program := "yteinegcoenlkcac", sum := "6c11283b9175201aab4f787adb9bc0e5792ff506e4b6e57460a56072ea6ec2ac", func := "allornone/anlaw6.LocksTells", spec := "locksTells", unfollowed := true, recurses := true, plainKeys := false, apart := false }
def LocksTellsSaid : Prop := locksTellsRow.holds Try.pinned (OpenSpec.ofChange locksTellsSpec)

/-- ITS FALSE NEIGHBOUR: 'it returns false'. Refute it at one input. -/
def locksTellsWrong : ChangeSpec := { name := "locksTells", fn := fun _ => fun
  | [d1, d2, d3] => { results := [.lit (.bool false)], args := [d1, d2, d3] }
  | _ => none }
def LocksTellsWrongFalsely : Prop := locksTellsRow.holds Try.pinned (OpenSpec.ofChange locksTellsWrong)

/-- 'anlaw6.LocksOne': WHATEVER THE INPUT: true; the input reads as it did. -/
def locksOneSpec : ChangeSpec := { name := "locksOne", fn := fun _ => fun
  | [d1, d2] => { results := [.lit (.bool true)], args := [d1, d2] }
  | _ => none }
def locksOneRow : OpenClaim := { program := "yteinegcoenlkcac", sum := "6c11283b9175201aab4f787adb9bc0e5792ff506e4b6e57460a56072ea6ec2ac", func := "allornone/anlaw6.LocksOne", spec := "locksOne", unfollowed := true, recurses := true, plainKeys := false, apart := false }
def LocksOneSaid : Prop := locksOneRow.holds Try.pinned (OpenSpec.ofChange locksOneSpec)

/-- ITS FALSE NEIGHBOUR: 'it returns false'. Refute it at one input. -/
def locksOneWrong : ChangeSpec := { name := "locksOne", fn := fun _ => fun
  | [d1, d2] => { results := [.lit (.bool false)], args := [d1, d2] }
  | _ => none }
def LocksOneWrongFalsely : Prop := locksOneRow.holds Try.pinned (OpenSpec.ofChange locksOneWrong)

/-- 'anlaw6.LocksGo': WHATEVER THE INPUT: true; the input reads as it did. -/
def locksGoSpec : ChangeSpec := { name := "locksGo", fn := fun _ => fun
  | [d1, d2, d3, d4] => { results := [.lit (.bool true)], args := [d1, d2, d3, d4] }
  | _ => none }
def locksGoRow : OpenClaim := { program := "yteinegcoenlkcac", sum := "6c11283b9175201aab4f787adb9bc0e5792ff506e4b6e57460a56072ea6ec2ac", func := "allornone/anlaw6.LocksGo", spec := "locksGo", unfollowed := true, recurses := true, plainKeys := false, apart := false }
def LocksGoSaid : Prop := locksGoRow.holds Try.pinned (OpenSpec.ofChange locksGoSpec)

/-- ITS FALSE NEIGHBOUR: 'it returns false'. Refute it at one input. -/
def locksGoWrong : ChangeSpec := { name := "locksGo", fn := fun _ => fun
  | [d1, d2, d3, d4] => { results := [.lit (.bool false)], args := [d1, d2, d3, d4] }
  | _ => none }
def LocksGoWrongFalsely : Prop := locksGoRow.holds Try.pinned (OpenSpec.ofChange locksGoWrong)

/-- 'anlaw7.HouseTells': WHATEVER THE INPUT: true; the input reads as it did. -/
def houseTellsSpec : ChangeSpec := { name := "houseTells", fn := fun _ => fun
  | [d1, d2] => { results := [.lit (.bool true)], args := [d1, d2] }
  | _ => none }
def houseTellsRow : OpenClaim := { program := "yteinegcoenlkcac", sum := "6c11283b9175201aab4f787adb9bc0e5792ff506e4b6e57460a56072ea6ec2ac", func := "allornone/anlaw7.HouseTells", spec := "houseTells", unfollowed := true, recurses := true, plainKeys := false, apart := false }
def HouseTellsSaid : Prop := houseTellsRow.holds Try.pinned (OpenSpec.ofChange houseTellsSpec)

/-- ITS FALSE NEIGHBOUR: 'it returns false'. Refute it at one input. -/
def houseTellsWrong : ChangeSpec := { name := "houseTells", fn := fun _ => fun
  | [d1, d2] => { results := [.lit (.bool false)], args := [d1, d2] }
  | _ => none }
def HouseTellsWrongFalsely : Prop := houseTellsRow.holds Try.pinned (OpenSpec.ofChange houseTellsWrong)

/- THE SECOND FORM. 'bulk': how many values and letters a reading holds, each counted each time it is reached (what is shared counts as often as it is met; a slice's spare places count too). A statement '..UptoSaid' is the law's where the arguments, and the package variables that the reading takes, are together of bulk at most 1048576: NARROWER than '..Said'. Prove '..Said' where nothing that the law and all that it calls make is longer than what came in: it says more and counts as full. Else prove '..UptoSaid'. A law counts once. -/
mutual
def uptoBulk {H : Type} : DataW H → Nat
  | .lit (.string bytes) => bytes.length + 1
  | .lit _ => 1
  | .nil => 1
  | .ptr d => uptoBulk d + 1
  | .slice elems spare => uptoBulkAll elems + uptoBulkAll spare + 1
  | .agg parts => uptoBulkAll parts + 1
  | .iface _ d => uptoBulk d + 1
  | .map entries => uptoBulkEntries entries + 1
  | .held _ => 1
def uptoBulkAll {H : Type} : List (DataW H) → Nat
  | [] => 0
  | d :: r => uptoBulk d + uptoBulkAll r
def uptoBulkEntries {H : Type} : List (Lit × DataW H) → Nat
  | [] => 0
  | x :: r => uptoBulkEntry x + uptoBulkEntries r
def uptoBulkEntry {H : Type} : Lit × DataW H → Nat
  | (.string bytes, d) => bytes.length + uptoBulk d + 1
  | (_, d) => uptoBulk d + 1
 end
def uptoSmall : (H : Type) → List (DataW H) → Bool := fun _ ds => decide (uptoBulkAll ds ≤ 1048576)
def OpenSpec.upto (s : _root_.Go.ChangeSpec) : _root_.Go.OpenSpec := { _root_.Go.OpenSpec.ofChange s with cond := some uptoSmall }

/-- 'anlaw5.LogStill', WHERE WHAT IT READS IS OF BULK AT MOST 1048576: true; the input reads as it did. -/
def logStillUptoRow : OpenClaim := { program := "yteinegcoenlkcac", sum := "6c11283b9175201aab4f787adb9bc0e5792ff506e4b6e57460a56072ea6ec2ac", func := "allornone/anlaw5.LogStill", spec := "logStill", unfollowed := true, recurses := true, plainKeys := false, apart := false, narrowed := true }
def LogStillUptoSaid : Prop := logStillUptoRow.holds Try.pinned (OpenSpec.upto logStillSpec)

/-- 'anlaw5.LogDone', WHERE WHAT IT READS IS OF BULK AT MOST 1048576: true; the input reads as it did. -/
def logDoneUptoRow : OpenClaim := { program := "yteinegcoenlkcac", sum := "6c11283b9175201aab4f787adb9bc0e5792ff506e4b6e57460a56072ea6ec2ac", func := "allornone/anlaw5.LogDone", spec := "logDone", unfollowed := true, recurses := true, plainKeys := false, apart := false, narrowed := true }
def LogDoneUptoSaid : Prop := logDoneUptoRow.holds Try.pinned (OpenSpec.upto logDoneSpec)

/-- 'anlaw6.LocksTells', WHERE WHAT IT READS IS OF BULK AT MOST 1048576: true; the input reads as it did. -/
def locksTellsUptoRow : OpenClaim := { program := "yteinegcoenlkcac", sum := "6c11283b9175201aab4f787adb9bc0e5792ff506e4b6e57460a56072ea6ec2ac", func := "allornone/anlaw6.LocksTells", spec := "locksTells", unfollowed := true, recurses := true, plainKeys := false, apart := false, narrowed := true }
def LocksTellsUptoSaid : Prop := locksTellsUptoRow.holds Try.pinned (OpenSpec.upto locksTellsSpec)

/-- 'anlaw6.LocksOne', WHERE WHAT IT READS IS OF BULK AT MOST 1048576: true; the input reads as it did. -/
def locksOneUptoRow : OpenClaim := { program := "yteinegcoenlkcac", sum := "6c11283b9175201aab4f787adb9bc0e5792ff506e4b6e57460a56072ea6ec2ac", func := "allornone/anlaw6.LocksOne", spec := "locksOne", unfollowed := true, recurses := true, plainKeys := false, apart := false, narrowed := true }
def LocksOneUptoSaid : Prop := locksOneUptoRow.holds Try.pinned (OpenSpec.upto locksOneSpec)

/-- 'anlaw6.LocksGo', WHERE WHAT IT READS IS OF BULK AT MOST 1048576: true; the input reads as it did. -/
def locksGoUptoRow : OpenClaim := { program := "yteinegcoenlkcac", sum := "6c11283b9175201aab4f787adb9bc0e5792ff506e4b6e57460a56072ea6ec2ac", func := "allornone/anlaw6.LocksGo", spec := "locksGo", unfollowed := true, recurses := true, plainKeys := false, apart := false, narrowed := true }
def LocksGoUptoSaid : Prop := locksGoUptoRow.holds Try.pinned (OpenSpec.upto locksGoSpec)

/-- 'anlaw7.HouseTells', WHERE WHAT IT READS IS OF BULK AT MOST 1048576: true; the input reads as it did. -/
def houseTellsUptoRow : OpenClaim := { program := "yteinegcoenlkcac", sum := "6c11283b9175201aab4f787adb9bc0e5792ff506e4b6e57460a56072ea6ec2ac", func := "allornone/anlaw7.HouseTells", spec := "houseTells", unfollowed := true, recurses := true, plainKeys := false, apart := false, narrowed := true }
def HouseTellsUptoSaid : Prop := houseTellsUptoRow.holds Try.pinned (OpenSpec.upto houseTellsSpec)

end Rows
end Go.Proofs.Yteinegcoenlkcac
