/-
  No cell of these rows narrows 'for every input' (looked for: loops, veiled, ifaces, maps, wideKeys, modest, calm, conditions, laid).
  DERIVED. THE GIVEN ROWS OF THIS SEAT. 4 by the template 'for every input the law returns true; each argument reads behind the call as it read before'; 0 by the template 'total and deterministic' (their statements: YtikmnaegalmfeaaTotals.lean).
  GIVEN WITH THE SEED: the statements are not yours to turn. If you find one false, say at which input.
  Laid BY PROGRAM, IN A SANDBOX (cutbox-rows.mjs): the forced cells as the released guide's own fill.sh prints them over the translation b820baee369c495a… (all of the seat's roots in one cut). By AI agents, Wed Nov 11 2026. No macro, syntax, notation, axiom, sorry.
-/
import Derived.Test.YtikmnaegalmfeaaChecked
import GoSem.Claim
import GoSem.ClaimJoined
import GoSem.ClaimMapViews
import Derived.JoinedTies
import Derived.KernelRfl
namespace Go.Proofs.Ytikmnaegalmfeaa
/- THE CELL 'sum', in the pinned program and in every row, IS THE sha256 OF THE DUMP (.gsa) THAT YtikmnaegalmfeaaProg.lean LOADS. Nothing in Lean hashes anything: it is a label: what it is worth is what the hold of that sum in a sandbox is worth. -/
noncomputable def Try.pinned : Pinned := { name := "ytikmnaegalmfeaa", sum := "b820baee369c495adc807bde249f8f60973697cd9f82e5e650f14dd0d4d93113", checked := Try.checked }
namespace Rows
def none {H : Type} : Left H := { results := [], args := [] }

/-- 'anlaw7.HouseTells': WHATEVER THE INPUT: true; the input reads as it did. -/
def houseTellsSpec : ChangeSpec := { name := "houseTells", fn := fun _ => fun
  | [d1, d2] => { results := [.lit (.bool true)], args := [d1, d2] }
  | _ => none }
def houseTellsRow : OpenClaim := { program := "ytikmnaegalmfeaa", sum := "b820baee369c495adc807bde249f8f60973697cd9f82e5e650f14dd0d4d93113", func := "allornone/anlaw7.HouseTells", spec := "houseTells", unfollowed := true, recurses := true, plainKeys := false, apart := false }
def HouseTellsSaid : Prop := houseTellsRow.holds Try.pinned (OpenSpec.ofChange houseTellsSpec)

/-- ITS FALSE NEIGHBOUR: 'it returns false'. Refute it at one input. -/
def houseTellsWrong : ChangeSpec := { name := "houseTells", fn := fun _ => fun
  | [d1, d2] => { results := [.lit (.bool false)], args := [d1, d2] }
  | _ => none }
def HouseTellsWrongFalsely : Prop := houseTellsRow.holds Try.pinned (OpenSpec.ofChange houseTellsWrong)

/-- 'anlaw7.HouseTwice': WHATEVER THE INPUT: true; the input reads as it did. -/
def houseTwiceSpec : ChangeSpec := { name := "houseTwice", fn := fun _ => fun
  | [d1, d2] => { results := [.lit (.bool true)], args := [d1, d2] }
  | _ => none }
def houseTwiceRow : OpenClaim := { program := "ytikmnaegalmfeaa", sum := "b820baee369c495adc807bde249f8f60973697cd9f82e5e650f14dd0d4d93113", func := "allornone/anlaw7.HouseTwice", spec := "houseTwice", unfollowed := true, recurses := true, plainKeys := false, apart := false }
def HouseTwiceSaid : Prop := houseTwiceRow.holds Try.pinned (OpenSpec.ofChange houseTwiceSpec)

/-- ITS FALSE NEIGHBOUR: 'it returns false'. Refute it at one input. -/
def houseTwiceWrong : ChangeSpec := { name := "houseTwice", fn := fun _ => fun
  | [d1, d2] => { results := [.lit (.bool false)], args := [d1, d2] }
  | _ => none }
def HouseTwiceWrongFalsely : Prop := houseTwiceRow.holds Try.pinned (OpenSpec.ofChange houseTwiceWrong)

/-- 'anlaw7.HouseWord': WHATEVER THE INPUT: true; the input reads as it did. -/
def houseWordSpec : ChangeSpec := { name := "houseWord", fn := fun _ => fun
  | [d1, d2, d3] => { results := [.lit (.bool true)], args := [d1, d2, d3] }
  | _ => none }
def houseWordRow : OpenClaim := { program := "ytikmnaegalmfeaa", sum := "b820baee369c495adc807bde249f8f60973697cd9f82e5e650f14dd0d4d93113", func := "allornone/anlaw7.HouseWord", spec := "houseWord", unfollowed := true, recurses := true, plainKeys := false, apart := false }
def HouseWordSaid : Prop := houseWordRow.holds Try.pinned (OpenSpec.ofChange houseWordSpec)

/-- ITS FALSE NEIGHBOUR: 'it returns false'. Refute it at one input. -/
def houseWordWrong : ChangeSpec := { name := "houseWord", fn := fun _ => fun
  | [d1, d2, d3] => { results := [.lit (.bool false)], args := [d1, d2, d3] }
  | _ => none }
def HouseWordWrongFalsely : Prop := houseWordRow.holds Try.pinned (OpenSpec.ofChange houseWordWrong)

/-- 'anlaw8.HeadAll': WHATEVER THE INPUT: true; the input reads as it did. -/
def headAllSpec : ChangeSpec := { name := "headAll", fn := fun _ => fun
  | [d1, d2, d3, d4] => { results := [.lit (.bool true)], args := [d1, d2, d3, d4] }
  | _ => none }
def headAllRow : OpenClaim := { program := "ytikmnaegalmfeaa", sum := "b820baee369c495adc807bde249f8f60973697cd9f82e5e650f14dd0d4d93113", func := "allornone/anlaw8.HeadAll", spec := "headAll", unfollowed := true, recurses := true, plainKeys := false, apart := false }
def HeadAllSaid : Prop := headAllRow.holds Try.pinned (OpenSpec.ofChange headAllSpec)

/-- ITS FALSE NEIGHBOUR: 'it returns false'. Refute it at one input. -/
def headAllWrong : ChangeSpec := { name := "headAll", fn := fun _ => fun
  | [d1, d2, d3, d4] => { results := [.lit (.bool false)], args := [d1, d2, d3, d4] }
  | _ => none }
def HeadAllWrongFalsely : Prop := headAllRow.holds Try.pinned (OpenSpec.ofChange headAllWrong)

/- THE SECOND FORM. 'bulk': how many values and letters a reading holds, each counted each time it is reached (what is shared counts as often as it is met; a slice's spare places count too). A statement '..UptoSaid' is the law's where the arguments, and the package variables that the reading takes, are together of bulk at most 1048576: NARROWER than '..Said'. Prove '..Said' where nothing that the law and all that it calls make is longer than what came in: it says more and counts as full. Else prove '..UptoSaid'. A law counts once. -/
mutual
def uptoBulk {H : Type} : DataW H → Nat
  | .lit (.string bytes) => bytes.length + 1
  | .lit _ => 1
  | .nil => 1
  | .ptr d => uptoBulk d + 1
  | .slice elems spare => uptoBulkAll elems + uptoBulkAll spare + 1
  | .agg parts => uptoBulkAll parts + 1
  | .iface _ d => uptoBulk d + 1
  | .map entries => uptoBulkEntries entries + 1
  | .held _ => 1
def uptoBulkAll {H : Type} : List (DataW H) → Nat
  | [] => 0
  | d :: r => uptoBulk d + uptoBulkAll r
def uptoBulkEntries {H : Type} : List (Lit × DataW H) → Nat
  | [] => 0
  | x :: r => uptoBulkEntry x + uptoBulkEntries r
def uptoBulkEntry {H : Type} : Lit × DataW H → Nat
  | (.string bytes, d) => bytes.length + uptoBulk d + 1
  | (_, d) => uptoBulk d + 1
 end
def uptoSmall : (H : Type) → List (DataW H) → Bool := fun _ ds => decide (uptoBulkAll ds ≤ 1048576)
def OpenSpec.upto (s : _root_.Go.ChangeSpec) : _root_.Go.OpenSpec := { _root_.Go.OpenSpec.ofChange s with cond := some uptoSmall }

/-- 'anlaw7.HouseTells', WHERE WHAT IT READS IS OF BULK AT MOST 1048576: true; the input reads as it did. -/
def houseTellsUptoRow : OpenClaim := { program := "ytikmnaegalmfeaa", sum := "b820baee369c495adc807bde249f8f60973697cd9f82e5e650f14dd0d4d93113", func := "allornone/anlaw7.HouseTells", spec := "houseTells", unfollowed := true, recurses := true, plainKeys := false, apart := false, narrowed := true }
def HouseTellsUptoSaid : Prop := houseTellsUptoRow.holds Try.pinned (OpenSpec.upto houseTellsSpec)

/-- 'anlaw7.HouseTwice', WHERE WHAT IT READS IS OF BULK AT MOST 1048576: true; the input reads as it did. -/
def houseTwiceUptoRow : OpenClaim := { program := "ytikmnaegalmfeaa", sum := "b820baee369c495adc807bde249f8f60973697cd9f82e5e650f14dd0d4d93113", func := "allornone/anlaw7.HouseTwice", spec := "houseTwice", unfollowed := true, recurses := true, plainKeys := false, apart := false, narrowed := true }
def HouseTwiceUptoSaid : Prop := houseTwiceUptoRow.holds Try.pinned (OpenSpec.upto houseTwiceSpec)

/-- 'anlaw7.HouseWord', WHERE WHAT IT READS IS OF BULK AT MOST 1048576: true; the input reads as it did. -/
def houseWordUptoRow : OpenClaim := { program := "ytikmnaegalmfeaa", sum := "b820baee369c495adc807bde249f8f60973697cd9f82e5e650f14dd0d4d93113", func := "allornone/anlaw7.HouseWord", spec := "houseWord", unfollowed := true, recurses := true, plainKeys := false, apart := false, narrowed := true }
def HouseWordUptoSaid : Prop := houseWordUptoRow.holds Try.pinned (OpenSpec.upto houseWordSpec)

/-- 'anlaw8.HeadAll', WHERE WHAT IT READS IS OF BULK AT MOST 1048576: true; the input reads as it did. -/
def headAllUptoRow : OpenClaim := { program := "ytikmnaegalmfeaa", sum := "b820baee369c495adc807bde249f8f60973697cd9f82e5e650f14dd0d4d93113", func := "allornone/anlaw8.HeadAll", spec := "headAll", unfollowed := true, recurses := true, plainKeys := false, apart := false, narrowed := true }
def HeadAllUptoSaid : Prop := headAllUptoRow.holds Try.pinned (OpenSpec.upto headAllSpec)

end Rows
end Go.Proofs.Ytikmnaegalmfeaa
