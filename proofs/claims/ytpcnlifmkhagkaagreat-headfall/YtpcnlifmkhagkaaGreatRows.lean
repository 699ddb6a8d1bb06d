/-
  No cell of these rows narrows 'for every input' (looked for: loops, veiled, ifaces, maps, wideKeys, modest, calm, conditions, laid).
  DERIVED. THE GIVEN ROWS OF THIS SEAT. 5 by the template 'for every input the law returns true; each argument reads behind the call as it read before'; 0 by the template 'total and deterministic' (their statements: YtpcnlifmkhagkaaGreatTotals.lean).
  GIVEN WITH THE SEED: the statements are not yours to turn. If you find one false, say at which input.
  Laid BY PROGRAM, IN A SANDBOX (cutbox-rows.mjs): the forced cells as the released guide's own fill.sh prints them over the translation 0755e66315b9f295… (all of the seat's roots in one cut). By AI agents, Wed Nov 11 2026. No macro, syntax, notation, axiom, sorry.
-/
import Derived.Test.YtpcnlifmkhagkaaGreatChecked
import GoSem.Claim
import GoSem.ClaimJoined
import GoSem.ClaimMapViews
import Derived.JoinedTies
import Derived.KernelRfl
namespace Go.Proofs.YtpcnlifmkhagkaaGreat
/- THE CELL 'sum', in the pinned program and in every row, IS THE sha256 OF THE DUMP (.gsa) THAT YtpcnlifmkhagkaaGreatProg.lean LOADS. Nothing in Lean hashes anything: it is a label: what it is worth is what the hold of that sum in a sandbox is worth. -/
noncomputable def Tryz.pinned : Pinned := { name := "ytpcnlifmkhagkaagreat", sum := "0755e66315b9f295cb10465b1b11da06d56b2fc6d0ae5a918eb5f13d022c56ea", checked := Tryz.checked }
namespace Rows
def none {H : Type} : Left H := { results := [], args := [] }

/-- 'anlaw8.HeadTells': WHATEVER THE INPUT: true; the input reads as it did. -/
def headTellsSpec : ChangeSpec := { name := "headTells", fn := fun _ => fun
  | [d1, d2, d3, d4] => { results := [.lit (.bool true)], args := [d1, d2, d3, d4] }
  | _ => none }
def headTellsRow : OpenClaim := { program := "ytpcnlifmkhagkaagreat", sum := "0755e66315b9f295cb10465b1b11da06d56b2fc6d0ae5a918eb5f13d022c56ea", func := "allornone/anlaw8.HeadTells", spec := "headTells", unfollowed := true, recurses := true, plainKeys := false, apart := false }
def HeadTellsSaid : Prop := headTellsRow.holds Tryz.pinned (OpenSpec.ofChange headTellsSpec)

/-- ITS FALSE NEIGHBOUR: 'it returns false'. Refute it at one input. -/
def headTellsWrong : ChangeSpec := { name := "headTells", fn := fun _ => fun
  | [d1, d2, d3, d4] => { results := [.lit (.bool false)], args := [d1, d2, d3, d4] }
  | _ => none }
def HeadTellsWrongFalsely : Prop := headTellsRow.holds Tryz.pinned (OpenSpec.ofChange headTellsWrong)

/-- 'anlaw8.HeadFall': WHATEVER THE INPUT: true; the input reads as it did. -/
def headFallSpec : ChangeSpec := { name := "headFall", fn := fun _ => fun
  | [d1, d2, d3] => { results := [.lit (.bool true)], args := [d1, d2, d3] }
  | _ => none }
def headFallRow : OpenClaim := { program := "ytpcnlifmkhagkaagreat", sum := "0755e66315b9f295cb10465b1b11da06d56b2fc6d0ae5a918eb5f13d022c56ea", func := "allornone/anlaw8.HeadFall", spec := "headFall", unfollowed := true, recurses := true, plainKeys := false, apart := false }
def HeadFallSaid : Prop := headFallRow.holds Tryz.pinned (OpenSpec.ofChange headFallSpec)

/-- ITS FALSE NEIGHBOUR: 'it returns false'. Refute it at one input. -/
def headFallWrong : ChangeSpec := { name := "headFall", fn := fun _ => fun
  | [d1, d2, d3] => { results := [.lit (.bool false)], args := [d1, d2, d3] }
  | _ => none }
def HeadFallWrongFalsely : Prop := headFallRow.holds Tryz.pinned (OpenSpec.ofChange headFallWrong)

/-- 'anlaw10.WorldTells': WHATEVER THE INPUT: true; the input reads as it did. -/
def worldTellsSpec : ChangeSpec := { name := "worldTells", fn := fun _ => fun
  | [d1, d2, d3] => { results := [.lit (.bool true)], args := [d1, d2, d3] }
  | _ => none }
def worldTellsRow : OpenClaim := { program := "ytpcnlifmkhagkaagreat", sum := "0755e66315b9f295cb10465b1b11da06d56b2fc6d0ae5a918eb5f13d022c56ea", func := "allornone/anlaw10.WorldTells", spec := "worldTells", unfollowed := true, recurses := true, plainKeys := false, apart := false }
def WorldTellsSaid : Prop := worldTellsRow.holds Tryz.pinned (OpenSpec.ofChange worldTellsSpec)

/-- ITS FALSE NEIGHBOUR: 'it returns false'. Refute it at one input. -/
def worldTellsWrong : ChangeSpec := { name := "worldTells", fn := fun _ => fun
  | [d1, d2, d3] => { results := [.lit (.bool false)], args := [d1, d2, d3] }
  | _ => none }
def WorldTellsWrongFalsely : Prop := worldTellsRow.holds Tryz.pinned (OpenSpec.ofChange worldTellsWrong)

/-- 'anlaw10.WorldWhole': WHATEVER THE INPUT: true; the input reads as it did. -/
def worldWholeSpec : ChangeSpec := { name := "worldWhole", fn := fun _ => fun
  | [d1, d2, d3] => { results := [.lit (.bool true)], args := [d1, d2, d3] }
  | _ => none }
def worldWholeRow : OpenClaim := { program := "ytpcnlifmkhagkaagreat", sum := "0755e66315b9f295cb10465b1b11da06d56b2fc6d0ae5a918eb5f13d022c56ea", func := "allornone/anlaw10.WorldWhole", spec := "worldWhole", unfollowed := true, recurses := true, plainKeys := false, apart := false }
def WorldWholeSaid : Prop := worldWholeRow.holds Tryz.pinned (OpenSpec.ofChange worldWholeSpec)

/-- ITS FALSE NEIGHBOUR: 'it returns false'. Refute it at one input. -/
def worldWholeWrong : ChangeSpec := { name := "worldWhole", fn := fun _ => fun
  | [d1, d2, d3] => { results := [.lit (.bool false)], args := [d1, d2, d3] }
  | _ => none }
def WorldWholeWrongFalsely : Prop := worldWholeRow.holds Tryz.pinned (OpenSpec.ofChange worldWholeWrong)

/-- 'anlaw10.WorldOnce': WHATEVER THE INPUT: true; the input reads as it did. -/
def worldOnceSpec : ChangeSpec := { name := "worldOnce", fn := fun _ => fun
  | [d1, d2, d3] => { results := [.lit (.bool true)], args := [d1, d2, d3] }
  | _ => none }
def worldOnceRow : OpenClaim := { program := "ytpcnlifmkhagkaagreat", sum := "0755e66315b9f295cb10465b1b11da06d56b2fc6d0ae5a918eb5f13d022c56ea", func := "allornone/anlaw10.WorldOnce", spec := "worldOnce", unfollowed := true, recurses := true, plainKeys := false, apart := false }
def WorldOnceSaid : Prop := worldOnceRow.holds Tryz.pinned (OpenSpec.ofChange worldOnceSpec)

/-- ITS FALSE NEIGHBOUR: 'it returns false'. Refute it at one input. -/
def worldOnceWrong : ChangeSpec := { name := "worldOnce", fn := fun _ => fun
  | [d1, d2, d3] => { results := [.lit (.bool false)], args := [d1, d2, d3] }
  | _ => none }
def WorldOnceWrongFalsely : Prop := worldOnceRow.holds Tryz.pinned (OpenSpec.ofChange worldOnceWrong)

/- THE SECOND FORM. 'bulk': how many values and letters a reading holds, each counted each time it is reached (what is shared counts as often as it is met; a slice's spare places count too). A statement '..UptoSaid' is the law's where the arguments, and the package variables that the reading takes, are together of bulk at most 1048576: NARROWER than '..Said'. Prove '..Said' where nothing that the law and all that it calls make is longer than what came in: it says more and counts as full. Else prove '..UptoSaid'. A law counts once. -/
mutual
def uptoBulk {H : Type} : DataW H → Nat
  | .lit (.string bytes) => bytes.length + 1
  | .lit _ => 1
  | .nil => 1
  | .ptr d => uptoBulk d + 1
  | .slice elems spare => uptoBulkAll elems + uptoBulkAll spare + 1
  | .agg parts => uptoBulkAll parts + 1
  | .iface _ d => uptoBulk d + 1
  | .map entries => uptoBulkEntries entries + 1
  | .held _ => 1
def uptoBulkAll {H : Type} : List (DataW H) → Nat
  | [] => 0
  | d :: r => uptoBulk d + uptoBulkAll r
def uptoBulkEntries {H : Type} : List (Lit × DataW H) → Nat
  | [] => 0
  | x :: r => uptoBulkEntry x + uptoBulkEntries r
def uptoBulkEntry {H : Type} : Lit × DataW H → Nat
  | (.string bytes, d) => bytes.length + uptoBulk d + 1
  | (_, d) => uptoBulk d + 1
 end
def uptoSmall : (H : Type) → List (DataW H) → Bool := fun _ ds => decide (uptoBulkAll ds ≤ 1048576)
def OpenSpec.upto (s : _root_.Go.ChangeSpec) : _root_.Go.OpenSpec := { _root_.Go.OpenSpec.ofChange s with cond := some uptoSmall }

/-- 'anlaw8.HeadTells', WHERE WHAT IT READS IS OF BULK AT MOST 1048576: true; the input reads as it did. -/
def headTellsUptoRow : OpenClaim := { program := "ytpcnlifmkhagkaagreat", sum := "0755e66315b9f295cb10465b1b11da06d56b2fc6d0ae5a918eb5f13d022c56ea", func := "allornone/anlaw8.HeadTells", spec := "headTells", unfollowed := true, recurses := true, plainKeys := false, apart := false, narrowed := true }
def HeadTellsUptoSaid : Prop := headTellsUptoRow.holds Tryz.pinned (OpenSpec.upto headTellsSpec)

/-- 'anlaw8.HeadFall', WHERE WHAT IT READS IS OF BULK AT MOST 1048576: true; the input reads as it did. -/
def headFallUptoRow : OpenClaim := { program := "ytpcnlifmkhagkaagreat", sum := "0755e66315b9f295cb10465b1b11da06d56b2fc6d0ae5a918eb5f13d022c56ea", func := "allornone/anlaw8.HeadFall", spec := "headFall", unfollowed := true, recurses := true, plainKeys := false, apart := false, narrowed := true }
def HeadFallUptoSaid : Prop := headFallUptoRow.holds Tryz.pinned (OpenSpec.upto headFallSpec)

/-- 'anlaw10.WorldTells', WHERE WHAT IT READS IS OF BULK AT MOST 1048576: true; the input reads as it did. -/
def worldTellsUptoRow : OpenClaim := { program := "ytpcnlifmkhagkaagreat", sum := "0755e66315b9f295cb10465b1b11da06d56b2fc6d0ae5a918eb5f13d022c56ea", func := "allornone/anlaw10.WorldTells", spec := "worldTells", unfollowed := true, recurses := true, plainKeys := false, apart := false, narrowed := true }
def WorldTellsUptoSaid : Prop := worldTellsUptoRow.holds Tryz.pinned (OpenSpec.upto worldTellsSpec)

/-- 'anlaw10.WorldWhole', WHERE WHAT IT READS IS OF BULK AT MOST 1048576: true; the input reads as it did. -/
def worldWholeUptoRow : OpenClaim := { program := "ytpcnlifmkhagkaagreat", sum := "0755e66315b9f295cb10465b1b11da06d56b2fc6d0ae5a918eb5f13d022c56ea", func := "allornone/anlaw10.WorldWhole", spec := "worldWhole", unfollowed := true, recurses := true, plainKeys := false, apart := false, narrowed := true }
def WorldWholeUptoSaid : Prop := worldWholeUptoRow.holds Tryz.pinned (OpenSpec.upto worldWholeSpec)

/-- 'anlaw10.WorldOnce', WHERE WHAT IT READS IS OF BULK AT MOST 1048576: true; the input reads as it did. -/
def worldOnceUptoRow : OpenClaim := { program := "ytpcnlifmkhagkaagreat", sum := "0755e66315b9f295cb10465b1b11da06d56b2fc6d0ae5a918eb5f13d022c56ea", func := "allornone/anlaw10.WorldOnce", spec := "worldOnce", unfollowed := true, recurses := true, plainKeys := false, apart := false, narrowed := true }
def WorldOnceUptoSaid : Prop := worldOnceUptoRow.holds Tryz.pinned (OpenSpec.upto worldOnceSpec)

end Rows
end Go.Proofs.YtpcnlifmkhagkaaGreat
