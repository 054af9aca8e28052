/-
  NARROWER THAN 'FOR EVERY INPUT', by the rows' own cells (each row's printed sentence says how): PerftParts: laid · PerftAfter: laid · PerftCounts: laid.
  DERIVED. THE GIVEN ROWS OF THIS SEAT. 3 by the template 'for every input the law returns true; each argument reads behind the call as it read before'; 0 by the template 'total and deterministic' (their statements: YtdhhdkbnlddnbaaGreatDoorTotals.lean).
  GIVEN WITH THE SEED: the statements are not yours to turn. If you find one false, say at which input.
  Laid BY PROGRAM, IN A SANDBOX (cutbox-rows.mjs): the forced cells as the released guide's own fill.sh prints them over the translation 7bb795ec2dd3e612… (all of the seat's roots in one cut). By AI agents, Wed Nov 11 2026. No macro, syntax, notation, axiom, sorry.
-/
import Derived.Test.YtdhhdkbnlddnbaaGreatDoorChecked
import GoSem.Claim
import GoSem.ClaimJoined
import GoSem.ClaimMapViews
import Derived.JoinedTies
import Derived.KernelRfl
namespace Go.Proofs.YtdhhdkbnlddnbaaGreatDoor
/- THE CELL 'sum', in the pinned program and in every row, IS THE sha256 OF THE DUMP (.gsa) THAT YtdhhdkbnlddnbaaGreatDoorProg.lean LOADS. Nothing in Lean hashes anything: it is a label: what it is worth is what the hold of that sum in a sandbox is worth. -/
noncomputable def Tryz.pinned : Pinned := { name := "ytdhhdkbnlddnbaagreatdoor", sum := "7bb795ec2dd3e612f074dd78dc2fe3959e170c2b5d21e2b2703c70c0efccea7e", checked := Tryz.checked }
namespace Rows
def none {H : Type} : Left H := { results := [], args := [] }

/- WHAT THE LISTED PACKAGE-LEVEL VARIABLES READ AS WHEN THE CALL BEGINS. Each datum BY PROGRAM (the guide's laid-datum.mjs) off the statement by which the dump's own 'gosem.cut.vars' lays the variable. In a bare row this is a premise. The card (YtdhhdkbnlddnbaaGreatDoorCards.lean) ties it to the program's text. -/
def laid_gamehall_ends_directions {H : Type} : DataW H := .agg [.agg [.lit (.int .i64 1), .lit (.int .i64 0)], .agg [.lit (.int .i64 0), .lit (.int .i64 1)], .agg [.lit (.int .i64 1), .lit (.int .i64 1)], .agg [.lit (.int .i64 1), .lit (.int .i64 (-1))]]

/-- 'gamehallkeep1.PerftParts': WHATEVER THE INPUT: true; the input reads as it did. -/
def perftPartsSpec : ChangeSpec := { name := "perftParts", fn := fun _ => fun
  | [d1, d2, d3] => { results := [.lit (.bool true)], args := [d1, d2, d3] }
  | _ => none }
def perftPartsRow : OpenClaim := { program := "ytdhhdkbnlddnbaagreatdoor", sum := "7bb795ec2dd3e612f074dd78dc2fe3959e170c2b5d21e2b2703c70c0efccea7e", func := "gamehall/gamehallkeep1.PerftParts", spec := "perftParts", unfollowed := true, recurses := true, named := ["gamehall/ends.directions"], apart := false, laid := [("gamehall/ends.directions", laid_gamehall_ends_directions)] }
def PerftPartsSaid : Prop := perftPartsRow.holds Tryz.pinned (OpenSpec.ofChange perftPartsSpec)

/-- ITS FALSE NEIGHBOUR: 'it returns false'. Refute it at one input. -/
def perftPartsWrong : ChangeSpec := { name := "perftParts", fn := fun _ => fun
  | [d1, d2, d3] => { results := [.lit (.bool false)], args := [d1, d2, d3] }
  | _ => none }
def PerftPartsWrongFalsely : Prop := perftPartsRow.holds Tryz.pinned (OpenSpec.ofChange perftPartsWrong)

/-- 'gamehallkeep1.PerftAfter': WHATEVER THE INPUT: true; the input reads as it did. -/
def perftAfterSpec : ChangeSpec := { name := "perftAfter", fn := fun _ => fun
  | [d1, d2, d3, d4] => { results := [.lit (.bool true)], args := [d1, d2, d3, d4] }
  | _ => none }
def perftAfterRow : OpenClaim := { program := "ytdhhdkbnlddnbaagreatdoor", sum := "7bb795ec2dd3e612f074dd78dc2fe3959e170c2b5d21e2b2703c70c0efccea7e", func := "gamehall/gamehallkeep1.PerftAfter", spec := "perftAfter", unfollowed := true, recurses := true, named := ["gamehall/ends.directions"], apart := false, laid := [("gamehall/ends.directions", laid_gamehall_ends_directions)] }
def PerftAfterSaid : Prop := perftAfterRow.holds Tryz.pinned (OpenSpec.ofChange perftAfterSpec)

/-- ITS FALSE NEIGHBOUR: 'it returns false'. Refute it at one input. -/
def perftAfterWrong : ChangeSpec := { name := "perftAfter", fn := fun _ => fun
  | [d1, d2, d3, d4] => { results := [.lit (.bool false)], args := [d1, d2, d3, d4] }
  | _ => none }
def PerftAfterWrongFalsely : Prop := perftAfterRow.holds Tryz.pinned (OpenSpec.ofChange perftAfterWrong)

/-- 'gamehalllaw1.PerftCounts': WHATEVER THE INPUT: true; the input reads as it did. -/
def perftCountsSpec : ChangeSpec := { name := "perftCounts", fn := fun _ => fun
  | [d1, d2, d3] => { results := [.lit (.bool true)], args := [d1, d2, d3] }
  | _ => none }
def perftCountsRow : OpenClaim := { program := "ytdhhdkbnlddnbaagreatdoor", sum := "7bb795ec2dd3e612f074dd78dc2fe3959e170c2b5d21e2b2703c70c0efccea7e", func := "gamehall/gamehalllaw1.PerftCounts", spec := "perftCounts", unfollowed := true, recurses := true, named := ["gamehall/ends.directions"], apart := false, laid := [("gamehall/ends.directions", laid_gamehall_ends_directions)] }
def PerftCountsSaid : Prop := perftCountsRow.holds Tryz.pinned (OpenSpec.ofChange perftCountsSpec)

/-- ITS FALSE NEIGHBOUR: 'it returns false'. Refute it at one input. -/
def perftCountsWrong : ChangeSpec := { name := "perftCounts", fn := fun _ => fun
  | [d1, d2, d3] => { results := [.lit (.bool false)], args := [d1, d2, d3] }
  | _ => none }
def PerftCountsWrongFalsely : Prop := perftCountsRow.holds Tryz.pinned (OpenSpec.ofChange perftCountsWrong)

/- THE SECOND FORM. 'bulk': how many values and letters a reading holds, each counted each time it is reached (what is shared counts as often as it is met; a slice's spare places count too). A statement '..UptoSaid' is the law's where the arguments, and the package variables that the reading takes, are together of bulk at most 1048576: NARROWER than '..Said'. Prove '..Said' where nothing that the law and all that it calls make is longer than what came in: it says more and counts as full. Else prove '..UptoSaid'. A law counts once. -/
mutual
def uptoBulk {H : Type} : DataW H → Nat
  | .lit (.string bytes) => bytes.length + 1
  | .lit _ => 1
  | .nil => 1
  | .ptr d => uptoBulk d + 1
  | .slice elems spare => uptoBulkAll elems + uptoBulkAll spare + 1
  | .agg parts => uptoBulkAll parts + 1
  | .iface _ d => uptoBulk d + 1
  | .map entries => uptoBulkEntries entries + 1
  | .held _ => 1
def uptoBulkAll {H : Type} : List (DataW H) → Nat
  | [] => 0
  | d :: r => uptoBulk d + uptoBulkAll r
def uptoBulkEntries {H : Type} : List (Lit × DataW H) → Nat
  | [] => 0
  | x :: r => uptoBulkEntry x + uptoBulkEntries r
def uptoBulkEntry {H : Type} : Lit × DataW H → Nat
  | (.string bytes, d) => bytes.length + uptoBulk d + 1
  | (_, d) => uptoBulk d + 1
 end
def uptoSmall : (H : Type) → List (DataW H) → Bool := fun _ ds => decide (uptoBulkAll ds ≤ 1048576)
def OpenSpec.upto (s : _root_.Go.ChangeSpec) : _root_.Go.OpenSpec := { _root_.Go.OpenSpec.ofChange s with cond := some uptoSmall }

/-- 'gamehallkeep1.PerftParts', WHERE WHAT IT READS IS OF BULK AT MOST 1048576: true; the input reads as it did. -/
def perftPartsUptoRow : OpenClaim := { program := "ytdhhdkbnlddnbaagreatdoor", sum := "7bb795ec2dd3e612f074dd78dc2fe3959e170c2b5d21e2b2703c70c0efccea7e", func := "gamehall/gamehallkeep1.PerftParts", spec := "perftParts", unfollowed := true, recurses := true, named := ["gamehall/ends.directions"], apart := false, laid := [("gamehall/ends.directions", laid_gamehall_ends_directions)], narrowed := true }
def PerftPartsUptoSaid : Prop := perftPartsUptoRow.holds Tryz.pinned (OpenSpec.upto perftPartsSpec)

/-- 'gamehallkeep1.PerftAfter', WHERE WHAT IT READS IS OF BULK AT MOST 1048576: true; the input reads as it did. -/
def perftAfterUptoRow : OpenClaim := { program := "ytdhhdkbnlddnbaagreatdoor", sum := "7bb795ec2dd3e612f074dd78dc2fe3959e170c2b5d21e2b2703c70c0efccea7e", func := "gamehall/gamehallkeep1.PerftAfter", spec := "perftAfter", unfollowed := true, recurses := true, named := ["gamehall/ends.directions"], apart := false, laid := [("gamehall/ends.directions", laid_gamehall_ends_directions)], narrowed := true }
def PerftAfterUptoSaid : Prop := perftAfterUptoRow.holds Tryz.pinned (OpenSpec.upto perftAfterSpec)

/-- 'gamehalllaw1.PerftCounts', WHERE WHAT IT READS IS OF BULK AT MOST 1048576: true; the input reads as it did. -/
def perftCountsUptoRow : OpenClaim := { program := "ytdhhdkbnlddnbaagreatdoor", sum := "7bb795ec2dd3e612f074dd78dc2fe3959e170c2b5d21e2b2703c70c0efccea7e", func := "gamehall/gamehalllaw1.PerftCounts", spec := "perftCounts", unfollowed := true, recurses := true, named := ["gamehall/ends.directions"], apart := false, laid := [("gamehall/ends.directions", laid_gamehall_ends_directions)], narrowed := true }
def PerftCountsUptoSaid : Prop := perftCountsUptoRow.holds Tryz.pinned (OpenSpec.upto perftCountsSpec)

end Rows
end Go.Proofs.YtdhhdkbnlddnbaaGreatDoor
