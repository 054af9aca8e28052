/-
  NARROWER THAN 'FOR EVERY INPUT', by the rows' own cells (each row's printed sentence says how): PlainReplays: laid · PlainRepeats: laid · PlainRuns: laid · TopUndo: laid.
  DERIVED. THE GIVEN ROWS OF THIS SEAT. 4 by the template 'for every input the law returns true; each argument reads behind the call as it read before'; 0 by the template 'total and deterministic' (their statements: YtkficjpnflnjhaaGreatDoorTotals.lean).
  GIVEN WITH THE SEED: the statements are not yours to turn. If you find one false, say at which input.
  Laid BY PROGRAM, IN A SANDBOX (cutbox-rows.mjs): the forced cells as the released guide's own fill.sh prints them over the translation 2b560d5925928040… (all of the seat's roots in one cut). By AI agents, Wed Nov 11 2026. No macro, syntax, notation, axiom, sorry.
-/
import Derived.Test.YtkficjpnflnjhaaGreatDoorChecked
import GoSem.Claim
import GoSem.ClaimJoined
import GoSem.ClaimMapViews
import Derived.JoinedTies
import Derived.KernelRfl
namespace Go.Proofs.YtkficjpnflnjhaaGreatDoor
/- THE CELL 'sum', in the pinned program and in every row, IS THE sha256 OF THE DUMP (.gsa) THAT YtkficjpnflnjhaaGreatDoorProg.lean LOADS. Nothing in Lean hashes anything: it is a label: what it is worth is what the hold of that sum in a sandbox is worth. -/
noncomputable def Tryz.pinned : Pinned := { name := "ytkficjpnflnjhaagreatdoor", sum := "2b560d5925928040e3ede1fbe40de11a78d9dcaaa8abd9e9867eae5aa9e65ef6", checked := Tryz.checked }
namespace Rows
def none {H : Type} : Left H := { results := [], args := [] }

/- WHAT THE LISTED PACKAGE-LEVEL VARIABLES READ AS WHEN THE CALL BEGINS. Each datum BY PROGRAM (the guide's laid-datum.mjs) off the statement by which the dump's own 'gosem.cut.vars' lays the variable. In a bare row this is a premise. The card (YtkficjpnflnjhaaGreatDoorCards.lean) ties it to the program's text. -/
def laid_gamehall_ends_directions {H : Type} : DataW H := .agg [.agg [.lit (.int .i64 1), .lit (.int .i64 0)], .agg [.lit (.int .i64 0), .lit (.int .i64 1)], .agg [.lit (.int .i64 1), .lit (.int .i64 1)], .agg [.lit (.int .i64 1), .lit (.int .i64 (-1))]]

/-- 'gamehallkeep1.PlainReplays': WHATEVER THE INPUT: true; the input reads as it did. -/
def plainReplaysSpec : ChangeSpec := { name := "plainReplays", fn := fun _ => fun
  | [d1, d2] => { results := [.lit (.bool true)], args := [d1, d2] }
  | _ => none }
def plainReplaysRow : OpenClaim := { program := "ytkficjpnflnjhaagreatdoor", sum := "2b560d5925928040e3ede1fbe40de11a78d9dcaaa8abd9e9867eae5aa9e65ef6", func := "gamehall/gamehallkeep1.PlainReplays", spec := "plainReplays", unfollowed := true, recurses := true, named := ["gamehall/ends.directions"], apart := false, laid := [("gamehall/ends.directions", laid_gamehall_ends_directions)] }
def PlainReplaysSaid : Prop := plainReplaysRow.holds Tryz.pinned (OpenSpec.ofChange plainReplaysSpec)

/-- ITS FALSE NEIGHBOUR: 'it returns false'. Refute it at one input. -/
def plainReplaysWrong : ChangeSpec := { name := "plainReplays", fn := fun _ => fun
  | [d1, d2] => { results := [.lit (.bool false)], args := [d1, d2] }
  | _ => none }
def PlainReplaysWrongFalsely : Prop := plainReplaysRow.holds Tryz.pinned (OpenSpec.ofChange plainReplaysWrong)

/-- 'gamehallkeep1.PlainRepeats': WHATEVER THE INPUT: true; the input reads as it did. -/
def plainRepeatsSpec : ChangeSpec := { name := "plainRepeats", fn := fun _ => fun
  | [d1, d2] => { results := [.lit (.bool true)], args := [d1, d2] }
  | _ => none }
def plainRepeatsRow : OpenClaim := { program := "ytkficjpnflnjhaagreatdoor", sum := "2b560d5925928040e3ede1fbe40de11a78d9dcaaa8abd9e9867eae5aa9e65ef6", func := "gamehall/gamehallkeep1.PlainRepeats", spec := "plainRepeats", unfollowed := true, recurses := true, named := ["gamehall/ends.directions"], apart := false, laid := [("gamehall/ends.directions", laid_gamehall_ends_directions)] }
def PlainRepeatsSaid : Prop := plainRepeatsRow.holds Tryz.pinned (OpenSpec.ofChange plainRepeatsSpec)

/-- ITS FALSE NEIGHBOUR: 'it returns false'. Refute it at one input. -/
def plainRepeatsWrong : ChangeSpec := { name := "plainRepeats", fn := fun _ => fun
  | [d1, d2] => { results := [.lit (.bool false)], args := [d1, d2] }
  | _ => none }
def PlainRepeatsWrongFalsely : Prop := plainRepeatsRow.holds Tryz.pinned (OpenSpec.ofChange plainRepeatsWrong)

/-- 'gamehalllaw1.PlainRuns': WHATEVER THE INPUT: true; the input reads as it did. -/
def plainRunsSpec : ChangeSpec := { name := "plainRuns", fn := fun _ => fun
  | [d1, d2] => { results := [.lit (.bool true)], args := [d1, d2] }
  | _ => none }
def plainRunsRow : OpenClaim := { program := "ytkficjpnflnjhaagreatdoor", sum := "2b560d5925928040e3ede1fbe40de11a78d9dcaaa8abd9e9867eae5aa9e65ef6", func := "gamehall/gamehalllaw1.PlainRuns", spec := "plainRuns", unfollowed := true, recurses := true, named := ["gamehall/ends.directions"], apart := false, laid := [("gamehall/ends.directions", laid_gamehall_ends_directions)] }
def PlainRunsSaid : Prop := plainRunsRow.holds Tryz.pinned (OpenSpec.ofChange plainRunsSpec)

/-- ITS FALSE NEIGHBOUR: 'it returns false'. Refute it at one input. -/
def plainRunsWrong : ChangeSpec := { name := "plainRuns", fn := fun _ => fun
  | [d1, d2] => { results := [.lit (.bool false)], args := [d1, d2] }
  | _ => none }
def PlainRunsWrongFalsely : Prop := plainRunsRow.holds Tryz.pinned (OpenSpec.ofChange plainRunsWrong)

/-- 'gamehalltop.TopUndo': WHATEVER THE INPUT: true; the input reads as it did. -/
def topUndoSpec : ChangeSpec := { name := "topUndo", fn := fun _ => fun
  | [d1, d2, d3] => { results := [.lit (.bool true)], args := [d1, d2, d3] }
  | _ => none }
def topUndoRow : OpenClaim := { program := "ytkficjpnflnjhaagreatdoor", sum := "2b560d5925928040e3ede1fbe40de11a78d9dcaaa8abd9e9867eae5aa9e65ef6", func := "gamehall/gamehalltop.TopUndo", spec := "topUndo", unfollowed := true, recurses := true, named := ["gamehall/ends.directions"], apart := false, laid := [("gamehall/ends.directions", laid_gamehall_ends_directions)] }
def TopUndoSaid : Prop := topUndoRow.holds Tryz.pinned (OpenSpec.ofChange topUndoSpec)

/-- ITS FALSE NEIGHBOUR: 'it returns false'. Refute it at one input. -/
def topUndoWrong : ChangeSpec := { name := "topUndo", fn := fun _ => fun
  | [d1, d2, d3] => { results := [.lit (.bool false)], args := [d1, d2, d3] }
  | _ => none }
def TopUndoWrongFalsely : Prop := topUndoRow.holds Tryz.pinned (OpenSpec.ofChange topUndoWrong)

/- THE SECOND FORM. 'bulk': how many values and letters a reading holds, each counted each time it is reached (what is shared counts as often as it is met; a slice's spare places count too). A statement '..UptoSaid' is the law's where the arguments, and the package variables that the reading takes, are together of bulk at most 1048576: NARROWER than '..Said'. Prove '..Said' where nothing that the law and all that it calls make is longer than what came in: it says more and counts as full. Else prove '..UptoSaid'. A law counts once. -/
mutual
def uptoBulk {H : Type} : DataW H → Nat
  | .lit (.string bytes) => bytes.length + 1
  | .lit _ => 1
  | .nil => 1
  | .ptr d => uptoBulk d + 1
  | .slice elems spare => uptoBulkAll elems + uptoBulkAll spare + 1
  | .agg parts => uptoBulkAll parts + 1
  | .iface _ d => uptoBulk d + 1
  | .map entries => uptoBulkEntries entries + 1
  | .held _ => 1
def uptoBulkAll {H : Type} : List (DataW H) → Nat
  | [] => 0
  | d :: r => uptoBulk d + uptoBulkAll r
def uptoBulkEntries {H : Type} : List (Lit × DataW H) → Nat
  | [] => 0
  | x :: r => uptoBulkEntry x + uptoBulkEntries r
def uptoBulkEntry {H : Type} : Lit × DataW H → Nat
  | (.string bytes, d) => bytes.length + uptoBulk d + 1
  | (_, d) => uptoBulk d + 1
 end
def uptoSmall : (H : Type) → List (DataW H) → Bool := fun _ ds => decide (uptoBulkAll ds ≤ 1048576)
def OpenSpec.upto (s : _root_.Go.ChangeSpec) : _root_.Go.OpenSpec := { _root_.Go.OpenSpec.ofChange s with cond := some uptoSmall }

/-- 'gamehallkeep1.PlainReplays', WHERE WHAT IT READS IS OF BULK AT MOST 1048576: true; the input reads as it did. -/
def plainReplaysUptoRow : OpenClaim := { program := "ytkficjpnflnjhaagreatdoor", sum := "2b560d5925928040e3ede1fbe40de11a78d9dcaaa8abd9e9867eae5aa9e65ef6", func := "gamehall/gamehallkeep1.PlainReplays", spec := "plainReplays", unfollowed := true, recurses := true, named := ["gamehall/ends.directions"], apart := false, laid := [("gamehall/ends.directions", laid_gamehall_ends_directions)], narrowed := true }
def PlainReplaysUptoSaid : Prop := plainReplaysUptoRow.holds Tryz.pinned (OpenSpec.upto plainReplaysSpec)

/-- 'gamehallkeep1.PlainRepeats', WHERE WHAT IT READS IS OF BULK AT MOST 1048576: true; the input reads as it did. -/
def plainRepeatsUptoRow : OpenClaim := { program := "ytkficjpnflnjhaagreatdoor", sum := "2b560d5925928040e3ede1fbe40de11a78d9dcaaa8abd9e9867eae5aa9e65ef6", func := "gamehall/gamehallkeep1.PlainRepeats", spec := "plainRepeats", unfollowed := true, recurses := true, named := ["gamehall/ends.directions"], apart := false, laid := [("gamehall/ends.directions", laid_gamehall_ends_directions)], narrowed := true }
def PlainRepeatsUptoSaid : Prop := plainRepeatsUptoRow.holds Tryz.pinned (OpenSpec.upto plainRepeatsSpec)

/-- 'gamehalllaw1.PlainRuns', WHERE WHAT IT READS IS OF BULK AT MOST 1048576: true; the input reads as it did. -/
def plainRunsUptoRow : OpenClaim := { program := "ytkficjpnflnjhaagreatdoor", sum := "2b560d5925928040e3ede1fbe40de11a78d9dcaaa8abd9e9867eae5aa9e65ef6", func := "gamehall/gamehalllaw1.PlainRuns", spec := "plainRuns", unfollowed := true, recurses := true, named := ["gamehall/ends.directions"], apart := false, laid := [("gamehall/ends.directions", laid_gamehall_ends_directions)], narrowed := true }
def PlainRunsUptoSaid : Prop := plainRunsUptoRow.holds Tryz.pinned (OpenSpec.upto plainRunsSpec)

/-- 'gamehalltop.TopUndo', WHERE WHAT IT READS IS OF BULK AT MOST 1048576: true; the input reads as it did. -/
def topUndoUptoRow : OpenClaim := { program := "ytkficjpnflnjhaagreatdoor", sum := "2b560d5925928040e3ede1fbe40de11a78d9dcaaa8abd9e9867eae5aa9e65ef6", func := "gamehall/gamehalltop.TopUndo", spec := "topUndo", unfollowed := true, recurses := true, named := ["gamehall/ends.directions"], apart := false, laid := [("gamehall/ends.directions", laid_gamehall_ends_directions)], narrowed := true }
def TopUndoUptoSaid : Prop := topUndoUptoRow.holds Tryz.pinned (OpenSpec.upto topUndoSpec)

end Rows
end Go.Proofs.YtkficjpnflnjhaaGreatDoor
