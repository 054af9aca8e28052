/-
  NARROWER THAN 'FOR EVERY INPUT', by the rows' own cells (each row's printed sentence says how): BoardBack: laid · BoardKeys: laid · BoardFollows: laid · TopHash: laid.
  DERIVED. THE GIVEN ROWS OF THIS SEAT. 4 by the template 'for every input the law returns true; each argument reads behind the call as it read before'; 0 by the template 'total and deterministic' (their statements: YtiligppdfldlfaaGreatDoorTotals.lean).
  GIVEN WITH THE SEED: the statements are not yours to turn. If you find one false, say at which input.
  Laid BY PROGRAM, IN A SANDBOX (cutbox-rows.mjs): the forced cells as the released guide's own fill.sh prints them over the translation fa4b1abd7eac8101… (all of the seat's roots in one cut). By AI agents, Wed Nov 11 2026. No macro, syntax, notation, axiom, sorry.
-/
import Derived.Test.YtiligppdfldlfaaGreatDoorChecked
import GoSem.Claim
import GoSem.ClaimJoined
import GoSem.ClaimMapViews
import Derived.JoinedTies
import Derived.KernelRfl
namespace Go.Proofs.YtiligppdfldlfaaGreatDoor
/- THE CELL 'sum', in the pinned program and in every row, IS THE sha256 OF THE DUMP (.gsa) THAT YtiligppdfldlfaaGreatDoorProg.lean LOADS. Nothing in Lean hashes anything: it is a label: what it is worth is what the hold of that sum in a sandbox is worth. -/
noncomputable def Tryz.pinned : Pinned := { name := "ytiligppdfldlfaagreatdoor", sum := "fa4b1abd7eac810119a57c8f9ca8ce32093786a3eaa7c440969807a1f5a58e25", checked := Tryz.checked }
namespace Rows
def none {H : Type} : Left H := { results := [], args := [] }

/- WHAT THE LISTED PACKAGE-LEVEL VARIABLES READ AS WHEN THE CALL BEGINS. Each datum BY PROGRAM (the guide's laid-datum.mjs) off the statement by which the dump's own 'gosem.cut.vars' lays the variable. In a bare row this is a premise. The card (YtiligppdfldlfaaGreatDoorCards.lean) ties it to the program's text. -/
def laid_gamehall_ends_directions {H : Type} : DataW H := .agg [.agg [.lit (.int .i64 1), .lit (.int .i64 0)], .agg [.lit (.int .i64 0), .lit (.int .i64 1)], .agg [.lit (.int .i64 1), .lit (.int .i64 1)], .agg [.lit (.int .i64 1), .lit (.int .i64 (-1))]]

/-- 'gamehallkeep1.BoardBack': WHATEVER THE INPUT: true; the input reads as it did. -/
def boardBackSpec : ChangeSpec := { name := "boardBack", fn := fun _ => fun
  | [d1, d2, d3] => { results := [.lit (.bool true)], args := [d1, d2, d3] }
  | _ => none }
def boardBackRow : OpenClaim := { program := "ytiligppdfldlfaagreatdoor", sum := "fa4b1abd7eac810119a57c8f9ca8ce32093786a3eaa7c440969807a1f5a58e25", func := "gamehall/gamehallkeep1.BoardBack", spec := "boardBack", unfollowed := true, recurses := true, named := ["gamehall/ends.directions"], apart := false, laid := [("gamehall/ends.directions", laid_gamehall_ends_directions)] }
def BoardBackSaid : Prop := boardBackRow.holds Tryz.pinned (OpenSpec.ofChange boardBackSpec)

/-- ITS FALSE NEIGHBOUR: 'it returns false'. Refute it at one input. -/
def boardBackWrong : ChangeSpec := { name := "boardBack", fn := fun _ => fun
  | [d1, d2, d3] => { results := [.lit (.bool false)], args := [d1, d2, d3] }
  | _ => none }
def BoardBackWrongFalsely : Prop := boardBackRow.holds Tryz.pinned (OpenSpec.ofChange boardBackWrong)

/-- 'gamehallkeep1.BoardKeys': WHATEVER THE INPUT: true; the input reads as it did. -/
def boardKeysSpec : ChangeSpec := { name := "boardKeys", fn := fun _ => fun
  | [d1, d2, d3] => { results := [.lit (.bool true)], args := [d1, d2, d3] }
  | _ => none }
def boardKeysRow : OpenClaim := { program := "ytiligppdfldlfaagreatdoor", sum := "fa4b1abd7eac810119a57c8f9ca8ce32093786a3eaa7c440969807a1f5a58e25", func := "gamehall/gamehallkeep1.BoardKeys", spec := "boardKeys", unfollowed := true, recurses := true, named := ["gamehall/ends.directions"], apart := false, laid := [("gamehall/ends.directions", laid_gamehall_ends_directions)] }
def BoardKeysSaid : Prop := boardKeysRow.holds Tryz.pinned (OpenSpec.ofChange boardKeysSpec)

/-- ITS FALSE NEIGHBOUR: 'it returns false'. Refute it at one input. -/
def boardKeysWrong : ChangeSpec := { name := "boardKeys", fn := fun _ => fun
  | [d1, d2, d3] => { results := [.lit (.bool false)], args := [d1, d2, d3] }
  | _ => none }
def BoardKeysWrongFalsely : Prop := boardKeysRow.holds Tryz.pinned (OpenSpec.ofChange boardKeysWrong)

/-- 'gamehalllaw1.BoardFollows': WHATEVER THE INPUT: true; the input reads as it did. -/
def boardFollowsSpec : ChangeSpec := { name := "boardFollows", fn := fun _ => fun
  | [d1, d2, d3] => { results := [.lit (.bool true)], args := [d1, d2, d3] }
  | _ => none }
def boardFollowsRow : OpenClaim := { program := "ytiligppdfldlfaagreatdoor", sum := "fa4b1abd7eac810119a57c8f9ca8ce32093786a3eaa7c440969807a1f5a58e25", func := "gamehall/gamehalllaw1.BoardFollows", spec := "boardFollows", unfollowed := true, recurses := true, named := ["gamehall/ends.directions"], apart := false, laid := [("gamehall/ends.directions", laid_gamehall_ends_directions)] }
def BoardFollowsSaid : Prop := boardFollowsRow.holds Tryz.pinned (OpenSpec.ofChange boardFollowsSpec)

/-- ITS FALSE NEIGHBOUR: 'it returns false'. Refute it at one input. -/
def boardFollowsWrong : ChangeSpec := { name := "boardFollows", fn := fun _ => fun
  | [d1, d2, d3] => { results := [.lit (.bool false)], args := [d1, d2, d3] }
  | _ => none }
def BoardFollowsWrongFalsely : Prop := boardFollowsRow.holds Tryz.pinned (OpenSpec.ofChange boardFollowsWrong)

/-- 'gamehalltop.TopHash': WHATEVER THE INPUT: true; the input reads as it did. -/
def topHashSpec : ChangeSpec := { name := "topHash", fn := fun _ => fun
  | [d1, d2, d3, d4] => { results := [.lit (.bool true)], args := [d1, d2, d3, d4] }
  | _ => none }
def topHashRow : OpenClaim := { program := "ytiligppdfldlfaagreatdoor", sum := "fa4b1abd7eac810119a57c8f9ca8ce32093786a3eaa7c440969807a1f5a58e25", func := "gamehall/gamehalltop.TopHash", spec := "topHash", unfollowed := true, recurses := true, named := ["gamehall/ends.directions"], apart := false, laid := [("gamehall/ends.directions", laid_gamehall_ends_directions)] }
def TopHashSaid : Prop := topHashRow.holds Tryz.pinned (OpenSpec.ofChange topHashSpec)

/-- ITS FALSE NEIGHBOUR: 'it returns false'. Refute it at one input. -/
def topHashWrong : ChangeSpec := { name := "topHash", fn := fun _ => fun
  | [d1, d2, d3, d4] => { results := [.lit (.bool false)], args := [d1, d2, d3, d4] }
  | _ => none }
def TopHashWrongFalsely : Prop := topHashRow.holds Tryz.pinned (OpenSpec.ofChange topHashWrong)

/- THE SECOND FORM. 'bulk': how many values and letters a reading holds, each counted each time it is reached (what is shared counts as often as it is met; a slice's spare places count too). A statement '..UptoSaid' is the law's where the arguments, and the package variables that the reading takes, are together of bulk at most 1048576: NARROWER than '..Said'. Prove '..Said' where nothing that the law and all that it calls make is longer than what came in: it says more and counts as full. Else prove '..UptoSaid'. A law counts once. -/
mutual
def uptoBulk {H : Type} : DataW H → Nat
  | .lit (.string bytes) => bytes.length + 1
  | .lit _ => 1
  | .nil => 1
  | .ptr d => uptoBulk d + 1
  | .slice elems spare => uptoBulkAll elems + uptoBulkAll spare + 1
  | .agg parts => uptoBulkAll parts + 1
  | .iface _ d => uptoBulk d + 1
  | .map entries => uptoBulkEntries entries + 1
  | .held _ => 1
def uptoBulkAll {H : Type} : List (DataW H) → Nat
  | [] => 0
  | d :: r => uptoBulk d + uptoBulkAll r
def uptoBulkEntries {H : Type} : List (Lit × DataW H) → Nat
  | [] => 0
  | x :: r => uptoBulkEntry x + uptoBulkEntries r
def uptoBulkEntry {H : Type} : Lit × DataW H → Nat
  | (.string bytes, d) => bytes.length + uptoBulk d + 1
  | (_, d) => uptoBulk d + 1
 end
def uptoSmall : (H : Type) → List (DataW H) → Bool := fun _ ds => decide (uptoBulkAll ds ≤ 1048576)
def OpenSpec.upto (s : _root_.Go.ChangeSpec) : _root_.Go.OpenSpec := { _root_.Go.OpenSpec.ofChange s with cond := some uptoSmall }

/-- 'gamehallkeep1.BoardBack', WHERE WHAT IT READS IS OF BULK AT MOST 1048576: true; the input reads as it did. -/
def boardBackUptoRow : OpenClaim := { program := "ytiligppdfldlfaagreatdoor", sum := "fa4b1abd7eac810119a57c8f9ca8ce32093786a3eaa7c440969807a1f5a58e25", func := "gamehall/gamehallkeep1.BoardBack", spec := "boardBack", unfollowed := true, recurses := true, named := ["gamehall/ends.directions"], apart := false, laid := [("gamehall/ends.directions", laid_gamehall_ends_directions)], narrowed := true }
def BoardBackUptoSaid : Prop := boardBackUptoRow.holds Tryz.pinned (OpenSpec.upto boardBackSpec)

/-- 'gamehallkeep1.BoardKeys', WHERE WHAT IT READS IS OF BULK AT MOST 1048576: true; the input reads as it did. -/
def boardKeysUptoRow : OpenClaim := { program := "ytiligppdfldlfaagreatdoor", sum := "fa4b1abd7eac810119a57c8f9ca8ce32093786a3eaa7c440969807a1f5a58e25", func := "gamehall/gamehallkeep1.BoardKeys", spec := "boardKeys", unfollowed := true, recurses := true, named := ["gamehall/ends.directions"], apart := false, laid := [("gamehall/ends.directions", laid_gamehall_ends_directions)], narrowed := true }
def BoardKeysUptoSaid : Prop := boardKeysUptoRow.holds Tryz.pinned (OpenSpec.upto boardKeysSpec)

/-- 'gamehalllaw1.BoardFollows', WHERE WHAT IT READS IS OF BULK AT MOST 1048576: true; the input reads as it did. -/
def boardFollowsUptoRow : OpenClaim := { program := "ytiligppdfldlfaagreatdoor", sum := "fa4b1abd7eac810119a57c8f9ca8ce32093786a3eaa7c440969807a1f5a58e25", func := "gamehall/gamehalllaw1.BoardFollows", spec := "boardFollows", unfollowed := true, recurses := true, named := ["gamehall/ends.directions"], apart := false, laid := [("gamehall/ends.directions", laid_gamehall_ends_directions)], narrowed := true }
def BoardFollowsUptoSaid : Prop := boardFollowsUptoRow.holds Tryz.pinned (OpenSpec.upto boardFollowsSpec)

/-- 'gamehalltop.TopHash', WHERE WHAT IT READS IS OF BULK AT MOST 1048576: true; the input reads as it did. -/
def topHashUptoRow : OpenClaim := { program := "ytiligppdfldlfaagreatdoor", sum := "fa4b1abd7eac810119a57c8f9ca8ce32093786a3eaa7c440969807a1f5a58e25", func := "gamehall/gamehalltop.TopHash", spec := "topHash", unfollowed := true, recurses := true, named := ["gamehall/ends.directions"], apart := false, laid := [("gamehall/ends.directions", laid_gamehall_ends_directions)], narrowed := true }
def TopHashUptoSaid : Prop := topHashUptoRow.holds Tryz.pinned (OpenSpec.upto topHashSpec)

end Rows
end Go.Proofs.YtiligppdfldlfaaGreatDoor
