/-
  No cell of these rows narrows 'for every input' (looked for: loops, veiled, ifaces, maps, wideKeys, modest, calm, conditions, laid).
  DERIVED. THE GIVEN ROWS OF THIS SEAT. 3 by the template 'for every input the law returns true; each argument reads behind the call as it read before'; 0 by the template 'total and deterministic' (their statements: YtlnapegbhfphgaaTotals.lean).
  GIVEN WITH THE SEED: the statements are not yours to turn. If you find one false, say at which input.
  Laid BY PROGRAM, IN A SANDBOX (cutbox-rows.mjs): the forced cells as the released guide's own fill.sh prints them over the translation 76bf358294435c08… (all of the seat's roots in one cut). By AI agents, Wed Nov 11 2026. No macro, syntax, notation, axiom, sorry.
-/
import Derived.Test.YtlnapegbhfphgaaChecked
import GoSem.Claim
import GoSem.ClaimJoined
import GoSem.ClaimMapViews
import Derived.JoinedTies
import Derived.KernelRfl
namespace Go.Proofs.Ytlnapegbhfphgaa
/- THE CELL 'sum', in the pinned program and in every row, IS THE sha256 OF THE DUMP (.gsa) THAT YtlnapegbhfphgaaProg.lean LOADS. Nothing in Lean hashes anything: it is a label: what it is worth is what the hold of that sum in a sandbox is worth. -/
noncomputable def Try.pinned : Pinned := { name := "ytlnapegbhfphgaa", sum := "76bf358294435c08bee6ccb31ad42cc6e789cc2fe6458fcc42aed0e999fce9df", checked := Try.checked }
namespace Rows
def none {H : Type} : Left H := { results := [], args := [] }

/-- 'gamehallkeep1.ZobChanges': WHATEVER THE INPUT: true; the input reads as it did. -/
def zobChangesSpec : ChangeSpec := { name := "zobChanges", fn := fun _ => fun
  | [d1, d2, d3] => { results := [.lit (.bool true)], args := [d1, d2, d3] }
  | _ => none }
def zobChangesRow : OpenClaim := { program := "ytlnapegbhfphgaa", sum := "76bf358294435c08bee6ccb31ad42cc6e789cc2fe6458fcc42aed0e999fce9df", func := "gamehall/gamehallkeep1.ZobChanges", spec := "zobChanges", unfollowed := true, recurses := true, apart := false }
def ZobChangesSaid : Prop := zobChangesRow.holds Try.pinned (OpenSpec.ofChange zobChangesSpec)

/-- ITS FALSE NEIGHBOUR: 'it returns false'. Refute it at one input. -/
def zobChangesWrong : ChangeSpec := { name := "zobChanges", fn := fun _ => fun
  | [d1, d2, d3] => { results := [.lit (.bool false)], args := [d1, d2, d3] }
  | _ => none }
def ZobChangesWrongFalsely : Prop := zobChangesRow.holds Try.pinned (OpenSpec.ofChange zobChangesWrong)

/-- 'gamehallkeep1.ZobQuiet': WHATEVER THE INPUT: true; the input reads as it did. -/
def zobQuietSpec : ChangeSpec := { name := "zobQuiet", fn := fun _ => fun
  | [d1, d2] => { results := [.lit (.bool true)], args := [d1, d2] }
  | _ => none }
def zobQuietRow : OpenClaim := { program := "ytlnapegbhfphgaa", sum := "76bf358294435c08bee6ccb31ad42cc6e789cc2fe6458fcc42aed0e999fce9df", func := "gamehall/gamehallkeep1.ZobQuiet", spec := "zobQuiet", unfollowed := true, recurses := true, apart := false }
def ZobQuietSaid : Prop := zobQuietRow.holds Try.pinned (OpenSpec.ofChange zobQuietSpec)

/-- ITS FALSE NEIGHBOUR: 'it returns false'. Refute it at one input. -/
def zobQuietWrong : ChangeSpec := { name := "zobQuiet", fn := fun _ => fun
  | [d1, d2] => { results := [.lit (.bool false)], args := [d1, d2] }
  | _ => none }
def ZobQuietWrongFalsely : Prop := zobQuietRow.holds Try.pinned (OpenSpec.ofChange zobQuietWrong)

/-- 'gamehalllaw1.ZobKeys': WHATEVER THE INPUT: true; the input reads as it did. -/
def zobKeysSpec : ChangeSpec := { name := "zobKeys", fn := fun _ => fun
  | [d1, d2, d3, d4] => { results := [.lit (.bool true)], args := [d1, d2, d3, d4] }
  | _ => none }
def zobKeysRow : OpenClaim := { program := "ytlnapegbhfphgaa", sum := "76bf358294435c08bee6ccb31ad42cc6e789cc2fe6458fcc42aed0e999fce9df", func := "gamehall/gamehalllaw1.ZobKeys", spec := "zobKeys", unfollowed := true, recurses := true, apart := false }
def ZobKeysSaid : Prop := zobKeysRow.holds Try.pinned (OpenSpec.ofChange zobKeysSpec)

/-- ITS FALSE NEIGHBOUR: 'it returns false'. Refute it at one input. -/
def zobKeysWrong : ChangeSpec := { name := "zobKeys", fn := fun _ => fun
  | [d1, d2, d3, d4] => { results := [.lit (.bool false)], args := [d1, d2, d3, d4] }
  | _ => none }
def ZobKeysWrongFalsely : Prop := zobKeysRow.holds Try.pinned (OpenSpec.ofChange zobKeysWrong)

/- THE SECOND FORM. 'bulk': how many values and letters a reading holds, each counted each time it is reached (what is shared counts as often as it is met; a slice's spare places count too). A statement '..UptoSaid' is the law's where the arguments, and the package variables that the reading takes, are together of bulk at most 1048576: NARROWER than '..Said'. Prove '..Said' where nothing that the law and all that it calls make is longer than what came in: it says more and counts as full. Else prove '..UptoSaid'. A law counts once. -/
mutual
def uptoBulk {H : Type} : DataW H → Nat
  | .lit (.string bytes) => bytes.length + 1
  | .lit _ => 1
  | .nil => 1
  | .ptr d => uptoBulk d + 1
  | .slice elems spare => uptoBulkAll elems + uptoBulkAll spare + 1
  | .agg parts => uptoBulkAll parts + 1
  | .iface _ d => uptoBulk d + 1
  | .map entries => uptoBulkEntries entries + 1
  | .held _ => 1
def uptoBulkAll {H : Type} : List (DataW H) → Nat
  | [] => 0
  | d :: r => uptoBulk d + uptoBulkAll r
def uptoBulkEntries {H : Type} : List (Lit × DataW H) → Nat
  | [] => 0
  | x :: r => uptoBulkEntry x + uptoBulkEntries r
def uptoBulkEntry {H : Type} : Lit × DataW H → Nat
  | (.string bytes, d) => bytes.length + uptoBulk d + 1
  | (_, d) => uptoBulk d + 1
 end
def uptoSmall : (H : Type) → List (DataW H) → Bool := fun _ ds => decide (uptoBulkAll ds ≤ 1048576)
def OpenSpec.upto (s : _root_.Go.ChangeSpec) : _root_.Go.OpenSpec := { _root_.Go.OpenSpec.ofChange s with cond := some uptoSmall }

/-- 'gamehallkeep1.ZobChanges', WHERE WHAT IT READS IS OF BULK AT MOST 1048576: true; the input reads as it did. -/
def zobChangesUptoRow : OpenClaim := { program := "ytlnapegbhfphgaa", sum := "76bf358294435c08bee6ccb31ad42cc6e789cc2fe6458fcc42aed0e999fce9df", func := "gamehall/gamehallkeep1.ZobChanges", spec := "zobChanges", unfollowed := true, recurses := true, apart := false, narrowed := true }
def ZobChangesUptoSaid : Prop := zobChangesUptoRow.holds Try.pinned (OpenSpec.upto zobChangesSpec)

/-- 'gamehallkeep1.ZobQuiet', WHERE WHAT IT READS IS OF BULK AT MOST 1048576: true; the input reads as it did. -/
def zobQuietUptoRow : OpenClaim := { program := "ytlnapegbhfphgaa", sum := "76bf358294435c08bee6ccb31ad42cc6e789cc2fe6458fcc42aed0e999fce9df", func := "gamehall/gamehallkeep1.ZobQuiet", spec := "zobQuiet", unfollowed := true, recurses := true, apart := false, narrowed := true }
def ZobQuietUptoSaid : Prop := zobQuietUptoRow.holds Try.pinned (OpenSpec.upto zobQuietSpec)

/-- 'gamehalllaw1.ZobKeys', WHERE WHAT IT READS IS OF BULK AT MOST 1048576: true; the input reads as it did. -/
def zobKeysUptoRow : OpenClaim := { program := "ytlnapegbhfphgaa", sum := "76bf358294435c08bee6ccb31ad42cc6e789cc2fe6458fcc42aed0e999fce9df", func := "gamehall/gamehalllaw1.ZobKeys", spec := "zobKeys", unfollowed := true, recurses := true, apart := false, narrowed := true }
def ZobKeysUptoSaid : Prop := zobKeysUptoRow.holds Try.pinned (OpenSpec.upto zobKeysSpec)

end Rows
end Go.Proofs.Ytlnapegbhfphgaa
