/-
  NARROWER THAN 'FOR EVERY INPUT', by the rows' own cells (each row's printed sentence says how): EndsExchanged: laid · EndsOpen: laid · EndsOf: laid.
  DERIVED. THE GIVEN ROWS OF THIS SEAT. 3 by the template 'for every input the law returns true; each argument reads behind the call as it read before'; 0 by the template 'total and deterministic' (their statements: YtbiojjhgopnjeaaDoorTotals.lean).
  GIVEN WITH THE SEED: the statements are not yours to turn. If you find one false, say at which input.
  Laid BY PROGRAM, IN A SANDBOX (cutbox-rows.mjs): the forced cells as the released guide's own fill.sh prints them over the translation 21c612de35e4daac… (all of the seat's roots in one cut). By AI agents, Wed Nov 11 2026. No macro, syntax, notation, axiom, sorry.
-/
import Derived.Test.YtbiojjhgopnjeaaDoorChecked
import GoSem.Claim
import GoSem.ClaimJoined
import GoSem.ClaimMapViews
import Derived.JoinedTies
import Derived.KernelRfl
namespace Go.Proofs.YtbiojjhgopnjeaaDoor
/- THE CELL 'sum', in the pinned program and in every row, IS THE sha256 OF THE DUMP (.gsa) THAT YtbiojjhgopnjeaaDoorProg.lean LOADS. Nothing in Lean hashes anything: it is a label: what it is worth is what the hold of that sum in a sandbox is worth. -/
noncomputable def Tryd.pinned : Pinned := { name := "ytbiojjhgopnjeaadoor", sum := "21c612de35e4daac7aca5b936730d4307afd2d458ef402d66e87630f19592e61", checked := Tryd.checked }
namespace Rows
def none {H : Type} : Left H := { results := [], args := [] }

/- WHAT THE LISTED PACKAGE-LEVEL VARIABLES READ AS WHEN THE CALL BEGINS. Each datum BY PROGRAM (the guide's laid-datum.mjs) off the statement by which the dump's own 'gosem.cut.vars' lays the variable. In a bare row this is a premise. The card (YtbiojjhgopnjeaaDoorCards.lean) ties it to the program's text. -/
def laid_gamehall_ends_directions {H : Type} : DataW H := .agg [.agg [.lit (.int .i64 1), .lit (.int .i64 0)], .agg [.lit (.int .i64 0), .lit (.int .i64 1)], .agg [.lit (.int .i64 1), .lit (.int .i64 1)], .agg [.lit (.int .i64 1), .lit (.int .i64 (-1))]]

/-- 'gamehallkeep1.EndsExchanged': WHATEVER THE INPUT: true; the input reads as it did. -/
def endsExchangedSpec : ChangeSpec := { name := "endsExchanged", fn := fun _ => fun
  | [d1, d2] => { results := [.lit (.bool true)], args := [d1, d2] }
  | _ => none }
def endsExchangedRow : OpenClaim := { program := "ytbiojjhgopnjeaadoor", sum := "21c612de35e4daac7aca5b936730d4307afd2d458ef402d66e87630f19592e61", func := "gamehall/gamehallkeep1.EndsExchanged", spec := "endsExchanged", unfollowed := true, recurses := true, named := ["gamehall/ends.directions"], apart := false, laid := [("gamehall/ends.directions", laid_gamehall_ends_directions)] }
def EndsExchangedSaid : Prop := endsExchangedRow.holds Tryd.pinned (OpenSpec.ofChange endsExchangedSpec)

/-- ITS FALSE NEIGHBOUR: 'it returns false'. Refute it at one input. -/
def endsExchangedWrong : ChangeSpec := { name := "endsExchanged", fn := fun _ => fun
  | [d1, d2] => { results := [.lit (.bool false)], args := [d1, d2] }
  | _ => none }
def EndsExchangedWrongFalsely : Prop := endsExchangedRow.holds Tryd.pinned (OpenSpec.ofChange endsExchangedWrong)

/-- 'gamehallkeep1.EndsOpen': WHATEVER THE INPUT: true; the input reads as it did. -/
def endsOpenSpec : ChangeSpec := { name := "endsOpen", fn := fun _ => fun
  | [d1, d2] => { results := [.lit (.bool true)], args := [d1, d2] }
  | _ => none }
def endsOpenRow : OpenClaim := { program := "ytbiojjhgopnjeaadoor", sum := "21c612de35e4daac7aca5b936730d4307afd2d458ef402d66e87630f19592e61", func := "gamehall/gamehallkeep1.EndsOpen", spec := "endsOpen", unfollowed := true, recurses := true, named := ["gamehall/ends.directions"], apart := false, laid := [("gamehall/ends.directions", laid_gamehall_ends_directions)] }
def EndsOpenSaid : Prop := endsOpenRow.holds Tryd.pinned (OpenSpec.ofChange endsOpenSpec)

/-- ITS FALSE NEIGHBOUR: 'it returns false'. Refute it at one input. -/
def endsOpenWrong : ChangeSpec := { name := "endsOpen", fn := fun _ => fun
  | [d1, d2] => { results := [.lit (.bool false)], args := [d1, d2] }
  | _ => none }
def EndsOpenWrongFalsely : Prop := endsOpenRow.holds Tryd.pinned (OpenSpec.ofChange endsOpenWrong)

/-- 'gamehalllaw1.EndsOf': WHATEVER THE INPUT: true; the input reads as it did. -/
def endsOfSpec : ChangeSpec := { name := "endsOf", fn := fun _ => fun
  | [d1, d2] => { results := [.lit (.bool true)], args := [d1, d2] }
  | _ => none }
def endsOfRow : OpenClaim := { program := "ytbiojjhgopnjeaadoor", sum := "21c612de35e4daac7aca5b936730d4307afd2d458ef402d66e87630f19592e61", func := "gamehall/gamehalllaw1.EndsOf", spec := "endsOf", unfollowed := true, recurses := true, named := ["gamehall/ends.directions"], apart := false, laid := [("gamehall/ends.directions", laid_gamehall_ends_directions)] }
def EndsOfSaid : Prop := endsOfRow.holds Tryd.pinned (OpenSpec.ofChange endsOfSpec)

/-- ITS FALSE NEIGHBOUR: 'it returns false'. Refute it at one input. -/
def endsOfWrong : ChangeSpec := { name := "endsOf", fn := fun _ => fun
  | [d1, d2] => { results := [.lit (.bool false)], args := [d1, d2] }
  | _ => none }
def EndsOfWrongFalsely : Prop := endsOfRow.holds Tryd.pinned (OpenSpec.ofChange endsOfWrong)

/- THE SECOND FORM. 'bulk': how many values and letters a reading holds, each counted each time it is reached (what is shared counts as often as it is met; a slice's spare places count too). A statement '..UptoSaid' is the law's where the arguments, and the package variables that the reading takes, are together of bulk at most 1048576: NARROWER than '..Said'. Prove '..Said' where nothing that the law and all that it calls make is longer than what came in: it says more and counts as full. Else prove '..UptoSaid'. A law counts once. -/
mutual
def uptoBulk {H : Type} : DataW H → Nat
  | .lit (.string bytes) => bytes.length + 1
  | .lit _ => 1
  | .nil => 1
  | .ptr d => uptoBulk d + 1
  | .slice elems spare => uptoBulkAll elems + uptoBulkAll spare + 1
  | .agg parts => uptoBulkAll parts + 1
  | .iface _ d => uptoBulk d + 1
  | .map entries => uptoBulkEntries entries + 1
  | .held _ => 1
def uptoBulkAll {H : Type} : List (DataW H) → Nat
  | [] => 0
  | d :: r => uptoBulk d + uptoBulkAll r
def uptoBulkEntries {H : Type} : List (Lit × DataW H) → Nat
  | [] => 0
  | x :: r => uptoBulkEntry x + uptoBulkEntries r
def uptoBulkEntry {H : Type} : Lit × DataW H → Nat
  | (.string bytes, d) => bytes.length + uptoBulk d + 1
  | (_, d) => uptoBulk d + 1
 end
def uptoSmall : (H : Type) → List (DataW H) → Bool := fun _ ds => decide (uptoBulkAll ds ≤ 1048576)
def OpenSpec.upto (s : _root_.Go.ChangeSpec) : _root_.Go.OpenSpec := { _root_.Go.OpenSpec.ofChange s with cond := some uptoSmall }

/-- 'gamehallkeep1.EndsExchanged', WHERE WHAT IT READS IS OF BULK AT MOST 1048576: true; the input reads as it did. -/
def endsExchangedUptoRow : OpenClaim := { program := "ytbiojjhgopnjeaadoor", sum := "21c612de35e4daac7aca5b936730d4307afd2d458ef402d66e87630f19592e61", func := "gamehall/gamehallkeep1.EndsExchanged", spec := "endsExchanged", unfollowed := true, recurses := true, named := ["gamehall/ends.directions"], apart := false, laid := [("gamehall/ends.directions", laid_gamehall_ends_directions)], narrowed := true }
def EndsExchangedUptoSaid : Prop := endsExchangedUptoRow.holds Tryd.pinned (OpenSpec.upto endsExchangedSpec)

/-- 'gamehallkeep1.EndsOpen', WHERE WHAT IT READS IS OF BULK AT MOST 1048576: true; the input reads as it did. -/
def endsOpenUptoRow : OpenClaim := { program := "ytbiojjhgopnjeaadoor", sum := "21c612de35e4daac7aca5b936730d4307afd2d458ef402d66e87630f19592e61", func := "gamehall/gamehallkeep1.EndsOpen", spec := "endsOpen", unfollowed := true, recurses := true, named := ["gamehall/ends.directions"], apart := false, laid := [("gamehall/ends.directions", laid_gamehall_ends_directions)], narrowed := true }
def EndsOpenUptoSaid : Prop := endsOpenUptoRow.holds Tryd.pinned (OpenSpec.upto endsOpenSpec)

/-- 'gamehalllaw1.EndsOf', WHERE WHAT IT READS IS OF BULK AT MOST 1048576: true; the input reads as it did. -/
def endsOfUptoRow : OpenClaim := { program := "ytbiojjhgopnjeaadoor", sum := "21c612de35e4daac7aca5b936730d4307afd2d458ef402d66e87630f19592e61", func := "gamehall/gamehalllaw1.EndsOf", spec := "endsOf", unfollowed := true, recurses := true, named := ["gamehall/ends.directions"], apart := false, laid := [("gamehall/ends.directions", laid_gamehall_ends_directions)], narrowed := true }
def EndsOfUptoSaid : Prop := endsOfUptoRow.holds Tryd.pinned (OpenSpec.upto endsOfSpec)

end Rows
end Go.Proofs.YtbiojjhgopnjeaaDoor
