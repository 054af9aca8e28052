/-
  No cell of these rows narrows 'for every input' (looked for: loops, veiled, ifaces, maps, wideKeys, modest, calm, conditions, laid).
  DERIVED. THE GIVEN ROWS OF THIS SEAT. 4 by the template 'for every input the law returns true; each argument reads behind the call as it read before'; 0 by the template 'total and deterministic' (their statements: YtffnnpjgfjkmjaaTotals.lean).
  GIVEN WITH THE SEED: the statements are not yours to turn. If you find one false, say at which input.
  Laid BY PROGRAM, IN A SANDBOX (cutbox-rows.mjs): the forced cells as the released guide's own fill.sh prints them over the translation df2a7166d4a8d5ac… (all of the seat's roots in one cut). By AI agents, Wed Nov 11 2026. No macro, syntax, notation, axiom, sorry.
-/
import Derived.Test.YtffnnpjgfjkmjaaChecked
import GoSem.Claim
import GoSem.ClaimJoined
import GoSem.ClaimMapViews
import Derived.JoinedTies
import Derived.KernelRfl
namespace Go.Proofs.Ytffnnpjgfjkmjaa
/- THE CELL 'sum', in the pinned program and in every row, IS THE sha256 OF THE DUMP (.gsa) THAT YtffnnpjgfjkmjaaProg.lean LOADS. Nothing in Lean hashes anything: it is a label: what it is worth is what the hold of that sum in a sandbox is worth. -/
noncomputable def Try.pinned : Pinned := { name := "ytffnnpjgfjkmjaa", sum := "df2a7166d4a8d5acf88f3d63cf45f62493e720acc087723717d41372c7fb0131", checked := Try.checked }
namespace Rows
def none {H : Type} : Left H := { results := [], args := [] }

/-- 'gamehallkeep1.BitsThere': WHATEVER THE INPUT: true; the input reads as it did. -/
def bitsThereSpec : ChangeSpec := { name := "bitsThere", fn := fun _ => fun
  | [d1, d2, d3] => { results := [.lit (.bool true)], args := [d1, d2, d3] }
  | _ => none }
def bitsThereRow : OpenClaim := { program := "ytffnnpjgfjkmjaa", sum := "df2a7166d4a8d5acf88f3d63cf45f62493e720acc087723717d41372c7fb0131", func := "gamehall/gamehallkeep1.BitsThere", spec := "bitsThere", apart := false }
def BitsThereSaid : Prop := bitsThereRow.holds Try.pinned (OpenSpec.ofChange bitsThereSpec)

/-- ITS FALSE NEIGHBOUR: 'it returns false'. Refute it at one input. -/
def bitsThereWrong : ChangeSpec := { name := "bitsThere", fn := fun _ => fun
  | [d1, d2, d3] => { results := [.lit (.bool false)], args := [d1, d2, d3] }
  | _ => none }
def BitsThereWrongFalsely : Prop := bitsThereRow.holds Try.pinned (OpenSpec.ofChange bitsThereWrong)

/-- 'gamehallkeep1.BitsRays': WHATEVER THE INPUT: true; the input reads as it did. -/
def bitsRaysSpec : ChangeSpec := { name := "bitsRays", fn := fun _ => fun
  | [d1, d2, d3, d4, d5] => { results := [.lit (.bool true)], args := [d1, d2, d3, d4, d5] }
  | _ => none }
def bitsRaysRow : OpenClaim := { program := "ytffnnpjgfjkmjaa", sum := "df2a7166d4a8d5acf88f3d63cf45f62493e720acc087723717d41372c7fb0131", func := "gamehall/gamehallkeep1.BitsRays", spec := "bitsRays", apart := false }
def BitsRaysSaid : Prop := bitsRaysRow.holds Try.pinned (OpenSpec.ofChange bitsRaysSpec)

/-- ITS FALSE NEIGHBOUR: 'it returns false'. Refute it at one input. -/
def bitsRaysWrong : ChangeSpec := { name := "bitsRays", fn := fun _ => fun
  | [d1, d2, d3, d4, d5] => { results := [.lit (.bool false)], args := [d1, d2, d3, d4, d5] }
  | _ => none }
def BitsRaysWrongFalsely : Prop := bitsRaysRow.holds Try.pinned (OpenSpec.ofChange bitsRaysWrong)

/-- 'gamehallkeep1.BitsSubsets': WHATEVER THE INPUT: true; the input reads as it did. -/
def bitsSubsetsSpec : ChangeSpec := { name := "bitsSubsets", fn := fun _ => fun
  | [d] => { results := [.lit (.bool true)], args := [d] }
  | _ => none }
def bitsSubsetsRow : OpenClaim := { program := "ytffnnpjgfjkmjaa", sum := "df2a7166d4a8d5acf88f3d63cf45f62493e720acc087723717d41372c7fb0131", func := "gamehall/gamehallkeep1.BitsSubsets", spec := "bitsSubsets", unfollowed := true, recurses := true, apart := false }
def BitsSubsetsSaid : Prop := bitsSubsetsRow.holds Try.pinned (OpenSpec.ofChange bitsSubsetsSpec)

/-- ITS FALSE NEIGHBOUR: 'it returns false'. Refute it at one input. -/
def bitsSubsetsWrong : ChangeSpec := { name := "bitsSubsets", fn := fun _ => fun
  | [d] => { results := [.lit (.bool false)], args := [d] }
  | _ => none }
def BitsSubsetsWrongFalsely : Prop := bitsSubsetsRow.holds Try.pinned (OpenSpec.ofChange bitsSubsetsWrong)

/-- 'gamehalllaw1.BitsShifts': WHATEVER THE INPUT: true; the input reads as it did. -/
def bitsShiftsSpec : ChangeSpec := { name := "bitsShifts", fn := fun _ => fun
  | [d1, d2, d3, d4] => { results := [.lit (.bool true)], args := [d1, d2, d3, d4] }
  | _ => none }
def bitsShiftsRow : OpenClaim := { program := "ytffnnpjgfjkmjaa", sum := "df2a7166d4a8d5acf88f3d63cf45f62493e720acc087723717d41372c7fb0131", func := "gamehall/gamehalllaw1.BitsShifts", spec := "bitsShifts", apart := false }
def BitsShiftsSaid : Prop := bitsShiftsRow.holds Try.pinned (OpenSpec.ofChange bitsShiftsSpec)

/-- ITS FALSE NEIGHBOUR: 'it returns false'. Refute it at one input. -/
def bitsShiftsWrong : ChangeSpec := { name := "bitsShifts", fn := fun _ => fun
  | [d1, d2, d3, d4] => { results := [.lit (.bool false)], args := [d1, d2, d3, d4] }
  | _ => none }
def BitsShiftsWrongFalsely : Prop := bitsShiftsRow.holds Try.pinned (OpenSpec.ofChange bitsShiftsWrong)

/- THE SECOND FORM. 'bulk': how many values and letters a reading holds, each counted each time it is reached (what is shared counts as often as it is met; a slice's spare places count too). A statement '..UptoSaid' is the law's where the arguments, and the package variables that the reading takes, are together of bulk at most 1048576: NARROWER than '..Said'. Prove '..Said' where nothing that the law and all that it calls make is longer than what came in: it says more and counts as full. Else prove '..UptoSaid'. A law counts once. -/
mutual
def uptoBulk {H : Type} : DataW H → Nat
  | .lit (.string bytes) => bytes.length + 1
  | .lit _ => 1
  | .nil => 1
  | .ptr d => uptoBulk d + 1
  | .slice elems spare => uptoBulkAll elems + uptoBulkAll spare + 1
  | .agg parts => uptoBulkAll parts + 1
  | .iface _ d => uptoBulk d + 1
  | .map entries => uptoBulkEntries entries + 1
  | .held _ => 1
def uptoBulkAll {H : Type} : List (DataW H) → Nat
  | [] => 0
  | d :: r => uptoBulk d + uptoBulkAll r
def uptoBulkEntries {H : Type} : List (Lit × DataW H) → Nat
  | [] => 0
  | x :: r => uptoBulkEntry x + uptoBulkEntries r
def uptoBulkEntry {H : Type} : Lit × DataW H → Nat
  | (.string bytes, d) => bytes.length + uptoBulk d + 1
  | (_, d) => uptoBulk d + 1
 end
def uptoSmall : (H : Type) → List (DataW H) → Bool := fun _ ds => decide (uptoBulkAll ds ≤ 1048576)
def OpenSpec.upto (s : _root_.Go.ChangeSpec) : _root_.Go.OpenSpec := { _root_.Go.OpenSpec.ofChange s with cond := some uptoSmall }

/-- 'gamehallkeep1.BitsThere', WHERE WHAT IT READS IS OF BULK AT MOST 1048576: true; the input reads as it did. -/
def bitsThereUptoRow : OpenClaim := { program := "ytffnnpjgfjkmjaa", sum := "df2a7166d4a8d5acf88f3d63cf45f62493e720acc087723717d41372c7fb0131", func := "gamehall/gamehallkeep1.BitsThere", spec := "bitsThere", apart := false, narrowed := true }
def BitsThereUptoSaid : Prop := bitsThereUptoRow.holds Try.pinned (OpenSpec.upto bitsThereSpec)

/-- 'gamehallkeep1.BitsRays', WHERE WHAT IT READS IS OF BULK AT MOST 1048576: true; the input reads as it did. -/
def bitsRaysUptoRow : OpenClaim := { program := "ytffnnpjgfjkmjaa", sum := "df2a7166d4a8d5acf88f3d63cf45f62493e720acc087723717d41372c7fb0131", func := "gamehall/gamehallkeep1.BitsRays", spec := "bitsRays", apart := false, narrowed := true }
def BitsRaysUptoSaid : Prop := bitsRaysUptoRow.holds Try.pinned (OpenSpec.upto bitsRaysSpec)

/-- 'gamehallkeep1.BitsSubsets', WHERE WHAT IT READS IS OF BULK AT MOST 1048576: true; the input reads as it did. -/
def bitsSubsetsUptoRow : OpenClaim := { program := "ytffnnpjgfjkmjaa", sum := "df2a7166d4a8d5acf88f3d63cf45f62493e720acc087723717d41372c7fb0131", func := "gamehall/gamehallkeep1.BitsSubsets", spec := "bitsSubsets", unfollowed := true, recurses := true, apart := false, narrowed := true }
def BitsSubsetsUptoSaid : Prop := bitsSubsetsUptoRow.holds Try.pinned (OpenSpec.upto bitsSubsetsSpec)

/-- 'gamehalllaw1.BitsShifts', WHERE WHAT IT READS IS OF BULK AT MOST 1048576: true; the input reads as it did. -/
def bitsShiftsUptoRow : OpenClaim := { program := "ytffnnpjgfjkmjaa", sum := "df2a7166d4a8d5acf88f3d63cf45f62493e720acc087723717d41372c7fb0131", func := "gamehall/gamehalllaw1.BitsShifts", spec := "bitsShifts", apart := false, narrowed := true }
def BitsShiftsUptoSaid : Prop := bitsShiftsUptoRow.holds Try.pinned (OpenSpec.upto bitsShiftsSpec)

end Rows
end Go.Proofs.Ytffnnpjgfjkmjaa
