/-
  DERIVED. GIVEN WITH THE SEED: THE CARDS: each row of YtdhhdkbnlddnbaaGreatDoorRows.lean that lists a variable, with what it lists TIED to the program's text (the seventh form; the later family's looks); each row that meets fmt, with fmt's text TOLD by the authors' own Lean function (tested against real Go, not proved from fmt's source: count such statements apart). THE CARD IS WHAT COUNTS. Prove the row's statement (the work); the ties are given (YtdhhdkbnlddnbaaGreatDoorTie.lean); close each card by the builder's one call (the guide's Derived/Test/ToyasCard.lean, 'card_holds'). Laid BY PROGRAM, IN A SANDBOX (cutbox-door.mjs). By AI agents, Wed Nov 11 2026. No macro, syntax, notation, axiom, sorry.
-/
import Derived.Test.YtdhhdkbnlddnbaaGreatDoorRows
import GoSem.ClaimSeven
namespace Go.Proofs.YtdhhdkbnlddnbaaGreatDoor
namespace Rows

/-- THE TIED CARD OF 'gamehallkeep1.PerftParts'. -/
def perftPartsCard : Claim7 := { stood := { row := perftPartsRow, standIns := [], harness := (true, "d70c6359c0f93084ec585be2d594d1afb065fb4ae54ef3e04f62add185ae970d"), looks := false }, kinds := [], alts := [], laidByText := true, laidKinds := [.data], laidTests := true, laidLooks := .later }
def PerftPartsCardSaid : Prop := Claim7.holds Tryz.pinned (.plain (OpenSpec.ofChange perftPartsSpec)) perftPartsCard

/-- THE TIED CARD OF 'gamehallkeep1.PerftAfter'. -/
def perftAfterCard : Claim7 := { stood := { row := perftAfterRow, standIns := [], harness := (true, "d70c6359c0f93084ec585be2d594d1afb065fb4ae54ef3e04f62add185ae970d"), looks := false }, kinds := [], alts := [], laidByText := true, laidKinds := [.data], laidTests := true, laidLooks := .later }
def PerftAfterCardSaid : Prop := Claim7.holds Tryz.pinned (.plain (OpenSpec.ofChange perftAfterSpec)) perftAfterCard

/-- THE TIED CARD OF 'gamehalllaw1.PerftCounts'. -/
def perftCountsCard : Claim7 := { stood := { row := perftCountsRow, standIns := [], harness := (true, "d70c6359c0f93084ec585be2d594d1afb065fb4ae54ef3e04f62add185ae970d"), looks := false }, kinds := [], alts := [], laidByText := true, laidKinds := [.data], laidTests := true, laidLooks := .later }
def PerftCountsCardSaid : Prop := Claim7.holds Tryz.pinned (.plain (OpenSpec.ofChange perftCountsSpec)) perftCountsCard

/-- THE SECOND FORM's CARD OF 'gamehallkeep1.PerftParts'. -/
def perftPartsUptoCard : Claim7 := { stood := { row := perftPartsUptoRow, standIns := [], harness := (true, "d70c6359c0f93084ec585be2d594d1afb065fb4ae54ef3e04f62add185ae970d"), looks := false }, kinds := [], alts := [], laidByText := true, laidKinds := [.data], laidTests := true, laidLooks := .later }
def PerftPartsUptoCardSaid : Prop := Claim7.holds Tryz.pinned (.plain (OpenSpec.upto perftPartsSpec)) perftPartsUptoCard

/-- THE SECOND FORM's CARD OF 'gamehallkeep1.PerftAfter'. -/
def perftAfterUptoCard : Claim7 := { stood := { row := perftAfterUptoRow, standIns := [], harness := (true, "d70c6359c0f93084ec585be2d594d1afb065fb4ae54ef3e04f62add185ae970d"), looks := false }, kinds := [], alts := [], laidByText := true, laidKinds := [.data], laidTests := true, laidLooks := .later }
def PerftAfterUptoCardSaid : Prop := Claim7.holds Tryz.pinned (.plain (OpenSpec.upto perftAfterSpec)) perftAfterUptoCard

/-- THE SECOND FORM's CARD OF 'gamehalllaw1.PerftCounts'. -/
def perftCountsUptoCard : Claim7 := { stood := { row := perftCountsUptoRow, standIns := [], harness := (true, "d70c6359c0f93084ec585be2d594d1afb065fb4ae54ef3e04f62add185ae970d"), looks := false }, kinds := [], alts := [], laidByText := true, laidKinds := [.data], laidTests := true, laidLooks := .later }
def PerftCountsUptoCardSaid : Prop := Claim7.holds Tryz.pinned (.plain (OpenSpec.upto perftCountsSpec)) perftCountsUptoCard
end Rows
end Go.Proofs.YtdhhdkbnlddnbaaGreatDoor
