/-
  DERIVED. GIVEN WITH THE SEED: THE CARDS: each row of YtkficjpnflnjhaaGreatDoorRows.lean that lists a variable, with what it lists TIED to the program's text (the seventh form; the later family's looks); each row that meets fmt, with fmt's text TOLD by the authors' own Lean function (tested against real Go, not proved from fmt's source: count such statements apart). THE CARD IS WHAT COUNTS. Prove the row's statement (the work); the ties are given (YtkficjpnflnjhaaGreatDoorTie.lean); close each card by the builder's one call (the guide's Derived/Test/ToyasCard.lean, 'card_holds'). Laid BY PROGRAM, IN A SANDBOX (cutbox-door.mjs). By AI agents, Wed Nov 11 2026. No macro, syntax, notation, axiom, sorry.
-/
import Derived.Test.YtkficjpnflnjhaaGreatDoorRows
import GoSem.ClaimSeven
namespace Go.Proofs.YtkficjpnflnjhaaGreatDoor
namespace Rows

/-- THE TIED CARD OF 'gamehallkeep1.PlainReplays'. -/
def plainReplaysCard : Claim7 := { stood := { row := plainReplaysRow, standIns := [], harness := (true, "05dfee4434d7988cebc6c2db4f0f579a7ed5ab2a2607f81d005fa56c1500c982"), looks := false }, kinds := [], alts := [], laidByText := true, laidKinds := [.data], laidTests := true, laidLooks := .later }
def PlainReplaysCardSaid : Prop := Claim7.holds Tryz.pinned (.plain (OpenSpec.ofChange plainReplaysSpec)) plainReplaysCard

/-- THE TIED CARD OF 'gamehallkeep1.PlainRepeats'. -/
def plainRepeatsCard : Claim7 := { stood := { row := plainRepeatsRow, standIns := [], harness := (true, "05dfee4434d7988cebc6c2db4f0f579a7ed5ab2a2607f81d005fa56c1500c982"), looks := false }, kinds := [], alts := [], laidByText := true, laidKinds := [.data], laidTests := true, laidLooks := .later }
def PlainRepeatsCardSaid : Prop := Claim7.holds Tryz.pinned (.plain (OpenSpec.ofChange plainRepeatsSpec)) plainRepeatsCard

/-- THE TIED CARD OF 'gamehalllaw1.PlainRuns'. -/
def plainRunsCard : Claim7 := { stood := { row := plainRunsRow, standIns := [], harness := (true, "05dfee4434d7988cebc6c2db4f0f579a7ed5ab2a2607f81d005fa56c1500c982"), looks := false }, kinds := [], alts := [], laidByText := true, laidKinds := [.data], laidTests := true, laidLooks := .later }
def PlainRunsCardSaid : Prop := Claim7.holds Tryz.pinned (.plain (OpenSpec.ofChange plainRunsSpec)) plainRunsCard

/-- THE TIED CARD OF 'gamehalltop.TopUndo'. -/
def topUndoCard : Claim7 := { stood := { row := topUndoRow, standIns := [], harness := (true, "05dfee4434d7988cebc6c2db4f0f579a7ed5ab2a2607f81d005fa56c1500c982"), looks := false }, kinds := [], alts := [], laidByText := true, laidKinds := [.data], laidTests := true, laidLooks := .later }
def TopUndoCardSaid : Prop := Claim7.holds Tryz.pinned (.plain (OpenSpec.ofChange topUndoSpec)) topUndoCard

/-- THE SECOND FORM's CARD OF 'gamehallkeep1.PlainReplays'. -/
def plainReplaysUptoCard : Claim7 := { stood := { row := plainReplaysUptoRow, standIns := [], harness := (true, "05dfee4434d7988cebc6c2db4f0f579a7ed5ab2a2607f81d005fa56c1500c982"), looks := false }, kinds := [], alts := [], laidByText := true, laidKinds := [.data], laidTests := true, laidLooks := .later }
def PlainReplaysUptoCardSaid : Prop := Claim7.holds Tryz.pinned (.plain (OpenSpec.upto plainReplaysSpec)) plainReplaysUptoCard

/-- THE SECOND FORM's CARD OF 'gamehallkeep1.PlainRepeats'. -/
def plainRepeatsUptoCard : Claim7 := { stood := { row := plainRepeatsUptoRow, standIns := [], harness := (true, "05dfee4434d7988cebc6c2db4f0f579a7ed5ab2a2607f81d005fa56c1500c982"), looks := false }, kinds := [], alts := [], laidByText := true, laidKinds := [.data], laidTests := true, laidLooks := .later }
def PlainRepeatsUptoCardSaid : Prop := Claim7.holds Tryz.pinned (.plain (OpenSpec.upto plainRepeatsSpec)) plainRepeatsUptoCard

/-- THE SECOND FORM's CARD OF 'gamehalllaw1.PlainRuns'. -/
def plainRunsUptoCard : Claim7 := { stood := { row := plainRunsUptoRow, standIns := [], harness := (true, "05dfee4434d7988cebc6c2db4f0f579a7ed5ab2a2607f81d005fa56c1500c982"), looks := false }, kinds := [], alts := [], laidByText := true, laidKinds := [.data], laidTests := true, laidLooks := .later }
def PlainRunsUptoCardSaid : Prop := Claim7.holds Tryz.pinned (.plain (OpenSpec.upto plainRunsSpec)) plainRunsUptoCard

/-- THE SECOND FORM's CARD OF 'gamehalltop.TopUndo'. -/
def topUndoUptoCard : Claim7 := { stood := { row := topUndoUptoRow, standIns := [], harness := (true, "05dfee4434d7988cebc6c2db4f0f579a7ed5ab2a2607f81d005fa56c1500c982"), looks := false }, kinds := [], alts := [], laidByText := true, laidKinds := [.data], laidTests := true, laidLooks := .later }
def TopUndoUptoCardSaid : Prop := Claim7.holds Tryz.pinned (.plain (OpenSpec.upto topUndoSpec)) topUndoUptoCard
end Rows
end Go.Proofs.YtkficjpnflnjhaaGreatDoor
