/-
  DERIVED. GIVEN WITH THE SEED: THE CARDS: each row of YtbiojjhgopnjeaaDoorRows.lean that lists a variable, with what it lists TIED to the program's text (the seventh form; the later family's looks); each row that meets fmt, with fmt's text TOLD by the authors' own Lean function (tested against real Go, not proved from fmt's source: count such statements apart). THE CARD IS WHAT COUNTS. Prove the row's statement (the work); the ties are given (YtbiojjhgopnjeaaDoorTie.lean); close each card by the builder's one call (the guide's Derived/Test/ToyasCard.lean, 'card_holds'). Laid BY PROGRAM, IN A SANDBOX (cutbox-door.mjs). By AI agents, Wed Nov 11 2026. No macro, syntax, notation, axiom, sorry.
-/
import Derived.Test.YtbiojjhgopnjeaaDoorRows
import GoSem.ClaimSeven
namespace Go.Proofs.YtbiojjhgopnjeaaDoor
namespace Rows

/-- THE TIED CARD OF 'gamehallkeep1.EndsExchanged'. -/
def endsExchangedCard : Claim7 := { stood := { row := endsExchangedRow, standIns := [], harness := (true, "4783fee615f2680a781a2786262aa09aabd281d959e3d0206f5314183930ce37"), looks := false }, kinds := [], alts := [], laidByText := true, laidKinds := [.data], laidTests := true, laidLooks := .later }
def EndsExchangedCardSaid : Prop := Claim7.holds Tryd.pinned (.plain (OpenSpec.ofChange endsExchangedSpec)) endsExchangedCard

/-- THE TIED CARD OF 'gamehallkeep1.EndsOpen'. -/
def endsOpenCard : Claim7 := { stood := { row := endsOpenRow, standIns := [], harness := (true, "4783fee615f2680a781a2786262aa09aabd281d959e3d0206f5314183930ce37"), looks := false }, kinds := [], alts := [], laidByText := true, laidKinds := [.data], laidTests := true, laidLooks := .later }
def EndsOpenCardSaid : Prop := Claim7.holds Tryd.pinned (.plain (OpenSpec.ofChange endsOpenSpec)) endsOpenCard

/-- THE TIED CARD OF 'gamehalllaw1.EndsOf'. -/
def endsOfCard : Claim7 := { stood := { row := endsOfRow, standIns := [], harness := (true, "4783fee615f2680a781a2786262aa09aabd281d959e3d0206f5314183930ce37"), looks := false }, kinds := [], alts := [], laidByText := true, laidKinds := [.data], laidTests := true, laidLooks := .later }
def EndsOfCardSaid : Prop := Claim7.holds Tryd.pinned (.plain (OpenSpec.ofChange endsOfSpec)) endsOfCard

/-- THE SECOND FORM's CARD OF 'gamehallkeep1.EndsExchanged'. -/
def endsExchangedUptoCard : Claim7 := { stood := { row := endsExchangedUptoRow, standIns := [], harness := (true, "4783fee615f2680a781a2786262aa09aabd281d959e3d0206f5314183930ce37"), looks := false }, kinds := [], alts := [], laidByText := true, laidKinds := [.data], laidTests := true, laidLooks := .later }
def EndsExchangedUptoCardSaid : Prop := Claim7.holds Tryd.pinned (.plain (OpenSpec.upto endsExchangedSpec)) endsExchangedUptoCard

/-- THE SECOND FORM's CARD OF 'gamehallkeep1.EndsOpen'. -/
def endsOpenUptoCard : Claim7 := { stood := { row := endsOpenUptoRow, standIns := [], harness := (true, "4783fee615f2680a781a2786262aa09aabd281d959e3d0206f5314183930ce37"), looks := false }, kinds := [], alts := [], laidByText := true, laidKinds := [.data], laidTests := true, laidLooks := .later }
def EndsOpenUptoCardSaid : Prop := Claim7.holds Tryd.pinned (.plain (OpenSpec.upto endsOpenSpec)) endsOpenUptoCard

/-- THE SECOND FORM's CARD OF 'gamehalllaw1.EndsOf'. -/
def endsOfUptoCard : Claim7 := { stood := { row := endsOfUptoRow, standIns := [], harness := (true, "4783fee615f2680a781a2786262aa09aabd281d959e3d0206f5314183930ce37"), looks := false }, kinds := [], alts := [], laidByText := true, laidKinds := [.data], laidTests := true, laidLooks := .later }
def EndsOfUptoCardSaid : Prop := Claim7.holds Tryd.pinned (.plain (OpenSpec.upto endsOfSpec)) endsOfUptoCard
end Rows
end Go.Proofs.YtbiojjhgopnjeaaDoor
