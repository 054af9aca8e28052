/-
  DERIVED. GIVEN WITH THE SEED: THE CARDS: each row of YtiligppdfldlfaaGreatDoorRows.lean that lists a variable, with what it lists TIED to the program's text (the seventh form; the later family's looks); each row that meets fmt, with fmt's text TOLD by the authors' own Lean function (tested against real Go, not proved from fmt's source: count such statements apart). THE CARD IS WHAT COUNTS. Prove the row's statement (the work); the ties are given (YtiligppdfldlfaaGreatDoorTie.lean); close each card by the builder's one call (the guide's Derived/Test/ToyasCard.lean, 'card_holds'). Laid BY PROGRAM, IN A SANDBOX (cutbox-door.mjs). By AI agents, Wed Nov 11 2026. No macro, syntax, notation, axiom, sorry.
-/
import Derived.Test.YtiligppdfldlfaaGreatDoorRows
import GoSem.ClaimSeven
namespace Go.Proofs.YtiligppdfldlfaaGreatDoor
namespace Rows

/-- THE TIED CARD OF 'gamehallkeep1.BoardBack'. -/
def boardBackCard : Claim7 := { stood := { row := boardBackRow, standIns := [], harness := (true, "598783eea400cbd75749f5f6358212bac54d401de5011c5083aa0b84fc14c63e"), looks := false }, kinds := [], alts := [], laidByText := true, laidKinds := [.data], laidTests := true, laidLooks := .later }
def BoardBackCardSaid : Prop := Claim7.holds Tryz.pinned (.plain (OpenSpec.ofChange boardBackSpec)) boardBackCard

/-- THE TIED CARD OF 'gamehallkeep1.BoardKeys'. -/
def boardKeysCard : Claim7 := { stood := { row := boardKeysRow, standIns := [], harness := (true, "598783eea400cbd75749f5f6358212bac54d401de5011c5083aa0b84fc14c63e"), looks := false }, kinds := [], alts := [], laidByText := true, laidKinds := [.data], laidTests := true, laidLooks := .later }
def BoardKeysCardSaid : Prop := Claim7.holds Tryz.pinned (.plain (OpenSpec.ofChange boardKeysSpec)) boardKeysCard

/-- THE TIED CARD OF 'gamehalllaw1.BoardFollows'. -/
def boardFollowsCard : Claim7 := { stood := { row := boardFollowsRow, standIns := [], harness := (true, "598783eea400cbd75749f5f6358212bac54d401de5011c5083aa0b84fc14c63e"), looks := false }, kinds := [], alts := [], laidByText := true, laidKinds := [.data], laidTests := true, laidLooks := .later }
def BoardFollowsCardSaid : Prop := Claim7.holds Tryz.pinned (.plain (OpenSpec.ofChange boardFollowsSpec)) boardFollowsCard

/-- THE TIED CARD OF 'gamehalltop.TopHash'. -/
def topHashCard : Claim7 := { stood := { row := topHashRow, standIns := [], harness := (true, "598783eea400cbd75749f5f6358212bac54d401de5011c5083aa0b84fc14c63e"), looks := false }, kinds := [], alts := [], laidByText := true, laidKinds := [.data], laidTests := true, laidLooks := .later }
def TopHashCardSaid : Prop := Claim7.holds Tryz.pinned (.plain (OpenSpec.ofChange topHashSpec)) topHashCard

/-- THE SECOND FORM's CARD OF 'gamehallkeep1.BoardBack'. -/
def boardBackUptoCard : Claim7 := { stood := { row := boardBackUptoRow, standIns := [], harness := (true, "598783eea400cbd75749f5f6358212bac54d401de5011c5083aa0b84fc14c63e"), looks := false }, kinds := [], alts := [], laidByText := true, laidKinds := [.data], laidTests := true, laidLooks := .later }
def BoardBackUptoCardSaid : Prop := Claim7.holds Tryz.pinned (.plain (OpenSpec.upto boardBackSpec)) boardBackUptoCard

/-- THE SECOND FORM's CARD OF 'gamehallkeep1.BoardKeys'. -/
def boardKeysUptoCard : Claim7 := { stood := { row := boardKeysUptoRow, standIns := [], harness := (true, "598783eea400cbd75749f5f6358212bac54d401de5011c5083aa0b84fc14c63e"), looks := false }, kinds := [], alts := [], laidByText := true, laidKinds := [.data], laidTests := true, laidLooks := .later }
def BoardKeysUptoCardSaid : Prop := Claim7.holds Tryz.pinned (.plain (OpenSpec.upto boardKeysSpec)) boardKeysUptoCard

/-- THE SECOND FORM's CARD OF 'gamehalllaw1.BoardFollows'. -/
def boardFollowsUptoCard : Claim7 := { stood := { row := boardFollowsUptoRow, standIns := [], harness := (true, "598783eea400cbd75749f5f6358212bac54d401de5011c5083aa0b84fc14c63e"), looks := false }, kinds := [], alts := [], laidByText := true, laidKinds := [.data], laidTests := true, laidLooks := .later }
def BoardFollowsUptoCardSaid : Prop := Claim7.holds Tryz.pinned (.plain (OpenSpec.upto boardFollowsSpec)) boardFollowsUptoCard

/-- THE SECOND FORM's CARD OF 'gamehalltop.TopHash'. -/
def topHashUptoCard : Claim7 := { stood := { row := topHashUptoRow, standIns := [], harness := (true, "598783eea400cbd75749f5f6358212bac54d401de5011c5083aa0b84fc14c63e"), looks := false }, kinds := [], alts := [], laidByText := true, laidKinds := [.data], laidTests := true, laidLooks := .later }
def TopHashUptoCardSaid : Prop := Claim7.holds Tryz.pinned (.plain (OpenSpec.upto topHashSpec)) topHashUptoCard
end Rows
end Go.Proofs.YtiligppdfldlfaaGreatDoor
