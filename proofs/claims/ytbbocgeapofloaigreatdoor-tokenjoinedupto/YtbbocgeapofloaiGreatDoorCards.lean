/-
  DERIVED. GIVEN WITH THE SEED: THE CARDS: each row of YtbbocgeapofloaiGreatDoorRows.lean that lists a variable, with what it lists TIED to the program's text (the seventh form; the later family's looks); each row that meets fmt, with fmt's text TOLD by the authors' own Lean function (tested against real Go, not proved from fmt's source: count such statements apart). THE CARD IS WHAT COUNTS. Prove the row's statement (the work); the ties are given (YtbbocgeapofloaiGreatDoorTie.lean); close each card by the builder's one call (the guide's Derived/Test/ToyasCard.lean, 'card_holds'). Laid BY PROGRAM, IN A SANDBOX (cutbox-door.mjs). By AI agents, Wed Nov 11 2026. No macro, syntax, notation, axiom, sorry.
-/
import Derived.Test.YtbbocgeapofloaiGreatDoorRows
import GoSem.ClaimSeven
namespace Go.Proofs.YtbbocgeapofloaiGreatDoor
namespace Rows

/-- THE TIED CARD OF 'prunelaw02.TokenJoined'. -/
def tokenJoinedCard : Claim7 := { stood := { row := tokenJoinedRow, standIns := [], harness := (true, "eef5c5d51021d1c079e84984273bc8ca6e75c46ca53faded5387ff721bd0672a"), looks := true }, kinds := [], alts := [], laidByText := true, laidKinds := [.data, .handle, .data, .sentinel, .pinned], laidTests := true, laidLooks := .later }
def TokenJoinedCardSaid : Prop := Claim7.holds Tryz.pinned (.plain (OpenSpec.ofChange tokenJoinedSpec)) tokenJoinedCard

/-- THE SECOND FORM's CARD OF 'prunelaw02.TokenJoined'. -/
def tokenJoinedUptoCard : Claim7 := { stood := { row := tokenJoinedUptoRow, standIns := [], harness := (true, "eef5c5d51021d1c079e84984273bc8ca6e75c46ca53faded5387ff721bd0672a"), looks := true }, kinds := [], alts := [], laidByText := true, laidKinds := [.data, .handle, .data, .sentinel, .pinned], laidTests := true, laidLooks := .later }
def TokenJoinedUptoCardSaid : Prop := Claim7.holds Tryz.pinned (.plain (OpenSpec.upto tokenJoinedSpec)) tokenJoinedUptoCard
end Rows
end Go.Proofs.YtbbocgeapofloaiGreatDoor
