/-
  DERIVED. GIVEN WITH THE SEED: THE CARDS: each row of YtjecakcpcnmieaaGreatDoorRows.lean that lists a variable, with what it lists TIED to the program's text (the seventh form; the later family's looks); each row that meets fmt, with fmt's text TOLD by the authors' own Lean function (tested against real Go, not proved from fmt's source: count such statements apart). THE CARD IS WHAT COUNTS. Prove the row's statement (the work); the ties are given (YtjecakcpcnmieaaGreatDoorTie.lean); close each card by the builder's one call (the guide's Derived/Test/ToyasCard.lean, 'card_holds'). Laid BY PROGRAM, IN A SANDBOX (cutbox-door.mjs). By AI agents, Wed Nov 11 2026. No macro, syntax, notation, axiom, sorry.
-/
import Derived.Test.YtjecakcpcnmieaaGreatDoorRows
import GoSem.ClaimSeven
namespace Go.Proofs.YtjecakcpcnmieaaGreatDoor
namespace Rows

/-- THE TIED CARD OF 'prunelaw07.CutNone'. -/
def cutNoneCard : Claim7 := { stood := { row := cutNoneRow, standIns := [], harness := (true, "10e2c90e6825acd42c25bd0500f8fd7168dba5fd16a9580be76babd7d90e0837"), looks := true }, kinds := [], alts := [], laidByText := true, laidKinds := [.data, .data, .data, .data, .handle, .data, .sentinel, .pinned], laidTests := true, laidLooks := .later }
def CutNoneCardSaid : Prop := Claim7.holds Tryz.pinned (.plain (OpenSpec.ofChange cutNoneSpec)) cutNoneCard

/-- THE SECOND FORM's CARD OF 'prunelaw07.CutNone'. -/
def cutNoneUptoCard : Claim7 := { stood := { row := cutNoneUptoRow, standIns := [], harness := (true, "10e2c90e6825acd42c25bd0500f8fd7168dba5fd16a9580be76babd7d90e0837"), looks := true }, kinds := [], alts := [], laidByText := true, laidKinds := [.data, .data, .data, .data, .handle, .data, .sentinel, .pinned], laidTests := true, laidLooks := .later }
def CutNoneUptoCardSaid : Prop := Claim7.holds Tryz.pinned (.plain (OpenSpec.upto cutNoneSpec)) cutNoneUptoCard
end Rows
end Go.Proofs.YtjecakcpcnmieaaGreatDoor
