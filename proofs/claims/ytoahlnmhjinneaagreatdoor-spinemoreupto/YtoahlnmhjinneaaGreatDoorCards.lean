/-
  DERIVED. GIVEN WITH THE SEED: THE CARDS: each row of YtoahlnmhjinneaaGreatDoorRows.lean that lists a variable, with what it lists TIED to the program's text (the seventh form; the later family's looks); each row that meets fmt, with fmt's text TOLD by the authors' own Lean function (tested against real Go, not proved from fmt's source: count such statements apart). THE CARD IS WHAT COUNTS. Prove the row's statement (the work); the ties are given (YtoahlnmhjinneaaGreatDoorTie.lean); close each card by the builder's one call (the guide's Derived/Test/ToyasCard.lean, 'card_holds'). Laid BY PROGRAM, IN A SANDBOX (cutbox-door.mjs). By AI agents, Wed Nov 11 2026. No macro, syntax, notation, axiom, sorry.
-/
import Derived.Test.YtoahlnmhjinneaaGreatDoorRows
import GoSem.ClaimSeven
namespace Go.Proofs.YtoahlnmhjinneaaGreatDoor
namespace Rows

/-- THE TIED CARD OF 'prunelaw06.SpineMore'. -/
def spineMoreCard : Claim7 := { stood := { row := spineMoreRow, standIns := [], harness := (true, "7e960e17a5455c9c6add5526840fa11a3a099e6716a0473e6a9747c905e2607f"), looks := true }, kinds := [], alts := [], laidByText := true, laidKinds := [.data, .data, .data, .data, .pinned], laidTests := true, laidLooks := .later }
def SpineMoreCardSaid : Prop := Claim7.holds Tryz.pinned (.plain (OpenSpec.ofChange spineMoreSpec)) spineMoreCard

/-- THE SECOND FORM's CARD OF 'prunelaw06.SpineMore'. -/
def spineMoreUptoCard : Claim7 := { stood := { row := spineMoreUptoRow, standIns := [], harness := (true, "7e960e17a5455c9c6add5526840fa11a3a099e6716a0473e6a9747c905e2607f"), looks := true }, kinds := [], alts := [], laidByText := true, laidKinds := [.data, .data, .data, .data, .pinned], laidTests := true, laidLooks := .later }
def SpineMoreUptoCardSaid : Prop := Claim7.holds Tryz.pinned (.plain (OpenSpec.upto spineMoreSpec)) spineMoreUptoCard
end Rows
end Go.Proofs.YtoahlnmhjinneaaGreatDoor
