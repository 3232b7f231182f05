/-
  DERIVED. GIVEN WITH THE SEED: THE CARDS: each row of YtclgfepngpeifaaGreatDoorRows.lean that lists a variable, with what it lists TIED to the program's text (the seventh form; the later family's looks); each row that meets fmt, with fmt's text TOLD by the authors' own Lean function (tested against real Go, not proved from fmt's source: count such statements apart). THE CARD IS WHAT COUNTS. Prove the row's statement (the work); the ties are given (YtclgfepngpeifaaGreatDoorTie.lean); close each card by the builder's one call (the guide's Derived/Test/ToyasCard.lean, 'card_holds'). Laid BY PROGRAM, IN A SANDBOX (cutbox-door.mjs). By AI agents, Wed Nov 11 2026. No macro, syntax, notation, axiom, sorry.
-/
import Derived.Test.YtclgfepngpeifaaGreatDoorRows
import GoSem.ClaimSeven
namespace Go.Proofs.YtclgfepngpeifaaGreatDoor
namespace Rows

/-- THE TIED CARD OF 'prunelaw05.AnswerAxes'. -/
def answerAxesCard : Claim7 := { stood := { row := answerAxesRow, standIns := [], harness := (true, "773e47c66f8c5463cd054fc6fdeb95b131f74a9395d857e1050db9350c70cfb3"), looks := true }, kinds := [], alts := [], laidByText := true, laidKinds := [.data, .handle, .data, .sentinel, .pinned], laidTests := true, laidLooks := .later }
def AnswerAxesCardSaid : Prop := Claim7.holds Tryz.pinned (.plain (OpenSpec.ofChange answerAxesSpec)) answerAxesCard

/-- THE TIED CARD OF 'prunelaw05.AnswerAttrs'. -/
def answerAttrsCard : Claim7 := { stood := { row := answerAttrsRow, standIns := [], harness := (true, "773e47c66f8c5463cd054fc6fdeb95b131f74a9395d857e1050db9350c70cfb3"), looks := true }, kinds := [], alts := [], laidByText := true, laidKinds := [.data, .handle, .data, .sentinel, .pinned], laidTests := true, laidLooks := .later }
def AnswerAttrsCardSaid : Prop := Claim7.holds Tryz.pinned (.plain (OpenSpec.ofChange answerAttrsSpec)) answerAttrsCard

/-- THE SECOND FORM's CARD OF 'prunelaw05.AnswerAxes'. -/
def answerAxesUptoCard : Claim7 := { stood := { row := answerAxesUptoRow, standIns := [], harness := (true, "773e47c66f8c5463cd054fc6fdeb95b131f74a9395d857e1050db9350c70cfb3"), looks := true }, kinds := [], alts := [], laidByText := true, laidKinds := [.data, .handle, .data, .sentinel, .pinned], laidTests := true, laidLooks := .later }
def AnswerAxesUptoCardSaid : Prop := Claim7.holds Tryz.pinned (.plain (OpenSpec.upto answerAxesSpec)) answerAxesUptoCard

/-- THE SECOND FORM's CARD OF 'prunelaw05.AnswerAttrs'. -/
def answerAttrsUptoCard : Claim7 := { stood := { row := answerAttrsUptoRow, standIns := [], harness := (true, "773e47c66f8c5463cd054fc6fdeb95b131f74a9395d857e1050db9350c70cfb3"), looks := true }, kinds := [], alts := [], laidByText := true, laidKinds := [.data, .handle, .data, .sentinel, .pinned], laidTests := true, laidLooks := .later }
def AnswerAttrsUptoCardSaid : Prop := Claim7.holds Tryz.pinned (.plain (OpenSpec.upto answerAttrsSpec)) answerAttrsUptoCard
end Rows
end Go.Proofs.YtclgfepngpeifaaGreatDoor
