/-
  DERIVED. GIVEN WITH THE SEED: THE CARDS: each row of YtbjpimnmgonebaaDoorRows.lean that lists a variable, with what it lists TIED to the program's text (the seventh form; the later family's looks); each row that meets fmt, with fmt's text TOLD by the authors' own Lean function (tested against real Go, not proved from fmt's source: count such statements apart). THE CARD IS WHAT COUNTS. Prove the row's statement (the work); the ties are given (YtbjpimnmgonebaaDoorTie.lean); close each card by the builder's one call (the guide's Derived/Test/ToyasCard.lean, 'card_holds'). Laid BY PROGRAM, IN A SANDBOX (cutbox-door.mjs). By AI agents, Wed Nov 11 2026. No macro, syntax, notation, axiom, sorry.
-/
import Derived.Test.YtbjpimnmgonebaaDoorRows
import GoSem.ClaimSeven
namespace Go.Proofs.YtbjpimnmgonebaaDoor
namespace Rows

/-- THE TIED CARD OF 'prunelaw01.CharsBads'. -/
def charsBadsCard : Claim7 := { stood := { row := charsBadsRow, standIns := [], harness := (true, "6b591c32dda0168d0db7409d55f348c717e33475642aaf60626470ae475cb46b"), looks := false }, kinds := [], alts := [], laidByText := true, laidKinds := [.data], laidTests := true, laidLooks := .later }
def CharsBadsCardSaid : Prop := Claim7.holds Tryd.pinned (.plain (OpenSpec.ofChange charsBadsSpec)) charsBadsCard

/-- THE TIED CARD OF 'prunelaw01.CharsNames'. -/
def charsNamesCard : Claim7 := { stood := { row := charsNamesRow, standIns := [], harness := (true, "6b591c32dda0168d0db7409d55f348c717e33475642aaf60626470ae475cb46b"), looks := false }, kinds := [], alts := [], laidByText := true, laidKinds := [.data], laidTests := true, laidLooks := .later }
def CharsNamesCardSaid : Prop := Claim7.holds Tryd.pinned (.plain (OpenSpec.ofChange charsNamesSpec)) charsNamesCard

/-- THE TIED CARD OF 'prunelaw01.CharsUnescapes'. -/
def charsUnescapesCard : Claim7 := { stood := { row := charsUnescapesRow, standIns := [], harness := (true, "6b591c32dda0168d0db7409d55f348c717e33475642aaf60626470ae475cb46b"), looks := false }, kinds := [], alts := [], laidByText := true, laidKinds := [.data], laidTests := true, laidLooks := .later }
def CharsUnescapesCardSaid : Prop := Claim7.holds Tryd.pinned (.plain (OpenSpec.ofChange charsUnescapesSpec)) charsUnescapesCard

/-- THE TIED CARD OF 'prunelaw01.CharsBack'. -/
def charsBackCard : Claim7 := { stood := { row := charsBackRow, standIns := [], harness := (true, "6b591c32dda0168d0db7409d55f348c717e33475642aaf60626470ae475cb46b"), looks := false }, kinds := [], alts := [], laidByText := true, laidKinds := [.data], laidTests := true, laidLooks := .later }
def CharsBackCardSaid : Prop := Claim7.holds Tryd.pinned (.plain (OpenSpec.ofChange charsBackSpec)) charsBackCard

/-- THE TIED CARD OF 'prunelaw01.CharsNumbers'. -/
def charsNumbersCard : Claim7 := { stood := { row := charsNumbersRow, standIns := [], harness := (true, "6b591c32dda0168d0db7409d55f348c717e33475642aaf60626470ae475cb46b"), looks := false }, kinds := [], alts := [], laidByText := true, laidKinds := [.data], laidTests := true, laidLooks := .later }
def CharsNumbersCardSaid : Prop := Claim7.holds Tryd.pinned (.plain (OpenSpec.ofChange charsNumbersSpec)) charsNumbersCard

/-- THE SECOND FORM's CARD OF 'prunelaw01.CharsBads'. -/
def charsBadsUptoCard : Claim7 := { stood := { row := charsBadsUptoRow, standIns := [], harness := (true, "6b591c32dda0168d0db7409d55f348c717e33475642aaf60626470ae475cb46b"), looks := false }, kinds := [], alts := [], laidByText := true, laidKinds := [.data], laidTests := true, laidLooks := .later }
def CharsBadsUptoCardSaid : Prop := Claim7.holds Tryd.pinned (.plain (OpenSpec.upto charsBadsSpec)) charsBadsUptoCard

/-- THE SECOND FORM's CARD OF 'prunelaw01.CharsNames'. -/
def charsNamesUptoCard : Claim7 := { stood := { row := charsNamesUptoRow, standIns := [], harness := (true, "6b591c32dda0168d0db7409d55f348c717e33475642aaf60626470ae475cb46b"), looks := false }, kinds := [], alts := [], laidByText := true, laidKinds := [.data], laidTests := true, laidLooks := .later }
def CharsNamesUptoCardSaid : Prop := Claim7.holds Tryd.pinned (.plain (OpenSpec.upto charsNamesSpec)) charsNamesUptoCard

/-- THE SECOND FORM's CARD OF 'prunelaw01.CharsUnescapes'. -/
def charsUnescapesUptoCard : Claim7 := { stood := { row := charsUnescapesUptoRow, standIns := [], harness := (true, "6b591c32dda0168d0db7409d55f348c717e33475642aaf60626470ae475cb46b"), looks := false }, kinds := [], alts := [], laidByText := true, laidKinds := [.data], laidTests := true, laidLooks := .later }
def CharsUnescapesUptoCardSaid : Prop := Claim7.holds Tryd.pinned (.plain (OpenSpec.upto charsUnescapesSpec)) charsUnescapesUptoCard

/-- THE SECOND FORM's CARD OF 'prunelaw01.CharsBack'. -/
def charsBackUptoCard : Claim7 := { stood := { row := charsBackUptoRow, standIns := [], harness := (true, "6b591c32dda0168d0db7409d55f348c717e33475642aaf60626470ae475cb46b"), looks := false }, kinds := [], alts := [], laidByText := true, laidKinds := [.data], laidTests := true, laidLooks := .later }
def CharsBackUptoCardSaid : Prop := Claim7.holds Tryd.pinned (.plain (OpenSpec.upto charsBackSpec)) charsBackUptoCard

/-- THE SECOND FORM's CARD OF 'prunelaw01.CharsNumbers'. -/
def charsNumbersUptoCard : Claim7 := { stood := { row := charsNumbersUptoRow, standIns := [], harness := (true, "6b591c32dda0168d0db7409d55f348c717e33475642aaf60626470ae475cb46b"), looks := false }, kinds := [], alts := [], laidByText := true, laidKinds := [.data], laidTests := true, laidLooks := .later }
def CharsNumbersUptoCardSaid : Prop := Claim7.holds Tryd.pinned (.plain (OpenSpec.upto charsNumbersSpec)) charsNumbersUptoCard
end Rows
end Go.Proofs.YtbjpimnmgonebaaDoor
