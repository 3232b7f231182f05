/-
  DERIVED. GIVEN WITH THE SEED: THE CARDS: each row of YthlcmljckpdheaaGreatDoorRows.lean that lists a variable, with what it lists TIED to the program's text (the seventh form; the later family's looks); each row that meets fmt, with fmt's text TOLD by the authors' own Lean function (tested against real Go, not proved from fmt's source: count such statements apart). THE CARD IS WHAT COUNTS. Prove the row's statement (the work); the ties are given (YthlcmljckpdheaaGreatDoorTie.lean); close each card by the builder's one call (the guide's Derived/Test/ToyasCard.lean, 'card_holds'). Laid BY PROGRAM, IN A SANDBOX (cutbox-door.mjs). By AI agents, Wed Nov 11 2026. No macro, syntax, notation, axiom, sorry.
-/
import Derived.Test.YthlcmljckpdheaaGreatDoorRows
import GoSem.ClaimSeven
namespace Go.Proofs.YthlcmljckpdheaaGreatDoor
namespace Rows

/-- THE TIED CARD OF 'prunelaw10.GuideCounts'. -/
def guideCountsCard : Claim7 := { stood := { row := guideCountsRow, standIns := [], harness := (true, "777b8dfa69d189ca40176547255c8f32a31497eba68fe2effe51ee569577c3cd"), looks := true }, kinds := [], alts := [], laidByText := true, laidKinds := [.data, .data, .data, .data, .handle, .data, .sentinel, .pinned], laidTests := true, laidLooks := .later }
def GuideCountsCardSaid : Prop := Claim7.holds Tryz.pinned (.plain (OpenSpec.ofChange guideCountsSpec)) guideCountsCard

/-- THE SECOND FORM's CARD OF 'prunelaw10.GuideCounts'. -/
def guideCountsUptoCard : Claim7 := { stood := { row := guideCountsUptoRow, standIns := [], harness := (true, "777b8dfa69d189ca40176547255c8f32a31497eba68fe2effe51ee569577c3cd"), looks := true }, kinds := [], alts := [], laidByText := true, laidKinds := [.data, .data, .data, .data, .handle, .data, .sentinel, .pinned], laidTests := true, laidLooks := .later }
def GuideCountsUptoCardSaid : Prop := Claim7.holds Tryz.pinned (.plain (OpenSpec.upto guideCountsSpec)) guideCountsUptoCard
end Rows
end Go.Proofs.YthlcmljckpdheaaGreatDoor
