/-
  DERIVED. GIVEN WITH THE SEED: THE CARDS: each row of YtigpjemceodjcaaDoorRows.lean that lists a variable, with what it lists TIED to the program's text (the seventh form; the later family's looks); each row that meets fmt, with fmt's text TOLD by the authors' own Lean function (tested against real Go, not proved from fmt's source: count such statements apart). THE CARD IS WHAT COUNTS. Prove the row's statement (the work); the ties are given (YtigpjemceodjcaaDoorTie.lean); close each card by the builder's one call (the guide's Derived/Test/ToyasCard.lean, 'card_holds'). Laid BY PROGRAM, IN A SANDBOX (cutbox-door.mjs). By AI agents, Wed Nov 11 2026. No macro, syntax, notation, axiom, sorry.
-/
import Derived.Test.YtigpjemceodjcaaDoorRows
import GoSem.ClaimSeven
namespace Go.Proofs.YtigpjemceodjcaaDoor
namespace Rows

/-- THE TIED CARD OF 'prunelaw04.QueryParses'. -/
def queryParsesCard : Claim7 := { stood := { row := queryParsesRow, standIns := [], harness := (true, "d1882fd4087ff860fddf8d7e8a9134bae7f35eb6bc3269273cbcb3974f639dd8"), looks := true }, kinds := [], alts := [], laidByText := true, laidKinds := [.data, .pinned], laidTests := true, laidLooks := .later }
def QueryParsesCardSaid : Prop := Claim7.holds Tryd.pinned (.plain (OpenSpec.ofChange queryParsesSpec)) queryParsesCard

/-- THE TIED CARD OF 'prunelaw04.QueryJoined'. -/
def queryJoinedCard : Claim7 := { stood := { row := queryJoinedRow, standIns := [], harness := (true, "d1882fd4087ff860fddf8d7e8a9134bae7f35eb6bc3269273cbcb3974f639dd8"), looks := true }, kinds := [], alts := [], laidByText := true, laidKinds := [.data, .pinned], laidTests := true, laidLooks := .later }
def QueryJoinedCardSaid : Prop := Claim7.holds Tryd.pinned (.plain (OpenSpec.ofChange queryJoinedSpec)) queryJoinedCard

/-- THE TIED CARD OF 'prunelaw04.QueryOwn'. -/
def queryOwnCard : Claim7 := { stood := { row := queryOwnRow, standIns := [], harness := (true, "d1882fd4087ff860fddf8d7e8a9134bae7f35eb6bc3269273cbcb3974f639dd8"), looks := true }, kinds := [], alts := [], laidByText := true, laidKinds := [.data, .pinned], laidTests := true, laidLooks := .later }
def QueryOwnCardSaid : Prop := Claim7.holds Tryd.pinned (.plain (OpenSpec.ofChange queryOwnSpec)) queryOwnCard

/-- THE SECOND FORM's CARD OF 'prunelaw04.QueryParses'. -/
def queryParsesUptoCard : Claim7 := { stood := { row := queryParsesUptoRow, standIns := [], harness := (true, "d1882fd4087ff860fddf8d7e8a9134bae7f35eb6bc3269273cbcb3974f639dd8"), looks := true }, kinds := [], alts := [], laidByText := true, laidKinds := [.data, .pinned], laidTests := true, laidLooks := .later }
def QueryParsesUptoCardSaid : Prop := Claim7.holds Tryd.pinned (.plain (OpenSpec.upto queryParsesSpec)) queryParsesUptoCard

/-- THE SECOND FORM's CARD OF 'prunelaw04.QueryJoined'. -/
def queryJoinedUptoCard : Claim7 := { stood := { row := queryJoinedUptoRow, standIns := [], harness := (true, "d1882fd4087ff860fddf8d7e8a9134bae7f35eb6bc3269273cbcb3974f639dd8"), looks := true }, kinds := [], alts := [], laidByText := true, laidKinds := [.data, .pinned], laidTests := true, laidLooks := .later }
def QueryJoinedUptoCardSaid : Prop := Claim7.holds Tryd.pinned (.plain (OpenSpec.upto queryJoinedSpec)) queryJoinedUptoCard

/-- THE SECOND FORM's CARD OF 'prunelaw04.QueryOwn'. -/
def queryOwnUptoCard : Claim7 := { stood := { row := queryOwnUptoRow, standIns := [], harness := (true, "d1882fd4087ff860fddf8d7e8a9134bae7f35eb6bc3269273cbcb3974f639dd8"), looks := true }, kinds := [], alts := [], laidByText := true, laidKinds := [.data, .pinned], laidTests := true, laidLooks := .later }
def QueryOwnUptoCardSaid : Prop := Claim7.holds Tryd.pinned (.plain (OpenSpec.upto queryOwnSpec)) queryOwnUptoCard
end Rows
end Go.Proofs.YtigpjemceodjcaaDoor
