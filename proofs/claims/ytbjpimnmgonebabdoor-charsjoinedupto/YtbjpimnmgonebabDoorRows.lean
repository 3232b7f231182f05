/-
  NARROWER THAN 'FOR EVERY INPUT', by the rows' own cells (each row's printed sentence says how): CharsJoined: laid.
  DERIVED. THE GIVEN ROWS OF THIS SEAT. 1 by the template 'for every input the law returns true; each argument reads behind the call as it read before'; 0 by the template 'total and deterministic' (their statements: YtbjpimnmgonebabDoorTotals.lean).
  GIVEN WITH THE SEED: the statements are not yours to turn. If you find one false, say at which input.
  Laid BY PROGRAM, IN A SANDBOX (cutbox-rows.mjs): the forced cells as the released guide's own fill.sh prints them over the translation 746e96d441836719… (all of the seat's roots in one cut). By AI agents, Wed Nov 11 2026. No macro, syntax, notation, axiom, sorry.
-/
import Derived.Test.YtbjpimnmgonebabDoorChecked
import GoSem.Claim
import GoSem.ClaimJoined
import GoSem.ClaimMapViews
import Derived.JoinedTies
import Derived.KernelRfl
namespace Go.Proofs.YtbjpimnmgonebabDoor
/- THE CELL 'sum', in the pinned program and in every row, IS THE sha256 OF THE DUMP (.gsa) THAT YtbjpimnmgonebabDoorProg.lean LOADS. Nothing in Lean hashes anything: it is a label: what it is worth is what the hold of that sum in a sandbox is worth. -/
noncomputable def Tryd.pinned : Pinned := { name := "ytbjpimnmgonebabdoor", sum := "746e96d4418367190cd94329487c304d9bc33fcba5b3f8edc1ebd9b7a354254f", checked := Tryd.checked }
namespace Rows
def none {H : Type} : Left H := { results := [], args := [] }

/- WHAT THE LISTED PACKAGE-LEVEL VARIABLES READ AS WHEN THE CALL BEGINS. Each datum BY PROGRAM (the guide's laid-datum.mjs) off the statement by which the dump's own 'gosem.cut.vars' lays the variable. In a bare row this is a premise. The card (YtbjpimnmgonebabDoorCards.lean) ties it to the program's text. -/
def laid_prune_chars_named {H : Type} : DataW H := .agg [.agg [.lit (.string [38, 108, 116, 59]), .lit (.int .i32 60)], .agg [.lit (.string [38, 103, 116, 59]), .lit (.int .i32 62)], .agg [.lit (.string [38, 97, 109, 112, 59]), .lit (.int .i32 38)], .agg [.lit (.string [38, 113, 117, 111, 116, 59]), .lit (.int .i32 34)], .agg [.lit (.string [38, 97, 112, 111, 115, 59]), .lit (.int .i32 39)]]

/-- 'prunelaw01.CharsJoined': WHATEVER THE INPUT: true; the input reads as it did. -/
def charsJoinedSpec : ChangeSpec := { name := "charsJoined", fn := fun _ => fun
  | [d1, d2, d3] => { results := [.lit (.bool true)], args := [d1, d2, d3] }
  | _ => none }
def charsJoinedRow : OpenClaim := { program := "ytbjpimnmgonebabdoor", sum := "746e96d4418367190cd94329487c304d9bc33fcba5b3f8edc1ebd9b7a354254f", func := "prune/prunelaw01.CharsJoined", spec := "charsJoined", inPlace := ["internal/abi.NoEscape"], named := ["prune/chars.named"], apart := false, laid := [("prune/chars.named", laid_prune_chars_named)] }
def CharsJoinedSaid : Prop := charsJoinedRow.holds Tryd.pinned (OpenSpec.ofChange charsJoinedSpec)

/-- ITS FALSE NEIGHBOUR: 'it returns false'. Refute it at one input. -/
def charsJoinedWrong : ChangeSpec := { name := "charsJoined", fn := fun _ => fun
  | [d1, d2, d3] => { results := [.lit (.bool false)], args := [d1, d2, d3] }
  | _ => none }
def CharsJoinedWrongFalsely : Prop := charsJoinedRow.holds Tryd.pinned (OpenSpec.ofChange charsJoinedWrong)

/- THE SECOND FORM. 'bulk': how many values and letters a reading holds, each counted each time it is reached (what is shared counts as often as it is met; a slice's spare places count too). A statement '..UptoSaid' is the law's where the arguments, and the package variables that the reading takes, are together of bulk at most 1048576: NARROWER than '..Said'. Prove '..Said' where nothing that the law and all that it calls make is longer than what came in: it says more and counts as full. Else prove '..UptoSaid'. A law counts once. -/
mutual
def uptoBulk {H : Type} : DataW H → Nat
  | .lit (.string bytes) => bytes.length + 1
  | .lit _ => 1
  | .nil => 1
  | .ptr d => uptoBulk d + 1
  | .slice elems spare => uptoBulkAll elems + uptoBulkAll spare + 1
  | .agg parts => uptoBulkAll parts + 1
  | .iface _ d => uptoBulk d + 1
  | .map entries => uptoBulkEntries entries + 1
  | .held _ => 1
def uptoBulkAll {H : Type} : List (DataW H) → Nat
  | [] => 0
  | d :: r => uptoBulk d + uptoBulkAll r
def uptoBulkEntries {H : Type} : List (Lit × DataW H) → Nat
  | [] => 0
  | x :: r => uptoBulkEntry x + uptoBulkEntries r
def uptoBulkEntry {H : Type} : Lit × DataW H → Nat
  | (.string bytes, d) => bytes.length + uptoBulk d + 1
  | (_, d) => uptoBulk d + 1
 end
def uptoSmall : (H : Type) → List (DataW H) → Bool := fun _ ds => decide (uptoBulkAll ds ≤ 1048576)
def OpenSpec.upto (s : _root_.Go.ChangeSpec) : _root_.Go.OpenSpec := { _root_.Go.OpenSpec.ofChange s with cond := some uptoSmall }

/-- 'prunelaw01.CharsJoined', WHERE WHAT IT READS IS OF BULK AT MOST 1048576: true; the input reads as it did. -/
def charsJoinedUptoRow : OpenClaim := { program := "ytbjpimnmgonebabdoor", sum := "746e96d4418367190cd94329487c304d9bc33fcba5b3f8edc1ebd9b7a354254f", func := "prune/prunelaw01.CharsJoined", spec := "charsJoined", inPlace := ["internal/abi.NoEscape"], named := ["prune/chars.named"], apart := false, laid := [("prune/chars.named", laid_prune_chars_named)], narrowed := true }
def CharsJoinedUptoSaid : Prop := charsJoinedUptoRow.holds Tryd.pinned (OpenSpec.upto charsJoinedSpec)

end Rows
end Go.Proofs.YtbjpimnmgonebabDoor
