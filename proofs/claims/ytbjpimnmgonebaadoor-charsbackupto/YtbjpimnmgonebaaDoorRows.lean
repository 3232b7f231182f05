/-
  NARROWER THAN 'FOR EVERY INPUT', by the rows' own cells (each row's printed sentence says how): CharsBads: laid · CharsNames: laid · CharsUnescapes: laid · CharsBack: laid · CharsNumbers: laid.
  DERIVED. THE GIVEN ROWS OF THIS SEAT. 5 by the template 'for every input the law returns true; each argument reads behind the call as it read before'; 0 by the template 'total and deterministic' (their statements: YtbjpimnmgonebaaDoorTotals.lean).
  GIVEN WITH THE SEED: the statements are not yours to turn. If you find one false, say at which input.
  Laid BY PROGRAM, IN A SANDBOX (cutbox-rows.mjs): the forced cells as the released guide's own fill.sh prints them over the translation ac487c85eb917417… (all of the seat's roots in one cut). By AI agents, Wed Nov 11 2026. No macro, syntax, notation, axiom, sorry.
-/
import Derived.Test.YtbjpimnmgonebaaDoorChecked
import GoSem.Claim
import GoSem.ClaimJoined
import GoSem.ClaimMapViews
import Derived.JoinedTies
import Derived.KernelRfl
namespace Go.Proofs.YtbjpimnmgonebaaDoor
/- THE CELL 'sum', in the pinned program and in every row, IS THE sha256 OF THE DUMP (.gsa) THAT YtbjpimnmgonebaaDoorProg.lean LOADS. Nothing in Lean hashes anything: it is a label: what it is worth is what the hold of that sum in a sandbox is worth. -/
noncomputable def Tryd.pinned : Pinned := { name := "ytbjpimnmgonebaadoor", sum := "ac487c85eb917417ff3f37b8103c69be6782bd3d4b9d47034dc9fcccd2240bc9", checked := Tryd.checked }
namespace Rows
def none {H : Type} : Left H := { results := [], args := [] }

/- WHAT THE LISTED PACKAGE-LEVEL VARIABLES READ AS WHEN THE CALL BEGINS. Each datum BY PROGRAM (the guide's laid-datum.mjs) off the statement by which the dump's own 'gosem.cut.vars' lays the variable. In a bare row this is a premise. The card (YtbjpimnmgonebaaDoorCards.lean) ties it to the program's text. -/
def laid_prune_chars_named {H : Type} : DataW H := .agg [.agg [.lit (.string [38, 108, 116, 59]), .lit (.int .i32 60)], .agg [.lit (.string [38, 103, 116, 59]), .lit (.int .i32 62)], .agg [.lit (.string [38, 97, 109, 112, 59]), .lit (.int .i32 38)], .agg [.lit (.string [38, 113, 117, 111, 116, 59]), .lit (.int .i32 34)], .agg [.lit (.string [38, 97, 112, 111, 115, 59]), .lit (.int .i32 39)]]

/-- 'prunelaw01.CharsBads': WHATEVER THE INPUT: true; the input reads as it did. -/
def charsBadsSpec : ChangeSpec := { name := "charsBads", fn := fun _ => fun
  | [d] => { results := [.lit (.bool true)], args := [d] }
  | _ => none }
def charsBadsRow : OpenClaim := { program := "ytbjpimnmgonebaadoor", sum := "ac487c85eb917417ff3f37b8103c69be6782bd3d4b9d47034dc9fcccd2240bc9", func := "prune/prunelaw01.CharsBads", spec := "charsBads", inPlace := ["internal/abi.NoEscape"], named := ["prune/chars.named"], apart := false, laid := [("prune/chars.named", laid_prune_chars_named)] }
def CharsBadsSaid : Prop := charsBadsRow.holds Tryd.pinned (OpenSpec.ofChange charsBadsSpec)

/-- ITS FALSE NEIGHBOUR: 'it returns false'. Refute it at one input. -/
def charsBadsWrong : ChangeSpec := { name := "charsBads", fn := fun _ => fun
  | [d] => { results := [.lit (.bool false)], args := [d] }
  | _ => none }
def CharsBadsWrongFalsely : Prop := charsBadsRow.holds Tryd.pinned (OpenSpec.ofChange charsBadsWrong)

/-- 'prunelaw01.CharsNames': WHATEVER THE INPUT: true; the input reads as it did. -/
def charsNamesSpec : ChangeSpec := { name := "charsNames", fn := fun _ => fun
  | [d] => { results := [.lit (.bool true)], args := [d] }
  | _ => none }
def charsNamesRow : OpenClaim := { program := "ytbjpimnmgonebaadoor", sum := "ac487c85eb917417ff3f37b8103c69be6782bd3d4b9d47034dc9fcccd2240bc9", func := "prune/prunelaw01.CharsNames", spec := "charsNames", inPlace := ["internal/abi.NoEscape"], named := ["prune/chars.named"], apart := false, laid := [("prune/chars.named", laid_prune_chars_named)] }
def CharsNamesSaid : Prop := charsNamesRow.holds Tryd.pinned (OpenSpec.ofChange charsNamesSpec)

/-- ITS FALSE NEIGHBOUR: 'it returns false'. Refute it at one input. -/
def charsNamesWrong : ChangeSpec := { name := "charsNames", fn := fun _ => fun
  | [d] => { results := [.lit (.bool false)], args := [d] }
  | _ => none }
def CharsNamesWrongFalsely : Prop := charsNamesRow.holds Tryd.pinned (OpenSpec.ofChange charsNamesWrong)

/-- 'prunelaw01.CharsUnescapes': WHATEVER THE INPUT: true; the input reads as it did. -/
def charsUnescapesSpec : ChangeSpec := { name := "charsUnescapes", fn := fun _ => fun
  | [d] => { results := [.lit (.bool true)], args := [d] }
  | _ => none }
def charsUnescapesRow : OpenClaim := { program := "ytbjpimnmgonebaadoor", sum := "ac487c85eb917417ff3f37b8103c69be6782bd3d4b9d47034dc9fcccd2240bc9", func := "prune/prunelaw01.CharsUnescapes", spec := "charsUnescapes", inPlace := ["internal/abi.NoEscape"], named := ["prune/chars.named"], apart := false, laid := [("prune/chars.named", laid_prune_chars_named)] }
def CharsUnescapesSaid : Prop := charsUnescapesRow.holds Tryd.pinned (OpenSpec.ofChange charsUnescapesSpec)

/-- ITS FALSE NEIGHBOUR: 'it returns false'. Refute it at one input. -/
def charsUnescapesWrong : ChangeSpec := { name := "charsUnescapes", fn := fun _ => fun
  | [d] => { results := [.lit (.bool false)], args := [d] }
  | _ => none }
def CharsUnescapesWrongFalsely : Prop := charsUnescapesRow.holds Tryd.pinned (OpenSpec.ofChange charsUnescapesWrong)

/-- 'prunelaw01.CharsBack': WHATEVER THE INPUT: true; the input reads as it did. -/
def charsBackSpec : ChangeSpec := { name := "charsBack", fn := fun _ => fun
  | [d1, d2] => { results := [.lit (.bool true)], args := [d1, d2] }
  | _ => none }
def charsBackRow : OpenClaim := { program := "ytbjpimnmgonebaadoor", sum := "ac487c85eb917417ff3f37b8103c69be6782bd3d4b9d47034dc9fcccd2240bc9", func := "prune/prunelaw01.CharsBack", spec := "charsBack", inPlace := ["internal/abi.NoEscape"], named := ["prune/chars.named"], apart := false, laid := [("prune/chars.named", laid_prune_chars_named)] }
def CharsBackSaid : Prop := charsBackRow.holds Tryd.pinned (OpenSpec.ofChange charsBackSpec)

/-- ITS FALSE NEIGHBOUR: 'it returns false'. Refute it at one input. -/
def charsBackWrong : ChangeSpec := { name := "charsBack", fn := fun _ => fun
  | [d1, d2] => { results := [.lit (.bool false)], args := [d1, d2] }
  | _ => none }
def CharsBackWrongFalsely : Prop := charsBackRow.holds Tryd.pinned (OpenSpec.ofChange charsBackWrong)

/-- 'prunelaw01.CharsNumbers': WHATEVER THE INPUT: true; the input reads as it did. -/
def charsNumbersSpec : ChangeSpec := { name := "charsNumbers", fn := fun _ => fun
  | [d1, d2] => { results := [.lit (.bool true)], args := [d1, d2] }
  | _ => none }
def charsNumbersRow : OpenClaim := { program := "ytbjpimnmgonebaadoor", sum := "ac487c85eb917417ff3f37b8103c69be6782bd3d4b9d47034dc9fcccd2240bc9", func := "prune/prunelaw01.CharsNumbers", spec := "charsNumbers", inPlace := ["internal/abi.NoEscape"], recurses := true, named := ["prune/chars.named"], apart := false, laid := [("prune/chars.named", laid_prune_chars_named)] }
def CharsNumbersSaid : Prop := charsNumbersRow.holds Tryd.pinned (OpenSpec.ofChange charsNumbersSpec)

/-- ITS FALSE NEIGHBOUR: 'it returns false'. Refute it at one input. -/
def charsNumbersWrong : ChangeSpec := { name := "charsNumbers", fn := fun _ => fun
  | [d1, d2] => { results := [.lit (.bool false)], args := [d1, d2] }
  | _ => none }
def CharsNumbersWrongFalsely : Prop := charsNumbersRow.holds Tryd.pinned (OpenSpec.ofChange charsNumbersWrong)

/- THE SECOND FORM. 'bulk': how many values and letters a reading holds, each counted each time it is reached (what is shared counts as often as it is met; a slice's spare places count too). A statement '..UptoSaid' is the law's where the arguments, and the package variables that the reading takes, are together of bulk at most 1048576: NARROWER than '..Said'. Prove '..Said' where nothing that the law and all that it calls make is longer than what came in: it says more and counts as full. Else prove '..UptoSaid'. A law counts once. -/
mutual
def uptoBulk {H : Type} : DataW H → Nat
  | .lit (.string bytes) => bytes.length + 1
  | .lit _ => 1
  | .nil => 1
  | .ptr d => uptoBulk d + 1
  | .slice elems spare => uptoBulkAll elems + uptoBulkAll spare + 1
  | .agg parts => uptoBulkAll parts + 1
  | .iface _ d => uptoBulk d + 1
  | .map entries => uptoBulkEntries entries + 1
  | .held _ => 1
def uptoBulkAll {H : Type} : List (DataW H) → Nat
  | [] => 0
  | d :: r => uptoBulk d + uptoBulkAll r
def uptoBulkEntries {H : Type} : List (Lit × DataW H) → Nat
  | [] => 0
  | x :: r => uptoBulkEntry x + uptoBulkEntries r
def uptoBulkEntry {H : Type} : Lit × DataW H → Nat
  | (.string bytes, d) => bytes.length + uptoBulk d + 1
  | (_, d) => uptoBulk d + 1
 end
def uptoSmall : (H : Type) → List (DataW H) → Bool := fun _ ds => decide (uptoBulkAll ds ≤ 1048576)
def OpenSpec.upto (s : _root_.Go.ChangeSpec) : _root_.Go.OpenSpec := { _root_.Go.OpenSpec.ofChange s with cond := some uptoSmall }

/-- 'prunelaw01.CharsBads', WHERE WHAT IT READS IS OF BULK AT MOST 1048576: true; the input reads as it did. -/
def charsBadsUptoRow : OpenClaim := { program := "ytbjpimnmgonebaadoor", sum := "ac487c85eb917417ff3f37b8103c69be6782bd3d4b9d47034dc9fcccd2240bc9", func := "prune/prunelaw01.CharsBads", spec := "charsBads", inPlace := ["internal/abi.NoEscape"], named := ["prune/chars.named"], apart := false, laid := [("prune/chars.named", laid_prune_chars_named)], narrowed := true }
def CharsBadsUptoSaid : Prop := charsBadsUptoRow.holds Tryd.pinned (OpenSpec.upto charsBadsSpec)

/-- 'prunelaw01.CharsNames', WHERE WHAT IT READS IS OF BULK AT MOST 1048576: true; the input reads as it did. -/
def charsNamesUptoRow : OpenClaim := { program := "ytbjpimnmgonebaadoor", sum := "ac487c85eb917417ff3f37b8103c69be6782bd3d4b9d47034dc9fcccd2240bc9", func := "prune/prunelaw01.CharsNames", spec := "charsNames", inPlace := ["internal/abi.NoEscape"], named := ["prune/chars.named"], apart := false, laid := [("prune/chars.named", laid_prune_chars_named)], narrowed := true }
def CharsNamesUptoSaid : Prop := charsNamesUptoRow.holds Tryd.pinned (OpenSpec.upto charsNamesSpec)

/-- 'prunelaw01.CharsUnescapes', WHERE WHAT IT READS IS OF BULK AT MOST 1048576: true; the input reads as it did. -/
def charsUnescapesUptoRow : OpenClaim := { program := "ytbjpimnmgonebaadoor", sum := "ac487c85eb917417ff3f37b8103c69be6782bd3d4b9d47034dc9fcccd2240bc9", func := "prune/prunelaw01.CharsUnescapes", spec := "charsUnescapes", inPlace := ["internal/abi.NoEscape"], named := ["prune/chars.named"], apart := false, laid := [("prune/chars.named", laid_prune_chars_named)], narrowed := true }
def CharsUnescapesUptoSaid : Prop := charsUnescapesUptoRow.holds Tryd.pinned (OpenSpec.upto charsUnescapesSpec)

/-- 'prunelaw01.CharsBack', WHERE WHAT IT READS IS OF BULK AT MOST 1048576: true; the input reads as it did. -/
def charsBackUptoRow : OpenClaim := { program := "ytbjpimnmgonebaadoor", sum := "ac487c85eb917417ff3f37b8103c69be6782bd3d4b9d47034dc9fcccd2240bc9", func := "prune/prunelaw01.CharsBack", spec := "charsBack", inPlace := ["internal/abi.NoEscape"], named := ["prune/chars.named"], apart := false, laid := [("prune/chars.named", laid_prune_chars_named)], narrowed := true }
def CharsBackUptoSaid : Prop := charsBackUptoRow.holds Tryd.pinned (OpenSpec.upto charsBackSpec)

/-- 'prunelaw01.CharsNumbers', WHERE WHAT IT READS IS OF BULK AT MOST 1048576: true; the input reads as it did. -/
def charsNumbersUptoRow : OpenClaim := { program := "ytbjpimnmgonebaadoor", sum := "ac487c85eb917417ff3f37b8103c69be6782bd3d4b9d47034dc9fcccd2240bc9", func := "prune/prunelaw01.CharsNumbers", spec := "charsNumbers", inPlace := ["internal/abi.NoEscape"], recurses := true, named := ["prune/chars.named"], apart := false, laid := [("prune/chars.named", laid_prune_chars_named)], narrowed := true }
def CharsNumbersUptoSaid : Prop := charsNumbersUptoRow.holds Tryd.pinned (OpenSpec.upto charsNumbersSpec)

end Rows
end Go.Proofs.YtbjpimnmgonebaaDoor
