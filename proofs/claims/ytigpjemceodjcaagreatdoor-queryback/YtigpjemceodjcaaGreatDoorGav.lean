import Derived.Test.YtigpjemceodjcaaGreatDoorGau
set_option linter.unusedVariables false
set_option linter.unusedSimpArgs false
set_option linter.unusedSimpArgs false
set_option linter.unusedVariables false
namespace Go.Proofs.YtigpjemceodjcaaGreatDoor
open Go.RowKit Go.Maps Go.Lib
variable {w w' w1 W : World} {b : Nat} {o : L}
theorem err_ne {q : L} {y : Nat × Nat} (h : parse q = .error y) : y.1 ≠ 0 := by
  have := parse_sim q
  rw [h] at this
  exact this.1
theorem WB.new (w : World) : WB w.heap.size [] (w.alloc (.cells #[.pointer none, .slice none 0 0] 42)) :=
  ⟨.pointer none, .slice none 0 0, Or.inl rfl, Below_new _ _, World.ownsRowF_nil _ _ _ _, by simp [Value.ownBlock]⟩
def PP (x : Except (Nat × Nat) (List (List Stp))) : Value := match x with
  | .ok ls => .tuple #[.string (bs (plainQ ls)), .int .i64 0, .int .i64 0]
  | .error y => .tuple #[.string ⟨#[]⟩, .int .i64 y.1, .int .i64 y.2]
set_option maxHeartbeats 16000000 in
set_option maxRecDepth 100000 in
theorem print_ok (q : L) (w : World) : Calls Tryz.prog 5 #[.string (bs q)] w fun e w' => e = .returned (PP (parse q)) ∧ Below w.heap.size w w' := by
  have HP := hide (parse_ok q w)
  cases hp : parse q with
  | error y =>
    rw [hp] at HP
    have hy := err_ne hp
    have n1 : ((y.1 : Int) != 0) = true := by simp; omega
    have n2 : (y.1 != 0) = true := by simp; omega
    clear hp hy
    generalize bs q = Q at *
    go_enter Tryz.func5, Tryz.ntmps5
    go_wp2_with (go_at_call 10; refine HP.out.mono ?_; rintro e w2 ⟨hb, rfl⟩; clear HP)
    refine bodyPost_ret (v := .tuple #[.string ⟨#[]⟩, .int .i64 y.1, .int .i64 y.2]) (by simp [results, Tryz.results5, go_sem]) rfl ⟨rfl, hb⟩
  | ok ls =>
    rw [hp] at HP
    have hok := parse_okQ hp
    have hlen := plain_len hp
    have HQ : Hid (∀ w2 v, QV (fun b => w.heap.size ≤ b) w2 v ls → ∃ qi qn qc, v = .slice qi qn qc ∧ Hid (Calls Tryz.prog 12 #[.pointer (some ⟨w2.heap.size, 0, none⟩), .slice qi qn qc] (w2.alloc (.cells #[.pointer none, .slice none 0 0] 42)) fun e w3 => e = .returned (.tuple #[]) ∧ Hid (Calls Tryz.prog 13 #[.pointer (some ⟨w2.heap.size, 0, none⟩)] w3 fun e w4 => e = .returned (.string (bs (plainQ ls))) ∧ Below w2.heap.size w2 w4))) := fun w2 v qv => by
      obtain ⟨qi, qc, rfl, -⟩ := QS.len qv
      refine ⟨qi, _, qc, rfl, hide ?_⟩
      have hb0 := (Below.refl w2.heap.size w2).alloc (Nat.le_refl _) (.cells #[.pointer none, .slice none 0 0] 42)
      have qs : QS (w2.alloc (.cells #[.pointer none, .slice none 0 0] 42)) (fun k => k < w2.heap.size) 36 51 86 (.slice qi ls.length qc) ls := QS.move (fun k _ hl => ⟨hl, hb0.block k hl⟩) qv
      refine (queryW_ok ls hok _ [] qi _ qc (WB.new w2) qs (by simp; omega)).mono ?_
      rintro e w3 ⟨h, h2, h3⟩
      refine ⟨h, hide ((string_ok h2).mono ?_)⟩
      rintro e w4 ⟨h4, h5⟩
      exact ⟨by rw [h4]; rfl, (hb0.trans h3.below).trans h5⟩
    clear hp hok hlen
    unfold PP
    simp only
    generalize bs (plainQ ls) = S at *
    generalize bs q = Q at *
    go_enter Tryz.func5, Tryz.ntmps5
    go_wp2_with (first | (go_at_call 10; refine HP.out.mono ?_; rintro e w2 ⟨hb, v, rfl, qv⟩; obtain ⟨qi, qn, qc, rfl, h3⟩ := HQ.out _ _ qv; clear HP HQ qv) | (go_at_call 12; refine h3.out.mono ?_; rintro e w3 ⟨rfl, h4⟩; clear h3) | (go_at_call 13; refine h4.out.mono ?_; rintro e w4 ⟨rfl, hb4⟩; clear h4))
    refine bodyPost_ret (v := .tuple #[.string S, .int .i64 0, .int .i64 0]) (by simp [results, Tryz.results5, go_sem]) rfl ⟨rfl, bon hb hb4⟩
end Go.Proofs.YtigpjemceodjcaaGreatDoor
