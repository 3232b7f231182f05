import Derived.Test.YtgognegkcplcpaaGreatDoorGay
import Derived.Test.YtgognegkcplcpaaGreatDoorGao
set_option linter.unusedVariables false
set_option linter.unusedSimpArgs false
set_option linter.unusedSimpArgs false
set_option linter.unusedVariables false
namespace Go.Proofs.YtgognegkcplcpaaGreatDoor
open Go.RowKit Go.Maps Go.Lib
variable {w : World} {a : Addr}
theorem tokenJoined_ok (one two : ByteArray) (w : World) (gl : Gl w a) (hb1 : one.size ≤ 1073741824) (hb2 : two.size ≤ 1073741824) : Calls Tryz.prog 8 #[.string one, .string two] w fun e w' => e = .returned (.bool true) ∧ Below w.heap.size w w' := by
  have hgl := fun w' (h : Below w.heap.size w w') => gl.below gl.size h
  have hall : ∀ w', Below w.heap.size w w' → ∀ b : ByteArray, b.size ≤ 2147483648 → Calls Tryz.prog 9 #[.string b] w' (AllEnd w' (refAll b)) := fun w' h b hb => by
    have := all_ok b w' (hgl w' h) hb
    rw [all_ref] at this
    exact this
  have href : ∀ (b : ByteArray), b.size ≤ 2147483648 → ∀ w', Calls Tryz.prog 10 #[.string b] w' (RefEnd w' (refAll b).2.1 (refAll b).2.2) := fun b hb w' => by
    refine (refAll_ok b w' hb).mono ?_
    rintro e w'' ⟨v, rfl, _, hbl⟩
    exact ⟨v, rfl, hbl⟩
  have hali := fun w' (h : Below w.heap.size w w') => alive_ok (hgl w' h)
  have hsz : (one ++ two).size = one.size + two.size := by simp
  have hadd : ∀ W, (Op.stringOp .add one two).run Tryz.prog W = .ok (.string (one ++ two)) W := fun W => run_string_add_sum _ _ _ (by omega)
  have p2 := places two
  have hj := refAll_joined one two
  have a1 := fun w' h => hall w' h one (by omega)
  have a2 := fun w' h => hall w' h two (by omega)
  have a3 := fun w' h => hall w' h (one ++ two) (by rw [hsz]; omega)
  have r1 := href one (by omega)
  have r2 := href two (by omega)
  clear hall href
  generalize h1 : refAll one = Z1 at *
  generalize h2 : refAll two = Z2 at *
  obtain ⟨T1, n1, q1⟩ := Z1
  obtain ⟨T2, n2, q2⟩ := Z2
  simp only at *
  by_cases hn1 : n1 = 0
  · subst hn1
    have hlast : (∃ m, T1.length = m + 1) ∨ T1.length = 0 := by
      cases hT : T1.length with
      | zero => exact Or.inr rfl
      | succ m => exact Or.inl ⟨m, rfl⟩
    have both : (∀ (h : 0 < T1.length), (T1[T1.length - 1]).kind ≠ 3) → (∀ (L : List Tok) (n3 q3 : Int), refAll (one ++ two) = (L, n3, q3) → (n2 = 0 → n3 = 0 ∧ L = T1 ++ T2.map (Tok.on one.size)) ∧ (n2 ≠ 0 → n3 = n2 ∧ q3 = q2 + one.size)) := by
      intro hk L n3 q3 e
      have e2 := hj T1 q1 rfl hk
      rw [e] at e2
      constructor
      · intro hn
        rw [if_pos hn] at e2
        simp only [Prod.mk.injEq] at e2
        exact ⟨e2.2.1, e2.1⟩
      · intro hn
        rw [if_neg hn] at e2
        simp only [Prod.mk.injEq] at e2
        exact ⟨e2.2.1, e2.2.2⟩
    generalize h3 : refAll (one ++ two) = Z3 at *
    obtain ⟨L, n3, q3⟩ := Z3
    have hright : L = T1 ++ T2.map (Tok.on one.size) → (∀ k (h : k < T1.length) (h' : k < L.length), L[k] = T1[k]) ∧ (∀ k j (h' : k < L.length) (hj : j < T2.length), k = T1.length + j → L[k] = (T2[j]).on one.size) ∧ L.length = T1.length + T2.length := by
      rintro rfl
      refine ⟨fun k h h' => joined_left _ _ _ k h h', fun k j h' hj e => ?_, by simp⟩
      have := joined_right T1 T2 one.size k (by omega) h' (by omega)
      rw [this]
      simp only [show k - T1.length = j by omega]
    have hat : ∀ j (hj : j < T2.length), 0 ≤ (T2[j]).at_ ∧ (T2[j]).at_ + one.size ≤ 4294967296 := fun j hj => by
      have := p2.1 (T2[j]) (List.getElem_mem hj)
      omega
    rcases hlast with ⟨m, hm⟩ | hm
    · obtain ⟨kd, hkd⟩ : ∃ kd : Int, ∀ h : m < T1.length, (T1[m]).kind = kd := ⟨(T1[m]'(by omega)).kind, fun _ => rfl⟩
      by_cases hk3 : kd = 3
      · exact joined_text one two w T1 T2 0 n2 q1 q2 a1 a2 r1 r2 hali m kd hm hkd (by simpa using hk3) rfl
      · have hk : ∀ (h : 0 < T1.length), (T1[T1.length - 1]).kind ≠ 3 := fun h => by
          have := hkd (by omega)
          simp only [hm, Nat.add_sub_cancel]
          rw [this]; exact hk3
        have hb := both hk L n3 q3 rfl
        have e3 : (kd == 3) = false := by simpa using hk3
        by_cases hn2 : n2 = 0
        · obtain ⟨x1, x2⟩ := hb.1 hn2
          obtain ⟨y1, y2, y3⟩ := hright x2
          exact joined_bothM one two w T1 T2 0 n2 q1 q2 a1 a2 r1 r2 hali L n3 q3 a3 hadd y1 y2 y3 hat m kd hm hkd e3 rfl hn2 x1
        · obtain ⟨x1, x2⟩ := hb.2 hn2
          exact joined_twoM one two w T1 T2 0 n2 q1 q2 a1 a2 r1 r2 hali L n3 q3 a3 hadd m kd hm hkd e3 rfl hn2 x1 x2 p2.2.1 (by omega)
    · have hk : ∀ (h : 0 < T1.length), (T1[T1.length - 1]).kind ≠ 3 := fun h => by omega
      have hb := both hk L n3 q3 rfl
      by_cases hn2 : n2 = 0
      · obtain ⟨x1, x2⟩ := hb.1 hn2
        obtain ⟨y1, y2, y3⟩ := hright x2
        exact joined_bothE one two w T1 T2 0 n2 q1 q2 a1 a2 r1 r2 hali L n3 q3 a3 hadd y1 y2 y3 hat hm rfl hn2 x1
      · obtain ⟨x1, x2⟩ := hb.2 hn2
        exact joined_twoE one two w T1 T2 0 n2 q1 q2 a1 a2 r1 r2 hali L n3 q3 a3 hadd (List.eq_nil_of_length_eq_zero hm) rfl hn2 x1 x2 p2.2.1 (by omega)
  · exact joined_bad one two w T1 T2 n1 n2 q1 q2 a1 a2 r1 r2 hali hn1
end Go.Proofs.YtgognegkcplcpaaGreatDoor
