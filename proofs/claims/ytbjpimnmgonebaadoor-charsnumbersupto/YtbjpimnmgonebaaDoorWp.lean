import Derived.Test.YtbjpimnmgonebaaDoorWj
import Derived.Test.YtbjpimnmgonebaaDoorPu
namespace Go.Proofs.YtbjpimnmgonebaaDoor
open Go.RowKit

theorem escL_le (q : Bool) (L : List UInt8) : (Ch.escL q L).length ≤ 6 * L.length := by
  induction L with
  | nil => simp [Ch.escL]
  | cons c L ih =>
    have h1 : (Ch.escB q c).length ≤ 6 := by
      unfold Ch.escB
      split
      · simp
      · exact Ch.refFor_le _ _
    have e : Ch.escL q (c :: L) = Ch.escB q c ++ Ch.escL q L := by simp [Ch.escL]
    rw [e]
    simp only [List.length_append, List.length_cons]
    omega

theorem unescape_is (s : ByteArray) (w : World) (L : List UInt8) (e at' : Int) (hs : s.size ≤ 140737488351232) (hT : Tab w) (h : Ch.unesc s = (L, e, at')) :
    Calls Tryd.prog 13 #[.string s] w fun x w' => x = .returned (.tuple #[.string ⟨L.toArray⟩, .int .i64 e, .int .i64 at']) ∧ Below w.heap.size w w' := by
  have := unescape_any s w hs hT
  rw [h] at this
  exact this

theorem escape_is (s E : ByteArray) (q : Bool) (w : World) (hs : s.size ≤ 1099511627776) (h : Ch.txt (Ch.esc s q) = E) :
    Calls Tryd.prog 16 #[.string s, .bool q] w fun e w' => e = .returned (.string E) ∧ Below w.heap.size w w' := by
  subst h
  exact escape_any s q w hs

/-- The signs that an escaped text has not. -/
theorem sign_facts {E : ByteArray} {q : Bool} {L : List UInt8} (hE : E = Ch.txt (Ch.escL q L)) (i : Nat) (h : i < E.size) :
    ((E[i].toNat : Int) == 60) = false ∧ ((E[i].toNat : Int) == 62) = false ∧ ((E[i].toNat : Int) == 13) = false ∧ (q = true → ((E[i].toNat : Int) == 34) = false ∧ ((E[i].toNat : Int) == 9) = false ∧ ((E[i].toNat : Int) == 10) = false) := by
  subst hE
  have hl : i < (Ch.escL q L).length := by rw [Ch.txt_size] at h; exact h
  have hx : (Ch.txt (Ch.escL q L))[i] ∈ Ch.escL q L := by
    have : (Ch.txt (Ch.escL q L))[i] = (Ch.escL q L)[i] := rfl
    rw [this]; exact List.getElem_mem hl
  obtain ⟨a, b, c, d⟩ := Ch.signs _ hx
  generalize (Ch.txt (Ch.escL q L))[i] = x at *
  have key : ∀ y : UInt8, x ≠ y → ((x.toNat : Int) == (y.toNat : Int)) = false := by
    intro y hy
    rw [beq_eq_false_iff_ne]
    intro e
    exact hy (UInt8.toNat_inj.1 (by omega))
  exact ⟨key 60 a, key 62 b, key 13 c, fun h => ⟨key 34 (d h).1, key 9 (d h).2.1, key 10 (d h).2.2⟩⟩

set_option maxHeartbeats 4000000 in
set_option maxRecDepth 1000000 in
theorem lawBack (s : ByteArray) (q : Bool) (w : World) (hs : s.size ≤ 1048576) (hT : Tab w) : Calls Tryd.prog 6 #[.string s, .bool q] w fun e w' => e = .returned (.bool true) ∧ Below w.heap.size w w' := by
  have hB0 := tab_size hT
  have hbk := Ch.back s q
  have hsg := fun E hE => sign_facts (E := E) (q := q) (L := s.data.toList) hE
  have hsz : (Ch.txt (Ch.esc s q)).size ≤ 6 * s.size := by
    rw [Ch.txt_size]
    have := escL_le q s.data.toList
    simpa [Ch.esc] using this
  have hbl : Ch.bad s ≤ s.size := Ch.badFrom_le s _ _ (by omega)
  obtain ⟨E, hE⟩ : ∃ E, Ch.txt (Ch.esc s q) = E := ⟨_, rfl⟩
  rw [hE] at hbk hsz
  have HS := hide (hsg E hE.symm)
  have HE := hide hE
  clear hsg hE
  by_cases hbad : Ch.bad s = s.size
  · rw [if_pos hbad] at hbk
    have HB := hide hbk
    have HBD := hide hbad
    clear hbk hbad
    have hq : ((Ch.bad s : Int) == (s.size : Int)) = true := by rw [beq_iff_eq, HBD.out]
    go_enter Tryd.func6, Tryd.ntmps6
    go_wp2_with (first | (go_at_call 16; refine (escape_is s E q _ (by omega) HE.out).mono ?_; rintro e w1 ⟨rfl, b1⟩) | (go_at_call 13; refine (unescape_is E _ _ _ _ (by omega) (tab_below hT hB0 b1) HB.out).mono ?_; rintro e w2 ⟨rfl, b2⟩) | (go_at_call 8; refine (badC_any _ _ (by omega)).mono ?_; rintro e w3 ⟨rfl, b3⟩))
    have hb := below_on (below_on b1 b2) b3
    go_loop [10] (fun i => ∃ k : Nat, k ≤ E.size ∧ i = .int .i64 k) (fun i => E.size - (intOf i).toNat)
    case atStart => exact ⟨0, by omega, rfl⟩
    case round =>
      obtain ⟨k, hk, rfl⟩ := hrel
      by_cases hlt : k < E.size
      · obtain ⟨f1, f2, f3, f4⟩ := HS.out k hlt
        cases q
        · go_wp2
          exact ⟨⟨k + 1, by omega, by go_num⟩, by simp [intOf]; omega⟩
        · obtain ⟨f5, f6, f7⟩ := f4 rfl
          clear f4
          go_wp2
          exact ⟨⟨k + 1, by omega, by go_num⟩, by simp [intOf]; omega⟩
      · go_wp2_with (go_at_call 15; refine (num_any _ _).mono ?_; rintro e w' ⟨rfl, rfl⟩)
        go_ret
        exact ⟨rfl, hb⟩
  · rw [if_neg hbad] at hbk
    have HB := hide hbk
    have hge := Ch.pre_ge (q := q) (L := s.data.toList) (p := Ch.bad s) (by simpa using hbl)
    have hq : ((Ch.bad s : Int) == (s.size : Int)) = false := by rw [beq_eq_false_iff_ne]; omega
    clear hbk hbad
    generalize Ch.pre q s.data.toList (Ch.bad s) = P at *
    go_enter Tryd.func6, Tryd.ntmps6
    go_wp2_with (first | (go_at_call 16; refine (escape_is s E q _ (by omega) HE.out).mono ?_; rintro e w1 ⟨rfl, b1⟩) | (go_at_call 13; refine (unescape_is E _ _ _ _ (by omega) (tab_below hT hB0 b1) HB.out).mono ?_; rintro e w2 ⟨rfl, b2⟩) | (go_at_call 8; refine (badC_any _ _ (by omega)).mono ?_; rintro e w3 ⟨rfl, b3⟩) | (go_at_call 15; refine (num_any _ _).mono ?_; rintro e w' ⟨rfl, rfl⟩) | (go_at_call 10; refine (alive_any _ (tab_below hT hB0 (below_on (below_on b1 b2) b3))).mono ?_; rintro e w4 ⟨rfl, b4⟩))
    go_ret
    exact ⟨rfl, below_on (below_on (below_on b1 b2) b3) b4⟩
end Go.Proofs.YtbjpimnmgonebaaDoor
