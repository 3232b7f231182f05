import Derived.Test.YtfolnkmbdmfigaaGreatDoorHqh
set_option linter.unusedVariables false
set_option linter.unusedSimpArgs false
set_option linter.unusedSimpArgs false
set_option linter.unusedVariables false
namespace Go.Proofs.YtfolnkmbdmfigaaGreatDoor
open Go.RowKit Go.Maps Go.Lib
variable {w w' w1 wr : World} {a : Addr}
theorem bon {A B C : World} (h1 : Below A.heap.size A B) (h2 : Below B.heap.size B C) : Below A.heap.size A C := h1.trans (below_less h2 h1.size)
set_option maxHeartbeats 8000000 in
set_option maxRecDepth 100000 in
theorem treePrints_bad (s : ByteArray) (k : Int) (w : World) (gl : Gl w a) (hb : s.size ≤ 268435456) (h0 : (parseN s).2.1 ≠ 0) : Calls Tryz.prog 4 #[.string s, .int .i64 k] w fun e w' => e = .returned (.bool true) ∧ Below w.heap.size w w' := by
  have h2 := rparse_ok s w hb
  have hP : ∀ W, Below w.heap.size w W → Calls Tryz.prog 14 #[.string s] W (WEnd W [] (parseN s).2.1 (parseN s).2.2) := fun W hW => print_bad s (gl.up hW) hb h0
  have hS : ∀ W, Below w.heap.size w W → Calls Tryz.prog 15 #[.string s, .int .i64 k] W (WEnd W [] (parseN s).2.1 (parseN s).2.2) := fun W hW => sub_bad s k (gl.up hW) hb h0
  have hV : ∀ W, Below w.heap.size w W → Calls Tryz.prog 16 #[.string s, .int .i64 k] W (WEnd W [] (parseN s).2.1 (parseN s).2.2) := fun W hW => value_bad s k (gl.up hW) hb h0
  have h3 : ∀ W, Below w.heap.size w W → Calls Tryz.prog 13 #[] W fun e w' => e = .returned (.bool true) ∧ Below W.heap.size W w' := fun W hW => alive_ok (gl.up hW)
  have H2 := hide h2
  have HP := hide hP
  have HS := hide hS
  have HV := hide hV
  have H3 := hide h3
  clear h2 h3 hP hS hV gl
  generalize parseN s = x at *
  obtain ⟨L, no, q⟩ := x
  have hno : (no == no) = true := by simp
  have hq : (q == q) = true := by simp
  have hz : (no != 0) = true := by simpa using h0
  go_enter Tryz.func4, Tryz.ntmps4
  go_wp2_with (first
    | (go_at_call 10; refine H2.out.mono ?_; rintro e w1 ⟨v, rfl, _, b1⟩; have B1 := hide b1; clear b1)
    | (go_at_call 14; refine (HP.out _ B1.out).mono ?_; rintro e w2 ⟨rfl, b2⟩; have B2 := hide (bon B1.out b2); clear b2)
    | (go_at_call 15; refine (HS.out _ B2.out).mono ?_; rintro e w3 ⟨rfl, b3⟩; have B3 := hide (bon B2.out b3); clear b3)
    | (go_at_call 16; refine (HV.out _ B3.out).mono ?_; rintro e w4 ⟨rfl, b4⟩; have B4 := hide (bon B3.out b4); clear b4)
    | (go_at_call 12; refine (num_ok _ _).mono ?_; rintro e w5 ⟨rfl, rfl⟩)
    | (go_at_call 13; refine (H3.out _ B4.out).mono ?_; rintro e w6 ⟨rfl, b6⟩; have B6 := hide (bon B4.out b6); clear b6))
  go_ret
  exact ⟨rfl, B6.out⟩
set_option maxHeartbeats 8000000 in
set_option maxRecDepth 100000 in
theorem treePrints_range (s : ByteArray) (k : Int) (w : World) (gl : Gl w a) (hb : s.size ≤ 268435456) (h0 : (parseN s).2.1 = 0) (hk : k < 0 ∨ ((parseN s).1.length : Int) ≤ k) : Calls Tryz.prog 4 #[.string s, .int .i64 k] w fun e w' => e = .returned (.bool true) ∧ Below w.heap.size w w' := by
  have h2 := rparse_ok s w hb
  obtain ⟨hq0, n, at_, f, hw⟩ := whole_of h0
  have hx := hw.first (by omega)
  obtain ⟨x, hxe⟩ : ∃ x, Fo.elem n at_ f .nil = x := ⟨_, rfl⟩
  rw [hxe] at hx
  have hP : ∀ W, Below w.heap.size w W → Calls Tryz.prog 14 #[.string s] W (WEnd W x.plain 0 0) := fun W hW => print_good s (gl.up hW) hb h0 hx
  have hS : ∀ W, Below w.heap.size w W → Calls Tryz.prog 15 #[.string s, .int .i64 k] W (WEnd W [] 9 0) := fun W hW => sub_range s k (gl.up hW) hb h0 hk
  have hV : ∀ W, Below w.heap.size w W → Calls Tryz.prog 16 #[.string s, .int .i64 k] W (WEnd W [] 9 0) := fun W hW => value_range s k (gl.up hW) hb h0 hk
  obtain ⟨u, hu⟩ := hx.ex
  have hR : ∀ v A K av kv W, Nodes 76 82 A K W v (parseN s).1 av kv → Calls Tryz.prog 17 #[v, .int .i64 0] W fun e w' => e = .returned (.string ⟨x.plain.toArray⟩) ∧ Below W.heap.size W w' := fun v A K av kv W hn => rplain_ok x.size x 0 u W (Nat.le_refl _) hx.one hx.all hu hn hx.len
  have H2 := hide h2
  have HP := hide hP
  have HS := hide hS
  have HV := hide hV
  have HR := hide hR
  clear h2 hP hS hV gl hR hw hx hu hxe
  generalize parseN s = xx at *
  obtain ⟨L, no, q⟩ := xx
  simp only at h0 hq0 hk
  subst h0
  subst hq0
  generalize x.plain = PL at *
  have hpl : (PL == PL) = true := by simp
  have hpl2 : (PL != PL) = false := by simp
  by_cases hk0 : k < 0
  · have hd : decide (k < 0) = true := by simpa using hk0
    clear hk
    go_enter Tryz.func4, Tryz.ntmps4
    go_wp2_with (first
      | (go_at_call 10; refine H2.out.mono ?_; rintro e w1 ⟨v, rfl, ⟨A1, K1, av1, kv1, hn⟩, b1⟩; obtain ⟨ai, ac, rfl⟩ := slice_len hn.row; have N1 := hide hn; have B1 := hide b1; clear b1 hn)
      | (go_at_call 14; refine (HP.out _ B1.out).mono ?_; rintro e w2 ⟨rfl, b2⟩; have N2 := hide (N1.out.later b2); have B2 := hide (bon B1.out b2); clear b2)
      | (go_at_call 15; refine (HS.out _ B2.out).mono ?_; rintro e w3 ⟨rfl, b3⟩; have N3 := hide (N2.out.later b3); have B3 := hide (bon B2.out b3); clear b3)
      | (go_at_call 16; refine (HV.out _ B3.out).mono ?_; rintro e w4 ⟨rfl, b4⟩; have N4 := hide (N3.out.later b4); have B4 := hide (bon B3.out b4); clear b4)
      | (go_at_call 12; refine (num_ok _ _).mono ?_; rintro e w5 ⟨rfl, rfl⟩)
      | (go_at_call 17; refine (HR.out _ _ _ _ _ _ N4.out).mono ?_; rintro e w6 ⟨rfl, b6⟩; have B6 := hide (bon B4.out b6); clear b6))
    go_ret
    exact ⟨rfl, B6.out⟩
  · have hd : decide (k < 0) = false := by simpa using hk0
    have hge : (L.length : Int) ≤ k := by omega
    have hd2 : decide (k ≥ (L.length : Int)) = true := by simpa using hge
    have hd3 : decide ((L.length : Int) ≤ k) = true := by simpa using hge
    clear hk
    go_enter Tryz.func4, Tryz.ntmps4
    go_wp2_with (first
      | (go_at_call 10; refine H2.out.mono ?_; rintro e w1 ⟨v, rfl, ⟨A1, K1, av1, kv1, hn⟩, b1⟩; obtain ⟨ai, ac, rfl⟩ := slice_len hn.row; have N1 := hide hn; have B1 := hide b1; clear b1 hn)
      | (go_at_call 14; refine (HP.out _ B1.out).mono ?_; rintro e w2 ⟨rfl, b2⟩; have N2 := hide (N1.out.later b2); have B2 := hide (bon B1.out b2); clear b2)
      | (go_at_call 15; refine (HS.out _ B2.out).mono ?_; rintro e w3 ⟨rfl, b3⟩; have N3 := hide (N2.out.later b3); have B3 := hide (bon B2.out b3); clear b3)
      | (go_at_call 16; refine (HV.out _ B3.out).mono ?_; rintro e w4 ⟨rfl, b4⟩; have N4 := hide (N3.out.later b4); have B4 := hide (bon B3.out b4); clear b4)
      | (go_at_call 12; refine (num_ok _ _).mono ?_; rintro e w5 ⟨rfl, rfl⟩)
      | (go_at_call 17; refine (HR.out _ _ _ _ _ _ N4.out).mono ?_; rintro e w6 ⟨rfl, b6⟩; have B6 := hide (bon B4.out b6); clear b6))
    go_ret
    exact ⟨rfl, B6.out⟩
end Go.Proofs.YtfolnkmbdmfigaaGreatDoor

set_option linter.unusedSimpArgs false
set_option linter.unusedVariables false
namespace Go.Proofs.YtfolnkmbdmfigaaGreatDoor
open Go.RowKit Go.Maps Go.Lib
variable {w w' w1 wr : World} {a : Addr}
set_option maxHeartbeats 8000000 in
set_option maxRecDepth 100000 in
theorem treePrints_good (s : ByteArray) (m : Nat) (w : World) (gl : Gl w a) (hb : s.size ≤ 268435456) (h0 : (parseN s).2.1 = 0) (hm : m < (parseN s).1.length) : Calls Tryz.prog 4 #[.string s, .int .i64 (m : Int)] w fun e w' => e = .returned (.bool true) ∧ Below w.heap.size w w' := by
  have h2 := rparse_ok s w hb
  obtain ⟨hq0, n, at_, f, hw⟩ := whole_of h0
  have hx := hw.first (by omega)
  obtain ⟨x, hxe⟩ : ∃ x, Fo.elem n at_ f .nil = x := ⟨_, rfl⟩
  rw [hxe] at hx
  obtain ⟨y, hy, _⟩ := hw.leaf (by omega) m hm
  have hP : ∀ W, Below w.heap.size w W → Calls Tryz.prog 14 #[.string s] W (WEnd W x.plain 0 0) := fun W hW => print_good s (gl.up hW) hb h0 hx
  have hS : ∀ W, Below w.heap.size w W → Calls Tryz.prog 15 #[.string s, .int .i64 (m : Int)] W (WEnd W y.plain 0 0) := fun W hW => sub_good s m (gl.up hW) hb h0 hy
  have hV : ∀ W, Below w.heap.size w W → Calls Tryz.prog 16 #[.string s, .int .i64 (m : Int)] W (WEnd W y.value 0 0) := fun W hW => value_good s m (gl.up hW) hb h0 hy
  have h3 : ∀ W, Below w.heap.size w W → Calls Tryz.prog 13 #[] W fun e w' => e = .returned (.bool true) ∧ Below W.heap.size W w' := fun W hW => alive_ok (gl.up hW)
  obtain ⟨u, hu⟩ := hx.ex
  obtain ⟨u2, hu2⟩ := hy.ex
  have hR : ∀ v A K av kv W, Nodes 76 82 A K W v (parseN s).1 av kv → Calls Tryz.prog 17 #[v, .int .i64 0] W fun e w' => e = .returned (.string ⟨x.plain.toArray⟩) ∧ Below W.heap.size W w' := fun v A K av kv W hn => rplain_ok x.size x 0 u W (Nat.le_refl _) hx.one hx.all hu hn hx.len
  have hR2 : ∀ v A K av kv W, Nodes 76 82 A K W v (parseN s).1 av kv → Calls Tryz.prog 17 #[v, .int .i64 (m : Int)] W fun e w' => e = .returned (.string ⟨y.plain.toArray⟩) ∧ Below W.heap.size W w' := fun v A K av kv W hn => rplain_ok y.size y m u2 W (Nat.le_refl _) hy.one hy.all hu2 hn hy.len
  have hR3 : ∀ v A K av kv W, Nodes 76 82 A K W v (parseN s).1 av kv → Calls Tryz.prog 18 #[v, .int .i64 (m : Int)] W fun e w' => e = .returned (.string ⟨y.value.toArray⟩) ∧ Below W.heap.size W w' := fun v A K av kv W hn => rvalue_ok y.size y m u2 W (Nat.le_refl _) hy.one hy.all hu2 hn hy.vlen
  have H2 := hide h2
  have HP := hide hP
  have HS := hide hS
  have HV := hide hV
  have HR := hide hR
  have HR2 := hide hR2
  have HR3 := hide hR3
  have H3 := hide h3
  clear h2 hP hS hV gl hR hR2 hR3 h3 hw hx hu hxe hy hu2
  generalize parseN s = xx at *
  obtain ⟨L, no, q⟩ := xx
  simp only at h0 hq0 hm
  subst h0
  subst hq0
  generalize x.plain = PL at *
  generalize y.plain = PY at *
  generalize y.value = VY at *
  have hpl : (PL == PL) = true := by simp
  have hpl2 : (PL != PL) = false := by simp
  have hpy : (PY == PY) = true := by simp
  have hvy : (VY == VY) = true := by simp
  have hd : decide ((m : Int) < 0) = false := by simp
  have hd2 : decide ((m : Int) ≥ (L.length : Int)) = false := by simp; omega
  have hd3 : decide ((L.length : Int) ≤ (m : Int)) = false := by simp; omega
  have hd4 : decide (L.length ≤ m) = false := by simp; omega
  clear hm hd4
  generalize (m : Int) = z at *
  go_enter Tryz.func4, Tryz.ntmps4
  go_wp2_with (first
    | (go_at_call 10; refine H2.out.mono ?_; rintro e w1 ⟨v, rfl, ⟨A1, K1, av1, kv1, hn⟩, b1⟩; obtain ⟨ai, ac, rfl⟩ := slice_len hn.row; have N1 := hide hn; have B1 := hide b1; clear b1 hn)
    | (go_at_call 14; refine (HP.out _ B1.out).mono ?_; rintro e w2 ⟨rfl, b2⟩; have N2 := hide (N1.out.later b2); have B2 := hide (bon B1.out b2); clear b2)
    | (go_at_call 15; refine (HS.out _ B2.out).mono ?_; rintro e w3 ⟨rfl, b3⟩; have N3 := hide (N2.out.later b3); have B3 := hide (bon B2.out b3); clear b3)
    | (go_at_call 16; refine (HV.out _ B3.out).mono ?_; rintro e w4 ⟨rfl, b4⟩; have N4 := hide (N3.out.later b4); have B4 := hide (bon B3.out b4); clear b4)
    | (go_at_call 12; refine (num_ok _ _).mono ?_; rintro e w5 ⟨rfl, rfl⟩)
    | (go_at_call 17; first | (refine (HR.out _ _ _ _ _ _ N4.out).mono ?_; rintro e w6 ⟨rfl, b6⟩; have N6 := hide (N4.out.later b6); have B6 := hide (bon B4.out b6); clear b6 HR) | (refine (HR2.out _ _ _ _ _ _ N6.out).mono ?_; rintro e w7 ⟨rfl, b7⟩; have N7 := hide (N6.out.later b7); have B7 := hide (bon B6.out b7); clear b7))
    | (go_at_call 18; refine (HR3.out _ _ _ _ _ _ N7.out).mono ?_; rintro e w8 ⟨rfl, b8⟩; have B8 := hide (bon B7.out b8); clear b8)
    | (go_at_call 13; refine (H3.out _ B8.out).mono ?_; rintro e w9 ⟨rfl, b9⟩; have B9 := hide (bon B8.out b9); clear b9))
  go_ret
  exact ⟨rfl, B9.out⟩
theorem treePrints_ok (s : ByteArray) (k : Int) (w : World) (gl : Gl w a) (hb : s.size ≤ 268435456) : Calls Tryz.prog 4 #[.string s, .int .i64 k] w fun e w' => e = .returned (.bool true) ∧ Below w.heap.size w w' := by
  by_cases h0 : (parseN s).2.1 = 0
  · by_cases hk : k < 0 ∨ ((parseN s).1.length : Int) ≤ k
    · exact treePrints_range s k w gl hb h0 hk
    · obtain ⟨m, rfl⟩ : ∃ m : Nat, k = m := ⟨k.toNat, by omega⟩
      exact treePrints_good s m w gl hb h0 (by omega)
  · exact treePrints_bad s k w gl hb h0
end Go.Proofs.YtfolnkmbdmfigaaGreatDoor
