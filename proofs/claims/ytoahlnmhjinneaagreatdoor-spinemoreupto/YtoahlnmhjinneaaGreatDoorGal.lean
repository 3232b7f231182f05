import Derived.Test.YtoahlnmhjinneaaGreatDoorGak
set_option linter.unusedVariables false
set_option linter.unusedSimpArgs false
set_option linter.unusedSimpArgs false
set_option linter.unusedVariables false
namespace Go.Proofs.YtoahlnmhjinneaaGreatDoor
open Go.RowKit Go.Maps Go.Lib
variable {w w' w1 w2 W0 W1 W2 W3 W4 WO wr W W5 : World} {A A' F G : Nat → Prop} {X lo : Nat} {q l l' p : L} {s s' : RS} {v v' vp : Value}
theorem okw_le {b : UInt8} {r : L} (h : (b :: r) <:+ q) : okw q (b :: r) ≤ (b :: r).length ∧ (Ch.at2 (bs q) (q.length - (b :: r).length)).2 = (okw q (b :: r) : Int) := by
  have hle := h.length_le
  have hlt : q.length - (b :: r).length < (bs q).size := by rw [bs_size]; simp at hle ⊢; omega
  have := Ch.decode_width (bs q) (q.length - (b :: r).length) hlt
  rw [bs_size] at this
  have h0 := at2_nonneg (bs q) (q.length - (b :: r).length)
  refine ⟨?_, by unfold okw; omega⟩
  unfold okw
  rw [Ch.at2_pos _ _ hlt]
  split
  · simp only [Int.toNat_natCast]; simp at hle this ⊢; omega
  · simp
structure QL (X : Nat) (q : L) (c : UInt8) (s : RS) (w wr : World) (l : L) : Prop where
  xr : XR X q wr { s with l := l }
  fr : Fr (fun k => k = X) w wr
  suf : l <:+ s.l
  eq : ∃ f, l.length < f ∧ scan q c (s.l.length + 1) s.l = scan q c f l
theorem QL.start {c : UInt8} (h : XR X q wr s) (fr : Fr (fun k => k = X) w wr) : QL X q c s w wr s.l := ⟨h, fr, List.suffix_refl _, _, Nat.lt_succ_self _, rfl⟩
theorem QL.drewN {c : UInt8} (h : QL X q c s w wr l) (m : Nat) : QL X q c s w (wr.drewN m) l := ⟨h.xr.drewN m, h.fr.drewN m, h.suf, h.eq⟩
theorem QL.next {c b : UInt8} {r : L} (h : QL X q c s w wr (b :: r)) (hb : b ≠ c) (hz : okw q (b :: r) ≠ 0) (hx : XR X q w' { s with l := (b :: r).drop (okw q (b :: r)) }) (fr : Fr (fun k => k = X) wr w') : QL X q c s w w' ((b :: r).drop (okw q (b :: r))) ∧ ((b :: r).drop (okw q (b :: r))).length < (b :: r).length := by
  have hlt : ((b :: r).drop (okw q (b :: r))).length < (b :: r).length := by rw [List.length_drop]; simp; omega
  refine ⟨⟨hx, h.fr.same fr, (List.drop_suffix _ _).trans h.suf, ?_⟩, hlt⟩
  obtain ⟨f, e1, e2⟩ := h.eq
  cases f with
  | zero => omega
  | succ f => refine ⟨f, by omega, ?_⟩; rw [e2, scan]; simp only [hb, hz, if_false]
theorem QL.nil {c : UInt8} (h : QL X q c s w wr []) : quoteR q c s = ([], RS.fail q 3 { s with l := [] }) := by
  obtain ⟨f, e1, e2⟩ := h.eq
  cases f with
  | zero => omega
  | succ f => unfold quoteR; rw [e2, scan]; rfl
theorem QL.bad {c b : UInt8} {r : L} (h : QL X q c s w wr (b :: r)) (hb : b ≠ c) (hz : okw q (b :: r) = 0) : quoteR q c s = ([], RS.fail q 2 { s with l := b :: r }) := by
  obtain ⟨f, e1, e2⟩ := h.eq
  cases f with
  | zero => omega
  | succ f => unfold quoteR; rw [e2, scan]; simp only [hb, hz, if_false, if_true]; rfl
theorem QL.hit {c : UInt8} {r : L} (h : QL X q c s w wr (c :: r)) : quoteR q c s = (s.l.take (s.l.length - (c :: r).length), { s with l := r }) := by
  obtain ⟨f, e1, e2⟩ := h.eq
  cases f with
  | zero => omega
  | succ f => unfold quoteR; rw [e2, scan]; simp
set_option maxHeartbeats 16000000 in
set_option maxRecDepth 100000 in
theorem quote34_ok (h : XR X q w s) (hb : s.is [34] = true) : Calls Tryz.prog 170 #[ptr X] w (XS X q w (quoteR q 34 (s.has [34])).1 (quoteR q 34 (s.has [34])).2) := by
  have HI := hide (hasR_ok (p := [34]) h (by decide) (by decide))
  rw [hb] at HI
  generalize s.has [34] = s1 at *
  obtain ⟨Y, hY⟩ : ∃ Y, quoteR q 34 s1 = Y := ⟨_, rfl⟩
  rw [hY]
  have HX := hide hY
  clear hY h hb
  have HK : Hid (∀ W, XR X q W s1 → W.cell? ⟨X, 1, none⟩ = some (.int .i64 ((q.length - s1.l.length : Nat) : Int)) ∧ s1.l <:+ q) := fun W hW => ⟨hW.cells.2.1, hW.suf⟩
  obtain ⟨K0', hK0'⟩ : ∃ k, q.length - s1.l.length = k := ⟨_, rfl⟩
  have HK0 := hide hK0'
  rw [hK0'] at HK
  go_enter Tryz.func170, Tryz.ntmps170
  go_wp2_with (first | (go_at_call 54; refine HI.out.mono ?_; rintro e w2 ⟨rfl, hxl, frl⟩; obtain ⟨c9, hs9⟩ := HK.out _ hxl; have HS1 := hide hs9; clear hs9))
  have HL0 : Hid (QL X q 34 s1 w w2 s1.l) := QL.start hxl frl
  clear hxl frl c9
  clear hK0'
  go_loopw [5, 6, 17, 18, 19, 20, 21, 22, 23, 24, 25, 26, 27, 28, 29, 30, 31, 32, 33, 34, 35, 36, 37, 38, 39, 40, 41, 42, 43, 44, 45, 46, 47, 48, 49, 50, 51, 52, 53, 54, 55, 56, 57, 58, 59, 60, 61, 62, 63, 64, 65, 66, 67, 68, 69, 70, 71, 72, 73] (fun _ _ _ _ _ _ _ _ _ _ _ _ _ _ _ _ _ _ _ _ _ _ _ _ _ _ _ _ _ _ _ _ _ _ _ _ _ _ _ _ _ _ _ _ _ _ _ _ _ _ _ _ _ _ _ _ _ _ _ wr => ∃ l', QL X q 34 s1 w wr l') (fun _ _ _ _ _ _ _ _ _ _ _ _ _ _ _ _ _ _ _ _ _ _ _ _ _ _ _ _ _ _ _ _ _ _ _ _ _ _ _ _ _ _ _ _ _ _ _ _ _ _ _ _ _ _ _ _ _ _ _ wr => meaX X q wr)
  case atStart => exact ⟨_, HL0.out⟩
  case round =>
    rename World => WO
    obtain ⟨l', hL⟩ := hrel
    obtain ⟨c0, c1, c2, c3, c4⟩ := hL.xr.cells
    have hmea := hL.xr.mea
    have HL := hide hL
    have hz := bs_size q
    have hle := hL.xr.le
    simp only at c1
    cases l' with
    | nil =>
      have hX := HX.out
      rw [hL.nil] at hX
      subst hX
      have e0 : decide ((q.length - ([] : L).length : Nat) < q.length) = false := by simp
      have e1 : decide ((((q.length - ([] : L).length : Nat)) : Int) < (q.length : Int)) = false := by simp
      have e2 : decide ((q.length : Int) ≤ (((q.length - ([] : L).length : Nat)) : Int)) = true := by simp
      have e3 : decide (q.length ≤ q.length - ([] : L).length) = true := by simp
      have HF : Hid (∀ m, Calls Tryz.prog 57 #[ptr X, .int .i64 3, .int .i64 ((q.length - ([] : L).length : Nat) : Int)] (WO.drewN m) (XE X q (WO.drewN m) (RS.fail q 3 { s1 with l := [] }))) := fun m => failR_ok (hL.drewN m).xr 3
      have HF2 : Hid (∀ m m2, Calls Tryz.prog 57 #[ptr X, .int .i64 3, .int .i64 ((q.length - ([] : L).length : Nat) : Int)] ((WO.drewN m).drewN m2) (XE X q ((WO.drewN m).drewN m2) (RS.fail q 3 { s1 with l := [] }))) := fun m m2 => failR_ok ((hL.drewN m).drewN m2).xr 3
      clear hL hmea hle c2 c4
      generalize q.length - ([] : L).length = K at *
      go_wp2_with fail
      go_quiet (fail)
      go_wp2_with fail
      go_quiet (fail)
      go_wp2_with (first | (go_at_call 57; refine (HF.out _).mono ?_; rintro e w6 ⟨rfl, hx6, fr6⟩) | (go_at_call 57; refine (HF2.out _ _).mono ?_; rintro e w6 ⟨rfl, hx6, fr6⟩))
      go_ret
      first | exact ⟨rfl, hx6, ((HL.out.drewN _).drewN _).fr.same fr6⟩ | exact ⟨rfl, hx6, (HL.out.drewN _).fr.same fr6⟩
    | cons b r =>
      have hle2 : r.length + 1 ≤ q.length := by simpa using hle
      have e0 : decide (q.length - (b :: r).length < q.length) = true := by simp at hle ⊢; omega
      have e1 : decide (((q.length - (b :: r).length : Nat) : Int) < (q.length : Int)) = true := by simp at hle ⊢; omega
      have e2 : decide ((q.length : Int) ≤ (((q.length - (b :: r).length : Nat)) : Int)) = false := by simp at hle ⊢; omega
      have e3 : decide (q.length ≤ q.length - (b :: r).length) = false := by simp at hle ⊢; omega
      have hw1 : IntKind.i64.wrap (((q.length - (b :: r).length : Nat) : Int) + 1) = ((q.length - (b :: r).length : Nat) : Int) + 1 := by have := hL.xr.q5; rw [IntKind.wrap_i64]; omega
      have hsl : ∀ W, (Instr.slice 9 (.string (bs q)) (some (.int .i64 ((q.length - (b :: r).length : Nat) : Int))) (some (.int .i64 (((q.length - (b :: r).length : Nat) : Int) + 1))) none).run Tryz.prog W = .ok (.string (bs [b])) W := fun W => slice_run (t := q) hL.xr.suf 1 (by simp) W
      by_cases hb : b = 34
      · subst hb
        have hX := HX.out
        rw [hL.hit] at hX
        subst hX
        have hq1 : ((bs [34]).toList == [34]) = true := by rw [bs_toL]; rfl
        have hq2 : ((bs [34]).toList != [34]) = false := by rw [bs_toL]; rfl
        have hs5 := hL.suf.length_le
        have hnx : IntKind.i64.wrap (((q.length - (34 :: r : L).length : Nat) : Int) + 1) = ((q.length - r.length : Nat) : Int) := by have := hL.xr.q5; rw [IntKind.wrap_i64]; simp; omega
        have hsr : r <:+ q := (List.suffix_cons (34 : UInt8) r).trans hL.xr.suf
        have HS : Hid (∀ m, (WO.drewN m).frozen? ⟨X, 1, none⟩ = false ∧ XR X q ((WO.drewN m).setCell ⟨X, 1, none⟩ (.int .i64 ((q.length - r.length : Nat) : Int))) { s1 with l := r } ∧ Fr (fun k => k = X) w ((WO.drewN m).setCell ⟨X, 1, none⟩ (.int .i64 ((q.length - r.length : Nat) : Int)))) := fun m => by
          have h2 := hL.drewN m
          exact ⟨free_of h2.xr.blk, h2.xr.setL hsr, h2.fr.same (fr_set _ _ _ _)⟩
        have HC : Hid (∀ W, XR X q W { s1 with l := r } → W.cell? ⟨X, 0, none⟩ = some (.string (bs q)) ∧ W.cell? ⟨X, 1, none⟩ = some (.int .i64 ((q.length - r.length : Nat) : Int))) := fun W hW => ⟨hW.cells.1, hW.cells.2.1⟩
        have hTT : ∀ W, IntKind.i64.wrap (((q.length - r.length : Nat) : Int) - 1) = ((q.length - (34 :: r : L).length : Nat) : Int) ∧ (Instr.slice 9 (.string (bs q)) (some (.int .i64 (K0' : Int))) (some (.int .i64 ((q.length - (34 :: r : L).length : Nat) : Int))) none).run Tryz.prog W = .ok (.string (bs (s1.l.take (s1.l.length - (34 :: r : L).length)))) W := fun W => by
          have h1 := HS1.out.length_le
          have h5 := hL.xr.q5
          refine ⟨by rw [IntKind.wrap_i64]; simp; omega, ?_⟩
          have := slice_run (t := q) HS1.out (s1.l.length - (34 :: r : L).length) (Nat.sub_le _ _) W
          rw [HK0.out] at this
          have e : (K0' : Int) + ((s1.l.length - (34 :: r : L).length : Nat) : Int) = ((q.length - (34 :: r : L).length : Nat) : Int) := by rw [← HK0.out]; simp at hs5 ⊢; omega
          rw [e] at this
          exact this
        obtain ⟨hw3, -⟩ := hTT WO
        have hsl2 := fun W => (hTT W).2
        have eK : ((q.length - r.length : Nat) : Int) = ((q.length - (34 :: r : L).length : Nat) : Int) + 1 := by simp; omega
        rw [eK] at HS HC hw3
        have hw4 : IntKind.i64.wrap ((q.length - (34 :: r : L).length : Nat) : Int) = ((q.length - (34 :: r : L).length : Nat) : Int) := by have := hL.xr.q5; rw [IntKind.wrap_i64]; omega
        clear hL hmea hle c2 c4 hTT hs5 hsr hnx eK
        generalize s1.l.take (s1.l.length - (34 :: r : L).length) = TT at *
        generalize q.length - (34 :: r : L).length = K at *
        go_wp2_with fail
        go_quiet (fail)
        rename Nat => n1
        go_wp2_with fail
        go_quiet (fail)
        rename Nat => n2
        obtain ⟨f5, hx5, fr5⟩ := HS.out (n1 + n2)
        go_wp2_with fail
        obtain ⟨d0, d1⟩ := HC.out _ hx5
        go_quiet (fail)
        go_wp2
        go_ret
        exact ⟨rfl, hx5.drewN _, fr5.drewN _⟩
      · have hq1 : ((bs [b]).toList == [34]) = false := by rw [bs_toL]; simpa using hb
        have hq2 : ((bs [b]).toList != [34]) = true := by rw [bs_toL]; simpa using hb
        obtain ⟨hok, hok2⟩ := okw_le (q := q) hL.xr.suf
        have HA : Hid (∀ W, Calls Tryz.prog 56 #[.string (bs q), .int .i64 ((q.length - (b :: r).length : Nat) : Int)] W fun e w' => e = .returned (.tuple #[.int .i64 (Ch.at2 (bs q) (q.length - (b :: r).length)).1, .int .i64 (okw q (b :: r) : Int)]) ∧ w' = W) := fun W => by
          have := At_any (bs q) (q.length - (b :: r).length) W (by have := hL.xr.q5; rw [hz]; omega) (by rw [hz]; omega)
          rw [← hok2]; exact this
        clear hok2
        generalize (Ch.at2 (bs q) (q.length - (b :: r).length)).1 = a1 at *
        by_cases hk : okw q (b :: r) = 0
        · have hX := HX.out
          rw [hL.bad hb hk] at hX
          subst hX
          rw [hk] at HA
          have HF : Hid (∀ m m2, Calls Tryz.prog 57 #[ptr X, .int .i64 2, .int .i64 ((q.length - (b :: r).length : Nat) : Int)] ((WO.drewN m).drewN m2) (XE X q ((WO.drewN m).drewN m2) (RS.fail q 2 { s1 with l := b :: r }))) := fun m m2 => failR_ok ((hL.drewN m).drewN m2).xr 2
          have HC : Hid (∀ m, (WO.drewN m).cell? ⟨X, 0, none⟩ = some (.string (bs q)) ∧ (WO.drewN m).cell? ⟨X, 1, none⟩ = some (.int .i64 ((q.length - (b :: r).length : Nat) : Int))) := fun m => ⟨(hL.drewN m).xr.cells.1, (hL.drewN m).xr.cells.2.1⟩
          clear hL hmea hle c2 c4 hk hok
          generalize q.length - (b :: r).length = K at *
          go_wp2_with fail
          go_quiet (fail)
          go_wp2_with fail
          obtain ⟨g0, g1⟩ := HC.out nq
          go_region_held3 (fun W => W.cell? ⟨X, 0, none⟩ = some (.string (bs q)) ∧ W.cell? ⟨X, 1, none⟩ = some (.int .i64 (K : Int)))
            (first | exact ⟨g0, g1⟩)
            (first | (go_at_call 56; refine (HA.out _).mono ?_; rintro e w3 ⟨rfl, hw3⟩; have hw4 := hw3.symm; clear hw3; subst hw4))
          all_goals
            have HF2 := hide (HF.out nq 1)
            go_wp2_with (first | (go_at_call 57; refine (HF2.out).mono ?_; rintro e w6 ⟨rfl, hx6, fr6⟩))
            go_ret
            exact ⟨rfl, hx6, ((HL.out.drewN _).drewN _).fr.same fr6⟩
        · have hk2 : ((okw q (b :: r) : Int) == 0) = false := by simp; omega
          have hk3 : (okw q (b :: r) == 0) = false := by simpa using hk
          have HN : Hid (∀ m, (WO.drewN m).frozen? ⟨X, 1, none⟩ = false ∧ (WO.drewN m).cell? ⟨X, 1, none⟩ = some (.int .i64 ((q.length - (b :: r).length : Nat) : Int)) ∧ IntKind.i64.wrap (((q.length - (b :: r).length : Nat) : Int) + okw q (b :: r)) = ((q.length - ((b :: r).drop (okw q (b :: r))).length : Nat) : Int) ∧ ∃ l2, l2.length < (b :: r).length ∧ QL X q 34 s1 w ((WO.drewN m).setCell ⟨X, 1, none⟩ (.int .i64 ((q.length - ((b :: r).drop (okw q (b :: r))).length : Nat) : Int))) l2) := fun m => by
            have h2 := hL.drewN m
            obtain ⟨a1, a2, a3, a4⟩ := h2.xr.adv (okw q (b :: r)) hok
            obtain ⟨b1, b2⟩ := h2.next hb hk a3 a4
            exact ⟨a2, h2.xr.cells.2.1, a1, _, b2, b1⟩
          have HC : Hid (∀ m, (WO.drewN m).cell? ⟨X, 0, none⟩ = some (.string (bs q)) ∧ (WO.drewN m).cell? ⟨X, 1, none⟩ = some (.int .i64 ((q.length - (b :: r).length : Nat) : Int))) := fun m => ⟨(hL.drewN m).xr.cells.1, (hL.drewN m).xr.cells.2.1⟩
          have hmea2 : meaX X q WO = (b :: r).length := hmea
          clear hL hmea hle c2 c4 hk hok
          generalize q.length - ((b :: r).drop (okw q (b :: r))).length = K2 at *
          generalize okw q (b :: r) = N at *
          generalize (b :: r).length = BL at *
          generalize q.length - BL = K at *
          go_wp2_with fail
          go_quiet (fail)
          go_wp2_with fail
          obtain ⟨g0, g1⟩ := HC.out nq
          go_region_held3 (fun W => W.cell? ⟨X, 0, none⟩ = some (.string (bs q)) ∧ W.cell? ⟨X, 1, none⟩ = some (.int .i64 (K : Int)))
            (first | exact ⟨g0, g1⟩)
            (first | (go_at_call 56; refine (HA.out _).mono ?_; rintro e w3 ⟨rfl, hw3⟩; have hw4 := hw3.symm; clear hw3; subst hw4))
          all_goals
            obtain ⟨f5, d1, g5, l2, hl2, hS⟩ := HN.out (nq + 1)
            have HS2 := hide hS
            clear hS
            go_wp2_with fail
            exact ⟨⟨_, HS2.out⟩, by rw [HS2.out.xr.mea, hmea2]; exact hl2⟩
set_option maxHeartbeats 16000000 in
set_option maxRecDepth 100000 in
theorem quote39_ok (h : XR X q w s) (hb0 : s.is [34] = false) (hb : s.bl.is [39] = true) : Calls Tryz.prog 170 #[ptr X] w (XS X q w (quoteR q 39 (s.bl.has [39])).1 (quoteR q 39 (s.bl.has [39])).2) := by
  have HI0 := hide (hasR_ok (p := [34]) h (by decide) (by decide))
  rw [hb0, show s.has [34] = s.bl by unfold RS.has; rw [hb0]; rfl] at HI0
  have HI : Hid (∀ W, XR X q W s.bl → Calls Tryz.prog 54 #[ptr X, .string ⟨#[39]⟩] W (XB X q W true (s.bl.has [39]))) := fun W hW => by
    have := hasR_ok (p := [39]) hW (by decide) (by decide)
    rw [hb] at this; exact this
  generalize s.bl.has [39] = s1 at *
  obtain ⟨Y, hY⟩ : ∃ Y, quoteR q 39 s1 = Y := ⟨_, rfl⟩
  rw [hY]
  have HX := hide hY
  clear hY h hb hb0
  have HK : Hid (∀ W, XR X q W s1 → W.cell? ⟨X, 1, none⟩ = some (.int .i64 ((q.length - s1.l.length : Nat) : Int)) ∧ s1.l <:+ q) := fun W hW => ⟨hW.cells.2.1, hW.suf⟩
  obtain ⟨K0', hK0'⟩ : ∃ k, q.length - s1.l.length = k := ⟨_, rfl⟩
  have HK0 := hide hK0'
  rw [hK0'] at HK
  go_enter Tryz.func170, Tryz.ntmps170
  go_wp2_with (first | (go_at_call 54; refine (HI.out _ hx0).mono ?_; rintro e w3 ⟨rfl, hxl, frl⟩; have frl := fr0.same frl; obtain ⟨c9, hs9⟩ := HK.out _ hxl; have HS1 := hide hs9; clear hs9) | (go_at_call 54; refine HI0.out.mono ?_; rintro e w2 ⟨rfl, hx0, fr0⟩))
  have HL0 : Hid (QL X q 39 s1 w w3 s1.l) := QL.start hxl frl
  clear hxl frl c9 hx0 fr0
  clear hK0'
  go_loopw [5, 6, 17, 18, 19, 20, 21, 22, 23, 24, 25, 26, 27, 28, 29, 30, 31, 32, 33, 34, 35, 36, 37, 38, 39, 40, 41, 42, 43, 44, 45, 46, 47, 48, 49, 50, 51, 52, 53, 54, 55, 56, 57, 58, 59, 60, 61, 62, 63, 64, 65, 66, 67, 68, 69, 70, 71, 72, 73] (fun _ _ _ _ _ _ _ _ _ _ _ _ _ _ _ _ _ _ _ _ _ _ _ _ _ _ _ _ _ _ _ _ _ _ _ _ _ _ _ _ _ _ _ _ _ _ _ _ _ _ _ _ _ _ _ _ _ _ _ wr => ∃ l', QL X q 39 s1 w wr l') (fun _ _ _ _ _ _ _ _ _ _ _ _ _ _ _ _ _ _ _ _ _ _ _ _ _ _ _ _ _ _ _ _ _ _ _ _ _ _ _ _ _ _ _ _ _ _ _ _ _ _ _ _ _ _ _ _ _ _ _ wr => meaX X q wr)
  case atStart => exact ⟨_, HL0.out⟩
  case round =>
    rename World => WO
    obtain ⟨l', hL⟩ := hrel
    obtain ⟨c0, c1, c2, c3, c4⟩ := hL.xr.cells
    have hmea := hL.xr.mea
    have HL := hide hL
    have hz := bs_size q
    have hle := hL.xr.le
    simp only at c1
    cases l' with
    | nil =>
      have hX := HX.out
      rw [hL.nil] at hX
      subst hX
      have e0 : decide ((q.length - ([] : L).length : Nat) < q.length) = false := by simp
      have e1 : decide ((((q.length - ([] : L).length : Nat)) : Int) < (q.length : Int)) = false := by simp
      have e2 : decide ((q.length : Int) ≤ (((q.length - ([] : L).length : Nat)) : Int)) = true := by simp
      have e3 : decide (q.length ≤ q.length - ([] : L).length) = true := by simp
      have HF : Hid (∀ m, Calls Tryz.prog 57 #[ptr X, .int .i64 3, .int .i64 ((q.length - ([] : L).length : Nat) : Int)] (WO.drewN m) (XE X q (WO.drewN m) (RS.fail q 3 { s1 with l := [] }))) := fun m => failR_ok (hL.drewN m).xr 3
      have HF2 : Hid (∀ m m2, Calls Tryz.prog 57 #[ptr X, .int .i64 3, .int .i64 ((q.length - ([] : L).length : Nat) : Int)] ((WO.drewN m).drewN m2) (XE X q ((WO.drewN m).drewN m2) (RS.fail q 3 { s1 with l := [] }))) := fun m m2 => failR_ok ((hL.drewN m).drewN m2).xr 3
      clear hL hmea hle c2 c4
      generalize q.length - ([] : L).length = K at *
      go_wp2_with fail
      go_quiet (fail)
      go_wp2_with fail
      go_quiet (fail)
      go_wp2_with (first | (go_at_call 57; refine (HF.out _).mono ?_; rintro e w6 ⟨rfl, hx6, fr6⟩) | (go_at_call 57; refine (HF2.out _ _).mono ?_; rintro e w6 ⟨rfl, hx6, fr6⟩))
      go_ret
      first | exact ⟨rfl, hx6, ((HL.out.drewN _).drewN _).fr.same fr6⟩ | exact ⟨rfl, hx6, (HL.out.drewN _).fr.same fr6⟩
    | cons b r =>
      have hle2 : r.length + 1 ≤ q.length := by simpa using hle
      have e0 : decide (q.length - (b :: r).length < q.length) = true := by simp at hle ⊢; omega
      have e1 : decide (((q.length - (b :: r).length : Nat) : Int) < (q.length : Int)) = true := by simp at hle ⊢; omega
      have e2 : decide ((q.length : Int) ≤ (((q.length - (b :: r).length : Nat)) : Int)) = false := by simp at hle ⊢; omega
      have e3 : decide (q.length ≤ q.length - (b :: r).length) = false := by simp at hle ⊢; omega
      have hw1 : IntKind.i64.wrap (((q.length - (b :: r).length : Nat) : Int) + 1) = ((q.length - (b :: r).length : Nat) : Int) + 1 := by have := hL.xr.q5; rw [IntKind.wrap_i64]; omega
      have hsl : ∀ W, (Instr.slice 9 (.string (bs q)) (some (.int .i64 ((q.length - (b :: r).length : Nat) : Int))) (some (.int .i64 (((q.length - (b :: r).length : Nat) : Int) + 1))) none).run Tryz.prog W = .ok (.string (bs [b])) W := fun W => slice_run (t := q) hL.xr.suf 1 (by simp) W
      by_cases hb : b = 39
      · subst hb
        have hX := HX.out
        rw [hL.hit] at hX
        subst hX
        have hq1 : ((bs [39]).toList == [39]) = true := by rw [bs_toL]; rfl
        have hq2 : ((bs [39]).toList != [39]) = false := by rw [bs_toL]; rfl
        have hs5 := hL.suf.length_le
        have hnx : IntKind.i64.wrap (((q.length - (39 :: r : L).length : Nat) : Int) + 1) = ((q.length - r.length : Nat) : Int) := by have := hL.xr.q5; rw [IntKind.wrap_i64]; simp; omega
        have hsr : r <:+ q := (List.suffix_cons (39 : UInt8) r).trans hL.xr.suf
        have HS : Hid (∀ m, (WO.drewN m).frozen? ⟨X, 1, none⟩ = false ∧ XR X q ((WO.drewN m).setCell ⟨X, 1, none⟩ (.int .i64 ((q.length - r.length : Nat) : Int))) { s1 with l := r } ∧ Fr (fun k => k = X) w ((WO.drewN m).setCell ⟨X, 1, none⟩ (.int .i64 ((q.length - r.length : Nat) : Int)))) := fun m => by
          have h2 := hL.drewN m
          exact ⟨free_of h2.xr.blk, h2.xr.setL hsr, h2.fr.same (fr_set _ _ _ _)⟩
        have HC : Hid (∀ W, XR X q W { s1 with l := r } → W.cell? ⟨X, 0, none⟩ = some (.string (bs q)) ∧ W.cell? ⟨X, 1, none⟩ = some (.int .i64 ((q.length - r.length : Nat) : Int))) := fun W hW => ⟨hW.cells.1, hW.cells.2.1⟩
        have hTT : ∀ W, IntKind.i64.wrap (((q.length - r.length : Nat) : Int) - 1) = ((q.length - (39 :: r : L).length : Nat) : Int) ∧ (Instr.slice 9 (.string (bs q)) (some (.int .i64 (K0' : Int))) (some (.int .i64 ((q.length - (39 :: r : L).length : Nat) : Int))) none).run Tryz.prog W = .ok (.string (bs (s1.l.take (s1.l.length - (39 :: r : L).length)))) W := fun W => by
          have h1 := HS1.out.length_le
          have h5 := hL.xr.q5
          refine ⟨by rw [IntKind.wrap_i64]; simp; omega, ?_⟩
          have := slice_run (t := q) HS1.out (s1.l.length - (39 :: r : L).length) (Nat.sub_le _ _) W
          rw [HK0.out] at this
          have e : (K0' : Int) + ((s1.l.length - (39 :: r : L).length : Nat) : Int) = ((q.length - (39 :: r : L).length : Nat) : Int) := by rw [← HK0.out]; simp at hs5 ⊢; omega
          rw [e] at this
          exact this
        obtain ⟨hw3, -⟩ := hTT WO
        have hsl2 := fun W => (hTT W).2
        have eK : ((q.length - r.length : Nat) : Int) = ((q.length - (39 :: r : L).length : Nat) : Int) + 1 := by simp; omega
        rw [eK] at HS HC hw3
        have hw4 : IntKind.i64.wrap ((q.length - (39 :: r : L).length : Nat) : Int) = ((q.length - (39 :: r : L).length : Nat) : Int) := by have := hL.xr.q5; rw [IntKind.wrap_i64]; omega
        clear hL hmea hle c2 c4 hTT hs5 hsr hnx eK
        generalize s1.l.take (s1.l.length - (39 :: r : L).length) = TT at *
        generalize q.length - (39 :: r : L).length = K at *
        go_wp2_with fail
        go_quiet (fail)
        rename Nat => n1
        go_wp2_with fail
        go_quiet (fail)
        rename Nat => n2
        obtain ⟨f5, hx5, fr5⟩ := HS.out (n1 + n2)
        go_wp2_with fail
        obtain ⟨d0, d1⟩ := HC.out _ hx5
        go_quiet (fail)
        go_wp2
        go_ret
        exact ⟨rfl, hx5.drewN _, fr5.drewN _⟩
      · have hq1 : ((bs [b]).toList == [39]) = false := by rw [bs_toL]; simpa using hb
        have hq2 : ((bs [b]).toList != [39]) = true := by rw [bs_toL]; simpa using hb
        obtain ⟨hok, hok2⟩ := okw_le (q := q) hL.xr.suf
        have HA : Hid (∀ W, Calls Tryz.prog 56 #[.string (bs q), .int .i64 ((q.length - (b :: r).length : Nat) : Int)] W fun e w' => e = .returned (.tuple #[.int .i64 (Ch.at2 (bs q) (q.length - (b :: r).length)).1, .int .i64 (okw q (b :: r) : Int)]) ∧ w' = W) := fun W => by
          have := At_any (bs q) (q.length - (b :: r).length) W (by have := hL.xr.q5; rw [hz]; omega) (by rw [hz]; omega)
          rw [← hok2]; exact this
        clear hok2
        generalize (Ch.at2 (bs q) (q.length - (b :: r).length)).1 = a1 at *
        by_cases hk : okw q (b :: r) = 0
        · have hX := HX.out
          rw [hL.bad hb hk] at hX
          subst hX
          rw [hk] at HA
          have HF : Hid (∀ m m2, Calls Tryz.prog 57 #[ptr X, .int .i64 2, .int .i64 ((q.length - (b :: r).length : Nat) : Int)] ((WO.drewN m).drewN m2) (XE X q ((WO.drewN m).drewN m2) (RS.fail q 2 { s1 with l := b :: r }))) := fun m m2 => failR_ok ((hL.drewN m).drewN m2).xr 2
          have HC : Hid (∀ m, (WO.drewN m).cell? ⟨X, 0, none⟩ = some (.string (bs q)) ∧ (WO.drewN m).cell? ⟨X, 1, none⟩ = some (.int .i64 ((q.length - (b :: r).length : Nat) : Int))) := fun m => ⟨(hL.drewN m).xr.cells.1, (hL.drewN m).xr.cells.2.1⟩
          clear hL hmea hle c2 c4 hk hok
          generalize q.length - (b :: r).length = K at *
          go_wp2_with fail
          go_quiet (fail)
          go_wp2_with fail
          obtain ⟨g0, g1⟩ := HC.out nq
          go_region_held3 (fun W => W.cell? ⟨X, 0, none⟩ = some (.string (bs q)) ∧ W.cell? ⟨X, 1, none⟩ = some (.int .i64 (K : Int)))
            (first | exact ⟨g0, g1⟩)
            (first | (go_at_call 56; refine (HA.out _).mono ?_; rintro e w3 ⟨rfl, hw3⟩; have hw4 := hw3.symm; clear hw3; subst hw4))
          all_goals
            have HF2 := hide (HF.out nq 1)
            go_wp2_with (first | (go_at_call 57; refine (HF2.out).mono ?_; rintro e w6 ⟨rfl, hx6, fr6⟩))
            go_ret
            exact ⟨rfl, hx6, ((HL.out.drewN _).drewN _).fr.same fr6⟩
        · have hk2 : ((okw q (b :: r) : Int) == 0) = false := by simp; omega
          have hk3 : (okw q (b :: r) == 0) = false := by simpa using hk
          have HN : Hid (∀ m, (WO.drewN m).frozen? ⟨X, 1, none⟩ = false ∧ (WO.drewN m).cell? ⟨X, 1, none⟩ = some (.int .i64 ((q.length - (b :: r).length : Nat) : Int)) ∧ IntKind.i64.wrap (((q.length - (b :: r).length : Nat) : Int) + okw q (b :: r)) = ((q.length - ((b :: r).drop (okw q (b :: r))).length : Nat) : Int) ∧ ∃ l2, l2.length < (b :: r).length ∧ QL X q 39 s1 w ((WO.drewN m).setCell ⟨X, 1, none⟩ (.int .i64 ((q.length - ((b :: r).drop (okw q (b :: r))).length : Nat) : Int))) l2) := fun m => by
            have h2 := hL.drewN m
            obtain ⟨a1, a2, a3, a4⟩ := h2.xr.adv (okw q (b :: r)) hok
            obtain ⟨b1, b2⟩ := h2.next hb hk a3 a4
            exact ⟨a2, h2.xr.cells.2.1, a1, _, b2, b1⟩
          have HC : Hid (∀ m, (WO.drewN m).cell? ⟨X, 0, none⟩ = some (.string (bs q)) ∧ (WO.drewN m).cell? ⟨X, 1, none⟩ = some (.int .i64 ((q.length - (b :: r).length : Nat) : Int))) := fun m => ⟨(hL.drewN m).xr.cells.1, (hL.drewN m).xr.cells.2.1⟩
          have hmea2 : meaX X q WO = (b :: r).length := hmea
          clear hL hmea hle c2 c4 hk hok
          generalize q.length - ((b :: r).drop (okw q (b :: r))).length = K2 at *
          generalize okw q (b :: r) = N at *
          generalize (b :: r).length = BL at *
          generalize q.length - BL = K at *
          go_wp2_with fail
          go_quiet (fail)
          go_wp2_with fail
          obtain ⟨g0, g1⟩ := HC.out nq
          go_region_held3 (fun W => W.cell? ⟨X, 0, none⟩ = some (.string (bs q)) ∧ W.cell? ⟨X, 1, none⟩ = some (.int .i64 (K : Int)))
            (first | exact ⟨g0, g1⟩)
            (first | (go_at_call 56; refine (HA.out _).mono ?_; rintro e w3 ⟨rfl, hw3⟩; have hw4 := hw3.symm; clear hw3; subst hw4))
          all_goals
            obtain ⟨f5, d1, g5, l2, hl2, hS⟩ := HN.out (nq + 1)
            have HS2 := hide hS
            clear hS
            go_wp2_with fail
            exact ⟨⟨_, HS2.out⟩, by rw [HS2.out.xr.mea, hmea2]; exact hl2⟩
set_option maxHeartbeats 4000000 in
set_option maxRecDepth 100000 in
theorem quotedR_ok (h : XR X q w s) : Calls Tryz.prog 170 #[ptr X] w (XS X q w (quotedR q s).1 (quotedR q s).2) := by
  unfold quotedR
  cases hb : s.is [34] with
  | true => simp only [if_true]; exact quote34_ok h hb
  | false =>
    simp only [Bool.false_eq_true, if_false]
    cases hb2 : s.bl.is [39] with
    | true => simp only [if_true]; exact quote39_ok h hb hb2
    | false =>
      simp only [Bool.false_eq_true, if_false]
      have HI0 := hide (hasR_ok (p := [34]) h (by decide) (by decide))
      rw [hb, show s.has [34] = s.bl by unfold RS.has; rw [hb]; rfl] at HI0
      have HI : Hid (∀ W, XR X q W s.bl → Calls Tryz.prog 54 #[ptr X, .string ⟨#[39]⟩] W (XB X q W false (s.bl.has [39]))) := fun W hW => by
        have := hasR_ok (p := [39]) hW (by decide) (by decide)
        rw [hb2] at this; exact this
      have HW : Hid (∀ W, XR X q W (s.bl.has [39]) → Calls Tryz.prog 35 #[ptr X] W (XE X q W ((s.bl.has [39]).wrong q))) := fun W hW => wrongR_ok hW
      generalize s.bl.has [39] = s1 at *
      clear h hb hb2
      go_enter Tryz.func170, Tryz.ntmps170
      go_wp2_with (first | (go_at_call 54; refine (HI.out _ hx0).mono ?_; rintro e w3 ⟨rfl, hx3, fr3⟩; have fr3 := fr0.same fr3) | (go_at_call 54; refine HI0.out.mono ?_; rintro e w2 ⟨rfl, hx0, fr0⟩) | (go_at_call 35; refine (HW.out _ hx3).mono ?_; rintro e w4 ⟨rfl, hx4, fr4⟩))
      go_ret
      exact ⟨rfl, hx4, fr3.same fr4⟩
end Go.Proofs.YtoahlnmhjinneaaGreatDoor

set_option linter.unusedSimpArgs false
set_option linter.unusedVariables false
namespace Go.Proofs.YtoahlnmhjinneaaGreatDoor
open Go.RowKit Go.Maps Go.Lib
variable {w w' w1 w2 W0 W1 W2 W3 W4 WO wr W W5 : World} {A A' F G : Nat → Prop} {X lo n : Nat} {q l l' p : L} {s s' : RS} {v v' vp : Value} {inner : RS → Prd × RS}
theorem wrap_up (n : Nat) (h : n ≤ 8) : IntKind.i64.wrap ((n : Int) + 1) = (n : Int) + 1 := by rw [IntKind.wrap_i64]; omega
theorem wrap_back (n : Nat) (h : n ≤ 8) : IntKind.i64.wrap (IntKind.i64.wrap ((n : Int) + 1) - 1) = (n : Int) := by
  rw [wrap_up n h, IntKind.wrap_i64]; omega
theorem bl_suf (s : RS) : s.bl.l <:+ s.l := by unfold RS.bl; split; exact skip_suf _; exact List.suffix_refl _
theorem is_bl : s.bl.is p = s.is p := by unfold RS.is; rw [bl_bl, bl_err]
theorem fail_err {e : Nat} (he : e ≠ 0) : (s.fail q e).err ≠ 0 := by unfold RS.fail; split; exact he; assumption
theorem wrong_err : (s.wrong q).err ≠ 0 := by unfold RS.wrong; apply fail_err; split <;> decide
theorem wrong_l : (s.wrong q).l = s.bl.l := by unfold RS.wrong; exact fail_l _
theorem wrong_nest : (s.wrong q).nest = s.nest := by unfold RS.wrong; rw [fail_nest, bl_nest]
structure Keeps (s s' : RS) : Prop where
  suf : s'.l <:+ s.l
  err : s'.err = 0 → s.err = 0
  nest : s'.err = 0 → 0 ≤ s.nest ∧ s.nest ≤ 8 → s'.nest = s.nest
theorem Keeps.refl : Keeps s s := ⟨List.suffix_refl _, id, fun _ _ => rfl⟩
theorem Keeps.trans {s'' : RS} (h : Keeps s s') (g : Keeps s' s'') : Keeps s s'' := ⟨g.suf.trans h.suf, fun e => h.err (g.err e), fun e b => by have h1 := h.nest (g.err e) b; exact (g.nest e (by rw [h1]; exact b)).trans h1⟩
theorem keeps_bl (s : RS) : Keeps s s.bl := ⟨bl_suf s, fun e => by rwa [bl_err] at e, fun _ _ => bl_nest s⟩
theorem keeps_wrong : Keeps s (s.wrong q) := ⟨by rw [wrong_l]; exact bl_suf s, fun e => absurd e wrong_err, fun _ _ => wrong_nest⟩
theorem keeps_drop (s : RS) (m : Nat) : Keeps s { s with l := s.l.drop m } := ⟨List.drop_suffix _ _, id, fun _ _ => rfl⟩
theorem keeps_has (s : RS) (p : L) : Keeps s (s.has p) := by unfold RS.has; split; exact (keeps_bl s).trans (keeps_drop _ _); exact keeps_bl s
theorem keeps_must (s : RS) (p : L) : Keeps s (s.must q p) := by unfold RS.must; split; exact keeps_has s p; exact (keeps_has s p).trans keeps_wrong
theorem keeps_name (s : RS) : Keeps s (s.name q) := by unfold RS.name; split; exact (keeps_bl s).trans keeps_wrong; exact (keeps_bl s).trans (keeps_drop _ _)
theorem keeps_test (s : RS) : Keeps s (testR q s).2 := by
  unfold testR
  split
  · exact keeps_has _ _
  · split
    · exact (((((keeps_bl s).trans (keeps_bl _)).trans (keeps_name _)).trans (keeps_must _ _))).trans (keeps_must _ _)
    · exact ((keeps_bl s).trans (keeps_bl _)).trans (keeps_name _)
theorem opn_facts (hb : s.is p = true) (hp : 1 ≤ p.length) : (s.bl.opn q p).l <:+ s.l ∧ (s.bl.opn q p).l.length < s.l.length ∧ ((s.bl.opn q p).err = 0 → s.err = 0 ∧ s.nest ≠ 8 ∧ (s.bl.opn q p).nest = IntKind.i64.wrap (s.nest + 1)) := by
  have h1 := (is_pre hb).2.1
  have h2 := bl_suf s
  have h3 := h2.length_le
  unfold RS.opn
  rw [is_bl, if_pos hb, bl_bl]
  simp only
  by_cases hn : s.bl.nest = 8
  · rw [if_pos hn]
    refine ⟨?_, ?_, fun e => absurd e (fail_err (by decide))⟩
    · rw [fail_l]; exact (List.drop_suffix _ _).trans h2
    · rw [fail_l, List.length_drop]; omega
  · rw [if_neg hn]
    refine ⟨(List.drop_suffix _ _).trans h2, by simp only [List.length_drop]; omega, fun e => ⟨(is_pre hb).1, by rwa [bl_nest] at hn, by rw [bl_nest]⟩⟩
theorem has_nest (s : RS) (p : L) : (s.has p).nest = s.nest := by unfold RS.has; split <;> exact bl_nest s
theorem must_nest (s : RS) (p : L) : (s.must q p).nest = s.nest := by unfold RS.must; split; exact has_nest s p; exact wrong_nest.trans (has_nest s p)
theorem shut_keeps (s : RS) (p : L) : (s.shut q p).l <:+ s.l ∧ ((s.shut q p).err = 0 → s.err = 0 ∧ (s.shut q p).nest = IntKind.i64.wrap (s.nest - 1)) := by
  have h := keeps_must (q := q) s p
  refine ⟨h.suf, fun e => ⟨h.err e, ?_⟩⟩
  unfold RS.shut
  simp only
  rw [must_nest]
theorem keeps_within {p' : L} {s5 : RS} (hb : s.is p = true) (hp : 1 ≤ p.length) (h : Keeps (s.bl.opn q p) s5) : Keeps s (s5.shut q p') ∧ (s5.shut q p').l.length < s.l.length := by
  obtain ⟨o1, o2, o3⟩ := opn_facts (q := q) hb hp
  obtain ⟨h1, h2⟩ := shut_keeps (q := q) s5 p'
  refine ⟨⟨(h1.trans h.suf).trans o1, fun e => (o3 (h.err (h2 e).1)).1, fun e b => ?_⟩, by have := h1.length_le; have := h.suf.length_le; omega⟩
  obtain ⟨a1, a2⟩ := h2 e
  obtain ⟨b1, b2, b3⟩ := o3 (h.err a1)
  obtain ⟨m, hm⟩ : ∃ m : Nat, s.nest = (m : Int) := ⟨s.nest.toNat, by omega⟩
  have hm8 : m < 8 := by omega
  rw [hm] at b3 ⊢
  have e3 := wrap_up m (by omega)
  rw [a2, h.nest a1 (by rw [b3, e3]; omega), b3]
  exact wrap_back m (by omega)
abbrev XV {α : Type} (X : Nat) (q : L) (V : World → Value → α → Prop) (w : World) (y : α × RS) (e : Ending) (w' : World) : Prop := ∃ v, e = .returned v ∧ V w' v y.1 ∧ XR X q w' y.2 ∧ Fr (fun k => k = X) w w'
structure InRK (X : Nat) (q : L) (n : Nat) (inner : RS → Prd × RS) : Prop where
  calls : n ≤ 9 → ∀ w s, XR X q w s → (s.err = 0 → s.nest = n ∧ n ≤ 8) → Calls Tryz.prog 126 #[ptr X] w (XV X q (PV (fun b => w.heap.size ≤ b) 94 97) w (inner s))
  keeps : ∀ s, Keeps s (inner s).2
theorem info69 : (Tryz.prog.info? 94).map (fun i => (i.zero, i.size, i.bytes)) = some (some (.agg #[.bool false, .string ⟨#[]⟩, .slice none 0 0]), 3, 48) := by kernel_rfl
theorem info80 : (Tryz.prog.info? 97).map (fun i => (i.zero, i.size, i.bytes)) = some (some (.agg #[.string ⟨#[]⟩, .slice none 0 0, .slice none 0 0, .string ⟨#[]⟩, .string ⟨#[]⟩]), 5, 96) := by kernel_rfl
structure LX (X : Nat) (q : L) (inner : RS → Prd × RS) (n : Nat) (w : World) (d : Bool) (te : L) (s1 : RS) (wr : World) (ps : List Prd) (sc : RS) (pi : Option Addr) (pc : Nat) : Prop where
  xr : XR X q wr sc
  bs_ : wr.heap[w.heap.size + 1]? = some (.cells #[.bool d, .string (bs te), .slice pi ps.length pc] 94 (0, 0))
  bq : wr.heap[w.heap.size]? = some (.cells #[.bool false, .string ⟨#[]⟩, .slice none 0 0] 94 (0, 0))
  gp : GP (w.heap.size + 2) 94 97 wr (.slice pi ps.length pc) ps
  fr : Fr (fun k => k = X ∨ w.heap.size ≤ k) w wr
  eq : ∃ f, sc.l.length < f ∧ predsR q inner (s1.l.length + 1) s1 = (ps ++ (predsR q inner f sc).1, (predsR q inner f sc).2)
  sm : ps.length + sc.l.length ≤ 500
  nl : ps = [] → (Value.slice pi ps.length pc) = nilS
  ns : sc.err = 0 → sc.nest = n ∧ n ≤ 8
  n8 : n ≤ 9
  lt : X < w.heap.size
variable {d : Bool} {te : L} {s1 sc : RS} {ps : List Prd} {pi : Option Addr} {pc : Nat}
abbrev z3 : Array Value := #[.bool false, .string ⟨#[]⟩, .slice none 0 0]
abbrev d3 (d : Bool) : Array Value := #[.bool d, .string ⟨#[]⟩, .slice none 0 0]
theorem LX.start (hX : X < w.heap.size) (fr : Fr (fun k => k = X) ((w.alloc (.cells z3 94)).alloc (.cells (d3 d) 94)) w2) (xr : XR X q w2 s1) (n8 : n ≤ 9) (ns : s1.err = 0 → s1.nest = n ∧ n ≤ 8) (te : L) :
    w2.cell? ⟨w.heap.size + 1, 1, none⟩ = some (.string ⟨#[]⟩) ∧ w2.frozen? ⟨w.heap.size + 1, 1, none⟩ = false ∧ LX X q inner n w d te s1 (w2.setCell ⟨w.heap.size + 1, 1, none⟩ (.string (bs te))) [] s1 none 0 := by
  have q2 : w2.heap[w.heap.size + 1]? = some (.cells (d3 d) 94 (0, 0)) := by
    rw [fr.block (w.heap.size + 1) (by simp) (by omega)]
    have := Below_new (w.alloc (.cells z3 94)) (.cells (d3 d) 94)
    simpa using this
  have q1 : w2.heap[w.heap.size]? = some (.cells z3 94 (0, 0)) := by
    rw [fr.block w.heap.size (by simp; omega) (by omega), Below.heap_alloc _ _ _ (by simp)]; exact Below_new _ _
  have f5 : Fr (fun k => k = w.heap.size + 1) w2 (w2.setCell ⟨w.heap.size + 1, 1, none⟩ (.string (bs te))) := fr_set _ _ _ _
  have f0 : Fr (fun _ => False) w ((w.alloc (.cells z3 94)).alloc (.cells (d3 d) 94)) := ((Fr.refl _ w).alloc _).alloc _
  refine ⟨cell_of q2 rfl, free_of q2, xr.fr f5 (by omega), set_of q2 _, (f5.block _ (blk_lt q1) (by omega)).trans q1, GP.zero, ?_, ⟨s1.l.length + 1, by omega, by simp⟩, by have := xr.le; have := xr.q5; simp; omega, fun _ => rfl, ns, n8, hX⟩
  exact ((f0.mono fun _ x => x.elim).same (fr.mono fun _ e => Or.inl e)).trans f5 (fun _ _ e => Or.inr (by omega))
theorem LX.stop (h : LX X q inner n w d te s1 wr ps sc pi pc) (hb : sc.is [91] = false) : predsR q inner (s1.l.length + 1) s1 = (ps, sc.bl) := by
  obtain ⟨f, e1, e2⟩ := h.eq
  cases f with
  | zero => omega
  | succ f => rw [e2, predsR, if_neg (by rw [hb]; simp)]; simp
theorem LX.last (h : LX X q inner n w d te s1 wr ps sc pi pc) (f3 : Fr (fun k => k = X) wr w2) (xr : XR X q w2 sc.bl) {w5 : World} (fr : Fr (fun k => k = w.heap.size) w2 w5) :
    SV (fun b => w.heap.size ≤ b) 94 97 w5 (.agg #[.bool d, .string (bs te), .slice pi ps.length pc]) ⟨d, te, Prds.of ps⟩ ∧ XR X q w5 sc.bl ∧ Fr (fun k => k = X) w w5 := by
  have hlt := h.lt
  have g5 := ((h.gp.fr f3 fun k e _ => by omega).fr fr fun k e _ => by omega).done (by have := h.sm; omega) h.nl
  exact ⟨⟨_, rfl, g5.move fun b hb _ => ⟨by omega, rfl⟩⟩, xr.fr fr (by omega), ((h.fr.trans f3 (fun i hi x => Or.inl x)).trans fr (fun i hi x => Or.inr (by omega))).restrict (fun k hk x => by omega)⟩
theorem LX.kept (h : LX X q inner n w d te s1 wr ps sc pi pc) (f3 : Fr (fun k => k = X) wr w2) : w2.heap[w.heap.size + 1]? = some (.cells #[.bool d, .string (bs te), .slice pi ps.length pc] 94 (0, 0)) ∧ w2.heap[w.heap.size]? = some (.cells z3 94 (0, 0)) := by
  have hlt := h.lt
  exact ⟨(f3.block _ (blk_lt h.bs_) (by omega)).trans h.bs_, (f3.block _ (blk_lt h.bq) (by omega)).trans h.bq⟩
theorem LX.inn (h : LX X q inner n w d te s1 wr ps sc pi pc) (hb : sc.is [91] = true) : (sc.bl.opn q [91]).err = 0 → (sc.bl.opn q [91]).nest = (n + 1 : Nat) ∧ n + 1 ≤ 8 := fun e => by
  obtain ⟨a, b, c⟩ := (opn_facts (q := q) hb (by decide)).2.2 e
  have ⟨h1, h2⟩ := h.ns a
  rw [c, h1, wrap_up n h2]
  rw [h1] at b
  exact ⟨by simp, by omega⟩
theorem LX.next (hi : InRK X q (n + 1) inner) (h : LX X q inner n w d te s1 wr ps sc pi pc) (hb : sc.is [91] = true) {p : Prd} {s5 : RS} (hp : inner (sc.bl.opn q [91]) = (p, s5)) {w4 w5 : World} (f4 : Fr (fun k => k = X) wr w4) (f5 : Fr (fun k => k = X) w4 w5) (x5 : XR X q w5 s5) {ki si : Option Addr} {nk kc ns sc' : Nat} (sv : slP w5 (fun b => w4.heap.size ≤ b) 94 97 (.slice ki nk kc) p.kids ∧ slS w5 (fun b => w4.heap.size ≤ b) 94 97 (.slice si ns sc') p.steps) (o1 o2 : Obj) :
    (w5.alloc o1).heap[w.heap.size + 1]? = some (.cells #[.bool d, .string (bs te), .slice pi ps.length pc] 94 (0, 0)) ∧ ∃ xs, ((w5.alloc o1).alloc o2).ownsRow 0 97 5 (.slice pi ps.length pc) ps.length (pCells xs) ∧
    ∀ v' W6, W6.ownsRow 0 97 5 v' (ps.length + 1) (pCells xs ++ [.string (bs p.op), .slice ki nk kc, .slice si ns sc', .string (bs p.attr), .string (bs p.text)]) → ((w5.alloc o1).alloc o2).grownBy W6 (Value.slice pi ps.length pc).ownBlock → (v'.ownBlock = (Value.slice pi ps.length pc).ownBlock ∨ v'.ownBlock = some ((w5.alloc o1).alloc o2).heap.size) →
      (W6.cell? ⟨w.heap.size + 1, 2, none⟩ = some (.slice pi ps.length pc) ∧ W6.frozen? ⟨w.heap.size + 1, 2, none⟩ = false) ∧ XR X q (W6.setCell ⟨w.heap.size + 1, 2, none⟩ v') s5 ∧
      ∀ w8, XR X q w8 (s5.shut q [93]) → Fr (fun k => k = X) (W6.setCell ⟨w.heap.size + 1, 2, none⟩ v') w8 → (∃ pi pc, LX X q inner n w d te s1 w8 (ps ++ [p]) (s5.shut q [93]) pi pc) ∧ (s5.shut q [93]).l.length < sc.l.length := by
  have hlt := h.lt
  have hB := blk_lt h.bs_
  have fo : Fr (fun _ => False) w5 (w5.alloc o1) := (Fr.refl _ w5).alloc o1
  have f45 : Fr (fun k => k = X) w4 (w5.alloc o1) := f5.same (fo.mono fun _ x => x.elim)
  have hm : Move (fun b => w4.heap.size ≤ b) (fun b => w4.heap.size ≤ b) w5 (w5.alloc o1) := fun b ha hl => ⟨ha, Below.heap_alloc _ _ _ hl⟩
  have g4 := h.gp.fr f4 (fun k e _ => by omega)
  have hb4 := (f4.block _ hB (by omega)).trans h.bs_
  have hq4 := (f4.block _ (blk_lt h.bq) (by omega)).trans h.bq
  have hb5 := (f45.block _ (blk_lt hb4) (by omega)).trans hb4
  have hz4 := blk_lt hb4
  refine ⟨hb5, ?_⟩
  obtain ⟨xs, x1, x2⟩ := g4.prep (s := p) f45 (by omega) (by omega) ⟨sv.1.move hm, sv.2.move hm⟩ o2
  refine ⟨xs, x1, fun v' W6 ho hg hat => ?_⟩
  obtain ⟨g1, g2, g3⟩ := x2 v' W6 ho hg hat
  have hb6 := (g2.block _ hz4 (by omega)).trans hb4
  have hq6 := (g2.block _ (blk_lt hq4) (by omega)).trans hq4
  have fs : Fr (fun k => k = w.heap.size + 1) W6 (W6.setCell ⟨w.heap.size + 1, 2, none⟩ v') := fr_set _ _ _ _
  have hX5 := x5.lt
  refine ⟨⟨cell_of hb6 rfl, free_of hb6⟩, ((x5.fr fo (fun x => x)).fr g3 (by omega)).fr fs (by omega), fun w8 x8 f8 => ?_⟩
  obtain ⟨vi, vc, rfl⟩ : ∃ ai cap, v' = .slice ai (ps.length + 1) cap := slice_len ho
  obtain ⟨o1', o2', o3'⟩ := opn_facts (q := q) hb (by decide)
  obtain ⟨h1, h2⟩ := shut_keeps (q := q) s5 [93]
  have hk := hi.keeps (sc.bl.opn q [91])
  rw [hp] at hk
  have hl1 := h1.length_le
  have hl2 := hk.suf.length_le
  simp only at hl2
  have hlen : (s5.shut q [93]).l.length < sc.l.length := by omega
  refine ⟨⟨vi, vc, x8, ?_, ?_, ?_, ?_, ?_, ?_, fun e => by simp at e, ?_, h.n8, h.lt⟩, hlen⟩
  · have := set_of (i := 2) hb6 (Value.slice vi (ps.length + 1) vc)
    have := (f8.block _ (blk_lt this) (by omega)).trans this
    simpa using this
  · have h7 := (fs.block _ (blk_lt hq6) (by omega)).trans hq6
    exact (f8.block _ (blk_lt h7) (by omega)).trans h7
  · have := (g1.fr fs (fun k e _ => by omega)).fr f8 (fun k e _ => by omega)
    simpa using this
  · exact (((h.fr.trans f4 (fun i hi x => Or.inl x)).trans g2 (fun i hi x => by omega)).trans fs (fun i hi x => Or.inr (by omega))).trans f8 (fun i hi x => Or.inl x)
  · obtain ⟨f, e1, e2⟩ := h.eq
    cases f with
    | zero => omega
    | succ f =>
      refine ⟨f, by omega, ?_⟩
      rw [e2, predsR, if_pos hb, hp]
      simp
  · have := h.sm; simp; omega
  · intro e
    obtain ⟨a1, a2⟩ := h2 e
    obtain ⟨b1, b2, b3⟩ := o3' (hk.err a1)
    have a3 := hk.nest a1 (by have := h.inn hb (hk.err a1); omega)
    simp only at a3
    obtain ⟨c1, c2⟩ := h.ns b1
    rw [a2, a3, b3, c1]
    exact ⟨wrap_back n c2, c2⟩
theorem keeps_preds (hk : ∀ s, Keeps s (inner s).2) : ∀ (f : Nat) (s : RS), Keeps s (predsR q inner f s).2
  | 0, s => Keeps.refl
  | f + 1, s => by
    rw [predsR]
    split
    · next hb => exact (keeps_within (p := [91]) (p' := [93]) hb (by decide) (hk _)).1.trans (keeps_preds hk f _)
    · exact keeps_bl s
theorem keeps_step (hk : ∀ s, Keeps s (inner s).2) (d : Bool) (s : RS) : Keeps s (stepR q inner d s).2 := (keeps_test s).trans (keeps_preds hk _ _)
end Go.Proofs.YtoahlnmhjinneaaGreatDoor
