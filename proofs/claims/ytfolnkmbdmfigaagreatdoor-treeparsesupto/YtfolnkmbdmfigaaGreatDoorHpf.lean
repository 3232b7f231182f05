import Derived.Test.YtfolnkmbdmfigaaGreatDoorHpe
import Derived.Test.YtfolnkmbdmfigaaGreatDoorGab
import Derived.Test.YtfolnkmbdmfigaaGreatDoorHpb
set_option linter.unusedVariables false
set_option linter.unusedSimpArgs false
set_option linter.unusedSimpArgs false
set_option linter.unusedVariables false
namespace Go.Proofs.YtfolnkmbdmfigaaGreatDoor
open Go.RowKit Go.Maps Go.Lib
variable {A K K' F : Nat → Prop} {w w' w1 w2 w4 wr : World} {nv ov a v : Value} {av kv : Nat → Value} {g : Gr} {X Y : Nat} {er q : Int} {l T : List Tok}
def RParseEnd (w : World) (x : List Nd × Int × Int) (e : Ending) (w' : World) : Prop := ∃ v, e = .returned (.tuple #[v, .int .i64 x.2.1, .int .i64 x.2.2]) ∧ (∃ A K av kv, Nodes 76 82 A K w' v x.1 av kv) ∧ Below w.heap.size w w'
structure RStart (w : World) (s : ByteArray) (v : Value) (w4 : World) : Prop where
  ans : RAns w4 v ((readS s).l ++ (readS s).last)
  below : Below w.heap.size w w4
  err : w4.cell? ⟨w.heap.size, 5, none⟩ = some (.int .i64 (readS s).err)
  at_ : w4.cell? ⟨w.heap.size, 6, none⟩ = some (.int .i64 (readS s).at_)
theorem rstart_ok (s : ByteArray) (w : World) (hs : s.size ≤ 268435456) :
    Calls Tryz.prog 26 #[.string s] w fun e w1 => e = .returned (.pointer (some ⟨w.heap.size, 0, none⟩)) ∧ ∃ lv, (∃ o n c, lv = .slice o n c) ∧ Calls Tryz.prog 27 #[.pointer (some ⟨w.heap.size, 0, none⟩)] w1 fun e w2 => ∃ v2, e = .returned v2 ∧ w2.cell? ⟨w.heap.size, 2, none⟩ = some lv ∧ ∃ v' w4, (Builtin.append_ #[62, 62] 62 #[lv, v2]).run Tryz.prog w2 = .ok v' w4 ∧ RStart w s v' w4 := by
  have hlen := read_len s
  refine (read_ref s w (by omega)).mono ?_
  rintro e w1 ⟨rfl, F, lv, cs, rs, b1, hF⟩
  refine ⟨rfl, lv, ?_, (last_ref rs.sat).mono ?_⟩
  · obtain ⟨o, c, e⟩ := slice_len rs.row
    exact ⟨o, _, c, e⟩
  rintro e w2 ⟨v2, rfl, b2, hv⟩
  have hXlt : w.heap.size < w1.heap.size := rs.lt _ rs.has
  have hblk2 : w2.heap[w.heap.size]? = w1.heap[w.heap.size]? := b2.block _ hXlt
  have c2 : w1.cell? ⟨w.heap.size, 2, none⟩ = some lv := rs.sat.cell 2 rfl
  have c5 : w1.cell? ⟨w.heap.size, 5, none⟩ = some (.int .i64 (readS s).err) := rs.sat.cell 5 rfl
  have c6 : w1.cell? ⟨w.heap.size, 6, none⟩ = some (.int .i64 (readS s).at_) := rs.sat.cell 6 rfl
  obtain ⟨v', w4, hrun, hans, hgr⟩ := add_last rs b2 v2 hv (by omega)
  have hlvX : lv.ownBlock ≠ some w.heap.size := rs.ne
  have hz2 := b2.size
  have hblk4 : w4.heap[w.heap.size]? = w1.heap[w.heap.size]? := (hgr.block _ (by omega) (fun e => hlvX e.symm)).trans hblk2
  have hb4 : Below w.heap.size w w4 := by
    refine (b1.trans (below_less b2 b1.size)).trans ⟨hgr.os, hgr.tape, hgr.output, hgr.size, fun k hk => hgr.block k (by omega) (fun e => ?_)⟩
    have := hF k (rs.own k e.symm).1
    omega
  exact ⟨v2, rfl, (World.cell?_of_block (a := ⟨w.heap.size, 2, none⟩) hblk2).trans c2, v', w4, hrun, ⟨hans, hb4, (World.cell?_of_block (a := ⟨w.heap.size, 5, none⟩) hblk4).trans c5, (World.cell?_of_block (a := ⟨w.heap.size, 6, none⟩) hblk4).trans c6⟩⟩
theorem rgrow_ok {T : List Tok} {g : Gr} {q : Int} (h : (if (grow Gr.zero T).1 ≠ 0 then ((grow Gr.zero T).2.2, (grow Gr.zero T).1, (grow Gr.zero T).2.1) else ((grow Gr.zero T).2.2, 0, 0)) = (g, 0, q)) : (grow Gr.zero T).1 = 0 ∧ (grow Gr.zero T).2.2 = g := by
  by_cases hx : (grow Gr.zero T).1 = 0
  · rw [if_neg (by simpa using hx)] at h
    simp only [Prod.mk.injEq] at h
    exact ⟨hx, h.1⟩
  · rw [if_pos hx] at h
    simp only [Prod.mk.injEq] at h
    exact absurd h.2.1 hx
theorem rgrow_bad {T : List Tok} {g : Gr} {er q : Int} (he : er ≠ 0) (h : (if (grow Gr.zero T).1 ≠ 0 then ((grow Gr.zero T).2.2, (grow Gr.zero T).1, (grow Gr.zero T).2.1) else ((grow Gr.zero T).2.2, 0, 0)) = (g, er, q)) : (grow Gr.zero T).1 ≠ 0 ∧ (grow Gr.zero T).1 = er ∧ (grow Gr.zero T).2.1 = q := by
  by_cases hx : (grow Gr.zero T).1 = 0
  · rw [if_neg (by simpa using hx)] at h
    simp only [Prod.mk.injEq] at h
    exact absurd h.2.1.symm he
  · rw [if_pos hx] at h
    simp only [Prod.mk.injEq] at h
    exact ⟨hx, h.2.1, h.2.2⟩
theorem rends_below (b4 : Below w.heap.size w w4) (hM : More1 w4 w') : Below w.heap.size w w' := b4.trans ⟨hM.os, hM.tape, hM.output, hM.size, fun k hk => hM.keep k (Nat.lt_of_lt_of_le hk b4.size)⟩
theorem frame_drew {F : Nat → Prop} {n : Nat} (f : Frame F w w') : Frame F w (w'.drewN n) := ⟨f.os, f.tape, f.output, f.size, f.block⟩
theorem rends_bad {no p : Int} (b4 : Below w.heap.size w w4) (hM : More1 w4 wr) (f : More1 wr w' ∨ Frame (fun k => k = w4.heap.size) wr w') : RParseEnd w ([], no, p) (.returned (.tuple #[.slice none 0 0, .int .i64 no, .int .i64 p])) w' := by
  have hM2 : More1 w4 w' := by
    rcases f with f | f
    · exact hM.trans f
    · exact ⟨f.os.trans hM.os, f.tape.trans hM.tape, f.output.trans hM.output, Nat.le_trans hM.size f.size, fun b hb => (f.block b (Nat.lt_of_lt_of_le hb hM.size) (by omega)).trans (hM.keep b hb)⟩
  exact ⟨nilS, rfl, ⟨fun _ => False, fun _ => False, _, _, Nodes.zero⟩, rends_below b4 hM2⟩
set_option maxHeartbeats 8000000 in
set_option maxRecDepth 10000 in
theorem rparse_ok (s : ByteArray) (w : World) (hs : s.size ≤ 268435456) : Calls Tryz.prog 10 #[.string s] w (RParseEnd w (parseN s)) := by
  have hst := rstart_ok s w hs
  have hsay := says s
  have hlen := readS_len s
  have htx := readS_text s
  have HST := hide hst
  have HSAY := hide hsay
  have HLEN := hide hlen
  have HTX := hide htx
  clear hst hsay hlen htx
  go_enter Tryz.func10, Tryz.ntmps10
  go_wp2_with fail
  refine HST.out.mono ?_
  rintro e w1 ⟨rfl, lv, ⟨lo, ln, lc, rfl⟩, hcl⟩
  go_wp2_with fail
  refine hcl.mono ?_
  rintro e w2 ⟨v2, rfl, c2, v', w4, hrun, hs4⟩
  have hans := hs4.ans
  have hb4 := hs4.below
  have he4 := hs4.err
  have ha4 := hs4.at_
  generalize (readS s).l ++ (readS s).last = T at *
  generalize (readS s).err = er1 at *
  generalize (readS s).at_ = er2 at *
  obtain ⟨bl, cl, el, hmx⟩ := rslice_of hans
  subst el
  have AN4 := hide hans
  have B4 := hide hb4
  have E4 := hide he4
  have T4 := hide ha4
  have HMX := hide hmx
  clear hs4 hans hb4 he4 ha4 hmx hcl HST
  go_wp2_with (at_builtin; refine wpList_app26 rfl (.tmp 17) (.tmp 18) rfl rfl _ _ rfl rfl hrun ?_)
  have hwlt : w.heap.size < w4.heap.size := World.block_lt_of_cell? w4 _ E4.out
  go_loopw [9] (fun iv wr => ∃ k : Nat, iv = .int .i64 k ∧ k ≤ T.length ∧ BI w4 T wr k) (fun iv _ => T.length - (RowKit.intOf iv).toNat)
  case atStart => exact ⟨0, rfl, Nat.zero_le _, BI.start⟩
  case round =>
    obtain ⟨k, rfl, hk, hbi⟩ := hrel
    by_cases hkl : k < T.length
    · have hdec : decide ((k : Int) < T.length) = true := by simp; omega
      have hdecn : decide (k < T.length) = true := by simp; omega
      have hki : (k : Int) < T.length := by omega
      have hmi : (T.length : Int) ≤ 9223372036854775807 := by have := HMX.out; have : maxLen = 9223372036854775807 := rfl; omega
      obtain ⟨gT, cT, va, eT, oa, x0, x1, x2, x3, x4, _⟩ := AN4.out.at k hkl
      have hl1 := HLEN.out
      have hcall := hbi.call hkl (by omega) va (by have := HTX.out _ (List.getElem_mem hkl); omega) oa wr (More1.refl wr)
      obtain ⟨ai, ac, hav⟩ := slice_len oa
      cases eT
      have hlt : gT < w4.heap.size := World.block_lt_of_cell? w4 _ x0
      subst hav
      unfold strV at x1 x3
      unfold tokV strV at hcall
      have y0 := (World.cell?_of_block (a := ⟨gT, k * 5, none⟩) (hbi.more.keep gT hlt)).trans x0
      have y1 := (World.cell?_of_block (a := ⟨gT, k * 5 + 1, none⟩) (hbi.more.keep gT hlt)).trans x1
      have y2 := (World.cell?_of_block (a := ⟨gT, k * 5 + 2, none⟩) (hbi.more.keep gT hlt)).trans x2
      have y3 := (World.cell?_of_block (a := ⟨gT, k * 5 + 3, none⟩) (hbi.more.keep gT hlt)).trans x3
      have y4 := (World.cell?_of_block (a := ⟨gT, k * 5 + 4, none⟩) (hbi.more.keep gT hlt)).trans x4
      have HC := hide hcall
      clear hcall hbi oa x0 x1 x2 x3 x4 hl1
      generalize T[k] = t at *
      go_wp2_with fail
      refine HC.out.mono ?_
      rintro e w5 ⟨rfl, hb5⟩
      have HB5 := hide hb5
      clear hb5
      go_wp2
      go_roundw
      case rel => exact ⟨k + 1, by simp, by omega, HB5.out⟩
      case measure => simp only [RowKit.intOf]; omega
    · have hdec : decide ((k : Int) < T.length) = false := by simp; omega
      have hdecn : decide (k < T.length) = false := by simp; omega
      have he : k = T.length := by omega
      subst he
      have hM := hbi.more
      obtain ⟨g, er, q, Kx, ⟨⟨nv, ov, av, kv, hr⟩, _, _⟩, hKx, hgr⟩ := hbi.over
      rw [bsteps_grow] at hgr
      obtain ⟨ni, nc, hnv⟩ := slice_len hr.nodes.row
      obtain ⟨oi, oc, hov⟩ := slice_len hr.opens
      subst hnv
      subst hov
      have e5 : wr.cell? ⟨w.heap.size, 5, none⟩ = some (.int .i64 er1) := (World.cell?_of_block (hM.keep _ hwlt)).trans E4.out
      have e6 : wr.cell? ⟨w.heap.size, 6, none⟩ = some (.int .i64 er2) := (World.cell?_of_block (hM.keep _ hwlt)).trans T4.out
      have HGR := hide hgr
      have HR := hide hr
      have HMM := hide hM
      clear hbi hgr hr hM hKx
      have hsz : (s.size : Int) ≤ 9223372036854775807 := by omega
      by_cases h0 : er = 0
      · subst h0
        have hg0 : (grow Gr.zero T).1 = 0 ∧ (grow Gr.zero T).2.2 = g := rgrow_ok HGR.out
        by_cases h1 : er1 = 0
        · subst h1
          by_cases hsn : g.stack = []
          · have hse := hsn
            by_cases hne0 : g.nodes = []
            · have hpar := HSAY.out.form hg0.1 rfl (Or.inr (by rw [hg0.2]; exact hne0))
              have hc1 : decide (0 < g.stack.length) = false := by rw [hse]; rfl
              have hc2 : (g.nodes.length == 0) = true := by rw [hne0]; rfl
              have hc3 : decide (g.nodes.length = 0) = true := by rw [hne0]; rfl
              clear hg0
              clear hse hsn hne0
              have y0 := HR.out.cell 0 rfl
              have y1 := HR.out.cell 1 rfl
              have y2 := HR.out.cell 2 rfl
              have y3 := HR.out.cell 3 rfl
              go_wp2_with fail
              refine (bfail_ok HR.out _ _).mono ?_
              rintro e w6 ⟨rfl, r6, f6⟩
              simp only [if_true] at r6
              have R6 := hide r6
              have F6 := hide f6
              clear r6 f6
              have y0 := R6.out.cell 0 rfl
              have y1 := R6.out.cell 1 rfl
              have y2 := R6.out.cell 2 rfl
              have y3 := R6.out.cell 3 rfl
              go_wp2_with fail
              go_quiet (fail)
              go_wp2
              go_ret3
              rw [hpar]
              exact rends_bad B4.out HMM.out (Or.inr (frame_drew F6.out))
            · have hpar := HSAY.out.ok hg0.1 rfl (by rw [hg0.2]; exact hse) (by rw [hg0.2]; exact hne0)
              rw [hg0.2] at hpar
              have hc1 : decide (0 < g.stack.length) = false := by rw [hse]; rfl
              have hc2 : (g.nodes.length == 0) = false := by
                cases hg : g.nodes with
                | nil => exact absurd hg hne0
                | cons a l => rfl
              have hc3 : decide (g.nodes.length = 0) = false := by simpa using hne0
              clear hg0
              clear hse hsn hne0
              have y0 := HR.out.cell 0 rfl
              have y1 := HR.out.cell 1 rfl
              have y2 := HR.out.cell 2 rfl
              have y3 := HR.out.cell 3 rfl
              go_wp2_with fail
              go_ret3
              rw [hpar]
              exact ⟨_, rfl, ⟨_, _, _, _, HR.out.nodes⟩, rends_below B4.out HMM.out⟩
          · have hpar := HSAY.out.form hg0.1 rfl (Or.inl (by rw [hg0.2]; exact hsn))
            have hc1 : decide (0 < g.stack.length) = true := by
              cases hg : g.stack with
              | nil => exact absurd hg hsn
              | cons a l => simp
            clear hg0
            clear hsn
            have y0 := HR.out.cell 0 rfl
            have y1 := HR.out.cell 1 rfl
            have y2 := HR.out.cell 2 rfl
            have y3 := HR.out.cell 3 rfl
            go_wp2_with fail
            refine (bfail_ok HR.out _ _).mono ?_
            rintro e w6 ⟨rfl, r6, f6⟩
            simp only [if_true] at r6
            have R6 := hide r6
            have F6 := hide f6
            clear r6 f6
            have y0 := R6.out.cell 0 rfl
            have y1 := R6.out.cell 1 rfl
            have y2 := R6.out.cell 2 rfl
            have y3 := R6.out.cell 3 rfl
            go_wp2_with fail
            go_quiet (fail)
            go_wp2
            go_ret3
            rw [hpar]
            exact rends_bad B4.out HMM.out (Or.inr (frame_drew F6.out))
        · have hpar := HSAY.out.err hg0.1 h1
          have hn1 : (er1 != 0) = true := by simpa using h1
          have H1 := hide h1
          clear hg0 h1
          have y0 := HR.out.cell 0 rfl
          have y1 := HR.out.cell 1 rfl
          have y2 := HR.out.cell 2 rfl
          have y3 := HR.out.cell 3 rfl
          have hfl := bfail_ok (HR.out.keep (W := wr.drew) ((More1.refl wr).drewN 1)) er1 er2
          simp only [if_true] at hfl
          have HFL := hide hfl
          clear hfl
          have hwr4 : w4.heap.size ≤ wr.heap.size := HMM.out.size
          go_wp2_with fail
          go_region_held3 (fun W => W.cell? ⟨w.heap.size, 5, none⟩ = some (.int .i64 er1) ∧ W.cell? ⟨w.heap.size, 6, none⟩ = some (.int .i64 er2))
            (first | exact ⟨e5, e6⟩ | exact ⟨k5, k6⟩)
            (first | (go_at_call 29; refine HFL.out.mono ?_; rintro e w6 ⟨rfl, r6, f6⟩; have k5 : w6.cell? ⟨w.heap.size, 5, none⟩ = some (.int .i64 er1) := (World.cell?_of_block (f6.block w.heap.size (show w.heap.size < wr.heap.size by omega) (by omega))).trans e5; have k6 : w6.cell? ⟨w.heap.size, 6, none⟩ = some (.int .i64 er2) := (World.cell?_of_block (f6.block w.heap.size (show w.heap.size < wr.heap.size by omega) (by omega))).trans e6; have R6 := hide r6; have F6 : Hid (Frame (fun k => k = w4.heap.size) wr w6) := hide ⟨f6.os, f6.tape, f6.output, f6.size, f6.block⟩; clear r6 f6))
          all_goals
            clear e5 e6 k5 k6 y0 y1 y2 y3
            have y0 := R6.out.cell 0 rfl
            have y1 := R6.out.cell 1 rfl
            have y2 := R6.out.cell 2 rfl
            have y3 := R6.out.cell 3 rfl
            by_cases hsn : g.stack = []
            · have hse := hsn
              by_cases hne0 : g.nodes = []
              · have hc1 : decide (0 < g.stack.length) = false := by rw [hse]; rfl
                have hc2 : (g.nodes.length == 0) = true := by rw [hne0]; rfl
                have hc3 : decide (g.nodes.length = 0) = true := by rw [hne0]; rfl
                clear hse hsn hne0
                go_wp2_with fail
                refine (bfail_ok R6.out _ _).mono ?_
                rintro e w7 ⟨rfl, r7, f7⟩
                rw [if_neg H1.out, if_neg H1.out] at r7
                have R7 := hide r7
                have F7 := hide f7
                clear r7 f7
                have y0 := R7.out.cell 0 rfl
                have y1 := R7.out.cell 1 rfl
                have y2 := R7.out.cell 2 rfl
                have y3 := R7.out.cell 3 rfl
                go_wp2_with fail
                go_quiet (fail)
                go_wp2
                go_ret3
                rw [hpar]
                exact rends_bad B4.out HMM.out (Or.inr (frame_drew (F6.out.trans' F7.out)))
              · have hc1 : decide (0 < g.stack.length) = false := by rw [hse]; rfl
                have hc2 : (g.nodes.length == 0) = false := by
                  cases hg : g.nodes with
                  | nil => exact absurd hg hne0
                  | cons a l => rfl
                have hc3 : decide (g.nodes.length = 0) = false := by simpa using hne0
                clear hse hsn hne0
                go_wp2_with fail
                go_quiet (fail)
                go_wp2
                go_ret3
                rw [hpar]
                exact rends_bad B4.out HMM.out (Or.inr (frame_drew F6.out))
            · have hc1 : decide (0 < g.stack.length) = true := by
                cases hg : g.stack with
                | nil => exact absurd hg hsn
                | cons a l => simp
              clear hsn
              go_wp2_with fail
              refine (bfail_ok R6.out _ _).mono ?_
              rintro e w7 ⟨rfl, r7, f7⟩
              rw [if_neg H1.out, if_neg H1.out] at r7
              have R7 := hide r7
              have F7 := hide f7
              clear r7 f7
              have y0 := R7.out.cell 0 rfl
              have y1 := R7.out.cell 1 rfl
              have y2 := R7.out.cell 2 rfl
              have y3 := R7.out.cell 3 rfl
              go_wp2_with fail
              go_quiet (fail)
              go_wp2
              go_ret3
              rw [hpar]
              exact rends_bad B4.out HMM.out (Or.inr (frame_drew (F6.out.trans' F7.out)))
      · have hb0 := rgrow_bad h0 HGR.out
        have hpar := HSAY.out.tok hb0.1
        rw [hb0.2.1, hb0.2.2] at hpar
        have hn0 : (er != 0) = true := by simpa using h0
        have H0 := hide h0
        clear hb0 h0
        by_cases h1 : er1 = 0
        · subst h1
          have y0 := HR.out.cell 0 rfl
          have y1 := HR.out.cell 1 rfl
          have y2 := HR.out.cell 2 rfl
          have y3 := HR.out.cell 3 rfl
          by_cases hsn : g.stack = []
          · have hse := hsn
            by_cases hne0 : g.nodes = []
            · have hc1 : decide (0 < g.stack.length) = false := by rw [hse]; rfl
              have hc2 : (g.nodes.length == 0) = true := by rw [hne0]; rfl
              have hc3 : decide (g.nodes.length = 0) = true := by rw [hne0]; rfl
              clear hse hsn hne0
              go_wp2_with fail
              refine (bfail_ok HR.out _ _).mono ?_
              rintro e w7 ⟨rfl, r7, f7⟩
              rw [if_neg H0.out, if_neg H0.out] at r7
              have R7 := hide r7
              have F7 := hide f7
              clear r7 f7
              have y0 := R7.out.cell 0 rfl
              have y1 := R7.out.cell 1 rfl
              have y2 := R7.out.cell 2 rfl
              have y3 := R7.out.cell 3 rfl
              go_wp2_with fail
              go_quiet (fail)
              go_wp2
              go_ret3
              rw [hpar]
              exact rends_bad B4.out HMM.out (Or.inr (frame_drew F7.out))
            · have hc1 : decide (0 < g.stack.length) = false := by rw [hse]; rfl
              have hc2 : (g.nodes.length == 0) = false := by
                cases hg : g.nodes with
                | nil => exact absurd hg hne0
                | cons a l => rfl
              have hc3 : decide (g.nodes.length = 0) = false := by simpa using hne0
              clear hse hsn hne0
              go_wp2_with fail
              go_quiet (fail)
              go_wp2
              go_ret3
              rw [hpar]
              exact rends_bad B4.out HMM.out (Or.inl ((More1.refl wr).drewN _))
          · have hc1 : decide (0 < g.stack.length) = true := by
              cases hg : g.stack with
              | nil => exact absurd hg hsn
              | cons a l => simp
            clear hsn
            go_wp2_with fail
            refine (bfail_ok HR.out _ _).mono ?_
            rintro e w7 ⟨rfl, r7, f7⟩
            rw [if_neg H0.out, if_neg H0.out] at r7
            have R7 := hide r7
            have F7 := hide f7
            clear r7 f7
            have y0 := R7.out.cell 0 rfl
            have y1 := R7.out.cell 1 rfl
            have y2 := R7.out.cell 2 rfl
            have y3 := R7.out.cell 3 rfl
            go_wp2_with fail
            go_quiet (fail)
            go_wp2
            go_ret3
            rw [hpar]
            exact rends_bad B4.out HMM.out (Or.inr (frame_drew F7.out))
        · have hn1 : (er1 != 0) = true := by simpa using h1
          clear h1
          have y0 := HR.out.cell 0 rfl
          have y1 := HR.out.cell 1 rfl
          have y2 := HR.out.cell 2 rfl
          have y3 := HR.out.cell 3 rfl
          have hfl := bfail_ok (HR.out.keep (W := wr.drew) ((More1.refl wr).drewN 1)) er1 er2
          rw [if_neg H0.out, if_neg H0.out] at hfl
          have HFL := hide hfl
          clear hfl
          have hwr4 : w4.heap.size ≤ wr.heap.size := HMM.out.size
          go_wp2_with fail
          go_region_held3 (fun W => W.cell? ⟨w.heap.size, 5, none⟩ = some (.int .i64 er1) ∧ W.cell? ⟨w.heap.size, 6, none⟩ = some (.int .i64 er2))
            (first | exact ⟨e5, e6⟩ | exact ⟨k5, k6⟩)
            (first | (go_at_call 29; refine HFL.out.mono ?_; rintro e w6 ⟨rfl, r6, f6⟩; have k5 : w6.cell? ⟨w.heap.size, 5, none⟩ = some (.int .i64 er1) := (World.cell?_of_block (f6.block w.heap.size (show w.heap.size < wr.heap.size by omega) (by omega))).trans e5; have k6 : w6.cell? ⟨w.heap.size, 6, none⟩ = some (.int .i64 er2) := (World.cell?_of_block (f6.block w.heap.size (show w.heap.size < wr.heap.size by omega) (by omega))).trans e6; have R6 := hide r6; have F6 : Hid (Frame (fun k => k = w4.heap.size) wr w6) := hide ⟨f6.os, f6.tape, f6.output, f6.size, f6.block⟩; clear r6 f6))
          all_goals
            clear e5 e6 k5 k6 y0 y1 y2 y3
            have y0 := R6.out.cell 0 rfl
            have y1 := R6.out.cell 1 rfl
            have y2 := R6.out.cell 2 rfl
            have y3 := R6.out.cell 3 rfl
            by_cases hsn : g.stack = []
            · have hse := hsn
              by_cases hne0 : g.nodes = []
              · have hc1 : decide (0 < g.stack.length) = false := by rw [hse]; rfl
                have hc2 : (g.nodes.length == 0) = true := by rw [hne0]; rfl
                have hc3 : decide (g.nodes.length = 0) = true := by rw [hne0]; rfl
                clear hse hsn hne0
                go_wp2_with fail
                refine (bfail_ok R6.out _ _).mono ?_
                rintro e w7 ⟨rfl, r7, f7⟩
                rw [if_neg H0.out, if_neg H0.out] at r7
                have R7 := hide r7
                have F7 := hide f7
                clear r7 f7
                have y0 := R7.out.cell 0 rfl
                have y1 := R7.out.cell 1 rfl
                have y2 := R7.out.cell 2 rfl
                have y3 := R7.out.cell 3 rfl
                go_wp2_with fail
                go_quiet (fail)
                go_wp2
                go_ret3
                rw [hpar]
                exact rends_bad B4.out HMM.out (Or.inr (frame_drew (F6.out.trans' F7.out)))
              · have hc1 : decide (0 < g.stack.length) = false := by rw [hse]; rfl
                have hc2 : (g.nodes.length == 0) = false := by
                  cases hg : g.nodes with
                  | nil => exact absurd hg hne0
                  | cons a l => rfl
                have hc3 : decide (g.nodes.length = 0) = false := by simpa using hne0
                clear hse hsn hne0
                go_wp2_with fail
                go_quiet (fail)
                go_wp2
                go_ret3
                rw [hpar]
                exact rends_bad B4.out HMM.out (Or.inr (frame_drew F6.out))
            · have hc1 : decide (0 < g.stack.length) = true := by
                cases hg : g.stack with
                | nil => exact absurd hg hsn
                | cons a l => simp
              clear hsn
              go_wp2_with fail
              refine (bfail_ok R6.out _ _).mono ?_
              rintro e w7 ⟨rfl, r7, f7⟩
              rw [if_neg H0.out, if_neg H0.out] at r7
              have R7 := hide r7
              have F7 := hide f7
              clear r7 f7
              have y0 := R7.out.cell 0 rfl
              have y1 := R7.out.cell 1 rfl
              have y2 := R7.out.cell 2 rfl
              have y3 := R7.out.cell 3 rfl
              go_wp2_with fail
              go_quiet (fail)
              go_wp2
              go_ret3
              rw [hpar]
              exact rends_bad B4.out HMM.out (Or.inr (frame_drew (F6.out.trans' F7.out)))
end Go.Proofs.YtfolnkmbdmfigaaGreatDoor

namespace Go.Proofs.YtfolnkmbdmfigaaGreatDoor
open Go.RowKit Go.Lib
theorem parse_ok {a : Addr} (b : ByteArray) (w : World) (gl : Gl w a) (hb : b.size ≤ 268435456) : Calls Tryz.prog 9 #[.string b] w (ParseEnd w (parseN b)) :=
  parse_walk b w gl (by omega) (by have := readS_len b; omega) (fun t h => by have := readS_text b t h; omega)
end Go.Proofs.YtfolnkmbdmfigaaGreatDoor

set_option linter.unusedSimpArgs false
set_option linter.unusedVariables false
namespace Go.Proofs.YtfolnkmbdmfigaaGreatDoor
open Go.RowKit Go.Maps Go.Lib
variable {A K B : Nat → Prop} {w w' w1 wr : World} {v va vb : Value} {av kv : Nat → Value} {l : List Nat}
theorem kid_cell {n : Nat} (h : w.ownsRow 0 3 1 v l.length (kidCells l)) (i : Nat) (hi : i < l.length) : ∃ g c, v = .slice (some ⟨g, 0, none⟩) l.length c ∧ w.cell? ⟨g, i, none⟩ = some (.int .i64 (l[i] : Int)) ∧ l.length ≤ maxLen := by
  rcases h.2 with ⟨_, e⟩ | ⟨g, c, cur, e, _, hg, h1, h2, h3, h4⟩
  · omega
  · refine ⟨g, c, e, cell_of hg ?_, Nat.le_trans h1 h2⟩
    have h5 : (kidCells l)[i]? = some (.int .i64 (l[i] : Int)) := by
      unfold kidCells; rw [List.getElem?_map, List.getElem?_eq_getElem hi]; rfl
    rw [← h4, List.getElem?_take] at h5
    split at h5
    · simpa using h5
    · cases h5
set_option maxHeartbeats 4000000 in
set_option maxRecDepth 10000 in
theorem ints_ok (l : List Nat) (va vb : Value) (w : World) (h1 : w.ownsRow 0 3 1 va l.length (kidCells l)) (h2 : w.ownsRow 0 3 1 vb l.length (kidCells l)) : Calls Tryz.prog 47 #[va, vb] w fun e w' => e = .returned (.bool true) ∧ More1 w w' := by
  obtain ⟨ai, ac, ha⟩ := slice_len h1
  obtain ⟨bi, bc, hb⟩ := slice_len h2
  subst ha
  subst hb
  have hcell : ∀ W, More1 w W → ∀ i (hi : i < l.length), ∃ ga gb, ai = some ⟨ga, 0, none⟩ ∧ bi = some ⟨gb, 0, none⟩ ∧ W.cell? ⟨ga, i, none⟩ = some (.int .i64 (l[i] : Int)) ∧ W.cell? ⟨gb, i, none⟩ = some (.int .i64 (l[i] : Int)) ∧ (l.length : Int) ≤ 9223372036854775807 := by
    intro W hW i hi
    obtain ⟨ga, ca, e1, x1, hm⟩ := kid_cell (n := 0) h1 i hi
    obtain ⟨gb, cb, e2, x2, _⟩ := kid_cell (n := 0) h2 i hi
    cases e1
    cases e2
    exact ⟨ga, gb, rfl, rfl, (World.cell?_of_block (hW.keep ga (World.block_lt_of_cell? w _ x1))).trans x1, (World.cell?_of_block (hW.keep gb (World.block_lt_of_cell? w _ x2))).trans x2, by have : maxLen = 9223372036854775807 := rfl; omega⟩
  have HC := hide hcell
  clear h1 h2 hcell
  go_enter Tryz.func47, Tryz.ntmps47
  go_wp2_with fail
  go_loopw [5] (fun iv wr => ∃ i : Nat, iv = .int .i64 i ∧ i ≤ l.length ∧ More1 w wr) (fun iv _ => l.length - (RowKit.intOf iv).toNat)
  case atStart => exact ⟨0, rfl, Nat.zero_le _, More1.refl w⟩
  case round =>
    obtain ⟨i, rfl, hi, hM⟩ := hrel
    by_cases hlt : i < l.length
    · have hdec : decide ((i : Int) < l.length) = true := by simp; omega
      have hdecn : decide (i < l.length) = true := by simp; omega
      have hii : (i : Int) < l.length := by omega
      obtain ⟨ga, gb, e1, e2, x1, x2, hmx⟩ := HC.out wr hM i hlt
      subst e1
      subst e2
      generalize (l[i] : Int) = z at *
      have HM := hide hM
      clear hM
      go_wp2_with fail
      go_quiet (fail)
      go_wp2
      go_roundw
      case rel => exact ⟨i + 1, by simp, by omega, HM.out.drewN _⟩
      case measure => simp only [RowKit.intOf]; omega
    · have hdec : decide ((i : Int) < l.length) = false := by simp; omega
      have hdecn : decide (i < l.length) = false := by simp; omega
      have HM := hide hM
      clear hM
      go_wp2
      go_ret
      exact ⟨rfl, HM.out⟩
theorem attr_pair {tA : TypeId} {l : Ats} {v : Value} (h : w.ownsRow 0 tA 2 v l.length (attrCells l)) (i : Nat) (hi : i < l.length) : ∃ g c, v = .slice (some ⟨g, 0, none⟩) l.length c ∧ w.cell? ⟨g, i * 2, none⟩ = some (.string ⟨(l[i]).1.toArray⟩) ∧ w.cell? ⟨g, i * 2 + 1, none⟩ = some (.string ⟨(l[i]).2.toArray⟩) ∧ l.length ≤ maxLen := by
  rcases h.2 with ⟨_, e⟩ | ⟨g, c, cur, e, _, hg, h1, h2, h3, h4⟩
  · omega
  · have key : ∀ (l : List (List UInt8 × List UInt8)) (i : Nat) (hi : i < l.length), (attrCells l)[i * 2]? = some (strV (l[i]).1) ∧ (attrCells l)[i * 2 + 1]? = some (strV (l[i]).2) := by
      intro l
      induction l with
      | nil => intro i hi; cases hi
      | cons x l ih =>
        intro i hi
        cases i with
        | zero => exact ⟨rfl, rfl⟩
        | succ i =>
          have := ih i (by simpa using hi)
          have e1 : (i + 1) * 2 = i * 2 + 2 := by omega
          rw [e1]
          simpa [attrCells] using this
    obtain ⟨k1, k2⟩ := key l i hi
    have up : ∀ j u, (attrCells l)[j]? = some u → w.cell? ⟨g, j, none⟩ = some u := fun j u hj => by
      refine cell_of hg ?_
      rw [← h4, List.getElem?_take] at hj
      split at hj
      · simpa using hj
      · cases hj
    exact ⟨g, c, e, up _ _ k1, up _ _ k2, Nat.le_trans h1 h2⟩
set_option maxHeartbeats 8000000 in
set_option maxRecDepth 10000 in
theorem one_node (n : Nd) (aa ab ka kb : Value) (w : World) (h1 : w.ownsRow 0 44 2 aa n.attrs.length (attrCells n.attrs)) (h2 : w.ownsRow 0 82 2 ab n.attrs.length (attrCells n.attrs)) (h3 : w.ownsRow 0 3 1 ka n.kids.length (kidCells n.kids)) (h4 : w.ownsRow 0 3 1 kb n.kids.length (kidCells n.kids)) :
    Calls Tryz.prog 30 #[.agg #[.string ⟨n.name.toArray⟩, aa, .string ⟨n.text.toArray⟩, ka, .int .i64 n.up], .agg #[.string ⟨n.name.toArray⟩, ab, .string ⟨n.text.toArray⟩, kb, .int .i64 n.up]] w fun e w' => e = .returned (.bool true) ∧ More1 w w' := by
  have hints : ∀ W, More1 w W → Calls Tryz.prog 47 #[ka, kb] W fun e w' => e = .returned (.bool true) ∧ More1 W w' := fun W hW => ints_ok n.kids ka kb W (owns_of h3 fun b e => hW.keep b (own_lt h3 e)) (owns_of h4 fun b e => hW.keep b (own_lt h4 e))
  obtain ⟨ai, ac, ha⟩ := slice_len h1
  obtain ⟨bi, bc, hb⟩ := slice_len h2
  obtain ⟨ki, kc, hka⟩ := slice_len h3
  obtain ⟨li, lc, hkb⟩ := slice_len h4
  subst ha
  subst hb
  subst hka
  subst hkb
  have HI := hide hints
  have H1 := hide h1
  have H2 := hide h2
  clear h1 h2 h3 h4 hints
  go_enter Tryz.func30, Tryz.ntmps30
  go_wp2_with fail
  refine (HI.out _ (((More1.refl w).alloc _).alloc _)).mono ?_
  rintro e w1 ⟨rfl, m1⟩
  have hb1 : w1.heap[w.heap.size]? = some (.cells #[.string ⟨n.name.toArray⟩, .slice ai (List.length n.attrs) ac, .string ⟨n.text.toArray⟩, .slice ki n.kids.length kc, .int .i64 n.up] 42) := (m1.keep w.heap.size (by simp; omega)).trans ((Below.heap_alloc _ _ _ (by simp)).trans (Below_new w _))
  have hb2 : w1.heap[w.heap.size + 1]? = some (.cells #[.string ⟨n.name.toArray⟩, .slice bi (List.length n.attrs) bc, .string ⟨n.text.toArray⟩, .slice li n.kids.length lc, .int .i64 n.up] 76) := by
    have hz : (w.alloc (.cells #[.string ⟨n.name.toArray⟩, .slice ai (List.length n.attrs) ac, .string ⟨n.text.toArray⟩, .slice ki n.kids.length kc, .int .i64 n.up] 42)).heap.size = w.heap.size + 1 := by simp
    have hnew := Below_new (w.alloc (.cells #[.string ⟨n.name.toArray⟩, .slice ai (List.length n.attrs) ac, .string ⟨n.text.toArray⟩, .slice ki n.kids.length kc, .int .i64 n.up] 42)) (.cells #[.string ⟨n.name.toArray⟩, .slice bi (List.length n.attrs) bc, .string ⟨n.text.toArray⟩, .slice li n.kids.length lc, .int .i64 n.up] 76)
    rw [hz] at hnew
    exact (m1.keep (w.heap.size + 1) (by simp)).trans hnew
  have hM : More1 w w1 := (((More1.refl w).alloc _).alloc _).trans m1
  have hcell : ∀ W, More1 w1 W → (W.cell? ⟨w.heap.size, 0, none⟩ = some (.string ⟨n.name.toArray⟩) ∧ W.cell? ⟨w.heap.size, 1, none⟩ = some (.slice ai (List.length n.attrs) ac) ∧ W.cell? ⟨w.heap.size, 2, none⟩ = some (.string ⟨n.text.toArray⟩) ∧ W.cell? ⟨w.heap.size, 4, none⟩ = some (.int .i64 n.up)) ∧
      (W.cell? ⟨w.heap.size + 1, 0, none⟩ = some (.string ⟨n.name.toArray⟩) ∧ W.cell? ⟨w.heap.size + 1, 1, none⟩ = some (.slice bi (List.length n.attrs) bc) ∧ W.cell? ⟨w.heap.size + 1, 2, none⟩ = some (.string ⟨n.text.toArray⟩) ∧ W.cell? ⟨w.heap.size + 1, 4, none⟩ = some (.int .i64 n.up)) := by
    intro W hW
    have k1 := (hW.keep w.heap.size (blk_lt hb1)).trans hb1
    have k2 := (hW.keep (w.heap.size + 1) (blk_lt hb2)).trans hb2
    exact ⟨⟨cell_of k1 rfl, cell_of k1 rfl, cell_of k1 rfl, cell_of k1 rfl⟩, cell_of k2 rfl, cell_of k2 rfl, cell_of k2 rfl, cell_of k2 rfl⟩
  have hattr : ∀ W, More1 w1 W → ∀ i (hi : i < List.length n.attrs), ∃ ga gb, ai = some ⟨ga, 0, none⟩ ∧ bi = some ⟨gb, 0, none⟩ ∧ (List.length n.attrs : Int) ≤ 9223372036854775807 ∧ ∃ x y : ByteArray, W.cell? ⟨ga, i * 2, none⟩ = some (.string x) ∧ W.cell? ⟨ga, i * 2 + 1, none⟩ = some (.string y) ∧ W.cell? ⟨gb, i * 2, none⟩ = some (.string x) ∧ W.cell? ⟨gb, i * 2 + 1, none⟩ = some (.string y) := by
    intro W hW i hi
    have hMW := hM.trans hW
    obtain ⟨ga, ca, e1, x1, x2, hm⟩ := attr_pair H1.out i hi
    obtain ⟨gb, cb, e2, y1, y2, _⟩ := attr_pair H2.out i hi
    cases e1
    cases e2
    refine ⟨ga, gb, rfl, rfl, by have : maxLen = 9223372036854775807 := rfl; omega, _, _, (World.cell?_of_block (hMW.keep ga (World.block_lt_of_cell? w _ x1))).trans x1, (World.cell?_of_block (hMW.keep ga (World.block_lt_of_cell? w _ x1))).trans x2, (World.cell?_of_block (hMW.keep gb (World.block_lt_of_cell? w _ y1))).trans y1, (World.cell?_of_block (hMW.keep gb (World.block_lt_of_cell? w _ y1))).trans y2⟩
  obtain ⟨⟨p0, p1, p2, p4⟩, q0, q1, q2, q4⟩ := hcell w1 (More1.refl w1)
  have HC := hide hcell
  have HAT := hide hattr
  have HM := hide hM
  clear hcell hattr hM m1 hb1 hb2
  go_wp2_with fail
  go_loopw [6] (fun iv wr => ∃ i : Nat, iv = .int .i64 i ∧ i ≤ List.length n.attrs ∧ More1 w1 wr) (fun iv _ => List.length n.attrs - (RowKit.intOf iv).toNat)
  case atStart => exact ⟨0, rfl, Nat.zero_le _, More1.refl w1⟩
  case round =>
    obtain ⟨i, rfl, hi, hMr⟩ := hrel
    obtain ⟨⟨r0, r1, r2, r4⟩, s0, s1, s2, s4⟩ := HC.out wr hMr
    clear p0 p1 p2 p4 q0 q1 q2 q4
    by_cases hlt : i < List.length n.attrs
    · have hdec : decide ((i : Int) < List.length n.attrs) = true := by simp; omega
      have hdecn : decide (i < List.length n.attrs) = true := by simp; omega
      have hii : (i : Int) < List.length n.attrs := by omega
      obtain ⟨ga, gb, e1, e2, hmx, x, y, x1, x2, y1, y2⟩ := HAT.out wr hMr i hlt
      subst e1
      subst e2
      have HMr := hide hMr
      clear hMr
      go_wp2_with fail
      go_quiet (fail)
      go_wp2
      go_roundw
      case rel => exact ⟨i + 1, by simp, by omega, HMr.out.drewN _⟩
      case measure => simp only [RowKit.intOf]; omega
    · have hdec : decide ((i : Int) < List.length n.attrs) = false := by simp; omega
      have hdecn : decide (i < List.length n.attrs) = false := by simp; omega
      have HMr := hide hMr
      clear hMr
      go_wp2
      go_ret
      exact ⟨rfl, HM.out.trans HMr.out⟩
end Go.Proofs.YtfolnkmbdmfigaaGreatDoor

set_option linter.unusedSimpArgs false
set_option linter.unusedVariables false
namespace Go.Proofs.YtfolnkmbdmfigaaGreatDoor
open Go.RowKit Go.Maps Go.Lib
variable {A K A' K' : Nat → Prop} {w w' w1 wr : World} {v v2 : Value} {av kv av' kv' : Nat → Value} {l : List Nd}
structure Pair3 (w : World) (v v2 : Value) (l : List Nd) (i : Nat) : Prop where
  ex : ∃ ga ca gb cb n ai an ac bi bn bc ki kn kc li ln lc, v = .slice (some ⟨ga, 0, none⟩) l.length ca ∧ v2 = .slice (some ⟨gb, 0, none⟩) l.length cb ∧ (l.length : Int) ≤ 9223372036854775807 ∧
    (∀ W, More1 w W → (W.cell? ⟨ga, i * 5, none⟩ = some (.string ⟨(Nd.name n).toArray⟩) ∧ W.cell? ⟨ga, i * 5 + 1, none⟩ = some (.slice ai an ac) ∧ W.cell? ⟨ga, i * 5 + 2, none⟩ = some (.string ⟨(Nd.text n).toArray⟩) ∧ W.cell? ⟨ga, i * 5 + 3, none⟩ = some (.slice ki kn kc) ∧ W.cell? ⟨ga, i * 5 + 4, none⟩ = some (.int .i64 (Nd.up n))) ∧
      (W.cell? ⟨gb, i * 5, none⟩ = some (.string ⟨(Nd.name n).toArray⟩) ∧ W.cell? ⟨gb, i * 5 + 1, none⟩ = some (.slice bi bn bc) ∧ W.cell? ⟨gb, i * 5 + 2, none⟩ = some (.string ⟨(Nd.text n).toArray⟩) ∧ W.cell? ⟨gb, i * 5 + 3, none⟩ = some (.slice li ln lc) ∧ W.cell? ⟨gb, i * 5 + 4, none⟩ = some (.int .i64 (Nd.up n)))) ∧
    (∀ W, More1 w W → Calls Tryz.prog 30 #[.agg #[.string ⟨(Nd.name n).toArray⟩, .slice ai an ac, .string ⟨(Nd.text n).toArray⟩, .slice ki kn kc, .int .i64 (Nd.up n)], .agg #[.string ⟨(Nd.name n).toArray⟩, .slice bi bn bc, .string ⟨(Nd.text n).toArray⟩, .slice li ln lc, .int .i64 (Nd.up n)]] W fun e w' => e = .returned (.bool true) ∧ More1 W w')
theorem pair3_of (h1 : Nodes 42 44 A K w v l av kv) (h2 : Nodes 76 82 A' K' w v2 l av' kv') (i : Nat) (hi : i < l.length) : Pair3 w v v2 l i := by
  have hl : l[i]? = some l[i] := List.getElem?_eq_getElem hi
  obtain ⟨ga, ca, e1, hm, _, x0, x1, x2, x3, x4⟩ := h1.cells i _ hl
  obtain ⟨gb, cb, e2, _, _, y0, y1, y2, y3, y4⟩ := h2.cells i _ hl
  have o1 := h1.attr i _ hl
  have o2 := h2.attr i _ hl
  have o3 := h1.kid i _ hl
  have o4 := h2.kid i _ hl
  have hone : ∀ W, More1 w W → Calls Tryz.prog 30 #[.agg #[.string ⟨(l[i]).name.toArray⟩, av i, .string ⟨(l[i]).text.toArray⟩, kv i, .int .i64 (l[i]).up], .agg #[.string ⟨(l[i]).name.toArray⟩, av' i, .string ⟨(l[i]).text.toArray⟩, kv' i, .int .i64 (l[i]).up]] W fun e w' => e = .returned (.bool true) ∧ More1 W w' := fun W hW =>
    one_node (l[i]) (av i) (av' i) (kv i) (kv' i) W (owns_of o1 fun b e => hW.keep b (own_lt o1 e)) (owns_of o2 fun b e => hW.keep b (own_lt o2 e)) (owns_of o3 fun b e => hW.keep b (own_lt o3 e)) (owns_of o4 fun b e => hW.keep b (own_lt o4 e))
  obtain ⟨ai, ac, ea⟩ := slice_len o1
  obtain ⟨bi, bc, eb⟩ := slice_len o2
  obtain ⟨ki, kc, ek⟩ := slice_len o3
  obtain ⟨li, lc, el⟩ := slice_len o4
  rw [ea, eb, ek, el] at hone
  rw [ea] at x1
  rw [ek] at x3
  rw [eb] at y1
  rw [el] at y3
  have la : ga < w.heap.size := World.block_lt_of_cell? w _ x0
  have lb : gb < w.heap.size := World.block_lt_of_cell? w _ y0
  refine ⟨ga, ca, gb, cb, l[i], ai, _, ac, bi, _, bc, ki, _, kc, li, _, lc, e1, e2, by have : maxLen = 9223372036854775807 := rfl; omega, fun W hW => ?_, hone⟩
  have ka := fun (a : Nat) u (h : w.cell? ⟨ga, a, none⟩ = some u) => (World.cell?_of_block (a := ⟨ga, a, none⟩) (hW.keep ga la)).trans h
  have kb := fun (a : Nat) u (h : w.cell? ⟨gb, a, none⟩ = some u) => (World.cell?_of_block (a := ⟨gb, a, none⟩) (hW.keep gb lb)).trans h
  exact ⟨⟨ka _ _ x0, ka _ _ x1, ka _ _ x2, ka _ _ x3, ka _ _ x4⟩, kb _ _ y0, kb _ _ y1, kb _ _ y2, kb _ _ y3, kb _ _ y4⟩
set_option maxHeartbeats 8000000 in
set_option maxRecDepth 10000 in
theorem same_nodes (h1 : Nodes 42 44 A K w v l av kv) (h2 : Nodes 76 82 A' K' w v2 l av' kv') : Calls Tryz.prog 11 #[v, v2] w fun e w' => e = .returned (.bool true) ∧ More1 w w' := by
  have hp := fun i hi => pair3_of h1 h2 i hi
  obtain ⟨vi, vc, hv⟩ := slice_len h1.row
  obtain ⟨ui, uc, hu⟩ := slice_len h2.row
  subst hv
  subst hu
  have HP := hide hp
  clear h1 h2 hp
  go_enter Tryz.func11, Tryz.ntmps11
  go_wp2_with fail
  go_loopw [5, 6] (fun iv _ wr => ∃ i : Nat, iv = .int .i64 i ∧ i ≤ l.length ∧ More1 w wr) (fun iv _ _ => l.length - (RowKit.intOf iv).toNat)
  case atStart => exact ⟨0, rfl, Nat.zero_le _, More1.refl w⟩
  case round =>
    obtain ⟨i, rfl, hi, hM⟩ := hrel
    by_cases hlt : i < l.length
    · have hdec : decide ((i : Int) < l.length) = true := by simp; omega
      have hdecn : decide (i < l.length) = true := by simp; omega
      have hii : (i : Int) < l.length := by omega
      obtain ⟨ga, ca, gb, cb, n, ai, an, ac, bi, bn, bc, ki, kn, kc, li, ln, lc, e1, e2, hmx, hcs, hone⟩ := (HP.out i hlt).ex
      cases e1
      cases e2
      obtain ⟨⟨x0, x1, x2, x3, x4⟩, y0, y1, y2, y3, y4⟩ := hcs wr hM
      have hcall := hone wr.drew (hM.trans ((More1.refl wr).drewN 1))
      have HCS := hide hcs
      have HM := hide hM
      clear hcs hone hM
      go_wp2_with fail
      go_region_held3 (fun W => (W.cell? ⟨ga, i * 5, none⟩ = some (.string ⟨(Nd.name n).toArray⟩) ∧ W.cell? ⟨ga, i * 5 + 1, none⟩ = some (.slice ai an ac) ∧ W.cell? ⟨ga, i * 5 + 2, none⟩ = some (.string ⟨(Nd.text n).toArray⟩) ∧ W.cell? ⟨ga, i * 5 + 3, none⟩ = some (.slice ki kn kc) ∧ W.cell? ⟨ga, i * 5 + 4, none⟩ = some (.int .i64 (Nd.up n))) ∧ (W.cell? ⟨gb, i * 5, none⟩ = some (.string ⟨(Nd.name n).toArray⟩) ∧ W.cell? ⟨gb, i * 5 + 1, none⟩ = some (.slice bi bn bc) ∧ W.cell? ⟨gb, i * 5 + 2, none⟩ = some (.string ⟨(Nd.text n).toArray⟩) ∧ W.cell? ⟨gb, i * 5 + 3, none⟩ = some (.slice li ln lc) ∧ W.cell? ⟨gb, i * 5 + 4, none⟩ = some (.int .i64 (Nd.up n))))
        (first | exact ⟨⟨x0, x1, x2, x3, x4⟩, y0, y1, y2, y3, y4⟩ | exact HCS.out _ m6)
        (first | (go_at_call 30; refine hcall.mono ?_; rintro e w6 ⟨rfl, m5⟩; have m6 : More1 w w6 := (HM.out.trans ((More1.refl wr).drewN 1)).trans m5; clear m5))
      all_goals
        have M6 := hide m6
        clear m6 hcall x0 x1 x2 x3 x4 y0 y1 y2 y3 y4
        go_wp2
        go_roundw
        case rel => exact ⟨i + 1, by simp, by omega, M6.out⟩
        case measure => simp only [RowKit.intOf]; omega
    · have hdec : decide ((i : Int) < l.length) = false := by simp; omega
      have hdecn : decide (i < l.length) = false := by simp; omega
      have HM := hide hM
      clear hM
      go_wp2
      go_ret
      exact ⟨rfl, HM.out⟩
end Go.Proofs.YtfolnkmbdmfigaaGreatDoor

set_option linter.unusedSimpArgs false
set_option linter.unusedVariables false
namespace Go.Proofs.YtfolnkmbdmfigaaGreatDoor
open Go.RowKit Go.Maps
variable {w w' w1 : World} {b B : Nat} {bs : List UInt8} {nv : Value}

theorem lies105 : liesAt Tryz.prog Tryz.prog.depth 110 (3 / Tryz.prog.cellsOf 110) 0 108 1 = true := by kernel_rfl
set_option maxHeartbeats 1000000 in
set_option maxRecDepth 100000 in
theorem wcopy_fresh (b : Nat) (w : World) (c0 : w.cell? ⟨b, 0, none⟩ = some (.pointer none)) (hsh : w.shape? b = some (110, 3)) (f0 : w.frozen? ⟨b, 0, none⟩ = false) :
    Calls Tryz.prog 77 #[.pointer (some ⟨b, 0, none⟩)] w fun e w' => e = .returned (.tuple #[]) ∧ w' = w.setCell ⟨b, 0, none⟩ (.pointer (some ⟨b, 0, none⟩)) := by
  obtain ⟨j, hj, hjs⟩ := info43
  go_enter Tryz.func77, Tryz.ntmps77
  go_wp2
  rw [Lib.run_to_unsafe w ⟨b, 0, none⟩ Tryz.underlying106 Tryz.underlying148 hj (by rw [hjs]; decide) hsh (show 0 < 3 by decide)]
  simp only [Result.andThen]
  rw [Oper.upon_value]
  go_wp2
  rw [run_callFunc_extern Tryz.func104 (by kernel_rfl) (by kernel_rfl) (by kernel_rfl) (e := Extern.AbiNoEscape.same) (by kernel_rfl)]
  rw [Lib.run_noEscape]
  simp only [Result.andThen]
  rw [Oper.upon_value]
  go_wp2
  rw [Lib.run_from_unsafe w ⟨b, 0, none⟩ Tryz.underlying148 Tryz.underlying106 hj hsh lies105]
  simp only [Result.andThen]
  rw [Oper.upon_value]
  go_wp2
  go_end0
  exact ⟨rfl, rfl⟩
structure WR (b : Nat) (bs : List UInt8) (nv : Value) (w : World) : Prop where
  ex : ∃ p v, (p = .pointer none ∨ p = .pointer (some ⟨b, 0, none⟩)) ∧ w.heap[b]? = some (.cells #[p, v, nv] 110 (0, 0)) ∧ w.ownsRowF b 5 1 v bs.length (Lib.byteCells bs) ∧ v.ownBlock ≠ some b
theorem wcells {p v : Value} (hbk : w.heap[b]? = some (.cells #[p, v, nv] 110 (0, 0))) : w.cell? ⟨b, 0, none⟩ = some p ∧ w.cell? ⟨b, 1, none⟩ = some v ∧ w.cell? ⟨b, 2, none⟩ = some nv ∧ w.frozen? ⟨b, 0, none⟩ = false ∧ w.frozen? ⟨b, 1, none⟩ = false ∧ w.shape? b = some (110, 3) ∧ b < w.heap.size :=
  ⟨cell_of hbk rfl, cell_of hbk rfl, cell_of hbk rfl, free_of hbk, free_of hbk, by simp [World.shape?, hbk], blk_lt hbk⟩
theorem wcopy_ok (h : WR b bs nv w) : Calls Tryz.prog 77 #[.pointer (some ⟨b, 0, none⟩)] w fun e w' => e = .returned (.tuple #[]) ∧ ∃ v p0, w.heap[b]? = some (.cells #[p0, v, nv] 110 (0, 0)) ∧ (∀ k, k ≠ b → w'.heap[k]? = w.heap[k]?) ∧ w'.heap[b]? = some (.cells #[.pointer (some ⟨b, 0, none⟩), v, nv] 110 (0, 0)) ∧ w'.ownsRowF b 5 1 v bs.length (Lib.byteCells bs) ∧ v.ownBlock ≠ some b ∧ Below b w w' := by
  obtain ⟨p, v, hp, hbk, hown, hne⟩ := h.ex
  obtain ⟨c0, c1, c2, f0, f1, hsh, hlt⟩ := wcells hbk
  rcases hp with rfl | rfl
  · refine (wcopy_fresh b w c0 hsh f0).mono ?_
    rintro e w' ⟨rfl, rfl⟩
    refine ⟨rfl, v, _, hbk, fun k hk => Below.heap_setCell _ _ _ _ (fun e => hk (by rw [e])), ?_, ?_, hne, (Below.refl b w).setCell (p := ⟨b, 0, none⟩) (Nat.le_refl _) _⟩
    · rw [set_of hbk]; rfl
    · refine hown.kept (row := some b) ⟨rfl, rfl, rfl, by simp [World.setCell], fun k _ hk => Below.heap_setCell _ _ _ _ (fun e => hk (by rw [e]))⟩ ?_
      exact Or.inr hne
  · refine (copyCheck_used b w c0).mono ?_
    rintro e w' ⟨rfl, rfl⟩
    exact ⟨rfl, v, _, hbk, fun _ _ => rfl, hbk, hown, hne, Below.refl _ _⟩
set_option maxHeartbeats 2000000 in
set_option maxRecDepth 100000 in
theorem wwrite_ok (h : WR b bs nv w) (s : ByteArray) (hlen : bs.length + s.size ≤ 140737488355328) :
    Calls Tryz.prog 49 #[.pointer (some ⟨b, 0, none⟩), .string s] w fun e w' => e = .returned (.tuple #[.int .i64 s.size, .nilIface]) ∧ WR b (bs ++ s.data.toList) nv w' ∧ Below b w w' ∧ ∃ p0 v, w.heap[b]? = some (.cells #[p0, v, nv] 110 (0, 0)) ∧ ∀ k, k < w.heap.size → k ≠ b → v.ownBlock ≠ some k → w'.heap[k]? = w.heap[k]? := by
  obtain ⟨i0, hi, hz0, hz1, hz2⟩ := info_parts Tryz.Builder_Extra_242.infoByte
  have hcc := wcopy_ok h
  have hbl : b ≤ w.heap.size := by obtain ⟨p, v, _, hbk, _⟩ := h.ex; exact Nat.le_of_lt (blk_lt hbk)
  clear h
  go_enter Tryz.func49, Tryz.ntmps49
  go_wp2_with (go_at_call 77; refine hcc.mono ?_)
  rintro e w1 ⟨rfl, v, p0, h00, hkp, hbk, hown, hne, hb1⟩
  obtain ⟨c0, c1, c2, f0, f1, _, hlt⟩ := wcells hbk
  go_wp2_with (at_builtin; refine Lib.wpList_append_own_stringF _ rfl _ _ 87 9 rfl b 5 i0 Tryz.underlying87 Tryz.underlying9 hi hz0 hz1 hz2 _ _ _ rfl hown s rfl ?c3 ?c4 ?c5 ?_)
  case c3 => unfold maxLen; omega
  case c4 => omega
  case c5 => omega
  intro v' w2 hown' hgrow _
  have hb2 : w2.heap[b]? = some (.cells #[.pointer (some ⟨b, 0, none⟩), v, nv] 110 (0, 0)) := by
    rw [hgrow.block b hlt (fun e => hne e.symm)]; exact hbk
  obtain ⟨d0, d1, d2, g0, g1, _, _⟩ := wcells hb2
  have hne' : v'.ownBlock ≠ some b := by
    intro e
    rcases hown'.2 with ⟨hv, _⟩ | ⟨g, cap, cur, fz, hv, _, hgg, _⟩
    · rw [hv] at e; cases e
    · rw [hv] at e
      have eg : g = b := by simpa [Value.ownBlock] using e
      rw [eg, hb2] at hgg
      simp at hgg
  obtain ⟨ao, n', cap, rfl⟩ : ∃ ao n' cap, v' = .slice ao n' cap := by
    rcases hown'.2 with ⟨hv, _⟩ | ⟨g, cap, cur, fz, hv, _⟩ <;> exact ⟨_, _, _, hv⟩
  have hcells : Lib.byteCells bs ++ Lib.strCells s = Lib.byteCells (bs ++ s.data.toList) := by
    simp [Lib.byteCells, Lib.strCells]
  have hblk : Below b w w2 := hb1.grown hgrow (Nat.le_of_lt hlt) (fun k hk => (hown.lt k hk).1)
  have hkk : ∀ k, k < w.heap.size → k ≠ b → v.ownBlock ≠ some k → w2.heap[k]? = w.heap[k]? := fun k hk h1 h2 => (hgrow.block k (by have := hb1.size; omega) (fun e => h2 e.symm)).trans (hkp k h1)
  have HKK := hide hkk
  have H00 := hide h00
  clear hkk h00 hkp
  have HO := hide hown'
  have HB := hide hblk
  have HB2 := hide hb2
  have HNE := hide hne'
  clear hown' hblk hgrow hown hb2 hne'
  go_wp2
  go_ret2
  refine ⟨rfl, ⟨.pointer (some ⟨b, 0, none⟩), _, Or.inr rfl, by rw [set_of HB2.out]; rfl, ?_, HNE.out⟩, HB.out.setCell (p := ⟨b, 1, none⟩) (Nat.le_refl _) _, p0, v, H00.out, fun k h1 h2 h3 => (Below.heap_setCell _ _ _ _ (fun e => h2 (by rw [e]))).trans (HKK.out k h1 h2 h3)⟩
  have hl : (bs ++ s.data.toList).length = bs.length + s.size := by simp
  rw [← hcells, hl]
  refine HO.out.kept (row := some b) ⟨rfl, rfl, rfl, by simp [World.setCell], fun k _ hk => Below.heap_setCell _ _ _ _ (fun e => hk (by rw [e]))⟩ (Or.inr HNE.out)
end Go.Proofs.YtfolnkmbdmfigaaGreatDoor

set_option linter.unusedSimpArgs false
set_option linter.unusedVariables false
namespace Go.Proofs.YtfolnkmbdmfigaaGreatDoor
open Go.RowKit Go.Lib

def IsAt (l : List Nd) (m : Nat) (u : Int) (f : Fo) : Prop := ∀ i, i < f.size → l[m + i]? = (f.flat m u)[i]?
theorem isAt_whole (f : Fo) (u : Int) : IsAt (f.flat 0 u) 0 u f := fun i _ => by rw [Nat.zero_add]
theorem IsAt.text {l : List Nd} {m : Nat} {u : Int} {t : List UInt8} {r : Fo} (h : IsAt l m u (.text t r)) : l[m]? = some ⟨[], [], t, [], u⟩ ∧ IsAt l (m + 1) u r := by
  refine ⟨?_, fun i hi => ?_⟩
  · have := h 0 (by simp only [Fo.size]; omega)
    simpa [Fo.flat] using this
  · have := h (i + 1) (by simp only [Fo.size]; omega)
    rw [show m + 1 + i = m + (i + 1) by omega, this]
    simp [Fo.flat]
theorem IsAt.elem {l : List Nd} {m : Nat} {u : Int} {n : List UInt8} {a : Ats} {k r : Fo} (h : IsAt l m u (.elem n a k r)) :
    l[m]? = some ⟨n, a, [], k.tops (m + 1), u⟩ ∧ IsAt l (m + 1) m k ∧ IsAt l (m + 1 + k.size) u r := by
  refine ⟨?_, fun i hi => ?_, fun i hi => ?_⟩
  · have := h 0 (by simp only [Fo.size]; omega)
    simpa [Fo.flat] using this
  · have := h (i + 1) (by simp only [Fo.size]; omega)
    rw [show m + 1 + i = m + (i + 1) by omega, this]
    simp only [Fo.flat, List.getElem?_cons_succ]
    rw [List.getElem?_append_left (by rw [flat_len]; exact hi)]
  · have := h (i + k.size + 1) (by simp only [Fo.size]; omega)
    rw [show m + 1 + k.size + i = m + (i + k.size + 1) by omega, this]
    simp only [Fo.flat, List.getElem?_cons_succ]
    rw [List.getElem?_append_right (by rw [flat_len]; omega), flat_len, Nat.add_sub_cancel]
theorem IsAt.of_text {l : List Nd} {m : Nat} {u : Int} {t : List UInt8} (h : l[m]? = some ⟨[], [], t, [], u⟩) : IsAt l m u (.text t .nil) := fun i hi => by
  simp only [Fo.size] at hi
  obtain rfl : i = 0 := by omega
  simpa [Fo.flat] using h
theorem IsAt.of_elem {l : List Nd} {m : Nat} {u : Int} {n : List UInt8} {a : Ats} {k : Fo} (h : l[m]? = some ⟨n, a, [], k.tops (m + 1), u⟩) (hk : IsAt l (m + 1) m k) : IsAt l m u (.elem n a k .nil) := fun i hi => by
  simp only [Fo.size] at hi
  cases i with
  | zero => simpa [Fo.flat] using h
  | succ i =>
    have := hk i (by omega)
    rw [show m + (i + 1) = m + 1 + i by omega, this]
    simp only [Fo.flat, List.getElem?_cons_succ, List.append_nil]
def Single (x : Fo) : Prop := (∃ t, x = .text t .nil) ∨ ∃ n a k, x = .elem n a k .nil
def Fo.All (P : List UInt8 → Prop) (Q : List UInt8 → Ats → Prop) : Fo → Prop
  | .nil => True
  | .text t r => P t ∧ r.All P Q
  | .elem n a k r => Q n a ∧ k.All P Q ∧ r.All P Q
def Fo.Apart : Bool → Fo → Prop
  | _, .nil => True
  | b, .text _ r => b = false ∧ r.Apart true
  | _, .elem _ _ k r => k.Apart false ∧ r.Apart false
def Fo.value : Fo → List UInt8
  | .nil => []
  | .text t r => t ++ r.value
  | .elem _ _ k r => k.value ++ r.value
def tagA (a : List UInt8 × List UInt8) : List UInt8 := 32 :: (a.1 ++ ([61, 34] ++ (Ch.escL true a.2 ++ [34])))
def Fo.isNil : Fo → Bool
  | .nil => true
  | _ => false
def Fo.plain : Fo → List UInt8
  | .nil => []
  | .text t r => Ch.escL false t ++ r.plain
  | .elem n a k r => (60 :: (n ++ a.flatMap tagA)) ++ ((if k.isNil = true then [47, 62] else [62] ++ (k.plain ++ ([60, 47] ++ (n ++ [62])))) ++ r.plain)
end Go.Proofs.YtfolnkmbdmfigaaGreatDoor
