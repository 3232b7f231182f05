import Derived.Test.YtbbocgeapofloaiGreatDoorAh
import Derived.Test.YtbbocgeapofloaiGreatDoorAg
set_option linter.unusedVariables false
set_option linter.unusedSimpArgs false
namespace Go.Proofs.YtbbocgeapofloaiGreatDoor
open Go.RowKit Go.Maps

variable {F : Nat → Prop} {R : Nat} {w w' : World} {s : Src} {p : Ptr} {st : St} {c : Int}

theorem PartEnd.goR {w' : World} {s : Src} {p' : Ptr} {st' : St} {pl : Pl} (h : Rep (Grow F w w') R w' s p' st') (hf : Frame F w w') : PartEnd F R w s ⟨st', .go (.plain pl)⟩ (.returned (.tuple #[pl.val, .nilIface])) w' :=
  ⟨p', h, hf, _, rfl, rfl⟩

theorem Frame.setR (hR : F R) (i : Nat) (v : Value) : Frame F w (w.setCell ⟨R, i, none⟩ v) :=
  ⟨rfl, rfl, rfl, by simp [World.setCell], fun k _ hf => Below.heap_setCell _ _ _ _ (fun e => hf (by rw [e]; exact hR))⟩

/-- A store into one of R's own cells (no row). -/
theorem Rep.scalar {s' : Src} {st' : St} (h : Rep F R w s p st) (i : Nat) (v : Value) (hc : (cellsOf s p st).setIfInBounds i v = cellsOf s' p st') (ho : Own F R (w.setCell ⟨R, i, none⟩ v) p st → Own F R (w.setCell ⟨R, i, none⟩ v) p st') : Rep F R (w.setCell ⟨R, i, none⟩ v) s' p st' :=
  h.setR (fun k hk => Below.heap_setCell _ _ _ _ hk) (by simp [World.setCell]) (by rw [← hc]; exact set_of h.blk v) ho
theorem Rep.grow1 (h : Rep F R w' s p st) (hs : w'.heap.size = w.heap.size) : Rep (Grow F w w') R w' s p st :=
  h.mono (fun _ x => Or.inl x) (fun k hk => hk.elim (h.lt k) (fun x => x.2))

set_option maxHeartbeats 1000000 in
theorem attrP_ok (h : Rep F R w s p st) (_hc : Leg c) :
    Calls Tryz.prog 107 #[.pointer (some ⟨R, 0, none⟩), .int .i32 c] w (PartEnd F R w s (stAttr s.at_ st c)) := by
  have hat := h.cell 2 rfl
  have hb := blank_tok c w
  have H := hide h
  clear h
  unfold stAttr
  generalize Tk.blank c = b at *
  cases b
  · simp only [Bool.false_eq_true, if_false]
    by_cases h1 : c = 61
    · subst h1
      go_enter Tryz.func107, Tryz.ntmps107
      go_wp2_with (go_at_call 69; refine hb.mono ?_; rintro e w1 ⟨rfl, rfl⟩)
      go_ret2
      exact PartEnd.go0 H.out (Below.refl _ _)
    · have e1 : (c == 61) = false := by simpa using h1
      rw [if_neg h1]
      clear h1
      go_enter Tryz.func107, Tryz.ntmps107
      go_wp2_with (first | (go_at_call 69; refine hb.mono ?_; rintro e w1 ⟨rfl, rfl⟩) | (go_at_call 25; refine (refuse_tok R c s.at_ _ hat).mono ?_; rintro e w1 ⟨rfl, rfl⟩))
      go_ret2
      exact PartEnd.fail0 H.out (Below.refl _ _)
  · simp only [if_true]
    go_enter Tryz.func107, Tryz.ntmps107
    go_wp2_with (go_at_call 69; refine hb.mono ?_; rintro e w1 ⟨rfl, rfl⟩)
    go_ret2
    exact PartEnd.go0 H.out (Below.refl _ _)

set_option maxHeartbeats 1000000 in
theorem equals_ok (h : Rep F R w s p st) (_hc : Leg c) :
    Calls Tryz.prog 112 #[.pointer (some ⟨R, 0, none⟩), .int .i32 c] w (PartEnd F R w s (step .equals s.at_ st c)) := by
  have hat := h.cell 2 rfl
  have hq : w.cell? ⟨R, 17, none⟩ = some (.int .i32 st.quote) := h.cell 17 rfl
  have f17 := h.free 17
  have hb := blank_tok c w
  have H := hide h
  clear h
  show Calls _ _ _ _ (PartEnd F R w s (if Tk.blank c = true then ⟨st, .go (.plain .equals)⟩ else if c = 34 ∨ c = 39 then ⟨{ st with quote := c }, .go (.plain .valueP)⟩ else ⟨st, .fail (Tk.why c) s.at_⟩))
  generalize Tk.blank c = b at *
  cases b
  · simp only [Bool.false_eq_true, if_false]
    by_cases h1 : c = 34
    · rw [if_pos (Or.inl h1)]
      have e1 : (c == 34) = true := by simpa using h1
      clear h1
      go_enter Tryz.func112, Tryz.ntmps112
      go_wp2_with (go_at_call 69; refine hb.mono ?_; rintro e w1 ⟨rfl, rfl⟩)
      go_ret2
      exact PartEnd.goR ((H.out.scalar (st' := { st with quote := c }) 17 (.int .i32 c) rfl (fun o => ⟨o.run, o.runF, o.apart, o.told, o.toldF, o.attrs, o.attrsF, o.names⟩)).grow1 (by simp [World.setCell])) (Frame.setR H.out.inR _ _)
    · have e1 : (c == 34) = false := by simpa using h1
      by_cases h2 : c = 39
      · rw [if_pos (Or.inr h2)]
        have e2 : (c == 39) = true := by simpa using h2
        clear h2 h1
        go_enter Tryz.func112, Tryz.ntmps112
        go_wp2_with (go_at_call 69; refine hb.mono ?_; rintro e w1 ⟨rfl, rfl⟩)
        go_ret2
        exact PartEnd.goR ((H.out.scalar (st' := { st with quote := c }) 17 (.int .i32 c) rfl (fun o => ⟨o.run, o.runF, o.apart, o.told, o.toldF, o.attrs, o.attrsF, o.names⟩)).grow1 (by simp [World.setCell])) (Frame.setR H.out.inR _ _)
      · rw [if_neg (by omega)]
        have e2 : (c == 39) = false := by simpa using h2
        clear h2 h1
        go_enter Tryz.func112, Tryz.ntmps112
        go_wp2_with (first | (go_at_call 69; refine hb.mono ?_; rintro e w1 ⟨rfl, rfl⟩) | (go_at_call 25; refine (refuse_tok R c s.at_ _ hat).mono ?_; rintro e w1 ⟨rfl, rfl⟩))
        go_ret2
        exact PartEnd.fail0 H.out (Below.refl _ _)
  · simp only [if_true]
    go_enter Tryz.func112, Tryz.ntmps112
    go_wp2_with (go_at_call 69; refine hb.mono ?_; rintro e w1 ⟨rfl, rfl⟩)
    go_ret2
    exact PartEnd.go0 H.out (Below.refl _ _)

set_option maxHeartbeats 1000000 in
theorem bang_ok (h : Rep F R w s p st) (_hc : Leg c) :
    Calls Tryz.prog 45 #[.pointer (some ⟨R, 0, none⟩), .int .i32 c] w (PartEnd F R w s (step .bang s.at_ st c)) := by
  have hat := h.cell 2 rfl
  have H := hide h
  clear h
  by_cases h1 : c = 45
  · subst h1
    go_enter Tryz.func45, Tryz.ntmps45
    go_wp2_with (go_at_call 72; refine (wantWord_tok ⟨#[45]⟩ 73 _ (by decide +kernel)).mono ?_; rintro e w1 ⟨rfl, rfl⟩)
    go_ret2
    exact PartEnd.word (l := [45]) (pl := .remark) H.out
  · have e1 : (c == 45) = false := by simpa using h1
    by_cases h2 : c = 91
    · subst h2
      go_enter Tryz.func45, Tryz.ntmps45
      go_wp2_with (go_at_call 72; refine (wantWord_tok ⟨#[67, 68, 65, 84, 65, 91]⟩ 74 _ (by decide +kernel)).mono ?_; rintro e w1 ⟨rfl, rfl⟩)
      go_ret2
      exact PartEnd.word (l := [67, 68, 65, 84, 65, 91]) (pl := .section_) H.out
    · have e2 : (c == 91) = false := by simpa using h2
      rw [show step .bang s.at_ st c = ⟨st, .fail (Tk.why c) s.at_⟩ by simp [step, h1, h2]]
      clear h1 h2
      go_enter Tryz.func45, Tryz.ntmps45
      go_wp2_with (go_at_call 25; refine (refuse_tok R c s.at_ _ hat).mono ?_; rintro e w1 ⟨rfl, rfl⟩)
      go_ret2
      exact PartEnd.fail0 H.out (Below.refl _ _)

set_option maxHeartbeats 1000000 in
theorem closing_ok (h : Rep F R w s p st) (_hc : Leg c) (hs : st.Small) :
    Calls Tryz.prog 43 #[.pointer (some ⟨R, 0, none⟩), .int .i32 c] w (PartEnd F R w s (step .closing s.at_ st c)) := by
  have hat := h.cell 2 rfl
  have hb := blank_tok c w
  have htc := tellClosing_rep h (by have := hs.told; omega)
  have H := hide h
  clear h hs
  show Calls _ _ _ _ (PartEnd F R w s (if Tk.blank c = true then ⟨st, .go (.plain .closing)⟩ else if c = 62 then ⟨st.tellClosing, .go (.plain .between)⟩ else ⟨st, .fail (Tk.why c) s.at_⟩))
  generalize Tk.blank c = b at *
  generalize st.tellClosing = st2 at *
  cases b
  · simp only [Bool.false_eq_true, if_false]
    by_cases h1 : c = 62
    · rw [if_pos h1]
      have e1 : (c == 62) = true := by simpa using h1
      clear h1
      go_enter Tryz.func43, Tryz.ntmps43
      go_wp2_with (first | (go_at_call 69; refine hb.mono ?_; rintro e w1 ⟨rfl, rfl⟩) | (go_at_call 70; refine htc.mono ?_; rintro e w1 ⟨rfl, p1, r1, f1⟩))
      go_ret2
      exact PartEnd.goR r1 f1
    · rw [if_neg h1]
      have e1 : (c == 62) = false := by simpa using h1
      clear h1
      go_enter Tryz.func43, Tryz.ntmps43
      go_wp2_with (first | (go_at_call 69; refine hb.mono ?_; rintro e w1 ⟨rfl, rfl⟩) | (go_at_call 25; refine (refuse_tok R c s.at_ _ hat).mono ?_; rintro e w1 ⟨rfl, rfl⟩))
      go_ret2
      exact PartEnd.fail0 H.out (Below.refl _ _)
  · simp only [if_true]
    go_enter Tryz.func43, Tryz.ntmps43
    go_wp2_with (go_at_call 69; refine hb.mono ?_; rintro e w1 ⟨rfl, rfl⟩)
    go_ret2
    exact PartEnd.go0 H.out (Below.refl _ _)

set_option maxHeartbeats 1000000 in
theorem part_ok (h : Rep F R w s p st) (_hc : Leg c) (hs : st.Small) :
    Calls Tryz.prog 46 #[.pointer (some ⟨R, 0, none⟩), .int .i32 c] w (PartEnd F R w s (stPart s.at_ st c)) := by
  have hat := h.cell 2 rfl
  have hb := blank_tok c w
  have hto := tellOpening_rep h (by have := hs.told; omega)
  have H := hide h
  clear h hs
  unfold stPart
  generalize Tk.blank c = b at *
  generalize st.tellOpening = st2 at *
  cases b
  · simp only [Bool.false_eq_true, if_false]
    by_cases h0 : c = 47
    · rw [if_pos h0]
      have e0 : (c == 47) = true := by simpa using h0
      clear h0
      go_enter Tryz.func46, Tryz.ntmps46
      go_wp2_with (go_at_call 69; refine hb.mono ?_; rintro e w1 ⟨rfl, rfl⟩)
      go_ret2
      exact PartEnd.go0 H.out (Below.refl _ _)
    · rw [if_neg h0]
      have e0 : (c == 47) = false := by simpa using h0
      clear h0
      by_cases h1 : c = 62
      · rw [if_pos h1]
        have e1 : (c == 62) = true := by simpa using h1
        clear h1
        go_enter Tryz.func46, Tryz.ntmps46
        go_wp2_with (first | (go_at_call 69; refine hb.mono ?_; rintro e w1 ⟨rfl, rfl⟩) | (go_at_call 77; refine hto.mono ?_; rintro e w1 ⟨rfl, p1, r1, f1⟩))
        go_ret2
        exact PartEnd.goR r1 f1
      · rw [if_neg h1]
        have e1 : (c == 62) = false := by simpa using h1
        clear h1
        go_enter Tryz.func46, Tryz.ntmps46
        go_wp2_with (first | (go_at_call 69; refine hb.mono ?_; rintro e w1 ⟨rfl, rfl⟩) | (go_at_call 25; refine (refuse_tok R c s.at_ _ hat).mono ?_; rintro e w1 ⟨rfl, rfl⟩))
        go_ret2
        exact PartEnd.fail0 H.out (Below.refl _ _)
  · simp only [if_true]
    go_enter Tryz.func46, Tryz.ntmps46
    go_wp2_with (go_at_call 69; refine hb.mono ?_; rintro e w1 ⟨rfl, rfl⟩)
    go_ret2
    exact PartEnd.go0 H.out (Below.refl _ _)

theorem opening_told (st : St) : st.tellOpening.told.length ≤ st.told.length + 2 := by
  unfold St.tellOpening St.tellText
  split
  · simp
  · simp [St.clear, St.setRun]

set_option maxHeartbeats 1000000 in
theorem slash_ok (h : Rep F R w s p st) (_hc : Leg c) (hs : st.Small) :
    Calls Tryz.prog 76 #[.pointer (some ⟨R, 0, none⟩), .int .i32 c] w (PartEnd F R w s (step .slash s.at_ st c)) := by
  have hat := h.cell 2 rfl
  have hto := tellOpening_rep h (by have := hs.told; omega)
  have hsl : st.tellOpening.told.length ≤ 1099511627780 := by have := hs.told; have := opening_told st; omega
  have H := hide h
  clear h hs
  show Calls _ _ _ _ (PartEnd F R w s (if c = 62 then ⟨st.tellOpening.tellClosing, .go (.plain .between)⟩ else ⟨st, .fail (Tk.why c) s.at_⟩))
  generalize st.tellOpening = st2 at *
  by_cases h1 : c = 62
  · rw [if_pos h1]
    have e1 : (c == 62) = true := by simpa using h1
    clear h1
    have htc : ∀ {w1 : World} {p1 : Ptr}, Rep (Grow F w w1) R w1 s p1 st2 → _ := fun {w1 p1} r => tellClosing_rep r hsl
    go_enter Tryz.func76, Tryz.ntmps76
    go_wp2_with (first | (go_at_call 77; refine hto.mono ?_; rintro e w1 ⟨rfl, p1, r1, f1⟩))
    refine (tellClosing_rep r1 hsl).mono ?_
    rintro e w2 ⟨rfl, p2, r2, f2⟩
    go_wp2
    go_ret2
    exact PartEnd.goR (r2.join f1.size f2.size) (f1.trans f2)
  · rw [if_neg h1]
    have e1 : (c == 62) = false := by simpa using h1
    clear h1
    go_enter Tryz.func76, Tryz.ntmps76
    go_wp2_with (go_at_call 25; refine (refuse_tok R c s.at_ _ hat).mono ?_; rintro e w1 ⟨rfl, rfl⟩)
    go_ret2
    exact PartEnd.fail0 H.out (Below.refl _ _)
end Go.Proofs.YtbbocgeapofloaiGreatDoor
namespace Go.Proofs.YtbbocgeapofloaiGreatDoor
open Go.RowKit Go.Maps

variable {F : Nat → Prop} {R : Nat} {w w' : World} {s : Src} {p : Ptr} {st : St} {c : Int}

theorem Rep.drew (h : Rep F R w s p st) : Rep F R w.drew s p st := ⟨h.blk, h.inR, h.lt, h.own.frame (fun _ _ _ => rfl) (fun _ x => x)⟩

/-- put, within a region that draws. -/
theorem put_drew (h : Rep F R w s p st) (i : Rn) (c q : Int) (hc : Scalar c) (hn : (st.run i).length ≤ 70368744177700) :
    Calls Tryz.prog 26 #[.pointer (some ⟨R, i.off, none⟩), .int .i32 c, .int .i64 q] w.drew fun e w' => e = .returned (.tuple #[]) ∧ ∃ v, Rep (Grow F w w') R w' s (p.setRun i v) (st.put i c q) ∧ Frame F w w' ∧ Kept R (p.run i).ownBlock w w' := by
  refine (put_rep h.drew i c q hc (by omega)).mono ?_
  rintro e w1 ⟨rfl, v, r1, k1⟩
  have k2 : Kept R (p.run i).ownBlock w w1 := ⟨k1.os, k1.tape, k1.output, k1.size, k1.block⟩
  exact ⟨rfl, v, r1, h.frameK k2, k2⟩

theorem put_len (st : St) (i j : Rn) (c q : Int) : ((st.put i c q).run j).length ≤ (st.run j).length + 4 := by
  simp only [St.put, St.setRun]
  split
  · rename_i e; subst e; have := enc_le c; simp; omega
  · omega

set_option maxHeartbeats 1000000 in
theorem section_ok (h : Rep F R w s p st) (hc : Leg c) (hs : (st.run .text).length ≤ 70368744177690) :
    Calls Tryz.prog 74 #[.pointer (some ⟨R, 0, none⟩), .int .i32 c] w (PartEnd F R w s (stSection s.at_ st c)) := by
  have hat : w.cell? ⟨R, 2, none⟩ = some (.int .i64 s.at_) := h.cell 2 rfl
  unfold stSection
  by_cases h1 : c = 93
  · rw [if_pos h1]
    have e1 : (c == 93) = true := by simpa using h1
    have H := hide h
    clear h1 h hc hs
    go_enter Tryz.func74, Tryz.ntmps74
    go_wp2
    go_ret2
    exact PartEnd.go0 H.out (Below.refl _ _)
  · rw [if_neg h1]
    have e1 : (c == 93) = false := by simpa using h1
    by_cases h2 : c < 0
    · rw [if_pos h2]
      have H := hide h
      clear h1 h hc hs
      go_enter Tryz.func74, Tryz.ntmps74
      go_wp2_with (go_at_call 25; refine (refuse_tok R c s.at_ _ hat).mono ?_; rintro e w1 ⟨rfl, rfl⟩)
      go_ret2
      exact PartEnd.fail0 H.out (Below.refl _ _)
    · rw [if_neg h2]
      have hp := put_drew h .text c s.at_ (scalar_of hc (by omega)) (by omega)
      have H := hide h
      clear h1 h hc hs
      generalize st.put .text c s.at_ = st2 at *
      go_enter Tryz.func74, Tryz.ntmps74
      go_wp2_with fail
      go_region_held3 (fun W => W.cell? ⟨R, 2, none⟩ = some (.int .i64 s.at_))
        (first | exact hat | exact hat2)
        (first | (go_at_call 26; refine hp.mono ?_; rintro e w1 ⟨rfl, v, r1, f1, k1⟩; have hat2 : w1.cell? ⟨R, 2, none⟩ = some (.int .i64 s.at_) := r1.cell 2 rfl))
      all_goals
        go_wp2
        go_ret2
        exact PartEnd.goR r1 f1

theorem Box.mono {F' : Nat → Prop} {b : Nat} {x : Value} {t : TypeId} (h : Box F R w b x t) (hF : ∀ k, F k → F' k) : Box F' R w b x t := ⟨h.1, hF b h.2.1, h.2.2⟩
theorem PartAt.mono {F' : Nat → Prop} {v : Value} {pt : Part} (h : PartAt F R w v pt) (hF : ∀ k, F k → F' k) : PartAt F' R w v pt := by
  cases pt with
  | plain p => exact h
  | word l p => obtain ⟨b1, b2, e, h1, h2⟩ := h; exact ⟨b1, b2, e, h1.mono hF, h2.mono hF⟩
  | name i p => obtain ⟨b1, b2, b3, e, h1, h2, h3⟩ := h; exact ⟨b1, b2, b3, e, h1.mono hF, h2.mono hF, h3.mono hF⟩
  | ref i p => obtain ⟨b1, b2, b3, e, h1, h2, h3⟩ := h; exact ⟨b1, b2, b3, e, h1.mono hF, h2.mono hF, h3.mono hF⟩

/-- A part behind something that the reader has done. -/
theorem PartEnd.after {w1 w2 : World} {o : Out} {e : Ending} (h : PartEnd (Grow F w w1) R w1 s o e w2) (f1 : Frame F w w1) : PartEnd F R w s o e w2 := by
  obtain ⟨p', r, f, h⟩ := h
  refine ⟨p', r.join f1.size f.size, f1.trans f, ?_⟩
  cases hr : o.res with
  | go part => rw [hr] at h; obtain ⟨v, h1, h2⟩ := h; exact ⟨v, h1, h2.mono fun k hk => (Grow.trans f1.size f.size k).1 hk⟩
  | stop => rw [hr] at h; exact h
  | fail no q => rw [hr] at h; exact h

/-- The places of the bytes that have come. -/
def Src.Fits (s : Src) : Prop := 0 ≤ s.at_ ∧ s.at_ ≤ 1152921504606846976

set_option maxHeartbeats 400000 in
set_option maxRecDepth 10000 in
theorem bracket_ok (h : Rep F R w s p st) (hc : Leg c) (hs : (st.run .text).length ≤ 70368744177680) (hf : s.Fits) :
    Calls Tryz.prog 95 #[.pointer (some ⟨R, 0, none⟩), .int .i32 c] w (PartEnd F R w s (stBracket s.at_ st c)) := by
  have hat : w.cell? ⟨R, 2, none⟩ = some (.int .i64 s.at_) := h.cell 2 rfl
  obtain ⟨hf0, hf1⟩ := hf
  unfold stBracket
  by_cases h1 : c = 93
  · rw [if_pos h1]
    have e1 : (c == 93) = true := by simpa using h1
    have H := hide h
    clear h1 h hc hs
    go_enter Tryz.func95, Tryz.ntmps95
    go_wp2
    go_ret2
    exact PartEnd.go0 H.out (Below.refl _ _)
  · rw [if_neg h1]
    have e1 : (c == 93) = false := by simpa using h1
    have hp := put_drew h .text 93 (s.at_ - 1) (by unfold Scalar; omega) (by omega)
    have hl := put_len st .text .text 93 (s.at_ - 1)
    have hso : ∀ (w1 : World) (p1 : Ptr), Rep (Grow F w w1) R w1 s p1 (st.put .text 93 (s.at_ - 1)) → Calls Tryz.prog 74 #[.pointer (some ⟨R, 0, none⟩), .int .i32 c] w1 (PartEnd (Grow F w w1) R w1 s (stSection s.at_ (st.put .text 93 (s.at_ - 1)) c)) := fun _ _ r => section_ok r hc (by omega)
    have HSO := hide hso
    have hwr : IntKind.i64.wrap (s.at_ - 1) = s.at_ - 1 := by rw [IntKind.wrap_i64]; omega
    clear h1 h hc hs hl hso
    generalize st.put .text 93 (s.at_ - 1) = st2 at *
    generalize stSection s.at_ st2 c = o at *
    go_enter Tryz.func95, Tryz.ntmps95
    go_wp2_with fail
    go_region_held3 (fun W => W.cell? ⟨R, 2, none⟩ = some (.int .i64 s.at_))
      (first | exact hat | exact hat2)
      (first | (go_at_call 26; refine hp.mono ?_; rintro e w1 ⟨rfl, v, r1, f1, k1⟩; have hat2 : w1.cell? ⟨R, 2, none⟩ = some (.int .i64 s.at_) := r1.cell 2 rfl))
    all_goals
      go_wp2_with (go_at_call 74; refine (HSO.out _ _ r1).mono ?_)
      intro e w2 hP
      obtain ⟨v1, v2, rfl⟩ := hP.two
      go_wp2
      go_ret2
      exact hP.after f1

set_option maxHeartbeats 400000 in
set_option maxRecDepth 10000 in
theorem brackets_ok (h : Rep F R w s p st) (hc : Leg c) (hs : (st.run .text).length ≤ 70368744177670) (hf : s.Fits) :
    Calls Tryz.prog 105 #[.pointer (some ⟨R, 0, none⟩), .int .i32 c] w (PartEnd F R w s (step .brackets s.at_ st c)) := by
  have hat : w.cell? ⟨R, 2, none⟩ = some (.int .i64 s.at_) := h.cell 2 rfl
  have hf' := hf
  obtain ⟨hf0, hf1⟩ := hf
  show Calls _ _ _ _ (PartEnd F R w s (if c = 62 then ⟨st, .go (.plain .between)⟩ else stBracket s.at_ (st.put .text 93 (s.at_ - 2)) c))
  by_cases h1 : c = 62
  · rw [if_pos h1]
    have e1 : (c == 62) = true := by simpa using h1
    have H := hide h
    clear h1 h hc hs hf'
    go_enter Tryz.func105, Tryz.ntmps105
    go_wp2
    go_ret2
    exact PartEnd.go0 H.out (Below.refl _ _)
  · rw [if_neg h1]
    have e1 : (c == 62) = false := by simpa using h1
    have hp := put_drew h .text 93 (s.at_ - 2) (by unfold Scalar; omega) (by omega)
    have hl := put_len st .text .text 93 (s.at_ - 2)
    have hso : ∀ (w1 : World) (p1 : Ptr), Rep (Grow F w w1) R w1 s p1 (st.put .text 93 (s.at_ - 2)) → Calls Tryz.prog 95 #[.pointer (some ⟨R, 0, none⟩), .int .i32 c] w1 (PartEnd (Grow F w w1) R w1 s (stBracket s.at_ (st.put .text 93 (s.at_ - 2)) c)) := fun _ _ r => bracket_ok r hc (by omega) hf'
    have HSO := hide hso
    have hwr : IntKind.i64.wrap (s.at_ - 2) = s.at_ - 2 := by rw [IntKind.wrap_i64]; omega
    clear h1 h hc hs hl hso hf'
    generalize st.put .text 93 (s.at_ - 2) = st2 at *
    generalize stBracket s.at_ st2 c = o at *
    go_enter Tryz.func105, Tryz.ntmps105
    go_wp2_with fail
    go_region_held3 (fun W => W.cell? ⟨R, 2, none⟩ = some (.int .i64 s.at_))
      (first | exact hat | exact hat2)
      (first | (go_at_call 26; refine hp.mono ?_; rintro e w1 ⟨rfl, v, r1, f1, k1⟩; have hat2 : w1.cell? ⟨R, 2, none⟩ = some (.int .i64 s.at_) := r1.cell 2 rfl))
    all_goals
      go_wp2_with (go_at_call 95; refine (HSO.out _ _ r1).mono ?_)
      intro e w2 hP
      obtain ⟨v1, v2, rfl⟩ := hP.two
      go_wp2
      go_ret2
      exact hP.after f1
end Go.Proofs.YtbbocgeapofloaiGreatDoor
namespace Go.Proofs.YtbbocgeapofloaiGreatDoor
open Go.RowKit Go.Maps

variable {F : Nat → Prop} {R : Nat} {w w' : World} {s : Src} {p : Ptr} {st : St} {c : Int}

def stWord (x : UInt8) (l : List UInt8) (k : Pl) (q : Int) (st : St) (c : Int) : Out :=
  if c = x.toNat then (if l = [] then ⟨st, .go (.plain k)⟩ else ⟨st, .go (.word l k)⟩) else ⟨st, .fail (Tk.why c) q⟩

theorem box_cell {b : Nat} {x : Value} {t : TypeId} (h : Box F R w b x t) : w.cell? ⟨b, 0, none⟩ = some x := cell_of h.1 rfl

theorem PartEnd.wordAt {w0 : World} {l : List UInt8} {pl : Pl} (h : Rep F R w0 s p st) (hb : Below w0.heap.size w0 w) : PartEnd F R w0 s ⟨st, .go (.word l pl)⟩ (.returned (.tuple #[.func (.func 93) #[] #[ptrV w.heap.size, ptrV (w.heap.size + 1)], .nilIface])) ((w.alloc (.cells #[strV l] 9)).alloc (.cells #[pl.val] 52)) := by
  have hR := h.lt R h.inR
  have hs := hb.size
  have hb2 : Below w0.heap.size w0 ((w.alloc (.cells #[strV l] 9)).alloc (.cells #[pl.val] 52)) := (hb.alloc hs _).alloc (by simp; omega) _
  refine ⟨p, h.below hb2, Frame.below hb2, _, rfl, w.heap.size, w.heap.size + 1, rfl, ⟨?_, Or.inr ⟨by omega, by simp; omega⟩, by omega⟩, ⟨?_, Or.inr ⟨by omega, by simp⟩, by omega⟩⟩
  · rw [Below.heap_alloc _ _ _ (by simp)]
    exact heap_alloc_new w _
  · have := heap_alloc_new (w.alloc (.cells #[strV l] 9)) (.cells #[pl.val] 52)
    simpa using this

theorem below_drew2 (w : World) (o o' : Obj) : Below w.heap.size w ((w.drew.alloc o).alloc o') := ((Below.refl _ w).drew.alloc (Nat.le_refl _) o).alloc (by simp) o'

set_option maxHeartbeats 1000000 in
theorem word_ok (h : Rep F R w s p st) (b1 b2 : Nat) (x : UInt8) (l : List UInt8) (k : Pl) (h1 : Box F R w b1 (strV (x :: l)) 9) (h2 : Box F R w b2 k.val 52) (hl : l.length ≤ 10) :
    Calls Tryz.prog 93 #[.pointer (some ⟨R, 0, none⟩), .int .i32 c, .pointer (some ⟨b1, 0, none⟩), .pointer (some ⟨b2, 0, none⟩)] w (PartEnd F R w s (stWord x l k s.at_ st c)) := by
  have hat : w.cell? ⟨R, 2, none⟩ = some (.int .i64 s.at_) := h.cell 2 rfl
  obtain ⟨t, ht⟩ : ∃ t : ByteArray, t = ⟨(x :: l).toArray⟩ := ⟨_, rfl⟩
  have c1 : w.cell? ⟨b1, 0, none⟩ = some (.string t) := by rw [ht]; exact box_cell h1
  have c2 : w.cell? ⟨b2, 0, none⟩ = some (.func (.func k.fn) #[] #[]) := box_cell h2
  have hsz : t.size = l.length + 1 := by rw [ht]; show (x :: l).toArray.size = _; simp
  have hs0 : 0 < t.size := by omega
  have hx : wrap32 ((t[0]'hs0).toNat : Int) = x.toNat := by
    subst ht
    have : (x.toNat : Int) < 256 := by have := x.toNat_lt; omega
    show wrap32 (x.toNat : Int) = x.toNat
    unfold wrap32; omega
  have hext : (t.extract 1 t.size) = ⟨l.toArray⟩ := by
    rw [ht]
    apply ByteArray.ext
    simp [ByteArray.size]
  have H := hide h
  clear h h1 h2 ht
  unfold stWord
  have hkv : k.val = .func (.func k.fn) #[] #[] := rfl
  have HKV := hide hkv
  generalize k.fn = kn at *
  clear hkv
  by_cases hc : c = x.toNat
  · rw [if_pos hc]
    have e1 : (c != wrap32 ((t[0]'hs0).toNat : Int)) = false := by rw [hx, hc]; simp
    clear hc hx
    have hs1 : (1 : Int) ≤ (t.size : Int) := by omega
    by_cases hl0 : l = []
    · rw [if_pos hl0]
      have hem : (t.extract 1 t.size).toList.isEmpty = true := by rw [hext, hl0]; decide +kernel
      clear hext hl0 hl hsz
      go_enter Tryz.func93, Tryz.ntmps93
      go_wp2_with fail
      go_region_held3 (fun W => W.cell? ⟨b1, 0, none⟩ = some (.string t) ∧ W.cell? ⟨b2, 0, none⟩ = some (.func (.func kn) #[] #[]))
        (first | exact ⟨c1, c2⟩ | exact ⟨cell_alloc _ (cell_alloc _ c1), cell_alloc _ (cell_alloc _ c2)⟩)
        (first | (go_at_call 72; refine (wantWord_nil _ _ _ hem).mono ?_; rintro e w1 ⟨rfl, rfl⟩))
      all_goals
        go_wp2
        go_ret2
        rw [← HKV.out]
        exact PartEnd.go0 H.out (below_drew2 _ _ _)
    · rw [if_neg hl0]
      have hem : (t.extract 1 t.size).toList.isEmpty = false := by
        rw [hext, Go.ByteArray.toList_eq]
        cases l with
        | nil => exact absurd rfl hl0
        | cons a b => rfl
      have HX := hide hext
      clear hext hl0 hl hsz
      go_enter Tryz.func93, Tryz.ntmps93
      go_wp2_with fail
      go_region_held3 (fun W => W.cell? ⟨b1, 0, none⟩ = some (.string t) ∧ W.cell? ⟨b2, 0, none⟩ = some (.func (.func kn) #[] #[]))
        (first | exact ⟨c1, c2⟩ | exact ⟨cell_alloc _ (cell_alloc _ c1), cell_alloc _ (cell_alloc _ c2)⟩)
        (first | (go_at_call 72; refine (wantWord_tok _ _ _ hem).mono ?_; rintro e w1 ⟨rfl, rfl⟩))
      all_goals
        go_wp2
        go_ret2
        rw [← HKV.out, HX.out]
        exact PartEnd.wordAt H.out (Below.refl _ w).drew
  · rw [if_neg hc]
    have e1 : (c != wrap32 ((t[0]'hs0).toNat : Int)) = true := by rw [hx]; simpa using hc
    clear hc hx hext hl hsz
    go_enter Tryz.func93, Tryz.ntmps93
    go_wp2_with (go_at_call 25; refine (refuse_tok R c s.at_ _ hat).mono ?_; rintro e w1 ⟨rfl, rfl⟩)
    go_ret2
    exact PartEnd.fail0 H.out (Below.refl _ _)
end Go.Proofs.YtbbocgeapofloaiGreatDoor
