import Derived.StringKeys
import Derived.Test.YtfolnkmbdmfigaaGreatDoorGae
import Derived.Test.YtfolnkmbdmfigaaGreatDoorGaf
set_option linter.unusedVariables false
set_option linter.unusedSimpArgs false
namespace Go.Proofs.YtfolnkmbdmfigaaGreatDoor
open Go.RowKit Go.Maps
variable {F : Nat → Prop} {R : Nat} {w w' : World} {s : Src} {p : Ptr} {st : St} {c : Int}
theorem PartEnd.goR {w' : World} {s : Src} {p' : Ptr} {st' : St} {pl : Pl} (h : Rep (Grow F w w') R w' s p' st') (hf : Frame F w w') : PartEnd F R w s ⟨st', .go (.plain pl)⟩ (.returned (.tuple #[pl.val, .nilIface])) w' :=
  ⟨p', h, hf, _, rfl, rfl⟩
theorem Frame.setR (hR : F R) (i : Nat) (v : Value) : Frame F w (w.setCell ⟨R, i, none⟩ v) :=
  ⟨rfl, rfl, rfl, by simp [World.setCell], fun k _ hf => Below.heap_setCell _ _ _ _ (fun e => hf (by rw [e]; exact hR))⟩
theorem Rep.scalar {s' : Src} {st' : St} (h : Rep F R w s p st) (i : Nat) (v : Value) (hc : (cellsOf s p st).setIfInBounds i v = cellsOf s' p st') (ho : Own F R (w.setCell ⟨R, i, none⟩ v) p st → Own F R (w.setCell ⟨R, i, none⟩ v) p st') : Rep F R (w.setCell ⟨R, i, none⟩ v) s' p st' :=
  h.setR (fun k hk => Below.heap_setCell _ _ _ _ hk) (by simp [World.setCell]) (by rw [← hc]; exact set_of h.blk v) ho
theorem Rep.grow1 (h : Rep F R w' s p st) (hs : w'.heap.size = w.heap.size) : Rep (Grow F w w') R w' s p st :=
  h.mono (fun _ x => Or.inl x) (fun k hk => hk.elim (h.lt k) (fun x => x.2))
set_option maxHeartbeats 1000000 in
theorem attrP_ok (h : Rep F R w s p st) (_hc : Leg c) :
    Calls Tryz.prog 153 #[.pointer (some ⟨R, 0, none⟩), .int .i32 c] w (PartEnd F R w s (stAttr s.at_ st c)) := by
  have hat := h.cell 2 rfl
  have hb := blank_tok c w
  have H := hide h
  clear h
  unfold stAttr
  generalize Tk.blank c = b at *
  cases b
  · simp only [Bool.false_eq_true, if_false]
    by_cases h1 : c = 61
    · subst h1
      go_enter Tryz.func153, Tryz.ntmps153
      go_wp2_with (go_at_call 107; refine hb.mono ?_; rintro e w1 ⟨rfl, rfl⟩)
      go_ret2
      exact PartEnd.go0 H.out (Below.refl _ _)
    · have e1 : (c == 61) = false := by simpa using h1
      rw [if_neg h1]
      clear h1
      go_enter Tryz.func153, Tryz.ntmps153
      go_wp2_with (first | (go_at_call 107; refine hb.mono ?_; rintro e w1 ⟨rfl, rfl⟩) | (go_at_call 56; refine (refuse_tok R c s.at_ _ hat).mono ?_; rintro e w1 ⟨rfl, rfl⟩))
      go_ret2
      exact PartEnd.fail0 H.out (Below.refl _ _)
  · simp only [if_true]
    go_enter Tryz.func153, Tryz.ntmps153
    go_wp2_with (go_at_call 107; refine hb.mono ?_; rintro e w1 ⟨rfl, rfl⟩)
    go_ret2
    exact PartEnd.go0 H.out (Below.refl _ _)
set_option maxHeartbeats 1000000 in
theorem equals_ok (h : Rep F R w s p st) (_hc : Leg c) :
    Calls Tryz.prog 159 #[.pointer (some ⟨R, 0, none⟩), .int .i32 c] w (PartEnd F R w s (step .equals s.at_ st c)) := by
  have hat := h.cell 2 rfl
  have hq : w.cell? ⟨R, 17, none⟩ = some (.int .i32 st.quote) := h.cell 17 rfl
  have f17 := h.free 17
  have hb := blank_tok c w
  have H := hide h
  clear h
  show Calls _ _ _ _ (PartEnd F R w s (if Tk.blank c = true then ⟨st, .go (.plain .equals)⟩ else if c = 34 ∨ c = 39 then ⟨{ st with quote := c }, .go (.plain .valueP)⟩ else ⟨st, .fail (Tk.why c) s.at_⟩))
  generalize Tk.blank c = b at *
  cases b
  · simp only [Bool.false_eq_true, if_false]
    by_cases h1 : c = 34
    · rw [if_pos (Or.inl h1)]
      have e1 : (c == 34) = true := by simpa using h1
      clear h1
      go_enter Tryz.func159, Tryz.ntmps159
      go_wp2_with (go_at_call 107; refine hb.mono ?_; rintro e w1 ⟨rfl, rfl⟩)
      go_ret2
      exact PartEnd.goR ((H.out.scalar (st' := { st with quote := c }) 17 (.int .i32 c) rfl (fun o => ⟨o.run, o.runF, o.apart, o.told, o.toldF, o.attrs, o.attrsF, o.names⟩)).grow1 (by simp [World.setCell])) (Frame.setR H.out.inR _ _)
    · have e1 : (c == 34) = false := by simpa using h1
      by_cases h2 : c = 39
      · rw [if_pos (Or.inr h2)]
        have e2 : (c == 39) = true := by simpa using h2
        clear h2 h1
        go_enter Tryz.func159, Tryz.ntmps159
        go_wp2_with (go_at_call 107; refine hb.mono ?_; rintro e w1 ⟨rfl, rfl⟩)
        go_ret2
        exact PartEnd.goR ((H.out.scalar (st' := { st with quote := c }) 17 (.int .i32 c) rfl (fun o => ⟨o.run, o.runF, o.apart, o.told, o.toldF, o.attrs, o.attrsF, o.names⟩)).grow1 (by simp [World.setCell])) (Frame.setR H.out.inR _ _)
      · rw [if_neg (by omega)]
        have e2 : (c == 39) = false := by simpa using h2
        clear h2 h1
        go_enter Tryz.func159, Tryz.ntmps159
        go_wp2_with (first | (go_at_call 107; refine hb.mono ?_; rintro e w1 ⟨rfl, rfl⟩) | (go_at_call 56; refine (refuse_tok R c s.at_ _ hat).mono ?_; rintro e w1 ⟨rfl, rfl⟩))
        go_ret2
        exact PartEnd.fail0 H.out (Below.refl _ _)
  · simp only [if_true]
    go_enter Tryz.func159, Tryz.ntmps159
    go_wp2_with (go_at_call 107; refine hb.mono ?_; rintro e w1 ⟨rfl, rfl⟩)
    go_ret2
    exact PartEnd.go0 H.out (Below.refl _ _)
set_option maxHeartbeats 1000000 in
theorem bang_ok (h : Rep F R w s p st) (_hc : Leg c) :
    Calls Tryz.prog 82 #[.pointer (some ⟨R, 0, none⟩), .int .i32 c] w (PartEnd F R w s (step .bang s.at_ st c)) := by
  have hat := h.cell 2 rfl
  have H := hide h
  clear h
  by_cases h1 : c = 45
  · subst h1
    go_enter Tryz.func82, Tryz.ntmps82
    go_wp2_with (go_at_call 110; refine (wantWord_tok ⟨#[45]⟩ 111 _ (by decide +kernel)).mono ?_; rintro e w1 ⟨rfl, rfl⟩)
    go_ret2
    exact PartEnd.word (l := [45]) (pl := .remark) H.out
  · have e1 : (c == 45) = false := by simpa using h1
    by_cases h2 : c = 91
    · subst h2
      go_enter Tryz.func82, Tryz.ntmps82
      go_wp2_with (go_at_call 110; refine (wantWord_tok ⟨#[67, 68, 65, 84, 65, 91]⟩ 112 _ (by decide +kernel)).mono ?_; rintro e w1 ⟨rfl, rfl⟩)
      go_ret2
      exact PartEnd.word (l := [67, 68, 65, 84, 65, 91]) (pl := .section_) H.out
    · have e2 : (c == 91) = false := by simpa using h2
      rw [show step .bang s.at_ st c = ⟨st, .fail (Tk.why c) s.at_⟩ by simp [step, h1, h2]]
      clear h1 h2
      go_enter Tryz.func82, Tryz.ntmps82
      go_wp2_with (go_at_call 56; refine (refuse_tok R c s.at_ _ hat).mono ?_; rintro e w1 ⟨rfl, rfl⟩)
      go_ret2
      exact PartEnd.fail0 H.out (Below.refl _ _)
set_option maxHeartbeats 1000000 in
theorem closing_ok (h : Rep F R w s p st) (_hc : Leg c) (hs : st.Small) :
    Calls Tryz.prog 80 #[.pointer (some ⟨R, 0, none⟩), .int .i32 c] w (PartEnd F R w s (step .closing s.at_ st c)) := by
  have hat := h.cell 2 rfl
  have hb := blank_tok c w
  have htc := tellClosing_rep h (by have := hs.told; omega)
  have H := hide h
  clear h hs
  show Calls _ _ _ _ (PartEnd F R w s (if Tk.blank c = true then ⟨st, .go (.plain .closing)⟩ else if c = 62 then ⟨st.tellClosing, .go (.plain .between)⟩ else ⟨st, .fail (Tk.why c) s.at_⟩))
  generalize Tk.blank c = b at *
  generalize st.tellClosing = st2 at *
  cases b
  · simp only [Bool.false_eq_true, if_false]
    by_cases h1 : c = 62
    · rw [if_pos h1]
      have e1 : (c == 62) = true := by simpa using h1
      clear h1
      go_enter Tryz.func80, Tryz.ntmps80
      go_wp2_with (first | (go_at_call 107; refine hb.mono ?_; rintro e w1 ⟨rfl, rfl⟩) | (go_at_call 108; refine htc.mono ?_; rintro e w1 ⟨rfl, p1, r1, f1⟩))
      go_ret2
      exact PartEnd.goR r1 f1
    · rw [if_neg h1]
      have e1 : (c == 62) = false := by simpa using h1
      clear h1
      go_enter Tryz.func80, Tryz.ntmps80
      go_wp2_with (first | (go_at_call 107; refine hb.mono ?_; rintro e w1 ⟨rfl, rfl⟩) | (go_at_call 56; refine (refuse_tok R c s.at_ _ hat).mono ?_; rintro e w1 ⟨rfl, rfl⟩))
      go_ret2
      exact PartEnd.fail0 H.out (Below.refl _ _)
  · simp only [if_true]
    go_enter Tryz.func80, Tryz.ntmps80
    go_wp2_with (go_at_call 107; refine hb.mono ?_; rintro e w1 ⟨rfl, rfl⟩)
    go_ret2
    exact PartEnd.go0 H.out (Below.refl _ _)
set_option maxHeartbeats 1000000 in
theorem part_ok (h : Rep F R w s p st) (_hc : Leg c) (hs : st.Small) :
    Calls Tryz.prog 83 #[.pointer (some ⟨R, 0, none⟩), .int .i32 c] w (PartEnd F R w s (stPart s.at_ st c)) := by
  have hat := h.cell 2 rfl
  have hb := blank_tok c w
  have hto := tellOpening_rep h (by have := hs.told; omega)
  have H := hide h
  clear h hs
  unfold stPart
  generalize Tk.blank c = b at *
  generalize st.tellOpening = st2 at *
  cases b
  · simp only [Bool.false_eq_true, if_false]
    by_cases h0 : c = 47
    · rw [if_pos h0]
      have e0 : (c == 47) = true := by simpa using h0
      clear h0
      go_enter Tryz.func83, Tryz.ntmps83
      go_wp2_with (go_at_call 107; refine hb.mono ?_; rintro e w1 ⟨rfl, rfl⟩)
      go_ret2
      exact PartEnd.go0 H.out (Below.refl _ _)
    · rw [if_neg h0]
      have e0 : (c == 47) = false := by simpa using h0
      clear h0
      by_cases h1 : c = 62
      · rw [if_pos h1]
        have e1 : (c == 62) = true := by simpa using h1
        clear h1
        go_enter Tryz.func83, Tryz.ntmps83
        go_wp2_with (first | (go_at_call 107; refine hb.mono ?_; rintro e w1 ⟨rfl, rfl⟩) | (go_at_call 115; refine hto.mono ?_; rintro e w1 ⟨rfl, p1, r1, f1⟩))
        go_ret2
        exact PartEnd.goR r1 f1
      · rw [if_neg h1]
        have e1 : (c == 62) = false := by simpa using h1
        clear h1
        go_enter Tryz.func83, Tryz.ntmps83
        go_wp2_with (first | (go_at_call 107; refine hb.mono ?_; rintro e w1 ⟨rfl, rfl⟩) | (go_at_call 56; refine (refuse_tok R c s.at_ _ hat).mono ?_; rintro e w1 ⟨rfl, rfl⟩))
        go_ret2
        exact PartEnd.fail0 H.out (Below.refl _ _)
  · simp only [if_true]
    go_enter Tryz.func83, Tryz.ntmps83
    go_wp2_with (go_at_call 107; refine hb.mono ?_; rintro e w1 ⟨rfl, rfl⟩)
    go_ret2
    exact PartEnd.go0 H.out (Below.refl _ _)
theorem opening_told (st : St) : st.tellOpening.told.length ≤ st.told.length + 2 := by
  unfold St.tellOpening St.tellText
  split
  · simp
  · simp [St.clear, St.setRun]
set_option maxHeartbeats 1000000 in
theorem slash_ok (h : Rep F R w s p st) (_hc : Leg c) (hs : st.Small) :
    Calls Tryz.prog 114 #[.pointer (some ⟨R, 0, none⟩), .int .i32 c] w (PartEnd F R w s (step .slash s.at_ st c)) := by
  have hat := h.cell 2 rfl
  have hto := tellOpening_rep h (by have := hs.told; omega)
  have hsl : st.tellOpening.told.length ≤ 1099511627780 := by have := hs.told; have := opening_told st; omega
  have H := hide h
  clear h hs
  show Calls _ _ _ _ (PartEnd F R w s (if c = 62 then ⟨st.tellOpening.tellClosing, .go (.plain .between)⟩ else ⟨st, .fail (Tk.why c) s.at_⟩))
  generalize st.tellOpening = st2 at *
  by_cases h1 : c = 62
  · rw [if_pos h1]
    have e1 : (c == 62) = true := by simpa using h1
    clear h1
    have htc : ∀ {w1 : World} {p1 : Ptr}, Rep (Grow F w w1) R w1 s p1 st2 → _ := fun {w1 p1} r => tellClosing_rep r hsl
    go_enter Tryz.func114, Tryz.ntmps114
    go_wp2_with (first | (go_at_call 115; refine hto.mono ?_; rintro e w1 ⟨rfl, p1, r1, f1⟩))
    refine (tellClosing_rep r1 hsl).mono ?_
    rintro e w2 ⟨rfl, p2, r2, f2⟩
    go_wp2
    go_ret2
    exact PartEnd.goR (r2.join f1.size f2.size) (f1.trans f2)
  · rw [if_neg h1]
    have e1 : (c == 62) = false := by simpa using h1
    clear h1
    go_enter Tryz.func114, Tryz.ntmps114
    go_wp2_with (go_at_call 56; refine (refuse_tok R c s.at_ _ hat).mono ?_; rintro e w1 ⟨rfl, rfl⟩)
    go_ret2
    exact PartEnd.fail0 H.out (Below.refl _ _)
end Go.Proofs.YtfolnkmbdmfigaaGreatDoor

namespace Go.Proofs.YtfolnkmbdmfigaaGreatDoor
open Go.RowKit Go.Maps
variable {F : Nat → Prop} {R : Nat} {w w' : World} {s : Src} {p : Ptr} {st : St} {c : Int}
theorem Rep.drew (h : Rep F R w s p st) : Rep F R w.drew s p st := ⟨h.blk, h.inR, h.lt, h.own.frame (fun _ _ _ => rfl) (fun _ x => x)⟩
theorem put_drew (h : Rep F R w s p st) (i : Rn) (c q : Int) (hc : Scalar c) (hn : (st.run i).length ≤ 70368744177700) :
    Calls Tryz.prog 57 #[.pointer (some ⟨R, i.off, none⟩), .int .i32 c, .int .i64 q] w.drew fun e w' => e = .returned (.tuple #[]) ∧ ∃ v, Rep (Grow F w w') R w' s (p.setRun i v) (st.put i c q) ∧ Frame F w w' ∧ Kept R (p.run i).ownBlock w w' := by
  refine (put_rep h.drew i c q hc (by omega)).mono ?_
  rintro e w1 ⟨rfl, v, r1, k1⟩
  have k2 : Kept R (p.run i).ownBlock w w1 := ⟨k1.os, k1.tape, k1.output, k1.size, k1.block⟩
  exact ⟨rfl, v, r1, h.frameK k2, k2⟩
theorem put_len (st : St) (i j : Rn) (c q : Int) : ((st.put i c q).run j).length ≤ (st.run j).length + 4 := by
  simp only [St.put, St.setRun]
  split
  · rename_i e; subst e; have := enc_le c; simp; omega
  · omega
set_option maxHeartbeats 1000000 in
theorem section_ok (h : Rep F R w s p st) (hc : Leg c) (hs : (st.run .text).length ≤ 70368744177690) :
    Calls Tryz.prog 112 #[.pointer (some ⟨R, 0, none⟩), .int .i32 c] w (PartEnd F R w s (stSection s.at_ st c)) := by
  have hat : w.cell? ⟨R, 2, none⟩ = some (.int .i64 s.at_) := h.cell 2 rfl
  unfold stSection
  by_cases h1 : c = 93
  · rw [if_pos h1]
    have e1 : (c == 93) = true := by simpa using h1
    have H := hide h
    clear h1 h hc hs
    go_enter Tryz.func112, Tryz.ntmps112
    go_wp2
    go_ret2
    exact PartEnd.go0 H.out (Below.refl _ _)
  · rw [if_neg h1]
    have e1 : (c == 93) = false := by simpa using h1
    by_cases h2 : c < 0
    · rw [if_pos h2]
      have H := hide h
      clear h1 h hc hs
      go_enter Tryz.func112, Tryz.ntmps112
      go_wp2_with (go_at_call 56; refine (refuse_tok R c s.at_ _ hat).mono ?_; rintro e w1 ⟨rfl, rfl⟩)
      go_ret2
      exact PartEnd.fail0 H.out (Below.refl _ _)
    · rw [if_neg h2]
      have hp := put_drew h .text c s.at_ (scalar_of hc (by omega)) (by omega)
      have H := hide h
      clear h1 h hc hs
      generalize st.put .text c s.at_ = st2 at *
      go_enter Tryz.func112, Tryz.ntmps112
      go_wp2_with fail
      go_region_held3 (fun W => W.cell? ⟨R, 2, none⟩ = some (.int .i64 s.at_))
        (first | exact hat | exact hat2)
        (first | (go_at_call 57; refine hp.mono ?_; rintro e w1 ⟨rfl, v, r1, f1, k1⟩; have hat2 : w1.cell? ⟨R, 2, none⟩ = some (.int .i64 s.at_) := r1.cell 2 rfl))
      all_goals
        go_wp2
        go_ret2
        exact PartEnd.goR r1 f1
theorem Box.mono {F' : Nat → Prop} {b : Nat} {x : Value} {t : TypeId} (h : Box F R w b x t) (hF : ∀ k, F k → F' k) : Box F' R w b x t := ⟨h.1, hF b h.2.1, h.2.2⟩
theorem PartAt.mono {F' : Nat → Prop} {v : Value} {pt : Part} (h : PartAt F R w v pt) (hF : ∀ k, F k → F' k) : PartAt F' R w v pt := by
  cases pt with
  | plain p => exact h
  | word l p => obtain ⟨b1, b2, e, h1, h2⟩ := h; exact ⟨b1, b2, e, h1.mono hF, h2.mono hF⟩
  | name i p => obtain ⟨b1, b2, b3, e, h1, h2, h3⟩ := h; exact ⟨b1, b2, b3, e, h1.mono hF, h2.mono hF, h3.mono hF⟩
  | ref i p => obtain ⟨b1, b2, b3, e, h1, h2, h3⟩ := h; exact ⟨b1, b2, b3, e, h1.mono hF, h2.mono hF, h3.mono hF⟩
theorem PartEnd.after {w1 w2 : World} {o : Out} {e : Ending} (h : PartEnd (Grow F w w1) R w1 s o e w2) (f1 : Frame F w w1) : PartEnd F R w s o e w2 := by
  obtain ⟨p', r, f, h⟩ := h
  refine ⟨p', r.join f1.size f.size, f1.trans f, ?_⟩
  cases hr : o.res with
  | go part => rw [hr] at h; obtain ⟨v, h1, h2⟩ := h; exact ⟨v, h1, h2.mono fun k hk => (Grow.trans f1.size f.size k).1 hk⟩
  | stop => rw [hr] at h; exact h
  | fail no q => rw [hr] at h; exact h
def Src.Fits (s : Src) : Prop := 0 ≤ s.at_ ∧ s.at_ ≤ 1152921504606846976
set_option maxHeartbeats 400000 in
set_option maxRecDepth 10000 in
theorem bracket_ok (h : Rep F R w s p st) (hc : Leg c) (hs : (st.run .text).length ≤ 70368744177680) (hf : s.Fits) :
    Calls Tryz.prog 139 #[.pointer (some ⟨R, 0, none⟩), .int .i32 c] w (PartEnd F R w s (stBracket s.at_ st c)) := by
  have hat : w.cell? ⟨R, 2, none⟩ = some (.int .i64 s.at_) := h.cell 2 rfl
  obtain ⟨hf0, hf1⟩ := hf
  unfold stBracket
  by_cases h1 : c = 93
  · rw [if_pos h1]
    have e1 : (c == 93) = true := by simpa using h1
    have H := hide h
    clear h1 h hc hs
    go_enter Tryz.func139, Tryz.ntmps139
    go_wp2
    go_ret2
    exact PartEnd.go0 H.out (Below.refl _ _)
  · rw [if_neg h1]
    have e1 : (c == 93) = false := by simpa using h1
    have hp := put_drew h .text 93 (s.at_ - 1) (by unfold Scalar; omega) (by omega)
    have hl := put_len st .text .text 93 (s.at_ - 1)
    have hso : ∀ (w1 : World) (p1 : Ptr), Rep (Grow F w w1) R w1 s p1 (st.put .text 93 (s.at_ - 1)) → Calls Tryz.prog 112 #[.pointer (some ⟨R, 0, none⟩), .int .i32 c] w1 (PartEnd (Grow F w w1) R w1 s (stSection s.at_ (st.put .text 93 (s.at_ - 1)) c)) := fun _ _ r => section_ok r hc (by omega)
    have HSO := hide hso
    have hwr : IntKind.i64.wrap (s.at_ - 1) = s.at_ - 1 := by rw [IntKind.wrap_i64]; omega
    clear h1 h hc hs hl hso
    generalize st.put .text 93 (s.at_ - 1) = st2 at *
    generalize stSection s.at_ st2 c = o at *
    go_enter Tryz.func139, Tryz.ntmps139
    go_wp2_with fail
    go_region_held3 (fun W => W.cell? ⟨R, 2, none⟩ = some (.int .i64 s.at_))
      (first | exact hat | exact hat2)
      (first | (go_at_call 57; refine hp.mono ?_; rintro e w1 ⟨rfl, v, r1, f1, k1⟩; have hat2 : w1.cell? ⟨R, 2, none⟩ = some (.int .i64 s.at_) := r1.cell 2 rfl))
    all_goals
      go_wp2_with (go_at_call 112; refine (HSO.out _ _ r1).mono ?_)
      intro e w2 hP
      obtain ⟨v1, v2, rfl⟩ := hP.two
      go_wp2
      go_ret2
      exact hP.after f1
set_option maxHeartbeats 400000 in
set_option maxRecDepth 10000 in
theorem brackets_ok (h : Rep F R w s p st) (hc : Leg c) (hs : (st.run .text).length ≤ 70368744177670) (hf : s.Fits) :
    Calls Tryz.prog 151 #[.pointer (some ⟨R, 0, none⟩), .int .i32 c] w (PartEnd F R w s (step .brackets s.at_ st c)) := by
  have hat : w.cell? ⟨R, 2, none⟩ = some (.int .i64 s.at_) := h.cell 2 rfl
  have hf' := hf
  obtain ⟨hf0, hf1⟩ := hf
  show Calls _ _ _ _ (PartEnd F R w s (if c = 62 then ⟨st, .go (.plain .between)⟩ else stBracket s.at_ (st.put .text 93 (s.at_ - 2)) c))
  by_cases h1 : c = 62
  · rw [if_pos h1]
    have e1 : (c == 62) = true := by simpa using h1
    have H := hide h
    clear h1 h hc hs hf'
    go_enter Tryz.func151, Tryz.ntmps151
    go_wp2
    go_ret2
    exact PartEnd.go0 H.out (Below.refl _ _)
  · rw [if_neg h1]
    have e1 : (c == 62) = false := by simpa using h1
    have hp := put_drew h .text 93 (s.at_ - 2) (by unfold Scalar; omega) (by omega)
    have hl := put_len st .text .text 93 (s.at_ - 2)
    have hso : ∀ (w1 : World) (p1 : Ptr), Rep (Grow F w w1) R w1 s p1 (st.put .text 93 (s.at_ - 2)) → Calls Tryz.prog 139 #[.pointer (some ⟨R, 0, none⟩), .int .i32 c] w1 (PartEnd (Grow F w w1) R w1 s (stBracket s.at_ (st.put .text 93 (s.at_ - 2)) c)) := fun _ _ r => bracket_ok r hc (by omega) hf'
    have HSO := hide hso
    have hwr : IntKind.i64.wrap (s.at_ - 2) = s.at_ - 2 := by rw [IntKind.wrap_i64]; omega
    clear h1 h hc hs hl hso hf'
    generalize st.put .text 93 (s.at_ - 2) = st2 at *
    generalize stBracket s.at_ st2 c = o at *
    go_enter Tryz.func151, Tryz.ntmps151
    go_wp2_with fail
    go_region_held3 (fun W => W.cell? ⟨R, 2, none⟩ = some (.int .i64 s.at_))
      (first | exact hat | exact hat2)
      (first | (go_at_call 57; refine hp.mono ?_; rintro e w1 ⟨rfl, v, r1, f1, k1⟩; have hat2 : w1.cell? ⟨R, 2, none⟩ = some (.int .i64 s.at_) := r1.cell 2 rfl))
    all_goals
      go_wp2_with (go_at_call 139; refine (HSO.out _ _ r1).mono ?_)
      intro e w2 hP
      obtain ⟨v1, v2, rfl⟩ := hP.two
      go_wp2
      go_ret2
      exact hP.after f1
end Go.Proofs.YtfolnkmbdmfigaaGreatDoor

namespace Go.Proofs.YtfolnkmbdmfigaaGreatDoor
open Go.RowKit Go.Maps
variable {F : Nat → Prop} {R : Nat} {w w' : World} {s : Src} {p : Ptr} {st : St} {c : Int}
def stWord (x : UInt8) (l : List UInt8) (k : Pl) (q : Int) (st : St) (c : Int) : Out :=
  if c = x.toNat then (if l = [] then ⟨st, .go (.plain k)⟩ else ⟨st, .go (.word l k)⟩) else ⟨st, .fail (Tk.why c) q⟩
theorem box_cell {b : Nat} {x : Value} {t : TypeId} (h : Box F R w b x t) : w.cell? ⟨b, 0, none⟩ = some x := cell_of h.1 rfl
theorem PartEnd.wordAt {w0 : World} {l : List UInt8} {pl : Pl} (h : Rep F R w0 s p st) (hb : Below w0.heap.size w0 w) : PartEnd F R w0 s ⟨st, .go (.word l pl)⟩ (.returned (.tuple #[.func (.func 137) #[] #[ptrV w.heap.size, ptrV (w.heap.size + 1)], .nilIface])) ((w.alloc (.cells #[strV l] 9)).alloc (.cells #[pl.val] 86)) := by
  have hR := h.lt R h.inR
  have hs := hb.size
  have hb2 : Below w0.heap.size w0 ((w.alloc (.cells #[strV l] 9)).alloc (.cells #[pl.val] 86)) := (hb.alloc hs _).alloc (by simp; omega) _
  refine ⟨p, h.below hb2, Frame.below hb2, _, rfl, w.heap.size, w.heap.size + 1, rfl, ⟨?_, Or.inr ⟨by omega, by simp; omega⟩, by omega⟩, ⟨?_, Or.inr ⟨by omega, by simp⟩, by omega⟩⟩
  · rw [Below.heap_alloc _ _ _ (by simp)]
    exact heap_alloc_new w _
  · have := heap_alloc_new (w.alloc (.cells #[strV l] 9)) (.cells #[pl.val] 86)
    simpa using this
theorem below_drew2 (w : World) (o o' : Obj) : Below w.heap.size w ((w.drew.alloc o).alloc o') := ((Below.refl _ w).drew.alloc (Nat.le_refl _) o).alloc (by simp) o'
set_option maxHeartbeats 1000000 in
theorem word_ok (h : Rep F R w s p st) (b1 b2 : Nat) (x : UInt8) (l : List UInt8) (k : Pl) (h1 : Box F R w b1 (strV (x :: l)) 9) (h2 : Box F R w b2 k.val 86) (hl : l.length ≤ 10) :
    Calls Tryz.prog 137 #[.pointer (some ⟨R, 0, none⟩), .int .i32 c, .pointer (some ⟨b1, 0, none⟩), .pointer (some ⟨b2, 0, none⟩)] w (PartEnd F R w s (stWord x l k s.at_ st c)) := by
  have hat : w.cell? ⟨R, 2, none⟩ = some (.int .i64 s.at_) := h.cell 2 rfl
  obtain ⟨t, ht⟩ : ∃ t : ByteArray, t = ⟨(x :: l).toArray⟩ := ⟨_, rfl⟩
  have c1 : w.cell? ⟨b1, 0, none⟩ = some (.string t) := by rw [ht]; exact box_cell h1
  have c2 : w.cell? ⟨b2, 0, none⟩ = some (.func (.func k.fn) #[] #[]) := box_cell h2
  have hsz : t.size = l.length + 1 := by rw [ht]; show (x :: l).toArray.size = _; simp
  have hs0 : 0 < t.size := by omega
  have hx : wrap32 ((t[0]'hs0).toNat : Int) = x.toNat := by
    subst ht
    have : (x.toNat : Int) < 256 := by have := x.toNat_lt; omega
    show wrap32 (x.toNat : Int) = x.toNat
    unfold wrap32; omega
  have hext : (t.extract 1 t.size) = ⟨l.toArray⟩ := by
    rw [ht]
    apply ByteArray.ext
    simp [ByteArray.size]
  have H := hide h
  clear h h1 h2 ht
  unfold stWord
  have hkv : k.val = .func (.func k.fn) #[] #[] := rfl
  have HKV := hide hkv
  generalize k.fn = kn at *
  clear hkv
  by_cases hc : c = x.toNat
  · rw [if_pos hc]
    have e1 : (c != wrap32 ((t[0]'hs0).toNat : Int)) = false := by rw [hx, hc]; simp
    clear hc hx
    have hs1 : (1 : Int) ≤ (t.size : Int) := by omega
    by_cases hl0 : l = []
    · rw [if_pos hl0]
      have hem : (t.extract 1 t.size).toList.isEmpty = true := by rw [hext, hl0]; decide +kernel
      clear hext hl0 hl hsz
      go_enter Tryz.func137, Tryz.ntmps137
      go_wp2_with fail
      go_region_held3 (fun W => W.cell? ⟨b1, 0, none⟩ = some (.string t) ∧ W.cell? ⟨b2, 0, none⟩ = some (.func (.func kn) #[] #[]))
        (first | exact ⟨c1, c2⟩ | exact ⟨cell_alloc _ (cell_alloc _ c1), cell_alloc _ (cell_alloc _ c2)⟩)
        (first | (go_at_call 110; refine (wantWord_nil _ _ _ hem).mono ?_; rintro e w1 ⟨rfl, rfl⟩))
      all_goals
        go_wp2
        go_ret2
        rw [← HKV.out]
        exact PartEnd.go0 H.out (below_drew2 _ _ _)
    · rw [if_neg hl0]
      have hem : (t.extract 1 t.size).toList.isEmpty = false := by
        rw [hext, Go.ByteArray.toList_eq]
        cases l with
        | nil => exact absurd rfl hl0
        | cons a b => rfl
      have HX := hide hext
      clear hext hl0 hl hsz
      go_enter Tryz.func137, Tryz.ntmps137
      go_wp2_with fail
      go_region_held3 (fun W => W.cell? ⟨b1, 0, none⟩ = some (.string t) ∧ W.cell? ⟨b2, 0, none⟩ = some (.func (.func kn) #[] #[]))
        (first | exact ⟨c1, c2⟩ | exact ⟨cell_alloc _ (cell_alloc _ c1), cell_alloc _ (cell_alloc _ c2)⟩)
        (first | (go_at_call 110; refine (wantWord_tok _ _ _ hem).mono ?_; rintro e w1 ⟨rfl, rfl⟩))
      all_goals
        go_wp2
        go_ret2
        rw [← HKV.out, HX.out]
        exact PartEnd.wordAt H.out (Below.refl _ w).drew
  · rw [if_neg hc]
    have e1 : (c != wrap32 ((t[0]'hs0).toNat : Int)) = true := by rw [hx]; simpa using hc
    clear hc hx hext hl hsz
    go_enter Tryz.func137, Tryz.ntmps137
    go_wp2_with (go_at_call 56; refine (refuse_tok R c s.at_ _ hat).mono ?_; rintro e w1 ⟨rfl, rfl⟩)
    go_ret2
    exact PartEnd.fail0 H.out (Below.refl _ _)
end Go.Proofs.YtfolnkmbdmfigaaGreatDoor

namespace Go.Proofs.YtfolnkmbdmfigaaGreatDoor
open Go.RowKit Go.Maps
variable {F : Nat → Prop} {R : Nat} {w w' : World} {s : Src} {p : Ptr} {st : St} {c : Int}
theorem new_cell (W : World) (n : Nat) (h : W.heap.size = n) (v : Value) (t : TypeId) : (W.alloc (.cells #[v] t)).cell? ⟨n, 0, none⟩ = some v := by
  subst h; exact cell_of (heap_alloc_new W _) rfl
theorem new_free (W : World) (n : Nat) (h : W.heap.size = n) (v : Value) (t : TypeId) : (W.alloc (.cells #[v] t)).frozen? ⟨n, 0, none⟩ = false := by
  subst h; exact free_of (heap_alloc_new W _)
theorem store_of (W : World) (a : Addr) (u v : Value) (h1 : v.oneCell' = true) (h : W.cell? a = some u) (hf : W.frozen? a = false) : (store a v).run Tryz.prog W = .ok () (W.setCell a v) := by
  rw [run_store Tryz.prog W a v _ h1, h]
  simp [hf]
set_option maxHeartbeats 1000000 in
theorem wantName_walk (R o kn : Nat) (x y : Value) (w : World) (hlt : R < w.heap.size) (c0 : w.cell? ⟨R, o, none⟩ = some x) (c1 : w.cell? ⟨R, o + 1, none⟩ = some y) (f0 : w.frozen? ⟨R, o, none⟩ = false) (f1 : w.frozen? ⟨R, o + 1, none⟩ = false) :
    Calls Tryz.prog 79 #[.pointer (some ⟨R, o, none⟩), .func (.func kn) #[] #[]] w fun e w' => e = .returned (.func (.func 105) #[] #[.pointer (some ⟨w.heap.size, 0, none⟩), .pointer (some ⟨w.heap.size + 1, 0, none⟩), .pointer (some ⟨w.heap.size + 1 + 1, 0, none⟩)]) ∧
      w' = ((((w.setCell ⟨R, o, none⟩ (.slice none 0 0)).setCell ⟨R, o + 1, none⟩ (.int .i64 0)).alloc (.cells #[.pointer (some ⟨R, o, none⟩)] 121)).alloc (.cells #[.func (.func kn) #[] #[]] 86)).alloc (.cells #[.func (.func 105) #[] #[.pointer (some ⟨w.heap.size, 0, none⟩), .pointer (some ⟨w.heap.size + 1, 0, none⟩), .pointer (some ⟨w.heap.size + 1 + 1, 0, none⟩)]] 86) := by
  have k0 := new_cell ((((w.setCell ⟨R, o, none⟩ (.slice none 0 0)).setCell ⟨R, o + 1, none⟩ (.int .i64 0)).alloc (.cells #[.pointer (some ⟨R, o, none⟩)] 121)).alloc (.cells #[.func (.func kn) #[] #[]] 86)) (w.heap.size + 1 + 1) (by simp [World.setCell]) .nilFunc 86
  have k1 := new_free ((((w.setCell ⟨R, o, none⟩ (.slice none 0 0)).setCell ⟨R, o + 1, none⟩ (.int .i64 0)).alloc (.cells #[.pointer (some ⟨R, o, none⟩)] 121)).alloc (.cells #[.func (.func kn) #[] #[]] 86)) (w.heap.size + 1 + 1) (by simp [World.setCell]) .nilFunc 86
  have hst := store_of _ _ _ (.func (.func 105) #[] #[.pointer (some ⟨w.heap.size, 0, none⟩), .pointer (some ⟨w.heap.size + 1, 0, none⟩), .pointer (some ⟨w.heap.size + 1 + 1, 0, none⟩)]) rfl k0 k1
  clear k0 k1
  go_enter Tryz.func79, Tryz.ntmps79
  go_wp2
  go_ret
  exact ⟨rfl, rfl⟩
theorem Rep.clearR (h : Rep F R w s p st) (i : Rn) : Rep F R ((w.setCell ⟨R, i.off, none⟩ (.slice none 0 0)).setCell ⟨R, i.off + 1, none⟩ (.int .i64 0)) s (p.setRun i (.slice none 0 0)) (st.clear i) := by
  have hb := set_of (i := i.off + 1) (set_of (i := i.off) h.blk (.slice none 0 0)) (.int .i64 0)
  have hk : ∀ k, k ≠ R → ((w.setCell ⟨R, i.off, none⟩ (.slice none 0 0)).setCell ⟨R, i.off + 1, none⟩ (.int .i64 0)).heap[k]? = w.heap[k]? := fun k hk => by
    rw [Below.heap_setCell _ _ _ _ hk, Below.heap_setCell _ _ _ _ hk]
  have hs : ((w.setCell ⟨R, i.off, none⟩ (.slice none 0 0)).setCell ⟨R, i.off + 1, none⟩ (.int .i64 0)).heap.size = w.heap.size := by simp [World.setCell]
  generalize (w.setCell ⟨R, i.off, none⟩ (.slice none 0 0)).setCell ⟨R, i.off + 1, none⟩ (.int .i64 0) = w2 at *
  have hlt : ∀ k, F k → k < w2.heap.size := fun k hf => by rw [hs]; exact h.lt k hf
  refine ⟨?_, h.inR, hlt, (h.own.frame (fun k _ hr => hk k hr) (fun _ x => x)).clear hlt h.inR i⟩
  rw [hb]
  cases i <;> rfl
theorem Frame.clearR (h : Rep F R w s p st) (i : Rn) : Frame F w ((w.setCell ⟨R, i.off, none⟩ (.slice none 0 0)).setCell ⟨R, i.off + 1, none⟩ (.int .i64 0)) :=
  (Frame.setR h.inR _ _).same (Frame.setR h.inR _ _)
theorem cells_some (s : Src) (p : Ptr) (st : St) (i : Rn) (h : Rep F R w s p st) : w.cell? ⟨R, i.off, none⟩ = some (p.run i) ∧ w.cell? ⟨R, i.off + 1, none⟩ = some (.int .i64 (st.runAt i)) :=
  ⟨cell_of h.blk (cells_run s p st i).1, cell_of h.blk (cells_run s p st i).2⟩
theorem three_allocs (w : World) (a b c : Obj) : Below w.heap.size w (((w.alloc a).alloc b).alloc c) ∧ (((w.alloc a).alloc b).alloc c).heap[w.heap.size]? = some a ∧ (((w.alloc a).alloc b).alloc c).heap[w.heap.size + 1]? = some b ∧ (((w.alloc a).alloc b).alloc c).heap[w.heap.size + 1 + 1]? = some c ∧ (((w.alloc a).alloc b).alloc c).heap.size = w.heap.size + 3 := by
  refine ⟨(below_two w a b).alloc (by simp; omega) c, ?_, ?_, ?_, by simp⟩
  · rw [Below.heap_alloc _ _ _ (by simp; omega), Below.heap_alloc _ _ _ (by simp)]
    exact heap_alloc_new w a
  · rw [Below.heap_alloc _ _ _ (by simp)]
    have := heap_alloc_new (w.alloc a) b
    simpa using this
  · have := heap_alloc_new ((w.alloc a).alloc b) c
    simpa using this
theorem wantName_rep (h : Rep F R w s p st) (i : Rn) (k : Pl) :
    Calls Tryz.prog 79 #[.pointer (some ⟨R, i.off, none⟩), .func (.func k.fn) #[] #[]] w fun e w' => ∃ b1 b2 b3 p', e = .returned (.func (.func 105) #[] #[.pointer (some ⟨b1, 0, none⟩), .pointer (some ⟨b2, 0, none⟩), .pointer (some ⟨b3, 0, none⟩)]) ∧
      Box (Grow F w w') R w' b1 (.pointer (some ⟨R, i.off, none⟩)) 121 ∧ Box (Grow F w w') R w' b2 k.val 86 ∧ Box (Grow F w w') R w' b3 (.func (.func 105) #[] #[.pointer (some ⟨b1, 0, none⟩), .pointer (some ⟨b2, 0, none⟩), .pointer (some ⟨b3, 0, none⟩)]) 86 ∧
      Rep (Grow F w w') R w' s p' (st.clear i) ∧ Frame F w w' := by
  have hR := h.lt R h.inR
  refine (wantName_walk R i.off k.fn _ _ w hR (cells_some s p st i h).1 (cells_some s p st i h).2 (free_of h.blk) (free_of h.blk)).mono ?_
  rintro e w' ⟨rfl, rfl⟩
  have r := h.clearR i
  have f := Frame.clearR h i
  have hsz : ((w.setCell ⟨R, i.off, none⟩ (.slice none 0 0)).setCell ⟨R, i.off + 1, none⟩ (.int .i64 0)).heap.size = w.heap.size := by simp [World.setCell]
  generalize (w.setCell ⟨R, i.off, none⟩ (.slice none 0 0)).setCell ⟨R, i.off + 1, none⟩ (.int .i64 0) = w2 at *
  obtain ⟨hb, a1, a2, a3, az⟩ := three_allocs w2 (.cells #[.pointer (some ⟨R, i.off, none⟩)] 121) (.cells #[.func (.func k.fn) #[] #[]] 86) (.cells #[.func (.func 105) #[] #[.pointer (some ⟨w.heap.size, 0, none⟩), .pointer (some ⟨w.heap.size + 1, 0, none⟩), .pointer (some ⟨w.heap.size + 1 + 1, 0, none⟩)]] 86)
  generalize ((w2.alloc (.cells #[.pointer (some ⟨R, i.off, none⟩)] 121)).alloc (.cells #[.func (.func k.fn) #[] #[]] 86)).alloc (.cells #[.func (.func 105) #[] #[.pointer (some ⟨w.heap.size, 0, none⟩), .pointer (some ⟨w.heap.size + 1, 0, none⟩), .pointer (some ⟨w.heap.size + 1 + 1, 0, none⟩)]] 86) = w3 at *
  rw [hsz] at a1 a2 a3 az
  have hG : ∀ k, Grow F w2 w3 k → Grow F w w3 k := fun k hk => by unfold Grow at *; rw [hsz] at hk; exact hk
  refine ⟨w.heap.size, w.heap.size + 1, w.heap.size + 1 + 1, _, rfl, ⟨a1, Or.inr (by omega), by omega⟩, ⟨a2, Or.inr (by omega), by omega⟩, ⟨a3, Or.inr (by omega), by omega⟩, (r.below hb).mono hG (fun k hk => ?_), f.same (Frame.below hb)⟩
  exact (r.below hb).lt k (by unfold Grow at *; rw [hsz]; exact hk)
end Go.Proofs.YtfolnkmbdmfigaaGreatDoor

namespace Go.Proofs.YtfolnkmbdmfigaaGreatDoor
open Go.RowKit Go.Maps
variable {F : Nat → Prop} {R : Nat} {w w' : World} {s : Src} {p : Ptr} {st : St} {c : Int}
def stName (i : Rn) (k : Pl) (q : Int) (st : St) (c : Int) : Out :=
  if (st.run i).length = 0 then stName1 i k q st c else if (Ch.begins c || Ch.goesOn c) = true then ⟨st.put i c q, .go (.name i k)⟩ else step k q st c
theorem box_kept {b : Nat} {x : Value} {t : TypeId} {i : Rn} (h : Box F R w b x t) (ho : Own F R w p st) (ht : t ≠ 5) (hlt : ∀ k, F k → k < w.heap.size) (hK : Kept R (p.run i).ownBlock w w') : Box (Grow F w w') R w' b x t := by
  refine ⟨?_, Or.inl h.2.1, h.2.2⟩
  rw [hK.block b (hlt b h.2.1) h.2.2 ?_]
  · exact h.1
  · intro e
    obtain ⟨cur, hc⟩ := owns_blk (ho.run i) e.symm
    rw [h.1] at hc
    simp only [Option.some.injEq, Obj.cells.injEq] at hc
    exact ht hc.2.1
theorem box_below {b : Nat} {x : Value} {t : TypeId} (h : Box F R w b x t) (hlt : ∀ k, F k → k < w.heap.size) (hb : Below w.heap.size w w') : Box (Grow F w w') R w' b x t :=
  ⟨(hb.block b (hlt b h.2.1)).trans h.1, Or.inl h.2.1, h.2.2⟩
def NameBoxes (F : Nat → Prop) (R : Nat) (w : World) (i : Rn) (k : Pl) (b1 b2 b3 : Nat) : Prop :=
  Box F R w b1 (.pointer (some ⟨R, i.off, none⟩)) 121 ∧ Box F R w b2 k.val 86 ∧ Box F R w b3 (.func (.func 105) #[] #[.pointer (some ⟨b1, 0, none⟩), .pointer (some ⟨b2, 0, none⟩), .pointer (some ⟨b3, 0, none⟩)]) 86
theorem NameBoxes.below {i : Rn} {k : Pl} {b1 b2 b3 : Nat} (h : NameBoxes F R w i k b1 b2 b3) (hlt : ∀ k, F k → k < w.heap.size) (hb : Below w.heap.size w w') : NameBoxes (Grow F w w') R w' i k b1 b2 b3 :=
  ⟨box_below h.1 hlt hb, box_below h.2.1 hlt hb, box_below h.2.2 hlt hb⟩
theorem NameBoxes.kept {i j : Rn} {k : Pl} {b1 b2 b3 : Nat} (h : NameBoxes F R w i k b1 b2 b3) (ho : Own F R w p st) (hlt : ∀ k, F k → k < w.heap.size) (hK : Kept R (p.run j).ownBlock w w') : NameBoxes (Grow F w w') R w' i k b1 b2 b3 :=
  ⟨box_kept h.1 ho (by decide) hlt hK, box_kept h.2.1 ho (by decide) hlt hK, box_kept h.2.2 ho (by decide) hlt hK⟩
theorem name_end_go {w1 w2 : World} {i : Rn} {k : Pl} {b1 b2 b3 : Nat} {v : Value} {st' : St} (hb : Below w.heap.size w w1) (r2 : Rep (Grow (Grow F w w1) w1 w2) R w2 s (p.setRun i v) st') (f2 : Frame (Grow F w w1) w1 w2) (hn : NameBoxes (Grow (Grow F w w1) w1 w2) R w2 i k b1 b2 b3) :
    PartEnd F R w s ⟨st', .go (.name i k)⟩ (.returned (.tuple #[.func (.func 105) #[] #[.pointer (some ⟨b1, 0, none⟩), .pointer (some ⟨b2, 0, none⟩), .pointer (some ⟨b3, 0, none⟩)], .nilIface])) w2 := by
  have f1 : Frame F w w1 := Frame.below hb
  refine ⟨_, r2.join f1.size f2.size, f1.trans f2, _, rfl, ?_⟩
  exact PartAt.mono (F := Grow (Grow F w w1) w1 w2) (pt := .name i k) ⟨b1, b2, b3, rfl, hn.1, hn.2.1, hn.2.2⟩ (fun k hk => (Grow.trans f1.size f2.size k).1 hk)
theorem enter_pl (k : Pl) : ∀ args w, (callFunc k.fn args).run Tryz.prog w = .ok (.enter k.fn args) w := by
  cases k with
  | between => exact enters_of Tryz.func35 (by kernel_rfl) rfl
  | less => exact enters_of Tryz.func53 (by kernel_rfl) rfl
  | bang => exact enters_of Tryz.func82 (by kernel_rfl) rfl
  | remark => exact enters_of Tryz.func111 (by kernel_rfl) rfl
  | dash => exact enters_of Tryz.func138 (by kernel_rfl) rfl
  | orderName => exact enters_of Tryz.func81 (by kernel_rfl) rfl
  | order => exact enters_of Tryz.func109 (by kernel_rfl) rfl
  | mark => exact enters_of Tryz.func136 (by kernel_rfl) rfl
  | section_ => exact enters_of Tryz.func112 (by kernel_rfl) rfl
  | bracket => exact enters_of Tryz.func139 (by kernel_rfl) rfl
  | brackets => exact enters_of Tryz.func151 (by kernel_rfl) rfl
  | part => exact enters_of Tryz.func83 (by kernel_rfl) rfl
  | blanks => exact enters_of Tryz.func113 (by kernel_rfl) rfl
  | newAttr => exact enters_of Tryz.func140 (by kernel_rfl) rfl
  | attrP => exact enters_of Tryz.func153 (by kernel_rfl) rfl
  | equals => exact enters_of Tryz.func159 (by kernel_rfl) rfl
  | valueP => exact enters_of Tryz.func164 (by kernel_rfl) rfl
  | slash => exact enters_of Tryz.func114 (by kernel_rfl) rfl
  | closing => exact enters_of Tryz.func80 (by kernel_rfl) rfl
set_option maxHeartbeats 2000000 in
set_option maxRecDepth 10000 in
theorem name_ok (h : Rep F R w s p st) (hc : Leg c) (i : Rn) (k : Pl) (b1 b2 b3 : Nat) (hN : NameBoxes F R w i k b1 b2 b3) (hs : (st.run i).length ≤ 70368744177680)
    (hbeh : (st.run i).length ≠ 0 → ∀ (F1 : Nat → Prop) (w1 : World) (p1 : Ptr), Rep F1 R w1 s p1 st → Calls Tryz.prog k.fn #[.pointer (some ⟨R, 0, none⟩), .int .i32 c] w1 (PartEnd F1 R w1 s (step k s.at_ st c))) :
    Calls Tryz.prog 105 #[.pointer (some ⟨R, 0, none⟩), .int .i32 c, .pointer (some ⟨b1, 0, none⟩), .pointer (some ⟨b2, 0, none⟩), .pointer (some ⟨b3, 0, none⟩)] w (PartEnd F R w s (stName i k s.at_ st c)) := by
  have hat : w.cell? ⟨R, 2, none⟩ = some (.int .i64 s.at_) := h.cell 2 rfl
  have hR := h.lt R h.inR
  have k1 := box_cell hN.1
  have k2 : w.cell? ⟨b2, 0, none⟩ = some (.func (.func k.fn) #[] #[]) := box_cell hN.2.1
  obtain ⟨ao, cap, hv⟩ := slice_len (h.own.run i)
  have c0 : w.cell? ⟨R, i.off, none⟩ = some (.slice ao (st.run i).length cap) := by rw [← hv]; exact (cells_some s p st i h).1
  have hbn := beginsName_tok c hc
  have hgn := goesOnInName_tok c hc
  -- what put does, behind a look at the character
  have hput : 0 ≤ c → ∀ w1, Below w.heap.size w w1 → Calls Tryz.prog 57 #[.pointer (some ⟨R, i.off, none⟩), .int .i32 c, .int .i64 s.at_] w1.drew fun e w2 => e = .returned (.tuple #[]) ∧ ∃ v, Rep (Grow (Grow F w w1) w1 w2) R w2 s (p.setRun i v) (st.put i c s.at_) ∧ Frame (Grow F w w1) w1 w2 ∧ NameBoxes (Grow (Grow F w w1) w1 w2) R w2 i k b1 b2 b3 := by
    intro h0 w1 hb
    refine (put_drew (h.below hb) i c s.at_ (scalar_of hc h0) (by omega)).mono ?_
    rintro e w2 ⟨rfl, v, r, f, kk⟩
    exact ⟨rfl, v, r, f, (hN.below h.lt hb).kept (h.below hb).own (h.below hb).lt kk⟩
  have hbo : Ch.begins c = true → 0 ≤ c := fun e => by
    have := (Ch.begins_iff c).1 e; omega
  have hgo : (Ch.begins c || Ch.goesOn c) = true → 0 ≤ c := fun e => by
    rw [Bool.or_eq_true] at e
    rcases e with e | e
    · have := (Ch.begins_iff c).1 e; omega
    · have := (Ch.goesOn_iff c).1 e; omega
  have hen := enter_pl k
  have hb1 := h.lt b1 hN.1.2.1
  have hb2 := h.lt b2 hN.2.1.2.1
  have HN := hide hN
  have H := hide h
  have HP := hide hput
  have HBE := hide hbeh
  have HBO := hide hbo
  have HGO := hide hgo
  clear h hN hput hbeh hbo hgo hv hs hc
  unfold stName stName1
  generalize st.put i c s.at_ = st2 at *
  generalize hso : step k s.at_ st c = so at *
  clear hso
  generalize Ch.begins c = bb at *
  generalize (bb || Ch.goesOn c) = gg at *
  generalize hn : (st.run i).length = n at *
  clear hn
  by_cases hn0 : n = 0
  · subst hn0
    simp only [if_true]
    cases bb
    · simp only [Bool.false_eq_true, if_false]
      go_enter Tryz.func105, Tryz.ntmps105
      go_wp2_with (go_at_call 106; refine (hbn _).mono ?_; rintro e w1 ⟨rfl, bl1⟩)
      refine (refuse_tok R c s.at_ _ ((bl1.cell hR).trans hat)).mono ?_
      rintro e w2 ⟨rfl, rfl⟩
      go_wp2
      go_ret2
      exact PartEnd.fail0 H.out bl1
    · simp only [if_true]
      go_enter Tryz.func105, Tryz.ntmps105
      go_wp2_with (go_at_call 106; refine (hbn _).mono ?_; rintro e w1 ⟨rfl, bl1⟩)
      have hc0 : 0 ≤ c := by first | exact HBO.out rfl | exact HBO.out trivial
      have k1' := (bl1.cell hb1).trans k1
      have hat' := (bl1.cell hR).trans hat
      go_region_held3 (fun W => W.cell? ⟨b1, 0, none⟩ = some (.pointer (some ⟨R, i.off, none⟩)) ∧ W.cell? ⟨R, 2, none⟩ = some (.int .i64 s.at_))
        (first | exact ⟨k1', hat'⟩ | exact ⟨k1'', hat''⟩)
        (first | (go_at_call 57; refine (HP.out hc0 _ bl1).mono ?_; rintro e w2 ⟨rfl, v, r2, f2, n2⟩; have k1'' := box_cell n2.1; have k3'' := box_cell n2.2.2; have hat'' : w2.cell? ⟨R, 2, none⟩ = some (.int .i64 s.at_) := r2.cell 2 rfl; have N2 := hide n2; clear n2))
      all_goals
        go_wp2
        go_ret2
        exact name_end_go bl1 r2 f2 N2.out
  · have e0 : ((n : Int) == 0) = false := by
      have : (n : Int) ≠ 0 := by omega
      simpa using this
    rw [if_neg hn0]
    have HBE2 := hide (HBE.out hn0)
    clear hn0
    cases gg
    · simp only [Bool.false_eq_true, if_false]
      go_enter Tryz.func105, Tryz.ntmps105
      go_wp2_with (go_at_call 85; refine (hgn _).mono ?_; rintro e w1 ⟨rfl, bl1⟩; have k2' := (bl1.cell hb2).trans k2)
      refine (HBE2.out _ _ _ (H.out.below bl1)).mono ?_
      intro e w2 hP
      obtain ⟨v1, v2, rfl⟩ := hP.two
      go_wp2
      go_ret2
      exact hP.after (Frame.below bl1)
    · simp only [if_true]
      go_enter Tryz.func105, Tryz.ntmps105
      go_wp2_with (go_at_call 85; refine (hgn _).mono ?_; rintro e w1 ⟨rfl, bl1⟩)
      have hc0 : 0 ≤ c := by first | exact HGO.out rfl | exact HGO.out trivial
      have k1' := (bl1.cell hb1).trans k1
      have hat' := (bl1.cell hR).trans hat
      go_region_held3 (fun W => W.cell? ⟨b1, 0, none⟩ = some (.pointer (some ⟨R, i.off, none⟩)) ∧ W.cell? ⟨R, 2, none⟩ = some (.int .i64 s.at_))
        (first | exact ⟨k1', hat'⟩ | exact ⟨k1'', hat''⟩)
        (first | (go_at_call 57; refine (HP.out hc0 _ bl1).mono ?_; rintro e w2 ⟨rfl, v, r2, f2, n2⟩; have k1'' := box_cell n2.1; have k3'' := box_cell n2.2.2; have hat'' : w2.cell? ⟨R, 2, none⟩ = some (.int .i64 s.at_) := r2.cell 2 rfl; have N2 := hide n2; clear n2))
      all_goals
        go_wp2
        go_ret2
        exact name_end_go bl1 r2 f2 N2.out
end Go.Proofs.YtfolnkmbdmfigaaGreatDoor

namespace Go.Proofs.YtfolnkmbdmfigaaGreatDoor
open Go.RowKit Go.Maps
variable {F : Nat → Prop} {R : Nat} {w w' : World} {s : Src} {p : Ptr} {st : St} {c : Int}
theorem clear_len (st : St) (i : Rn) : ((st.clear i).run i).length = 0 := by simp [St.clear, St.setRun]
theorem stName_clear (i : Rn) (k : Pl) (q : Int) (st : St) (c : Int) : stName i k q (st.clear i) c = stName1 i k q (st.clear i) c := by
  unfold stName; rw [if_pos (clear_len st i)]
theorem want_then (h : Rep F R w s p st) (hc : Leg c) (i : Rn) (k : Pl) {b1 b2 b3 : Nat} {w1 : World} {p1 : Ptr}
    (hN : NameBoxes (Grow F w w1) R w1 i k b1 b2 b3) (r1 : Rep (Grow F w w1) R w1 s p1 (st.clear i)) :
    Calls Tryz.prog 105 #[.pointer (some ⟨R, 0, none⟩), .int .i32 c, .pointer (some ⟨b1, 0, none⟩), .pointer (some ⟨b2, 0, none⟩), .pointer (some ⟨b3, 0, none⟩)] w1 (PartEnd (Grow F w w1) R w1 s (stName1 i k s.at_ (st.clear i) c)) := by
  rw [← stName_clear]
  exact name_ok r1 hc i k b1 b2 b3 hN (by rw [clear_len]; omega) (fun hne => absurd (clear_len st i) hne)
theorem PartEnd.nameGo {w1 : World} {p1 : Ptr} {i : Rn} {k : Pl} {b1 b2 b3 : Nat} {st' : St} (hN : NameBoxes (Grow F w w1) R w1 i k b1 b2 b3) (r1 : Rep (Grow F w w1) R w1 s p1 st') (f1 : Frame F w w1) :
    PartEnd F R w s ⟨st', .go (.name i k)⟩ (.returned (.tuple #[.func (.func 105) #[] #[.pointer (some ⟨b1, 0, none⟩), .pointer (some ⟨b2, 0, none⟩), .pointer (some ⟨b3, 0, none⟩)], .nilIface])) w1 :=
  ⟨p1, r1, f1, _, rfl, b1, b2, b3, rfl, hN.1, hN.2.1, hN.2.2⟩
set_option maxHeartbeats 1000000 in
theorem less_ok (h : Rep F R w s p st) (hc : Leg c) :
    Calls Tryz.prog 53 #[.pointer (some ⟨R, 0, none⟩), .int .i32 c] w (PartEnd F R w s (step .less s.at_ st c)) := by
  have hw1 : Calls Tryz.prog 79 #[.pointer (some ⟨R, 9, none⟩), .func (.func 80) #[] #[]] w _ := wantName_rep h .name .closing
  have hw2 : Calls Tryz.prog 79 #[.pointer (some ⟨R, 9, none⟩), .func (.func 83) #[] #[]] w _ := wantName_rep h .name .part
  have H := hide h
  have HC := hide hc
  clear h hc
  show Calls _ _ _ _ (PartEnd F R w s (if c = 47 then ⟨st.clear .name, .go (.name .name .closing)⟩ else if c = 63 then ⟨st, .go (.plain .orderName)⟩ else if c = 33 then ⟨st, .go (.plain .bang)⟩ else stName1 .name .part s.at_ (st.clear .name) c))
  by_cases h1 : c = 47
  · rw [if_pos h1]
    have e1 : (c == 47) = true := by simpa using h1
    clear h1 hw2
    go_enter Tryz.func53, Tryz.ntmps53
    go_wp2_with (go_at_call 79; refine hw1.mono ?_; rintro e w1 ⟨b1, b2, b3, p1, rfl, x1, x2, x3, r1, f1⟩)
    go_ret2
    exact PartEnd.nameGo ⟨x1, x2, x3⟩ r1 f1
  · rw [if_neg h1]
    have e1 : (c == 47) = false := by simpa using h1
    clear h1 hw1
    by_cases h2 : c = 63
    · rw [if_pos h2]
      have e2 : (c == 63) = true := by simpa using h2
      clear h2
      go_enter Tryz.func53, Tryz.ntmps53
      go_wp2
      go_ret2
      exact PartEnd.go0 H.out (Below.refl _ _)
    · rw [if_neg h2]
      have e2 : (c == 63) = false := by simpa using h2
      clear h2
      by_cases h3 : c = 33
      · rw [if_pos h3]
        have e3 : (c == 33) = true := by simpa using h3
        clear h3
        go_enter Tryz.func53, Tryz.ntmps53
        go_wp2
        go_ret2
        exact PartEnd.go0 H.out (Below.refl _ _)
      · rw [if_neg h3]
        have e3 : (c == 33) = false := by simpa using h3
        clear h3
        generalize hso : stName1 .name .part s.at_ (st.clear .name) c = so at *
        have HSO := hide hso
        clear hso
        go_enter Tryz.func53, Tryz.ntmps53
        go_wp2_with (first | (go_at_call 79; refine hw2.mono ?_; rintro e w1 ⟨b1, b2, b3, p1, rfl, x1, x2, x3, r1, f1⟩))
        have hcall := want_then H.out HC.out .name .part ⟨x1, x2, x3⟩ r1
        rw [HSO.out] at hcall
        refine hcall.mono ?_
        intro e w2 hP
        obtain ⟨v1, v2, rfl⟩ := hP.two
        go_wp2
        go_ret2
        exact hP.after f1
set_option maxHeartbeats 1000000 in
theorem blanks_ok (h : Rep F R w s p st) (hc : Leg c) (hs : st.Small) :
    Calls Tryz.prog 113 #[.pointer (some ⟨R, 0, none⟩), .int .i32 c] w (PartEnd F R w s (step .blanks s.at_ st c)) := by
  have hbn := beginsName_tok c hc w
  have H := hide h
  have HC := hide hc
  have HS := hide hs
  clear h hc hs
  show Calls _ _ _ _ (PartEnd F R w s (if Ch.begins c = true then stName1 .attr .newAttr s.at_ (st.clear .attr) c else stPart s.at_ st c))
  generalize hso : stName1 .attr .newAttr s.at_ (st.clear .attr) c = so at *
  generalize hsp : stPart s.at_ st c = sp at *
  have HSO := hide hso
  have HSP := hide hsp
  clear hso hsp
  generalize Ch.begins c = b at *
  cases b
  · simp only [Bool.false_eq_true, if_false]
    go_enter Tryz.func113, Tryz.ntmps113
    go_wp2_with (first | (go_at_call 106; refine hbn.mono ?_; rintro e w1 ⟨rfl, bl1⟩))
    have hcall := part_ok (H.out.below bl1) HC.out HS.out
    rw [HSP.out] at hcall
    refine hcall.mono ?_
    intro e w2 hP
    obtain ⟨v1, v2, rfl⟩ := hP.two
    go_wp2
    go_ret2
    exact hP.after (Frame.below bl1)
  · simp only [if_true]
    go_enter Tryz.func113, Tryz.ntmps113
    go_wp2_with (first | (go_at_call 106; refine hbn.mono ?_; rintro e w1 ⟨rfl, bl1⟩))
    have hwn : Calls Tryz.prog 79 #[.pointer (some ⟨R, 13, none⟩), .func (.func 140) #[] #[]] w1 _ := wantName_rep (H.out.below bl1) .attr .newAttr
    refine hwn.mono ?_
    rintro e w2 ⟨b1, b2, b3, p1, rfl, x1, x2, x3, r1, f1⟩
    go_wp2_with fail
    have hcall := want_then (H.out.below bl1) HC.out .attr .newAttr ⟨x1, x2, x3⟩ r1
    rw [HSO.out] at hcall
    refine hcall.mono ?_
    intro e w3 hP
    obtain ⟨v1, v2, rfl⟩ := hP.two
    go_wp2
    go_ret2
    exact (hP.after f1).after (Frame.below bl1)
end Go.Proofs.YtfolnkmbdmfigaaGreatDoor

namespace Go.Proofs.YtfolnkmbdmfigaaGreatDoor
open Go.RowKit Go.Maps
variable {F : Nat → Prop} {R : Nat} {w w' : World} {s : Src} {p : Ptr} {st : St} {c : Int}
theorem lawS : Keyed Tryz.prog 9 := string_keyed Tryz.underlying9
theorem zero168 (w : World) : (zeroValue 209).run Tryz.prog w = .ok (.agg #[]) w := by kernel_rfl
theorem names_has (l : List (List UInt8)) (x : List UInt8) : Maps.has (namesD l) (Lit.string x) = l.contains x := by
  unfold namesD
  rw [has_setOf _ _ _ (by intro y hy; obtain ⟨z, _, rfl⟩ := List.mem_map.1 hy; exact trivial)]
  rw [Bool.eq_iff_iff]
  simp [Lit.sameKey]
theorem names_snoc (l : List (List UInt8)) (x : List UInt8) : (namesD l).put (Lit.string x) (.agg []) = namesD (l ++ [x]) := by
  unfold namesD
  rw [List.map_append, List.map_cons, List.map_nil, setOf_snoc]
theorem Own.namesSet (h : Own F R w p st) (hlt : ∀ k, F k → k < w.heap.size) (b : Nat) (l : List (List UInt8)) (hk : ∀ k, k < w.heap.size → k ≠ R → p.names ≠ .map (some k) → w'.heap[k]? = w.heap[k]?) (hb : b ≠ R) (hF : Grow F w w' b)
    (hm : w'.ownsMap Tryz.prog 9 unitElem b l.length (namesD l)) : Own (Grow F w w') R w' { p with names := .map (some b) } { st with names := l } := by
  have nm : ∀ k v e sz n xs, w.ownsRow 0 e sz v n xs → v.ownBlock = some k → p.names ≠ .map (some k) := by
    intro k v e sz n xs ho hv hn
    rcases h.names with ⟨e, _⟩ | ⟨b', e, _, _, h4⟩
    · rw [e] at hn; cases hn
    · rw [e] at hn; cases hn; exact map_ne ho h4 hv
  obtain ⟨cs, hc, hT⟩ := h.told
  refine ⟨fun i => owns_of (h.run i) fun k e => hk k (hlt k (h.runF i k e).1) (h.runF i k e).2 (nm k _ _ _ _ _ (h.run i) e), fun i k e => ⟨Or.inl (h.runF i k e).1, (h.runF i k e).2⟩, h.apart,
    ⟨cs, owns_of hc fun k e => hk k (hlt k (h.toldF k e).1) (h.toldF k e).2 (nm k _ _ _ _ _ hc e), hT.frame fun k n xs v' ho' hv a b c => ⟨hk k (hlt k a) b (nm k _ _ _ _ _ ho' hv), Or.inl a, c⟩⟩, fun k e => ⟨Or.inl (h.toldF k e).1, (h.toldF k e).2⟩,
    owns_of h.attrs fun k e => hk k (hlt k (h.attrsF k e).1) (h.attrsF k e).2 (nm k _ _ _ _ _ h.attrs e), fun k e => ⟨Or.inl (h.attrsF k e).1, (h.attrsF k e).2⟩, Or.inr ⟨b, rfl, hF, hb, hm⟩⟩
set_option maxHeartbeats 2000000 in
set_option maxRecDepth 100000 in
theorem addName_twice (h : Rep F R w s p st) (hs : (st.run .attr).length ≤ 70368744177680) (hh : st.names.contains (st.run .attr) = true) :
    Calls Tryz.prog 152 #[.pointer (some ⟨R, 0, none⟩)] w fun e w' => e = .returned (wrongV 5 (st.runAt .attr)) ∧ Below w.heap.size w w' := by
  obtain ⟨ao, cap, hv⟩ := slice_len (h.own.run .attr)
  have c13 : w.cell? ⟨R, 13, none⟩ = some (.slice ao (st.run .attr).length cap) := by rw [← hv]; exact h.cell 13 rfl
  have c14 : w.cell? ⟨R, 14, none⟩ = some (.int .i64 (st.runAt .attr)) := h.cell 14 rfl
  have hcv : (convert 87 9 (.slice ao (st.run .attr).length cap)).run Tryz.prog w = .ok (.string ⟨(st.run .attr).toArray⟩) w := by rw [← hv]; exact conv_own (h.own.run .attr)
  have hlt := h.lt R h.inR
  rcases h.own.names with ⟨_, hn⟩ | ⟨b, hp, _, _, hm⟩
  · rw [hn] at hh; simp at hh
  have c12 : w.cell? ⟨R, 12, none⟩ = some (.map (some b)) := by rw [← hp]; exact h.cell 12 rfl
  have hkey : keyOf Tryz.prog 9 (.string ⟨(st.run .attr).toArray⟩) = some (.string (st.run .attr)) := by
    have := Go.WideMaps.keyOf_string_mk (P := Tryz.prog) Tryz.underlying9 (s := ⟨(st.run .attr).toArray⟩) (by show (st.run .attr).toArray.size ≤ _; unfold maxLen; simp; omega)
    simpa using this
  have hhas : Maps.has (namesD st.names) (Lit.string (st.run .attr)) = true := by rw [names_has]; exact hh
  have HH := hide hhas
  have HM := hide hm
  have HK := hide hkey
  clear h hh hv hp hm hkey hhas
  generalize (st.run .attr) = nm at *
  go_enter Tryz.func152, Tryz.ntmps152
  go_wp2_with (at_lookup; refine wpList_lookup_own_unit _ rfl _ _ 90 rfl 9 209 lawS Tryz.underlying90 (zero168 _) b st.names.length _ rfl HM.out _ _ rfl HK.out ?_; rw [HH.out])
  go_ret
  exact ⟨rfl, (Below.refl _ _).alloc (Nat.le_refl _) _⟩
theorem eq_map (b : Nat) (w : World) : (binOp .eql 90 (.map (some b)) (.map none)).run Tryz.prog w = .ok (.bool false) w := by kernel_rfl
theorem eq_map0 (w : World) : (binOp .eql 90 (.map none) (.map none)).run Tryz.prog w = .ok (.bool true) w := by kernel_rfl
theorem names_close {b : Nat} {w1 w2 : World} (h : Rep F R w s p st) (b1 : Below w.heap.size w w1) (hp : p.names = .map (some b)) (hF : F b) (hb : b ≠ R) (hm : w2.ownsMap Tryz.prog 9 unitElem b (st.names ++ [st.run .attr]).length (namesD (st.names ++ [st.run .attr]))) (hg : w1.grownBy w2 (some b)) :
    Rep (Grow F w w2) R w2 s p { st with names := st.names ++ [st.run .attr] } ∧ Frame F w w2 := by
  have hR := h.lt R h.inR
  have hsz : w.heap.size ≤ w2.heap.size := Nat.le_trans b1.size hg.size
  have hk : ∀ k, k < w.heap.size → k ≠ b → w2.heap[k]? = w.heap[k]? := fun k hl hn => (hg.block k (Nat.lt_of_lt_of_le hl b1.size) (by simpa using hn)).trans (b1.block k hl)
  have o1 := h.own.namesSet (w' := w2) h.lt b (st.names ++ [st.run .attr]) (fun k hl _ hn => hk k hl (fun e => hn (by rw [hp, e]))) hb (Or.inl hF) hm
  refine ⟨⟨?_, Or.inl h.inR, grow_lt h.lt hsz, ?_⟩, ⟨hg.os.trans b1.os, hg.tape.trans b1.tape, hg.output.trans b1.output, hsz, fun k hl hf => hk k hl (fun e => hf (e ▸ hF))⟩⟩
  · rw [hk R hR (fun e => hb e.symm)]; exact h.blk
  · have : { p with names := .map (some b) } = p := by rw [← hp]
    rw [this] at o1
    exact o1
set_option maxHeartbeats 2000000 in
set_option maxRecDepth 100000 in
theorem addName_new (h : Rep F R w s p st) (hs : (st.run .attr).length ≤ 70368744177680) (hs2 : st.names.length ≤ 1099511627790) (hh : st.names.contains (st.run .attr) = false) (hnn : p.names ≠ .map none) :
    Calls Tryz.prog 152 #[.pointer (some ⟨R, 0, none⟩)] w fun e w' => e = .returned .nilIface ∧ ∃ p', Rep (Grow F w w') R w' s p' { st with names := st.names ++ [st.run .attr] } ∧ Frame F w w' := by
  obtain ⟨ao, cap, hv⟩ := slice_len (h.own.run .attr)
  have c13 : w.cell? ⟨R, 13, none⟩ = some (.slice ao (st.run .attr).length cap) := by rw [← hv]; exact h.cell 13 rfl
  have hcv : (convert 87 9 (.slice ao (st.run .attr).length cap)).run Tryz.prog w = .ok (.string ⟨(st.run .attr).toArray⟩) w := by rw [← hv]; exact conv_own (h.own.run .attr)
  have hlt := h.lt R h.inR
  rcases h.own.names with ⟨hn, _⟩ | ⟨b, hp, hF, hb, hm⟩
  · exact absurd hn hnn
  have c12 : w.cell? ⟨R, 12, none⟩ = some (.map (some b)) := by rw [← hp]; exact h.cell 12 rfl
  have hkey : keyOf Tryz.prog 9 (.string ⟨(st.run .attr).toArray⟩) = some (.string (st.run .attr)) := by
    have := Go.WideMaps.keyOf_string_mk (P := Tryz.prog) Tryz.underlying9 (s := ⟨(st.run .attr).toArray⟩) (by show (st.run .attr).toArray.size ≤ _; unfold maxLen; simp; omega)
    simpa using this
  have hhas : Maps.has (namesD st.names) (Lit.string (st.run .attr)) = false := by rw [names_has]; exact hh
  have hclose := fun (w1 w2 : World) b1 hm hg => names_close (w1 := w1) (w2 := w2) h b1 hp hF hb hm hg
  have hput := names_snoc st.names (st.run .attr)
  have HP := hide hput
  have HCL := hide hclose
  have HH := hide hhas
  have HM := hide hm
  have HK := hide hkey
  clear h hh hv hp hm hkey hhas hclose hput hnn hF hb
  have hlen : (st.names ++ [st.run .attr]).length = st.names.length + 1 := by simp
  have HLN := hide hlen
  clear hlen
  generalize hnm : (st.run .attr) = nm at *
  clear hnm
  have hqm := eq_map b
  go_enter Tryz.func152, Tryz.ntmps152
  go_wp2_with (first
    | (at_lookup; refine wpList_lookup_own_unit _ rfl _ _ 90 rfl 9 209 lawS Tryz.underlying90 (zero168 _) b st.names.length _ rfl HM.out _ _ rfl HK.out ?_; rw [HH.out])
    | (at_mapUpdate; refine wpList_mapUpdate_own _ rfl _ _ _ 90 rfl 9 209 lawS Tryz.underlying90 (unitElem (H := Unit)) b st.names.length _ rfl (HM.out.alloc _) (by unfold maxLen; omega) _ _ _ rfl rfl HK.out _ [] unitElem_mk ?_; intro w1 hown1 hgrow1))
  go_ret
  rw [HP.out] at hown1
  obtain ⟨r2, f2⟩ := HCL.out _ _ ((Below.refl _ w).alloc (Nat.le_refl _) _) (by rw [HLN.out]; exact hown1) hgrow1
  exact ⟨rfl, p, r2, f2⟩
theorem map_fresh (W : World) (n : Nat) (h : W.heap.size = n) : (W.alloc (.map #[] 0)).ownsMap Tryz.prog 9 unitElem n 0 (namesD []) := by
  subst h; exact World.ownsMap_made W Tryz.prog 9 unitElem
theorem names_first_close {nm : List UInt8} {w2 : World} (h : Rep F R w s p st) (hm : w2.ownsMap Tryz.prog 9 unitElem (w.heap.size + 1) 1 (namesD [nm]))
    (hg : (((w.setCell ⟨R, 12, none⟩ (.map (some (w.heap.size + 1)))).alloc (.cells #[] 209)).alloc (.map #[] 0)).grownBy w2 (some (w.heap.size + 1))) :
    Rep (Grow F w w2) R w2 s { p with names := .map (some (w.heap.size + 1)) } { st with names := [nm] } ∧ Frame F w w2 := by
  have hR := h.lt R h.inR
  have hz := hg.size
  simp [World.setCell] at hz
  have hsz : w.heap.size ≤ w2.heap.size := by omega
  have hk0 : ∀ k, k < w.heap.size → w2.heap[k]? = (w.setCell ⟨R, 12, none⟩ (.map (some (w.heap.size + 1)))).heap[k]? := fun k hl => by
    rw [hg.block k (by simp [World.setCell]; omega) (by simp; omega), Below.heap_alloc _ _ _ (by simp [World.setCell]; omega), Below.heap_alloc _ _ _ (by simp [World.setCell]; omega)]
  have hk : ∀ k, k < w.heap.size → k ≠ R → w2.heap[k]? = w.heap[k]? := fun k hl hn => (hk0 k hl).trans (Below.heap_setCell _ _ _ _ hn)
  have o1 := h.own.namesSet (w' := w2) h.lt (w.heap.size + 1) [nm] (fun k hl hr _ => hk k hl hr) (by omega) (Or.inr ⟨by omega, by omega⟩) hm
  refine ⟨⟨?_, Or.inl h.inR, grow_lt h.lt hsz, o1⟩, ⟨hg.os, hg.tape, hg.output, hsz, fun k hl hf => hk k hl (fun e => hf (e ▸ h.inR))⟩⟩
  rw [hk0 R hR, set_of h.blk]
  rfl
set_option maxHeartbeats 2000000 in
set_option maxRecDepth 100000 in
theorem addName_first (h : Rep F R w s p st) (hs : (st.run .attr).length ≤ 70368744177680) (hnn : p.names = .map none) :
    Calls Tryz.prog 152 #[.pointer (some ⟨R, 0, none⟩)] w fun e w' => e = .returned .nilIface ∧ ∃ p', Rep (Grow F w w') R w' s p' { st with names := [st.run .attr] } ∧ Frame F w w' := by
  obtain ⟨ao, cap, hv⟩ := slice_len (h.own.run .attr)
  have c13 : w.cell? ⟨R, 13, none⟩ = some (.slice ao (st.run .attr).length cap) := by rw [← hv]; exact h.cell 13 rfl
  have hcv : (convert 87 9 (.slice ao (st.run .attr).length cap)).run Tryz.prog w = .ok (.string ⟨(st.run .attr).toArray⟩) w := by rw [← hv]; exact conv_own (h.own.run .attr)
  have hlt := h.lt R h.inR
  have c12 : w.cell? ⟨R, 12, none⟩ = some (.map none) := by rw [← hnn]; exact h.cell 12 rfl
  have f12 := h.free 12
  have hkey : keyOf Tryz.prog 9 (.string ⟨(st.run .attr).toArray⟩) = some (.string (st.run .attr)) := by
    have := Go.WideMaps.keyOf_string_mk (P := Tryz.prog) Tryz.underlying9 (s := ⟨(st.run .attr).toArray⟩) (by show (st.run .attr).toArray.size ≤ _; unfold maxLen; simp; omega)
    simpa using this
  have hnil := fun W : World => look_nil (w := W) true lawS Tryz.underlying90 (zero168 W) hkey
  have hmm := @run_makeMap Tryz.prog
  have H := hide h
  have HK := hide hkey
  clear h hv hkey hnn
  generalize hnm : (st.run .attr) = nm at *
  have HNM := hide hnm
  clear hnm
  have hqm := eq_map0
  go_enter Tryz.func152, Tryz.ntmps152
  go_wp2_with (at_mapUpdate; refine wpList_mapUpdate_own _ rfl _ _ _ 90 rfl 9 209 lawS Tryz.underlying90 (unitElem (H := Unit)) (w.heap.size + 1) 0 (namesD []) rfl (map_fresh _ _ (by simp [World.setCell])) (by unfold maxLen; omega) _ _ _ rfl rfl HK.out _ [] unitElem_mk ?_; intro w1 hown1 hgrow1)
  go_ret
  rw [names_snoc] at hown1
  obtain ⟨r2, f2⟩ := names_first_close H.out (nm := nm) hown1 hgrow1
  first | exact ⟨rfl, _, r2, f2⟩ | exact ⟨rfl, ⟨_, r2⟩, f2⟩
theorem addName_rep (h : Rep F R w s p st) (hs : (st.run .attr).length ≤ 70368744177680) (hs2 : st.names.length ≤ 1099511627790) :
    Calls Tryz.prog 152 #[.pointer (some ⟨R, 0, none⟩)] w fun e w' => if st.names.contains (st.run .attr) = true then e = .returned (wrongV 5 (st.runAt .attr)) ∧ Below w.heap.size w w'
      else e = .returned .nilIface ∧ ∃ p', Rep (Grow F w w') R w' s p' { st with names := st.names ++ [st.run .attr] } ∧ Frame F w w' := by
  cases hh : st.names.contains (st.run .attr)
  · simp only [Bool.false_eq_true, if_false]
    by_cases hn : p.names = .map none
    · rcases h.own.names with ⟨_, hl⟩ | ⟨b, hp, _⟩
      · have := addName_first h hs hn
        rw [hl]
        exact this
      · rw [hp] at hn; cases hn
    · exact addName_new h hs hs2 hh hn
  · simp only [if_true]
    exact addName_twice h hs hh
set_option maxHeartbeats 1000000 in
theorem newAttr_ok (h : Rep F R w s p st) (hc : Leg c) (hs : (st.run .attr).length ≤ 70368744177680) (hs2 : st.names.length ≤ 1099511627790) :
    Calls Tryz.prog 140 #[.pointer (some ⟨R, 0, none⟩), .int .i32 c] w (PartEnd F R w s (step .newAttr s.at_ st c)) := by
  have ha := addName_rep h hs hs2
  show Calls _ _ _ _ (PartEnd F R w s (if st.names.contains (st.run .attr) = true then ⟨st, .fail 5 (st.runAt .attr)⟩ else stAttr s.at_ { st with names := st.names ++ [st.run .attr] } c))
  have hq1 : ∀ W : World, (binOp .neq 114 (wrongV 5 (st.runAt .attr)) .nilIface).run Tryz.prog W = .ok (.bool true) W := fun W => by unfold wrongV; kernel_rfl
  have hq2 : ∀ W : World, (binOp .neq 114 .nilIface .nilIface).run Tryz.prog W = .ok (.bool false) W := fun W => by kernel_rfl
  have H := hide h
  clear h hs hs2
  generalize { st with names := st.names ++ [st.run .attr] } = st2 at *
  generalize st.names.contains (st.run .attr) = b at *
  cases b
  · simp only [Bool.false_eq_true, if_false] at ha ⊢
    go_enter Tryz.func140, Tryz.ntmps140
    go_wp2_with (first | (go_at_call 152; refine ha.mono ?_; rintro e w1 ⟨rfl, p1, r1, f1⟩))
    refine (attrP_ok r1 hc).mono ?_
    intro e w2 hP
    obtain ⟨v1, v2, rfl⟩ := hP.two
    go_wp2
    go_ret2
    exact hP.after f1
  · simp only [if_true, wrongV] at ha hq1 ⊢
    go_enter Tryz.func140, Tryz.ntmps140
    go_wp2_with (first | (go_at_call 152; refine ha.mono ?_; rintro e w1 ⟨rfl, bl1⟩))
    go_ret2
    exact PartEnd.fail0 H.out bl1
end Go.Proofs.YtfolnkmbdmfigaaGreatDoor

namespace Go.Proofs.YtfolnkmbdmfigaaGreatDoor
open Go.RowKit Go.Maps
variable {F : Nat → Prop} {R : Nat} {w w' : World} {s : Src} {p : Ptr} {st : St} {c : Int}
def RefBoxes (F : Nat → Prop) (R : Nat) (w : World) (i : Rn) (k : Pl) (b1 b2 b3 : Nat) : Prop :=
  Box F R w b1 (.func (.func 84) #[] #[.pointer (some ⟨b1, 0, none⟩), .pointer (some ⟨b2, 0, none⟩), .pointer (some ⟨b3, 0, none⟩)]) 86 ∧ Box F R w b2 (.pointer (some ⟨R, i.off, none⟩)) 121 ∧ Box F R w b3 k.val 86
theorem RefBoxes.below {i : Rn} {k : Pl} {b1 b2 b3 : Nat} (h : RefBoxes F R w i k b1 b2 b3) (hlt : ∀ k, F k → k < w.heap.size) (hb : Below w.heap.size w w') : RefBoxes (Grow F w w') R w' i k b1 b2 b3 :=
  ⟨box_below h.1 hlt hb, box_below h.2.1 hlt hb, box_below h.2.2 hlt hb⟩
theorem RefBoxes.kept {i j : Rn} {k : Pl} {b1 b2 b3 : Nat} (h : RefBoxes F R w i k b1 b2 b3) (ho : Own F R w p st) (hlt : ∀ k, F k → k < w.heap.size) (hK : Kept R (p.run j).ownBlock w w') : RefBoxes (Grow F w w') R w' i k b1 b2 b3 :=
  ⟨box_kept h.1 ho (by decide) hlt hK, box_kept h.2.1 ho (by decide) hlt hK, box_kept h.2.2 ho (by decide) hlt hK⟩
theorem ref_start (h : Rep F R w s p st) (i : Rn) (k : Pl) : ∃ W0, W0 = (((w.setCell ⟨R, 18, none⟩ (.slice none 0 0)).setCell ⟨R, 19, none⟩ (.int .i64 0)).alloc (.cells #[.pointer (some ⟨R, i.off, none⟩)] 121)).alloc (.cells #[.func (.func k.fn) #[] #[]] 86) ∧
    Rep (Grow F w W0) R W0 s (p.setRun .ref (.slice none 0 0)) (st.clear .ref) ∧ Frame F w W0 ∧ Box (Grow F w W0) R W0 w.heap.size (.pointer (some ⟨R, i.off, none⟩)) 121 ∧ Box (Grow F w W0) R W0 (w.heap.size + 1) k.val 86 ∧ W0.heap.size = w.heap.size + 2 := by
  have hR := h.lt R h.inR
  refine ⟨_, rfl, ?_⟩
  have r := h.clearR .ref
  have f := Frame.clearR h .ref
  change Rep F R ((w.setCell ⟨R, 18, none⟩ (.slice none 0 0)).setCell ⟨R, 19, none⟩ (.int .i64 0)) s _ _ at r
  change Frame F w ((w.setCell ⟨R, 18, none⟩ (.slice none 0 0)).setCell ⟨R, 19, none⟩ (.int .i64 0)) at f
  have hsz : ((w.setCell ⟨R, 18, none⟩ (.slice none 0 0)).setCell ⟨R, 19, none⟩ (.int .i64 0)).heap.size = w.heap.size := by simp [World.setCell]
  generalize (w.setCell ⟨R, 18, none⟩ (.slice none 0 0)).setCell ⟨R, 19, none⟩ (.int .i64 0) = w2 at *
  have hb := below_two w2 (.cells #[.pointer (some ⟨R, i.off, none⟩)] 121) (.cells #[.func (.func k.fn) #[] #[]] 86)
  have a1 : ((w2.alloc (.cells #[.pointer (some ⟨R, i.off, none⟩)] 121)).alloc (.cells #[.func (.func k.fn) #[] #[]] 86)).heap[w.heap.size]? = some (.cells #[.pointer (some ⟨R, i.off, none⟩)] 121) := by
    rw [← hsz, Below.heap_alloc _ _ _ (by simp)]
    exact heap_alloc_new w2 _
  have a2 : ((w2.alloc (.cells #[.pointer (some ⟨R, i.off, none⟩)] 121)).alloc (.cells #[.func (.func k.fn) #[] #[]] 86)).heap[w.heap.size + 1]? = some (.cells #[.func (.func k.fn) #[] #[]] 86) := by
    rw [← hsz]
    have := heap_alloc_new (w2.alloc (.cells #[.pointer (some ⟨R, i.off, none⟩)] 121)) (.cells #[.func (.func k.fn) #[] #[]] 86)
    simpa using this
  have az : ((w2.alloc (.cells #[.pointer (some ⟨R, i.off, none⟩)] 121)).alloc (.cells #[.func (.func k.fn) #[] #[]] 86)).heap.size = w.heap.size + 2 := by rw [← hsz]; simp
  generalize (w2.alloc (.cells #[.pointer (some ⟨R, i.off, none⟩)] 121)).alloc (.cells #[.func (.func k.fn) #[] #[]] 86) = w3 at *
  have hG : ∀ k, Grow F w2 w3 k → Grow F w w3 k := fun k hk => by unfold Grow at *; rw [hsz] at hk; exact hk
  refine ⟨(r.below hb).mono hG (fun k hk => (r.below hb).lt k (by unfold Grow at *; rw [hsz]; exact hk)), f.same (Frame.below hb), ⟨a1, Or.inr (by omega), by omega⟩, ⟨a2, Or.inr (by omega), by omega⟩, az⟩
theorem ref_finish {W0 w2 : World} {p2 : Ptr} {st2 : St} {i : Rn} {k : Pl} {b2 b3 : Nat} (f0 : Frame F w W0) (r2 : Rep (Grow (Grow F w W0) W0 w2) R w2 s p2 st2) (f2 : Frame (Grow F w W0) W0 w2) (x2 : Box (Grow (Grow F w W0) W0 w2) R w2 b2 (.pointer (some ⟨R, i.off, none⟩)) 121) (x3 : Box (Grow (Grow F w W0) W0 w2) R w2 b3 k.val 86) :
    ∃ w3, w3 = w2.alloc (.cells #[.func (.func 84) #[] #[.pointer (some ⟨w2.heap.size, 0, none⟩), .pointer (some ⟨b2, 0, none⟩), .pointer (some ⟨b3, 0, none⟩)]] 86) ∧ RefBoxes (Grow F w w3) R w3 i k w2.heap.size b2 b3 ∧ (∃ p', Rep (Grow F w w3) R w3 s p' st2) ∧ Frame F w w3 := by
  refine ⟨_, rfl, ?_⟩
  have hR := r2.lt R r2.inR
  have hb : Below w2.heap.size w2 (w2.alloc (.cells #[.func (.func 84) #[] #[.pointer (some ⟨w2.heap.size, 0, none⟩), .pointer (some ⟨b2, 0, none⟩), .pointer (some ⟨b3, 0, none⟩)]] 86)) := (Below.refl _ w2).alloc (Nat.le_refl _) _
  have a1 := heap_alloc_new w2 (.cells #[.func (.func 84) #[] #[.pointer (some ⟨w2.heap.size, 0, none⟩), .pointer (some ⟨b2, 0, none⟩), .pointer (some ⟨b3, 0, none⟩)]] 86)
  have az : (w2.alloc (.cells #[.func (.func 84) #[] #[.pointer (some ⟨w2.heap.size, 0, none⟩), .pointer (some ⟨b2, 0, none⟩), .pointer (some ⟨b3, 0, none⟩)]] 86)).heap.size = w2.heap.size + 1 := by simp
  generalize w2.alloc (.cells #[.func (.func 84) #[] #[.pointer (some ⟨w2.heap.size, 0, none⟩), .pointer (some ⟨b2, 0, none⟩), .pointer (some ⟨b3, 0, none⟩)]] 86) = w3 at *
  have f01 : Frame F w w2 := f0.trans f2
  have hG : ∀ k, Grow (Grow (Grow F w W0) W0 w2) w2 w3 k → Grow F w w3 k := fun k hk => (Grow.trans f01.size hb.size k).1 (hk.elim (fun x => Or.inl ((Grow.trans f0.size f2.size k).1 x)) Or.inr)
  have hG' : ∀ k, Grow F w w3 k → Grow (Grow (Grow F w W0) W0 w2) w2 w3 k := fun k hk => ((Grow.trans f01.size hb.size k).2 hk).elim (fun x => Or.inl ((Grow.trans f0.size f2.size k).2 x)) Or.inr
  have y2 := box_below x2 r2.lt hb
  have y3 := box_below x3 r2.lt hb
  have hws : w.heap.size ≤ w2.heap.size := f01.size
  refine ⟨⟨⟨a1, Or.inr (by omega), by omega⟩, y2.mono hG, y3.mono hG⟩, ⟨_, (r2.below hb).mono hG (fun k hk => (r2.below hb).lt k (hG' k hk))⟩, ?_⟩
  exact f01.trans (Frame.below hb)
set_option maxHeartbeats 2000000 in
set_option maxRecDepth 10000 in
theorem reference_rep (h : Rep F R w s p st) (i : Rn) (k : Pl) :
    Calls Tryz.prog 54 #[.pointer (some ⟨R, 0, none⟩), .pointer (some ⟨R, i.off, none⟩), .func (.func k.fn) #[] #[]] w fun e w' => ∃ b1 b2 b3, e = .returned (.func (.func 84) #[] #[.pointer (some ⟨b1, 0, none⟩), .pointer (some ⟨b2, 0, none⟩), .pointer (some ⟨b3, 0, none⟩)]) ∧
      RefBoxes (Grow F w w') R w' i k b1 b2 b3 ∧ (∃ p', Rep (Grow F w w') R w' s p' ((st.clear .ref).put .ref 38 s.at_)) ∧ Frame F w w' := by
  have hlt := h.lt R h.inR
  have c18 : w.cell? ⟨R, 18, none⟩ = some (p.run .ref) := h.cell 18 rfl
  have c19 : w.cell? ⟨R, 19, none⟩ = some (.int .i64 (st.runAt .ref)) := h.cell 19 rfl
  have f18 := h.free 18
  have f19 := h.free 19
  have hat : w.cell? ⟨R, 2, none⟩ = some (.int .i64 s.at_) := h.cell 2 rfl
  obtain ⟨W0, hW, r0, f0, x1, x2, hz⟩ := ref_start h i k
  have hp := put_drew r0 .ref 38 s.at_ (by unfold Scalar; omega) (by rw [clear_len]; omega)
  have hat0 : W0.cell? ⟨R, 2, none⟩ = some (.int .i64 s.at_) := r0.cell 2 rfl
  have HW := hide hW
  rw [hW] at hp hat0
  have R0 := hide r0
  have F0 := hide f0
  have X1 := hide x1
  have X2 := hide x2
  clear h hW r0 f0 x1 x2 hz
  generalize (st.clear .ref).put .ref 38 s.at_ = st2 at *
  have hfin : ∀ w2 v, Rep (Grow (Grow F w W0) W0 w2) R w2 s ((p.setRun .ref (.slice none 0 0)).setRun .ref v) st2 → Frame (Grow F w W0) W0 w2 → Kept R ((p.setRun .ref (.slice none 0 0)).run .ref).ownBlock W0 w2 → _ := fun w2 v r2 f2 k2 =>
    ref_finish (i := i) (k := k) F0.out r2 f2 (box_kept (i := .ref) X1.out R0.out.own (by decide) R0.out.lt k2) (box_kept (i := .ref) X2.out R0.out.own (by decide) R0.out.lt k2)
  rw [HW.out] at hfin
  have HF := hide hfin
  clear hfin R0 F0 X1 X2
  have HW2 := HW.out
  subst HW2
  clear HW
  generalize hkn : k.fn = kn at *
  clear hkn
  go_enter Tryz.func54, Tryz.ntmps54
  go_wp2_with fail
  go_region_held3 (fun W => W.cell? ⟨R, 2, none⟩ = some (.int .i64 s.at_))
    (first | exact hat0 | exact hat2)
    (first | (go_at_call 57; refine hp.mono ?_; rintro e w2 ⟨rfl, v, r2, f2, k2⟩; have hat2 : w2.cell? ⟨R, 2, none⟩ = some (.int .i64 s.at_) := r2.cell 2 rfl; have hst := store_of _ _ _ (.func (.func 84) #[] #[.pointer (some ⟨w2.heap.size, 0, none⟩), .pointer (some ⟨w.heap.size, 0, none⟩), .pointer (some ⟨w.heap.size + 1, 0, none⟩)]) rfl (new_cell w2 w2.heap.size rfl .nilFunc 86) (new_free w2 w2.heap.size rfl .nilFunc 86)))
  all_goals
    go_wp2
    go_ret
    obtain ⟨w3, rfl, y1, y2, y3⟩ := HF.out w2 v r2 f2 k2
    exact ⟨_, _, _, rfl, y1, y2, y3⟩
end Go.Proofs.YtfolnkmbdmfigaaGreatDoor

namespace Go.Proofs.YtfolnkmbdmfigaaGreatDoor
open Go.RowKit Go.Maps
variable {F : Nat → Prop} {R : Nat} {w w' : World} {s : Src} {p : Ptr} {st : St} {c : Int}
theorem PartEnd.refGo {w1 : World} {p1 : Ptr} {i : Rn} {k : Pl} {b1 b2 b3 : Nat} {st' : St} (hN : RefBoxes (Grow F w w1) R w1 i k b1 b2 b3) (r1 : Rep (Grow F w w1) R w1 s p1 st') (f1 : Frame F w w1) :
    PartEnd F R w s ⟨st', .go (.ref i k)⟩ (.returned (.tuple #[.func (.func 84) #[] #[.pointer (some ⟨b1, 0, none⟩), .pointer (some ⟨b2, 0, none⟩), .pointer (some ⟨b3, 0, none⟩)], .nilIface])) w1 :=
  ⟨p1, r1, f1, _, rfl, b1, b2, b3, rfl, hN.1, hN.2.1, hN.2.2⟩
set_option maxHeartbeats 2000000 in
theorem between_ok (h : Rep F R w s p st) (hc : Leg c) (hs : st.Small) :
    Calls Tryz.prog 35 #[.pointer (some ⟨R, 0, none⟩), .int .i32 c] w (PartEnd F R w s (step .between s.at_ st c)) := by
  have hat : w.cell? ⟨R, 2, none⟩ = some (.int .i64 s.at_) := h.cell 2 rfl
  show Calls _ _ _ _ (PartEnd F R w s (if c = 60 then ⟨{ st with tagAt := s.at_ }, .go (.plain .less)⟩ else if c = 38 then ⟨(st.clear .ref).put .ref 38 s.at_, .go (.ref .text .between)⟩ else if c = -1 then ⟨st.tellText, .stop⟩ else if c = -2 then ⟨st, .fail 2 s.at_⟩ else ⟨st.put .text c s.at_, .go (.plain .between)⟩))
  by_cases h1 : c = 60
  · rw [if_pos h1]
    have e1 : (c == 60) = true := by simpa using h1
    have c8 : w.cell? ⟨R, 8, none⟩ = some (.int .i64 st.tagAt) := h.cell 8 rfl
    have f8 := h.free 8
    have H := hide h
    clear h1 h hc hs
    go_enter Tryz.func35, Tryz.ntmps35
    go_wp2
    go_ret2
    exact PartEnd.goR ((H.out.scalar (st' := { st with tagAt := s.at_ }) 8 (.int .i64 s.at_) rfl (fun o => ⟨o.run, o.runF, o.apart, o.told, o.toldF, o.attrs, o.attrsF, o.names⟩)).grow1 (by simp [World.setCell])) (Frame.setR H.out.inR _ _)
  rw [if_neg h1]
  have e1 : (c == 60) = false := by simpa using h1
  clear h1
  by_cases h2 : c = 38
  · rw [if_pos h2]
    have e2 : (c == 38) = true := by simpa using h2
    have hr : Calls Tryz.prog 54 #[.pointer (some ⟨R, 0, none⟩), .pointer (some ⟨R, 6, none⟩), .func (.func 35) #[] #[]] w _ := reference_rep h .text .between
    clear h2 h hc hs
    go_enter Tryz.func35, Tryz.ntmps35
    go_wp2_with (go_at_call 54; refine hr.mono ?_; rintro e w1 ⟨b1, b2, b3, rfl, x, ⟨p1, r1⟩, f1⟩)
    go_ret2
    exact PartEnd.refGo x r1 f1
  rw [if_neg h2]
  have e2 : (c == 38) = false := by simpa using h2
  clear h2
  by_cases h3 : c = -1
  · rw [if_pos h3]
    have e3 : (c == -1) = true := by simpa using h3
    have ht := tellText_rep h (by have := hs.told; omega)
    generalize st.tellText = st2 at *
    clear h3 h hc hs
    go_enter Tryz.func35, Tryz.ntmps35
    go_wp2_with (go_at_call 55; refine ht.mono ?_; rintro e w1 ⟨rfl, p1, r1, f1, _, _⟩)
    go_ret2
    exact ⟨p1, r1, f1, rfl⟩
  rw [if_neg h3]
  have e3 : (c == -1) = false := by simpa using h3
  by_cases h4 : c = -2
  · rw [if_pos h4]
    have e4 : (c == -2) = true := by simpa using h4
    have hw : Tk.why c = 2 := by simp [Tk.why, h4]
    have H := hide h
    have HW := hide hw
    clear h3 h4 h hc hs hw
    go_enter Tryz.func35, Tryz.ntmps35
    go_wp2_with (go_at_call 56; refine (refuse_tok R c s.at_ _ hat).mono ?_; rintro e w1 ⟨rfl, rfl⟩)
    go_ret2
    rw [← HW.out]
    exact PartEnd.fail0 H.out (Below.refl _ _)
  · rw [if_neg h4]
    have e4 : (c == -2) = false := by simpa using h4
    have hlo := hc.lo
    have hp := put_drew h .text c s.at_ (scalar_of hc (by omega)) (by have := hs.run .text; omega)
    generalize st.put .text c s.at_ = st2 at *
    clear h3 h4 h hc hs hlo
    go_enter Tryz.func35, Tryz.ntmps35
    go_wp2_with fail
    go_region_held3 (fun W => W.cell? ⟨R, 2, none⟩ = some (.int .i64 s.at_))
      (first | exact hat | exact hat2)
      (first | (go_at_call 57; refine hp.mono ?_; rintro e w1 ⟨rfl, v, r1, f1, k1⟩; have hat2 : w1.cell? ⟨R, 2, none⟩ = some (.int .i64 s.at_) := r1.cell 2 rfl))
    all_goals
      go_wp2
      go_ret2
      exact PartEnd.goR r1 f1
set_option maxHeartbeats 2000000 in
theorem valueP_ok (h : Rep F R w s p st) (hc : Leg c) (hs : st.Small) :
    Calls Tryz.prog 164 #[.pointer (some ⟨R, 0, none⟩), .int .i32 c] w (PartEnd F R w s (step .valueP s.at_ st c)) := by
  have hat : w.cell? ⟨R, 2, none⟩ = some (.int .i64 s.at_) := h.cell 2 rfl
  have c17 : w.cell? ⟨R, 17, none⟩ = some (.int .i32 st.quote) := h.cell 17 rfl
  show Calls _ _ _ _ (PartEnd F R w s (if c = st.quote then ⟨st.addAttr, .go (.plain .part)⟩ else if c = 38 then ⟨(st.clear .ref).put .ref 38 s.at_, .go (.ref .value .valueP)⟩ else if c = 60 ∨ c < 0 then ⟨st, .fail (Tk.why c) s.at_⟩ else ⟨st.put .value c s.at_, .go (.plain .valueP)⟩))
  by_cases h1 : c = st.quote
  · rw [if_pos h1]
    have e1 : (c == st.quote) = true := by simpa using h1
    have ha := addAttr_rep h (by have := hs.attrs; omega)
    generalize st.addAttr = st2 at *
    clear h1 h hc hs
    go_enter Tryz.func164, Tryz.ntmps164
    go_wp2_with (go_at_call 166; refine ha.mono ?_; rintro e w1 ⟨rfl, p1, r1, f1⟩)
    go_ret2
    exact PartEnd.goR r1 f1
  rw [if_neg h1]
  have e1 : (c == st.quote) = false := by simpa using h1
  clear h1
  by_cases h2 : c = 38
  · rw [if_pos h2]
    have e2 : (c == 38) = true := by simpa using h2
    have hr : Calls Tryz.prog 54 #[.pointer (some ⟨R, 0, none⟩), .pointer (some ⟨R, 15, none⟩), .func (.func 164) #[] #[]] w _ := reference_rep h .value .valueP
    clear h2 h hc hs
    go_enter Tryz.func164, Tryz.ntmps164
    go_wp2_with (go_at_call 54; refine hr.mono ?_; rintro e w1 ⟨b1, b2, b3, rfl, x, ⟨p1, r1⟩, f1⟩)
    go_ret2
    exact PartEnd.refGo x r1 f1
  rw [if_neg h2]
  have e2 : (c == 38) = false := by simpa using h2
  clear h2
  by_cases h3 : c = 60
  · rw [if_pos (Or.inl h3)]
    have e3 : (c == 60) = true := by simpa using h3
    have H := hide h
    clear h3 h hc hs
    go_enter Tryz.func164, Tryz.ntmps164
    go_wp2_with (go_at_call 56; refine (refuse_tok R c s.at_ _ hat).mono ?_; rintro e w1 ⟨rfl, rfl⟩)
    go_ret2
    exact PartEnd.fail0 H.out (Below.refl _ _)
  have e3 : (c == 60) = false := by simpa using h3
  by_cases h4 : c < 0
  · rw [if_pos (Or.inr h4)]
    have H := hide h
    clear h3 h hc hs
    go_enter Tryz.func164, Tryz.ntmps164
    go_wp2_with (go_at_call 56; refine (refuse_tok R c s.at_ _ hat).mono ?_; rintro e w1 ⟨rfl, rfl⟩)
    go_ret2
    exact PartEnd.fail0 H.out (Below.refl _ _)
  · rw [if_neg (by omega)]
    have hp := put_drew h .value c s.at_ (scalar_of hc (by omega)) (by have := hs.run .value; omega)
    generalize st.put .value c s.at_ = st2 at *
    clear h3 h hc hs
    go_enter Tryz.func164, Tryz.ntmps164
    go_wp2_with fail
    go_region_held3 (fun W => W.cell? ⟨R, 2, none⟩ = some (.int .i64 s.at_))
      (first | exact hat | exact hat2)
      (first | (go_at_call 57; refine hp.mono ?_; rintro e w1 ⟨rfl, v, r1, f1, k1⟩; have hat2 : w1.cell? ⟨R, 2, none⟩ = some (.int .i64 s.at_) := r1.cell 2 rfl))
    all_goals
      go_wp2
      go_ret2
      exact PartEnd.goR r1 f1
end Go.Proofs.YtfolnkmbdmfigaaGreatDoor

namespace Go.Proofs.YtfolnkmbdmfigaaGreatDoor
open Go.RowKit Go.Maps
variable {F : Nat → Prop} {R : Nat} {w w' : World} {s : Src} {p : Ptr} {st : St} {c : Int}
def Tk.inRef (c : Int) : Bool := c == 35 || c == 59 || (decide (c < 128) && (Ch.begins c || Ch.goesOn c))
theorem inRef_pos {c : Int} (h : Tk.inRef c = true) : 0 ≤ c ∧ c < 128 := by
  simp only [Tk.inRef, Bool.or_eq_true, Bool.and_eq_true, beq_iff_eq, decide_eq_true_eq] at h
  rcases h with (h | h) | ⟨h1, h | h⟩
  · omega
  · omega
  · have := (Ch.begins_iff c).1 h; omega
  · have := (Ch.goesOn_iff c).1 h; omega
set_option maxHeartbeats 2000000 in
set_option maxRecDepth 10000 in
theorem ref_bad (h : Rep F R w s p st) (hc : Leg c) (v1 v2 v3 : Value) (hb : Tk.inRef c = false) :
    Calls Tryz.prog 84 #[.pointer (some ⟨R, 0, none⟩), .int .i32 c, v1, v2, v3] w (PartEnd F R w s ⟨st, .fail 4 (st.runAt .ref)⟩) := by
  have c19 : w.cell? ⟨R, 19, none⟩ = some (.int .i64 (st.runAt .ref)) := h.cell 19 rfl
  have hlt := h.lt R h.inR
  have hgn := goesOnInName_tok c hc w
  simp only [Tk.inRef, Bool.or_eq_false_iff, Bool.and_eq_false_iff] at hb
  obtain ⟨⟨e35, e59⟩, e3⟩ := hb
  have e35' : (c != 35) = true := by simp [bne, e35]
  have e59' : (c != 59) = true := by simp [bne, e59]
  have H := hide h
  clear h hc
  by_cases h128 : 128 ≤ c
  · clear e3
    go_enter Tryz.func84, Tryz.ntmps84
    go_wp2_with fail
    go_region_held3 (fun W => W.cell? ⟨R, 19, none⟩ = some (.int .i64 (st.runAt .ref)))
      (first | exact c19)
      (fail)
    all_goals
      go_wp2
      go_ret2
      exact PartEnd.fail0 H.out (Below.refl _ w).drew
  · have hg : (Ch.begins c || Ch.goesOn c) = false := by
      rcases e3 with e | e
      · simp only [decide_eq_false_iff_not] at e; omega
      · rw [Bool.or_eq_false_iff] ; exact e
    rw [hg] at hgn
    clear e3 hg
    go_enter Tryz.func84, Tryz.ntmps84
    go_wp2_with (go_at_call 85; refine hgn.mono ?_; rintro e w1 ⟨rfl, bl1⟩)
    have c19' := (bl1.cell hlt).trans c19
    go_region_held3 (fun W => W.cell? ⟨R, 19, none⟩ = some (.int .i64 (st.runAt .ref)))
      (first | exact c19')
      (fail)
    all_goals
      go_wp2
      go_ret2
      exact PartEnd.fail0 H.out bl1.drew
theorem ref_end_go {w1 w2 : World} {i : Rn} {k : Pl} {b1 b2 b3 : Nat} {p2 : Ptr} {st' : St} (hb : Below w.heap.size w w1) (r2 : Rep (Grow (Grow F w w1) w1 w2) R w2 s p2 st') (f2 : Frame (Grow F w w1) w1 w2) (hn : RefBoxes (Grow (Grow F w w1) w1 w2) R w2 i k b1 b2 b3) :
    PartEnd F R w s ⟨st', .go (.ref i k)⟩ (.returned (.tuple #[.func (.func 84) #[] #[.pointer (some ⟨b1, 0, none⟩), .pointer (some ⟨b2, 0, none⟩), .pointer (some ⟨b3, 0, none⟩)], .nilIface])) w2 := by
  have f1 : Frame F w w1 := Frame.below hb
  refine ⟨_, r2.join f1.size f2.size, f1.trans f2, _, rfl, ?_⟩
  exact PartAt.mono (F := Grow (Grow F w w1) w1 w2) (pt := .ref i k) ⟨b1, b2, b3, rfl, hn.1, hn.2.1, hn.2.2⟩ (fun k hk => (Grow.trans f1.size f2.size k).1 hk)
theorem ref_put (h : Rep F R w s p st) (hc : Scalar c) (i : Rn) (k : Pl) (b1 b2 b3 : Nat) (hN : RefBoxes F R w i k b1 b2 b3) (hs : (st.run .ref).length ≤ 70368744177680) (w1 : World) (hb : Below w.heap.size w w1) :
    Calls Tryz.prog 57 #[.pointer (some ⟨R, 18, none⟩), .int .i32 c, .int .i64 s.at_] w1.drew fun e w2 => e = .returned (.tuple #[]) ∧ ∃ v, Rep (Grow (Grow F w w1) w1 w2) R w2 s (p.setRun .ref v) (st.put .ref c s.at_) ∧ Frame (Grow F w w1) w1 w2 ∧ RefBoxes (Grow (Grow F w w1) w1 w2) R w2 i k b1 b2 b3 := by
  have hp : Calls Tryz.prog 57 #[.pointer (some ⟨R, 18, none⟩), .int .i32 c, .int .i64 s.at_] w1.drew _ := put_drew (h.below hb) .ref c s.at_ hc (by omega)
  refine hp.mono ?_
  rintro e w2 ⟨rfl, v, r, f, kk⟩
  exact ⟨rfl, v, r, f, (hN.below h.lt hb).kept (h.below hb).own (h.below hb).lt kk⟩
set_option maxHeartbeats 2000000 in
set_option maxRecDepth 10000 in
theorem ref_more (h : Rep F R w s p st) (hc : Leg c) (i : Rn) (k : Pl) (b1 b2 b3 : Nat) (hN : RefBoxes F R w i k b1 b2 b3) (hs : (st.run .ref).length ≤ 70368744177680) (hb : Tk.inRef c = true) (h59 : c ≠ 59) :
    Calls Tryz.prog 84 #[.pointer (some ⟨R, 0, none⟩), .int .i32 c, .pointer (some ⟨b1, 0, none⟩), .pointer (some ⟨b2, 0, none⟩), .pointer (some ⟨b3, 0, none⟩)] w (PartEnd F R w s ⟨st.put .ref c s.at_, .go (.ref i k)⟩) := by
  have hat : w.cell? ⟨R, 2, none⟩ = some (.int .i64 s.at_) := h.cell 2 rfl
  have hlt := h.lt R h.inR
  have hgn := goesOnInName_tok c hc w
  have hp := ref_put h (scalar_of hc (inRef_pos hb).1) i k b1 b2 b3 hN hs
  have e59' : (c != 59) = true := by simpa using h59
  have hb0 := inRef_pos hb
  simp only [Tk.inRef, Bool.or_eq_true, Bool.and_eq_true, beq_iff_eq, decide_eq_true_eq] at hb
  have HP := hide hp
  clear h hc hN hs hp
  generalize st.put .ref c s.at_ = st2 at *
  by_cases h35 : c = 35
  · have e35' : (c != 35) = false := by simpa using h35
    have hp0 := HP.out w (Below.refl _ _)
    clear hb h35 h59 HP
    go_enter Tryz.func84, Tryz.ntmps84
    go_wp2_with fail
    go_region_held3 (fun W => W.cell? ⟨R, 2, none⟩ = some (.int .i64 s.at_))
      (first | exact hat | exact hat2)
      (first | (go_at_call 57; refine hp0.mono ?_; rintro e w2 ⟨rfl, v, r2, f2, n2⟩; have hat2 : w2.cell? ⟨R, 2, none⟩ = some (.int .i64 s.at_) := r2.cell 2 rfl; have k1 := box_cell n2.1; have N2 := hide n2; clear n2))
    all_goals
      go_wp2
      go_ret2
      exact ref_end_go (Below.refl _ _) r2 f2 N2.out
  · have e35' : (c != 35) = true := by simpa using h35
    have hg : (Ch.begins c || Ch.goesOn c) = true := by
      rcases hb with (h | h) | h
      · exact absurd h h35
      · exact absurd h h59
      · rw [Bool.or_eq_true]; exact h.2
    rw [hg] at hgn
    clear hb h35 h59 hg
    go_enter Tryz.func84, Tryz.ntmps84
    go_wp2_with (go_at_call 85; refine hgn.mono ?_; rintro e w1 ⟨rfl, bl1⟩)
    have hat1 := (bl1.cell hlt).trans hat
    have hp1 := HP.out w1 bl1
    go_region_held3 (fun W => W.cell? ⟨R, 2, none⟩ = some (.int .i64 s.at_))
      (first | exact hat1 | exact hat2)
      (first | (go_at_call 57; refine hp1.mono ?_; rintro e w2 ⟨rfl, v, r2, f2, n2⟩; have hat2 : w2.cell? ⟨R, 2, none⟩ = some (.int .i64 s.at_) := r2.cell 2 rfl; have k1 := box_cell n2.1; have N2 := hide n2; clear n2))
    all_goals
      go_wp2
      go_ret2
      exact ref_end_go bl1 r2 f2 N2.out
end Go.Proofs.YtfolnkmbdmfigaaGreatDoor
