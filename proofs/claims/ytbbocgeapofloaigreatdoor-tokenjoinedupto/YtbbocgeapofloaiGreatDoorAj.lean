import Derived.Test.YtbbocgeapofloaiGreatDoorAi
set_option linter.unusedVariables false
set_option linter.unusedSimpArgs false
namespace Go.Proofs.YtbbocgeapofloaiGreatDoor
open Go.RowKit Go.Maps

variable {F : Nat → Prop} {R : Nat} {w w' : World} {s : Src} {p : Ptr} {st : St} {c : Int}

/-- Does this character go on in a reference? -/
def Tk.inRef (c : Int) : Bool := c == 35 || c == 59 || (decide (c < 128) && (Ch.begins c || Ch.goesOn c))

theorem inRef_pos {c : Int} (h : Tk.inRef c = true) : 0 ≤ c ∧ c < 128 := by
  simp only [Tk.inRef, Bool.or_eq_true, Bool.and_eq_true, beq_iff_eq, decide_eq_true_eq] at h
  rcases h with (h | h) | ⟨h1, h | h⟩
  · omega
  · omega
  · have := (Ch.begins_iff c).1 h; omega
  · have := (Ch.goesOn_iff c).1 h; omega

set_option maxHeartbeats 2000000 in
set_option maxRecDepth 10000 in
theorem ref_bad (h : Rep F R w s p st) (hc : Leg c) (v1 v2 v3 : Value) (hb : Tk.inRef c = false) :
    Calls Tryz.prog 47 #[.pointer (some ⟨R, 0, none⟩), .int .i32 c, v1, v2, v3] w (PartEnd F R w s ⟨st, .fail 4 (st.runAt .ref)⟩) := by
  have c19 : w.cell? ⟨R, 19, none⟩ = some (.int .i64 (st.runAt .ref)) := h.cell 19 rfl
  have hlt := h.lt R h.inR
  have hgn := goesOnInName_tok c hc w
  simp only [Tk.inRef, Bool.or_eq_false_iff, Bool.and_eq_false_iff] at hb
  obtain ⟨⟨e35, e59⟩, e3⟩ := hb
  have e35' : (c != 35) = true := by simp [bne, e35]
  have e59' : (c != 59) = true := by simp [bne, e59]
  have H := hide h
  clear h hc
  by_cases h128 : 128 ≤ c
  · clear e3
    go_enter Tryz.func47, Tryz.ntmps47
    go_wp2_with fail
    go_region_held3 (fun W => W.cell? ⟨R, 19, none⟩ = some (.int .i64 (st.runAt .ref)))
      (first | exact c19)
      (fail)
    all_goals
      go_wp2
      go_ret2
      exact PartEnd.fail0 H.out (Below.refl _ w).drew
  · have hg : (Ch.begins c || Ch.goesOn c) = false := by
      rcases e3 with e | e
      · simp only [decide_eq_false_iff_not] at e; omega
      · rw [Bool.or_eq_false_iff] ; exact e
    rw [hg] at hgn
    clear e3 hg
    go_enter Tryz.func47, Tryz.ntmps47
    go_wp2_with (go_at_call 48; refine hgn.mono ?_; rintro e w1 ⟨rfl, bl1⟩)
    have c19' := (bl1.cell hlt).trans c19
    go_region_held3 (fun W => W.cell? ⟨R, 19, none⟩ = some (.int .i64 (st.runAt .ref)))
      (first | exact c19')
      (fail)
    all_goals
      go_wp2
      go_ret2
      exact PartEnd.fail0 H.out bl1.drew

theorem ref_end_go {w1 w2 : World} {i : Rn} {k : Pl} {b1 b2 b3 : Nat} {p2 : Ptr} {st' : St} (hb : Below w.heap.size w w1) (r2 : Rep (Grow (Grow F w w1) w1 w2) R w2 s p2 st') (f2 : Frame (Grow F w w1) w1 w2) (hn : RefBoxes (Grow (Grow F w w1) w1 w2) R w2 i k b1 b2 b3) :
    PartEnd F R w s ⟨st', .go (.ref i k)⟩ (.returned (.tuple #[.func (.func 47) #[] #[.pointer (some ⟨b1, 0, none⟩), .pointer (some ⟨b2, 0, none⟩), .pointer (some ⟨b3, 0, none⟩)], .nilIface])) w2 := by
  have f1 : Frame F w w1 := Frame.below hb
  refine ⟨_, r2.join f1.size f2.size, f1.trans f2, _, rfl, ?_⟩
  exact PartAt.mono (F := Grow (Grow F w w1) w1 w2) (pt := .ref i k) ⟨b1, b2, b3, rfl, hn.1, hn.2.1, hn.2.2⟩ (fun k hk => (Grow.trans f1.size f2.size k).1 hk)

/-- What put does to the reference's run, behind a look at the character. -/
theorem ref_put (h : Rep F R w s p st) (hc : Scalar c) (i : Rn) (k : Pl) (b1 b2 b3 : Nat) (hN : RefBoxes F R w i k b1 b2 b3) (hs : (st.run .ref).length ≤ 70368744177680) (w1 : World) (hb : Below w.heap.size w w1) :
    Calls Tryz.prog 26 #[.pointer (some ⟨R, 18, none⟩), .int .i32 c, .int .i64 s.at_] w1.drew fun e w2 => e = .returned (.tuple #[]) ∧ ∃ v, Rep (Grow (Grow F w w1) w1 w2) R w2 s (p.setRun .ref v) (st.put .ref c s.at_) ∧ Frame (Grow F w w1) w1 w2 ∧ RefBoxes (Grow (Grow F w w1) w1 w2) R w2 i k b1 b2 b3 := by
  have hp : Calls Tryz.prog 26 #[.pointer (some ⟨R, 18, none⟩), .int .i32 c, .int .i64 s.at_] w1.drew _ := put_drew (h.below hb) .ref c s.at_ hc (by omega)
  refine hp.mono ?_
  rintro e w2 ⟨rfl, v, r, f, kk⟩
  exact ⟨rfl, v, r, f, (hN.below h.lt hb).kept (h.below hb).own (h.below hb).lt kk⟩

set_option maxHeartbeats 2000000 in
set_option maxRecDepth 10000 in
theorem ref_more (h : Rep F R w s p st) (hc : Leg c) (i : Rn) (k : Pl) (b1 b2 b3 : Nat) (hN : RefBoxes F R w i k b1 b2 b3) (hs : (st.run .ref).length ≤ 70368744177680) (hb : Tk.inRef c = true) (h59 : c ≠ 59) :
    Calls Tryz.prog 47 #[.pointer (some ⟨R, 0, none⟩), .int .i32 c, .pointer (some ⟨b1, 0, none⟩), .pointer (some ⟨b2, 0, none⟩), .pointer (some ⟨b3, 0, none⟩)] w (PartEnd F R w s ⟨st.put .ref c s.at_, .go (.ref i k)⟩) := by
  have hat : w.cell? ⟨R, 2, none⟩ = some (.int .i64 s.at_) := h.cell 2 rfl
  have hlt := h.lt R h.inR
  have hgn := goesOnInName_tok c hc w
  have hp := ref_put h (scalar_of hc (inRef_pos hb).1) i k b1 b2 b3 hN hs
  have e59' : (c != 59) = true := by simpa using h59
  have hb0 := inRef_pos hb
  simp only [Tk.inRef, Bool.or_eq_true, Bool.and_eq_true, beq_iff_eq, decide_eq_true_eq] at hb
  have HP := hide hp
  clear h hc hN hs hp
  generalize st.put .ref c s.at_ = st2 at *
  by_cases h35 : c = 35
  · have e35' : (c != 35) = false := by simpa using h35
    have hp0 := HP.out w (Below.refl _ _)
    clear hb h35 h59 HP
    go_enter Tryz.func47, Tryz.ntmps47
    go_wp2_with fail
    go_region_held3 (fun W => W.cell? ⟨R, 2, none⟩ = some (.int .i64 s.at_))
      (first | exact hat | exact hat2)
      (first | (go_at_call 26; refine hp0.mono ?_; rintro e w2 ⟨rfl, v, r2, f2, n2⟩; have hat2 : w2.cell? ⟨R, 2, none⟩ = some (.int .i64 s.at_) := r2.cell 2 rfl; have k1 := box_cell n2.1; have N2 := hide n2; clear n2))
    all_goals
      go_wp2
      go_ret2
      exact ref_end_go (Below.refl _ _) r2 f2 N2.out
  · have e35' : (c != 35) = true := by simpa using h35
    have hg : (Ch.begins c || Ch.goesOn c) = true := by
      rcases hb with (h | h) | h
      · exact absurd h h35
      · exact absurd h h59
      · rw [Bool.or_eq_true]; exact h.2
    rw [hg] at hgn
    clear hb h35 h59 hg
    go_enter Tryz.func47, Tryz.ntmps47
    go_wp2_with (go_at_call 48; refine hgn.mono ?_; rintro e w1 ⟨rfl, bl1⟩)
    have hat1 := (bl1.cell hlt).trans hat
    have hp1 := HP.out w1 bl1
    go_region_held3 (fun W => W.cell? ⟨R, 2, none⟩ = some (.int .i64 s.at_))
      (first | exact hat1 | exact hat2)
      (first | (go_at_call 26; refine hp1.mono ?_; rintro e w2 ⟨rfl, v, r2, f2, n2⟩; have hat2 : w2.cell? ⟨R, 2, none⟩ = some (.int .i64 s.at_) := r2.cell 2 rfl; have k1 := box_cell n2.1; have N2 := hide n2; clear n2))
    all_goals
      go_wp2
      go_ret2
      exact ref_end_go bl1 r2 f2 N2.out
end Go.Proofs.YtbbocgeapofloaiGreatDoor
namespace Go.Proofs.YtbbocgeapofloaiGreatDoor
open Go.RowKit Go.Maps

variable {F : Nat → Prop} {R : Nat} {w w' : World} {s : Src} {p : Ptr} {st : St} {c : Int}

theorem decode_scalar (t : ByteArray) (i : Nat) (h : i < t.size) : Scalar ((Utf8.decode t i).1 : Int) := by
  have h0 : 0 ≤ Ch.bz t i := by unfold Ch.bz; rw [if_pos h]; omega
  have bad : Utf8.decode t i = (65533, 1) → Scalar ((Utf8.decode t i).1 : Int) := fun e => by rw [e]; unfold Scalar; simp
  by_cases a1 : Ch.bz t i < 128
  · rw [Ch.decode_one h0 a1]; unfold Scalar; simp only; omega
  by_cases a2 : Ch.bz t i < 192
  · exact bad (Ch.decode_none (Or.inl ⟨by omega, a2⟩))
  by_cases a3 : Ch.bz t i < 224
  · by_cases c1 : Ch.cont t (i + 1)
    · have hd := Ch.decode_two (by omega) a3 c1
      split at hd
      · rw [hd]
        unfold Ch.cont at c1
        rename_i hz
        simp only [Ch.acc, Nat.zero_add] at hz ⊢
        unfold Scalar; omega
      · exact bad hd
    · exact bad (Ch.decode_two_no (by omega) a3 c1)
  by_cases a4 : Ch.bz t i < 240
  · by_cases c1 : Ch.cont t (i + 1) ∧ Ch.cont t (i + 2)
    · have hd := Ch.decode_three (by omega) a4 c1.1 c1.2
      split at hd
      · rename_i hz
        rw [hd]
        have := (Ch.valid_iff _).1 hz.2
        unfold Scalar; simp only; omega
      · exact bad hd
    · exact bad (Ch.decode_three_no (by omega) a4 (by
        by_cases x : Ch.cont t (i + 1)
        · exact Or.inr fun y => c1 ⟨x, y⟩
        · exact Or.inl x))
  by_cases a5 : Ch.bz t i < 248
  · by_cases c1 : Ch.cont t (i + 1) ∧ Ch.cont t (i + 2) ∧ Ch.cont t (i + 3)
    · have hd := Ch.decode_four (by omega) a5 c1.1 c1.2.1 c1.2.2
      split at hd
      · rename_i hz
        rw [hd]
        have := (Ch.valid_iff _).1 hz.2
        unfold Scalar; simp only; omega
      · exact bad hd
    · exact bad (Ch.decode_four_no (by omega) a5 (by
        by_cases x : Ch.cont t (i + 1)
        · by_cases y : Ch.cont t (i + 2)
          · exact Or.inr (Or.inr fun z => c1 ⟨x, y, z⟩)
          · exact Or.inr (Or.inl y)
        · exact Or.inl x))
  · exact bad (Ch.decode_none (Or.inr (by omega)))

/-- The characters of a text, put one behind the other. -/
def putFrom (i : Rn) (t : ByteArray) (q : Int) : Nat → Nat → St → St
  | 0, _, st => st
  | f + 1, pos, st => if pos < t.size then putFrom i t q f (pos + (Utf8.decode t pos).2) (st.put i ((Utf8.decode t pos).1 : Int) q) else st
def St.putAll (st : St) (i : Rn) (t : ByteArray) (q : Int) : St := putFrom i t q (t.size + 1) 0 st

structure RL (F : Nat → Prop) (R : Nat) (w : World) (s : Src) (i : Rn) (k : Pl) (b1 b2 b3 : Nat) (t : ByteArray) (it : Nat) (q : Int) (st0 : St) (n0 : Nat) (wr : World) (pos : Nat) : Prop where
  ex : ∃ (Fr : Nat → Prop) (p' : Ptr) (st' : St) (fuel : Nat), t.size < pos + fuel ∧ putFrom i t q fuel pos st' = st0.putAll i t q ∧ ¬ Fr it ∧ Rep Fr R wr s p' st' ∧ RefBoxes Fr R wr i k b1 b2 b3 ∧ (∀ k, Fr k → Grow F w wr k) ∧ Frame F w wr ∧ st'.runAt .ref = q ∧ (st'.run i).length ≤ n0 + 4 * pos
  le : pos ≤ t.size
  hit : wr.heap[it]? = some (.stringIter t pos)
  hw : w.heap.size ≤ it

variable {i : Rn} {k : Pl} {b1 b2 b3 : Nat} {t : ByteArray} {it : Nat} {q : Int} {st0 : St} {n0 : Nat} {wr : World} {pos : Nat}

theorem Rep.iterAt {Fr : Nat → Prop} (h : Rep Fr R wr s p st) (hn : ¬ Fr it) (pos' : Nat) : Rep Fr R (wr.iterAt it t pos') s p st := by
  have hk : ∀ k, Fr k → (wr.iterAt it t pos').heap[k]? = wr.heap[k]? := fun k hf => Lib.iterAt_other wr it k t pos' (fun e => hn (e ▸ hf))
  exact ⟨(hk R h.inR).trans h.blk, h.inR, fun k hf => by rw [Lib.iterAt_size]; exact h.lt k hf, h.own.frame (fun k hf _ => hk k hf) (fun _ x => x)⟩
theorem Box.iterAt {Fr : Nat → Prop} {b : Nat} {x : Value} {ty : TypeId} (h : Box Fr R wr b x ty) (hn : ¬ Fr it) (pos' : Nat) : Box Fr R (wr.iterAt it t pos') b x ty :=
  ⟨(Lib.iterAt_other wr it b t pos' (fun e => hn (e ▸ h.2.1))).trans h.1, h.2⟩
theorem RefBoxes.iterAt {Fr : Nat → Prop} (h : RefBoxes Fr R wr i k b1 b2 b3) (hn : ¬ Fr it) (pos' : Nat) : RefBoxes Fr R (wr.iterAt it t pos') i k b1 b2 b3 :=
  ⟨h.1.iterAt hn pos', h.2.1.iterAt hn pos', h.2.2.iterAt hn pos'⟩

theorem put_ref_at (st : St) (i : Rn) (c q : Int) (hi : i ≠ .ref) : (st.put i c q).runAt .ref = st.runAt .ref := by
  simp [St.put, St.setRun, Ne.symm hi]

theorem RL.step (h : RL F R w s i k b1 b2 b3 t it q st0 n0 wr pos) (hi : i ≠ .ref) (hp : pos < t.size) (hn0 : n0 + 4 * t.size ≤ 70368744177680) :
    (wr.iterAt it t (pos + (Utf8.decode t pos).2)).cell? ⟨b2, 0, none⟩ = some (.pointer (some ⟨R, i.off, none⟩)) ∧ (wr.iterAt it t (pos + (Utf8.decode t pos).2)).cell? ⟨R, 19, none⟩ = some (.int .i64 q) ∧
    Calls Tryz.prog 26 #[.pointer (some ⟨R, i.off, none⟩), .int .i32 ((Utf8.decode t pos).1 : Int), .int .i64 q] (wr.iterAt it t (pos + (Utf8.decode t pos).2)).drew fun e w5 => e = .returned (.tuple #[]) ∧ RL F R w s i k b1 b2 b3 t it q st0 n0 w5 (pos + (Utf8.decode t pos).2) ∧ w5.cell? ⟨b2, 0, none⟩ = some (.pointer (some ⟨R, i.off, none⟩)) ∧ w5.cell? ⟨R, 19, none⟩ = some (.int .i64 q) := by
  obtain ⟨⟨Fr, p', st', fuel, hf, he, hnF, r, bx, hG, fr, hq, hl⟩, hle, hit, hw⟩ := h
  have hwd := Ch.decode_width t pos hp
  have r1 := r.iterAt (t := t) hnF (pos + (Utf8.decode t pos).2)
  have bx1 := bx.iterAt (t := t) hnF (pos + (Utf8.decode t pos).2)
  have hit1 := Lib.iterAt_heap wr it t pos (pos + (Utf8.decode t pos).2) hit
  have hsz := Lib.iterAt_size wr it t (pos + (Utf8.decode t pos).2)
  have hbw : Frame F w (wr.iterAt it t (pos + (Utf8.decode t pos).2)) := ⟨fr.os, fr.tape, fr.output, by rw [hsz]; exact fr.size, fun k hk hF => (Lib.iterAt_other wr it k t _ (by omega)).trans (fr.block k hk hF)⟩
  have hsc := decode_scalar t pos hp
  have henc := enc_le ((Utf8.decode t pos).1 : Int)
  obtain ⟨f, rfl⟩ : ∃ f, fuel = f + 1 := ⟨fuel - 1, by omega⟩
  have he2 : putFrom i t q f (pos + (Utf8.decode t pos).2) (st'.put i ((Utf8.decode t pos).1 : Int) q) = st0.putAll i t q := by
    rw [← he]; simp only [putFrom, hp, if_true]
  generalize (wr.iterAt it t (pos + (Utf8.decode t pos).2)) = w4 at *
  generalize hrn : ((Utf8.decode t pos).1 : Int) = rn at *
  generalize (Utf8.decode t pos).2 = wd at *
  have c19 : w4.cell? ⟨R, 19, none⟩ = some (.int .i64 q) := by rw [← hq]; exact r1.cell 19 rfl
  refine ⟨box_cell bx1.2.1, c19, ?_⟩
  refine (put_drew r1 i rn q hsc (by omega)).mono ?_
  rintro e w5 ⟨rfl, v, r5, f5, k5⟩
  have hit5 : w5.heap[it]? = some (.stringIter t (pos + wd)) := by
    have hlt : it < w4.heap.size := (Array.getElem?_eq_some_iff.1 hit1).1
    have hR : it ≠ R := fun e => by rw [e] at hit1; rw [r1.blk] at hit1; cases hit1
    rw [k5.block it hlt hR ?_]
    · exact hit1
    · intro e
      obtain ⟨cur, hc⟩ := owns_blk (r1.own.run i) e.symm
      rw [hit1] at hc; cases hc
  have bx5 := bx1.kept r1.own r1.lt k5
  refine ⟨rfl, ⟨⟨Grow Fr w4 w5, _, _, f, by omega, he2, ?_, r5, bx5, ?_, ?_, ?_, ?_⟩, by omega, hit5, hw⟩, box_cell bx5.2.1, ?_⟩
  · intro hx
    rcases hx with hx | hx
    · exact hnF hx
    · have hlt : it < w4.heap.size := (Array.getElem?_eq_some_iff.1 hit1).1
      omega
  · intro j hj
    rcases hj with hj | hj
    · rcases hG j hj with hx | hx
      · exact Or.inl hx
      · exact Or.inr ⟨hx.1, by have := f5.size; omega⟩
    · exact Or.inr ⟨by have := hbw.size; omega, hj.2⟩
  · exact ⟨f5.os.trans hbw.os, f5.tape.trans hbw.tape, f5.output.trans hbw.output, Nat.le_trans hbw.size f5.size, fun j hj hF => (f5.block j (Nat.lt_of_lt_of_le hj hbw.size) (fun x => (hG j x).elim hF (fun y => by omega))).trans (hbw.block j hj hF)⟩
  · rw [put_ref_at _ _ _ _ hi]; exact hq
  · have := put_len st' i i rn q
    omega
  · have hq5 : (st'.put i rn q).runAt .ref = q := by rw [put_ref_at _ _ _ _ hi]; exact hq
    have := r5.cell 19 rfl
    rw [← hq5]; exact this

theorem RL.last (h : RL F R w s i k b1 b2 b3 t it q st0 n0 wr pos) (hp : ¬ pos < t.size) (hlt : ∀ k, F k → k < w.heap.size) :
    wr.cell? ⟨b3, 0, none⟩ = some k.val ∧ PartEnd F R w s ⟨st0.putAll i t q, .go (.plain k)⟩ (.returned (.tuple #[k.val, .nilIface])) wr := by
  obtain ⟨⟨Fr, p', st', fuel, hf, he, hnF, r, bx, hG, fr, hq, hl⟩, hle, hit, hw⟩ := h
  refine ⟨box_cell bx.2.2, ?_⟩
  obtain ⟨f, rfl⟩ : ∃ f, fuel = f + 1 := ⟨fuel - 1, by omega⟩
  have he2 : st' = st0.putAll i t q := by
    rw [← he]; simp only [putFrom, hp, if_false]
  rw [← he2]
  exact PartEnd.goR (r.mono hG (grow_lt hlt fr.size)) fr

theorem unesc_len (t : ByteArray) : ∀ f pos acc, (Ch.unescFrom t f pos acc).1.length ≤ acc.length + 4 * f := by
  intro f
  induction f with
  | zero => intro pos acc; simp [Ch.unescFrom]
  | succ f ih =>
    intro pos acc
    unfold Ch.unescFrom
    have h1 := ih (pos + (Ch.refAt t pos).2.toNat) (acc ++ Lib.encodeRune (Ch.refAt t pos).1)
    have h2 := ih (pos + (Utf8.decode t pos).2) (acc ++ Lib.encodeRune (Utf8.decode t pos).1)
    have h3 := enc_le (Ch.refAt t pos).1
    have h4 := enc_le ((Utf8.decode t pos).1 : Int)
    simp only [List.length_append] at h1 h2
    repeat' split
    all_goals first | (simp only [List.length_nil]; omega) | omega
end Go.Proofs.YtbbocgeapofloaiGreatDoor
namespace Go.Proofs.YtbbocgeapofloaiGreatDoor
open Go.RowKit Go.Maps

variable {F : Nat → Prop} {R : Nat} {w w' : World} {s : Src} {p : Ptr} {st : St} {c : Int}

def stRefEnd (i : Rn) (k : Pl) (st1 : St) : Out :=
  if (Ch.unesc ⟨(st1.run .ref).toArray⟩).2.1 = 0 then ⟨st1.putAll i ⟨(Ch.unesc ⟨(st1.run .ref).toArray⟩).1.toArray⟩ (st1.runAt .ref), .go (.plain k)⟩ else ⟨st1, .fail 4 (st1.runAt .ref)⟩
def stRef (i : Rn) (k : Pl) (q : Int) (st : St) (c : Int) : Out :=
  if Tk.inRef c = true then (if c = 59 then stRefEnd i k (st.put .ref 59 q) else ⟨st.put .ref c q, .go (.ref i k)⟩) else ⟨st, .fail 4 (st.runAt .ref)⟩

theorem tab_frame (hT : Tab w) (hf : Frame F w w') (h2 : ¬ F 2) : Tab w' := by
  obtain ⟨t, fr, hg⟩ := hT
  exact ⟨t, fr, by rw [hf.block 2 (Array.getElem?_eq_some_iff.1 hg).1 h2]; exact hg⟩

/-- The loop's beginning. -/
theorem RL.start {w2 w3 : World} {p2 : Ptr} {st1 : St} {i : Rn} {k : Pl} {b1 b2 b3 : Nat} (t : ByteArray) (r2 : Rep (Grow F w w2) R w2 s p2 st1) (f2 : Frame F w w2) (hN : RefBoxes (Grow F w w2) R w2 i k b1 b2 b3) (hb : Below w2.heap.size w2 w3) :
    RL F R w s i k b1 b2 b3 t w3.heap.size (st1.runAt .ref) st1 (st1.run i).length (w3.iter t 0) 0 := by
  have hb4 : Below w2.heap.size w2 (w3.iter t 0) := hb.alloc hb.size _
  have hlt := r2.lt
  refine ⟨⟨Grow F w w2, p2, st1, t.size + 1, by omega, rfl, ?_, ?_, ?_, ?_, ?_, rfl, by omega⟩, by omega, World.iter_heap w3 t 0, Nat.le_trans f2.size hb.size⟩
  · intro hx
    have := hlt _ hx
    have := hb.size
    omega
  · exact ⟨(hb4.block R (hlt R r2.inR)).trans r2.blk, r2.inR, fun j hj => Nat.lt_of_lt_of_le (hlt j hj) hb4.size, r2.own.frame (fun j hj _ => hb4.block j (hlt j hj)) (fun _ x => x)⟩
  · exact ⟨⟨(hb4.block b1 (hlt b1 hN.1.2.1)).trans hN.1.1, hN.1.2⟩, ⟨(hb4.block b2 (hlt b2 hN.2.1.2.1)).trans hN.2.1.1, hN.2.1.2⟩, ⟨(hb4.block b3 (hlt b3 hN.2.2.2.1)).trans hN.2.2.1, hN.2.2.2⟩⟩
  · intro j hj
    rcases hj with hj | hj
    · exact Or.inl hj
    · exact Or.inr ⟨hj.1, by have := hb4.size; omega⟩
  · exact ⟨hb4.os.trans f2.os, hb4.tape.trans f2.tape, hb4.output.trans f2.output, Nat.le_trans f2.size hb4.size, fun j hj hF => (hb4.block j (Nat.lt_of_lt_of_le hj f2.size)).trans (f2.block j hj hF)⟩

set_option maxHeartbeats 4000000 in
set_option maxRecDepth 100000 in
theorem ref_last (h : Rep F R w s p st) (i : Rn) (k : Pl) (b1 b2 b3 : Nat) (hi : i ≠ .ref) (hN : RefBoxes F R w i k b1 b2 b3) (hs : (st.run i).length + 16 * (st.run .ref).length + 120 ≤ 70368744177664) (hT : Tab w) (h2 : ¬ F 2) :
    Calls Tryz.prog 47 #[.pointer (some ⟨R, 0, none⟩), .int .i32 59, .pointer (some ⟨b1, 0, none⟩), .pointer (some ⟨b2, 0, none⟩), .pointer (some ⟨b3, 0, none⟩)] w (PartEnd F R w s (stRefEnd i k (st.put .ref 59 s.at_))) := by
  have hat : w.cell? ⟨R, 2, none⟩ = some (.int .i64 s.at_) := h.cell 2 rfl
  have hp := ref_put h (c := 59) (by unfold Scalar; omega) i k b1 b2 b3 hN (by omega) w (Below.refl _ _)
  have hl1 := put_len st .ref .ref 59 s.at_
  have hl2 := put_len st .ref i 59 s.at_
  have HT := hide hT
  have H2 := hide h2
  have HLT := hide h.lt
  clear h hN hT h2
  generalize st.put .ref 59 s.at_ = st1 at *
  have hso : stRefEnd i k st1 = if (Ch.unesc ⟨(st1.run .ref).toArray⟩).2.1 = 0 then ⟨st1.putAll i ⟨(Ch.unesc ⟨(st1.run .ref).toArray⟩).1.toArray⟩ (st1.runAt .ref), .go (.plain k)⟩ else ⟨st1, .fail 4 (st1.runAt .ref)⟩ := rfl
  generalize stRefEnd i k st1 = so at *
  have HSO := hide hso
  clear hso
  go_enter Tryz.func47, Tryz.ntmps47
  go_wp2_with fail
  go_region_held3 (fun W => W.cell? ⟨R, 2, none⟩ = some (.int .i64 s.at_))
    (first | exact hat | exact hat2)
    (first | (go_at_call 26; refine hp.mono ?_; rintro e w2 ⟨rfl, v, r2, f2, n2⟩; have hat2 : w2.cell? ⟨R, 2, none⟩ = some (.int .i64 s.at_) := r2.cell 2 rfl; have N2 := hide n2; clear n2))
  clear hp
  have f2' : Frame F w w2 := (Frame.refl F w).trans f2
  have r2' : Rep (Grow F w w2) R w2 s _ st1 := r2.join (Nat.le_refl _) f2.size
  have n2' : RefBoxes (Grow F w w2) R w2 i k b1 b2 b3 := ⟨N2.out.1.mono fun j hj => (Grow.trans (Nat.le_refl _) f2.size j).1 hj, N2.out.2.1.mono fun j hj => (Grow.trans (Nat.le_refl _) f2.size j).1 hj, N2.out.2.2.mono fun j hj => (Grow.trans (Nat.le_refl _) f2.size j).1 hj⟩
  have hlt2 := r2'.lt R r2'.inR
  obtain ⟨ao, cap, hv⟩ := slice_len (r2'.own.run .ref)
  have c18 : w2.cell? ⟨R, 18, none⟩ = some (.slice ao (st1.run .ref).length cap) := by rw [← hv]; exact r2'.cell 18 rfl
  have c19 : w2.cell? ⟨R, 19, none⟩ = some (.int .i64 (st1.runAt .ref)) := r2'.cell 19 rfl
  have hcv : (convert 53 9 (.slice ao (st1.run .ref).length cap)).run Tryz.prog w2 = .ok (.string ⟨(st1.run .ref).toArray⟩) w2 := by rw [← hv]; exact conv_own (r2'.own.run .ref)
  have hsz : (⟨(st1.run .ref).toArray⟩ : ByteArray).size = (st1.run .ref).length := by show (st1.run .ref).toArray.size = _; simp
  have hun := unescape_any ⟨(st1.run .ref).toArray⟩ w2 (by rw [hsz]; omega) (tab_frame HT.out f2' H2.out)
  have hul := unesc_len ⟨(st1.run .ref).toArray⟩ (((⟨(st1.run .ref).toArray⟩ : ByteArray).size) + 1) 0 []
  have hul2 : (Ch.unesc ⟨(st1.run .ref).toArray⟩).1.length ≤ 4 * ((st1.run .ref).length + 1) := by
    unfold Ch.unesc; rw [hsz] at hul ⊢; simpa using hul
  clear hul
  have hst := fun t w3 hb => RL.start (k := k) (w3 := w3) (i := i) t r2' f2' n2' hb
  have R2 := hide r2'
  have F2 := hide f2'
  have HST := hide hst
  have HU := hide hul2
  clear r2 f2 N2 r2' f2' n2' hst hv hul2 hat2
  generalize hX : Ch.unesc ⟨(st1.run .ref).toArray⟩ = X at *
  clear hX
  obtain ⟨X1, X2, X3⟩ := X
  by_cases hz : X2 = 0
  · have hso : so = ⟨st1.putAll i ⟨X1.toArray⟩ (st1.runAt .ref), .go (.plain k)⟩ := by rw [HSO.out, if_pos hz]
    subst hz
    obtain ⟨t, ht⟩ : ∃ t : ByteArray, t = ⟨X1.toArray⟩ := ⟨_, rfl⟩
    have htz : t.size ≤ 4 * ((st1.run .ref).length + 1) := by rw [ht]; show X1.toArray.size ≤ _; simpa using HU.out
    rw [← ht] at hun hso
    subst hso
    have hn0 : (st1.run i).length + 4 * t.size ≤ 70368744177680 := by omega
    have HN0 := hide hn0
    clear HSO HU ht htz hn0 hl1 hl2 hs hsz
    have hkv : k.val = .func (.func k.fn) #[] #[] := rfl
    have HKV := hide hkv
    clear hkv
    go_wp2_with (go_at_call 49; refine hun.mono ?_; rintro e w3 ⟨rfl, bl3⟩)
    have hst0 := HST.out t w3 bl3
    have HS0 := hide hst0
    clear hst0 hun hcv c18 c19 HST
    generalize (st1.run i).length = n0 at *
    go_loopw [] (fun wr => ∃ pos, RL F R w s i k b1 b2 b3 t w3.heap.size (st1.runAt .ref) st1 n0 wr pos) (fun wr => t.size - wr.iterPos w3.heap.size)
    case atStart => exact ⟨0, HS0.out⟩
    case round =>
      obtain ⟨pos, hrl⟩ := hrel
      by_cases hp : pos < t.size
      · have hnx : ∀ ty, (Instr.next (.pointer (some ⟨w3.heap.size, 0, none⟩)) true ty).run Tryz.prog wr = _ := fun ty => Lib.run_next_any_at wr w3.heap.size t pos ty hrl.hit hp
        obtain ⟨d1, d2, d3⟩ := hrl.step hi hp HN0.out
        have hwd := Ch.decode_width t pos hp
        have HRL := hide hrl
        clear hrl
        generalize ((Utf8.decode t pos).1 : Int) = rn at *
        go_wp2_with fail
        go_region_held3 (fun W => W.cell? ⟨b2, 0, none⟩ = some (.pointer (some ⟨R, i.off, none⟩)) ∧ W.cell? ⟨R, 19, none⟩ = some (.int .i64 (st1.runAt .ref)))
          (first | exact ⟨d1, d2⟩ | exact ⟨g1, g2⟩)
          (first | (go_at_call 26; refine d3.mono ?_; rintro e w5 ⟨rfl, hr5, g1, g2⟩))
        all_goals
          go_wp2
          go_roundw
          case rel => exact ⟨_, hr5⟩
          case measure =>
            simp only [World.iterPos, hr5.hit, HRL.out.hit]
            omega
      · have hnx : ∀ ty, (Instr.next (.pointer (some ⟨w3.heap.size, 0, none⟩)) true ty).run Tryz.prog wr = _ := fun ty => Lib.run_next_end_at wr w3.heap.size t pos ty hrl.hit hp
        obtain ⟨d1, d2⟩ := hrl.last hp HLT.out
        rw [HKV.out] at d1 d2
        have D2 := hide d2
        clear hrl d2
        go_wp2
        go_ret2
        exact D2.out
  · have ez : (X2 != 0) = true := by simpa using hz
    have hso : so = ⟨st1, .fail 4 (st1.runAt .ref)⟩ := by rw [HSO.out, if_neg hz]
    subst hso
    clear hz HSO
    go_wp2_with (go_at_call 49; refine hun.mono ?_; rintro e w3 ⟨rfl, bl3⟩)
    have c19' := (bl3.cell hlt2).trans c19
    go_region_held3 (fun W => W.cell? ⟨R, 19, none⟩ = some (.int .i64 (st1.runAt .ref)))
      (first | exact c19')
      (fail)
    all_goals
      go_wp2
      go_ret2
      exact (PartEnd.fail0 R2.out bl3.drew).after F2.out
end Go.Proofs.YtbbocgeapofloaiGreatDoor
namespace Go.Proofs.YtbbocgeapofloaiGreatDoor
open Go.RowKit Go.Maps

variable {F : Nat → Prop} {R : Nat} {w w' : World} {s : Src} {p : Ptr} {st : St} {c : Int}

structure St.Tiny (st : St) : Prop where
  run : ∀ i, (st.run i).length ≤ 70368744177664
  told : st.told.length ≤ 1099511627776
  attrs : st.attrs.length ≤ 1099511627776
  names : st.names.length ≤ 1099511627776
theorem St.Tiny.small (h : st.Tiny) : st.Small := ⟨fun i => by have := h.run i; omega, h.told, h.attrs, h.names⟩

/-- A part that is a plain function. -/
theorem plain_ok (k : Pl) (h : Rep F R w s p st) (hc : Leg c) (hs : st.Tiny) (hf : s.Fits) :
    Calls Tryz.prog k.fn #[.pointer (some ⟨R, 0, none⟩), .int .i32 c] w (PartEnd F R w s (step k s.at_ st c)) := by
  have ht := hs.run .text
  have ha := hs.run .attr
  have hn := hs.names
  cases k with
  | between => exact between_ok h hc hs.small
  | less => exact less_ok h hc
  | bang => exact bang_ok h hc
  | remark => exact remark_ok h hc
  | dash => exact dash_ok h hc
  | orderName => exact orderName_ok h hc
  | order => exact order_ok h hc
  | mark => exact mark_ok h hc
  | section_ => exact section_ok h hc (by omega)
  | bracket => exact bracket_ok h hc (by omega) hf
  | brackets => exact brackets_ok h hc (by omega) hf
  | part => exact part_ok h hc hs.small
  | blanks => exact blanks_ok h hc hs.small
  | newAttr => exact newAttr_ok h hc (by omega) (by omega)
  | attrP => exact attrP_ok h hc
  | equals => exact equals_ok h hc
  | valueP => exact valueP_ok h hc hs.small
  | slash => exact slash_ok h hc hs.small
  | closing => exact closing_ok h hc hs.small

/-- What the reader's next step is. -/
def stepPart (pt : Part) (q : Int) (st : St) (c : Int) : Out :=
  match pt with
  | .plain k => step k q st c
  | .word [] k => ⟨st, .go (.plain k)⟩
  | .word (x :: l) k => stWord x l k q st c
  | .name i k => stName i k q st c
  | .ref i k => stRef i k q st c

/-- The parts that there are. -/
def Part.Sound : Part → Prop
  | .plain _ => True
  | .word l _ => l ≠ [] ∧ l.length ≤ 10
  | .name _ _ => True
  | .ref i _ => i ≠ .ref

/-- Whatever part is next: it is a function value, and its call makes the step. -/
theorem part_call (pt : Part) (v : Value) (h : Rep F R w s p st) (hpt : PartAt F R w v pt) (hso : pt.Sound) (hc : Leg c) (hs : st.Tiny) (hx : ∀ i k, pt = .ref i k → (st.run i).length + 16 * (st.run .ref).length + 120 ≤ 70368744177664) (hf : s.Fits) (hT : Tab w) (h2 : ¬ F 2) :
    ∃ f cs, v = .func (.func f) #[] cs ∧ (∀ args w, (callFunc f args).run Tryz.prog w = .ok (.enter f args) w) ∧ Calls Tryz.prog f (#[.pointer (some ⟨R, 0, none⟩), .int .i32 c] ++ cs) w (PartEnd F R w s (stepPart pt s.at_ st c)) := by
  cases pt with
  | plain k => exact ⟨k.fn, #[], hpt, enter_pl k, plain_ok k h hc hs hf⟩
  | word l k =>
    obtain ⟨b1, b2, rfl, x1, x2⟩ := hpt
    cases l with
    | nil => exact absurd rfl hso.1
    | cons x l => exact ⟨93, _, rfl, enters_of Tryz.func93 (by kernel_rfl) rfl, word_ok h b1 b2 x l k x1 x2 (by have := hso.2; simp at this; omega)⟩
  | name i k =>
    obtain ⟨b1, b2, b3, rfl, x1, x2, x3⟩ := hpt
    exact ⟨67, _, rfl, enters_of Tryz.func67 (by kernel_rfl) rfl, name_ok h hc i k b1 b2 b3 ⟨x1, x2, x3⟩ (by have := hs.run i; omega) (fun _ F1 w1 p1 r => plain_ok k r hc hs hf)⟩
  | ref i k =>
    obtain ⟨b1, b2, b3, rfl, x1, x2, x3⟩ := hpt
    refine ⟨47, _, rfl, enters_of Tryz.func47 (by kernel_rfl) rfl, ?_⟩
    have hr := hs.run .ref
    show Calls Tryz.prog 47 _ w (PartEnd F R w s (stRef i k s.at_ st c))
    unfold stRef
    cases hb : Tk.inRef c
    · simp only [Bool.false_eq_true, if_false]
      exact ref_bad h hc _ _ _ hb
    · simp only [if_true]
      by_cases h59 : c = 59
      · subst h59
        rw [if_pos rfl]
        exact ref_last h i k b1 b2 b3 hso ⟨x1, x2, x3⟩ (hx i k rfl) hT h2
      · rw [if_neg h59]
        exact ref_more h hc i k b1 b2 b3 ⟨x1, x2, x3⟩ (by omega) hb h59

/-- The parts that come of a step are sound. -/
theorem step_sound (k : Pl) (q : Int) (st : St) (c : Int) : ∀ pt, (step k q st c).res = .go pt → pt.Sound := by
  intro pt
  cases k <;> simp only [step, stPart, stName1, stAttr, stRemark, stOrder, stSection, stBracket] <;> (repeat' split) <;> intro e <;> first | (cases e; done) | (cases e; simp [Part.Sound])
end Go.Proofs.YtbbocgeapofloaiGreatDoor
