import Derived.BigQuiet
import Derived.Deep.QuietTactic
import Derived.Shelf.Unicode.DecodeSlow
import Derived.Lib.DecodeN
import Derived.Test.YtfolnkmbdmfigaaGreatDoorGag
import Derived.Test.YtfolnkmbdmfigaaGreatDoorGac
set_option linter.unusedVariables false
set_option linter.unusedSimpArgs false
namespace Go.Proofs.YtfolnkmbdmfigaaGreatDoor
open Go.RowKit Go.Maps
variable {F : Nat → Prop} {R : Nat} {w w' : World} {s : Src} {p : Ptr} {st : St} {c : Int}
theorem decode_scalar (t : ByteArray) (i : Nat) (h : i < t.size) : Scalar ((Utf8.decode t i).1 : Int) := by
  have h0 : 0 ≤ Ch.bz t i := by unfold Ch.bz; rw [if_pos h]; omega
  have bad : Utf8.decode t i = (65533, 1) → Scalar ((Utf8.decode t i).1 : Int) := fun e => by rw [e]; unfold Scalar; simp
  by_cases a1 : Ch.bz t i < 128
  · rw [Ch.decode_one h0 a1]; unfold Scalar; simp only; omega
  by_cases a2 : Ch.bz t i < 192
  · exact bad (Ch.decode_none (Or.inl ⟨by omega, a2⟩))
  by_cases a3 : Ch.bz t i < 224
  · by_cases c1 : Ch.cont t (i + 1)
    · have hd := Ch.decode_two (by omega) a3 c1
      split at hd
      · rw [hd]
        unfold Ch.cont at c1
        rename_i hz
        simp only [Ch.acc, Nat.zero_add] at hz ⊢
        unfold Scalar; omega
      · exact bad hd
    · exact bad (Ch.decode_two_no (by omega) a3 c1)
  by_cases a4 : Ch.bz t i < 240
  · by_cases c1 : Ch.cont t (i + 1) ∧ Ch.cont t (i + 2)
    · have hd := Ch.decode_three (by omega) a4 c1.1 c1.2
      split at hd
      · rename_i hz
        rw [hd]
        have := (Ch.valid_iff _).1 hz.2
        unfold Scalar; simp only; omega
      · exact bad hd
    · exact bad (Ch.decode_three_no (by omega) a4 (by
        by_cases x : Ch.cont t (i + 1)
        · exact Or.inr fun y => c1 ⟨x, y⟩
        · exact Or.inl x))
  by_cases a5 : Ch.bz t i < 248
  · by_cases c1 : Ch.cont t (i + 1) ∧ Ch.cont t (i + 2) ∧ Ch.cont t (i + 3)
    · have hd := Ch.decode_four (by omega) a5 c1.1 c1.2.1 c1.2.2
      split at hd
      · rename_i hz
        rw [hd]
        have := (Ch.valid_iff _).1 hz.2
        unfold Scalar; simp only; omega
      · exact bad hd
    · exact bad (Ch.decode_four_no (by omega) a5 (by
        by_cases x : Ch.cont t (i + 1)
        · by_cases y : Ch.cont t (i + 2)
          · exact Or.inr (Or.inr fun z => c1 ⟨x, y, z⟩)
          · exact Or.inr (Or.inl y)
        · exact Or.inl x))
  · exact bad (Ch.decode_none (Or.inr (by omega)))
def putFrom (i : Rn) (t : ByteArray) (q : Int) : Nat → Nat → St → St
  | 0, _, st => st
  | f + 1, pos, st => if pos < t.size then putFrom i t q f (pos + (Utf8.decode t pos).2) (st.put i ((Utf8.decode t pos).1 : Int) q) else st
def St.putAll (st : St) (i : Rn) (t : ByteArray) (q : Int) : St := putFrom i t q (t.size + 1) 0 st
structure RL (F : Nat → Prop) (R : Nat) (w : World) (s : Src) (i : Rn) (k : Pl) (b1 b2 b3 : Nat) (t : ByteArray) (it : Nat) (q : Int) (st0 : St) (n0 : Nat) (wr : World) (pos : Nat) : Prop where
  ex : ∃ (Fr : Nat → Prop) (p' : Ptr) (st' : St) (fuel : Nat), t.size < pos + fuel ∧ putFrom i t q fuel pos st' = st0.putAll i t q ∧ ¬ Fr it ∧ Rep Fr R wr s p' st' ∧ RefBoxes Fr R wr i k b1 b2 b3 ∧ (∀ k, Fr k → Grow F w wr k) ∧ Frame F w wr ∧ st'.runAt .ref = q ∧ (st'.run i).length ≤ n0 + 4 * pos
  le : pos ≤ t.size
  hit : wr.heap[it]? = some (.stringIter t pos)
  hw : w.heap.size ≤ it
variable {i : Rn} {k : Pl} {b1 b2 b3 : Nat} {t : ByteArray} {it : Nat} {q : Int} {st0 : St} {n0 : Nat} {wr : World} {pos : Nat}
theorem Rep.iterAt {Fr : Nat → Prop} (h : Rep Fr R wr s p st) (hn : ¬ Fr it) (pos' : Nat) : Rep Fr R (wr.iterAt it t pos') s p st := by
  have hk : ∀ k, Fr k → (wr.iterAt it t pos').heap[k]? = wr.heap[k]? := fun k hf => Lib.iterAt_other wr it k t pos' (fun e => hn (e ▸ hf))
  exact ⟨(hk R h.inR).trans h.blk, h.inR, fun k hf => by rw [Lib.iterAt_size]; exact h.lt k hf, h.own.frame (fun k hf _ => hk k hf) (fun _ x => x)⟩
theorem Box.iterAt {Fr : Nat → Prop} {b : Nat} {x : Value} {ty : TypeId} (h : Box Fr R wr b x ty) (hn : ¬ Fr it) (pos' : Nat) : Box Fr R (wr.iterAt it t pos') b x ty :=
  ⟨(Lib.iterAt_other wr it b t pos' (fun e => hn (e ▸ h.2.1))).trans h.1, h.2⟩
theorem RefBoxes.iterAt {Fr : Nat → Prop} (h : RefBoxes Fr R wr i k b1 b2 b3) (hn : ¬ Fr it) (pos' : Nat) : RefBoxes Fr R (wr.iterAt it t pos') i k b1 b2 b3 :=
  ⟨h.1.iterAt hn pos', h.2.1.iterAt hn pos', h.2.2.iterAt hn pos'⟩
theorem put_ref_at (st : St) (i : Rn) (c q : Int) (hi : i ≠ .ref) : (st.put i c q).runAt .ref = st.runAt .ref := by
  simp [St.put, St.setRun, Ne.symm hi]
theorem RL.step (h : RL F R w s i k b1 b2 b3 t it q st0 n0 wr pos) (hi : i ≠ .ref) (hp : pos < t.size) (hn0 : n0 + 4 * t.size ≤ 70368744177680) :
    (wr.iterAt it t (pos + (Utf8.decode t pos).2)).cell? ⟨b2, 0, none⟩ = some (.pointer (some ⟨R, i.off, none⟩)) ∧ (wr.iterAt it t (pos + (Utf8.decode t pos).2)).cell? ⟨R, 19, none⟩ = some (.int .i64 q) ∧
    Calls Tryz.prog 57 #[.pointer (some ⟨R, i.off, none⟩), .int .i32 ((Utf8.decode t pos).1 : Int), .int .i64 q] (wr.iterAt it t (pos + (Utf8.decode t pos).2)).drew fun e w5 => e = .returned (.tuple #[]) ∧ RL F R w s i k b1 b2 b3 t it q st0 n0 w5 (pos + (Utf8.decode t pos).2) ∧ w5.cell? ⟨b2, 0, none⟩ = some (.pointer (some ⟨R, i.off, none⟩)) ∧ w5.cell? ⟨R, 19, none⟩ = some (.int .i64 q) := by
  obtain ⟨⟨Fr, p', st', fuel, hf, he, hnF, r, bx, hG, fr, hq, hl⟩, hle, hit, hw⟩ := h
  have hwd := Ch.decode_width t pos hp
  have r1 := r.iterAt (t := t) hnF (pos + (Utf8.decode t pos).2)
  have bx1 := bx.iterAt (t := t) hnF (pos + (Utf8.decode t pos).2)
  have hit1 := Lib.iterAt_heap wr it t pos (pos + (Utf8.decode t pos).2) hit
  have hsz := Lib.iterAt_size wr it t (pos + (Utf8.decode t pos).2)
  have hbw : Frame F w (wr.iterAt it t (pos + (Utf8.decode t pos).2)) := ⟨fr.os, fr.tape, fr.output, by rw [hsz]; exact fr.size, fun k hk hF => (Lib.iterAt_other wr it k t _ (by omega)).trans (fr.block k hk hF)⟩
  have hsc := decode_scalar t pos hp
  have henc := enc_le ((Utf8.decode t pos).1 : Int)
  obtain ⟨f, rfl⟩ : ∃ f, fuel = f + 1 := ⟨fuel - 1, by omega⟩
  have he2 : putFrom i t q f (pos + (Utf8.decode t pos).2) (st'.put i ((Utf8.decode t pos).1 : Int) q) = st0.putAll i t q := by
    rw [← he]; simp only [putFrom, hp, if_true]
  generalize (wr.iterAt it t (pos + (Utf8.decode t pos).2)) = w4 at *
  generalize hrn : ((Utf8.decode t pos).1 : Int) = rn at *
  generalize (Utf8.decode t pos).2 = wd at *
  have c19 : w4.cell? ⟨R, 19, none⟩ = some (.int .i64 q) := by rw [← hq]; exact r1.cell 19 rfl
  refine ⟨box_cell bx1.2.1, c19, ?_⟩
  refine (put_drew r1 i rn q hsc (by omega)).mono ?_
  rintro e w5 ⟨rfl, v, r5, f5, k5⟩
  have hit5 : w5.heap[it]? = some (.stringIter t (pos + wd)) := by
    have hlt : it < w4.heap.size := (Array.getElem?_eq_some_iff.1 hit1).1
    have hR : it ≠ R := fun e => by rw [e] at hit1; rw [r1.blk] at hit1; cases hit1
    rw [k5.block it hlt hR ?_]
    · exact hit1
    · intro e
      obtain ⟨cur, hc⟩ := owns_blk (r1.own.run i) e.symm
      rw [hit1] at hc; cases hc
  have bx5 := bx1.kept r1.own r1.lt k5
  refine ⟨rfl, ⟨⟨Grow Fr w4 w5, _, _, f, by omega, he2, ?_, r5, bx5, ?_, ?_, ?_, ?_⟩, by omega, hit5, hw⟩, box_cell bx5.2.1, ?_⟩
  · intro hx
    rcases hx with hx | hx
    · exact hnF hx
    · have hlt : it < w4.heap.size := (Array.getElem?_eq_some_iff.1 hit1).1
      omega
  · intro j hj
    rcases hj with hj | hj
    · rcases hG j hj with hx | hx
      · exact Or.inl hx
      · exact Or.inr ⟨hx.1, by have := f5.size; omega⟩
    · exact Or.inr ⟨by have := hbw.size; omega, hj.2⟩
  · exact ⟨f5.os.trans hbw.os, f5.tape.trans hbw.tape, f5.output.trans hbw.output, Nat.le_trans hbw.size f5.size, fun j hj hF => (f5.block j (Nat.lt_of_lt_of_le hj hbw.size) (fun x => (hG j x).elim hF (fun y => by omega))).trans (hbw.block j hj hF)⟩
  · rw [put_ref_at _ _ _ _ hi]; exact hq
  · have := put_len st' i i rn q
    omega
  · have hq5 : (st'.put i rn q).runAt .ref = q := by rw [put_ref_at _ _ _ _ hi]; exact hq
    have := r5.cell 19 rfl
    rw [← hq5]; exact this
theorem RL.last (h : RL F R w s i k b1 b2 b3 t it q st0 n0 wr pos) (hp : ¬ pos < t.size) (hlt : ∀ k, F k → k < w.heap.size) :
    wr.cell? ⟨b3, 0, none⟩ = some k.val ∧ PartEnd F R w s ⟨st0.putAll i t q, .go (.plain k)⟩ (.returned (.tuple #[k.val, .nilIface])) wr := by
  obtain ⟨⟨Fr, p', st', fuel, hf, he, hnF, r, bx, hG, fr, hq, hl⟩, hle, hit, hw⟩ := h
  refine ⟨box_cell bx.2.2, ?_⟩
  obtain ⟨f, rfl⟩ : ∃ f, fuel = f + 1 := ⟨fuel - 1, by omega⟩
  have he2 : st' = st0.putAll i t q := by
    rw [← he]; simp only [putFrom, hp, if_false]
  rw [← he2]
  exact PartEnd.goR (r.mono hG (grow_lt hlt fr.size)) fr
theorem unesc_len (t : ByteArray) : ∀ f pos acc, (Ch.unescFrom t f pos acc).1.length ≤ acc.length + 4 * f := by
  intro f
  induction f with
  | zero => intro pos acc; simp [Ch.unescFrom]
  | succ f ih =>
    intro pos acc
    unfold Ch.unescFrom
    have h1 := ih (pos + (Ch.refAt t pos).2.toNat) (acc ++ Lib.encodeRune (Ch.refAt t pos).1)
    have h2 := ih (pos + (Utf8.decode t pos).2) (acc ++ Lib.encodeRune (Utf8.decode t pos).1)
    have h3 := enc_le (Ch.refAt t pos).1
    have h4 := enc_le ((Utf8.decode t pos).1 : Int)
    simp only [List.length_append] at h1 h2
    repeat' split
    all_goals first | (simp only [List.length_nil]; omega) | omega
end Go.Proofs.YtfolnkmbdmfigaaGreatDoor

namespace Go.Proofs.YtfolnkmbdmfigaaGreatDoor
open Go.RowKit Go.Maps
variable {F : Nat → Prop} {R : Nat} {w w' : World} {s : Src} {p : Ptr} {st : St} {c : Int}
def stRefEnd (i : Rn) (k : Pl) (st1 : St) : Out :=
  if (Ch.unesc ⟨(st1.run .ref).toArray⟩).2.1 = 0 then ⟨st1.putAll i ⟨(Ch.unesc ⟨(st1.run .ref).toArray⟩).1.toArray⟩ (st1.runAt .ref), .go (.plain k)⟩ else ⟨st1, .fail 4 (st1.runAt .ref)⟩
def stRef (i : Rn) (k : Pl) (q : Int) (st : St) (c : Int) : Out :=
  if Tk.inRef c = true then (if c = 59 then stRefEnd i k (st.put .ref 59 q) else ⟨st.put .ref c q, .go (.ref i k)⟩) else ⟨st, .fail 4 (st.runAt .ref)⟩
theorem tab_frame (hT : Tab w) (hf : Frame F w w') (h2 : ¬ F 2) : Tab w' := by
  obtain ⟨t, fr, hg⟩ := hT
  exact ⟨t, fr, by rw [hf.block 2 (Array.getElem?_eq_some_iff.1 hg).1 h2]; exact hg⟩
theorem RL.start {w2 w3 : World} {p2 : Ptr} {st1 : St} {i : Rn} {k : Pl} {b1 b2 b3 : Nat} (t : ByteArray) (r2 : Rep (Grow F w w2) R w2 s p2 st1) (f2 : Frame F w w2) (hN : RefBoxes (Grow F w w2) R w2 i k b1 b2 b3) (hb : Below w2.heap.size w2 w3) :
    RL F R w s i k b1 b2 b3 t w3.heap.size (st1.runAt .ref) st1 (st1.run i).length (w3.iter t 0) 0 := by
  have hb4 : Below w2.heap.size w2 (w3.iter t 0) := hb.alloc hb.size _
  have hlt := r2.lt
  refine ⟨⟨Grow F w w2, p2, st1, t.size + 1, by omega, rfl, ?_, ?_, ?_, ?_, ?_, rfl, by omega⟩, by omega, World.iter_heap w3 t 0, Nat.le_trans f2.size hb.size⟩
  · intro hx
    have := hlt _ hx
    have := hb.size
    omega
  · exact ⟨(hb4.block R (hlt R r2.inR)).trans r2.blk, r2.inR, fun j hj => Nat.lt_of_lt_of_le (hlt j hj) hb4.size, r2.own.frame (fun j hj _ => hb4.block j (hlt j hj)) (fun _ x => x)⟩
  · exact ⟨⟨(hb4.block b1 (hlt b1 hN.1.2.1)).trans hN.1.1, hN.1.2⟩, ⟨(hb4.block b2 (hlt b2 hN.2.1.2.1)).trans hN.2.1.1, hN.2.1.2⟩, ⟨(hb4.block b3 (hlt b3 hN.2.2.2.1)).trans hN.2.2.1, hN.2.2.2⟩⟩
  · intro j hj
    rcases hj with hj | hj
    · exact Or.inl hj
    · exact Or.inr ⟨hj.1, by have := hb4.size; omega⟩
  · exact ⟨hb4.os.trans f2.os, hb4.tape.trans f2.tape, hb4.output.trans f2.output, Nat.le_trans f2.size hb4.size, fun j hj hF => (hb4.block j (Nat.lt_of_lt_of_le hj f2.size)).trans (f2.block j hj hF)⟩
set_option maxHeartbeats 4000000 in
set_option maxRecDepth 100000 in
theorem ref_last (h : Rep F R w s p st) (i : Rn) (k : Pl) (b1 b2 b3 : Nat) (hi : i ≠ .ref) (hN : RefBoxes F R w i k b1 b2 b3) (hs : (st.run i).length + 16 * (st.run .ref).length + 120 ≤ 70368744177664) (hT : Tab w) (h2 : ¬ F 2) :
    Calls Tryz.prog 84 #[.pointer (some ⟨R, 0, none⟩), .int .i32 59, .pointer (some ⟨b1, 0, none⟩), .pointer (some ⟨b2, 0, none⟩), .pointer (some ⟨b3, 0, none⟩)] w (PartEnd F R w s (stRefEnd i k (st.put .ref 59 s.at_))) := by
  have hat : w.cell? ⟨R, 2, none⟩ = some (.int .i64 s.at_) := h.cell 2 rfl
  have hp := ref_put h (c := 59) (by unfold Scalar; omega) i k b1 b2 b3 hN (by omega) w (Below.refl _ _)
  have hl1 := put_len st .ref .ref 59 s.at_
  have hl2 := put_len st .ref i 59 s.at_
  have HT := hide hT
  have H2 := hide h2
  have HLT := hide h.lt
  clear h hN hT h2
  generalize st.put .ref 59 s.at_ = st1 at *
  have hso : stRefEnd i k st1 = if (Ch.unesc ⟨(st1.run .ref).toArray⟩).2.1 = 0 then ⟨st1.putAll i ⟨(Ch.unesc ⟨(st1.run .ref).toArray⟩).1.toArray⟩ (st1.runAt .ref), .go (.plain k)⟩ else ⟨st1, .fail 4 (st1.runAt .ref)⟩ := rfl
  generalize stRefEnd i k st1 = so at *
  have HSO := hide hso
  clear hso
  go_enter Tryz.func84, Tryz.ntmps84
  go_wp2_with fail
  go_region_held3 (fun W => W.cell? ⟨R, 2, none⟩ = some (.int .i64 s.at_))
    (first | exact hat | exact hat2)
    (first | (go_at_call 57; refine hp.mono ?_; rintro e w2 ⟨rfl, v, r2, f2, n2⟩; have hat2 : w2.cell? ⟨R, 2, none⟩ = some (.int .i64 s.at_) := r2.cell 2 rfl; have N2 := hide n2; clear n2))
  clear hp
  have f2' : Frame F w w2 := (Frame.refl F w).trans f2
  have r2' : Rep (Grow F w w2) R w2 s _ st1 := r2.join (Nat.le_refl _) f2.size
  have n2' : RefBoxes (Grow F w w2) R w2 i k b1 b2 b3 := ⟨N2.out.1.mono fun j hj => (Grow.trans (Nat.le_refl _) f2.size j).1 hj, N2.out.2.1.mono fun j hj => (Grow.trans (Nat.le_refl _) f2.size j).1 hj, N2.out.2.2.mono fun j hj => (Grow.trans (Nat.le_refl _) f2.size j).1 hj⟩
  have hlt2 := r2'.lt R r2'.inR
  obtain ⟨ao, cap, hv⟩ := slice_len (r2'.own.run .ref)
  have c18 : w2.cell? ⟨R, 18, none⟩ = some (.slice ao (st1.run .ref).length cap) := by rw [← hv]; exact r2'.cell 18 rfl
  have c19 : w2.cell? ⟨R, 19, none⟩ = some (.int .i64 (st1.runAt .ref)) := r2'.cell 19 rfl
  have hcv : (convert 87 9 (.slice ao (st1.run .ref).length cap)).run Tryz.prog w2 = .ok (.string ⟨(st1.run .ref).toArray⟩) w2 := by rw [← hv]; exact conv_own (r2'.own.run .ref)
  have hsz : (⟨(st1.run .ref).toArray⟩ : ByteArray).size = (st1.run .ref).length := by show (st1.run .ref).toArray.size = _; simp
  have hun := unescape_any ⟨(st1.run .ref).toArray⟩ w2 (by rw [hsz]; omega) (tab_frame HT.out f2' H2.out)
  have hul := unesc_len ⟨(st1.run .ref).toArray⟩ (((⟨(st1.run .ref).toArray⟩ : ByteArray).size) + 1) 0 []
  have hul2 : (Ch.unesc ⟨(st1.run .ref).toArray⟩).1.length ≤ 4 * ((st1.run .ref).length + 1) := by
    unfold Ch.unesc; rw [hsz] at hul ⊢; simpa using hul
  clear hul
  have hst := fun t w3 hb => RL.start (k := k) (w3 := w3) (i := i) t r2' f2' n2' hb
  have R2 := hide r2'
  have F2 := hide f2'
  have HST := hide hst
  have HU := hide hul2
  clear r2 f2 N2 r2' f2' n2' hst hv hul2 hat2
  generalize hX : Ch.unesc ⟨(st1.run .ref).toArray⟩ = X at *
  clear hX
  obtain ⟨X1, X2, X3⟩ := X
  by_cases hz : X2 = 0
  · have hso : so = ⟨st1.putAll i ⟨X1.toArray⟩ (st1.runAt .ref), .go (.plain k)⟩ := by rw [HSO.out, if_pos hz]
    subst hz
    obtain ⟨t, ht⟩ : ∃ t : ByteArray, t = ⟨X1.toArray⟩ := ⟨_, rfl⟩
    have htz : t.size ≤ 4 * ((st1.run .ref).length + 1) := by rw [ht]; show X1.toArray.size ≤ _; simpa using HU.out
    rw [← ht] at hun hso
    subst hso
    have hn0 : (st1.run i).length + 4 * t.size ≤ 70368744177680 := by omega
    have HN0 := hide hn0
    clear HSO HU ht htz hn0 hl1 hl2 hs hsz
    have hkv : k.val = .func (.func k.fn) #[] #[] := rfl
    have HKV := hide hkv
    clear hkv
    go_wp2_with (go_at_call 86; refine hun.mono ?_; rintro e w3 ⟨rfl, bl3⟩)
    have hst0 := HST.out t w3 bl3
    have HS0 := hide hst0
    clear hst0 hun hcv c18 c19 HST
    generalize (st1.run i).length = n0 at *
    go_loopw [] (fun wr => ∃ pos, RL F R w s i k b1 b2 b3 t w3.heap.size (st1.runAt .ref) st1 n0 wr pos) (fun wr => t.size - wr.iterPos w3.heap.size)
    case atStart => exact ⟨0, HS0.out⟩
    case round =>
      obtain ⟨pos, hrl⟩ := hrel
      by_cases hp : pos < t.size
      · have hnx : ∀ ty, (Instr.next (.pointer (some ⟨w3.heap.size, 0, none⟩)) true ty).run Tryz.prog wr = _ := fun ty => Lib.run_next_any_at wr w3.heap.size t pos ty hrl.hit hp
        obtain ⟨d1, d2, d3⟩ := hrl.step hi hp HN0.out
        have hwd := Ch.decode_width t pos hp
        have HRL := hide hrl
        clear hrl
        generalize ((Utf8.decode t pos).1 : Int) = rn at *
        go_wp2_with fail
        go_region_held3 (fun W => W.cell? ⟨b2, 0, none⟩ = some (.pointer (some ⟨R, i.off, none⟩)) ∧ W.cell? ⟨R, 19, none⟩ = some (.int .i64 (st1.runAt .ref)))
          (first | exact ⟨d1, d2⟩ | exact ⟨g1, g2⟩)
          (first | (go_at_call 57; refine d3.mono ?_; rintro e w5 ⟨rfl, hr5, g1, g2⟩))
        all_goals
          go_wp2
          go_roundw
          case rel => exact ⟨_, hr5⟩
          case measure =>
            simp only [World.iterPos, hr5.hit, HRL.out.hit]
            omega
      · have hnx : ∀ ty, (Instr.next (.pointer (some ⟨w3.heap.size, 0, none⟩)) true ty).run Tryz.prog wr = _ := fun ty => Lib.run_next_end_at wr w3.heap.size t pos ty hrl.hit hp
        obtain ⟨d1, d2⟩ := hrl.last hp HLT.out
        rw [HKV.out] at d1 d2
        have D2 := hide d2
        clear hrl d2
        go_wp2
        go_ret2
        exact D2.out
  · have ez : (X2 != 0) = true := by simpa using hz
    have hso : so = ⟨st1, .fail 4 (st1.runAt .ref)⟩ := by rw [HSO.out, if_neg hz]
    subst hso
    clear hz HSO
    go_wp2_with (go_at_call 86; refine hun.mono ?_; rintro e w3 ⟨rfl, bl3⟩)
    have c19' := (bl3.cell hlt2).trans c19
    go_region_held3 (fun W => W.cell? ⟨R, 19, none⟩ = some (.int .i64 (st1.runAt .ref)))
      (first | exact c19')
      (fail)
    all_goals
      go_wp2
      go_ret2
      exact (PartEnd.fail0 R2.out bl3.drew).after F2.out
end Go.Proofs.YtfolnkmbdmfigaaGreatDoor

namespace Go.Proofs.YtfolnkmbdmfigaaGreatDoor
open Go.RowKit Go.Maps
variable {F : Nat → Prop} {R : Nat} {w w' : World} {s : Src} {p : Ptr} {st : St} {c : Int}
structure St.Tiny (st : St) : Prop where
  run : ∀ i, (st.run i).length ≤ 70368744177664
  told : st.told.length ≤ 1099511627776
  attrs : st.attrs.length ≤ 1099511627776
  names : st.names.length ≤ 1099511627776
theorem St.Tiny.small (h : st.Tiny) : st.Small := ⟨fun i => by have := h.run i; omega, h.told, h.attrs, h.names⟩
theorem plain_ok (k : Pl) (h : Rep F R w s p st) (hc : Leg c) (hs : st.Tiny) (hf : s.Fits) :
    Calls Tryz.prog k.fn #[.pointer (some ⟨R, 0, none⟩), .int .i32 c] w (PartEnd F R w s (step k s.at_ st c)) := by
  have ht := hs.run .text
  have ha := hs.run .attr
  have hn := hs.names
  cases k with
  | between => exact between_ok h hc hs.small
  | less => exact less_ok h hc
  | bang => exact bang_ok h hc
  | remark => exact remark_ok h hc
  | dash => exact dash_ok h hc
  | orderName => exact orderName_ok h hc
  | order => exact order_ok h hc
  | mark => exact mark_ok h hc
  | section_ => exact section_ok h hc (by omega)
  | bracket => exact bracket_ok h hc (by omega) hf
  | brackets => exact brackets_ok h hc (by omega) hf
  | part => exact part_ok h hc hs.small
  | blanks => exact blanks_ok h hc hs.small
  | newAttr => exact newAttr_ok h hc (by omega) (by omega)
  | attrP => exact attrP_ok h hc
  | equals => exact equals_ok h hc
  | valueP => exact valueP_ok h hc hs.small
  | slash => exact slash_ok h hc hs.small
  | closing => exact closing_ok h hc hs.small
def stepPart (pt : Part) (q : Int) (st : St) (c : Int) : Out :=
  match pt with
  | .plain k => step k q st c
  | .word [] k => ⟨st, .go (.plain k)⟩
  | .word (x :: l) k => stWord x l k q st c
  | .name i k => stName i k q st c
  | .ref i k => stRef i k q st c
def Part.Sound : Part → Prop
  | .plain _ => True
  | .word l _ => l ≠ [] ∧ l.length ≤ 10
  | .name _ _ => True
  | .ref i _ => i ≠ .ref
theorem part_call (pt : Part) (v : Value) (h : Rep F R w s p st) (hpt : PartAt F R w v pt) (hso : pt.Sound) (hc : Leg c) (hs : st.Tiny) (hx : ∀ i k, pt = .ref i k → (st.run i).length + 16 * (st.run .ref).length + 120 ≤ 70368744177664) (hf : s.Fits) (hT : Tab w) (h2 : ¬ F 2) :
    ∃ f cs, v = .func (.func f) #[] cs ∧ (∀ args w, (callFunc f args).run Tryz.prog w = .ok (.enter f args) w) ∧ Calls Tryz.prog f (#[.pointer (some ⟨R, 0, none⟩), .int .i32 c] ++ cs) w (PartEnd F R w s (stepPart pt s.at_ st c)) := by
  cases pt with
  | plain k => exact ⟨k.fn, #[], hpt, enter_pl k, plain_ok k h hc hs hf⟩
  | word l k =>
    obtain ⟨b1, b2, rfl, x1, x2⟩ := hpt
    cases l with
    | nil => exact absurd rfl hso.1
    | cons x l => exact ⟨137, _, rfl, enters_of Tryz.func137 (by kernel_rfl) rfl, word_ok h b1 b2 x l k x1 x2 (by have := hso.2; simp at this; omega)⟩
  | name i k =>
    obtain ⟨b1, b2, b3, rfl, x1, x2, x3⟩ := hpt
    exact ⟨105, _, rfl, enters_of Tryz.func105 (by kernel_rfl) rfl, name_ok h hc i k b1 b2 b3 ⟨x1, x2, x3⟩ (by have := hs.run i; omega) (fun _ F1 w1 p1 r => plain_ok k r hc hs hf)⟩
  | ref i k =>
    obtain ⟨b1, b2, b3, rfl, x1, x2, x3⟩ := hpt
    refine ⟨84, _, rfl, enters_of Tryz.func84 (by kernel_rfl) rfl, ?_⟩
    have hr := hs.run .ref
    show Calls Tryz.prog 84 _ w (PartEnd F R w s (stRef i k s.at_ st c))
    unfold stRef
    cases hb : Tk.inRef c
    · simp only [Bool.false_eq_true, if_false]
      exact ref_bad h hc _ _ _ hb
    · simp only [if_true]
      by_cases h59 : c = 59
      · subst h59
        rw [if_pos rfl]
        exact ref_last h i k b1 b2 b3 hso ⟨x1, x2, x3⟩ (hx i k rfl) hT h2
      · rw [if_neg h59]
        exact ref_more h hc i k b1 b2 b3 ⟨x1, x2, x3⟩ (by omega) hb h59
theorem step_sound (k : Pl) (q : Int) (st : St) (c : Int) : ∀ pt, (step k q st c).res = .go pt → pt.Sound := by
  intro pt
  cases k <;> simp only [step, stPart, stName1, stAttr, stRemark, stOrder, stSection, stBracket] <;> (repeat' split) <;> intro e <;> first | (cases e; done) | (cases e; simp [Part.Sound])
end Go.Proofs.YtfolnkmbdmfigaaGreatDoor

namespace Go.Proofs.YtfolnkmbdmfigaaGreatDoor
open Go.RowKit Go.Maps Go.Lib
def fullN (n f b1 b2 : Nat) : Bool := decide (f % 8 ≤ n) || ((decide (1 < n) && (decide (b1 < accLo (f / 16)) || decide (accHi (f / 16) < b1))) || (decide (2 < n) && (decide (b2 < 128) || decide (191 < b2))))
theorem below_drewN {B : Nat} {a w : World} (h : Below B a w) (n : Nat) : Below B a (w.drewN n) := h.trans ⟨rfl, rfl, rfl, Nat.le_refl _, fun _ _ => rfl⟩
def Past (w : World) (b : Bool) (e : Ending) (w' : World) : Prop := e = .returned (.bool b) ∧ Below w.heap.size w w'
set_option maxHeartbeats 4000000 in
set_option maxRecDepth 10000 in
theorem full_one (s : ByteArray) (f lo hi a : Nat) (hf : (f = 2 ∧ a = 0) ∨ (f = 19 ∧ a = 1) ∨ (f = 3 ∧ a = 0) ∨ (f = 35 ∧ a = 2) ∨ (f = 52 ∧ a = 3) ∨ (f = 4 ∧ a = 0) ∨ (f = 68 ∧ a = 4)) (w : World) (hn : s.size = 1) (x0 : UInt8) (hs0 : s[0]'(by omega) = x0)
    (hc0 : w.cell? ⟨3, x0.toNat, none⟩ = some (.int .u8 f)) (ha0 : w.cell? ⟨4, 2 * a, none⟩ = some (.int .u8 lo)) (ha1 : w.cell? ⟨4, 2 * a + 1, none⟩ = some (.int .u8 hi)) (h34 : 4 < w.heap.size) :
    Calls Tryz.prog 121 #[.string s] w (Past w false) := by
  have l0 := x0.toNat_lt
  have hz0 : (0 : Int) < (s.size : Int) := by omega
  rcases hf with ⟨rfl, rfl⟩ | ⟨rfl, rfl⟩ | ⟨rfl, rfl⟩ | ⟨rfl, rfl⟩ | ⟨rfl, rfl⟩ | ⟨rfl, rfl⟩ | ⟨rfl, rfl⟩
  all_goals
    simp only [Nat.reduceMul, Nat.reduceAdd] at ha0 ha1
    go_enter Tryz.func121, Tryz.ntmps121
    go_wp2_with fail
    go_quiet (fail)
    go_wp2
    go_ret
    exact ⟨rfl, (below_drewN ((Below.refl _ w).alloc (Nat.le_refl _) _) _)⟩
set_option maxHeartbeats 4000000 in
set_option maxRecDepth 10000 in
theorem full_two (s : ByteArray) (f lo hi a : Nat) (hf : (f = 19 ∧ a = 1) ∨ (f = 3 ∧ a = 0) ∨ (f = 35 ∧ a = 2) ∨ (f = 52 ∧ a = 3) ∨ (f = 4 ∧ a = 0) ∨ (f = 68 ∧ a = 4)) (w : World) (hn : s.size = 2) (x0 x1 : UInt8) (hs0 : s[0]'(by omega) = x0) (hs1 : s[1]'(by omega) = x1)
    (hc0 : w.cell? ⟨3, x0.toNat, none⟩ = some (.int .u8 f)) (ha0 : w.cell? ⟨4, 2 * a, none⟩ = some (.int .u8 lo)) (ha1 : w.cell? ⟨4, 2 * a + 1, none⟩ = some (.int .u8 hi)) (h34 : 4 < w.heap.size) :
    Calls Tryz.prog 121 #[.string s] w (Past w (decide (x1.toNat < lo) || decide (hi < x1.toNat))) := by
  have l0 := x0.toNat_lt
  have l1 := x1.toNat_lt
  have hz0 : (0 : Int) < (s.size : Int) := by omega
  have hz1 : (1 : Int) < (s.size : Int) := by omega
  by_cases hl : x1.toNat < lo
  · have e1 : (x1.toNat : Int) < (lo : Int) := by omega
    rw [show (decide (x1.toNat < lo) || decide (hi < x1.toNat)) = true by simp [hl]]
    rcases hf with ⟨rfl, rfl⟩ | ⟨rfl, rfl⟩ | ⟨rfl, rfl⟩ | ⟨rfl, rfl⟩ | ⟨rfl, rfl⟩ | ⟨rfl, rfl⟩
    all_goals
      simp only [Nat.reduceMul, Nat.reduceAdd] at ha0 ha1
      go_enter Tryz.func121, Tryz.ntmps121
      go_wp2_with fail
      go_quiet (fail)
      go_wp2
      go_ret
      exact ⟨rfl, (below_drewN ((Below.refl _ w).alloc (Nat.le_refl _) _) _)⟩
  · have e1 : ¬ ((x1.toNat : Int) < (lo : Int)) := by omega
    have e1' : decide ((x1.toNat : Int) < (lo : Int)) = false := by simpa using e1
    by_cases hh : hi < x1.toNat
    · have e2 : (hi : Int) < (x1.toNat : Int) := by omega
      rw [show (decide (x1.toNat < lo) || decide (hi < x1.toNat)) = true by simp [hh]]
      rcases hf with ⟨rfl, rfl⟩ | ⟨rfl, rfl⟩ | ⟨rfl, rfl⟩ | ⟨rfl, rfl⟩ | ⟨rfl, rfl⟩ | ⟨rfl, rfl⟩
      all_goals
        simp only [Nat.reduceMul, Nat.reduceAdd] at ha0 ha1
        go_enter Tryz.func121, Tryz.ntmps121
        go_wp2_with fail
        go_quiet (fail)
        go_wp2
        go_ret
        exact ⟨rfl, (below_drewN ((Below.refl _ w).alloc (Nat.le_refl _) _) _)⟩
    · have e2 : ¬ ((hi : Int) < (x1.toNat : Int)) := by omega
      have e2' : decide ((hi : Int) < (x1.toNat : Int)) = false := by simpa using e2
      rw [show (decide (x1.toNat < lo) || decide (hi < x1.toNat)) = false by simp [hl, hh]]
      rcases hf with ⟨rfl, rfl⟩ | ⟨rfl, rfl⟩ | ⟨rfl, rfl⟩ | ⟨rfl, rfl⟩ | ⟨rfl, rfl⟩ | ⟨rfl, rfl⟩
      all_goals
        simp only [Nat.reduceMul, Nat.reduceAdd] at ha0 ha1
        go_enter Tryz.func121, Tryz.ntmps121
        go_wp2_with fail
        go_quiet (fail)
        go_wp2
        go_ret
        exact ⟨rfl, (below_drewN ((Below.refl _ w).alloc (Nat.le_refl _) _) _)⟩
end Go.Proofs.YtfolnkmbdmfigaaGreatDoor

namespace Go.Proofs.YtfolnkmbdmfigaaGreatDoor
open Go.RowKit Go.Maps Go.Lib
set_option maxHeartbeats 4000000 in
set_option maxRecDepth 10000 in
theorem full_three (s : ByteArray) (f lo hi a : Nat) (hf : (f = 52 ∧ a = 3) ∨ (f = 4 ∧ a = 0) ∨ (f = 68 ∧ a = 4)) (w : World) (hn : s.size = 3) (x0 x1 x2 : UInt8) (hs0 : s[0]'(by omega) = x0) (hs1 : s[1]'(by omega) = x1) (hs2 : s[2]'(by omega) = x2)
    (hc0 : w.cell? ⟨3, x0.toNat, none⟩ = some (.int .u8 f)) (ha0 : w.cell? ⟨4, 2 * a, none⟩ = some (.int .u8 lo)) (ha1 : w.cell? ⟨4, 2 * a + 1, none⟩ = some (.int .u8 hi)) (_h34 : 4 < w.heap.size) :
    Calls Tryz.prog 121 #[.string s] w (Past w (decide (x1.toNat < lo) || decide (hi < x1.toNat) || (decide (x2.toNat < 128) || decide (191 < x2.toNat)))) := by
  have l0 := x0.toNat_lt
  have l1 := x1.toNat_lt
  have l2 := x2.toNat_lt
  have hz0 : (0 : Int) < (s.size : Int) := by omega
  have hz1 : (1 : Int) < (s.size : Int) := by omega
  have hz2 : (2 : Int) < (s.size : Int) := by omega
  by_cases hl : x1.toNat < lo
  · have e1 : (x1.toNat : Int) < (lo : Int) := by omega
    rw [show (decide (x1.toNat < lo) || decide (hi < x1.toNat) || (decide (x2.toNat < 128) || decide (191 < x2.toNat))) = true by simp [hl]]
    rcases hf with ⟨rfl, rfl⟩ | ⟨rfl, rfl⟩ | ⟨rfl, rfl⟩
    all_goals
      simp only [Nat.reduceMul, Nat.reduceAdd] at ha0 ha1
      go_enter Tryz.func121, Tryz.ntmps121
      go_wp2_with fail
      go_quiet (fail)
      go_wp2
      go_ret
      exact ⟨rfl, (below_drewN ((Below.refl _ w).alloc (Nat.le_refl _) _) _)⟩
  · have e1 : ¬ ((x1.toNat : Int) < (lo : Int)) := by omega
    have e1' : decide ((x1.toNat : Int) < (lo : Int)) = false := by simpa using e1
    by_cases hh : hi < x1.toNat
    · have e2 : (hi : Int) < (x1.toNat : Int) := by omega
      rw [show (decide (x1.toNat < lo) || decide (hi < x1.toNat) || (decide (x2.toNat < 128) || decide (191 < x2.toNat))) = true by simp [hh]]
      rcases hf with ⟨rfl, rfl⟩ | ⟨rfl, rfl⟩ | ⟨rfl, rfl⟩
      all_goals
        simp only [Nat.reduceMul, Nat.reduceAdd] at ha0 ha1
        go_enter Tryz.func121, Tryz.ntmps121
        go_wp2_with fail
        go_quiet (fail)
        go_wp2
        go_ret
        exact ⟨rfl, (below_drewN ((Below.refl _ w).alloc (Nat.le_refl _) _) _)⟩
    · have e2 : ¬ ((hi : Int) < (x1.toNat : Int)) := by omega
      have e2' : decide ((hi : Int) < (x1.toNat : Int)) = false := by simpa using e2
      by_cases hm : x2.toNat < 128
      · have e3 : (x2.toNat : Int) < 128 := by omega
        rw [show (decide (x1.toNat < lo) || decide (hi < x1.toNat) || (decide (x2.toNat < 128) || decide (191 < x2.toNat))) = true by simp [hm]]
        rcases hf with ⟨rfl, rfl⟩ | ⟨rfl, rfl⟩ | ⟨rfl, rfl⟩
        all_goals
          simp only [Nat.reduceMul, Nat.reduceAdd] at ha0 ha1
          go_enter Tryz.func121, Tryz.ntmps121
          go_wp2_with fail
          go_quiet (fail)
          go_wp2
          go_ret
          exact ⟨rfl, (below_drewN ((Below.refl _ w).alloc (Nat.le_refl _) _) _)⟩
      · have e3 : ¬ ((x2.toNat : Int) < 128) := by omega
        by_cases hq : 191 < x2.toNat
        · have e4 : (191 : Int) < (x2.toNat : Int) := by omega
          rw [show (decide (x1.toNat < lo) || decide (hi < x1.toNat) || (decide (x2.toNat < 128) || decide (191 < x2.toNat))) = true by simp [hq]]
          rcases hf with ⟨rfl, rfl⟩ | ⟨rfl, rfl⟩ | ⟨rfl, rfl⟩
          all_goals
            simp only [Nat.reduceMul, Nat.reduceAdd] at ha0 ha1
            go_enter Tryz.func121, Tryz.ntmps121
            go_wp2_with fail
            go_quiet (fail)
            go_wp2
            go_ret
            exact ⟨rfl, (below_drewN ((Below.refl _ w).alloc (Nat.le_refl _) _) _)⟩
        · have e4 : ¬ ((191 : Int) < (x2.toNat : Int)) := by omega
          rw [show (decide (x1.toNat < lo) || decide (hi < x1.toNat) || (decide (x2.toNat < 128) || decide (191 < x2.toNat))) = false by simp [hl, hh, hm, hq]]
          rcases hf with ⟨rfl, rfl⟩ | ⟨rfl, rfl⟩ | ⟨rfl, rfl⟩
          all_goals
            simp only [Nat.reduceMul, Nat.reduceAdd] at ha0 ha1
            go_enter Tryz.func121, Tryz.ntmps121
            go_wp2_with fail
            go_quiet (fail)
            go_wp2
            go_ret
            exact ⟨rfl, (below_drewN ((Below.refl _ w).alloc (Nat.le_refl _) _) _)⟩
set_option maxHeartbeats 4000000 in
set_option maxRecDepth 10000 in
theorem full_big (s : ByteArray) (f : Nat) (hf : f = 240 ∨ f = 241 ∨ f = 2 ∨ f = 19 ∨ f = 3 ∨ f = 35 ∨ f = 52 ∨ f = 4 ∨ f = 68) (w : World) (hn : 0 < s.size) (hfn : f % 8 ≤ s.size) (x0 : UInt8) (hs0 : s[0]'hn = x0)
    (hc0 : w.cell? ⟨3, x0.toNat, none⟩ = some (.int .u8 f)) :
    Calls Tryz.prog 121 #[.string s] w (Past w true) := by
  have l0 := x0.toNat_lt
  have hz0 : (0 : Int) < (s.size : Int) := by omega
  have hz : ((s.size : Int) == 0) = false := by
    have : (s.size : Int) ≠ 0 := by omega
    simpa using this
  rcases hf with rfl | rfl | rfl | rfl | rfl | rfl | rfl | rfl | rfl
  all_goals
    simp only [Nat.reduceMod] at hfn
    go_enter Tryz.func121, Tryz.ntmps121
    go_wp2
    go_ret
    exact ⟨rfl, Below.refl _ _⟩
theorem full_none (s : ByteArray) (w : World) (hn : s.size = 0) : Calls Tryz.prog 121 #[.string s] w (Past w false) := by
  go_enter Tryz.func121, Tryz.ntmps121
  go_wp2
  go_ret
  exact ⟨rfl, Below.refl _ _⟩
end Go.Proofs.YtfolnkmbdmfigaaGreatDoor

namespace Go.Proofs.YtfolnkmbdmfigaaGreatDoor
open Go.RowKit Go.Maps Go.Lib
def Tk.full (t : ByteArray) : Bool := if t.size = 0 then false else fullN t.size (firstT (t.get! 0).toNat) (t.get! 1).toNat (t.get! 2).toNat
theorem tabs_size {w : World} (hT : Utf8Tabs 3 4 w) : 4 < w.heap.size := by
  have h := (hT.2 0 (by omega)).1
  exact World.block_lt_of_cell? w _ h
theorem full_any (t : ByteArray) (w : World) (hT : Utf8Tabs 3 4 w) : Calls Tryz.prog 121 #[.string t] w (Past w (Tk.full t)) := by
  have h34 := tabs_size hT
  unfold Tk.full
  by_cases h0 : t.size = 0
  · rw [if_pos h0]; exact full_none t w h0
  rw [if_neg h0]
  have hs0 : t[0]'(by omega) = t.get! 0 := (Utf8W.get!_of_lt t 0 (by omega)).symm
  have l0 := (t.get! 0).toNat_lt
  have hc0 := hT.1 (t.get! 0).toNat (by omega)
  have hfc := firstT_cases (t.get! 0).toNat
  generalize firstT (t.get! 0).toNat = f at *
  by_cases hb : f % 8 ≤ t.size
  · rw [show fullN t.size f (t.get! 1).toNat (t.get! 2).toNat = true by simp [fullN, hb]]
    exact full_big t f hfc w (by omega) hb _ hs0 hc0
  have ha := hT.2 (f / 16) (by rcases hfc with h | h | h | h | h | h | h | h | h <;> subst h <;> decide)
  by_cases h1 : t.size = 1
  · rw [show fullN t.size f (t.get! 1).toNat (t.get! 2).toNat = false by
      rw [h1] at hb ⊢
      simp only [fullN, Bool.or_eq_false_iff, Bool.and_eq_false_iff, decide_eq_false_iff_not]
      exact ⟨hb, Or.inl (by omega), Or.inl (by omega)⟩]
    exact full_one t f _ _ (f / 16) (by rcases hfc with h | h | h | h | h | h | h | h | h <;> subst h <;> first | omega | (simp at hb; omega) | simp) w h1 _ hs0 hc0 ha.1 ha.2 h34
  have hs1 : t[1]'(by omega) = t.get! 1 := (Utf8W.get!_of_lt t 1 (by omega)).symm
  by_cases h2 : t.size = 2
  · rw [show fullN t.size f (t.get! 1).toNat (t.get! 2).toNat = (decide ((t.get! 1).toNat < accLo (f / 16)) || decide (accHi (f / 16) < (t.get! 1).toNat)) by
      rw [h2] at hb ⊢
      simp [fullN, hb]]
    exact full_two t f _ _ (f / 16) (by rcases hfc with h | h | h | h | h | h | h | h | h <;> subst h <;> first | omega | (simp at hb; omega) | simp) w h2 _ _ hs0 hs1 hc0 ha.1 ha.2 h34
  have h3 : t.size = 3 := by rcases hfc with h | h | h | h | h | h | h | h | h <;> subst h <;> simp at hb <;> omega
  have hs2 : t[2]'(by omega) = t.get! 2 := (Utf8W.get!_of_lt t 2 (by omega)).symm
  rw [show fullN t.size f (t.get! 1).toNat (t.get! 2).toNat = (decide ((t.get! 1).toNat < accLo (f / 16)) || decide (accHi (f / 16) < (t.get! 1).toNat) || (decide ((t.get! 2).toNat < 128) || decide (191 < (t.get! 2).toNat))) by
      rw [h3] at hb ⊢
      simp [fullN, hb]]
  exact full_three t f _ _ (f / 16) (by rcases hfc with h | h | h | h | h | h | h | h | h <;> subst h <;> first | omega | (simp at hb; omega) | simp) w h3 _ _ _ hs0 hs1 hs2 hc0 ha.1 ha.2 h34
end Go.Proofs.YtfolnkmbdmfigaaGreatDoor

namespace Go.Proofs.YtfolnkmbdmfigaaGreatDoor.Ch
open Go
theorem decode_prefix_nb {s t : ByteArray} {i j : Nat} (h : i < s.size) (nb : Utf8.decode s i ≠ (65533, 1)) (hb : ∀ k, k < (Utf8.decode s i).2 → bz s (i + k) = bz t (j + k)) : Utf8.decode t j = Utf8.decode s i := by
  have h0 : 0 ≤ bz s i := by unfold bz; rw [if_pos h]; omega
  have hbd := bz_bd s i
  have hw := decode_width s i h
  have b0 := hb 0 (by omega)
  simp only [Nat.add_zero] at b0
  by_cases a1 : bz s i < 128
  · rw [decode_one h0 a1, decode_one (by omega) (by omega), b0]
  by_cases a2 : bz s i < 192
  · exact absurd (decode_none (Or.inl ⟨by omega, a2⟩)) nb
  by_cases a3 : bz s i < 224
  · by_cases c1 : cont s (i + 1)
    · have hd := decode_two (by omega) a3 c1
      by_cases hz : 128 ≤ acc s i (bz s i - 192) 1
      · rw [if_pos hz] at hd
        rw [hd] at hb
        have b1 := hb 1 (by simp)
        have d1 : cont t (j + 1) := by unfold cont at *; rw [← b1]; exact c1
        rw [decode_two (by omega) a3 c1, decode_two (by omega) (by omega) d1]
        simp only [acc, Nat.zero_add, b0, b1]
      · rw [if_neg hz] at hd; exact absurd hd nb
    · exact absurd (decode_two_no (by omega) a3 c1) nb
  by_cases a4 : bz s i < 240
  · by_cases c1 : cont s (i + 1)
    · by_cases c2 : cont s (i + 2)
      · have hd := decode_three (by omega) a4 c1 c2
        by_cases hz : 2048 ≤ acc s i (bz s i - 224) 2 ∧ Utf8.valid (acc s i (bz s i - 224) 2) = true
        · rw [if_pos hz] at hd
          rw [hd] at hb
          have b1 := hb 1 (by simp)
          have b2 := hb 2 (by simp)
          have d1 : cont t (j + 1) := by unfold cont at *; rw [← b1]; exact c1
          have d2 : cont t (j + 2) := by unfold cont at *; rw [← b2]; exact c2
          rw [decode_three (by omega) a4 c1 c2, decode_three (by omega) (by omega) d1 d2]
          simp only [acc, Nat.zero_add, Nat.reduceAdd, b0, b1, b2]
        · rw [if_neg hz] at hd; exact absurd hd nb
      · exact absurd (decode_three_no (by omega) a4 (Or.inr c2)) nb
    · exact absurd (decode_three_no (by omega) a4 (Or.inl c1)) nb
  by_cases a5 : bz s i < 248
  · by_cases c1 : cont s (i + 1)
    · by_cases c2 : cont s (i + 2)
      · by_cases c3 : cont s (i + 3)
        · have hd := decode_four (by omega) a5 c1 c2 c3
          by_cases hz : 65536 ≤ acc s i (bz s i - 240) 3 ∧ Utf8.valid (acc s i (bz s i - 240) 3) = true
          · rw [if_pos hz] at hd
            rw [hd] at hb
            have b1 := hb 1 (by simp)
            have b2 := hb 2 (by simp)
            have b3 := hb 3 (by simp)
            have d1 : cont t (j + 1) := by unfold cont at *; rw [← b1]; exact c1
            have d2 : cont t (j + 2) := by unfold cont at *; rw [← b2]; exact c2
            have d3 : cont t (j + 3) := by unfold cont at *; rw [← b3]; exact c3
            rw [decode_four (by omega) a5 c1 c2 c3, decode_four (by omega) (by omega) d1 d2 d3]
            simp only [acc, Nat.zero_add, Nat.reduceAdd, b0, b1, b2, b3]
          · rw [if_neg hz] at hd; exact absurd hd nb
        · exact absurd (decode_four_no (by omega) a5 (Or.inr (Or.inr c3))) nb
      · exact absurd (decode_four_no (by omega) a5 (Or.inr (Or.inl c2))) nb
    · exact absurd (decode_four_no (by omega) a5 (Or.inl c1)) nb
  · exact absurd (decode_none (Or.inr (by omega))) nb
theorem extract_txt (t : ByteArray) (n : Nat) : t.extract 0 n = txt (t.data.toList.take n) := by
  apply ByteArray.ext
  apply Array.ext'
  simp [txt, List.take_drop]
theorem bz_extract (t : ByteArray) (n k : Nat) (_hn : n ≤ t.size) : bz (t.extract 0 n) k = if k < n then bz t k else -1 := by
  have e : bz t k = bz (txt t.data.toList) k := by rw [txt_self]
  rw [extract_txt, bz_txt, e, bz_txt, List.getElem?_take]
  by_cases h : k < n
  · simp [h]
  · simp [h]
theorem decode_first (t : ByteArray) (h : 0 < t.size) : Utf8.decode (t.extract 0 (Utf8.decode t 0).2) 0 = Utf8.decode t 0 := by
  have hw := decode_width t 0 h
  by_cases nb : Utf8.decode t 0 = (65533, 1)
  · rw [nb]
    show Utf8.decode (t.extract 0 1) 0 = (65533, 1)
    have h0 : 0 ≤ bz t 0 := by unfold bz; rw [if_pos h]; omega
    have hbd := bz_bd t 0
    have hge : 128 ≤ bz t 0 := by
      by_cases a : bz t 0 < 128
      · rw [decode_one h0 a] at nb
        simp only [Prod.mk.injEq] at nb
        omega
      · omega
    have b0 : bz (t.extract 0 1) 0 = bz t 0 := by rw [bz_extract t 1 0 (by omega)]; simp
    have b1 : bz (t.extract 0 1) 1 = -1 := by rw [bz_extract t 1 1 (by omega)]; simp
    have c1 : ¬ cont (t.extract 0 1) (0 + 1) := by unfold cont; rw [Nat.zero_add, b1]; omega
    by_cases a2 : bz t 0 < 192
    · exact decode_none (Or.inl ⟨by omega, by omega⟩)
    by_cases a3 : bz t 0 < 224
    · exact decode_two_no (by omega) (by omega) c1
    by_cases a4 : bz t 0 < 240
    · exact decode_three_no (by omega) (by omega) (Or.inl c1)
    by_cases a5 : bz t 0 < 248
    · exact decode_four_no (by omega) (by omega) (Or.inl c1)
    · exact decode_none (Or.inr (by omega))
  · refine decode_prefix_nb h nb ?_
    intro k hk
    rw [Nat.zero_add, bz_extract t _ k (by omega), if_pos hk]
theorem bad_first_char (t : ByteArray) (h : 0 < t.size) : bad (t.extract 0 (Utf8.decode t 0).2) = if okAt t 0 = true then (Utf8.decode t 0).2 else 0 := by
  have hw := decode_width t 0 h
  have hd := decode_first t h
  have ho : okAt (t.extract 0 (Utf8.decode t 0).2) 0 = okAt t 0 := okAt_of hd
  have hs : (t.extract 0 (Utf8.decode t 0).2).size = (Utf8.decode t 0).2 := by simp; omega
  generalize t.extract 0 (Utf8.decode t 0).2 = u at *
  unfold bad
  rw [badFrom.eq_2, if_pos (by omega), ho, hd, hs]
  split
  · obtain ⟨m, hm⟩ : ∃ m, (Utf8.decode t 0).2 = m + 1 := ⟨(Utf8.decode t 0).2 - 1, by omega⟩
    rw [hm, badFrom.eq_2, if_neg (by omega), hs, hm]
  · rfl
end Go.Proofs.YtfolnkmbdmfigaaGreatDoor.Ch

namespace Go.Proofs.YtfolnkmbdmfigaaGreatDoor
open Go.RowKit Go.Maps Go.Lib
variable {F : Nat → Prop} {R : Nat} {w w' : World} {s : Src} {p : Ptr} {st : St} {c : Int}
def Src.took (s : Src) : Src × Int :=
  if s.rest.size = 0 then ({ s with at_ := s.next }, -1)
  else if Ch.okAt s.rest 0 = true then ({ s with at_ := s.next, rest := s.rest.extract (Utf8.decode s.rest 0).2 s.rest.size, next := s.next + (Utf8.decode s.rest 0).2 }, ((Utf8.decode s.rest 0).1 : Int))
  else ({ s with at_ := s.next }, -2)
def Src.more (s : Src) : Bool := !s.ended && !Tk.full s.rest
theorem tabs_below (hT : Utf8Tabs 3 4 w) (hb : Below w.heap.size w w') : Utf8Tabs 3 4 w' := by
  have h4 := tabs_size hT
  refine ⟨fun c hc => (hb.cell (by show 3 < w.heap.size; omega)).trans (hT.1 c hc), fun i hi => ⟨(hb.cell (by show 4 < w.heap.size; omega)).trans (hT.2 i hi).1, (hb.cell (by show 4 < w.heap.size; omega)).trans (hT.2 i hi).2⟩⟩
def More (w : World) (m : Value) : Prop := w.cell? ⟨0, 0, none⟩ = some m
set_option maxHeartbeats 2000000 in
theorem take_more (h : Rep F R w s p st) (hT : Utf8Tabs 3 4 w) (a : Addr) (hm : More w (.iface 213 (.pointer (some a)))) (hmo : s.more = true) :
    Calls Tryz.prog 88 #[.pointer (some ⟨R, 0, none⟩)] w fun e w' => e = .returned (.tuple #[.int .i32 0, .iface 213 (.pointer (some a))]) ∧ Below w.heap.size w w' := by
  have c0 : w.cell? ⟨R, 0, none⟩ = some (.string s.rest) := h.cell 0 rfl
  have c3 : w.cell? ⟨R, 3, none⟩ = some (.bool s.ended) := h.cell 3 rfl
  have hR := h.lt R h.inR
  have h4 := tabs_size hT
  simp only [Src.more, Bool.and_eq_true, Bool.not_eq_true'] at hmo
  have hf := full_any s.rest w hT
  rw [hmo.2] at hf
  rw [hmo.1] at c3
  unfold More at hm
  have H := hide h
  clear h hT hmo
  go_enter Tryz.func88, Tryz.ntmps88
  go_wp2_with (go_at_call 121; refine hf.mono ?_; rintro e w1 ⟨rfl, bl1⟩)
  have hm1 : w1.cell? ⟨0, 0, none⟩ = some (.iface 213 (.pointer (some a))) := (bl1.cell (p := ⟨0, 0, none⟩) (by show 0 < w.heap.size; omega)).trans hm
  go_region_held3 (fun W => W.cell? ⟨0, 0, none⟩ = some (.iface 213 (.pointer (some a))))
    (first | exact hm1)
    (fail)
  all_goals
    go_wp2
    go_ret2
    exact ⟨rfl, bl1.drew⟩
theorem tabs_setR (hT : Utf8Tabs 3 4 w) (hR5 : 4 < R) (i : Nat) (v : Value) : Utf8Tabs 3 4 (w.setCell ⟨R, i, none⟩ v) := by
  refine ⟨fun c hc => ?_, fun j hj => ⟨?_, ?_⟩⟩
  · rw [World.cell?_of_block (Below.heap_setCell w _ v 3 (by show 3 ≠ R; omega))]; exact hT.1 c hc
  · rw [World.cell?_of_block (Below.heap_setCell w _ v 4 (by show 4 ≠ R; omega))]; exact (hT.2 j hj).1
  · rw [World.cell?_of_block (Below.heap_setCell w _ v 4 (by show 4 ≠ R; omega))]; exact (hT.2 j hj).2
theorem take_core (h : Rep F R w s p st) (hT : Utf8Tabs 3 4 w) (hR5 : 4 < R) (h0 : 0 < s.rest.size) (hz : s.rest.size ≤ 1099511627776) (w1 : World) (bl1 : Below w.heap.size w w1) :
    Calls Tryz.prog 122 #[.string s.rest] (w1.setCell ⟨R, 2, none⟩ (.int .i64 s.next)) fun e w2 => e = .returned (.tuple #[.int .i32 ((Utf8.decode s.rest 0).1 : Int), .int .i64 ((Utf8.decode s.rest 0).2 : Int)]) ∧ Below (w1.setCell ⟨R, 2, none⟩ (.int .i64 s.next)).heap.size (w1.setCell ⟨R, 2, none⟩ (.int .i64 s.next)) w2 := by
  have h1 := Tryz.utf8_DecodeRuneInString s.rest _ (tabs_setR (tabs_below hT bl1) hR5 2 (.int .i64 s.next))
  have e : Lib.decodeGo s.rest = Utf8.decode s.rest 0 := by unfold Lib.decodeGo; rw [if_neg (by omega)]
  rw [e] at h1
  exact h1
end Go.Proofs.YtfolnkmbdmfigaaGreatDoor

namespace Go.Proofs.YtfolnkmbdmfigaaGreatDoor
open Go.RowKit Go.Maps Go.Lib
variable {F : Nat → Prop} {R : Nat} {w w' w'' : World} {s s' : Src} {p : Ptr} {st : St} {c : Int}
def RF (F : Nat → Prop) (R : Nat) (w : World) (s : Src) (p : Ptr) (st : St) (w' : World) : Prop := Rep (Grow F w w') R w' s p st ∧ Frame F w w' ∧ ∀ k, k < w.heap.size → k ≠ R → w'.heap[k]? = w.heap[k]?
theorem RF.refl (h : Rep F R w s p st) : RF F R w s p st w := ⟨h.grow0, Frame.refl _ _, fun _ _ _ => rfl⟩
theorem RF.below (h : RF F R w s p st w') (hb : Below w'.heap.size w' w'') : RF F R w s p st w'' :=
  ⟨(h.1.below hb).join h.2.1.size hb.size, h.2.1.trans (Frame.below hb), fun k hk hR => (hb.block k (Nat.lt_of_lt_of_le hk h.2.1.size)).trans (h.2.2 k hk hR)⟩
theorem RF.set (h : RF F R w s p st w') (i : Nat) (v : Value) (hc : (cellsOf s p st).setIfInBounds i v = cellsOf s' p st) : RF F R w s' p st (w'.setCell ⟨R, i, none⟩ v) := by
  have hsz : (w'.setCell ⟨R, i, none⟩ v).heap.size = w'.heap.size := by simp [World.setCell]
  have r := h.1.scalar (s' := s') (st' := st) i v hc (fun o => o)
  have hG : ∀ k, Grow F w w' k → Grow F w (w'.setCell ⟨R, i, none⟩ v) k := fun k hk => by unfold Grow at *; rw [hsz]; exact hk
  have hG' : ∀ k, Grow F w (w'.setCell ⟨R, i, none⟩ v) k → Grow F w w' k := fun k hk => by unfold Grow at *; rw [hsz] at hk; exact hk
  refine ⟨r.mono hG (fun k hk => r.lt k (hG' k hk)), ⟨h.2.1.os, h.2.1.tape, h.2.1.output, by rw [hsz]; exact h.2.1.size, fun k hk hf => ?_⟩, fun k hk hR => ?_⟩
  · rw [Below.heap_setCell _ _ _ _ ?_]
    · exact h.2.1.block k hk hf
    · intro e
      have e' : k = R := e
      subst e'
      rcases h.1.inR with x | x
      · exact hf x
      · omega
  · rw [Below.heap_setCell _ _ _ _ hR]
    exact h.2.2 k hk hR
def tookEnd (F : Nat → Prop) (R : Nat) (w : World) (s : Src) (p : Ptr) (st : St) (e : Ending) (w' : World) : Prop :=
  e = .returned (.tuple #[.int .i32 s.took.2, .nilIface]) ∧ RF F R w s.took.1 p st w'
set_option maxHeartbeats 4000000 in
set_option maxRecDepth 10000 in
theorem take_go (h : Rep F R w s p st) (hT : Utf8Tabs 3 4 w) (hR5 : 4 < R) (hz : s.rest.size ≤ 1099511627776) (hn : 0 ≤ s.next ∧ s.next ≤ 1152921504606846976) (hmo : s.more = false) :
    Calls Tryz.prog 88 #[.pointer (some ⟨R, 0, none⟩)] w (tookEnd F R w s p st) := by
  have c0 : w.cell? ⟨R, 0, none⟩ = some (.string s.rest) := h.cell 0 rfl
  have c1 : w.cell? ⟨R, 1, none⟩ = some (.int .i64 s.next) := h.cell 1 rfl
  have c2 : w.cell? ⟨R, 2, none⟩ = some (.int .i64 s.at_) := h.cell 2 rfl
  have c3 : w.cell? ⟨R, 3, none⟩ = some (.bool s.ended) := h.cell 3 rfl
  have f0 := h.free 0
  have f1 := h.free 1
  have f2 := h.free 2
  have hR := h.lt R h.inR
  have hful := full_any s.rest w hT
  have hcore := fun h0 => take_core h hT hR5 h0 hz
  have hset : ∀ w1, Below w.heap.size w w1 → RF F R w { s with at_ := s.next } p st (w1.setCell ⟨R, 2, none⟩ (.int .i64 s.next)) := fun w1 b => ((RF.refl h).below b).set 2 _ rfl
  have H := hide h
  have HC := hide hcore
  have HS := hide hset
  clear h hT hcore hset
  by_cases h0 : s.rest.size = 0
  · have htk : s.took = ({ s with at_ := s.next }, -1) := by simp [Src.took, h0]
    unfold tookEnd
    rw [htk]
    have he : s.rest.toList.isEmpty = true := by
      rw [Go.ByteArray.toList_eq]
      have : s.rest.data.toList = [] := List.eq_nil_of_length_eq_zero (by simpa using h0)
      rw [this]; rfl
    clear htk h0 hz hn HC
    rcases (Bool.eq_false_or_eq_true s.ended).symm with hen | hen
    · have hfu : Tk.full s.rest = true := by simp [Src.more, hen] at hmo; exact hmo
      rw [hfu] at hful
      rw [hen] at c3
      clear hmo hfu hen
      go_enter Tryz.func88, Tryz.ntmps88
      go_wp2_with (go_at_call 121; refine hful.mono ?_; rintro e w1 ⟨rfl, bl1⟩; have c0' := (bl1.cell hR).trans c0; have c1' := (bl1.cell hR).trans c1; have c2' := (bl1.cell hR).trans c2; have f2' : w1.frozen? ⟨R, 2, none⟩ = false := (World.frozen?_of_block (bl1.block R hR)).trans f2)
      go_ret2
      exact ⟨rfl, HS.out _ bl1⟩
    · rw [hen] at c3
      clear hmo hen
      go_enter Tryz.func88, Tryz.ntmps88
      go_wp2_with fail
      go_ret2
      exact ⟨rfl, HS.out _ (Below.refl _ _)⟩
  · have he : s.rest.toList.isEmpty = false := by
      rw [Go.ByteArray.toList_eq]
      cases hl : s.rest.data.toList with
      | nil => exact absurd (by have := congrArg List.length hl; simpa using this) h0
      | cons a b => rfl
    have hw := Ch.decode_width s.rest 0 (by omega)
    have hw1 : 1 ≤ (Utf8.decode s.rest 0).2 := hw.2.1
    have hw2 : (Utf8.decode s.rest 0).2 ≤ s.rest.size := by omega
    have hbf := Ch.bad_first_char s.rest (by omega)
    have HC2 := hide (HC.out (by omega))
    clear HC
    have HC := HC2
    clear HC2 hw
    unfold tookEnd
    cases hok : Ch.okAt s.rest 0
    · have htk : s.took = ({ s with at_ := s.next }, -2) := by simp [Src.took, h0, hok]
      rw [htk]
      rw [hok] at hbf
      simp only [Bool.false_eq_true, if_false] at hbf
      have HBF := hide hbf
      clear htk hok hbf h0
      rcases (Bool.eq_false_or_eq_true s.ended).symm with hen | hen
      · have hfu : Tk.full s.rest = true := by simp [Src.more, hen] at hmo; exact hmo
        rw [hfu] at hful
        rw [hen] at c3
        clear hmo hfu hen
        go_enter Tryz.func88, Tryz.ntmps88
        go_wp2_with (go_at_call 121; refine hful.mono ?_; rintro e w1 ⟨rfl, bl1⟩; have c0' := (bl1.cell hR).trans c0; have c1' := (bl1.cell hR).trans c1; have c2' := (bl1.cell hR).trans c2; have f2' : w1.frozen? ⟨R, 2, none⟩ = false := (World.frozen?_of_block (bl1.block R hR)).trans f2)
        refine (HC.out w1 bl1).mono ?_
        rintro e w2 ⟨rfl, bl2⟩
        have R2 := hide ((HS.out w1 bl1).below bl2)
        have d0 : w2.cell? ⟨R, 0, none⟩ = some (.string s.rest) := R2.out.1.cell 0 rfl
        have d1 : w2.cell? ⟨R, 1, none⟩ = some (.int .i64 s.next) := R2.out.1.cell 1 rfl
        have hbad := badC_any (s.rest.extract 0 (Utf8.decode s.rest 0).2) w2 (by simp; omega)
        rw [HBF.out] at hbad
        generalize ((Utf8.decode s.rest 0).1 : Int) = rn at *
        generalize (Utf8.decode s.rest 0).2 = wd at *
        go_wp2_with (go_at_call 123; refine hbad.mono ?_; rintro e w3 ⟨rfl, bl3⟩)
        go_ret2
        exact ⟨rfl, R2.out.below bl3⟩
      · rw [hen] at c3
        clear hmo hen
        go_enter Tryz.func88, Tryz.ntmps88
        go_wp2_with fail
        refine (HC.out w (Below.refl _ _)).mono ?_
        rintro e w2 ⟨rfl, bl2⟩
        have R2 := hide ((HS.out w (Below.refl _ _)).below bl2)
        have d0 : w2.cell? ⟨R, 0, none⟩ = some (.string s.rest) := R2.out.1.cell 0 rfl
        have d1 : w2.cell? ⟨R, 1, none⟩ = some (.int .i64 s.next) := R2.out.1.cell 1 rfl
        have hbad := badC_any (s.rest.extract 0 (Utf8.decode s.rest 0).2) w2 (by simp; omega)
        rw [HBF.out] at hbad
        generalize ((Utf8.decode s.rest 0).1 : Int) = rn at *
        generalize (Utf8.decode s.rest 0).2 = wd at *
        go_wp2_with (go_at_call 123; refine hbad.mono ?_; rintro e w3 ⟨rfl, bl3⟩)
        go_ret2
        exact ⟨rfl, R2.out.below bl3⟩
    · have htk : s.took = ({ s with at_ := s.next, rest := s.rest.extract (Utf8.decode s.rest 0).2 s.rest.size, next := s.next + (Utf8.decode s.rest 0).2 }, ((Utf8.decode s.rest 0).1 : Int)) := by simp [Src.took, h0, hok]
      rw [htk]
      rw [hok] at hbf
      simp only [if_true] at hbf
      have HBF := hide hbf
      clear htk hok hbf h0
      rcases (Bool.eq_false_or_eq_true s.ended).symm with hen | hen
      · have hfu : Tk.full s.rest = true := by simp [Src.more, hen] at hmo; exact hmo
        rw [hfu] at hful
        rw [hen] at c3
        clear hmo hfu hen
        go_enter Tryz.func88, Tryz.ntmps88
        go_wp2_with (go_at_call 121; refine hful.mono ?_; rintro e w1 ⟨rfl, bl1⟩; have c0' := (bl1.cell hR).trans c0; have c1' := (bl1.cell hR).trans c1; have c2' := (bl1.cell hR).trans c2; have f2' : w1.frozen? ⟨R, 2, none⟩ = false := (World.frozen?_of_block (bl1.block R hR)).trans f2)
        refine (HC.out w1 bl1).mono ?_
        rintro e w2 ⟨rfl, bl2⟩
        have R2 := hide ((HS.out w1 bl1).below bl2)
        have d0 : w2.cell? ⟨R, 0, none⟩ = some (.string s.rest) := R2.out.1.cell 0 rfl
        have d1 : w2.cell? ⟨R, 1, none⟩ = some (.int .i64 s.next) := R2.out.1.cell 1 rfl
        have hbad := badC_any (s.rest.extract 0 (Utf8.decode s.rest 0).2) w2 (by simp; omega)
        rw [HBF.out] at hbad
        go_wp2_with (go_at_call 123; refine hbad.mono ?_; rintro e w3 ⟨rfl, bl3⟩; have R3 := hide (R2.out.below bl3); have g0 : w3.cell? ⟨R, 0, none⟩ = some (.string s.rest) := R3.out.1.cell 0 rfl; have g1 : w3.cell? ⟨R, 1, none⟩ = some (.int .i64 s.next) := R3.out.1.cell 1 rfl; have q0 := R3.out.1.free 0; have q1 := R3.out.1.free 1)
        go_ret2
        refine ⟨rfl, ?_⟩
        exact (R3.out.set (s' := { s with at_ := s.next, rest := s.rest.extract (Utf8.decode s.rest 0).2 s.rest.size }) 0 (.string (s.rest.extract (Utf8.decode s.rest 0).2 s.rest.size)) rfl).set 1 (.int .i64 (s.next + (Utf8.decode s.rest 0).2)) rfl
      · rw [hen] at c3
        clear hmo hen
        go_enter Tryz.func88, Tryz.ntmps88
        go_wp2_with fail
        refine (HC.out w (Below.refl _ _)).mono ?_
        rintro e w2 ⟨rfl, bl2⟩
        have R2 := hide ((HS.out w (Below.refl _ _)).below bl2)
        have d0 : w2.cell? ⟨R, 0, none⟩ = some (.string s.rest) := R2.out.1.cell 0 rfl
        have d1 : w2.cell? ⟨R, 1, none⟩ = some (.int .i64 s.next) := R2.out.1.cell 1 rfl
        have hbad := badC_any (s.rest.extract 0 (Utf8.decode s.rest 0).2) w2 (by simp; omega)
        rw [HBF.out] at hbad
        go_wp2_with (go_at_call 123; refine hbad.mono ?_; rintro e w3 ⟨rfl, bl3⟩; have R3 := hide (R2.out.below bl3); have g0 : w3.cell? ⟨R, 0, none⟩ = some (.string s.rest) := R3.out.1.cell 0 rfl; have g1 : w3.cell? ⟨R, 1, none⟩ = some (.int .i64 s.next) := R3.out.1.cell 1 rfl; have q0 := R3.out.1.free 0; have q1 := R3.out.1.free 1)
        go_ret2
        refine ⟨rfl, ?_⟩
        exact (R3.out.set (s' := { s with at_ := s.next, rest := s.rest.extract (Utf8.decode s.rest 0).2 s.rest.size }) 0 (.string (s.rest.extract (Utf8.decode s.rest 0).2 s.rest.size)) rfl).set 1 (.int .i64 (s.next + (Utf8.decode s.rest 0).2)) rfl
end Go.Proofs.YtfolnkmbdmfigaaGreatDoor

namespace Go.Proofs.YtfolnkmbdmfigaaGreatDoor
open Go.RowKit Go.Maps Go.Lib

theorem clear_less (st : St) (i j : Rn) : ((st.clear i).run j).length ≤ (st.run j).length := by
  simp only [St.clear, St.setRun]; split <;> simp
theorem tellText_len (st : St) (j : Rn) : (st.tellText.run j).length ≤ (st.run j).length := by
  unfold St.tellText; split
  · omega
  · exact clear_less _ _ _
theorem tellText_told (st : St) : st.tellText.told.length ≤ st.told.length + 1 := by
  unfold St.tellText; split
  · omega
  · simp [St.clear, St.setRun]
theorem tellText_same (st : St) : st.tellText.attrs = st.attrs ∧ st.tellText.names = st.names ∧ st.tellText.quote = st.quote := by
  unfold St.tellText; split <;> exact ⟨rfl, rfl, rfl⟩
structure Adds (st : St) (c : Int) (o : Out) : Prop where
  run : ∀ i, (o.st.run i).length ≤ (st.run i).length + 12
  told : o.st.told.length ≤ st.told.length + 4
  attrs : o.st.attrs.length ≤ st.attrs.length + 1
  names : o.st.names.length ≤ st.names.length + 1
  quote : 0 ≤ st.quote → 0 ≤ o.st.quote
  ref : ∀ i k, o.res = .go (.ref i k) → (o.st.run .ref).length ≤ 4
  neg : c = -1 ∨ c = -2 → 0 ≤ st.quote → ∀ pt, o.res ≠ .go pt
theorem put_same (st : St) (i : Rn) (c q : Int) : (st.put i c q).told = st.told ∧ (st.put i c q).attrs = st.attrs ∧ (st.put i c q).names = st.names ∧ (st.put i c q).quote = st.quote := ⟨rfl, rfl, rfl, rfl⟩
theorem Adds.fail0 {st : St} {c : Int} {no q : Int} : Adds st c ⟨st, .fail no q⟩ :=
  ⟨fun _ => by simp, by simp, by simp, by simp, fun h => h, fun _ _ e => (by cases e), fun _ _ _ e => (by cases e)⟩
theorem Adds.go0 {st : St} {c : Int} {pt : Part} (h0 : 0 ≤ c) (hr : ∀ i k, pt ≠ .ref i k) : Adds st c ⟨st, .go pt⟩ :=
  ⟨fun _ => by simp, by simp, by simp, by simp, fun h => h, fun i k e => absurd (by cases e; rfl) (hr i k), fun h => by omega⟩
theorem begins_pos {c : Int} (h : Ch.begins c = true) : 0 ≤ c := by have := (Ch.begins_iff c).1 h; omega
theorem goesOn_pos {c : Int} (h : Ch.goesOn c = true) : 0 ≤ c := by have := (Ch.goesOn_iff c).1 h; omega
theorem blank_pos {c : Int} (h : Tk.blank c = true) : 0 ≤ c := by simp [Tk.blank] at h; omega
theorem Adds.via {st st1 : St} {c : Int} {pt : Part} (h0 : 0 ≤ c) (hr : ∀ i k, pt ≠ .ref i k) (h1 : ∀ i, (st1.run i).length ≤ (st.run i).length + 12) (h2 : st1.told.length ≤ st.told.length + 4) (h3 : st1.attrs.length ≤ st.attrs.length + 1) (h4 : st1.names.length ≤ st.names.length + 1) (h5 : 0 ≤ st.quote → 0 ≤ st1.quote) : Adds st c ⟨st1, .go pt⟩ :=
  ⟨h1, h2, h3, h4, h5, fun i k e => absurd (by cases e; rfl) (hr i k), fun h => by omega⟩
theorem tellOpening_adds (st : St) (c : Int) (pt : Part) (h0 : 0 ≤ c) (hr : ∀ i k, pt ≠ .ref i k) : Adds st c ⟨st.tellOpening, .go pt⟩ := by
  refine .via h0 hr (fun i => ?_) ?_ ?_ ?_ ?_
  · show (st.tellText.run i).length ≤ _; have := tellText_len st i; omega
  · show (st.tellText.told ++ [_]).length ≤ _; have := tellText_told st; simp; omega
  · show ([] : List (List UInt8 × List UInt8)).length ≤ _; simp
  · show ([] : List (List UInt8)).length ≤ _; simp
  · show _ → 0 ≤ st.tellText.quote; rw [(tellText_same st).2.2]; exact id
theorem tellClosing_adds (st : St) (c : Int) (pt : Part) (h0 : 0 ≤ c) (hr : ∀ i k, pt ≠ .ref i k) : Adds st c ⟨st.tellClosing, .go pt⟩ := by
  refine .via h0 hr (fun i => ?_) ?_ ?_ ?_ ?_
  · show (st.tellText.run i).length ≤ _; have := tellText_len st i; omega
  · show (st.tellText.told ++ [_]).length ≤ _; have := tellText_told st; simp; omega
  · show st.tellText.attrs.length ≤ _; rw [(tellText_same st).1]; omega
  · show st.tellText.names.length ≤ _; rw [(tellText_same st).2.1]; omega
  · show _ → 0 ≤ st.tellText.quote; rw [(tellText_same st).2.2]; exact id
theorem put_adds (st : St) (i : Rn) (c q d : Int) (pt : Part) (h0 : 0 ≤ d) (hr : ∀ i k, pt ≠ .ref i k) : Adds st d ⟨st.put i c q, .go pt⟩ :=
  .via h0 hr (fun j => by have := put_len st i j c q; omega) (by simp [put_same]) (by simp [put_same]) (by simp [put_same]) (fun h => h)
theorem stPart_adds (q : Int) (st : St) (c : Int) : Adds st c (stPart q st c) := by
  unfold stPart
  split
  · exact .go0 (blank_pos (by assumption)) (fun _ _ => by simp)
  split
  · exact .go0 (by omega) (fun _ _ => by simp)
  split
  · exact tellOpening_adds st c _ (by omega) (fun _ _ => by simp)
  · exact .fail0
theorem Adds.after {st st1 : St} {c : Int} {o : Out} (h : Adds st1 c o) (h1 : ∀ i, (o.st.run i).length ≤ (st.run i).length + 12) (h2 : st1.told.length ≤ st.told.length) (h3 : st1.attrs.length ≤ st.attrs.length) (h4 : o.st.names.length ≤ st.names.length + 1) (h5 : st1.quote = st.quote) : Adds st c o :=
  ⟨h1, by have := h.told; omega, by have := h.attrs; omega, h4, fun x => h.quote (h5 ▸ x), h.ref, fun x y => h.neg x (h5 ▸ y)⟩
theorem stName1_adds (i : Rn) (k : Pl) (q : Int) (st : St) (c : Int) : Adds st c (stName1 i k q st c) := by
  unfold stName1; split
  · exact put_adds st i c q c _ (begins_pos (by assumption)) (fun _ _ => by simp)
  · exact .fail0
theorem stAttr_adds (q : Int) (st : St) (c : Int) : Adds st c (stAttr q st c) := by
  unfold stAttr
  split
  · exact .go0 (blank_pos (by assumption)) (fun _ _ => by simp)
  split
  · exact .go0 (by omega) (fun _ _ => by simp)
  · exact .fail0
theorem stAttr_st (q : Int) (st : St) (c : Int) : (stAttr q st c).st = st := by
  unfold stAttr; repeat' split
  all_goals rfl
theorem stRemark_adds (q : Int) (st : St) (c : Int) : Adds st c (stRemark q st c) := by
  unfold stRemark
  split
  · exact .go0 (by omega) (fun _ _ => by simp)
  split
  · exact .fail0
  · exact .go0 (by omega) (fun _ _ => by simp)
theorem stOrder_adds (q : Int) (st : St) (c : Int) : Adds st c (stOrder q st c) := by
  unfold stOrder
  split
  · exact .go0 (by omega) (fun _ _ => by simp)
  split
  · exact .fail0
  · exact .go0 (by omega) (fun _ _ => by simp)
theorem stSection_len (q : Int) (st : St) (c : Int) (i : Rn) : ((stSection q st c).st.run i).length ≤ (st.run i).length + 4 := by
  unfold stSection; repeat' split
  all_goals first | (exact put_len st .text i c q) | (simp; done)
theorem stSection_adds (q : Int) (st : St) (c : Int) : Adds st c (stSection q st c) := by
  unfold stSection
  split
  · exact .go0 (by omega) (fun _ _ => by simp)
  split
  · exact .fail0
  · exact put_adds st _ c q c _ (by omega) (fun _ _ => by simp)
theorem stBracket_len (q : Int) (st : St) (c : Int) (i : Rn) : ((stBracket q st c).st.run i).length ≤ (st.run i).length + 8 := by
  unfold stBracket; split
  · simp
  · have := stSection_len q (st.put .text 93 (q - 1)) c i
    have := put_len st .text i 93 (q - 1)
    omega
theorem stSection_names (q : Int) (st : St) (c : Int) : (stSection q st c).st.names = st.names := by
  unfold stSection; repeat' split
  all_goals rfl
theorem stBracket_names (q : Int) (st : St) (c : Int) : (stBracket q st c).st.names = st.names := by
  unfold stBracket; split
  · rfl
  · exact stSection_names _ _ _
theorem stBracket_adds (q : Int) (st : St) (c : Int) : Adds st c (stBracket q st c) := by
  unfold stBracket
  split
  · exact .go0 (by omega) (fun _ _ => by simp)
  · refine (stSection_adds q (st.put .text 93 (q - 1)) c).after (fun i => ?_) (by simp [put_same]) (by simp [put_same]) ?_ rfl
    · have := stSection_len q (st.put .text 93 (q - 1)) c i
      have := put_len st .text i 93 (q - 1)
      omega
    · rw [stSection_names]; simp [put_same]
theorem ref_adds (st : St) (i : Rn) (k : Pl) (q : Int) : Adds st 38 ⟨(st.clear .ref).put .ref 38 q, .go (.ref i k)⟩ := by
  refine ⟨fun j => ?_, by simp [put_same, St.clear, St.setRun], by simp [put_same, St.clear, St.setRun], by simp [put_same, St.clear, St.setRun], fun h => h, fun _ _ _ => ?_, fun h => by omega⟩
  · have h1 := put_len (st.clear .ref) .ref j 38 q
    have h2 := clear_less st .ref j
    show (((st.clear .ref).put .ref 38 q).run j).length ≤ _
    omega
  · have h1 := put_len (st.clear .ref) .ref .ref 38 q
    have h2 : ((st.clear .ref).run .ref).length = 0 := by simp [St.clear, St.setRun]
    show (((st.clear .ref).put .ref 38 q).run .ref).length ≤ _
    omega
theorem step_adds (k : Pl) (q : Int) (st : St) (c : Int) : Adds st c (step k q st c) := by
  cases k with
  | between =>
    simp only [step]
    split
    · exact .via (by omega) (fun _ _ => by simp) (fun _ => by simp) (by simp) (by simp) (by simp) (fun h => h)
    split
    · rename_i e; subst e; exact ref_adds st _ _ q
    split
    · refine ⟨fun i => ?_, ?_, ?_, ?_, ?_, fun _ _ e => (by cases e), fun _ _ _ e => (by cases e)⟩
      · show (st.tellText.run i).length ≤ _; have := tellText_len st i; omega
      · show st.tellText.told.length ≤ _; have := tellText_told st; omega
      · show st.tellText.attrs.length ≤ _; rw [(tellText_same st).1]; omega
      · show st.tellText.names.length ≤ _; rw [(tellText_same st).2.1]; omega
      · show _ → 0 ≤ st.tellText.quote; rw [(tellText_same st).2.2]; exact id
    split
    · exact .fail0
    · refine ⟨fun j => ?_, by simp [put_same], by simp [put_same], by simp [put_same], fun h => h, fun _ _ e => (by cases e), fun h => ?_⟩
      · have := put_len st .text j c q
        show ((st.put .text c q).run j).length ≤ _
        omega
      · omega
  | less =>
    simp only [step]
    split
    · exact .via (by omega) (fun _ _ => by simp) (fun i => by have := clear_less st .name i; omega) (by simp [St.clear, St.setRun]) (by simp [St.clear, St.setRun]) (by simp [St.clear, St.setRun]) (fun h => h)
    split
    · exact .go0 (by omega) (fun _ _ => by simp)
    split
    · exact .go0 (by omega) (fun _ _ => by simp)
    · unfold stName1; split
      · refine .via (begins_pos (by assumption)) (fun _ _ => by simp) (fun i => ?_) (by simp [put_same, St.clear, St.setRun]) (by simp [put_same, St.clear, St.setRun]) (by simp [put_same, St.clear, St.setRun]) (fun h => h)
        have h1 := put_len (st.clear .name) .name i c q
        have h2 := clear_less st .name i
        omega
      · exact ⟨fun i => by have := clear_less st .name i; show ((st.clear .name).run i).length ≤ _; omega, by simp [St.clear, St.setRun], by simp [St.clear, St.setRun], by simp [St.clear, St.setRun], fun h => h, fun _ _ e => (by cases e), fun _ _ _ e => (by cases e)⟩
  | bang =>
    simp only [step]
    split
    · exact .go0 (by omega) (fun _ _ => by simp)
    split
    · exact .go0 (by omega) (fun _ _ => by simp)
    · exact .fail0
  | remark => exact stRemark_adds q st c
  | dash =>
    simp only [step]
    split
    · exact .go0 (by omega) (fun _ _ => by simp)
    · exact stRemark_adds q st c
  | orderName =>
    simp only [step]
    split
    · exact .go0 (begins_pos (by assumption)) (fun _ _ => by simp)
    · exact .fail0
  | order => exact stOrder_adds q st c
  | mark =>
    simp only [step]
    split
    · exact .go0 (by omega) (fun _ _ => by simp)
    · exact stOrder_adds q st c
  | section_ => exact stSection_adds q st c
  | bracket => exact stBracket_adds q st c
  | brackets =>
    simp only [step]
    split
    · exact .go0 (by omega) (fun _ _ => by simp)
    · refine (stBracket_adds q (st.put .text 93 (q - 2)) c).after (fun i => ?_) (by simp [put_same]) (by simp [put_same]) ?_ rfl
      · have := stBracket_len q (st.put .text 93 (q - 2)) c i
        have := put_len st .text i 93 (q - 2)
        omega
      · rw [stBracket_names]; simp [put_same]
  | part => exact stPart_adds q st c
  | blanks =>
    simp only [step]
    split
    · unfold stName1
      rw [if_pos (by assumption)]
      refine .via (begins_pos (by assumption)) (fun _ _ => by simp) (fun i => ?_) (by simp [put_same, St.clear, St.setRun]) (by simp [put_same, St.clear, St.setRun]) (by simp [put_same, St.clear, St.setRun]) (fun h => h)
      have h1 := put_len (st.clear .attr) .attr i c q
      have h2 := clear_less st .attr i
      omega
    · exact stPart_adds q st c
  | newAttr =>
    simp only [step]
    split
    · exact .fail0
    · refine (stAttr_adds q { st with names := st.names ++ [st.run .attr] } c).after (fun i => ?_) (by simp) (by simp) ?_ rfl
      · rw [stAttr_st]; simp
      · rw [stAttr_st]; simp
  | attrP => exact stAttr_adds q st c
  | equals =>
    simp only [step]
    split
    · exact .go0 (blank_pos (by assumption)) (fun _ _ => by simp)
    split
    · exact .via (by omega) (fun _ _ => by simp) (fun _ => by simp) (by simp) (by simp) (by simp) (fun _ => by show 0 ≤ c; omega)
    · exact .fail0
  | valueP =>
    simp only [step]
    split
    · rename_i e
      refine ⟨fun i => ?_, by simp [St.addAttr, St.clear, St.setRun], by simp [St.addAttr, St.clear, St.setRun], by simp [St.addAttr, St.clear, St.setRun], fun h => h, fun _ _ e => (by cases e), fun h h' => by omega⟩
      have := clear_less { st with attrs := st.attrs ++ [(st.run .attr, st.run .value)] } .value i
      show ((St.clear { st with attrs := st.attrs ++ [(st.run .attr, st.run .value)] } .value).run i).length ≤ _
      refine Nat.le_trans this ?_
      simp
    split
    · rename_i e; subst e; exact ref_adds st _ _ q
    split
    · exact .fail0
    · exact put_adds st _ c q c _ (by omega) (fun _ _ => by simp)
  | slash =>
    simp only [step]
    split
    · refine .via (by omega) (fun _ _ => by simp) (fun i => ?_) ?_ ?_ ?_ ?_
      · have h1 := (tellOpening_adds st 0 (.plain .between) (by omega) (fun _ _ => by simp)).run i
        have h2 := tellText_len st.tellOpening i
        have h3 : (st.tellOpening.run i).length ≤ (st.run i).length := tellText_len st i
        show (st.tellOpening.tellText.run i).length ≤ _
        omega
      · have h1 : st.tellOpening.told.length ≤ st.told.length + 2 := by
          show (st.tellText.told ++ [_]).length ≤ _; have := tellText_told st; simp; omega
        have h2 := tellText_told st.tellOpening
        show (st.tellOpening.tellText.told ++ [_]).length ≤ _
        simp; omega
      · show st.tellOpening.tellText.attrs.length ≤ _; rw [(tellText_same _).1]; show ([] : List (List UInt8 × List UInt8)).length ≤ _; simp
      · show st.tellOpening.tellText.names.length ≤ _; rw [(tellText_same _).2.1]; show ([] : List (List UInt8)).length ≤ _; simp
      · show _ → 0 ≤ st.tellOpening.tellText.quote; rw [(tellText_same _).2.2]; show _ → 0 ≤ st.tellText.quote; rw [(tellText_same _).2.2]; exact id
    · exact .fail0
  | closing =>
    simp only [step]
    split
    · exact .go0 (blank_pos (by assumption)) (fun _ _ => by simp)
    split
    · exact tellClosing_adds st c _ (by omega) (fun _ _ => by simp)
    · exact .fail0
theorem putFrom_len (i j : Rn) (t : ByteArray) (q : Int) : ∀ f pos st, ((putFrom i t q f pos st).run j).length ≤ (st.run j).length + 4 * (t.size - pos) := by
  intro f
  induction f with
  | zero => intro pos st; simp [putFrom]
  | succ f ih =>
    intro pos st
    unfold putFrom
    split
    · rename_i hp
      have h1 := ih (pos + (Utf8.decode t pos).2) (st.put i ((Utf8.decode t pos).1 : Int) q)
      have h2 := put_len st i j ((Utf8.decode t pos).1 : Int) q
      have h3 := Ch.decode_width t pos hp
      omega
    · omega
theorem putFrom_same (i : Rn) (t : ByteArray) (q : Int) : ∀ f pos st, (putFrom i t q f pos st).told = st.told ∧ (putFrom i t q f pos st).attrs = st.attrs ∧ (putFrom i t q f pos st).names = st.names ∧ (putFrom i t q f pos st).quote = st.quote := by
  intro f
  induction f with
  | zero => intro pos st; exact ⟨rfl, rfl, rfl, rfl⟩
  | succ f ih =>
    intro pos st
    unfold putFrom
    split
    · exact ih _ _
    · exact ⟨rfl, rfl, rfl, rfl⟩
theorem putFrom_other (i j : Rn) (t : ByteArray) (q : Int) (hj : j ≠ i) : ∀ f pos st, (putFrom i t q f pos st).run j = st.run j := by
  intro f
  induction f with
  | zero => intro pos st; rfl
  | succ f ih =>
    intro pos st
    unfold putFrom
    split
    · rw [ih]; simp [St.put, St.setRun, hj]
    · rfl
def Part.extra (pt : Part) (st : St) : Nat := match pt with | .ref _ _ => 16 * (st.run .ref).length + 120 | _ => 0
structure Lim (n : Nat) (pt : Part) (st : St) : Prop where
  run : ∀ i, i ≠ .ref → (st.run i).length + pt.extra st ≤ 256 * n
  ref : (st.run .ref).length ≤ 256 * n
  told : st.told.length ≤ 4 * n
  attrs : st.attrs.length ≤ n
  names : st.names.length ≤ n
  quote : 0 ≤ st.quote
  sound : pt.Sound
theorem Lim.tiny {n : Nat} {pt : Part} {st : St} (h : Lim n pt st) (hn : n ≤ 274877906944) : st.Tiny := by
  refine ⟨fun i => ?_, by have := h.told; omega, by have := h.attrs; omega, by have := h.names; omega⟩
  by_cases hi : i = .ref
  · subst hi; have := h.ref; omega
  · have := h.run i hi; omega
theorem Lim.both {n : Nat} {pt : Part} {st : St} (h : Lim n pt st) (hn : n ≤ 274877906944) : ∀ i k, pt = .ref i k → (st.run i).length + 16 * (st.run .ref).length + 120 ≤ 70368744177664 := by
  rintro i k rfl
  have h1 := h.run i h.sound
  simp only [Part.extra] at h1
  omega
theorem sound_stName (i : Rn) (k : Pl) (q : Int) (st : St) (c : Int) : ∀ pt, (stName i k q st c).res = .go pt → pt.Sound := by
  intro pt e
  unfold stName stName1 at e
  repeat' split at e
  all_goals first | (cases e; simp [Part.Sound]; done) | (cases e; done) | exact step_sound k q st c pt e
theorem Lim.plain {n : Nat} {pt : Part} {st : St} {o : Out} {c : Int} (h : Lim n pt st) (ha : Adds st c o) {pt' : Part} (e : o.res = .go pt') (hs : pt'.Sound) : Lim (n + 1) pt' o.st := by
  have hx : pt'.extra o.st ≤ 184 := by
    cases pt' with
    | ref i k => have := ha.ref i k e; show 16 * (o.st.run .ref).length + 120 ≤ 184; omega
    | plain k => exact Nat.zero_le _
    | word l k => exact Nat.zero_le _
    | name i k => exact Nat.zero_le _
  refine ⟨fun i hi => ?_, ?_, ?_, ?_, ?_, ha.quote h.quote, hs⟩
  · have := h.run i hi; have := ha.run i; omega
  · have := h.ref; have := ha.run .ref; omega
  · have := h.told; have := ha.told; omega
  · have := h.attrs; have := ha.attrs; omega
  · have := h.names; have := ha.names; omega
theorem stName_adds (i : Rn) (k : Pl) (q : Int) (st : St) (c : Int) : Adds st c (stName i k q st c) := by
  unfold stName
  split
  · exact stName1_adds i k q st c
  split
  · rename_i h
    refine put_adds st i c q c _ ?_ (fun _ _ => by simp)
    simp only [Bool.or_eq_true] at h
    exact h.elim begins_pos goesOn_pos
  · exact step_adds k q st c
theorem stWord_adds (x : UInt8) (l : List UInt8) (k : Pl) (q : Int) (st : St) (c : Int) : Adds st c (stWord x l k q st c) := by
  unfold stWord
  split
  · split
    · exact .go0 (by omega) (fun _ _ => by simp)
    · exact .go0 (by omega) (fun _ _ => by simp)
  · exact .fail0
theorem Lim.step {n : Nat} {pt : Part} {st : St} {q c : Int} (h : Lim n pt st) {pt' : Part} (e : (stepPart pt q st c).res = .go pt') : Lim (n + 1) pt' (stepPart pt q st c).st := by
  cases pt with
  | plain k => exact h.plain (step_adds k q st c) e (step_sound k q st c pt' e)
  | word l k =>
    cases l with
    | nil => exact absurd rfl h.sound.1
    | cons x l =>
      refine h.plain (stWord_adds x l k q st c) e ?_
      have hl := h.sound.2
      simp only [stepPart, stWord] at e
      split at e
      · split at e
        · cases e; trivial
        · cases e; exact ⟨by assumption, by simp at hl; omega⟩
      · cases e
  | name i k => exact h.plain (stName_adds i k q st c) e (sound_stName i k q st c pt' e)
  | ref i k =>
    have hi := h.sound
    simp only [stepPart, stRef] at e ⊢
    split at e
    · rename_i hc
      rw [if_pos hc]
      split at e
      · rename_i h59
        rw [if_pos h59]
        have hp := fun j => put_len st .ref j 59 q
        have hsm := put_same st .ref 59 q
        generalize st.put .ref 59 q = st1 at *
        unfold stRefEnd at e ⊢
        split at e
        · rename_i hz
          rw [if_pos hz]
          cases e
          have hul := unesc_len ⟨(st1.run .ref).toArray⟩ (((⟨(st1.run .ref).toArray⟩ : ByteArray).size) + 1) 0 []
          have hsz : (⟨(st1.run .ref).toArray⟩ : ByteArray).size = (st1.run .ref).length := by show (st1.run .ref).toArray.size = _; simp
          have hul2 : (Ch.unesc ⟨(st1.run .ref).toArray⟩).1.length ≤ 4 * ((st1.run .ref).length + 1) := by
            unfold Ch.unesc; rw [hsz] at hul ⊢; simpa using hul
          have htz : (⟨(Ch.unesc ⟨(st1.run .ref).toArray⟩).1.toArray⟩ : ByteArray).size ≤ 4 * ((st1.run .ref).length + 1) := by
            show (Ch.unesc ⟨(st1.run .ref).toArray⟩).1.toArray.size ≤ _; simpa using hul2
          generalize (⟨(Ch.unesc ⟨(st1.run .ref).toArray⟩).1.toArray⟩ : ByteArray) = t at *
          have hpl := fun j => putFrom_len i j t (st1.runAt .ref) (t.size + 1) 0 st1
          have hps := putFrom_same i t (st1.runAt .ref) (t.size + 1) 0 st1
          refine ⟨fun j hj => ?_, ?_, ?_, ?_, ?_, ?_, trivial⟩
          · show ((putFrom i t (st1.runAt .ref) (t.size + 1) 0 st1).run j).length + 0 ≤ _
            have h1 := hpl j
            have h2 := hp j
            have h3 := hp .ref
            have h4 := h.run j hj
            simp only [Part.extra] at h4
            omega
          · show ((putFrom i t (st1.runAt .ref) (t.size + 1) 0 st1).run .ref).length ≤ _
            rw [putFrom_other i .ref t _ (Ne.symm hi)]
            have h1 := h.ref
            have h2 := hp .ref
            omega
          · show (putFrom i t (st1.runAt .ref) (t.size + 1) 0 st1).told.length ≤ _; rw [hps.1, hsm.1]; have := h.told; omega
          · show (putFrom i t (st1.runAt .ref) (t.size + 1) 0 st1).attrs.length ≤ _; rw [hps.2.1, hsm.2.1]; have := h.attrs; omega
          · show (putFrom i t (st1.runAt .ref) (t.size + 1) 0 st1).names.length ≤ _; rw [hps.2.2.1, hsm.2.2.1]; have := h.names; omega
          · show 0 ≤ (putFrom i t (st1.runAt .ref) (t.size + 1) 0 st1).quote; rw [hps.2.2.2, hsm.2.2.2]; exact h.quote
        · cases e
      · rename_i h59
        rw [if_neg h59]
        cases e
        have hp := fun j => put_len st .ref j c q
        refine ⟨fun j hj => ?_, ?_, Nat.le_trans h.told (by omega), Nat.le_trans h.attrs (by omega), Nat.le_trans h.names (by omega), h.quote, hi⟩
        · have h1 := h.run j hj
          have h2 := hp j
          have h3 := hp .ref
          have h4 : ((st.put .ref c q).run j) = st.run j := by simp [St.put, St.setRun, hj]
          simp only [Part.extra] at h1 ⊢
          rw [h4]
          omega
        · have h1 := h.ref
          have h3 := hp .ref
          show ((st.put .ref c q).run .ref).length ≤ _
          omega
    · cases e
end Go.Proofs.YtfolnkmbdmfigaaGreatDoor

namespace Go.Proofs.YtfolnkmbdmfigaaGreatDoor
open Go Go.Lib
def first4 (n b0 b1 b2 b3 : Nat) : Nat × Nat :=
  if firstT b0 = 240 then (b0, 1) else if firstT b0 = 241 then (65533, 1) else slowN n b0 b1 b2 b3 (firstT b0 % 8) (accLo (firstT b0 / 16)) (accHi (firstT b0 / 16))
set_option maxRecDepth 100000 in
set_option maxHeartbeats 4000000 in
theorem decode_first4 (n b0 b1 b2 b3 : Nat) (hn : 1 ≤ n) (h0 : b0 < 256) (h1 : b1 < 256) (h2 : b2 < 256) (h3 : b3 < 256) : decodeN n b0 b1 b2 b3 = first4 n b0 b1 b2 b3 := by
  unfold first4
  by_cases a1 : b0 < 128
  · have hf : firstT b0 = 240 := by simp [firstT, a1]
    rw [if_pos hf]
    unfold decodeN
    repeat' split
    all_goals first | (exfalso; omega) | (apply Prod.ext <;> simp only <;> omega)
  by_cases a2 : b0 < 194
  · have hf : firstT b0 = 241 := by simp [firstT, a1, a2]
    rw [hf, if_neg (by omega), if_pos rfl]
    unfold decodeN
    repeat' split
    all_goals first | (exfalso; omega) | (apply Prod.ext <;> simp only <;> omega)
  by_cases a3 : b0 < 224
  · have hf : firstT b0 = 2 := by simp [firstT, a1, a2, a3]
    rw [hf, if_neg (by omega), if_neg (by omega)]
    exact (slow_C2 n b0 b1 b2 b3 hn h1 h2 h3 (by omega)).symm
  by_cases a4 : b0 = 224
  · have hf : firstT b0 = 19 := by subst a4; rfl
    rw [hf, if_neg (by omega), if_neg (by omega)]
    exact (slow_E0 n b0 b1 b2 b3 hn h1 h2 h3 a4).symm
  by_cases a5 : b0 < 237
  · have hf : firstT b0 = 3 := by simp [firstT, a1, a2, a3, a4, a5]
    rw [hf, if_neg (by omega), if_neg (by omega)]
    exact (slow_E1 n b0 b1 b2 b3 hn h1 h2 h3 (by omega)).symm
  by_cases a6 : b0 = 237
  · have hf : firstT b0 = 35 := by subst a6; rfl
    rw [hf, if_neg (by omega), if_neg (by omega)]
    exact (slow_ED n b0 b1 b2 b3 hn h1 h2 h3 a6).symm
  by_cases a7 : b0 < 240
  · have hf : firstT b0 = 3 := by simp [firstT, a1, a2, a3, a4, a5, a6, a7]
    rw [hf, if_neg (by omega), if_neg (by omega)]
    exact (slow_E1 n b0 b1 b2 b3 hn h1 h2 h3 (by omega)).symm
  by_cases a8 : b0 = 240
  · have hf : firstT b0 = 52 := by subst a8; rfl
    rw [hf, if_neg (by omega), if_neg (by omega)]
    exact (slow_F0 n b0 b1 b2 b3 hn h1 h2 h3 a8).symm
  by_cases a9 : b0 < 244
  · have hf : firstT b0 = 4 := by simp [firstT, a1, a2, a3, a4, a5, a6, a7, a8, a9]
    rw [hf, if_neg (by omega), if_neg (by omega)]
    exact (slow_F1 n b0 b1 b2 b3 hn h1 h2 h3 (by omega)).symm
  by_cases a10 : b0 = 244
  · have hf : firstT b0 = 68 := by subst a10; rfl
    rw [hf, if_neg (by omega), if_neg (by omega)]
    exact (slow_F4 n b0 b1 b2 b3 hn h1 h2 h3 a10).symm
  · have hf : firstT b0 = 241 := by simp [firstT, a1, a2, a3, a4, a5, a6, a7, a8, a9, a10]
    rw [hf, if_neg (by omega), if_pos rfl]
    unfold decodeN
    repeat' split
    all_goals first | (exfalso; omega) | (apply Prod.ext <;> simp only <;> omega)
theorem firstT_sz (b : Nat) : firstT b = 240 ∨ firstT b = 241 ∨ (2 ≤ firstT b % 8 ∧ firstT b % 8 ≤ 4) := by
  unfold firstT
  repeat' split
  all_goals omega
theorem first4_cut (n m b0 b1 b2 b3 c1 c2 c3 : Nat) (hn : 1 ≤ n) (hm : n ≤ m) (e1 : 1 < n → c1 = b1) (e2 : 2 < n → c2 = b2) (e3 : 3 < n → c3 = b3) (hf : fullN n (firstT b0) b1 b2 = true) :
    fullN m (firstT b0) c1 c2 = true ∧ first4 m b0 c1 c2 c3 = first4 n b0 b1 b2 b3 := by
  simp only [fullN, Bool.or_eq_true, Bool.and_eq_true, decide_eq_true_eq] at hf ⊢
  have hz := firstT_sz b0
  unfold first4 slowN
  generalize firstT b0 = f at *
  generalize accLo (f / 16) = lo at *
  generalize accHi (f / 16) = hi at *
  by_cases f1 : f = 240
  · rw [if_pos f1, if_pos f1]; exact ⟨by omega, rfl⟩
  by_cases f2 : f = 241
  · rw [if_neg f1, if_pos f2, if_neg f1, if_pos f2]; exact ⟨by omega, rfl⟩
  rw [if_neg f1, if_neg f2, if_neg f1, if_neg f2]
  have hz2 : 2 ≤ f % 8 ∧ f % 8 ≤ 4 := by omega
  clear hz f1 f2
  generalize f % 8 = sz at *
  rcases hf with hf | ⟨h1, h2⟩ | ⟨h1, h2⟩
  · refine ⟨Or.inl (by omega), ?_⟩
    have x1 := e1 (by omega)
    subst x1
    rw [if_neg (by omega : ¬ m < sz), if_neg (by omega : ¬ n < sz)]
    by_cases z2 : sz ≤ 2
    · simp only [z2, if_true]
    · have x2 := e2 (by omega)
      subst x2
      by_cases z3 : sz ≤ 3
      · simp only [z2, z3, if_true, if_false]
      · have x3 := e3 (by omega)
        subst x3
        rfl
  · have x1 := e1 (by omega)
    subst x1
    refine ⟨Or.inr (Or.inl ⟨by omega, h2⟩), ?_⟩
    simp only [h2, if_true]
    repeat' split
    all_goals rfl
  · have x1 := e1 (by omega)
    have x2 := e2 (by omega)
    subst x1; subst x2
    refine ⟨Or.inr (Or.inr ⟨by omega, h2⟩), ?_⟩
    by_cases z : n < sz
    · rw [if_pos z]
      by_cases y : m < sz
      · rw [if_pos y]
      · rw [if_neg y]
        by_cases u : c1 < lo ∨ hi < c1
        · rw [if_pos u]
        · rw [if_neg u, if_neg (by omega), if_pos h2]
    · rw [if_neg z, if_neg (by omega)]
      by_cases u : c1 < lo ∨ hi < c1
      · rw [if_pos u, if_pos u]
      · rw [if_neg u, if_neg u]
        by_cases z2 : sz ≤ 2
        · simp only [z2, if_true]
        · simp only [z2, if_false, h2, if_true]
theorem get_app (a b : ByteArray) (k : Nat) (h : k < a.size) : (a ++ b).get! k = a.get! k := by
  show (a ++ b).data[k]! = a.data[k]!
  have h' : k < a.data.size := h
  rw [ByteArray.data_append]
  rw [getElem!_pos a.data k h', getElem!_pos (a.data ++ b.data) k (by simp; omega), Array.getElem_append_left h']
theorem full_cut (a b : ByteArray) (h : Tk.full a = true) : Tk.full (a ++ b) = true ∧ Utf8.decode (a ++ b) 0 = Utf8.decode a 0 := by
  have h0 : 0 < a.size := by
    by_cases e : a.size = 0
    · simp [Tk.full, e] at h
    · omega
  have hs : (a ++ b).size = a.size + b.size := ByteArray.size_append
  unfold Tk.full at h ⊢
  rw [if_neg (by omega)] at h
  rw [if_neg (by omega), hs, decode_at, decode_at, hs, get_app a b 0 h0]
  rw [decode_first4 _ _ _ _ _ (by omega) (UInt8.toNat_lt _) (UInt8.toNat_lt _) (UInt8.toNat_lt _) (UInt8.toNat_lt _), decode_first4 _ _ _ _ _ (by omega) (UInt8.toNat_lt _) (UInt8.toNat_lt _) (UInt8.toNat_lt _) (UInt8.toNat_lt _)]
  exact first4_cut a.size (a.size + b.size) _ _ _ _ _ _ _ (by omega) (by omega) (fun x => by rw [get_app a b _ x]) (fun x => by rw [get_app a b _ x]) (fun x => by rw [get_app a b _ x]) h
end Go.Proofs.YtfolnkmbdmfigaaGreatDoor

namespace Go.Proofs.YtfolnkmbdmfigaaGreatDoor
open Go.RowKit Go.Maps Go.Lib
inductive Ret | more | over | fail (no q : Int)
structure Rd where
  s : Src
  pt : Part
  st : St
  ret : Ret
def mrun : Nat → Src → Part → St → Rd
  | 0, s, pt, st => ⟨s, pt, st, .more⟩
  | n + 1, s, pt, st => if s.more = true then ⟨s, pt, st, .more⟩ else
      match (stepPart pt s.took.1.at_ st s.took.2).res with
      | .go pt' => mrun n s.took.1 pt' (stepPart pt s.took.1.at_ st s.took.2).st
      | .stop => ⟨s.took.1, pt, (stepPart pt s.took.1.at_ st s.took.2).st, .over⟩
      | .fail no q => ⟨s.took.1, pt, (stepPart pt s.took.1.at_ st s.took.2).st, .fail no q⟩
def reads (s : Src) (pt : Part) (st : St) : Rd := mrun (s.rest.size + 1) s pt st
def Src.bare (s : Src) : Src := { s with now := .nilFunc }
theorem took_bare (s : Src) : s.bare.took = (s.took.1.bare, s.took.2) := by
  unfold Src.took Src.bare; simp only; repeat' split
  all_goals rfl
theorem more_bare (s : Src) : s.bare.more = s.more := rfl
theorem stepPart_adds (pt : Part) (q : Int) (st : St) (c : Int) (h : pt.Sound) (hc : c = -1 ∨ c = -2) (hq : 0 ≤ st.quote) : ∀ pt', (stepPart pt q st c).res ≠ .go pt' := by
  cases pt with
  | plain k => exact (step_adds k q st c).neg hc hq
  | word l k =>
    cases l with
    | nil => exact absurd rfl h.1
    | cons x l => exact (stWord_adds x l k q st c).neg hc hq
  | name i k => exact (stName_adds i k q st c).neg hc hq
  | ref i k =>
    intro pt' e
    simp only [stepPart, stRef] at e
    split at e
    · rename_i hi; have := inRef_pos hi; omega
    · cases e
theorem took_less {s : Src} {pt pt' : Part} {st : St} {q : Int} (h : pt.Sound) (hq : 0 ≤ st.quote) (e : (stepPart pt q st s.took.2).res = .go pt') : s.took.1.rest.size < s.rest.size ∧ s.rest.size ≠ 0 ∧ Ch.okAt s.rest 0 = true := by
  have hn := stepPart_adds pt q st s.took.2 h
  unfold Src.took at hn e ⊢
  split
  · rename_i h0
    rw [if_pos h0] at hn e
    exact absurd e (hn (Or.inl rfl) hq pt')
  · rename_i h0
    rw [if_neg h0] at hn e
    split
    · rename_i h1
      have := Ch.decode_width s.rest 0 (by omega)
      refine ⟨?_, h0, h1⟩
      simp; omega
    · rename_i h1
      rw [if_neg h1] at hn e
      exact absurd e (hn (Or.inr rfl) hq pt')
theorem mrun_more : ∀ (n m k : Nat) (s : Src) (pt : Part) (st : St), Lim k pt st → s.rest.size < n → n ≤ m → mrun m s pt st = mrun n s pt st := by
  intro n
  induction n with
  | zero => intro m k s pt st _ h; omega
  | succ n ih =>
    intro m k s pt st hl h hm
    obtain ⟨m, rfl⟩ : ∃ j, m = j + 1 := ⟨m - 1, by omega⟩
    simp only [mrun]
    split
    · rfl
    · split
      · rename_i pt' e
        have hk := took_less hl.sound hl.quote e
        exact ih m (k + 1) _ _ _ (hl.step e) (by omega) (by omega)
      · rfl
      · rfl
end Go.Proofs.YtfolnkmbdmfigaaGreatDoor
