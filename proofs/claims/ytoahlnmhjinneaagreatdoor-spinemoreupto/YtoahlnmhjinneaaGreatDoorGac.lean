import Derived.OneCell
import Derived.OwnWalk
import Derived.Maps.AppendAt
import Derived.Maps.OwnSet
import Derived.Deep.RegionLaw
import Derived.Deep.RegionHeld3
import Derived.Deep.QuietTactic
import Derived.BigRegion
import Derived.BigQuiet
import Derived.WalkLawsBesides
import Derived.Defers
import Derived.Recover
import Derived.Test.YtoahlnmhjinneaaGreatDoorGaa
import Derived.Test.YtoahlnmhjinneaaGreatDoorGab
set_option linter.unusedVariables false
set_option linter.unusedSimpArgs false
set_option linter.unusedSimpArgs false
set_option linter.unusedVariables false
namespace Go.Proofs.YtoahlnmhjinneaaGreatDoor
open Go.RowKit Go.Maps Go.Lib

structure Fr (F : Nat → Prop) (w w' : World) : Prop where
  os : w'.os = w.os
  tape : w'.tape = w.tape
  output : w'.output = w.output
  size : w.heap.size ≤ w'.heap.size
  block : ∀ k, k < w.heap.size → ¬ F k → w'.heap[k]? = w.heap[k]?
variable {w w' w1 w2 : World} {F G : Nat → Prop} {R : Nat}
theorem Fr.refl (F : Nat → Prop) (w : World) : Fr F w w := ⟨rfl, rfl, rfl, Nat.le_refl _, fun _ _ _ => rfl⟩
theorem Fr.trans (h : Fr F w w1) (k : Fr G w1 w2) (hG : ∀ i, i < w.heap.size → G i → F i) : Fr F w w2 :=
  ⟨k.os.trans h.os, k.tape.trans h.tape, k.output.trans h.output, Nat.le_trans h.size k.size, fun i hi hf =>
    (k.block i (Nat.lt_of_lt_of_le hi h.size) (fun e => hf (hG i hi e))).trans (h.block i hi hf)⟩
theorem Fr.same (h : Fr F w w1) (k : Fr F w1 w2) : Fr F w w2 := h.trans k fun _ _ x => x
theorem Fr.below (h : Below w.heap.size w w') : Fr F w w' := ⟨h.os, h.tape, h.output, h.size, fun k hk _ => h.block k hk⟩
theorem Fr.on (h : Fr F w w1) (k : Below w1.heap.size w1 w2) : Fr F w w2 := h.same (Fr.below k)
theorem Fr.up {K : Nat} (fr : Fr F w w') (hF : ∀ k, F k → K ≤ k) (hK : K ≤ w.heap.size) : Below K w w' :=
  ⟨fr.os, fr.tape, fr.output, fr.size, fun k hk => fr.block k (by omega) (fun x => by have := hF k x; omega)⟩
theorem Fr.alloc (h : Fr F w w') (o : Obj) : Fr F w (w'.alloc o) :=
  ⟨h.os, h.tape, h.output, by have := h.size; simp; omega, fun k hk hf => (Below.heap_alloc _ _ _ (Nat.lt_of_lt_of_le hk h.size)).trans (h.block k hk hf)⟩
theorem Fr.drewN (h : Fr F w w') (n : Nat) : Fr F w (w'.drewN n) := ⟨h.os, h.tape, h.output, h.size, h.block⟩
theorem Fr.set (h : Fr F w w') (a : Addr) (u : Value) (ha : a.block < w.heap.size → F a.block) : Fr F w (w'.setCell a u) :=
  ⟨h.os, h.tape, h.output, by have := h.size; simpa [World.setCell] using this, fun k hk hf => (Below.heap_setCell _ _ _ _ (fun e => hf (by subst e; exact ha hk))).trans (h.block k hk hf)⟩
theorem Fr.mono (h : Fr F w w') (hG : ∀ k, F k → G k) : Fr G w w' := ⟨h.os, h.tape, h.output, h.size, fun k hk hf => h.block k hk (fun x => hf (hG k x))⟩
theorem below_less {K K' : Nat} (h : Below K w w') (hK : K' ≤ K) : Below K' w w' := ⟨h.os, h.tape, h.output, h.size, fun k hk => h.block k (by omega)⟩
theorem bon (h1 : Below w.heap.size w w1) (h2 : Below w1.heap.size w1 w2) : Below w.heap.size w w2 := h1.trans (below_less h2 h1.size)
theorem cell_of {R i : Nat} {cs : Array Value} {t : TypeId} {v : Value} (h : w.heap[R]? = some (.cells cs t (0, 0))) (hi : cs[i]? = some v) : w.cell? ⟨R, i, none⟩ = some v := by
  simp [World.cell?, h, hi]
theorem free_of {R i : Nat} {cs : Array Value} {t : TypeId} (h : w.heap[R]? = some (.cells cs t (0, 0))) : w.frozen? ⟨R, i, none⟩ = false := by
  simp [World.frozen?, h]
theorem set_of {R i : Nat} {cs : Array Value} {t : TypeId} (h : w.heap[R]? = some (.cells cs t (0, 0))) (v : Value) : (w.setCell ⟨R, i, none⟩ v).heap[R]? = some (.cells (cs.setIfInBounds i v) t (0, 0)) := by
  rw [setCell_eq_setRow w R i cs t (0, 0) v h]
  exact setRow_heap w R cs _ t _ h
theorem blk_lt {k : Nat} {o : Obj} (h : w.heap[k]? = some o) : k < w.heap.size := (Array.getElem?_eq_some_iff.1 h).1
theorem cell_alloc {a : Addr} {v : Value} (o : Obj) (h : w.cell? a = some v) : (w.alloc o).cell? a = some v :=
  (World.cell?_of_block (Below.heap_alloc w o a.block (World.block_lt_of_cell? w a h))).trans h
theorem Below_new (w : World) (o : Obj) : (w.alloc o).heap[w.heap.size]? = some o := heap_alloc_new w o
theorem slice_len {B : Nat} {e : TypeId} {s : Nat} {v : Value} {n : Nat} {xs : List Value} (h : w.ownsRow B e s v n xs) : ∃ ao cap, v = .slice ao n cap := by
  rcases h.2 with ⟨rfl, rfl⟩ | ⟨g, cap, cur, rfl, _⟩
  · exact ⟨_, _, rfl⟩
  · exact ⟨_, _, rfl⟩
theorem owns_of {e : TypeId} {s : Nat} {v : Value} {n : Nat} {xs : List Value} (h : w.ownsRow 0 e s v n xs) (hk : ∀ k, v.ownBlock = some k → w'.heap[k]? = w.heap[k]?) : w'.ownsRow 0 e s v n xs := by
  refine ⟨h.1, ?_⟩
  rcases h.2 with hn | ⟨g, cap, cur, rfl, hb, hg, rest⟩
  · exact Or.inl hn
  · exact Or.inr ⟨g, cap, cur, rfl, hb, by rw [hk g rfl]; exact hg, rest⟩
theorem owns_blk {e : TypeId} {s : Nat} {v : Value} {n : Nat} {xs : List Value} (h : w.ownsRow 0 e s v n xs) {k : Nat} (hk : v.ownBlock = some k) : ∃ cur, w.heap[k]? = some (.cells cur e (0, 0)) := by
  rcases h.2 with ⟨rfl, _⟩ | ⟨g, cap, cur, rfl, hb, hg, rest⟩
  · simp [Value.ownBlock] at hk
  · simp [Value.ownBlock] at hk
    subst hk
    exact ⟨cur, hg⟩
theorem own_lt {e : TypeId} {sz n : Nat} {v : Value} {xs : List Value} (h : w.ownsRow 0 e sz v n xs) {k : Nat} (hk : v.ownBlock = some k) : k < w.heap.size := by
  obtain ⟨c, hc⟩ := owns_blk h hk; exact blk_lt hc
abbrev nilS : Value := .slice none 0 0

structure RD (R : Nat) (t : L) (wh n : Nat) (w : World) (l : L) : Prop where
  blk : w.heap[R]? = some (.cells #[.string (bs t), .int .i64 wh, .int .i64 ((t.length - l.length : Nat) : Int), .int .i64 n] 109 (0, 0))
  suf : l <:+ t
  tw : t.length ≤ wh
  wh5 : wh ≤ 500
  n8 : n ≤ 8
variable {t l l' : L} {wh n : Nat}
theorem RD.lt (h : RD R t wh n w l) : R < w.heap.size := blk_lt h.blk
theorem RD.below (h : RD R t wh n w l) (hb : Below w.heap.size w w') : RD R t wh n w' l := ⟨(hb.block R h.lt).trans h.blk, h.suf, h.tw, h.wh5, h.n8⟩
theorem RD.fr (h : RD R t wh n w l) (hb : Fr F w w') (hR : ¬ F R) : RD R t wh n w' l := ⟨(hb.block R h.lt hR).trans h.blk, h.suf, h.tw, h.wh5, h.n8⟩
theorem RD.le (h : RD R t wh n w l) : l.length ≤ t.length := h.suf.length_le
theorem suf_drop (h : l <:+ t) : t.drop (t.length - l.length) = l := by
  obtain ⟨p, rfl⟩ := h
  simp [List.drop_append]
theorem bs_size (l : L) : (bs l).size = l.length := by simp [bs, ByteArray.size]
theorem bs_list (l : L) : (bs l).data.toList = l := by simp [bs]
theorem bs_toL (l : L) : (bs l).toList = l := by rw [ByteArray.toList_eq, bs_list]
theorem bs_extract (l : L) (i j : Nat) : (bs l).extract i j = bs ((l.drop i).take (j - i)) := by
  simp [bs, ByteArray.extract_mk]
theorem rest_run (h : l <:+ t) (w : World) : (Instr.slice 9 (.string (bs t)) (some (.int .i64 ((t.length - l.length : Nat) : Int))) none none).run Tryz.prog w = .ok (.string (bs l)) w := by
  have e : bs l = (bs t).extract (t.length - l.length) (bs t).size := by rw [bs_extract, bs_size, suf_drop h, List.take_of_length_le (by have := h.length_le; omega)]
  have hle := h.length_le
  rw [run_slice_string_from_if _ _ _ _ _ Tryz.underlying9, if_pos ⟨by omega, by rw [bs_size]; omega⟩, e]
  rfl
end Go.Proofs.YtoahlnmhjinneaaGreatDoor

set_option linter.unusedSimpArgs false
set_option linter.unusedVariables false
namespace Go.Proofs.YtoahlnmhjinneaaGreatDoor
open Go.RowKit Go.Maps Go.Lib
variable {w w' w1 w2 : World} {F G : Nat → Prop} {R : Nat} {t l l' : L} {wh n : Nat}
abbrev thrown (no k : Nat) (t : L) : Ending := .panicked [{ v := .iface 105 (.agg #[.int .i64 no, .int .i64 ((t.length - k : Nat) : Int)]), recovered := false }]
abbrev cutB (t : L) (wh : Nat) : Bool := decide (t.length < wh)
theorem fail_ok (h : RD R t wh n w l) : Calls Tryz.prog 73 #[.pointer (some ⟨R, 0, none⟩)] w fun e w' => e = thrown (bad (cutB t wh) l).1 (bad (cutB t wh) l).2 t ∧ Fr (fun k => k = R) w w' := by
  have c0 : w.cell? ⟨R, 0, none⟩ = some (.string (bs t)) := cell_of h.blk rfl
  have c1 : w.cell? ⟨R, 1, none⟩ = some (.int .i64 wh) := cell_of h.blk rfl
  have c2 : w.cell? ⟨R, 2, none⟩ = some (.int .i64 ((t.length - l.length : Nat) : Int)) := cell_of h.blk rfl
  have hle := h.le
  have htw := h.tw
  obtain ⟨at_, ha⟩ : ∃ k, t.length - l.length = k := ⟨_, rfl⟩
  obtain ⟨b1, hb1⟩ : ∃ b, decide (l = []) = b := ⟨_, rfl⟩
  have hb2 : ((at_ : Int) == ((bs t).size : Int)) = b1 := by
    rw [bs_size, ← hb1, Bool.eq_iff_iff]
    simp only [beq_iff_eq, decide_eq_true_eq]
    constructor
    · intro e; exact List.length_eq_zero_iff.1 (by omega)
    · rintro rfl; simp at ha; omega
  have hbad : bad (cutB t wh) l = (if b1 = true ∧ decide (t.length < wh) = true then 2 else 3, l.length) := by
    simp only [bad, cutB, ← hb1, decide_eq_true_eq]
  have hlt : b1 = true → decide (at_ < wh) = decide (t.length < wh) := by
    intro e; rw [← hb1, decide_eq_true_eq] at e; subst e; simp at ha; subst ha; rfl
  have hth : ∀ no : Nat, thrown no l.length t = .panicked [{ v := .iface 105 (.agg #[.int .i64 no, .int .i64 at_]), recovered := false }] := fun no => by rw [thrown, ha]
  rw [ha] at c2
  rw [hbad]
  have HF := hide (Fr.refl (fun k => k = R) w)
  have HT := hide hth
  clear h hbad hb1 hle htw ha hth
  cases b1 with
  | false =>
    simp only [Bool.false_eq_true, false_and, if_false]
    go_enter Tryz.func73, Tryz.ntmps73
    go_wp2_with fail
    go_quiet (fail)
    go_wp2
    exact ⟨rfl, (HT.out 3).symm, HF.out.drewN _⟩
  | true =>
    obtain ⟨b2, hb3⟩ : ∃ b, decide (t.length < wh) = b := ⟨_, rfl⟩
    have hlt2 := hlt rfl
    rw [hb3] at hlt2 ⊢
    clear hlt hb3
    cases b2 with
    | false =>
      simp only [Bool.false_eq_true, and_false, if_false]
      go_enter Tryz.func73, Tryz.ntmps73
      go_wp2_with fail
      go_quiet (fail)
      go_wp2
      exact ⟨rfl, (HT.out 3).symm, HF.out.drewN _⟩
    | true =>
      simp only [and_self, if_true]
      go_enter Tryz.func73, Tryz.ntmps73
      go_wp2_with fail
      go_quiet (fail)
      go_wp2
      exact ⟨rfl, (HT.out 2).symm, HF.out.drewN _⟩
theorem nameFrom_le (s : ByteArray) : ∀ f pos, pos ≤ s.size → Ch.nameFrom s f pos ≤ s.size := by
  intro f
  induction f with
  | zero => intro pos h; exact h
  | succ f ih =>
    intro pos h
    unfold Ch.nameFrom
    split
    · split
      · exact ih _ (Ch.decode_width s pos ‹_›).1
      · omega
    · omega
theorem nm_le (l : L) : nm l ≤ l.length := by have := nameFrom_le (bs l) ((bs l).size + 1) 0 (Nat.zero_le _); rw [bs_size] at this; unfold nm Ch.name; rw [bs_size]; exact this
theorem take_run (l : L) (k : Nat) (hk : k ≤ l.length) (w : World) : (Instr.slice 9 (.string (bs l)) none (some (.int .i64 (k : Int))) none).run Tryz.prog w = .ok (.string (bs (l.take k))) w := by
  rw [run_slice_string_to_if _ _ _ _ _ Tryz.underlying9, if_pos ⟨by omega, by rw [bs_size]; omega⟩, bs_extract]
  simp
theorem take_run1 (l : L) (hk : 1 ≤ l.length) (w : World) : (Instr.slice 9 (.string (bs l)) none (some (.int .i64 1)) none).run Tryz.prog w = .ok (.string (bs (l.take 1))) w := take_run l 1 hk w
theorem take_run2 (l : L) (hk : 2 ≤ l.length) (w : World) : (Instr.slice 9 (.string (bs l)) none (some (.int .i64 2)) none).run Tryz.prog w = .ok (.string (bs (l.take 2))) w := take_run l 2 hk w
theorem below_dr {nq : Nat} (hb : Below (w.drewN nq).heap.size (w.drewN nq) w') : Below w.heap.size w w' := ⟨hb.os, hb.tape, hb.output, hb.size, hb.block⟩
theorem pre2 {l : L} {a b : UInt8} (h : Lib.hasPrefix l [a, b] = true) : 2 ≤ l.length := by
  match l, h with
  | [], h => simp [Lib.hasPrefix, List.isPrefixOf] at h
  | [x], h => simp [Lib.hasPrefix, List.isPrefixOf] at h
  | x :: y :: r, h => simp
set_option maxHeartbeats 2000000 in
theorem part_ok (h : RD R t wh n w l) : Calls Tryz.prog 94 #[.pointer (some ⟨R, 0, none⟩)] w fun e w' => e = .returned (.string (bs (part l))) ∧ Below w.heap.size w w' := by
  have c0 : w.cell? ⟨R, 0, none⟩ = some (.string (bs t)) := cell_of h.blk rfl
  have c2 : w.cell? ⟨R, 2, none⟩ = some (.int .i64 ((t.length - l.length : Nat) : Int)) := cell_of h.blk rfl
  have hr := rest_run h.suf
  have hnm : ∀ w : World, Calls Tryz.prog 121 #[.string (bs l)] w fun e w' => e = .returned (.int .i64 (nm l)) ∧ Below w.heap.size w w' := fun w => nameC_any (bs l) w (by rw [bs_size]; have := h.le; have := h.tw; have := h.wh5; omega)
  have hp : ∀ (p : L) (w : World), Calls Tryz.prog 88 #[.string (bs l), .string ⟨p.toArray⟩] w fun e w' => e = .returned (.bool (Lib.hasPrefix l p)) ∧ w' = w := fun p w => by
    have := Tryz.strings_HasPrefix (bs l) ⟨p.toArray⟩ w; rw [bs_list] at this; simpa using this
  have hnl := nm_le l
  have hpart : ∀ x, x = part l → bs x = bs (part l) := fun x e => by rw [e]
  generalize hat : (((t.length - l.length : Nat)) : Int) = at_ at *
  have HP := hide hp
  have HNM := hide hnm
  have HB := hide (Below.refl w.heap.size w)
  clear h hp hnm hat
  by_cases h0 : 0 < nm l
  · have e1 : part l = l.take (nm l) := by unfold part; rw [if_pos h0]
    rw [e1]
    have ht := take_run l (nm l) hnl
    generalize hN : nm l = N at *
    have hd : decide (0 < N) = true := by simpa using h0
    clear e1 hpart
    have hd2 : decide ((N : Int) > 0) = true := by simp; omega
    go_enter Tryz.func94, Tryz.ntmps94
    go_wp2_with fail
    go_quiet (fail)
    go_wp2_with (go_at_call 121; refine (HNM.out _).mono ?_; rintro e w' ⟨rfl, hb⟩)
    go_ret
    exact ⟨by first | rfl | simp [bs_extract], below_dr hb⟩
  · have e0 : nm l = 0 := by omega
    rw [e0] at HNM
    have hd : decide ((0 : Int) > 0) = false := rfl
    obtain ⟨b1, hb1⟩ : ∃ b, Lib.hasPrefix l [47, 47] = b := ⟨_, rfl⟩
    cases b1 with
    | true =>
      have e1 : part l = l.take 2 := by unfold part; rw [if_neg h0, if_pos (Or.inl hb1)]
      rw [e1]
      have ht := take_run2 l (pre2 hb1)
      have H1 := HP.out [47, 47]
      rw [hb1] at H1
      have HH := hide H1
      clear H1 e1 h0 e0 hb1 hpart hnl
      go_enter Tryz.func94, Tryz.ntmps94
      go_wp2_with fail
      go_quiet (fail)
      go_wp2_with (first | (go_at_call 121; refine (HNM.out _).mono ?_; rintro e w' ⟨rfl, hb⟩) | (go_at_call 88; refine (HH.out _).mono ?_; rintro e w' ⟨rfl, rfl⟩))
      go_ret
      exact ⟨by first | rfl | simp [bs_extract], below_dr hb⟩
    | false =>
      obtain ⟨b2, hb2⟩ : ∃ b, Lib.hasPrefix l [33, 61] = b := ⟨_, rfl⟩
      cases b2 with
      | true =>
        have e1 : part l = l.take 2 := by unfold part; rw [if_neg h0, if_pos (Or.inr hb2)]
        rw [e1]
        have ht := take_run2 l (pre2 hb2)
        clear e1 h0 e0 hpart hnl
        go_enter Tryz.func94, Tryz.ntmps94
        go_wp2_with fail
        go_quiet (fail)
        go_wp2_with (first | (go_at_call 121; refine (HNM.out _).mono ?_; rintro e w' ⟨rfl, hb⟩) | (go_at_call 88; refine (HP.out _ _).mono ?_; rintro e w' ⟨rfl, rfl⟩))
        go_ret
        exact ⟨by first | rfl | simp [bs_extract], below_dr hb⟩
      | false =>
        have e1 : part l = l.take 1 := by unfold part; rw [if_neg h0, if_neg (by rw [hb1, hb2]; simp)]
        rw [e1]
        by_cases hl : l = []
        · have hem : (bs l).toList.isEmpty = true := by rw [bs_toL, hl]; rfl
          have HQ : Hid (bs (l.take 1) = ⟨#[]⟩) := by rw [hl]; rfl
          clear e1 h0 e0 hpart hnl hl
          go_enter Tryz.func94, Tryz.ntmps94
          go_wp2_with fail
          go_quiet (fail)
          go_wp2_with (first | (go_at_call 121; refine (HNM.out _).mono ?_; rintro e w' ⟨rfl, hb⟩) | (go_at_call 88; refine (HP.out _ _).mono ?_; rintro e w' ⟨rfl, rfl⟩))
          go_ret
          exact ⟨by rw [HQ.out]; rfl, below_dr hb⟩
        · have hlen : 1 ≤ l.length := by cases l; exact absurd rfl hl; simp
          have ht := take_run1 l hlen
          have hne : ((bs l).data.toList == []) = false := by rw [bs_list]; cases l; exact absurd rfl hl; rfl
          have hne2 : (bs l).toList.isEmpty = false := by rw [bs_toL]; cases l; exact absurd rfl hl; rfl
          clear e1 h0 e0 hpart hnl
          go_enter Tryz.func94, Tryz.ntmps94
          go_wp2_with fail
          go_quiet (fail)
          go_wp2_with (first | (go_at_call 121; refine (HNM.out _).mono ?_; rintro e w' ⟨rfl, hb⟩) | (go_at_call 88; refine (HP.out _ _).mono ?_; rintro e w' ⟨rfl, rfl⟩))
          go_ret
          exact ⟨by first | rfl | simp [bs_extract], below_dr hb⟩
end Go.Proofs.YtoahlnmhjinneaaGreatDoor

set_option linter.unusedSimpArgs false
set_option linter.unusedVariables false
namespace Go.Proofs.YtoahlnmhjinneaaGreatDoor
open Go.RowKit Go.Maps Go.Lib
variable {w w' w1 w2 : World} {F G : Nat → Prop} {R : Nat} {t l l' : L} {wh n : Nat}
theorem rest_run2 (h : l <:+ t) (m : Nat) (hm : m ≤ l.length) (w : World) : (Instr.slice 9 (.string (bs t)) (some (.int .i64 (((t.length - l.length : Nat) : Int) + m))) none none).run Tryz.prog w = .ok (.string (bs (l.drop m))) w := by
  have hs : l.drop m <:+ t := (List.drop_suffix _ _).trans h
  have := rest_run hs w
  have hle := h.length_le
  have hlen : (l.drop m).length = l.length - m := List.length_drop
  rw [show (((t.length - l.length : Nat) : Int) + m) = ((t.length - (l.drop m).length : Nat) : Int) by rw [hlen]; omega]
  exact this
theorem pass_nums (t l : L) (m : Nat) (h : l <:+ t) (ht : t.length ≤ 500) (hm : m ≤ l.length) : IntKind.i64.wrap (((t.length - l.length : Nat) : Int) + m) = ((t.length - l.length : Nat) : Int) + m ∧
    IntKind.i64.wrap ((t.length : Int) - ((pass m l).length : Int)) = ((t.length - (pass m l).length : Nat) : Int) := by
  have h1 := h.length_le
  have h2 := (pass_suf m l).length_le
  rw [IntKind.wrap_i64, IntKind.wrap_i64]
  omega
theorem trim_ok (l : L) (w : World) : Calls Tryz.prog 90 #[.string (bs l), .string ⟨#[9, 10, 13, 32]⟩] w fun e w' => e = .returned (.string (bs (skip l))) ∧ Below w.heap.size w w' := by
  have := Tryz.strings_TrimLeft_blanks (bs l) w; rw [bs_list] at this; exact this
set_option maxHeartbeats 2000000 in
theorem pass_ok (m : Nat) (h : RD R t wh n w l) (hm : m ≤ l.length) : Calls Tryz.prog 70 #[.pointer (some ⟨R, 0, none⟩), .int .i64 m] w fun e w' => e = .returned (.tuple #[]) ∧ RD R t wh n w' (pass m l) ∧ Fr (fun k => k = R) w w' := by
  have c0 : w.cell? ⟨R, 0, none⟩ = some (.string (bs t)) := cell_of h.blk rfl
  have c2 : w.cell? ⟨R, 2, none⟩ = some (.int .i64 ((t.length - l.length : Nat) : Int)) := cell_of h.blk rfl
  have hr := rest_run2 h.suf m hm
  obtain ⟨n1, n2⟩ := pass_nums t l m h.suf (by have := h.tw; have := h.wh5; omega) hm
  have hz1 := bs_size t
  have hz2 := bs_size (pass m l)
  have HT := hide (trim_ok (l.drop m))
  have H := hide h
  clear h
  have hp : skip (l.drop m) = pass m l := rfl
  rw [hp] at HT
  generalize ((t.length - l.length : Nat) : Int) = at_ at *
  have HC : Hid (∀ W, Below w.heap.size w W → W.cell? ⟨R, 0, none⟩ = some (.string (bs t))) := fun W hW => (World.cell?_of_block (hW.block R H.out.lt)).trans c0
  have hE : ∀ W, Below w.heap.size w W → W.cell? ⟨R, 2, none⟩ = some (.int .i64 at_) ∧ W.frozen? ⟨R, 2, none⟩ = false ∧ RD R t wh n (W.setCell ⟨R, 2, none⟩ (.int .i64 ((t.length - (pass m l).length : Nat) : Int))) (pass m l) ∧ Fr (fun k => k = R) w (W.setCell ⟨R, 2, none⟩ (.int .i64 ((t.length - (pass m l).length : Nat) : Int))) := fun W hW => by
    have hb := (hW.block R H.out.lt).trans H.out.blk
    exact ⟨(World.cell?_of_block (hW.block R H.out.lt)).trans c2, free_of hb, ⟨set_of hb _, (pass_suf m l).trans H.out.suf, H.out.tw, H.out.wh5, H.out.n8⟩, (Fr.below hW).set _ _ (fun _ => rfl)⟩
  have HE := hide hE
  have d0 : ∀ k, (w.drewN k).cell? ⟨R, 0, none⟩ = some (.string (bs t)) := fun _ => c0
  clear hE hp
  have HB0 : Hid (∀ k, Below w.heap.size w (w.drewN k)) := fun k => ⟨rfl, rfl, rfl, Nat.le_refl _, fun _ _ => rfl⟩
  go_enter Tryz.func70, Tryz.ntmps70
  go_wp2_with fail
  go_quiet (fail)
  go_wp2_with fail
  obtain ⟨c2', f2', rd', fr'⟩ := HE.out _ (HB0.out nq)
  go_region_held3 (fun W => W.cell? ⟨R, 0, none⟩ = some (.string (bs t)))
    (first | exact c0 | exact HC.out _ hb2 | exact cell_of rd'.blk rfl)
    (first | (go_at_call 90; refine (HT.out _).mono ?_; rintro e w3 ⟨rfl, hb⟩; have hb2 : Below w.heap.size w w3 := ⟨hb.os, hb.tape, hb.output, hb.size, hb.block⟩; clear hb; obtain ⟨c2', f2', rd', fr'⟩ := HE.out _ hb2))
  all_goals
    go_end0
    exact ⟨rfl, rd', fr'⟩
theorem part_len (l : L) : (part l).length ≤ l.length := by
  unfold part
  split
  · exact List.length_take_le' _ _
  · split <;> exact List.length_take_le' _ _
theorem eqL (a b : L) : ((bs a).toList == (bs b).toList) = (a == b) := by rw [bs_toL, bs_toL]
set_option maxHeartbeats 2000000 in
theorem take_yes {p : L} (h : RD R t wh n w l) (hp : part l = p) : Calls Tryz.prog 72 #[.pointer (some ⟨R, 0, none⟩), .string (bs p)] w fun e w' => e = .returned (.bool true) ∧ RD R t wh n w' (pass p.length l) ∧ Fr (fun k => k = R) w w' := by
  have HP := hide (part_ok h)
  have HA : Hid (∀ W, Below w.heap.size w W → Calls Tryz.prog 70 #[.pointer (some ⟨R, 0, none⟩), .int .i64 (p.length : Int)] W fun e w' => e = .returned (.tuple #[]) ∧ RD R t wh n w' (pass p.length l) ∧ Fr (fun k => k = R) W w') := fun W hW => pass_ok p.length (h.below hW) (by rw [← hp]; exact part_len l)
  rw [hp] at HP
  have hne : ((bs p).toList == (bs p).toList) = true := by simp
  have hz := bs_size p
  clear h hp
  go_enter Tryz.func72, Tryz.ntmps72
  go_wp2_with (first | (go_at_call 94; refine HP.out.mono ?_; rintro e w1 ⟨rfl, hb⟩) | (go_at_call 70; refine (HA.out _ hb).mono ?_; rintro e w2 ⟨rfl, rd, fr⟩))
  go_ret
  exact ⟨rfl, rd, (Fr.below hb).same fr⟩
set_option maxHeartbeats 2000000 in
theorem take_no {p : L} (h : RD R t wh n w l) (hp : part l ≠ p) : Calls Tryz.prog 72 #[.pointer (some ⟨R, 0, none⟩), .string (bs p)] w fun e w' => e = .returned (.bool false) ∧ Below w.heap.size w w' := by
  have HP := hide (part_ok h)
  have hne : ((bs (part l)).toList == (bs p).toList) = false := by rw [eqL]; simpa using hp
  clear h hp
  go_enter Tryz.func72, Tryz.ntmps72
  go_wp2_with (first | (go_at_call 94; refine HP.out.mono ?_; rintro e w1 ⟨rfl, hb⟩))
  go_ret
  exact ⟨rfl, hb⟩
def Threw (R : Nat) (t : L) (x : Nat × Nat) (w : World) (e : Ending) (w' : World) : Prop := e = thrown x.1 x.2 t ∧ Fr (fun k => k = R) w w'
set_option maxHeartbeats 2000000 in
theorem want_yes {p : L} (h : RD R t wh n w l) (hp : part l = p) : Calls Tryz.prog 120 #[.pointer (some ⟨R, 0, none⟩), .string (bs p)] w fun e w' => e = .returned (.tuple #[]) ∧ RD R t wh n w' (pass p.length l) ∧ Fr (fun k => k = R) w w' := by
  have HP := hide (take_yes h hp)
  clear h hp
  go_enter Tryz.func120, Tryz.ntmps120
  go_wp2_with (first | (go_at_call 72; refine HP.out.mono ?_; rintro e w1 ⟨rfl, rd, fr⟩))
  go_end0
  exact ⟨rfl, rd, fr⟩
set_option maxHeartbeats 2000000 in
theorem want_no {p : L} (h : RD R t wh n w l) (hp : part l ≠ p) : Calls Tryz.prog 120 #[.pointer (some ⟨R, 0, none⟩), .string (bs p)] w (Threw R t (bad (cutB t wh) l) w) := by
  have HP := hide (take_no h hp)
  have HA : Hid (∀ W, Below w.heap.size w W → Calls Tryz.prog 73 #[.pointer (some ⟨R, 0, none⟩)] W (Threw R t (bad (cutB t wh) l) W)) := fun W hW => fail_ok (h.below hW)
  clear h hp
  go_enter Tryz.func120, Tryz.ntmps120
  go_wp2_with (first | (go_at_call 72; refine HP.out.mono ?_; rintro e w1 ⟨rfl, hb⟩) | (go_at_call 73; refine (HA.out _ hb).mono ?_; rintro e w2 ⟨rfl, fr⟩))
  exact ⟨rfl, rfl, (Fr.below hb).same fr⟩
end Go.Proofs.YtoahlnmhjinneaaGreatDoor

set_option linter.unusedSimpArgs false
set_option linter.unusedVariables false
namespace Go.Proofs.YtoahlnmhjinneaaGreatDoor
open Go.RowKit Go.Maps Go.Lib
variable {w w' w1 w2 : World} {F G : Nat → Prop} {R : Nat} {t l l' : L} {wh n : Nat}
def Ends {α : Type} (R : Nat) (t : L) (wh n : Nat) (V : World → Value → α → Prop) (w : World) (x : Rs α) (e : Ending) (w' : World) : Prop := match x with
  | .ok (a, l') => ∃ v, e = .returned v ∧ V w' v a ∧ RD R t wh n w' l' ∧ Fr (fun k => k = R) w w'
  | .error y => Threw R t y w e w'
def VS (_ : World) (v : Value) (a : L) : Prop := v = .string (bs a)
def VB (_ : World) (v : Value) (a : Bool) : Prop := v = .bool a
abbrev ptr (R : Nat) : Value := .pointer (some ⟨R, 0, none⟩)
set_option maxHeartbeats 2000000 in
theorem calls_ok (word : L) (h : RD R t wh n w l) : Calls Tryz.prog 138 #[ptr R, .string (bs word)] w fun e w' => e = .returned (.bool (calls word l)) ∧ Below w.heap.size w w' := by
  have HP := hide (part_ok h)
  by_cases hp : part l = word
  · have hm : word.length ≤ l.length := by rw [← hp]; exact part_len l
    have e1 : calls word l = Lib.hasPrefix (skip (l.drop word.length)) [40] := by unfold calls; rw [hp]; simp
    rw [e1]
    rw [hp] at HP
    have hne : ((bs word).toList == (bs word).toList) = true := by simp
    have hz := bs_size word
    have hr := rest_run2 h.suf word.length hm
    obtain ⟨n1, n2⟩ := pass_nums t l word.length h.suf (by have := h.tw; have := h.wh5; omega) hm
    have HT := hide (trim_ok (l.drop word.length))
    have hc : ∀ W, Below w.heap.size w W → W.cell? ⟨R, 0, none⟩ = some (.string (bs t)) ∧ W.cell? ⟨R, 2, none⟩ = some (.int .i64 ((t.length - l.length : Nat) : Int)) := fun W hW => ⟨cell_of (h.below hW).blk rfl, cell_of (h.below hW).blk rfl⟩
    have HC := hide hc
    have HH : Hid (∀ W, Calls Tryz.prog 88 #[.string (bs (skip (l.drop word.length))), .string ⟨#[40]⟩] W fun e w' => e = .returned (.bool (Lib.hasPrefix (skip (l.drop word.length)) [40])) ∧ w' = W) := fun W => by
      have := Tryz.strings_HasPrefix (bs (skip (l.drop word.length))) ⟨#[40]⟩ W; rw [bs_list] at this; exact this
    generalize ((t.length - l.length : Nat) : Int) = at_ at *
    generalize skip (l.drop word.length) = sk at *
    clear h hp e1 hc n2
    go_enter Tryz.func138, Tryz.ntmps138
    go_wp2_with (first | (go_at_call 94; refine HP.out.mono ?_; rintro e w1 ⟨rfl, hb⟩; obtain ⟨c0, c2⟩ := HC.out _ hb))
    go_region_held3 (fun W => W.cell? ⟨R, 0, none⟩ = some (.string (bs t)) ∧ W.cell? ⟨R, 2, none⟩ = some (.int .i64 at_))
      (first | exact ⟨c0, c2⟩ | exact HC.out _ hb2)
      (first | (go_at_call 90; refine (HT.out _).mono ?_; rintro e w3 ⟨rfl, hb3⟩; have hb2 : Below w.heap.size w w3 := bon hb ⟨hb3.os, hb3.tape, hb3.output, hb3.size, hb3.block⟩; clear hb3))
    all_goals
      go_wp2_with (first | (go_at_call 88; refine (HH.out _).mono ?_; rintro e w4 ⟨rfl, rfl⟩))
      go_ret
      exact ⟨rfl, hb2⟩
  · have e1 : calls word l = false := by unfold calls; simp [hp]
    rw [e1]
    have hne : ((bs (part l)).toList == (bs word).toList) = false := by rw [eqL]; simpa using hp
    clear h hp e1
    go_enter Tryz.func138, Tryz.ntmps138
    go_wp2_with (first | (go_at_call 94; refine HP.out.mono ?_; rintro e w1 ⟨rfl, hb⟩))
    go_ret
    exact ⟨rfl, hb⟩
theorem slice_run (h : l <:+ t) (m : Nat) (hm : m ≤ l.length) (w : World) : (Instr.slice 9 (.string (bs t)) (some (.int .i64 ((t.length - l.length : Nat) : Int))) (some (.int .i64 (((t.length - l.length : Nat) : Int) + m))) none).run Tryz.prog w = .ok (.string (bs (l.take m))) w := by
  have hle := h.length_le
  have := run_slice_string (P := Tryz.prog) w 9 (bs t) .i64 .i64 ((t.length - l.length : Nat) : Int) (((t.length - l.length : Nat) : Int) + m) Tryz.underlying9 (by omega) (by omega) (by rw [bs_size]; omega)
  have e : (((t.length - l.length : Nat) : Int) + m).toNat - ((t.length - l.length : Nat) : Int).toNat = m := by omega
  rw [this, bs_extract, e, Int.toNat_natCast, suf_drop h]
set_option maxHeartbeats 2000000 in
theorem name_ok (h : RD R t wh n w l) : Calls Tryz.prog 139 #[ptr R] w (Ends R t wh n VS w (name (cutB t wh) l)) := by
  have c0 : w.cell? ⟨R, 0, none⟩ = some (.string (bs t)) := cell_of h.blk rfl
  have c2 : w.cell? ⟨R, 2, none⟩ = some (.int .i64 ((t.length - l.length : Nat) : Int)) := cell_of h.blk rfl
  have hr := rest_run h.suf
  have hnl := nm_le l
  have HNM : Hid (∀ w : World, Calls Tryz.prog 121 #[.string (bs l)] w fun e w' => e = .returned (.int .i64 (nm l)) ∧ Below w.heap.size w w') := fun w => nameC_any (bs l) w (by rw [bs_size]; have := h.le; have := h.tw; have := h.wh5; omega)
  have HCL : Hid (∀ (word : L) (W : World), Below w.heap.size w W → Calls Tryz.prog 138 #[ptr R, .string (bs word)] W fun e w' => e = .returned (.bool (calls word l)) ∧ Below W.heap.size W w') := fun word W hW => calls_ok word (h.below hW)
  have HFA : Hid (∀ W, Below w.heap.size w W → Calls Tryz.prog 73 #[ptr R] W (Threw R t (bad (cutB t wh) l) W)) := fun W hW => fail_ok (h.below hW)
  have HPA : Hid (∀ W, Below w.heap.size w W → Calls Tryz.prog 70 #[ptr R, .int .i64 (nm l)] W fun e w' => e = .returned (.tuple #[]) ∧ RD R t wh n w' (pass (nm l) l) ∧ Fr (fun k => k = R) W w') := fun W hW => pass_ok _ (h.below hW) hnl
  have HC : Hid (∀ W, Below w.heap.size w W → W.cell? ⟨R, 0, none⟩ = some (.string (bs t)) ∧ W.cell? ⟨R, 2, none⟩ = some (.int .i64 ((t.length - l.length : Nat) : Int))) := fun W hW => ⟨cell_of (h.below hW).blk rfl, cell_of (h.below hW).blk rfl⟩
  have hs := slice_run h.suf (nm l) hnl
  have hwr : IntKind.i64.wrap (((t.length - l.length : Nat) : Int) + nm l) = ((t.length - l.length : Nat) : Int) + nm l := (pass_nums t l (nm l) h.suf (by have := h.tw; have := h.wh5; omega) hnl).1
  obtain ⟨b0, hb0⟩ : ∃ b, decide (nm l = 0) = b := ⟨_, rfl⟩
  have h0 : ((nm l : Int) == 0) = b0 := by rw [← hb0, Bool.eq_iff_iff]; simp
  obtain ⟨b1, hb1⟩ : ∃ b, calls wNot l = b := ⟨_, rfl⟩
  obtain ⟨b2, hb2⟩ : ∃ b, calls wText l = b := ⟨_, rfl⟩
  have hname : name (cutB t wh) l = if b0 = true ∨ b1 = true ∨ b2 = true then .error (bad (cutB t wh) l) else .ok (l.take (nm l), pass (nm l) l) := by
    unfold name; rw [hb1, hb2, ← hb0]; simp only [decide_eq_true_eq]
  have hb1 : calls [110, 111, 116] l = b1 := hb1
  have hb2 : calls [116, 101, 120, 116] l = b2 := hb2
  have HCL : Hid (∀ (word : L) (W : World), Below w.heap.size w W → Calls Tryz.prog 138 #[ptr R, .string ⟨word.toArray⟩] W fun e w' => e = .returned (.bool (calls word l)) ∧ Below W.heap.size W w') := fun word W hW => HCL.out word W hW
  rw [hname]
  clear h hname hb0 hnl
  generalize ((t.length - l.length : Nat) : Int) = at_ at *
  generalize nm l = N at *
  cases b0 with
  | true =>
    simp only [Bool.false_eq_true, false_or, or_false, true_or, or_true, if_true, if_false]
    go_enter Tryz.func139, Tryz.ntmps139
    go_wp2_with fail
    go_region_held3 (fun W => W.cell? ⟨R, 0, none⟩ = some (.string (bs t)) ∧ W.cell? ⟨R, 2, none⟩ = some (.int .i64 at_))
      (first | exact ⟨c0, c2⟩ | exact HC.out _ hb)
      (first | (go_at_call 121; refine (HNM.out _).mono ?_; rintro e w1 ⟨rfl, hb3⟩; have hb : Below w.heap.size w w1 := ⟨hb3.os, hb3.tape, hb3.output, hb3.size, hb3.block⟩; clear hb3))
    all_goals
      go_wp2_with (first | (go_at_call 73; refine (HFA.out _ hb).mono ?_; rintro e w2 ⟨rfl, fr⟩))
      exact ⟨rfl, rfl, (Fr.below hb).same fr⟩
  | false =>
   cases b1 with
   | true =>
    simp only [Bool.false_eq_true, false_or, or_false, true_or, or_true, if_true, if_false]
    go_enter Tryz.func139, Tryz.ntmps139
    go_wp2_with fail
    go_region_held3 (fun W => W.cell? ⟨R, 0, none⟩ = some (.string (bs t)) ∧ W.cell? ⟨R, 2, none⟩ = some (.int .i64 at_))
      (first | exact ⟨c0, c2⟩ | exact HC.out _ hb)
      (first | (go_at_call 121; refine (HNM.out _).mono ?_; rintro e w1 ⟨rfl, hb3⟩; have hb : Below w.heap.size w w1 := ⟨hb3.os, hb3.tape, hb3.output, hb3.size, hb3.block⟩; clear hb3))
    all_goals
      go_wp2_with (first | (go_at_call 138; refine (HCL.out _ _ hb).mono ?_; rintro e w2 ⟨rfl, hb4⟩; have hb5 := bon hb hb4) | (go_at_call 73; refine (HFA.out _ hb5).mono ?_; rintro e w2 ⟨rfl, fr⟩))
      exact ⟨rfl, rfl, (Fr.below hb5).same fr⟩
   | false =>
    cases b2 with
    | true =>
     simp only [Bool.false_eq_true, false_or, or_false, true_or, or_true, if_true, if_false]
     go_enter Tryz.func139, Tryz.ntmps139
     go_wp2_with fail
     go_region_held3 (fun W => W.cell? ⟨R, 0, none⟩ = some (.string (bs t)) ∧ W.cell? ⟨R, 2, none⟩ = some (.int .i64 at_))
       (first | exact ⟨c0, c2⟩ | exact HC.out _ hb)
       (first | (go_at_call 121; refine (HNM.out _).mono ?_; rintro e w1 ⟨rfl, hb3⟩; have hb : Below w.heap.size w w1 := ⟨hb3.os, hb3.tape, hb3.output, hb3.size, hb3.block⟩; clear hb3))
     all_goals
       go_wp2_with (first | (go_at_call 138; first | (refine (HCL.out _ _ hb5).mono ?_; rintro e w3 ⟨rfl, hb6⟩; have hb7 := bon hb5 hb6) | (refine (HCL.out _ _ hb).mono ?_; rintro e w2 ⟨rfl, hb4⟩; have hb5 := bon hb hb4)) | (go_at_call 73; refine (HFA.out _ hb7).mono ?_; rintro e w2 ⟨rfl, fr⟩))
       exact ⟨rfl, rfl, (Fr.below hb7).same fr⟩
    | false =>
     simp only [Bool.false_eq_true, false_or, or_false, true_or, or_true, if_true, if_false]
     go_enter Tryz.func139, Tryz.ntmps139
     go_wp2_with fail
     go_region_held3 (fun W => W.cell? ⟨R, 0, none⟩ = some (.string (bs t)) ∧ W.cell? ⟨R, 2, none⟩ = some (.int .i64 at_))
       (first | exact ⟨c0, c2⟩ | exact HC.out _ hb)
       (first | (go_at_call 121; refine (HNM.out _).mono ?_; rintro e w1 ⟨rfl, hb3⟩; have hb : Below w.heap.size w w1 := ⟨hb3.os, hb3.tape, hb3.output, hb3.size, hb3.block⟩; clear hb3))
     all_goals
       go_wp2_with (first | (go_at_call 138; first | (refine (HCL.out _ _ hb5).mono ?_; rintro e w3 ⟨rfl, hb6⟩; have hb7 := bon hb5 hb6; obtain ⟨d0, d2⟩ := HC.out _ hb7) | (refine (HCL.out _ _ hb).mono ?_; rintro e w2 ⟨rfl, hb4⟩; have hb5 := bon hb hb4)))
       go_quiet (fail)
       have hb8 : Below w.heap.size w (w3.drewN nq) := ⟨hb7.os, hb7.tape, hb7.output, hb7.size, hb7.block⟩
       go_wp2_with (go_at_call 70; refine (HPA.out _ hb8).mono ?_; rintro e w4 ⟨rfl, rd, fr⟩)
       go_ret
       exact ⟨_, rfl, rfl, rd, (Fr.below hb7).same ⟨fr.os, fr.tape, fr.output, fr.size, fr.block⟩⟩
end Go.Proofs.YtoahlnmhjinneaaGreatDoor

set_option linter.unusedSimpArgs false
set_option linter.unusedVariables false
namespace Go.Proofs.YtoahlnmhjinneaaGreatDoor
open Go.RowKit Go.Maps Go.Lib
variable {w w' w1 w2 : World} {F G : Nat → Prop} {R : Nat} {t l l' : L} {wh n : Nat}
theorem index_take (c : UInt8) : ∀ l : L, Lib.indexByte l c = if l.contains c = true then ((l.takeWhile (· != c)).length : Int) else -1
  | [] => by simp [Lib.indexByte]
  | b :: l => by
    have ih := index_take c l
    unfold Lib.indexByte
    by_cases hb : b = c
    · subst hb; simp
    · have h1 : (b == c) = false := by simpa using hb
      have h2 : (b != c) = true := by simpa using hb
      have h3 : (c == b) = false := by simpa using fun e : c = b => hb e.symm
      rw [h1]
      simp only [Bool.false_eq_true, if_false, List.contains_cons, h3, Bool.false_or, List.takeWhile_cons, h2, if_true]
      rw [ih]
      split
      · rw [if_neg (by simp <;> omega)]; simp
      · rw [if_pos (by simp)]
set_option maxHeartbeats 2000000 in
theorem index_ok (l : L) (c : UInt8) (w : World) : Calls Tryz.prog 181 #[.string (bs l), .string (bs [c])] w fun e w' => e = .returned (.int .i64 (Lib.indexByte l c)) ∧ w' = w := by
  have HB : Hid (Calls Tryz.prog 173 #[.string (bs l), .int .u8 (c.toNat : Int)] w fun e w' => e = .returned (.int .i64 (Lib.indexByte l c)) ∧ w' = w) := by
    apply hide
    have := Tryz.stringslite_IndexByte (bs l) (c.toNat : Int) w
    rw [bs_list] at this
    simpa using this
  have hz : (bs [c]).size = 1 := rfl
  have hg : (Instr.index 9 (.string (bs [c])) (.int .i64 0)).run Tryz.prog w = .ok (.int .u8 (c.toNat : Int)) w := by kernel_rfl
  obtain ⟨b, hb⟩ : ∃ b, ((bs [c]).toList == (bs l).toList) = b := ⟨_, rfl⟩
  have hx : b = true → Lib.indexByte l c = 0 := by
    intro e; rw [e, eqL] at hb; have : [c] = l := by simpa using hb
    subst this; simp [Lib.indexByte]
  generalize Lib.indexByte l c = X at *
  generalize bs [c] = S at *
  cases b with
  | true =>
    have := hx rfl; subst this
    clear hx
    go_enter Tryz.func181, Tryz.ntmps181
    go_wp2_with (go_at_call 173; refine HB.out.mono ?_; rintro e w1 ⟨rfl, rfl⟩)
    go_ret
    exact ⟨rfl, rfl⟩
  | false =>
    clear hx
    go_enter Tryz.func181, Tryz.ntmps181
    go_wp2_with (go_at_call 173; refine HB.out.mono ?_; rintro e w1 ⟨rfl, rfl⟩)
    go_ret
    exact ⟨rfl, rfl⟩
theorem contains_len {c : UInt8} {l : L} (h : l.contains c = true) : (l.takeWhile (· != c)).length < l.length := by
  induction l with
  | nil => simp at h
  | cons b l ih =>
    rw [List.takeWhile_cons]
    split
    · next hb =>
      have : l.contains c = true := by
        rw [List.contains_cons] at h
        rcases Bool.or_eq_true_iff.1 h with e | e
        · simp at hb e; exact absurd e.symm hb
        · exact e
      simp; exact ih this
    · simp
theorem take_while (c : UInt8) (l : L) : l.take (l.takeWhile (· != c)).length = l.takeWhile (· != c) := by
  obtain ⟨r, hr⟩ := List.takeWhile_prefix (· != c) (l := l)
  conv => lhs; arg 2; rw [← hr]
  simp
set_option maxHeartbeats 2000000 in
theorem cutl_yes {c : UInt8} (h : l.contains c = true) (hl : l.length ≤ 500) (w : World) : Calls Tryz.prog 180 #[.string (bs l), .string (bs [c])] w fun e w' => e = .returned (.tuple #[.string (bs (l.takeWhile (· != c))), .string (bs (l.drop ((l.takeWhile (· != c)).length + 1))), .bool true]) ∧ Below w.heap.size w w' := by
  have HI := hide (index_ok l c w)
  rw [index_take, if_pos h] at HI
  have hc := contains_len h
  have ht := take_run l (l.takeWhile (· != c)).length (by omega)
  rw [take_while] at ht
  have hz : (bs [c]).size = 1 := rfl
  have hr : ∀ W, (Instr.slice 9 (.string (bs l)) (some (.int .i64 (((l.takeWhile (· != c)).length : Int) + 1))) none none).run Tryz.prog W = .ok (.string (bs (l.drop ((l.takeWhile (· != c)).length + 1)))) W := fun W => by
    have := rest_run2 (List.suffix_refl l) ((l.takeWhile (· != c)).length + 1) (by omega) W
    simpa using this
  have hwr : IntKind.i64.wrap (((l.takeWhile (· != c)).length : Int) + 1) = ((l.takeWhile (· != c)).length : Int) + 1 := by rw [IntKind.wrap_i64]; omega
  generalize l.takeWhile (· != c) = T at *
  generalize l.drop (T.length + 1) = D at *
  have hge : decide ((T.length : Int) ≥ 0) = true := by simp
  have hge2 : (0 : Int) ≤ (T.length : Int) := by omega
  generalize bs [c] = S at *
  generalize T.length = k at *
  have HB : Hid (∀ k, Below w.heap.size w (w.drewN k)) := fun k => ⟨rfl, rfl, rfl, Nat.le_refl _, fun _ _ => rfl⟩
  clear h hc
  go_enter Tryz.func180, Tryz.ntmps180
  go_wp2_with (go_at_call 181; refine HI.out.mono ?_; rintro e w1 ⟨rfl, hw⟩; have hw' := hw.symm; clear hw; subst hw')
  go_quiet (fail)
  go_wp2
  refine bodyPost_ret (v := .tuple #[.string (bs T), .string (bs D), .bool true]) (by simp [results, Tryz.results180, go_sem]) rfl ⟨rfl, HB.out _⟩
set_option maxHeartbeats 2000000 in
theorem cutl_no {c : UInt8} (h : l.contains c = false) (w : World) : Calls Tryz.prog 180 #[.string (bs l), .string (bs [c])] w fun e w' => e = .returned (.tuple #[.string (bs l), .string (bs []), .bool false]) ∧ Below w.heap.size w w' := by
  have HI := hide (index_ok l c w)
  rw [index_take, if_neg (by rw [h]; simp)] at HI
  generalize bs [c] = S at *
  have HB : Hid (∀ k, Below w.heap.size w (w.drewN k)) := fun k => ⟨rfl, rfl, rfl, Nat.le_refl _, fun _ _ => rfl⟩
  have HB0 : Hid (Below w.heap.size w w) := Below.refl _ _
  clear h
  go_enter Tryz.func180, Tryz.ntmps180
  go_wp2_with (go_at_call 181; refine HI.out.mono ?_; rintro e w1 ⟨rfl, hw⟩; have hw' := hw.symm; clear hw; subst hw')
  first
    | (go_quiet (fail); go_wp2; refine bodyPost_ret (v := .tuple #[.string (bs l), .string (bs []), .bool false]) (by simp [results, Tryz.results180, go_sem]; rfl) rfl ⟨rfl, HB.out _⟩)
    | refine bodyPost_ret (v := .tuple #[.string (bs l), .string (bs []), .bool false]) (by simp [results, Tryz.results180, go_sem]; rfl) rfl ⟨rfl, HB0.out⟩
set_option maxHeartbeats 2000000 in
theorem cut_any {c : UInt8} (w : World) (x y : Value) (b : Bool) (h : Calls Tryz.prog 180 #[.string (bs l), .string (bs [c])] w fun e w' => e = .returned (.tuple #[x, y, .bool b]) ∧ Below w.heap.size w w') :
    Calls Tryz.prog 179 #[.string (bs l), .string (bs [c])] w fun e w' => e = .returned (.tuple #[x, y, .bool b]) ∧ Below w.heap.size w w' := by
  have HI := hide h
  generalize bs [c] = S at *
  clear h
  go_enter Tryz.func179, Tryz.ntmps179
  go_wp2_with (go_at_call 180; refine HI.out.mono ?_; rintro e w1 ⟨rfl, hw⟩)
  refine bodyPost_ret (v := .tuple #[x, y, .bool b]) (by simp [results, Tryz.results179, go_sem]) rfl ⟨rfl, hw⟩
end Go.Proofs.YtoahlnmhjinneaaGreatDoor

set_option linter.unusedSimpArgs false
set_option linter.unusedVariables false
namespace Go.Proofs.YtoahlnmhjinneaaGreatDoor
open Go.RowKit Go.Maps Go.Lib
variable {w w' w1 w2 : World} {F G : Nat → Prop} {R : Nat} {t l l' : L} {wh n : Nat}
theorem quote_pass {c : UInt8} {l : L} (h : (l.drop 1).contains c = true) : (quoteOf c l).length + 2 ≤ l.length := by
  have := contains_len h
  rw [List.length_drop] at this
  unfold quoteOf
  omega
set_option maxHeartbeats 4000000 in
set_option maxRecDepth 10000 in
theorem quotedBy_ok {c : UInt8} {b1 : Bool} (h : RD R t wh n w l) (hp : part l = [c]) (h1 : ((bs [c]).toList == [34]) = b1) (h2 : b1 = false → ((bs [c]).toList == [39]) = true) : Calls Tryz.prog 174 #[ptr R] w (Ends R t wh n VS w (quotedBy (cutB t wh) c l)) := by
  have hl1 : 1 ≤ l.length := by have := part_len l; rw [hp] at this; simpa using this
  have HP := hide (part_ok h)
  rw [hp] at HP
  have hr : ∀ W, (Instr.slice 9 (.string (bs t)) (some (.int .i64 (((t.length - l.length : Nat) : Int) + 1))) none none).run Tryz.prog W = .ok (.string (bs (l.drop 1))) W := rest_run2 h.suf 1 hl1
  have n1 : IntKind.i64.wrap (((t.length - l.length : Nat) : Int) + 1) = ((t.length - l.length : Nat) : Int) + 1 := (pass_nums t l 1 h.suf (by have := h.tw; have := h.wh5; omega) hl1).1
  have HC : Hid (∀ W, Below w.heap.size w W → W.cell? ⟨R, 0, none⟩ = some (.string (bs t)) ∧ W.cell? ⟨R, 2, none⟩ = some (.int .i64 ((t.length - l.length : Nat) : Int))) := fun W hW => ⟨cell_of (h.below hW).blk rfl, cell_of (h.below hW).blk rfl⟩
  have hlen : (l.drop 1).length ≤ 500 := by have := h.le; have := h.tw; have := h.wh5; rw [List.length_drop]; omega
  by_cases hq : (l.drop 1).contains c = true
  · have e1 : quotedBy (cutB t wh) c l = .ok (quoteOf c l, pass ((quoteOf c l).length + 2) l) := by unfold quotedBy; rw [if_pos hq]
    rw [e1]
    have hqp := quote_pass hq
    have HK : Hid (∀ W, Calls Tryz.prog 179 #[.string (bs (l.drop 1)), .string (bs [c])] W fun e w' => (∃ y, e = .returned (.tuple #[.string (bs (quoteOf c l)), y, .bool true])) ∧ Below W.heap.size W w') := fun W => (cut_any W _ _ _ (cutl_yes hq hlen W)).mono fun e w' x => ⟨⟨_, x.1⟩, x.2⟩
    have HPA : Hid (∀ W, Below w.heap.size w W → Calls Tryz.prog 70 #[ptr R, .int .i64 (((quoteOf c l).length : Int) + 2)] W fun e w' => e = .returned (.tuple #[]) ∧ RD R t wh n w' (pass ((quoteOf c l).length + 2) l) ∧ Fr (fun k => k = R) W w') := fun W hW => by
      have := pass_ok ((quoteOf c l).length + 2) (h.below hW) hqp; rw [Int.natCast_add] at this; exact this
    have hwr : IntKind.i64.wrap (((quoteOf c l).length : Int) + 2) = ((quoteOf c l).length : Int) + 2 := by have := h.le; have := h.tw; have := h.wh5; rw [IntKind.wrap_i64]; omega
    have hz := bs_size (quoteOf c l)
    generalize ((t.length - l.length : Nat) : Int) = at_ at *
    generalize quoteOf c l = T at *
    generalize hX : pass (T.length + 2) l = X at *
    generalize bs [c] = S at *
    generalize l.drop 1 = D at *
    clear h hp hq e1 hqp hl1 hlen hX
    cases b1 with
    | true =>
      clear h2
      go_enter Tryz.func174, Tryz.ntmps174
      go_wp2_with (go_at_call 94; refine HP.out.mono ?_; rintro e w1 ⟨rfl, hb⟩; obtain ⟨c0, c2⟩ := HC.out _ hb)
      go_region_held3 (fun W => W.cell? ⟨R, 0, none⟩ = some (.string (bs t)) ∧ W.cell? ⟨R, 2, none⟩ = some (.int .i64 at_))
        (first | exact ⟨c0, c2⟩ | exact HC.out _ hb2)
        (first | (go_at_call 179; refine (HK.out _).mono ?_; rintro e w3 ⟨⟨y, rfl⟩, hb3⟩; have hb2 : Below w.heap.size w w3 := bon hb ⟨hb3.os, hb3.tape, hb3.output, hb3.size, hb3.block⟩; clear hb3))
      all_goals
        go_wp2_with (go_at_call 70; refine (HPA.out _ hb2).mono ?_; rintro e w4 ⟨rfl, rd, fr⟩)
        go_ret
        exact ⟨_, rfl, rfl, rd, (Fr.below hb2).same fr⟩
    | false =>
      have h3 := h2 rfl
      clear h2
      go_enter Tryz.func174, Tryz.ntmps174
      go_wp2_with (go_at_call 94; refine HP.out.mono ?_; rintro e w1 ⟨rfl, hb⟩; obtain ⟨c0, c2⟩ := HC.out _ hb)
      go_region_held3 (fun W => W.cell? ⟨R, 0, none⟩ = some (.string (bs t)) ∧ W.cell? ⟨R, 2, none⟩ = some (.int .i64 at_))
        (first | exact ⟨c0, c2⟩ | exact HC.out _ hb2)
        (first | (go_at_call 179; refine (HK.out _).mono ?_; rintro e w3 ⟨⟨y, rfl⟩, hb3⟩; have hb2 : Below w.heap.size w w3 := bon hb ⟨hb3.os, hb3.tape, hb3.output, hb3.size, hb3.block⟩; clear hb3))
      all_goals
        go_wp2_with (go_at_call 70; refine (HPA.out _ hb2).mono ?_; rintro e w4 ⟨rfl, rd, fr⟩)
        go_ret
        exact ⟨_, rfl, rfl, rd, (Fr.below hb2).same fr⟩
  · have hq' : (l.drop 1).contains c = false := by simpa using hq
    have e1 : quotedBy (cutB t wh) c l = .error (bad (cutB t wh) []) := by unfold quotedBy; rw [if_neg hq]
    rw [e1]
    have HK : Hid (∀ W, Calls Tryz.prog 179 #[.string (bs (l.drop 1)), .string (bs [c])] W fun e w' => (∃ x y, e = .returned (.tuple #[.string x, y, .bool false])) ∧ Below W.heap.size W w') := fun W => (cut_any W _ _ _ (cutl_no hq' W)).mono fun e w' x => ⟨⟨_, _, x.1⟩, x.2⟩
    have hE : ∀ W, Below w.heap.size w W → W.frozen? ⟨R, 2, none⟩ = false ∧ (∃ W', W.setCell ⟨R, 2, none⟩ (.int .i64 (t.length : Int)) = W' ∧ Fr (fun k => k = R) w W' ∧ Calls Tryz.prog 73 #[ptr R] W' (Threw R t (bad (cutB t wh) []) W')) := fun W hW => by
      have hb := (h.below hW).blk
      refine ⟨free_of hb, _, rfl, (Fr.below hW).set _ _ (fun _ => rfl), fail_ok (n := n) ⟨?_, List.nil_suffix, h.tw, h.wh5, h.n8⟩⟩
      rw [set_of hb]; simp
    have HE := hide hE
    have hz := bs_size t
    generalize ((t.length - l.length : Nat) : Int) = at_ at *
    generalize bs [c] = S at *
    generalize l.drop 1 = D at *
    clear h hp hq e1 hl1 hlen hE hq'
    cases b1 with
    | true =>
      clear h2
      go_enter Tryz.func174, Tryz.ntmps174
      go_wp2_with (go_at_call 94; refine HP.out.mono ?_; rintro e w1 ⟨rfl, hb⟩; obtain ⟨c0, c2⟩ := HC.out _ hb)
      go_region_held3 (fun W => W.cell? ⟨R, 0, none⟩ = some (.string (bs t)) ∧ W.cell? ⟨R, 2, none⟩ = some (.int .i64 at_))
        (first | exact ⟨c0, c2⟩ | exact HC.out _ hb2)
        (first | (go_at_call 179; refine (HK.out _).mono ?_; rintro e w3 ⟨⟨x, y, rfl⟩, hb3⟩; have hb2 : Below w.heap.size w w3 := bon hb ⟨hb3.os, hb3.tape, hb3.output, hb3.size, hb3.block⟩; clear hb3))
      all_goals
        obtain ⟨d0, d2⟩ := HC.out _ hb2
        obtain ⟨f2, W', hW', fr', hfa⟩ := HE.out _ hb2
        have HFA := hide hfa
        clear hfa
        go_wp2_with (first | (go_at_call 73; refine (HFA.out).mono ?_; rintro e w4 ⟨rfl, fr⟩))
        exact ⟨rfl, rfl, fr'.same fr⟩
    | false =>
      have h3 := h2 rfl
      clear h2
      go_enter Tryz.func174, Tryz.ntmps174
      go_wp2_with (go_at_call 94; refine HP.out.mono ?_; rintro e w1 ⟨rfl, hb⟩; obtain ⟨c0, c2⟩ := HC.out _ hb)
      go_region_held3 (fun W => W.cell? ⟨R, 0, none⟩ = some (.string (bs t)) ∧ W.cell? ⟨R, 2, none⟩ = some (.int .i64 at_))
        (first | exact ⟨c0, c2⟩ | exact HC.out _ hb2)
        (first | (go_at_call 179; refine (HK.out _).mono ?_; rintro e w3 ⟨⟨x, y, rfl⟩, hb3⟩; have hb2 : Below w.heap.size w w3 := bon hb ⟨hb3.os, hb3.tape, hb3.output, hb3.size, hb3.block⟩; clear hb3))
      all_goals
        obtain ⟨d0, d2⟩ := HC.out _ hb2
        obtain ⟨f2, W', hW', fr', hfa⟩ := HE.out _ hb2
        have HFA := hide hfa
        clear hfa
        go_wp2_with (first | (go_at_call 73; refine (HFA.out).mono ?_; rintro e w4 ⟨rfl, fr⟩))
        exact ⟨rfl, rfl, fr'.same fr⟩
theorem quoted_ok (h : RD R t wh n w l) : Calls Tryz.prog 174 #[ptr R] w (Ends R t wh n VS w (quoted (cutB t wh) l)) := by
  unfold quoted
  by_cases h1 : part l = [34]
  · rw [if_pos h1]; exact quotedBy_ok (b1 := true) h h1 (by rw [bs_toL]; rfl) (fun e => by cases e)
  · rw [if_neg h1]
    by_cases h2 : part l = [39]
    · rw [if_pos h2]; exact quotedBy_ok (b1 := false) h h2 (by rw [bs_toL]; rfl) (fun e => by rw [bs_toL]; rfl)
    · rw [if_neg h2]
      have HP := hide (part_ok h)
      have HA : Hid (∀ W, Below w.heap.size w W → Calls Tryz.prog 73 #[ptr R] W (Threw R t (bad (cutB t wh) l) W)) := fun W hW => fail_ok (h.below hW)
      have e1 : ((bs (part l)).toList == [34]) = false := by rw [bs_toL]; simpa using h1
      have e2 : ((bs (part l)).toList == [39]) = false := by rw [bs_toL]; simpa using h2
      generalize bs (part l) = S at *
      clear h h1 h2
      go_enter Tryz.func174, Tryz.ntmps174
      go_wp2_with (first | (go_at_call 94; refine HP.out.mono ?_; rintro e w1 ⟨rfl, hb⟩) | (go_at_call 73; refine (HA.out _ hb).mono ?_; rintro e w2 ⟨rfl, fr⟩))
      exact ⟨rfl, rfl, (Fr.below hb).same fr⟩
end Go.Proofs.YtoahlnmhjinneaaGreatDoor

set_option linter.unusedSimpArgs false
set_option linter.unusedVariables false
namespace Go.Proofs.YtoahlnmhjinneaaGreatDoor
open Go.RowKit Go.Maps Go.Lib
variable {w w' w1 w2 : World} {F G : Nat → Prop} {R : Nat} {t l l' : L} {wh n : Nat}
theorem want_ok (p : L) (h : RD R t wh n w l) : Calls Tryz.prog 120 #[ptr R, .string ⟨p.toArray⟩] w fun e w' => match want (cutB t wh) p l with
    | .ok l' => e = .returned (.tuple #[]) ∧ RD R t wh n w' l' ∧ Fr (fun k => k = R) w w'
    | .error y => Threw R t y w e w' := by
  unfold want
  by_cases hp : part l = p
  · rw [if_pos hp]; exact want_yes h hp
  · rw [if_neg hp]; exact want_no h hp
theorem take_ok (p : L) (h : RD R t wh n w l) (b : Bool) (hb : decide (part l = p) = b) : Calls Tryz.prog 72 #[ptr R, .string ⟨p.toArray⟩] w fun e w' => e = .returned (.bool b) ∧ RD R t wh n w' (if b = true then pass p.length l else l) ∧ Fr (fun k => k = R) w w' := by
  cases b with
  | true => exact take_yes h (by simpa using hb)
  | false => exact (take_no h (by simpa using hb)).mono fun e w' x => ⟨x.1, h.below x.2, Fr.below x.2⟩
set_option maxHeartbeats 2000000 in
theorem slash_ok (h : RD R t wh n w l) : Calls Tryz.prog 92 #[ptr R] w (Ends R t wh n VB w (slash (cutB t wh) l)) := by
  obtain ⟨b, hb⟩ : ∃ b, decide (part l = [47, 47]) = b := ⟨_, rfl⟩
  have HT := hide (take_ok [47, 47] h b hb)
  cases b with
  | true =>
    rw [slash, if_pos (by simpa using hb)]
    clear h hb
    go_enter Tryz.func92, Tryz.ntmps92
    go_wp2_with (first | (go_at_call 72; refine HT.out.mono ?_; rintro e w1 ⟨rfl, rd, fr⟩))
    go_ret
    exact ⟨_, rfl, rfl, rd, fr⟩
  | false =>
    rw [slash, if_neg (by simpa using hb)]
    have HW : Hid (∀ W, RD R t wh n W l → Calls Tryz.prog 120 #[ptr R, .string ⟨#[47]⟩] W fun e w' => match want (cutB t wh) [47] l with
      | .ok l' => e = .returned (.tuple #[]) ∧ RD R t wh n w' l' ∧ Fr (fun k => k = R) W w'
      | .error y => Threw R t y W e w') := fun W hW => want_ok [47] hW
    clear h hb
    cases hx : want (cutB t wh) [47] l with
    | error y =>
      simp only [hx] at HW
      simp only [wnt]
      clear hx
      go_enter Tryz.func92, Tryz.ntmps92
      go_wp2_with (first | (go_at_call 72; refine HT.out.mono ?_; rintro e w1 ⟨rfl, rd, fr⟩) | (go_at_call 120; refine (HW.out _ rd).mono ?_; rintro e w2 ⟨rfl, fr2⟩))
      exact ⟨rfl, rfl, fr.same fr2⟩
    | ok l1 =>
      simp only [hx] at HW
      simp only [wnt]
      clear hx
      go_enter Tryz.func92, Tryz.ntmps92
      go_wp2_with (first | (go_at_call 72; refine HT.out.mono ?_; rintro e w1 ⟨rfl, rd, fr⟩) | (go_at_call 120; refine (HW.out _ rd).mono ?_; rintro e w2 ⟨rfl, rd2, fr2⟩))
      go_ret
      exact ⟨_, rfl, rfl, rd2, fr.same fr2⟩
set_option maxHeartbeats 2000000 in
theorem attr_ok (h : RD R t wh n w l) : Calls Tryz.prog 176 #[ptr R] w (Ends R t wh n VS w (attr (cutB t wh) l)) := by
  have HW := hide (want_ok [64] h)
  unfold attr
  cases hx : want (cutB t wh) [64] l with
  | error y =>
    simp only [hx] at HW
    simp only [wnt]
    clear hx h
    go_enter Tryz.func176, Tryz.ntmps176
    go_wp2_with (first | (go_at_call 120; refine (HW.out).mono ?_; rintro e w2 ⟨rfl, fr2⟩))
    exact ⟨rfl, rfl, fr2⟩
  | ok l1 =>
    simp only [hx] at HW
    simp only [wnt]
    have HN : Hid (∀ W, RD R t wh n W l1 → Calls Tryz.prog 139 #[ptr R] W (Ends R t wh n VS W (name (cutB t wh) l1))) := fun W hW => name_ok hW
    clear hx h
    cases hy : name (cutB t wh) l1 with
    | error y =>
      rw [hy] at HN
      clear hy
      go_enter Tryz.func176, Tryz.ntmps176
      go_wp2_with (first | (go_at_call 120; refine (HW.out).mono ?_; rintro e w2 ⟨rfl, rd, fr⟩) | (go_at_call 139; refine (HN.out _ rd).mono ?_; rintro e w3 ⟨rfl, fr2⟩))
      exact ⟨rfl, rfl, fr.same fr2⟩
    | ok z =>
      obtain ⟨a, l2⟩ := z
      rw [hy] at HN
      clear hy
      go_enter Tryz.func176, Tryz.ntmps176
      go_wp2_with (first | (go_at_call 120; refine (HW.out).mono ?_; rintro e w2 ⟨rfl, rd, fr⟩) | (go_at_call 139; refine (HN.out _ rd).mono ?_; rintro e w3 ⟨v, rfl, rfl, rd2, fr2⟩))
      go_ret
      exact ⟨_, rfl, rfl, rd2, fr.same fr2⟩
end Go.Proofs.YtoahlnmhjinneaaGreatDoor
