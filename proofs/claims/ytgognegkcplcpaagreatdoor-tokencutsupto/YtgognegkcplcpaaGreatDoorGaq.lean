import Derived.BigQuiet
import Derived.Deep.RegionHeld3
import Derived.Test.YtgognegkcplcpaaGreatDoorGao
set_option linter.unusedVariables false
set_option linter.unusedSimpArgs false
set_option linter.unusedSimpArgs false
set_option linter.unusedVariables false
namespace Go.Proofs.YtgognegkcplcpaaGreatDoor
open Go.RowKit Go.Maps Go.Lib
variable {F F' G A B : Nat → Prop} {R Rb o : Nat} {w w' w'' wr w1 w2 : World} {a : Addr} {v v1 v2 lv : Value} {N n : Nat} {l l1 l2 : List Tok} {r : PR} {s b : ByteArray} {i last to m : Nat}
def CI (w : World) (s : ByteArray) (Rb o : Nat) (wr : World) (last m : Nat) : Prop :=
  ∃ F F2 r2, Alive F w.heap.size wr (PR.new.write (s.extract 0 last)).1 ∧ Alive F2 Rb wr r2 ∧ Good r2 (m * o) ∧ Below w.heap.size w wr ∧ (∀ k, F k → w.heap.size ≤ k) ∧ (∀ k, F2 k → w.heap.size ≤ k) ∧ (∀ k, F k → ¬ F2 k)
def CJ (w : World) (s : ByteArray) (Rb o : Nat) (wr : World) (last m : Nat) (v : Value) (T : List Tok) : Prop :=
  ∃ F F2 r2 A, Alive F w.heap.size wr (PR.new.write (s.extract 0 last)).1 ∧ Alive F2 Rb wr r2 ∧ Good r2 (m * o) ∧ Below w.heap.size w wr ∧ (∀ k, F k → w.heap.size ≤ k) ∧ (∀ k, F2 k → w.heap.size ≤ k) ∧ (∀ k, F k → ¬ F2 k) ∧ Ans A wr v T ∧ (∀ k, A k → ¬ F2 k)
theorem Alive.lt (h : Alive F R w r) {k : Nat} (hk : F k) : k < w.heap.size := by obtain ⟨_, _, rep, _⟩ := h; exact rep.lt k hk
theorem CI.past (h : CI w s Rb o wr last m) (b : Below wr.heap.size wr w') : CI w s Rb o w' last m := by
  obtain ⟨F, F2, r2, al, al2, hg, bl, hF, hF2, hd⟩ := h
  exact ⟨F, F2, r2, al.below b, al2.below b, hg, bl.trans (below_less b bl.size), hF, hF2, hd⟩
theorem CI.bl (h : CI w s Rb o wr last m) : Below w.heap.size w wr := by
  obtain ⟨F, F2, r2, al, al2, hg, bl, hF, hF2, hd⟩ := h
  exact bl
theorem CI.start (w : World) (s : ByteArray) (o : Nat) : CI w s (w.heap.size + 1) o ((w.alloc (.cells newCells 71)).alloc (.cells newCells 71)) 0 0 := by
  have e : s.extract 0 0 = ⟨#[]⟩ := by apply ByteArray.ext; simp
  have h1 := new_alive w
  have h2 := new_alive (w.alloc (.cells newCells 71))
  have hz : (w.alloc (.cells newCells 71)).heap.size = w.heap.size + 1 := by simp
  rw [hz] at h2
  refine ⟨fun k => k = w.heap.size, fun k => k = w.heap.size + 1, PR.new, ?_, h2, by rw [Nat.zero_mul]; exact good_new, ((Below.refl _ _).alloc (Nat.le_refl _) _).alloc (by simp) _, fun k e => by omega, fun k e => by omega, fun k e e2 => by omega⟩
  rw [e, new_write_none]
  exact h1.below ((Below.refl _ _).alloc (Nat.le_refl _) _)
theorem take_to (s : ByteArray) (last to : Nat) (h : last ≤ to) : s.extract 0 to = s.extract 0 last ++ s.extract last to := by
  apply ByteArray.ext
  apply Array.ext'
  simp only [ByteArray.data_extract, ByteArray.data_append, Array.toList_extract, Array.toList_append, List.extract_eq_take_drop, List.drop_zero, Nat.sub_zero]
  rw [show to = last + (to - last) by omega, List.take_add, Nat.add_sub_cancel_left]
theorem piece_toks (s : ByteArray) (last to : Nat) (h : last ≤ to) : PR.new.write (s.extract 0 to) = (((PR.new.write (s.extract 0 last)).1.write (s.extract last to)).1, (readS (s.extract 0 to)).l) ∧ ((PR.new.write (s.extract 0 last)).1.write (s.extract last to)).2 = (readS (s.extract 0 to)).l.drop (readS (s.extract 0 last)).l.length ∧ (readS (s.extract 0 last)).l.length ≤ (readS (s.extract 0 to)).l.length := by
  have hwa := write_append (N := 0) good_new (s.extract 0 last) (s.extract last to)
  rw [← take_to s last to h] at hwa
  have h1 := write_ref (s.extract 0 to)
  have h0 := write_ref (s.extract 0 last)
  rw [h0] at hwa
  have h2 : (readS (s.extract 0 last)).l ++ ((PR.new.write (s.extract 0 last)).1.write (s.extract last to)).2 = (readS (s.extract 0 to)).l := by rw [← h1, hwa]
  refine ⟨by rw [← h1]; conv => lhs; rw [hwa]
             rw [hwa], ?_, ?_⟩
  · rw [← h2, List.drop_left]
  · rw [← h2, List.length_append]; omega
theorem CI.write (gl : Gl w a) (h : CI w s Rb o wr last m) (hl : last ≤ to) (ht : to ≤ s.size) (hs : s.size ≤ 2147483648) :
    Calls Tryz.prog 15 #[.pointer (some ⟨w.heap.size, 0, none⟩), .string (s.extract last to)] wr fun e w2 => ∃ v, e = .returned v ∧ CJ w s Rb o w2 to m v ((readS (s.extract 0 to)).l.drop (readS (s.extract 0 last)).l.length) := by
  obtain ⟨F, F2, r2, al, al2, hg, bl, hF, hF2, hd⟩ := h
  have h4 := gl.size
  have glr := gl.below h4 bl
  have lo : Low F := fun k hk x => by have := hF k x; omega
  have hgd : Good (PR.new.write (s.extract 0 last)).1 (0 + (s.extract 0 last).size) := write_good good_new _
  have hs1 : (s.extract 0 last).size ≤ s.size := by simp; omega
  have hs2 : (s.extract last to).size ≤ s.size := by simp; omega
  obtain ⟨p1, p2, p3⟩ := piece_toks s last to hl
  refine (write_pr al hgd glr lo (s.extract last to) (by omega)).mono ?_
  rintro e w2 ⟨v1, A1, F1, rfl, an1, al1, fr1, h1, h2⟩
  have hz2 := fr1.size
  have hzw := bl.size
  refine ⟨v1, rfl, F1, F2, r2, A1, ?_, al2.keep (fun k hk => fr1.block k (al2.lt hk) (fun x => hd k x hk)) hz2, hg, bl.trans (fr1.up hF hzw), fun k hk => (h2 k hk).elim (hF k) (fun x => by omega), hF2, fun k hk hk2 => (h2 k hk).elim (fun x => hd k x hk2) (fun x => by have := al2.lt hk2; omega), ?_, fun k hk hk2 => (h1 k hk).1.elim (fun x => hd k x hk2) (fun x => by have := al2.lt hk2; omega)⟩
  · rw [p1]; exact al1
  · rw [← p2]; exact an1
theorem CJ.beside (gl : Gl w a) {T : List Tok} (other : ByteArray) (h : CJ w s Rb other.size wr last m v T) (hb : (m + 1) * other.size ≤ 274877906944) :
    Calls Tryz.prog 15 #[.pointer (some ⟨Rb, 0, none⟩), .string other] wr fun e w2 => ∃ v', e = .returned v' ∧ CI w s Rb other.size w2 last (m + 1) ∧ ∃ A, Ans A w2 v T := by
  obtain ⟨F, F2, r2, A, al, al2, hg, bl, hF, hF2, hd, an, hA⟩ := h
  have h4 := gl.size
  have glr := gl.below h4 bl
  have lo : Low F2 := fun k hk x => by have := hF2 k x; omega
  have e1 : (m + 1) * other.size = m * other.size + other.size := Nat.succ_mul _ _
  refine (write_pr al2 hg glr lo other (by omega)).mono ?_
  rintro e w2 ⟨v1, A1, F1, rfl, an1, al1, fr1, h1, h2⟩
  have hz2 := fr1.size
  have hzw := bl.size
  refine ⟨v1, rfl, ⟨F, F1, _, al.keep (fun k hk => fr1.block k (al.lt hk) (hd k hk)) hz2, al1, ?_, bl.trans (fr1.up hF2 hzw), hF, fun k hk => (h2 k hk).elim (hF2 k) (fun x => by omega), fun k hk hk2 => (h2 k hk2).elim (hd k hk) (fun x => by have := al.lt hk; omega)⟩, A, ?_⟩
  · rw [e1]; exact write_good hg other
  · exact an.old (fun k hk hAk => fr1.block k hk (hA k hAk)) (fun _ _ x => x)
theorem write_open (b : ByteArray) : (PR.new.write b).1.s.closed = false := by
  rw [write_new]
  unfold tells
  rcases rd_cases b with ⟨h1, _, _, _, _, _, _, h2, _⟩ | ⟨h1, _, _, h2⟩
  · rw [h1]; exact h2
  · rw [h1]; exact h2
theorem CI.err (h : CI w s Rb o wr last m) : Calls Tryz.prog 17 #[.pointer (some ⟨w.heap.size, 0, none⟩)] wr fun e w2 => e = .returned (.tuple #[.int .i64 0, .int .i64 0]) ∧ Below wr.heap.size wr w2 := by
  obtain ⟨F, F2, r2, al, al2, hg, bl, hF, hF2, hd⟩ := h
  have := err_pr al
  have he : (PR.new.write (s.extract 0 last)).1.err = (0, 0) := by unfold PR.err; rw [write_open, if_neg (by simp)]
  rw [he] at this
  exact this
def CE (w : World) (s : ByteArray) (wr : World) : Prop := ∃ F r, Alive F w.heap.size wr r ∧ r.s.closed = true ∧ r.err = ((readS s).err, (readS s).at_) ∧ Below w.heap.size w wr ∧ (∀ k, F k → w.heap.size ≤ k)
theorem CI.close (gl : Gl w a) (h0 : CI w s Rb o w1 s.size m) (b0 : Below w1.heap.size w1 wr) (hs : s.size ≤ 2147483648) :
    Calls Tryz.prog 18 #[.pointer (some ⟨w.heap.size, 0, none⟩)] wr fun e w2 => ∃ v A, e = .returned v ∧ CE w s w2 ∧ Ans A w2 v (readS s).last ∧ Below w.heap.size w w2 ∧ wr.heap.size ≤ w2.heap.size ∧ ∀ k, w1.heap.size ≤ k → k < wr.heap.size → w2.heap[k]? = wr.heap[k]? := by
  obtain ⟨F, F2, r2, al0, al20, hg, bl0, hF, hF2, hd⟩ := h0
  rw [take_all] at al0
  have al := al0.below b0
  have bl := bl0.trans (below_less b0 bl0.size)
  have h4 := gl.size
  have glr := gl.below h4 bl
  have lo : Low F := fun k hk x => by have := hF k x; omega
  have hgd : Good (PR.new.write s).1 (0 + s.size) := write_good good_new _
  obtain ⟨c1, c2, c3⟩ := close_ref s
  refine (close_pr al hgd glr lo (by omega)).mono ?_
  rintro e w2 ⟨v1, A1, F1, rfl, an1, al1, fr1, h1, h2⟩
  have hz2 := fr1.size
  have hzw := bl.size
  have b2 : Below w.heap.size w w2 := bl.trans (fr1.up hF hzw)
  refine ⟨v1, A1, rfl, ⟨F1, _, al1, c3, c2, b2, fun k hk => (h2 k hk).elim (hF k) (fun x => by omega)⟩, ?_, b2, hz2, fun k hk hk2 => fr1.block k hk2 (fun x => by have := al0.lt x; omega)⟩
  rw [← c1]; exact an1
theorem CE.past (h : CE w s wr) (b : Below wr.heap.size wr w') : CE w s w' := by
  obtain ⟨F, r, al, h1, h2, bl, hF⟩ := h
  exact ⟨F, r, al.below b, h1, h2, bl.trans (below_less b bl.size), hF⟩
theorem CE.bl (h : CE w s wr) : Below w.heap.size w wr := by
  obtain ⟨F, r, al, h1, h2, bl, hF⟩ := h
  exact bl
theorem CE.err (h : CE w s wr) : Calls Tryz.prog 17 #[.pointer (some ⟨w.heap.size, 0, none⟩)] wr fun e w2 => e = .returned (.tuple #[.int .i64 (readS s).err, .int .i64 (readS s).at_]) ∧ Below wr.heap.size wr w2 := by
  obtain ⟨F, r, al, h1, h2, bl, hF⟩ := h
  have := err_pr al
  rw [h2] at this
  exact this
theorem CE.write (h : CE w s wr) (b : ByteArray) : Calls Tryz.prog 15 #[.pointer (some ⟨w.heap.size, 0, none⟩), .string b] wr fun e w2 => e = .returned (.slice none 0 0) ∧ w2 = wr := by
  obtain ⟨F, r, al, h1, h2, bl, hF⟩ := h
  obtain ⟨vn, p, rep, hx⟩ := al
  exact write_dead rep b (Or.inl h1)
theorem CE.close (h : CE w s wr) : Calls Tryz.prog 18 #[.pointer (some ⟨w.heap.size, 0, none⟩)] wr fun e w2 => e = .returned (.slice none 0 0) ∧ w2 = wr := by
  obtain ⟨F, r, al, h1, h2, bl, hF⟩ := h
  obtain ⟨vn, p, rep, hx⟩ := al
  exact close_dead rep h1
end Go.Proofs.YtgognegkcplcpaaGreatDoor

set_option linter.unusedSimpArgs false
set_option linter.unusedVariables false
namespace Go.Proofs.YtgognegkcplcpaaGreatDoor
open Go.RowKit Go.Maps Go.Lib
variable {F F' G A B : Nat → Prop} {R Rb o : Nat} {w w' w'' wr w1 w2 : World} {a : Addr} {v v1 v2 lv : Value} {N n : Nat} {l l1 l2 : List Tok} {r : PR} {s b : ByteArray} {i last to m : Nat}
def toldTo (s : ByteArray) (k : Nat) : Nat := (readS (s.extract 0 k)).l.length
theorem toldTo_zero (s : ByteArray) : toldTo s 0 = 0 := by
  have e : s.extract 0 0 = ⟨#[]⟩ := by apply ByteArray.ext; simp
  unfold toldTo
  rw [e, ← write_ref, new_write_none]; rfl
def Cuts (w : World) (bo : Option Addr) (zs : List Int) : Prop := ∀ j, j < zs.length → ∃ a0 : Addr, bo = some a0 ∧ w.cell? (a0.add j) = some (.int .i64 (zs.getD j 0))
structure CL (w : World) (s : ByteArray) (o c : Nat) (nv lastv iv : Value) (wr : World) (last i m : Nat) : Prop where
  e1 : nv = .int .i64 (toldTo s last)
  e2 : lastv = .int .i64 last
  e3 : iv = .int .i64 i
  hi : i ≤ c + 1
  hm : m ≤ i
  hl : last ≤ s.size
  hend : i = c + 1 → last = s.size
  ci : CI w s (w.heap.size + 1) o wr last m
theorem last_view {x : Sc} {g : Nat} (h : (x.last = [] ∧ v = .slice none 0 0) ∨ (x.last = [txtTok x] ∧ v = .slice (some ⟨g, 0, none⟩) 1 1 ∧ w.heap[g]? = some (.cells (tokCells (txtTok x) (.slice none 0 0)).toArray 57))) : RView w v x.last := by
  rcases h with ⟨e, rfl⟩ | ⟨e, rfl, hb⟩
  · rw [e]; exact ⟨none, 0, rfl, Nat.zero_le _, fun k hk => absurd hk (Nat.not_lt_zero _)⟩
  · rw [e]
    refine ⟨_, _, rfl, by unfold maxLen; simp, fun k hk => ?_⟩
    have hk0 : k = 0 := by simpa using hk
    subst hk0
    exact ⟨g, 0, .slice none 0 0, rfl, World.ownsRow_nil _ _ _ _, cell_of hb rfl, cell_of hb rfl, cell_of hb rfl, cell_of hb rfl, cell_of hb rfl⟩
theorem view_zero {bo bo' : Option Addr} {k c c' : Nat} (h : RView w (.slice bo k c) l) (h0 : k = 0) : RView w (.slice bo' k c') l := by
  obtain ⟨b1, cap, e, hm, hv⟩ := h
  cases e
  exact ⟨bo', c', rfl, hm, fun k hk => by omega⟩
theorem rest_view {X : Nat} {x : Sc} {cs : List Value} (h : RS F X w s lv cs x) (n : Nat) (hn : n ≤ x.l.length) : ∃ ai ac, lv = .slice ai x.l.length ac ∧ x.l.length ≤ ac ∧ ac ≤ maxLen ∧
    ((ai = none ∧ x.l.length = 0 ∧ ac = 0 ∧ RView w (.slice none 0 0) (x.l.drop n)) ∨ ∃ g, ai = some ⟨g, 0, none⟩ ∧ ∀ c, RView w (.slice (some ⟨g, n * 5, none⟩) (x.l.length - n) c) (x.l.drop n)) := by
  have o := h.row
  rcases o.2 with ⟨rfl, e⟩ | ⟨g, cap, cur, rfl, _, _, h1, h2, _⟩
  · have : x.l = [] := List.eq_nil_of_length_eq_zero e
    refine ⟨none, 0, by rw [e], by omega, Nat.zero_le _, Or.inl ⟨rfl, e, rfl, ?_⟩⟩
    rw [this]
    simp only [List.drop_nil]
    exact ⟨none, 0, rfl, Nat.zero_le _, fun k hk => absurd hk (Nat.not_lt_zero _)⟩
  · exact ⟨_, cap, rfl, h1, h2, Or.inr ⟨g, rfl, fun c => view_drop o h.toks (Nat.le_trans h1 h2) n hn c⟩⟩
set_option maxHeartbeats 8000000 in
set_option maxRecDepth 10000 in
theorem tokenCuts_ok (s other : ByteArray) (bo : Option Addr) (cap : Nat) (zs : List Int) (w : World) (gl : Gl w a) (hz : Cuts w bo zs) (hs : s.size ≤ 1048576) (hc : zs.length ≤ 1048576) (hb : (zs.length + 1) * other.size ≤ 274877906944) (hwf : ∀ z ∈ zs, -9223372036854775808 ≤ z ∧ z ≤ 9223372036854775807) :
    Calls Tryz.prog 4 #[.string s, .slice bo zs.length cap, .string other] w fun e w' => e = .returned (.bool true) ∧ Below w.heap.size w w' := by
  have hn1 := new_ok w
  have hn2 := new_ok (w.alloc (.cells newCells 71))
  have hz2 : (w.alloc (.cells newCells 71)).heap.size = w.heap.size + 1 := by simp
  rw [hz2] at hn2
  have hst := CI.start w s other.size
  have hgl := fun w' (h : Below w.heap.size w w') => gl.below gl.size h
  have hali := fun w' (h : Below w.heap.size w w') => alive_ok (hgl w' h)
  have hwr := fun wr last m to (h : CI w s (w.heap.size + 1) other.size wr last m) (h1 : last ≤ to) (h2 : to ≤ s.size) => CI.write gl h h1 h2 (by omega)
  have hbs := fun wr last m v T (h : CJ w s (w.heap.size + 1) other.size wr last m v T) (hm : m ≤ zs.length) => CJ.beside gl other h (by
    have : (m + 1) * other.size ≤ (zs.length + 1) * other.size := Nat.mul_le_mul_right _ (by omega)
    omega)
  have hcl := fun w1 wr m (h : CI w s (w.heap.size + 1) other.size w1 s.size m) (b0 : Below w1.heap.size w1 wr) => CI.close gl h b0 (by omega)
  have HLI := hide hali
  have HWR := hide hwr
  have HBS := hide hbs
  have HCL := hide hcl
  have HST := hide hst
  have HZ := hide hz
  have HWF := hide hwf
  have hnum := num_ok
  clear hgl hali hwr hbs hcl hst hz hwf gl hb hz2
  generalize hcc : zs.length = c at *
  go_enter Tryz.func4, Tryz.ntmps4
  go_wp2_with (first | (go_at_call 14; refine hn1.mono ?_; rintro e wn ⟨rfl, rfl⟩) | (go_at_call 14; refine hn2.mono ?_; rintro e wn ⟨rfl, rfl⟩))
  go_loopw [9, 10, 11, 12, 13, 14, 15, 16, 17] (fun nv lastv iv _ _ _ _ _ _ wr => ∃ last i m, CL w s other.size c nv lastv iv wr last i m) (fun _ _ iv _ _ _ _ _ _ _ => c + 1 - (RowKit.intOf iv).toNat)
  case atStart => exact ⟨0, 0, 0, by rw [toldTo_zero]; rfl, rfl, rfl, by omega, Nat.le_refl _, Nat.zero_le _, fun e => by omega, HST.out⟩
  case round =>
    obtain ⟨last, i, m, u⟩ := hrel
    obtain rfl := u.e1
    obtain rfl := u.e2
    obtain rfl := u.e3
    have hlast := u.hl
    have hiu := u.hi
    have hmu := u.hm
    have hwi : IntKind.i64.wrap ((i : Int) + 1) = (i : Int) + 1 := by rw [IntKind.wrap_i64]; omega
    by_cases hic : i ≤ c
    · have hd0 : decide ((i : Int) ≤ (c : Int)) = true := by simp; omega
      by_cases hlt : i < c
      · have hd1 : decide ((i : Int) < (c : Int)) = true := by simp; omega
        obtain ⟨a0, hbo, hcell⟩ := HZ.out i (by omega)
        have hwz := HWF.out (zs.getD i 0) (by rw [List.getD_eq_getElem?_getD, List.getElem?_eq_getElem (by omega)]; exact List.getElem_mem _)
        have hcr : wr.cell? (a0.add i) = some (.int .i64 (zs.getD i 0)) := (u.ci.bl.cell (World.block_lt_of_cell? w _ hcell)).trans hcell
        generalize zs.getD i 0 = z at *
        subst hbo
        by_cases h1 : z < last
        · have hd2 : decide (z < (last : Int)) = true := by simpa using h1
          have U := hide u
          clear u hcell
          go_wp2_with fail
          exact ⟨⟨last, i + 1, m, rfl, rfl, by simp, by omega, by omega, hlast, fun e => by omega, U.out.ci⟩, by simp only [RowKit.intOf]; omega⟩
        · have hd2 : decide (z < (last : Int)) = false := by simpa using h1
          by_cases h2 : (s.size : Int) < z
          · have hd3 : decide ((s.size : Int) < z) = true := by simpa using h2
            have U := hide u
            clear u hcell
            go_wp2_with fail
            exact ⟨⟨last, i + 1, m, rfl, rfl, by simp, by omega, by omega, hlast, fun e => by omega, U.out.ci⟩, by simp only [RowKit.intOf]; omega⟩
          · have hd3 : decide ((s.size : Int) < z) = false := by simpa using h2
            obtain ⟨to, rfl⟩ : ∃ k : Nat, z = (k : Int) := ⟨z.toNat, by omega⟩
            clear hcell
            have hcall := HWR.out wr last m to u.ci (by omega) (by omega)
            have hbm : m ≤ c := by omega
            have hrd := fun W => read_ref (s.extract 0 to) W (by simp; omega)
            have htk := piece_toks s last to (by omega)
            have U := hide u
            have HTK := hide htk
            clear u htk
            go_wp2_with fail
            refine hcall.mono ?_
            rintro e w2 ⟨v2, rfl, cj⟩
            have CJ2 := hide cj
            clear cj hcall
            go_wp2_with fail
            refine (HBS.out w2 to m v2 _ CJ2.out hbm).mono ?_
            rintro e w3 ⟨v3, rfl, ci3, A3, an3⟩
            have CI3 := hide ci3
            have AN3 := hide an3
            clear ci3 an3
            go_wp2_with fail
            refine (hrd w3).mono ?_
            rintro e w4 ⟨rfl, F4, lv4, cs4, rs4, b4, _⟩
            have CI4 := hide (CI3.out.past b4)
            have AN4 := hide (AN3.out.past b4)
            have RS4 := hide rs4
            clear rs4 b4 hrd
            have hL : (readS (s.extract 0 to)).l.length = toldTo s to := by unfold toldTo; rfl
            have hge : toldTo s last ≤ toldTo s to := by rw [← hL]; unfold toldTo; exact HTK.out.2.2
            obtain ⟨ai, ac, hlv, hac, hmx, hvw⟩ := rest_view RS4.out (toldTo s last) (by rw [hL]; exact hge)
            have c42 := RS4.out.sat.cell (i := 2) (v := lv4) rfl
            rw [hlv, hL] at c42
            rw [hL] at hac hvw
            have hmx2 : (ac : Int) ≤ 9223372036854775807 := by have : maxLen = 9223372036854775807 := rfl; omega
            have hdg : decide ((toldTo s last : Int) ≤ (toldTo s to : Int)) = true := by simp; omega
            have htl : Hid (List.drop (toldTo s last) (readS (s.extract 0 to)).l = List.drop (readS (s.extract 0 last)).l.length (readS (s.extract 0 to)).l) := hide (by unfold toldTo; rfl)
            have AN5 : Hid (Ans A3 w4 v2 (List.drop (toldTo s last) (readS (s.extract 0 to)).l)) := hide (by rw [htl.out]; exact AN4.out)
            clear hL hmx hlv htl AN4
            generalize hL1 : toldTo s to = L1 at *
            have HL1 := hide hL1
            clear hL1
            generalize toldTo s last = L0 at *
            generalize List.drop L0 (readS (s.extract 0 to)).l = TD at *
            rcases hvw with ⟨hai, hl0, hac0, hv⟩ | ⟨g, hai, hv⟩
            · subst hai
              obtain rfl : 0 = ac := hac0.symm
              obtain rfl : 0 = L1 := hl0.symm
              obtain rfl : 0 = L0 := by omega
              have HV := hide hv
              clear hv
              go_wp2_with fail
              all_goals
                refine (same_ok AN5.out (by first | exact HV.out | exact HV.out _ | exact view_zero (HV.out 0) (by omega))).mono ?_
                rintro e w5 ⟨rfl, b5⟩
                have CI5 := hide (CI4.out.past b5)
                have c52 := (b5.cell (p := ⟨w3.heap.size, 2, none⟩) (World.block_lt_of_cell? w4 _ c42)).trans c42
                have herr := CI5.out.err
                clear b5 c42
                go_wp2_with fail
                refine herr.mono ?_
                rintro e w6 ⟨rfl, b6⟩
                have CI6 := hide (CI5.out.past b6)
                clear b6 herr
                go_wp2_with (go_at_call 12; refine (hnum _ _).mono ?_; rintro e wx ⟨rfl, hwx⟩; have hwy := hwx.symm; clear hwx; subst hwy)
                exact ⟨⟨to, i + 1, m + 1, by first | (rw [HL1.out]; done) | (rw [HL1.out]; rfl), rfl, by simp, by omega, by omega, by omega, fun e => by omega, CI6.out⟩, by simp only [RowKit.intOf]; omega⟩
            · subst hai
              have HV := hide hv
              clear hv
              go_wp2_with fail
              all_goals
                refine (same_ok AN5.out (by first | exact HV.out | exact HV.out _ | exact view_zero (HV.out 0) (by omega))).mono ?_
                rintro e w5 ⟨rfl, b5⟩
                have CI5 := hide (CI4.out.past b5)
                have c52 := (b5.cell (p := ⟨w3.heap.size, 2, none⟩) (World.block_lt_of_cell? w4 _ c42)).trans c42
                have herr := CI5.out.err
                clear b5 c42
                go_wp2_with fail
                refine herr.mono ?_
                rintro e w6 ⟨rfl, b6⟩
                have CI6 := hide (CI5.out.past b6)
                clear b6 herr
                go_wp2_with (go_at_call 12; refine (hnum _ _).mono ?_; rintro e wx ⟨rfl, hwx⟩; have hwy := hwx.symm; clear hwx; subst hwy)
                exact ⟨⟨to, i + 1, m + 1, by first | (rw [HL1.out]; done) | (rw [HL1.out]; rfl), rfl, by simp, by omega, by omega, by omega, fun e => by omega, CI6.out⟩, by simp only [RowKit.intOf]; omega⟩
      · have hie : i = c := by omega
        have hd1 : decide ((i : Int) < (c : Int)) = false := by simp; omega
        obtain rfl : c = i := hie.symm
        obtain ⟨to, hto⟩ : ∃ k, s.size = k := ⟨_, rfl⟩
        have hd2 : decide ((to : Int) < (last : Int)) = false := by simp; omega
        have hd3 : decide ((to : Int) < (to : Int)) = false := by simp
        have hcall := HWR.out wr last m to u.ci (by omega) (by omega)
        have hbm : m ≤ c := by omega
        have hrd := fun W => read_ref (s.extract 0 to) W (by simp; omega)
        have htk := piece_toks s last to (by omega)
        have U := hide u
        have HTK := hide htk
        clear u htk
        go_wp2_with fail
        refine hcall.mono ?_
        rintro e w2 ⟨v2, rfl, cj⟩
        have CJ2 := hide cj
        clear cj hcall
        go_wp2_with fail
        refine (HBS.out w2 to m v2 _ CJ2.out hbm).mono ?_
        rintro e w3 ⟨v3, rfl, ci3, A3, an3⟩
        have CI3 := hide ci3
        have AN3 := hide an3
        clear ci3 an3
        go_wp2_with fail
        refine (hrd w3).mono ?_
        rintro e w4 ⟨rfl, F4, lv4, cs4, rs4, b4, _⟩
        have CI4 := hide (CI3.out.past b4)
        have AN4 := hide (AN3.out.past b4)
        have RS4 := hide rs4
        clear rs4 b4 hrd
        have hL : (readS (s.extract 0 to)).l.length = toldTo s to := by unfold toldTo; rfl
        have hge : toldTo s last ≤ toldTo s to := by rw [← hL]; unfold toldTo; exact HTK.out.2.2
        obtain ⟨ai, ac, hlv, hac, hmx, hvw⟩ := rest_view RS4.out (toldTo s last) (by rw [hL]; exact hge)
        have c42 := RS4.out.sat.cell (i := 2) (v := lv4) rfl
        rw [hlv, hL] at c42
        rw [hL] at hac hvw
        have hmx2 : (ac : Int) ≤ 9223372036854775807 := by have : maxLen = 9223372036854775807 := rfl; omega
        have hdg : decide ((toldTo s last : Int) ≤ (toldTo s to : Int)) = true := by simp; omega
        have htl : Hid (List.drop (toldTo s last) (readS (s.extract 0 to)).l = List.drop (readS (s.extract 0 last)).l.length (readS (s.extract 0 to)).l) := hide (by unfold toldTo; rfl)
        have AN5 : Hid (Ans A3 w4 v2 (List.drop (toldTo s last) (readS (s.extract 0 to)).l)) := hide (by rw [htl.out]; exact AN4.out)
        clear hL hmx hlv htl AN4
        generalize hL1 : toldTo s to = L1 at *
        have HL1 := hide hL1
        clear hL1
        generalize toldTo s last = L0 at *
        generalize List.drop L0 (readS (s.extract 0 to)).l = TD at *
        rcases hvw with ⟨hai, hl0, hac0, hv⟩ | ⟨g, hai, hv⟩
        · subst hai
          obtain rfl : 0 = ac := hac0.symm
          obtain rfl : 0 = L1 := hl0.symm
          obtain rfl : 0 = L0 := by omega
          have HV := hide hv
          clear hv
          go_wp2_with fail
          all_goals
            refine (same_ok AN5.out (by first | exact HV.out | exact HV.out _ | exact view_zero (HV.out 0) (by omega))).mono ?_
            rintro e w5 ⟨rfl, b5⟩
            have CI5 := hide (CI4.out.past b5)
            have c52 := (b5.cell (p := ⟨w3.heap.size, 2, none⟩) (World.block_lt_of_cell? w4 _ c42)).trans c42
            have herr := CI5.out.err
            clear b5 c42
            go_wp2_with fail
            refine herr.mono ?_
            rintro e w6 ⟨rfl, b6⟩
            have CI6 := hide (CI5.out.past b6)
            clear b6 herr
            go_wp2_with (go_at_call 12; refine (hnum _ _).mono ?_; rintro e wx ⟨rfl, hwx⟩; have hwy := hwx.symm; clear hwx; subst hwy)
            exact ⟨⟨to, c + 1, m + 1, by first | (rw [HL1.out]; done) | (rw [HL1.out]; rfl), rfl, by simp, by omega, by omega, by omega, fun _ => hto.symm, CI6.out⟩, by simp only [RowKit.intOf]; omega⟩
        · subst hai
          have HV := hide hv
          clear hv
          go_wp2_with fail
          all_goals
            refine (same_ok AN5.out (by first | exact HV.out | exact HV.out _ | exact view_zero (HV.out 0) (by omega))).mono ?_
            rintro e w5 ⟨rfl, b5⟩
            have CI5 := hide (CI4.out.past b5)
            have c52 := (b5.cell (p := ⟨w3.heap.size, 2, none⟩) (World.block_lt_of_cell? w4 _ c42)).trans c42
            have herr := CI5.out.err
            clear b5 c42
            go_wp2_with fail
            refine herr.mono ?_
            rintro e w6 ⟨rfl, b6⟩
            have CI6 := hide (CI5.out.past b6)
            clear b6 herr
            go_wp2_with (go_at_call 12; refine (hnum _ _).mono ?_; rintro e wx ⟨rfl, hwx⟩; have hwy := hwx.symm; clear hwx; subst hwy)
            exact ⟨⟨to, c + 1, m + 1, by first | (rw [HL1.out]; done) | (rw [HL1.out]; rfl), rfl, by simp, by omega, by omega, by omega, fun _ => hto.symm, CI6.out⟩, by simp only [RowKit.intOf]; omega⟩
    · have hd0 : decide ((i : Int) ≤ (c : Int)) = false := by simp; omega
      obtain rfl : s.size = last := (u.hend (by omega)).symm
      have hrd := read_ref s wr (by omega)
      have CI1 := hide u.ci
      clear u
      go_wp2_with fail
      refine hrd.mono ?_
      rintro e w2 ⟨rfl, F2, lv2, cs2, rs2, b2, _⟩
      have hcall := HCL.out wr w2 m CI1.out b2
      have hb2z := b2.size
      have hX2 : wr.heap.size < w2.heap.size := rs2.sat.lt
      have SAT2 := hide rs2.sat
      clear rs2 b2 hrd
      go_wp2_with fail
      refine hcall.mono ?_
      rintro e w3 ⟨v3, A3, rfl, ce3, an3, b3, hz3, hk3⟩
      have sat3 : SAt wr.heap.size w3 s lv2 (readS s) := (hk3 _ (Nat.le_refl _) hX2).trans SAT2.out
      have CE3 := hide ce3
      have AN3 := hide an3
      have SAT3 := hide sat3
      have herr := ce3.err
      clear ce3 an3 b3 hz3 hk3 sat3 hcall SAT2
      go_wp2_with fail
      refine herr.mono ?_
      rintro e w4 ⟨rfl, b4⟩
      have CE4 := hide (CE3.out.past b4)
      have AN4 := hide (AN3.out.past b4)
      have sat4 : SAt wr.heap.size w4 s lv2 (readS s) := (b4.block _ SAT3.out.lt).trans SAT3.out
      have hla := last_ref sat4
      have SAT4 := hide sat4
      clear b4 herr sat4 SAT3 CE3 AN3
      go_wp2_with fail
      refine hla.mono ?_
      rintro e w5 ⟨v5, rfl, b5, hv5⟩
      have VW := hide (last_view hv5)
      have CE5 := hide (CE4.out.past b5)
      have AN5 := hide (AN4.out.past b5)
      have SAT5 : Hid (SAt wr.heap.size w5 s lv2 (readS s)) := hide ((b5.block _ SAT4.out.lt).trans SAT4.out)
      clear b5 hv5 hla SAT4 CE4 AN4
      go_wp2_with fail
      refine (same_ok AN5.out VW.out).mono ?_
      rintro e w6 ⟨rfl, b6⟩
      have CE6 := hide (CE5.out.past b6)
      have sat6 : SAt wr.heap.size w6 s lv2 (readS s) := (b6.block _ SAT5.out.lt).trans SAT5.out
      have SAT6 := hide sat6
      have hwt := CE6.out.write other
      have hcs := CE6.out.close
      have her := CE6.out.err
      clear b6 SAT5 CE5 AN5 sat6
      go_wp2_with fail
      refine hwt.mono ?_
      rintro e w7 ⟨rfl, rfl⟩
      go_wp2_with fail
      refine hcs.mono ?_
      rintro e w8 ⟨rfl, hw8⟩
      have hw9 := hw8.symm
      clear hw8
      subst hw9
      go_wp2_with fail
      refine her.mono ?_
      rintro e w9 ⟨rfl, b9⟩
      have CE9 := hide (CE6.out.past b9)
      have sat9 : SAt wr.heap.size w9 s lv2 (readS s) := (b9.block _ SAT6.out.lt).trans SAT6.out
      have c95 : w9.cell? ⟨wr.heap.size, 5, none⟩ = some (.int .i64 (readS s).err) := sat9.cell 5 rfl
      have c96 : w9.cell? ⟨wr.heap.size, 6, none⟩ = some (.int .i64 (readS s).at_) := sat9.cell 6 rfl
      have B9 := hide CE9.out.bl
      clear b9 sat9 SAT6 CE6 hwt hcs her
      generalize (readS s).err = er at *
      generalize (readS s).at_ = et at *
      have hltX : wr.heap.size < w9.heap.size := World.block_lt_of_cell? w9 _ c95
      go_wp2_with fail
      go_region_held3 (fun W => W.cell? ⟨wr.heap.size, 5, none⟩ = some (.int .i64 er) ∧ W.cell? ⟨wr.heap.size, 6, none⟩ = some (.int .i64 et))
        (first | exact ⟨c95, c96⟩ | exact ⟨d5, d6⟩)
        (first | (go_at_call 12; refine (hnum _ _).mono ?_; rintro e wx ⟨rfl, hwx⟩; have hwy := hwx.symm; clear hwx; subst hwy) | (go_at_call 13; refine (HLI.out _ (below_drewN B9.out _)).mono ?_; rintro e wa ⟨rfl, ba⟩; have d5 : wa.cell? ⟨wr.heap.size, 5, none⟩ = some (.int .i64 er) := (ba.cell (p := ⟨wr.heap.size, 5, none⟩) hltX).trans c95; have d6 : wa.cell? ⟨wr.heap.size, 6, none⟩ = some (.int .i64 et) := (ba.cell (p := ⟨wr.heap.size, 6, none⟩) hltX).trans c96; have BA := hide ((below_drewN B9.out _).trans (below_less ba B9.out.size)); clear ba))
      all_goals
        go_wp2
        go_ret
        exact ⟨rfl, BA.out⟩
end Go.Proofs.YtgognegkcplcpaaGreatDoor
