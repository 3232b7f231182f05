import Derived.Deep.MidRow
import Derived.Test.YtgognegkcplcpaaGreatDoorGam
import Derived.Test.YtgognegkcplcpaaGreatDoorGal
set_option linter.unusedVariables false
set_option linter.unusedSimpArgs false
namespace Go.Proofs.YtgognegkcplcpaaGreatDoor
open Go.RowKit Go.Maps Go.Lib
variable {F F' G : Nat → Prop} {R : Nat} {w w' w'' wr : World} {s s' : Src} {p : Ptr} {st : St} {c : Int} {a : Addr} {pt : Part} {v : Value} {m : Rd} {N n : Nat}
theorem mid {w1 : World} {s1 : Src} {p1 : Ptr} {st1 : St} (rg1 : RG F R w s1 p1 st1 w1) (gl : Gl w a) (lo : Low F) (o : Obj) :
    RF (Rest (Grow F w w1) R w1 p1.attrs) R (w1.setCell ⟨R, 5, none⟩ nilS) s1 { p1 with told := nilS } { st1 with told := [] } ((w1.setCell ⟨R, 5, none⟩ nilS).alloc o) ∧
    Gl ((w1.setCell ⟨R, 5, none⟩ nilS).alloc o) a ∧ Low (Grow F w w1) := by
  have lo1 : Low (Grow F w w1) := lo.grow gl.size
  have gl1 := gl.frame rg1.2 lo
  have hb : Below (w1.setCell ⟨R, 5, none⟩ nilS).heap.size (w1.setCell ⟨R, 5, none⟩ nilS) ((w1.setCell ⟨R, 5, none⟩ nilS).alloc o) := (Below.refl _ _).alloc (Nat.le_refl _) _
  have r3 := (RF.refl (rg1.1.release lo1).1).below hb
  refine ⟨r3, ?_, lo1⟩
  have f1 : Frame (Grow F w w1) w1 (w1.setCell ⟨R, 5, none⟩ nilS) := ⟨rfl, rfl, rfl, by simp [World.setCell], fun k hk hf => Below.heap_setCell _ _ _ _ (fun e => hf (e ▸ rg1.1.inR))⟩
  have gl2 := gl1.frame f1 lo1
  have lo2 : Low (Rest (Grow F w w1) R w1 p1.attrs) := fun k hk x => lo1 k hk x.1
  exact gl2.frame r3.2.1 lo2
set_option maxHeartbeats 4000000 in
set_option maxRecDepth 10000 in
theorem advance_more (hrd : Calls Tryz.prog 36 #[.pointer (some ⟨R, 0, none⟩)] w (ReadEnd F R w a m)) (gl : Gl w a) (lo : Low F) (hret : m.ret = .more) (hz : m.s.rest.size ≤ 1099511627776) :
    Calls Tryz.prog 25 #[.pointer (some ⟨R, 0, none⟩)] w (AnsEnd F R w (tells m)) := by
  have ht : tells m = (⟨m.s, some m.pt, { m.st with told := [] }⟩, m.st.told) := by unfold tells; rw [hret]
  rw [ht]
  have hrd2 : Calls Tryz.prog 36 #[.pointer (some ⟨R, 0, none⟩)] w fun e w1 => e = .returned (.iface 170 (.pointer (some a))) ∧ ∃ v p', RG F R w { m.s with now := v } p' m.st w1 ∧ PartAt (Grow F w w1) R w1 v m.pt := by
    refine hrd.mono ?_
    rintro e w1 ⟨v, p', rg, hx⟩
    rw [hret] at hx
    exact ⟨hx.1, v, p', rg, hx.2⟩
  have GL := hide gl
  have LO := hide lo
  clear hrd ht hret gl lo
  have his := is_same a
  go_enter Tryz.func25, Tryz.ntmps25
  go_wp2_with (first | (go_at_call 36; refine hrd2.mono ?_; rintro e w1 ⟨rfl, v1, p1, rg1, pa1⟩; obtain ⟨r3, g3, l1⟩ := mid rg1 GL.out LO.out (.cells #[.int .i64 0, .int .i64 0] 69); have m0 : ((w1.setCell ⟨R, 5, none⟩ (.slice none 0 0)).alloc (.cells #[.int .i64 0, .int .i64 0] 69)).cell? ⟨0, 0, none⟩ = some (.iface 170 (.pointer (some a))) := g3.more; have hke := keepRest_ok r3.1 hz; have R3 := hide r3; have L1 := hide l1; have RG1 := hide rg1; have PA1 := hide pa1; have c5 : w1.cell? ⟨R, 5, none⟩ = some p1.told := rg1.1.cell 5 rfl; have f5 := rg1.1.free 5; clear rg1 pa1 r3 g3 l1) | (go_at_call 37; refine (his _).mono ?_; rintro e wx ⟨rfl, rfl⟩) | (go_at_call 38; refine hke.mono ?_; rintro e w4 ⟨rfl, r4⟩))
  go_ret
  have hsz : (w1.setCell ⟨R, 5, none⟩ nilS).heap.size = w1.heap.size := by simp [World.setCell]
  refine ans_end (x := ⟨m.s, some m.pt, { m.st with told := [] }⟩) RG1.out L1.out (R3.out.rg.on r4.rg) ?_
  refine (PA1.out.release (w' := w1.setCell ⟨R, 5, none⟩ nilS) (fun k hk => Below.heap_setCell _ _ _ _ hk)).keep (fun k hk hR => ?_) (fun _ x => Or.inl x)
  have hl : k < (w1.setCell ⟨R, 5, none⟩ nilS).heap.size := by rw [hsz]; exact RG1.out.1.lt k hk.1
  exact (r4.2.2 k (Nat.lt_of_lt_of_le hl R3.out.2.1.size) hR).trans (R3.out.2.2 k hl hR)
set_option maxHeartbeats 4000000 in
set_option maxRecDepth 10000 in
theorem advance_over (hrd : Calls Tryz.prog 36 #[.pointer (some ⟨R, 0, none⟩)] w (ReadEnd F R w a m)) (gl : Gl w a) (lo : Low F) (hret : m.ret = .over) :
    Calls Tryz.prog 25 #[.pointer (some ⟨R, 0, none⟩)] w (AnsEnd F R w (tells m)) := by
  have ht : tells m = (⟨m.s, none, { m.st with told := [] }⟩, m.st.told) := by unfold tells; rw [hret]
  rw [ht]
  have hrd2 : Calls Tryz.prog 36 #[.pointer (some ⟨R, 0, none⟩)] w fun e w1 => e = .returned .nilIface ∧ ∃ p', RG F R w { m.s with now := .nilFunc } p' m.st w1 := by
    refine hrd.mono ?_
    rintro e w1 ⟨v, p', rg, hx⟩
    rw [hret] at hx
    obtain ⟨rfl, rfl⟩ := hx
    exact ⟨rfl, p', rg⟩
  have GL := hide gl
  have LO := hide lo
  clear hrd ht hret gl lo
  have his := is_nil a
  have has := as_nil
  go_enter Tryz.func25, Tryz.ntmps25
  go_wp2_with (first | (go_at_call 36; refine hrd2.mono ?_; rintro e w1 ⟨rfl, p1, rg1⟩; obtain ⟨r3, g3, l1⟩ := mid rg1 GL.out LO.out (.cells #[.int .i64 0, .int .i64 0] 69); have m0 : ((w1.setCell ⟨R, 5, none⟩ (.slice none 0 0)).alloc (.cells #[.int .i64 0, .int .i64 0] 69)).cell? ⟨0, 0, none⟩ = some (.iface 170 (.pointer (some a))) := g3.more; have R3 := hide r3; have L1 := hide l1; have RG1 := hide rg1; have c5 : w1.cell? ⟨R, 5, none⟩ = some p1.told := rg1.1.cell 5 rfl; have f5 := rg1.1.free 5; clear rg1 r3 g3 l1) | (go_at_call 37; refine (his _).mono ?_; rintro e wx ⟨rfl, rfl⟩) | (go_at_call 39; refine (has _ _).mono ?_; rintro e wx ⟨rfl, rfl⟩))
  go_ret
  exact ans_end (x := ⟨m.s, none, { m.st with told := [] }⟩) RG1.out L1.out R3.out.rg rfl
def setAll (cur : Array Value) : Nat → List Value → Array Value
  | _, [] => cur
  | o, v :: r => setAll (cur.setIfInBounds o v) (o + 1) r
theorem setCells_row {t : TypeId} : ∀ (vs : List Value) (o : Nat) (cur : Array Value) (w : World), w.heap[R]? = some (.cells cur t (0, 0)) → (w.setCells R o vs).heap[R]? = some (.cells (setAll cur o vs) t (0, 0))
  | [], _, _, _, h => h
  | v :: r, o, _, _, h => setCells_row r (o + 1) _ _ (set_of h v)
theorem setCells_other : ∀ (vs : List Value) (o : Nat) (w : World), (∀ k, k ≠ R → (w.setCells R o vs).heap[k]? = w.heap[k]?) ∧ (w.setCells R o vs).heap.size = w.heap.size ∧ (w.setCells R o vs).os = w.os ∧ (w.setCells R o vs).tape = w.tape ∧ (w.setCells R o vs).output = w.output
  | [], _, _ => ⟨fun _ _ => rfl, rfl, rfl, rfl, rfl⟩
  | v :: r, o, w => by
    obtain ⟨h1, h2, h3, h4, h5⟩ := setCells_other r (o + 1) (w.setCell ⟨R, o, none⟩ v)
    refine ⟨fun k hk => (h1 k hk).trans (Below.heap_setCell _ _ _ _ hk), h2.trans (by simp [World.setCell]), h3, h4, h5⟩
def docZero : Array Value := #[.string ⟨#[]⟩, .int .i64 0, .int .i64 0, .bool false, .nilFunc, nilS, nilS, .int .i64 0, .int .i64 0, nilS, .int .i64 0, nilS, .map none, nilS, .int .i64 0, nilS, .int .i64 0, .int .i32 0, nilS, .int .i64 0]
theorem docOne : docZero.all (·.oneCell') = true := by kernel_rfl
theorem docSize : (Tryz.prog.info? 67).map (·.size) = some docZero.size := by kernel_rfl
theorem zero_cells (s : Src) (p : Ptr) (st : St) : setAll (cellsOf s p st) 0 docZero.toList = cellsOf (Src.zero s.no s.fat s.closed) Ptr.zero St.zero := by kernel_rfl
theorem doc_there {t : TypeId} {cur : Array Value} (h : w.heap[R]? = some (.cells cur t (0, 0))) (hs : 20 ≤ cur.size) : w.there R 0 docZero.size := by
  intro j hj
  have hj' : j < 20 := hj
  rw [Nat.zero_add]
  exact ⟨by rw [cell_of h (Array.getElem?_eq_getElem (by omega))]; rfl, free_of h⟩
theorem RG.zero (h : RG F R w s p st w') : RG F R w (Src.zero s.no s.fat s.closed) Ptr.zero St.zero (w'.setCells R 0 docZero.toList) := by
  obtain ⟨h1, h2, h3, h4, h5⟩ := setCells_other (R := R) docZero.toList 0 w'
  have hb := setCells_row (R := R) docZero.toList 0 _ w' h.1.blk
  rw [zero_cells] at hb
  generalize w'.setCells R 0 docZero.toList = W at *
  refine ⟨⟨hb, ?_, fun k hk => ?_, Own.zero _ _ _⟩, ⟨h3.trans h.2.os, h4.trans h.2.tape, h5.trans h.2.output, by rw [h2]; exact h.2.size, fun k hk hf => ?_⟩⟩
  · have := h.1.inR
    unfold Grow at this ⊢
    rw [h2]; exact this
  · unfold Grow at hk
    rw [h2] at hk ⊢
    exact h.1.lt k hk
  · refine (h1 k ?_).trans (h.2.block k hk hf)
    intro e
    subst e
    rcases h.1.inR with x | x
    · exact hf x
    · omega
theorem as_new (w2 : World) (no q : Int) (hg : (w2.alloc (.cells #[.int .i64 0, .int .i64 0] 69)).cell? ⟨1, 0, none⟩ = some (.iface 141 (.agg #[.pointer (some ⟨5, 79, none⟩)]))) :
    Calls Tryz.prog 39 #[.iface 69 (.agg #[.int .i64 no, .int .i64 q]), .iface 88 (.pointer (some ⟨w2.heap.size, 0, none⟩))] (w2.alloc (.cells #[.int .i64 0, .int .i64 0] 69)) fun ev w5 => ev = .returned (.bool true) ∧ Below w2.heap.size w2 w5 ∧ w5.cell? ⟨w2.heap.size, 0, none⟩ = some (.int .i64 no) ∧ w5.cell? ⟨w2.heap.size, 1, none⟩ = some (.int .i64 q) := by
  have hh : (w2.alloc (.cells #[.int .i64 0, .int .i64 0] 69)).heap[w2.heap.size]? = some (.cells #[.int .i64 0, .int .i64 0] 69 (0, 0)) := Below_new _ _
  refine (as_hit w2.heap.size no q (.int .i64 0) (.int .i64 0) _ hg (cell_of hh rfl) (cell_of hh rfl) (free_of hh) (free_of hh)).mono ?_
  rintro ev w5 ⟨rfl, rfl⟩
  have hb : Below w2.heap.size w2 ((((((w2.alloc (.cells #[.int .i64 0, .int .i64 0] 69)).alloc (.cells #[.pointer (some ⟨w2.heap.size, 0, none⟩)] 88)).alloc (.cells (V87 (w2.alloc (.cells #[.int .i64 0, .int .i64 0] 69)).heap.size) 120)).alloc (.cells (V87 (w2.alloc (.cells #[.int .i64 0, .int .i64 0] 69)).heap.size) 120)).alloc (.cells #[.int .i64 no, .int .i64 q] 69))) :=
    (((((Below.refl _ _).alloc (Nat.le_refl _) _).alloc (by simp) _).alloc (by simp; omega) _).alloc (by simp; omega) _).alloc (by simp; omega) _
  have hx : (((((w2.alloc (.cells #[.int .i64 0, .int .i64 0] 69)).alloc (.cells #[.pointer (some ⟨w2.heap.size, 0, none⟩)] 88)).alloc (.cells (V87 (w2.alloc (.cells #[.int .i64 0, .int .i64 0] 69)).heap.size) 120)).alloc (.cells (V87 (w2.alloc (.cells #[.int .i64 0, .int .i64 0] 69)).heap.size) 120)).alloc (.cells #[.int .i64 no, .int .i64 q] 69)).heap[w2.heap.size]? = some (.cells #[.int .i64 0, .int .i64 0] 69 (0, 0)) := by
    rw [Below.heap_alloc _ _ _ (by simp; omega), Below.heap_alloc _ _ _ (by simp; omega), Below.heap_alloc _ _ _ (by simp; omega), Below.heap_alloc _ _ _ (by simp)]
    exact hh
  generalize (((((w2.alloc (.cells #[.int .i64 0, .int .i64 0] 69)).alloc (.cells #[.pointer (some ⟨w2.heap.size, 0, none⟩)] 88)).alloc (.cells (V87 (w2.alloc (.cells #[.int .i64 0, .int .i64 0] 69)).heap.size) 120)).alloc (.cells (V87 (w2.alloc (.cells #[.int .i64 0, .int .i64 0] 69)).heap.size) 120)).alloc (.cells #[.int .i64 no, .int .i64 q] 69)) = W at *
  have h1 := set_of (i := 0) hx (.int .i64 no)
  have h2 := set_of (i := 1) h1 (.int .i64 q)
  refine ⟨rfl, ⟨hb.os, hb.tape, hb.output, ?_, fun k hk => ?_⟩, cell_of h2 rfl, cell_of h2 rfl⟩
  · have := hb.size; simp [World.setCell]; exact this
  · rw [Below.heap_setCell _ _ _ _ (Nat.ne_of_lt hk), Below.heap_setCell _ _ _ _ (Nat.ne_of_lt hk)]
    exact hb.block k hk
set_option maxHeartbeats 4000000 in
set_option maxRecDepth 10000 in
theorem advance_fail {no q : Int} (hrd : Calls Tryz.prog 36 #[.pointer (some ⟨R, 0, none⟩)] w (ReadEnd F R w a m)) (gl : Gl w a) (lo : Low F) (hret : m.ret = .fail no q) :
    Calls Tryz.prog 25 #[.pointer (some ⟨R, 0, none⟩)] w (AnsEnd F R w (tells m)) := by
  have ht : tells m = (⟨Src.zero no q m.s.closed, none, St.zero⟩, m.st.told) := by unfold tells; rw [hret]
  rw [ht]
  have hrd2 : Calls Tryz.prog 36 #[.pointer (some ⟨R, 0, none⟩)] w fun e w1 => e = .returned (.iface 69 (.agg #[.int .i64 no, .int .i64 q])) ∧ ∃ p', RG F R w { m.s with now := .nilFunc } p' m.st w1 := by
    refine hrd.mono ?_
    rintro e w1 ⟨v, p', rg, hx⟩
    rw [hret] at hx
    obtain ⟨rfl, rfl⟩ := hx
    exact ⟨rfl, p', rg⟩
  have GL := hide gl
  have LO := hide lo
  clear hrd ht hret gl lo
  have his := is_wrong no q a
  go_enter Tryz.func25, Tryz.ntmps25
  go_wp2_with (first | (go_at_call 36; refine hrd2.mono ?_; rintro e w1 ⟨rfl, p1, rg1⟩; obtain ⟨r3, g3, l1⟩ := mid rg1 GL.out LO.out (.cells #[.int .i64 0, .int .i64 0] 69); have m0 : ((w1.setCell ⟨R, 5, none⟩ (.slice none 0 0)).alloc (.cells #[.int .i64 0, .int .i64 0] 69)).cell? ⟨0, 0, none⟩ = some (.iface 170 (.pointer (some a))) := g3.more; have has := as_new (w1.setCell ⟨R, 5, none⟩ (.slice none 0 0)) no q g3.et; have RR := hide (RF.refl (rg1.1.release l1).1); have L1 := hide l1; have RG1 := hide rg1; have c5 : w1.cell? ⟨R, 5, none⟩ = some p1.told := rg1.1.cell 5 rfl; have f5 := rg1.1.free 5; clear rg1 r3 g3 l1) | (go_at_call 37; refine (his _).mono ?_; rintro e wx ⟨rfl, rfl⟩))
  have hsz : (w1.setCell ⟨R, 5, none⟩ (.slice none 0 0)).heap.size = w1.heap.size := by simp [World.setCell]
  rw [hsz] at has
  refine has.mono ?_
  rintro e w5 ⟨rfl, b5, t0, t1⟩
  have R5 := hide (RR.out.below (by rw [hsz]; exact b5))
  have c20 : w5.cell? ⟨R, 20, none⟩ = some (.int .i64 m.s.no) := R5.out.1.cell 20 rfl
  have c21 : w5.cell? ⟨R, 21, none⟩ = some (.int .i64 m.s.fat) := R5.out.1.cell 21 rfl
  have f20 := R5.out.1.free 20
  have f21 := R5.out.1.free 21
  have R6 := hide ((R5.out.rg.set (s' := { m.s with now := .nilFunc, no := no }) 20 (.int .i64 no) rfl).set (s' := { m.s with now := .nilFunc, no := no, fat := q }) 21 (.int .i64 q) rfl)
  have hth : ((w5.setCell ⟨R, 20, none⟩ (.int .i64 no)).setCell ⟨R, 21, none⟩ (.int .i64 q)).there R 0 docZero.size := doc_there R6.out.1.blk (by show 20 ≤ 23; omega)
  clear has c5 f5 m0 b5
  go_wp2_with (refine wpList_store_mid rfl 67 (.tmp 39) (.tmp 37) rfl R 0 docZero rfl rfl hth docSize docOne ?_)
  go_ret
  exact ans_end (x := ⟨Src.zero no q m.s.closed, none, St.zero⟩) (v' := .nilFunc) RG1.out L1.out R6.out.zero rfl
end Go.Proofs.YtgognegkcplcpaaGreatDoor

namespace Go.Proofs.YtgognegkcplcpaaGreatDoor
open Go.RowKit Go.Maps Go.Lib
variable {F F' G : Nat → Prop} {R : Nat} {w w' w'' wr w1 : World} {s s' : Src} {p : Ptr} {st : St} {c : Int} {a : Addr} {pt : Part} {v : Value} {m : Rd} {N n : Nat}
theorem took_less2 (s : Src) : s.took.1.rest.size ≤ s.rest.size := by
  unfold Src.took
  split
  · exact Nat.le_refl _
  · split
    · simp only [ByteArray.size_extract]; omega
    · exact Nat.le_refl _
theorem mrun_rest : ∀ (n : Nat) (s : Src) (pt : Part) (st : St), (mrun n s pt st).s.rest.size ≤ s.rest.size := by
  intro n
  induction n with
  | zero => intro s pt st; exact Nat.le_refl _
  | succ n ih =>
    intro s pt st
    have h1 := took_less2 s
    simp only [mrun]
    split
    · exact Nat.le_refl _
    · split
      · have := ih s.took.1; exact Nat.le_trans (this _ _) h1
      · exact h1
      · exact h1
theorem advance_ok (h : Rep F R w s p st) (hpt : PartAt F R w s.now pt) (hl : Lim n pt st) (gl : Gl w a) (lo : Low F) (hn : n + s.rest.size ≤ 274877906944) (hok : s.Ok) :
    Calls Tryz.prog 25 #[.pointer (some ⟨R, 0, none⟩)] w (AnsEnd F R w (tells (reads s.bare pt st))) := by
  have hrd := read_ok h hpt hl gl lo hn (Nat.le_refl _) hok
  cases hr : (reads s.bare pt st).ret with
  | more => exact advance_more hrd gl lo hr (by have := mrun_rest (s.bare.rest.size + 1) s.bare pt st; unfold reads; have e : s.bare.rest.size = s.rest.size := rfl; omega)
  | over => exact advance_over hrd gl lo hr
  | fail no q => exact advance_fail hrd gl lo hr
theorem AnsEnd.after {x : PR × List Tok} {e : Ending} (fr : Frame F w w1) (hF : ∀ k, G k → Grow F w w1 k) (h : AnsEnd G R w1 x e w') : AnsEnd F R w x e w' := by
  obtain ⟨v, A, F', he, an, al, f2, h1, h2⟩ := h
  have hs := fr.size
  have hs2 := f2.size
  have up : ∀ k, Grow G w1 w' k → Grow F w w' k := by
    rintro k (x | x)
    · exact (hF k x).elim Or.inl (fun y => Or.inr ⟨y.1, by omega⟩)
    · exact Or.inr ⟨by omega, x.2⟩
  refine ⟨v, A, F', he, an, al, ⟨f2.os.trans fr.os, f2.tape.trans fr.tape, f2.output.trans fr.output, by omega, fun k hk hf => ?_⟩, fun k hk => ⟨up k (h1 k hk).1, (h1 k hk).2⟩, fun k hk => up k (h2 k hk)⟩
  rw [f2.block k (by omega) (fun x => (hF k x).elim hf (fun y => by omega))]
  exact fr.block k hk hf
set_option maxHeartbeats 1000000 in
theorem add_ok (h : Rep F R w s p st) (b : ByteArray) (hz : s.rest.size + b.size ≤ 1099511627776) : Calls Tryz.prog 24 #[.pointer (some ⟨R, 0, none⟩), .string b] w fun e w' => e = .returned (.tuple #[]) ∧ RF F R w { s with rest := s.rest ++ b } p st w' := by
  have c0 : w.cell? ⟨R, 0, none⟩ = some (.string s.rest) := h.cell 0 rfl
  have f0 := h.free 0
  have hz2 : s.rest.size + b.size ≤ 9223372036854775807 := by omega
  have H := hide (RF.refl h)
  have hadd := fun w => run_string_add_sum (P := Tryz.prog) w s.rest b hz2
  clear h
  go_enter Tryz.func24, Tryz.ntmps24
  go_wp2
  go_end0
  exact ⟨rfl, H.out.set 0 _ rfl⟩
set_option maxHeartbeats 1000000 in
theorem end_ok (h : Rep F R w s p st) : Calls Tryz.prog 29 #[.pointer (some ⟨R, 0, none⟩)] w fun e w' => e = .returned (.tuple #[]) ∧ RF F R w { s with ended := true } p st w' := by
  have c3 : w.cell? ⟨R, 3, none⟩ = some (.bool s.ended) := h.cell 3 rfl
  have f3 := h.free 3
  have H := hide (RF.refl h)
  clear h
  go_enter Tryz.func29, Tryz.ntmps29
  go_wp2
  go_end0
  exact ⟨rfl, H.out.set 3 _ rfl⟩
theorem RF.part {s1 : Src} {p1 : Ptr} {st1 : St} (h : RF F R w s1 p1 st1 w') (hlt : ∀ k, F k → k < w.heap.size) (hpt : PartAt F R w v pt) : PartAt (Grow F w w') R w' v pt :=
  hpt.keep (fun k hk hR => h.2.2 k (hlt k hk) hR) (fun _ x => Or.inl x)
set_option maxHeartbeats 2000000 in
theorem write_live (h : Rep F R w s p st) (hpt : PartAt F R w s.now pt) (hl : Lim n pt st) (gl : Gl w a) (lo : Low F) (b : ByteArray) (hn : n + (s.rest.size + b.size) ≤ 274877906944) (hok : 0 ≤ s.next ∧ s.next + (s.rest.size + b.size : Nat) ≤ 1099511627776) (hc : s.closed = false) (hno : s.no = 0) :
    Calls Tryz.prog 15 #[.pointer (some ⟨R, 0, none⟩), .string b] w (AnsEnd F R w (tells (reads { s with rest := s.rest ++ b }.bare pt st))) := by
  have c20 : w.cell? ⟨R, 20, none⟩ = some (.int .i64 s.no) := h.cell 20 rfl
  have c22 : w.cell? ⟨R, 22, none⟩ = some (.bool s.closed) := h.cell 22 rfl
  rw [hno] at c20
  rw [hc] at c22
  have hadd := add_ok h b (by omega)
  have hsz : (s.rest ++ b).size = s.rest.size + b.size := ByteArray.size_append
  have hadv : ∀ w1, RF F R w { s with rest := s.rest ++ b } p st w1 → Calls Tryz.prog 25 #[.pointer (some ⟨R, 0, none⟩)] w1 (AnsEnd (Grow F w w1) R w1 (tells (reads { s with rest := s.rest ++ b }.bare pt st))) := fun w1 r =>
    advance_ok r.1 (r.part h.lt hpt) hl (gl.frame r.2.1 lo) (lo.grow gl.size) (by show n + (s.rest ++ b).size ≤ _; omega) ⟨hok.1, by show s.next + ((s.rest ++ b).size : Int) ≤ _; rw [hsz]; exact hok.2⟩
  have HA := hide hadv
  clear h hpt hl gl lo hadv hok hn
  generalize tells (reads { s with rest := s.rest ++ b }.bare pt st) = x at *
  go_enter Tryz.func15, Tryz.ntmps15
  go_wp2_with (first | (go_at_call 24; refine hadd.mono ?_; rintro e w1 ⟨rfl, r1⟩) | (go_at_call 25; refine (HA.out _ r1).mono ?_; rintro e w2 ⟨v, A, F', rfl, rest⟩))
  go_ret
  exact AnsEnd.after r1.2.1 (fun k hk => hk) ⟨v, A, F', rfl, rest⟩
theorem ans_none (x : PR) (hx : Alive F R w x) : AnsEnd F R w (x, []) (.returned nilS) w :=
  ⟨nilS, fun _ => False, F, rfl, ⟨[], owns_nil _ _ _, .nil, fun k e => absurd e (nil_block k)⟩, hx, Frame.refl _ _, fun k hk => hk.elim, fun k hk => Or.inl hk⟩
set_option maxHeartbeats 2000000 in
theorem write_dead (h : Rep F R w s p st) (b : ByteArray) (hd : s.closed = true ∨ s.no ≠ 0) :
    Calls Tryz.prog 15 #[.pointer (some ⟨R, 0, none⟩), .string b] w fun e w' => e = .returned nilS ∧ w' = w := by
  have c20 : w.cell? ⟨R, 20, none⟩ = some (.int .i64 s.no) := h.cell 20 rfl
  have c22 : w.cell? ⟨R, 22, none⟩ = some (.bool s.closed) := h.cell 22 rfl
  clear h
  by_cases hc : s.closed = true
  · rw [hc] at c22
    clear hd
    go_enter Tryz.func15, Tryz.ntmps15
    go_wp2
    go_ret
    exact ⟨rfl, rfl⟩
  · have hc' : s.closed = false := by simpa using hc
    have hn : (s.no != 0) = true := by
      have : s.no ≠ 0 := hd.resolve_left hc
      simpa using this
    rw [hc'] at c22
    clear hd hc
    go_enter Tryz.func15, Tryz.ntmps15
    go_wp2
    go_ret
    exact ⟨rfl, rfl⟩
set_option maxHeartbeats 2000000 in
theorem close_dead (h : Rep F R w s p st) (hd : s.closed = true) :
    Calls Tryz.prog 18 #[.pointer (some ⟨R, 0, none⟩)] w fun e w' => e = .returned nilS ∧ w' = w := by
  have c22 : w.cell? ⟨R, 22, none⟩ = some (.bool s.closed) := h.cell 22 rfl
  rw [hd] at c22
  clear h
  go_enter Tryz.func18, Tryz.ntmps18
  go_wp2
  go_ret
  exact ⟨rfl, rfl⟩
set_option maxHeartbeats 2000000 in
theorem close_fault (h : Rep F R w s p st) (hc : s.closed = false) (hd : s.no ≠ 0) :
    Calls Tryz.prog 18 #[.pointer (some ⟨R, 0, none⟩)] w fun e w' => e = .returned nilS ∧ RF F R w { s with closed := true } p st w' := by
  have c22 : w.cell? ⟨R, 22, none⟩ = some (.bool s.closed) := h.cell 22 rfl
  have c20 : w.cell? ⟨R, 20, none⟩ = some (.int .i64 s.no) := h.cell 20 rfl
  have f22 := h.free 22
  have hn : (s.no != 0) = true := by simpa using hd
  rw [hc] at c22
  have H := hide ((RF.refl h).set (s' := { s with closed := true }) 22 (.bool true) rfl)
  have d20 : (w.setCell ⟨R, 22, none⟩ (.bool true)).cell? ⟨R, 20, none⟩ = some (.int .i64 s.no) := H.out.1.cell 20 rfl
  clear h hd
  go_enter Tryz.func18, Tryz.ntmps18
  go_wp2
  go_ret
  exact ⟨rfl, H.out⟩
theorem err_open (h : Rep F R w s p st) (hc : s.closed = false) :
    Calls Tryz.prog 17 #[.pointer (some ⟨R, 0, none⟩)] w fun e w' => e = .returned (.tuple #[.int .i64 0, .int .i64 0]) ∧ w' = w := by
  have c22 : w.cell? ⟨R, 22, none⟩ = some (.bool s.closed) := h.cell 22 rfl
  rw [hc] at c22
  clear h
  go_enter Tryz.func17, Tryz.ntmps17
  go_wp2
  go_ret2
  exact ⟨rfl, rfl⟩
set_option maxHeartbeats 2000000 in
theorem err_shut (h : Rep F R w s p st) (hc : s.closed = true) :
    Calls Tryz.prog 17 #[.pointer (some ⟨R, 0, none⟩)] w fun e w' => e = .returned (.tuple #[.int .i64 s.no, .int .i64 s.fat]) ∧ Below w.heap.size w w' := by
  have c22 : w.cell? ⟨R, 22, none⟩ = some (.bool s.closed) := h.cell 22 rfl
  have c20 : w.cell? ⟨R, 20, none⟩ = some (.int .i64 s.no) := h.cell 20 rfl
  have c21 : w.cell? ⟨R, 21, none⟩ = some (.int .i64 s.fat) := h.cell 21 rfl
  rw [hc] at c22
  clear h
  go_enter Tryz.func17, Tryz.ntmps17
  go_wp2
  go_region
  all_goals
    go_wp2
    go_ret2
    exact ⟨rfl, below_drewN (Below.refl _ _) _⟩
def shut (x : PR × List Tok) : PR × List Tok := (⟨Src.zero x.1.s.no x.1.s.fat x.1.s.closed, none, St.zero⟩, x.2)
theorem AnsEnd.zero {x : PR × List Tok} (h : AnsEnd F R w x (.returned v) w') : w'.there R 0 docZero.size ∧ AnsEnd F R w (shut x) (.returned v) (w'.setCells R 0 docZero.toList) := by
  obtain ⟨v', A, F', he, an, ⟨vn, p', r, _⟩, fr, h1, h2⟩ := h
  cases he
  obtain ⟨o1, o2, o3, o4, o5⟩ := setCells_other (R := R) docZero.toList 0 w'
  have hb := setCells_row (R := R) docZero.toList 0 _ w' r.blk
  rw [zero_cells] at hb
  refine ⟨doc_there r.blk (by show 20 ≤ 23; omega), ?_⟩
  generalize w'.setCells R 0 docZero.toList = W at *
  have up : ∀ k, Grow F w w' k → Grow F w W k := fun k hk => by unfold Grow at *; rw [o2]; exact hk
  refine ⟨v, A, F', rfl, an.frame fun k hA => o1 k (fun e => (h1 k hA).2 (e ▸ r.inR)), ⟨.nilFunc, Ptr.zero, ⟨hb, r.inR, fun k hk => by rw [o2]; exact r.lt k hk, Own.zero _ _ _⟩, rfl⟩, ⟨o3.trans fr.os, o4.trans fr.tape, o5.trans fr.output, by rw [o2]; exact fr.size, fun k hk hf => ?_⟩, fun k hk => ⟨up k (h1 k hk).1, (h1 k hk).2⟩, fun k hk => up k (h2 k hk)⟩
  refine (o1 k ?_).trans (fr.block k hk hf)
  intro e
  subst e
  rcases h2 k r.inR with x | x
  · exact hf x
  · omega
set_option maxHeartbeats 4000000 in
set_option maxRecDepth 10000 in
theorem close_live (h : Rep F R w s p st) (hpt : PartAt F R w s.now pt) (hl : Lim n pt st) (gl : Gl w a) (lo : Low F) (hn : n + s.rest.size ≤ 274877906944) (hok : s.Ok) (hc : s.closed = false) (hno : s.no = 0) :
    Calls Tryz.prog 18 #[.pointer (some ⟨R, 0, none⟩)] w (AnsEnd F R w (shut (tells (reads { s with closed := true, ended := true }.bare pt st)))) := by
  have c20 : w.cell? ⟨R, 20, none⟩ = some (.int .i64 s.no) := h.cell 20 rfl
  have c22 : w.cell? ⟨R, 22, none⟩ = some (.bool s.closed) := h.cell 22 rfl
  have f22 := h.free 22
  rw [hno] at c20
  rw [hc] at c22
  have rA := (RF.refl h).set (s' := { s with closed := true }) 22 (.bool true) rfl
  have d20 : (w.setCell ⟨R, 22, none⟩ (.bool true)).cell? ⟨R, 20, none⟩ = some (.int .i64 0) := by rw [← hno]; exact rA.1.cell 20 rfl
  have hend := end_ok rA.1
  have hadv : ∀ wB, RF (Grow F w (w.setCell ⟨R, 22, none⟩ (.bool true))) R (w.setCell ⟨R, 22, none⟩ (.bool true)) { s with closed := true, ended := true } p st wB → Calls Tryz.prog 25 #[.pointer (some ⟨R, 0, none⟩)] wB (AnsEnd F R w (tells (reads { s with closed := true, ended := true }.bare pt st))) := fun wB r => by
    have glA := gl.frame rA.2.1 lo
    have loA : Low (Grow F w (w.setCell ⟨R, 22, none⟩ (.bool true))) := lo.grow gl.size
    have pA := rA.part h.lt hpt
    have pB := r.part rA.1.lt pA
    refine (advance_ok r.1 pB hl (glA.frame r.2.1 loA) (loA.grow glA.size) hn hok).mono ?_
    intro e w' hE
    exact AnsEnd.after (rA.2.1.trans r.2.1) (fun k hk => (Grow.trans rA.2.1.size r.2.1.size k).1 hk) hE
  have HA := hide hadv
  clear h hpt hl gl lo hadv hok hn rA
  generalize tells (reads { s with closed := true, ended := true }.bare pt st) = x at *
  go_enter Tryz.func18, Tryz.ntmps18
  go_wp2_with (first | (go_at_call 29; refine hend.mono ?_; rintro e w1 ⟨rfl, r1⟩) | (go_at_call 25; refine (HA.out _ r1).mono ?_; rintro e w2 ⟨v, A, F', rfl, rest⟩; obtain ⟨hth, hz⟩ := AnsEnd.zero (F := F) (R := R) (w := w) (x := x) ⟨v, A, F', rfl, rest⟩; have HZ := hide hz; clear hz rest) | (refine wpList_store_mid rfl 67 (.tmp 27) (.tmp 25) rfl R 0 docZero rfl rfl hth docSize docOne ?_))
  go_ret
  exact HZ.out
end Go.Proofs.YtgognegkcplcpaaGreatDoor

namespace Go.Proofs.YtgognegkcplcpaaGreatDoor
open Go.RowKit Go.Maps Go.Lib

def PR.write (r : PR) (b : ByteArray) : PR × List Tok :=
  if r.s.closed = true ∨ r.s.no ≠ 0 then (r, [])
  else match r.pt with
    | some pt => tells (reads { r.s with rest := r.s.rest ++ b }.bare pt r.st)
    | none => (r, [])
def PR.close (r : PR) : PR × List Tok :=
  if r.s.closed = true then (r, [])
  else if r.s.no ≠ 0 then (⟨{ r.s with closed := true }, r.pt, r.st⟩, [])
  else match r.pt with
    | some pt => shut (tells (reads { r.s with closed := true, ended := true }.bare pt r.st))
    | none => (r, [])
def PR.err (r : PR) : Int × Int := if r.s.closed = true then (r.s.no, r.s.fat) else (0, 0)
def PR.new : PR := ⟨Src.zero 0 0 false, some (.plain .between), St.zero⟩
structure Good (r : PR) (N : Nat) : Prop where
  live : r.s.closed = false → r.s.no = 0 → ∃ pt n, r.pt = some pt ∧ Lim n pt r.st ∧ n + r.s.rest.size ≤ N ∧ 0 ≤ r.s.next ∧ r.s.next + r.s.rest.size ≤ (N : Int) ∧ r.s.ended = false ∧ r.st.told = [] ∧ r.s.bare = r.s ∧ r.s.more = true
  shut : r.s.closed = false → r.s.no ≠ 0 → r.pt = none
theorem lim0 (n : Nat) : Lim n (.plain .between) St.zero :=
  ⟨fun _ _ => Nat.zero_le _, Nat.zero_le _, Nat.zero_le _, Nat.zero_le _, Nat.zero_le _, by decide, trivial⟩
theorem good_new : Good PR.new 0 :=
  ⟨fun _ _ => ⟨_, 0, rfl, lim0 0, Nat.le_refl _, by decide, by decide, rfl, rfl, rfl, by decide⟩, fun _ h => absurd rfl h⟩
def St.pre (T : List Tok) (st : St) : St := { st with told := T ++ st.told }
def Out.pre (T : List Tok) (o : Out) : Out := ⟨o.st.pre T, o.res⟩
theorem pre_put (T : List Tok) (st : St) (i : Rn) (c q : Int) : (st.pre T).put i c q = (st.put i c q).pre T := rfl
theorem pre_clear (T : List Tok) (st : St) (i : Rn) : (st.pre T).clear i = (st.clear i).pre T := rfl
theorem pre_tellText (T : List Tok) (st : St) : (st.pre T).tellText = st.tellText.pre T := by
  unfold St.tellText
  have e : (st.pre T).run = st.run := rfl
  rw [e]
  split
  · rfl
  · simp [St.pre, St.clear, St.setRun]
theorem pre_tellOpening (T : List Tok) (st : St) : (st.pre T).tellOpening = st.tellOpening.pre T := by
  unfold St.tellOpening
  rw [pre_tellText]
  simp [St.pre]
theorem pre_tellClosing (T : List Tok) (st : St) : (st.pre T).tellClosing = st.tellClosing.pre T := by
  unfold St.tellClosing
  rw [pre_tellText]
  simp [St.pre]
theorem pre_step (T : List Tok) (k : Pl) (q : Int) (st : St) (c : Int) : step k q (st.pre T) c = (step k q st c).pre T := by
  cases k <;> simp only [step, stPart, stName1, stAttr, stRemark, stOrder, stSection, stBracket, pre_put, pre_clear, pre_tellText, pre_tellOpening, pre_tellClosing, St.addAttr] <;> (repeat' split) <;> first | rfl | (simp_all [St.pre]; done)
theorem pre_putFrom (T : List Tok) (i : Rn) (t : ByteArray) (q : Int) : ∀ f pos st, putFrom i t q f pos (st.pre T) = (putFrom i t q f pos st).pre T := by
  intro f
  induction f with
  | zero => intro pos st; rfl
  | succ f ih =>
    intro pos st
    unfold putFrom
    split
    · rw [pre_put]; exact ih _ _
    · rfl
theorem pre_stepPart (T : List Tok) (pt : Part) (q : Int) (st : St) (c : Int) : stepPart pt q (st.pre T) c = (stepPart pt q st c).pre T := by
  cases pt with
  | plain k => exact pre_step T k q st c
  | word l k =>
    cases l with
    | nil => rfl
    | cons x l =>
      simp only [stepPart, stWord]
      repeat' split
      all_goals rfl
  | name i k =>
    simp only [stepPart, stName, stName1, pre_put, pre_step]
    have e : (st.pre T).run = st.run := rfl
    rw [e]
    repeat' split
    all_goals rfl
  | ref i k =>
    simp only [stepPart, stRef, pre_put]
    split
    · split
      · unfold stRefEnd
        have e : ((st.put .ref 59 q).pre T).run = (st.put .ref 59 q).run := rfl
        have e2 : ((st.put .ref 59 q).pre T).runAt = (st.put .ref 59 q).runAt := rfl
        rw [e, e2]
        split
        · unfold St.putAll
          rw [pre_putFrom]; rfl
        · rfl
      · rfl
    · rfl
theorem pre_mrun (T : List Tok) : ∀ (n : Nat) (s : Src) (pt : Part) (st : St), mrun n s pt (st.pre T) = { mrun n s pt st with st := (mrun n s pt st).st.pre T } := by
  intro n
  induction n with
  | zero => intro s pt st; rfl
  | succ n ih =>
    intro s pt st
    simp only [mrun, pre_stepPart]
    split
    · rfl
    · have e : ((stepPart pt s.took.1.at_ st s.took.2).pre T).res = (stepPart pt s.took.1.at_ st s.took.2).res := rfl
      rw [e]
      cases (stepPart pt s.took.1.at_ st s.took.2).res with
      | go pt' => exact ih _ _ _
      | stop => rfl
      | fail no q => rfl
theorem took_app (s : Src) (b : ByteArray) (h : s.more = false) (he : s.ended = false) : ({ s with rest := s.rest ++ b } : Src).more = false ∧ ({ s with rest := s.rest ++ b } : Src).took = ({ s.took.1 with rest := s.took.1.rest ++ b }, s.took.2) := by
  simp only [Src.more, he, Bool.not_false, Bool.true_and, Bool.not_eq_false'] at h
  obtain ⟨h1, h2⟩ := full_cut s.rest b h
  have h0 : 0 < s.rest.size := by
    by_cases e : s.rest.size = 0
    · simp [Tk.full, e] at h
    · omega
  have hsz : (s.rest ++ b).size = s.rest.size + b.size := ByteArray.size_append
  have hw := Ch.decode_width s.rest 0 h0
  refine ⟨by simp [Src.more, he, h1], ?_⟩
  have hok : Ch.okAt (s.rest ++ b) 0 = Ch.okAt s.rest 0 := by unfold Ch.okAt; rw [h2]
  have e1 : ¬ (s.rest ++ b).size = 0 := by omega
  have e2 : ¬ s.rest.size = 0 := by omega
  simp only [Src.took, e1, e2, if_false, hok, h2]
  split
  · have hx : (s.rest ++ b).extract (Utf8.decode s.rest 0).2 (s.rest ++ b).size = s.rest.extract (Utf8.decode s.rest 0).2 s.rest.size ++ b := by
      rw [hsz]
      apply ByteArray.ext
      apply Array.ext'
      simp only [ByteArray.data_extract, ByteArray.data_append, Array.toList_extract, Array.toList_append, List.extract_eq_take_drop]
      rw [List.drop_append_of_le_length (by show (Utf8.decode s.rest 0).2 ≤ s.rest.data.toList.length; simpa using hw.1)]
      rw [List.take_of_length_le (by simp; have : s.rest.data.size = s.rest.size := rfl; have : b.data.size = b.size := rfl; omega), List.take_of_length_le (by simp)]
    rw [hx]
  · rfl
structure Ends (c : Int) (o : Out) : Prop where
  stop : o.res = .stop → c = -1
  fail : ∀ no q, o.res = .fail no q → no ≠ 0
theorem why_ne (c : Int) : Tk.why c ≠ 0 := by unfold Tk.why; split <;> omega
theorem Ends.go {c : Int} {st : St} {pt : Part} : Ends c ⟨st, .go pt⟩ := ⟨fun e => (by cases e), fun _ _ e => (by cases e)⟩
theorem Ends.why {c : Int} {st : St} {q : Int} : Ends c ⟨st, .fail (Tk.why c) q⟩ := ⟨fun e => (by cases e), fun _ _ e => (by cases e; exact why_ne c)⟩
theorem Ends.num {c : Int} {st : St} {no q : Int} (h : no ≠ 0) : Ends c ⟨st, .fail no q⟩ := ⟨fun e => (by cases e), fun _ _ e => (by cases e; exact h)⟩
theorem step_ends (k : Pl) (q : Int) (st : St) (c : Int) : Ends c (step k q st c) := by
  cases k <;> simp only [step, stPart, stName1, stAttr, stRemark, stOrder, stSection, stBracket] <;> (repeat' split) <;> first | exact .go | exact .why | exact .num (by decide) | exact ⟨fun _ => (by assumption), fun _ _ e => (by cases e)⟩
theorem stepPart_ends (pt : Part) (q : Int) (st : St) (c : Int) : Ends c (stepPart pt q st c) := by
  cases pt with
  | plain k => exact step_ends k q st c
  | word l k =>
    cases l with
    | nil => exact .go
    | cons x l =>
      simp only [stepPart, stWord]
      repeat' split
      all_goals first | exact .go | exact .why
  | name i k =>
    simp only [stepPart, stName, stName1]
    repeat' split
    all_goals first | exact .go | exact .why | exact step_ends k q st c
  | ref i k =>
    simp only [stepPart, stRef]
    split
    · split
      · unfold stRefEnd
        split
        · exact .go
        · exact .num (by decide)
      · exact .go
    · exact .num (by decide)
theorem reads_eq {s : Src} {pt : Part} {st : St} {n : Nat} (hl : Lim n pt st) (h : s.more = false) :
    reads s pt st = match (stepPart pt s.next st s.took.2).res with
      | .go pt' => reads s.took.1 pt' (stepPart pt s.next st s.took.2).st
      | .stop => ⟨s.took.1, pt, (stepPart pt s.next st s.took.2).st, .over⟩
      | .fail no q => ⟨s.took.1, pt, (stepPart pt s.next st s.took.2).st, .fail no q⟩ := by
  have ha : s.took.1.at_ = s.next := took_at s
  conv => lhs; unfold reads
  simp only [mrun, h, Bool.false_eq_true, if_false, ha]
  generalize he : (stepPart pt s.next st s.took.2).res = r
  cases r with
  | go pt' =>
    have hk := took_less hl.sound hl.quote he
    exact mrun_more (s.took.1.rest.size + 1) s.rest.size (n + 1) s.took.1 _ _ (hl.step he) (Nat.lt_succ_self _) (by omega)
  | stop => rfl
  | fail no q => rfl
theorem reads_at {s : Src} {pt : Part} {st : St} (h : s.more = true) : reads s pt st = ⟨s, pt, st, .more⟩ := by
  unfold reads mrun; rw [if_pos h]
structure Stay (s : Src) (k : Nat) (m : Rd) : Prop where
  lim : ∃ n, Lim n m.pt m.st ∧ n + m.s.rest.size ≤ k + s.rest.size
  next : m.s.next + m.s.rest.size = s.next + s.rest.size
  lo : s.next ≤ m.s.next
  more : m.s.more = true
  ended : m.s.ended = s.ended
  no : m.s.no = s.no
  fat : m.s.fat = s.fat
  closed : m.s.closed = s.closed
  now : m.s.now = s.now
structure Cut (s : Src) (k : Nat) (b : ByteArray) (m m2 : Rd) (g : Src → Part → St → Rd) : Prop where
  more : m.ret = .more → m2 = g { m.s with rest := m.s.rest ++ b } m.pt m.st ∧ Stay s k m
  over : m.ret ≠ .over
  fail : ∀ no q, m.ret = .fail no q → no ≠ 0 ∧ tells m2 = tells m ∧ m.s.closed = s.closed
theorem took_stay (s : Src) (h0 : s.rest.size ≠ 0) (hok : Ch.okAt s.rest 0 = true) : s.took.1.next + s.took.1.rest.size = s.next + s.rest.size ∧ s.next ≤ s.took.1.next ∧ s.took.1.ended = s.ended ∧ s.took.1.no = s.no ∧ s.took.1.fat = s.fat ∧ s.took.1.closed = s.closed ∧ s.took.1.now = s.now := by
  have hw := Ch.decode_width s.rest 0 (by omega)
  simp only [Src.took, h0, hok, if_false, if_true, ByteArray.size_extract, and_true]
  omega
theorem took_flags (s : Src) : s.took.1.ended = s.ended ∧ s.took.1.no = s.no ∧ s.took.1.fat = s.fat ∧ s.took.1.closed = s.closed ∧ s.took.1.now = s.now := by
  unfold Src.took; repeat' split
  all_goals exact ⟨rfl, rfl, rfl, rfl, rfl⟩
theorem reads_cut (b : ByteArray) : ∀ (n : Nat) (s : Src) (pt : Part) (st : St) (k : Nat), s.rest.size < n → Lim k pt st → s.ended = false → Cut s k b (reads s pt st) (reads { s with rest := s.rest ++ b } pt st) reads := by
  intro n
  induction n with
  | zero => intro s pt st k h; omega
  | succ n ih =>
    intro s pt st k hn hl he
    by_cases hm : s.more = true
    · rw [reads_at hm]
      exact ⟨fun _ => ⟨rfl, ⟨⟨k, hl, Nat.le_refl _⟩, rfl, Int.le_refl _, hm, rfl, rfl, rfl, rfl, rfl⟩⟩, by simp, fun _ _ e => (by cases e)⟩
    · have hm' : s.more = false := by simpa using hm
      obtain ⟨ha1, ha2⟩ := took_app s b hm' he
      rw [reads_eq hl hm', reads_eq (s := { s with rest := s.rest ++ b }) hl ha1, ha2]
      have hends := stepPart_ends pt s.next st s.took.2
      have hfl := took_flags s
      generalize hr : (stepPart pt s.next st s.took.2).res = r
      cases r with
      | go pt' =>
        have hk := took_less hl.sound hl.quote hr
        have hs := took_stay s hk.2.1 hk.2.2
        have c := ih s.took.1 pt' (stepPart pt s.next st s.took.2).st (k + 1) (by omega) (hl.step hr) (hfl.1.trans he)
        refine ⟨fun e => ?_, c.over, fun no q e => ⟨(c.fail no q e).1, (c.fail no q e).2.1, (c.fail no q e).2.2.trans hfl.2.2.2.1⟩⟩
        obtain ⟨c1, c2⟩ := c.more e
        refine ⟨c1, ⟨?_, c2.next.trans hs.1, Int.le_trans hs.2.1 c2.lo, c2.more, c2.ended.trans hfl.1, c2.no.trans hfl.2.1, c2.fat.trans hfl.2.2.1, c2.closed.trans hfl.2.2.2.1, c2.now.trans hfl.2.2.2.2⟩⟩
        obtain ⟨x, x1, x2⟩ := c2.lim
        refine ⟨x, x1, ?_⟩
        show x + (reads s.took.1 pt' (stepPart pt s.next st s.took.2).st).s.rest.size ≤ k + s.rest.size
        omega
      | stop =>
        exfalso
        have h1 := hends.stop hr
        have h0 : s.rest.size ≠ 0 := by
          intro e
          simp [Src.more, he, Tk.full, e] at hm'
        have hlg := took_leg s
        rw [h1] at hlg
        unfold Src.took at h1
        rw [if_neg h0] at h1
        split at h1
        · simp only at h1; omega
        · simp only at h1; omega
      | fail no q =>
        refine ⟨fun e => (by cases e), by simp, fun no' q' e => ?_⟩
        cases e
        exact ⟨hends.fail _ _ hr, rfl, hfl.2.2.2.1⟩
end Go.Proofs.YtgognegkcplcpaaGreatDoor

namespace Go.Proofs.YtgognegkcplcpaaGreatDoor
open Go.RowKit Go.Maps Go.Lib
variable {F F' G : Nat → Prop} {R : Nat} {w w' w'' wr w1 : World} {s s' : Src} {p : Ptr} {st : St} {c : Int} {a : Addr} {pt : Part} {v : Value} {m : Rd} {N n : Nat} {r : PR}
theorem Lim.told0 (h : Lim n pt st) : Lim n pt { st with told := [] } := ⟨h.run, h.ref, Nat.zero_le _, h.attrs, h.names, h.quote, h.sound⟩
theorem bare_of (h : s.now = .nilFunc) : s.bare = s := by cases s; cases h; rfl
theorem write_live_eq (hc : r.s.closed = false) (hn : r.s.no = 0) (hp : r.pt = some pt) (b : ByteArray) : r.write b = tells (reads { r.s with rest := r.s.rest ++ b }.bare pt r.st) := by
  unfold PR.write; rw [if_neg (by simp [hc, hn]), hp]
theorem write_dead_eq (h : r.s.closed = true ∨ r.s.no ≠ 0) (b : ByteArray) : r.write b = (r, []) := by
  unfold PR.write; rw [if_pos h]
theorem Good.cut (hg : Good r N) (hc : r.s.closed = false) (hn : r.s.no = 0) (b b2 : ByteArray) : ∃ pt k, r.pt = some pt ∧ k + (r.s.rest ++ b).size ≤ N + b.size ∧ 0 ≤ r.s.next ∧ r.s.next + ((r.s.rest ++ b).size : Int) ≤ (N + b.size : Nat) ∧ r.s.ended = false ∧ r.s.now = .nilFunc ∧ Lim k pt r.st ∧
    Cut ({ r.s with rest := r.s.rest ++ b } : Src).bare k b2 (reads ({ r.s with rest := r.s.rest ++ b } : Src).bare pt r.st) (reads { ({ r.s with rest := r.s.rest ++ b } : Src).bare with rest := ({ r.s with rest := r.s.rest ++ b } : Src).bare.rest ++ b2 } pt r.st) reads := by
  obtain ⟨pt, k, h1, h2, h3, h4, h5, h6, h7, h8, h9⟩ := hg.live hc hn
  have hsz : (r.s.rest ++ b).size = r.s.rest.size + b.size := ByteArray.size_append
  refine ⟨pt, k, h1, by omega, h4, by omega, h6, ?_, h2, reads_cut b2 _ _ pt r.st k (Nat.lt_succ_self _) h2 h6⟩
  have := congrArg Src.now h8
  exact this.symm
theorem write_good (hg : Good r N) (b : ByteArray) : Good (r.write b).1 (N + b.size) := by
  by_cases hd : r.s.closed = true ∨ r.s.no ≠ 0
  · rw [write_dead_eq hd]
    refine ⟨fun h1 h2 => ?_, hg.shut⟩
    rcases hd with h | h
    · simp only at h1; rw [h] at h1; cases h1
    · exact absurd h2 h
  · have hc : r.s.closed = false := by simpa using (not_or.1 hd).1
    have hn : r.s.no = 0 := by simpa using (not_or.1 hd).2
    obtain ⟨pt, k, h1, h2, h3, h4, h5, h6, h7, hcut⟩ := hg.cut hc hn b ⟨#[]⟩
    rw [write_live_eq hc hn h1]
    generalize hs : ({ r.s with rest := r.s.rest ++ b } : Src).bare = s1 at *
    have e1 : s1.rest = r.s.rest ++ b := by rw [← hs]; rfl
    have e2 : s1.next = r.s.next := by rw [← hs]; rfl
    have e3 : s1.ended = false := by rw [← hs]; exact h5
    have e4 : s1.no = 0 := by rw [← hs]; exact hn
    have e5 : s1.closed = false := by rw [← hs]; exact hc
    have e6 : s1.now = .nilFunc := by rw [← hs]; rfl
    generalize reads s1 pt r.st = m at *
    unfold tells
    cases hr : m.ret with
    | more =>
      obtain ⟨_, sy⟩ := hcut.more hr
      obtain ⟨x, x1, x2⟩ := sy.lim
      refine ⟨fun _ _ => ⟨m.pt, x, rfl, x1.told0, ?_, ?_, ?_, sy.ended.trans e3, rfl, bare_of (sy.now.trans e6), sy.more⟩, fun _ h => absurd (sy.no.trans e4) h⟩
      · show x + m.s.rest.size ≤ _; rw [e1] at x2; omega
      · show 0 ≤ m.s.next; have := sy.lo; omega
      · show m.s.next + (m.s.rest.size : Int) ≤ _; have := sy.next; rw [e1, e2] at this; omega
    | over => exact absurd hr hcut.over
    | fail no q =>
      have := hcut.fail no q hr
      exact ⟨fun _ h => absurd h this.1, fun _ _ => rfl⟩
theorem tells_pre (T : List Tok) (m : Rd) : tells { m with st := m.st.pre T } = ((tells m).1, T ++ (tells m).2) := by
  unfold tells
  cases hr : m.ret <;> simp only [hr] <;> rfl
theorem st_pre_self (st : St) : ({ st with told := [] } : St).pre st.told = st := by
  cases st; simp [St.pre]
theorem write_append (hg : Good r N) (b1 b2 : ByteArray) : r.write (b1 ++ b2) = (((r.write b1).1.write b2).1, (r.write b1).2 ++ ((r.write b1).1.write b2).2) := by
  by_cases hd : r.s.closed = true ∨ r.s.no ≠ 0
  · rw [write_dead_eq hd, write_dead_eq hd]
    simp only [write_dead_eq hd, List.append_nil]
  · have hc : r.s.closed = false := by simpa using (not_or.1 hd).1
    have hn : r.s.no = 0 := by simpa using (not_or.1 hd).2
    obtain ⟨pt, k, h1, h2, h3, h4, h5, h6, h7, hcut⟩ := hg.cut hc hn b1 b2
    rw [write_live_eq hc hn h1 (b1 ++ b2), write_live_eq hc hn h1 b1]
    have ea : ({ r.s with rest := r.s.rest ++ (b1 ++ b2) } : Src).bare = { ({ r.s with rest := r.s.rest ++ b1 } : Src).bare with rest := ({ r.s with rest := r.s.rest ++ b1 } : Src).bare.rest ++ b2 } := by
      show (⟨r.s.rest ++ (b1 ++ b2), _, _, _, _, _, _, _⟩ : Src) = ⟨r.s.rest ++ b1 ++ b2, _, _, _, _, _, _, _⟩
      rw [ByteArray.append_assoc]
      rfl
    rw [ea]
    generalize hs : ({ r.s with rest := r.s.rest ++ b1 } : Src).bare = s1 at *
    have e4 : s1.no = 0 := by rw [← hs]; exact hn
    have e5 : s1.closed = false := by rw [← hs]; exact hc
    have e6 : s1.now = .nilFunc := by rw [← hs]; rfl
    generalize reads { s1 with rest := s1.rest ++ b2 } pt r.st = m2 at *
    generalize reads s1 pt r.st = m at *
    cases hr : m.ret with
    | more =>
      obtain ⟨c1, sy⟩ := hcut.more hr
      have ht : tells m = (⟨m.s, some m.pt, { m.st with told := [] }⟩, m.st.told) := by unfold tells; rw [hr]
      rw [ht]
      simp only
      rw [write_live_eq (r := ⟨m.s, some m.pt, { m.st with told := [] }⟩) (sy.closed.trans e5) (sy.no.trans e4) rfl]
      simp only
      have eb : ({ m.s with rest := m.s.rest ++ b2 } : Src).bare = { m.s with rest := m.s.rest ++ b2 } := bare_of (sy.now.trans e6)
      rw [eb]
      have hp : m2 = { reads { m.s with rest := m.s.rest ++ b2 } m.pt { m.st with told := [] } with st := (reads { m.s with rest := m.s.rest ++ b2 } m.pt { m.st with told := [] }).st.pre m.st.told } := by
        rw [c1]
        have := pre_mrun m.st.told (({ m.s with rest := m.s.rest ++ b2 } : Src).rest.size + 1) { m.s with rest := m.s.rest ++ b2 } m.pt { m.st with told := [] }
        rw [st_pre_self] at this
        exact this
      rw [hp, tells_pre]
    | over => exact absurd hr hcut.over
    | fail no q =>
      obtain ⟨f1, f2, f3⟩ := hcut.fail no q hr
      rw [f2]
      have ht : tells m = (⟨Src.zero no q m.s.closed, none, St.zero⟩, m.st.told) := by unfold tells; rw [hr]
      rw [ht]
      simp only
      rw [write_dead_eq (r := ⟨Src.zero no q m.s.closed, none, St.zero⟩) (Or.inr f1)]
      simp
theorem new_write_none : PR.new.write ⟨#[]⟩ = (PR.new, []) := by
  rw [write_live_eq (pt := .plain .between) rfl rfl rfl]
  rw [reads_at (by rfl)]
  rfl
end Go.Proofs.YtgognegkcplcpaaGreatDoor

namespace Go.Proofs.YtgognegkcplcpaaGreatDoor
open Go.RowKit Go.Maps Go.Lib
variable {F F' G : Nat → Prop} {R : Nat} {w w' w'' wr w1 : World} {s s' : Src} {p : Ptr} {st : St} {c : Int} {a : Addr} {pt : Part} {v : Value} {m : Rd} {N n : Nat} {r : PR}
theorem write_pr (hal : Alive F R w r) (hg : Good r N) (gl : Gl w a) (lo : Low F) (b : ByteArray) (hN : N + b.size ≤ 274877906944) :
    Calls Tryz.prog 15 #[.pointer (some ⟨R, 0, none⟩), .string b] w (AnsEnd F R w (r.write b)) := by
  obtain ⟨vn, p, rep, hx⟩ := hal
  by_cases hd : r.s.closed = true ∨ r.s.no ≠ 0
  · rw [write_dead_eq hd]
    refine (write_dead rep b hd).mono ?_
    rintro e w' ⟨rfl, rfl⟩
    exact ans_none r ⟨vn, p, rep, hx⟩
  · have hc : r.s.closed = false := by simpa using (not_or.1 hd).1
    have hn : r.s.no = 0 := by simpa using (not_or.1 hd).2
    obtain ⟨pt, k, h1, h2, h3, h4, h5, h6, h7, h8, h9⟩ := hg.live hc hn
    rw [write_live_eq hc hn h1]
    rw [h1] at hx
    exact write_live (n := k) rep hx h2 gl lo b (by show k + (r.s.rest.size + b.size) ≤ _; omega) ⟨h4, by show r.s.next + ((r.s.rest.size + b.size : Nat) : Int) ≤ _; omega⟩ hc hn
theorem close_pr (hal : Alive F R w r) (hg : Good r N) (gl : Gl w a) (lo : Low F) (hN : N ≤ 274877906944) :
    Calls Tryz.prog 18 #[.pointer (some ⟨R, 0, none⟩)] w (AnsEnd F R w r.close) := by
  obtain ⟨vn, p, rep, hx⟩ := hal
  unfold PR.close
  by_cases hc : r.s.closed = true
  · rw [if_pos hc]
    refine (close_dead rep hc).mono ?_
    rintro e w' ⟨rfl, rfl⟩
    exact ans_none r ⟨vn, p, rep, hx⟩
  · have hc' : r.s.closed = false := by simpa using hc
    rw [if_neg hc]
    by_cases hn : r.s.no ≠ 0
    · rw [if_pos hn]
      have hp := hg.shut hc' hn
      rw [hp] at hx
      refine (close_fault rep hc' hn).mono ?_
      rintro e w' ⟨rfl, rf⟩
      refine ⟨nilS, fun _ => False, Grow F w w', rfl, ⟨[], owns_nil _ _ _, .nil, fun k e => absurd e (nil_block k)⟩, ⟨vn, p, rf.1, ?_⟩, rf.2.1, fun k hk => hk.elim, fun k hk => hk⟩
      rw [hp]
      exact hx
    · have hn' : r.s.no = 0 := by simpa using hn
      rw [if_neg hn]
      obtain ⟨pt, k, h1, h2, h3, h4, h5, h6, h7, h8, h9⟩ := hg.live hc' hn'
      rw [h1] at hx ⊢
      exact close_live (s := { r.s with now := vn }) (n := k) rep hx h2 gl lo (by show k + r.s.rest.size ≤ _; omega) ⟨h4, by show r.s.next + (r.s.rest.size : Int) ≤ _; omega⟩ hc' hn'
theorem err_pr (hal : Alive F R w r) : Calls Tryz.prog 17 #[.pointer (some ⟨R, 0, none⟩)] w fun e w' => e = .returned (.tuple #[.int .i64 r.err.1, .int .i64 r.err.2]) ∧ Below w.heap.size w w' := by
  obtain ⟨vn, p, rep, hx⟩ := hal
  unfold PR.err
  by_cases hc : r.s.closed = true
  · rw [if_pos hc]
    exact err_shut (s := { r.s with now := vn }) rep hc
  · rw [if_neg hc]
    refine (err_open rep (by simpa using hc)).mono ?_
    rintro e w' ⟨rfl, rfl⟩
    exact ⟨rfl, Below.refl _ _⟩
theorem Alive.below (h : Alive F R w r) (hb : Below w.heap.size w w') : Alive F R w' r := by
  obtain ⟨vn, p, rep, hx⟩ := h
  refine ⟨vn, p, ⟨(hb.block R (rep.lt R rep.inR)).trans rep.blk, rep.inR, fun k hk => Nat.lt_of_lt_of_le (rep.lt k hk) hb.size, rep.own.frame (fun k hk _ => hb.block k (rep.lt k hk)) (fun _ x => x)⟩, ?_⟩
  cases hp : r.pt with
  | none => rw [hp] at hx; exact hx
  | some pt =>
    rw [hp] at hx
    exact hx.keep (fun k hk _ => hb.block k (rep.lt k hk)) (fun _ x => x)
theorem Alive.keep (h : Alive F R w r) (hk : ∀ k, F k → w'.heap[k]? = w.heap[k]?) (hs : w.heap.size ≤ w'.heap.size) : Alive F R w' r := by
  obtain ⟨vn, p, rep, hx⟩ := h
  refine ⟨vn, p, ⟨(hk R rep.inR).trans rep.blk, rep.inR, fun k hf => Nat.lt_of_lt_of_le (rep.lt k hf) hs, rep.own.frame (fun k hf _ => hk k hf) (fun _ x => x)⟩, ?_⟩
  cases hp : r.pt with
  | none => rw [hp] at hx; exact hx
  | some pt =>
    rw [hp] at hx
    exact hx.keep (fun k hf _ => hk k hf) (fun _ x => x)
def newCells : Array Value := cellsOf { Src.zero 0 0 false with now := Pl.val .between } Ptr.zero St.zero
set_option maxHeartbeats 2000000 in
theorem new_ok (w : World) : Calls Tryz.prog 14 #[] w fun e w' => e = .returned (.pointer (some ⟨w.heap.size, 0, none⟩)) ∧ w' = w.alloc (.cells newCells 71) := by
  go_enter Tryz.func14, Tryz.ntmps14
  go_wp2
  go_ret
  exact ⟨rfl, rfl⟩
theorem new_alive (w : World) : Alive (fun k => k = w.heap.size) w.heap.size (w.alloc (.cells newCells 71)) PR.new :=
  ⟨Pl.val .between, Ptr.zero, ⟨Below_new _ _, rfl, fun k hk => by rw [hk]; simp, Own.zero _ _ _⟩, rfl⟩
end Go.Proofs.YtgognegkcplcpaaGreatDoor

namespace Go.Proofs.YtgognegkcplcpaaGreatDoor
open Go.RowKit Go.Maps Go.Lib
variable {F F' G A B : Nat → Prop} {R : Nat} {w w' w'' wr w1 : World} {s s' : Src} {p : Ptr} {st : St} {c : Int} {a : Addr} {pt : Part} {v : Value} {m : Rd} {N n : Nat} {r : PR} {l : List Tok}
theorem told_step (pt : Part) (q : Int) (st : St) (c : Int) : (stepPart pt q st c).st.told.length ≤ st.told.length + 4 := by
  cases pt with
  | plain k => exact (step_adds k q st c).told
  | word l k =>
    cases l with
    | nil => exact Nat.le_add_right _ _
    | cons x l => exact (stWord_adds x l k q st c).told
  | name i k => exact (stName_adds i k q st c).told
  | ref i k =>
    simp only [stepPart, stRef]
    split
    · split
      · unfold stRefEnd
        split
        · show (putFrom _ _ _ _ _ _).told.length ≤ _; rw [(putFrom_same _ _ _ _ _ _).1]; exact Nat.le_add_right _ _
        · exact Nat.le_add_right _ _
      · exact Nat.le_add_right _ _
    · exact Nat.le_add_right _ _
theorem mrun_told : ∀ (n : Nat) (s : Src) (pt : Part) (st : St), (mrun n s pt st).st.told.length ≤ st.told.length + 4 * n := by
  intro n
  induction n with
  | zero => intro s pt st; exact Nat.le_refl _
  | succ n ih =>
    intro s pt st
    have h := told_step pt s.took.1.at_ st s.took.2
    simp only [mrun]
    split
    · show st.told.length ≤ _; omega
    · split
      · rename_i pt' e
        have := ih s.took.1 pt' (stepPart pt s.took.1.at_ st s.took.2).st
        omega
      · show (stepPart pt s.took.1.at_ st s.took.2).st.told.length ≤ _; omega
      · show (stepPart pt s.took.1.at_ st s.took.2).st.told.length ≤ _; omega
theorem tells_told (m : Rd) : (tells m).2 = m.st.told := by
  unfold tells; cases m.ret <;> rfl
theorem write_told (hg : Good r N) (b : ByteArray) : (r.write b).2.length ≤ 4 * (N + b.size) + 4 := by
  by_cases hd : r.s.closed = true ∨ r.s.no ≠ 0
  · rw [write_dead_eq hd]; exact Nat.zero_le _
  · have hc : r.s.closed = false := by simpa using (not_or.1 hd).1
    have hn : r.s.no = 0 := by simpa using (not_or.1 hd).2
    obtain ⟨pt, k, h1, h2, h3, h4, h5, h6, h7, h8, h9⟩ := hg.live hc hn
    rw [write_live_eq hc hn h1, tells_told]
    have hsz : (r.s.rest ++ b).size = r.s.rest.size + b.size := ByteArray.size_append
    have := mrun_told ((r.s.rest ++ b).size + 1) { r.s with rest := r.s.rest ++ b }.bare pt r.st
    rw [h7] at this
    simp only [List.length_nil] at this
    exact Nat.le_trans this (by omega)
theorem close_told (hg : Good r N) : r.close.2.length ≤ 4 * N + 4 := by
  unfold PR.close
  split
  · exact Nat.zero_le _
  · rename_i hc
    split
    · exact Nat.zero_le _
    · rename_i hn
      obtain ⟨pt, k, h1, h2, h3, h4, h5, h6, h7, h8, h9⟩ := hg.live (by simpa using hc) (by simpa using hn)
      rw [h1]
      show (shut (tells (reads { r.s with closed := true, ended := true }.bare pt r.st))).2.length ≤ _
      unfold shut
      rw [tells_told]
      have := mrun_told (r.s.rest.size + 1) { r.s with closed := true, ended := true }.bare pt r.st
      rw [h7] at this
      simp only [List.length_nil] at this
      exact Nat.le_trans this (by omega)

theorem Toks.one {cs : List Value} {av : Value} (h : Toks A R w av l cs) : ∀ u ∈ cs, u.oneCell' = true := by
  induction h with
  | nil => intro u hu; cases hu
  | cons t v l cs ho hf hl ih =>
    intro u hu
    rw [List.mem_append] at hu
    rcases hu with hu | hu
    · simp only [tokCells, List.mem_cons, List.not_mem_nil, or_false] at hu
      rcases hu with rfl | rfl | rfl | rfl | rfl
      · rfl
      · rfl
      · rcases ho.2 with ⟨rfl, _⟩ | ⟨g, cap, cur, rfl, _⟩
        · rfl
        · rfl
      · rfl
      · rfl
    · exact ih u hu
theorem app_nil (b : Option Addr) (n c : Nat) (hn : n ≤ c) (w : World) : (Builtin.append_ #[22, 22] 22 #[.slice b n c, .slice none 0 0]).run Tryz.prog w = .ok (.slice b n c) w := by
  cases b <;> simp [Builtin.append_, underlying, Tryz.underlying22, Tryz.sizeOf49, Builtin.lenOf, Builtin.firstCells, hn, storeCells, Result.andThen]
end Go.Proofs.YtgognegkcplcpaaGreatDoor

namespace Go.Proofs.YtgognegkcplcpaaGreatDoor
open Go.RowKit Go.Maps Go.Lib
variable {F F' G A B : Nat → Prop} {R : Nat} {w w' w'' wr w1 : World} {s s' : Src} {p : Ptr} {st : St} {c : Int} {a : Addr} {pt : Part} {v v1 v2 : Value} {m : Rd} {N n : Nat} {r : PR} {l l1 l2 : List Tok}
theorem blk_lt {k : Nat} {o : Obj} (h : w.heap[k]? = some o) : k < w.heap.size := (Array.getElem?_eq_some_iff.1 h).1
theorem Ans.old (h : Ans A w v l) (hk : ∀ k, k < w.heap.size → A k → w'.heap[k]? = w.heap[k]?) (hA : ∀ k, k < w.heap.size → A k → B k) : Ans B w' v l := by
  obtain ⟨cs, h1, h2, h3⟩ := h
  refine ⟨cs, owns_of h1 fun k e => ?_, h2.frame fun k n xs v ho hv a b c => ?_, fun k e => ?_⟩
  · obtain ⟨cur, hc⟩ := owns_blk h1 e
    exact hk k (blk_lt hc) (h3 k e)
  · obtain ⟨cur, hc⟩ := owns_blk ho hv
    exact ⟨hk k (blk_lt hc) a, hA k (blk_lt hc) a, c⟩
  · obtain ⟨cur, hc⟩ := owns_blk h1 e
    exact hA k (blk_lt hc) (h3 k e)
theorem ans_append (h1 : Ans A w v1 l1) (h2 : Ans B w v2 l2) (hb : l1.length + l2.length ≤ 68719476736) :
    ∃ v' w', (Builtin.append_ #[22, 22] 22 #[v1, v2]).run Tryz.prog w = .ok v' w' ∧ Ans (fun k => A k ∨ B k ∨ k = w.heap.size) w' v' (l1 ++ l2) ∧ w.grownBy w' v1.ownBlock := by
  obtain ⟨cs1, o1, t1, a1⟩ := h1
  obtain ⟨cs2, o2, t2, a2⟩ := h2
  have o2' := o2
  rcases o2'.2 with ⟨rfl, hn⟩ | ⟨g, cap, cur, rfl, hbb, hg, hc, hm, hcs, htk⟩
  · have hl : l2 = [] := List.eq_nil_of_length_eq_zero hn
    subst hl
    have hv : ∃ b n c, v1 = .slice b n c ∧ n ≤ c := by
      rcases o1.2 with ⟨rfl, hn⟩ | ⟨g, cap, cur, rfl, hbb, hg, hc, hm, hcs, htk⟩
      · exact ⟨none, 0, 0, rfl, Nat.le_refl _⟩
      · exact ⟨_, _, _, rfl, hc⟩
    obtain ⟨b, n, c, rfl, hnc⟩ := hv
    refine ⟨_, w, app_nil b n c hnc w, ?_, ⟨rfl, rfl, rfl, Nat.le_refl _, fun _ _ _ => rfl⟩⟩
    rw [List.append_nil]
    exact Ans.old ⟨cs1, o1, t1, a1⟩ (fun _ _ _ => rfl) (fun _ _ x => Or.inl x)
  · obtain ⟨i0, hi, hz0, hz1, hz2⟩ := info_parts info49
    have hcell : ∀ j u, cs2[j]? = some u → w.cell? ((⟨g, 0, none⟩ : Addr).add j) = some u := by
      intro j u hj
      rw [Addr.add_mid, Nat.zero_add]
      refine cell_of hg ?_
      rw [← htk, List.getElem?_take] at hj
      split at hj
      · simpa using hj
      · cases hj
    obtain ⟨v', w', hr, ho, hgr, _, hat⟩ := run_append_own_at (P := Tryz.prog) w 0 22 22 49 i0 _ 5 72 Tryz.underlying22 hi hz0 hz1 hz2 rfl (by decide) v1 l1.length cs1 o1 ⟨g, 0, none⟩ l2.length cap cs2 o2.1 hcell t2.one (by unfold maxLen; omega) (by omega) (Nat.zero_le _)
    refine ⟨v', w', hr, ⟨cs1 ++ cs2, ?_, ?_, ?_⟩, hgr⟩
    · rw [List.length_append]; exact ho
    · have keep : ∀ {D : Nat → Prop} {l : List Tok} {cs : List Value}, Toks D 0 w nilS l cs → (∀ k, D k → (A k ∨ B k ∨ k = w.heap.size)) → Toks (fun k => A k ∨ B k ∨ k = w.heap.size) 0 w' nilS l cs := by
        intro D l cs h hD
        refine h.frame fun k n xs v ho' hv a b c => ⟨?_, hD k a, c⟩
        obtain ⟨cur', hc'⟩ := owns_blk ho' hv
        refine hgr.block k (blk_lt hc') (fun e => ?_)
        obtain ⟨cur1, hc1⟩ := owns_blk o1 e.symm
        rw [hc'] at hc1
        simp only [Option.some.injEq, Obj.cells.injEq] at hc1
        exact absurd hc1.2.1 (by decide)
      exact (keep t1 (fun _ x => Or.inl x)).app (keep t2 (fun _ x => Or.inr (Or.inl x)))
    · intro k e
      rcases hat with h | h
      · exact Or.inl (a1 k (h ▸ e))
      · rw [e] at h
        simp only [Option.some.injEq] at h
        exact Or.inr (Or.inr h)
def allP (b : ByteArray) : List Tok × Int × Int :=
  if (PR.new.write b).1.close.1.err.1 ≠ 0 then ([], (PR.new.write b).1.close.1.err.1, (PR.new.write b).1.close.1.err.2)
  else ((PR.new.write b).2 ++ (PR.new.write b).1.close.2, 0, 0)
end Go.Proofs.YtgognegkcplcpaaGreatDoor

namespace Go.Proofs.YtgognegkcplcpaaGreatDoor
open Go.RowKit Go.Maps Go.Lib
variable {F F' G A B : Nat → Prop} {R : Nat} {w w' w'' wr w1 : World} {s s' : Src} {p : Ptr} {st : St} {c : Int} {a : Addr} {pt : Part} {v v1 v2 : Value} {m : Rd} {N n : Nat} {r : PR} {l l1 l2 : List Tok}
theorem Frame.up {K : Nat} (fr : Frame F w w') (hF : ∀ k, F k → K ≤ k) (hK : K ≤ w.heap.size) : Below K w w' :=
  ⟨fr.os, fr.tape, fr.output, fr.size, fun k hk => fr.block k (by omega) (fun x => by have := hF k x; omega)⟩
theorem grown_up {K : Nat} {row : Option Nat} (g : w.grownBy w' row) (hr : ∀ k, row = some k → K ≤ k) (hK : K ≤ w.heap.size) : Below K w w' :=
  ⟨g.os, g.tape, g.output, g.size, fun k hk => g.block k (by omega) (fun e => by have := hr k e.symm; omega)⟩
theorem below_less {K K' : Nat} (h : Below K w w') (hK : K' ≤ K) : Below K' w w' := ⟨h.os, h.tape, h.output, h.size, fun k hk => h.block k (by omega)⟩
def AllEnd (w : World) (x : List Tok × Int × Int) (e : Ending) (w' : World) : Prop :=
  ∃ (v : Value) (A : Nat → Prop), e = .returned (.tuple #[v, .int .i64 x.2.1, .int .i64 x.2.2]) ∧ Ans A w' v x.1 ∧ Below w.heap.size w w' ∧ (∀ k, A k → w.heap.size ≤ k) ∧ (x.2.1 ≠ 0 → v = nilS)
theorem both_end {x y : PR × List Tok} {F1 F2 A1 A2 : Nat → Prop} {K : Nat} {w2 w3 : World} (hK : K ≤ w2.heap.size) (an1 : Ans A1 w2 v1 x.2) (hA1 : ∀ k, A1 k → K ≤ k ∧ k < w2.heap.size ∧ ¬ F1 k) (hF1 : ∀ k, F1 k → K ≤ k)
    (an2 : Ans A2 w3 v2 y.2) (al2 : Alive F2 R w3 y.1) (fr2 : Frame F1 w2 w3) (g1 : ∀ k, A2 k → Grow F1 w2 w3 k ∧ ¬ F2 k) (g2 : ∀ k, F2 k → Grow F1 w2 w3 k) (hb : x.2.length + y.2.length ≤ 68719476736) :
    ∃ v' w4 A, (Builtin.append_ #[22, 22] 22 #[v1, v2]).run Tryz.prog w3 = .ok v' w4 ∧ Ans A w4 v' (x.2 ++ y.2) ∧ Alive F2 R w4 y.1 ∧ Below K w2 w4 ∧ (∀ k, A k → K ≤ k ∧ ¬ F2 k) ∧ (∀ k, F2 k → K ≤ k) := by
  have an1' : Ans A1 w3 v1 x.2 := an1.old (fun k hk hA => fr2.block k hk (hA1 k hA).2.2) (fun _ _ x => x)
  obtain ⟨v', w4, hrun, an4, gr⟩ := ans_append an1' an2 hb
  have hz := fr2.size
  have hF2 : ∀ k, F2 k → K ≤ k := fun k hk => (g2 k hk).elim (hF1 k) (fun x => by omega)
  have hr : ∀ k, v1.ownBlock = some k → A1 k := fun k e => by obtain ⟨cs, _, _, h⟩ := an1'; exact h k e
  have hsep : ∀ k, A1 k → ¬ F2 k := fun k hA hF => (g2 k hF).elim (hA1 k hA).2.2 (fun x => by have := (hA1 k hA).2.1; omega)
  have hlt : ∀ k, F2 k → k < w3.heap.size := fun k hk => by obtain ⟨_, _, rep, _⟩ := al2; exact rep.lt k hk
  refine ⟨v', w4, fun k => A1 k ∨ A2 k ∨ k = w3.heap.size, hrun, an4, al2.keep (fun k hk => gr.block k (hlt k hk) (fun e => hsep k (hr k e.symm) hk)) gr.size, (fr2.up hF1 hK).trans ((grown_up gr (fun k e => (hA1 k (hr k e)).1) (by omega))), ?_, hF2⟩
  rintro k (h | h | h)
  · exact ⟨(hA1 k h).1, hsep k h⟩
  · exact ⟨(g1 k h).1.elim (hF1 k) (fun x => by omega), (g1 k h).2⟩
  · exact ⟨by omega, fun x => by have := hlt k x; omega⟩
theorem gl_alloc (gl : Gl w a) (o : Obj) : Gl (w.alloc o) a := gl.frame (F := fun _ => False) (Frame.below ((Below.refl _ _).alloc (Nat.le_refl _) _)) (fun _ _ x => x)
theorem wpList_app {ops : Array Oper} {rest : List Oper} {o : Oper} {a : Act} {w : World} {Q : Exit → Act → World → Prop} (hgd : o.guard = none) (s x : Operand) (ho : o.op = Op.call { callee := Callee.builtin Builtin.append, args := #[s, x], argTypes := #[22, 22] }) (hty : o.type = 22)
    (v1 v2 : Value) (hs : a.eval s = v1) (hx : a.eval x = v2) {v' : Value} {w' : World} (hr : (Builtin.append_ #[22, 22] 22 #[v1, v2]).run Tryz.prog w = .ok v' w') (h : wpList Tryz.prog ops Q rest (a.put o.dst v') w') : wpList Tryz.prog ops Q (o :: rest) a w := by
  refine wpList_plain hgd fun K hK => ?_
  unfold Oper.wp execOp
  simp only [ho, hty, resolve, invoke, builtin, Sem.run_bind, Sem.run_pure, Result.andThen_ok, List.map_toArray, List.map_cons, List.map_nil, hs, hx, hr]
  exact hK _ _ h
theorem allP_bad {b : ByteArray} (h : ((PR.new.write b).1.close.1.err.1 != 0) = true) : allP b = ([], (PR.new.write b).1.close.1.err.1, (PR.new.write b).1.close.1.err.2) := by
  unfold allP; rw [if_pos (by simpa using h)]
theorem allP_ok {b : ByteArray} (h : ((PR.new.write b).1.close.1.err.1 != 0) = false) : allP b = ((PR.new.write b).2 ++ (PR.new.write b).1.close.2, 0, 0) := by
  unfold allP; rw [if_neg (by simpa using h)]
set_option maxHeartbeats 4000000 in
set_option maxRecDepth 10000 in
theorem all_ok (b : ByteArray) (w : World) (gl : Gl w a) (hb : b.size ≤ 2147483648) : Calls Tryz.prog 9 #[.string b] w (AllEnd w (allP b)) := by
  have hsz := gl.size
  have gl1 := gl_alloc gl (.cells newCells 71)
  have lo0 : Low (fun k => k = w.heap.size) := fun k hk e => by omega
  have hw := write_pr (new_alive w) good_new gl1 lo0 b (by omega)
  have hg := write_good good_new b
  have ht1 := write_told good_new b
  have ht2 := close_told hg
  have hnew := new_ok w
  have hE : ∀ (e : Ending) (w2 : World), AnsEnd (fun k => k = w.heap.size) w.heap.size (w.alloc (.cells newCells 71)) (PR.new.write b) e w2 → ∃ v1, e = .returned v1 ∧
      Calls Tryz.prog 18 #[.pointer (some ⟨w.heap.size, 0, none⟩)] w2 fun e w3 => ∃ v2, e = .returned v2 ∧ ∃ v' w4 A, (Builtin.append_ #[22, 22] 22 #[v1, v2]).run Tryz.prog w3 = .ok v' w4 ∧ Ans A w4 v' ((PR.new.write b).2 ++ (PR.new.write b).1.close.2) ∧ Below w.heap.size w w4 ∧ (∀ k, A k → w.heap.size ≤ k) ∧ Calls Tryz.prog 17 #[.pointer (some ⟨w.heap.size, 0, none⟩)] w4 fun e w5 => e = .returned (.tuple #[.int .i64 (PR.new.write b).1.close.1.err.1, .int .i64 (PR.new.write b).1.close.1.err.2]) ∧ Below w4.heap.size w4 w5 := by
    rintro e w2 ⟨v1, A1, F1, rfl, an1, al1, fr1, h1, h2⟩
    have hz1 : w.heap.size + 1 ≤ w2.heap.size := by have := fr1.size; simp at this; omega
    have hF1 : ∀ k, F1 k → w.heap.size ≤ k := fun k hk => (h2 k hk).elim (fun e => by omega) (fun x => by have := x.1; simp at this; omega)
    have lo1 : Low F1 := fun k hk x => by have := hF1 k x; omega
    refine ⟨v1, rfl, (close_pr al1 hg (gl1.frame fr1 lo0) lo1 (by omega)).mono ?_⟩
    rintro e w3 ⟨v2, A2, F2, rfl, an2, al2, fr2, g1, g2⟩
    obtain ⟨v', w4, A, hrun, an4, al4, b4, hA, hF2⟩ := both_end (x := PR.new.write b) (y := (PR.new.write b).1.close) (K := w.heap.size) (by omega) an1 (fun k hA => ⟨(h1 k hA).1.elim (fun e => by omega) (fun x => by have := x.1; simp at this; omega), (h1 k hA).1.elim (fun e => by omega) (fun x => x.2), (h1 k hA).2⟩) hF1 an2 al2 fr2 g1 g2 (by omega)
    have b1 : Below w.heap.size w (w.alloc (.cells newCells 71)) := (Below.refl _ _).alloc (Nat.le_refl _) _
    have b2 : Below w.heap.size (w.alloc (.cells newCells 71)) w2 := fr1.up (fun k e => by omega) (by simp)
    exact ⟨v2, rfl, v', w4, A, hrun, an4, (b1.trans b2).trans b4, fun k hk => (hA k hk).1, err_pr al4⟩
  have HE := hide hE
  clear hE gl gl1 lo0 hg ht1 ht2 hsz
  cases hbad : ((PR.new.write b).1.close.1.err.1 != 0)
  · rw [allP_ok hbad]
    generalize (PR.new.write b).1.close.1.err.1 = er1 at *
    generalize (PR.new.write b).1.close.1.err.2 = er2 at *
    go_enter Tryz.func9, Tryz.ntmps9
    go_wp2_with (first | (go_at_call 14; refine hnew.mono ?_; rintro e wn ⟨rfl, rfl⟩) | (go_at_call 15; refine hw.mono ?_; intro e w2 h2; obtain ⟨v1, rfl, hcl⟩ := HE.out e w2 h2; clear h2) | (go_at_call 18; refine hcl.mono ?_; rintro e w3 ⟨v2, rfl, v', w4, A, hrun, an4, b4, hA, herr⟩; have AN := hide an4; have B4 := hide b4; have HA := hide hA; clear an4 b4 hA) | (at_builtin; refine wpList_app rfl (.tmp 12) (.tmp 14) rfl rfl _ _ rfl rfl hrun ?_) | (go_at_call 17; refine herr.mono ?_; rintro e w5 ⟨rfl, b5⟩))
    go_ret3
    exact ⟨v', A, rfl, AN.out.old (fun k hk _ => b5.block k hk) (fun _ _ x => x), B4.out.trans (below_less b5 B4.out.size), HA.out, fun h => absurd rfl h⟩
  · rw [allP_bad hbad]
    generalize (PR.new.write b).1.close.1.err.1 = er1 at *
    generalize (PR.new.write b).1.close.1.err.2 = er2 at *
    go_enter Tryz.func9, Tryz.ntmps9
    go_wp2_with (first | (go_at_call 14; refine hnew.mono ?_; rintro e wn ⟨rfl, rfl⟩) | (go_at_call 15; refine hw.mono ?_; intro e w2 h2; obtain ⟨v1, rfl, hcl⟩ := HE.out e w2 h2; clear h2) | (go_at_call 18; refine hcl.mono ?_; rintro e w3 ⟨v2, rfl, v', w4, A, hrun, an4, b4, hA, herr⟩; have AN := hide an4; have B4 := hide b4; have HA := hide hA; clear an4 b4 hA) | (at_builtin; refine wpList_app rfl (.tmp 12) (.tmp 14) rfl rfl _ _ rfl rfl hrun ?_) | (go_at_call 17; refine herr.mono ?_; rintro e w5 ⟨rfl, b5⟩))
    go_ret3
    exact ⟨nilS, fun _ => False, rfl, ⟨[], owns_nil _ _ _, .nil, fun k e => absurd e (nil_block k)⟩, B4.out.trans (below_less b5 B4.out.size), fun k hk => hk.elim, fun _ => rfl⟩
end Go.Proofs.YtgognegkcplcpaaGreatDoor

set_option linter.unusedSimpArgs false
set_option linter.unusedVariables false
namespace Go.Proofs.YtgognegkcplcpaaGreatDoor
open Go.RowKit Go.Maps Go.Lib
variable {g : St → List Tok} {s : ByteArray} {i : Nat} {pt pt' : Part} {st st' : St} {no q c : Int} {S : Src}

theorem took_cur (h1 : S.rest = s.extract i s.size) (hi : i ≤ s.size) : S.took.2 = cur s i ∧ (0 ≤ cur s i → S.took.1.rest = s.extract (i + wid s i) s.size ∧ S.took.1.next = S.next + wid s i) := by
  have hz : S.rest.size = s.size - i := by rw [h1]; simp [ByteArray.size_extract]
  rw [Ch.tail_extract] at h1
  have hc := cur_tail s i 0
  rw [Nat.add_zero] at hc
  unfold Src.took
  by_cases h0 : i < s.size
  · have hw := wid_tail (s := s) (k := i) (j := 0) (by omega)
    rw [Nat.add_zero] at hw
    rw [if_neg (by omega), h1]
    have hz' : 0 < (Ch.tail s i).size := by rw [Ch.tail_size]; omega
    unfold cur at hc
    rw [if_pos hz', if_pos h0] at hc
    unfold cur
    rw [if_pos h0]
    by_cases ho : Ch.okAt (Ch.tail s i) 0 = true
    · rw [if_pos ho] at hc ⊢
      refine ⟨hc, fun _ => ?_⟩
      simp only
      have hw' : (Utf8.decode (Ch.tail s i) 0).2 = wid s i := hw
      rw [hw']
      refine ⟨?_, rfl⟩
      rw [Ch.tail_extract, Ch.tail_tail, ← Ch.tail_extract]
    · rw [if_neg ho] at hc ⊢
      refine ⟨hc, fun h => ?_⟩
      rw [← hc] at h; omega
  · rw [if_pos (by omega)]
    unfold cur
    rw [if_neg h0]
    exact ⟨rfl, fun h => by omega⟩
theorem stepPart_stop {o : St} (h : stepPart pt q st c = ⟨o, .stop⟩) : o = st.tellText := by
  have key : ∀ (k : Pl) (st : St), step k q st c = ⟨o, .stop⟩ → o = st.tellText := by
    intro k st h
    have := step_stop h
    subst this
    simp only [step] at h
    repeat' split at h
    all_goals first | (cases h; done) | (cases h; rfl)
  cases pt with
  | plain k => exact key k st h
  | word l k =>
    cases l with
    | nil => simp only [stepPart] at h; cases h
    | cons x l =>
      simp only [stepPart, stWord] at h
      repeat' split at h
      all_goals cases h
  | name i k =>
    simp only [stepPart, stName, stName1] at h
    repeat' split at h
    all_goals first | (cases h; done) | exact key k st h
  | ref i k =>
    simp only [stepPart, stRef] at h
    split at h
    · split at h
      · unfold stRefEnd at h
        split at h <;> cases h
      · cases h
    · cases h
theorem reads_runs (g : St → List Tok) (s : ByteArray) : ∀ (n i : Nat) (S : Src) (pt : Part) (st : St) (k : Nat), s.size - i < n → i ≤ s.size → S.rest = s.extract i s.size → S.next = (i : Int) → S.ended = true → Lim k pt st →
    (∃ no q, (reads S pt st).ret = .fail no q ∧ runs g s i pt st = ((reads S pt st).st.told, no, q)) ∨ ((reads S pt st).ret = .over ∧ ∃ st', runs g s i pt st = (g st', 0, 0) ∧ (reads S pt st).st = st'.tellText) := by
  intro n
  induction n with
  | zero => intro i S pt st k h; omega
  | succ n ih =>
    intro i S pt st k hn hi hr hx he hl
    obtain ⟨h1, h2⟩ := took_cur hr hi
    have hm : S.more = false := by simp [Src.more, he]
    rw [reads_eq hl hm, h1, hx]
    generalize hs : stepPart pt i st (cur s i) = o
    obtain ⟨o, r⟩ := o
    cases r with
    | go pt' =>
      have hres : (stepPart pt S.next st S.took.2).res = .go pt' := by rw [h1, hx, hs]
      have hk := took_less hl.sound hl.quote hres
      have h0 : 0 ≤ cur s i := by
        by_cases h0 : 0 ≤ cur s i
        · exact h0
        · exfalso
          have hneg : cur s i = -1 ∨ cur s i = -2 := by rcases cur_neg h0 with ⟨_, h⟩ | ⟨_, h⟩ <;> omega
          exact stepPart_adds pt i st (cur s i) hl.sound hneg hl.quote pt' (by rw [hs])
      have hc := cur_pos h0
      obtain ⟨h3, h4⟩ := h2 h0
      rw [runs_go hs h0]
      have hst : (stepPart pt S.next st S.took.2).st = o := by rw [h1, hx, hs]
      have hlim := hl.step hres
      rw [hst] at hlim
      exact ih (i + wid s i) S.took.1 pt' o (k + 1) (by omega) (by omega) h3 (by rw [h4, hx]; omega) ((took_flags S).1.trans he) hlim
    | stop =>
      refine Or.inr ⟨rfl, st, runs_stop hs, ?_⟩
      exact stepPart_stop hs
    | fail no q => exact Or.inl ⟨no, q, rfl, runs_fail hs⟩
theorem reads_end : ∀ (n : Nat) (S : Src) (pt : Part) (st : St) (k : Nat), S.rest.size < n → Lim k pt st → S.ended = false →
    ((reads S pt st).ret = .more → reads { S with ended := true } pt st = reads { (reads S pt st).s with ended := true } (reads S pt st).pt (reads S pt st).st) ∧
    (∀ no q, (reads S pt st).ret = .fail no q → (reads { S with ended := true } pt st).ret = .fail no q ∧ (reads { S with ended := true } pt st).st = (reads S pt st).st) := by
  intro n
  induction n with
  | zero => intro S pt st k h; omega
  | succ n ih =>
    intro S pt st k hn hl he
    by_cases hm : S.more = true
    · rw [reads_at hm]
      exact ⟨fun _ => rfl, fun _ _ e => (by cases e)⟩
    · have hm' : S.more = false := by simpa using hm
      have hm2 : ({ S with ended := true } : Src).more = false := by simp [Src.more]
      have ht : ({ S with ended := true } : Src).took = ({ S.took.1 with ended := true }, S.took.2) := by
        unfold Src.took; repeat' split
        all_goals rfl
      rw [reads_eq hl hm', reads_eq (s := { S with ended := true }) hl hm2, ht]
      generalize hr : (stepPart pt S.next st S.took.2).res = r
      cases r with
      | go pt' =>
        have hk := took_less hl.sound hl.quote hr
        exact ih S.took.1 pt' _ (k + 1) (by omega) (hl.step hr) ((took_flags S).1.trans he)
      | stop => exact ⟨fun e => (by cases e), fun _ _ e => (by cases e)⟩
      | fail no q => exact ⟨fun e => (by cases e), fun _ _ e => ⟨e, rfl⟩⟩
theorem mrun_closed (b : Bool) : ∀ (n : Nat) (S : Src) (pt : Part) (st : St), mrun n { S with closed := b } pt st = { mrun n S pt st with s := { (mrun n S pt st).s with closed := b } } := by
  intro n
  induction n with
  | zero => intro S pt st; rfl
  | succ n ih =>
    intro S pt st
    have ht : ({ S with closed := b } : Src).took = ({ S.took.1 with closed := b }, S.took.2) := by
      unfold Src.took; repeat' split
      all_goals rfl
    have hm : ({ S with closed := b } : Src).more = S.more := rfl
    simp only [mrun, ht, hm]
    split
    · rfl
    · cases (stepPart pt S.took.1.at_ st S.took.2).res with
      | go pt' => simp only []; exact ih _ _ _
      | stop => rfl
      | fail no q => rfl
end Go.Proofs.YtgognegkcplcpaaGreatDoor

set_option linter.unusedSimpArgs false
set_option linter.unusedVariables false
namespace Go.Proofs.YtgognegkcplcpaaGreatDoor
open Go.RowKit Go.Maps Go.Lib
def refAll (s : ByteArray) : List Tok × Int × Int := if (readS s).err ≠ 0 then ([], (readS s).err, (readS s).at_) else ((readS s).l ++ (readS s).last, 0, 0)
theorem rel0 : Rel Sc.zero St.zero := ⟨⟨rfl, rfl, fun h => absurd rfl h⟩, rfl, rfl, rfl⟩
def srcOf (b : ByteArray) (e : Bool) : Src := { Src.zero 0 0 false with rest := b, ended := e }
theorem runs_told (b : ByteArray) : runs (fun st => st.told) b 0 (.plain .between) St.zero = ((readS b).l, (readS b).err, (readS b).at_) := by
  have h := runs_read (g := fun st => st.told) (s := b) (fun x => x.l) (fun x st he h => h.tag.told) (b.size + 1) Sc.zero St.zero rfl (Nat.zero_le _) (by show b.size < 0 + _; omega) rel0
  have h2 : runs (fun st => st.told) b 0 (.plain .between) St.zero = (readF b (b.size + 1) Sc.zero).fin fun x => x.l := h
  rw [h2]
  unfold Sc.fin readS
  split
  · rename_i he
    have := readF_over (fun st => st.told) (s := b) (b.size + 1) Sc.zero St.zero rfl (Nat.zero_le _) (by show b.size < 0 + _; omega) rel0 he
    rw [he, this.2]; rfl
  · rfl
theorem runs_last (b : ByteArray) : runs (fun st => st.tellText.told) b 0 (.plain .between) St.zero = if (readS b).err = 0 then ((readS b).l ++ (readS b).last, 0, 0) else ((readS b).l, (readS b).err, (readS b).at_) :=
  runs_read (g := fun st => st.tellText.told) (s := b) (fun x => x.l ++ x.last) (fun x st he h => tell_last x st he h) (b.size + 1) Sc.zero St.zero rfl (Nat.zero_le _) (by show b.size < 0 + _; omega) rel0
theorem fail_ne {S : Src} {pt : Part} {st : St} {k : Nat} {no q : Int} (hl : Lim k pt st) (h : (reads S pt st).ret = .fail no q) : no ≠ 0 := by
  have key : ∀ (n : Nat) (S : Src) (pt : Part) (st : St), (mrun n S pt st).ret = .fail no q → no ≠ 0 := by
    intro n
    induction n with
    | zero => intro S pt st h; simp only [mrun] at h; cases h
    | succ n ih =>
      intro S pt st h
      simp only [mrun] at h
      split at h
      · cases h
      · have hends := stepPart_ends pt S.took.1.at_ st S.took.2
        cases hr : (stepPart pt S.took.1.at_ st S.took.2).res with
        | go pt2 => rw [hr] at h; exact ih _ _ _ h
        | stop => rw [hr] at h; cases h
        | fail a b => rw [hr] at h; cases h; exact hends.fail _ _ hr
  exact key _ S pt st h
theorem reads_whole (b : ByteArray) : ((readS b).err = 0 → (reads (srcOf b true) (.plain .between) St.zero).ret = .over ∧ (reads (srcOf b true) (.plain .between) St.zero).st.told = (readS b).l ++ (readS b).last) ∧
    ((readS b).err ≠ 0 → (reads (srcOf b true) (.plain .between) St.zero).ret = .fail (readS b).err (readS b).at_ ∧ (reads (srcOf b true) (.plain .between) St.zero).st.told = (readS b).l) := by
  have hr : (srcOf b true).rest = b.extract 0 b.size := by show b = _; simp
  have hends := fun no q (h : (reads (srcOf b true) (.plain .between) St.zero).ret = .fail no q) => h
  have h := reads_runs (fun st => st.tellText.told) b (b.size + 1) 0 (srcOf b true) (.plain .between) St.zero 0 (by omega) (Nat.zero_le _) hr rfl rfl (lim0 0)
  have h2 := reads_runs (fun st => st.told) b (b.size + 1) 0 (srcOf b true) (.plain .between) St.zero 0 (by omega) (Nat.zero_le _) hr rfl rfl (lim0 0)
  rw [runs_last] at h
  rw [runs_told] at h2
  constructor
  · intro he
    rw [if_pos he] at h
    rcases h with ⟨no, q, h1, h3⟩ | ⟨h1, st', h3, h4⟩
    · exfalso
      rcases h2 with ⟨no', q', k1, k3⟩ | ⟨k1, _⟩
      · have hno := fail_ne (lim0 0) k1
        simp only [Prod.mk.injEq] at k3
        exact hno (k3.2.1.symm.trans he)
      · rw [h1] at k1; cases k1
    · refine ⟨h1, ?_⟩
      rw [h4]
      exact (congrArg Prod.fst h3).symm
  · intro he
    rw [if_neg he] at h
    rcases h2 with ⟨no, q, k1, k3⟩ | ⟨k1, st', k3, k4⟩
    · simp only [Prod.mk.injEq] at k3
      exact ⟨by rw [k1, k3.2.1, k3.2.2], k3.1.symm⟩
    · simp only [Prod.mk.injEq] at k3
      exact absurd k3.2.1 he
end Go.Proofs.YtgognegkcplcpaaGreatDoor

set_option linter.unusedSimpArgs false
set_option linter.unusedVariables false
namespace Go.Proofs.YtgognegkcplcpaaGreatDoor
open Go.RowKit Go.Maps Go.Lib
theorem not_full (t : ByteArray) (h0 : 0 < t.size) (h : Tk.full t = false) : Ch.okAt t 0 = false := by
  apply Ch.okAt_bad
  unfold Tk.full at h
  rw [if_neg (by omega)] at h
  rw [decode_at, decode_first4 _ _ _ _ _ (by omega) (UInt8.toNat_lt _) (UInt8.toNat_lt _) (UInt8.toNat_lt _) (UInt8.toNat_lt _)]
  simp only [fullN, Bool.or_eq_false_iff, decide_eq_false_iff_not] at h
  rw [Nat.sub_zero]
  have h1 := h.1
  generalize (t.get! 0).toNat = b0 at *
  unfold first4
  by_cases a1 : firstT b0 = 240
  · rw [a1] at h1; omega
  by_cases a2 : firstT b0 = 241
  · rw [if_neg a1, if_pos a2]
  rw [if_neg a1, if_neg a2]
  unfold slowN
  rw [if_pos (by omega)]
theorem took_short {S : Src} (h : S.more = true) : S.took.2 = -1 ∨ S.took.2 = -2 := by
  simp only [Src.more, Bool.and_eq_true, Bool.not_eq_true'] at h
  unfold Src.took
  by_cases h0 : S.rest.size = 0
  · rw [if_pos h0]; exact Or.inl rfl
  · rw [if_neg h0, if_neg (by rw [not_full _ (by omega) h.2]; simp)]; exact Or.inr rfl
theorem fail_told {pt : Part} {q : Int} {st o : St} {c : Int} {no p : Int} (h : stepPart pt q st c = ⟨o, .fail no p⟩) : o.told = st.told := by
  have key : ∀ (k : Pl) (st : St), step k q st c = ⟨o, .fail no p⟩ → o.told = st.told := by
    intro k st h
    cases k <;> simp only [step, stPart, stName1, stAttr, stRemark, stOrder, stSection, stBracket] at h <;> (repeat' split at h) <;> first | (cases h; done) | (cases h; rfl)
  cases pt with
  | plain k => exact key k st h
  | word l k =>
    cases l with
    | nil => simp only [stepPart] at h; cases h
    | cons x l =>
      simp only [stepPart, stWord] at h
      repeat' split at h
      all_goals first | (cases h; done) | (cases h; rfl)
  | name i k =>
    simp only [stepPart, stName, stName1] at h
    repeat' split at h
    all_goals first | (cases h; done) | exact key k st h | (cases h; rfl)
  | ref i k =>
    simp only [stepPart, stRef] at h
    split at h
    · split at h
      · unfold stRefEnd at h
        split at h <;> cases h
        rfl
      · cases h
    · cases h; rfl
theorem reads_stay (g : St → List Tok) (s : ByteArray) : ∀ (n i : Nat) (S : Src) (pt : Part) (st : St) (k : Nat), s.size - i < n → i ≤ s.size → S.rest = s.extract i s.size → S.next = (i : Int) → S.ended = false → Lim k pt st → (reads S pt st).ret = .more →
    ∃ j, j ≤ s.size ∧ runs g s i pt st = runs g s j (reads S pt st).pt (reads S pt st).st ∧ (reads S pt st).s.rest = s.extract j s.size := by
  intro n
  induction n with
  | zero => intro i S pt st k h; omega
  | succ n ih =>
    intro i S pt st k hn hi hr hx he hl hret
    by_cases hm : S.more = true
    · rw [reads_at hm]
      exact ⟨i, hi, rfl, hr⟩
    · have hm' : S.more = false := by simpa using hm
      obtain ⟨h1, h2⟩ := took_cur hr hi
      rw [reads_eq hl hm', h1, hx] at hret ⊢
      generalize hs : stepPart pt i st (cur s i) = o at *
      obtain ⟨o, r⟩ := o
      cases r with
      | go pt' =>
        have hres : (stepPart pt S.next st S.took.2).res = .go pt' := by rw [h1, hx, hs]
        have h0 : 0 ≤ cur s i := by
          by_cases h0 : 0 ≤ cur s i
          · exact h0
          · exfalso
            have hneg : cur s i = -1 ∨ cur s i = -2 := by rcases cur_neg h0 with ⟨_, h⟩ | ⟨_, h⟩ <;> omega
            exact stepPart_adds pt i st (cur s i) hl.sound hneg hl.quote pt' (by rw [hs])
        have hc := cur_pos h0
        obtain ⟨h3, h4⟩ := h2 h0
        rw [runs_go hs h0]
        have hst : (stepPart pt S.next st S.took.2).st = o := by rw [h1, hx, hs]
        have hlim := hl.step hres
        rw [hst] at hlim
        exact ih (i + wid s i) S.took.1 pt' o (k + 1) (by omega) (by omega) h3 (by rw [h4, hx]; omega) ((took_flags S).1.trans he) hlim hret
      | stop => cases hret
      | fail no q => cases hret
theorem reads_flags {S : Src} {pt : Part} {st : St} : (reads S pt st).s.no = S.no ∧ (reads S pt st).s.fat = S.fat := by
  have key : ∀ (n : Nat) (S : Src) (pt : Part) (st : St), (mrun n S pt st).s.no = S.no ∧ (mrun n S pt st).s.fat = S.fat := by
    intro n
    induction n with
    | zero => intro S pt st; exact ⟨rfl, rfl⟩
    | succ n ih =>
      intro S pt st
      have hf := took_flags S
      simp only [mrun]
      split
      · exact ⟨rfl, rfl⟩
      · cases (stepPart pt S.took.1.at_ st S.took.2).res with
        | go pt' =>
          have := ih S.took.1 pt' (stepPart pt S.took.1.at_ st S.took.2).st
          exact ⟨this.1.trans hf.2.1, this.2.trans hf.2.2.1⟩
        | stop => exact ⟨hf.2.1, hf.2.2.1⟩
        | fail no q => exact ⟨hf.2.1, hf.2.2.1⟩
  exact key _ S pt st
def rdOf (b : ByteArray) : Rd := reads (srcOf b false) (.plain .between) St.zero
theorem rd_cases (b : ByteArray) :
    ((rdOf b).ret = .more ∧ (rdOf b).st.told = (readS b).l ∧ reads (srcOf b true) (.plain .between) St.zero = reads { (rdOf b).s with ended := true } (rdOf b).pt (rdOf b).st ∧ (∃ n, Lim n (rdOf b).pt (rdOf b).st) ∧ (rdOf b).s.more = true ∧ (rdOf b).s.no = 0 ∧ (rdOf b).s.fat = 0 ∧ (rdOf b).s.closed = false ∧ (rdOf b).s.now = .nilFunc) ∨
    ((rdOf b).ret = .fail (readS b).err (readS b).at_ ∧ (readS b).err ≠ 0 ∧ (rdOf b).st.told = (readS b).l ∧ (rdOf b).s.closed = false) := by
  have hw := reads_whole b
  have hcut := reads_cut ⟨#[]⟩ (b.size + 1) (srcOf b false) (.plain .between) St.zero 0 (by show b.size < _; omega) (lim0 0) rfl
  have hend := reads_end (b.size + 1) (srcOf b false) (.plain .between) St.zero 0 (by show b.size < _; omega) (lim0 0) rfl
  have hmore := reads_stay (fun st => st.told) b (b.size + 1) 0 (srcOf b false) (.plain .between) St.zero 0 (by omega) (Nat.zero_le _) (by show b = _; simp) rfl rfl (lim0 0)
  have e1 : ({ srcOf b false with ended := true } : Src) = srcOf b true := rfl
  rw [e1] at hend
  rw [runs_told] at hmore
  have hno := fun no q => fail_ne (S := srcOf b false) (no := no) (q := q) (lim0 0)
  unfold rdOf
  generalize reads (srcOf b false) (.plain .between) St.zero = m at *
  cases hret : m.ret with
  | more =>
    obtain ⟨c1, stay⟩ := hcut.more hret
    have e2 := hend.1 hret
    obtain ⟨n, hl, _⟩ := stay.lim
    obtain ⟨j, hj, hr, hrest⟩ := hmore hret
    refine Or.inl ⟨rfl, ?_, e2, ⟨n, hl⟩, stay.more, stay.no, stay.fat, stay.closed, stay.now⟩
    obtain ⟨h1, _⟩ := took_cur hrest hj
    have hsh := took_short stay.more
    rw [h1] at hsh
    generalize hs : stepPart m.pt j m.st (cur b j) = o
    obtain ⟨o, r⟩ := o
    cases r with
    | go pt' => exact absurd (by rw [hs]) (stepPart_adds m.pt j m.st (cur b j) hl.sound hsh hl.quote pt')
    | stop =>
      rw [runs_stop hs] at hr
      exact (congrArg Prod.fst hr).symm
    | fail no q =>
      rw [runs_fail hs] at hr
      rw [← fail_told hs]
      exact (congrArg Prod.fst hr).symm
  | over => exact absurd hret hcut.over
  | fail no q =>
    obtain ⟨f1, f2⟩ := hend.2 no q hret
    have hn := hno no q hret
    have herr : (readS b).err ≠ 0 := by
      intro e
      have := (hw.1 e).1
      rw [f1] at this; cases this
    obtain ⟨w1, w2⟩ := hw.2 herr
    rw [f1] at w1
    cases w1
    rw [f2] at w2
    exact Or.inr ⟨rfl, herr, w2, (hcut.fail _ _ hret).2.2⟩
theorem src_new (b : ByteArray) : ({ PR.new.s with rest := PR.new.s.rest ++ b } : Src).bare = srcOf b false := by
  have h : (⟨#[]⟩ : ByteArray) ++ b = b := by
    apply ByteArray.ext
    simp [ByteArray.data_append]
  simp only [PR.new, Src.zero, Src.bare, srcOf, h]
theorem write_new (b : ByteArray) : PR.new.write b = tells (rdOf b) := by
  unfold PR.write
  rw [if_neg (by rintro (h | h); cases h; exact h rfl)]
  show tells (reads ({ PR.new.s with rest := PR.new.s.rest ++ b } : Src).bare (.plain .between) St.zero) = _
  rw [src_new]; rfl
theorem write_ref (b : ByteArray) : (PR.new.write b).2 = (readS b).l := by
  rw [write_new]
  unfold tells
  rcases rd_cases b with ⟨h1, h2, _⟩ | ⟨h1, _, h2, _⟩
  · rw [h1]; exact h2
  · rw [h1]; exact h2
theorem reads_closed (S : Src) (pt : Part) (st : St) (b : Bool) : reads { S with closed := b } pt st = { reads S pt st with s := { (reads S pt st).s with closed := b } } := mrun_closed b _ S pt st
theorem reads_pre (T : List Tok) (S : Src) (pt : Part) (st : St) : reads S pt (st.pre T) = { reads S pt st with st := (reads S pt st).st.pre T } := pre_mrun T _ S pt st
theorem close_ref (b : ByteArray) : (PR.new.write b).1.close.2 = (readS b).last ∧ (PR.new.write b).1.close.1.err = ((readS b).err, (readS b).at_) ∧ (PR.new.write b).1.close.1.s.closed = true := by
  have hw := reads_whole b
  rw [write_new]
  rcases rd_cases b with ⟨h1, h2, h3, ⟨n, hl⟩, hm, hno, hfat, hcl, hnow⟩ | ⟨h1, h2, h3, hcl⟩
  · unfold tells
    rw [h1]
    simp only
    unfold PR.close
    simp only
    rw [hcl, if_neg (show ¬ (false = true) by simp), if_neg (show ¬ ((rdOf b).s.no ≠ 0) by rw [hno]; simp)]
    have hb : ({ (rdOf b).s with closed := true, ended := true } : Src).bare = { ({ (rdOf b).s with ended := true } : Src) with closed := true } := by
      simp only [Src.bare, hnow]
    have hst : (rdOf b).st = ({ (rdOf b).st with told := [] } : St).pre (rdOf b).st.told := by simp [St.pre]
    rw [h3] at hw
    rw [hst, reads_pre] at hw
    simp only at hw
    rw [hb, reads_closed]
    have hkeep := reads_flags (S := { (rdOf b).s with ended := true }) (pt := (rdOf b).pt) (st := { (rdOf b).st with told := [] })
    generalize reads { (rdOf b).s with ended := true } (rdOf b).pt { (rdOf b).st with told := [] } = m at *
    unfold shut tells
    by_cases he : (readS b).err = 0
    · obtain ⟨w1, w2⟩ := hw.1 he
      simp only [w1]
      have w2' : (rdOf b).st.told ++ m.st.told = (readS b).l ++ (readS b).last := w2
      rw [h2] at w2'
      refine ⟨List.append_cancel_left w2', ?_, rfl⟩
      have hat : (readS b).at_ = 0 := by
        have := readF_over (fun st => st.told) (s := b) (b.size + 1) Sc.zero St.zero rfl (Nat.zero_le _) (by show b.size < 0 + _; omega) rel0 he
        exact this.2
      unfold PR.err Src.zero
      simp only [if_true]
      rw [hkeep.1, hkeep.2, he, hat]
      simp only [hno, hfat]
    · obtain ⟨w1, w2⟩ := hw.2 he
      simp only [w1]
      have w2' : (rdOf b).st.told ++ m.st.told = (readS b).l := w2
      rw [h2] at w2'
      have hnil : m.st.told = [] := by simpa using w2'
      refine ⟨?_, rfl, rfl⟩
      rw [hnil]
      unfold Sc.last; rw [if_pos (Or.inl he)]
  · unfold tells
    rw [h1]
    simp only
    unfold PR.close
    simp [Src.zero, hcl, h2, PR.err, Sc.last]
theorem all_ref (b : ByteArray) : allP b = refAll b := by
  obtain ⟨h1, h2, _⟩ := close_ref b
  unfold allP refAll
  rw [h2, write_ref, h1]
end Go.Proofs.YtgognegkcplcpaaGreatDoor
