import Derived.Test.YtfolnkmbdmfigaaGreatDoorGah
set_option linter.unusedVariables false
set_option linter.unusedSimpArgs false
namespace Go.Proofs.YtfolnkmbdmfigaaGreatDoor
open Go.RowKit Go.Maps Go.Lib
variable {F F' : Nat → Prop} {R : Nat} {w w' w'' : World} {s s' : Src} {p : Ptr} {st : St} {c : Int} {a : Addr} {pt : Part} {v : Value}
structure Gl (w : World) (a : Addr) : Prop where
  tabs : Utf8Tabs 3 4 w
  tab : Tab w
  more : More w (.iface 213 (.pointer (some a)))
  et : w.cell? ⟨1, 0, none⟩ = some (.iface 173 (.agg #[.pointer (some ⟨6, 114, none⟩)]))
def Low (F : Nat → Prop) : Prop := ∀ k, k ≤ 4 → ¬ F k
theorem Gl.size (h : Gl w a) : 4 < w.heap.size := tabs_size h.tabs
theorem Gl.frame (h : Gl w a) (fr : Frame F w w') (hl : Low F) : Gl w' a := by
  have h4 := h.size
  have hb : ∀ k, k ≤ 4 → w'.heap[k]? = w.heap[k]? := fun k hk => fr.block k (by omega) (hl k hk)
  refine ⟨⟨fun c hc => ?_, fun i hi => ⟨?_, ?_⟩⟩, tab_frame h.tab fr (hl 2 (by omega)), ?_, ?_⟩
  · exact (World.cell?_of_block (hb 3 (by omega))).trans (h.tabs.1 c hc)
  · exact (World.cell?_of_block (hb 4 (by omega))).trans (h.tabs.2 i hi).1
  · exact (World.cell?_of_block (hb 4 (by omega))).trans (h.tabs.2 i hi).2
  · exact (World.cell?_of_block (hb 0 (by omega))).trans h.more
  · exact (World.cell?_of_block (hb 1 (by omega))).trans h.et
theorem Low.grow (hl : Low F) (h4 : 4 < w.heap.size) : Low (Grow F w w') := fun k hk h => h.elim (hl k hk) (fun x => by omega)
theorem Low.lt (hl : Low F) (h : F R) : 4 < R := by
  by_cases e : R ≤ 4
  · exact absurd h (hl R e)
  · omega
theorem PartAt.keep (h : PartAt F R w v pt) (hk : ∀ k, F k → k ≠ R → w'.heap[k]? = w.heap[k]?) (hF : ∀ k, F k → F' k) : PartAt F' R w' v pt := by
  have bx : ∀ {b x t}, Box F R w b x t → Box F' R w' b x t := fun h => ⟨(hk _ h.2.1 h.2.2).trans h.1, hF _ h.2.1, h.2.2⟩
  cases pt with
  | plain k => exact h
  | word l k => obtain ⟨b1, b2, e, x1, x2⟩ := h; exact ⟨b1, b2, e, bx x1, bx x2⟩
  | name i k => obtain ⟨b1, b2, b3, e, x1, x2, x3⟩ := h; exact ⟨b1, b2, b3, e, bx x1, bx x2, bx x3⟩
  | ref i k => obtain ⟨b1, b2, b3, e, x1, x2, x3⟩ := h; exact ⟨b1, b2, b3, e, bx x1, bx x2, bx x3⟩
def RG (F : Nat → Prop) (R : Nat) (w : World) (s : Src) (p : Ptr) (st : St) (w' : World) : Prop := Rep (Grow F w w') R w' s p st ∧ Frame F w w'
theorem RG.refl (h : Rep F R w s p st) : RG F R w s p st w := ⟨h.grow0, Frame.refl _ _⟩
theorem RF.rg (h : RF F R w s p st w') : RG F R w s p st w' := ⟨h.1, h.2.1⟩
theorem RG.below (h : RG F R w s p st w') (hb : Below w'.heap.size w' w'') : RG F R w s p st w'' :=
  ⟨(h.1.below hb).join h.2.size hb.size, h.2.trans (Frame.below hb)⟩
theorem RG.on {p' : Ptr} {st' : St} (h : RG F R w s p st w') (k : RG (Grow F w w') R w' s' p' st' w'') : RG F R w s' p' st' w'' :=
  ⟨k.1.join h.2.size k.2.size, h.2.trans k.2⟩
theorem RG.iff (h : RG F R w s p st w') (hF : ∀ k, F k ↔ F' k) : RG F' R w s p st w' := by
  refine ⟨h.1.mono (fun k hk => hk.elim (fun x => Or.inl ((hF k).1 x)) Or.inr) (fun k hk => h.1.lt k (hk.elim (fun x => Or.inl ((hF k).2 x)) Or.inr)), ⟨h.2.os, h.2.tape, h.2.output, h.2.size, fun k hk hf => h.2.block k hk (fun x => hf ((hF k).1 x))⟩⟩
theorem RG.set (h : RG F R w s p st w') (i : Nat) (v : Value) (hc : (cellsOf s p st).setIfInBounds i v = cellsOf s' p st) : RG F R w s' p st (w'.setCell ⟨R, i, none⟩ v) := by
  have hsz : (w'.setCell ⟨R, i, none⟩ v).heap.size = w'.heap.size := by simp [World.setCell]
  have r := h.1.scalar (s' := s') (st' := st) i v hc (fun o => o)
  have hG : ∀ k, Grow F w w' k → Grow F w (w'.setCell ⟨R, i, none⟩ v) k := fun k hk => by unfold Grow at *; rw [hsz]; exact hk
  have hG' : ∀ k, Grow F w (w'.setCell ⟨R, i, none⟩ v) k → Grow F w w' k := fun k hk => by unfold Grow at *; rw [hsz] at hk; exact hk
  refine ⟨r.mono hG (fun k hk => r.lt k (hG' k hk)), ⟨h.2.os, h.2.tape, h.2.output, by rw [hsz]; exact h.2.size, fun k hk hf => ?_⟩⟩
  rw [Below.heap_setCell _ _ _ _ ?_]
  · exact h.2.block k hk hf
  · intro e
    have e' : k = R := e
    subst e'
    rcases h.1.inR with x | x
    · exact hf x
    · omega
theorem PartAt.grow (h : PartAt F R w' v pt) (_hs : w'.heap.size ≤ w''.heap.size) (hk : ∀ k, F k → k ≠ R → w''.heap[k]? = w'.heap[k]?) : PartAt (Grow F w' w'') R w'' v pt :=
  h.keep hk (fun _ x => Or.inl x)
theorem PartAt.func (h : PartAt F R w v pt) : ∃ f cs, v = .func (.func f) #[] cs := by
  cases pt with
  | plain k => exact ⟨_, _, h⟩
  | word l k => obtain ⟨b1, b2, e, _⟩ := h; exact ⟨_, _, e⟩
  | name i k => obtain ⟨b1, b2, b3, e, _⟩ := h; exact ⟨_, _, e⟩
  | ref i k => obtain ⟨b1, b2, b3, e, _⟩ := h; exact ⟨_, _, e⟩
def Src.Ok (s : Src) : Prop := 0 ≤ s.next ∧ s.next + s.rest.size ≤ 1099511627776
def ReadEnd (F : Nat → Prop) (R : Nat) (w : World) (a : Addr) (m : Rd) (e : Ending) (w' : World) : Prop :=
  ∃ v p', RG F R w { m.s with now := v } p' m.st w' ∧
    match m.ret with
    | .more => e = .returned (.iface 213 (.pointer (some a))) ∧ PartAt (Grow F w w') R w' v m.pt
    | .over => e = .returned .nilIface ∧ v = .nilFunc
    | .fail no q => e = .returned (wrongV no q) ∧ v = .nilFunc
def RI (F : Nat → Prop) (R : Nat) (w : World) (m : Rd) (N : Nat) (wr : World) : Prop :=
  ∃ (s' : Src) (p' : Ptr) (st' : St), RG F R w s' p' st' wr ∧
    ((∃ pt n, PartAt (Grow F w wr) R wr s'.now pt ∧ Lim n pt st' ∧ n + s'.rest.size ≤ N ∧ s'.Ok ∧ reads s'.bare pt st' = m) ∨
      (s'.now = .nilFunc ∧ m.s = s'.bare ∧ m.st = st' ∧ m.ret = .over))
def restLen (R : Nat) (w : World) : Nat :=
  (match w.cell? ⟨R, 0, none⟩ with | some (.string b) => 2 * b.size | _ => 0) + (match w.cell? ⟨R, 4, none⟩ with | some .nilFunc => 0 | _ => 1)
theorem restLen_go (h : Rep F R w s p st) {f : Nat} {cs : Array Value} (e : s.now = .func (.func f) #[] cs) : restLen R w = 2 * s.rest.size + 1 := by
  have c0 : w.cell? ⟨R, 0, none⟩ = some (.string s.rest) := h.cell 0 rfl
  have c4 : w.cell? ⟨R, 4, none⟩ = some s.now := h.cell 4 rfl
  simp only [restLen, c0, c4, e]
theorem restLen_nil (h : Rep F R w s p st) (e : s.now = .nilFunc) : restLen R w = 2 * s.rest.size := by
  have c0 : w.cell? ⟨R, 0, none⟩ = some (.string s.rest) := h.cell 0 rfl
  have c4 : w.cell? ⟨R, 4, none⟩ = some s.now := h.cell 4 rfl
  simp only [restLen, c0, c4, e, Nat.add_zero]
theorem took_leg (s : Src) : Leg s.took.2 := by
  unfold Src.took
  split
  · exact Or.inr (Or.inl rfl)
  · split
    · rename_i h
      simp only [Ch.okAt, Bool.and_eq_true] at h
      exact Or.inl h.1
    · exact Or.inr (Or.inr rfl)
theorem took_at (s : Src) : s.took.1.at_ = s.next := by
  unfold Src.took; repeat' split
  all_goals rfl
theorem took_ok (h : s.Ok) : s.took.1.Ok ∧ s.took.1.rest.size ≤ s.rest.size := by
  unfold Src.took Src.Ok at *
  split
  · exact ⟨h, Nat.le_refl _⟩
  · split
    · have := Ch.decode_width s.rest 0 (by omega)
      simp only [ByteArray.size_extract]
      omega
    · exact ⟨h, Nat.le_refl _⟩
theorem took_now (s : Src) : s.took.1.now = s.now := by
  unfold Src.took; repeat' split
  all_goals rfl
theorem reads_more (h : s.more = true) : reads s.bare pt st = ⟨s.bare, pt, st, .more⟩ := by
  unfold reads mrun; rw [more_bare, if_pos h]
theorem reads_step {n : Nat} (hl : Lim n pt st) (h : s.more = false) :
    reads s.bare pt st = match (stepPart pt s.next st s.took.2).res with
      | .go pt' => reads s.took.1.bare pt' (stepPart pt s.next st s.took.2).st
      | .stop => ⟨s.took.1.bare, pt, (stepPart pt s.next st s.took.2).st, .over⟩
      | .fail no q => ⟨s.took.1.bare, pt, (stepPart pt s.next st s.took.2).st, .fail no q⟩ := by
  have ha : s.took.1.bare.at_ = s.next := took_at s
  conv => lhs; unfold reads
  simp only [mrun, more_bare, h, Bool.false_eq_true, if_false, took_bare, ha]
  generalize he : (stepPart pt s.next st s.took.2).res = r
  cases r with
  | go pt' =>
    have hk := took_less hl.sound hl.quote he
    exact mrun_more (s.took.1.rest.size + 1) s.rest.size (n + 1) s.took.1.bare _ _ (hl.step he) (Nat.lt_succ_self _) (by omega)
  | stop => rfl
  | fail no q => rfl
end Go.Proofs.YtfolnkmbdmfigaaGreatDoor
