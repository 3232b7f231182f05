import Derived.Deep.MidRow
import Derived.Test.YtbbocgeapofloaiGreatDoorAl
import Derived.Test.YtbbocgeapofloaiGreatDoorAm
set_option linter.unusedVariables false
set_option linter.unusedSimpArgs false
namespace Go.Proofs.YtbbocgeapofloaiGreatDoor
open Go.RowKit Go.Maps Go.Lib

variable {F F' : Nat → Prop} {R : Nat} {w w' w'' wr : World} {s s' : Src} {p : Ptr} {st : St} {c : Int} {a : Addr} {pt : Part} {v : Value} {m : Rd} {N n : Nat}

/-- What is left to be shown where the loop's head is reached with a part. -/
structure Head (F : Nat → Prop) (R : Nat) (w : World) (m : Rd) (N : Nat) (wr : World) (s' : Src) (p' : Ptr) (st' : St) (pt : Part) (n : Nat) : Prop where
  rg : RG F R w s' p' st' wr
  part : PartAt (Grow F w wr) R wr s'.now pt
  lim : Lim n pt st'
  le : n + s'.rest.size ≤ N
  ok : s'.Ok
  eq : reads s'.bare pt st' = m

theorem Head.more (h : Head F R w m N wr s' p st pt n) (hm : s'.more = true) (hb : Below wr.heap.size wr w') : ReadEnd F R w a m (.returned (.iface 162 (.pointer (some a)))) w' := by
  have e := (reads_more hm).symm.trans h.eq
  subst e
  refine ⟨s'.now, p, h.rg.below hb, rfl, ?_⟩
  exact h.part.keep (fun k hk _ => hb.block k (h.rg.1.lt k hk)) (fun k hk => hk.elim Or.inl (fun x => Or.inr ⟨x.1, Nat.lt_of_lt_of_le x.2 hb.size⟩))

/-- Behind take: the part's call. -/
theorem Head.call (h : Head F R w m N wr s' p st pt n) (gl : Gl w a) (lo : Low F) (hN : N ≤ 274877906944) (hr : RF (Grow F w wr) R wr s'.took.1 p st w') :
    ∃ f cs, s'.now = .func (.func f) #[] cs ∧ (∀ args w, (callFunc f args).run Tryz.prog w = .ok (.enter f args) w) ∧
      Calls Tryz.prog f (#[.pointer (some ⟨R, 0, none⟩), .int .i32 s'.took.2] ++ cs) w' (PartEnd (Grow (Grow F w wr) wr w') R w' s'.took.1 (stepPart pt s'.next st s'.took.2)) := by
  have hl := h.rg.1.lt
  have pa : PartAt (Grow (Grow F w wr) wr w') R w' s'.took.1.now pt := by
    rw [took_now]
    exact h.part.grow hr.2.1.size (fun k hk hR => hr.2.2 k (hl k hk) hR)
  have gl1 := gl.frame h.rg.2 lo
  have lo1 : Low (Grow F w wr) := lo.grow gl.size
  have gl2 := gl1.frame hr.2.1 lo1
  have lo2 : Low (Grow (Grow F w wr) wr w') := lo1.grow gl1.size
  have ht := h.lim.tiny (by have := h.le; omega)
  have hok := h.ok
  have hc := part_call pt _ hr.1 pa h.lim.sound (took_leg s') ht (h.lim.both (by have := h.le; omega)) (by unfold Src.Fits; rw [took_at]; unfold Src.Ok at hok; omega) gl2.tab (lo2 2 (by omega))
  rw [took_now, took_at] at hc
  exact hc

/-- Behind the part's call. -/
theorem Head.go {p2 : Ptr} {w2 : World} {pt' : Part} (h : Head F R w m N wr s' p st pt n) (hm : s'.more = false) (hr : RF (Grow F w wr) R wr s'.took.1 p st w')
    (he : (stepPart pt s'.next st s'.took.2).res = .go pt') (hp : RG (Grow (Grow F w wr) wr w') R w' s'.took.1 p2 (stepPart pt s'.next st s'.took.2).st w2) (hv : PartAt (Grow (Grow (Grow F w wr) wr w') w' w2) R w2 v pt') :
    Head F R w m N (w2.setCell ⟨R, 4, none⟩ v) { s'.took.1 with now := v } p2 (stepPart pt s'.next st s'.took.2).st pt' (n + 1) ∧ s'.took.1.rest.size < s'.rest.size := by
  have hk := took_less h.lim.sound h.lim.quote he
  have ho := took_ok h.ok
  have r2 : RG F R w s'.took.1 p2 (stepPart pt s'.next st s'.took.2).st w2 := (h.rg.on hr.rg).on (hp.iff (fun k => Grow.trans h.rg.2.size hr.2.1.size k))
  refine ⟨⟨r2.set (s' := { s'.took.1 with now := v }) 4 v rfl, ?_, h.lim.step he, ?_, ho.1, ?_⟩, hk.1⟩
  · refine hv.keep (fun k _ hR => Below.heap_setCell _ _ _ _ hR) (fun k hk => ?_)
    have hsz : (w2.setCell ⟨R, 4, none⟩ v).heap.size = w2.heap.size := by simp [World.setCell]
    unfold Grow at hk ⊢
    rw [hsz]
    have := h.rg.2.size; have := hr.2.1.size; have := hp.2.size
    rcases hk with ((hk | hk) | hk) | hk
    · exact Or.inl hk
    · exact Or.inr (by omega)
    · exact Or.inr (by omega)
    · exact Or.inr (by omega)
  · have := h.le; show n + 1 + s'.took.1.rest.size ≤ N; omega
  · rw [← h.eq, reads_step h.lim hm, he]; rfl

theorem Head.stop {p2 : Ptr} {w2 : World} (h : Head F R w m N wr s' p st pt n) (hm : s'.more = false) (hr : RF (Grow F w wr) R wr s'.took.1 p st w')
    (he : (stepPart pt s'.next st s'.took.2).res = .stop) (hp : RG (Grow (Grow F w wr) wr w') R w' s'.took.1 p2 (stepPart pt s'.next st s'.took.2).st w2) :
    RI F R w m N (w2.setCell ⟨R, 4, none⟩ .nilFunc) ∧ restLen R (w2.setCell ⟨R, 4, none⟩ .nilFunc) < 2 * s'.rest.size + 1 := by
  have r2 : RG F R w s'.took.1 p2 (stepPart pt s'.next st s'.took.2).st w2 := (h.rg.on hr.rg).on (hp.iff (fun k => Grow.trans h.rg.2.size hr.2.1.size k))
  have r3 := r2.set (s' := { s'.took.1 with now := .nilFunc }) 4 .nilFunc rfl
  have ho := took_ok h.ok
  have e := h.eq
  rw [reads_step h.lim hm, he] at e
  subst e
  refine ⟨⟨_, _, _, r3, Or.inr ⟨rfl, rfl, rfl, rfl⟩⟩, ?_⟩
  rw [restLen_nil r3.1 rfl]
  show 2 * s'.took.1.rest.size < _
  omega

theorem Head.fail {p2 : Ptr} {w2 : World} {no q : Int} (h : Head F R w m N wr s' p st pt n) (hm : s'.more = false) (hr : RF (Grow F w wr) R wr s'.took.1 p st w')
    (he : (stepPart pt s'.next st s'.took.2).res = .fail no q) (hp : RG (Grow (Grow F w wr) wr w') R w' s'.took.1 p2 (stepPart pt s'.next st s'.took.2).st w2) :
    ReadEnd F R w a m (.returned (wrongV no q)) (w2.setCell ⟨R, 4, none⟩ .nilFunc) := by
  have r2 : RG F R w s'.took.1 p2 (stepPart pt s'.next st s'.took.2).st w2 := (h.rg.on hr.rg).on (hp.iff (fun k => Grow.trans h.rg.2.size hr.2.1.size k))
  have r3 := r2.set (s' := { s'.took.1 with now := .nilFunc }) 4 .nilFunc rfl
  have e := h.eq
  rw [reads_step h.lim hm, he] at e
  subst e
  exact ⟨.nilFunc, p2, r3, rfl, rfl⟩

theorem RI.over (hg : RG F R w s' p st wr) (h1 : s'.now = .nilFunc) (h2 : m.s = s'.bare) (h3 : m.st = st) (h4 : m.ret = .over) : ReadEnd F R w a m (.returned .nilIface) wr := by
  obtain ⟨r0, n0, a0, e0, nw, no0, f0, cl0⟩ := s'
  simp only at h1
  subst h1
  obtain ⟨ms, mp, mst, mr⟩ := m
  cases h2; cases h3; cases h4
  exact ⟨.nilFunc, p, hg, rfl, rfl⟩

theorem neq_fn (f : Nat) (cs : Array Value) (w : World) : (binOp .neq 52 (.func (.func f) #[] cs) .nilFunc).run Tryz.prog w = .ok (.bool true) w := by kernel_rfl
theorem neq_nil (w : World) : (binOp .neq 52 .nilFunc .nilFunc).run Tryz.prog w = .ok (.bool false) w := by kernel_rfl

set_option maxHeartbeats 4000000 in
set_option maxRecDepth 10000 in
theorem read_ok (h : Rep F R w s p st) (hpt : PartAt F R w s.now pt) (hl : Lim n pt st) (gl : Gl w a) (lo : Low F) (hn : n + s.rest.size ≤ N) (hN : N ≤ 274877906944) (hok : s.Ok) :
    Calls Tryz.prog 27 #[.pointer (some ⟨R, 0, none⟩)] w (ReadEnd F R w a (reads s.bare pt st)) := by
  have h0 : RI F R w (reads s.bare pt st) N w := ⟨s, p, st, RG.refl h, Or.inl ⟨pt, n, hpt.grow (Nat.le_refl _) (fun _ _ _ => rfl), hl, hn, hok, rfl⟩⟩
  generalize reads s.bare pt st = m at *
  have H0 := hide h0
  have GL := hide gl
  have LO := hide lo
  have hR4 := lo.lt h.inR
  clear h hpt hl gl lo hn hok h0
  have hnf := neq_fn
  have hnn := neq_nil
  go_enter Tryz.func27, Tryz.ntmps27
  go_wp2
  go_loopw [] (fun wr => RI F R w m N wr) (fun wr => restLen R wr)
  case atStart => exact H0.out
  case round =>
    obtain ⟨s', p', st', rg, hc⟩ := hrel
    rcases hc with ⟨pt', n', hp', hl', hle, hok', heq⟩ | ⟨hno, hs, hst, hov⟩
    · have hd : Head F R w m N wr s' p' st' pt' n' := ⟨rg, hp', hl', hle, hok', heq⟩
      obtain ⟨f, cs, hf⟩ := hp'.func
      have c4 : wr.cell? ⟨R, 4, none⟩ = some s'.now := rg.1.cell 4 rfl
      have hmu := restLen_go rg.1 hf
      rw [hf] at c4
      have gl1 := GL.out.frame rg.2 LO.out
      by_cases hm : s'.more = true
      · have htk := take_more rg.1 gl1.tabs a gl1.more hm
        have HD := hide hd
        clear hd rg hp' hl' heq hle hok' hf hmu gl1
        go_wp2_with (go_at_call 51; refine htk.mono ?_; rintro e w1 ⟨rfl, b1⟩)
        go_ret
        exact HD.out.more hm b1
      · have hm' : s'.more = false := by simpa using hm
        have htk := take_go rg.1 gl1.tabs hR4 (by unfold Src.Ok at hok'; omega) (by unfold Src.Ok at hok'; omega) hm'
        have hcl := fun w1 (x : RF (Grow F w wr) R wr s'.took.1 p' st' w1) => hd.call GL.out LO.out hN x
        have HD := hide hd
        have HMU := hide hmu
        have HF := hide hf
        have HCL := hide hcl
        have hnow := took_now s'
        rw [hf] at hnow
        clear hd rg hp' hl' heq hle hok' hf hmu gl1 hcl hm
        unfold tookEnd at htk
        obtain ⟨c, hc⟩ : ∃ c, c = s'.took.2 := ⟨_, rfl⟩
        have HC := hide hc
        rw [← hc] at htk HCL
        clear hc
        go_wp2_with (go_at_call 51; refine htk.mono ?_; rintro e w1 ⟨rfl, rf1⟩; have c4' : w1.cell? ⟨R, 4, none⟩ = some (.func (.func f) #[] cs) := by (rw [← hnow]; exact rf1.1.cell 4 rfl))
        obtain ⟨f', cs', hf', hen, hcall⟩ := HCL.out _ rf1
        rw [HF.out] at hf'
        simp only [Value.func.injEq, Fn.func.injEq, true_and] at hf'
        obtain ⟨rfl, rfl⟩ := hf'
        rw [hen]
        go_wp2_with fail
        refine hcall.mono ?_
        rintro e w2 ⟨p2, r2, fr2, hP⟩
        have rg2 : RG (Grow (Grow F w wr) wr w1) R w1 s'.took.1 p2 (stepPart pt' s'.next st' c).st w2 := ⟨r2, fr2⟩
        have d4 : w2.cell? ⟨R, 4, none⟩ = some (.func (.func f) #[] cs) := by rw [← hnow]; exact r2.cell 4 rfl
        have f4 := r2.free 4
        have RF1 := hide rf1
        have RG2 := hide rg2
        clear rf1 rg2 r2 fr2 HCL htk hcall c4' c4
        generalize hres : (stepPart pt' s'.next st' c).res = res at hP
        cases res with
        | go pt2 =>
          obtain ⟨v', rfl, hv'⟩ := hP
          obtain ⟨f2, cs2, rfl⟩ := hv'.func
          have hsto := store_of w2 ⟨R, 4, none⟩ _ (.func (.func f2) #[] cs2) rfl d4 f4
          have E := hide (HD.out.go hm' RF1.out (HC.out.symm ▸ hres) (HC.out.symm ▸ RG2.out) hv')
          clear hv'
          go_wp2
          go_roundw
          case rel =>
            obtain ⟨hd2, hlt⟩ := E.out
            exact ⟨_, _, _, hd2.rg, Or.inl ⟨pt2, n' + 1, hd2.part, hd2.lim, hd2.le, hd2.ok, hd2.eq⟩⟩
          case measure =>
            obtain ⟨hd2, hlt⟩ := E.out
            rw [restLen_go hd2.rg.1 rfl, HMU.out]
            show 2 * s'.took.1.rest.size + 1 < _
            omega
        | stop =>
          simp only at hP
          subst hP
          have hsto := store_of w2 ⟨R, 4, none⟩ _ .nilFunc rfl d4 f4
          have E := hide (HD.out.stop hm' RF1.out (HC.out.symm ▸ hres) (HC.out.symm ▸ RG2.out))
          go_wp2
          go_roundw
          case rel => exact E.out.1
          case measure =>
            rw [HMU.out]
            exact E.out.2
        | fail no q =>
          simp only at hP
          subst hP
          have hsto := store_of w2 ⟨R, 4, none⟩ _ .nilFunc rfl d4 f4
          have E := hide (HD.out.fail (a := a) hm' RF1.out (HC.out.symm ▸ hres) (HC.out.symm ▸ RG2.out))
          unfold wrongV at *
          go_wp2
          go_ret
          exact E.out
    · have c4 : wr.cell? ⟨R, 4, none⟩ = some s'.now := rg.1.cell 4 rfl
      rw [hno] at c4
      have E := hide (RI.over (a := a) rg hno hs hst hov)
      clear rg hs hst hov
      go_wp2
      go_ret
      exact E.out
end Go.Proofs.YtbbocgeapofloaiGreatDoor
namespace Go.Proofs.YtbbocgeapofloaiGreatDoor
open Go.RowKit Go.Maps Go.Lib

variable {F F' G : Nat → Prop} {R : Nat} {w w' w'' wr : World} {s s' : Src} {p : Ptr} {st : St} {c : Int} {a : Addr} {pt : Part} {v : Value} {m : Rd} {N n : Nat}

abbrev nilS : Value := .slice none 0 0

/-- The blocks of the tokens that are told. -/
def Told (G : Nat → Prop) (R : Nat) (w : World) (av : Value) (k : Nat) : Prop := G k ∧ k ≠ R ∧ ((∃ cur, w.heap[k]? = some (.cells cur 33 (0, 0))) ∨ ((∃ cur, w.heap[k]? = some (.cells cur 48 (0, 0))) ∧ av.ownBlock ≠ some k))
/-- The reader's others. -/
def Rest (G : Nat → Prop) (R : Nat) (w : World) (av : Value) (k : Nat) : Prop := G k ∧ ¬ Told G R w av k

/-- Tokens that are answered: v, in the blocks of A. -/
def Ans (A : Nat → Prop) (w : World) (v : Value) (l : List Tok) : Prop := ∃ cs, w.ownsRow 0 33 5 v l.length cs ∧ Toks A 0 w nilS l cs ∧ ∀ k, v.ownBlock = some k → A k

theorem not_told {k : Nat} {t : TypeId} {cur : Array Value} {av : Value} (h : w.heap[k]? = some (.cells cur t (0, 0))) (h1 : t ≠ 33) (h2 : t = 48 → av.ownBlock = some k) : ¬ Told G R w av k := by
  rintro ⟨_, _, ⟨c, hc⟩ | ⟨⟨c, hc⟩, hn⟩⟩
  · rw [h] at hc; simp only [Option.some.injEq, Obj.cells.injEq] at hc; exact h1 hc.2.1
  · rw [h] at hc; simp only [Option.some.injEq, Obj.cells.injEq] at hc; exact hn (h2 hc.2.1)

theorem Toks.free {l : List Tok} {cs : List Value} {av : Value} (h : Toks G R w av l cs) (lo : Low G) (hk : ∀ k, k ≠ R → w'.heap[k]? = w.heap[k]?) : Toks (Told G R w av) 0 w' nilS l cs := by
  induction h with
  | nil => exact .nil
  | cons t v l cs ho hf hl ih =>
    refine .cons t v l cs (owns_of ho fun k hv => hk k (hf k hv).2.1) (fun k hv => ?_) ih
    obtain ⟨cur, hc⟩ := owns_blk ho hv
    refine ⟨⟨(hf k hv).1, (hf k hv).2.1, Or.inr ⟨⟨cur, hc⟩, (hf k hv).2.2⟩⟩, ?_, nil_block k⟩
    intro e
    exact lo k (by omega) (hf k hv).1

/-- What is told is handed out. -/
theorem Rep.release (h : Rep G R w s p st) (lo : Low G) :
    Rep (Rest G R w p.attrs) R (w.setCell ⟨R, 5, none⟩ nilS) s { p with told := nilS } { st with told := [] } ∧ Ans (Told G R w p.attrs) (w.setCell ⟨R, 5, none⟩ nilS) p.told st.told := by
  have hk : ∀ k, k ≠ R → (w.setCell ⟨R, 5, none⟩ nilS).heap[k]? = w.heap[k]? := fun k hk => Below.heap_setCell _ _ _ _ hk
  have hsz : (w.setCell ⟨R, 5, none⟩ nilS).heap.size = w.heap.size := by simp [World.setCell]
  have hb := set_of (i := 5) h.blk nilS
  obtain ⟨cs, h1, h2⟩ := h.own.told
  refine ⟨⟨?_, ⟨h.inR, fun x => x.2.1 rfl⟩, fun k x => by rw [hsz]; exact h.lt k x.1, ?_⟩, cs, owns_of h1 fun k e => hk k (h.own.toldF k e).2, h2.free lo hk, fun k e => ?_⟩
  · rw [hb]; rfl
  · refine ⟨fun i => owns_of (h.own.run i) fun k e => hk k (h.own.runF i k e).2, fun i k e => ?_, h.own.apart, ⟨[], owns_nil _ _ _, .nil⟩, fun k e => absurd e (nil_block k), owns_of h.own.attrs fun k e => hk k (h.own.attrsF k e).2, fun k e => ?_, ?_⟩
    · obtain ⟨cur, hc⟩ := owns_blk (h.own.run i) e
      exact ⟨⟨(h.own.runF i k e).1, not_told hc (by decide) (fun e => absurd e (by decide))⟩, (h.own.runF i k e).2⟩
    · obtain ⟨cur, hc⟩ := owns_blk h.own.attrs e
      exact ⟨⟨(h.own.attrsF k e).1, not_told hc (by decide) (fun _ => e)⟩, (h.own.attrsF k e).2⟩
    · rcases h.own.names with hn | ⟨b, x1, x2, x3, x4⟩
      · exact Or.inl hn
      · refine Or.inr ⟨b, x1, ⟨x2, ?_⟩, x3, map_of x4 (hk b x3)⟩
        obtain ⟨es, cl, hm, _⟩ := x4
        rintro ⟨_, _, ⟨c, hc⟩ | ⟨⟨c, hc⟩, _⟩⟩
        · rw [hm] at hc; cases hc
        · rw [hm] at hc; cases hc
  · obtain ⟨cur, hc⟩ := owns_blk h1 e
    exact ⟨(h.own.toldF k e).1, (h.own.toldF k e).2, Or.inl ⟨cur, hc⟩⟩

theorem PartAt.release (h : PartAt G R w v pt) {av : Value} (hk : ∀ k, k ≠ R → w'.heap[k]? = w.heap[k]?) : PartAt (Rest G R w av) R w' v pt := by
  have bx : ∀ {b x t}, Box G R w b x t → t ≠ 33 → t ≠ 48 → Box (Rest G R w av) R w' b x t := fun h h1 h2 => ⟨(hk _ h.2.2).trans h.1, ⟨h.2.1, not_told h.1 h1 (fun e => absurd e h2)⟩, h.2.2⟩
  cases pt with
  | plain k => exact h
  | word l k => obtain ⟨b1, b2, e, x1, x2⟩ := h; exact ⟨b1, b2, e, bx x1 (by decide) (by decide), bx x2 (by decide) (by decide)⟩
  | name i k => obtain ⟨b1, b2, b3, e, x1, x2, x3⟩ := h; exact ⟨b1, b2, b3, e, bx x1 (by decide) (by decide), bx x2 (by decide) (by decide), bx x3 (by decide) (by decide)⟩
  | ref i k => obtain ⟨b1, b2, b3, e, x1, x2, x3⟩ := h; exact ⟨b1, b2, b3, e, bx x1 (by decide) (by decide), bx x2 (by decide) (by decide), bx x3 (by decide) (by decide)⟩

def Src.zero (no fat : Int) (closed : Bool) : Src := ⟨⟨#[]⟩, 0, 0, false, .nilFunc, no, fat, closed⟩
def Ptr.zero : Ptr := ⟨nilS, fun _ => nilS, nilS, .map none⟩
def St.zero : St := ⟨fun _ => [], fun _ => 0, 0, [], [], 0, []⟩
theorem Own.zero (F : Nat → Prop) (R : Nat) (w : World) : Own F R w Ptr.zero St.zero :=
  ⟨fun _ => owns_nil w 5 1, fun _ k e => absurd e (nil_block k), fun _ _ k _ e => absurd e (nil_block k), ⟨[], owns_nil w 33 5, .nil⟩, fun k e => absurd e (nil_block k), owns_nil w 48 2, fun k e => absurd e (nil_block k), Or.inl ⟨rfl, rfl⟩⟩

/-- A reader between two calls. -/
structure PR where
  s : Src
  pt : Option Part
  st : St

def Alive (F : Nat → Prop) (R : Nat) (w : World) (r : PR) : Prop :=
  ∃ v p, Rep F R w { r.s with now := v } p r.st ∧ match r.pt with | some pt => PartAt F R w v pt | none => v = .nilFunc

def tells (m : Rd) : PR × List Tok :=
  match m.ret with
  | .more => (⟨m.s, some m.pt, { m.st with told := [] }⟩, m.st.told)
  | .over => (⟨m.s, none, { m.st with told := [] }⟩, m.st.told)
  | .fail no q => (⟨Src.zero no q m.s.closed, none, St.zero⟩, m.st.told)

def AnsEnd (F : Nat → Prop) (R : Nat) (w : World) (x : PR × List Tok) (e : Ending) (w' : World) : Prop :=
  ∃ (v : Value) (A F' : Nat → Prop), e = .returned v ∧ Ans A w' v x.2 ∧ Alive F' R w' x.1 ∧ Frame F w w' ∧ (∀ k, A k → Grow F w w' k ∧ ¬ F' k) ∧ (∀ k, F' k → Grow F w w' k)

theorem Ans.frame {A : Nat → Prop} {l : List Tok} (h : Ans A w v l) (hk : ∀ k, A k → w'.heap[k]? = w.heap[k]?) : Ans A w' v l := by
  obtain ⟨cs, h1, h2, h3⟩ := h
  exact ⟨cs, owns_of h1 fun k e => hk k (h3 k e), h2.frame fun k n xs v ho hv a b c => ⟨hk k a, a, c⟩, h3⟩

theorem ans_end {w1 w4 : World} {s1 : Src} {p1 p' : Ptr} {st1 : St} {x : PR} {v' : Value} (rg1 : RG F R w s1 p1 st1 w1) (lo : Low (Grow F w w1))
    (r4 : RG (Rest (Grow F w w1) R w1 p1.attrs) R (w1.setCell ⟨R, 5, none⟩ nilS) { x.s with now := v' } p' x.st w4)
    (hx : match x.pt with | some pt => PartAt (Grow (Rest (Grow F w w1) R w1 p1.attrs) (w1.setCell ⟨R, 5, none⟩ nilS) w4) R w4 v' pt | none => v' = .nilFunc) :
    AnsEnd F R w (x, st1.told) (.returned p1.told) w4 := by
  have hk : ∀ k, k ≠ R → (w1.setCell ⟨R, 5, none⟩ nilS).heap[k]? = w1.heap[k]? := fun k hk => Below.heap_setCell _ _ _ _ hk
  have hsz : (w1.setCell ⟨R, 5, none⟩ nilS).heap.size = w1.heap.size := by simp [World.setCell]
  have hz := rg1.2.size
  have hz4 := r4.2.size
  obtain ⟨rr, an⟩ := rg1.1.release lo
  refine ⟨p1.told, Told (Grow F w w1) R w1 p1.attrs, Grow (Rest (Grow F w w1) R w1 p1.attrs) (w1.setCell ⟨R, 5, none⟩ nilS) w4, rfl, ?_, ⟨v', p', r4.1, hx⟩, ?_, ?_, ?_⟩
  · refine an.frame fun k hA => r4.2.block k (by rw [hsz]; exact rg1.1.lt k hA.1) (fun x => x.2 hA)
  · refine ⟨r4.2.os.trans rg1.2.os, r4.2.tape.trans rg1.2.tape, r4.2.output.trans rg1.2.output, by omega, fun k hl hf => ?_⟩
    have hkR : k ≠ R := fun e => by
      subst e
      rcases rg1.1.inR with x | x
      · exact hf x
      · omega
    rw [r4.2.block k (by omega) (fun x => x.1.elim hf (fun y => by omega)), hk k hkR]
    exact rg1.2.block k hl hf
  · intro k hA
    refine ⟨hA.1.elim Or.inl (fun y => Or.inr ⟨y.1, by omega⟩), ?_⟩
    rintro (y | y)
    · exact y.2 hA
    · have := rg1.1.lt k hA.1; omega
  · rintro k (y | y)
    · exact y.1.elim Or.inl (fun z => Or.inr ⟨z.1, by omega⟩)
    · exact Or.inr ⟨by omega, y.2⟩

set_option maxHeartbeats 1000000 in
theorem keepRest_ok (h : Rep F R w s p st) (hz : s.rest.size ≤ 1099511627776) : Calls Tryz.prog 29 #[.pointer (some ⟨R, 0, none⟩)] w fun e w' => e = .returned (.tuple #[]) ∧ RF F R w s p st w' := by
  have c0 : w.cell? ⟨R, 0, none⟩ = some (.string s.rest) := h.cell 0 rfl
  have hc := clone_any s.rest w (by omega)
  have H := hide (RF.refl h)
  clear h
  go_enter Tryz.func29, Tryz.ntmps29
  go_wp2_with (go_at_call 54; refine hc.mono ?_; rintro e w1 ⟨rfl, b1⟩; have R1 := hide (H.out.below b1); have d0 : w1.cell? ⟨R, 0, none⟩ = some (.string s.rest) := R1.out.1.cell 0 rfl; have g0 := R1.out.1.free 0)
  go_end0
  exact ⟨rfl, R1.out.set 0 _ rfl⟩
end Go.Proofs.YtbbocgeapofloaiGreatDoor
namespace Go.Proofs.YtbbocgeapofloaiGreatDoor
open Go.RowKit Go.Maps Go.Lib

variable {F F' G : Nat → Prop} {R : Nat} {w w' w'' wr : World} {s s' : Src} {p : Ptr} {st : St} {c : Int} {a : Addr} {pt : Part} {v : Value} {m : Rd} {N n : Nat}

/-- Behind 'told' and the new variable. -/
theorem mid {w1 : World} {s1 : Src} {p1 : Ptr} {st1 : St} (rg1 : RG F R w s1 p1 st1 w1) (gl : Gl w a) (lo : Low F) (o : Obj) :
    RF (Rest (Grow F w w1) R w1 p1.attrs) R (w1.setCell ⟨R, 5, none⟩ nilS) s1 { p1 with told := nilS } { st1 with told := [] } ((w1.setCell ⟨R, 5, none⟩ nilS).alloc o) ∧
    Gl ((w1.setCell ⟨R, 5, none⟩ nilS).alloc o) a ∧ Low (Grow F w w1) := by
  have lo1 : Low (Grow F w w1) := lo.grow gl.size
  have gl1 := gl.frame rg1.2 lo
  have hb : Below (w1.setCell ⟨R, 5, none⟩ nilS).heap.size (w1.setCell ⟨R, 5, none⟩ nilS) ((w1.setCell ⟨R, 5, none⟩ nilS).alloc o) := (Below.refl _ _).alloc (Nat.le_refl _) _
  have r3 := (RF.refl (rg1.1.release lo1).1).below hb
  refine ⟨r3, ?_, lo1⟩
  have f1 : Frame (Grow F w w1) w1 (w1.setCell ⟨R, 5, none⟩ nilS) := ⟨rfl, rfl, rfl, by simp [World.setCell], fun k hk hf => Below.heap_setCell _ _ _ _ (fun e => hf (e ▸ rg1.1.inR))⟩
  have gl2 := gl1.frame f1 lo1
  have lo2 : Low (Rest (Grow F w w1) R w1 p1.attrs) := fun k hk x => lo1 k hk x.1
  exact gl2.frame r3.2.1 lo2

set_option maxHeartbeats 4000000 in
set_option maxRecDepth 10000 in
theorem advance_more (hrd : Calls Tryz.prog 27 #[.pointer (some ⟨R, 0, none⟩)] w (ReadEnd F R w a m)) (gl : Gl w a) (lo : Low F) (hret : m.ret = .more) (hz : m.s.rest.size ≤ 1099511627776) :
    Calls Tryz.prog 17 #[.pointer (some ⟨R, 0, none⟩)] w (AnsEnd F R w (tells m)) := by
  have ht : tells m = (⟨m.s, some m.pt, { m.st with told := [] }⟩, m.st.told) := by unfold tells; rw [hret]
  rw [ht]
  have hrd2 : Calls Tryz.prog 27 #[.pointer (some ⟨R, 0, none⟩)] w fun e w1 => e = .returned (.iface 162 (.pointer (some a))) ∧ ∃ v p', RG F R w { m.s with now := v } p' m.st w1 ∧ PartAt (Grow F w w1) R w1 v m.pt := by
    refine hrd.mono ?_
    rintro e w1 ⟨v, p', rg, hx⟩
    rw [hret] at hx
    exact ⟨hx.1, v, p', rg, hx.2⟩
  have GL := hide gl
  have LO := hide lo
  clear hrd ht hret gl lo
  have his := is_same a
  go_enter Tryz.func17, Tryz.ntmps17
  go_wp2_with (first | (go_at_call 27; refine hrd2.mono ?_; rintro e w1 ⟨rfl, v1, p1, rg1, pa1⟩; obtain ⟨r3, g3, l1⟩ := mid rg1 GL.out LO.out (.cells #[.int .i64 0, .int .i64 0] 60); have m0 : ((w1.setCell ⟨R, 5, none⟩ (.slice none 0 0)).alloc (.cells #[.int .i64 0, .int .i64 0] 60)).cell? ⟨0, 0, none⟩ = some (.iface 162 (.pointer (some a))) := g3.more; have hke := keepRest_ok r3.1 hz; have R3 := hide r3; have L1 := hide l1; have RG1 := hide rg1; have PA1 := hide pa1; have c5 : w1.cell? ⟨R, 5, none⟩ = some p1.told := rg1.1.cell 5 rfl; have f5 := rg1.1.free 5; clear rg1 pa1 r3 g3 l1) | (go_at_call 28; refine (his _).mono ?_; rintro e wx ⟨rfl, rfl⟩) | (go_at_call 29; refine hke.mono ?_; rintro e w4 ⟨rfl, r4⟩))
  go_ret
  have hsz : (w1.setCell ⟨R, 5, none⟩ nilS).heap.size = w1.heap.size := by simp [World.setCell]
  refine ans_end (x := ⟨m.s, some m.pt, { m.st with told := [] }⟩) RG1.out L1.out (R3.out.rg.on r4.rg) ?_
  refine (PA1.out.release (w' := w1.setCell ⟨R, 5, none⟩ nilS) (fun k hk => Below.heap_setCell _ _ _ _ hk)).keep (fun k hk hR => ?_) (fun _ x => Or.inl x)
  have hl : k < (w1.setCell ⟨R, 5, none⟩ nilS).heap.size := by rw [hsz]; exact RG1.out.1.lt k hk.1
  exact (r4.2.2 k (Nat.lt_of_lt_of_le hl R3.out.2.1.size) hR).trans (R3.out.2.2 k hl hR)

set_option maxHeartbeats 4000000 in
set_option maxRecDepth 10000 in
theorem advance_over (hrd : Calls Tryz.prog 27 #[.pointer (some ⟨R, 0, none⟩)] w (ReadEnd F R w a m)) (gl : Gl w a) (lo : Low F) (hret : m.ret = .over) :
    Calls Tryz.prog 17 #[.pointer (some ⟨R, 0, none⟩)] w (AnsEnd F R w (tells m)) := by
  have ht : tells m = (⟨m.s, none, { m.st with told := [] }⟩, m.st.told) := by unfold tells; rw [hret]
  rw [ht]
  have hrd2 : Calls Tryz.prog 27 #[.pointer (some ⟨R, 0, none⟩)] w fun e w1 => e = .returned .nilIface ∧ ∃ p', RG F R w { m.s with now := .nilFunc } p' m.st w1 := by
    refine hrd.mono ?_
    rintro e w1 ⟨v, p', rg, hx⟩
    rw [hret] at hx
    obtain ⟨rfl, rfl⟩ := hx
    exact ⟨rfl, p', rg⟩
  have GL := hide gl
  have LO := hide lo
  clear hrd ht hret gl lo
  have his := is_nil a
  have has := as_nil
  go_enter Tryz.func17, Tryz.ntmps17
  go_wp2_with (first | (go_at_call 27; refine hrd2.mono ?_; rintro e w1 ⟨rfl, p1, rg1⟩; obtain ⟨r3, g3, l1⟩ := mid rg1 GL.out LO.out (.cells #[.int .i64 0, .int .i64 0] 60); have m0 : ((w1.setCell ⟨R, 5, none⟩ (.slice none 0 0)).alloc (.cells #[.int .i64 0, .int .i64 0] 60)).cell? ⟨0, 0, none⟩ = some (.iface 162 (.pointer (some a))) := g3.more; have R3 := hide r3; have L1 := hide l1; have RG1 := hide rg1; have c5 : w1.cell? ⟨R, 5, none⟩ = some p1.told := rg1.1.cell 5 rfl; have f5 := rg1.1.free 5; clear rg1 r3 g3 l1) | (go_at_call 28; refine (his _).mono ?_; rintro e wx ⟨rfl, rfl⟩) | (go_at_call 30; refine (has _ _).mono ?_; rintro e wx ⟨rfl, rfl⟩))
  go_ret
  exact ans_end (x := ⟨m.s, none, { m.st with told := [] }⟩) RG1.out L1.out R3.out.rg rfl

def setAll (cur : Array Value) : Nat → List Value → Array Value
  | _, [] => cur
  | o, v :: r => setAll (cur.setIfInBounds o v) (o + 1) r
theorem setCells_row {t : TypeId} : ∀ (vs : List Value) (o : Nat) (cur : Array Value) (w : World), w.heap[R]? = some (.cells cur t (0, 0)) → (w.setCells R o vs).heap[R]? = some (.cells (setAll cur o vs) t (0, 0))
  | [], _, _, _, h => h
  | v :: r, o, _, _, h => setCells_row r (o + 1) _ _ (set_of h v)
theorem setCells_other : ∀ (vs : List Value) (o : Nat) (w : World), (∀ k, k ≠ R → (w.setCells R o vs).heap[k]? = w.heap[k]?) ∧ (w.setCells R o vs).heap.size = w.heap.size ∧ (w.setCells R o vs).os = w.os ∧ (w.setCells R o vs).tape = w.tape ∧ (w.setCells R o vs).output = w.output
  | [], _, _ => ⟨fun _ _ => rfl, rfl, rfl, rfl, rfl⟩
  | v :: r, o, w => by
    obtain ⟨h1, h2, h3, h4, h5⟩ := setCells_other r (o + 1) (w.setCell ⟨R, o, none⟩ v)
    refine ⟨fun k hk => (h1 k hk).trans (Below.heap_setCell _ _ _ _ hk), h2.trans (by simp [World.setCell]), h3, h4, h5⟩

/-- The cells of a document that is empty. -/
def docZero : Array Value := #[.string ⟨#[]⟩, .int .i64 0, .int .i64 0, .bool false, .nilFunc, nilS, nilS, .int .i64 0, .int .i64 0, nilS, .int .i64 0, nilS, .map none, nilS, .int .i64 0, nilS, .int .i64 0, .int .i32 0, nilS, .int .i64 0]

theorem docOne : docZero.all (·.oneCell') = true := by kernel_rfl
theorem docSize : (Tryz.prog.info? 58).map (·.size) = some docZero.size := by kernel_rfl
theorem zero_cells (s : Src) (p : Ptr) (st : St) : setAll (cellsOf s p st) 0 docZero.toList = cellsOf (Src.zero s.no s.fat s.closed) Ptr.zero St.zero := by kernel_rfl
theorem doc_there {t : TypeId} {cur : Array Value} (h : w.heap[R]? = some (.cells cur t (0, 0))) (hs : 20 ≤ cur.size) : w.there R 0 docZero.size := by
  intro j hj
  have hj' : j < 20 := hj
  rw [Nat.zero_add]
  exact ⟨by rw [cell_of h (Array.getElem?_eq_getElem (by omega))]; rfl, free_of h⟩

/-- The reader's document is let go. -/
theorem RG.zero (h : RG F R w s p st w') : RG F R w (Src.zero s.no s.fat s.closed) Ptr.zero St.zero (w'.setCells R 0 docZero.toList) := by
  obtain ⟨h1, h2, h3, h4, h5⟩ := setCells_other (R := R) docZero.toList 0 w'
  have hb := setCells_row (R := R) docZero.toList 0 _ w' h.1.blk
  rw [zero_cells] at hb
  generalize w'.setCells R 0 docZero.toList = W at *
  refine ⟨⟨hb, ?_, fun k hk => ?_, Own.zero _ _ _⟩, ⟨h3.trans h.2.os, h4.trans h.2.tape, h5.trans h.2.output, by rw [h2]; exact h.2.size, fun k hk hf => ?_⟩⟩
  · have := h.1.inR
    unfold Grow at this ⊢
    rw [h2]; exact this
  · unfold Grow at hk
    rw [h2] at hk ⊢
    exact h.1.lt k hk
  · refine (h1 k ?_).trans (h.2.block k hk hf)
    intro e
    subst e
    rcases h.1.inR with x | x
    · exact hf x
    · omega

/-- errors.As at a new variable. -/
theorem as_new (w2 : World) (no q : Int) (hg : (w2.alloc (.cells #[.int .i64 0, .int .i64 0] 60)).cell? ⟨1, 0, none⟩ = some (.iface 132 (.agg #[.pointer (some ⟨5, 71, none⟩)]))) :
    Calls Tryz.prog 30 #[.iface 60 (.agg #[.int .i64 no, .int .i64 q]), .iface 80 (.pointer (some ⟨w2.heap.size, 0, none⟩))] (w2.alloc (.cells #[.int .i64 0, .int .i64 0] 60)) fun ev w5 => ev = .returned (.bool true) ∧ Below w2.heap.size w2 w5 ∧ w5.cell? ⟨w2.heap.size, 0, none⟩ = some (.int .i64 no) ∧ w5.cell? ⟨w2.heap.size, 1, none⟩ = some (.int .i64 q) := by
  have hh : (w2.alloc (.cells #[.int .i64 0, .int .i64 0] 60)).heap[w2.heap.size]? = some (.cells #[.int .i64 0, .int .i64 0] 60 (0, 0)) := Below_new _ _
  refine (as_hit w2.heap.size no q (.int .i64 0) (.int .i64 0) _ hg (cell_of hh rfl) (cell_of hh rfl) (free_of hh) (free_of hh)).mono ?_
  rintro ev w5 ⟨rfl, rfl⟩
  have hb : Below w2.heap.size w2 ((((((w2.alloc (.cells #[.int .i64 0, .int .i64 0] 60)).alloc (.cells #[.pointer (some ⟨w2.heap.size, 0, none⟩)] 80)).alloc (.cells (V87 (w2.alloc (.cells #[.int .i64 0, .int .i64 0] 60)).heap.size) 106)).alloc (.cells (V87 (w2.alloc (.cells #[.int .i64 0, .int .i64 0] 60)).heap.size) 106)).alloc (.cells #[.int .i64 no, .int .i64 q] 60))) :=
    (((((Below.refl _ _).alloc (Nat.le_refl _) _).alloc (by simp) _).alloc (by simp; omega) _).alloc (by simp; omega) _).alloc (by simp; omega) _
  have hx : (((((w2.alloc (.cells #[.int .i64 0, .int .i64 0] 60)).alloc (.cells #[.pointer (some ⟨w2.heap.size, 0, none⟩)] 80)).alloc (.cells (V87 (w2.alloc (.cells #[.int .i64 0, .int .i64 0] 60)).heap.size) 106)).alloc (.cells (V87 (w2.alloc (.cells #[.int .i64 0, .int .i64 0] 60)).heap.size) 106)).alloc (.cells #[.int .i64 no, .int .i64 q] 60)).heap[w2.heap.size]? = some (.cells #[.int .i64 0, .int .i64 0] 60 (0, 0)) := by
    rw [Below.heap_alloc _ _ _ (by simp; omega), Below.heap_alloc _ _ _ (by simp; omega), Below.heap_alloc _ _ _ (by simp; omega), Below.heap_alloc _ _ _ (by simp)]
    exact hh
  generalize (((((w2.alloc (.cells #[.int .i64 0, .int .i64 0] 60)).alloc (.cells #[.pointer (some ⟨w2.heap.size, 0, none⟩)] 80)).alloc (.cells (V87 (w2.alloc (.cells #[.int .i64 0, .int .i64 0] 60)).heap.size) 106)).alloc (.cells (V87 (w2.alloc (.cells #[.int .i64 0, .int .i64 0] 60)).heap.size) 106)).alloc (.cells #[.int .i64 no, .int .i64 q] 60)) = W at *
  have h1 := set_of (i := 0) hx (.int .i64 no)
  have h2 := set_of (i := 1) h1 (.int .i64 q)
  refine ⟨rfl, ⟨hb.os, hb.tape, hb.output, ?_, fun k hk => ?_⟩, cell_of h2 rfl, cell_of h2 rfl⟩
  · have := hb.size; simp [World.setCell]; exact this
  · rw [Below.heap_setCell _ _ _ _ (Nat.ne_of_lt hk), Below.heap_setCell _ _ _ _ (Nat.ne_of_lt hk)]
    exact hb.block k hk

set_option maxHeartbeats 4000000 in
set_option maxRecDepth 10000 in
theorem advance_fail {no q : Int} (hrd : Calls Tryz.prog 27 #[.pointer (some ⟨R, 0, none⟩)] w (ReadEnd F R w a m)) (gl : Gl w a) (lo : Low F) (hret : m.ret = .fail no q) :
    Calls Tryz.prog 17 #[.pointer (some ⟨R, 0, none⟩)] w (AnsEnd F R w (tells m)) := by
  have ht : tells m = (⟨Src.zero no q m.s.closed, none, St.zero⟩, m.st.told) := by unfold tells; rw [hret]
  rw [ht]
  have hrd2 : Calls Tryz.prog 27 #[.pointer (some ⟨R, 0, none⟩)] w fun e w1 => e = .returned (.iface 60 (.agg #[.int .i64 no, .int .i64 q])) ∧ ∃ p', RG F R w { m.s with now := .nilFunc } p' m.st w1 := by
    refine hrd.mono ?_
    rintro e w1 ⟨v, p', rg, hx⟩
    rw [hret] at hx
    obtain ⟨rfl, rfl⟩ := hx
    exact ⟨rfl, p', rg⟩
  have GL := hide gl
  have LO := hide lo
  clear hrd ht hret gl lo
  have his := is_wrong no q a
  go_enter Tryz.func17, Tryz.ntmps17
  go_wp2_with (first | (go_at_call 27; refine hrd2.mono ?_; rintro e w1 ⟨rfl, p1, rg1⟩; obtain ⟨r3, g3, l1⟩ := mid rg1 GL.out LO.out (.cells #[.int .i64 0, .int .i64 0] 60); have m0 : ((w1.setCell ⟨R, 5, none⟩ (.slice none 0 0)).alloc (.cells #[.int .i64 0, .int .i64 0] 60)).cell? ⟨0, 0, none⟩ = some (.iface 162 (.pointer (some a))) := g3.more; have has := as_new (w1.setCell ⟨R, 5, none⟩ (.slice none 0 0)) no q g3.et; have RR := hide (RF.refl (rg1.1.release l1).1); have L1 := hide l1; have RG1 := hide rg1; have c5 : w1.cell? ⟨R, 5, none⟩ = some p1.told := rg1.1.cell 5 rfl; have f5 := rg1.1.free 5; clear rg1 r3 g3 l1) | (go_at_call 28; refine (his _).mono ?_; rintro e wx ⟨rfl, rfl⟩))
  have hsz : (w1.setCell ⟨R, 5, none⟩ (.slice none 0 0)).heap.size = w1.heap.size := by simp [World.setCell]
  rw [hsz] at has
  refine has.mono ?_
  rintro e w5 ⟨rfl, b5, t0, t1⟩
  have R5 := hide (RR.out.below (by rw [hsz]; exact b5))
  have c20 : w5.cell? ⟨R, 20, none⟩ = some (.int .i64 m.s.no) := R5.out.1.cell 20 rfl
  have c21 : w5.cell? ⟨R, 21, none⟩ = some (.int .i64 m.s.fat) := R5.out.1.cell 21 rfl
  have f20 := R5.out.1.free 20
  have f21 := R5.out.1.free 21
  have R6 := hide ((R5.out.rg.set (s' := { m.s with now := .nilFunc, no := no }) 20 (.int .i64 no) rfl).set (s' := { m.s with now := .nilFunc, no := no, fat := q }) 21 (.int .i64 q) rfl)
  have hth : ((w5.setCell ⟨R, 20, none⟩ (.int .i64 no)).setCell ⟨R, 21, none⟩ (.int .i64 q)).there R 0 docZero.size := doc_there R6.out.1.blk (by show 20 ≤ 23; omega)
  clear has c5 f5 m0 b5
  go_wp2_with (refine wpList_store_mid rfl 58 (.tmp 39) (.tmp 37) rfl R 0 docZero rfl rfl hth docSize docOne ?_)
  go_ret
  exact ans_end (x := ⟨Src.zero no q m.s.closed, none, St.zero⟩) (v' := .nilFunc) RG1.out L1.out R6.out.zero rfl
end Go.Proofs.YtbbocgeapofloaiGreatDoor
