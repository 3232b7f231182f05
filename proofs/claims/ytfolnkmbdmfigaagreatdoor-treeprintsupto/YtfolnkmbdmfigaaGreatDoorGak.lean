import Derived.Shelf.Strconv.Clone
import Derived.Test.YtfolnkmbdmfigaaGreatDoorProg
import Derived.WalkKit
import Derived.Outline
import Derived.WalkSpells
import Derived.LaidEql
import Derived.Stop.Asserts
import Derived.RowKitTokens
import Derived.Deep.MidRow
import Derived.Test.YtfolnkmbdmfigaaGreatDoorGai
set_option linter.unusedVariables false
set_option linter.unusedSimpArgs false
namespace Go.Proofs.YtfolnkmbdmfigaaGreatDoor
open Go.RowKit Go.Maps Go.Lib
variable {F F' : Nat → Prop} {R : Nat} {w w' w'' wr : World} {s s' : Src} {p : Ptr} {st : St} {c : Int} {a : Addr} {pt : Part} {v : Value} {m : Rd} {N n : Nat}
structure Head (F : Nat → Prop) (R : Nat) (w : World) (m : Rd) (N : Nat) (wr : World) (s' : Src) (p' : Ptr) (st' : St) (pt : Part) (n : Nat) : Prop where
  rg : RG F R w s' p' st' wr
  part : PartAt (Grow F w wr) R wr s'.now pt
  lim : Lim n pt st'
  le : n + s'.rest.size ≤ N
  ok : s'.Ok
  eq : reads s'.bare pt st' = m
theorem Head.more (h : Head F R w m N wr s' p st pt n) (hm : s'.more = true) (hb : Below wr.heap.size wr w') : ReadEnd F R w a m (.returned (.iface 213 (.pointer (some a)))) w' := by
  have e := (reads_more hm).symm.trans h.eq
  subst e
  refine ⟨s'.now, p, h.rg.below hb, rfl, ?_⟩
  exact h.part.keep (fun k hk _ => hb.block k (h.rg.1.lt k hk)) (fun k hk => hk.elim Or.inl (fun x => Or.inr ⟨x.1, Nat.lt_of_lt_of_le x.2 hb.size⟩))
theorem Head.call (h : Head F R w m N wr s' p st pt n) (gl : Gl w a) (lo : Low F) (hN : N ≤ 274877906944) (hr : RF (Grow F w wr) R wr s'.took.1 p st w') :
    ∃ f cs, s'.now = .func (.func f) #[] cs ∧ (∀ args w, (callFunc f args).run Tryz.prog w = .ok (.enter f args) w) ∧
      Calls Tryz.prog f (#[.pointer (some ⟨R, 0, none⟩), .int .i32 s'.took.2] ++ cs) w' (PartEnd (Grow (Grow F w wr) wr w') R w' s'.took.1 (stepPart pt s'.next st s'.took.2)) := by
  have hl := h.rg.1.lt
  have pa : PartAt (Grow (Grow F w wr) wr w') R w' s'.took.1.now pt := by
    rw [took_now]
    exact h.part.grow hr.2.1.size (fun k hk hR => hr.2.2 k (hl k hk) hR)
  have gl1 := gl.frame h.rg.2 lo
  have lo1 : Low (Grow F w wr) := lo.grow gl.size
  have gl2 := gl1.frame hr.2.1 lo1
  have lo2 : Low (Grow (Grow F w wr) wr w') := lo1.grow gl1.size
  have ht := h.lim.tiny (by have := h.le; omega)
  have hok := h.ok
  have hc := part_call pt _ hr.1 pa h.lim.sound (took_leg s') ht (h.lim.both (by have := h.le; omega)) (by unfold Src.Fits; rw [took_at]; unfold Src.Ok at hok; omega) gl2.tab (lo2 2 (by omega))
  rw [took_now, took_at] at hc
  exact hc
theorem Head.go {p2 : Ptr} {w2 : World} {pt' : Part} (h : Head F R w m N wr s' p st pt n) (hm : s'.more = false) (hr : RF (Grow F w wr) R wr s'.took.1 p st w')
    (he : (stepPart pt s'.next st s'.took.2).res = .go pt') (hp : RG (Grow (Grow F w wr) wr w') R w' s'.took.1 p2 (stepPart pt s'.next st s'.took.2).st w2) (hv : PartAt (Grow (Grow (Grow F w wr) wr w') w' w2) R w2 v pt') :
    Head F R w m N (w2.setCell ⟨R, 4, none⟩ v) { s'.took.1 with now := v } p2 (stepPart pt s'.next st s'.took.2).st pt' (n + 1) ∧ s'.took.1.rest.size < s'.rest.size := by
  have hk := took_less h.lim.sound h.lim.quote he
  have ho := took_ok h.ok
  have r2 : RG F R w s'.took.1 p2 (stepPart pt s'.next st s'.took.2).st w2 := (h.rg.on hr.rg).on (hp.iff (fun k => Grow.trans h.rg.2.size hr.2.1.size k))
  refine ⟨⟨r2.set (s' := { s'.took.1 with now := v }) 4 v rfl, ?_, h.lim.step he, ?_, ho.1, ?_⟩, hk.1⟩
  · refine hv.keep (fun k _ hR => Below.heap_setCell _ _ _ _ hR) (fun k hk => ?_)
    have hsz : (w2.setCell ⟨R, 4, none⟩ v).heap.size = w2.heap.size := by simp [World.setCell]
    unfold Grow at hk ⊢
    rw [hsz]
    have := h.rg.2.size; have := hr.2.1.size; have := hp.2.size
    rcases hk with ((hk | hk) | hk) | hk
    · exact Or.inl hk
    · exact Or.inr (by omega)
    · exact Or.inr (by omega)
    · exact Or.inr (by omega)
  · have := h.le; show n + 1 + s'.took.1.rest.size ≤ N; omega
  · rw [← h.eq, reads_step h.lim hm, he]; rfl
theorem Head.stop {p2 : Ptr} {w2 : World} (h : Head F R w m N wr s' p st pt n) (hm : s'.more = false) (hr : RF (Grow F w wr) R wr s'.took.1 p st w')
    (he : (stepPart pt s'.next st s'.took.2).res = .stop) (hp : RG (Grow (Grow F w wr) wr w') R w' s'.took.1 p2 (stepPart pt s'.next st s'.took.2).st w2) :
    RI F R w m N (w2.setCell ⟨R, 4, none⟩ .nilFunc) ∧ restLen R (w2.setCell ⟨R, 4, none⟩ .nilFunc) < 2 * s'.rest.size + 1 := by
  have r2 : RG F R w s'.took.1 p2 (stepPart pt s'.next st s'.took.2).st w2 := (h.rg.on hr.rg).on (hp.iff (fun k => Grow.trans h.rg.2.size hr.2.1.size k))
  have r3 := r2.set (s' := { s'.took.1 with now := .nilFunc }) 4 .nilFunc rfl
  have ho := took_ok h.ok
  have e := h.eq
  rw [reads_step h.lim hm, he] at e
  subst e
  refine ⟨⟨_, _, _, r3, Or.inr ⟨rfl, rfl, rfl, rfl⟩⟩, ?_⟩
  rw [restLen_nil r3.1 rfl]
  show 2 * s'.took.1.rest.size < _
  omega
theorem Head.fail {p2 : Ptr} {w2 : World} {no q : Int} (h : Head F R w m N wr s' p st pt n) (hm : s'.more = false) (hr : RF (Grow F w wr) R wr s'.took.1 p st w')
    (he : (stepPart pt s'.next st s'.took.2).res = .fail no q) (hp : RG (Grow (Grow F w wr) wr w') R w' s'.took.1 p2 (stepPart pt s'.next st s'.took.2).st w2) :
    ReadEnd F R w a m (.returned (wrongV no q)) (w2.setCell ⟨R, 4, none⟩ .nilFunc) := by
  have r2 : RG F R w s'.took.1 p2 (stepPart pt s'.next st s'.took.2).st w2 := (h.rg.on hr.rg).on (hp.iff (fun k => Grow.trans h.rg.2.size hr.2.1.size k))
  have r3 := r2.set (s' := { s'.took.1 with now := .nilFunc }) 4 .nilFunc rfl
  have e := h.eq
  rw [reads_step h.lim hm, he] at e
  subst e
  exact ⟨.nilFunc, p2, r3, rfl, rfl⟩
theorem RI.over (hg : RG F R w s' p st wr) (h1 : s'.now = .nilFunc) (h2 : m.s = s'.bare) (h3 : m.st = st) (h4 : m.ret = .over) : ReadEnd F R w a m (.returned .nilIface) wr := by
  obtain ⟨r0, n0, a0, e0, nw, no0, f0, cl0⟩ := s'
  simp only at h1
  subst h1
  obtain ⟨ms, mp, mst, mr⟩ := m
  cases h2; cases h3; cases h4
  exact ⟨.nilFunc, p, hg, rfl, rfl⟩
theorem neq_fn (f : Nat) (cs : Array Value) (w : World) : (binOp .neq 86 (.func (.func f) #[] cs) .nilFunc).run Tryz.prog w = .ok (.bool true) w := by kernel_rfl
theorem neq_nil (w : World) : (binOp .neq 86 .nilFunc .nilFunc).run Tryz.prog w = .ok (.bool false) w := by kernel_rfl
set_option maxHeartbeats 4000000 in
set_option maxRecDepth 10000 in
theorem read_ok (h : Rep F R w s p st) (hpt : PartAt F R w s.now pt) (hl : Lim n pt st) (gl : Gl w a) (lo : Low F) (hn : n + s.rest.size ≤ N) (hN : N ≤ 274877906944) (hok : s.Ok) :
    Calls Tryz.prog 58 #[.pointer (some ⟨R, 0, none⟩)] w (ReadEnd F R w a (reads s.bare pt st)) := by
  have h0 : RI F R w (reads s.bare pt st) N w := ⟨s, p, st, RG.refl h, Or.inl ⟨pt, n, hpt.grow (Nat.le_refl _) (fun _ _ _ => rfl), hl, hn, hok, rfl⟩⟩
  generalize reads s.bare pt st = m at *
  have H0 := hide h0
  have GL := hide gl
  have LO := hide lo
  have hR4 := lo.lt h.inR
  clear h hpt hl gl lo hn hok h0
  have hnf := neq_fn
  have hnn := neq_nil
  go_enter Tryz.func58, Tryz.ntmps58
  go_wp2
  go_loopw [] (fun wr => RI F R w m N wr) (fun wr => restLen R wr)
  case atStart => exact H0.out
  case round =>
    obtain ⟨s', p', st', rg, hc⟩ := hrel
    rcases hc with ⟨pt', n', hp', hl', hle, hok', heq⟩ | ⟨hno, hs, hst, hov⟩
    · have hd : Head F R w m N wr s' p' st' pt' n' := ⟨rg, hp', hl', hle, hok', heq⟩
      obtain ⟨f, cs, hf⟩ := hp'.func
      have c4 : wr.cell? ⟨R, 4, none⟩ = some s'.now := rg.1.cell 4 rfl
      have hmu := restLen_go rg.1 hf
      rw [hf] at c4
      have gl1 := GL.out.frame rg.2 LO.out
      by_cases hm : s'.more = true
      · have htk := take_more rg.1 gl1.tabs a gl1.more hm
        have HD := hide hd
        clear hd rg hp' hl' heq hle hok' hf hmu gl1
        go_wp2_with (go_at_call 88; refine htk.mono ?_; rintro e w1 ⟨rfl, b1⟩)
        go_ret
        exact HD.out.more hm b1
      · have hm' : s'.more = false := by simpa using hm
        have htk := take_go rg.1 gl1.tabs hR4 (by unfold Src.Ok at hok'; omega) (by unfold Src.Ok at hok'; omega) hm'
        have hcl := fun w1 (x : RF (Grow F w wr) R wr s'.took.1 p' st' w1) => hd.call GL.out LO.out hN x
        have HD := hide hd
        have HMU := hide hmu
        have HF := hide hf
        have HCL := hide hcl
        have hnow := took_now s'
        rw [hf] at hnow
        clear hd rg hp' hl' heq hle hok' hf hmu gl1 hcl hm
        unfold tookEnd at htk
        obtain ⟨c, hc⟩ : ∃ c, c = s'.took.2 := ⟨_, rfl⟩
        have HC := hide hc
        rw [← hc] at htk HCL
        clear hc
        go_wp2_with (go_at_call 88; refine htk.mono ?_; rintro e w1 ⟨rfl, rf1⟩; have c4' : w1.cell? ⟨R, 4, none⟩ = some (.func (.func f) #[] cs) := by (rw [← hnow]; exact rf1.1.cell 4 rfl))
        obtain ⟨f', cs', hf', hen, hcall⟩ := HCL.out _ rf1
        rw [HF.out] at hf'
        simp only [Value.func.injEq, Fn.func.injEq, true_and] at hf'
        obtain ⟨rfl, rfl⟩ := hf'
        rw [hen]
        go_wp2_with fail
        refine hcall.mono ?_
        rintro e w2 ⟨p2, r2, fr2, hP⟩
        have rg2 : RG (Grow (Grow F w wr) wr w1) R w1 s'.took.1 p2 (stepPart pt' s'.next st' c).st w2 := ⟨r2, fr2⟩
        have d4 : w2.cell? ⟨R, 4, none⟩ = some (.func (.func f) #[] cs) := by rw [← hnow]; exact r2.cell 4 rfl
        have f4 := r2.free 4
        have RF1 := hide rf1
        have RG2 := hide rg2
        clear rf1 rg2 r2 fr2 HCL htk hcall c4' c4
        generalize hres : (stepPart pt' s'.next st' c).res = res at hP
        cases res with
        | go pt2 =>
          obtain ⟨v', rfl, hv'⟩ := hP
          obtain ⟨f2, cs2, rfl⟩ := hv'.func
          have hsto := store_of w2 ⟨R, 4, none⟩ _ (.func (.func f2) #[] cs2) rfl d4 f4
          have E := hide (HD.out.go hm' RF1.out (HC.out.symm ▸ hres) (HC.out.symm ▸ RG2.out) hv')
          clear hv'
          go_wp2
          go_roundw
          case rel =>
            obtain ⟨hd2, hlt⟩ := E.out
            exact ⟨_, _, _, hd2.rg, Or.inl ⟨pt2, n' + 1, hd2.part, hd2.lim, hd2.le, hd2.ok, hd2.eq⟩⟩
          case measure =>
            obtain ⟨hd2, hlt⟩ := E.out
            rw [restLen_go hd2.rg.1 rfl, HMU.out]
            show 2 * s'.took.1.rest.size + 1 < _
            omega
        | stop =>
          simp only at hP
          subst hP
          have hsto := store_of w2 ⟨R, 4, none⟩ _ .nilFunc rfl d4 f4
          have E := hide (HD.out.stop hm' RF1.out (HC.out.symm ▸ hres) (HC.out.symm ▸ RG2.out))
          go_wp2
          go_roundw
          case rel => exact E.out.1
          case measure =>
            rw [HMU.out]
            exact E.out.2
        | fail no q =>
          simp only at hP
          subst hP
          have hsto := store_of w2 ⟨R, 4, none⟩ _ .nilFunc rfl d4 f4
          have E := hide (HD.out.fail (a := a) hm' RF1.out (HC.out.symm ▸ hres) (HC.out.symm ▸ RG2.out))
          unfold wrongV at *
          go_wp2
          go_ret
          exact E.out
    · have c4 : wr.cell? ⟨R, 4, none⟩ = some s'.now := rg.1.cell 4 rfl
      rw [hno] at c4
      have E := hide (RI.over (a := a) rg hno hs hst hov)
      clear rg hs hst hov
      go_wp2
      go_ret
      exact E.out
end Go.Proofs.YtfolnkmbdmfigaaGreatDoor

namespace Go.Proofs
open Go.Shelf
def Tryz.lays316_ren : Go.Shelf.Ren := ⟨fun | 316 => 124 | n => n, fun | 0 => 0 | 3 => 3 | 4 => 4 | 5 => 5 | 9 => 9 | 37 => 87 | 127 => 137 | n => n, fun | n => n⟩
theorem Tryz.lays316 : Go.Proofs.LaysM.n316 Tryz.prog Tryz.lays316_ren := {
  mixed := by kernel_rfl
  f316 := Tryz.func124.trans (congrArg some (by kernel_rfl))
  t0 := Tryz.underlying0
  a0 := Tryz.isAgg0
  z0 := Tryz.sizeOf0
  v0 := Tryz.zeroValue0
  i0 := by kernel_rfl
  t3 := Tryz.underlying3
  a3 := Tryz.isAgg3
  z3 := Tryz.sizeOf3
  v3 := Tryz.zeroValue3
  i3 := by kernel_rfl
  t4 := Tryz.underlying4
  a4 := Tryz.isAgg4
  z4 := Tryz.sizeOf4
  v4 := Tryz.zeroValue4
  i4 := by kernel_rfl
  t5 := Tryz.underlying5
  a5 := Tryz.isAgg5
  z5 := Tryz.sizeOf5
  v5 := Tryz.zeroValue5
  i5 := by kernel_rfl
  t9 := Tryz.underlying9
  a9 := Tryz.isAgg9
  z9 := Tryz.sizeOf9
  v9 := Tryz.zeroValue9
  i9 := by kernel_rfl
  t37 := Tryz.underlying87
  a37 := Tryz.isAgg87
  z37 := Tryz.sizeOf87
  v37 := Tryz.zeroValue87
  i37 := by kernel_rfl
  t127 := Tryz.underlying137
  a127 := Tryz.isAgg137
  z127 := Tryz.sizeOf137
  v127 := Tryz.zeroValue137
  i127 := by kernel_rfl }
end Go.Proofs
namespace Go.Proofs.YtfolnkmbdmfigaaGreatDoor
open Go.RowKit
theorem clone_any (s : ByteArray) (w : World) (hlim : s.size ≤ 281474976710656) :
    Calls Tryz.prog 91 #[.string s] w fun e w' => e = .returned (.string s) ∧ Below w.heap.size w w' := by
  have hc := Any.stringslite_Clone Tryz.lays316 s w hlim
  go_enter Tryz.func91, Tryz.ntmps91
  go_wp2_with (go_at_call 124; refine hc.mono ?_; rintro e w1 ⟨rfl, b1⟩)
  go_ret
  exact ⟨rfl, b1⟩
end Go.Proofs.YtfolnkmbdmfigaaGreatDoor

namespace Go.Proofs.YtfolnkmbdmfigaaGreatDoor
open Go.RowKit Go.Extern.Stop Go.Stop Go.Extern
theorem isTypeOf (v : Value) (w : World) : (Extern.ReflectliteType.typeOf #[.iface 213 v]).run Tryz.prog w = .ok (.iface 173 (.agg #[.pointer (some ⟨6, 213, none⟩)])) w := by kernel_rfl
theorem isComparable (w : World) : (callFunc 192 #[.agg #[.pointer (some ⟨6, 213, none⟩)]]).run Tryz.prog w = .ok (.value (.bool true)) w := by kernel_rfl
theorem isMethodComparable (v : Value) (w : World) : (Go.method 343 173 v "Comparable").run Tryz.prog w = .ok (192, v) w := by kernel_rfl
theorem isComp : (Tryz.prog.info? 213).map (·.comparable) = some true := by kernel_rfl
theorem isSize : (Tryz.prog.info? 231).map (·.size) = some 1 := by kernel_rfl
theorem noIsE (v : Value) (xT : TypeId) (w : World) : (Instr.typeAssert (.iface 94 v) xT 175 true).run Tryz.prog w = .ok (.tuple #[.nilIface, .bool false]) w := run_typeAssert_lacksB Tryz.underlying175 (by kernel_rfl) (by kernel_rfl) v xT w
theorem noUnwrapE (v : Value) (xT : TypeId) (w : World) : (Instr.typeAssert (.iface 94 v) xT 178 true).run Tryz.prog w = .ok (.tuple #[.nilIface, .bool false]) w := run_typeAssert_lacksB Tryz.underlying178 (by kernel_rfl) (by kernel_rfl) v xT w
theorem noUnwrapsE (v : Value) (xT : TypeId) (w : World) : (Instr.typeAssert (.iface 94 v) xT 179 true).run Tryz.prog w = .ok (.tuple #[.nilIface, .bool false]) w := run_typeAssert_lacksB Tryz.underlying179 (by kernel_rfl) (by kernel_rfl) v xT w
theorem eql_nil_more (a : Addr) (w : World) : (binOp .eql 114 .nilIface (.iface 213 (.pointer (some a)))).run Tryz.prog w = .ok (.bool false) w := by kernel_rfl
theorem eql_wrong_more (n p : Int) (a : Addr) (w : World) : (binOp .eql 114 (.iface 94 (.agg #[.int .i64 n, .int .i64 p])) (.iface 213 (.pointer (some a)))).run Tryz.prog w = .ok (.bool false) w := by kernel_rfl
theorem is_nil (a : Addr) (w : World) : Calls Tryz.prog 59 #[.nilIface, .iface 213 (.pointer (some a))] w fun e w' => e = .returned (.bool false) ∧ w' = w := by
  have h := eql_nil_more a
  go_enter Tryz.func59, Tryz.ntmps59
  go_wp2
  go_ret
  exact ⟨rfl, rfl⟩
set_option maxHeartbeats 1000000 in
theorem is_same (a : Addr) (w : World) :
    Calls Tryz.prog 59 #[.iface 213 (.pointer (some a)), .iface 213 (.pointer (some a))] w fun e w' => e = .returned (.bool true) ∧ w' = w := by
  obtain ⟨i, hi, hcmp⟩ := Option.map_eq_some_iff.1 isComp
  obtain ⟨j, hj, hjs⟩ := Option.map_eq_some_iff.1 isSize
  have h8 := @run_callFunc_extern Tryz.prog 89 _ Extern.ReflectliteType.typeOf Tryz.func89 (by kernel_rfl) (by kernel_rfl) (by kernel_rfl) (by kernel_rfl)
  have tT := isTypeOf
  have cT := isComparable
  have mR := isMethodComparable
  have heq := run_eql_iface_ptr_same (P := Tryz.prog) w a Tryz.underlying114 Tryz.underlying213 hi hcmp hj
  go_enter Tryz.func59, Tryz.ntmps59
  go_wp2
  refine wp_loop_rounds 1 ?_
  rw [rounds_succ]
  go_wp2
  go_ret
  exact ⟨rfl, rfl⟩
set_option maxHeartbeats 1000000 in
theorem is_wrong (n p : Int) (a : Addr) (w : World) : Calls Tryz.prog 59 #[.iface 94 (.agg #[.int .i64 n, .int .i64 p]), .iface 213 (.pointer (some a))] w fun e w' => e = .returned (.bool false) ∧ w' = w := by
  have h8 := @run_callFunc_extern Tryz.prog 89 _ Extern.ReflectliteType.typeOf Tryz.func89 (by kernel_rfl) (by kernel_rfl) (by kernel_rfl) (by kernel_rfl)
  have tT := isTypeOf
  have cT := isComparable
  have mR := isMethodComparable
  have h := eql_wrong_more n p a
  have n1 := noIsE
  have n2 := noUnwrapE
  have n3 := noUnwrapsE
  go_enter Tryz.func59, Tryz.ntmps59
  go_wp2
  refine wp_loop_rounds 1 ?_
  rw [rounds_succ]
  go_wp2
  go_ret
  exact ⟨rfl, rfl⟩
end Go.Proofs.YtfolnkmbdmfigaaGreatDoor

namespace Go.Proofs.YtfolnkmbdmfigaaGreatDoor
open Go.RowKit Go.Extern.Stop Go.Stop Go.Extern
theorem as_nil (t : Value) (w : World) :
    Calls Tryz.prog 61 #[.nilIface, t] w fun e w' => e = .returned (.bool false) ∧ w' = w := by
  go_enter Tryz.func61, Tryz.ntmps61
  go_wp2
  go_ret
  exact ⟨rfl, rfl⟩
theorem valueOf87 (t : Addr) (w : World) : (callFunc 92 #[.iface 128 (.pointer (some t))]).run Tryz.prog w = .ok (.value (.agg #[.pointer (some ⟨6, 128, none⟩), .pointer (some ⟨w.heap.size, 0, none⟩), .int .u64 150])) (w.alloc (.cells #[.pointer (some t)] 128)) := by kernel_rfl
theorem type87 (a : Addr) (w : World) : (callFunc 93 #[.agg #[.pointer (some ⟨6, 128, none⟩), .pointer (some a), .int .u64 150]]).run Tryz.prog w = .ok (.value (.iface 173 (.agg #[.pointer (some ⟨6, 128, none⟩)]))) w := by kernel_rfl
theorem methodKind (h : Value) (w : World) : (Go.method 343 173 (.agg #[h]) "Kind").run Tryz.prog w = .ok (182, h) w := by kernel_rfl
theorem methodElem (h : Value) (w : World) : (Go.method 343 173 (.agg #[h]) "Elem").run Tryz.prog w = .ok (193, .agg #[h]) w := by kernel_rfl
theorem methodImplements (h : Value) (w : World) : (Go.method 343 173 (.agg #[h]) "Implements").run Tryz.prog w = .ok (194, .agg #[h]) w := by kernel_rfl
theorem methodAssignableTo (h : Value) (w : World) : (Go.method 343 173 (.agg #[h]) "AssignableTo").run Tryz.prog w = .ok (191, .agg #[h]) w := by kernel_rfl
theorem kind87 (w : World) : (callFunc 182 #[.pointer (some ⟨6, 128, none⟩)]).run Tryz.prog w = .ok (.value (.int .u8 22)) w := by kernel_rfl
theorem kind68 (w : World) : (callFunc 182 #[.pointer (some ⟨6, 94, none⟩)]).run Tryz.prog w = .ok (.value (.int .u8 25)) w := by kernel_rfl
theorem elem87 (w : World) : (callFunc 193 #[.agg #[.pointer (some ⟨6, 128, none⟩)]]).run Tryz.prog w = .ok (.value (.iface 173 (.agg #[.pointer (some ⟨6, 94, none⟩)]))) w := by kernel_rfl
theorem implements68 (w : World) : (callFunc 194 #[.agg #[.pointer (some ⟨6, 94, none⟩)], .iface 173 (.agg #[.pointer (some ⟨6, 114, none⟩)])]).run Tryz.prog w = .ok (.value (.bool true)) w := by kernel_rfl
theorem typeOf68 (v : Value) (w : World) : (callFunc 89 #[.iface 94 v]).run Tryz.prog w = .ok (.value (.iface 173 (.agg #[.pointer (some ⟨6, 94, none⟩)]))) w := by kernel_rfl
theorem assignable68 (w : World) : (callFunc 191 #[.agg #[.pointer (some ⟨6, 94, none⟩)], .iface 173 (.agg #[.pointer (some ⟨6, 94, none⟩)])]).run Tryz.prog w = .ok (.value (.bool true)) w := by kernel_rfl
theorem valueOf68 (n p : Int) (w : World) : (callFunc 92 #[.iface 94 (.agg #[.int .i64 n, .int .i64 p])]).run Tryz.prog w = .ok (.value (.agg #[.pointer (some ⟨6, 94, none⟩), .pointer (some ⟨w.heap.size, 0, none⟩), .int .u64 153])) (w.alloc (.cells #[.int .i64 n, .int .i64 p] 94)) := by kernel_rfl
end Go.Proofs.YtfolnkmbdmfigaaGreatDoor

namespace Go.Proofs.YtfolnkmbdmfigaaGreatDoor
open Go.RowKit Go.Extern.Stop Go.Stop Go.Extern
theorem parts87 (a : Addr) (w : World) : (ReflectliteValue.parts (.agg #[.pointer (some ⟨6, 128, none⟩), .pointer (some a), .int .u64 150])).run Tryz.prog w = .ok (some (128, a, 150)) w := by kernel_rfl
theorem elemOf87 (w : World) : (Rtype.elem? 128).run Tryz.prog w = .ok (some 94) w := by kernel_rfl
theorem mk68 (p : Addr) (w : World) : (ReflectliteValue.mk 94 p ReflectliteValue.flagAddr).run Tryz.prog w = .ok (.agg #[.pointer (some ⟨6, 94, none⟩), .pointer (some p), .int .u64 409]) w := by kernel_rfl
theorem parts68a (a : Addr) (w : World) : (ReflectliteValue.parts (.agg #[.pointer (some ⟨6, 94, none⟩), .pointer (some a), .int .u64 409])).run Tryz.prog w = .ok (some (94, a, 409)) w := by kernel_rfl
theorem parts68 (a : Addr) (w : World) : (ReflectliteValue.parts (.agg #[.pointer (some ⟨6, 94, none⟩), .pointer (some a), .int .u64 153])).run Tryz.prog w = .ok (some (94, a, 153)) w := by kernel_rfl
theorem direct68 (w : World) : (Rtype.directlyAssignable 94 94).run Tryz.prog w = .ok true w := by kernel_rfl
theorem isNil87 (a p : Addr) (W : World) (ha : W.cell? a = some (.pointer (some p))) :
    (callFunc 94 #[.agg #[.pointer (some ⟨6, 128, none⟩), .pointer (some a), .int .u64 150]]).run Tryz.prog W = .ok (.value (.bool false)) W := by
  have h8 := @run_callFunc_extern Tryz.prog 94 _ (ReflectliteValue.method (ReflectliteValue.valueError "reflectlite.Value.IsNil" 0) ReflectliteValue.isNil) Tryz.func94 (by kernel_rfl) (by kernel_rfl) (by kernel_rfl) (by kernel_rfl)
  rw [h8]
  have e1 : (ReflectliteValue.method (ReflectliteValue.valueError "reflectlite.Value.IsNil" 0) ReflectliteValue.isNil #[.agg #[.pointer (some ⟨6, 128, none⟩), .pointer (some a), .int .u64 150]]).run Tryz.prog W = _ := Sem.run_bind' Tryz.prog (ReflectliteValue.parts (.agg #[.pointer (some ⟨6, 128, none⟩), .pointer (some a), .int .u64 150])) _ W
  rw [e1, parts87]
  simp [ReflectliteValue.isNil, loadVar, isAgg, underlying, Tryz.underlying128, ha, Result.andThen]
theorem elemV87 (a p : Addr) (W : World) (ha : W.cell? a = some (.pointer (some p))) :
    (callFunc 125 #[.agg #[.pointer (some ⟨6, 128, none⟩), .pointer (some a), .int .u64 150]]).run Tryz.prog W = .ok (.value (.agg #[.pointer (some ⟨6, 94, none⟩), .pointer (some p), .int .u64 409])) W := by
  have h8 := @run_callFunc_extern Tryz.prog 125 _ (ReflectliteValue.method (ReflectliteValue.valueError "reflectlite.Value.Elem" 0) ReflectliteValue.elem) Tryz.func125 (by kernel_rfl) (by kernel_rfl) (by kernel_rfl) (by kernel_rfl)
  rw [h8]
  have e1 : (ReflectliteValue.method (ReflectliteValue.valueError "reflectlite.Value.Elem" 0) ReflectliteValue.elem #[.agg #[.pointer (some ⟨6, 128, none⟩), .pointer (some a), .int .u64 150]]).run Tryz.prog W = _ := Sem.run_bind' Tryz.prog (ReflectliteValue.parts (.agg #[.pointer (some ⟨6, 128, none⟩), .pointer (some a), .int .u64 150])) _ W
  rw [e1, parts87]
  simp [ReflectliteValue.elem, loadVar, isAgg, underlying, Tryz.underlying128, ha, Result.andThen, elemOf87, mk68]
theorem load68 (b : Nat) (n p : Int) (W : World) (h0 : W.cell? ⟨b, 0, none⟩ = some (.int .i64 n)) (h1 : W.cell? ⟨b, 1, none⟩ = some (.int .i64 p)) :
    (loadVar 94 ⟨b, 0, none⟩).run Tryz.prog W = .ok (.agg #[.int .i64 n, .int .i64 p]) W := by
  simp [loadVar, Tryz.isAgg94, Tryz.sizeOf94, loadCells, loadCellsFrom, h0, h1, Addr.add, Result.andThen]
theorem set68 (t b : Nat) (n p : Int) (o1 o2 : Value) (W : World) (hb0 : W.cell? ⟨b, 0, none⟩ = some (.int .i64 n)) (hb1 : W.cell? ⟨b, 1, none⟩ = some (.int .i64 p)) (ht0 : W.cell? ⟨t, 0, none⟩ = some o1) (ht1 : W.cell? ⟨t, 1, none⟩ = some o2) (hf0 : W.frozen? ⟨t, 0, none⟩ = false) (hf1 : W.frozen? ⟨t, 1, none⟩ = false) :
    (callFunc 126 #[.agg #[.pointer (some ⟨6, 94, none⟩), .pointer (some ⟨t, 0, none⟩), .int .u64 409], .agg #[.pointer (some ⟨6, 94, none⟩), .pointer (some ⟨b, 0, none⟩), .int .u64 153]]).run Tryz.prog W = .ok (.value (.tuple #[])) ((W.setCell ⟨t, 0, none⟩ (.int .i64 n)).setCell ⟨t, 1, none⟩ (.int .i64 p)) := by
  have h8 := @run_callFunc_extern Tryz.prog 126 _ ReflectliteValue.set Tryz.func126 (by kernel_rfl) (by kernel_rfl) (by kernel_rfl) (by kernel_rfl)
  rw [h8]
  have e1 : (ReflectliteValue.set #[.agg #[.pointer (some ⟨6, 94, none⟩), .pointer (some ⟨t, 0, none⟩), .int .u64 409], .agg #[.pointer (some ⟨6, 94, none⟩), .pointer (some ⟨b, 0, none⟩), .int .u64 153]]).run Tryz.prog W = _ := Sem.run_bind' Tryz.prog (ReflectliteValue.parts (.agg #[.pointer (some ⟨6, 94, none⟩), .pointer (some ⟨t, 0, none⟩), .int .u64 409])) _ W
  have l68 := load68 b n p W hb0 hb1
  rw [e1, parts68a]
  clear e1 h8
  simp only [Array.getLit, List.getElem_toArray, List.getElem_cons_succ, List.getElem_cons_zero, Sem.run_bind, parts68, Result.andThen]
  simp [ReflectliteValue.flagAddr, l68, Result.andThen, direct68, storeVar, Tryz.sizeOf94, Value.cells, storeCells, Addr.add]
  have k1 : (W.setCell ⟨t, 0, none⟩ (.int .i64 n)).cell? ⟨t, 1, none⟩ = some o2 := by rw [World.cell?_setCell_other]; exact ht1; simp
  have k2 : (W.setCell ⟨t, 0, none⟩ (.int .i64 n)).frozen? ⟨t, 1, none⟩ = false := (World.frozen?_setCell _ _ _ _).trans hf1
  rw [run_store Tryz.prog W ⟨t, 0, none⟩ _ _ (by rfl), ht0, hf0]
  simp only [Bool.false_eq_true, if_false]
  rw [run_store Tryz.prog _ ⟨t, 1, none⟩ _ _ (by rfl), k1, k2]
  rfl
end Go.Proofs.YtfolnkmbdmfigaaGreatDoor

namespace Go.Proofs.YtfolnkmbdmfigaaGreatDoor
open Go.RowKit Go.Extern.Stop Go.Stop Go.Extern
def V87 (b : Nat) : Array Value := #[.pointer (some ⟨6, 128, none⟩), .pointer (some ⟨b, 0, none⟩), .int .u64 150]
set_option maxHeartbeats 4000000 in
set_option maxRecDepth 10000 in
theorem as_hit (t : Nat) (n p : Int) (o1 o2 : Value) (w : World) (hg : w.cell? ⟨1, 0, none⟩ = some (.iface 173 (.agg #[.pointer (some ⟨6, 114, none⟩)]))) (ht0 : w.cell? ⟨t, 0, none⟩ = some o1) (ht1 : w.cell? ⟨t, 1, none⟩ = some o2) (hf0 : w.frozen? ⟨t, 0, none⟩ = false) (hf1 : w.frozen? ⟨t, 1, none⟩ = false) :
    Calls Tryz.prog 61 #[.iface 94 (.agg #[.int .i64 n, .int .i64 p]), .iface 128 (.pointer (some ⟨t, 0, none⟩))] w fun ev w' => ev = .returned (.bool true) ∧
      w' = (((((w.alloc (.cells #[.pointer (some ⟨t, 0, none⟩)] 128)).alloc (.cells (V87 w.heap.size) 151)).alloc (.cells (V87 w.heap.size) 151)).alloc (.cells #[.int .i64 n, .int .i64 p] 94)).setCell ⟨t, 0, none⟩ (.int .i64 n)).setCell ⟨t, 1, none⟩ (.int .i64 p) := by
  have htl : t < w.heap.size := World.block_lt_of_cell? w _ ht0
  have hgl : 1 < w.heap.size := World.block_lt_of_cell? w _ hg
  have f6 := valueOf87
  have f7 := type87
  have mK := methodKind
  have mE := methodElem
  have mI := methodImplements
  have mA := methodAssignableTo
  have k1 := kind87
  have k2 := kind68
  have e1 := elem87
  have i1 := implements68
  have t1 := typeOf68 (.agg #[.int .i64 n, .int .i64 p])
  have a1 := assignable68
  have v1 := valueOf68 n p
  have n8 := isNil87 ⟨w.heap.size, 0, none⟩ ⟨t, 0, none⟩ ((w.alloc (.cells #[.pointer (some ⟨t, 0, none⟩)] 128)).alloc (.cells #[.pointer (some ⟨6, 128, none⟩), .pointer (some ⟨w.heap.size, 0, none⟩), .int .u64 150] 151)) (by simp)
  have el := elemV87 ⟨w.heap.size, 0, none⟩ ⟨t, 0, none⟩ (((w.alloc (.cells #[.pointer (some ⟨t, 0, none⟩)] 128)).alloc (.cells #[.pointer (some ⟨6, 128, none⟩), .pointer (some ⟨w.heap.size, 0, none⟩), .int .u64 150] 151)).alloc (.cells #[.pointer (some ⟨6, 128, none⟩), .pointer (some ⟨w.heap.size, 0, none⟩), .int .u64 150] 151)) (by rw [World.cell?_alloc_lt _ _ ⟨w.heap.size, 0, none⟩ (by simp; omega)]; simp)
  have hg2 : ((w.alloc (.cells #[.pointer (some ⟨t, 0, none⟩)] 128)).alloc (.cells #[.pointer (some ⟨6, 128, none⟩), .pointer (some ⟨w.heap.size, 0, none⟩), .int .u64 150] 151)).cell? ⟨1, 0, none⟩ = some (.iface 173 (.agg #[.pointer (some ⟨6, 114, none⟩)])) := by
    rw [World.cell?_alloc_lt _ _ ⟨1, 0, none⟩ (by simp; omega), World.cell?_alloc_lt _ _ ⟨1, 0, none⟩ hgl]; exact hg
  have old : ∀ (W : World) (o : Obj) (i : Nat) (v : Value), t < W.heap.size → W.cell? ⟨t, i, none⟩ = some v → (W.alloc o).cell? ⟨t, i, none⟩ = some v := fun W o i v hl h => by rw [World.cell?_alloc_lt _ _ ⟨t, i, none⟩ hl]; exact h
  have oldF : ∀ (W : World) (o : Obj) (i : Nat), t < W.heap.size → W.frozen? ⟨t, i, none⟩ = false → (W.alloc o).frozen? ⟨t, i, none⟩ = false := fun W o i hl h => by rw [World.frozen?_alloc_old _ _ ⟨t, i, none⟩ (Nat.ne_of_lt hl)]; exact h
  have st := set68 t (w.heap.size + 1 + 1 + 1) n p o1 o2 ((((w.alloc (.cells #[.pointer (some ⟨t, 0, none⟩)] 128)).alloc (.cells #[.pointer (some ⟨6, 128, none⟩), .pointer (some ⟨w.heap.size, 0, none⟩), .int .u64 150] 151)).alloc (.cells #[.pointer (some ⟨6, 128, none⟩), .pointer (some ⟨w.heap.size, 0, none⟩), .int .u64 150] 151)).alloc (.cells #[.int .i64 n, .int .i64 p] 94))
    (by rw [World.cell?_alloc_at _ _ _ _ (by simp)]; rfl)
    (by rw [World.cell?_alloc_at _ _ _ _ (by simp)]; rfl)
    (old _ _ _ _ (by simp; omega) (old _ _ _ _ (by simp; omega) (old _ _ _ _ (by simp; omega) (old _ _ _ _ htl ht0))))
    (old _ _ _ _ (by simp; omega) (old _ _ _ _ (by simp; omega) (old _ _ _ _ (by simp; omega) (old _ _ _ _ htl ht1))))
    (oldF _ _ _ (by simp; omega) (oldF _ _ _ (by simp; omega) (oldF _ _ _ (by simp; omega) (oldF _ _ _ htl hf0))))
    (oldF _ _ _ (by simp; omega) (oldF _ _ _ (by simp; omega) (oldF _ _ _ (by simp; omega) (oldF _ _ _ htl hf1))))
  clear old oldF
  go_enter Tryz.func61, Tryz.ntmps61
  go_wp2
  refine wp_loop_rounds 1 ?_
  rw [rounds_succ]
  go_wp2
  go_ret
  refine ⟨rfl, ?_⟩
  rfl
end Go.Proofs.YtfolnkmbdmfigaaGreatDoor

namespace Go.Proofs.YtfolnkmbdmfigaaGreatDoor
open Go.RowKit Go.Maps Go.Lib
variable {F F' G : Nat → Prop} {R : Nat} {w w' w'' wr : World} {s s' : Src} {p : Ptr} {st : St} {c : Int} {a : Addr} {pt : Part} {v : Value} {m : Rd} {N n : Nat}
abbrev nilS : Value := .slice none 0 0
def Told (G : Nat → Prop) (R : Nat) (w : World) (av : Value) (k : Nat) : Prop := G k ∧ k ≠ R ∧ ((∃ cur, w.heap[k]? = some (.cells cur 56 (0, 0))) ∨ ((∃ cur, w.heap[k]? = some (.cells cur 44 (0, 0))) ∧ av.ownBlock ≠ some k))
def Rest (G : Nat → Prop) (R : Nat) (w : World) (av : Value) (k : Nat) : Prop := G k ∧ ¬ Told G R w av k
def Ans (A : Nat → Prop) (w : World) (v : Value) (l : List Tok) : Prop := ∃ cs, w.ownsRow 0 56 5 v l.length cs ∧ Toks A 0 w nilS l cs ∧ ∀ k, v.ownBlock = some k → A k
theorem not_told {k : Nat} {t : TypeId} {cur : Array Value} {av : Value} (h : w.heap[k]? = some (.cells cur t (0, 0))) (h1 : t ≠ 56) (h2 : t = 44 → av.ownBlock = some k) : ¬ Told G R w av k := by
  rintro ⟨_, _, ⟨c, hc⟩ | ⟨⟨c, hc⟩, hn⟩⟩
  · rw [h] at hc; simp only [Option.some.injEq, Obj.cells.injEq] at hc; exact h1 hc.2.1
  · rw [h] at hc; simp only [Option.some.injEq, Obj.cells.injEq] at hc; exact hn (h2 hc.2.1)
theorem Toks.free {l : List Tok} {cs : List Value} {av : Value} (h : Toks G R w av l cs) (lo : Low G) (hk : ∀ k, k ≠ R → w'.heap[k]? = w.heap[k]?) : Toks (Told G R w av) 0 w' nilS l cs := by
  induction h with
  | nil => exact .nil
  | cons t v l cs ho hf hl ih =>
    refine .cons t v l cs (owns_of ho fun k hv => hk k (hf k hv).2.1) (fun k hv => ?_) ih
    obtain ⟨cur, hc⟩ := owns_blk ho hv
    refine ⟨⟨(hf k hv).1, (hf k hv).2.1, Or.inr ⟨⟨cur, hc⟩, (hf k hv).2.2⟩⟩, ?_, nil_block k⟩
    intro e
    exact lo k (by omega) (hf k hv).1
theorem Rep.release (h : Rep G R w s p st) (lo : Low G) :
    Rep (Rest G R w p.attrs) R (w.setCell ⟨R, 5, none⟩ nilS) s { p with told := nilS } { st with told := [] } ∧ Ans (Told G R w p.attrs) (w.setCell ⟨R, 5, none⟩ nilS) p.told st.told := by
  have hk : ∀ k, k ≠ R → (w.setCell ⟨R, 5, none⟩ nilS).heap[k]? = w.heap[k]? := fun k hk => Below.heap_setCell _ _ _ _ hk
  have hsz : (w.setCell ⟨R, 5, none⟩ nilS).heap.size = w.heap.size := by simp [World.setCell]
  have hb := set_of (i := 5) h.blk nilS
  obtain ⟨cs, h1, h2⟩ := h.own.told
  refine ⟨⟨?_, ⟨h.inR, fun x => x.2.1 rfl⟩, fun k x => by rw [hsz]; exact h.lt k x.1, ?_⟩, cs, owns_of h1 fun k e => hk k (h.own.toldF k e).2, h2.free lo hk, fun k e => ?_⟩
  · rw [hb]; rfl
  · refine ⟨fun i => owns_of (h.own.run i) fun k e => hk k (h.own.runF i k e).2, fun i k e => ?_, h.own.apart, ⟨[], owns_nil _ _ _, .nil⟩, fun k e => absurd e (nil_block k), owns_of h.own.attrs fun k e => hk k (h.own.attrsF k e).2, fun k e => ?_, ?_⟩
    · obtain ⟨cur, hc⟩ := owns_blk (h.own.run i) e
      exact ⟨⟨(h.own.runF i k e).1, not_told hc (by decide) (fun e => absurd e (by decide))⟩, (h.own.runF i k e).2⟩
    · obtain ⟨cur, hc⟩ := owns_blk h.own.attrs e
      exact ⟨⟨(h.own.attrsF k e).1, not_told hc (by decide) (fun _ => e)⟩, (h.own.attrsF k e).2⟩
    · rcases h.own.names with hn | ⟨b, x1, x2, x3, x4⟩
      · exact Or.inl hn
      · refine Or.inr ⟨b, x1, ⟨x2, ?_⟩, x3, map_of x4 (hk b x3)⟩
        obtain ⟨es, cl, hm, _⟩ := x4
        rintro ⟨_, _, ⟨c, hc⟩ | ⟨⟨c, hc⟩, _⟩⟩
        · rw [hm] at hc; cases hc
        · rw [hm] at hc; cases hc
  · obtain ⟨cur, hc⟩ := owns_blk h1 e
    exact ⟨(h.own.toldF k e).1, (h.own.toldF k e).2, Or.inl ⟨cur, hc⟩⟩
theorem PartAt.release (h : PartAt G R w v pt) {av : Value} (hk : ∀ k, k ≠ R → w'.heap[k]? = w.heap[k]?) : PartAt (Rest G R w av) R w' v pt := by
  have bx : ∀ {b x t}, Box G R w b x t → t ≠ 56 → t ≠ 44 → Box (Rest G R w av) R w' b x t := fun h h1 h2 => ⟨(hk _ h.2.2).trans h.1, ⟨h.2.1, not_told h.1 h1 (fun e => absurd e h2)⟩, h.2.2⟩
  cases pt with
  | plain k => exact h
  | word l k => obtain ⟨b1, b2, e, x1, x2⟩ := h; exact ⟨b1, b2, e, bx x1 (by decide) (by decide), bx x2 (by decide) (by decide)⟩
  | name i k => obtain ⟨b1, b2, b3, e, x1, x2, x3⟩ := h; exact ⟨b1, b2, b3, e, bx x1 (by decide) (by decide), bx x2 (by decide) (by decide), bx x3 (by decide) (by decide)⟩
  | ref i k => obtain ⟨b1, b2, b3, e, x1, x2, x3⟩ := h; exact ⟨b1, b2, b3, e, bx x1 (by decide) (by decide), bx x2 (by decide) (by decide), bx x3 (by decide) (by decide)⟩
def Src.zero (no fat : Int) (closed : Bool) : Src := ⟨⟨#[]⟩, 0, 0, false, .nilFunc, no, fat, closed⟩
def Ptr.zero : Ptr := ⟨nilS, fun _ => nilS, nilS, .map none⟩
def St.zero : St := ⟨fun _ => [], fun _ => 0, 0, [], [], 0, []⟩
theorem Own.zero (F : Nat → Prop) (R : Nat) (w : World) : Own F R w Ptr.zero St.zero :=
  ⟨fun _ => owns_nil w 5 1, fun _ k e => absurd e (nil_block k), fun _ _ k _ e => absurd e (nil_block k), ⟨[], owns_nil w 56 5, .nil⟩, fun k e => absurd e (nil_block k), owns_nil w 44 2, fun k e => absurd e (nil_block k), Or.inl ⟨rfl, rfl⟩⟩
structure PR where
  s : Src
  pt : Option Part
  st : St
def Alive (F : Nat → Prop) (R : Nat) (w : World) (r : PR) : Prop :=
  ∃ v p, Rep F R w { r.s with now := v } p r.st ∧ match r.pt with | some pt => PartAt F R w v pt | none => v = .nilFunc
def tells (m : Rd) : PR × List Tok :=
  match m.ret with
  | .more => (⟨m.s, some m.pt, { m.st with told := [] }⟩, m.st.told)
  | .over => (⟨m.s, none, { m.st with told := [] }⟩, m.st.told)
  | .fail no q => (⟨Src.zero no q m.s.closed, none, St.zero⟩, m.st.told)
def AnsEnd (F : Nat → Prop) (R : Nat) (w : World) (x : PR × List Tok) (e : Ending) (w' : World) : Prop :=
  ∃ (v : Value) (A F' : Nat → Prop), e = .returned v ∧ Ans A w' v x.2 ∧ Alive F' R w' x.1 ∧ Frame F w w' ∧ (∀ k, A k → Grow F w w' k ∧ ¬ F' k) ∧ (∀ k, F' k → Grow F w w' k)
theorem Ans.frame {A : Nat → Prop} {l : List Tok} (h : Ans A w v l) (hk : ∀ k, A k → w'.heap[k]? = w.heap[k]?) : Ans A w' v l := by
  obtain ⟨cs, h1, h2, h3⟩ := h
  exact ⟨cs, owns_of h1 fun k e => hk k (h3 k e), h2.frame fun k n xs v ho hv a b c => ⟨hk k a, a, c⟩, h3⟩
theorem ans_end {w1 w4 : World} {s1 : Src} {p1 p' : Ptr} {st1 : St} {x : PR} {v' : Value} (rg1 : RG F R w s1 p1 st1 w1) (lo : Low (Grow F w w1))
    (r4 : RG (Rest (Grow F w w1) R w1 p1.attrs) R (w1.setCell ⟨R, 5, none⟩ nilS) { x.s with now := v' } p' x.st w4)
    (hx : match x.pt with | some pt => PartAt (Grow (Rest (Grow F w w1) R w1 p1.attrs) (w1.setCell ⟨R, 5, none⟩ nilS) w4) R w4 v' pt | none => v' = .nilFunc) :
    AnsEnd F R w (x, st1.told) (.returned p1.told) w4 := by
  have hk : ∀ k, k ≠ R → (w1.setCell ⟨R, 5, none⟩ nilS).heap[k]? = w1.heap[k]? := fun k hk => Below.heap_setCell _ _ _ _ hk
  have hsz : (w1.setCell ⟨R, 5, none⟩ nilS).heap.size = w1.heap.size := by simp [World.setCell]
  have hz := rg1.2.size
  have hz4 := r4.2.size
  obtain ⟨rr, an⟩ := rg1.1.release lo
  refine ⟨p1.told, Told (Grow F w w1) R w1 p1.attrs, Grow (Rest (Grow F w w1) R w1 p1.attrs) (w1.setCell ⟨R, 5, none⟩ nilS) w4, rfl, ?_, ⟨v', p', r4.1, hx⟩, ?_, ?_, ?_⟩
  · refine an.frame fun k hA => r4.2.block k (by rw [hsz]; exact rg1.1.lt k hA.1) (fun x => x.2 hA)
  · refine ⟨r4.2.os.trans rg1.2.os, r4.2.tape.trans rg1.2.tape, r4.2.output.trans rg1.2.output, by omega, fun k hl hf => ?_⟩
    have hkR : k ≠ R := fun e => by
      subst e
      rcases rg1.1.inR with x | x
      · exact hf x
      · omega
    rw [r4.2.block k (by omega) (fun x => x.1.elim hf (fun y => by omega)), hk k hkR]
    exact rg1.2.block k hl hf
  · intro k hA
    refine ⟨hA.1.elim Or.inl (fun y => Or.inr ⟨y.1, by omega⟩), ?_⟩
    rintro (y | y)
    · exact y.2 hA
    · have := rg1.1.lt k hA.1; omega
  · rintro k (y | y)
    · exact y.1.elim Or.inl (fun z => Or.inr ⟨z.1, by omega⟩)
    · exact Or.inr ⟨by omega, y.2⟩
set_option maxHeartbeats 1000000 in
theorem keepRest_ok (h : Rep F R w s p st) (hz : s.rest.size ≤ 1099511627776) : Calls Tryz.prog 60 #[.pointer (some ⟨R, 0, none⟩)] w fun e w' => e = .returned (.tuple #[]) ∧ RF F R w s p st w' := by
  have c0 : w.cell? ⟨R, 0, none⟩ = some (.string s.rest) := h.cell 0 rfl
  have hc := clone_any s.rest w (by omega)
  have H := hide (RF.refl h)
  clear h
  go_enter Tryz.func60, Tryz.ntmps60
  go_wp2_with (go_at_call 91; refine hc.mono ?_; rintro e w1 ⟨rfl, b1⟩; have R1 := hide (H.out.below b1); have d0 : w1.cell? ⟨R, 0, none⟩ = some (.string s.rest) := R1.out.1.cell 0 rfl; have g0 := R1.out.1.free 0)
  go_end0
  exact ⟨rfl, R1.out.set 0 _ rfl⟩
end Go.Proofs.YtfolnkmbdmfigaaGreatDoor

namespace Go.Proofs.YtfolnkmbdmfigaaGreatDoor
open Go.RowKit Go.Maps Go.Lib
variable {F F' G : Nat → Prop} {R : Nat} {w w' w'' wr : World} {s s' : Src} {p : Ptr} {st : St} {c : Int} {a : Addr} {pt : Part} {v : Value} {m : Rd} {N n : Nat}
theorem mid {w1 : World} {s1 : Src} {p1 : Ptr} {st1 : St} (rg1 : RG F R w s1 p1 st1 w1) (gl : Gl w a) (lo : Low F) (o : Obj) :
    RF (Rest (Grow F w w1) R w1 p1.attrs) R (w1.setCell ⟨R, 5, none⟩ nilS) s1 { p1 with told := nilS } { st1 with told := [] } ((w1.setCell ⟨R, 5, none⟩ nilS).alloc o) ∧
    Gl ((w1.setCell ⟨R, 5, none⟩ nilS).alloc o) a ∧ Low (Grow F w w1) := by
  have lo1 : Low (Grow F w w1) := lo.grow gl.size
  have gl1 := gl.frame rg1.2 lo
  have hb : Below (w1.setCell ⟨R, 5, none⟩ nilS).heap.size (w1.setCell ⟨R, 5, none⟩ nilS) ((w1.setCell ⟨R, 5, none⟩ nilS).alloc o) := (Below.refl _ _).alloc (Nat.le_refl _) _
  have r3 := (RF.refl (rg1.1.release lo1).1).below hb
  refine ⟨r3, ?_, lo1⟩
  have f1 : Frame (Grow F w w1) w1 (w1.setCell ⟨R, 5, none⟩ nilS) := ⟨rfl, rfl, rfl, by simp [World.setCell], fun k hk hf => Below.heap_setCell _ _ _ _ (fun e => hf (e ▸ rg1.1.inR))⟩
  have gl2 := gl1.frame f1 lo1
  have lo2 : Low (Rest (Grow F w w1) R w1 p1.attrs) := fun k hk x => lo1 k hk x.1
  exact gl2.frame r3.2.1 lo2
set_option maxHeartbeats 4000000 in
set_option maxRecDepth 10000 in
theorem advance_more (hrd : Calls Tryz.prog 58 #[.pointer (some ⟨R, 0, none⟩)] w (ReadEnd F R w a m)) (gl : Gl w a) (lo : Low F) (hret : m.ret = .more) (hz : m.s.rest.size ≤ 1099511627776) :
    Calls Tryz.prog 37 #[.pointer (some ⟨R, 0, none⟩)] w (AnsEnd F R w (tells m)) := by
  have ht : tells m = (⟨m.s, some m.pt, { m.st with told := [] }⟩, m.st.told) := by unfold tells; rw [hret]
  rw [ht]
  have hrd2 : Calls Tryz.prog 58 #[.pointer (some ⟨R, 0, none⟩)] w fun e w1 => e = .returned (.iface 213 (.pointer (some a))) ∧ ∃ v p', RG F R w { m.s with now := v } p' m.st w1 ∧ PartAt (Grow F w w1) R w1 v m.pt := by
    refine hrd.mono ?_
    rintro e w1 ⟨v, p', rg, hx⟩
    rw [hret] at hx
    exact ⟨hx.1, v, p', rg, hx.2⟩
  have GL := hide gl
  have LO := hide lo
  clear hrd ht hret gl lo
  have his := is_same a
  go_enter Tryz.func37, Tryz.ntmps37
  go_wp2_with (first | (go_at_call 58; refine hrd2.mono ?_; rintro e w1 ⟨rfl, v1, p1, rg1, pa1⟩; obtain ⟨r3, g3, l1⟩ := mid rg1 GL.out LO.out (.cells #[.int .i64 0, .int .i64 0] 94); have m0 : ((w1.setCell ⟨R, 5, none⟩ (.slice none 0 0)).alloc (.cells #[.int .i64 0, .int .i64 0] 94)).cell? ⟨0, 0, none⟩ = some (.iface 213 (.pointer (some a))) := g3.more; have hke := keepRest_ok r3.1 hz; have R3 := hide r3; have L1 := hide l1; have RG1 := hide rg1; have PA1 := hide pa1; have c5 : w1.cell? ⟨R, 5, none⟩ = some p1.told := rg1.1.cell 5 rfl; have f5 := rg1.1.free 5; clear rg1 pa1 r3 g3 l1) | (go_at_call 59; refine (his _).mono ?_; rintro e wx ⟨rfl, rfl⟩) | (go_at_call 60; refine hke.mono ?_; rintro e w4 ⟨rfl, r4⟩))
  go_ret
  have hsz : (w1.setCell ⟨R, 5, none⟩ nilS).heap.size = w1.heap.size := by simp [World.setCell]
  refine ans_end (x := ⟨m.s, some m.pt, { m.st with told := [] }⟩) RG1.out L1.out (R3.out.rg.on r4.rg) ?_
  refine (PA1.out.release (w' := w1.setCell ⟨R, 5, none⟩ nilS) (fun k hk => Below.heap_setCell _ _ _ _ hk)).keep (fun k hk hR => ?_) (fun _ x => Or.inl x)
  have hl : k < (w1.setCell ⟨R, 5, none⟩ nilS).heap.size := by rw [hsz]; exact RG1.out.1.lt k hk.1
  exact (r4.2.2 k (Nat.lt_of_lt_of_le hl R3.out.2.1.size) hR).trans (R3.out.2.2 k hl hR)
set_option maxHeartbeats 4000000 in
set_option maxRecDepth 10000 in
theorem advance_over (hrd : Calls Tryz.prog 58 #[.pointer (some ⟨R, 0, none⟩)] w (ReadEnd F R w a m)) (gl : Gl w a) (lo : Low F) (hret : m.ret = .over) :
    Calls Tryz.prog 37 #[.pointer (some ⟨R, 0, none⟩)] w (AnsEnd F R w (tells m)) := by
  have ht : tells m = (⟨m.s, none, { m.st with told := [] }⟩, m.st.told) := by unfold tells; rw [hret]
  rw [ht]
  have hrd2 : Calls Tryz.prog 58 #[.pointer (some ⟨R, 0, none⟩)] w fun e w1 => e = .returned .nilIface ∧ ∃ p', RG F R w { m.s with now := .nilFunc } p' m.st w1 := by
    refine hrd.mono ?_
    rintro e w1 ⟨v, p', rg, hx⟩
    rw [hret] at hx
    obtain ⟨rfl, rfl⟩ := hx
    exact ⟨rfl, p', rg⟩
  have GL := hide gl
  have LO := hide lo
  clear hrd ht hret gl lo
  have his := is_nil a
  have has := as_nil
  go_enter Tryz.func37, Tryz.ntmps37
  go_wp2_with (first | (go_at_call 58; refine hrd2.mono ?_; rintro e w1 ⟨rfl, p1, rg1⟩; obtain ⟨r3, g3, l1⟩ := mid rg1 GL.out LO.out (.cells #[.int .i64 0, .int .i64 0] 94); have m0 : ((w1.setCell ⟨R, 5, none⟩ (.slice none 0 0)).alloc (.cells #[.int .i64 0, .int .i64 0] 94)).cell? ⟨0, 0, none⟩ = some (.iface 213 (.pointer (some a))) := g3.more; have R3 := hide r3; have L1 := hide l1; have RG1 := hide rg1; have c5 : w1.cell? ⟨R, 5, none⟩ = some p1.told := rg1.1.cell 5 rfl; have f5 := rg1.1.free 5; clear rg1 r3 g3 l1) | (go_at_call 59; refine (his _).mono ?_; rintro e wx ⟨rfl, rfl⟩) | (go_at_call 61; refine (has _ _).mono ?_; rintro e wx ⟨rfl, rfl⟩))
  go_ret
  exact ans_end (x := ⟨m.s, none, { m.st with told := [] }⟩) RG1.out L1.out R3.out.rg rfl
def setAll (cur : Array Value) : Nat → List Value → Array Value
  | _, [] => cur
  | o, v :: r => setAll (cur.setIfInBounds o v) (o + 1) r
theorem setCells_row {t : TypeId} : ∀ (vs : List Value) (o : Nat) (cur : Array Value) (w : World), w.heap[R]? = some (.cells cur t (0, 0)) → (w.setCells R o vs).heap[R]? = some (.cells (setAll cur o vs) t (0, 0))
  | [], _, _, _, h => h
  | v :: r, o, _, _, h => setCells_row r (o + 1) _ _ (set_of h v)
theorem setCells_other : ∀ (vs : List Value) (o : Nat) (w : World), (∀ k, k ≠ R → (w.setCells R o vs).heap[k]? = w.heap[k]?) ∧ (w.setCells R o vs).heap.size = w.heap.size ∧ (w.setCells R o vs).os = w.os ∧ (w.setCells R o vs).tape = w.tape ∧ (w.setCells R o vs).output = w.output
  | [], _, _ => ⟨fun _ _ => rfl, rfl, rfl, rfl, rfl⟩
  | v :: r, o, w => by
    obtain ⟨h1, h2, h3, h4, h5⟩ := setCells_other r (o + 1) (w.setCell ⟨R, o, none⟩ v)
    refine ⟨fun k hk => (h1 k hk).trans (Below.heap_setCell _ _ _ _ hk), h2.trans (by simp [World.setCell]), h3, h4, h5⟩
def docZero : Array Value := #[.string ⟨#[]⟩, .int .i64 0, .int .i64 0, .bool false, .nilFunc, nilS, nilS, .int .i64 0, .int .i64 0, nilS, .int .i64 0, nilS, .map none, nilS, .int .i64 0, nilS, .int .i64 0, .int .i32 0, nilS, .int .i64 0]
theorem docOne : docZero.all (·.oneCell') = true := by kernel_rfl
theorem docSize : (Tryz.prog.info? 92).map (·.size) = some docZero.size := by kernel_rfl
theorem zero_cells (s : Src) (p : Ptr) (st : St) : setAll (cellsOf s p st) 0 docZero.toList = cellsOf (Src.zero s.no s.fat s.closed) Ptr.zero St.zero := by kernel_rfl
theorem doc_there {t : TypeId} {cur : Array Value} (h : w.heap[R]? = some (.cells cur t (0, 0))) (hs : 20 ≤ cur.size) : w.there R 0 docZero.size := by
  intro j hj
  have hj' : j < 20 := hj
  rw [Nat.zero_add]
  exact ⟨by rw [cell_of h (Array.getElem?_eq_getElem (by omega))]; rfl, free_of h⟩
theorem RG.zero (h : RG F R w s p st w') : RG F R w (Src.zero s.no s.fat s.closed) Ptr.zero St.zero (w'.setCells R 0 docZero.toList) := by
  obtain ⟨h1, h2, h3, h4, h5⟩ := setCells_other (R := R) docZero.toList 0 w'
  have hb := setCells_row (R := R) docZero.toList 0 _ w' h.1.blk
  rw [zero_cells] at hb
  generalize w'.setCells R 0 docZero.toList = W at *
  refine ⟨⟨hb, ?_, fun k hk => ?_, Own.zero _ _ _⟩, ⟨h3.trans h.2.os, h4.trans h.2.tape, h5.trans h.2.output, by rw [h2]; exact h.2.size, fun k hk hf => ?_⟩⟩
  · have := h.1.inR
    unfold Grow at this ⊢
    rw [h2]; exact this
  · unfold Grow at hk
    rw [h2] at hk ⊢
    exact h.1.lt k hk
  · refine (h1 k ?_).trans (h.2.block k hk hf)
    intro e
    subst e
    rcases h.1.inR with x | x
    · exact hf x
    · omega
theorem as_new (w2 : World) (no q : Int) (hg : (w2.alloc (.cells #[.int .i64 0, .int .i64 0] 94)).cell? ⟨1, 0, none⟩ = some (.iface 173 (.agg #[.pointer (some ⟨6, 114, none⟩)]))) :
    Calls Tryz.prog 61 #[.iface 94 (.agg #[.int .i64 no, .int .i64 q]), .iface 128 (.pointer (some ⟨w2.heap.size, 0, none⟩))] (w2.alloc (.cells #[.int .i64 0, .int .i64 0] 94)) fun ev w5 => ev = .returned (.bool true) ∧ Below w2.heap.size w2 w5 ∧ w5.cell? ⟨w2.heap.size, 0, none⟩ = some (.int .i64 no) ∧ w5.cell? ⟨w2.heap.size, 1, none⟩ = some (.int .i64 q) := by
  have hh : (w2.alloc (.cells #[.int .i64 0, .int .i64 0] 94)).heap[w2.heap.size]? = some (.cells #[.int .i64 0, .int .i64 0] 94 (0, 0)) := Below_new _ _
  refine (as_hit w2.heap.size no q (.int .i64 0) (.int .i64 0) _ hg (cell_of hh rfl) (cell_of hh rfl) (free_of hh) (free_of hh)).mono ?_
  rintro ev w5 ⟨rfl, rfl⟩
  have hb : Below w2.heap.size w2 ((((((w2.alloc (.cells #[.int .i64 0, .int .i64 0] 94)).alloc (.cells #[.pointer (some ⟨w2.heap.size, 0, none⟩)] 128)).alloc (.cells (V87 (w2.alloc (.cells #[.int .i64 0, .int .i64 0] 94)).heap.size) 151)).alloc (.cells (V87 (w2.alloc (.cells #[.int .i64 0, .int .i64 0] 94)).heap.size) 151)).alloc (.cells #[.int .i64 no, .int .i64 q] 94))) :=
    (((((Below.refl _ _).alloc (Nat.le_refl _) _).alloc (by simp) _).alloc (by simp; omega) _).alloc (by simp; omega) _).alloc (by simp; omega) _
  have hx : (((((w2.alloc (.cells #[.int .i64 0, .int .i64 0] 94)).alloc (.cells #[.pointer (some ⟨w2.heap.size, 0, none⟩)] 128)).alloc (.cells (V87 (w2.alloc (.cells #[.int .i64 0, .int .i64 0] 94)).heap.size) 151)).alloc (.cells (V87 (w2.alloc (.cells #[.int .i64 0, .int .i64 0] 94)).heap.size) 151)).alloc (.cells #[.int .i64 no, .int .i64 q] 94)).heap[w2.heap.size]? = some (.cells #[.int .i64 0, .int .i64 0] 94 (0, 0)) := by
    rw [Below.heap_alloc _ _ _ (by simp; omega), Below.heap_alloc _ _ _ (by simp; omega), Below.heap_alloc _ _ _ (by simp; omega), Below.heap_alloc _ _ _ (by simp)]
    exact hh
  generalize (((((w2.alloc (.cells #[.int .i64 0, .int .i64 0] 94)).alloc (.cells #[.pointer (some ⟨w2.heap.size, 0, none⟩)] 128)).alloc (.cells (V87 (w2.alloc (.cells #[.int .i64 0, .int .i64 0] 94)).heap.size) 151)).alloc (.cells (V87 (w2.alloc (.cells #[.int .i64 0, .int .i64 0] 94)).heap.size) 151)).alloc (.cells #[.int .i64 no, .int .i64 q] 94)) = W at *
  have h1 := set_of (i := 0) hx (.int .i64 no)
  have h2 := set_of (i := 1) h1 (.int .i64 q)
  refine ⟨rfl, ⟨hb.os, hb.tape, hb.output, ?_, fun k hk => ?_⟩, cell_of h2 rfl, cell_of h2 rfl⟩
  · have := hb.size; simp [World.setCell]; exact this
  · rw [Below.heap_setCell _ _ _ _ (Nat.ne_of_lt hk), Below.heap_setCell _ _ _ _ (Nat.ne_of_lt hk)]
    exact hb.block k hk
set_option maxHeartbeats 4000000 in
set_option maxRecDepth 10000 in
theorem advance_fail {no q : Int} (hrd : Calls Tryz.prog 58 #[.pointer (some ⟨R, 0, none⟩)] w (ReadEnd F R w a m)) (gl : Gl w a) (lo : Low F) (hret : m.ret = .fail no q) :
    Calls Tryz.prog 37 #[.pointer (some ⟨R, 0, none⟩)] w (AnsEnd F R w (tells m)) := by
  have ht : tells m = (⟨Src.zero no q m.s.closed, none, St.zero⟩, m.st.told) := by unfold tells; rw [hret]
  rw [ht]
  have hrd2 : Calls Tryz.prog 58 #[.pointer (some ⟨R, 0, none⟩)] w fun e w1 => e = .returned (.iface 94 (.agg #[.int .i64 no, .int .i64 q])) ∧ ∃ p', RG F R w { m.s with now := .nilFunc } p' m.st w1 := by
    refine hrd.mono ?_
    rintro e w1 ⟨v, p', rg, hx⟩
    rw [hret] at hx
    obtain ⟨rfl, rfl⟩ := hx
    exact ⟨rfl, p', rg⟩
  have GL := hide gl
  have LO := hide lo
  clear hrd ht hret gl lo
  have his := is_wrong no q a
  go_enter Tryz.func37, Tryz.ntmps37
  go_wp2_with (first | (go_at_call 58; refine hrd2.mono ?_; rintro e w1 ⟨rfl, p1, rg1⟩; obtain ⟨r3, g3, l1⟩ := mid rg1 GL.out LO.out (.cells #[.int .i64 0, .int .i64 0] 94); have m0 : ((w1.setCell ⟨R, 5, none⟩ (.slice none 0 0)).alloc (.cells #[.int .i64 0, .int .i64 0] 94)).cell? ⟨0, 0, none⟩ = some (.iface 213 (.pointer (some a))) := g3.more; have has := as_new (w1.setCell ⟨R, 5, none⟩ (.slice none 0 0)) no q g3.et; have RR := hide (RF.refl (rg1.1.release l1).1); have L1 := hide l1; have RG1 := hide rg1; have c5 : w1.cell? ⟨R, 5, none⟩ = some p1.told := rg1.1.cell 5 rfl; have f5 := rg1.1.free 5; clear rg1 r3 g3 l1) | (go_at_call 59; refine (his _).mono ?_; rintro e wx ⟨rfl, rfl⟩))
  have hsz : (w1.setCell ⟨R, 5, none⟩ (.slice none 0 0)).heap.size = w1.heap.size := by simp [World.setCell]
  rw [hsz] at has
  refine has.mono ?_
  rintro e w5 ⟨rfl, b5, t0, t1⟩
  have R5 := hide (RR.out.below (by rw [hsz]; exact b5))
  have c20 : w5.cell? ⟨R, 20, none⟩ = some (.int .i64 m.s.no) := R5.out.1.cell 20 rfl
  have c21 : w5.cell? ⟨R, 21, none⟩ = some (.int .i64 m.s.fat) := R5.out.1.cell 21 rfl
  have f20 := R5.out.1.free 20
  have f21 := R5.out.1.free 21
  have R6 := hide ((R5.out.rg.set (s' := { m.s with now := .nilFunc, no := no }) 20 (.int .i64 no) rfl).set (s' := { m.s with now := .nilFunc, no := no, fat := q }) 21 (.int .i64 q) rfl)
  have hth : ((w5.setCell ⟨R, 20, none⟩ (.int .i64 no)).setCell ⟨R, 21, none⟩ (.int .i64 q)).there R 0 docZero.size := doc_there R6.out.1.blk (by show 20 ≤ 23; omega)
  clear has c5 f5 m0 b5
  go_wp2_with (refine wpList_store_mid rfl 92 (.tmp 39) (.tmp 37) rfl R 0 docZero rfl rfl hth docSize docOne ?_)
  go_ret
  exact ans_end (x := ⟨Src.zero no q m.s.closed, none, St.zero⟩) (v' := .nilFunc) RG1.out L1.out R6.out.zero rfl
end Go.Proofs.YtfolnkmbdmfigaaGreatDoor

namespace Go.Proofs.YtfolnkmbdmfigaaGreatDoor
open Go.RowKit Go.Maps Go.Lib
variable {F F' G : Nat → Prop} {R : Nat} {w w' w'' wr w1 : World} {s s' : Src} {p : Ptr} {st : St} {c : Int} {a : Addr} {pt : Part} {v : Value} {m : Rd} {N n : Nat}
theorem took_less2 (s : Src) : s.took.1.rest.size ≤ s.rest.size := by
  unfold Src.took
  split
  · exact Nat.le_refl _
  · split
    · simp only [ByteArray.size_extract]; omega
    · exact Nat.le_refl _
theorem mrun_rest : ∀ (n : Nat) (s : Src) (pt : Part) (st : St), (mrun n s pt st).s.rest.size ≤ s.rest.size := by
  intro n
  induction n with
  | zero => intro s pt st; exact Nat.le_refl _
  | succ n ih =>
    intro s pt st
    have h1 := took_less2 s
    simp only [mrun]
    split
    · exact Nat.le_refl _
    · split
      · have := ih s.took.1; exact Nat.le_trans (this _ _) h1
      · exact h1
      · exact h1
theorem advance_ok (h : Rep F R w s p st) (hpt : PartAt F R w s.now pt) (hl : Lim n pt st) (gl : Gl w a) (lo : Low F) (hn : n + s.rest.size ≤ 274877906944) (hok : s.Ok) :
    Calls Tryz.prog 37 #[.pointer (some ⟨R, 0, none⟩)] w (AnsEnd F R w (tells (reads s.bare pt st))) := by
  have hrd := read_ok h hpt hl gl lo hn (Nat.le_refl _) hok
  cases hr : (reads s.bare pt st).ret with
  | more => exact advance_more hrd gl lo hr (by have := mrun_rest (s.bare.rest.size + 1) s.bare pt st; unfold reads; have e : s.bare.rest.size = s.rest.size := rfl; omega)
  | over => exact advance_over hrd gl lo hr
  | fail no q => exact advance_fail hrd gl lo hr
theorem AnsEnd.after {x : PR × List Tok} {e : Ending} (fr : Frame F w w1) (hF : ∀ k, G k → Grow F w w1 k) (h : AnsEnd G R w1 x e w') : AnsEnd F R w x e w' := by
  obtain ⟨v, A, F', he, an, al, f2, h1, h2⟩ := h
  have hs := fr.size
  have hs2 := f2.size
  have up : ∀ k, Grow G w1 w' k → Grow F w w' k := by
    rintro k (x | x)
    · exact (hF k x).elim Or.inl (fun y => Or.inr ⟨y.1, by omega⟩)
    · exact Or.inr ⟨by omega, x.2⟩
  refine ⟨v, A, F', he, an, al, ⟨f2.os.trans fr.os, f2.tape.trans fr.tape, f2.output.trans fr.output, by omega, fun k hk hf => ?_⟩, fun k hk => ⟨up k (h1 k hk).1, (h1 k hk).2⟩, fun k hk => up k (h2 k hk)⟩
  rw [f2.block k (by omega) (fun x => (hF k x).elim hf (fun y => by omega))]
  exact fr.block k hk hf
set_option maxHeartbeats 1000000 in
theorem add_ok (h : Rep F R w s p st) (b : ByteArray) (hz : s.rest.size + b.size ≤ 1099511627776) : Calls Tryz.prog 36 #[.pointer (some ⟨R, 0, none⟩), .string b] w fun e w' => e = .returned (.tuple #[]) ∧ RF F R w { s with rest := s.rest ++ b } p st w' := by
  have c0 : w.cell? ⟨R, 0, none⟩ = some (.string s.rest) := h.cell 0 rfl
  have f0 := h.free 0
  have hz2 : s.rest.size + b.size ≤ 9223372036854775807 := by omega
  have H := hide (RF.refl h)
  have hadd := fun w => run_string_add_sum (P := Tryz.prog) w s.rest b hz2
  clear h
  go_enter Tryz.func36, Tryz.ntmps36
  go_wp2
  go_end0
  exact ⟨rfl, H.out.set 0 _ rfl⟩
set_option maxHeartbeats 1000000 in
theorem end_ok (h : Rep F R w s p st) : Calls Tryz.prog 38 #[.pointer (some ⟨R, 0, none⟩)] w fun e w' => e = .returned (.tuple #[]) ∧ RF F R w { s with ended := true } p st w' := by
  have c3 : w.cell? ⟨R, 3, none⟩ = some (.bool s.ended) := h.cell 3 rfl
  have f3 := h.free 3
  have H := hide (RF.refl h)
  clear h
  go_enter Tryz.func38, Tryz.ntmps38
  go_wp2
  go_end0
  exact ⟨rfl, H.out.set 3 _ rfl⟩
theorem RF.part {s1 : Src} {p1 : Ptr} {st1 : St} (h : RF F R w s1 p1 st1 w') (hlt : ∀ k, F k → k < w.heap.size) (hpt : PartAt F R w v pt) : PartAt (Grow F w w') R w' v pt :=
  hpt.keep (fun k hk hR => h.2.2 k (hlt k hk) hR) (fun _ x => Or.inl x)
set_option maxHeartbeats 2000000 in
theorem write_live (h : Rep F R w s p st) (hpt : PartAt F R w s.now pt) (hl : Lim n pt st) (gl : Gl w a) (lo : Low F) (b : ByteArray) (hn : n + (s.rest.size + b.size) ≤ 274877906944) (hok : 0 ≤ s.next ∧ s.next + (s.rest.size + b.size : Nat) ≤ 1099511627776) (hc : s.closed = false) (hno : s.no = 0) :
    Calls Tryz.prog 21 #[.pointer (some ⟨R, 0, none⟩), .string b] w (AnsEnd F R w (tells (reads { s with rest := s.rest ++ b }.bare pt st))) := by
  have c20 : w.cell? ⟨R, 20, none⟩ = some (.int .i64 s.no) := h.cell 20 rfl
  have c22 : w.cell? ⟨R, 22, none⟩ = some (.bool s.closed) := h.cell 22 rfl
  rw [hno] at c20
  rw [hc] at c22
  have hadd := add_ok h b (by omega)
  have hsz : (s.rest ++ b).size = s.rest.size + b.size := ByteArray.size_append
  have hadv : ∀ w1, RF F R w { s with rest := s.rest ++ b } p st w1 → Calls Tryz.prog 37 #[.pointer (some ⟨R, 0, none⟩)] w1 (AnsEnd (Grow F w w1) R w1 (tells (reads { s with rest := s.rest ++ b }.bare pt st))) := fun w1 r =>
    advance_ok r.1 (r.part h.lt hpt) hl (gl.frame r.2.1 lo) (lo.grow gl.size) (by show n + (s.rest ++ b).size ≤ _; omega) ⟨hok.1, by show s.next + ((s.rest ++ b).size : Int) ≤ _; rw [hsz]; exact hok.2⟩
  have HA := hide hadv
  clear h hpt hl gl lo hadv hok hn
  generalize tells (reads { s with rest := s.rest ++ b }.bare pt st) = x at *
  go_enter Tryz.func21, Tryz.ntmps21
  go_wp2_with (first | (go_at_call 36; refine hadd.mono ?_; rintro e w1 ⟨rfl, r1⟩) | (go_at_call 37; refine (HA.out _ r1).mono ?_; rintro e w2 ⟨v, A, F', rfl, rest⟩))
  go_ret
  exact AnsEnd.after r1.2.1 (fun k hk => hk) ⟨v, A, F', rfl, rest⟩
theorem ans_none (x : PR) (hx : Alive F R w x) : AnsEnd F R w (x, []) (.returned nilS) w :=
  ⟨nilS, fun _ => False, F, rfl, ⟨[], owns_nil _ _ _, .nil, fun k e => absurd e (nil_block k)⟩, hx, Frame.refl _ _, fun k hk => hk.elim, fun k hk => Or.inl hk⟩
set_option maxHeartbeats 2000000 in
theorem write_dead (h : Rep F R w s p st) (b : ByteArray) (hd : s.closed = true ∨ s.no ≠ 0) :
    Calls Tryz.prog 21 #[.pointer (some ⟨R, 0, none⟩), .string b] w fun e w' => e = .returned nilS ∧ w' = w := by
  have c20 : w.cell? ⟨R, 20, none⟩ = some (.int .i64 s.no) := h.cell 20 rfl
  have c22 : w.cell? ⟨R, 22, none⟩ = some (.bool s.closed) := h.cell 22 rfl
  clear h
  by_cases hc : s.closed = true
  · rw [hc] at c22
    clear hd
    go_enter Tryz.func21, Tryz.ntmps21
    go_wp2
    go_ret
    exact ⟨rfl, rfl⟩
  · have hc' : s.closed = false := by simpa using hc
    have hn : (s.no != 0) = true := by
      have : s.no ≠ 0 := hd.resolve_left hc
      simpa using this
    rw [hc'] at c22
    clear hd hc
    go_enter Tryz.func21, Tryz.ntmps21
    go_wp2
    go_ret
    exact ⟨rfl, rfl⟩
set_option maxHeartbeats 2000000 in
theorem close_dead (h : Rep F R w s p st) (hd : s.closed = true) :
    Calls Tryz.prog 22 #[.pointer (some ⟨R, 0, none⟩)] w fun e w' => e = .returned nilS ∧ w' = w := by
  have c22 : w.cell? ⟨R, 22, none⟩ = some (.bool s.closed) := h.cell 22 rfl
  rw [hd] at c22
  clear h
  go_enter Tryz.func22, Tryz.ntmps22
  go_wp2
  go_ret
  exact ⟨rfl, rfl⟩
set_option maxHeartbeats 2000000 in
theorem close_fault (h : Rep F R w s p st) (hc : s.closed = false) (hd : s.no ≠ 0) :
    Calls Tryz.prog 22 #[.pointer (some ⟨R, 0, none⟩)] w fun e w' => e = .returned nilS ∧ RF F R w { s with closed := true } p st w' := by
  have c22 : w.cell? ⟨R, 22, none⟩ = some (.bool s.closed) := h.cell 22 rfl
  have c20 : w.cell? ⟨R, 20, none⟩ = some (.int .i64 s.no) := h.cell 20 rfl
  have f22 := h.free 22
  have hn : (s.no != 0) = true := by simpa using hd
  rw [hc] at c22
  have H := hide ((RF.refl h).set (s' := { s with closed := true }) 22 (.bool true) rfl)
  have d20 : (w.setCell ⟨R, 22, none⟩ (.bool true)).cell? ⟨R, 20, none⟩ = some (.int .i64 s.no) := H.out.1.cell 20 rfl
  clear h hd
  go_enter Tryz.func22, Tryz.ntmps22
  go_wp2
  go_ret
  exact ⟨rfl, H.out⟩
theorem err_open (h : Rep F R w s p st) (hc : s.closed = false) :
    Calls Tryz.prog 24 #[.pointer (some ⟨R, 0, none⟩)] w fun e w' => e = .returned (.tuple #[.int .i64 0, .int .i64 0]) ∧ w' = w := by
  have c22 : w.cell? ⟨R, 22, none⟩ = some (.bool s.closed) := h.cell 22 rfl
  rw [hc] at c22
  clear h
  go_enter Tryz.func24, Tryz.ntmps24
  go_wp2
  go_ret2
  exact ⟨rfl, rfl⟩
set_option maxHeartbeats 2000000 in
theorem err_shut (h : Rep F R w s p st) (hc : s.closed = true) :
    Calls Tryz.prog 24 #[.pointer (some ⟨R, 0, none⟩)] w fun e w' => e = .returned (.tuple #[.int .i64 s.no, .int .i64 s.fat]) ∧ Below w.heap.size w w' := by
  have c22 : w.cell? ⟨R, 22, none⟩ = some (.bool s.closed) := h.cell 22 rfl
  have c20 : w.cell? ⟨R, 20, none⟩ = some (.int .i64 s.no) := h.cell 20 rfl
  have c21 : w.cell? ⟨R, 21, none⟩ = some (.int .i64 s.fat) := h.cell 21 rfl
  rw [hc] at c22
  clear h
  go_enter Tryz.func24, Tryz.ntmps24
  go_wp2
  go_region
  all_goals
    go_wp2
    go_ret2
    exact ⟨rfl, below_drewN (Below.refl _ _) _⟩
def shut (x : PR × List Tok) : PR × List Tok := (⟨Src.zero x.1.s.no x.1.s.fat x.1.s.closed, none, St.zero⟩, x.2)
theorem AnsEnd.zero {x : PR × List Tok} (h : AnsEnd F R w x (.returned v) w') : w'.there R 0 docZero.size ∧ AnsEnd F R w (shut x) (.returned v) (w'.setCells R 0 docZero.toList) := by
  obtain ⟨v', A, F', he, an, ⟨vn, p', r, _⟩, fr, h1, h2⟩ := h
  cases he
  obtain ⟨o1, o2, o3, o4, o5⟩ := setCells_other (R := R) docZero.toList 0 w'
  have hb := setCells_row (R := R) docZero.toList 0 _ w' r.blk
  rw [zero_cells] at hb
  refine ⟨doc_there r.blk (by show 20 ≤ 23; omega), ?_⟩
  generalize w'.setCells R 0 docZero.toList = W at *
  have up : ∀ k, Grow F w w' k → Grow F w W k := fun k hk => by unfold Grow at *; rw [o2]; exact hk
  refine ⟨v, A, F', rfl, an.frame fun k hA => o1 k (fun e => (h1 k hA).2 (e ▸ r.inR)), ⟨.nilFunc, Ptr.zero, ⟨hb, r.inR, fun k hk => by rw [o2]; exact r.lt k hk, Own.zero _ _ _⟩, rfl⟩, ⟨o3.trans fr.os, o4.trans fr.tape, o5.trans fr.output, by rw [o2]; exact fr.size, fun k hk hf => ?_⟩, fun k hk => ⟨up k (h1 k hk).1, (h1 k hk).2⟩, fun k hk => up k (h2 k hk)⟩
  refine (o1 k ?_).trans (fr.block k hk hf)
  intro e
  subst e
  rcases h2 k r.inR with x | x
  · exact hf x
  · omega
set_option maxHeartbeats 4000000 in
set_option maxRecDepth 10000 in
theorem close_live (h : Rep F R w s p st) (hpt : PartAt F R w s.now pt) (hl : Lim n pt st) (gl : Gl w a) (lo : Low F) (hn : n + s.rest.size ≤ 274877906944) (hok : s.Ok) (hc : s.closed = false) (hno : s.no = 0) :
    Calls Tryz.prog 22 #[.pointer (some ⟨R, 0, none⟩)] w (AnsEnd F R w (shut (tells (reads { s with closed := true, ended := true }.bare pt st)))) := by
  have c20 : w.cell? ⟨R, 20, none⟩ = some (.int .i64 s.no) := h.cell 20 rfl
  have c22 : w.cell? ⟨R, 22, none⟩ = some (.bool s.closed) := h.cell 22 rfl
  have f22 := h.free 22
  rw [hno] at c20
  rw [hc] at c22
  have rA := (RF.refl h).set (s' := { s with closed := true }) 22 (.bool true) rfl
  have d20 : (w.setCell ⟨R, 22, none⟩ (.bool true)).cell? ⟨R, 20, none⟩ = some (.int .i64 0) := by rw [← hno]; exact rA.1.cell 20 rfl
  have hend := end_ok rA.1
  have hadv : ∀ wB, RF (Grow F w (w.setCell ⟨R, 22, none⟩ (.bool true))) R (w.setCell ⟨R, 22, none⟩ (.bool true)) { s with closed := true, ended := true } p st wB → Calls Tryz.prog 37 #[.pointer (some ⟨R, 0, none⟩)] wB (AnsEnd F R w (tells (reads { s with closed := true, ended := true }.bare pt st))) := fun wB r => by
    have glA := gl.frame rA.2.1 lo
    have loA : Low (Grow F w (w.setCell ⟨R, 22, none⟩ (.bool true))) := lo.grow gl.size
    have pA := rA.part h.lt hpt
    have pB := r.part rA.1.lt pA
    refine (advance_ok r.1 pB hl (glA.frame r.2.1 loA) (loA.grow glA.size) hn hok).mono ?_
    intro e w' hE
    exact AnsEnd.after (rA.2.1.trans r.2.1) (fun k hk => (Grow.trans rA.2.1.size r.2.1.size k).1 hk) hE
  have HA := hide hadv
  clear h hpt hl gl lo hadv hok hn rA
  generalize tells (reads { s with closed := true, ended := true }.bare pt st) = x at *
  go_enter Tryz.func22, Tryz.ntmps22
  go_wp2_with (first | (go_at_call 38; refine hend.mono ?_; rintro e w1 ⟨rfl, r1⟩) | (go_at_call 37; refine (HA.out _ r1).mono ?_; rintro e w2 ⟨v, A, F', rfl, rest⟩; obtain ⟨hth, hz⟩ := AnsEnd.zero (F := F) (R := R) (w := w) (x := x) ⟨v, A, F', rfl, rest⟩; have HZ := hide hz; clear hz rest) | (refine wpList_store_mid rfl 92 (.tmp 27) (.tmp 25) rfl R 0 docZero rfl rfl hth docSize docOne ?_))
  go_ret
  exact HZ.out
end Go.Proofs.YtfolnkmbdmfigaaGreatDoor

namespace Go.Proofs.YtfolnkmbdmfigaaGreatDoor
open Go.RowKit Go.Maps Go.Lib

def PR.write (r : PR) (b : ByteArray) : PR × List Tok :=
  if r.s.closed = true ∨ r.s.no ≠ 0 then (r, [])
  else match r.pt with
    | some pt => tells (reads { r.s with rest := r.s.rest ++ b }.bare pt r.st)
    | none => (r, [])
def PR.close (r : PR) : PR × List Tok :=
  if r.s.closed = true then (r, [])
  else if r.s.no ≠ 0 then (⟨{ r.s with closed := true }, r.pt, r.st⟩, [])
  else match r.pt with
    | some pt => shut (tells (reads { r.s with closed := true, ended := true }.bare pt r.st))
    | none => (r, [])
def PR.err (r : PR) : Int × Int := if r.s.closed = true then (r.s.no, r.s.fat) else (0, 0)
def PR.new : PR := ⟨Src.zero 0 0 false, some (.plain .between), St.zero⟩
structure Good (r : PR) (N : Nat) : Prop where
  live : r.s.closed = false → r.s.no = 0 → ∃ pt n, r.pt = some pt ∧ Lim n pt r.st ∧ n + r.s.rest.size ≤ N ∧ 0 ≤ r.s.next ∧ r.s.next + r.s.rest.size ≤ (N : Int) ∧ r.s.ended = false ∧ r.st.told = [] ∧ r.s.bare = r.s ∧ r.s.more = true
  shut : r.s.closed = false → r.s.no ≠ 0 → r.pt = none
theorem lim0 (n : Nat) : Lim n (.plain .between) St.zero :=
  ⟨fun _ _ => Nat.zero_le _, Nat.zero_le _, Nat.zero_le _, Nat.zero_le _, Nat.zero_le _, by decide, trivial⟩
theorem good_new : Good PR.new 0 :=
  ⟨fun _ _ => ⟨_, 0, rfl, lim0 0, Nat.le_refl _, by decide, by decide, rfl, rfl, rfl, by decide⟩, fun _ h => absurd rfl h⟩
def St.pre (T : List Tok) (st : St) : St := { st with told := T ++ st.told }
def Out.pre (T : List Tok) (o : Out) : Out := ⟨o.st.pre T, o.res⟩
theorem pre_put (T : List Tok) (st : St) (i : Rn) (c q : Int) : (st.pre T).put i c q = (st.put i c q).pre T := rfl
theorem pre_clear (T : List Tok) (st : St) (i : Rn) : (st.pre T).clear i = (st.clear i).pre T := rfl
theorem pre_tellText (T : List Tok) (st : St) : (st.pre T).tellText = st.tellText.pre T := by
  unfold St.tellText
  have e : (st.pre T).run = st.run := rfl
  rw [e]
  split
  · rfl
  · simp [St.pre, St.clear, St.setRun]
theorem pre_tellOpening (T : List Tok) (st : St) : (st.pre T).tellOpening = st.tellOpening.pre T := by
  unfold St.tellOpening
  rw [pre_tellText]
  simp [St.pre]
theorem pre_tellClosing (T : List Tok) (st : St) : (st.pre T).tellClosing = st.tellClosing.pre T := by
  unfold St.tellClosing
  rw [pre_tellText]
  simp [St.pre]
theorem pre_step (T : List Tok) (k : Pl) (q : Int) (st : St) (c : Int) : step k q (st.pre T) c = (step k q st c).pre T := by
  cases k <;> simp only [step, stPart, stName1, stAttr, stRemark, stOrder, stSection, stBracket, pre_put, pre_clear, pre_tellText, pre_tellOpening, pre_tellClosing, St.addAttr] <;> (repeat' split) <;> first | rfl | (simp_all [St.pre]; done)
theorem pre_putFrom (T : List Tok) (i : Rn) (t : ByteArray) (q : Int) : ∀ f pos st, putFrom i t q f pos (st.pre T) = (putFrom i t q f pos st).pre T := by
  intro f
  induction f with
  | zero => intro pos st; rfl
  | succ f ih =>
    intro pos st
    unfold putFrom
    split
    · rw [pre_put]; exact ih _ _
    · rfl
theorem pre_stepPart (T : List Tok) (pt : Part) (q : Int) (st : St) (c : Int) : stepPart pt q (st.pre T) c = (stepPart pt q st c).pre T := by
  cases pt with
  | plain k => exact pre_step T k q st c
  | word l k =>
    cases l with
    | nil => rfl
    | cons x l =>
      simp only [stepPart, stWord]
      repeat' split
      all_goals rfl
  | name i k =>
    simp only [stepPart, stName, stName1, pre_put, pre_step]
    have e : (st.pre T).run = st.run := rfl
    rw [e]
    repeat' split
    all_goals rfl
  | ref i k =>
    simp only [stepPart, stRef, pre_put]
    split
    · split
      · unfold stRefEnd
        have e : ((st.put .ref 59 q).pre T).run = (st.put .ref 59 q).run := rfl
        have e2 : ((st.put .ref 59 q).pre T).runAt = (st.put .ref 59 q).runAt := rfl
        rw [e, e2]
        split
        · unfold St.putAll
          rw [pre_putFrom]; rfl
        · rfl
      · rfl
    · rfl
theorem pre_mrun (T : List Tok) : ∀ (n : Nat) (s : Src) (pt : Part) (st : St), mrun n s pt (st.pre T) = { mrun n s pt st with st := (mrun n s pt st).st.pre T } := by
  intro n
  induction n with
  | zero => intro s pt st; rfl
  | succ n ih =>
    intro s pt st
    simp only [mrun, pre_stepPart]
    split
    · rfl
    · have e : ((stepPart pt s.took.1.at_ st s.took.2).pre T).res = (stepPart pt s.took.1.at_ st s.took.2).res := rfl
      rw [e]
      cases (stepPart pt s.took.1.at_ st s.took.2).res with
      | go pt' => exact ih _ _ _
      | stop => rfl
      | fail no q => rfl
theorem took_app (s : Src) (b : ByteArray) (h : s.more = false) (he : s.ended = false) : ({ s with rest := s.rest ++ b } : Src).more = false ∧ ({ s with rest := s.rest ++ b } : Src).took = ({ s.took.1 with rest := s.took.1.rest ++ b }, s.took.2) := by
  simp only [Src.more, he, Bool.not_false, Bool.true_and, Bool.not_eq_false'] at h
  obtain ⟨h1, h2⟩ := full_cut s.rest b h
  have h0 : 0 < s.rest.size := by
    by_cases e : s.rest.size = 0
    · simp [Tk.full, e] at h
    · omega
  have hsz : (s.rest ++ b).size = s.rest.size + b.size := ByteArray.size_append
  have hw := Ch.decode_width s.rest 0 h0
  refine ⟨by simp [Src.more, he, h1], ?_⟩
  have hok : Ch.okAt (s.rest ++ b) 0 = Ch.okAt s.rest 0 := by unfold Ch.okAt; rw [h2]
  have e1 : ¬ (s.rest ++ b).size = 0 := by omega
  have e2 : ¬ s.rest.size = 0 := by omega
  simp only [Src.took, e1, e2, if_false, hok, h2]
  split
  · have hx : (s.rest ++ b).extract (Utf8.decode s.rest 0).2 (s.rest ++ b).size = s.rest.extract (Utf8.decode s.rest 0).2 s.rest.size ++ b := by
      rw [hsz]
      apply ByteArray.ext
      apply Array.ext'
      simp only [ByteArray.data_extract, ByteArray.data_append, Array.toList_extract, Array.toList_append, List.extract_eq_take_drop]
      rw [List.drop_append_of_le_length (by show (Utf8.decode s.rest 0).2 ≤ s.rest.data.toList.length; simpa using hw.1)]
      rw [List.take_of_length_le (by simp; have : s.rest.data.size = s.rest.size := rfl; have : b.data.size = b.size := rfl; omega), List.take_of_length_le (by simp)]
    rw [hx]
  · rfl
structure Ends (c : Int) (o : Out) : Prop where
  stop : o.res = .stop → c = -1
  fail : ∀ no q, o.res = .fail no q → no ≠ 0
theorem why_ne (c : Int) : Tk.why c ≠ 0 := by unfold Tk.why; split <;> omega
theorem Ends.go {c : Int} {st : St} {pt : Part} : Ends c ⟨st, .go pt⟩ := ⟨fun e => (by cases e), fun _ _ e => (by cases e)⟩
theorem Ends.why {c : Int} {st : St} {q : Int} : Ends c ⟨st, .fail (Tk.why c) q⟩ := ⟨fun e => (by cases e), fun _ _ e => (by cases e; exact why_ne c)⟩
theorem Ends.num {c : Int} {st : St} {no q : Int} (h : no ≠ 0) : Ends c ⟨st, .fail no q⟩ := ⟨fun e => (by cases e), fun _ _ e => (by cases e; exact h)⟩
theorem step_ends (k : Pl) (q : Int) (st : St) (c : Int) : Ends c (step k q st c) := by
  cases k <;> simp only [step, stPart, stName1, stAttr, stRemark, stOrder, stSection, stBracket] <;> (repeat' split) <;> first | exact .go | exact .why | exact .num (by decide) | exact ⟨fun _ => (by assumption), fun _ _ e => (by cases e)⟩
theorem stepPart_ends (pt : Part) (q : Int) (st : St) (c : Int) : Ends c (stepPart pt q st c) := by
  cases pt with
  | plain k => exact step_ends k q st c
  | word l k =>
    cases l with
    | nil => exact .go
    | cons x l =>
      simp only [stepPart, stWord]
      repeat' split
      all_goals first | exact .go | exact .why
  | name i k =>
    simp only [stepPart, stName, stName1]
    repeat' split
    all_goals first | exact .go | exact .why | exact step_ends k q st c
  | ref i k =>
    simp only [stepPart, stRef]
    split
    · split
      · unfold stRefEnd
        split
        · exact .go
        · exact .num (by decide)
      · exact .go
    · exact .num (by decide)
theorem reads_eq {s : Src} {pt : Part} {st : St} {n : Nat} (hl : Lim n pt st) (h : s.more = false) :
    reads s pt st = match (stepPart pt s.next st s.took.2).res with
      | .go pt' => reads s.took.1 pt' (stepPart pt s.next st s.took.2).st
      | .stop => ⟨s.took.1, pt, (stepPart pt s.next st s.took.2).st, .over⟩
      | .fail no q => ⟨s.took.1, pt, (stepPart pt s.next st s.took.2).st, .fail no q⟩ := by
  have ha : s.took.1.at_ = s.next := took_at s
  conv => lhs; unfold reads
  simp only [mrun, h, Bool.false_eq_true, if_false, ha]
  generalize he : (stepPart pt s.next st s.took.2).res = r
  cases r with
  | go pt' =>
    have hk := took_less hl.sound hl.quote he
    exact mrun_more (s.took.1.rest.size + 1) s.rest.size (n + 1) s.took.1 _ _ (hl.step he) (Nat.lt_succ_self _) (by omega)
  | stop => rfl
  | fail no q => rfl
theorem reads_at {s : Src} {pt : Part} {st : St} (h : s.more = true) : reads s pt st = ⟨s, pt, st, .more⟩ := by
  unfold reads mrun; rw [if_pos h]
structure Stay (s : Src) (k : Nat) (m : Rd) : Prop where
  lim : ∃ n, Lim n m.pt m.st ∧ n + m.s.rest.size ≤ k + s.rest.size
  next : m.s.next + m.s.rest.size = s.next + s.rest.size
  lo : s.next ≤ m.s.next
  more : m.s.more = true
  ended : m.s.ended = s.ended
  no : m.s.no = s.no
  fat : m.s.fat = s.fat
  closed : m.s.closed = s.closed
  now : m.s.now = s.now
structure Cut (s : Src) (k : Nat) (b : ByteArray) (m m2 : Rd) (g : Src → Part → St → Rd) : Prop where
  more : m.ret = .more → m2 = g { m.s with rest := m.s.rest ++ b } m.pt m.st ∧ Stay s k m
  over : m.ret ≠ .over
  fail : ∀ no q, m.ret = .fail no q → no ≠ 0 ∧ tells m2 = tells m ∧ m.s.closed = s.closed
theorem took_stay (s : Src) (h0 : s.rest.size ≠ 0) (hok : Ch.okAt s.rest 0 = true) : s.took.1.next + s.took.1.rest.size = s.next + s.rest.size ∧ s.next ≤ s.took.1.next ∧ s.took.1.ended = s.ended ∧ s.took.1.no = s.no ∧ s.took.1.fat = s.fat ∧ s.took.1.closed = s.closed ∧ s.took.1.now = s.now := by
  have hw := Ch.decode_width s.rest 0 (by omega)
  simp only [Src.took, h0, hok, if_false, if_true, ByteArray.size_extract, and_true]
  omega
theorem took_flags (s : Src) : s.took.1.ended = s.ended ∧ s.took.1.no = s.no ∧ s.took.1.fat = s.fat ∧ s.took.1.closed = s.closed ∧ s.took.1.now = s.now := by
  unfold Src.took; repeat' split
  all_goals exact ⟨rfl, rfl, rfl, rfl, rfl⟩
theorem reads_cut (b : ByteArray) : ∀ (n : Nat) (s : Src) (pt : Part) (st : St) (k : Nat), s.rest.size < n → Lim k pt st → s.ended = false → Cut s k b (reads s pt st) (reads { s with rest := s.rest ++ b } pt st) reads := by
  intro n
  induction n with
  | zero => intro s pt st k h; omega
  | succ n ih =>
    intro s pt st k hn hl he
    by_cases hm : s.more = true
    · rw [reads_at hm]
      exact ⟨fun _ => ⟨rfl, ⟨⟨k, hl, Nat.le_refl _⟩, rfl, Int.le_refl _, hm, rfl, rfl, rfl, rfl, rfl⟩⟩, by simp, fun _ _ e => (by cases e)⟩
    · have hm' : s.more = false := by simpa using hm
      obtain ⟨ha1, ha2⟩ := took_app s b hm' he
      rw [reads_eq hl hm', reads_eq (s := { s with rest := s.rest ++ b }) hl ha1, ha2]
      have hends := stepPart_ends pt s.next st s.took.2
      have hfl := took_flags s
      generalize hr : (stepPart pt s.next st s.took.2).res = r
      cases r with
      | go pt' =>
        have hk := took_less hl.sound hl.quote hr
        have hs := took_stay s hk.2.1 hk.2.2
        have c := ih s.took.1 pt' (stepPart pt s.next st s.took.2).st (k + 1) (by omega) (hl.step hr) (hfl.1.trans he)
        refine ⟨fun e => ?_, c.over, fun no q e => ⟨(c.fail no q e).1, (c.fail no q e).2.1, (c.fail no q e).2.2.trans hfl.2.2.2.1⟩⟩
        obtain ⟨c1, c2⟩ := c.more e
        refine ⟨c1, ⟨?_, c2.next.trans hs.1, Int.le_trans hs.2.1 c2.lo, c2.more, c2.ended.trans hfl.1, c2.no.trans hfl.2.1, c2.fat.trans hfl.2.2.1, c2.closed.trans hfl.2.2.2.1, c2.now.trans hfl.2.2.2.2⟩⟩
        obtain ⟨x, x1, x2⟩ := c2.lim
        refine ⟨x, x1, ?_⟩
        show x + (reads s.took.1 pt' (stepPart pt s.next st s.took.2).st).s.rest.size ≤ k + s.rest.size
        omega
      | stop =>
        exfalso
        have h1 := hends.stop hr
        have h0 : s.rest.size ≠ 0 := by
          intro e
          simp [Src.more, he, Tk.full, e] at hm'
        have hlg := took_leg s
        rw [h1] at hlg
        unfold Src.took at h1
        rw [if_neg h0] at h1
        split at h1
        · simp only at h1; omega
        · simp only at h1; omega
      | fail no q =>
        refine ⟨fun e => (by cases e), by simp, fun no' q' e => ?_⟩
        cases e
        exact ⟨hends.fail _ _ hr, rfl, hfl.2.2.2.1⟩
end Go.Proofs.YtfolnkmbdmfigaaGreatDoor

namespace Go.Proofs.YtfolnkmbdmfigaaGreatDoor
open Go.RowKit Go.Maps Go.Lib
variable {F F' G : Nat → Prop} {R : Nat} {w w' w'' wr w1 : World} {s s' : Src} {p : Ptr} {st : St} {c : Int} {a : Addr} {pt : Part} {v : Value} {m : Rd} {N n : Nat} {r : PR}
theorem Lim.told0 (h : Lim n pt st) : Lim n pt { st with told := [] } := ⟨h.run, h.ref, Nat.zero_le _, h.attrs, h.names, h.quote, h.sound⟩
theorem bare_of (h : s.now = .nilFunc) : s.bare = s := by cases s; cases h; rfl
theorem write_live_eq (hc : r.s.closed = false) (hn : r.s.no = 0) (hp : r.pt = some pt) (b : ByteArray) : r.write b = tells (reads { r.s with rest := r.s.rest ++ b }.bare pt r.st) := by
  unfold PR.write; rw [if_neg (by simp [hc, hn]), hp]
theorem write_dead_eq (h : r.s.closed = true ∨ r.s.no ≠ 0) (b : ByteArray) : r.write b = (r, []) := by
  unfold PR.write; rw [if_pos h]
theorem Good.cut (hg : Good r N) (hc : r.s.closed = false) (hn : r.s.no = 0) (b b2 : ByteArray) : ∃ pt k, r.pt = some pt ∧ k + (r.s.rest ++ b).size ≤ N + b.size ∧ 0 ≤ r.s.next ∧ r.s.next + ((r.s.rest ++ b).size : Int) ≤ (N + b.size : Nat) ∧ r.s.ended = false ∧ r.s.now = .nilFunc ∧ Lim k pt r.st ∧
    Cut ({ r.s with rest := r.s.rest ++ b } : Src).bare k b2 (reads ({ r.s with rest := r.s.rest ++ b } : Src).bare pt r.st) (reads { ({ r.s with rest := r.s.rest ++ b } : Src).bare with rest := ({ r.s with rest := r.s.rest ++ b } : Src).bare.rest ++ b2 } pt r.st) reads := by
  obtain ⟨pt, k, h1, h2, h3, h4, h5, h6, h7, h8, h9⟩ := hg.live hc hn
  have hsz : (r.s.rest ++ b).size = r.s.rest.size + b.size := ByteArray.size_append
  refine ⟨pt, k, h1, by omega, h4, by omega, h6, ?_, h2, reads_cut b2 _ _ pt r.st k (Nat.lt_succ_self _) h2 h6⟩
  have := congrArg Src.now h8
  exact this.symm
theorem write_good (hg : Good r N) (b : ByteArray) : Good (r.write b).1 (N + b.size) := by
  by_cases hd : r.s.closed = true ∨ r.s.no ≠ 0
  · rw [write_dead_eq hd]
    refine ⟨fun h1 h2 => ?_, hg.shut⟩
    rcases hd with h | h
    · simp only at h1; rw [h] at h1; cases h1
    · exact absurd h2 h
  · have hc : r.s.closed = false := by simpa using (not_or.1 hd).1
    have hn : r.s.no = 0 := by simpa using (not_or.1 hd).2
    obtain ⟨pt, k, h1, h2, h3, h4, h5, h6, h7, hcut⟩ := hg.cut hc hn b ⟨#[]⟩
    rw [write_live_eq hc hn h1]
    generalize hs : ({ r.s with rest := r.s.rest ++ b } : Src).bare = s1 at *
    have e1 : s1.rest = r.s.rest ++ b := by rw [← hs]; rfl
    have e2 : s1.next = r.s.next := by rw [← hs]; rfl
    have e3 : s1.ended = false := by rw [← hs]; exact h5
    have e4 : s1.no = 0 := by rw [← hs]; exact hn
    have e5 : s1.closed = false := by rw [← hs]; exact hc
    have e6 : s1.now = .nilFunc := by rw [← hs]; rfl
    generalize reads s1 pt r.st = m at *
    unfold tells
    cases hr : m.ret with
    | more =>
      obtain ⟨_, sy⟩ := hcut.more hr
      obtain ⟨x, x1, x2⟩ := sy.lim
      refine ⟨fun _ _ => ⟨m.pt, x, rfl, x1.told0, ?_, ?_, ?_, sy.ended.trans e3, rfl, bare_of (sy.now.trans e6), sy.more⟩, fun _ h => absurd (sy.no.trans e4) h⟩
      · show x + m.s.rest.size ≤ _; rw [e1] at x2; omega
      · show 0 ≤ m.s.next; have := sy.lo; omega
      · show m.s.next + (m.s.rest.size : Int) ≤ _; have := sy.next; rw [e1, e2] at this; omega
    | over => exact absurd hr hcut.over
    | fail no q =>
      have := hcut.fail no q hr
      exact ⟨fun _ h => absurd h this.1, fun _ _ => rfl⟩
end Go.Proofs.YtfolnkmbdmfigaaGreatDoor

namespace Go.Proofs.YtfolnkmbdmfigaaGreatDoor
open Go.RowKit Go.Maps Go.Lib
variable {F F' G : Nat → Prop} {R : Nat} {w w' w'' wr w1 : World} {s s' : Src} {p : Ptr} {st : St} {c : Int} {a : Addr} {pt : Part} {v : Value} {m : Rd} {N n : Nat} {r : PR}
theorem write_pr (hal : Alive F R w r) (hg : Good r N) (gl : Gl w a) (lo : Low F) (b : ByteArray) (hN : N + b.size ≤ 274877906944) :
    Calls Tryz.prog 21 #[.pointer (some ⟨R, 0, none⟩), .string b] w (AnsEnd F R w (r.write b)) := by
  obtain ⟨vn, p, rep, hx⟩ := hal
  by_cases hd : r.s.closed = true ∨ r.s.no ≠ 0
  · rw [write_dead_eq hd]
    refine (write_dead rep b hd).mono ?_
    rintro e w' ⟨rfl, rfl⟩
    exact ans_none r ⟨vn, p, rep, hx⟩
  · have hc : r.s.closed = false := by simpa using (not_or.1 hd).1
    have hn : r.s.no = 0 := by simpa using (not_or.1 hd).2
    obtain ⟨pt, k, h1, h2, h3, h4, h5, h6, h7, h8, h9⟩ := hg.live hc hn
    rw [write_live_eq hc hn h1]
    rw [h1] at hx
    exact write_live (n := k) rep hx h2 gl lo b (by show k + (r.s.rest.size + b.size) ≤ _; omega) ⟨h4, by show r.s.next + ((r.s.rest.size + b.size : Nat) : Int) ≤ _; omega⟩ hc hn
theorem close_pr (hal : Alive F R w r) (hg : Good r N) (gl : Gl w a) (lo : Low F) (hN : N ≤ 274877906944) :
    Calls Tryz.prog 22 #[.pointer (some ⟨R, 0, none⟩)] w (AnsEnd F R w r.close) := by
  obtain ⟨vn, p, rep, hx⟩ := hal
  unfold PR.close
  by_cases hc : r.s.closed = true
  · rw [if_pos hc]
    refine (close_dead rep hc).mono ?_
    rintro e w' ⟨rfl, rfl⟩
    exact ans_none r ⟨vn, p, rep, hx⟩
  · have hc' : r.s.closed = false := by simpa using hc
    rw [if_neg hc]
    by_cases hn : r.s.no ≠ 0
    · rw [if_pos hn]
      have hp := hg.shut hc' hn
      rw [hp] at hx
      refine (close_fault rep hc' hn).mono ?_
      rintro e w' ⟨rfl, rf⟩
      refine ⟨nilS, fun _ => False, Grow F w w', rfl, ⟨[], owns_nil _ _ _, .nil, fun k e => absurd e (nil_block k)⟩, ⟨vn, p, rf.1, ?_⟩, rf.2.1, fun k hk => hk.elim, fun k hk => hk⟩
      rw [hp]
      exact hx
    · have hn' : r.s.no = 0 := by simpa using hn
      rw [if_neg hn]
      obtain ⟨pt, k, h1, h2, h3, h4, h5, h6, h7, h8, h9⟩ := hg.live hc' hn'
      rw [h1] at hx ⊢
      exact close_live (s := { r.s with now := vn }) (n := k) rep hx h2 gl lo (by show k + r.s.rest.size ≤ _; omega) ⟨h4, by show r.s.next + (r.s.rest.size : Int) ≤ _; omega⟩ hc' hn'
theorem err_pr (hal : Alive F R w r) : Calls Tryz.prog 24 #[.pointer (some ⟨R, 0, none⟩)] w fun e w' => e = .returned (.tuple #[.int .i64 r.err.1, .int .i64 r.err.2]) ∧ Below w.heap.size w w' := by
  obtain ⟨vn, p, rep, hx⟩ := hal
  unfold PR.err
  by_cases hc : r.s.closed = true
  · rw [if_pos hc]
    exact err_shut (s := { r.s with now := vn }) rep hc
  · rw [if_neg hc]
    refine (err_open rep (by simpa using hc)).mono ?_
    rintro e w' ⟨rfl, rfl⟩
    exact ⟨rfl, Below.refl _ _⟩
theorem Alive.below (h : Alive F R w r) (hb : Below w.heap.size w w') : Alive F R w' r := by
  obtain ⟨vn, p, rep, hx⟩ := h
  refine ⟨vn, p, ⟨(hb.block R (rep.lt R rep.inR)).trans rep.blk, rep.inR, fun k hk => Nat.lt_of_lt_of_le (rep.lt k hk) hb.size, rep.own.frame (fun k hk _ => hb.block k (rep.lt k hk)) (fun _ x => x)⟩, ?_⟩
  cases hp : r.pt with
  | none => rw [hp] at hx; exact hx
  | some pt =>
    rw [hp] at hx
    exact hx.keep (fun k hk _ => hb.block k (rep.lt k hk)) (fun _ x => x)
theorem Alive.keep (h : Alive F R w r) (hk : ∀ k, F k → w'.heap[k]? = w.heap[k]?) (hs : w.heap.size ≤ w'.heap.size) : Alive F R w' r := by
  obtain ⟨vn, p, rep, hx⟩ := h
  refine ⟨vn, p, ⟨(hk R rep.inR).trans rep.blk, rep.inR, fun k hf => Nat.lt_of_lt_of_le (rep.lt k hf) hs, rep.own.frame (fun k hf _ => hk k hf) (fun _ x => x)⟩, ?_⟩
  cases hp : r.pt with
  | none => rw [hp] at hx; exact hx
  | some pt =>
    rw [hp] at hx
    exact hx.keep (fun k hf _ => hk k hf) (fun _ x => x)
def newCells : Array Value := cellsOf { Src.zero 0 0 false with now := Pl.val .between } Ptr.zero St.zero
set_option maxHeartbeats 2000000 in
theorem new_ok (w : World) : Calls Tryz.prog 20 #[] w fun e w' => e = .returned (.pointer (some ⟨w.heap.size, 0, none⟩)) ∧ w' = w.alloc (.cells newCells 96) := by
  go_enter Tryz.func20, Tryz.ntmps20
  go_wp2
  go_ret
  exact ⟨rfl, rfl⟩
theorem new_alive (w : World) : Alive (fun k => k = w.heap.size) w.heap.size (w.alloc (.cells newCells 96)) PR.new :=
  ⟨Pl.val .between, Ptr.zero, ⟨Below_new _ _, rfl, fun k hk => by rw [hk]; simp, Own.zero _ _ _⟩, rfl⟩
end Go.Proofs.YtfolnkmbdmfigaaGreatDoor

namespace Go.Proofs.YtfolnkmbdmfigaaGreatDoor
open Go.RowKit Go.Maps Go.Lib
variable {F F' G A B : Nat → Prop} {R : Nat} {w w' w'' wr w1 : World} {s s' : Src} {p : Ptr} {st : St} {c : Int} {a : Addr} {pt : Part} {v : Value} {m : Rd} {N n : Nat} {r : PR} {l : List Tok}
theorem told_step (pt : Part) (q : Int) (st : St) (c : Int) : (stepPart pt q st c).st.told.length ≤ st.told.length + 4 := by
  cases pt with
  | plain k => exact (step_adds k q st c).told
  | word l k =>
    cases l with
    | nil => exact Nat.le_add_right _ _
    | cons x l => exact (stWord_adds x l k q st c).told
  | name i k => exact (stName_adds i k q st c).told
  | ref i k =>
    simp only [stepPart, stRef]
    split
    · split
      · unfold stRefEnd
        split
        · show (putFrom _ _ _ _ _ _).told.length ≤ _; rw [(putFrom_same _ _ _ _ _ _).1]; exact Nat.le_add_right _ _
        · exact Nat.le_add_right _ _
      · exact Nat.le_add_right _ _
    · exact Nat.le_add_right _ _
theorem mrun_told : ∀ (n : Nat) (s : Src) (pt : Part) (st : St), (mrun n s pt st).st.told.length ≤ st.told.length + 4 * n := by
  intro n
  induction n with
  | zero => intro s pt st; exact Nat.le_refl _
  | succ n ih =>
    intro s pt st
    have h := told_step pt s.took.1.at_ st s.took.2
    simp only [mrun]
    split
    · show st.told.length ≤ _; omega
    · split
      · rename_i pt' e
        have := ih s.took.1 pt' (stepPart pt s.took.1.at_ st s.took.2).st
        omega
      · show (stepPart pt s.took.1.at_ st s.took.2).st.told.length ≤ _; omega
      · show (stepPart pt s.took.1.at_ st s.took.2).st.told.length ≤ _; omega
theorem tells_told (m : Rd) : (tells m).2 = m.st.told := by
  unfold tells; cases m.ret <;> rfl
theorem write_told (hg : Good r N) (b : ByteArray) : (r.write b).2.length ≤ 4 * (N + b.size) + 4 := by
  by_cases hd : r.s.closed = true ∨ r.s.no ≠ 0
  · rw [write_dead_eq hd]; exact Nat.zero_le _
  · have hc : r.s.closed = false := by simpa using (not_or.1 hd).1
    have hn : r.s.no = 0 := by simpa using (not_or.1 hd).2
    obtain ⟨pt, k, h1, h2, h3, h4, h5, h6, h7, h8, h9⟩ := hg.live hc hn
    rw [write_live_eq hc hn h1, tells_told]
    have hsz : (r.s.rest ++ b).size = r.s.rest.size + b.size := ByteArray.size_append
    have := mrun_told ((r.s.rest ++ b).size + 1) { r.s with rest := r.s.rest ++ b }.bare pt r.st
    rw [h7] at this
    simp only [List.length_nil] at this
    exact Nat.le_trans this (by omega)
theorem close_told (hg : Good r N) : r.close.2.length ≤ 4 * N + 4 := by
  unfold PR.close
  split
  · exact Nat.zero_le _
  · rename_i hc
    split
    · exact Nat.zero_le _
    · rename_i hn
      obtain ⟨pt, k, h1, h2, h3, h4, h5, h6, h7, h8, h9⟩ := hg.live (by simpa using hc) (by simpa using hn)
      rw [h1]
      show (shut (tells (reads { r.s with closed := true, ended := true }.bare pt r.st))).2.length ≤ _
      unfold shut
      rw [tells_told]
      have := mrun_told (r.s.rest.size + 1) { r.s with closed := true, ended := true }.bare pt r.st
      rw [h7] at this
      simp only [List.length_nil] at this
      exact Nat.le_trans this (by omega)

theorem Toks.one {cs : List Value} {av : Value} (h : Toks A R w av l cs) : ∀ u ∈ cs, u.oneCell' = true := by
  induction h with
  | nil => intro u hu; cases hu
  | cons t v l cs ho hf hl ih =>
    intro u hu
    rw [List.mem_append] at hu
    rcases hu with hu | hu
    · simp only [tokCells, List.mem_cons, List.not_mem_nil, or_false] at hu
      rcases hu with rfl | rfl | rfl | rfl | rfl
      · rfl
      · rfl
      · rcases ho.2 with ⟨rfl, _⟩ | ⟨g, cap, cur, rfl, _⟩
        · rfl
        · rfl
      · rfl
      · rfl
    · exact ih u hu
theorem app_nil (b : Option Addr) (n c : Nat) (hn : n ≤ c) (w : World) : (Builtin.append_ #[47, 47] 47 #[.slice b n c, .slice none 0 0]).run Tryz.prog w = .ok (.slice b n c) w := by
  cases b <;> simp [Builtin.append_, underlying, Tryz.underlying47, Tryz.sizeOf56, Builtin.lenOf, Builtin.firstCells, hn, storeCells, Result.andThen]
end Go.Proofs.YtfolnkmbdmfigaaGreatDoor
