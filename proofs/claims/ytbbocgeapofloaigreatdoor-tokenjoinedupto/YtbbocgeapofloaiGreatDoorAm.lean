import Derived.WalkKit
import Derived.WalkSpells
import Derived.LaidEql
import Derived.Stop.Asserts
import Derived.RowKitTokens
import Derived.Outline
import Derived.Shelf.Strconv.Clone
import Derived.Test.YtbbocgeapofloaiGreatDoorProg
set_option linter.unusedVariables false
set_option linter.unusedSimpArgs false
namespace Go.Proofs.YtbbocgeapofloaiGreatDoor
open Go.RowKit Go.Extern.Stop Go.Stop Go.Extern

theorem isTypeOf (v : Value) (w : World) : (Extern.ReflectliteType.typeOf #[.iface 162 v]).run Tryz.prog w = .ok (.iface 132 (.agg #[.pointer (some ⟨5, 162, none⟩)])) w := by kernel_rfl
theorem isComparable (w : World) : (callFunc 139 #[.agg #[.pointer (some ⟨5, 162, none⟩)]]).run Tryz.prog w = .ok (.value (.bool true)) w := by kernel_rfl
theorem isMethodComparable (v : Value) (w : World) : (Go.method 292 132 v "Comparable").run Tryz.prog w = .ok (139, v) w := by kernel_rfl
theorem isComp : (Tryz.prog.info? 162).map (·.comparable) = some true := by kernel_rfl
theorem isSize : (Tryz.prog.info? 180).map (·.size) = some 1 := by kernel_rfl
theorem noIsE (v : Value) (xT : TypeId) (w : World) : (Instr.typeAssert (.iface 60 v) xT 134 true).run Tryz.prog w = .ok (.tuple #[.nilIface, .bool false]) w := run_typeAssert_lacksB Tryz.underlying134 (by kernel_rfl) (by kernel_rfl) v xT w
theorem noUnwrapE (v : Value) (xT : TypeId) (w : World) : (Instr.typeAssert (.iface 60 v) xT 137 true).run Tryz.prog w = .ok (.tuple #[.nilIface, .bool false]) w := run_typeAssert_lacksB Tryz.underlying137 (by kernel_rfl) (by kernel_rfl) v xT w
theorem noUnwrapsE (v : Value) (xT : TypeId) (w : World) : (Instr.typeAssert (.iface 60 v) xT 138 true).run Tryz.prog w = .ok (.tuple #[.nilIface, .bool false]) w := run_typeAssert_lacksB Tryz.underlying138 (by kernel_rfl) (by kernel_rfl) v xT w
theorem eql_nil_more (a : Addr) (w : World) : (binOp .eql 71 .nilIface (.iface 162 (.pointer (some a)))).run Tryz.prog w = .ok (.bool false) w := by kernel_rfl
theorem eql_wrong_more (n p : Int) (a : Addr) (w : World) : (binOp .eql 71 (.iface 60 (.agg #[.int .i64 n, .int .i64 p])) (.iface 162 (.pointer (some a)))).run Tryz.prog w = .ok (.bool false) w := by kernel_rfl

theorem is_nil (a : Addr) (w : World) : Calls Tryz.prog 28 #[.nilIface, .iface 162 (.pointer (some a))] w fun e w' => e = .returned (.bool false) ∧ w' = w := by
  have h := eql_nil_more a
  go_enter Tryz.func28, Tryz.ntmps28
  go_wp2
  go_ret
  exact ⟨rfl, rfl⟩

set_option maxHeartbeats 1000000 in
theorem is_same (a : Addr) (w : World) :
    Calls Tryz.prog 28 #[.iface 162 (.pointer (some a)), .iface 162 (.pointer (some a))] w fun e w' => e = .returned (.bool true) ∧ w' = w := by
  obtain ⟨i, hi, hcmp⟩ := Option.map_eq_some_iff.1 isComp
  obtain ⟨j, hj, hjs⟩ := Option.map_eq_some_iff.1 isSize
  have h8 := @run_callFunc_extern Tryz.prog 52 _ Extern.ReflectliteType.typeOf Tryz.func52 (by kernel_rfl) (by kernel_rfl) (by kernel_rfl) (by kernel_rfl)
  have tT := isTypeOf
  have cT := isComparable
  have mR := isMethodComparable
  have heq := run_eql_iface_ptr_same (P := Tryz.prog) w a Tryz.underlying71 Tryz.underlying162 hi hcmp hj
  go_enter Tryz.func28, Tryz.ntmps28
  go_wp2
  refine wp_loop_rounds 1 ?_
  rw [rounds_succ]
  go_wp2
  go_ret
  exact ⟨rfl, rfl⟩

set_option maxHeartbeats 1000000 in
theorem is_wrong (n p : Int) (a : Addr) (w : World) : Calls Tryz.prog 28 #[.iface 60 (.agg #[.int .i64 n, .int .i64 p]), .iface 162 (.pointer (some a))] w fun e w' => e = .returned (.bool false) ∧ w' = w := by
  have h8 := @run_callFunc_extern Tryz.prog 52 _ Extern.ReflectliteType.typeOf Tryz.func52 (by kernel_rfl) (by kernel_rfl) (by kernel_rfl) (by kernel_rfl)
  have tT := isTypeOf
  have cT := isComparable
  have mR := isMethodComparable
  have h := eql_wrong_more n p a
  have n1 := noIsE
  have n2 := noUnwrapE
  have n3 := noUnwrapsE
  go_enter Tryz.func28, Tryz.ntmps28
  go_wp2
  refine wp_loop_rounds 1 ?_
  rw [rounds_succ]
  go_wp2
  go_ret
  exact ⟨rfl, rfl⟩
end Go.Proofs.YtbbocgeapofloaiGreatDoor
namespace Go.Proofs.YtbbocgeapofloaiGreatDoor
open Go.RowKit Go.Extern.Stop Go.Stop Go.Extern

/-- errors.As(nil, target). -/
theorem as_nil (t : Value) (w : World) :
    Calls Tryz.prog 30 #[.nilIface, t] w fun e w' => e = .returned (.bool false) ∧ w' = w := by
  go_enter Tryz.func30, Tryz.ntmps30
  go_wp2
  go_ret
  exact ⟨rfl, rfl⟩

theorem valueOf87 (t : Addr) (w : World) : (callFunc 55 #[.iface 80 (.pointer (some t))]).run Tryz.prog w = .ok (.value (.agg #[.pointer (some ⟨5, 80, none⟩), .pointer (some ⟨w.heap.size, 0, none⟩), .int .u64 150])) (w.alloc (.cells #[.pointer (some t)] 80)) := by kernel_rfl
theorem type87 (a : Addr) (w : World) : (callFunc 56 #[.agg #[.pointer (some ⟨5, 80, none⟩), .pointer (some a), .int .u64 150]]).run Tryz.prog w = .ok (.value (.iface 132 (.agg #[.pointer (some ⟨5, 80, none⟩)]))) w := by kernel_rfl
theorem methodKind (h : Value) (w : World) : (Go.method 292 132 (.agg #[h]) "Kind").run Tryz.prog w = .ok (129, h) w := by kernel_rfl
theorem methodElem (h : Value) (w : World) : (Go.method 292 132 (.agg #[h]) "Elem").run Tryz.prog w = .ok (140, .agg #[h]) w := by kernel_rfl
theorem methodImplements (h : Value) (w : World) : (Go.method 292 132 (.agg #[h]) "Implements").run Tryz.prog w = .ok (141, .agg #[h]) w := by kernel_rfl
theorem methodAssignableTo (h : Value) (w : World) : (Go.method 292 132 (.agg #[h]) "AssignableTo").run Tryz.prog w = .ok (138, .agg #[h]) w := by kernel_rfl
theorem kind87 (w : World) : (callFunc 129 #[.pointer (some ⟨5, 80, none⟩)]).run Tryz.prog w = .ok (.value (.int .u8 22)) w := by kernel_rfl
theorem kind68 (w : World) : (callFunc 129 #[.pointer (some ⟨5, 60, none⟩)]).run Tryz.prog w = .ok (.value (.int .u8 25)) w := by kernel_rfl
theorem elem87 (w : World) : (callFunc 140 #[.agg #[.pointer (some ⟨5, 80, none⟩)]]).run Tryz.prog w = .ok (.value (.iface 132 (.agg #[.pointer (some ⟨5, 60, none⟩)]))) w := by kernel_rfl
theorem implements68 (w : World) : (callFunc 141 #[.agg #[.pointer (some ⟨5, 60, none⟩)], .iface 132 (.agg #[.pointer (some ⟨5, 71, none⟩)])]).run Tryz.prog w = .ok (.value (.bool true)) w := by kernel_rfl
theorem typeOf68 (v : Value) (w : World) : (callFunc 52 #[.iface 60 v]).run Tryz.prog w = .ok (.value (.iface 132 (.agg #[.pointer (some ⟨5, 60, none⟩)]))) w := by kernel_rfl
theorem assignable68 (w : World) : (callFunc 138 #[.agg #[.pointer (some ⟨5, 60, none⟩)], .iface 132 (.agg #[.pointer (some ⟨5, 60, none⟩)])]).run Tryz.prog w = .ok (.value (.bool true)) w := by kernel_rfl
theorem valueOf68 (n p : Int) (w : World) : (callFunc 55 #[.iface 60 (.agg #[.int .i64 n, .int .i64 p])]).run Tryz.prog w = .ok (.value (.agg #[.pointer (some ⟨5, 60, none⟩), .pointer (some ⟨w.heap.size, 0, none⟩), .int .u64 153])) (w.alloc (.cells #[.int .i64 n, .int .i64 p] 60)) := by kernel_rfl
end Go.Proofs.YtbbocgeapofloaiGreatDoor
namespace Go.Proofs.YtbbocgeapofloaiGreatDoor
open Go.RowKit Go.Extern.Stop Go.Stop Go.Extern

theorem parts87 (a : Addr) (w : World) : (ReflectliteValue.parts (.agg #[.pointer (some ⟨5, 80, none⟩), .pointer (some a), .int .u64 150])).run Tryz.prog w = .ok (some (80, a, 150)) w := by kernel_rfl
theorem elemOf87 (w : World) : (Rtype.elem? 80).run Tryz.prog w = .ok (some 60) w := by kernel_rfl
theorem mk68 (p : Addr) (w : World) : (ReflectliteValue.mk 60 p ReflectliteValue.flagAddr).run Tryz.prog w = .ok (.agg #[.pointer (some ⟨5, 60, none⟩), .pointer (some p), .int .u64 409]) w := by kernel_rfl
theorem parts68a (a : Addr) (w : World) : (ReflectliteValue.parts (.agg #[.pointer (some ⟨5, 60, none⟩), .pointer (some a), .int .u64 409])).run Tryz.prog w = .ok (some (60, a, 409)) w := by kernel_rfl
theorem parts68 (a : Addr) (w : World) : (ReflectliteValue.parts (.agg #[.pointer (some ⟨5, 60, none⟩), .pointer (some a), .int .u64 153])).run Tryz.prog w = .ok (some (60, a, 153)) w := by kernel_rfl
theorem direct68 (w : World) : (Rtype.directlyAssignable 60 60).run Tryz.prog w = .ok true w := by kernel_rfl

theorem isNil87 (a p : Addr) (W : World) (ha : W.cell? a = some (.pointer (some p))) :
    (callFunc 57 #[.agg #[.pointer (some ⟨5, 80, none⟩), .pointer (some a), .int .u64 150]]).run Tryz.prog W = .ok (.value (.bool false)) W := by
  have h8 := @run_callFunc_extern Tryz.prog 57 _ (ReflectliteValue.method (ReflectliteValue.valueError "reflectlite.Value.IsNil" 0) ReflectliteValue.isNil) Tryz.func57 (by kernel_rfl) (by kernel_rfl) (by kernel_rfl) (by kernel_rfl)
  rw [h8]
  have e1 : (ReflectliteValue.method (ReflectliteValue.valueError "reflectlite.Value.IsNil" 0) ReflectliteValue.isNil #[.agg #[.pointer (some ⟨5, 80, none⟩), .pointer (some a), .int .u64 150]]).run Tryz.prog W = _ := Sem.run_bind' Tryz.prog (ReflectliteValue.parts (.agg #[.pointer (some ⟨5, 80, none⟩), .pointer (some a), .int .u64 150])) _ W
  rw [e1, parts87]
  simp [ReflectliteValue.isNil, loadVar, isAgg, underlying, Tryz.underlying80, ha, Result.andThen]

theorem elemV87 (a p : Addr) (W : World) (ha : W.cell? a = some (.pointer (some p))) :
    (callFunc 88 #[.agg #[.pointer (some ⟨5, 80, none⟩), .pointer (some a), .int .u64 150]]).run Tryz.prog W = .ok (.value (.agg #[.pointer (some ⟨5, 60, none⟩), .pointer (some p), .int .u64 409])) W := by
  have h8 := @run_callFunc_extern Tryz.prog 88 _ (ReflectliteValue.method (ReflectliteValue.valueError "reflectlite.Value.Elem" 0) ReflectliteValue.elem) Tryz.func88 (by kernel_rfl) (by kernel_rfl) (by kernel_rfl) (by kernel_rfl)
  rw [h8]
  have e1 : (ReflectliteValue.method (ReflectliteValue.valueError "reflectlite.Value.Elem" 0) ReflectliteValue.elem #[.agg #[.pointer (some ⟨5, 80, none⟩), .pointer (some a), .int .u64 150]]).run Tryz.prog W = _ := Sem.run_bind' Tryz.prog (ReflectliteValue.parts (.agg #[.pointer (some ⟨5, 80, none⟩), .pointer (some a), .int .u64 150])) _ W
  rw [e1, parts87]
  simp [ReflectliteValue.elem, loadVar, isAgg, underlying, Tryz.underlying80, ha, Result.andThen, elemOf87, mk68]

theorem load68 (b : Nat) (n p : Int) (W : World) (h0 : W.cell? ⟨b, 0, none⟩ = some (.int .i64 n)) (h1 : W.cell? ⟨b, 1, none⟩ = some (.int .i64 p)) :
    (loadVar 60 ⟨b, 0, none⟩).run Tryz.prog W = .ok (.agg #[.int .i64 n, .int .i64 p]) W := by
  simp [loadVar, Tryz.isAgg60, Tryz.sizeOf60, loadCells, loadCellsFrom, h0, h1, Addr.add, Result.andThen]

theorem set68 (t b : Nat) (n p : Int) (o1 o2 : Value) (W : World) (hb0 : W.cell? ⟨b, 0, none⟩ = some (.int .i64 n)) (hb1 : W.cell? ⟨b, 1, none⟩ = some (.int .i64 p)) (ht0 : W.cell? ⟨t, 0, none⟩ = some o1) (ht1 : W.cell? ⟨t, 1, none⟩ = some o2) (hf0 : W.frozen? ⟨t, 0, none⟩ = false) (hf1 : W.frozen? ⟨t, 1, none⟩ = false) :
    (callFunc 89 #[.agg #[.pointer (some ⟨5, 60, none⟩), .pointer (some ⟨t, 0, none⟩), .int .u64 409], .agg #[.pointer (some ⟨5, 60, none⟩), .pointer (some ⟨b, 0, none⟩), .int .u64 153]]).run Tryz.prog W = .ok (.value (.tuple #[])) ((W.setCell ⟨t, 0, none⟩ (.int .i64 n)).setCell ⟨t, 1, none⟩ (.int .i64 p)) := by
  have h8 := @run_callFunc_extern Tryz.prog 89 _ ReflectliteValue.set Tryz.func89 (by kernel_rfl) (by kernel_rfl) (by kernel_rfl) (by kernel_rfl)
  rw [h8]
  have e1 : (ReflectliteValue.set #[.agg #[.pointer (some ⟨5, 60, none⟩), .pointer (some ⟨t, 0, none⟩), .int .u64 409], .agg #[.pointer (some ⟨5, 60, none⟩), .pointer (some ⟨b, 0, none⟩), .int .u64 153]]).run Tryz.prog W = _ := Sem.run_bind' Tryz.prog (ReflectliteValue.parts (.agg #[.pointer (some ⟨5, 60, none⟩), .pointer (some ⟨t, 0, none⟩), .int .u64 409])) _ W
  have l68 := load68 b n p W hb0 hb1
  rw [e1, parts68a]
  clear e1 h8
  simp only [Array.getLit, List.getElem_toArray, List.getElem_cons_succ, List.getElem_cons_zero, Sem.run_bind, parts68, Result.andThen]
  simp [ReflectliteValue.flagAddr, l68, Result.andThen, direct68, storeVar, Tryz.sizeOf60, Value.cells, storeCells, Addr.add]
  have k1 : (W.setCell ⟨t, 0, none⟩ (.int .i64 n)).cell? ⟨t, 1, none⟩ = some o2 := by rw [World.cell?_setCell_other]; exact ht1; simp
  have k2 : (W.setCell ⟨t, 0, none⟩ (.int .i64 n)).frozen? ⟨t, 1, none⟩ = false := (World.frozen?_setCell _ _ _ _).trans hf1
  rw [run_store Tryz.prog W ⟨t, 0, none⟩ _ _ (by rfl), ht0, hf0]
  simp only [Bool.false_eq_true, if_false]
  rw [run_store Tryz.prog _ ⟨t, 1, none⟩ _ _ (by rfl), k1, k2]
  rfl
end Go.Proofs.YtbbocgeapofloaiGreatDoor
namespace Go.Proofs.YtbbocgeapofloaiGreatDoor
open Go.RowKit Go.Extern.Stop Go.Stop Go.Extern

def V87 (b : Nat) : Array Value := #[.pointer (some ⟨5, 80, none⟩), .pointer (some ⟨b, 0, none⟩), .int .u64 150]

set_option maxHeartbeats 4000000 in
set_option maxRecDepth 10000 in
theorem as_hit (t : Nat) (n p : Int) (o1 o2 : Value) (w : World) (hg : w.cell? ⟨1, 0, none⟩ = some (.iface 132 (.agg #[.pointer (some ⟨5, 71, none⟩)]))) (ht0 : w.cell? ⟨t, 0, none⟩ = some o1) (ht1 : w.cell? ⟨t, 1, none⟩ = some o2) (hf0 : w.frozen? ⟨t, 0, none⟩ = false) (hf1 : w.frozen? ⟨t, 1, none⟩ = false) :
    Calls Tryz.prog 30 #[.iface 60 (.agg #[.int .i64 n, .int .i64 p]), .iface 80 (.pointer (some ⟨t, 0, none⟩))] w fun ev w' => ev = .returned (.bool true) ∧
      w' = (((((w.alloc (.cells #[.pointer (some ⟨t, 0, none⟩)] 80)).alloc (.cells (V87 w.heap.size) 106)).alloc (.cells (V87 w.heap.size) 106)).alloc (.cells #[.int .i64 n, .int .i64 p] 60)).setCell ⟨t, 0, none⟩ (.int .i64 n)).setCell ⟨t, 1, none⟩ (.int .i64 p) := by
  have htl : t < w.heap.size := World.block_lt_of_cell? w _ ht0
  have hgl : 1 < w.heap.size := World.block_lt_of_cell? w _ hg
  have f6 := valueOf87
  have f7 := type87
  have mK := methodKind
  have mE := methodElem
  have mI := methodImplements
  have mA := methodAssignableTo
  have k1 := kind87
  have k2 := kind68
  have e1 := elem87
  have i1 := implements68
  have t1 := typeOf68 (.agg #[.int .i64 n, .int .i64 p])
  have a1 := assignable68
  have v1 := valueOf68 n p
  have n8 := isNil87 ⟨w.heap.size, 0, none⟩ ⟨t, 0, none⟩ ((w.alloc (.cells #[.pointer (some ⟨t, 0, none⟩)] 80)).alloc (.cells #[.pointer (some ⟨5, 80, none⟩), .pointer (some ⟨w.heap.size, 0, none⟩), .int .u64 150] 106)) (by simp)
  have el := elemV87 ⟨w.heap.size, 0, none⟩ ⟨t, 0, none⟩ (((w.alloc (.cells #[.pointer (some ⟨t, 0, none⟩)] 80)).alloc (.cells #[.pointer (some ⟨5, 80, none⟩), .pointer (some ⟨w.heap.size, 0, none⟩), .int .u64 150] 106)).alloc (.cells #[.pointer (some ⟨5, 80, none⟩), .pointer (some ⟨w.heap.size, 0, none⟩), .int .u64 150] 106)) (by rw [World.cell?_alloc_lt _ _ ⟨w.heap.size, 0, none⟩ (by simp; omega)]; simp)
  have hg2 : ((w.alloc (.cells #[.pointer (some ⟨t, 0, none⟩)] 80)).alloc (.cells #[.pointer (some ⟨5, 80, none⟩), .pointer (some ⟨w.heap.size, 0, none⟩), .int .u64 150] 106)).cell? ⟨1, 0, none⟩ = some (.iface 132 (.agg #[.pointer (some ⟨5, 71, none⟩)])) := by
    rw [World.cell?_alloc_lt _ _ ⟨1, 0, none⟩ (by simp; omega), World.cell?_alloc_lt _ _ ⟨1, 0, none⟩ hgl]; exact hg
  have old : ∀ (W : World) (o : Obj) (i : Nat) (v : Value), t < W.heap.size → W.cell? ⟨t, i, none⟩ = some v → (W.alloc o).cell? ⟨t, i, none⟩ = some v := fun W o i v hl h => by rw [World.cell?_alloc_lt _ _ ⟨t, i, none⟩ hl]; exact h
  have oldF : ∀ (W : World) (o : Obj) (i : Nat), t < W.heap.size → W.frozen? ⟨t, i, none⟩ = false → (W.alloc o).frozen? ⟨t, i, none⟩ = false := fun W o i hl h => by rw [World.frozen?_alloc_old _ _ ⟨t, i, none⟩ (Nat.ne_of_lt hl)]; exact h
  have st := set68 t (w.heap.size + 1 + 1 + 1) n p o1 o2 ((((w.alloc (.cells #[.pointer (some ⟨t, 0, none⟩)] 80)).alloc (.cells #[.pointer (some ⟨5, 80, none⟩), .pointer (some ⟨w.heap.size, 0, none⟩), .int .u64 150] 106)).alloc (.cells #[.pointer (some ⟨5, 80, none⟩), .pointer (some ⟨w.heap.size, 0, none⟩), .int .u64 150] 106)).alloc (.cells #[.int .i64 n, .int .i64 p] 60))
    (by rw [World.cell?_alloc_at _ _ _ _ (by simp)]; rfl)
    (by rw [World.cell?_alloc_at _ _ _ _ (by simp)]; rfl)
    (old _ _ _ _ (by simp; omega) (old _ _ _ _ (by simp; omega) (old _ _ _ _ (by simp; omega) (old _ _ _ _ htl ht0))))
    (old _ _ _ _ (by simp; omega) (old _ _ _ _ (by simp; omega) (old _ _ _ _ (by simp; omega) (old _ _ _ _ htl ht1))))
    (oldF _ _ _ (by simp; omega) (oldF _ _ _ (by simp; omega) (oldF _ _ _ (by simp; omega) (oldF _ _ _ htl hf0))))
    (oldF _ _ _ (by simp; omega) (oldF _ _ _ (by simp; omega) (oldF _ _ _ (by simp; omega) (oldF _ _ _ htl hf1))))
  clear old oldF
  go_enter Tryz.func30, Tryz.ntmps30
  go_wp2
  refine wp_loop_rounds 1 ?_
  rw [rounds_succ]
  go_wp2
  go_ret
  refine ⟨rfl, ?_⟩
  rfl
end Go.Proofs.YtbbocgeapofloaiGreatDoor
namespace Go.Proofs
open Go.Shelf
def Tryz.lays316_ren : Go.Shelf.Ren := ⟨fun | 316 => 87 | n => n, fun | 0 => 0 | 3 => 3 | 4 => 4 | 5 => 5 | 9 => 9 | 37 => 53 | 127 => 152 | n => n, fun | n => n⟩
theorem Tryz.lays316 : Go.Proofs.LaysM.n316 Tryz.prog Tryz.lays316_ren := {
  mixed := by kernel_rfl
  f316 := Tryz.func87.trans (congrArg some (by kernel_rfl))
  t0 := Tryz.underlying0
  a0 := Tryz.isAgg0
  z0 := Tryz.sizeOf0
  v0 := Tryz.zeroValue0
  i0 := by kernel_rfl
  t3 := Tryz.underlying3
  a3 := Tryz.isAgg3
  z3 := Tryz.sizeOf3
  v3 := Tryz.zeroValue3
  i3 := by kernel_rfl
  t4 := Tryz.underlying4
  a4 := Tryz.isAgg4
  z4 := Tryz.sizeOf4
  v4 := Tryz.zeroValue4
  i4 := by kernel_rfl
  t5 := Tryz.underlying5
  a5 := Tryz.isAgg5
  z5 := Tryz.sizeOf5
  v5 := Tryz.zeroValue5
  i5 := by kernel_rfl
  t9 := Tryz.underlying9
  a9 := Tryz.isAgg9
  z9 := Tryz.sizeOf9
  v9 := Tryz.zeroValue9
  i9 := by kernel_rfl
  t37 := Tryz.underlying53
  a37 := Tryz.isAgg53
  z37 := Tryz.sizeOf53
  v37 := Tryz.zeroValue53
  i37 := by kernel_rfl
  t127 := Tryz.underlying152
  a127 := Tryz.isAgg152
  z127 := Tryz.sizeOf152
  v127 := Tryz.zeroValue152
  i127 := by kernel_rfl }
end Go.Proofs
namespace Go.Proofs.YtbbocgeapofloaiGreatDoor
open Go.RowKit

/-- strings.Clone. -/
theorem clone_any (s : ByteArray) (w : World) (hlim : s.size ≤ 281474976710656) :
    Calls Tryz.prog 54 #[.string s] w fun e w' => e = .returned (.string s) ∧ Below w.heap.size w w' := by
  have hc := Any.stringslite_Clone Tryz.lays316 s w hlim
  go_enter Tryz.func54, Tryz.ntmps54
  go_wp2_with (go_at_call 87; refine hc.mono ?_; rintro e w1 ⟨rfl, b1⟩)
  go_ret
  exact ⟨rfl, b1⟩
end Go.Proofs.YtbbocgeapofloaiGreatDoor
