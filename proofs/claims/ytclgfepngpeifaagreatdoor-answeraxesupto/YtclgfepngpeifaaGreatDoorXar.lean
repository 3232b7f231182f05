import Derived.Test.YtclgfepngpeifaaGreatDoorXA
import Derived.Test.YtclgfepngpeifaaGreatDoorProg
import Derived.WalkKit
import Derived.WalkSpells
import Derived.LaidEql
import Derived.Stop.Asserts
import Derived.RowKitTokens
import Derived.Outline
set_option linter.unusedVariables false
set_option linter.unusedSimpArgs false
set_option maxHeartbeats 32000000
set_option maxRecDepth 100000
namespace Go.Proofs.YtclgfepngpeifaaGreatDoor
namespace K
open Go.RowKit Go.Extern.Stop Go.Stop Go.Extern Tryz
theorem FK(v:Value)(w:World):(Extern.ReflectliteType.typeOf #[.iface 289 v]).run prog w=.ok (.iface 235 (.agg #[.pointer (some ⟨6,289,none⟩)])) w:=by kernel_rfl
theorem uW(w:World):(callFunc 258 #[.agg #[.pointer (some ⟨6,289,none⟩)]]).run prog w=.ok (.value (.bool true)) w:=by kernel_rfl
theorem ng (v : Value) (w : World) : (Go.method 419 235 v "Comparable").run Tryz.prog w = .ok (258, v) w := by kernel_rfl
theorem Wl:(prog.info? 289).map (·.comparable)=some true:=by kernel_rfl
theorem Wm:(prog.info? 307).map (·.size)=some 1:=by kernel_rfl
theorem Zs(v:Value)(xT:TypeId)(w:World):(Instr.typeAssert (.iface 108 v) xT 237 true).run prog w=.ok (.tuple #[.nilIface,.bool false]) w:=run_typeAssert_lacksB underlying237 (by kernel_rfl) (by kernel_rfl) v xT w
theorem Mk(v:Value)(xT:TypeId)(w:World):(Instr.typeAssert (.iface 108 v) xT 240 true).run prog w=.ok (.tuple #[.nilIface,.bool false]) w:=run_typeAssert_lacksB underlying240 (by kernel_rfl) (by kernel_rfl) v xT w
theorem IJ(v:Value)(xT:TypeId)(w:World):(Instr.typeAssert (.iface 108 v) xT 241 true).run prog w=.ok (.tuple #[.nilIface,.bool false]) w:=run_typeAssert_lacksB underlying241 (by kernel_rfl) (by kernel_rfl) v xT w
theorem Dm(a:Addr)(w:World):(binOp .eql 131 .nilIface (.iface 289 (.pointer (some a)))).run prog w=.ok (.bool false) w:=by kernel_rfl
theorem zm(n p:Int)(a:Addr)(w:World):(binOp .eql 131 (.iface 108 (.agg #[.int .i64 n,.int .i64 p])) (.iface 289 (.pointer (some a)))).run prog w=.ok (.bool false) w:=by kernel_rfl
theorem Wn(a:Addr)(w:World):Z4 66 #[.nilIface,.iface 289 (.pointer (some a))] w (Z6 (.bool false) w):=by
 have h:=Dm a;go_enter func66,ntmps66;go_wp2;go_ret;exact⟨rfl,rfl⟩
theorem Tq(a:Addr)(w:World):
  Z4 66 #[.iface 289 (.pointer (some a)),.iface 289 (.pointer (some a))] w (Z6 (.bool true) w):=by
 obtain⟨i,hi,aa1⟩:=Option.map_eq_some_iff.1 Wl;obtain⟨j,hj,hjs⟩:=Option.map_eq_some_iff.1 Wm;have h8:= @run_callFunc_extern prog 117 _ Extern.ReflectliteType.typeOf func117 (by kernel_rfl) (by kernel_rfl) (by kernel_rfl) (by kernel_rfl);have tT:=FK;have cT:=uW;have mR:=ng;have heq:=run_eql_iface_ptr_same (P:=prog) w a underlying131 underlying289 hi aa1 hj;go_enter func66,ntmps66;go_wp2;refine dr 1 ?_;rw[dJ];go_wp2;go_ret;exact⟨rfl,rfl⟩
theorem PN(n p:Int)(a:Addr)(w:World):Z4 66 #[.iface 108 (.agg #[.int .i64 n,.int .i64 p]),.iface 289 (.pointer (some a))] w (Z6 (.bool false) w):=by
 have h8:= @run_callFunc_extern prog 117 _ Extern.ReflectliteType.typeOf func117 (by kernel_rfl) (by kernel_rfl) (by kernel_rfl) (by kernel_rfl);have tT:=FK;have cT:=uW;have mR:=ng;have h:=zm n p a;have n1:=Zs;have n2:=Mk;have n3:=IJ;go_enter func66,ntmps66;go_wp2;refine dr 1 ?_;rw[dJ];go_wp2;go_ret;exact⟨rfl,rfl⟩
theorem Wo(t:Value)(w:World):
  Z4 68 #[.nilIface,t] w (Z6 (.bool false) w):=by
 go_enter func68,ntmps68;go_wp2;go_ret;exact⟨rfl,rfl⟩
theorem Ml(t:Addr)(w:World):(callFunc 120 #[.iface 161 (.pointer (some t))]).run prog w=.ok (.value (.agg #[.pointer (some ⟨6,161,none⟩),.pointer (some ⟨w.heap.size,0,none⟩),.int .u64 150])) (w.alloc (.cells #[.pointer (some t)] 161)):=by kernel_rfl
theorem type87(a:Addr)(w:World):(callFunc 121 #[.agg #[.pointer (some ⟨6,161,none⟩),.pointer (some a),.int .u64 150]]).run prog w=.ok (.value (.iface 235 (.agg #[.pointer (some ⟨6,161,none⟩)]))) w:=by kernel_rfl
theorem IK (h : Value) (w : World) : (Go.method 419 235 (.agg #[h]) "Kind").run Tryz.prog w = .ok (248, h) w := by kernel_rfl
theorem IL (h : Value) (w : World) : (Go.method 419 235 (.agg #[h]) "Elem").run Tryz.prog w = .ok (259, .agg #[h]) w := by kernel_rfl
theorem wA (h : Value) (w : World) : (Go.method 419 235 (.agg #[h]) "Implements").run Tryz.prog w = .ok (260, .agg #[h]) w := by kernel_rfl
theorem tR (h : Value) (w : World) : (Go.method 419 235 (.agg #[h]) "AssignableTo").run Tryz.prog w = .ok (257, .agg #[h]) w := by kernel_rfl
theorem Wp(w:World):(callFunc 248 #[.pointer (some ⟨6,161,none⟩)]).run prog w=.ok (.value (.int .u8 22)) w:=by kernel_rfl
theorem Wq(w:World):(callFunc 248 #[.pointer (some ⟨6,108,none⟩)]).run prog w=.ok (.value (.int .u8 25)) w:=by kernel_rfl
theorem Wr(w:World):(callFunc 259 #[.agg #[.pointer (some ⟨6,161,none⟩)]]).run prog w=.ok (.value (.iface 235 (.agg #[.pointer (some ⟨6,108,none⟩)]))) w:=by kernel_rfl
theorem Dn(w:World):(callFunc 260 #[.agg #[.pointer (some ⟨6,108,none⟩)],.iface 235 (.agg #[.pointer (some ⟨6,131,none⟩)])]).run prog w=.ok (.value (.bool true)) w:=by kernel_rfl
theorem PO(v:Value)(w:World):(callFunc 117 #[.iface 108 v]).run prog w=.ok (.value (.iface 235 (.agg #[.pointer (some ⟨6,108,none⟩)]))) w:=by kernel_rfl
theorem Dp(w:World):(callFunc 257 #[.agg #[.pointer (some ⟨6,108,none⟩)],.iface 235 (.agg #[.pointer (some ⟨6,108,none⟩)])]).run prog w=.ok (.value (.bool true)) w:=by kernel_rfl
theorem Mm(n p:Int)(w:World):(callFunc 120 #[.iface 108 (.agg #[.int .i64 n,.int .i64 p])]).run prog w=.ok (.value (.agg #[.pointer (some ⟨6,108,none⟩),.pointer (some ⟨w.heap.size,0,none⟩),.int .u64 153])) (w.alloc (.cells #[.int .i64 n,.int .i64 p] 108)):=by kernel_rfl
theorem Kh(a:Addr)(w:World):(ReflectliteValue.parts (.agg #[.pointer (some ⟨6,161,none⟩),.pointer (some a),.int .u64 150])).run prog w=.ok (some (161,a,150)) w:=by kernel_rfl
theorem PQ(w:World):(Rtype.elem? 161).run prog w=.ok (some 108) w:=by kernel_rfl
theorem aa2(p:Addr)(w:World):(ReflectliteValue.mk 108 p ReflectliteValue.flagAddr).run prog w=.ok (.agg #[.pointer (some ⟨6,108,none⟩),.pointer (some p),.int .u64 409]) w:=by kernel_rfl
theorem PS(a:Addr)(w:World):(ReflectliteValue.parts (.agg #[.pointer (some ⟨6,108,none⟩),.pointer (some a),.int .u64 409])).run prog w=.ok (some (108,a,409)) w:=by kernel_rfl
theorem Tr(a:Addr)(w:World):(ReflectliteValue.parts (.agg #[.pointer (some ⟨6,108,none⟩),.pointer (some a),.int .u64 153])).run prog w=.ok (some (108,a,153)) w:=by kernel_rfl
theorem PT(w:World):(Rtype.directlyAssignable 108 108).run prog w=.ok true w:=by kernel_rfl
theorem Ts(a p:Addr)(W:World)(ha:W.cell? a=some (.pointer (some p))):
  (callFunc 122 #[.agg #[.pointer (some ⟨6,161,none⟩),.pointer (some a),.int .u64 150]]).run prog W=.ok (.value (.bool false)) W:=by
 have h8 := @run_callFunc_extern Tryz.prog 122 _ (ReflectliteValue.method (ReflectliteValue.valueError "reflectlite.Value.IsNil" 0) ReflectliteValue.isNil) Tryz.func122 (by kernel_rfl) (by kernel_rfl) (by kernel_rfl) (by kernel_rfl)
 rw[h8];have e1 : (ReflectliteValue.method (ReflectliteValue.valueError "reflectlite.Value.IsNil" 0) ReflectliteValue.isNil #[.agg #[.pointer (some ⟨6, 161, none⟩), .pointer (some a), .int .u64 150]]).run Tryz.prog W = _ := Sem.run_bind' Tryz.prog (ReflectliteValue.parts (.agg #[.pointer (some ⟨6, 161, none⟩), .pointer (some a), .int .u64 150])) _ W
 rw[e1,Kh];simp[ReflectliteValue.isNil,loadVar,isAgg,underlying,underlying161,ha,Result.andThen]
theorem Tt(a p:Addr)(W:World)(ha:W.cell? a=some (.pointer (some p))):
  (callFunc 164 #[.agg #[.pointer (some ⟨6,161,none⟩),.pointer (some a),.int .u64 150]]).run prog W=.ok (.value (.agg #[.pointer (some ⟨6,108,none⟩),.pointer (some p),.int .u64 409])) W:=by
 have h8 := @run_callFunc_extern Tryz.prog 164 _ (ReflectliteValue.method (ReflectliteValue.valueError "reflectlite.Value.Elem" 0) ReflectliteValue.elem) Tryz.func164 (by kernel_rfl) (by kernel_rfl) (by kernel_rfl) (by kernel_rfl)
 rw[h8];have e1 : (ReflectliteValue.method (ReflectliteValue.valueError "reflectlite.Value.Elem" 0) ReflectliteValue.elem #[.agg #[.pointer (some ⟨6, 161, none⟩), .pointer (some a), .int .u64 150]]).run Tryz.prog W = _ := Sem.run_bind' Tryz.prog (ReflectliteValue.parts (.agg #[.pointer (some ⟨6, 161, none⟩), .pointer (some a), .int .u64 150])) _ W
 rw[e1,Kh];simp[ReflectliteValue.elem,loadVar,isAgg,underlying,underlying161,ha,Result.andThen,PQ,aa2]
theorem Ws(b:Nat)(n p:Int)(W:World)(h0:W.cell? ⟨b,0,none⟩=some (.int .i64 n))(h1:W.cell? ⟨b,1,none⟩=some (.int .i64 p)):
  (loadVar 108 ⟨b,0,none⟩).run prog W=.ok (.agg #[.int .i64 n,.int .i64 p]) W:=by
 simp[loadVar,isAgg108,sizeOf108,loadCells,loadCellsFrom,h0,h1,Addr.add,Result.andThen]
theorem Zt(t b:Nat)(n p:Int)(o1 o2:Value)(W:World)(hb0:W.cell? ⟨b,0,none⟩=some (.int .i64 n))(hb1:W.cell? ⟨b,1,none⟩=some (.int .i64 p))(ht0:W.cell? ⟨t,0,none⟩=some o1)(ht1:W.cell? ⟨t,1,none⟩=some o2)(Zb:W.frozen? ⟨t,0,none⟩=false)(Rm:W.frozen? ⟨t,1,none⟩=false):
  (callFunc 165 #[.agg #[.pointer (some ⟨6,108,none⟩),Z8 t,.int .u64 409],.agg #[.pointer (some ⟨6,108,none⟩),Z8 b,.int .u64 153]]).run prog W=.ok (.value (.tuple #[])) ((W.setCell ⟨t,0,none⟩ (.int .i64 n)).setCell ⟨t,1,none⟩ (.int .i64 p)):=by
 have h8:= @run_callFunc_extern prog 165 _ ReflectliteValue.set func165 (by kernel_rfl) (by kernel_rfl) (by kernel_rfl) (by kernel_rfl);rw[h8];have e1:(ReflectliteValue.set #[.agg #[.pointer (some ⟨6,108,none⟩),Z8 t,.int .u64 409],.agg #[.pointer (some ⟨6,108,none⟩),Z8 b,.int .u64 153]]).run prog W=_:=Sem.run_bind' prog (ReflectliteValue.parts (.agg #[.pointer (some ⟨6,108,none⟩),Z8 t,.int .u64 409])) _ W;have l68:=Ws b n p W hb0 hb1;rw[e1,PS];clear e1 h8;simp only[Array.getLit,List.getElem_toArray,List.getElem_cons_succ,List.getElem_cons_zero,Sem.run_bind,Tr,Result.andThen];simp[ReflectliteValue.flagAddr,l68,Result.andThen,PT,storeVar,sizeOf108,Value.cells,storeCells,Addr.add];have k1:(W.setCell ⟨t,0,none⟩ (.int .i64 n)).cell? ⟨t,1,none⟩=some o2:=by rw[dt];exact ht1;simp
 have k2:(W.setCell ⟨t,0,none⟩ (.int .i64 n)).frozen? ⟨t,1,none⟩=false:=(World.frozen?_setCell _ _ _ _).trans Rm;rw[run_store prog W ⟨t,0,none⟩ _ _ (by rfl),ht0,Zb];simp only[aA,aQ];rw[run_store prog _ ⟨t,1,none⟩ _ _ (by rfl),k1,k2];rfl
def UT(b:Nat):Array Value:=#[.pointer (some ⟨6,161,none⟩),Z8 b,.int .u64 150]
theorem Wt(t:Nat)(n p:Int)(o1 o2:Value)(w:World)(hg:w.cell? ⟨1,0,none⟩=some (.iface 235 (.agg #[.pointer (some ⟨6,131,none⟩)])))(ht0:w.cell? ⟨t,0,none⟩=some o1)(ht1:w.cell? ⟨t,1,none⟩=some o2)(Zb:w.frozen? ⟨t,0,none⟩=false)(Rm:w.frozen? ⟨t,1,none⟩=false):
  Z4 68 #[.iface 108 (.agg #[.int .i64 n,.int .i64 p]),.iface 161 (Z8 t)] w fun ev w'=>ev=.returned (.bool true)/\
   w'=(((((w.alloc (.cells #[Z8 t] 161)).alloc (.cells (UT w.heap.size) 204)).alloc (.cells (UT w.heap.size) 204)).alloc (.cells #[.int .i64 n,.int .i64 p] 108)).setCell ⟨t,0,none⟩ (.int .i64 n)).setCell ⟨t,1,none⟩ (.int .i64 p):=by
 have htl:t<w.heap.size:=aD w _ ht0;have sw:1<w.heap.size:=aD w _ hg;have f6:=Ml;have f7:=type87;have mK:=IK;have mE:=IL;have mI:=wA;have mA:=tR;have k1:=Wp;have k2:=Wq;have e1:=Wr;have i1:=Dn;have t1:=PO (.agg #[.int .i64 n,.int .i64 p]);have a1:=Dp;have v1:=Mm n p;have n8:=Ts ⟨w.heap.size,0,none⟩ ⟨t,0,none⟩ ((w.alloc (.cells #[Z8 t] 161)).alloc (.cells #[.pointer (some ⟨6,161,none⟩),.pointer (some ⟨w.heap.size,0,none⟩),.int .u64 150] 204)) (by simp);have el:=Tt ⟨w.heap.size,0,none⟩ ⟨t,0,none⟩ (((w.alloc (.cells #[Z8 t] 161)).alloc (.cells #[.pointer (some ⟨6,161,none⟩),.pointer (some ⟨w.heap.size,0,none⟩),.int .u64 150] 204)).alloc (.cells #[.pointer (some ⟨6,161,none⟩),.pointer (some ⟨w.heap.size,0,none⟩),.int .u64 150] 204)) (by rw[dc _ _ ⟨w.heap.size,0,none⟩ (by simp;omega)];simp);have hg2:((w.alloc (.cells #[Z8 t] 161)).alloc (.cells #[.pointer (some ⟨6,161,none⟩),.pointer (some ⟨w.heap.size,0,none⟩),.int .u64 150] 204)).cell? ⟨1,0,none⟩=some (.iface 235 (.agg #[.pointer (some ⟨6,131,none⟩)])):=by rw[dc _ _ ⟨1,0,none⟩ (by simp;omega),dc _ _ ⟨1,0,none⟩ sw];exact hg
 have old:∀(W:World) (o:Obj) (i:Nat) (v:Value),t<W.heap.size->W.cell? ⟨t,i,none⟩=some v->(W.alloc o).cell? ⟨t,i,none⟩=some v:=fun W o i v hl h=>by rw[dc _ _ ⟨t,i,none⟩ hl];exact h
 have Dq:∀(W:World) (o:Obj) (i:Nat),t<W.heap.size->W.frozen? ⟨t,i,none⟩=false->(W.alloc o).frozen? ⟨t,i,none⟩=false:=fun W o i hl h=>by rw[World.frozen?_alloc_old _ _ ⟨t,i,none⟩ (Nat.ne_of_lt hl)];exact h
 have st:=Zt t (w.heap.size+1+1+1) n p o1 o2 ((((w.alloc (.cells #[Z8 t] 161)).alloc (.cells #[.pointer (some ⟨6,161,none⟩),.pointer (some ⟨w.heap.size,0,none⟩),.int .u64 150] 204)).alloc (.cells #[.pointer (some ⟨6,161,none⟩),.pointer (some ⟨w.heap.size,0,none⟩),.int .u64 150] 204)).alloc (.cells #[.int .i64 n,.int .i64 p] 108))
  (by rw[World.cell?_alloc_at _ _ _ _ (by simp)];rfl)
  (by rw[World.cell?_alloc_at _ _ _ _ (by simp)];rfl)
  (old _ _ _ _ (by simp;omega) (old _ _ _ _ (by simp;omega) (old _ _ _ _ (by simp;omega) (old _ _ _ _ htl ht0))))
  (old _ _ _ _ (by simp;omega) (old _ _ _ _ (by simp;omega) (old _ _ _ _ (by simp;omega) (old _ _ _ _ htl ht1))))
  (Dq _ _ _ (by simp;omega) (Dq _ _ _ (by simp;omega) (Dq _ _ _ (by simp;omega) (Dq _ _ _ htl Zb))))
  (Dq _ _ _ (by simp;omega) (Dq _ _ _ (by simp;omega) (Dq _ _ _ (by simp;omega) (Dq _ _ _ htl Rm))))
 clear old Dq;go_enter func68,ntmps68;go_wp2;refine dr 1 ?_;rw[dJ];go_wp2;go_ret;refine⟨rfl,?_⟩;rfl
end K
end Go.Proofs.YtclgfepngpeifaaGreatDoor
