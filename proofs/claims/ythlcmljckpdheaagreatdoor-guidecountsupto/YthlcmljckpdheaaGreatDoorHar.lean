import Derived.Test.YthlcmljckpdheaaGreatDoorHA
import Derived.Test.YthlcmljckpdheaaGreatDoorProg
import Derived.WalkKit
import Derived.WalkSpells
import Derived.LaidEql
import Derived.Stop.Asserts
import Derived.RowKitTokens
import Derived.Outline
set_option linter.unusedVariables false
set_option linter.unusedSimpArgs false
set_option maxHeartbeats 32000000
set_option maxRecDepth 100000
namespace Go.Proofs.YthlcmljckpdheaaGreatDoor
namespace K
open Go.RowKit Go.Extern.Stop Go.Stop Go.Extern Tryz
theorem Fk(v:Value)(w:World):(Extern.ReflectliteType.typeOf #[.iface 329 v]).run prog w=.ok (.iface 248 (.agg #[.pointer (some ⟨9,329,none⟩)])) w:=by kernel_rfl
theorem uU(w:World):(callFunc 282 #[.agg #[.pointer (some ⟨9,329,none⟩)]]).run prog w=.ok (.value (.bool true)) w:=by kernel_rfl
theorem n9 (v : Value) (w : World) : (Go.method 459 248 v "Comparable").run Tryz.prog w = .ok (282, v) w := by kernel_rfl
theorem Xx:(prog.info? 329).map (·.comparable)=some true:=by kernel_rfl
theorem Xy:(prog.info? 347).map (·.size)=some 1:=by kernel_rfl
theorem aab(v:Value)(xT:TypeId)(w:World):(Instr.typeAssert (.iface 108 v) xT 250 true).run prog w=.ok (.tuple #[.nilIface,.bool false]) w:=run_typeAssert_lacksB underlying250 (by kernel_rfl) (by kernel_rfl) v xT w
theorem Mm(v:Value)(xT:TypeId)(w:World):(Instr.typeAssert (.iface 108 v) xT 253 true).run prog w=.ok (.tuple #[.nilIface,.bool false]) w:=run_typeAssert_lacksB underlying253 (by kernel_rfl) (by kernel_rfl) v xT w
theorem Iu(v:Value)(xT:TypeId)(w:World):(Instr.typeAssert (.iface 108 v) xT 254 true).run prog w=.ok (.tuple #[.nilIface,.bool false]) w:=run_typeAssert_lacksB underlying254 (by kernel_rfl) (by kernel_rfl) v xT w
theorem C1(a:Addr)(w:World):(binOp .eql 133 .nilIface (.iface 329 (.pointer (some a)))).run prog w=.ok (.bool false) w:=by kernel_rfl
theorem yZ(n p:Int)(a:Addr)(w:World):(binOp .eql 133 (.iface 108 (.agg #[.int .i64 n,.int .i64 p])) (.iface 329 (.pointer (some a)))).run prog w=.ok (.bool false) w:=by kernel_rfl
theorem Xz(a:Addr)(w:World):Z4 62 #[.nilIface,.iface 329 (.pointer (some a))] w (Z6 (.bool false) w):=by
 have h:=C1 a;go_enter func62,ntmps62;go_wp2;go_ret;exact⟨rfl,rfl⟩
theorem Ur(a:Addr)(w:World):
  Z4 62 #[.iface 329 (.pointer (some a)),.iface 329 (.pointer (some a))] w (Z6 (.bool true) w):=by
 obtain⟨i,hi,abt⟩:=Option.map_eq_some_iff.1 Xx;obtain⟨j,hj,hjs⟩:=Option.map_eq_some_iff.1 Xy;have h8:= @run_callFunc_extern prog 105 _ Extern.ReflectliteType.typeOf func105 (by kernel_rfl) (by kernel_rfl) (by kernel_rfl) (by kernel_rfl);have tT:=Fk;have cT:=uU;have mR:=n9;have heq:=run_eql_iface_ptr_same (P:=prog) w a underlying133 underlying329 hi abt hj;go_enter func62,ntmps62;go_wp2;refine dI 1 ?_;rw[ej];go_wp2;go_ret;exact⟨rfl,rfl⟩
theorem P8(n p:Int)(a:Addr)(w:World):Z4 62 #[.iface 108 (.agg #[.int .i64 n,.int .i64 p]),.iface 329 (.pointer (some a))] w (Z6 (.bool false) w):=by
 have h8:= @run_callFunc_extern prog 105 _ Extern.ReflectliteType.typeOf func105 (by kernel_rfl) (by kernel_rfl) (by kernel_rfl) (by kernel_rfl);have tT:=Fk;have cT:=uU;have mR:=n9;have h:=yZ n p a;have n1:=aab;have n2:=Mm;have n3:=Iu;go_enter func62,ntmps62;go_wp2;refine dI 1 ?_;rw[ej];go_wp2;go_ret;exact⟨rfl,rfl⟩
theorem XA(t:Value)(w:World):
  Z4 64 #[.nilIface,t] w (Z6 (.bool false) w):=by
 go_enter func64,ntmps64;go_wp2;go_ret;exact⟨rfl,rfl⟩
theorem Mn(t:Addr)(w:World):(callFunc 108 #[.iface 166 (.pointer (some t))]).run prog w=.ok (.value (.agg #[.pointer (some ⟨9,166,none⟩),.pointer (some ⟨w.heap.size,0,none⟩),.int .u64 150])) (w.alloc (.cells #[.pointer (some t)] 166)):=by kernel_rfl
theorem type87(a:Addr)(w:World):(callFunc 109 #[.agg #[.pointer (some ⟨9,166,none⟩),.pointer (some a),.int .u64 150]]).run prog w=.ok (.value (.iface 248 (.agg #[.pointer (some ⟨9,166,none⟩)]))) w:=by kernel_rfl
theorem Iv (h : Value) (w : World) : (Go.method 459 248 (.agg #[h]) "Kind").run Tryz.prog w = .ok (272, h) w := by kernel_rfl
theorem Iw (h : Value) (w : World) : (Go.method 459 248 (.agg #[h]) "Elem").run Tryz.prog w = .ok (283, .agg #[h]) w := by kernel_rfl
theorem vY (h : Value) (w : World) : (Go.method 459 248 (.agg #[h]) "Implements").run Tryz.prog w = .ok (284, .agg #[h]) w := by kernel_rfl
theorem tL (h : Value) (w : World) : (Go.method 459 248 (.agg #[h]) "AssignableTo").run Tryz.prog w = .ok (281, .agg #[h]) w := by kernel_rfl
theorem XB(w:World):(callFunc 272 #[.pointer (some ⟨9,166,none⟩)]).run prog w=.ok (.value (.int .u8 22)) w:=by kernel_rfl
theorem XC(w:World):(callFunc 272 #[.pointer (some ⟨9,108,none⟩)]).run prog w=.ok (.value (.int .u8 25)) w:=by kernel_rfl
theorem XD(w:World):(callFunc 283 #[.agg #[.pointer (some ⟨9,166,none⟩)]]).run prog w=.ok (.value (.iface 248 (.agg #[.pointer (some ⟨9,108,none⟩)]))) w:=by kernel_rfl
theorem C2(w:World):(callFunc 284 #[.agg #[.pointer (some ⟨9,108,none⟩)],.iface 248 (.agg #[.pointer (some ⟨9,133,none⟩)])]).run prog w=.ok (.value (.bool true)) w:=by kernel_rfl
theorem P9(v:Value)(w:World):(callFunc 105 #[.iface 108 v]).run prog w=.ok (.value (.iface 248 (.agg #[.pointer (some ⟨9,108,none⟩)]))) w:=by kernel_rfl
theorem C3(w:World):(callFunc 281 #[.agg #[.pointer (some ⟨9,108,none⟩)],.iface 248 (.agg #[.pointer (some ⟨9,108,none⟩)])]).run prog w=.ok (.value (.bool true)) w:=by kernel_rfl
theorem Mp(n p:Int)(w:World):(callFunc 108 #[.iface 108 (.agg #[.int .i64 n,.int .i64 p])]).run prog w=.ok (.value (.agg #[.pointer (some ⟨9,108,none⟩),.pointer (some ⟨w.heap.size,0,none⟩),.int .u64 153])) (w.alloc (.cells #[.int .i64 n,.int .i64 p] 108)):=by kernel_rfl
theorem J7(a:Addr)(w:World):(ReflectliteValue.parts (.agg #[.pointer (some ⟨9,166,none⟩),.pointer (some a),.int .u64 150])).run prog w=.ok (some (166,a,150)) w:=by kernel_rfl
theorem P_(w:World):(Rtype.elem? 166).run prog w=.ok (some 108) w:=by kernel_rfl
theorem abu(p:Addr)(w:World):(ReflectliteValue.mk 108 p ReflectliteValue.flagAddr).run prog w=.ok (.agg #[.pointer (some ⟨9,108,none⟩),.pointer (some p),.int .u64 409]) w:=by kernel_rfl
theorem Qa(a:Addr)(w:World):(ReflectliteValue.parts (.agg #[.pointer (some ⟨9,108,none⟩),.pointer (some a),.int .u64 409])).run prog w=.ok (some (108,a,409)) w:=by kernel_rfl
theorem Us(a:Addr)(w:World):(ReflectliteValue.parts (.agg #[.pointer (some ⟨9,108,none⟩),.pointer (some a),.int .u64 153])).run prog w=.ok (some (108,a,153)) w:=by kernel_rfl
theorem Qb(w:World):(Rtype.directlyAssignable 108 108).run prog w=.ok true w:=by kernel_rfl
theorem Ut(a p:Addr)(W:World)(ha:W.cell? a=some (.pointer (some p))):
  (callFunc 110 #[.agg #[.pointer (some ⟨9,166,none⟩),.pointer (some a),.int .u64 150]]).run prog W=.ok (.value (.bool false)) W:=by
 have h8 := @run_callFunc_extern Tryz.prog 110 _ (ReflectliteValue.method (ReflectliteValue.valueError "reflectlite.Value.IsNil" 0) ReflectliteValue.isNil) Tryz.func110 (by kernel_rfl) (by kernel_rfl) (by kernel_rfl) (by kernel_rfl)
 rw[h8];have e1 : (ReflectliteValue.method (ReflectliteValue.valueError "reflectlite.Value.IsNil" 0) ReflectliteValue.isNil #[.agg #[.pointer (some ⟨9, 166, none⟩), .pointer (some a), .int .u64 150]]).run Tryz.prog W = _ := Sem.run_bind' Tryz.prog (ReflectliteValue.parts (.agg #[.pointer (some ⟨9, 166, none⟩), .pointer (some a), .int .u64 150])) _ W
 rw[e1,J7];simp[ReflectliteValue.isNil,loadVar,isAgg,underlying,underlying166,ha,Result.andThen]
theorem Uu(a p:Addr)(W:World)(ha:W.cell? a=some (.pointer (some p))):
  (callFunc 161 #[.agg #[.pointer (some ⟨9,166,none⟩),.pointer (some a),.int .u64 150]]).run prog W=.ok (.value (.agg #[.pointer (some ⟨9,108,none⟩),.pointer (some p),.int .u64 409])) W:=by
 have h8 := @run_callFunc_extern Tryz.prog 161 _ (ReflectliteValue.method (ReflectliteValue.valueError "reflectlite.Value.Elem" 0) ReflectliteValue.elem) Tryz.func161 (by kernel_rfl) (by kernel_rfl) (by kernel_rfl) (by kernel_rfl)
 rw[h8];have e1 : (ReflectliteValue.method (ReflectliteValue.valueError "reflectlite.Value.Elem" 0) ReflectliteValue.elem #[.agg #[.pointer (some ⟨9, 166, none⟩), .pointer (some a), .int .u64 150]]).run Tryz.prog W = _ := Sem.run_bind' Tryz.prog (ReflectliteValue.parts (.agg #[.pointer (some ⟨9, 166, none⟩), .pointer (some a), .int .u64 150])) _ W
 rw[e1,J7];simp[ReflectliteValue.elem,loadVar,isAgg,underlying,underlying166,ha,Result.andThen,P_,abu]
theorem XE(b:Nat)(n p:Int)(W:World)(h0:W.cell? ⟨b,0,none⟩=some (.int .i64 n))(h1:W.cell? ⟨b,1,none⟩=some (.int .i64 p)):
  (loadVar 108 ⟨b,0,none⟩).run prog W=.ok (.agg #[.int .i64 n,.int .i64 p]) W:=by
 simp[loadVar,isAgg108,sizeOf108,loadCells,loadCellsFrom,h0,h1,Addr.add,Result.andThen]
theorem aac(t b:Nat)(n p:Int)(o1 o2:Value)(W:World)(hb0:W.cell? ⟨b,0,none⟩=some (.int .i64 n))(hb1:W.cell? ⟨b,1,none⟩=some (.int .i64 p))(ht0:W.cell? ⟨t,0,none⟩=some o1)(ht1:W.cell? ⟨t,1,none⟩=some o2)(ZP:W.frozen? ⟨t,0,none⟩=false)(ZQ:W.frozen? ⟨t,1,none⟩=false):
  (callFunc 162 #[.agg #[.pointer (some ⟨9,108,none⟩),Z8 t,.int .u64 409],.agg #[.pointer (some ⟨9,108,none⟩),Z8 b,.int .u64 153]]).run prog W=.ok (.value (.tuple #[])) ((W.setCell ⟨t,0,none⟩ (.int .i64 n)).setCell ⟨t,1,none⟩ (.int .i64 p)):=by
 have h8:= @run_callFunc_extern prog 162 _ ReflectliteValue.set func162 (by kernel_rfl) (by kernel_rfl) (by kernel_rfl) (by kernel_rfl);rw[h8];have e1:(ReflectliteValue.set #[.agg #[.pointer (some ⟨9,108,none⟩),Z8 t,.int .u64 409],.agg #[.pointer (some ⟨9,108,none⟩),Z8 b,.int .u64 153]]).run prog W=_:=Sem.run_bind' prog (ReflectliteValue.parts (.agg #[.pointer (some ⟨9,108,none⟩),Z8 t,.int .u64 409])) _ W;have l68:=XE b n p W hb0 hb1;rw[e1,Qa];clear e1 h8;simp only[Array.getLit,List.getElem_toArray,List.getElem_cons_succ,List.getElem_cons_zero,Sem.run_bind,Us,Result.andThen];simp[ReflectliteValue.flagAddr,l68,Result.andThen,Qb,storeVar,sizeOf108,Value.cells,storeCells,Addr.add];have k1:(W.setCell ⟨t,0,none⟩ (.int .i64 n)).cell? ⟨t,1,none⟩=some o2:=by rw[cQ];exact ht1;simp
 have k2:(W.setCell ⟨t,0,none⟩ (.int .i64 n)).frozen? ⟨t,1,none⟩=false:=(World.frozen?_setCell _ _ _ _).trans ZQ;rw[run_store prog W ⟨t,0,none⟩ _ _ (by rfl),ht0,ZP];simp only[ay,bf];rw[run_store prog _ ⟨t,1,none⟩ _ _ (by rfl),k1,k2];rfl
def VK(b:Nat):Array Value:=#[.pointer (some ⟨9,166,none⟩),Z8 b,.int .u64 150]
theorem XF(t:Nat)(n p:Int)(o1 o2:Value)(w:World)(hg:w.cell? ⟨1,0,none⟩=some (.iface 248 (.agg #[.pointer (some ⟨9,133,none⟩)])))(ht0:w.cell? ⟨t,0,none⟩=some o1)(ht1:w.cell? ⟨t,1,none⟩=some o2)(ZP:w.frozen? ⟨t,0,none⟩=false)(ZQ:w.frozen? ⟨t,1,none⟩=false):
  Z4 64 #[.iface 108 (.agg #[.int .i64 n,.int .i64 p]),.iface 166 (Z8 t)] w fun ev w'=>ev=.returned (.bool true)/\
   w'=(((((w.alloc (.cells #[Z8 t] 166)).alloc (.cells (VK w.heap.size) 210)).alloc (.cells (VK w.heap.size) 210)).alloc (.cells #[.int .i64 n,.int .i64 p] 108)).setCell ⟨t,0,none⟩ (.int .i64 n)).setCell ⟨t,1,none⟩ (.int .i64 p):=by
 have htl:t<w.heap.size:=aU w _ ht0;have Gj:1<w.heap.size:=aU w _ hg;have f6:=Mn;have f7:=type87;have mK:=Iv;have mE:=Iw;have mI:=vY;have mA:=tL;have k1:=XB;have k2:=XC;have e1:=XD;have i1:=C2;have t1:=P9 (.agg #[.int .i64 n,.int .i64 p]);have a1:=C3;have v1:=Mp n p;have n8:=Ut ⟨w.heap.size,0,none⟩ ⟨t,0,none⟩ ((w.alloc (.cells #[Z8 t] 166)).alloc (.cells #[.pointer (some ⟨9,166,none⟩),.pointer (some ⟨w.heap.size,0,none⟩),.int .u64 150] 210)) (by simp);have el:=Uu ⟨w.heap.size,0,none⟩ ⟨t,0,none⟩ (((w.alloc (.cells #[Z8 t] 166)).alloc (.cells #[.pointer (some ⟨9,166,none⟩),.pointer (some ⟨w.heap.size,0,none⟩),.int .u64 150] 210)).alloc (.cells #[.pointer (some ⟨9,166,none⟩),.pointer (some ⟨w.heap.size,0,none⟩),.int .u64 150] 210)) (by rw[dy _ _ ⟨w.heap.size,0,none⟩ (by simp;omega)];simp);have hg2:((w.alloc (.cells #[Z8 t] 166)).alloc (.cells #[.pointer (some ⟨9,166,none⟩),.pointer (some ⟨w.heap.size,0,none⟩),.int .u64 150] 210)).cell? ⟨1,0,none⟩=some (.iface 248 (.agg #[.pointer (some ⟨9,133,none⟩)])):=by rw[dy _ _ ⟨1,0,none⟩ (by simp;omega),dy _ _ ⟨1,0,none⟩ Gj];exact hg
 have old:∀(W:World) (o:Obj) (i:Nat) (v:Value),t<W.heap.size->W.cell? ⟨t,i,none⟩=some v->(W.alloc o).cell? ⟨t,i,none⟩=some v:=fun W o i v hl h=>by rw[dy _ _ ⟨t,i,none⟩ hl];exact h
 have C4:∀(W:World) (o:Obj) (i:Nat),t<W.heap.size->W.frozen? ⟨t,i,none⟩=false->(W.alloc o).frozen? ⟨t,i,none⟩=false:=fun W o i hl h=>by rw[World.frozen?_alloc_old _ _ ⟨t,i,none⟩ (Nat.ne_of_lt hl)];exact h
 have st:=aac t (w.heap.size+1+1+1) n p o1 o2 ((((w.alloc (.cells #[Z8 t] 166)).alloc (.cells #[.pointer (some ⟨9,166,none⟩),.pointer (some ⟨w.heap.size,0,none⟩),.int .u64 150] 210)).alloc (.cells #[.pointer (some ⟨9,166,none⟩),.pointer (some ⟨w.heap.size,0,none⟩),.int .u64 150] 210)).alloc (.cells #[.int .i64 n,.int .i64 p] 108))
  (by rw[World.cell?_alloc_at _ _ _ _ (by simp)];rfl)
  (by rw[World.cell?_alloc_at _ _ _ _ (by simp)];rfl)
  (old _ _ _ _ (by simp;omega) (old _ _ _ _ (by simp;omega) (old _ _ _ _ (by simp;omega) (old _ _ _ _ htl ht0))))
  (old _ _ _ _ (by simp;omega) (old _ _ _ _ (by simp;omega) (old _ _ _ _ (by simp;omega) (old _ _ _ _ htl ht1))))
  (C4 _ _ _ (by simp;omega) (C4 _ _ _ (by simp;omega) (C4 _ _ _ (by simp;omega) (C4 _ _ _ htl ZP))))
  (C4 _ _ _ (by simp;omega) (C4 _ _ _ (by simp;omega) (C4 _ _ _ (by simp;omega) (C4 _ _ _ htl ZQ))))
 clear old C4;go_enter func64,ntmps64;go_wp2;refine dI 1 ?_;rw[ej];go_wp2;go_ret;refine⟨rfl,?_⟩;rfl
end K
end Go.Proofs.YthlcmljckpdheaaGreatDoor
