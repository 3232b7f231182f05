import Derived.Test.YtjecakcpcnmieaaGreatDoorHA
import Derived.Test.YtjecakcpcnmieaaGreatDoorProg
import Derived.WalkKit
import Derived.WalkSpells
import Derived.LaidEql
import Derived.Stop.Asserts
import Derived.RowKitTokens
import Derived.Outline
set_option linter.unusedVariables false
set_option linter.unusedSimpArgs false
set_option maxHeartbeats 32000000
set_option maxRecDepth 100000
namespace Go.Proofs.YtjecakcpcnmieaaGreatDoor
namespace K
open Go.RowKit Go.Extern.Stop Go.Stop Go.Extern Tryz
theorem GN(v:Value)(w:World):(Extern.ReflectliteType.typeOf #[.iface 339 v]).run prog w=.ok (.iface 254 (.agg #[.pointer (some ⟨9,339,none⟩)])) w:=by kernel_rfl
theorem vO(w:World):(callFunc 299 #[.agg #[.pointer (some ⟨9,339,none⟩)]]).run prog w=.ok (.value (.bool true)) w:=by kernel_rfl
theorem oJ (v : Value) (w : World) : (Go.method 469 254 v "Comparable").run Tryz.prog w = .ok (299, v) w := by kernel_rfl
theorem ZY:(prog.info? 339).map (·.comparable)=some true:=by kernel_rfl
theorem ZZ:(prog.info? 357).map (·.size)=some 1:=by kernel_rfl
theorem abo(v:Value)(xT:TypeId)(w:World):(Instr.typeAssert (.iface 135 v) xT 256 true).run prog w=.ok (.tuple #[.nilIface,.bool false]) w:=run_typeAssert_lacksB underlying256 (by kernel_rfl) (by kernel_rfl) v xT w
theorem Om(v:Value)(xT:TypeId)(w:World):(Instr.typeAssert (.iface 135 v) xT 259 true).run prog w=.ok (.tuple #[.nilIface,.bool false]) w:=run_typeAssert_lacksB underlying259 (by kernel_rfl) (by kernel_rfl) v xT w
theorem J_(v:Value)(xT:TypeId)(w:World):(Instr.typeAssert (.iface 135 v) xT 260 true).run prog w=.ok (.tuple #[.nilIface,.bool false]) w:=run_typeAssert_lacksB underlying260 (by kernel_rfl) (by kernel_rfl) v xT w
theorem Ee(a:Addr)(w:World):(binOp .eql 100 .nilIface (.iface 339 (.pointer (some a)))).run prog w=.ok (.bool false) w:=by kernel_rfl
theorem z_(n p:Int)(a:Addr)(w:World):(binOp .eql 100 (.iface 135 (.agg #[.int .i64 n,.int .i64 p])) (.iface 339 (.pointer (some a)))).run prog w=.ok (.bool false) w:=by kernel_rfl
theorem Z0(a:Addr)(w:World):Z4 88 #[.nilIface,.iface 339 (.pointer (some a))] w (Z6 (.bool false) w):=by
 have h:=Ee a;go_enter func88,ntmps88;go_wp2;go_ret;exact⟨rfl,rfl⟩
theorem WH(a:Addr)(w:World):
  Z4 88 #[.iface 339 (.pointer (some a)),.iface 339 (.pointer (some a))] w (Z6 (.bool true) w):=by
 obtain⟨i,hi,acO⟩:=Option.map_eq_some_iff.1 ZY;obtain⟨j,hj,hjs⟩:=Option.map_eq_some_iff.1 ZZ;have h8:= @run_callFunc_extern prog 124 _ Extern.ReflectliteType.typeOf func124 (by kernel_rfl) (by kernel_rfl) (by kernel_rfl) (by kernel_rfl);have tT:=GN;have cT:=vO;have mR:=oJ;have heq:=run_eql_iface_ptr_same (P:=prog) w a underlying100 underlying339 hi acO hj;go_enter func88,ntmps88;go_wp2;refine dI 1 ?_;rw[ej];go_wp2;go_ret;exact⟨rfl,rfl⟩
theorem SI(n p:Int)(a:Addr)(w:World):Z4 88 #[.iface 135 (.agg #[.int .i64 n,.int .i64 p]),.iface 339 (.pointer (some a))] w (Z6 (.bool false) w):=by
 have h8:= @run_callFunc_extern prog 124 _ Extern.ReflectliteType.typeOf func124 (by kernel_rfl) (by kernel_rfl) (by kernel_rfl) (by kernel_rfl);have tT:=GN;have cT:=vO;have mR:=oJ;have h:=z_ n p a;have n1:=abo;have n2:=Om;have n3:=J_;go_enter func88,ntmps88;go_wp2;refine dI 1 ?_;rw[ej];go_wp2;go_ret;exact⟨rfl,rfl⟩
theorem Z1(t:Value)(w:World):
  Z4 90 #[.nilIface,t] w (Z6 (.bool false) w):=by
 go_enter func90,ntmps90;go_wp2;go_ret;exact⟨rfl,rfl⟩
theorem On(t:Addr)(w:World):(callFunc 127 #[.iface 189 (.pointer (some t))]).run prog w=.ok (.value (.agg #[.pointer (some ⟨9,189,none⟩),.pointer (some ⟨w.heap.size,0,none⟩),.int .u64 150])) (w.alloc (.cells #[.pointer (some t)] 189)):=by kernel_rfl
theorem type87(a:Addr)(w:World):(callFunc 128 #[.agg #[.pointer (some ⟨9,189,none⟩),.pointer (some a),.int .u64 150]]).run prog w=.ok (.value (.iface 254 (.agg #[.pointer (some ⟨9,189,none⟩)]))) w:=by kernel_rfl
theorem Ka (h : Value) (w : World) : (Go.method 469 254 (.agg #[h]) "Kind").run Tryz.prog w = .ok (289, h) w := by kernel_rfl
theorem Kc (h : Value) (w : World) : (Go.method 469 254 (.agg #[h]) "Elem").run Tryz.prog w = .ok (300, .agg #[h]) w := by kernel_rfl
theorem w_ (h : Value) (w : World) : (Go.method 469 254 (.agg #[h]) "Implements").run Tryz.prog w = .ok (301, .agg #[h]) w := by kernel_rfl
theorem uF (h : Value) (w : World) : (Go.method 469 254 (.agg #[h]) "AssignableTo").run Tryz.prog w = .ok (298, .agg #[h]) w := by kernel_rfl
theorem Z2(w:World):(callFunc 289 #[.pointer (some ⟨9,189,none⟩)]).run prog w=.ok (.value (.int .u8 22)) w:=by kernel_rfl
theorem Z3(w:World):(callFunc 289 #[.pointer (some ⟨9,135,none⟩)]).run prog w=.ok (.value (.int .u8 25)) w:=by kernel_rfl
theorem Z_(w:World):(callFunc 300 #[.agg #[.pointer (some ⟨9,189,none⟩)]]).run prog w=.ok (.value (.iface 254 (.agg #[.pointer (some ⟨9,135,none⟩)]))) w:=by kernel_rfl
theorem Ef(w:World):(callFunc 301 #[.agg #[.pointer (some ⟨9,135,none⟩)],.iface 254 (.agg #[.pointer (some ⟨9,100,none⟩)])]).run prog w=.ok (.value (.bool true)) w:=by kernel_rfl
theorem SJ(v:Value)(w:World):(callFunc 124 #[.iface 135 v]).run prog w=.ok (.value (.iface 254 (.agg #[.pointer (some ⟨9,135,none⟩)]))) w:=by kernel_rfl
theorem Eg(w:World):(callFunc 298 #[.agg #[.pointer (some ⟨9,135,none⟩)],.iface 254 (.agg #[.pointer (some ⟨9,135,none⟩)])]).run prog w=.ok (.value (.bool true)) w:=by kernel_rfl
theorem Oo(n p:Int)(w:World):(callFunc 127 #[.iface 135 (.agg #[.int .i64 n,.int .i64 p])]).run prog w=.ok (.value (.agg #[.pointer (some ⟨9,135,none⟩),.pointer (some ⟨w.heap.size,0,none⟩),.int .u64 153])) (w.alloc (.cells #[.int .i64 n,.int .i64 p] 135)):=by kernel_rfl
theorem Ma(a:Addr)(w:World):(ReflectliteValue.parts (.agg #[.pointer (some ⟨9,189,none⟩),.pointer (some a),.int .u64 150])).run prog w=.ok (some (189,a,150)) w:=by kernel_rfl
theorem SK(w:World):(Rtype.elem? 189).run prog w=.ok (some 135) w:=by kernel_rfl
theorem acP(p:Addr)(w:World):(ReflectliteValue.mk 135 p ReflectliteValue.flagAddr).run prog w=.ok (.agg #[.pointer (some ⟨9,135,none⟩),.pointer (some p),.int .u64 409]) w:=by kernel_rfl
theorem SM(a:Addr)(w:World):(ReflectliteValue.parts (.agg #[.pointer (some ⟨9,135,none⟩),.pointer (some a),.int .u64 409])).run prog w=.ok (some (135,a,409)) w:=by kernel_rfl
theorem WI(a:Addr)(w:World):(ReflectliteValue.parts (.agg #[.pointer (some ⟨9,135,none⟩),.pointer (some a),.int .u64 153])).run prog w=.ok (some (135,a,153)) w:=by kernel_rfl
theorem SN(w:World):(Rtype.directlyAssignable 135 135).run prog w=.ok true w:=by kernel_rfl
theorem WJ(a p:Addr)(W:World)(ha:W.cell? a=some (.pointer (some p))):
  (callFunc 129 #[.agg #[.pointer (some ⟨9,189,none⟩),.pointer (some a),.int .u64 150]]).run prog W=.ok (.value (.bool false)) W:=by
 have h8 := @run_callFunc_extern Tryz.prog 129 _ (ReflectliteValue.method (ReflectliteValue.valueError "reflectlite.Value.IsNil" 0) ReflectliteValue.isNil) Tryz.func129 (by kernel_rfl) (by kernel_rfl) (by kernel_rfl) (by kernel_rfl)
 rw[h8];have e1 : (ReflectliteValue.method (ReflectliteValue.valueError "reflectlite.Value.IsNil" 0) ReflectliteValue.isNil #[.agg #[.pointer (some ⟨9, 189, none⟩), .pointer (some a), .int .u64 150]]).run Tryz.prog W = _ := Sem.run_bind' Tryz.prog (ReflectliteValue.parts (.agg #[.pointer (some ⟨9, 189, none⟩), .pointer (some a), .int .u64 150])) _ W
 rw[e1,Ma];simp[ReflectliteValue.isNil,loadVar,isAgg,underlying,underlying189,ha,Result.andThen]
theorem WK(a p:Addr)(W:World)(ha:W.cell? a=some (.pointer (some p))):
  (callFunc 168 #[.agg #[.pointer (some ⟨9,189,none⟩),.pointer (some a),.int .u64 150]]).run prog W=.ok (.value (.agg #[.pointer (some ⟨9,135,none⟩),.pointer (some p),.int .u64 409])) W:=by
 have h8 := @run_callFunc_extern Tryz.prog 168 _ (ReflectliteValue.method (ReflectliteValue.valueError "reflectlite.Value.Elem" 0) ReflectliteValue.elem) Tryz.func168 (by kernel_rfl) (by kernel_rfl) (by kernel_rfl) (by kernel_rfl)
 rw[h8];have e1 : (ReflectliteValue.method (ReflectliteValue.valueError "reflectlite.Value.Elem" 0) ReflectliteValue.elem #[.agg #[.pointer (some ⟨9, 189, none⟩), .pointer (some a), .int .u64 150]]).run Tryz.prog W = _ := Sem.run_bind' Tryz.prog (ReflectliteValue.parts (.agg #[.pointer (some ⟨9, 189, none⟩), .pointer (some a), .int .u64 150])) _ W
 rw[e1,Ma];simp[ReflectliteValue.elem,loadVar,isAgg,underlying,underlying189,ha,Result.andThen,SK,acP]
theorem aaa(b:Nat)(n p:Int)(W:World)(h0:W.cell? ⟨b,0,none⟩=some (.int .i64 n))(h1:W.cell? ⟨b,1,none⟩=some (.int .i64 p)):
  (loadVar 135 ⟨b,0,none⟩).run prog W=.ok (.agg #[.int .i64 n,.int .i64 p]) W:=by
 simp[loadVar,isAgg135,sizeOf135,loadCells,loadCellsFrom,h0,h1,Addr.add,Result.andThen]
theorem abp(t b:Nat)(n p:Int)(o1 o2:Value)(W:World)(hb0:W.cell? ⟨b,0,none⟩=some (.int .i64 n))(hb1:W.cell? ⟨b,1,none⟩=some (.int .i64 p))(ht0:W.cell? ⟨t,0,none⟩=some o1)(ht1:W.cell? ⟨t,1,none⟩=some o2)(hf0:W.frozen? ⟨t,0,none⟩=false)(Wq:W.frozen? ⟨t,1,none⟩=false):
  (callFunc 169 #[.agg #[.pointer (some ⟨9,135,none⟩),Z8 t,.int .u64 409],.agg #[.pointer (some ⟨9,135,none⟩),Z8 b,.int .u64 153]]).run prog W=.ok (.value (.tuple #[])) ((W.setCell ⟨t,0,none⟩ (.int .i64 n)).setCell ⟨t,1,none⟩ (.int .i64 p)):=by
 have h8:= @run_callFunc_extern prog 169 _ ReflectliteValue.set func169 (by kernel_rfl) (by kernel_rfl) (by kernel_rfl) (by kernel_rfl);rw[h8];have e1:(ReflectliteValue.set #[.agg #[.pointer (some ⟨9,135,none⟩),Z8 t,.int .u64 409],.agg #[.pointer (some ⟨9,135,none⟩),Z8 b,.int .u64 153]]).run prog W=_:=Sem.run_bind' prog (ReflectliteValue.parts (.agg #[.pointer (some ⟨9,135,none⟩),Z8 t,.int .u64 409])) _ W;have l68:=aaa b n p W hb0 hb1;rw[e1,SM];clear e1 h8;simp only[Array.getLit,List.getElem_toArray,List.getElem_cons_succ,List.getElem_cons_zero,dW,WI,Result.andThen];simp[ReflectliteValue.flagAddr,l68,Result.andThen,SN,storeVar,sizeOf135,Value.cells,storeCells,Addr.add];have k1:(W.setCell ⟨t,0,none⟩ (.int .i64 n)).cell? ⟨t,1,none⟩=some o2:=by rw[cP];exact ht1;simp
 have k2:(W.setCell ⟨t,0,none⟩ (.int .i64 n)).frozen? ⟨t,1,none⟩=false:=(World.frozen?_setCell _ _ _ _).trans Wq;rw[run_store prog W ⟨t,0,none⟩ _ _ (by rfl),ht0,hf0];simp only[aA,bf];rw[run_store prog _ ⟨t,1,none⟩ _ _ (by rfl),k1,k2];rfl
def Yu(b:Nat):Array Value:=#[.pointer (some ⟨9,189,none⟩),Z8 b,.int .u64 150]
theorem aab(t:Nat)(n p:Int)(o1 o2:Value)(w:World)(hg:w.cell? ⟨1,0,none⟩=some (.iface 254 (.agg #[.pointer (some ⟨9,100,none⟩)])))(ht0:w.cell? ⟨t,0,none⟩=some o1)(ht1:w.cell? ⟨t,1,none⟩=some o2)(hf0:w.frozen? ⟨t,0,none⟩=false)(Wq:w.frozen? ⟨t,1,none⟩=false):
  Z4 90 #[.iface 135 (.agg #[.int .i64 n,.int .i64 p]),.iface 189 (Z8 t)] w fun ev w'=>ev=.returned (.bool true)/\
   w'=(((((w.alloc (.cells #[Z8 t] 189)).alloc (.cells (Yu w.heap.size) 226)).alloc (.cells (Yu w.heap.size) 226)).alloc (.cells #[.int .i64 n,.int .i64 p] 135)).setCell ⟨t,0,none⟩ (.int .i64 n)).setCell ⟨t,1,none⟩ (.int .i64 p):=by
 have htl:t<w.heap.size:=bE w _ ht0;have Iz:1<w.heap.size:=bE w _ hg;have f6:=On;have f7:=type87;have mK:=Ka;have mE:=Kc;have mI:=w_;have mA:=uF;have k1:=Z2;have k2:=Z3;have e1:=Z_;have i1:=Ef;have t1:=SJ (.agg #[.int .i64 n,.int .i64 p]);have a1:=Eg;have v1:=Oo n p;have n8:=WJ ⟨w.heap.size,0,none⟩ ⟨t,0,none⟩ ((w.alloc (.cells #[Z8 t] 189)).alloc (.cells #[.pointer (some ⟨9,189,none⟩),.pointer (some ⟨w.heap.size,0,none⟩),.int .u64 150] 226)) (by simp);have el:=WK ⟨w.heap.size,0,none⟩ ⟨t,0,none⟩ (((w.alloc (.cells #[Z8 t] 189)).alloc (.cells #[.pointer (some ⟨9,189,none⟩),.pointer (some ⟨w.heap.size,0,none⟩),.int .u64 150] 226)).alloc (.cells #[.pointer (some ⟨9,189,none⟩),.pointer (some ⟨w.heap.size,0,none⟩),.int .u64 150] 226)) (by rw[dA _ _ ⟨w.heap.size,0,none⟩ (by simp;omega)];simp);have hg2:((w.alloc (.cells #[Z8 t] 189)).alloc (.cells #[.pointer (some ⟨9,189,none⟩),.pointer (some ⟨w.heap.size,0,none⟩),.int .u64 150] 226)).cell? ⟨1,0,none⟩=some (.iface 254 (.agg #[.pointer (some ⟨9,100,none⟩)])):=by rw[dA _ _ ⟨1,0,none⟩ (by simp;omega),dA _ _ ⟨1,0,none⟩ Iz];exact hg
 have old:∀(W:World) (o:Obj) (i:Nat) (v:Value),t<W.heap.size->W.cell? ⟨t,i,none⟩=some v->(W.alloc o).cell? ⟨t,i,none⟩=some v:=fun W o i v hl h=>by rw[dA _ _ ⟨t,i,none⟩ hl];exact h
 have Eh:∀(W:World) (o:Obj) (i:Nat),t<W.heap.size->W.frozen? ⟨t,i,none⟩=false->(W.alloc o).frozen? ⟨t,i,none⟩=false:=fun W o i hl h=>by rw[World.frozen?_alloc_old _ _ ⟨t,i,none⟩ (Nat.ne_of_lt hl)];exact h
 have st:=abp t (w.heap.size+1+1+1) n p o1 o2 ((((w.alloc (.cells #[Z8 t] 189)).alloc (.cells #[.pointer (some ⟨9,189,none⟩),.pointer (some ⟨w.heap.size,0,none⟩),.int .u64 150] 226)).alloc (.cells #[.pointer (some ⟨9,189,none⟩),.pointer (some ⟨w.heap.size,0,none⟩),.int .u64 150] 226)).alloc (.cells #[.int .i64 n,.int .i64 p] 135))
  (by rw[World.cell?_alloc_at _ _ _ _ (by simp)];rfl)
  (by rw[World.cell?_alloc_at _ _ _ _ (by simp)];rfl)
  (old _ _ _ _ (by simp;omega) (old _ _ _ _ (by simp;omega) (old _ _ _ _ (by simp;omega) (old _ _ _ _ htl ht0))))
  (old _ _ _ _ (by simp;omega) (old _ _ _ _ (by simp;omega) (old _ _ _ _ (by simp;omega) (old _ _ _ _ htl ht1))))
  (Eh _ _ _ (by simp;omega) (Eh _ _ _ (by simp;omega) (Eh _ _ _ (by simp;omega) (Eh _ _ _ htl hf0))))
  (Eh _ _ _ (by simp;omega) (Eh _ _ _ (by simp;omega) (Eh _ _ _ (by simp;omega) (Eh _ _ _ htl Wq))))
 clear old Eh;go_enter func90,ntmps90;go_wp2;refine dI 1 ?_;rw[ej];go_wp2;go_ret;refine⟨rfl,?_⟩;rfl
end K
end Go.Proofs.YtjecakcpcnmieaaGreatDoor
