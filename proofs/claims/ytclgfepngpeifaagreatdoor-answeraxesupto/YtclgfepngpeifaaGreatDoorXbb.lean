import Derived.Test.YtclgfepngpeifaaGreatDoorXA
import Derived.Test.YtclgfepngpeifaaGreatDoorRows
import Derived.WalkKit
import Derived.ProofKit
import Derived.OpenShut
import Derived.SizedLaws
import Derived.Deep.DeepHandedRow
import Derived.Lib.LaidTab
import Derived.Lib.LaidU8
import Derived.LaidHandle
import Derived.Stop.LaidErr
import Derived.Test.YtclgfepngpeifaaGreatDoorXaq
set_option linter.unusedVariables false
set_option linter.unusedSimpArgs false
set_option maxHeartbeats 32000000
set_option maxRecDepth 100000
namespace Go.Proofs.YtclgfepngpeifaaGreatDoor
namespace K
open Go.ChangeShapes Go.WideShapes Go.ChangeAt Go.RowKit Go.Lib
theorem own:ownKnob Tryz.prog.godebug=none:=by kernel_rfl
theorem aal : Tryz.prog.globalNamed "prune/chars.named" = some 2 := by kernel_rfl
theorem Rf:(Tryz.prog.globals[2]?).map (·.type)=some 266:=by kernel_rfl
theorem Rg:Tryz.prog.cellsOf 266=10:=by kernel_rfl
theorem Rh:Tryz.prog.cellsOf 265=2:=by kernel_rfl
theorem Ri:Tryz.prog.cellsOf 9=1:=by kernel_rfl
theorem Un:Tryz.prog.cellsOf 21=1:=by kernel_rfl
theorem U8 : Tryz.prog.globalNamed "prune/token.errMore" = some 0 := by kernel_rfl
theorem Nn:(Tryz.prog.globals[0]?).map (·.type)=some 131:=by kernel_rfl
theorem gEt : Tryz.prog.globalNamed "errors.errorType" = some 1 := by kernel_rfl
theorem aam : (Tryz.prog.cutTypes.find? (·.1 == "internal/reflectlite.rtype")).map (·.2) = some 235 := by kernel_rfl
theorem Np:Tryz.prog.types.size=319:=by kernel_rfl
theorem Xi:((List.range 319).filter fun t=>Tryz.prog.rowNamed t [101,114,114,111,114])=[131]:=by kernel_rfl
theorem star : "*" ++ "errors.errorString" = "*errors.errorString" := by decide
theorem Xj (u : TypeId) (h : Tryz.prog.typeName? 3 u = some "*errors.errorString") : u = 289 :=
 typeName_ptr_named (nm := "errors.errorString") (by rw [star]; kernel_rfl) (by kernel_rfl) (by decide) u (by rw [star]; exact h)
theorem zQ{H:Type}{enc:TypeId×Value->H}{w:World}{base:Nat}{sp:Nat->Bool}{held:Bool}{fuel:Nat}{c0 c1:Value}{bs:List UInt8}{z:Int}{p:List MemPlace}
  (h:DataW.trod enc Tryz.prog w base sp held fuel 265 [c0,c1]=some (.agg [.lit (.string bs),.lit (.int .i32 z)],p)):c0=.string ⟨bs.toArray⟩/\c1=.int .i32 z:=by
 obtain⟨y0,y1,n,hx,_,h0,h1⟩:=trod_struct2 Tryz.underlying265 h;simp only[Ri,Un,List.drop_zero,List.take_succ_cons,List.take_zero,List.drop_succ_cons]at h0 h1;obtain⟨s,e0,d0,_⟩:=DataW.trod_string Tryz.underlying9 h0;obtain⟨m,e1,d1,_⟩:=DataW.trod_int Tryz.underlying21 h1;subst d0 d1;simp only[cq,DataW.agg.injEq,List.cons.injEq,DataW.lit.injEq,Lit.string.injEq,Lit.int.injEq,and_true,dw]at hx;obtain⟨⟨hb,hm⟩,_⟩:=hx;simp only[List.cons.injEq,and_true]at e0 e1;refine⟨?_,by rw[e1,hm]⟩;rw[e0,hb]
theorem abq{α:Type}{xs:List α}(h:xs.length=5):∃a b c d e,xs=[a,b,c,d,e]:=by
 match xs,h with
 |[a,b,c,d,e],_=>exact⟨a,b,c,d,e,rfl⟩
theorem ten{α:Type}{xs:List α}(h:xs.length=10):∃a b c d e f g i j k,xs=[a,b,c,d,e,f,g,i,j,k]:=by
 match xs,h with
 |[a,b,c,d,e,f,g,i,j,k],_=>exact⟨a,b,c,d,e,f,g,i,j,k,rfl⟩
theorem DX {W : World} (h : VarReads Tryz.prog W "prune/chars.named" Rows.laid_prune_chars_named) : Li W := by
 obtain⟨g',t',cs,fuel,p,hg',ht',hvar,hd⟩:=h;obtain rfl:=aX (aal.symm.trans hg');obtain rfl:=aX (Rf.symm.trans ht');obtain⟨xs,m,_,hx,hl,hxl,hi⟩:=DataW.trod_array Tryz.underlying266 hd;rw[Rg]at hl;rw[Rh]at hi;obtain⟨x0,x1,x2,x3,x4,rfl⟩:=abq hxl;obtain⟨c0,c1,c2,c3,c4,c5,c6,c7,c8,c9,hc⟩:=ten hl;rw[hc]at hi;simp only[Rows.laid_prune_chars_named,cq,DataW.agg.injEq,bN,cF,List.cons.injEq,and_true]at hx;obtain⟨⟨k0,k1,k2,k3,k4⟩,_⟩:=hx;have i0:=hi 0 (by omega);have i1:=hi 1 (by omega);have i2:=hi 2 (by omega);have i3:=hi 3 (by omega);have i4:=hi 4 (by omega);obtain⟨a0,q0⟩:=x0;obtain⟨a1,q1⟩:=x1;obtain⟨a2,q2⟩:=x2;obtain⟨a3,q3⟩:=x3;obtain⟨a4,q4⟩:=x4;simp only at k0 k1 k2 k3 k4;subst k0 k1 k2 k3 k4;obtain⟨rfl,rfl⟩:=zQ i0;obtain⟨rfl,rfl⟩:=zQ i1;obtain⟨rfl,rfl⟩:=zQ i2;obtain⟨rfl,rfl⟩:=zQ i3;obtain⟨rfl,rfl⟩:=zQ i4;have hcs:cs=tab:=by
  apply Array.toList_inj.1;rw[hc];rfl
 subst hcs;simp only[World.var?,aal,Option.bind_some]at hvar;split at hvar
 ·rename_i c t fr hh;simp only[bK]at hvar;subst hvar;exact⟨t,fr,hh⟩
 ·cases hvar
theorem Ct{P:Program}{x:String×DataW Unit}{r:List (String×DataW Unit)}{W:World}(h:laidMet P (x::r) W):laidMet P r W:=by
 obtain⟨n,d⟩:=x;obtain⟨ps,⟨g,t,cs,f,p,q,_,_,_,_,hq,e⟩,hnd,aan⟩:=h;subst e;exact⟨q,hq,(List.nodup_append.1 hnd).2.1,fun b off hm=>aan b off (List.mem_append_right _ hm)⟩
theorem Uo:U8Extra Tryz.prog Tryz.lays197_ren:=⟨by kernel_rfl,by kernel_rfl,by kernel_rfl,by kernel_rfl,by kernel_rfl,by kernel_rfl,by kernel_rfl⟩
theorem JC:Rows.laid_unicode_utf8_first=firstData:=by kernel_rfl
theorem GD:(Rows.laid_unicode_utf8_acceptRanges:DataW Unit)=acceptData:=by kernel_rfl
def aao : List (String × DataW Unit) := [("unicode/utf8.acceptRanges", Rows.laid_unicode_utf8_acceptRanges), ("prune/chars.named", Rows.laid_prune_chars_named), ("prune/token.errMore", Rows.laid_prune_token_errMore), ("unicode/utf8.first", Rows.laid_unicode_utf8_first)]
def aap : List (String × DataW Unit) := [("unicode/utf8.acceptRanges", Rows.laid_unicode_utf8_acceptRanges), ("errors.errorType", Rows.laid_errors_errorType), ("prune/chars.named", Rows.laid_prune_chars_named), ("prune/token.errMore", Rows.laid_prune_token_errMore), ("unicode/utf8.first", Rows.laid_unicode_utf8_first)]
theorem Xk{W:World}(h:laidMetH Tryz.prog aap W):∃a,Gl W a:=by
 have h' : laidMet Tryz.prog aao W ∧ handlesMet Tryz.prog [("errors.errorType", Rows.laid_errors_errorType)] W := h
 obtain⟨hd,hh⟩:=h';have r1 : VarReads Tryz.prog W "unicode/utf8.acceptRanges" Rows.laid_unicode_utf8_acceptRanges := Go.Lib.laidMet.reads hd (.head _)
 have r2 : VarReads Tryz.prog W "prune/chars.named" Rows.laid_prune_chars_named := Go.Lib.laidMet.reads hd (.tail _ (.head _))
 have r4 : VarReads Tryz.prog W "unicode/utf8.first" Rows.laid_unicode_utf8_first := Go.Lib.laidMet.reads hd (.tail _ (.tail _ (.tail _ (.head _))))
 rw[GD]at r1;rw[JC]at r4;have h3:=Ct (Ct hd);obtain⟨a,s,hv,_⟩:=laid_sentinel h3 U8 Nn Tryz.underlying131 Xj Tryz.underlying289 Tryz.underlying307 rfl rfl Tryz.underlying9 (by kernel_rfl) Ri;have hm:W.cell? ⟨0,0,none⟩=some (.iface 289 (.pointer (some a))):=by simpa using World.var?_cell U8 hv 0
 obtain⟨name,u,ty,e1,e2,e3,e4,e5⟩:=hh _ (List.mem_singleton.2 rfl);have en:name=[101,114,114,111,114]:=(aX e1).symm;subst en;obtain rfl:=aX (aam.symm.trans e2);have KA:ty∈(List.range 319).filter fun t=>Tryz.prog.rowNamed t [101,114,114,111,114]:=List.mem_filter.2 ⟨List.mem_range.2 (by rw[<-Np];exact e3),e4⟩;rw[Xi]at KA;obtain rfl:=List.mem_singleton.1 KA;have ht:typeHandle Tryz.prog 131=.pointer (some ⟨6,131,none⟩):=by kernel_rfl
 rw[ht]at e5;exact⟨a,utf8Tabs_of_reads {Tryz.lays197 with} Uo r4 r1,DX r2,hm,by simpa using World.var?_cell gEt e5 0⟩
def aaq:ByteArray:=⟨#[109,111,114,101,32,98,121,116,101,115,32,97,114,101,32,110,101,101,100,101,100]⟩
def Up:Array Value:=((List.range 256).map fun c=>Value.int .u8 (firstT c:Int)).toArray
def Rj:Array Value:=((List.range 16).flatMap fun i=>[Value.int .u8 (accLo i:Int),Value.int .u8 (accHi i:Int)]).toArray
noncomputable def low:Nat:=(World.holding Tryz.prog default ⟨#[],#[],[]⟩).heap.size
noncomputable def X0(os:Os):World:=
 let w0:=World.holding Tryz.prog os ⟨#[.cells #[.string aaq] 307],#[],[]⟩
 {w0 with heap:=((((w0.heap.modify 0 fun
  | .cells _ t frozen=> .cells #[.iface 289 (.pointer (some ⟨low,0,none⟩))] t frozen
  |o=>o).modify 1 fun
  | .cells _ t frozen=> .cells #[.iface 235 (.agg #[.pointer (some ⟨6,131,none⟩)])] t frozen
  |o=>o).modify 2 fun
  | .cells _ t frozen=> .cells tab t frozen
  |o=>o).modify 3 fun
  | .cells _ t frozen=> .cells Up t frozen
  |o=>o).modify 4 fun
  | .cells _ t frozen=> .cells Rj t frozen
  |o=>o}
end K
end Go.Proofs.YtclgfepngpeifaaGreatDoor
