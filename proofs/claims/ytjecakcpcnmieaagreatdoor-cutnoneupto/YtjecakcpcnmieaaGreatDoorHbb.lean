import Derived.Test.YtjecakcpcnmieaaGreatDoorHA
import Derived.Test.YtjecakcpcnmieaaGreatDoorRows
import Derived.WalkKit
import Derived.ProofKit
import Derived.OpenShut
import Derived.SizedLaws
import Derived.Deep.DeepHandedRow
import Derived.Lib.LaidTab
import Derived.Lib.LaidU8
import Derived.Lib.AppendIntMem
import Derived.LaidHandle
import Derived.Stop.LaidErr
import Derived.Test.YtjecakcpcnmieaaGreatDoorHaq
set_option linter.unusedVariables false
set_option linter.unusedSimpArgs false
set_option maxHeartbeats 32000000
set_option maxRecDepth 100000
namespace Go.Proofs.YtjecakcpcnmieaaGreatDoor
namespace K
open Go.ChangeShapes Go.WideShapes Go.ChangeAt Go.RowKit Go.Lib
theorem own:ownKnob Tryz.prog.godebug=none:=by kernel_rfl
theorem abQ : Tryz.prog.globalNamed "prune/chars.named" = some 2 := by kernel_rfl
theorem Um:(Tryz.prog.globals[2]?).map (·.type)=some 286:=by kernel_rfl
theorem Un:Tryz.prog.cellsOf 286=10:=by kernel_rfl
theorem Uo:Tryz.prog.cellsOf 285=2:=by kernel_rfl
theorem Dr:Tryz.prog.cellsOf 9=1:=by kernel_rfl
theorem XG:Tryz.prog.cellsOf 21=1:=by kernel_rfl
theorem YL : Tryz.prog.globalNamed "prune/token.errMore" = some 0 := by kernel_rfl
theorem Pt:(Tryz.prog.globals[0]?).map (·.type)=some 100:=by kernel_rfl
theorem gEt : Tryz.prog.globalNamed "errors.errorType" = some 1 := by kernel_rfl
theorem abR : (Tryz.prog.cutTypes.find? (·.1 == "internal/reflectlite.rtype")).map (·.2) = some 254 := by kernel_rfl
theorem Pv:Tryz.prog.types.size=369:=by kernel_rfl
theorem aaF:((List.range 369).filter fun t=>Tryz.prog.rowNamed t [101,114,114,111,114])=[100]:=by kernel_rfl
theorem star : "*" ++ "errors.errorString" = "*errors.errorString" := by decide
theorem aaG (u : TypeId) (h : Tryz.prog.typeName? 3 u = some "*errors.errorString") : u = 339 :=
 typeName_ptr_named (nm := "errors.errorString") (by rw [star]; kernel_rfl) (by kernel_rfl) (by decide) u (by rw [star]; exact h)
theorem AK{H:Type}{enc:TypeId×Value->H}{w:World}{base:Nat}{sp:Nat->Bool}{held:Bool}{fuel:Nat}{c0 c1:Value}{bs:List UInt8}{z:Int}{p:List MemPlace}
  (h:DataW.trod enc Tryz.prog w base sp held fuel 285 [c0,c1]=some (.agg [.lit (.string bs),.lit (.int .i32 z)],p)):c0=.string ⟨bs.toArray⟩/\c1=.int .i32 z:=by
 obtain⟨y0,y1,n,hx,_,h0,h1⟩:=trod_struct2 Tryz.underlying285 h;simp only[Dr,XG,List.drop_zero,List.take_succ_cons,dJ,List.drop_succ_cons]at h0 h1;obtain⟨s,e0,d0,_⟩:=DataW.trod_string Tryz.underlying9 h0;obtain⟨m,e1,d1,_⟩:=DataW.trod_int Tryz.underlying21 h1;subst d0 d1;simp only[bQ,DataW.agg.injEq,cJ,DataW.lit.injEq,Lit.string.injEq,Lit.int.injEq,and_true,dN]at hx;obtain⟨⟨hb,hm⟩,_⟩:=hx;simp only[cJ,and_true]at e0 e1;refine⟨?_,by rw[e1,hm]⟩;rw[e0,hb]
theorem ac7{α:Type}{xs:List α}(h:xs.length=5):∃a b c d e,xs=[a,b,c,d,e]:=by
 match xs,h with
 |[a,b,c,d,e],_=>exact⟨a,b,c,d,e,rfl⟩
theorem ten{α:Type}{xs:List α}(h:xs.length=10):∃a b c d e f g i j k,xs=[a,b,c,d,e,f,g,i,j,k]:=by
 match xs,h with
 |[a,b,c,d,e,f,g,i,j,k],_=>exact⟨a,b,c,d,e,f,g,i,j,k,rfl⟩
theorem EM {W : World} (h : VarReads Tryz.prog W "prune/chars.named" Rows.laid_prune_chars_named) : EW W := by
 obtain⟨g',t',cs,fuel,p,hg',ht',hvar,hd⟩:=h;obtain rfl:=bF (abQ.symm.trans hg');obtain rfl:=bF (Um.symm.trans ht');obtain⟨xs,m,_,hx,hl,Fu,hi⟩:=DataW.trod_array Tryz.underlying286 hd;rw[Un]at hl;rw[Uo]at hi;obtain⟨x0,x1,x2,x3,x4,rfl⟩:=ac7 Fu;obtain⟨c0,c1,c2,c3,c4,c5,c6,c7,c8,c9,hc⟩:=ten hl;rw[hc]at hi;simp only[Rows.laid_prune_chars_named,bQ,DataW.agg.injEq,bB,bZ,cJ,and_true]at hx;obtain⟨⟨k0,k1,k2,k3,k4⟩,_⟩:=hx;have i0:=hi 0 (by omega);have i1:=hi 1 (by omega);have i2:=hi 2 (by omega);have i3:=hi 3 (by omega);have i4:=hi 4 (by omega);obtain⟨a0,q0⟩:=x0;obtain⟨a1,q1⟩:=x1;obtain⟨a2,q2⟩:=x2;obtain⟨a3,q3⟩:=x3;obtain⟨a4,q4⟩:=x4;simp only at k0 k1 k2 k3 k4;subst k0 k1 k2 k3 k4;obtain⟨rfl,rfl⟩:=AK i0;obtain⟨rfl,rfl⟩:=AK i1;obtain⟨rfl,rfl⟩:=AK i2;obtain⟨rfl,rfl⟩:=AK i3;obtain⟨rfl,rfl⟩:=AK i4;have hcs:cs=tab:=by
  apply Array.toList_inj.1;rw[hc];rfl
 subst hcs;simp only[World.var?,abQ,Option.bind_some]at hvar;split at hvar
 ·rename_i c t fr hh;simp only[aJ]at hvar;subst hvar;exact⟨t,fr,hh⟩
 ·cases hvar
theorem mH{P:Program}{x:String×DataW Unit}{r:List (String×DataW Unit)}{W:World}(h:laidMet P (x::r) W):laidMet P r W:=by
 obtain⟨n,d⟩:=x;obtain⟨ps,⟨g,t,cs,f,p,q,_,_,_,_,hq,e⟩,l9,abS⟩:=h;subst e;exact⟨q,hq,(List.nodup_append.1 l9).2.1,fun b off hm=>abS b off (List.mem_append_right _ hm)⟩
theorem XH:U8Extra Tryz.prog Tryz.lays197_ren:=⟨by kernel_rfl,by kernel_rfl,by kernel_rfl,by kernel_rfl,by kernel_rfl,by kernel_rfl,by kernel_rfl⟩
theorem Lc:Rows.laid_unicode_utf8_first=firstData:=by kernel_rfl
theorem Im:(Rows.laid_unicode_utf8_acceptRanges:DataW Unit)=acceptData:=by kernel_rfl
def YM : List (String × DataW Unit) := [("math/bits.deBruijn32tab", Rows.laid_math_bits_deBruijn32tab), ("math/bits.deBruijn64tab", Rows.laid_math_bits_deBruijn64tab), ("internal/strconv.uint64pow10", Rows.laid_internal_strconv_uint64pow10), ("unicode/utf8.acceptRanges", Rows.laid_unicode_utf8_acceptRanges), ("prune/chars.named", Rows.laid_prune_chars_named), ("prune/token.errMore", Rows.laid_prune_token_errMore), ("unicode/utf8.first", Rows.laid_unicode_utf8_first)]
def YN : List (String × DataW Unit) := [("math/bits.deBruijn32tab", Rows.laid_math_bits_deBruijn32tab), ("math/bits.deBruijn64tab", Rows.laid_math_bits_deBruijn64tab), ("internal/strconv.uint64pow10", Rows.laid_internal_strconv_uint64pow10), ("unicode/utf8.acceptRanges", Rows.laid_unicode_utf8_acceptRanges), ("errors.errorType", Rows.laid_errors_errorType), ("prune/chars.named", Rows.laid_prune_chars_named), ("prune/token.errMore", Rows.laid_prune_token_errMore), ("unicode/utf8.first", Rows.laid_unicode_utf8_first)]
theorem ac8 : Tryz.prog.globalNamed "internal/strconv.uint64pow10" = some 6 := by kernel_rfl
theorem Up:(Tryz.prog.globals[6]?).map (·.type)=some 329:=by kernel_rfl
theorem aaH:Tryz.prog.underlying 329=some (.array 20 305):=by kernel_rfl
theorem aaI:Tryz.prog.underlying 305=some (.int .u64):=by kernel_rfl
theorem Uq:Tryz.prog.cellsOf 305=1:=by kernel_rfl
theorem Ur:Tryz.prog.cellsOf 329=20:=by kernel_rfl
theorem Us:(Rows.laid_internal_strconv_uint64pow10:DataW Unit)=tabData .u64 pow10Tab:=by rfl
theorem YO {W : World} (h : laidMetH Tryz.prog YN W) : Lib.TabBelow Tryz.prog W.heap.size W "internal/strconv.uint64pow10" .u64 Lib.pow10Tab := by
 have h' : laidMet Tryz.prog YM W ∧ handlesMet Tryz.prog [("errors.errorType", Rows.laid_errors_errorType)] W := h
 have h3:=mH (mH h'.1);rw[Us]at h3;exact tabBelow_of_tabIs (tabIs_of_head ac8 Up aaH aaI Uq Ur h3)
theorem aaJ{W:World}(h:laidMetH Tryz.prog YN W):∃a,Gl W a:=by
 have h' : laidMet Tryz.prog YM W ∧ handlesMet Tryz.prog [("errors.errorType", Rows.laid_errors_errorType)] W := h
 obtain⟨hd,hh⟩:=h';have r1 : VarReads Tryz.prog W "unicode/utf8.acceptRanges" Rows.laid_unicode_utf8_acceptRanges := Go.Lib.laidMet.reads hd (.tail _ (.tail _ (.tail _ (.head _))))
 have r2 : VarReads Tryz.prog W "prune/chars.named" Rows.laid_prune_chars_named := Go.Lib.laidMet.reads hd (.tail _ (.tail _ (.tail _ (.tail _ (.head _)))))
 have r4 : VarReads Tryz.prog W "unicode/utf8.first" Rows.laid_unicode_utf8_first := Go.Lib.laidMet.reads hd (.tail _ (.tail _ (.tail _ (.tail _ (.tail _ (.tail _ (.head _)))))))
 rw[Im]at r1;rw[Lc]at r4;have h3:=mH (mH (mH (mH (mH hd))));obtain⟨a,s,hv,_⟩:=laid_sentinel h3 YL Pt Tryz.underlying100 aaG Tryz.underlying339 Tryz.underlying357 rfl rfl Tryz.underlying9 (by kernel_rfl) Dr;have hm:W.cell? ⟨0,0,none⟩=some (.iface 339 (.pointer (some a))):=by simpa using World.var?_cell YL hv 0
 obtain⟨name,u,ty,e1,e2,e3,e4,e5⟩:=hh _ (List.mem_singleton.2 rfl);have en:name=[101,114,114,111,114]:=(bF e1).symm;subst en;obtain rfl:=bF (abR.symm.trans e2);have ES:ty∈(List.range 369).filter fun t=>Tryz.prog.rowNamed t [101,114,114,111,114]:=List.mem_filter.2 ⟨List.mem_range.2 (by rw[<-Pv];exact e3),e4⟩;rw[aaF]at ES;obtain rfl:=List.mem_singleton.1 ES;have ht:typeHandle Tryz.prog 100=.pointer (some ⟨9,100,none⟩):=by kernel_rfl
 rw[ht]at e5;exact⟨a,utf8Tabs_of_reads {Tryz.lays197 with} XH r4 r1,EM r2,hm,by simpa using World.var?_cell gEt e5 0⟩
def abT:ByteArray:=⟨#[109,111,114,101,32,98,121,116,101,115,32,97,114,101,32,110,101,101,100,101,100]⟩
def XI:Array Value:=((List.range 256).map fun c=>Value.int .u8 (firstT c:Int)).toArray
def Ut:Array Value:=((List.range 16).flatMap fun i=>[Value.int .u8 (accLo i:Int),Value.int .u8 (accHi i:Int)]).toArray
noncomputable def low:Nat:=(World.holding Tryz.prog default ⟨#[],#[],[]⟩).heap.size
def Ld:DataW Unit->Array Value
 | .agg l=>(l.map fun d=>match d with| .lit (.int k z)=>Value.int k z|_=> .bool false).toArray
 |_=>#[]
noncomputable def aaW(os:Os):World:=
 let w0:=World.holding Tryz.prog os ⟨#[.cells #[.string abT] 357],#[],[]⟩
 let put (h:Array Obj) (g:Nat) (cs:Array Value):Array Obj:=h.modify g fun
  | .cells _ t frozen=> .cells cs t frozen
  |o=>o
 {w0 with heap:=put (put (put (put (put (put (put (put w0.heap 0 #[.iface 339 (.pointer (some ⟨low,0,none⟩))]) 1 #[.iface 254 (.agg #[.pointer (some ⟨9,100,none⟩)])]) 2 tab) 3 XI) 4 Ut) 6 (Ld Rows.laid_internal_strconv_uint64pow10)) 7 (Ld Rows.laid_math_bits_deBruijn32tab)) 8 (Ld Rows.laid_math_bits_deBruijn64tab)}
end K
end Go.Proofs.YtjecakcpcnmieaaGreatDoor
