import Derived.Test.YtjecakcpcnmieaaGreatDoorHA
import Derived.Laws.Concat
import Derived.Lib.SmallJoins
import Derived.Test.YtjecakcpcnmieaaGreatDoorHaz
import Derived.Test.YtjecakcpcnmieaaGreatDoorHai
import Derived.Test.YtjecakcpcnmieaaGreatDoorHav
import Derived.Test.YtjecakcpcnmieaaGreatDoorHaw
set_option linter.unusedVariables false
set_option linter.unusedSimpArgs false
set_option maxHeartbeats 32000000
set_option maxRecDepth 100000
namespace Go.Proofs.YtjecakcpcnmieaaGreatDoor
namespace K
open Go.RowKit Go.Maps Tryz
section
variable{w w' w1:World}{b B:Nat}{bs:List UInt8}{nv:Value}
theorem abM{ty:TypeId}(h:ty=105\/ty=53):liesAt prog prog.depth ty (3/prog.cellsOf ty) 0 51 1=true:=by rcases h with rfl|rfl<;>kernel_rfl
theorem Hy{ty:TypeId}(hty:ty=105\/ty=53)(b:Nat)(w:World)(c0:w.cell? ⟨b,0,none⟩=some (.pointer none))(Ls:w.shape? b=some (ty,3))(f0:w.frozen? ⟨b,0,none⟩=false):
  Z4 64 #[Z8 b] w fun e w'=>e=.returned (.tuple #[])/\w'=w.setCell ⟨b,0,none⟩ (Z8 b):=by
 obtain⟨j,hj,hjs⟩:=Jv;go_enter func64,ntmps64;go_wp2;rw[Lib.run_to_unsafe w ⟨b,0,none⟩ underlying48 underlying195 hj (by rw[hjs];decide) Ls (show 0<3 by decide)];simp only[Result.andThen];rw[cX];go_wp2;rw[run_callFunc_extern func99 (by kernel_rfl) (by kernel_rfl) (by kernel_rfl) (e:=Extern.AbiNoEscape.same) (by kernel_rfl)];rw[Lib.run_noEscape];simp only[Result.andThen];rw[cX];go_wp2;rw[Lib.run_from_unsafe w ⟨b,0,none⟩ underlying195 underlying48 hj Ls (abM hty)];simp only[Result.andThen];rw[cX];go_wp2
 go_end0
 exact⟨rfl,rfl⟩
theorem Pk{B n:Nat}{v v':Value}{xs:List Value}{i:TypeInfo}{ty:TypeId}(hi:prog.info? 5=some i)(hz:i.zero=some (.int .u8 0))(hsize:i.size=1)(hby:i.bytes=1)(hown:w.ownsRowF B 5 1 v n xs)(s:ByteArray)(hbytes:n+s.size<=140737488355328)(hr:(Builtin.append_ #[49,9] ty #[v,.string s]).run prog w=.ok v' w')(k:Nat)(hk:v'.ownBlock=some k):v.ownBlock=some k\/w.heap.size<=k:=by
 rcases hown.2 with⟨rfl,rfl⟩|⟨g,cap,cur,fz,rfl,hbg,hg,hfz,wJ,hcm,hcs,Ht⟩
 ·obtain⟨v2,w2,h1,h2,_⟩:=Lib.run_append_own_string (P:=prog) w w.heap.size 49 9 ty 5 i underlying49 underlying9 hi hz hsize hby (.slice none 0 0) 0 xs ⟨hown.1,.inl ⟨rfl,rfl⟩⟩ s (by unfold maxLen;omega) hbytes (ah _);rw[h1]at hr;cases hr;exact Or.inr (h2.lt k hk).1
 ·by_cases hroom:n+s.size<=cap
  ·rw[Lib.run_append_room_stringF (P:=prog) w 49 9 ty 5 i underlying49 underlying9 hi hsize g n cap cur fz hg (by simpa using hfz) s hroom (by simp at hcs;omega)]at hr;cases hr;exact Or.inl hk
  ·have Fu:xs.length=n:=by simpa using hown.1
   rw[Lib.run_append_grow_string (P:=prog) w 49 9 ty 5 i (.int .u8 0) underlying49 underlying9 hi hz ⟨g,0,none⟩ n cap xs (by rw[hsize];simpa using Fu) (hown.cells (g:=g) rfl) s (by omega) (by omega) (by rw[hby];exact growslice_fits (by omega) (by omega))]at hr;cases hr;simp[Value.ownBlock]at hk;exact Or.inr (by omega)
theorem K5{ops:Array Oper}{rest:List Oper}{o:Oper}{a:Act}{Q:Exit->Act->World->Prop}(w:World)(hgd:o.guard=none)(sl x:Operand)(ho:o.op=.call {callee:=.builtin .append,args:=#[sl,x],argTypes:=#[49,9]})
  (base:Nat) (i:TypeInfo) (hi:prog.info? 5=some i) (hz:i.zero=some (.int .u8 0)) (hsize:i.size=1) (hby:i.bytes=1) (v:Value) (n:Nat) (xs:List Value) (hs:a.eval sl=v) (hown:w.ownsRowF base 5 1 v n xs) (s:ByteArray) (hx:a.eval x=.string s) (h63:n+s.size<=maxLen) (hbytes:n+s.size<=140737488355328) (hbase:base<=w.heap.size)
  (h:∀v' w',w'.ownsRowF base 5 1 v' (n+s.size) (xs++Lib.strCells s)->w.grownBy w' v.ownBlock->(∀k,v'.ownBlock=some k->v.ownBlock=some k\/w.heap.size<=k)->wpList prog ops Q rest (a.put o.dst v') w'):wpList prog ops Q (o::rest) a w:=by
 refine wpList_plain hgd fun K hK=>?_;obtain⟨v',w',hr,h2,h3,h4⟩:=Lib.run_append_own_stringF (P:=prog) w base 49 9 o.type 5 i underlying49 underlying9 hi hz hsize hby v n xs hown s h63 hbytes hbase;have hp:=Pk hi hz hsize hby hown s hbytes hr;unfold Oper.wp;simp only[execOp,ho,resolve,invoke,builtin,dW,Sem.run_pure,dL,dT,bB,bZ,hs,hx,hr];exact hK _ _ (h v' w' h2 h3 hp)
structure WR(b:Nat)(bs:List UInt8)(nv:Value)(w:World):Prop where
 ex:∃ty p v,(ty=105\/ty=53)/\(p=.pointer none\/p=Z8 b)/\w.heap[b]?=some (.cells #[p,v,nv] ty (0,0))/\w.ownsRowF b 5 1 v bs.length (Lib.byteCells bs)/\v.ownBlock≠some b
theorem xm{ty:TypeId}{p v:Value}(jI:w.heap[b]?=some (.cells #[p,v,nv] ty (0,0))):w.cell? ⟨b,0,none⟩=some p/\w.cell? ⟨b,1,none⟩=some v/\w.cell? ⟨b,2,none⟩=some nv/\w.frozen? ⟨b,0,none⟩=false/\w.frozen? ⟨b,1,none⟩=false/\w.shape? b=some (ty,3)/\b<w.heap.size:=
 ⟨cell_of jI rfl,cell_of jI rfl,cell_of jI rfl,eP jI,eP jI,by simp[World.shape?,jI],eO jI⟩
theorem Ug(h:WR b bs nv w):Z4 64 #[Z8 b] w fun e w'=>e=.returned (.tuple #[])/\∃ty v p0,(ty=105\/ty=53)/\w.heap[b]?=some (.cells #[p0,v,nv] ty (0,0))/\(∀k,k≠b->w'.heap[k]?=w.heap[k]?)/\w'.heap[b]?=some (.cells #[Z8 b,v,nv] ty (0,0))/\w'.ownsRowF b 5 1 v bs.length (Lib.byteCells bs)/\v.ownBlock≠some b/\Below b w w':=by
 obtain⟨ty,p,v,hty,hp,jI,hown,hne⟩:=h.ex;obtain⟨c0,c1,c2,f0,f1,Ls,hlt⟩:=xm jI;rcases hp with rfl|rfl
 ·refine(Hy hty b w c0 Ls f0).mono ?_;rintro e w' ⟨rfl,rfl⟩;refine⟨rfl,ty,v,_,hty,jI,fun k hk=>af _ _ _ _ (fun e=>hk (by rw[e])),?_,?_,hne,(Below.refl b w).setCell (p:=⟨b,0,none⟩) (ah _) _⟩
  ·rw[eV jI];rfl
  ·refine hown.kept (row:=some b) ⟨rfl,rfl,rfl,by simp[World.setCell],fun k _ hk=>af _ _ _ _ (fun e=>hk (by rw[e]))⟩ ?_;exact Or.inr hne
 ·refine(ri b w c0).mono ?_;rintro e w' ⟨rfl,rfl⟩;exact⟨rfl,ty,v,_,hty,jI,fun _ _=>rfl,jI,hown,hne,Below.refl _ _⟩
theorem xn(h:WR b bs nv w)(s:ByteArray)(hlen:bs.length+s.size<=140737488355328):
  Z4 34 #[Z8 b,.string s] w fun e w'=>e=.returned (.tuple #[.int .i64 s.size,.nilIface])/\WR b (bs++s.data.toList) nv w'/\Below b w w'/\∃ty p0 v,w.heap[b]?=some (.cells #[p0,v,nv] ty (0,0))/\(∀k,k<w.heap.size->k≠b->v.ownBlock≠some k->w'.heap[k]?=w.heap[k]?)/\∃v',w'.heap[b]?=some (.cells #[Z8 b,v',nv] ty (0,0))/\∀k,v'.ownBlock=some k->v.ownBlock=some k\/w.heap.size<=k:=by
 obtain⟨i0,hi,hz0,hz1,hz2⟩:=bk Tryz.Builder_Extra_242.infoByte;have hcc:=Ug h;have hbl:b<=w.heap.size:=by obtain⟨ty,p,v,_,_,jI,_⟩:=h.ex;exact cI (eO jI)
 clear h;go_enter func34,ntmps34;go_wp2_with(go_at_call 64;refine hcc.mono ?_);rintro e w1 ⟨rfl,ty,v,p0,hty,h00,Mr,jI,hown,hne,hb1⟩;obtain⟨c0,c1,c2,f0,f1,_,hlt⟩:=xm jI;go_wp2_with(at_builtin;refine K5 _ rfl _ _ rfl b i0 hi hz0 hz1 hz2 _ _ _ rfl hown s rfl ?c3 ?c4 ?c5 ?_)
 case c3=>unfold maxLen;omega
 case c4=>omega
 case c5=>omega
 intro v' w2 hown' jV hpl;have hb2:w2.heap[b]?=some (.cells #[Z8 b,v,nv] ty (0,0)):=by rw[jV.block b hlt (fun e=>hne e.symm)];exact jI
 obtain⟨d0,d1,d2,g0,g1,_,_⟩:=xm hb2;have abN:v'.ownBlock≠some b:=by
  intro e;rcases hown'.2 with⟨hv,_⟩|⟨g,cap,cur,fz,hv,_,M4,_⟩
  ·rw[hv]at e;cases e
  ·rw[hv]at e;have eg:g=b:=by simpa [Value.ownBlock]using e
   rw[eg,hb2]at M4;rcases hty with rfl|rfl<;>simp at M4
 obtain⟨ao,n',cap,rfl⟩:∃ao n' cap,v'=.slice ao n' cap:=by rcases hown'.2 with⟨hv,_⟩|⟨g,cap,cur,fz,hv,_⟩<;>exact⟨_,_,_,hv⟩
 have kE:Lib.byteCells bs++Lib.strCells s=Lib.byteCells (bs++s.data.toList):=by simp[Lib.byteCells,Lib.strCells]
 have hblk:Below b w w2:=hb1.grown jV (cI hlt) (fun k hk=>(hown.lt k hk).1);have hkk:∀k,k<w.heap.size->k≠b->v.ownBlock≠some k->w2.heap[k]?=w.heap[k]?:=fun k hk h1 h2=>(jV.block k (by have:=hb1.size;omega) (fun e=>h2 e.symm)).trans (Mr k h1);have HPL:Hid (∀k,(Value.slice ao n' cap).ownBlock=some k->v.ownBlock=some k\/w.heap.size<=k):=fun k hk=>(hpl k hk).imp id (fun q=>ar hb1.size q);have HKK:=a_ hkk;have H00:=a_ h00;clear hkk h00 Mr hpl;have HO:=a_ hown';have HB:=a_ hblk;have Hz:=a_ hb2;have HNE:=a_ abN;clear hown' hblk jV hown hb2 abN;go_wp2
 go_ret2
 refine⟨rfl,⟨ty,Z8 b,_,hty,Or.inr rfl,by rw[eV Hz.out];rfl,?_,HNE.out⟩,HB.out.setCell (p:=⟨b,1,none⟩) (ah _) _,ty,p0,v,H00.out,(fun k h1 h2 h3=>(af _ _ _ _ (fun e=>h2 (by rw[e]))).trans (HKK.out k h1 h2 h3)),_,by rw[eV Hz.out];rfl,HPL.out⟩;have hl:(bs++s.data.toList).length=bs.length+s.size:=by simp
 rw[<-kE,hl];refine HO.out.kept (row:=some b) ⟨rfl,rfl,rfl,by simp[World.setCell],fun k _ hk=>af _ _ _ _ (fun e=>hk (by rw[e]))⟩ (Or.inr HNE.out)
end
end K
end Go.Proofs.YtjecakcpcnmieaaGreatDoor
namespace Go.Proofs.YtjecakcpcnmieaaGreatDoor
namespace K
open Go.RowKit Go.Maps Go.Lib Tryz
section
variable{w w' w1 wr:World}{b B:Nat}{bs:List UInt8}{nv:Value}
theorem ia(x y z:List UInt8)(e:x++y=z)(h:x.length+y.length<=9223372036854775807)(w:World):(Op.stringOp .add ⟨x.toArray⟩ ⟨y.toArray⟩).run prog w=.ok (.string ⟨z.toArray⟩) w:=by rw[cV w _ _ (by simpa [ByteArray.size]using h),ByteArray.mk_append_mk,e]
def fI(n:List UInt8)(a:jY)(i:Nat):List UInt8:=60::(n++(a.take i).flatMap px)
theorem AF(n:List UInt8)(a:jY)(i:Nat)(hi:i<a.length):fI n a (i+1)=fI n a i++px a[i]:=by
 unfold fI;rw[aN hi,bY];simp
theorem H4(n:List UInt8)(a:jY)(i:Nat):(fI n a i).length<=(fI n a a.length).length:=by
 have h:(a.take i).flatMap px++(a.drop i).flatMap px=a.flatMap px:=by rw[<-bY,dv]
 have h2:=aC List.length h;unfold fI;simp only[ae,ag,bt]at h2 ⊢;omega
theorem H9{tA:TypeId}{l:jY}{v:Value}(h:w.ownsRow 0 tA 2 v l.length (eG l))(i:Nat)(hi:i<l.length):∃g c,v=Z9 g l.length c/\w.cell? ⟨g,i*2,none⟩=some (.string ⟨(l[i]).1.toArray⟩)/\w.cell? ⟨g,i*2+1,none⟩=some (.string ⟨(l[i]).2.toArray⟩)/\l.length<=maxLen:=by
 rcases h.2 with⟨_,e⟩|⟨g,c,cur,e,_,hg,h1,h2,h3,h4⟩
 ·omega
 ·have key:∀(l:List (List UInt8×List UInt8)) (i:Nat) (hi:i<l.length),(eG l)[i*2]?=some (eZ (l[i]).1)/\(eG l)[i*2+1]?=some (eZ (l[i]).2):=by
   intro l;induction l with
   |nil=>intro i hi;cases hi
   |cons x l ih=>
    intro i hi;cases i with
    |zero=>exact⟨rfl,rfl⟩
    |succ i=>
     have:=ih i (by simpa using hi);have e1:(i+1)*2=i*2+2:=by omega
     rw[e1];simpa [eG]using this
  obtain⟨k1,k2⟩:=key l i hi;have up:∀j u,(eG l)[j]?=some u->w.cell? ⟨g,j,none⟩=some u:=fun j u hj=>by
   refine cell_of hg ?_;rw[<-h4,bT]at hj;split at hj
   ·simpa using hj
   ·cases hj
  exact⟨g,c,e,up _ _ k1,up _ _ k2,ar h1 h2⟩
def Mt(b:Nat)(l:List UInt8)(w:World):Prop:=Lib.IsBuilderF 51 5 b b (Lib.byteCells l) w
theorem Mt.lt(h:Mt b bs w):b<w.heap.size:=by
 rcases h with⟨_,v,hb,_⟩|⟨_,v,hb,_⟩
 ·exact eO hb
 ·exact eO hb
theorem CQ(h:Mt b bs w)(s:List UInt8)(hlen:bs.length+s.length<=140737488355328):
  Z4 34 #[Z8 b,.string ⟨s.toArray⟩] w fun e w'=>e=.returned (.tuple #[.int .i64 s.length,.nilIface])/\Mt b (bs++s) w'/\Below b w w'/\Lib.OthersKept 5 (some b) w w':=by
 refine(mP b b (Lib.byteCells bs) ⟨s.toArray⟩ w h (by simpa [ByteArray.size,Lib.byteCells]using hlen) (cI h.lt)).mono ?_;rintro e w' ⟨rfl,h1,h2,h3⟩;refine⟨by simp[ByteArray.size],Or.inr ?_,h2,h3⟩;have e1:Lib.byteCells (bs++s)=Lib.byteCells bs++Lib.strCells ⟨s.toArray⟩:=by simp[Lib.byteCells,Lib.strCells]
 rw[e1];exact h1
theorem K6(h:Mt b bs w):Z4 38 #[Z8 b] w fun e w'=>e=.returned (.string ⟨bs.toArray⟩)/\Below b w w':=by
 refine(Tryz.Builder_String_any_k b b bs w h (cI h.lt)).mono ?_;rintro e w' ⟨rfl,_,h2,_⟩;exact⟨rfl,h2⟩
theorem Mt.past(h:Mt b bs w)(hb:Z5 w w'):Mt b bs w':=by
 have key:∀p,Lib.BuilderAtF 51 5 b b p (Lib.byteCells bs) w->Lib.BuilderAtF 51 5 b b p (Lib.byteCells bs) w':=by
  rintro p ⟨h1,v,jI,hown,hne⟩;exact⟨h1,v,(hb.block b (eO jI)).trans jI,hown.kept (row:=none) ⟨hb.os,hb.tape,hb.output,hb.size,fun k hk _=>hb.block k hk⟩ (Classical.em _),hne⟩
 exact h.imp (key _) (key _)
theorem aaB(w:World):Mt w.heap.size [] (w.alloc (.cells #[.pointer none,.slice none 0 0] 51)):=Lib.IsBuilderF.of (Lib.fresh_isBuilder 51 5 w)
theorem H_(n:List UInt8)(at_:jY)(va:Value)(w:World)(hrow:w.ownsRow 0 143 2 va at_.length (eG at_))(hz:(fI n at_ at_.length).length<=1099511627776):
  Z4 36 #[.string ⟨n.toArray⟩,va] w (Z7 (.string ⟨(fI n at_ at_.length).toArray⟩) w):=by
 obtain⟨ai,ac,rfl⟩:=eE hrow;have hle:=H4 n at_;have h0:fI n at_ 0=60::n:=by simp[fI]
 have a0:=ia [60] n (fI n at_ 0) (by rw[h0];rfl) (by have:=hle 0;rw[h0]at this;simp only[ag,aq]at this ⊢;omega);have hw0:∀W,Mt w.heap.size [] W->Z4 34 #[.pointer (some ⟨w.heap.size,0,none⟩),.string ⟨(fI n at_ 0).toArray⟩] W fun e w'=>e=.returned (.tuple #[.int .i64 (fI n at_ 0).length,.nilIface])/\Mt w.heap.size (fI n at_ 0) w'/\Below w.heap.size W w':=fun W h=>by
  refine(CQ h (fI n at_ 0) (by have:=hle 0;simp only[aq];omega)).mono ?_;rintro e w' ⟨rfl,h1,h2,_⟩;exact⟨rfl,h1,h2⟩
 have Ia:∀W,Z5 w W->∀i (hi:i<at_.length),∃ga,ai=some ⟨ga,0,none⟩/\(at_.length:Int)<=9223372036854775807/\∃x y:List UInt8,fI n at_ (i+1)=fI n at_ i++(32::(x++([61,34]++(Ch.h_ true y++[34]))))/\y.length<=1099511627776/\W.cell? ⟨ga,i*2,none⟩=some (.string ⟨x.toArray⟩)/\W.cell? ⟨ga,i*2+1,none⟩=some (.string ⟨y.toArray⟩):=by
  intro W hW i hi;obtain⟨ga,ca,e,x1,x2,hm⟩:=H9 hrow i hi;cases e;have Yc:ga<w.heap.size:=eU hrow rfl;have h7:=Ch.sA true (at_[i]).2;have hn:=AF n at_ i hi;have hl:=hle (i+1);rw[hn,ae]at hl;unfold px at hl;simp only[ag,ae,aq]at hl;exact⟨ga,rfl,by have:maxLen=9223372036854775807:=rfl;omega,(at_[i]).1,(at_[i]).2,hn,by omega,(aj (hW.block ga Yc)).trans x1,(aj (hW.block ga Yc)).trans x2⟩
 have HF:=a_ (aaB w);have HFB:=a_ ((Below.refl w.heap.size w).alloc (ah _) (.cells #[.pointer none,.slice none 0 0] 51));have tY:=a_ Ia;have HLE:=a_ hle;have HZ:=a_ hz;have PY:=a_ hw0;clear Ia hle hz hw0 hrow h0;generalize hH:fI n at_=H at*
 have HH:=a_ hH;clear hH;generalize at_.length=m at*
 go_enter func36,ntmps36;go_wp2_with(go_at_call 34;refine(PY.out _ HF.out).mono ?_;rintro e w1 ⟨rfl,r1,b1⟩;have R1:=a_ r1;have B1:=a_ (HFB.out.trans b1);clear r1 b1);go_loopw [13] (fun iv wr=>∃k:Nat,iv=.int .i64 k/\k<=m/\Mt w.heap.size (H k) wr/\Z5 w wr) (fun iv _=>m-(RowKit.intOf iv).toNat)
 case atStart=>exact⟨0,rfl,ax _,R1.out,B1.out⟩
 case round=>
  obtain⟨k,rfl,hk,hwr,hb⟩:=hrel;have Yk:=a_ hwr;have HB:=a_ hb;clear hwr hb R1 B1;by_cases hlt:k<m
  ·obtain⟨ga,rfl,hmax,x,y,tM,LL,g1,g2⟩:=tY.out _ HB.out k hlt;have hdec:decide ((k:Int)<m)=true:=by simp;omega
   have AG:Ch.U8 ⟨y.toArray⟩ true=Ch.h_ true y:=by unfold Ch.U8;simp
   have fg:=fun w=>uv ⟨y.toArray⟩ true w (by simpa [ByteArray.size]using LL);rw[AG]at fg;have tR:=HLE.out (k+1);have hl2:=HZ.out;obtain⟨V,hV⟩:∃V,Ch.h_ true y=V:=⟨_,rfl⟩
   rw[hV]at fg tM;obtain⟨X2,Dh⟩:∃X,[32]++x=X:=⟨_,rfl⟩
   obtain⟨X3,TR⟩:∃X,X2++[61,34]=X:=⟨_,rfl⟩
   obtain⟨X4,XB⟩:∃X,X3++V=X:=⟨_,rfl⟩
   obtain⟨X5,hX5⟩:∃X,X4++[34]=X:=⟨_,rfl⟩
   have e5:H (k+1)=H k++X5:=by rw[tM,<-hX5,<-XB,<-TR,<-Dh];simp
   have n0:=aC List.length e5;rw[ae]at n0;have n1:X2.length=x.length+1:=by rw[<-Dh,ae];simp only[ag,aq];omega
   have n2:X3.length=X2.length+2:=by rw[<-TR,ae];rfl
   have n3:X4.length=X3.length+V.length:=by rw[<-XB,ae]
   have n4:X5.length=X4.length+1:=by rw[<-hX5,ae];rfl
   have p2:=ia [32] x X2 Dh (by simp only[ag,aq];omega);have p3:=ia X2 [61,34] X3 TR (by simp only[ag,aq];omega);have p4:=ia X3 V X4 XB (by omega);have p5:=ia X4 [34] X5 hX5 (by simp only[ag,aq];omega);obtain⟨O,hO⟩:∃O:Obj,Obj.cells #[.string ⟨x.toArray⟩,.string ⟨y.toArray⟩] 143=O:=⟨_,rfl⟩
   have fj:=(Below.refl wr.heap.size wr).alloc (ah _) O;have hxn:(wr.alloc O).heap[wr.heap.size]?=some (.cells #[.string ⟨x.toArray⟩,.string ⟨y.toArray⟩] 143):=by rw[hO];exact eL _ _
   have c0:(wr.alloc O).cell? ⟨wr.heap.size,0,none⟩=some (.string ⟨x.toArray⟩):=cell_of hxn rfl;have c1:(wr.alloc O).cell? ⟨wr.heap.size,1,none⟩=some (.string ⟨y.toArray⟩):=cell_of hxn rfl;have hlx:wr.heap.size<(wr.alloc O).heap.size:=by first|(simp;done)|(simp;omega)
   have hlb:=Yk.out.lt;have K7:∀W,Below (wr.alloc O).heap.size (wr.alloc O) W->(W.cell? ⟨wr.heap.size,0,none⟩=some (.string ⟨x.toArray⟩)/\W.cell? ⟨wr.heap.size,1,none⟩=some (.string ⟨y.toArray⟩))/\Mt w.heap.size (H k) W/\Z5 w W:=fun W hW=>by
    have hx2:=(hW.block wr.heap.size hlx).trans hxn;have EV:=fj.trans (fE hW (cI hlx));exact⟨⟨cell_of hx2 rfl,cell_of hx2 rfl⟩,Yk.out.past EV,HB.out.trans (fE EV (cI hlb))⟩
   have Uh:∀W,Below (wr.alloc O).heap.size (wr.alloc O) W->Z4 34 #[.pointer (some ⟨w.heap.size,0,none⟩),.string ⟨X5.toArray⟩] W fun e w'=>e=.returned (.tuple #[.int .i64 X5.length,.nilIface])/\Mt w.heap.size (H (k+1)) w'/\Z5 w w'/\(w'.cell? ⟨wr.heap.size,0,none⟩=some (.string ⟨x.toArray⟩)/\w'.cell? ⟨wr.heap.size,1,none⟩=some (.string ⟨y.toArray⟩)):=fun W hW=>by
    obtain⟨_,hW2,hbW⟩:=K7 W hW;refine(CQ hW2 X5 (by omega)).mono ?_;rintro e w' ⟨rfl,q,q2,q3⟩;have h9:=q3 wr.heap.size _ ((hW.block wr.heap.size hlx).trans hxn) (fun e=>by have:=bF e;omega) (by intro c fz e;cases e);exact⟨rfl,by rw[e5];exact q,hbW.trans q2,cell_of h9 rfl,cell_of h9 rfl⟩
   have AR:=a_ fg;have HWT:=a_ Uh;have HAF:=a_ K7;clear fg tM LL AG tR hl2 Uh K7 hV Dh TR XB hX5 e5 n0 n1 n2 n3 n4 fj hxn hlx;go_wp2_with fail;try rw[hO]
   clear g1 g2 hO;go_region_held3 (fun W=>W.cell? ⟨wr.heap.size,0,none⟩=some (.string ⟨x.toArray⟩)/\W.cell? ⟨wr.heap.size,1,none⟩=some (.string ⟨y.toArray⟩))
    (first|exact d3|exact⟨c0,c1⟩|exact(HAF.out _ (below_drewN b2 _)).1|exact(HAF.out _ b2).1)
    (first|(go_at_call 37;refine(AR.out _).mono ?_;rintro e w2 ⟨rfl,Vd⟩;have b2:=(below_drewN (Below.refl _ _) _).trans Vd;clear Vd)|(go_at_call 34;(first|refine(HWT.out _ b2).mono ?_|refine(HWT.out _ (below_drewN b2 _)).mono ?_);rintro e w3 ⟨rfl,r3,b3,d3⟩))
   all_goals
    have R3:=a_ r3;have B3:=a_ b3;clear r3 b3 b2 d3 c0 c1;go_wp2
    go_roundw
    case rel=>exact⟨k+1,by simp,by omega,R3.out,B3.out⟩
    case measure=>simp only[RowKit.intOf];omega
  ·have hdec:decide ((k:Int)<m)=false:=by simp;omega
   obtain rfl:m=k:=by omega
   have ac6:=K6 Yk.out;go_wp2_with(go_at_call 38;refine ac6.mono ?_;rintro e w2 ⟨rfl,b2⟩;have B2:=a_ (HB.out.trans b2);clear b2);go_ret;exact⟨rfl,B2.out⟩
end
section
variable{w w' w1 wr:World}{b B:Nat}{bs:List UInt8}{nv:Value}
theorem WR.past(h:WR b bs nv w)(hb:Z5 w w'):WR b bs nv w':=by
 obtain⟨ty,p,v,hty,hp,jI,hown,hne⟩:=h.ex;exact⟨ty,p,v,hty,hp,(hb.block b (eO jI)).trans jI,hown.kept (row:=none) ⟨hb.os,hb.tape,hb.output,hb.size,fun k hk _=>hb.block k hk⟩ (Classical.em _),hne⟩
end
section
variable{w w' w1 wr:World}{b B:Nat}{bs:List UInt8}{nv:Value}
theorem XC(l:List Nat)(H:Nat->List UInt8)(gN o:Nat)(ki:Option Addr)(kc:Nat)(h:WR b (bs++H 0) nv w)(hgN:gN<b)(c3:w.cell? ⟨gN,o+3,none⟩=some (.slice ki l.length kc))(hrow:w.ownsRow 0 3 1 (.slice ki l.length kc) l.length (fF l))
  (XD:∀k,(Value.slice ki l.length kc).ownBlock=some k->k<b)
  (Ui:∀i (hi:i<l.length) W,WR b (bs++H i) nv W->Below b w W->Z4 17 #[Z8 b,.int .i64 (l[i]:Int)] W fun e w'=>e=.returned (.tuple #[])/\WR b (bs++H (i+1)) nv w'/\Below b W w'):
  Z4 39 #[Z8 b,.pointer (some ⟨gN,o,none⟩),.func (.func 17) #[] #[]] w fun e w'=>e=.returned (.tuple #[])/\WR b (bs++H l.length) nv w'/\Below b w w':=by
 have tI:∀W,Below b w W->∀i (hi:i<l.length),∃ga,ki=some ⟨ga,0,none⟩/\(l.length:Int)<=9223372036854775807/\W.cell? ⟨ga,i,none⟩=some (.int .i64 (l[i]:Int)):=by
  intro W hW i hi;obtain⟨ga,ca,e,x1,hm⟩:=AB (n:=0) hrow i hi;cases e;exact⟨ga,rfl,by have:maxLen=9223372036854775807:=rfl;omega,(aj (hW.block ga (XD ga rfl))).trans x1⟩
 have HK:=a_ tI;have HW:=a_ Ui;have HR:=a_ h;clear h hrow XD Ui tI;go_enter func39,ntmps39;go_wp2_with fail;go_loopw [13] (fun iv wr=>∃k:Nat,iv=.int .i64 k/\k<=l.length/\WR b (bs++H k) nv wr/\Below b w wr) (fun iv _=>l.length-(RowKit.intOf iv).toNat)
 case atStart=>exact⟨0,rfl,ax _,HR.out,Below.refl _ _⟩
 case round=>
  obtain⟨k,rfl,hk,hwr,hb⟩:=hrel;have Yk:=a_ hwr;have HB:=a_ hb;clear hwr hb HR c3;by_cases hlt:k<l.length
  ·obtain⟨ga,rfl,hmax,g1⟩:=HK.out _ HB.out k hlt;have hdec:decide ((k:Int)<l.length)=true:=by simp;omega
   have fg:=HW.out k hlt _ Yk.out HB.out;have AR:=a_ fg;clear fg;generalize (l[k]:Int)=z at*
   go_wp2_with fail;refine AR.out.mono ?_;rintro e w2 ⟨rfl,r2,b2⟩;have R2:=a_ r2;have B2:=a_ (HB.out.trans b2);clear r2 b2 AR g1;go_wp2
   go_roundw
   case rel=>exact⟨k+1,by simp,by omega,R2.out,B2.out⟩
   case measure=>simp only[RowKit.intOf];omega
  ·have hdec:decide ((k:Int)<l.length)=false:=by simp;omega
   obtain rfl:l.length=k:=by omega
   go_wp2
   go_end0
   exact⟨rfl,Yk.out,HB.out⟩
end
section
def Fo.parts:Fo->List Fo
 | .nil=>[]
 | .text t r=> .text t .nil::r.parts
 | .elem n a k r=> .elem n a k .nil::r.parts
theorem s5:∀(f:Fo) (m:Nat),f.parts.length=(f.jE m).length
 | .nil,_=>rfl
 | .text t r,m=>by simp only[Fo.parts,Fo.jE,ag,s5 r (m+1)]
 | .elem n a k r,m=>by simp only[Fo.parts,Fo.jE,ag,s5 r (m+1+k.size)]
theorem AH{l:List Nd}{u:Int}:∀(f:Fo) (m:Nat),qX l m u f->∀i (h:i<(f.jE m).length) (h2:i<f.parts.length),qX l (f.jE m)[i] u f.parts[i]/\EJ f.parts[i]/\(f.parts[i]).size<=f.size
 | .nil,_,_,i,h,_=>by simp[Fo.jE]at h
 | .text t r,m,ha,0,_,_=>⟨.Xz ha.text.1,Or.inl ⟨t,rfl⟩,by simp[Fo.parts,Fo.size]⟩
 | .text t r,m,ha,i+1,h,h2=>by
  obtain⟨x,y,z⟩:=AH r (m+1) ha.text.2 i (by simpa [Fo.jE]using h) (by simpa [Fo.parts]using h2);exact⟨x,y,by simp only[Fo.size];exact ar z (by omega)⟩
 | .elem n a k r,m,ha,0,_,_=>⟨.XA ha.elem.1 ha.elem.2.1,Or.inr ⟨n,a,k,rfl⟩,by simp[Fo.parts,Fo.size]⟩
 | .elem n a k r,m,ha,i+1,h,h2=>by
  obtain⟨x,y,z⟩:=AH r (m+1+k.size) ha.elem.2.2 i (by simpa [Fo.jE]using h) (by simpa [Fo.parts]using h2);exact⟨x,y,by simp only[Fo.size];exact ar z (by omega)⟩
theorem o_:∀f:Fo,f.parts.flatMap Fo.plain=f.plain
 | .nil=>rfl
 | .text t r=>by simp[Fo.parts,Fo.plain,o_ r]
 | .elem n a k r=>by simp[Fo.parts,Fo.plain,o_ r]
def upto(g:Fo->List UInt8)(f:Fo)(i:Nat):List UInt8:=(f.parts.take i).flatMap g
theorem Pm(g:Fo->List UInt8)(f:Fo)(i:Nat)(h:i<f.parts.length):upto g f (i+1)=upto g f i++g f.parts[i]:=by
 unfold upto;rw[aN h,bY];simp
theorem Uj(g:Fo->List UInt8)(f:Fo):upto g f f.parts.length=f.parts.flatMap g:=by unfold upto;rw[bt]
theorem XE(g:Fo->List UInt8)(f:Fo)(i:Nat):(upto g f i).length<=(f.parts.flatMap g).length:=by
 have h:(f.parts.take i).flatMap g++(f.parts.drop i).flatMap g=f.parts.flatMap g:=by rw[<-bY,dv]
 rw[<-h,ae];unfold upto;omega
variable{A K:Nat->Prop}{w w' w1 wr:World}{b:Nat}{bs:List UInt8}{nv:Value}{av kv:Nat->Value}{l:List Nd}
theorem f_.after(h:f_ 108 143 A K w nv l av kv)(hA:∀k,A k->k<b)(hK:∀k,K k->k<b)(hb:Below b w w'):f_ 108 143 A K w' nv l av kv:=
 h.frame (fun k _ a=>hb.block k (hA k a)) (fun k _ a=>hb.block k (hK k a)) (fun _ _ a=>a)
end
section
variable{A K:Nat->Prop}{w w' w1 wr:World}{b:Nat}{bs:List UInt8}{nv:Value}{av kv:Nat->Value}{l:List Nd}
theorem xo{P:List UInt8->Prop}{Q:List UInt8->jY->Prop}:∀(f:Fo),f.All P Q->∀i (h:i<f.parts.length),(f.parts[i]).All P Q
 | .nil,_,i,h=>by simp[Fo.parts]at h
 | .text t r,ha,0,_=>⟨ha.1,trivial⟩
 | .text t r,ha,i+1,h=>xo r ha.2 i (by simpa [Fo.parts]using h)
 | .elem n a k r,ha,0,_=>⟨ha.1,ha.2.1,trivial⟩
 | .elem n a k r,ha,i+1,h=>xo r ha.2.2 i (by simpa [Fo.parts]using h)
theorem Uk(w:World):(binOp .eql 34 (.slice none 0 0) (.slice none 0 0)).run prog w=.ok (.bool true) w:=by kernel_rfl
theorem XF(a:Addr)(n c:Nat)(w:World):(binOp .eql 34 (.slice (some a) n c) (.slice none 0 0)).run prog w=.ok (.bool false) w:=by kernel_rfl
theorem Ib(hA:∀k,A k->k<b)(hK:∀k,K k->k<b)(t:List UInt8)(m:Nat)(u:Int)(bs:List UInt8)(w:World)(l9:l[m]?=some ⟨[],[],t,[],u⟩)(hn:f_ 108 143 A K w nv l av kv)(hwr:WR b bs nv w)(hz:bs.length+(Ch.h_ false t).length<=1099511627776):
  Z4 17 #[Z8 b,.int .i64 (m:Int)] w fun e w'=>e=.returned (.tuple #[])/\WR b (bs++Ch.h_ false t) nv w'/\Below b w w':=by
 have hm:=(List.getElem?_eq_some_iff.1 l9).1;obtain⟨g,cap,rfl,VG,YJ,q0,q1,q2,q3,q4⟩:=hn.cells m _ l9;obtain⟨ty,p,v,hty,hp,jI,hown,hne⟩:=hwr.ex;obtain⟨z0,z1,z2,_,_,_,hbl⟩:=xm jI;have hmx:(l.length:Int)<=9223372036854775807:=by have:maxLen=9223372036854775807:=rfl;omega
 have yy:¬(m:Int)<0:=by omega
 have YB:(m:Int)<l.length:=by omega
 have h7:=Ch.sA false t;have AG:Ch.U8 ⟨t.toArray⟩ false=Ch.h_ false t:=by unfold Ch.U8;simp
 have fg:=fun w=>uv ⟨t.toArray⟩ false w (by simp only[ByteArray.size,cv];omega);rw[AG]at fg;obtain⟨V,hV⟩:∃V,Ch.h_ false t=V:=⟨_,rfl⟩
 rw[hV]at fg hz ⊢;have hw0:=fun W (hW:WR b bs (Z9 g l.length cap) W)=>xn hW ⟨V.toArray⟩ (by simp only[ByteArray.size,cv];omega);have hgb:=hK g YJ;have HR:=a_ hwr;have AR:=a_ fg;have PY:=a_ hw0;clear hwr fg hw0 hn hz l9 hown hne hp jI q1 q3 q4 z0 z1 h7 AG hV;unfold eZ at q0 q2;generalize l.length=L at*
 go_enter func17,ntmps17;go_wp2_with fail;go_region_held3 (fun W=>W.cell? ⟨g,m*5+2,none⟩=some (.string ⟨t.toArray⟩))
  (first|exact q2|exact(aj (b1.block g hgb)).trans q2|exact(aj (b2.block g hgb)).trans q2)
  (first|(go_at_call 37;refine(AR.out _).mono ?_;rintro e w2 ⟨rfl,Vd⟩;have r2:=HR.out.past ((below_drewN (Below.refl _ _) _).trans Vd);have b2:=fE ((below_drewN (Below.refl _ _) _).trans Vd) (cI hbl);clear Vd)|(go_at_call 34;(first|refine(PY.out _ r2).mono ?_|refine(PY.out _ ⟨r2.ex⟩).mono ?_);rintro e w1 ⟨rfl,r1,b1',-⟩;have b1:Below b w w1:=Below.trans b2 b1';clear b1'))
 all_goals
  have R1:=a_ r1;have B1:=a_ b1;clear r1 b1 r2 b2 q2 q0;go_wp2;refine aV (aK rfl _ _ _) rfl ?_;exact⟨rfl,R1.out,B1.out⟩
end
section
variable{A K:Nat->Prop}{w w' w1 wr:World}{b:Nat}{bs:List UInt8}{nv:Value}{av kv:Nat->Value}{l:List Nd}
theorem Ic(hA:∀k,A k->k<b)(hK:∀k,K k->k<b)(nd:Nd)(m:Nat)(P:List UInt8)(bs:List UInt8)(w:World)(l9:l[m]?=some nd)(Jg:nd.name≠[])(hnil:nd.kids=[]->kv m=.slice none 0 0)(hn:f_ 108 143 A K w nv l av kv)(hwr:WR b bs nv w)
  (hz0:bs.length+(fI nd.name nd.b_ nd.b_.length).length<=1099511627776) (hz:bs.length+(fI nd.name nd.b_ nd.b_.length).length+P.length+nd.name.length+8<=140737488355328)
  (CR:nd.kids≠[]->∀g cap,nv=Z9 g l.length cap->∀W,Below b w W->WR b (bs++fI nd.name nd.b_ nd.b_.length++[62]) nv W->Z4 39 #[Z8 b,.pointer (some ⟨g,m*5,none⟩),.func (.func 17) #[] #[]] W fun e w'=>e=.returned (.tuple #[])/\WR b (bs++fI nd.name nd.b_ nd.b_.length++[62]++P) nv w'/\Below b W w'):
  Z4 17 #[Z8 b,.int .i64 (m:Int)] w fun e w'=>e=.returned (.tuple #[])/\WR b (bs++(fI nd.name nd.b_ nd.b_.length++(if nd.kids=[]then [47,62]else [62]++(P++([60,47]++(nd.name++[62])))))) nv w'/\Below b w w':=by
 have hm:=(List.getElem?_eq_some_iff.1 l9).1;obtain⟨g,cap,rfl,VG,YJ,q0,q1,q2,q3,q4⟩:=hn.cells m _ l9;obtain⟨ty,p,v,hty,hp,jI,hown,hne⟩:=hwr.ex;obtain⟨z0,z1,z2,_,_,_,hbl⟩:=xm jI;have hmx:(l.length:Int)<=9223372036854775807:=by have:maxLen=9223372036854775807:=rfl;omega
 have yy:¬(m:Int)<0:=by omega
 have YB:(m:Int)<l.length:=by omega
 have hgb:=hK g YJ;have Ve:=hn.attr m nd l9;obtain⟨ai,ac,hai⟩:=eE Ve;rw[hai]at Ve q1;have aaC:∀W,Below b w W->Z4 36 #[.string ⟨nd.name.toArray⟩,.slice ai nd.b_.length ac] W (Z7 (.string ⟨(fI nd.name nd.b_ nd.b_.length).toArray⟩) W):=fun W hW=>
  H_ nd.name nd.b_ _ W (eI Ve fun k e=>hW.block k (hA k (hn.qN m k hm (by rw[hai];exact e)))) (by omega)
 obtain⟨T,hT⟩:∃T,fI nd.name nd.b_ nd.b_.length=T:=⟨_,rfl⟩
 rw[hT]at aaC hz CR ⊢;have hcell:∀W,Below b w W->W.cell? ⟨g,m*5,none⟩=some (.string ⟨nd.name.toArray⟩)/\W.cell? ⟨g,m*5+1,none⟩=some (.slice ai nd.b_.length ac)/\W.cell? ⟨g,m*5+3,none⟩=some (kv m):=fun W hW=>⟨(aj (hW.block g hgb)).trans q0,(aj (hW.block g hgb)).trans q1,(aj (hW.block g hgb)).trans q3⟩
 have hw0:=fun(cs:List UInt8) (s:List UInt8) W (hW:WR b cs (Z9 g l.length cap) W) (hl:cs.length+s.length<=140737488355328)=>xn hW ⟨s.toArray⟩ (by simp only[ByteArray.size,cv];omega);have lB:nd.name.isEmpty=false:=by cases h0:nd.name with|nil=>exact absurd h0 Jg|cons a r=>rfl
 have yi:nd.kids≠[]->∃gk c,kv m=Z9 gk nd.kids.length c:=fun h0=>by
  obtain⟨gk,c,e,_,_⟩:=AB (n:=0) (hn.kid m nd l9) 0 (by cases h1:nd.kids with|nil=>exact absurd h1 h0|cons a r=>simp);exact⟨gk,c,e⟩
 have Ws:=a_ yi;clear yi;have HC:=a_ hcell;have HO:=a_ aaC;have PY:=a_ hw0;have HR:=a_ hwr;have HZ:=a_ hz;have HKS:=a_ CR;have HNL:=a_ hnil;clear hwr hw0 hn hz l9 hown hne hp jI q2 q3 q4 z0 z1 hcell aaC CR Ve hnil hai;unfold eZ at q0;generalize l.length=L at*
 go_enter func17,ntmps17;go_wp2_with fail;go_region_held3 (fun W=>W.cell? ⟨g,m*5,none⟩=some (.string ⟨nd.name.toArray⟩)/\W.cell? ⟨g,m*5+1,none⟩=some (.slice ai nd.b_.length ac))
  (first|exact⟨q0,q1⟩|exact⟨(HC.out _ b1).1,(HC.out _ b1).2.1⟩|exact⟨(HC.out _ b2).1,(HC.out _ b2).2.1⟩)
  (first|(go_at_call 36;refine(HO.out _ (Below.refl b w).drew).mono ?_;rintro e w2 ⟨rfl,Vd⟩;have r2:=(show WR b bs _ w.drew from⟨HR.out.ex⟩).past Vd;have b2:=Below.trans (Below.refl b w).drew (fE Vd (cI hbl));clear Vd)|(go_at_call 34;(first|refine(PY.out bs T _ r2 (by have:=HZ.out;omega)).mono ?_|refine(PY.out bs T _ ⟨r2.ex⟩ (by have:=HZ.out;omega)).mono ?_);rintro e w1 ⟨rfl,r1,b1',-⟩;have b1:Below b w w1:=Below.trans b2 b1';clear b1'))
 all_goals
 have R1:=a_ r1;have B1:=a_ b1;obtain⟨d0,d1,d3⟩:=HC.out _ b1;clear r1 b1 q0 q1 r2 b2 d1;by_cases Qc:nd.kids=[]
 ·rw[HNL.out Qc]at d3;have he0:=Uk;have nZ:=PY.out _ [47,62] w1 R1.out (by have:=HZ.out;simp only[ae,ag,aq];omega);have ZI:=a_ nZ;clear nZ;go_wp2_with fail;refine ZI.out.mono ?_;rintro e w2 ⟨rfl,r2,b2,-⟩;have R2:=a_ r2;have B2:=a_ (B1.out.trans b2);clear r2 b2;go_wp2;refine aV (aK rfl _ _ _) rfl ?_;exact⟨rfl,by have h:=R2.out;simpa [Qc]using h,B2.out⟩
 ·obtain⟨gk,c,e⟩:=Ws.out Qc;rw[e]at d3;have he0:=XF ⟨gk,0,none⟩ nd.kids.length c;have nZ:=PY.out _ [62] w1 R1.out (by have:=HZ.out;simp only[ae,ag,aq];omega);have ZI:=a_ nZ;have HKK:=a_ (HKS.out Qc g cap rfl);clear nZ;have p2:=ia [60,47] nd.name ([60,47]++nd.name) rfl (by have:=HZ.out;simp only[ag,aq];omega);have p3:=ia ([60,47]++nd.name) [62] ([60,47]++nd.name++[62]) rfl (by have:=HZ.out;simp only[ae,ag,aq];omega);obtain⟨X,hX⟩:∃X,[60,47]++nd.name=X:=⟨_,rfl⟩
  obtain⟨Y,hY⟩:∃Y,X++[62]=Y:=⟨_,rfl⟩
  rw[hX]at p2 p3;rw[hY]at p3;have LL:Y.length=nd.name.length+3:=by rw[<-hY,<-hX];simp only[ae,ag,aq];omega
  have hE:bs++(T++([62]++(P++([60,47]++(nd.name++[62])))))=bs++T++[62]++P++Y:=by rw[<-hY,<-hX];simp
  have HE:=a_ hE;have HX:=a_ hX;have HY:=a_ hY;clear hX hY hE;go_wp2_with fail;refine ZI.out.mono ?_;rintro e w2 ⟨rfl,r2,b2,-⟩;have R2:=a_ r2;have B2:=a_ (B1.out.trans b2);clear r2 b2 d0 d3;go_wp2_with fail;refine(HKK.out _ B2.out R2.out).mono ?_;rintro e w3 ⟨rfl,r3,b3⟩;have R3:=a_ r3;have B3:=a_ (B2.out.trans b3);obtain⟨d0,-,d3⟩:=HC.out _ B3.out;have Dn:=PY.out _ Y w3.drew ⟨r3.ex⟩ (by have:=HZ.out;simp only[ae,ag,aq];omega);have HWF:=a_ Dn;clear r3 b3 Dn;go_wp2_with fail;go_region_held3 (fun W=>W.cell? ⟨g,m*5,none⟩=some (.string ⟨nd.name.toArray⟩))
   (first|exact d0|exact(HC.out _ b4).1)
   (first|(go_at_call 34;refine HWF.out.mono ?_;rintro e w4 ⟨rfl,r4,b4',-⟩;have b4:Below b w w4:=Below.trans B3.out.drew b4';clear b4'))
  all_goals
   have R4:=a_ r4;have B4:=a_ b4;clear r4 b4 d0 d3;go_wp2
   go_end0
   exact⟨rfl,by have h:=R4.out;rw[<-HY.out,<-HX.out]at h;simpa [Qc]using h,B4.out⟩
theorem Pn(hA:∀k,A k->k<b)(hK:∀k,K k->k<b)(hnil:∀i nd,l[i]?=some nd->nd.kids=[]->kv i=.slice none 0 0):∀(N:Nat) (x:Fo) (m:Nat) (u:Int) (bs:List UInt8) (w:World),x.size<=N->EJ x->x.All (fun _=>True) (fun n _=>n≠[])->qX l m u x->f_ 108 143 A K w nv l av kv->WR b bs nv w->bs.length+x.plain.length+8<=1099511627776->
  Z4 17 #[Z8 b,.int .i64 (m:Int)] w fun e w'=>e=.returned (.tuple #[])/\WR b (bs++x.plain) nv w'/\Below b w w':=by
 intro N;induction N with
 |zero=>intro x m u bs w hN hs;rcases hs with⟨t,rfl⟩|⟨n,a,k,rfl⟩<;>simp[Fo.size]at hN
 |succ N ih=>
  intro x m u bs w hN hs hall hx hn hwr hz;rcases hs with⟨t,rfl⟩|⟨n,a,k,rfl⟩
  ·have l9:=hx.text.1;have hp:(Fo.text t .nil).plain=Ch.h_ false t:=by simp[Fo.plain]
   rw[hp]at hz ⊢;exact Ib hA hK t m u bs w l9 hn hwr (by omega)
  ·obtain⟨l9,hat,_⟩:=hx.elem;have hm:=(List.getElem?_eq_some_iff.1 l9).1;have Qc:k.jE (m+1)=[]↔k.isNil=true:=by cases k<;>simp[Fo.jE,Fo.isNil]
   have hp:(Fo.elem n a k .nil).plain=fI n a a.length++(if k.jE (m+1)=[]then [47,62]else [62]++(k.plain++([60,47]++(n++[62])))):=by simp only[Qc,Fo.plain,fI,bt,aO]
   rw[hp]at hz ⊢;have xv:k.jE (m+1)=[]->k.plain=[]:=by cases k<;>simp[Fo.jE,Fo.plain]
   have tR:(fI n a a.length).length=1+n.length+(a.flatMap px).length:=by unfold fI;rw[bt];simp only[ag,ae];omega
   have hz2:bs.length+(fI n a a.length).length+k.plain.length+n.length+8<=140737488355328:=by
    by_cases h0:k.jE (m+1)=[]
    ·rw[xv h0];rw[if_pos h0]at hz;simp only[ae,ag,aq]at hz ⊢;omega
    ·rw[if_neg h0]at hz;simp only[ae,ag,aq]at hz;omega
   have hzh:bs.length+(fI n a a.length).length<=1099511627776:=by rw[ae]at hz;omega
   refine Ic hA hK ⟨n,a,[],k.jE (m+1),u⟩ m k.plain bs w l9 hall.1 (hnil m _ l9) hn hwr hzh hz2 ?_;intro h0 g cap qO W hb hW;rw[if_neg h0]at hz;simp only[ae,ag,aq]at hz;have hle:=XE Fo.plain k;rw[o_]at hle;have tK:=hn.after hA hK hb;have aaD:=tK.kid m _ l9;obtain⟨g',cap',e',_,YJ,_,_,_,r3,_⟩:=tK.cells m _ l9;rw[qO]at e';cases e';obtain⟨ki,kc,Hl⟩:=eE aaD;rw[Hl]at aaD r3;have:=XC (w:=W) (bs:=bs++fI n a a.length++[62]) (k.jE (m+1)) (upto Fo.plain k) g (m*5) ki kc (by simpa [upto]using hW) (hK g YJ) r3 aaD (fun j hj=>hK j (hn.l7 m j hm (by rw[Hl];exact hj)).1) ?_
   ·refine this.mono ?_;rintro e w' ⟨rfl,s1,s2⟩;refine⟨rfl,?_,s2⟩;rw[<-s5 k (m+1),Uj,o_]at s1;exact s1
   ·intro i hi W2 hW2 hb2;have IG:i<k.parts.length:=by rw[s5 k (m+1)];exact hi
    obtain⟨t1,t2,t3⟩:=AH k (m+1) hat i hi IG;have tM:=Pm Fo.plain k i IG;have hl2:=hle (i+1);rw[tM,ae]at hl2;have:=ih k.parts[i] (k.jE (m+1))[i] m (bs++fI n a a.length++[62]++upto Fo.plain k i) W2 (by simp only[Fo.size]at hN;omega) t2 (xo k hall.2.1 i IG) t1 (tK.after hA hK hb2) hW2 (by simp only[ae,ag,aq];omega);refine this.mono ?_;rintro e w' ⟨rfl,s1,s2⟩;exact⟨rfl,by rw[tM,<-aM];exact s1,s2⟩
end
section
variable{w w' w1 wr:World}{b:Nat}{bs:List UInt8}{nv:Value}
theorem wg(b g n cap:Nat)(s:ByteArray)(W:World)(hW:Below b w W)(c1:w.drew.cell? ⟨b,1,none⟩=some (Z9 g n cap))
  (hSD:(Builtin.unsafeSliceData_ #[49] 155 #[Z9 g n cap]).run prog w.drew=.ok (Z8 g) w.drew)
  (hUS:(Builtin.unsafeString_ #[155,3] 9 #[Z8 g,.int .i64 n]).run prog w.drew=.ok (.string s) W):
  Z4 38 #[Z8 b] w fun e w'=>e=.returned (.string s)/\Below b w w':=by
 have mixed:=lays169.mixed;go_enter func38,ntmps38;go_wp2_with fail
 go_region_o
 all_goals(go_wp2;go_ret;exact⟨rfl,hW⟩)
theorem Ie(b:Nat)(c1:w.drew.cell? ⟨b,1,none⟩=some (.slice none 0 0)):
  Z4 38 #[Z8 b] w fun e w'=>e=.returned (.string ⟨#[]⟩)/\Below b w w':=by
 have mixed:=lays169.mixed;have hSD:(Builtin.unsafeSliceData_ #[49] 155 #[.slice none 0 0]).run prog w.drew=.ok (.pointer none) w.drew:=rfl;have hUS:(Builtin.unsafeString_ #[155,3] 9 #[.pointer none,.int .i64 0]).run prog w.drew=.ok (.string .empty) w.drew:=Lib.run_unsafeString_none (P:=prog) w.drew 155 3 9 none;go_enter func38,ntmps38;go_wp2_with fail
 go_region_o
 all_goals(go_wp2;go_ret;exact⟨rfl,(Below.refl b w).drew⟩)
theorem EK(b g:Nat)(cur:Array Value)(fz:Nat×Nat)(lJ:b<=w.heap.size)(c1:w.drew.cell? ⟨b,1,none⟩=some (Z9 g 0 0))(hg:w.heap[g]?=some (.cells cur 5 fz)):
  Z4 38 #[Z8 b] w fun e w'=>e=.returned (.string ⟨#[]⟩)/\Below b w w':=by
 have mixed:=lays169.mixed;have hSD:(Builtin.unsafeSliceData_ #[49] 155 #[Z9 g 0 0]).run prog w.drew=.ok (.pointer (some ⟨w.drew.heap.size,0,none⟩)) (w.drew.alloc (.view ⟨g,0,none⟩ 5)):=
  Lib.run_unsafeSliceData_zero w.drew _ _ 5 underlying155 ⟨g,0,none⟩ 0 (5,cur.size) (by have hg':w.drew.heap[g]?=some (.cells cur 5 fz):=hg;simp[World.shape?,hg'])
 have hUS:∀q W,(Builtin.unsafeString_ #[155,3] 9 #[.pointer q,.int .i64 0]).run prog W=.ok (.string .empty) W:=fun q W=>Lib.run_unsafeString_none (P:=prog) W 155 3 9 q;have c2:(w.drew.alloc (.view ⟨g,0,none⟩ 5)).cell? ⟨b,1,none⟩=some (Z9 g 0 0):=eF _ c1;have c3:(w.alloc (.view ⟨g,0,none⟩ 5)).drew.cell? ⟨b,1,none⟩=some (Z9 g 0 0):=c2;have c0:w.cell? ⟨b,1,none⟩=some (Z9 g 0 0):=c1;go_enter func38,ntmps38;go_wp2_with fail
 go_region_o
 all_goals(go_wp2;go_ret;exact⟨rfl,((Below.refl b w).drew).alloc lJ _⟩)
theorem uJ(h:WR b bs nv w):Z4 38 #[Z8 b] w fun e w'=>e=.returned (.string ⟨bs.toArray⟩)/\Below b w w':=by
 obtain⟨ty,p,v,hty,hp,jI,hown,hne⟩:=h.ex;obtain⟨_,c1,_,_,_,_,hbl⟩:=xm jI;rcases hown.2 with⟨rfl,hz⟩|⟨g,cap,cur,fz,rfl,hbg,hg,hfz,wJ,hcm,hcs,Ht⟩
 ·obtain rfl:bs=[]:=aR hz;exact Ie b c1
 ·by_cases h0:bs=[]
  ·subst h0;by_cases hc:cap=0
   ·subst hc;exact EK b g cur fz (cI hbl) c1 hg
   ·exact wg b g 0 cap ⟨#[]⟩ w.drew (Below.refl b w).drew c1 (Lib.run_unsafeSliceData_row _ _ _ _ _ _ hc) (Lib.run_unsafeString_none (P:=prog) w.drew 155 3 9 _)
  ·have hl0:bs.length≠0:=by simpa using h0
   refine wg b g bs.length cap ⟨bs.toArray⟩ (w.drew.freeze ⟨g,0,none⟩ bs.length) (Lib.below_freeze (Below.drew (Below.refl b w)) (p:=⟨g,0,none⟩) hbg _) c1 (Lib.run_unsafeSliceData_row _ _ _ _ _ _ (by omega)) ?_;refine Lib.run_unsafeString_row w.drew 155 3 9 5 underlying155 Tryz.Builder_Extra_169.cellsByte g cur.size (by have hg':w.drew.heap[g]?=some (.cells cur 5 fz):=hg;simp[World.shape?,hg']) bs h0 (by omega) (by unfold maxLen at hcm;omega) ?_;intro j x hx;exact hown.cells (g:=g) rfl j (.int .u8 x.toNat) (by simp[Lib.byteCells,hx])
end
end K
end Go.Proofs.YtjecakcpcnmieaaGreatDoor
namespace Go.Proofs.YtjecakcpcnmieaaGreatDoor
namespace K
open Go.RowKit Go.Lib Tryz
theorem K8(l:jY):(l.flatMap px).length<=(l.flatMap kZ).length:=by
 induction l with
 |nil=>simp
 |cons a l ih=>
  rw[bV,bV,ae,ae];have:(px a).length<=(kZ a).length:=by
   unfold px kZ;simp only[ag,ae,aq];omega
  omega
theorem lF(t:Tok)(l:List Tok):cost (t::l)=(jm t).length+cost l:=by simp[cost]
theorem CS{t:Tok}(h:t.kind=1):1+t.name.length+(t.b_.flatMap px).length+2<=(jm t).length:=by
 unfold jm;rw[if_pos h];have:=K8 t.b_;simp only[ag,ae,aq];omega
theorem AJ{t:Tok}(h:t.kind=2):(jm t).length=t.name.length+3:=by
 unfold jm;rw[if_neg (by omega),if_pos h];simp only[ag,ae,aq];omega
theorem Po{f:Fo}{l:List Tok}(h:ma f l):f.plain.length<=cost l/\f.value.length<=f.plain.length:=by
 induction h with
 |nil=>simp[Fo.plain,Fo.value]
 |text t r l h1 h2 h ih=>
  rw[lF];have h3:jm t=Ch.h_ false t.text++marks:=by unfold jm;rw[if_neg h1,if_neg h2]
  have h7:=Ch.sA false t.text;rw[h3];simp only[Fo.plain,Fo.value,ae];omega
 |elem t c k r lk lr h1 h2 hn hk hr ih1 ih2=>
  have e1:=CS h1;have e2:=AJ h2;have e3:=aC List.length hn;rw[lF,ky,lF];simp only[Fo.plain,Fo.value,ae,ag,aq];by_cases hz:k.isNil=true
  ·rw[if_pos hz];have xv:k.value=[]:=by cases k<;>simp[Fo.isNil,Fo.value]at hz ⊢
   rw[xv];simp only[ag,aq];omega
  ·rw[if_neg hz];simp only[ae,ag,aq];omega
theorem Pp{s:ByteArray}{nodes:List Nd}{q:Int}(h:fp s=(nodes,0,q)):q=0/\∃n a f,abL n a f/\nodes=(Fo.elem n a f .nil).flat 0 (-1)/\(Fo.elem n a f .nil).plain.length<=64*s.size/\(Fo.elem n a f .nil).value.length<=64*s.size/\Doc (j7 s) n a f/\(eQ s).err=0:=by
 have h0:=h;unfold fp at h;split at h
 ·rename_i hx;simp only[bQ]at h;exact absurd h.2.1 hx
 ·rename_i hx;split at h
  ·rename_i hy;simp only[bQ]at h;exact absurd h.2.1 hy
  ·rename_i hy;split at h
   ·simp only[bQ]at h;exact absurd h.2.1 (by decide)
   ·rename_i hz;simp only[bQ]at h;refine⟨h.2.2.symm,?_⟩;have he:(eQ s).err=0:=by simpa using hy
    have hx0:(grow Gr.zero (j7 s)).1=0:=aU fun e=>hx e;have hst:(grow Gr.zero (j7 s)).2.2.stack=[]:=aU fun e=>hz (Or.inl e);have hne:(grow Gr.zero (j7 s)).2.2.nodes≠[]:=fun e=>hz (Or.inr e);obtain⟨n,a,f,hd,e⟩:=Tp (j7 s) (grow Gr.zero (j7 s)).2.2 (grow Gr.zero (j7 s)).2.1 (by rw[<-hx0]) hst hne;have hc:=AE s he;have abO:=qy s;have hdc:=hd;obtain⟨⟨b1,t,ls,c,b2,el,_,_,k1,k2,k3,mk,k4,k5⟩,dp⟩:=hd;have aaE:cost (j7 s)<=64*s.size:=abO;rw[el,ky,lF,ky,lF]at aaE;have hm:=Po (ma.elem t c f .nil ls [] k1 k4 (by rw[k5,k2]) mk .nil);rw[k2,k3,lF,ky,lF]at hm;have hc0:cost ([]:List Tok)=0:=rfl;rw[hc0]at hm;refine⟨n,a,f,?_,by rw[<-e,<-h.1];rfl,by omega,by omega,hdc,he⟩;rw[el,kN]at hc;obtain⟨_,c1,_,c3⟩:=hc;have e3:(t.kind==3)=false:=by rw[k1];rfl
    rw[e3,kN]at c3;obtain⟨i1,i2⟩:=K4 mk _ c3.1;rcases c1 with⟨_,j1,j2,j3,_⟩|⟨k,_⟩|⟨k,_⟩
    ·subst k2;subst k3;exact⟨⟨j1,j2,j3⟩,i1,i2,dp⟩
    ·omega
    ·omega
end K
end Go.Proofs.YtjecakcpcnmieaaGreatDoor
namespace Go.Proofs.YtjecakcpcnmieaaGreatDoor
namespace K
open Go.RowKit Go.Maps Go.Lib Tryz
section
variable{A K:Nat->Prop}{w w' w1 wr:World}{nv:Value}{av kv:Nat->Value}{l:List Nd}{tN tA:TypeId}{a:Addr}
theorem f_.narrow(h:f_ tN tA A K w nv l av kv):f_ tN tA (fun k=>A k/\k<w.heap.size) (fun k=>K k/\k<w.heap.size) w nv l av kv:=
 ⟨h.row,fun k e=>⟨h.nR k e,eU h.row e⟩,h.attr,fun i k hi e=>⟨h.qN i k hi e,eU (h.attr i _ (aw hi)) e⟩,h.kid,fun i k hi e=>⟨⟨(h.l7 i k hi e).1,eU (h.kid i _ (aw hi)) e⟩,(h.l7 i k hi e).2⟩,h.apart,h.KG⟩
def K9(w:World)(S:List UInt8)(no q:Int)(e:Ending)(w':World):Prop:=e=.returned (.tuple #[.string ⟨S.toArray⟩,.int .i64 no,.int .i64 q])/\Z5 w w'
theorem uK{ty:TypeId}(hty:ty=105\/ty=53)(w1:World)(v:Value):WR w1.heap.size [] v (w1.alloc (.cells #[.pointer none,.slice none 0 0,v] ty)):=
 ⟨ty,.pointer none,.slice none 0 0,hty,Or.inl rfl,eL w1 _,⟨rfl,Or.inl ⟨rfl,rfl⟩⟩,fun e=>by cases e⟩
def Way(n:Nat)(l:List Nd)(m:Nat)(S:List UInt8):Prop:=∀(A K:Nat->Prop) (v:Value) (av kv:Nat->Value) (b:Nat) (w:World),(∀k,A k->k<b)->(∀k,K k->k<b)->f_ 108 143 A K w v l av kv->WR b [] v w->
 Z4 n #[Z8 b,.int .i64 (m:Int)] w fun e w'=>e=.returned (.tuple #[])/\WR b S v w'/\Below b w w'
theorem Pq{x:Fo}{m:Nat}{u:Int}(hs:EJ x)(ha:x.All (fun _=>True) (fun n _=>n≠[]))(hx:qX l m u x)(hz:x.plain.length<=549755813888):Way 17 l m x.plain:=fun A K v av kv b w hA hK hn hw=>by
 have:=Pn hA hK hn.KG x.size x m u [] w (ah _) hs ha hx hn hw (by simp only[aq];omega);simpa using this
theorem Pr(s:ByteArray)(k:Int)(n:Nat)(gl:Gl w a)(hb:s.size<=268435456)(h0:(fp s).2.1≠0):Z4 16 #[.string s,.int .i64 k,.func (.func n) #[] #[]] w (K9 w [] (fp s).2.1 (fp s).2.2):=by
 have hp:=pF s w gl hb;have hne:((fp s).2.1 !=0)=true:=by simpa using h0
 have HP:=a_ hp;clear hp gl h0;generalize fp s=x at*
 obtain⟨L,no,q⟩:=x;simp only at hne ⊢;go_enter func16,ntmps16;go_wp2_with(go_at_call 11;refine HP.out.mono ?_;rintro e w1 ⟨v,rfl,hn,hb1,hv⟩;have B1:=a_ hb1;clear hn hb1 hv)
 go_ret3
 exact⟨rfl,B1.out⟩
theorem K_(s:ByteArray)(m:Nat)(S:List UInt8)(gl:Gl w a)(hb:s.size<=268435456)(h0:(fp s).2.1=0)(hm:m<(fp s).1.length)(Ui:Way 17 (fp s).1 m S):Z4 16 #[.string s,.int .i64 (m:Int),.func (.func 17) #[] #[]] w (K9 w S 0 0):=by
 have hp:=pF s w gl hb;have HP:=a_ hp;have HW:=a_ Ui;clear hp gl Ui;generalize fp s=x at*
 obtain⟨L,no,q⟩:=x;simp only at h0 hm HP HW ⊢;subst h0;have hd:decide ((m:Int)<0)=false:=by simp
 have Fg:decide ((m:Int)≥(L.length:Int))=false:=by simp;omega
 have hd3:decide ((L.length:Int)<=(m:Int))=false:=by simp;omega
 have hd4:decide (L.length<=m)=false:=by simp;omega
 go_enter func16,ntmps16;go_wp2_with(go_at_call 11;refine HP.out.mono ?_;rintro e w1 ⟨v,rfl,⟨A,K,av,kv,hn,_⟩,hb1,hv⟩;obtain⟨ai,ac,rfl⟩:=eE hn.row;have HN:=a_ hn.narrow;have B1:=a_ hb1;clear hn hb1 hv);have hsz:=B1.out.size;have fg:=HW.out _ _ _ _ _ w1.heap.size (w1.alloc (.cells #[.pointer none,.slice none 0 0,.slice ai L.length ac] 105)) (fun k x=>x.2) (fun k x=>x.2) (HN.out.frame (fun k hk _=>ap _ _ _ hk) (fun k hk _=>ap _ _ _ hk) (fun _ _ x=>x)) (uK (Or.inl rfl) w1 _);have HC:=a_ fg;have hb2:Z5 w (w1.alloc (.cells #[.pointer none,.slice none 0 0,.slice ai L.length ac] 105)):=B1.out.alloc hsz _;have Hz:=a_ hb2;clear fg hb2;refine HC.out.mono ?_;rintro e w2 ⟨rfl,r2,b2⟩;have hst:=uJ r2;have adQ:=uJ (w:=w2.drew) ⟨r2.ex⟩;have B2:=a_ (Hz.out.trans (fE b2 hsz));clear r2 b2;go_wp2_with(go_at_call 38;refine hst.mono ?_;rintro e w3 ⟨rfl,b3⟩;have B3:=a_ (B2.out.trans (fE b3 hsz));clear b3)
 go_ret3
 exact⟨rfl,B3.out⟩
end
section
variable{w w' w1 wr:World}{a:Addr}
theorem Ig(s:ByteArray)(S:List UInt8)(no q:Int)(h:Z4 16 #[.string s,.int .i64 0,.func (.func 17) #[] #[]] w (K9 w S no q)):Z4 5 #[.string s] w (K9 w S no q):=by
 go_enter func5,ntmps5;go_wp2_with(go_at_call 16;refine h.mono ?_;rintro e w1 ⟨rfl,b1⟩)
 go_ret3
 exact⟨rfl,b1⟩
structure abP(l:List Nd)(m:Nat)(x:Fo):Prop where
 ex:∃u,qX l m u x
 one:EJ x
 all:x.All (fun _=>True) (fun n _=>n≠[])
 len:x.plain.length<=549755813888
 adR:x.value.length<=549755813888
 lt:m<l.length
theorem CT{n:List UInt8}(h:nD n):n≠[]:=by
 obtain⟨s0,q,hb,rfl⟩:=h;have h0:0<=cur s0 q:=by have:=(Ch.fT _).1 hb;omega
 have hq:=fl h0;have hle:jK s0 q<=s0.size:=oZ (by omega);have uO:yj (cur s0 q)=true:=by unfold yj;rw[hb];rfl
 have NH:q<jK s0 q:=by
  have:=sQ s0 (q+wid s0 q);rw[ld uO];omega
 intro e;have:=aC List.length e;rw[CB _ _ _ (by omega)]at this;simp only[aq]at this;omega
theorem s6:∀(f:Fo),f.All Uf Mq->f.All (fun _=>True) (fun n _=>n≠[])
 | .nil,_=>trivial
 | .text t r,h=>⟨trivial,s6 r h.2⟩
 | .elem n a k r,h=>⟨CT h.1.1,s6 k h.2.1,s6 r h.2.2⟩
structure Whole(s:ByteArray)(l:List Nd)(n:List UInt8)(a:jY)(f:Fo):Prop where
 root:abL n a f
 nodes:l=(Fo.elem n a f .nil).flat 0 (-1)
 plain:(Fo.elem n a f .nil).plain.length<=64*s.size
 value:(Fo.elem n a f .nil).value.length<=64*s.size
 doc:Doc (j7 s) n a f
 err:(eQ s).err=0
theorem Ul{s:ByteArray}(h:(fp s).2.1=0):(fp s).2.2=0/\∃n a f,Whole s (fp s).1 n a f:=by
 have e:fp s=((fp s).1,0,(fp s).2.2):=by rw[<-h]
 obtain⟨hq,n,a,f,h⟩:=Pp e;exact⟨hq,n,a,f,h.1,h.2.1,h.2.2.1,h.2.2.2.1,h.2.2.2.2.1,h.2.2.2.2.2⟩
theorem Whole.len{s:ByteArray}{l:List Nd}{n:List UInt8}{a:jY}{f:Fo}(h:Whole s l n a f):l.length=1+f.size:=by rw[h.nodes,nr];simp only[Fo.size,bH]
theorem Whole.first{s:ByteArray}{l:List Nd}{n:List UInt8}{a:jY}{f:Fo}(h:Whole s l n a f)(hs:s.size<=4294967296):abP l 0 (Fo.elem n a f .nil):=by refine⟨⟨-1,by rw[h.nodes];exact K3 _ _⟩,Or.inr ⟨n,a,f,rfl⟩,s6 _ ⟨h.root.name,h.root.all,trivial⟩,by have:=h.plain;omega,by have:=h.value;omega,by rw[h.len];omega⟩
theorem Ps(s:ByteArray)(gl:Gl w a)(hb:s.size<=268435456)(h0:(fp s).2.1≠0):Z4 5 #[.string s] w (K9 w [] (fp s).2.1 (fp s).2.2):=Ig s _ _ _ (Pr s 0 17 gl hb h0)
theorem La(s:ByteArray)(gl:Gl w a)(hb:s.size<=268435456)(h0:(fp s).2.1=0){x:Fo}(hx:abP (fp s).1 0 x):Z4 5 #[.string s] w (K9 w x.plain 0 0):=by
 obtain⟨u,hu⟩:=hx.ex;exact Ig s _ _ _ (K_ s 0 x.plain gl hb h0 hx.lt (Pq hx.one hx.all hu hx.len))
end
end K
end Go.Proofs.YtjecakcpcnmieaaGreatDoor
namespace Go.Proofs.YtjecakcpcnmieaaGreatDoor
namespace K
open Go.RowKit Tryz
theorem Ih{T:ByteArray}{l:List UInt8}(h:T.data.toList=l):T=⟨l.toArray⟩:=by subst h;rfl
theorem CU(s:ByteArray)(pos:Nat)(h:pos<s.size):s.get! pos=s[pos]:=by simp[ByteArray.get!,h];rfl
theorem Ii{s:ByteArray}{q:Bool}{pos:Nat}{T X:ByteArray}(h:pos<s.size)(hT:T.data.toList=Ch.h_ q (s.data.toList.take pos))(hX:X.data.toList=Ch.rp q s[pos]):
  (T++X).data.toList=Ch.h_ q (s.data.toList.take (pos+1)):=by
 rw[Joins.data_append,hT,hX,Ch.zx s pos h,Ch.rq,CU s pos h];simp[Ch.h_]
theorem Lb(q:Bool)(c:UInt8):(Ch.rp q c).length<=6:=by
 unfold Ch.rp;split
 ·simp
 ·exact Ch.BS _ _
theorem EL{s:ByteArray}{q:Bool}{pos:Nat}{T X:ByteArray}(h:pos<s.size)(hT:Hid (T.data.toList=Ch.h_ q (s.data.toList.take pos)))(hTs:T.size<=6*pos)(hX:X.data.toList=Ch.rp q s[pos]):
  (∃(Mu:Nat) (T_1:ByteArray),Value.string (T++X)=Value.string T_1/\Value.int .i64 ((pos:Int)+1)=Value.int .i64 (Mu:Int)/\Hid (T_1.data.toList=Ch.h_ q (s.data.toList.take Mu))/\Mu<=s.size/\T_1.size<=6*Mu)/\
  s.size-(intOf (Value.int .i64 ((pos:Int)+1))).toNat<s.size-(intOf (Value.int .i64 (pos:Int))).toNat:=by
 have Zf:X.size<=6:=by
  have:=Lb q s[pos];rw[<-hX]at this;simpa using this
 refine⟨⟨pos+1,T++X,rfl,rfl,Ii h hT.out hX,by omega,?_⟩,by simp[intOf];omega⟩;rw[cA];omega
theorem Ij{s:ByteArray}{pos:Nat}(h:pos<s.size):(s.extract pos (pos+1)).data.toList=[s[pos]]:=by rw[mQ,show pos+1-pos=1 by omega,Ch.BO h,CU s pos h]
set_option maxRecDepth 1000000 in
theorem Ik(s:ByteArray)(q:Bool)(w:World)(hs:s.size<=1099511627776):
  Z4 22 #[.string s,.bool q] w (Z6 (.string ⟨(Ch.U8 s q).toArray⟩) w):=by
 go_enter func22,ntmps22;go_wp2
 go_loop [5,6,7] (fun t i _=>∃(pos:Nat) (T:ByteArray),t=.string T/\i=.int .i64 pos/\Hid (T.data.toList=Ch.h_ q (s.data.toList.take pos))/\pos<=s.size/\T.size<=6*pos) (fun _ i _=>s.size-(intOf i).toNat)
 case atStart=>exact⟨0,⟨#[]⟩,rfl,rfl,rfl,by omega,by decide⟩
 case round=>
  obtain⟨pos,T,rfl,rfl,HT,hl,hTs⟩:=hrel;by_cases hp:pos<s.size
  ·go_wp2;all_goals refine EL hp HT hTs ?_
   all_goals try rw[Ij hp]
   all_goals simp only[bA,aF,ne_eq]at*
   all_goals simp[Ch.rp,Ch.iM, *]
  ·go_wp2;go_ret;refine⟨?_,rfl⟩;have:=HT.out;rw[bM (by simp;omega)]at this;rw[Ih this];rfl
end K
end Go.Proofs.YtjecakcpcnmieaaGreatDoor
namespace Go.Proofs.YtjecakcpcnmieaaGreatDoor
namespace K
open Go.RowKit Go.Maps Go.Lib Tryz
section
variable{A K:Nat->Prop}{w w' w1 wr:World}{nv:Value}{av kv:Nat->Value}{l:List Nd}
theorem f_.later(h:f_ 36 79 A K w nv l av kv)(hb:Z5 w w'):f_ 36 79 A K w' nv l av kv:=
 h.frame (fun k hk _=>hb.block k hk) (fun k hk _=>hb.block k hk) (fun _ _ x=>x)
theorem Il(nd:Nd)(m:Nat)(w:World)(P:Nat->List UInt8)(l9:l[m]?=some nd)(Jg:nd.name≠[])(xv:nd.kids=[])(hn:f_ 36 79 A K w nv l av kv)
  (hz:(fI nd.name nd.b_ nd.b_.length).length<=1099511627776) (hP:∀i,(P i).length<=1099511627776) (hP0:P 0=[]) (C6:nd.name.length<=1099511627776)
  (CR:∀i (hi:i<nd.kids.length) W,Z5 w W->∃t,P (i+1)=P i++t/\Z4 9 #[nv,.int .i64 (nd.kids[i]:Int)] W (Z7 (.string ⟨t.toArray⟩) W)):
  Z4 9 #[nv,.int .i64 (m:Int)] w fun e w'=>e=.returned (.string ⟨(fI nd.name nd.b_ nd.b_.length++(if nd.kids=[]then [47,62]else [62]++(P nd.kids.length++([60,47]++(nd.name++[62]))))).toArray⟩)/\Z5 w w':=by
 have HK0:=a_ xv;clear xv;have hm:=(List.getElem?_eq_some_iff.1 l9).1;obtain⟨g,cap,rfl,VG,YJ,q0,q1,q2,q3,q4⟩:=hn.cells m _ l9;have Ve:=hn.attr m _ l9;have hkr:=hn.kid m _ l9;obtain⟨ai,ac,hai⟩:=eE Ve;obtain⟨ki,kc,Hl⟩:=eE hkr;rw[hai]at q1 Ve;rw[Hl]at q3 hkr;have hmx:(l.length:Int)<=9223372036854775807:=by have:maxLen=9223372036854775807:=rfl;omega
 have yy:¬(m:Int)<0:=by omega
 have YB:(m:Int)<l.length:=by omega
 have hle:=H4 nd.name nd.b_;have h0:fI nd.name nd.b_ 0=60::nd.name:=by simp[fI]
 have a0:=ia [60] nd.name (fI nd.name nd.b_ 0) (by rw[h0];rfl) (by simp only[ag,aq];omega);have Ia:∀W,Z5 w W->∀i (hi:i<nd.b_.length),∃ga,ai=some ⟨ga,0,none⟩/\(nd.b_.length:Int)<=9223372036854775807/\∃x y:List UInt8,fI nd.name nd.b_ (i+1)=fI nd.name nd.b_ i++(32::(x++([61,34]++(Ch.h_ true y++[34]))))/\y.length<=1099511627776/\W.cell? ⟨ga,i*2,none⟩=some (.string ⟨x.toArray⟩)/\W.cell? ⟨ga,i*2+1,none⟩=some (.string ⟨y.toArray⟩):=by
  intro W hW i hi;obtain⟨ga,ca,e,x1,x2,ES⟩:=H9 Ve i hi;cases e;have Yc:ga<w.heap.size:=eU Ve rfl;have h7:=Ch.sA true (nd.b_[i]).2;have tM:=AF nd.name nd.b_ i hi;have hl:=hle (i+1);rw[tM,ae]at hl;unfold px at hl;simp only[ag,ae,aq]at hl;exact⟨ga,rfl,by have:maxLen=9223372036854775807:=rfl;omega,(nd.b_[i]).1,(nd.b_[i]).2,tM,by omega,(aj (hW.block ga Yc)).trans x1,(aj (hW.block ga Yc)).trans x2⟩
 have tI:∀W,Z5 w W->∀i,i<nd.kids.length->∃ga,ki=some ⟨ga,0,none⟩/\(nd.kids.length:Int)<=9223372036854775807/\∃(z:Int) (t:List UInt8),W.cell? ⟨ga,i,none⟩=some (.int .i64 z)/\P (i+1)=P i++t/\Z4 9 #[Z9 g l.length cap,.int .i64 z] W (Z7 (.string ⟨t.toArray⟩) W):=by
  intro W hW i hi;obtain⟨ga,ca,e,x1,ES⟩:=AB (n:=0) hkr i hi;obtain⟨t,h1,h2⟩:=CR i hi W hW;cases e;exact⟨ga,rfl,by have:maxLen=9223372036854775807:=rfl;omega,_,t,(aj (hW.block ga (eU hkr rfl))).trans x1,h1,h2⟩
 have Qc:nd.kids=[]↔nd.kids.length=0:=by simp
 have lB:nd.name.isEmpty=false:=by cases h0:nd.name with|nil=>exact absurd h0 Jg|cons a r=>rfl
 obtain⟨O,hO⟩:∃O:Obj,Obj.cells #[.string ⟨nd.name.toArray⟩,.slice ai nd.b_.length ac,.string ⟨nd.text.toArray⟩,.slice ki nd.kids.length kc,.int .i64 nd.up] 36=O:=⟨_,rfl⟩
 have fj:∀W,Below (w.heap.size+1) (w.alloc O) W->W.cell? ⟨w.heap.size,0,none⟩=some (.string ⟨nd.name.toArray⟩)/\W.cell? ⟨w.heap.size,1,none⟩=some (.slice ai nd.b_.length ac)/\W.cell? ⟨w.heap.size,3,none⟩=some (.slice ki nd.kids.length kc):=fun W hW=>by
  have hx:W.heap[w.heap.size]?=some (.cells #[.string ⟨nd.name.toArray⟩,.slice ai nd.b_.length ac,.string ⟨nd.text.toArray⟩,.slice ki nd.kids.length kc,.int .i64 nd.up] 36):=by rw[hW.block w.heap.size (by omega),hO];exact eL _ _
  exact⟨cell_of hx rfl,cell_of hx rfl,cell_of hx rfl⟩
 have YK:∀W,Below (w.heap.size+1) (w.alloc O) W->Z5 w W:=fun W hW=>((Below.refl _ w).alloc (ah _) O).trans (fE hW (by omega));have tY:=a_ Ia;have HKD:=a_ tI;have HKZ:=a_ Qc;have HLE:=a_ hle;have XX:=a_ fj;have HDN:=a_ YK;have HZ:=a_ hz;have HP:=a_ hP;have HP0:=a_ hP0;clear Ia tI CR hle fj YK hn Ve hkr hai Hl l9 h0 hz hP hP0 Qc;generalize hH:fI nd.name nd.b_=H at*
 have HH:=a_ hH;clear hH;unfold eZ at q0 q2;generalize hna:nd.b_.length=NA at*
 generalize hnk:nd.kids.length=NK at*
 have HNA:=a_ hna;have HNK:=a_ hnk;clear hna hnk;obtain⟨b0,b1,b3⟩:=XX.out _ (Below.refl _ _);obtain⟨RES,hR⟩:∃R,H NA++(if nd.kids=[]then [47,62]else [62]++(P NK++([60,47]++(nd.name++[62]))))=R:=⟨_,rfl⟩
 rw[hR];have HR:=a_ hR;clear hR;go_enter func9,ntmps9;go_wp2_with fail;try rw[hO]
 go_loopw [6,7,8] (fun sv iv _ wr=>∃k:Nat,sv=.string ⟨(H k).toArray⟩/\iv=.int .i64 k/\k<=NA/\Below (w.heap.size+1) (w.alloc O) wr) (fun _ iv _ _=>NA-(RowKit.intOf iv).toNat)
 case atStart=>exact⟨0,rfl,rfl,ax _,Below.refl _ _⟩
 case round=>
  obtain⟨k,rfl,rfl,hk,hb⟩:=hrel;obtain⟨e0,e1,e3⟩:=XX.out _ hb;have HB:=a_ hb;clear hb b0 b1 b3 q0 q1 q2 q3 q4;by_cases hlt:k<NA
  ·obtain⟨ga,rfl,hmax,x,y,tM,LL,g1,g2⟩:=tY.out _ (HDN.out _ HB.out) k hlt;have hdec:decide ((k:Int)<NA)=true:=by simp;omega
   have Hl:(k:Int)<NA:=by omega
   have AG:Ch.U8 ⟨y.toArray⟩ true=Ch.h_ true y:=by unfold Ch.U8;simp
   have fg:=fun w=>Ik ⟨y.toArray⟩ true w (by simpa [ByteArray.size]using LL);rw[AG]at fg;have tR:=HLE.out (k+1);have hl2:=HZ.out;obtain⟨V,hV⟩:∃V,Ch.h_ true y=V:=⟨_,rfl⟩
   rw[hV]at fg tM;obtain⟨X1,XW⟩:∃X,H k++[32]=X:=⟨_,rfl⟩
   obtain⟨X2,Dh⟩:∃X,X1++x=X:=⟨_,rfl⟩
   obtain⟨X3,TR⟩:∃X,X2++[61,34]=X:=⟨_,rfl⟩
   obtain⟨X4,XB⟩:∃X,X3++V=X:=⟨_,rfl⟩
   have e5:X4++[34]=H (k+1):=by rw[tM,<-XB,<-TR,<-Dh,<-XW];simp
   have n0:=aC List.length e5;have n1:=aC List.length XW;have n2:=aC List.length Dh;have n3:=aC List.length TR;have n4:=aC List.length XB;simp only[ae,ag,aq]at n0 n1 n2 n3 n4;have p1:=ia (H k) [32] X1 XW (by simp only[ag,aq];omega);have p2:=ia X1 x X2 Dh (by omega);have p3:=ia X2 [61,34] X3 TR (by simp only[ag,aq];omega);have p4:=ia X3 V X4 XB (by omega);have p5:=ia X4 [34] (H (k+1)) e5 (by simp only[ag,aq];omega);have AR:=a_ fg;clear fg tM LL AG tR hl2 hV XW Dh TR XB e5 n0 n1 n2 n3 n4 hO;go_wp2_with(go_at_call 22;refine(AR.out _).mono ?_;rintro e w2 ⟨rfl,rfl⟩);exact⟨⟨k+1,rfl,by simp,by omega,HB.out⟩,by simp only[RowKit.intOf];omega⟩
  ·have hdec:decide ((k:Int)<NA)=false:=by simp;omega
   obtain rfl:NA=k:=by omega
   have hl2:=HZ.out;by_cases hz0:NK=0
   ·have Qc:=HKZ.out.2 hz0;have p1:=ia (H NA) [47,62] (H NA++[47,62]) rfl (by simp only[ag,aq];omega);have hR:=HR.out;rw[if_pos Qc]at hR;rw[hR]at p1;subst hz0;clear hO hR;go_wp2;go_ret;exact⟨rfl,HDN.out _ HB.out⟩
   ·exact absurd (HKZ.out.1 HK0.out) hz0
end
end K
end Go.Proofs.YtjecakcpcnmieaaGreatDoor
