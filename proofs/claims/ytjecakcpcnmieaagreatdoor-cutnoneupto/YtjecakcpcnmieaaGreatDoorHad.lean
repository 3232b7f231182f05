import Derived.Test.YtjecakcpcnmieaaGreatDoorHA
import Derived.Shelf.Strings.BuilderK
import Derived.Deep.RegionHeld3
import Derived.Test.YtjecakcpcnmieaaGreatDoorHab
import Derived.Test.YtjecakcpcnmieaaGreatDoorHac
set_option linter.unusedVariables false
set_option linter.unusedSimpArgs false
set_option maxHeartbeats 32000000
set_option maxRecDepth 100000
namespace Go.Proofs.YtjecakcpcnmieaaGreatDoor
open Go.RowKit Go.Maps Go.Lib Tryz
section
variable{w w' w1 W:World}{b:Nat}{o:L}
theorem XZ:(prog.info? 5).map (fun i=>(i.zero,i.size,i.bytes))=some (some (.int .u8 0),1,1):=by kernel_rfl
end
section
variable{w w' w1 W:World}{b:Nat}{o:L}
abbrev aS(d:Bool)(T:ByteArray)(vp:Value):Array Value:=#[.bool d,.string T,vp]
theorem kV{B:Nat}(h:Below B w W)(n:Nat):Below B w (W.drewN n):=⟨h.os,h.tape,h.output,h.size,h.block⟩
theorem I7{k:Nat}{x0 x1 x2:Value}{ty:TypeId}(h:w.heap[k]?=some (.cells #[x0,x1,x2] ty (0,0))):w.cell? ⟨k,0,none⟩=some x0/\w.cell? ⟨k,1,none⟩=some x1/\w.cell? ⟨k,2,none⟩=some x2:=⟨cell_of h rfl,cell_of h rfl,cell_of h rfl⟩
def tB(w:World)(v:Value)(ms:List Mk):Prop:=∃ai cap,v=.slice ai ms.length cap/\(ms.length<=1000000/\ms.length<=cap)/\∀i m,ms[i]?=some m->∃g pi pn pc,ai=some ⟨g,0,none⟩/\g<w.heap.size/\w.cell? ⟨g,i*3,none⟩=some (.bool m.1)/\w.cell? ⟨g,i*3+1,none⟩=some (.string (bs m.2))/\w.cell? ⟨g,i*3+2,none⟩=some (.slice pi pn pc)
theorem tB.below{v:Value}{ms:List Mk}{B:Nat}(h:tB w v ms)(hb:Z5 w w'):tB w' v ms:=by
 obtain⟨ai,cap,rfl,hn,hr⟩:=h;refine⟨ai,cap,rfl,hn,fun i m hm=>?_⟩;obtain⟨g,pi,pn,pc,e,hg,h0,h1,h2⟩:=hr i m hm;have up:∀j u,w.cell? ⟨g,j,none⟩=some u->w'.cell? ⟨g,j,none⟩=some u:=fun j u hj=>(aj (hb.block g hg)).trans hj;exact⟨g,pi,pn,pc,e,ak hg hb.size,up _ _ h0,up _ _ h1,up _ _ h2⟩
def km(ms:List Mk):L:=ms.flatMap p9
end
section
variable{w w' w1 W:World}{b:Nat}{o:L}
theorem MO(d:Bool)(T:ByteArray)(c:Bool)(vp:Value)(w:World)(hb:(T.toList==[35])=c):Z4 108 #[.agg (aS d T vp)] w fun e w'=>e=.returned (.bool c)/\w'=w.alloc (.cells (aS d T vp) 173):=by
 have h0:=eL w (.cells (aS d T vp) 173);have c1:(w.alloc (.cells (aS d T vp) 173)).cell? ⟨w.heap.size,1,none⟩=some (.string T):=cell_of h0 rfl;clear h0;cases c with
 |true=>
  go_enter func108,ntmps108;go_wp2;go_ret;exact⟨rfl,rfl⟩
 |false=>
  go_enter func108,ntmps108;go_wp2;go_ret;exact⟨rfl,rfl⟩
theorem Y9(t:L):((bs t).toList==[35])=(t==[35]):=by rw[kU]
def Iy(ms:List Mk):Bool:=ms.any (·.2==[35])
theorem I8(ms:List Mk)(v:Value)(w:World)(h:tB w v ms):Z4 143 #[v,.func (.func 108) #[] #[]] w fun e w'=>∃k:Int,e=.returned (.int .i64 k)/\(decide (0<=k)=Iy ms)/\Z5 w w':=by
 obtain⟨ai,cap,rfl,⟨hn,-⟩,hr⟩:=h;have HR:Hid (∀wr i,i<ms.length->Z5 w wr->∃g d X c pi pn pc,ai=some ⟨g,0,none⟩/\(wr.cell? ⟨g,i*3,none⟩=some (.bool d)/\wr.cell? ⟨g,i*3+1,none⟩=some (.string X)/\wr.cell? ⟨g,i*3+2,none⟩=some (.slice pi pn pc))/\Hid (c=(match ms[i]? with|some m=>m.2==[35]|none=>false))/\
   Hid (Z4 108 #[.agg (aS d X (.slice pi pn pc))] wr (Z7 (.bool c) w))):=fun wr i hi hb=>by
  have hm:ms[i]?=some ms[i]:=aw hi;obtain⟨g,pi,pn,pc,e,hg,h0,h1,h2⟩:=hr i _ hm;have up:∀j u,w.cell? ⟨g,j,none⟩=some u->wr.cell? ⟨g,j,none⟩=some u:=fun j u hj=>(aj (hb.block g hg)).trans hj;refine⟨g,_,_,(ms[i].2==[35]),pi,pn,pc,e,⟨up _ _ h0,up _ _ h1,up _ _ h2⟩,a_ (by rw[hm]),a_ ?_⟩;refine(MO _ _ _ _ wr (Y9 _)).mono ?_;rintro e w' ⟨h,rfl⟩;exact⟨h,hb.alloc hb.size _⟩
 have HN:Hid (Iy (ms.take ms.length)=Iy ms):=by rw[bt];exact a_ rfl
 have HT:Hid (∀i,i<ms.length->Iy (ms.take (i+1))=(Iy (ms.take i)||(match ms[i]? with|some m=>m.2==[35]|none=>false))):=fun i hi=>by
  rw[aN hi,aw hi];unfold Iy;rw[dF,dR,List.any_nil,dh]
 have HP:Hid (∀i,Iy (ms.take i)=true->Iy ms=true):=fun i h=>by
  unfold Iy at*
  rw[List.any_eq_true]at*
  obtain⟨x,hx,h2⟩:=h;exact⟨x,dB hx,h2⟩
 clear hr;generalize ms.length=n at*
 go_enter func143,ntmps143;go_wp2_with fail;go_loopw [5,8,9,10,11,12,13,14,15,16,17,18] (fun _ u8 _ _ _ _ _ _ _ _ _ _ wr=>∃i:Nat,u8=.int .i64 i/\i<=n/\Hid (Iy (ms.take i)=false/\Z5 w wr)) (fun _ u8 _ _ _ _ _ _ _ _ _ _ _=>n-(RowKit.intOf u8).toNat)
 case atStart=>exact⟨0,rfl,ax _,a_ ⟨rfl,Below.refl _ _⟩⟩
 case round=>
  rename World=>WO
  obtain⟨i,rfl,hi,HM⟩:=hrel;by_cases hlt:i<n
  ·obtain⟨g,d,X,c,pi,pn,pc,rfl,⟨a0,a1,a2⟩,HC,HF⟩:=HR.out _ i hlt HM.out.2;have hdec:decide ((i:Int)<n)=true:=by simp;omega
   have LK:(i:Int)<n:=by omega
   have HI:Hid (Iy (ms.take (i+1))=c):=a_ (by rw[HT.out i hlt,HM.out.1,<-HC.out];rfl);clear HR HC HT HM;cases c with
   |true=>
    go_wp2_with(go_at_call 108;refine HF.out.mono ?_;rintro e w5 ⟨rfl,h5⟩;clear HF);go_ret;exact⟨i,rfl,by rw[HP.out _ HI.out];simp,h5⟩
   |false=>
    go_wp2_with(go_at_call 108;refine HF.out.mono ?_;rintro e w5 ⟨rfl,h5⟩;clear HF);exact⟨⟨i+1,by simp,by omega,a_ ⟨HI.out,h5⟩⟩,by simp only[RowKit.intOf];omega⟩
  ·have hdec:decide ((i:Int)<n)=false:=by simp;omega
   obtain rfl:i=n:=by omega
   go_wp2;go_ret;exact⟨-1,rfl,by rw[<-HN.out,HM.out.1];rfl,HM.out.2⟩
end
section
variable{w w' w1 W:World}{b:Nat}{o:L}
theorem A5(ms:List Mk)(v:Value)(w:World)(h:tB w v ms):Z4 107 #[v,.func (.func 108) #[] #[]] w (Z7 (.bool (Iy ms)) w):=by
 have HI:=a_ (I8 ms v w h);obtain⟨ai,cap,rfl,-⟩:=h;generalize Iy ms=c at*
 generalize ms.length=n at*
 cases c with
 |true=>
  go_enter func107,ntmps107;go_wp2_with(go_at_call 143;refine HI.out.mono ?_;rintro e w5 ⟨k,rfl,hk,h5⟩;have hk2:decide (k≥0)=true:=hk;have hk3:(0:Int)<=k:=cp hk;clear HI);go_ret;first|exact⟨rfl,h5⟩|exact⟨by simp[hk3],h5⟩
 |false=>
  go_enter func107,ntmps107;go_wp2_with(go_at_call 143;refine HI.out.mono ?_;rintro e w5 ⟨k,rfl,hk,h5⟩;have hk2:decide (k≥0)=false:=hk;have hk3:¬(0:Int)<=k:=of_decide_eq_false hk;clear HI);go_ret;first|exact⟨rfl,h5⟩|exact⟨by simp[hk3],h5⟩
end
section
variable{w w' w1 W:World}{b:Nat}{o:L}
theorem tB.init{ai:Option Addr}{k n cap:Nat}{ms:List Mk}(h:tB w (.slice ai n cap) ms)(hk:ms.length=k+1):tB w (.slice ai k cap) ms.dropLast:=by
 obtain⟨Fs,cap',e,⟨hn,hc⟩,hr⟩:=h;cases e;refine⟨ai,cap,by simp[hk],⟨by simp;omega,by simp;omega⟩,fun i m hm=>hr i m ?_⟩;rw[List.getElem?_dropLast]at hm;split at hm
 ·exact hm
 ·simp at hm
theorem I9{ms:List Mk}(h0:ms≠[]){x:Mk}(hx:ms[0]?=some x):nowhere ms=(Iy ms.dropLast||(ms.length==1&&(x.2==[35]&&!x.1))):=by
 unfold nowhere Iy;cases ms with
 |nil=>exact absurd rfl h0
 |cons y l=>
  simp only[dO,aJ]at hx;subst hx;congr 1;cases l with
  |nil=>
   obtain⟨d,t⟩:=y;cases d with
   |true=>simp
   |false=>
    have e:([((false,t):Mk)]==[(false,[35])])=(t==[35]):=by rw[bL];simp
    rw[e];simp
  |cons z l=>simp
theorem I_(ms:List Mk)(v:Value)(w:World)(h:tB w v ms)(h0:ms≠[]):Z4 78 #[v] w (Z7 (.bool (nowhere ms)) w):=by
 obtain⟨k,hk⟩:∃k,ms.length=k+1:=⟨ms.length-1,by cases ms<;>simp_all⟩
 have hh:=h;obtain⟨ai,cap,rfl,⟨hn,hc⟩,hr⟩:=h;obtain⟨x,hx⟩:∃x,ms[0]?=some x:=⟨ms[0],aw (by omega)⟩
 obtain⟨g,pi,pn,pc,rfl,hg,a0,a1,a2⟩:=hr 0 x hx;have HC:=a_ (A5 _ _ w (hh.init hk));have HX:Hid (∀w',Z5 w w'->w'.cell? ⟨g,0,none⟩=some (.bool x.1)/\w'.cell? ⟨g,1,none⟩=some (.string (bs x.2))):=fun w' hb=>by
  have up:∀j u,w.cell? ⟨g,j,none⟩=some u->w'.cell? ⟨g,j,none⟩=some u:=fun j u hj=>(aj (hb.block g hg)).trans hj;exact⟨up _ _ (by simpa using a0),up _ _ (by simpa using a1)⟩
 rw[I9 h0 hx,hk];obtain⟨c,hcx⟩:∃c,(x.2==[35])=c:=⟨_,rfl⟩
 have hb:((bs x.2).toList==[35])=c:=by rw[kU];exact hcx
 rw[hcx];rw[hk]at hc hn;have hwr:IntKind.i64.wrap ((k:Int)+1-1)=(k:Int):=by rw[aD];omega
 have hkc:(k:Int)<=(cap:Int):=by omega
 have xv:(0:Int)<=(k:Int):=by omega
 clear hr hh h0 a0 a1 a2 hx hcx hk;obtain⟨d,hd⟩:∃d,x.1=d:=⟨_,rfl⟩
 rw[hd]at HX ⊢;clear hd;generalize bs x.2=X at*
 generalize Iy ms.dropLast=t at*
 have Y_:(k+1==1)=decide (k=0):=by cases k<;>simp
 rw[Y_];by_cases hz:k=0
 ·have he:((k:Int)==0)=true:=by simp;omega
  have QD:decide (k=0)=true:=by simp[hz]
  rw[QD];clear Y_ QD hz;cases t<;>cases c<;>cases d<;>
  ·go_enter func78,ntmps78;go_wp2_with(go_at_call 107;refine HC.out.mono ?_;rintro e w5 ⟨rfl,h5⟩;obtain⟨x0,x1⟩:=HX.out _ h5;clear HC HX);go_ret;exact⟨rfl,h5⟩
 ·have he:((k:Int)==0)=false:=by simp;omega
  have QD:decide (k=0)=false:=by simp[hz]
  rw[QD];clear Y_ QD;cases t<;>cases c<;>cases d<;>
  ·go_enter func78,ntmps78;go_wp2_with(go_at_call 107;refine HC.out.mono ?_;rintro e w5 ⟨rfl,h5⟩;obtain⟨x0,x1⟩:=HX.out _ h5;clear HC HX);go_ret;exact⟨rfl,h5⟩
end
section
variable{w w' w1 W:World}{b:Nat}{o:L}
theorem QE(d:Bool)(T N:ByteArray)(b1 b2 b3:Bool)(w:World)(h1:(T.toList==[42])=b1)(h2:(T.toList==N.toList)=b2)(h3:(N.toList==[35])=b3):Z4 133 #[.agg #[.bool d,.string T],.string N] w fun e w'=>e=.returned (.bool (b1||(b2&&!b3)))/\w'=w.alloc (.cells #[.bool d,.string T] 165):=by
 have h0:=eL w (.cells #[.bool d,.string T] 165);have c0:(w.alloc (.cells #[.bool d,.string T] 165)).cell? ⟨w.heap.size,0,none⟩=some (.bool d):=cell_of h0 rfl;have c1:(w.alloc (.cells #[.bool d,.string T] 165)).cell? ⟨w.heap.size,1,none⟩=some (.string T):=cell_of h0 rfl;clear h0;cases b1<;>cases b2<;>cases b3<;>
 ·go_enter func133,ntmps133;go_wp2;go_ret;exact⟨rfl,rfl⟩
theorem Vr(m:Mk)(name:L)(w:World):Z4 133 #[.agg #[.bool m.1,.string (bs m.2)],.string (bs name)] w (Z7 (.bool (rh m name)) w):=by
 refine(QE m.1 (bs m.2) (bs name) _ _ _ w (by rw[kU]) (by rw[kU,kU]) (by rw[kU])).mono ?_;rintro e w' ⟨h,rfl⟩;exact⟨h,(Below.refl _ w).alloc (ah _) _⟩
end
section
variable{w w' w1 W:World}{X n sc:Nat}{si:Option Addr}
theorem nI(k:Nat)(c1:w.cell? ⟨X,1,none⟩=some (.slice si n sc))(hk:k<n):Z4 94 #[Z8 X,.int .i64 k] w (Z6 (.bool true) w):=by
 have h1:decide ((k:Int)<(n:Int))=true:=by simp;omega
 have h2:decide ((k:Int)≥0)=true:=by simp
 go_enter func94,ntmps94;go_wp2;go_ret;exact⟨rfl,rfl⟩
theorem QF{g k dn dc:Nat}{di:Option Addr}(c1:w.cell? ⟨X,1,none⟩=some (Z9 g n sc))(hk:k<n)(c2:w.cell? ⟨g,k*4,none⟩=some (.slice di dn dc)):Z4 59 #[Z8 X,.int .i64 k] w (Z6 (.bool (decide (0<dn))) w):=by
 have HA:=a_ (nI k c1 hk);have LK:(k:Int)<(n:Int):=by omega
 by_cases hd:0<dn
 ·have h1:decide ((dn:Int)>0)=true:=by simp;omega
  have h2:decide (0<(dn:Int))=true:=by simp;omega
  have h3:decide (0<dn)=true:=by simp;omega
  rw[h3];go_enter func59,ntmps59;go_wp2_with(go_at_call 94;refine HA.out.mono ?_;rintro e w5 ⟨rfl,hw⟩;have hw':=hw.symm;clear hw;subst hw';clear HA);go_ret;exact⟨rfl,rfl⟩
 ·have h1:decide ((dn:Int)>0)=false:=by simp;omega
  have h2:decide (0<(dn:Int))=false:=by simp;omega
  have h3:decide (0<dn)=false:=by simp;omega
  rw[h3];go_enter func59,ntmps59;go_wp2_with(go_at_call 94;refine HA.out.mono ?_;rintro e w5 ⟨rfl,hw⟩;have hw':=hw.symm;clear hw;subst hw';clear HA);go_ret;exact⟨rfl,rfl⟩
theorem QG{g k:Nat}{t:Bool}(c1:w.cell? ⟨X,1,none⟩=some (Z9 g n sc))(hk:k<n)(c2:w.cell? ⟨g,k*4+3,none⟩=some (.bool t)):Z4 98 #[Z8 X,.int .i64 k] w (Z6 (.bool t) w):=by
 have HA:=a_ (nI k c1 hk);have LK:(k:Int)<(n:Int):=by omega
 cases t<;>
 ·go_enter func98,ntmps98;go_wp2_with(go_at_call 94;refine HA.out.mono ?_;rintro e w5 ⟨rfl,hw⟩;have hw':=hw.symm;clear hw;subst hw';clear HA);go_ret;exact⟨rfl,rfl⟩
end
section
variable{w w' w1 W:World}{X n sc:Nat}{si:Option Addr}
theorem QH{g k:Nat}{a b:Bool}(c1:w.cell? ⟨X,1,none⟩=some (Z9 g n sc))(hk:k<n)(c2:w.cell? ⟨g,k*4+1,none⟩=some (.bool a))(c3:w.cell? ⟨g,k*4+2,none⟩=some (.bool b)):Z4 58 #[Z8 X,.int .i64 k] w fun e w'=>e=.returned (.tuple #[.bool a,.bool b])/\∃m,w'=w.drewN m:=by
 have HA:=a_ (nI k c1 hk);have LK:(k:Int)<(n:Int):=by omega
 go_enter func58,ntmps58;go_wp2_with(go_at_call 94;refine HA.out.mono ?_;rintro e w5 ⟨rfl,hw⟩;have hw':=hw.symm;clear hw;subst hw';clear HA);go_quiet(fail);go_wp2;refine aV (v:=.tuple #[.bool a,.bool b]) (by simp[results,results58,go_sem]) rfl ⟨rfl,_,rfl⟩
end
section
variable{w w' w1 W:World}
def U4(w:World)(v:Value)(l:List L):Prop:=∃ai cap,v=.slice ai l.length cap/\(l.length<=1000000000000/\l.length<=cap)/\∀i x,l[i]?=some x->∃g off,ai=some ⟨g,off,none⟩/\g<w.heap.size/\w.cell? ⟨g,off+i,none⟩=some (.string (bs x))
theorem U4.below{v:Value}{l:List L}(h:U4 w v l)(hb:Z5 w w'):U4 w' v l:=by
 obtain⟨ai,cap,rfl,hn,hr⟩:=h;refine⟨ai,cap,rfl,hn,fun i m hm=>?_⟩;obtain⟨g,off,e,hg,h0⟩:=hr i m hm;exact⟨g,off,e,ak hg hb.size,(aj (hb.block g hg)).trans h0⟩
end
end Go.Proofs.YtjecakcpcnmieaaGreatDoor
