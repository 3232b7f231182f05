import Derived.Test.YtjecakcpcnmieaaGreatDoorHA
import Derived.Test.YtjecakcpcnmieaaGreatDoorHbe
import Derived.Test.YtjecakcpcnmieaaGreatDoorHba
import Derived.Test.YtjecakcpcnmieaaGreatDoorHas
set_option linter.unusedVariables false
set_option linter.unusedSimpArgs false
set_option maxHeartbeats 32000000
set_option maxRecDepth 100000
namespace Go.Proofs.YtjecakcpcnmieaaGreatDoor
open Go.RowKit Go.Maps Go.Lib Tryz
section
variable{w w' w1 w2 wr W:World}{b B P X lo i:Nat}{bb:gZ}{A F:Nat->Prop}{v:Value}{T:List K.Tok}
abbrev Xs:=(Ms×Nat)×(List UInt8×Bool)
def mg(b:gZ)(x:Xs)(t:K.Tok):Option Xs:=(kT b x.1 t).map fun y=>(y.1,if y.2=true then gX x.2 t else x.2)
def py(b:gZ):Xs->List K.Tok->Option Xs
 |x,[]=>some x
 |x,t::l=>match mg b x t with|some y=>py b y l|none=>none
def wc(t:K.Tok):Nat:=(K.fI t.name t.b_ t.b_.length).length+t.name.length+(K.Ch.h_ false t.text).length+8
def rZ(l:List K.Tok):Nat:=(l.map wc).sum
theorem PK(x:List UInt8×Bool)(t:K.Tok):(gX x t).1.length<=x.1.length+wc t:=by
 unfold gX wc;have:∀c:Prop,[Decidable c]->(if c then([62]:List UInt8)else []).length<=1:=fun c _=>by split<;>simp
 have h:=this (x.2=true);split
 ·simp only[ae,ag,aq];omega
 ·split
  ·simp only[ae];omega
  ·split
   ·simp only[ae,ag,aq];omega
   ·simp only[ae];omega
theorem Iv(l:Ms)(t:Bool):(xt l t).length=l.length:=by
 rcases b9 l with rfl|⟨m,x,rfl⟩
 ·rfl
 ·simp[xt]
theorem PL{b:gZ}{x:Ms×Nat}{t:K.Tok}{y:(Ms×Nat)×Bool}(h:kT b x t=some y):y.1.1.length<=x.1.length+1/\y.1.2<=x.2+1:=by
 unfold kT at h;obtain⟨l,k⟩:=x;simp only at h;have:=Iv l false;have:=Iv l true;cases k<;>simp only at h<;>repeat' split at h
 all_goals first|(cases h;done)|(cases h;refine⟨?_,?_⟩<;>simp only[ae,ag,aq,List.length_dropLast, *]<;>omega)
theorem CX(T:List K.Tok)(i:Nat)(hi:i<T.length):rZ (T.take (i+1))=rZ (T.take i)+wc T[i]:=by
 unfold rZ;rw[List.take_add_one,aw hi,bp,dD];show _+(wc T[i]+0)=_;rfl
theorem My(T:List K.Tok)(i:Nat):rZ (T.take i)<=rZ T:=by
 have h:rZ T=rZ (T.take i)+rZ (T.drop i):=by
  unfold rZ;rw[<-dD,<-bp,dv]
 omega
theorem YV(T:List K.Tok)(i:Nat)(hi:i<T.length):wc T[i]<=rZ T:=by
 have:=CX T i hi;have:=My T (i+1);omega
structure PJs(P X lo b:Nat)(bb:gZ)(A:Nat->Prop)(v:Value)(T:List K.Tok)(xf:Xs)(W:World)(i:Nat)(wr:World)(x:Xs)(S:List jo)(F:Nat->Prop)(ov:Value)(l:List El):Prop where
 run:py bb x (T.drop i)=some xf
 pr:uP l=x.1.1
 pm:PM P X lo F bb S ov l x.1.2 wr
 wr_:K.WR b x.2.1 (.bool x.2.2) wr
 an:K.xa A wr v T
 dj:∀k,PO P F ov k->¬WO b wr k
 aP:∀k,A k->¬PO P F ov k
 aB:∀k,A k->k<b
 lb:lo<=b
 sl:S.length<=4*i
 ll:l.length<=i
 kl:x.1.2<=i
 ol:x.2.1.length<=rZ (T.take i)
 bl:Below lo W wr
def PJ(P X lo b:Nat)(bb:gZ)(A:Nat->Prop)(v:Value)(T:List K.Tok)(xf:Xs)(W:World)(i:Nat)(wr:World):Prop:=∃x S F ov l,PJs P X lo b bb A v T xf W i wr x S F ov l
theorem PJ.below{xf:Xs}(h:PJ P X lo b bb A v T xf W i wr)(hb:Z5 wr w'):PJ P X lo b bb A v T xf W i w':=by
 obtain⟨x,S,F,ov,l,h⟩:=h;have hlt:=(WR.low h.wr_ (Or.inl rfl)).2;exact⟨x,S,F,ov,l,h.run,h.pr,h.pm.below hb,h.wr_.past hb,h.an.frame fun k hk=>hb.block k (Nat.lt_trans (h.aB k hk) hlt),fun k hk hw=>h.dj k hk (hw.same (hb.block b hlt)),h.aP,h.aB,h.lb,h.sl,h.ll,h.kl,h.ol,h.bl.trans (hb.mono h.pm.big)⟩
theorem PJ.push{xf:Xs}(h:PJ P X lo b bb A v T xf W i wr)(hi:i<T.length)(hk:∀t∈T,t.kind=1\/t.kind=2\/t.kind=3)(ha:∀t∈T,t.b_.length<=1000000000000)(hT:T.length<=70000000)(hc:rZ T<=1000000000000){ai:Option Addr}{ac:Nat}(hrow:wr.ownsRow 0 143 2 (.slice ai (T[i]).b_.length ac) (T[i]).b_.length (K.eG (T[i]).b_)):
  Z4 13 #[Z8 P,uM (T[i]).kind (bs (T[i]).name) ai (T[i]).b_.length ac (bs (T[i]).text) (T[i]).at_] wr fun e w5=>(e=.returned (.slice none 0 0)/\PJ P X lo b bb A v T xf W (i+1) w5)\/∃g cap Fs PH,e=.returned (Z9 g 1 cap)/\(∀j u,(wy (T[i]).kind (bs (T[i]).name) (.slice Fs (T[i]).b_.length PH) (bs (T[i]).text) (T[i]).at_)[j]?=some u->w5.cell? ⟨g,j,none⟩=some u)/\∀o2,Z4 14 #[Z8 b,uM (T[i]).kind (bs (T[i]).name) Fs (T[i]).b_.length PH (bs (T[i]).text) (T[i]).at_] (w5.alloc o2) fun e w6=>e=.returned (.tuple #[])/\PJ P X lo b bb A v T xf W (i+1) w6:=by
 obtain⟨x,S,F,ov,l,h⟩:=h;have hrun:=h.run;rw[bX hi]at hrun;unfold py mg at hrun;cases hs:kT bb x.1 T[i]with
 |none=>rw[hs]at hrun;cases hrun
 |some y=>
  rw[hs]at hrun;simp only[cq]at hrun;have Hl:=hk _ (bU hi);have hsl:=h.sl;have zo:=h.ll;have qU:=h.kl;have hol:=h.ol;have qQ:=My T i;obtain⟨n1,n2⟩:=PL hs;have hs':kT bb (uP l,x.1.2) T[i]=some y:=by rw[h.pr];exact hs
  refine(XP h.pm Hl hs' (by omega) (by omega) (by omega) hrow (ha _ (bU hi))).mono ?_;rintro e w5 ⟨Fs,PH,⟨l',e1,v5,S',F',mG,rfl,g1,g2,g3,g4⟩,hr5,A8⟩;have hlt:=(WR.low h.wr_ (Or.inl rfl)).2;have hWb:w5.heap[b]?=wr.heap[b]?:=g3.fr.block b hlt fun hp=>h.dj b hp (Or.inl rfl);have UN:K.WR b x.2.1 (.bool x.2.2) w5:=WR.off h.wr_ g3.fr fun k hw hp=>h.dj k hp hw;have ab0:K.xa A w5 v T:=h.an.frame fun k hA=>g3.fr.block k (Nat.lt_trans (h.aB k hA) hlt) (h.aP k hA);have ab1:∀k,PO P F' mG k->¬WO b w5 k:=fun k hp hw=>by
   have hw':=hw.same hWb;rcases g3.sub k hp with q|q
   ·exact h.dj k q hw'
   ·have:=(WR.low h.wr_ hw').2;omega
  have ab2:∀k,A k->¬PO P F' mG k:=fun k hA hp=>by
   rcases g3.sub k hp with q|q
   ·exact h.aP k hA q
   ·have:=h.aB k hA;omega
  have Te:=h.bl.trans (h.pm.toPG.up g3);have hl':l'.length=y.1.1.length:=by rw[<-e1];simp[uP]
  have hx1:x.1.1.length=l.length:=by rw[<-h.pr];simp[uP]
  have hct:=CX T i hi;by_cases ho:y.2=true
  ·rw[if_pos ho]at g1;rw[if_pos ho]at hrun;obtain⟨g,cap,rfl,e3,e4,e5⟩:=g1;refine Or.inr ⟨g,cap,Fs,PH,rfl,e5,fun o2=>?_⟩;have b6:Z5 w5 (w5.alloc o2):=(Below.refl _ _).alloc (ah _) o2;have Kr:=(WR.low UN (Or.inl rfl)).2;have hr6:=eI hr5 fun k e=>b6.block k (eU hr5 e);have hA6:∀k,(Value.slice Fs (T[i]).b_.length PH).ownBlock=some k->¬WO b (w5.alloc o2) k:=fun k hk hw=>by
    have:=A8 k hk;have:=(WR.low h.wr_ ((hw.same (b6.block b Kr)).same hWb)).2;omega
   have hwl:=YV T i hi;have hwc:wc T[i]=(K.fI (T[i]).name (T[i]).b_ (T[i]).b_.length).length+(T[i]).name.length+(K.Ch.h_ false (T[i]).text).length+8:=rfl;refine(UL (UN.past b6) Hl hr6 hA6 (by omega) (by omega) (by omega) (by omega)).mono ?_;rintro e w6 ⟨rfl,t1,t2⟩;have aaR:=g2.below b6;have ab3:∀k,PO P F' mG k->¬WO b (w5.alloc o2) k:=fun k hp hw=>ab1 k hp (hw.same (b6.block b Kr));have YW:∀k,WO b (w5.alloc o2) k->lo<=k:=fun k hw=>ar h.lb (WR.low (UN.past b6) hw).1;have htl:=PK x.2 T[i];refine⟨rfl,(y.1,gX x.2 T[i]),S',F',mG,l',hrun,e1,aaR.off t2.fr ab3 YW,t1,(ab0.frame fun k hA=>b6.block k (Nat.lt_trans (h.aB k hA) Kr)).frame fun k hA=>t2.fr.block k (by have:=h.aB k hA;have:=b6.size;omega) fun hw=>?_,fun k hp hw=>?_,ab2,h.aB,h.lb,by omega,by omega,by simp only;omega,by simp only;omega,(Te.trans (b6.mono (ar h.pm.big (h.pm.toPG.up g3).size))).trans (xW t2.fr YW aaR.big)⟩
   ·have:=(WR.low (UN.past b6) hw).1;have:=h.aB k hA;omega
   ·rcases t2.sub k hw with q|q
    ·exact ab3 k hp q
    ·have:=(aaR.toPG.low hp).2;omega
  ·rw[if_neg ho]at g1;rw[if_neg ho]at hrun;refine Or.inl ⟨by rw[show v5=_ from g1],(y.1,x.2),S',F',mG,l',hrun,e1,g2,UN,ab0,ab1,ab2,h.aB,h.lb,by omega,by omega,by simp only;omega,by simp only;omega,Te⟩
end
section
variable{w w' w1 w2 wr W:World}{b B P X lo i:Nat}{bb:gZ}{A F:Nat->Prop}{v:Value}{T:List K.Tok}{a:Addr}
theorem Mz(gl:K.Gl w a)(h:Z5 w w'):K.Gl w' a:=gl.frame (F:=fun _=>False) (K.Frame.below h) (fun _ _ x=>x)
structure Qs(W:World)(v:Value)(bb:gZ):Prop where
 ex:∃qs r,(∀q∈qs,Vx q)/\U4 W v qs/\qs.length<=2197802/\(∀k,v.ownBlock=some k->k<W.heap.size)/\needed 0 qs=.ok r/\r.length<=2200000000/\fR jP r=bb
theorem Qs.new(h:Qs W v bb)(ht:zu W.heap.size W):Z4 10 #[v] W fun e w'=>∃P X F,e=.returned (.tuple #[Z8 P,.int .i64 0,.int .i64 0,.int .i64 0])/\PM P X W.heap.size F bb [] (.slice none 0 0) [] 0 w'/\Z5 W w':=by
 obtain⟨qs,r,h1,h2,h3,h4,h5,h6,rfl⟩:=h.ex;exact XR h1 h2 h3 h4 h5 h6 ht
def PrE(W:World)(o:List UInt8)(no q:Int)(e:Ending)(w':World):Prop:=e=.returned (.tuple #[.string ⟨o.toArray⟩,.int .i64 no,.int .i64 q,.int .i64 0])/\Z5 W w'
theorem xZ(s:ByteArray)(h:Qs W v bb)(ht:zu W.heap.size W)(gl:K.Gl W a)(hb:s.size<=268435456)(h0:(K.fp s).2.1≠0):Z4 4 #[.string s,v] W (PrE W [] (K.fp s).2.1 (K.fp s).2.2):=by
 have HN:=a_ (h.new ht);have HP:Hid (∀w1,Z5 W w1->Z4 11 #[.string s] w1 (K.vY w1 (K.fp s))):=fun w1 hb1=>K.pF s w1 (Mz gl hb1) hb;have hne:((K.fp s).2.1 !=0)=true:=by simpa using h0
 clear h ht gl;go_enter func4,ntmps4;go_wp2_with(first
  |(go_at_call 10;refine HN.out.mono ?_;rintro e w1 ⟨P,X,F,rfl,q1,q2⟩;have Lm:=a_ q2;clear q1 q2 HN)
  |(go_at_call 11;refine(HP.out _ Lm.out).mono ?_;rintro e w2 ⟨v2,rfl,-,b2,-⟩;have Hz:=a_ (Lm.out.trans (b2.mono Lm.out.size));clear b2))
 exact aV (v:=.tuple #[.string ⟨#[]⟩,.int .i64 (K.fp s).2.1,.int .i64 (K.fp s).2.2,.int .i64 0]) (by simp[results,results4,go_sem]) rfl ⟨rfl,Hz.out⟩
end
section
variable{w w' w1 w2 wr W:World}{b B P X lo i:Nat}{bb:gZ}{A F:Nat->Prop}{v:Value}{T:List K.Tok}{a:Addr}
theorem PJ.start{w1 w2 w3:World}{v3:Value}{xf:Xs}(hp:PM P X W.heap.size F bb [] (.slice none 0 0) [] 0 w1)(hb1:Z5 W w1)(hb2:Z5 w1 w2)(hb3:Z5 w2 w3)(ha:K.xa A w3 v3 T)(hA:∀k,A k->w2.heap.size<=k)(hrun:py bb (([],0),([],false)) T=some xf):PJ P X W.heap.size w3.heap.size bb (fun k=>A k/\k<w3.heap.size) v3 T xf W 0 (w3.alloc (.cells #[.pointer none,.slice none 0 0,.bool false] 53)):=by
 have b4:Z5 w3 (w3.alloc (.cells #[.pointer none,.slice none 0 0,.bool false] 53)):=(Below.refl _ _).alloc (ah _) _;have b13:Z5 w1 w3:=hb2.trans (hb3.mono hb2.size);have b14:Z5 w1 (w3.alloc (.cells #[.pointer none,.slice none 0 0,.bool false] 53)):=b13.trans (b4.mono b13.size);refine⟨(([],0),([],false)),[],F,.slice none 0 0,[],hrun,rfl,hp.below b14,K.uK (Or.inr rfl) w3 (.bool false),ha.old (fun k hk _=>b4.block k hk) (fun k hk hAk=>⟨hAk,hk⟩),fun k hk hw=>?_,fun k hk Lg=>?_,fun k hk=>hk.2,ar hb1.size b13.size,ax _,ax _,ax _,ax _,hb1.trans (b14.mono hb1.size)⟩
 ·have h1:=(hp.toPG.low hk).2;have h2:=(WR.low (K.uK (Or.inr rfl) w3 (.bool false)) hw).1;have:=b13.size;omega
 ·have h1:=(hp.toPG.low Lg).2;have h2:=hA k hk.1;have:=hb2.size;omega
theorem qB(s:ByteArray)(h:Qs W v bb)(ht:zu W.heap.size W)(gl:K.Gl W a)(hb:s.size<=268435456)(h0:(K.fp s).2.1=0)(hT:(K.Eo s).1=T)(hk:∀t∈T,t.kind=1\/t.kind=2\/t.kind=3)(ha:∀t∈T,t.b_.length<=1000000000000)(hTl:T.length<=70000000)(hc:rZ T<=1000000000000){xf:Xs}(hrun:py bb (([],0),([],false)) T=some xf):Z4 4 #[.string s,v] W (PrE W xf.2.1 0 0):=by
 have HN:=a_ (h.new ht);have HP:Hid (∀w1,Z5 W w1->Z4 11 #[.string s] w1 fun e w2=>∃v2,e=.returned (.tuple #[v2,.int .i64 0,.int .i64 (K.fp s).2.2])/\Z5 w1 w2):=fun w1 hb1=>(K.pF s w1 (Mz gl hb1) hb).mono fun e w2 ⟨v2,h1,_,h3,_⟩=>⟨v2,by rw[h1,h0],h3⟩
 have HL:Hid (∀w2,Z5 W w2->Z4 12 #[.string s] w2 fun e w3=>∃v3 A n1 n2,e=.returned (.tuple #[v3,.int .i64 n1,.int .i64 n2])/\K.xa A w3 v3 T/\Z5 w2 w3/\∀k,A k->w2.heap.size<=k):=fun w2 hb2=>(K.aaf s w2 (Mz gl hb2) (by omega)).mono fun e w3 ⟨v3,A,h1,h2,h3,h4,_⟩=>⟨v3,A,_,_,h1,by rw[<-hT];exact h2,h3,h4⟩
 clear h ht gl hb h0 hT;go_enter func4,ntmps4;go_wp2_with(first
  |(go_at_call 10;refine HN.out.mono ?_;rintro e w1 ⟨P,X,F,rfl,q1,q2⟩;have PV:=a_ q1;have Lm:=a_ q2;clear q1 q2 HN)
  |(go_at_call 11;refine(HP.out _ Lm.out).mono ?_;rintro e w2 ⟨v2,rfl,b2⟩;have Hz:=a_ b2;have ab4:=a_ (Lm.out.trans (b2.mono Lm.out.size));clear b2)
  |(go_at_call 12;refine(HL.out _ ab4.out).mono ?_;rintro e w3 ⟨v3,A,n1,n2,rfl,q1,q2,q3⟩;have HJ:=a_ (PJ.start PV.out Lm.out Hz.out q2 q1 q3 hrun);obtain⟨va,vc,ev⟩:=eE q1.choose_spec.1;subst ev;clear q1 q2 q3 PV Lm Hz ab4 HP HL))
 generalize hAA:(fun k=>A k/\k<w3.heap.size)=AA at*
 go_loopw [20,22,53,61] (fun _ _ iv _ wr=>∃k:Nat,iv=.int .i64 k/\k<=T.length/\Hid (PJ P X W.heap.size w3.heap.size bb AA (.slice va T.length vc) T xf W k wr)) (fun _ _ iv _ _=>T.length-(RowKit.intOf iv).toNat)
 case atStart=>exact⟨0,rfl,ax _,HJ⟩
 case round=>
  obtain⟨k,rfl,hkT,HK⟩:=hrel;by_cases qU:k<T.length
  ·have Hl:(k:Int)<T.length:=by omega
   have hwk:IntKind.i64.wrap ((k:Int)+1)=(k:Int)+1:=by rw[aD];omega
   have⟨gT,cT,vA,eT,oa,x0,x1,x2,x3,x4⟩:∃gT cT vA,(Value.slice va T.length vc)=Z9 gT T.length cT/\wr.ownsRow 0 143 2 vA (T[k]).b_.length (K.eG (T[k]).b_)/\wr.cell? ⟨gT,k*5,none⟩=some (.int .i64 (T[k]).kind)/\wr.cell? ⟨gT,k*5+1,none⟩=some (.string (bs (T[k]).name))/\wr.cell? ⟨gT,k*5+2,none⟩=some vA/\wr.cell? ⟨gT,k*5+3,none⟩=some (.string (bs (T[k]).text))/\wr.cell? ⟨gT,k*5+4,none⟩=some (.int .i64 (T[k]).at_):=by
    obtain⟨x,S,F',ov,l,hq⟩:=HK.out;obtain⟨gT,cT,vA,eT,oa,_,x0,x1,x2,x3,x4,_⟩:=K.xa.atA hq.an k qU;exact⟨gT,cT,vA,eT,oa,x0,x1,x2,x3,x4⟩
   obtain⟨ai,ac,oF⟩:=eE oa;cases eT;subst oF;have HC:Hid (∀o,Z4 13 #[Z8 P,.agg #[.int .i64 (T[k]).kind,.string (bs (T[k]).name),.slice ai (T[k]).b_.length ac,.string (bs (T[k]).text),.int .i64 (T[k]).at_]] (wr.alloc o) _):=fun o=>PJ.push (HK.out.below ((Below.refl _ wr).alloc (ah _) o)) qU hk ha hTl hc (eI oa fun j e=>((Below.refl _ wr).alloc (ah _) o).block j (eU oa e));clear oa HK HJ;generalize T[k]=t at*
   go_wp2_with fail;refine(HC.out _).mono ?_;rintro e w5 (⟨rfl,hj⟩|⟨g,cap,nu,nx,rfl,hg,hj⟩)
   ·have HF:=a_ hj;clear hj HC x0 x1 x2 x3 x4;go_wp2_with fail;go_loopw [22,61] (fun _ iv wr=>iv=.int .i64 0/\wr=w5) (fun _ _ _=>0)
    case atStart=>exact⟨rfl,rfl⟩
    case round=>
     obtain⟨rfl,rfl⟩:=hrel;go_wp2_with fail
     go_roundw
     case rel=>exact⟨k+1,by simp,by omega,HF⟩
     case measure=>simp only[RowKit.intOf];omega
   ·have HF:=a_ hj;have y0:=hg 0 _ rfl;have y1:=hg 1 _ rfl;have y2:=hg 2 _ rfl;have y3:=hg 3 _ rfl;have y4:=hg 4 _ rfl;clear hj HC x0 x1 x2 x3 x4 hg;go_wp2_with fail;go_loopw [22,61] (fun _ iv wr=>(iv=.int .i64 0/\wr=w5)\/(iv=.int .i64 1/\Hid (PJ P X W.heap.size w3.heap.size bb AA (Z9 gT T.length vc) T xf W (k+1) wr))) (fun _ iv _=>1-(RowKit.intOf iv).toNat)
    case atStart=>exact Or.inl ⟨rfl,rfl⟩
    case round=>
     rcases hrel with⟨rfl,rfl⟩|⟨rfl,HK⟩
     ·go_wp2_with fail;refine(HF.out _).mono ?_;rintro e w6 ⟨rfl,hj6⟩;have HK:=a_ hj6;clear hj6 HF;go_wp2
      go_roundw
      case rel=>exact Or.inr ⟨rfl,HK⟩
      case measure=>simp only[RowKit.intOf];omega
     ·go_wp2_with fail
      go_roundw
      case rel=>exact⟨k+1,by simp,by omega,HK⟩
      case measure=>simp only[RowKit.intOf];omega
  ·obtain rfl:k=T.length:=by omega
   have HS:Hid (Z4 15 #[.pointer (some ⟨w3.heap.size,0,none⟩)] wr (Z7 (.string ⟨xf.2.1.toArray⟩) W)):=by
    obtain⟨x,S,F',ov,l,hq⟩:=HK.out;have hr:=hq.run;rw[dz]at hr;cases hr;exact(XQ hq.wr_).mono fun e w' ⟨e1,e2⟩=>⟨e1,hq.bl.trans (e2.mono hq.lb)⟩
   clear HK HJ;go_wp2_with(go_at_call 15;refine HS.out.mono ?_;rintro e w7 ⟨rfl,b7⟩;have HB7:=a_ b7;clear b7);exact aV (v:=.tuple #[.string ⟨xf.2.1.toArray⟩,.int .i64 0,.int .i64 0,.int .i64 0]) (by simp[results,results4,go_sem]) rfl ⟨rfl,HB7.out⟩
end
section
variable{b:gZ}{T:List K.Tok}{n:List UInt8}{a:K.jY}{f:K.Fo}{ls:List K.Tok}
theorem iG{x y:Xs}{t:K.Tok}{l:List K.Tok}(h:mg b x t=some y):py b x (t::l)=py b y l:=by
 show (match mg b x t with|some y=>py b y l|none=>none)=_;rw[h]
theorem r_(o:List UInt8×Bool):∀(l r:List K.Tok),(∀t∈l,K.Idle t)->py b (([],0),o) (l++r)=py b (([],0),o) r
 |[],r,_=>rfl
 |t::l,r,h=>by
  obtain⟨h1,h2,_⟩:=h t bJ;rw[aI,iG (y:=(([],0),o))]
  ·exact r_ o l r fun x hx=>h x (bO _ hx)
  ·unfold mg kT;rw[if_neg h1,if_neg h2];split<;>rfl
theorem UO(hm:K.ma f ls):∀(l:Ms) (k:Nat) (o:List UInt8×Bool) (r:List K.Tok),py b ((l,k+1),o) (ls++r)=py b ((l,k+1),o) r:=by
 induction hm with
 |nil=>intro l k o r;rfl
 |text t f' l' h1 h2 h ih=>
  intro l k o r;rw[aI,iG (y:=((l,k+1),o)),ih];unfold mg kT;rw[if_neg h1,if_neg h2];split<;>rfl
 |elem t c kf rf lk lr h1 h2 hn hk hr U_ Qa=>
  intro l k o r;rw[aI,aM,aI,iG (y:=((l,k+2),o)),U_,iG (y:=((l,k+1),o)),Qa]
  ·unfold mg kT;rw[if_neg (by omega),if_pos h2];rfl
  ·unfold mg kT;rw[if_pos h1];rfl
def s0:jo:=⟨[],false,false,false⟩
theorem CY(s:jo)(h:s.due=[])(hw:s.wh=false)(name:L):fL jP s name=s0:=by
 unfold fL iO s0;rw[h,hw];simp
theorem UQ(hm:K.ma f ls):∀(o:List UInt8×Bool) (r:List K.Tok),py jP (([(s0,false)],0),o) (ls++r)=py jP (([(s0,false)],0),o) r:=by
 induction hm with
 |nil=>intro o r;rfl
 |text t f' l' h1 h2 h ih=>
  intro o r;rw[aI,iG (y:=(([(s0,false)],0),o)),ih];unfold mg kT;rw[if_neg h1,if_neg h2];split<;>rfl
 |elem t c kf rf lk lr h1 h2 hn hk hr U_ Qa=>
  intro o r;rw[aI,aM,aI,iG (y:=(([(s0,false)],1),o)),UO hk,iG (y:=(([(s0,false)],0),o)),Qa]
  ·unfold mg kT;rw[if_neg (by omega),if_pos h2];rfl
  ·unfold mg kT;rw[if_pos h1];have e:fL jP (tJ jP [(s0,false)]) t.name=s0:=CY s0 rfl rfl t.name;simp only[e];rfl
theorem uN(f:K.Fo)(Q:List UInt8):(if f.isNil=true then(Q,false)else((Q++if(false:Bool)=true then [62]else [])++f.plain,false))=(Q++f.plain,false):=by
 cases f with
 |nil=>simp[K.Fo.isNil,K.Fo.plain]
 |text=>rw[if_neg (by simp[K.Fo.isNil])];simp
 |elem=>rw[if_neg (by simp[K.Fo.isNil])];simp
theorem Ln(hm:K.ma f ls):∀(o:List UInt8) (d:Bool),ls.foldl gX (o,d)=if f.isNil=true then(o,d)else((o++if d=true then [62]else [])++f.plain,false):=by
 induction hm with
 |nil=>intro o d;rfl
 |text t f' l' h1 h2 h ih=>
  intro o d;have e:gX (o,d) t=((o++if d=true then [62]else [])++K.Ch.h_ false t.text,false):=by
   unfold gX;rw[if_neg (fun q=>h2 q.2),if_neg h1,if_neg h2]
  have hN:(K.Fo.text t.text f').isNil=false:=rfl;rw[cm,e,ih,uN,hN];simp[K.Fo.plain]
 |elem t c kf rf lk lr h1 h2 hn hk hr U_ Qa=>
  intro o d;have e:gX (o,d) t=((o++if d=true then [62]else [])++K.fI t.name t.b_ t.b_.length,true):=by
   unfold gX;rw[if_neg (fun q=>by have:=q.2;omega),if_pos h1]
  have e2:lk.foldl gX ((o++if d=true then [62]else [])++K.fI t.name t.b_ t.b_.length,true)=_:=U_ _ _;have e3:K.fI t.name t.b_ t.b_.length=60::(t.name++t.b_.flatMap K.px):=by unfold K.fI;rw[bt]
  rw[cm,e,dr,e2,cm];have hN:(K.Fo.elem t.name t.b_ kf rf).isNil=false:=rfl;generalize (o++if d=true then [62]else [])=O;by_cases hz:kf.isNil=true
  ·have e4:gX (O++K.fI t.name t.b_ t.b_.length,true) c=(O++K.fI t.name t.b_ t.b_.length++[47,62],false):=by
    unfold gX;rw[if_pos ⟨rfl,h2⟩]
   rw[if_pos hz,e4,Qa,uN,e3,hN];simp only[aA,bf]
   conv=>rhs;unfold K.Fo.plain
   rw[if_pos hz];simp
  ·have e4:∀Q,gX (Q,false) c=(Q++([60,47]++c.name++[62]),false):=fun Q=>by
    unfold gX;rw[if_neg (fun q=>by cases q.1),if_neg (by omega),if_pos h2];simp
   rw[if_neg hz,e4,Qa,uN,e3,hn,hN];simp only[aA,bf]
   conv=>rhs;unfold K.Fo.plain
   rw[if_neg hz];simp
theorem PN(hm:K.ma f ls):(∀t∈ls,t.kind=1\/t.kind=2\/t.kind=3)->∀(m:Ms) (x:jo×Bool) (o:List UInt8×Bool) (r:List K.Tok),x.1.wh=true->∃t,py b ((m++[x],0),o) (ls++r)=py b ((m++[(x.1,t)],0),ls.foldl gX o) r:=by
 induction hm with
 |nil=>intro _ m x o r _;exact⟨x.2,rfl⟩
 |text t f' l' h1 h2 h ih=>
  intro hK m x o r hx;have h3:t.kind=3:=((hK t bJ).resolve_left h1).resolve_left h2;obtain⟨u,hu⟩:=ih (fun y hy=>hK y (bO _ hy)) m (x.1,true) (gX o t) r hx;refine⟨u,?_⟩;rw[aI,iG (y:=((m++[(x.1,true)],0),gX o t)),hu]
  ·rfl
  ·unfold mg kT;rw[if_neg h1,if_neg h2,if_pos h3];simp[Mx,xt,hx]
 |elem t c kf rf lk lr h1 h2 hn hk hr U_ Qa=>
  intro hK m x o r hx;have hw:(fL b (tJ b (m++[x])) t.name).wh=true:=by
   have:tJ b (m++[x])=x.1:=by simp[tJ]
   rw[this];unfold fL;simp[hx]
  obtain⟨u,hu⟩:=U_ (fun y hy=>hK y (by simp[hy])) (m++[(x.1,false)]) (fL b (tJ b (m++[x])) t.name,false) (gX o t) (c::(lr++r)) hw;obtain⟨v,hv⟩:=Qa (fun y hy=>hK y (by simp[hy])) m (x.1,false) (gX (lk.foldl gX (gX o t)) c) r hx;refine⟨v,?_⟩;rw[aI,aM,aI,iG (y:=((m++[(x.1,false)]++[(fL b (tJ b (m++[x])) t.name,false)],0),gX o t)),hu,iG (y:=((m++[(x.1,false)],0),gX (lk.foldl gX (gX o t)) c)),hv]
  ·simp[dr]
  ·unfold mg kT;rw[if_neg (by omega),if_pos h2];simp
  ·unfold mg kT;rw[if_pos h1];simp only[hw];simp[xt]
end
section
variable{b:gZ}{T:List K.Tok}{n:List UInt8}{a:K.jY}{f:K.Fo}{ls:List K.Tok}
theorem lG(n:List UInt8)(a:K.jY):K.fI n a a.length=60::(n++a.flatMap K.px):=by unfold K.fI;rw[bt]
theorem UR(h:K.Doc T n a f):∃xf,py jP (([],0),([],false)) T=some xf/\xf.2.1=(K.Fo.elem n a .nil .nil).plain:=by
 obtain⟨b1,t,ls,c,b2,rfl,i1,i2,k1,rfl,rfl,mk,k4,k5⟩:=h.ex;have e1:fL jP (tJ jP []) t.name=s0:=CY (iN jP) rfl rfl t.name;refine⟨(([],0),(K.fI t.name t.b_ t.b_.length++[47,62],false)),?_,?_⟩
 ·rw[r_ _ _ _ i1,iG (y:=(([(s0,false)],0),(K.fI t.name t.b_ t.b_.length,true))),UQ mk,iG (y:=(([],0),(K.fI t.name t.b_ t.b_.length++[47,62],false))),<-aO b2,r_ _ _ _ i2]
  ·rfl
  ·have k6:¬c.kind=1:=by omega
   unfold mg kT gX;rw[if_neg k6,if_pos k4];simp[k4]
  ·unfold mg kT gX;rw[if_pos k1];simp only[e1];simp[k1,xt]
 ·rw[lG];simp[K.Fo.plain,K.Fo.isNil]
def bS:gZ:=[⟨(false,[]),[((false,[42]),1)],false,false⟩,⟨(false,[42]),[],true,true⟩]
theorem PQ(name:L):(fL bS (iN bS) name).wh=true:=by
 have e:(iN bS).due=[1]:=by kernel_rfl
 unfold fL;rw[e];have h1:ou bS 1 name=true:=rfl;have h2:Qo bS 1=true:=rfl;simp[h1,h2]
theorem US(h:K.Doc T n a f)(hK:∀t∈T,t.kind=1\/t.kind=2\/t.kind=3):∃xf,py bS (([],0),([],false)) T=some xf/\xf.2.1=(K.Fo.elem n a f .nil).plain:=by
 obtain⟨b1,t,ls,c,b2,rfl,i1,i2,k1,rfl,rfl,mk,k4,k5⟩:=h.ex;have hw:(fL bS (tJ bS []) t.name).wh=true:=PQ t.name;obtain⟨u,hu⟩:=PN (b:=bS) mk (fun y hy=>hK y (by simp[hy])) [] (fL bS (tJ bS []) t.name,false) (gX ([],false) t) (c::b2) hw;have hm:=Ln (K.ma.elem t c f .nil ls [] k1 k4 k5 mk .nil) [] false;rw[cm,dr,cm,dK]at hm;refine⟨(([],0),gX (ls.foldl gX (gX ([],false) t)) c),?_,?_⟩
 ·rw[r_ _ _ _ i1,iG (y:=(([(fL bS (tJ bS []) t.name,false)],0),gX ([],false) t))]
  ·rw[bR]at hu;rw[hu,iG (y:=(([],0),gX (ls.foldl gX (gX ([],false) t)) c)),<-aO b2,r_ _ _ _ i2]
   ·rfl
   ·unfold mg kT;rw[if_neg (by omega),if_pos k4];simp
  ·unfold mg kT;rw[if_pos k1];simp only[hw];simp[xt]
 ·rw[hm];have hN:(K.Fo.elem t.name t.b_ f .nil).isNil=false:=rfl;rw[hN];simp
structure TkF(s:ByteArray)(T:List K.Tok):Prop where
 eq:(K.Eo s).1=T
 kind:∀t∈T,t.kind=1\/t.kind=2\/t.kind=3
 aaS:∀t∈T,t.b_.length<=1000000000000
 len:T.length<=70000000
 sum:rZ T<=1000000000000
theorem Iw:∀(l:List K.Tok) (b:Bool),K.pW b l->∀t∈l,K.CC t
 |[],_,_,t,h=>by simp at h
 |x::l,b,⟨h1,_,h3⟩,t,h=>by
  rcases List.mem_cons.1 h with rfl|h
  ·exact h1
  ·exact Iw l _ h3 t h
theorem XS(t:K.Tok)(h:K.CC t):wc t<=10*(K.jm t).length:=by
 unfold wc;rcases h with⟨k,_,_,_,e⟩|⟨k,_,e1,e2⟩|⟨k,e1,e2,_⟩
 ·have:=K.CS k;rw[lG,e];simp only[K.Ch.h_,cx,aq,ag,ae]at*
  omega
 ·have:=K.AJ k;rw[lG,e1,e2];simp only[K.Ch.h_,cx,aq,ag,ae]at*
  omega
 ·rw[lG,e1,e2];unfold K.jm;rw[if_neg (by omega),if_neg (by omega)];have:1<=K.marks.length:=by decide
  simp only[cx,aq,ag,ae]at*
  omega
theorem CZ:∀(l:List K.Tok),(∀t∈l,K.CC t)->rZ l<=10*K.cost l
 |[],_=>ax _
 |t::l,h=>by
  have h1:=XS t (h t bJ);have h2:=CZ l fun x hx=>h x (bO _ hx);rw[K.lF];have e:rZ (t::l)=wc t+rZ l:=rfl;omega
theorem UT{s:ByteArray}(he:(K.eQ s).err=0)(hs:s.size<=1048576):TkF s (K.j7 s):=by
 have hc:=Iw _ _ (K.AE s he);have h1:=CZ _ hc;have h2:K.cost (K.j7 s)<=64*s.size:=K.qy s;have h3:(K.j7 s).length<=64*s.size:=K.xj s;refine⟨?_,fun t ht=>?_,fun t ht=>?_,by omega,by omega⟩
 ·rw[K.Me];unfold K.kY;rw[if_neg (by simpa using he)];rfl
 ·rcases hc t ht with h|h|h
  ·exact Or.inl h.1
  ·exact Or.inr (Or.inl h.1)
  ·exact Or.inr (Or.inr h.1)
 ·obtain⟨i,hi,rfl⟩:=List.getElem_of_mem ht;have h4:=YV _ i hi;have h5:=K.Ue ((K.j7 s)[i]).b_;have h6:((K.j7 s)[i]).b_.length<=wc (K.j7 s)[i]:=by
   unfold wc;rw[lG];simp only[ag,ae];omega
  omega
end
section
variable{w w' W W' w1:World}{a:Addr}{s:ByteArray}{A Kb:Nat->Prop}{nv v:Value}{av kv:Nat->Value}{l:List K.Nd}
structure GA(W:World)(a:Addr):Prop where
 gl:K.Gl W a
 tab:zu W.heap.size W
theorem GA.below(h:GA W a)(hb:Z5 W W'):GA W' a:=⟨Mz h.gl hb,tabBelow_of_tabIs (h.tab.on hb).here⟩
theorem MA(W:World):Qs W (.slice none 0 0) jP:=⟨[],[],fun q h=>by simp at h,⟨none,0,rfl,by simp,fun i x h=>by simp at h⟩,by simp,fun k e=>by simp[Value.ownBlock]at e,rfl,by simp,rfl⟩
theorem UU{q:L}{r:List Np}{bb:gZ}(hq:Vx q)(hr:needed 0 [q]=.ok r)(hl:r.length<=2200000000)(hg:fR jP r=bb)(W:World):Qs (W.alloc (.cells #[.string (bs q)] 9)) (.slice (some ⟨W.heap.size,0,none⟩) 1 1) bb:=by
 refine⟨[q],r,fun x hx=>by rw[List.mem_singleton.1 hx];exact hq,⟨some ⟨W.heap.size,0,none⟩,1,rfl,by simp,fun i x hx=>?_⟩,by simp,fun k e=>by simp[Value.ownBlock]at e;simp;omega,hr,hl,hg⟩;have hi:i=0:=by
  have:=(List.getElem?_eq_some_iff.1 hx).1;simp at this;exact this
 subst hi;obtain rfl:q=x:=by simpa using hx
 exact⟨W.heap.size,0,rfl,by simp,cell_of (K.eL W _) rfl⟩
def qS:L:=[47,42]
def pS:List jd:=[⟨false,[42],.nil⟩]
def qT:L:=[47,97,47,98]
def pT:List jd:=[⟨false,[97],.nil⟩,⟨false,[98],.nil⟩]
theorem XT:parse qS=.ok [pS]:=by kernel_rfl
theorem XU:parse qT=.ok [pT]:=by kernel_rfl
theorem UW{q:L}{p:List jd}(h:(91:UInt8)∉q)(hp:parse q=.ok [p])(h1:(pD [p]).length<=1001)(h2:p≠[])(h3:lS (fG.of p)<=1000)(h4:∀x∈p,x.iT=.nil):Vx q:=⟨h,[p],hp,h1,fun y hy=>by
 rw[bc]at hy;subst hy;exact⟨h2,h3,h4⟩⟩
theorem ab5:Vx qS:=UW (by decide) XT (cp (by kernel_rfl)) (by decide) (cp (by kernel_rfl)) fun x hx=>by
 simp[pS]at hx;rw[hx]
theorem ab6:Vx qT:=UW (by decide) XU (cp (by kernel_rfl)) (by decide) (cp (by kernel_rfl)) fun x hx=>by
 simp[pT]at hx;rcases hx with rfl|rfl<;>rfl
def rS:List Np:=[([(false,[42])],true)]
def rT:List Np:=[([(false,[97]),(false,[98])],true)]
theorem aaT:needed 0 [qS]=.ok rS:=by kernel_rfl
theorem aaU:needed 0 [qT]=.ok rT:=by kernel_rfl
theorem aaV:fR jP rS=bS:=by kernel_rfl
theorem MB(W:World):Qs (W.alloc (.cells #[.string (bs qS)] 9)) (.slice (some ⟨W.heap.size,0,none⟩) 1 1) bS:=UU ab5 aaT (by simp[rS]) aaV W
def Bx:ByteArray:=⟨#[60,97,62,60,98,62,120,60,99,47,62,60,47,98,62,60,100,47,62,60,47,97,62]⟩
def ab7:List UInt8:=[60,97,62,60,98,62,120,60,99,47,62,60,47,98,62,60,47,97,62]
def tkZ:List K.Tok:=[⟨1,[97],[],[],0⟩,⟨1,[98],[],[],3⟩,⟨3,[],[],[120],6⟩,⟨1,[99],[],[],7⟩,⟨2,[99],[],[],7⟩,⟨2,[98],[],[],11⟩,⟨1,[100],[],[],15⟩,⟨2,[100],[],[],15⟩,⟨2,[97],[],[],19⟩]
theorem UX:K.kY Bx=(tkZ,0,0):=by rw[<-K.Me];kernel_rfl
theorem wq:(K.eQ Bx).err=0/\(K.eQ Bx).l++(K.eQ Bx).last=tkZ:=by
 have h:=UX;unfold K.kY at h;by_cases he:(K.eQ Bx).err=0
 ·rw[if_neg (by simpa using he)]at h;exact⟨he,aC (·.1) h⟩
 ·rw[if_pos he]at h;exact absurd (aC (fun x=>x.2.1) h) he
theorem Lo:(K.fp Bx).2.1=0:=by
 unfold K.fp;rw[wq.2,wq.1];kernel_rfl
theorem UY:∃xf,py (fR jP rT) (([],0),([],false)) tkZ=some xf/\xf.2.1=ab7:=by
 have h:(py (fR jP rT) (([],0),([],false)) tkZ).map (fun x=>x.2.1)=some ab7:=by kernel_rfl
 obtain⟨xf,h1,h2⟩:=Option.map_eq_some_iff.1 h;exact⟨xf,h1,h2⟩
end
section
variable{w w' W W' w1:World}{a:Addr}{s:ByteArray}{A Kb:Nat->Prop}{nv v:Value}{av kv:Nat->Value}{l:List K.Nd}
theorem ER(n:Int)(w:World):Z4 7 #[.int .i64 n] w (Z6 (.int .i64 n) w):=by
 go_enter func7,ntmps7;go_wp2;go_ret;exact⟨rfl,rfl⟩
theorem PS(h:GA W a):Z4 4 #[.string Bx,.slice (some ⟨W.heap.size,0,none⟩) 1 1] (W.alloc (.cells #[.string ⟨#[47,97,47,98]⟩] 9)) (Z7 (.tuple #[.string ⟨#[60,97,62,60,98,62,120,60,99,47,62,60,47,98,62,60,47,97,62]⟩,.int .i64 0,.int .i64 0,.int .i64 0]) W):=by
 have b1:Z5 W (W.alloc (.cells #[.string (bs qT)] 9)):=(Below.refl _ _).alloc (ah _) _;have h1:=h.below b1;obtain⟨xf,hr,ho⟩:=UY;have ht:=UT wq.1 (by decide);have hr':py (fR jP rT) (([],0),([],false)) (K.j7 Bx)=some xf:=by
  unfold K.j7;rw[wq.2];exact hr
 refine(qB Bx (UU ab6 aaU (by simp[rT]) rfl W) h1.tab h1.gl (by decide) Lo ht.eq ht.kind ht.aaS ht.len ht.sum hr').mono ?_;rintro e w' ⟨rfl,b2⟩;rw[ho];exact⟨rfl,b1.trans (b2.mono b1.size)⟩
theorem C0(h:GA W a):Z4 8 #[] W (Z7 (.bool true) W):=by
 have HP:=a_ (PS h);have HM:=a_ ER;clear h;unfold Bx at HP;go_enter func8,ntmps8;go_wp2_with(first
  |(go_at_call 4;refine HP.out.mono ?_;rintro e w1 ⟨rfl,hb⟩;have HB:=a_ hb;clear hb HP)
  |(go_at_call 7;refine(HM.out _ _).mono ?_;rintro e w3 ⟨rfl,hw⟩;have hw':=hw.symm;clear hw;subst hw'))
 go_ret;exact⟨rfl,HB.out⟩
theorem Lp{n:K.Nd}{g cap:Nat}(h:K.f_ 36 79 A Kb w (Z9 g (n::l).length cap) (n::l) av kv):K.f_ 36 79 A Kb (w.setCell ⟨g,3,none⟩ (.slice none 0 0)) (Z9 g (n::l).length cap) ({n with kids:=[]}::l) av (K.upd kv 0 (.slice none 0 0)):=by
 have hf:Fr (fun k=>k=g) w (w.setCell ⟨g,3,none⟩ (.slice none 0 0)):=(Fr.refl _ w).set _ _ fun _=>rfl;obtain⟨cur,hg⟩:=fX h.row (k:=g) rfl;have xv:∀i,i≠0->K.upd kv 0 (.slice none 0 0) i=kv i:=fun i hi=>by simp[K.upd,hi]
 have hcs:(K.fH av kv 0 (n::l)).set 3 (.slice none 0 0)=K.fH av (K.upd kv 0 (.slice none 0 0)) 0 ({n with kids:=[]}::l):=by
  unfold K.fH;rw[K.mW (j8:=av) (kA:=K.upd kv 0 (.slice none 0 0)) l (0+1) fun j hj _=>⟨rfl,(xv j (by omega)).symm⟩,ed _ _ (by simp[K.iu])];rfl
 have hrow:=K.vW h.row (i:=3) (by simp;omega) (.slice none 0 0);rw[hcs]at hrow;refine⟨hrow,h.nR,fun i m hm=>?_,fun i k hi=>h.qN i k hi,fun i m hm=>?_,fun i k hi hk=>?_,fun i j k hi hj hij hk=>?_,fun i m hm hz=>?_⟩
 ·cases i with
  |zero=>
   obtain rfl:{n with kids:=[]}=m:=by simpa using hm
   have:=h.attr 0 n rfl;exact eI this fun k hk=>hf.block k (eU this hk) fun e=>gP this hg (by decide) (by rw[<-e];exact hk)
  |succ i=>
   have:=h.attr (i+1) m hm;exact eI this fun k hk=>hf.block k (eU this hk) fun e=>gP this hg (by decide) (by rw[<-e];exact hk)
 ·cases i with
  |zero=>
   obtain rfl:{n with kids:=[]}=m:=by simpa using hm
   exact bG _ _ _ _
  |succ i=>
   rw[xv _ (by omega)];have:=h.kid (i+1) m hm;refine eI this fun k hk=>hf.block k (eU this hk) fun e=>(h.l7 (i+1) k ?_ hk).2 (by rw[e];rfl);exact(List.getElem?_eq_some_iff.1 hm).1
 ·cases i with
  |zero=>simp[K.upd,Value.ownBlock]at hk
  |succ i=>rw[xv _ (by omega)]at hk;exact h.l7 (i+1) k hi hk
 ·cases i with
  |zero=>simp[K.upd,Value.ownBlock]at hk
  |succ i=>
   rw[xv _ (by omega)]at hk;cases j with
   |zero=>simp[K.upd,Value.ownBlock]
   |succ j=>rw[xv _ (by omega)];exact h.apart (i+1) (j+1) k hi hj hij hk
 ·cases i with
  |zero=>rfl
  |succ i=>rw[xv _ (by omega)];exact h.KG (i+1) m hm hz
end
section
variable{w w' W W' w1:World}{a:Addr}{s:ByteArray}{v:Value}
structure YX(s:ByteArray)(no q:Int)(o1 o2:List UInt8):Prop where
 one:∀W a,GA W a->Z4 4 #[.string s,.slice none 0 0] W (PrE W o1 no q)
 two:∀W a,GA W a->Z4 4 #[.string s,.slice (some ⟨W.heap.size,0,none⟩) 1 1] (W.alloc (.cells #[.string ⟨#[47,42]⟩] 9)) (PrE W o2 no q)
 prt:∀W a,GA W a->Z4 5 #[.string s] W (K.K9 W o2 no q)
theorem PT(hb:s.size<=1048576)(h0:(K.fp s).2.1≠0):YX s (K.fp s).2.1 (K.fp s).2.2 [] [] where
 one W a h:=xZ s (MA W) h.tab h.gl (by omega) h0
 two W a h:=by
  have b1:Z5 W (W.alloc (.cells #[.string (bs qS)] 9)):=(Below.refl _ _).alloc (ah _) _;have h1:=h.below b1;exact(xZ s (MB W) h1.tab h1.gl (by omega) h0).mono fun e w' ⟨e1,b2⟩=>⟨e1,b1.trans (b2.mono b1.size)⟩
 prt W a h:=K.Ps s h.gl (by omega) h0
theorem Lq(hb:s.size<=1048576)(h0:(K.fp s).2.1=0){n:List UInt8}{at_:K.jY}{f:K.Fo}(hw:K.Whole s (K.fp s).1 n at_ f):YX s 0 0 (K.Fo.elem n at_ .nil .nil).plain (K.Fo.elem n at_ f .nil).plain:=by
 have ht:=UT hw.err hb;obtain⟨x1,r1,e1⟩:=UR hw.doc;obtain⟨x2,r2,e2⟩:=US hw.doc ht.kind;refine⟨fun W a h=>?_,fun W a h=>?_,fun W a h=>?_⟩
 ·rw[<-e1];exact qB s (MA W) h.tab h.gl (by omega) h0 ht.eq ht.kind ht.aaS ht.len ht.sum r1
 ·have b1:Z5 W (W.alloc (.cells #[.string (bs qS)] 9)):=(Below.refl _ _).alloc (ah _) _;have h1:=h.below b1;rw[<-e2];exact(qB s (MB W) h1.tab h1.gl (by omega) h0 ht.eq ht.kind ht.aaS ht.len ht.sum r2).mono fun e w' ⟨e1,b2⟩=>⟨e1,b1.trans (b2.mono b1.size)⟩
 ·exact K.La s h.gl (by omega) h0 (hw.first (by omega))
theorem UZ(h:GA W a)(hb:s.size<=1048576)(h0:(K.fp s).2.1≠0):Z4 3 #[.string s] W (Z7 (.bool true) W):=by
 have H3:=a_ (PT hb h0);have HR:=a_ (fun w=>K.CO s w (by omega));have HA:=a_ (fun w (h:GA w a)=>C0 h);have HM:=a_ ER;have HG:=a_ h;have AV:((K.fp s).2.1 !=0)=true:=by simpa using h0
 have Jg:((K.fp s).2.1 !=(K.fp s).2.1)=false:=by simp
 clear h hb h0;unfold K.xl at HR;generalize (K.fp s).2.1=no at*
 generalize (K.fp s).2.2=q at*
 generalize (K.fp s).1=nd at*
 go_enter func3,ntmps3;go_wp2_with(first
  |(go_at_call 4;first
   |(refine(H3.out.one _ _ HG.out).mono ?_;rintro e w1 ⟨rfl,b1⟩;have HG1:=a_ (HG.out.below b1);have Lm:=a_ b1;clear b1 HG)
   |(refine(H3.out.two _ _ HG1.out).mono ?_;rintro e w2 ⟨rfl,b2⟩;have NL:=a_ (HG1.out.below b2);have Hz:=a_ (Lm.out.trans (b2.mono Lm.out.size));clear b2))
  |(go_at_call 5;refine(H3.out.prt _ _ NL.out).mono ?_;rintro e w3 ⟨rfl,b3⟩;have HG3:=a_ (NL.out.below b3);have XY:=a_ (Hz.out.trans (b3.mono Hz.out.size));clear b3)
  |(go_at_call 6;refine(HR.out _).mono ?_;rintro e w4 ⟨v4,rfl,-,b4⟩;have HG4:=a_ (HG3.out.below b4);have HB4:=a_ (XY.out.trans (b4.mono XY.out.size));clear b4)
  |(go_at_call 7;refine(HM.out _ _).mono ?_;rintro e w5 ⟨rfl,hw⟩;have hw':=hw.symm;clear hw;subst hw')
  |(go_at_call 8;refine(HA.out _ HG4.out).mono ?_;rintro e w6 ⟨rfl,b6⟩;have HB6:=a_ (HB4.out.trans (b6.mono HB4.out.size));clear b6))
 go_ret;exact⟨rfl,HB6.out⟩
theorem Lr{n:List UInt8}{at_:K.jY}{f:K.Fo}{lo:Nat}(hw:K.Whole s (K.fp s).1 n at_ f)(hb:s.size<=1048576){A Kb:Nat->Prop}{av kv:Nat->Value}{w4:World}(h:K.f_ 36 79 A Kb w4 v (K.fp s).1 av kv)(hK:∀k,Kb k->lo<=k):∃g cap m,v=Z9 g (m+1) cap/\lo<=g/\(∃u,w4.cell? ⟨g,3,none⟩=some u)/\w4.frozen? ⟨g,3,none⟩=false/\m<=9223372036854775806/\Z4 9 #[Z9 g (m+1) cap,.int .i64 0] (w4.setCell ⟨g,3,none⟩ (.slice none 0 0)) fun e w'=>e=.returned (.string ⟨(K.Fo.elem n at_ .nil .nil).plain.toArray⟩)/\Below (w4.setCell ⟨g,3,none⟩ (.slice none 0 0)).heap.size (w4.setCell ⟨g,3,none⟩ (.slice none 0 0)) w':=by
 have hl:(K.fp s).1=⟨n,at_,[],f.jE 1,-1⟩::(f.flat 1 0++[]):=by rw[hw.nodes];rfl
 generalize f.flat 1 0++[]=rest at hl;rw[hl]at h;obtain⟨g,cap,rfl,hmx,YJ,q0,q1,q2,q3,q4⟩:=h.cells 0 _ rfl;have hn:=Lp h;have hpl:(K.Fo.elem n at_ .nil .nil).plain.length<=549755813888:=by
  have h1:=hw.plain;have e1:(K.Fo.elem n at_ .nil .nil).plain.length<=(K.Fo.elem n at_ f .nil).plain.length:=by cases f<;>simp[K.Fo.plain,K.Fo.isNil]<;>omega
  omega
 have hh:(K.fI n at_ at_.length).length<=1099511627776:=by
  rw[lG];simp[K.Fo.plain,K.Fo.isNil]at hpl ⊢;omega
 have hp:=K.Il ⟨n,at_,[],[],-1⟩ 0 _ (fun _=>[]) rfl (K.CT hw.root.name.1) rfl hn hh (fun _=>ax _) rfl (by
  rw[lG]at hh;simp at hh ⊢;omega) fun i hi=>absurd hi (Nat.not_lt_zero i)
 rw[show K.fI n at_ at_.length++(if([]:List Nat)=[]then [47,62]else _)=(K.Fo.elem n at_ .nil .nil).plain by rw[lG];simp[K.Fo.plain,K.Fo.isNil]]at hp;refine⟨g,cap,rest.length,rfl,hK g YJ,⟨_,q3⟩,h.row.frozenAt _,by simp[maxLen]at hmx;omega,hp⟩
theorem PU(h:GA W a)(hb:s.size<=1048576)(h0:(K.fp s).2.1=0):Z4 3 #[.string s] W (Z7 (.bool true) W):=by
 obtain⟨hq0,n,at_,f,hw⟩:=K.Ul h0;have H3:=a_ (Lq hb h0 hw);have HR:Hid (∀w,Z4 6 #[.string s] w fun e w4=>∃g cap m,e=.returned (.tuple #[Z9 g (m+1) cap,.int .i64 0,.int .i64 0])/\m<=9223372036854775806/\(∃u,w4.cell? ⟨g,3,none⟩=some u)/\w4.frozen? ⟨g,3,none⟩=false/\Z5 w w4/\∃W5,w4.setCell ⟨g,3,none⟩ (.slice none 0 0)=W5/\Hid (Z5 w W5/\Z4 9 #[Z9 g (m+1) cap,.int .i64 0] W5 (Z7 (.string ⟨(K.Fo.elem n at_ .nil .nil).plain.toArray⟩) w))):=fun w=>(K.CO s w (by omega)).mono fun e w4 ⟨v,h1,⟨A,Kb,av,kv,h2,h3⟩,h4⟩=>by
  obtain⟨g,cap,m,rfl,r1,r2,r3,r4,r5⟩:=Lr hw hb h2 h3;have b5:Z5 w (w4.setCell ⟨g,3,none⟩ (.slice none 0 0)):=h4.setCell (p:=⟨g,3,none⟩) r1 _;exact⟨g,cap,m,by rw[h1,h0,hq0],r4,r2,r3,h4,_,rfl,b5,r5.mono fun e w' ⟨e1,e2⟩=>⟨e1,b5.trans (e2.mono b5.size)⟩⟩
 have HA:=a_ (fun w (h:GA w a)=>C0 h);have HM:=a_ ER;have HG:=a_ h;clear h hb h0 hw hq0;generalize (K.Fo.elem n at_ .nil .nil).plain=o1 at*
 generalize (K.Fo.elem n at_ f .nil).plain=o2 at*
 go_enter func3,ntmps3;go_wp2_with(first
  |(go_at_call 4;first
   |(refine(H3.out.one _ _ HG.out).mono ?_;rintro e w1 ⟨rfl,b1⟩;have HG1:=a_ (HG.out.below b1);have Lm:=a_ b1;clear b1 HG)
   |(refine(H3.out.two _ _ HG1.out).mono ?_;rintro e w2 ⟨rfl,b2⟩;have NL:=a_ (HG1.out.below b2);have Hz:=a_ (Lm.out.trans (b2.mono Lm.out.size));clear b2))
  |(go_at_call 5;refine(H3.out.prt _ _ NL.out).mono ?_;rintro e w3 ⟨rfl,b3⟩;have HG3:=a_ (NL.out.below b3);have XY:=a_ (Hz.out.trans (b3.mono Hz.out.size));clear b3)
  |(go_at_call 6;refine(HR.out _).mono ?_;rintro e w4 ⟨g,cap,m,rfl,hm,⟨u,c3⟩,f3,b4,W5,e5,HP5⟩;clear b4)
  |(go_at_call 7;refine(HM.out _ _).mono ?_;rintro e w6 ⟨rfl,hw⟩;have hw':=hw.symm;clear hw;subst hw')
  |(go_at_call 9;refine HP5.out.2.mono ?_;rintro e w7 ⟨rfl,b7⟩;have HG7:=a_ (HG3.out.below b7);have HB7:=a_ (XY.out.trans (b7.mono XY.out.size));clear b7)
  |(go_at_call 8;refine(HA.out _ HG7.out).mono ?_;rintro e w8 ⟨rfl,b8⟩;have HB8:=a_ (HB7.out.trans (b8.mono HB7.out.size));clear b8))
 go_ret;exact⟨rfl,HB8.out⟩
theorem ab8(h:GA W a)(hb:s.size<=1048576):Z4 3 #[.string s] W (Z7 (.bool true) W):=by
 by_cases h0:(K.fp s).2.1=0
 ·exact PU h hb h0
 ·exact UZ h hb h0
end
end Go.Proofs.YtjecakcpcnmieaaGreatDoor
