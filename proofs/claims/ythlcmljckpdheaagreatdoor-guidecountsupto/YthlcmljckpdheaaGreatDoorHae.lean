import Derived.Test.YthlcmljckpdheaaGreatDoorHA
import Derived.Laws.OwnMore
import Derived.Lib.AppendZerosOnto
import Derived.Maps.AppendAt
import Derived.Test.YthlcmljckpdheaaGreatDoorHad
import Derived.Test.YthlcmljckpdheaaGreatDoorHac
set_option linter.unusedVariables false
set_option linter.unusedSimpArgs false
set_option maxHeartbeats 32000000
set_option maxRecDepth 100000
namespace Go.Proofs.YthlcmljckpdheaaGreatDoor
open Go.RowKit Go.Maps Go.Lib Tryz
section
variable{w w' w1 W:World}
def Zn(x:jf×Value):Mk:=(x.1.deep,x.1.test)
def Zo(x:jf×Value):Prop:=∃pi pn pc,x.2=.slice pi pn pc
theorem zN{g:Nat}{xs:List (jf×Value)}(h:∀i x,xs[i]?=some x->w.cell? ⟨g,i*3,none⟩=some (.bool x.1.deep)/\w.cell? ⟨g,i*3+1,none⟩=some (.string (bs x.1.test))/\w.cell? ⟨g,i*3+2,none⟩=some x.2):∀j u,(gQ xs)[j]?=some u->w.cell? ⟨g,j,none⟩=some u:=by
 intro j u hj;have hl:=(List.getElem?_eq_some_iff.1 hj).1;rw[td]at hl;have hi:j/3<xs.length:=by omega
 obtain⟨x,hx⟩:∃x,xs[j/3]?=some x:=⟨_,ap hi⟩
 obtain⟨h0,h1,h2⟩:=h _ _ hx;have hc:j/3*3=j\/j/3*3+1=j\/j/3*3+2=j:=by omega
 rcases hc with hc|hc|hc
 ·have:=j_ xs (j/3) x 0 _ hx rfl;rw[bN,hc,hj]at this;rw[hc]at h0;rw[h0,this]
 ·have:=j_ xs (j/3) x 1 _ hx rfl;rw[hc,hj]at this;rw[hc]at h1;rw[h1,this]
 ·have:=j_ xs (j/3) x 2 _ hx rfl;rw[hc,hj]at this;rw[hc]at h2;rw[h2,this]
theorem qK.cells{ai:Option Addr}{n cap:Nat}{ms:List Mk}(h:qK w (.slice ai n cap) ms):n=ms.length/\(ms≠[]->∃g,ai=some ⟨g,0,none⟩)/\∃xs:List (jf×Value),xs.map Zn=ms/\(∀y∈xs,Zo y)/\∀g,ai=some ⟨g,0,none⟩->∀j u,(gQ xs)[j]?=some u->w.cell? ⟨g,j,none⟩=some u:=by
 obtain⟨ai',cap',e,hn,hr⟩:=h;cases e;have key:∀k,k<=ms.length->∃xs:List (jf×Value),xs.map Zn=ms.take k/\(∀y∈xs,Zo y)/\∀g,ai=some ⟨g,0,none⟩->∀i x,xs[i]?=some x->w.cell? ⟨g,i*3,none⟩=some (.bool x.1.deep)/\w.cell? ⟨g,i*3+1,none⟩=some (.string (bs x.1.test))/\w.cell? ⟨g,i*3+2,none⟩=some x.2:=by
  intro k;induction k with
  |zero=>intro _;exact⟨[],by simp,fun y hy=>by simp at hy,fun g _ i x hx=>by simp at hx⟩
  |succ k ih=>
   intro hk;obtain⟨xs,h1,h2,h3⟩:=ih (by omega);have hm:ms[k]?=some ms[k]:=ap (by omega);obtain⟨g,pi,pn,pc,e,hg,a0,a1,a2⟩:=hr k _ hm;have GY:xs.length=k:=by have:=aA List.length h1;simp at this;omega
   refine⟨xs++[(⟨ms[k].1,ms[k].2,.nil⟩,.slice pi pn pc)],?_,?_,?_⟩
   ·rw[aR,h1,bw (by omega)];rfl
   ·intro y hy;rcases List.mem_append.1 hy with hy|hy
    ·exact h2 y hy
    ·rw[aJ]at hy;subst hy;exact⟨_,_,_,rfl⟩
   ·intro g' e' i x hx;by_cases hi:i<k
    ·rw[aL (by omega)]at hx;exact h3 g' e' i x hx
    ·have qM:=(List.getElem?_eq_some_iff.1 hx).1;rw[af,bc]at qM;obtain rfl:i=k:=by omega
     rw[aP (by omega),GY,Nat.sub_self]at hx;simp only[dh,aX]at hx;subst hx;rw[e]at e';cases e';exact⟨a0,a1,a2⟩
 refine⟨rfl,fun h0=>?_,?_⟩
 ·have hl0:0<ms.length:=List.length_pos_iff.2 h0;obtain⟨g,_,_,_,e,_⟩:=hr 0 ms[0] (ap hl0);exact⟨g,e⟩
 ·obtain⟨xs,h1,h2,h3⟩:=key ms.length (aj _);rw[bH]at h1;exact⟨xs,h1,h2,fun g e=>zN (h3 g e)⟩
theorem qK.Ws{B:Nat}{v:Value}{n:Nat}{xs:List (jf×Value)}(h:w.ownsRow B 131 3 v n (gQ xs))(hs:∀y∈xs,Zo y)(hn:n<=1000000):qK w v (xs.map Zn):=by
 have hl:=h.1;rw[td]at hl;have GY:xs.length=n:=by omega
 have Ap:∀g cap,v=Z9 g n cap->∀i x,xs[i]?=some x->w.cell? ⟨g,i*3,none⟩=some (.bool x.1.deep)/\w.cell? ⟨g,i*3+1,none⟩=some (.string (bs x.1.test))/\w.cell? ⟨g,i*3+2,none⟩=some x.2:=fun g cap e i x hx=>by
  subst e;have qM:=(List.getElem?_eq_some_iff.1 hx).1;have f:=fun c (hc:c<3) u hu=>(h.cellAt (i*3+c) (by omega)).trans (j_ xs i x c u hx hu);exact⟨f 0 (by omega) _ rfl,f 1 (by omega) _ rfl,f 2 (by omega) _ rfl⟩
 rcases h.2 with⟨rfl,hz⟩|⟨g,cap,cur,rfl,hb,hg,vr,_,_,_⟩
 ·have:xs=[]:=aY (by omega);subst this;exact⟨none,0,rfl,⟨by simp,by simp⟩,fun i m hm=>by simp at hm⟩
 ·refine⟨some ⟨g,0,none⟩,cap,by simp[GY],⟨by simp;omega,by simp;omega⟩,fun i m hm=>?_⟩;rw[aH]at hm;obtain⟨x,hx,rfl⟩:=Option.map_eq_some_iff.1 hm;obtain⟨c0,c1,c2⟩:=Ap g cap rfl i x hx;obtain⟨pi,pn,pc,e⟩:=hs x (aO hx);exact⟨g,pi,pn,pc,rfl,eO hg,c0,c1,by rw[c2,e]⟩
theorem B9(v:Value)(n:Nat)(xs:List Value)(B cap:Nat)(hown:w.ownsRow B 131 3 v n xs):(Builtin.append_ #[91,91] 91 #[v,.slice none 0 cap]).run prog w=.ok v w:=by
 obtain⟨i0,hi,hz0,hz1,hz2⟩:=aZ B6;rcases hown.2 with⟨rfl,rfl⟩|⟨g,cap',cur,rfl,_,_,vr,_⟩
 ·simp[Builtin.append_,ed underlying91,sizeOf,typeInfo,hi,Builtin.lenOf,Builtin.firstCells]
 ·simp[Builtin.append_,ed underlying91,sizeOf,typeInfo,hi,Builtin.lenOf,Builtin.firstCells,vr,storeCells]
theorem S_{B:Nat}{v:Value}{n:Nat}{xs:List Value}{ai:Option Addr}{m cap:Nat}{ms:List Mk}(hown:w.ownsRow B 131 3 v n xs)(h:qK w (.slice ai m cap) ms)(hl:n+ms.length<=2000000)(hB:B<=w.heap.size):
  ∃v' w' ys,(Builtin.append_ #[91,91] 91 #[v,.slice ai m cap]).run prog w=.ok v' w'/\w'.ownsRow B 131 3 v' (n+m) (xs++gQ ys)/\ys.map Zn=ms/\(∀y∈ys,Zo y)/\w.grownBy w' v.ownBlock:=by
 obtain⟨i0,hi,hz0,hz1,hz2⟩:=aZ B6;obtain⟨rfl,h1,ys,h2,h3,h4⟩:=h.cells;have Wt:ys.length=ms.length:=by rw[<-h2];simp
 cases ai with
 |none=>
  have h0:ms=[]:=bJ fun hne=>by obtain⟨g,e⟩:=h1 hne;cases e
  subst h0;have:ys=[]:=aY (by simpa using Wt);subst this;exact⟨v,w,[],B9 v n xs B cap hown,by simpa [gQ]using hown,rfl,fun y hy=>by simp at hy,⟨rfl,rfl,rfl,aj _,fun _ _ _=>rfl⟩⟩
 |some ad=>
  have hcell:∀j u,(gQ ys)[j]?=some u->w.cell? (ad.add j)=some u:=fun j u hj=>by
   have hne:ms≠[]:=by
    rintro rfl;have:ys=[]:=aY (by simpa using Wt);subst this;simp[gQ]at hj
   obtain⟨g,e⟩:=h1 hne;cases e;have:=h4 g rfl j u hj;unfold Addr.add;split
   ·next h0=>rw[h0]at this;exact this
   ·simpa using this
  have h1c:∀u∈gQ ys,u.oneCell'=true:=by
   intro u hu;unfold gQ at hu;obtain⟨x,hx,hu⟩:=List.mem_flatMap.1 hu;obtain⟨pi,pn,pc,e⟩:=h3 x hx;rw[e]at hu;simp only[cM,cn,cS]at hu;rcases hu with rfl|rfl|rfl<;>rfl
  obtain⟨v',w',r,r1,r2,_⟩:=run_append_own (P:=prog) w B 91 91 131 i0 _ 3 48 underlying91 hi hz0 hz1 hz2 rfl (by decide) v n xs hown ad ms.length cap (gQ ys) (by rw[td,Wt]) hcell h1c (by unfold maxLen;omega) (by omega) hB;exact⟨v',w',ys,r,r1,h2,h3,r2⟩
theorem KW(n:Nat)(w:World)(hn:n<=2000000):Z4 178 #[.slice none 0 0,.int .i64 n] w fun e w'=>∃v,e=.returned v/\w'.ownsRow w.heap.size 131 3 v 0 []/\Z5 w w':=by
 obtain⟨i0,hi,hz0,hz1,hz2⟩:=aZ B6;have h1:decide ((n:Int)<0)=false:=by simp
 have Oe:¬((n:Int)<0):=by omega
 have hw1:IntKind.i64.wrap ((n:Int)-0)=(n:Int):=by rw[aI];omega
 by_cases h0:n=0
 ·subst h0;go_enter func178,ntmps178;go_wp2;go_ret;exact⟨_,rfl,bp _ _ _ _,Below.refl _ _⟩
 ·have h2:decide ((n:Int)>0)=true:=by simp;omega
  have JJ:(n:Int)>0:=by omega
  have abZ:(0:Int)<(n:Int):=by omega
  have hr:=Lib.run_append_grow_zeros (P:=prog) w 91 3 91 131 i0 _ .i64 .i64 underlying91 underlying3 hi hz0 none 0 0 [] (run_firstCells_none w.drew i0.size 0 0 0) n (by omega) (by rw[hz1];decide) (by omega) (by omega) (by rw[hz2];omega) (growslice_fits (by omega) (by rw[hz2];omega));simp only[ax]at hr;have hGn:n<=grownCap w n 0 131:=grownCap_ge w _ _ _;have Wu:grownCap w n 0 131<=maxLen:=grownCap_le_maxLen w n 0 131 (by unfold maxLen;omega);obtain⟨G,hG⟩:∃G,G=grownCap w n 0 131:=⟨_,rfl⟩
  rw[<-hG]at hr hGn Wu;have hown:(w.drew.alloc (.cells (([]:List Value).toArray++Builtin.zeroCells (Value.agg #[.bool false,.string ⟨#[]⟩,.slice none 0 0]).cells n++Builtin.zeroCells (Value.agg #[.bool false,.string ⟨#[]⟩,.slice none 0 0]).cells (G-n)) 131)).ownsRow w.heap.size 131 3 (.slice (some ⟨w.heap.size,0,none⟩) 0 G) 0 []:=by
   refine⟨rfl,Or.inr ⟨w.heap.size,G,_,rfl,aj _,bD w.drew _,aq _,Wu,?_,by simp⟩⟩;simp only[Array.size_append,eA,size_zeroCells,aF];show 0+n*3+(G-n)*3=G*3;omega
  have Zp:Z5 w (w.drew.alloc (.cells (([]:List Value).toArray++Builtin.zeroCells (Value.agg #[.bool false,.string ⟨#[]⟩,.slice none 0 0]).cells n++Builtin.zeroCells (Value.agg #[.bool false,.string ⟨#[]⟩,.slice none 0 0]).cells (G-n)) 131)):=(Below.drew (Below.refl w.heap.size w)).alloc (aj _) _;generalize (w.drew.alloc (.cells (([]:List Value).toArray++Builtin.zeroCells (Value.agg #[.bool false,.string ⟨#[]⟩,.slice none 0 0]).cells n++Builtin.zeroCells (Value.agg #[.bool false,.string ⟨#[]⟩,.slice none 0 0]).cells (G-n)) 131))=WN at*
  have HO:=a_ hown;have HB:=a_ Zp;unfold maxLen at Wu;clear hown Zp hG hGn;go_enter func178,ntmps178;go_wp2_with(at_builtin;refine Lib.wpList_append_run _ rfl _ _ _ _ rfl _ _ rfl rfl _ _ hr ?_);all_goals(go_ret;exact⟨_,rfl,HO.out,HB.out⟩)
end
section
variable{w w' w1 W:World}
def sA(a b:List Mk)(i:Nat):Nat:=if i=0 then 0 else if i=1 then a.length else a.length+b.length
def Ta(w:World)(a b:List Mk)(i:Nat)(v:Value)(wr:World):Prop:=(∃ai n cap,v=.slice ai n cap)/\(∃xs:List (jf×Value),xs.map Zn=(a++b).take (sA a b i)/\(∀y∈xs,Zo y)/\wr.ownsRow w.heap.size 131 3 v (sA a b i) (gQ xs))/\Z5 w wr
theorem eX{B:Nat}{e:TypeId}{s:Nat}{v:Value}{n:Nat}{xs:List Value}(h:w.ownsRow B e s v n xs):∃ai n' cap,v=.slice ai n' cap:=by rcases h.2 with⟨hv,_⟩|⟨g,cap,cur,hv,_⟩<;>exact⟨_,_,_,hv⟩
theorem Ta.step{a b:List Mk}{va vb:Value}{k i:Nat}{v:Value}{wr:World}(ha:qK w va a)(hb:qK w vb b)(c0:w.cell? ⟨k,0,none⟩=some va)(c1:w.cell? ⟨k,1,none⟩=some vb)(hk:k<w.heap.size)(hl:a.length+b.length<=1000000)(hi:i<2)(h:Ta w a b i v wr):
  ∃ai n cap v' w',wr.cell? ⟨k,i,none⟩=some (.slice ai n cap)/\(Builtin.append_ #[91,91] 91 #[v,.slice ai n cap]).run prog wr=.ok v' w'/\Ta w a b (i+1) v' w':=by
 obtain⟨-,⟨xs,h1,h2,h3⟩,hbl⟩:=h;have main:∀(u:Value) (ms:List Mk),qK w u ms->w.cell? ⟨k,i,none⟩=some u->sA a b (i+1)=sA a b i+ms.length->(a++b).take (sA a b (i+1))=(a++b).take (sA a b i)++ms->sA a b (i+1)<=2000000->∃ai n cap v' w',wr.cell? ⟨k,i,none⟩=some (.slice ai n cap)/\(Builtin.append_ #[91,91] 91 #[v,.slice ai n cap]).run prog wr=.ok v' w'/\Ta w a b (i+1) v' w':=by
  intro u ms hu hc hs ht hsz;obtain⟨ai,cap,rfl,hn,hr⟩:=id hu;obtain⟨v',w',ys,r,r1,r2,r3,r4⟩:=S_ h3 (hu.below (B:=0) hbl) (by omega) hbl.size;refine⟨ai,_,cap,v',w',(ag (hbl.block k hk)).trans hc,r,eX r1,⟨xs++ys,?_,?_,?_⟩,?_⟩
  ·rw[aR,h1,r2,ht]
  ·intro y hy;rcases List.mem_append.1 hy with hy|hy
   ·exact h2 y hy
   ·exact r3 y hy
  ·rw[hs];have e:gQ (xs++ys)=gQ xs++gQ ys:=by unfold gQ;rw[cr]
   rw[e];exact r1
  ·exact hbl.grown r4 hbl.size (fun j e=>(h3.lt j e).1)
 have zH:i=0\/i=1:=by omega
 rcases zH with rfl|rfl
 ·exact main va a ha c0 (by simp[sA]) (by simp[sA]) (by simp[sA];omega)
 ·refine main vb b hb c1 (by simp[sA]) ?_ (by simp[sA];omega);have e:sA a b (1+1)=(a++b).length:=by simp[sA]
  have e1:sA a b 1=a.length:=by simp[sA]
  rw[e,e1,bH];simp
theorem KX(a b:List Mk)(va vb:Value)(k:Nat)(w:World)(ha:qK w va a)(hb:qK w vb b)(c0:w.cell? ⟨k,0,none⟩=some va)(c1:w.cell? ⟨k,1,none⟩=some vb)(hk:k<w.heap.size)(hl:a.length+b.length<=1000000):Z4 131 #[Z9 k 2 2] w fun e w'=>∃ai n cap,e=.returned (.slice ai n cap)/\qK w' (.slice ai n cap) (a++b)/\Z5 w w'/\∀j,(Value.slice ai n cap).ownBlock=some j->w.heap.size<=j:=by
 have HR:Hid (∀i,i<2->∃ai n cap,w.cell? ⟨k,i,none⟩=some (.slice ai n cap)/\((sA a b i:Nat):Int)+(n:Int)=((sA a b (i+1):Nat):Int)/\sA a b (i+1)<=1000000):=fun i hi=>by
  have zH:i=0\/i=1:=by omega
  rcases zH with rfl|rfl
  ·obtain⟨ai,cap,rfl,hn,-⟩:=ha;exact⟨_,_,_,c0,by simp[sA],by simp[sA];omega⟩
  ·obtain⟨ai,cap,rfl,hn,-⟩:=hb;exact⟨_,_,_,c1,by simp[sA],by simp[sA];omega⟩
 have HS:Hid (∀wr i v,i<2->Ta w a b i v wr->∃ai n cap v' w',wr.cell? ⟨k,i,none⟩=some (.slice ai n cap)/\(Builtin.append_ #[91,91] 91 #[v,.slice ai n cap]).run prog wr=.ok v' w'/\Hid (Ta w a b (i+1) v' w')):=fun wr i v hi h=>by
  obtain⟨ai,n,cap,v',w',r0,r1,r2⟩:=h.step ha hb c0 c1 hk hl hi;exact⟨ai,n,cap,v',w',r0,r1,a_ r2⟩
 have HE:Hid (∀wr v,Ta w a b 2 v wr->qK wr v (a++b)/\Z5 w wr/\∀j,v.ownBlock=some j->w.heap.size<=j):=fun wr v h=>by
  obtain⟨-,⟨xs,h1,h2,h3⟩,hbl⟩:=h;have e:sA a b 2=(a++b).length:=by simp[sA]
  rw[e]at h1 h3;rw[bH]at h1;rw[<-h1];exact⟨qK.Ws h3 h2 (by rw[af];omega),hbl,fun j e=>(h3.lt j e).1⟩
 have hs2:sA a b 2<=1000000:=by simp[sA];omega
 have HG:=a_ (KW (sA a b 2) w (by omega));have HG0:Hid (∀v w',w'.ownsRow w.heap.size 131 3 v 0 []->Z5 w w'->Ta w a b 0 v w'):=fun v w' h1 h2=>⟨eX h1,⟨[],by simp[sA],fun y hy=>by simp at hy,by simpa [sA,gQ]using h1⟩,h2⟩
 have aaS:sA a b 0=0:=rfl;have ab0:decide (((sA a b 2:Nat):Int)<0)=false:=by simp
 clear ha hb c0 c1;generalize sA a b=sz at*
 go_enter func131,ntmps131;go_wp2_with fail;go_loopw [3,5,11,12,13,14,15,16,17,18,19,20,21,22] (fun u3 _ u11 _ _ _ _ _ _ _ _ _ _ _ wr=>∃i:Nat,u11=.int .i64 i/\i<=2/\u3=.int .i64 (sz i:Nat)/\wr=w) (fun _ _ u11 _ _ _ _ _ _ _ _ _ _ _ _=>2-(RowKit.intOf u11).toNat)
 case atStart=>exact⟨0,rfl,by omega,by rw[aaS];rfl,rfl⟩
 case round=>
  obtain⟨i,rfl,hi,rfl,Zq⟩:=hrel;have hwv:=Zq.symm;clear Zq;subst hwv;by_cases hlt:i<2
  ·obtain⟨ai,n,cap,cc,Zr,hle⟩:=HR.out i hlt;have hdec:decide ((i:Int)<2)=true:=by simp;omega
   have B8:(i:Int)<2:=by omega
   have hwr:IntKind.i64.wrap (((sz i:Nat):Int)+(n:Int))=((sz (i+1):Nat):Int):=by rw[Zr,aI];omega
   have zO:decide (((sz (i+1):Nat):Int)<0)=false:=by simp
   have abR:¬(((sz (i+1):Nat):Int)<0):=by omega
   clear HR HS HE HG HG0;go_wp2;exact⟨⟨i+1,by simp,by omega,by simp⟩,by simp only[RowKit.intOf];omega⟩
  ·have hdec:decide ((i:Int)<2)=false:=by simp;omega
   obtain rfl:i=2:=by omega
   clear HR;go_wp2_with(go_at_call 178;refine HG.out.mono ?_;rintro e w5 ⟨v5,rfl,r1,r2⟩;have H5:=a_ (HG0.out _ _ r1 r2);clear HG HG0 r1 r2);go_loopw [6,8,27,28,29,30,31,32,33,34] (fun u6 _ Wv _ _ _ _ _ _ _ wr=>∃i:Nat,Wv=.int .i64 i/\i<=2/\Hid (Ta w a b i u6 wr)) (fun _ _ Wv _ _ _ _ _ _ _ _=>2-(RowKit.intOf Wv).toNat)
   case atStart=>exact⟨0,rfl,by omega,H5⟩
   case round=>
    rename World=>WO
    obtain⟨i,rfl,hi,HM⟩:=hrel;by_cases hlt:i<2
    ·obtain⟨⟨a1,n1,c1,rfl⟩,-⟩:=id HM.out;obtain⟨ai,n,cap,v',w',cc,hr,H6⟩:=HS.out _ i _ hlt HM.out;have hdec:decide ((i:Int)<2)=true:=by simp;omega
     have B8:(i:Int)<2:=by omega
     clear HS HE HM H5;go_wp2_with(at_builtin;refine Lib.wpList_append_run _ rfl _ _ _ _ rfl _ _ rfl rfl _ _ hr ?_);exact⟨⟨i+1,by simp,by omega,H6⟩,by simp only[RowKit.intOf];omega⟩
    ·have hdec:decide ((i:Int)<2)=false:=by simp;omega
     obtain rfl:i=2:=by omega
     obtain⟨⟨a1,n1,c1,rfl⟩,-⟩:=id HM.out;obtain⟨h7,h8⟩:=HE.out _ _ HM.out;have H7:=a_ h7;have H8:=a_ h8;clear HS HE HM H5 h7 h8;go_wp2;go_ret;exact⟨_,_,_,rfl,H7.out,H8.out⟩
theorem Tb(a b:List Mk)(va vb:Value)(w:World)(ha:qK w va a)(hb:qK w vb b)(hl:a.length+b.length<=1000000)(m:Nat):Z4 131 #[.slice (some ⟨w.heap.size,0,none⟩) 2 2] ((w.alloc (.cells #[va,vb] 91)).drewN m) fun e w'=>∃ai n cap,e=.returned (.slice ai n cap)/\qK w' (.slice ai n cap) (a++b)/\Z5 w w'/\∀j,(Value.slice ai n cap).ownBlock=some j->w.heap.size<=j:=by
 have hB:=eL w (.cells #[va,vb] 91);have hb0:=kP ((Below.refl w.heap.size w).alloc (aj _) (.cells #[va,vb] 91)) m;refine(KX a b va vb w.heap.size ((w.alloc (.cells #[va,vb] 91)).drewN m) (ha.below (B:=0) hb0) (hb.below (B:=0) hb0) (cell_of (w:=w.alloc (.cells #[va,vb] 91)) hB rfl) (cell_of (w:=w.alloc (.cells #[va,vb] 91)) hB rfl) (eO hB) hl).mono ?_;rintro e w' ⟨ai,n,cap,h1,h2,h3,h4⟩;exact⟨ai,n,cap,h1,h2,hb0.trans (gA h3 hb0.size),fun j e=>aw hb0.size (h4 j e)⟩
end
section
variable{w w' w1 w2 WO wr W:World}{A A':Nat->Prop}{tS tP tS' tP':TypeId}{v v' va vb:Value}
def fF.get:fF->Nat->Option jf
 | .nil,_=>none
 | .cons d t p _,0=>some ⟨d,t,p⟩
 | .cons _ _ _ m,i+1=>m.get i
def gD.get:gD->Nat->Option kM
 | .nil,_=>none
 | .cons o k s a t _,0=>some ⟨o,k,s,a,t⟩
 | .cons _ _ _ _ _ m,i+1=>m.get i
theorem fF.x5:∀(s:fF) (i:Nat),i<s.len->∃x,s.get i=some x
 | .nil,i,h=>by simp[fF.len]at h
 | .cons d t p m,0,h=>⟨_,rfl⟩
 | .cons d t p m,i+1,h=>fF.x5 m i (by simp[fF.len]at h;omega)
theorem gD.x5:∀(s:gD) (i:Nat),i<s.len->∃x,s.get i=some x
 | .nil,i,h=>by simp[gD.len]at h
 | .cons o k s a t m,0,h=>⟨_,rfl⟩
 | .cons o k s a t m,i+1,h=>gD.x5 m i (by simp[gD.len]at h;omega)
theorem pd.at{g:Nat}:∀(s:fF) (k i:Nat) (x:jf),pd w A tS tP g k s->s.get i=some x->w.cell? ⟨g,(k+i)*3,none⟩=some (.bool x.deep)/\w.cell? ⟨g,(k+i)*3+1,none⟩=some (.string (bs x.test))/\∃v,w.cell? ⟨g,(k+i)*3+2,none⟩=some v/\qG w A tS tP v x.iZ
 | .nil,k,i,x,h,hg=>by simp[fF.get]at hg
 | .cons d t p m,k,0,x,h,hg=>by
  simp only[fF.get,aX]at hg;subst hg;simp only[pd]at h;exact⟨h.1,h.2.1,h.2.2.1⟩
 | .cons d t p m,k,i+1,x,h,hg=>by
  simp only[pd]at h;have:=pd.at m (k+1) i x h.2.2.2 hg;rw[show k+1+i=k+(i+1) by omega]at this;exact this
theorem oq.at{g:Nat}:∀(s:gD) (k i:Nat) (x:kM),oq w A tS tP g k s->s.get i=some x->w.cell? ⟨g,(k+i)*5,none⟩=some (.string (bs x.op))/\(∃v,w.cell? ⟨g,(k+i)*5+1,none⟩=some v/\qG w A tS tP v x.kids)/\(∃v,w.cell? ⟨g,(k+i)*5+2,none⟩=some v/\pH w A tS tP v x.steps)/\w.cell? ⟨g,(k+i)*5+3,none⟩=some (.string (bs x.attr))/\w.cell? ⟨g,(k+i)*5+4,none⟩=some (.string (bs x.text))
 | .nil,k,i,x,h,hg=>by simp[gD.get]at hg
 | .cons o ks ss a t m,k,0,x,h,hg=>by
  simp only[gD.get,aX]at hg;subst hg;simp only[oq]at h;exact⟨h.1,h.2.1,h.2.2.1,h.2.2.2.1,h.2.2.2.2.1⟩
 | .cons o ks ss a t m,k,i+1,x,h,hg=>by
  simp only[oq]at h;have:=oq.at m (k+1) i x h.2.2.2.2.2 hg;rw[show k+1+i=k+(i+1) by omega]at this;exact this
theorem pH.len{s:fF}(h:pH w A tS tP v s):∃ai cap,v=.slice ai s.len cap/\s.len<=1000:=by
 rcases h with⟨h,rfl⟩|⟨g,cap,cur,rfl,_,_,hn,_⟩
 ·exact⟨_,_,by rw[h],by omega⟩
 ·exact⟨_,_,rfl,hn⟩
theorem qG.len{s:gD}(h:qG w A tS tP v s):∃ai cap,v=.slice ai s.len cap/\s.len<=1000:=by
 rcases h with⟨h,rfl⟩|⟨g,cap,cur,rfl,_,_,hn,_⟩
 ·exact⟨_,_,by rw[h],by omega⟩
 ·exact⟨_,_,rfl,hn⟩
theorem pH.at{s:fF}{ai:Option Addr}{n cap i:Nat}{x:jf}(h:pH w A tS tP (.slice ai n cap) s)(hx:s.get i=some x):∃g,ai=some ⟨g,0,none⟩/\A g/\(∃cur,w.heap[g]?=some (.cells cur tS (0,0)))/\w.cell? ⟨g,i*3,none⟩=some (.bool x.deep)/\w.cell? ⟨g,i*3+1,none⟩=some (.string (bs x.test))/\∃v,w.cell? ⟨g,i*3+2,none⟩=some v/\qG w A tS tP v x.iZ:=by
 rcases h with⟨h,_⟩|⟨g,cap',cur,e,ha,hb,hn,h0,hr⟩
 ·exfalso;cases s with
  |nil=>simp[fF.get]at hx
  |cons d t p m=>simp[fF.len]at h
 ·cases e;have:=pd.at s 0 i x hr hx;rw[ax]at this;exact⟨g,rfl,ha,⟨cur,hb⟩,this⟩
theorem qG.at{s:gD}{ai:Option Addr}{n cap i:Nat}{x:kM}(h:qG w A tS tP (.slice ai n cap) s)(hx:s.get i=some x):∃g,ai=some ⟨g,0,none⟩/\A g/\(∃cur,w.heap[g]?=some (.cells cur tP (0,0)))/\w.cell? ⟨g,i*5,none⟩=some (.string (bs x.op))/\(∃v,w.cell? ⟨g,i*5+1,none⟩=some v/\qG w A tS tP v x.kids)/\(∃v,w.cell? ⟨g,i*5+2,none⟩=some v/\pH w A tS tP v x.steps)/\w.cell? ⟨g,i*5+3,none⟩=some (.string (bs x.attr))/\w.cell? ⟨g,i*5+4,none⟩=some (.string (bs x.text)):=by
 rcases h with⟨h,_⟩|⟨g,cap',cur,e,ha,hb,hn,h0,hr⟩
 ·exfalso;cases s with
  |nil=>simp[gD.get]at hx
  |cons o k s a t m=>simp[gD.len]at h
 ·cases e;have:=oq.at s 0 i x hr hx;rw[ax]at this;exact⟨g,rfl,ha,⟨cur,hb⟩,this⟩
theorem pH.drew{s:fF}(h:pH w A tS tP v s)(n:Nat):pH (w.drewN n) A tS tP v s:=by
 have hm:Move A A w (w.drewN n):=fun b hb hl=>⟨hb,rfl⟩
 exact h.move hm
theorem qG.drew{s:gD}(h:qG w A tS tP v s)(n:Nat):qG (w.drewN n) A tS tP v s:=by
 have hm:Move A A w (w.drewN n):=fun b hb hl=>⟨hb,rfl⟩
 exact h.move hm
def gD.dp:gD->Nat->gD
 |p,0=>p
 | .nil,_+1=> .nil
 | .cons _ _ _ _ _ m,i+1=>m.dp i
def fF.dp:fF->Nat->fF
 |p,0=>p
 | .nil,_+1=> .nil
 | .cons _ _ _ m,i+1=>m.dp i
theorem gD.JL(p:gD):p.dp 0=p:=by cases p<;>rfl
theorem fF.JL(p:fF):p.dp 0=p:=by cases p<;>rfl
theorem gD.B_:∀(p:gD) (i:Nat) (x:kM),p.get i=some x->p.dp i=.cons x.op x.kids x.steps x.attr x.text (p.dp (i+1))
 | .nil,i,x,h=>by simp[gD.get]at h
 | .cons o k s a t m,0,x,h=>by simp only[gD.get,aX]at h;subst h;simp[gD.dp]
 | .cons o k s a t m,i+1,x,h=>by simp only[gD.dp];exact gD.B_ m i x h
theorem fF.B_:∀(p:fF) (i:Nat) (x:jf),p.get i=some x->p.dp i=.cons x.deep x.test x.iZ (p.dp (i+1))
 | .nil,i,x,h=>by simp[fF.get]at h
 | .cons d t q m,0,x,h=>by simp only[fF.get,aX]at h;subst h;simp[fF.dp]
 | .cons d t q m,i+1,x,h=>by simp only[fF.dp];exact fF.B_ m i x h
theorem gD.Ca:∀(p:gD),p.dp p.len=.nil
 | .nil=>rfl
 | .cons o k s a t m=>by simp only[gD.len,gD.dp];exact gD.Ca m
theorem fF.Ca:∀(p:fF),p.dp p.len=.nil
 | .nil=>rfl
 | .cons d t q m=>by simp only[fF.len,fF.dp];exact fF.Ca m
def Vm(o:L):Prop:=o=[111,114]\/o=[97,110,100]\/o=[110,111,116]
instance (o:L):Decidable (Vm o):=by unfold Vm;infer_instance
theorem nz:∀s:fF,(gF s).length=s.len
 | .nil=>rfl
 | .cons d t p m=>by simp only[gF,fF.len,au,nz m]
theorem vI:∀(s:fF) (i:Nat) (x:jf),s.get i=some x->(gF s)[i]?=some (x.deep,x.test)
 | .nil,i,x,h=>by simp[fF.get]at h
 | .cons d t p m,0,x,h=>by simp only[fF.get,aX]at h;subst h;rfl
 | .cons d t p m,i+1,x,h=>by simp only[gF,cE];exact vI m i x h
theorem GZ{s:fF}{i:Nat}{x:jf}(h:s.get i=some x):(gF s).take (i+1)=(gF s).take i++[(x.deep,x.test)]:=by
 obtain⟨hl,e⟩:=List.getElem?_eq_some_iff.1 (vI s i x h);rw[bw hl,e]
def qd(ahead:List Mk)(s:fF)(i:Nat):List Np:=nN (ahead++(gF s).take i) (s.dp i)
theorem G0(ahead:List Mk)(s:fF):qd ahead s 0=nN ahead s:=by unfold qd;rw[fF.JL,dJ,aM]
theorem KY{ahead:List Mk}{s:fF}{i:Nat}{x:jf}(h:s.get i=some x):qd ahead s i=xW (ahead++(gF s).take (i+1)) x.iZ++qd ahead s (i+1):=by
 unfold qd;rw[s.B_ i x h,nN,GZ h,bt]
theorem KZ(ahead:List Mk)(s:fF):qd ahead s s.len=[]:=by unfold qd;rw[fF.Ca,nN]
theorem G1(m:Mk):1<=(oP m).length:=by unfold oP;split<;>simp<;>omega
theorem K0(a b:List Mk):(gL (a++b)).length=(gL a).length+(gL b).length:=by unfold gL;rw[cr,af]
theorem vJ(a:List Mk):a.length<=(gL a).length:=by
 induction a with
 |nil=>simp
 |cons m a ih=>
  have e:gL (m::a)=oP m++gL a:=by unfold gL;rw[bU]
  have:=G1 m;rw[e,af,au];omega
mutual
def lS:fF->Nat
 | .nil=>0
 | .cons d t p m=>(oP (d,t)).length+lP p+lS m
def lP:gD->Nat
 | .nil=>0
 | .cons o k s _ _ m=>lP k+lS s+lP m
end
theorem wA:∀s:fF,(gL (gF s)).length<=lS s
 | .nil=>by simp[gF,gL]
 | .cons d t p m=>by
  have e:gL (gF (.cons d t p m))=oP (d,t)++gL (gF m):=by unfold gL;rw[gF,bU]
  have:=wA m;rw[e,af,lS];omega
theorem pH.mkr{ai:Option Addr}{n cap:Nat}{s:fF}(h:pH w A 131 230 (.slice ai n cap) s){i:Nat}(hi:i<=s.len):qK w (.slice ai i cap) ((gF s).take i):=by
 have hn:n=s.len/\s.len<=1000/\s.len<=cap:=by
  rcases h with⟨h,e⟩|⟨g,c,cur,e,_,_,hn,h0,_⟩
  ·cases e;exact⟨h.symm,by omega,by omega⟩
  ·cases e;exact⟨rfl,hn,h0.2⟩
 refine⟨ai,cap,by rw[bM,nz];congr;omega,⟨by rw[bM,nz];omega,by rw[bM,nz];omega⟩,fun j m hm=>?_⟩;rw[bW]at hm;split at hm
 ·next hj=>
  obtain⟨x,hx⟩:=s.x5 j (by omega);rw[vI s j x hx]at hm;cases hm;obtain⟨g,e,_,⟨cur,hb⟩,a0,a1,u,a2,hp⟩:=h.at hx;obtain⟨pi,pc,rfl,_⟩:=hp.len;exact⟨g,pi,_,pc,e,eO hb,a0,a1,a2⟩
 ·simp at hm
end
section
variable{w w' w1 w2 WO wr W W0:World}
abbrev Inv:=(Nat->Prop)->List Np->World->Prop
structure wC(I:Inv):Prop where
 below:∀F acc W W',I F acc W->Z5 W W'->I F acc W'
 lt:∀F acc W k,I F acc W->F k->k<W.heap.size
def x9:Nat:=2200000000
def nO(I:Inv)(F:Nat->Prop)(acc:List Np)(W:World)(e:Ending)(w':World):Prop:=e=.returned (.tuple #[])/\∃F',I F' acc w'/\Fr F W w'/\∀k,F' k->F k\/W.heap.size<=k
structure Ot(I:Inv)(F:Nat->Prop)(acc:List Np)(W:World)(v:Value)(ms:List Mk):Prop where
 inv:I F acc W
 row:qK W v ms
 apart:∀k,v.ownBlock=some k->¬F k
 ne:ms≠[]
 len:(gL ms).length<=1000
 acc:acc.length<x9
def Vn(fv:Value)(I:Inv):Prop:=∃p,fv=.func (.func 48) #[p] #[]/\∀F acc W v ms wh,Ot I F acc W v ms->Z4 48 #[p,v,.bool wh] W (nO I F (acc++[(ms,wh)]) W)
def mo(I:Inv)(F:Nat->Prop)(rG:List Np)(W0 wr:World)(rest:List Np):Prop:=∃F' oT,I F' oT wr/\Fr F W0 wr/\(∀k,F' k->F k\/W0.heap.size<=k)/\oT++rest=rG
variable{I:Inv}{F:Nat->Prop}{rG rest t acc:List Np}
theorem mo.start(h:I F acc W):mo I F (acc++t) W W t:=⟨F,acc,h,Fr.refl _ _,fun k h=>Or.inl h,rfl⟩
theorem mo.below(hI:wC I)(h:mo I F rG W0 wr rest)(hb:Z5 wr w'):mo I F rG W0 w' rest:=by
 obtain⟨F',oT,h1,h2,h3,h4⟩:=h;exact⟨F',oT,hI.below _ _ _ _ h1 hb,h2.on hb,h3,h4⟩
theorem mo.part{f:FuncId}{args:Array Value}(hI:wC I)(h:mo I F rG W0 wr (t++rest))(hb:Z5 wr W)(hc:∀F' oT,I F' oT W->(∀k,F' k->k<wr.heap.size)->(∀k,F' k->F k\/W0.heap.size<=k)->oT++(t++rest)=rG->Z4 f args W (nO I F' (oT++t) W)):
  Z4 f args W fun e w'=>e=.returned (.tuple #[])/\Hid (mo I F rG W0 w' rest)/\∀k,wr.heap.size<=k->k<W.heap.size->w'.heap[k]?=W.heap[k]?:=by
 obtain⟨F',oT,h1,h2,h3,h4⟩:=h;have JJ:=h2.on hb;refine(hc F' oT (hI.below _ _ _ _ h1 hb) (fun k hk=>hI.lt _ _ _ k h1 hk) h3 h4).mono ?_;rintro e w' ⟨h,F2,k1,k2,k3⟩;refine⟨h,a_ ⟨F2,oT++t,k1,JJ.trans k2 fun i hi hf=>?_,fun k hk=>?_,by rw[bt];exact h4⟩,fun k hk hl=>k2.block k hl fun hF=>by have:=hI.lt _ _ _ k h1 hF;omega⟩
 ·rcases h3 i hf with h|h
  ·exact h
  ·omega
 ·rcases k3 k hk with h|h
  ·exact h3 k h
  ·have:=JJ.size;exact Or.inr (by omega)
theorem mo.fin(h:mo I F rG W wr []):nO I F rG W (.returned (.tuple #[])) wr:=by
 obtain⟨F',oT,h1,h2,h3,h4⟩:=h;rw[aM]at h4;subst h4;exact⟨rfl,F',h1,h2,h3⟩
theorem mo.fr(h:mo I F rG W0 wr rest):Fr F W0 wr:=by obtain⟨_,_,_,h,_⟩:=h;exact h
theorem mo.len(h:mo I F rG W0 wr (t++rest))(hT:rG.length<=x9){oT:List Np}(e:oT++(t++rest)=rG):(oT++t).length<=x9:=by
 have:=aA List.length e;simp only[af]at this ⊢;omega
def aaT(I:Inv)(fv:Value)(s:fF):Prop:=∀F acc W ahead va vi vn vc wh,I F acc W->qK W va ahead->(∀k,va.ownBlock=some k->¬F k)->pH W (fun k=>¬F k) 131 230 (.slice vi vn vc) s->(ahead≠[]\/s.len≠0)->(gL ahead).length+lS s<=1000->(acc++(nN ahead s++[uq (ahead++gF s) wh])).length<=x9->
 Z4 88 #[fv,va,.slice vi vn vc,.bool wh] W (nO I F (acc++(nN ahead s++[uq (ahead++gF s) wh])) W)
theorem Fr.pH{s:fF}{v:Value}(h:Fr F W0 wr)(hs:pH W0 (fun k=>¬F k) 131 230 v s):pH wr (fun k=>k<W0.heap.size/\¬F k) 131 230 v s:=hs.move fun b hb hl=>⟨⟨hl,hb⟩,h.block b hl hb⟩
theorem Fr.qG{s:gD}{v:Value}(h:Fr F W0 wr)(hs:qG W0 (fun k=>¬F k) 131 230 v s):qG wr (fun k=>k<W0.heap.size/\¬F k) 131 230 v s:=hs.move fun b hb hl=>⟨⟨hl,hb⟩,h.block b hl hb⟩
theorem pH.on{s:fF}{v:Value}{A A':Nat->Prop}(hs:pH w A 131 230 v s)(hb:Z5 w w')(hA:∀k,A k->A' k):pH w' A' 131 230 v s:=hs.move fun b hb' hl=>⟨hA b hb',hb.block b hl⟩
theorem qG.on{s:gD}{v:Value}{A A':Nat->Prop}(hs:qG w A 131 230 v s)(hb:Z5 w w')(hA:∀k,A k->A' k):qG w' A' 131 230 v s:=hs.move fun b hb' hl=>⟨hA b hb',hb.block b hl⟩
theorem qK.fr{v:Value}{ms:List Mk}(h:qK W0 v ms)(hf:Fr F W0 wr)(ha:∀k,v.ownBlock=some k->¬F k):qK wr v ms:=by
 obtain⟨ai,cap,rfl,hn,hr⟩:=h;refine⟨ai,cap,rfl,hn,fun i m hm=>?_⟩;obtain⟨g,pi,pn,pc,e,hg,h0,h1,h2⟩:=hr i m hm;subst e;have hb:=hf.block g hg (ha g rfl);have up:∀j u,W0.cell? ⟨g,j,none⟩=some u->wr.cell? ⟨g,j,none⟩=some u:=fun j u hj=>(ag hb).trans hj;exact⟨g,pi,pn,pc,rfl,ah hg hf.size,up _ _ h0,up _ _ h1,up _ _ h2⟩
theorem Tc{ms:List Mk}{m:Mk}(h:ms.getLast?=some m)(wh:Bool):uq ms wh=(ms,wh&&(m.2 !=[35])):=by unfold uq;rw[h]
end
section
variable{w w' w1 w2 WO wr W W0:World}{I:Inv}{F:Nat->Prop}{rG rest t acc:List Np}{fv:Value}
def Cb(I:Inv)(F:Nat->Prop)(rG:List Np)(W0:World)(fv v:Value)(b:Bool)(w:World):Prop:=∃p,fv=.func (.func 48) #[p] #[]/\Z4 48 #[p,v,.bool b] w fun e w'=>e=.returned (.tuple #[])/\nO I F rG W0 e w'
theorem Cb.a{p v:Value}{b:Bool}(h:Cb I F rG W0 (.func (.func 48) #[p] #[]) v b w):Z4 48 #[p,v,.bool b] w fun e w'=>e=.returned (.tuple #[])/\nO I F rG W0 e w':=by
 obtain⟨p',e,h⟩:=h;cases e;exact h
theorem Vn.val(h:Vn fv I):∃p,fv=.func (.func 48) #[p] #[]:=⟨_,h.choose_spec.1⟩
theorem K3{va:Value}{ahead:List Mk}{vn vc:Nat}{vi:Option Addr}{s:fF}{wh:Bool}(hI:wC I)(NE:Vn fv I)(hT:rG.length<=x9)(hm:qK W0 va ahead)(hap:∀k,va.ownBlock=some k->¬F k)(hs:pH W0 (fun k=>¬F k) 131 230 (.slice vi vn vc) s)(hne:ahead≠[]\/s.len≠0)(hlen:(gL ahead).length+lS s<=1000)(M:mo I F rG W0 wr [uq (ahead++gF s) wh]):
  Z4 131 #[.slice (some ⟨wr.heap.size,0,none⟩) 2 2] (wr.alloc (.cells #[va,.slice vi vn vc] 91)) fun e w'=>∃g n cap X b,e=.returned (Z9 g (n+1) cap)/\(n<=1000/\(n:Int)<(n:Int)+1/\IntKind.i64.wrap ((n:Int)+1-1)=(n:Int))/\w'.cell? ⟨g,n*3+1,none⟩=some (.string X)/\(X.toList==[35])=b/\Hid (Cb I F rG W0 fv (Z9 g (n+1) cap) (wh&&!b) w'):=by
 have Td:=M.fr;have Vo:vn=s.len:=by obtain⟨_,_,e,_⟩:=hs.len;cases e;rfl
 have hsW:=(Td.pH hs).mkr (i:=s.len) (aj _);rw[bQ (by rw[nz];exact aj _),<-Vo]at hsW;have Ou:=wA s;have hba:=K0 ahead (gF s);have NF:=vJ (ahead++gF s);have hla:(ahead++gF s).length<=1000:=by omega
 have zP:ahead++gF s≠[]:=by
  intro h0;have:=aA List.length h0;rw[af,nz]at this;simp only[aF]at this;rcases hne with h|h
  ·exact h (aY (by omega))
  ·omega
 refine(Tb _ _ _ _ wr (hm.fr Td hap) hsW (by rw[af]at hla;omega) 0).mono ?_;rintro e w' ⟨ai,n,cap,rfl,h2,h3,h4⟩;generalize hall:ahead++gF s=all at*
 obtain⟨n',YE⟩:∃n',all.length=n'+1:=⟨all.length-1,by have:=List.length_pos_iff.2 zP;omega⟩
 have hh:=h2;obtain⟨ai',cap',e,hn,hr⟩:=h2;cases e;have Gj:all[n']?=some all[n']:=ap (by omega);obtain⟨g,pi,pn,pc,rfl,hg,a0,a1,a2⟩:=hr n' _ Gj;have wD:all.getLast?=some all[n']:=by rw[List.getLast?_eq_getElem?,show all.length-1=n' by omega];exact Gj
 rw[Tc wD]at M;generalize all[n']=m at*
 rw[YE]at hh ⊢;have hmb:(m.2 !=[35])=!((bs m.2).toList==[35]):=by rw[gP];rfl
 rw[hmb]at M;obtain⟨F',oT,k1,k2,k3,k4⟩:=M;have li:=hI.below _ _ _ _ k1 h3;have pre:Ot I F' oT w' (Z9 g (n'+1) cap) all:=⟨li,hh,fun k e hF=>by
   have h5:=h4 k e;have h6:=hI.lt _ _ _ k k1 hF;omega,zP,by omega,by
   have:=aA List.length k4;rw[af,bc]at this;omega⟩
 have post:∀(e:Ending) (w2:World),nO I F' (oT++[(all,wh&&!((bs m.2).toList==[35]))]) w' e w2->e=.returned (.tuple #[])/\nO I F rG W0 e w2:=fun e w2 ⟨p1,F2,p2,p3,p4⟩=>by
  refine⟨p1,p1,F2,by rw[<-k4];exact p2,(k2.on h3).trans p3 fun i hi hf=>?_,fun k hk=>?_⟩
  ·rcases k3 i hf with h|h
   ·exact h
   ·omega
  ·rcases p4 k hk with h|h
   ·exact k3 k h
   ·have:=(k2.on h3).size;exact Or.inr (by omega)
 refine⟨g,n',cap,bs m.2,_,rfl,⟨by omega,by omega,by rw[aI];omega⟩,a1,rfl,a_ ?_⟩;obtain⟨p,rfl,hc⟩:=NE;exact⟨p,rfl,(hc F' oT w' _ all _ pre).mono post⟩
end
section
variable{w w' w1 w2 WO wr W W0:World}{I:Inv}{F:Nat->Prop}{rG rest t acc:List Np}{fv:Value}
theorem Ov(hI:wC I)(NE:Vn fv I)(s:fF)(hc:∀i x,s.get i=some x->x.iZ=.nil):aaT I fv s:=by
 intro F acc W ahead va vi vn vc wh h0 hm hap hs hne hlen hN;have Vo:vn=s.len/\s.len<=1000/\s.len<=vc:=by
  rcases hs with⟨h,e⟩|⟨g,c,cur,e,_,_,hn,h0,_⟩
  ·cases e;exact⟨h.symm,by omega,by omega⟩
  ·cases e;exact⟨rfl,hn,h0.2⟩
 obtain⟨Vo,hv1,hv2⟩:=Vo;have M0:Hid (mo I F (acc++(nN ahead s++[uq (ahead++gF s) wh])) W W (qd ahead s 0++[uq (ahead++gF s) wh])):=a_ (by rw[G0];exact mo.start h0);generalize hTO:acc++(nN ahead s++[uq (ahead++gF s) wh])=rG at*
 have mY:Hid (∀wr,mo I F rG W wr (qd ahead s s.len++[uq (ahead++gF s) wh])->Z4 131 #[.slice (some ⟨wr.heap.size,0,none⟩) 2 2] (wr.alloc (.cells #[va,.slice vi vn vc] 91)) fun e w'=>∃g n cap X b,e=.returned (Z9 g (n+1) cap)/\(n<=1000/\(n:Int)<(n:Int)+1/\IntKind.i64.wrap ((n:Int)+1-1)=(n:Int))/\w'.cell? ⟨g,n*3+1,none⟩=some (.string X)/\(X.toList==[35])=b/\Hid (Cb I F rG W fv (Z9 g (n+1) cap) (wh&&!b) w')):=fun wr M=>by
  rw[KZ,bV]at M;exact K3 hI NE hN hm hap hs hne hlen M
 have HR:Hid (∀wr i,i<s.len->mo I F rG W wr (qd ahead s i++[uq (ahead++gF s) wh])->∃g d X pi pc,vi=some ⟨g,0,none⟩/\(wr.cell? ⟨g,i*3,none⟩=some (.bool d)/\wr.cell? ⟨g,i*3+1,none⟩=some (.string X)/\wr.cell? ⟨g,i*3+2,none⟩=some (.slice pi 0 pc))/\(wr.alloc (.cells (aS d X (.slice pi 0 pc)) 131)).cell? ⟨wr.heap.size,2,none⟩=some (.slice pi 0 pc)/\Hid (mo I F rG W (wr.alloc (.cells (aS d X (.slice pi 0 pc)) 131)) (qd ahead s (i+1)++[uq (ahead++gF s) wh]))):=a_ fun wr i hi M=>by
  obtain⟨x,hx⟩:=s.x5 i hi;have Td:=M.fr;obtain⟨g,e1,hgF,⟨cur,hgb⟩,a0,a1,u,a2,hp⟩:=hs.at hx;rw[hc i x hx]at hp;obtain⟨pi,pc,rfl,hpn⟩:=hp.len;have up:∀j u,W.cell? ⟨g,j,none⟩=some u->wr.cell? ⟨g,j,none⟩=some u:=fun j u hj=>(ag (Td.block g (eO hgb) hgF)).trans hj;have hB:=eL wr (.cells (aS x.deep (bs x.test) (.slice pi 0 pc)) 131);have hb0:=(Below.refl wr.heap.size wr).alloc (aj _) (.cells (aS x.deep (bs x.test) (.slice pi 0 pc)) 131);refine⟨g,_,_,pi,pc,e1,⟨up _ _ a0,up _ _ a1,up _ _ a2⟩,(vH hB).2.2,a_ ?_⟩;rw[KY hx,hc i x hx,xW,bV]at M;exact M.below hI hb0
 obtain⟨ai,cap,rfl,hn,-⟩:=hm;obtain⟨RN,Ow⟩:∃RN:Nat->World->Prop,∀i wr,RN i wr=mo I F rG W wr (qd ahead s i++[uq (ahead++gF s) wh]):=⟨_,fun _ _=>rfl⟩
 simp only[<-Ow]at M0 mY HR;rw[<-Vo]at mY HR hv1 hv2;have HV:=a_ NE.val;clear Ow h0 hap hs hne hlen hN hTO Vo hc hI NE hn;go_enter func88,ntmps88;go_wp2_with fail;go_loopw [8,9,11,15,16,17,18,19,20,21,22,23,24,25,26,27,28,29,30,31,32,33,34,35,36,37,38] (fun _ _ _ u15 _ _ _ _ _ _ _ _ _ _ _ _ _ _ _ _ _ _ _ _ _ _ _ wr=>∃i:Nat,u15=.int .i64 i/\i<=vn/\Hid (RN i wr)) (fun _ _ _ u15 _ _ _ _ _ _ _ _ _ _ _ _ _ _ _ _ _ _ _ _ _ _ _ _=>vn-(RowKit.intOf u15).toNat)
 case atStart=>exact⟨0,rfl,aq _,M0⟩
 case round=>
  rename World=>WO
  obtain⟨i,rfl,hi,HM⟩:=hrel;by_cases hlt:i<vn
  ·obtain⟨g,d,X,pi,pc,rfl,⟨a0,a1,a2⟩,c2,HE⟩:=HR.out _ i hlt HM.out;have hdec:decide ((i:Int)<vn)=true:=by simp;omega
   have B8:(i:Int)<vn:=by omega
   clear HR mY HM M0;go_wp2_with fail;clear a0 a1 a2 c2;generalize (WO.alloc (.cells (aS d X (.slice pi 0 pc)) 131))=W1 at*
   go_loopw [11,23,24,25,26,27,28,29,30,31,32,33,34,35,36,37] (fun _ u23 _ _ _ _ _ _ _ _ _ _ _ _ _ _ wr=>u23=.int .i64 0/\wr=W1) (fun _ u23 _ _ _ _ _ _ _ _ _ _ _ _ _ _ _=>0)
   case atStart=>exact⟨rfl,rfl⟩
   case round=>
    obtain⟨rfl,rfl⟩:=hrel;go_wp2;exact⟨⟨i+1,by simp,by omega,HE⟩,by simp only[RowKit.intOf];omega⟩
  ·have hdec:decide ((i:Int)<vn)=false:=by simp;omega
   obtain rfl:i=vn:=by omega
   have HE:=a_ (mY.out _ HM.out);clear HR mY HM M0;obtain⟨p,rfl⟩:=HV.out;cases wh with
   |false=>
    go_wp2_with(first|(go_at_call 131;refine HE.out.mono ?_;rintro e w6 ⟨g6,n6,aaU,X6,b6,rfl,⟨hn6,hn7,hn8⟩,d3,Y8,h6⟩;clear HE)|(go_at_call 48;refine h6.out.a.mono ?_;rintro e w7 ⟨rfl,h7⟩))
    go_end0
    exact h7
   |true=>
    go_wp2_with(first|(go_at_call 131;refine HE.out.mono ?_;rintro e w6 ⟨g6,n6,aaU,X6,b6,rfl,⟨hn6,hn7,hn8⟩,d3,Y8,h6⟩;clear HE hn7)|(go_at_call 48;refine h6.out.a.mono ?_;rintro e w7 ⟨rfl,h7⟩))
    go_end0
    exact h7
end
section
variable{w w' w1 w2 WO wr W W0:World}{I:Inv}{F:Nat->Prop}{rG rest t acc:List Np}{fv:Value}
def QOK(q:L):Prop:=(91:UInt8)∉q/\∃ls,parse q=.ok ls/\(p_ ls).length<=1001/\∀p∈ls,p≠[]/\lS (fF.of p)<=1000/\∀x∈p,x.iZ=.nil
theorem Ox:∀(p:List jf) (i:Nat) (x:jf),(fF.of p).get i=some x->x∈p
 |[],i,x,h=>by cases h
 |s::p,0,x,h=>by cases h;exact bO
 |s::p,i+1,x,h=>bP _ (Ox p i x h)
def G2(I:Inv)(F:Nat->Prop)(acc:List Np)(W0:World)(qs:List L)(i:Nat)(wr:World):Prop:=∃F' pre,I F' (acc++pre) wr/\Fr F W0 wr/\(∀k,F' k->F k\/W0.heap.size<=k)/\(acc++pre).length+(qs.length-i)*1001<=x9/\needed 0 qs=(match needed i (qs.drop i)with| .error e=> .error e| .ok r=> .ok (pre++r))
def Oy(I:Inv)(F:Nat->Prop)(acc:List Np)(W:World)(qs:List L)(e:Ending)(w':World):Prop:=Fr F W w'/\match needed 0 qs with
 | .error y=>e=.returned (.tuple #[.int .i64 y.1,.int .i64 y.2.1,.int .i64 y.2.2])
 | .ok r=>e=.returned (.tuple #[.int .i64 0,.int .i64 0,.int .i64 0])/\∃F',I F' (acc++r) w'/\∀k,F' k->F k\/W.heap.size<=k
theorem S9.fr{v:Value}{l:List L}(h:S9 W0 v l)(hf:Fr F W0 wr)(ha:∀k,v.ownBlock=some k->¬F k):S9 wr v l:=by
 obtain⟨ai,cap,rfl,hn,hr⟩:=h;refine⟨ai,cap,rfl,hn,fun i m hm=>?_⟩;obtain⟨g,off,e,hg,h0⟩:=hr i m hm;subst e;exact⟨g,off,rfl,ah hg hf.size,(ag (hf.block g hg (ha g rfl))).trans h0⟩
theorem Cc{p:List jf}{si:Option Addr}{sn sc:Nat}(hI:wC I)(NE:Vn fv I)(hT:rG.length<=x9)(hs:pH W0 (fun k=>¬F k) 131 230 (.slice si sn sc) (fF.of p))(hp:p≠[])(hl:lS (fF.of p)<=1000)(hc:∀x∈p,x.iZ=.nil)(M:mo I F rG W0 wr (N4 p++rest)):
  Z4 88 #[fv,.slice none 0 0,.slice si sn sc,.bool true] wr fun e w'=>e=.returned (.tuple #[])/\Hid (mo I F rG W0 w' rest):=by
 have Td:=M.fr;have main:=M.part hI (Below.refl _ _) (f:=88) (args:=#[fv,.slice none 0 0,.slice si sn sc,.bool true]) fun F' oT k1 k3 k2 k4=>?_
 ·exact main.mono fun e w2 ⟨r1,r2,r3⟩=>⟨r1,r2⟩
 have hA:∀k,(k<W0.heap.size/\¬F k)->¬F' k:=fun k hk hF=>by
  rcases k2 k hF with h|h
  ·exact hk.2 h
  ·omega
 refine Ov hI NE (fF.of p) (fun i x hx=>hc x (Ox p i x hx)) F' oT wr [] (.slice none 0 0) si sn sc true k1 ⟨none,0,rfl,⟨by simp,by simp⟩,fun i m hm=>by simp at hm⟩ (fun k e=>by cases e) ((Td.pH hs).on (Below.refl _ _) hA) (Or.inr ?_) (by simp only[gL,dw,aF];omega) ?_
 ·rw[fF.vE];intro h;exact hp (aY h)
 ·exact mo.len M hT k4
theorem K4{ls:List (List jf)}{j:Nat}{p:List jf}(h:ls[j]?=some p):p_ (ls.drop j)=N4 p++p_ (ls.drop (j+1)):=by
 obtain⟨hl,e⟩:=List.getElem?_eq_some_iff.1 h;rw[bT hl,e,p_,bU];rfl
theorem QS.at'{A:Nat->Prop}{ls:List (List jf)}{pi:Option Addr}{pn pc j:Nat}{p:List jf}(h:QS w A 91 131 230 (.slice pi pn pc) ls)(hj:ls[j]?=some p):∃g si sn sc,pi=some ⟨g,0,none⟩/\A g/\g<w.heap.size/\w.cell? ⟨g,j,none⟩=some (.slice si sn sc)/\pH w A 131 230 (.slice si sn sc) (fF.of p):=by
 rcases h with⟨h,_⟩|⟨g,cap',cur,e,ha,hb,hn,h0,hr⟩
 ·have:=aY h;subst this;simp at hj
 ·cases e;obtain⟨u,h1,h2⟩:=hr j p hj;obtain⟨si,sc,rfl,_⟩:=h2.len;exact⟨g,si,_,sc,rfl,ha,eO hb,h1,h2⟩
end
section
variable{w w' w1 w2 WO wr W W0:World}{I:Inv}{F:Nat->Prop}{rG rest t acc:List Np}{fv:Value}
theorem Ce{qs:List L}{i:Nat}{q:L}{ls:List (List jf)}(hI:wC I)(NE:Vn fv I)(hq:qs[i]?=some q)(Eb:(91:UInt8)∉q)(hp:parse q=.ok ls)(Ai:(p_ ls).length<=1001)(ww:∀p∈ls,p≠[]/\lS (fF.of p)<=1000/\∀x∈p,x.iZ=.nil)(M:G2 I F acc W qs i wr):
  Z4 24 #[.string (bs q)] wr fun e w'=>∃pi pn pc,∃RR:Nat->World->Prop,e=.returned (.tuple #[.slice pi pn pc,.int .i64 0,.int .i64 0])/\pn<=1000/\Hid (RR 0 w')/\Hid (∀wr,RR pn wr->G2 I F acc W qs (i+1) wr)/\
   Hid (∀wr j,j<pn->RR j wr->∃g si sn sc,pi=some ⟨g,0,none⟩/\wr.cell? ⟨g,j,none⟩=some (.slice si sn sc)/\Hid (Z4 88 #[fv,.slice none 0 0,.slice si sn sc,.bool true] wr fun e w'=>e=.returned (.tuple #[])/\Hid (RR (j+1) w'))):=by
 obtain⟨F',pre,m1,m2,m3,m4,m5⟩:=M;obtain⟨hl,e⟩:=List.getElem?_eq_some_iff.1 hq;rw[bT hl,e,needed,hp]at m5;have hlt:∀k,F' k->k<wr.heap.size:=fun k hk=>hI.lt _ _ _ k m1 hk;refine(qJ q wr Eb).mono ?_;rintro e w1 ⟨h1,h2⟩;rw[hp]at h2;obtain⟨v,he,hv⟩:=h2;have hv0:QS w1 (fun b=>wr.heap.size<=b) 91 131 230 v ls:=hv;have Ju:∃pi pc,v=.slice pi ls.length pc/\ls.length<=1000:=by
  rcases hv0 with⟨h,rfl⟩|⟨g,cap,cur,rfl,_,_,hn,_⟩
  ·exact⟨_,_,by rw[h],by omega⟩
  ·exact⟨_,_,rfl,hn⟩
 obtain⟨pi,pc,rfl,hpn⟩:=Ju;have aaV:(acc++pre++p_ ls).length<=x9:=by
  have:1<=qs.length-i:=by omega
  have h3:1*1001<=(qs.length-i)*1001:=Nat.mul_le_mul_right _ this;rw[af];omega
 have DM:=hI.below _ _ _ _ m1 h1;refine⟨pi,_,pc,fun j wr'=>mo I F' (acc++pre++p_ ls) w1 wr' (p_ (ls.drop j)),he,hpn,a_ ?_,a_ ?_,a_ ?_⟩
 ·exact mo.start DM
 ·rintro wr' ⟨F2,ab1,k1,k2,k3,k4⟩;rw[dx,show p_ []=[]from rfl,aM]at k4;subst k4;refine⟨F2,pre++p_ ls,by rw[<-bt];exact k1,(m2.on h1).trans k2 fun k hk hF=>?_,fun k hk=>?_,?_,?_⟩
  ·rcases m3 k hF with h|h
   ·exact h
   ·omega
  ·rcases k3 k hk with h|h
   ·exact m3 k h
   ·have:=(m2.on h1).size;exact Or.inr (by omega)
  ·rw[<-bt,af];have e3:qs.length-i=qs.length-(i+1)+1:=by omega
   rw[e3,Nat.add_mul]at m4;omega
  ·rw[m5];cases needed (i+1) (qs.drop (i+1))with
   |error e=>rfl
   |ok r=>simp
 ·intro wr' j hj M;have hpj:ls[j]?=some ls[j]:=ap hj;rw[K4 hpj]at M;obtain⟨g,si,sn,sc,e1,hg,Gj,a0,hs⟩:=hv0.at' hpj;have hF:∀k,wr.heap.size<=k->¬F' k:=fun k hk hF=>by have:=hlt k hF;omega
  obtain⟨Zs,Ww,Vp⟩:=ww _ (bR hj);exact⟨g,si,sn,sc,e1,(ag (M.fr.block g Gj (hF g hg))).trans a0,a_ (Cc hI NE aaV (hs.on (Below.refl _ _) hF) Zs Ww Vp M)⟩
theorem G3{qs:List L}(hQ:∀q∈qs,QOK q)(hI:wC I)(NE:Vn fv I)(v:Value)(h0:I F acc W)(hq:S9 W v qs)(hap:∀k,v.ownBlock=some k->¬F k)(hN:acc.length+qs.length*1001<=x9):Z4 49 #[fv,v] W (Oy I F acc W qs):=by
 have M0:Hid (G2 I F acc W qs 0 W):=a_ ⟨F,[],by rw[aM];exact h0,Fr.refl _ _,fun k h=>Or.inl h,by simpa using hN,by rw[List.drop_zero];cases needed 0 qs<;>rfl⟩;have mY:Hid (∀wr,G2 I F acc W qs qs.length wr->Oy I F acc W qs (.returned (.tuple #[.int .i64 0,.int .i64 0,.int .i64 0])) wr):=fun wr ⟨F',pre,m1,m2,m3,m4,m5⟩=>by
  rw[dx,needed]at m5;simp only[aM]at m5;refine⟨m2,?_⟩;rw[m5];exact⟨rfl,F',m1,m3⟩
 have HR:Hid (∀wr i,i<qs.length->G2 I F acc W qs i wr->∃Q,(∃g off,(match v with| .slice ai _ _=>ai|_=>none)=some ⟨g,off,none⟩/\wr.cell? ⟨g,off+i,none⟩=some (.string Q))/\
   Hid (Z4 24 #[.string Q] wr fun e w'=>∃pi pn pc,∃RR:Nat->World->Prop,e=.returned (.tuple #[.slice pi pn pc,.int .i64 0,.int .i64 0])/\pn<=1000/\Hid (RR 0 w')/\Hid (∀wr,RR pn wr->G2 I F acc W qs (i+1) wr)/\
   Hid (∀wr j,j<pn->RR j wr->∃g si sn sc,pi=some ⟨g,0,none⟩/\wr.cell? ⟨g,j,none⟩=some (.slice si sn sc)/\Hid (Z4 88 #[fv,.slice none 0 0,.slice si sn sc,.bool true] wr fun e w'=>e=.returned (.tuple #[])/\Hid (RR (j+1) w'))))):=fun wr i hi M=>by
  have hx:qs[i]?=some qs[i]:=ap hi;have Td:Fr F W wr:=by obtain⟨_,_,_,h,_⟩:=M;exact h
  obtain⟨ai,cap,e,hn,hr⟩:=hq.fr Td hap;obtain⟨g,off,e2,hg,h1⟩:=hr i _ hx;refine⟨_,⟨g,off,by rw[e];exact e2,h1⟩,?_⟩;obtain⟨Eb,ls,hp,Ai,ww⟩:=hQ _ (bR hi);exact a_ (Ce hI NE hx Eb hp Ai ww M)
 obtain⟨ai,cap,rfl,hn,-⟩:=hq;simp only at HR;obtain⟨RN,Ow⟩:∃RN:Nat->World->Prop,∀i wr,RN i wr=G2 I F acc W qs i wr:=⟨_,fun _ _=>rfl⟩
 simp only[<-Ow]at M0 mY HR;have Ai:=hn.1;clear Ow h0 hap hN hI NE hn hQ;generalize qs.length=n at*
 go_enter func49,ntmps49;go_wp2_with fail;go_loopw [4,5,6,7,8,9,10,11,13,16,17,18,19,20,21,22,23,24,25,26,27,28,29,30,31,32,33,34,35,36,37,38,39,40,41,42,43] (fun _ _ _ _ _ _ _ _ _ u16 _ _ _ _ _ _ _ _ _ _ _ _ _ _ _ _ _ _ _ _ _ _ _ _ _ _ _ wr=>∃i:Nat,u16=.int .i64 i/\i<=n/\Hid (RN i wr)) (fun _ _ _ _ _ _ _ _ _ u16 _ _ _ _ _ _ _ _ _ _ _ _ _ _ _ _ _ _ _ _ _ _ _ _ _ _ _ _=>n-(RowKit.intOf u16).toNat)
 case atStart=>exact⟨0,rfl,aq _,M0⟩
 case round=>
  rename World=>WO
  obtain⟨i,rfl,hi,HM⟩:=hrel;by_cases hlt:i<n
  ·obtain⟨Q,⟨g,off,rfl,c0⟩,hh⟩:=HR.out _ i hlt HM.out;have hdec:decide ((i:Int)<n)=true:=by simp;omega
   have B8:(i:Int)<n:=by omega
   have hwr:IntKind.i64.wrap ((i:Int)+1)=(i:Int)+1:=by rw[aI];omega
   clear HR mY HM M0;have HO:=hh;clear hh
   ·go_wp2_with(go_at_call 24;refine HO.out.mono ?_;rintro e w7 ⟨pi,pn,pc,RR,rfl,hpn,HR0,HRE,HRR⟩;clear HO);clear c0;go_loopw [13,35,36,37,38,39,40,41,42] (fun _ u35 _ _ _ _ _ _ _ wr=>∃j:Nat,u35=.int .i64 j/\j<=pn/\Hid (RR j wr)) (fun _ u35 _ _ _ _ _ _ _ _=>pn-(RowKit.intOf u35).toNat)
    case atStart=>exact⟨0,rfl,aq _,HR0⟩
    case round=>
     rename World=>WP
     obtain⟨j,rfl,hj,HJ⟩:=hrel;by_cases Zt:j<pn
     ·obtain⟨g',si,sn,sc,rfl,a0,HD⟩:=HRR.out _ j Zt HJ.out;have hdj:decide ((j:Int)<pn)=true:=by simp;omega
      have hjj:(j:Int)<pn:=by omega
      clear HRR HJ HR0 HRE;go_wp2_with(go_at_call 88;refine HD.out.mono ?_;rintro e w8 ⟨rfl,h8⟩;clear HD);exact⟨⟨j+1,by simp,by omega,h8⟩,by simp only[RowKit.intOf];omega⟩
     ·have hdj:decide ((j:Int)<pn)=false:=by simp;omega
      obtain rfl:j=pn:=by omega
      have HE:=a_ (HRE.out _ HJ.out);clear HRR HJ HR0 HRE;go_wp2;exact⟨⟨i+1,by simp,by omega,HE⟩,by simp only[RowKit.intOf];omega⟩
  ·have hdec:decide ((i:Int)<n)=false:=by simp;omega
   obtain rfl:i=n:=by omega
   go_wp2;refine ba (v:=.tuple #[.int .i64 0,.int .i64 0,.int .i64 0]) (by simp[results,results49,go_sem]) rfl (mY.out _ HM.out)
end
end Go.Proofs.YthlcmljckpdheaaGreatDoor
