import Derived.Test.YtjecakcpcnmieaaGreatDoorHA
import Derived.Laws.OwnMore
import Derived.Lib.AppendZerosOnto
import Derived.Maps.AppendAt
import Derived.Test.YtjecakcpcnmieaaGreatDoorHad
import Derived.Test.YtjecakcpcnmieaaGreatDoorHac
set_option linter.unusedVariables false
set_option linter.unusedSimpArgs false
set_option maxHeartbeats 32000000
set_option maxRecDepth 100000
namespace Go.Proofs.YtjecakcpcnmieaaGreatDoor
open Go.RowKit Go.Maps Go.Lib Tryz
section
variable{w w' w1 W:World}
def Za(x:jd×Value):Mk:=(x.1.deep,x.1.test)
def SlV(x:jd×Value):Prop:=∃pi pn pc,x.2=.slice pi pn pc
theorem A6{g:Nat}{xs:List (jd×Value)}(h:∀i x,xs[i]?=some x->w.cell? ⟨g,i*3,none⟩=some (.bool x.1.deep)/\w.cell? ⟨g,i*3+1,none⟩=some (.string (bs x.1.test))/\w.cell? ⟨g,i*3+2,none⟩=some x.2):∀j u,(gR xs)[j]?=some u->w.cell? ⟨g,j,none⟩=some u:=by
 intro j u hj;have hl:=(List.getElem?_eq_some_iff.1 hj).1;rw[uo]at hl;have hi:j/3<xs.length:=by omega
 obtain⟨x,hx⟩:∃x,xs[j/3]?=some x:=⟨_,aw hi⟩
 obtain⟨h0,h1,h2⟩:=h _ _ hx;have hc:j/3*3=j\/j/3*3+1=j\/j/3*3+2=j:=by omega
 rcases hc with hc|hc|hc
 ·have:=kG xs (j/3) x 0 _ hx rfl;rw[bH,hc,hj]at this;rw[hc]at h0;rw[h0,this]
 ·have:=kG xs (j/3) x 1 _ hx rfl;rw[hc,hj]at this;rw[hc]at h1;rw[h1,this]
 ·have:=kG xs (j/3) x 2 _ hx rfl;rw[hc,hj]at this;rw[hc]at h2;rw[h2,this]
theorem tB.cells{ai:Option Addr}{n cap:Nat}{ms:List Mk}(h:tB w (.slice ai n cap) ms):n=ms.length/\(ms≠[]->∃g,ai=some ⟨g,0,none⟩)/\∃xs:List (jd×Value),xs.map Za=ms/\(∀y∈xs,SlV y)/\∀g,ai=some ⟨g,0,none⟩->∀j u,(gR xs)[j]?=some u->w.cell? ⟨g,j,none⟩=some u:=by
 obtain⟨Fs,cap',e,hn,hr⟩:=h;cases e;have key:∀k,k<=ms.length->∃xs:List (jd×Value),xs.map Za=ms.take k/\(∀y∈xs,SlV y)/\∀g,ai=some ⟨g,0,none⟩->∀i x,xs[i]?=some x->w.cell? ⟨g,i*3,none⟩=some (.bool x.1.deep)/\w.cell? ⟨g,i*3+1,none⟩=some (.string (bs x.1.test))/\w.cell? ⟨g,i*3+2,none⟩=some x.2:=by
  intro k;induction k with
  |zero=>intro _;exact⟨[],by simp,fun y hy=>by simp at hy,fun g _ i x hx=>by simp at hx⟩
  |succ k ih=>
   intro hk;obtain⟨xs,h1,h2,h3⟩:=ih (by omega);have hm:ms[k]?=some ms[k]:=aw (by omega);obtain⟨g,pi,pn,pc,e,hg,a0,a1,a2⟩:=hr k _ hm;have Fu:xs.length=k:=by have:=aC List.length h1;simp at this;omega
   refine⟨xs++[(⟨ms[k].1,ms[k].2,.nil⟩,.slice pi pn pc)],?_,?_,?_⟩
   ·rw[bp,h1,aN (by omega)];rfl
   ·intro y hy;rcases List.mem_append.1 hy with hy|hy
    ·exact h2 y hy
    ·rw[bc]at hy;subst hy;exact⟨_,_,_,rfl⟩
   ·intro g' e' i x hx;by_cases hi:i<k
    ·rw[aL (by omega)]at hx;exact h3 g' e' i x hx
    ·have Fv:=(List.getElem?_eq_some_iff.1 hx).1;rw[ae,bn]at Fv;obtain rfl:i=k:=by omega
     rw[aQ (by omega),Fu,dX]at hx;simp only[dO,aJ]at hx;subst hx;rw[e]at e';cases e';exact⟨a0,a1,a2⟩
 refine⟨rfl,fun h0=>?_,?_⟩
 ·have hl0:0<ms.length:=List.length_pos_iff.2 h0;obtain⟨g,_,_,_,e,_⟩:=hr 0 ms[0] (aw hl0);exact⟨g,e⟩
 ·obtain⟨xs,h1,h2,h3⟩:=key ms.length (ah _);rw[bt]at h1;exact⟨xs,h1,h2,fun g e=>A6 (h3 g e)⟩
theorem tB.Di{B:Nat}{v:Value}{n:Nat}{xs:List (jd×Value)}(h:w.ownsRow B 173 3 v n (gR xs))(hs:∀y∈xs,SlV y)(hn:n<=1000000):tB w v (xs.map Za):=by
 have hl:=h.1;rw[uo]at hl;have Fu:xs.length=n:=by omega
 have qQ:∀g cap,v=Z9 g n cap->∀i x,xs[i]?=some x->w.cell? ⟨g,i*3,none⟩=some (.bool x.1.deep)/\w.cell? ⟨g,i*3+1,none⟩=some (.string (bs x.1.test))/\w.cell? ⟨g,i*3+2,none⟩=some x.2:=fun g cap e i x hx=>by
  subst e;have Fv:=(List.getElem?_eq_some_iff.1 hx).1;have f:=fun c (hc:c<3) u hu=>(h.cellAt (i*3+c) (by omega)).trans (kG xs i x c u hx hu);exact⟨f 0 (by omega) _ rfl,f 1 (by omega) _ rfl,f 2 (by omega) _ rfl⟩
 rcases h.2 with⟨rfl,hz⟩|⟨g,cap,cur,rfl,hb,hg,wJ,_,_,_⟩
 ·have:xs=[]:=aR (by omega);subst this;exact⟨none,0,rfl,⟨by simp,by simp⟩,fun i m hm=>by simp at hm⟩
 ·refine⟨some ⟨g,0,none⟩,cap,by simp[Fu],⟨by simp;omega,by simp;omega⟩,fun i m hm=>?_⟩;rw[aX]at hm;obtain⟨x,hx,rfl⟩:=Option.map_eq_some_iff.1 hm;obtain⟨c0,c1,c2⟩:=qQ g cap rfl i x hx;obtain⟨pi,pn,pc,e⟩:=hs x (aZ hx);exact⟨g,pi,pn,pc,rfl,eO hg,c0,c1,by rw[c2,e]⟩
theorem Dj(v:Value)(n:Nat)(xs:List Value)(B cap:Nat)(hown:w.ownsRow B 173 3 v n xs):(Builtin.append_ #[169,169] 169 #[v,.slice none 0 cap]).run prog w=.ok v w:=by
 obtain⟨i0,hi,hz0,hz1,hz2⟩:=bk Dg;rcases hown.2 with⟨rfl,rfl⟩|⟨g,cap',cur,rfl,_,_,wJ,_⟩
 ·simp[Builtin.append_,ee underlying169,sizeOf,typeInfo,hi,Builtin.lenOf,Builtin.firstCells]
 ·simp[Builtin.append_,ee underlying169,sizeOf,typeInfo,hi,Builtin.lenOf,Builtin.firstCells,wJ,storeCells]
theorem Vs{B:Nat}{v:Value}{n:Nat}{xs:List Value}{ai:Option Addr}{m cap:Nat}{ms:List Mk}(hown:w.ownsRow B 173 3 v n xs)(h:tB w (.slice ai m cap) ms)(hl:n+ms.length<=2000000)(hB:B<=w.heap.size):
  ∃v' w' ys,(Builtin.append_ #[169,169] 169 #[v,.slice ai m cap]).run prog w=.ok v' w'/\w'.ownsRow B 173 3 v' (n+m) (xs++gR ys)/\ys.map Za=ms/\(∀y∈ys,SlV y)/\w.grownBy w' v.ownBlock:=by
 obtain⟨i0,hi,hz0,hz1,hz2⟩:=bk Dg;obtain⟨rfl,h1,ys,h2,h3,h4⟩:=h.cells;have LL:ys.length=ms.length:=by rw[<-h2];simp
 cases ai with
 |none=>
  have h0:ms=[]:=aU fun hne=>by obtain⟨g,e⟩:=h1 hne;cases e
  subst h0;have:ys=[]:=aR (by simpa using LL);subst this;exact⟨v,w,[],Dj v n xs B cap hown,by simpa [gR]using hown,rfl,fun y hy=>by simp at hy,⟨rfl,rfl,rfl,ah _,fun _ _ _=>rfl⟩⟩
 |some ad=>
  have hcell:∀j u,(gR ys)[j]?=some u->w.cell? (ad.add j)=some u:=fun j u hj=>by
   have hne:ms≠[]:=by
    rintro rfl;have:ys=[]:=aR (by simpa using LL);subst this;simp[gR]at hj
   obtain⟨g,e⟩:=h1 hne;cases e;have:=h4 g rfl j u hj;unfold Addr.add;split
   ·next h0=>rw[h0]at this;exact this
   ·simpa using this
  have h1c:∀u∈gR ys,u.oneCell'=true:=by
   intro u hu;unfold gR at hu;obtain⟨x,hx,hu⟩:=List.mem_flatMap.1 hu;obtain⟨pi,pn,pc,e⟩:=h3 x hx;rw[e]at hu;simp only[cE,cn,cK]at hu;rcases hu with rfl|rfl|rfl<;>rfl
  obtain⟨v',w',r,r1,r2,_⟩:=run_append_own (P:=prog) w B 169 169 173 i0 _ 3 48 underlying169 hi hz0 hz1 hz2 rfl (by decide) v n xs hown ad ms.length cap (gR ys) (by rw[uo,LL]) hcell h1c (by unfold maxLen;omega) (by omega) hB;exact⟨v',w',ys,r,r1,h2,h3,r2⟩
theorem MP(n:Nat)(w:World)(hn:n<=2000000):Z4 149 #[.slice none 0 0,.int .i64 n] w fun e w'=>∃v,e=.returned v/\w'.ownsRow w.heap.size 173 3 v 0 []/\Z5 w w':=by
 obtain⟨i0,hi,hz0,hz1,hz2⟩:=bk Dg;have h1:decide ((n:Int)<0)=false:=by simp
 have QB:¬((n:Int)<0):=by omega
 have hw1:IntKind.i64.wrap ((n:Int)-0)=(n:Int):=by rw[aD];omega
 by_cases h0:n=0
 ·subst h0;go_enter func149,ntmps149;go_wp2;go_ret;exact⟨_,rfl,bG _ _ _ _,Below.refl _ _⟩
 ·have h2:decide ((n:Int)>0)=true:=by simp;omega
  have QC:(n:Int)>0:=by omega
  have adn:(0:Int)<(n:Int):=by omega
  have hr:=Lib.run_append_grow_zeros (P:=prog) w 169 3 169 173 i0 _ .i64 .i64 underlying169 underlying3 hi hz0 none 0 0 [] (run_firstCells_none w.drew i0.size 0 0 0) n (by omega) (by rw[hz1];decide) (by omega) (by omega) (by rw[hz2];omega) (growslice_fits (by omega) (by rw[hz2];omega));simp only[ay]at hr;have hGn:n<=grownCap w n 0 173:=grownCap_ge w _ _ _;have Zb:grownCap w n 0 173<=maxLen:=grownCap_le_maxLen w n 0 173 (by unfold maxLen;omega);obtain⟨G,hG⟩:∃G,G=grownCap w n 0 173:=⟨_,rfl⟩
  rw[<-hG]at hr hGn Zb;have hown:(w.drew.alloc (.cells (([]:List Value).toArray++Builtin.zeroCells (Value.agg #[.bool false,.string ⟨#[]⟩,.slice none 0 0]).cells n++Builtin.zeroCells (Value.agg #[.bool false,.string ⟨#[]⟩,.slice none 0 0]).cells (G-n)) 173)).ownsRow w.heap.size 173 3 (.slice (some ⟨w.heap.size,0,none⟩) 0 G) 0 []:=by
   refine⟨rfl,Or.inr ⟨w.heap.size,G,_,rfl,ah _,bu w.drew _,ax _,Zb,?_,by simp⟩⟩;simp only[Array.size_append,cv,size_zeroCells,aq];show 0+n*3+(G-n)*3=G*3;omega
  have aa3:Z5 w (w.drew.alloc (.cells (([]:List Value).toArray++Builtin.zeroCells (Value.agg #[.bool false,.string ⟨#[]⟩,.slice none 0 0]).cells n++Builtin.zeroCells (Value.agg #[.bool false,.string ⟨#[]⟩,.slice none 0 0]).cells (G-n)) 173)):=(Below.drew (Below.refl w.heap.size w)).alloc (ah _) _;generalize (w.drew.alloc (.cells (([]:List Value).toArray++Builtin.zeroCells (Value.agg #[.bool false,.string ⟨#[]⟩,.slice none 0 0]).cells n++Builtin.zeroCells (Value.agg #[.bool false,.string ⟨#[]⟩,.slice none 0 0]).cells (G-n)) 173))=WN at*
  have HO:=a_ hown;have HB:=a_ aa3;unfold maxLen at Zb;clear hown aa3 hG hGn;go_enter func149,ntmps149;go_wp2_with(at_builtin;refine Lib.wpList_append_run _ rfl _ _ _ _ rfl _ _ rfl rfl _ _ hr ?_);all_goals(go_ret;exact⟨_,rfl,HO.out,HB.out⟩)
end
section
variable{w w' w1 W:World}
def tC(a b:List Mk)(i:Nat):Nat:=if i=0 then 0 else if i=1 then a.length else a.length+b.length
def Vt(w:World)(a b:List Mk)(i:Nat)(v:Value)(wr:World):Prop:=(∃ai n cap,v=.slice ai n cap)/\(∃xs:List (jd×Value),xs.map Za=(a++b).take (tC a b i)/\(∀y∈xs,SlV y)/\wr.ownsRow w.heap.size 173 3 v (tC a b i) (gR xs))/\Z5 w wr
theorem ft{B:Nat}{e:TypeId}{s:Nat}{v:Value}{n:Nat}{xs:List Value}(h:w.ownsRow B e s v n xs):∃ai n' cap,v=.slice ai n' cap:=by rcases h.2 with⟨hv,_⟩|⟨g,cap,cur,hv,_⟩<;>exact⟨_,_,_,hv⟩
theorem Vt.step{a b:List Mk}{va vb:Value}{k i:Nat}{v:Value}{wr:World}(ha:tB w va a)(hb:tB w vb b)(c0:w.cell? ⟨k,0,none⟩=some va)(c1:w.cell? ⟨k,1,none⟩=some vb)(hk:k<w.heap.size)(hl:a.length+b.length<=1000000)(hi:i<2)(h:Vt w a b i v wr):
  ∃ai n cap v' w',wr.cell? ⟨k,i,none⟩=some (.slice ai n cap)/\(Builtin.append_ #[169,169] 169 #[v,.slice ai n cap]).run prog wr=.ok v' w'/\Vt w a b (i+1) v' w':=by
 obtain⟨-,⟨xs,h1,h2,h3⟩,hbl⟩:=h;have main:∀(u:Value) (ms:List Mk),tB w u ms->w.cell? ⟨k,i,none⟩=some u->tC a b (i+1)=tC a b i+ms.length->(a++b).take (tC a b (i+1))=(a++b).take (tC a b i)++ms->tC a b (i+1)<=2000000->∃ai n cap v' w',wr.cell? ⟨k,i,none⟩=some (.slice ai n cap)/\(Builtin.append_ #[169,169] 169 #[v,.slice ai n cap]).run prog wr=.ok v' w'/\Vt w a b (i+1) v' w':=by
  intro u ms hu hc hs ht hsz;obtain⟨ai,cap,rfl,hn,hr⟩:=id hu;obtain⟨v',w',ys,r,r1,r2,r3,r4⟩:=Vs h3 (hu.below (B:=0) hbl) (by omega) hbl.size;refine⟨ai,_,cap,v',w',(aj (hbl.block k hk)).trans hc,r,ft r1,⟨xs++ys,?_,?_,?_⟩,?_⟩
  ·rw[bp,h1,r2,ht]
  ·intro y hy;rcases List.mem_append.1 hy with hy|hy
   ·exact h2 y hy
   ·exact r3 y hy
  ·rw[hs];have e:gR (xs++ys)=gR xs++gR ys:=by unfold gR;rw[bY]
   rw[e];exact r1
  ·exact hbl.grown r4 hbl.size (fun j e=>(h3.lt j e).1)
 have AU:i=0\/i=1:=by omega
 rcases AU with rfl|rfl
 ·exact main va a ha c0 (by simp[tC]) (by simp[tC]) (by simp[tC];omega)
 ·refine main vb b hb c1 (by simp[tC]) ?_ (by simp[tC];omega);have e:tC a b (1+1)=(a++b).length:=by simp[tC]
  have e1:tC a b 1=a.length:=by simp[tC]
  rw[e,e1,bt];simp
theorem MQ(a b:List Mk)(va vb:Value)(k:Nat)(w:World)(ha:tB w va a)(hb:tB w vb b)(c0:w.cell? ⟨k,0,none⟩=some va)(c1:w.cell? ⟨k,1,none⟩=some vb)(hk:k<w.heap.size)(hl:a.length+b.length<=1000000):Z4 113 #[Z9 k 2 2] w fun e w'=>∃ai n cap,e=.returned (.slice ai n cap)/\tB w' (.slice ai n cap) (a++b)/\Z5 w w'/\∀j,(Value.slice ai n cap).ownBlock=some j->w.heap.size<=j:=by
 have HR:Hid (∀i,i<2->∃ai n cap,w.cell? ⟨k,i,none⟩=some (.slice ai n cap)/\((tC a b i:Nat):Int)+(n:Int)=((tC a b (i+1):Nat):Int)/\tC a b (i+1)<=1000000):=fun i hi=>by
  have AU:i=0\/i=1:=by omega
  rcases AU with rfl|rfl
  ·obtain⟨ai,cap,rfl,hn,-⟩:=ha;exact⟨_,_,_,c0,by simp[tC],by simp[tC];omega⟩
  ·obtain⟨ai,cap,rfl,hn,-⟩:=hb;exact⟨_,_,_,c1,by simp[tC],by simp[tC];omega⟩
 have HS:Hid (∀wr i v,i<2->Vt w a b i v wr->∃ai n cap v' w',wr.cell? ⟨k,i,none⟩=some (.slice ai n cap)/\(Builtin.append_ #[169,169] 169 #[v,.slice ai n cap]).run prog wr=.ok v' w'/\Hid (Vt w a b (i+1) v' w')):=fun wr i v hi h=>by
  obtain⟨ai,n,cap,v',w',r0,r1,r2⟩:=h.step ha hb c0 c1 hk hl hi;exact⟨ai,n,cap,v',w',r0,r1,a_ r2⟩
 have HE:Hid (∀wr v,Vt w a b 2 v wr->tB wr v (a++b)/\Z5 w wr/\∀j,v.ownBlock=some j->w.heap.size<=j):=fun wr v h=>by
  obtain⟨-,⟨xs,h1,h2,h3⟩,hbl⟩:=h;have e:tC a b 2=(a++b).length:=by simp[tC]
  rw[e]at h1 h3;rw[bt]at h1;rw[<-h1];exact⟨tB.Di h3 h2 (by rw[ae];omega),hbl,fun j e=>(h3.lt j e).1⟩
 have hs2:tC a b 2<=1000000:=by simp[tC];omega
 have HG:=a_ (MP (tC a b 2) w (by omega));have HG0:Hid (∀v w',w'.ownsRow w.heap.size 173 3 v 0 []->Z5 w w'->Vt w a b 0 v w'):=fun v w' h1 h2=>⟨ft h1,⟨[],by simp[tC],fun y hy=>by simp at hy,by simpa [tC,gR]using h1⟩,h2⟩
 have acd:tC a b 0=0:=rfl;have ado:decide (((tC a b 2:Nat):Int)<0)=false:=by simp
 clear ha hb c0 c1;generalize tC a b=sz at*
 go_enter func113,ntmps113;go_wp2_with fail;go_loopw [3,5,11,12,13,14,15,16,17,18,19,20,21,22] (fun u3 _ u11 _ _ _ _ _ _ _ _ _ _ _ wr=>∃i:Nat,u11=.int .i64 i/\i<=2/\u3=.int .i64 (sz i:Nat)/\wr=w) (fun _ _ u11 _ _ _ _ _ _ _ _ _ _ _ _=>2-(RowKit.intOf u11).toNat)
 case atStart=>exact⟨0,rfl,by omega,by rw[acd];rfl,rfl⟩
 case round=>
  obtain⟨i,rfl,hi,rfl,hww⟩:=hrel;have hwv:=hww.symm;clear hww;subst hwv;by_cases hlt:i<2
  ·obtain⟨ai,n,cap,cc,aa4,hle⟩:=HR.out i hlt;have hdec:decide ((i:Int)<2)=true:=by simp;omega
   have LK:(i:Int)<2:=by omega
   have hwr:IntKind.i64.wrap (((sz i:Nat):Int)+(n:Int))=((sz (i+1):Nat):Int):=by rw[aa4,aD];omega
   have A7:decide (((sz (i+1):Nat):Int)<0)=false:=by simp
   have adh:¬(((sz (i+1):Nat):Int)<0):=by omega
   clear HR HS HE HG HG0;go_wp2;exact⟨⟨i+1,by simp,by omega,by simp⟩,by simp only[RowKit.intOf];omega⟩
  ·have hdec:decide ((i:Int)<2)=false:=by simp;omega
   obtain rfl:i=2:=by omega
   clear HR;go_wp2_with(go_at_call 149;refine HG.out.mono ?_;rintro e w5 ⟨v5,rfl,r1,r2⟩;have H5:=a_ (HG0.out _ _ r1 r2);clear HG HG0 r1 r2);go_loopw [6,8,27,28,29,30,31,32,33,34] (fun u6 _ Zc _ _ _ _ _ _ _ wr=>∃i:Nat,Zc=.int .i64 i/\i<=2/\Hid (Vt w a b i u6 wr)) (fun _ _ Zc _ _ _ _ _ _ _ _=>2-(RowKit.intOf Zc).toNat)
   case atStart=>exact⟨0,rfl,by omega,H5⟩
   case round=>
    rename World=>WO
    obtain⟨i,rfl,hi,HM⟩:=hrel;by_cases hlt:i<2
    ·obtain⟨⟨a1,n1,c1,rfl⟩,-⟩:=id HM.out;obtain⟨ai,n,cap,v',w',cc,hr,H6⟩:=HS.out _ i _ hlt HM.out;have hdec:decide ((i:Int)<2)=true:=by simp;omega
     have LK:(i:Int)<2:=by omega
     clear HS HE HM H5;go_wp2_with(at_builtin;refine Lib.wpList_append_run _ rfl _ _ _ _ rfl _ _ rfl rfl _ _ hr ?_);exact⟨⟨i+1,by simp,by omega,H6⟩,by simp only[RowKit.intOf];omega⟩
    ·have hdec:decide ((i:Int)<2)=false:=by simp;omega
     obtain rfl:i=2:=by omega
     obtain⟨⟨a1,n1,c1,rfl⟩,-⟩:=id HM.out;obtain⟨h7,h8⟩:=HE.out _ _ HM.out;have H7:=a_ h7;have H8:=a_ h8;clear HS HE HM H5 h7 h8;go_wp2;go_ret;exact⟨_,_,_,rfl,H7.out,H8.out⟩
theorem Vu(a b:List Mk)(va vb:Value)(w:World)(ha:tB w va a)(hb:tB w vb b)(hl:a.length+b.length<=1000000)(m:Nat):Z4 113 #[.slice (some ⟨w.heap.size,0,none⟩) 2 2] ((w.alloc (.cells #[va,vb] 169)).drewN m) fun e w'=>∃ai n cap,e=.returned (.slice ai n cap)/\tB w' (.slice ai n cap) (a++b)/\Z5 w w'/\∀j,(Value.slice ai n cap).ownBlock=some j->w.heap.size<=j:=by
 have hB:=eL w (.cells #[va,vb] 169);have hb0:=kV ((Below.refl w.heap.size w).alloc (ah _) (.cells #[va,vb] 169)) m;refine(MQ a b va vb w.heap.size ((w.alloc (.cells #[va,vb] 169)).drewN m) (ha.below (B:=0) hb0) (hb.below (B:=0) hb0) (cell_of (w:=w.alloc (.cells #[va,vb] 169)) hB rfl) (cell_of (w:=w.alloc (.cells #[va,vb] 169)) hB rfl) (eO hB) hl).mono ?_;rintro e w' ⟨ai,n,cap,h1,h2,h3,h4⟩;exact⟨ai,n,cap,h1,h2,hb0.trans (fE h3 hb0.size),fun j e=>ar hb0.size (h4 j e)⟩
end
section
variable{w w' w1 w2 WO wr W:World}{A A':Nat->Prop}{tS tP tS' tP':TypeId}{v v' va vb:Value}
def fG.get:fG->Nat->Option jd
 | .nil,_=>none
 | .cons d t p _,0=>some ⟨d,t,p⟩
 | .cons _ _ _ m,i+1=>m.get i
theorem fG.Ja:∀(s:fG) (i:Nat),i<s.len->∃x,s.get i=some x
 | .nil,i,h=>by simp[fG.len]at h
 | .cons d t p m,0,h=>⟨_,rfl⟩
 | .cons d t p m,i+1,h=>fG.Ja m i (by simp[fG.len]at h;omega)
theorem pC.at{g:Nat}:∀(s:fG) (k i:Nat) (x:jd),pC w A tS tP g k s->s.get i=some x->w.cell? ⟨g,(k+i)*3,none⟩=some (.bool x.deep)/\w.cell? ⟨g,(k+i)*3+1,none⟩=some (.string (bs x.test))/\∃v,w.cell? ⟨g,(k+i)*3+2,none⟩=some v/\ET w A tS tP v x.iT
 | .nil,k,i,x,h,hg=>by simp[fG.get]at hg
 | .cons d t p m,k,0,x,h,hg=>by
  simp only[fG.get,aJ]at hg;subst hg;simp only[pC]at h;exact⟨h.1,h.2.1,h.2.2.1⟩
 | .cons d t p m,k,i+1,x,h,hg=>by
  simp only[pC]at h;have:=pC.at m (k+1) i x h.2.2.2 hg;rw[show k+1+i=k+(i+1) by omega]at this;exact this
theorem um.len{s:fG}(h:um w A tS tP v s):∃ai cap,v=.slice ai s.len cap/\s.len<=1000:=by
 rcases h with⟨h,rfl⟩|⟨g,cap,cur,rfl,_,_,hn,_⟩
 ·exact⟨_,_,by rw[h],by omega⟩
 ·exact⟨_,_,rfl,hn⟩
theorem ET.len{s:k9}(h:ET w A tS tP v s):∃ai cap,v=.slice ai s.len cap/\s.len<=1000:=by
 rcases h with⟨h,rfl⟩|⟨g,cap,cur,rfl,_,_,hn,_⟩
 ·exact⟨_,_,by rw[h],by omega⟩
 ·exact⟨_,_,rfl,hn⟩
theorem um.at{s:fG}{ai:Option Addr}{n cap i:Nat}{x:jd}(h:um w A tS tP (.slice ai n cap) s)(hx:s.get i=some x):∃g,ai=some ⟨g,0,none⟩/\A g/\(∃cur,w.heap[g]?=some (.cells cur tS (0,0)))/\w.cell? ⟨g,i*3,none⟩=some (.bool x.deep)/\w.cell? ⟨g,i*3+1,none⟩=some (.string (bs x.test))/\∃v,w.cell? ⟨g,i*3+2,none⟩=some v/\ET w A tS tP v x.iT:=by
 rcases h with⟨h,_⟩|⟨g,cap',cur,e,ha,hb,hn,h0,hr⟩
 ·exfalso;cases s with
  |nil=>simp[fG.get]at hx
  |cons d t p m=>simp[fG.len]at h
 ·cases e;have:=pC.at s 0 i x hr hx;rw[ay]at this;exact⟨g,rfl,ha,⟨cur,hb⟩,this⟩
def fG.dp:fG->Nat->fG
 |p,0=>p
 | .nil,_+1=> .nil
 | .cons _ _ _ m,i+1=>m.dp i
theorem fG.Vv(p:fG):p.dp 0=p:=by cases p<;>rfl
theorem fG.QJ:∀(p:fG) (i:Nat) (x:jd),p.get i=some x->p.dp i=.cons x.deep x.test x.iT (p.dp (i+1))
 | .nil,i,x,h=>by simp[fG.get]at h
 | .cons d t q m,0,x,h=>by simp only[fG.get,aJ]at h;subst h;simp[fG.dp]
 | .cons d t q m,i+1,x,h=>by simp only[fG.dp];exact fG.QJ m i x h
theorem fG.QK:∀(p:fG),p.dp p.len=.nil
 | .nil=>rfl
 | .cons d t q m=>by simp only[fG.len,fG.dp];exact fG.QK m
def X0(o:L):Prop:=o=[111,114]\/o=[97,110,100]\/o=[110,111,116]
instance (o:L):Decidable (X0 o):=by unfold X0;infer_instance
theorem nW:∀s:fG,(gI s).length=s.len
 | .nil=>rfl
 | .cons d t p m=>by simp only[gI,fG.len,ag,nW m]
theorem wK:∀(s:fG) (i:Nat) (x:jd),s.get i=some x->(gI s)[i]?=some (x.deep,x.test)
 | .nil,i,x,h=>by simp[fG.get]at h
 | .cons d t p m,0,x,h=>by simp only[fG.get,aJ]at h;subst h;rfl
 | .cons d t p m,i+1,x,h=>by simp only[gI,ck];exact wK m i x h
theorem Jb{s:fG}{i:Nat}{x:jd}(h:s.get i=some x):(gI s).take (i+1)=(gI s).take i++[(x.deep,x.test)]:=by
 obtain⟨hl,e⟩:=List.getElem?_eq_some_iff.1 (wK s i x h);rw[aN hl,e]
def qD(ahead:List Mk)(s:fG)(i:Nat):List Np:=ow (ahead++(gI s).take i) (s.dp i)
theorem Jc(ahead:List Mk)(s:fG):qD ahead s 0=ow ahead s:=by unfold qD;rw[fG.Vv,dJ,aO]
theorem MR{ahead:List Mk}{s:fG}{i:Nat}{x:jd}(h:s.get i=some x):qD ahead s i=y7 (ahead++(gI s).take (i+1)) x.iT++qD ahead s (i+1):=by
 unfold qD;rw[s.QJ i x h,ow,Jb h,aM]
theorem MS(ahead:List Mk)(s:fG):qD ahead s s.len=[]:=by unfold qD;rw[fG.QK,ow]
theorem Jd(m:Mk):1<=(p9 m).length:=by unfold p9;split<;>simp<;>omega
theorem MT(a b:List Mk):(km (a++b)).length=(km a).length+(km b).length:=by unfold km;rw[bY,ae]
theorem wL(a:List Mk):a.length<=(km a).length:=by
 induction a with
 |nil=>simp
 |cons m a ih=>
  have e:km (m::a)=p9 m++km a:=by unfold km;rw[bV]
  have:=Jd m;rw[e,ae,ag];omega
mutual
def lS:fG->Nat
 | .nil=>0
 | .cons d t p m=>(p9 (d,t)).length+lP p+lS m
def lP:k9->Nat
 | .nil=>0
 | .cons o k s _ _ m=>lP k+lS s+lP m
end
theorem xw:∀s:fG,(km (gI s)).length<=lS s
 | .nil=>by simp[gI,km]
 | .cons d t p m=>by
  have e:km (gI (.cons d t p m))=p9 (d,t)++km (gI m):=by unfold km;rw[gI,bV]
  have:=xw m;rw[e,ae,lS];omega
theorem um.mkr{ai:Option Addr}{n cap:Nat}{s:fG}(h:um w A 173 212 (.slice ai n cap) s){i:Nat}(hi:i<=s.len):tB w (.slice ai i cap) ((gI s).take i):=by
 have hn:n=s.len/\s.len<=1000/\s.len<=cap:=by
  rcases h with⟨h,e⟩|⟨g,c,cur,e,_,_,hn,h0,_⟩
  ·cases e;exact⟨h.symm,by omega,by omega⟩
  ·cases e;exact⟨rfl,hn,h0.2⟩
 refine⟨ai,cap,by rw[bP,nW];congr;omega,⟨by rw[bP,nW];omega,by rw[bP,nW];omega⟩,fun j m hm=>?_⟩;rw[bT]at hm;split at hm
 ·next hj=>
  obtain⟨x,hx⟩:=s.Ja j (by omega);rw[wK s j x hx]at hm;cases hm;obtain⟨g,e,_,⟨cur,hb⟩,a0,a1,u,a2,hp⟩:=h.at hx;obtain⟨pi,pc,rfl,_⟩:=hp.len;exact⟨g,pi,_,pc,e,eO hb,a0,a1,a2⟩
 ·simp at hm
end
section
variable{w w' w1 w2 WO wr W W0:World}
abbrev Inv:=(Nat->Prop)->List Np->World->Prop
structure xx(I:Inv):Prop where
 below:∀F acc W W',I F acc W->Z5 W W'->I F acc W'
 lt:∀F acc W k,I F acc W->F k->k<W.heap.size
def y_:Nat:=2200000000
def pd(I:Inv)(F:Nat->Prop)(acc:List Np)(W:World)(e:Ending)(w':World):Prop:=e=.returned (.tuple #[])/\∃F',I F' acc w'/\Fr F W w'/\∀k,F' k->F k\/W.heap.size<=k
structure QL(I:Inv)(F:Nat->Prop)(acc:List Np)(W:World)(v:Value)(ms:List Mk):Prop where
 inv:I F acc W
 row:tB W v ms
 apart:∀k,v.ownBlock=some k->¬F k
 ne:ms≠[]
 len:(km ms).length<=1000
 acc:acc.length<y_
def X7(fv:Value)(I:Inv):Prop:=∃p,fv=.func (.func 47) #[p] #[]/\∀F acc W v ms wh,QL I F acc W v ms->Z4 47 #[p,v,.bool wh] W (pd I F (acc++[(ms,wh)]) W)
def nJ(I:Inv)(F:Nat->Prop)(tU:List Np)(W0 wr:World)(rest:List Np):Prop:=∃F' pG,I F' pG wr/\Fr F W0 wr/\(∀k,F' k->F k\/W0.heap.size<=k)/\pG++rest=tU
variable{I:Inv}{F:Nat->Prop}{tU rest t acc:List Np}
theorem nJ.start(h:I F acc W):nJ I F (acc++t) W W t:=⟨F,acc,h,Fr.refl _ _,fun k h=>Or.inl h,rfl⟩
theorem nJ.below(hI:xx I)(h:nJ I F tU W0 wr rest)(hb:Z5 wr w'):nJ I F tU W0 w' rest:=by
 obtain⟨F',pG,h1,h2,h3,h4⟩:=h;exact⟨F',pG,hI.below _ _ _ _ h1 hb,h2.on hb,h3,h4⟩
theorem nJ.part{f:FuncId}{args:Array Value}(hI:xx I)(h:nJ I F tU W0 wr (t++rest))(hb:Z5 wr W)(hc:∀F' pG,I F' pG W->(∀k,F' k->k<wr.heap.size)->(∀k,F' k->F k\/W0.heap.size<=k)->pG++(t++rest)=tU->Z4 f args W (pd I F' (pG++t) W)):
  Z4 f args W fun e w'=>e=.returned (.tuple #[])/\Hid (nJ I F tU W0 w' rest)/\∀k,wr.heap.size<=k->k<W.heap.size->w'.heap[k]?=W.heap[k]?:=by
 obtain⟨F',pG,h1,h2,h3,h4⟩:=h;have QC:=h2.on hb;refine(hc F' pG (hI.below _ _ _ _ h1 hb) (fun k hk=>hI.lt _ _ _ k h1 hk) h3 h4).mono ?_;rintro e w' ⟨h,F2,k1,k2,k3⟩;refine⟨h,a_ ⟨F2,pG++t,k1,QC.trans k2 fun i hi hf=>?_,fun k hk=>?_,by rw[aM];exact h4⟩,fun k hk hl=>k2.block k hl fun hF=>by have:=hI.lt _ _ _ k h1 hF;omega⟩
 ·rcases h3 i hf with h|h
  ·exact h
  ·omega
 ·rcases k3 k hk with h|h
  ·exact h3 k h
  ·have:=QC.size;exact Or.inr (by omega)
theorem nJ.fr(h:nJ I F tU W0 wr rest):Fr F W0 wr:=by obtain⟨_,_,_,h,_⟩:=h;exact h
theorem nJ.len(h:nJ I F tU W0 wr (t++rest))(hT:tU.length<=y_){pG:List Np}(e:pG++(t++rest)=tU):(pG++t).length<=y_:=by
 have:=aC List.length e;simp only[ae]at this ⊢;omega
abbrev aP(O:ByteArray)(ki:Option Addr)(nk kc:Nat)(si:Option Addr)(ns sc:Nat)(A T:ByteArray):Array Value:=#[.string O,.slice ki nk kc,.slice si ns sc,.string A,.string T]
def ace(I:Inv)(fv:Value)(s:fG):Prop:=∀F acc W ahead va vi vn vc wh,I F acc W->tB W va ahead->(∀k,va.ownBlock=some k->¬F k)->um W (fun k=>¬F k) 173 212 (.slice vi vn vc) s->(ahead≠[]\/s.len≠0)->(km ahead).length+lS s<=1000->(acc++(ow ahead s++[vg (ahead++gI s) wh])).length<=y_->
 Z4 81 #[fv,va,.slice vi vn vc,.bool wh] W (pd I F (acc++(ow ahead s++[vg (ahead++gI s) wh])) W)
theorem Fr.um{s:fG}{v:Value}(h:Fr F W0 wr)(hs:um W0 (fun k=>¬F k) 173 212 v s):um wr (fun k=>k<W0.heap.size/\¬F k) 173 212 v s:=hs.move fun b hb hl=>⟨⟨hl,hb⟩,h.block b hl hb⟩
theorem um.on{s:fG}{v:Value}{A A':Nat->Prop}(hs:um w A 173 212 v s)(hb:Z5 w w')(hA:∀k,A k->A' k):um w' A' 173 212 v s:=hs.move fun b hb' hl=>⟨hA b hb',hb.block b hl⟩
theorem tB.fr{v:Value}{ms:List Mk}(h:tB W0 v ms)(hf:Fr F W0 wr)(ha:∀k,v.ownBlock=some k->¬F k):tB wr v ms:=by
 obtain⟨ai,cap,rfl,hn,hr⟩:=h;refine⟨ai,cap,rfl,hn,fun i m hm=>?_⟩;obtain⟨g,pi,pn,pc,e,hg,h0,h1,h2⟩:=hr i m hm;subst e;have hb:=hf.block g hg (ha g rfl);have up:∀j u,W0.cell? ⟨g,j,none⟩=some u->wr.cell? ⟨g,j,none⟩=some u:=fun j u hj=>(aj hb).trans hj;exact⟨g,pi,pn,pc,rfl,ak hg hf.size,up _ _ h0,up _ _ h1,up _ _ h2⟩
theorem Vw{ms:List Mk}{m:Mk}(h:ms.getLast?=some m)(wh:Bool):vg ms wh=(ms,wh&&(m.2 !=[35])):=by unfold vg;rw[h]
end
section
variable{w w' w1 w2 WO wr W W0:World}{I:Inv}{F:Nat->Prop}{tU rest t acc:List Np}{fv:Value}
def Dk(I:Inv)(F:Nat->Prop)(tU:List Np)(W0:World)(fv v:Value)(b:Bool)(w:World):Prop:=∃p,fv=.func (.func 47) #[p] #[]/\Z4 47 #[p,v,.bool b] w fun e w'=>e=.returned (.tuple #[])/\pd I F tU W0 e w'
theorem Dk.a{p v:Value}{b:Bool}(h:Dk I F tU W0 (.func (.func 47) #[p] #[]) v b w):Z4 47 #[p,v,.bool b] w fun e w'=>e=.returned (.tuple #[])/\pd I F tU W0 e w':=by
 obtain⟨p',e,h⟩:=h;cases e;exact h
theorem X7.val(h:X7 fv I):∃p,fv=.func (.func 47) #[p] #[]:=⟨_,h.choose_spec.1⟩
theorem MU{va:Value}{ahead:List Mk}{vn vc:Nat}{vi:Option Addr}{s:fG}{wh:Bool}(hI:xx I)(PW:X7 fv I)(hT:tU.length<=y_)(hm:tB W0 va ahead)(hap:∀k,va.ownBlock=some k->¬F k)(hs:um W0 (fun k=>¬F k) 173 212 (.slice vi vn vc) s)(hne:ahead≠[]\/s.len≠0)(hlen:(km ahead).length+lS s<=1000)(M:nJ I F tU W0 wr [vg (ahead++gI s) wh]):
  Z4 113 #[.slice (some ⟨wr.heap.size,0,none⟩) 2 2] (wr.alloc (.cells #[va,.slice vi vn vc] 169)) fun e w'=>∃g n cap X b,e=.returned (Z9 g (n+1) cap)/\(n<=1000/\(n:Int)<(n:Int)+1/\IntKind.i64.wrap ((n:Int)+1-1)=(n:Int))/\w'.cell? ⟨g,n*3+1,none⟩=some (.string X)/\(X.toList==[35])=b/\Hid (Dk I F tU W0 fv (Z9 g (n+1) cap) (wh&&!b) w'):=by
 have LM:=M.fr;have X8:vn=s.len:=by obtain⟨_,_,e,_⟩:=hs.len;cases e;rfl
 have hsW:=(LM.um hs).mkr (i:=s.len) (ah _);rw[bM (by rw[nW];exact ah _),<-X8]at hsW;have QM:=xw s;have hba:=MT ahead (gI s);have U5:=wL (ahead++gI s);have hla:(ahead++gI s).length<=1000:=by omega
 have AV:ahead++gI s≠[]:=by
  intro h0;have:=aC List.length h0;rw[ae,nW]at this;simp only[aq]at this;rcases hne with h|h
  ·exact h (aR (by omega))
  ·omega
 refine(Vu _ _ _ _ wr (hm.fr LM hap) hsW (by rw[ae]at hla;omega) 0).mono ?_;rintro e w' ⟨ai,n,cap,rfl,h2,h3,h4⟩;generalize hall:ahead++gI s=all at*
 obtain⟨n',hn'⟩:∃n',all.length=n'+1:=⟨all.length-1,by have:=List.length_pos_iff.2 AV;omega⟩
 have hh:=h2;obtain⟨Fs,cap',e,hn,hr⟩:=h2;cases e;have Iz:all[n']?=some all[n']:=aw (by omega);obtain⟨g,pi,pn,pc,rfl,hg,a0,a1,a2⟩:=hr n' _ Iz;have aa5:all.getLast?=some all[n']:=by rw[List.getLast?_eq_getElem?,show all.length-1=n' by omega];exact Iz
 rw[Vw aa5]at M;generalize all[n']=m at*
 rw[hn']at hh ⊢;have hmb:(m.2 !=[35])=!((bs m.2).toList==[35]):=by rw[kU];rfl
 rw[hmb]at M;obtain⟨F',pG,k1,k2,k3,k4⟩:=M;have lI:=hI.below _ _ _ _ k1 h3;have pre:QL I F' pG w' (Z9 g (n'+1) cap) all:=⟨lI,hh,fun k e hF=>by
   have h5:=h4 k e;have h6:=hI.lt _ _ _ k k1 hF;omega,AV,by omega,by
   have:=aC List.length k4;rw[ae,bn]at this;omega⟩
 have post:∀(e:Ending) (w2:World),pd I F' (pG++[(all,wh&&!((bs m.2).toList==[35]))]) w' e w2->e=.returned (.tuple #[])/\pd I F tU W0 e w2:=fun e w2 ⟨p1,F2,p2,p3,p4⟩=>by
  refine⟨p1,p1,F2,by rw[<-k4];exact p2,(k2.on h3).trans p3 fun i hi hf=>?_,fun k hk=>?_⟩
  ·rcases k3 i hf with h|h
   ·exact h
   ·omega
  ·rcases p4 k hk with h|h
   ·exact k3 k h
   ·have:=(k2.on h3).size;exact Or.inr (by omega)
 refine⟨g,n',cap,bs m.2,_,rfl,⟨by omega,by omega,by rw[aD];omega⟩,a1,rfl,a_ ?_⟩;obtain⟨p,rfl,hc⟩:=PW;exact⟨p,rfl,(hc F' pG w' _ all _ pre).mono post⟩
end
section
variable{w w' w1 w2 WO wr W W0:World}{I:Inv}{F:Nat->Prop}{tU rest t acc:List Np}{fv:Value}
theorem QN(hI:xx I)(PW:X7 fv I)(s:fG)(hc:∀i x,s.get i=some x->x.iT=.nil):ace I fv s:=by
 intro F acc W ahead va vi vn vc wh h0 hm hap hs hne hlen hN;have X8:vn=s.len/\s.len<=1000/\s.len<=vc:=by
  rcases hs with⟨h,e⟩|⟨g,c,cur,e,_,_,hn,h0,_⟩
  ·cases e;exact⟨h.symm,by omega,by omega⟩
  ·cases e;exact⟨rfl,hn,h0.2⟩
 obtain⟨X8,hv1,hv2⟩:=X8;have M0:Hid (nJ I F (acc++(ow ahead s++[vg (ahead++gI s) wh])) W W (qD ahead s 0++[vg (ahead++gI s) wh])):=a_ (by rw[Jc];exact nJ.start h0);generalize hTO:acc++(ow ahead s++[vg (ahead++gI s) wh])=tU at*
 have pH:Hid (∀wr,nJ I F tU W wr (qD ahead s s.len++[vg (ahead++gI s) wh])->Z4 113 #[.slice (some ⟨wr.heap.size,0,none⟩) 2 2] (wr.alloc (.cells #[va,.slice vi vn vc] 169)) fun e w'=>∃g n cap X b,e=.returned (Z9 g (n+1) cap)/\(n<=1000/\(n:Int)<(n:Int)+1/\IntKind.i64.wrap ((n:Int)+1-1)=(n:Int))/\w'.cell? ⟨g,n*3+1,none⟩=some (.string X)/\(X.toList==[35])=b/\Hid (Dk I F tU W fv (Z9 g (n+1) cap) (wh&&!b) w')):=fun wr M=>by
  rw[MS,bR]at M;exact MU hI PW hN hm hap hs hne hlen M
 have HR:Hid (∀wr i,i<s.len->nJ I F tU W wr (qD ahead s i++[vg (ahead++gI s) wh])->∃g d X pi pc,vi=some ⟨g,0,none⟩/\(wr.cell? ⟨g,i*3,none⟩=some (.bool d)/\wr.cell? ⟨g,i*3+1,none⟩=some (.string X)/\wr.cell? ⟨g,i*3+2,none⟩=some (.slice pi 0 pc))/\(wr.alloc (.cells (aS d X (.slice pi 0 pc)) 173)).cell? ⟨wr.heap.size,2,none⟩=some (.slice pi 0 pc)/\Hid (nJ I F tU W (wr.alloc (.cells (aS d X (.slice pi 0 pc)) 173)) (qD ahead s (i+1)++[vg (ahead++gI s) wh]))):=a_ fun wr i hi M=>by
  obtain⟨x,hx⟩:=s.Ja i hi;have LM:=M.fr;obtain⟨g,e1,hgF,⟨cur,hgb⟩,a0,a1,u,a2,hp⟩:=hs.at hx;rw[hc i x hx]at hp;obtain⟨pi,pc,rfl,hpn⟩:=hp.len;have up:∀j u,W.cell? ⟨g,j,none⟩=some u->wr.cell? ⟨g,j,none⟩=some u:=fun j u hj=>(aj (LM.block g (eO hgb) hgF)).trans hj;have hB:=eL wr (.cells (aS x.deep (bs x.test) (.slice pi 0 pc)) 173);have hb0:=(Below.refl wr.heap.size wr).alloc (ah _) (.cells (aS x.deep (bs x.test) (.slice pi 0 pc)) 173);refine⟨g,_,_,pi,pc,e1,⟨up _ _ a0,up _ _ a1,up _ _ a2⟩,(I7 hB).2.2,a_ ?_⟩;rw[MR hx,hc i x hx,y7,bR]at M;exact M.below hI hb0
 obtain⟨ai,cap,rfl,hn,-⟩:=hm;obtain⟨RN,QO⟩:∃RN:Nat->World->Prop,∀i wr,RN i wr=nJ I F tU W wr (qD ahead s i++[vg (ahead++gI s) wh]):=⟨_,fun _ _=>rfl⟩
 simp only[<-QO]at M0 pH HR;rw[<-X8]at pH HR hv1 hv2;have HV:=a_ PW.val;clear QO h0 hap hs hne hlen hN hTO X8 hc hI PW hn;go_enter func81,ntmps81;go_wp2_with fail;go_loopw [8,9,11,15,16,17,18,19,20,21,22,23,24,25,26,27,28,29,30,31,32,33,34,35,36,37,38] (fun _ _ _ u15 _ _ _ _ _ _ _ _ _ _ _ _ _ _ _ _ _ _ _ _ _ _ _ wr=>∃i:Nat,u15=.int .i64 i/\i<=vn/\Hid (RN i wr)) (fun _ _ _ u15 _ _ _ _ _ _ _ _ _ _ _ _ _ _ _ _ _ _ _ _ _ _ _ _=>vn-(RowKit.intOf u15).toNat)
 case atStart=>exact⟨0,rfl,ax _,M0⟩
 case round=>
  rename World=>WO
  obtain⟨i,rfl,hi,HM⟩:=hrel;by_cases hlt:i<vn
  ·obtain⟨g,d,X,pi,pc,rfl,⟨a0,a1,a2⟩,c2,HE⟩:=HR.out _ i hlt HM.out;have hdec:decide ((i:Int)<vn)=true:=by simp;omega
   have LK:(i:Int)<vn:=by omega
   clear HR pH HM M0;go_wp2_with fail;clear a0 a1 a2 c2;generalize (WO.alloc (.cells (aS d X (.slice pi 0 pc)) 173))=W1 at*
   go_loopw [11,23,24,25,26,27,28,29,30,31,32,33,34,35,36,37] (fun _ u23 _ _ _ _ _ _ _ _ _ _ _ _ _ _ wr=>u23=.int .i64 0/\wr=W1) (fun _ u23 _ _ _ _ _ _ _ _ _ _ _ _ _ _ _=>0)
   case atStart=>exact⟨rfl,rfl⟩
   case round=>
    obtain⟨rfl,rfl⟩:=hrel;go_wp2;exact⟨⟨i+1,by simp,by omega,HE⟩,by simp only[RowKit.intOf];omega⟩
  ·have hdec:decide ((i:Int)<vn)=false:=by simp;omega
   obtain rfl:i=vn:=by omega
   have HE:=a_ (pH.out _ HM.out);clear HR pH HM M0;obtain⟨p,rfl⟩:=HV.out;cases wh with
   |false=>
    go_wp2_with(first|(go_at_call 113;refine HE.out.mono ?_;rintro e w6 ⟨g6,n6,acf,X6,b6,rfl,⟨hn6,hn7,hn8⟩,d3,yw,h6⟩;clear HE)|(go_at_call 47;refine h6.out.a.mono ?_;rintro e w7 ⟨rfl,h7⟩))
    go_end0
    exact h7
   |true=>
    go_wp2_with(first|(go_at_call 113;refine HE.out.mono ?_;rintro e w6 ⟨g6,n6,acf,X6,b6,rfl,⟨hn6,hn7,hn8⟩,d3,yw,h6⟩;clear HE hn7)|(go_at_call 47;refine h6.out.a.mono ?_;rintro e w7 ⟨rfl,h7⟩))
    go_end0
    exact h7
end
section
variable{w w' w1 w2 WO wr W W0:World}{I:Inv}{F:Nat->Prop}{tU rest t acc:List Np}{fv:Value}
def Vx(q:L):Prop:=(91:UInt8)∉q/\∃ls,parse q=.ok ls/\(pD ls).length<=1001/\∀p∈ls,p≠[]/\lS (fG.of p)<=1000/\∀x∈p,x.iT=.nil
theorem QP:∀(p:List jd) (i:Nat) (x:jd),(fG.of p).get i=some x->x∈p
 |[],i,x,h=>by cases h
 |s::p,0,x,h=>by cases h;exact bJ
 |s::p,i+1,x,h=>bO _ (QP p i x h)
def Je(I:Inv)(F:Nat->Prop)(acc:List Np)(W0:World)(qs:List L)(i:Nat)(wr:World):Prop:=∃F' pre,I F' (acc++pre) wr/\Fr F W0 wr/\(∀k,F' k->F k\/W0.heap.size<=k)/\(acc++pre).length+(qs.length-i)*1001<=y_/\needed 0 qs=(match needed i (qs.drop i)with| .error e=> .error e| .ok r=> .ok (pre++r))
def QQ(I:Inv)(F:Nat->Prop)(acc:List Np)(W:World)(qs:List L)(e:Ending)(w':World):Prop:=Fr F W w'/\match needed 0 qs with
 | .error y=>e=.returned (.tuple #[.int .i64 y.1,.int .i64 y.2.1,.int .i64 y.2.2])
 | .ok r=>e=.returned (.tuple #[.int .i64 0,.int .i64 0,.int .i64 0])/\∃F',I F' (acc++r) w'/\∀k,F' k->F k\/W.heap.size<=k
theorem U4.fr{v:Value}{l:List L}(h:U4 W0 v l)(hf:Fr F W0 wr)(ha:∀k,v.ownBlock=some k->¬F k):U4 wr v l:=by
 obtain⟨ai,cap,rfl,hn,hr⟩:=h;refine⟨ai,cap,rfl,hn,fun i m hm=>?_⟩;obtain⟨g,off,e,hg,h0⟩:=hr i m hm;subst e;exact⟨g,off,rfl,ak hg hf.size,(aj (hf.block g hg (ha g rfl))).trans h0⟩
theorem Dl{p:List jd}{si:Option Addr}{sn sc:Nat}(hI:xx I)(PW:X7 fv I)(hT:tU.length<=y_)(hs:um W0 (fun k=>¬F k) 173 212 (.slice si sn sc) (fG.of p))(hp:p≠[])(hl:lS (fG.of p)<=1000)(hc:∀x∈p,x.iT=.nil)(M:nJ I F tU W0 wr (Qp p++rest)):
  Z4 81 #[fv,.slice none 0 0,.slice si sn sc,.bool true] wr fun e w'=>e=.returned (.tuple #[])/\Hid (nJ I F tU W0 w' rest):=by
 have LM:=M.fr;have main:=M.part hI (Below.refl _ _) (f:=81) (args:=#[fv,.slice none 0 0,.slice si sn sc,.bool true]) fun F' pG k1 k3 k2 k4=>?_
 ·exact main.mono fun e w2 ⟨r1,r2,r3⟩=>⟨r1,r2⟩
 have hA:∀k,(k<W0.heap.size/\¬F k)->¬F' k:=fun k hk hF=>by
  rcases k2 k hF with h|h
  ·exact hk.2 h
  ·omega
 refine QN hI PW (fG.of p) (fun i x hx=>hc x (QP p i x hx)) F' pG wr [] (.slice none 0 0) si sn sc true k1 ⟨none,0,rfl,⟨by simp,by simp⟩,fun i m hm=>by simp at hm⟩ (fun k e=>by cases e) ((LM.um hs).on (Below.refl _ _) hA) (Or.inr ?_) (by simp only[km,cx,aq];omega) ?_
 ·rw[fG.wF];intro h;exact hp (aR h)
 ·exact nJ.len M hT k4
theorem MV{ls:List (List jd)}{j:Nat}{p:List jd}(h:ls[j]?=some p):pD (ls.drop j)=Qp p++pD (ls.drop (j+1)):=by
 obtain⟨hl,e⟩:=List.getElem?_eq_some_iff.1 h;rw[bX hl,e,pD,bV];rfl
theorem QS.at'{A:Nat->Prop}{ls:List (List jd)}{pi:Option Addr}{pn pc j:Nat}{p:List jd}(h:QS w A 169 173 212 (.slice pi pn pc) ls)(hj:ls[j]?=some p):∃g si sn sc,pi=some ⟨g,0,none⟩/\A g/\g<w.heap.size/\w.cell? ⟨g,j,none⟩=some (.slice si sn sc)/\um w A 173 212 (.slice si sn sc) (fG.of p):=by
 rcases h with⟨h,_⟩|⟨g,cap',cur,e,ha,hb,hn,h0,hr⟩
 ·have:=aR h;subst this;simp at hj
 ·cases e;obtain⟨u,h1,h2⟩:=hr j p hj;obtain⟨si,sc,rfl,_⟩:=h2.len;exact⟨g,si,_,sc,rfl,ha,eO hb,h1,h2⟩
end
section
variable{w w' w1 w2 WO wr W W0:World}{I:Inv}{F:Nat->Prop}{tU rest t acc:List Np}{fv:Value}
theorem Dm{qs:List L}{i:Nat}{q:L}{ls:List (List jd)}(hI:xx I)(PW:X7 fv I)(hq:qs[i]?=some q)(Fq:(91:UInt8)∉q)(hp:parse q=.ok ls)(x9:(pD ls).length<=1001)(tK:∀p∈ls,p≠[]/\lS (fG.of p)<=1000/\∀x∈p,x.iT=.nil)(M:Je I F acc W qs i wr):
  Z4 80 #[.string (bs q)] wr fun e w'=>∃pi pn pc,∃RR:Nat->World->Prop,e=.returned (.tuple #[.slice pi pn pc,.int .i64 0,.int .i64 0])/\pn<=1000/\Hid (RR 0 w')/\Hid (∀wr,RR pn wr->Je I F acc W qs (i+1) wr)/\
   Hid (∀wr j,j<pn->RR j wr->∃g si sn sc,pi=some ⟨g,0,none⟩/\wr.cell? ⟨g,j,none⟩=some (.slice si sn sc)/\Hid (Z4 81 #[fv,.slice none 0 0,.slice si sn sc,.bool true] wr fun e w'=>e=.returned (.tuple #[])/\Hid (RR (j+1) w'))):=by
 obtain⟨F',pre,m1,m2,m3,m4,m5⟩:=M;obtain⟨hl,e⟩:=List.getElem?_eq_some_iff.1 hq;rw[bX hl,e,needed,hp]at m5;have hlt:∀k,F' k->k<wr.heap.size:=fun k hk=>hI.lt _ _ _ k m1 hk;refine(pF q wr Fq).mono ?_;rintro e w1 ⟨h1,h2⟩;rw[hp]at h2;obtain⟨v,he,hv⟩:=h2;have hv0:QS w1 (fun b=>wr.heap.size<=b) 169 173 212 v ls:=hv;have Ls:∃pi pc,v=.slice pi ls.length pc/\ls.length<=1000:=by
  rcases hv0 with⟨h,rfl⟩|⟨g,cap,cur,rfl,_,_,hn,_⟩
  ·exact⟨_,_,by rw[h],by omega⟩
  ·exact⟨_,_,rfl,hn⟩
 obtain⟨pi,pc,rfl,hpn⟩:=Ls;have acg:(acc++pre++pD ls).length<=y_:=by
  have:1<=qs.length-i:=by omega
  have h3:1*1001<=(qs.length-i)*1001:=Nat.mul_le_mul_right _ this;rw[ae];omega
 have EZ:=hI.below _ _ _ _ m1 h1;refine⟨pi,_,pc,fun j wr'=>nJ I F' (acc++pre++pD ls) w1 wr' (pD (ls.drop j)),he,hpn,a_ ?_,a_ ?_,a_ ?_⟩
 ·exact nJ.start EZ
 ·rintro wr' ⟨F2,adp,k1,k2,k3,k4⟩;rw[dz,show pD []=[]from rfl,aO]at k4;subst k4;refine⟨F2,pre++pD ls,by rw[<-aM];exact k1,(m2.on h1).trans k2 fun k hk hF=>?_,fun k hk=>?_,?_,?_⟩
  ·rcases m3 k hF with h|h
   ·exact h
   ·omega
  ·rcases k3 k hk with h|h
   ·exact m3 k h
   ·have:=(m2.on h1).size;exact Or.inr (by omega)
  ·rw[<-aM,ae];have e3:qs.length-i=qs.length-(i+1)+1:=by omega
   rw[e3,Nat.add_mul]at m4;omega
  ·rw[m5];cases needed (i+1) (qs.drop (i+1))with
   |error e=>rfl
   |ok r=>simp
 ·intro wr' j hj M;have hpj:ls[j]?=some ls[j]:=aw hj;rw[MV hpj]at M;obtain⟨g,si,sn,sc,e1,hg,Iz,a0,hs⟩:=hv0.at' hpj;have hF:∀k,wr.heap.size<=k->¬F' k:=fun k hk hF=>by have:=hlt k hF;omega
  obtain⟨X9,hp2,X_⟩:=tK _ (bU hj);exact⟨g,si,sn,sc,e1,(aj (M.fr.block g Iz (hF g hg))).trans a0,a_ (Dl hI PW acg (hs.on (Below.refl _ _) hF) X9 hp2 X_ M)⟩
theorem Jf{qs:List L}(hQ:∀q∈qs,Vx q)(hI:xx I)(PW:X7 fv I)(v:Value)(h0:I F acc W)(hq:U4 W v qs)(hap:∀k,v.ownBlock=some k->¬F k)(hN:acc.length+qs.length*1001<=y_):Z4 48 #[fv,v] W (QQ I F acc W qs):=by
 have M0:Hid (Je I F acc W qs 0 W):=a_ ⟨F,[],by rw[aO];exact h0,Fr.refl _ _,fun k h=>Or.inl h,by simpa using hN,by rw[List.drop_zero];cases needed 0 qs<;>rfl⟩;have pH:Hid (∀wr,Je I F acc W qs qs.length wr->QQ I F acc W qs (.returned (.tuple #[.int .i64 0,.int .i64 0,.int .i64 0])) wr):=fun wr ⟨F',pre,m1,m2,m3,m4,m5⟩=>by
  rw[dz,needed]at m5;simp only[aO]at m5;refine⟨m2,?_⟩;rw[m5];exact⟨rfl,F',m1,m3⟩
 have HR:Hid (∀wr i,i<qs.length->Je I F acc W qs i wr->∃Q,(∃g off,(match v with| .slice ai _ _=>ai|_=>none)=some ⟨g,off,none⟩/\wr.cell? ⟨g,off+i,none⟩=some (.string Q))/\
   Hid (Z4 80 #[.string Q] wr fun e w'=>∃pi pn pc,∃RR:Nat->World->Prop,e=.returned (.tuple #[.slice pi pn pc,.int .i64 0,.int .i64 0])/\pn<=1000/\Hid (RR 0 w')/\Hid (∀wr,RR pn wr->Je I F acc W qs (i+1) wr)/\
   Hid (∀wr j,j<pn->RR j wr->∃g si sn sc,pi=some ⟨g,0,none⟩/\wr.cell? ⟨g,j,none⟩=some (.slice si sn sc)/\Hid (Z4 81 #[fv,.slice none 0 0,.slice si sn sc,.bool true] wr fun e w'=>e=.returned (.tuple #[])/\Hid (RR (j+1) w'))))):=fun wr i hi M=>by
  have hx:qs[i]?=some qs[i]:=aw hi;have LM:Fr F W wr:=by obtain⟨_,_,_,h,_⟩:=M;exact h
  obtain⟨ai,cap,e,hn,hr⟩:=hq.fr LM hap;obtain⟨g,off,e2,hg,h1⟩:=hr i _ hx;refine⟨_,⟨g,off,by rw[e];exact e2,h1⟩,?_⟩;obtain⟨Fq,ls,hp,x9,tK⟩:=hQ _ (bU hi);exact a_ (Dm hI PW hx Fq hp x9 tK M)
 obtain⟨ai,cap,rfl,hn,-⟩:=hq;simp only at HR;obtain⟨RN,QO⟩:∃RN:Nat->World->Prop,∀i wr,RN i wr=Je I F acc W qs i wr:=⟨_,fun _ _=>rfl⟩
 simp only[<-QO]at M0 pH HR;have x9:=hn.1;clear QO h0 hap hN hI PW hn hQ;generalize qs.length=n at*
 go_enter func48,ntmps48;go_wp2_with fail;go_loopw [4,5,6,7,8,9,10,11,13,16,17,18,19,20,21,22,23,24,25,26,27,28,29,30,31,32,33,34,35,36,37,38,39,40,41,42,43] (fun _ _ _ _ _ _ _ _ _ u16 _ _ _ _ _ _ _ _ _ _ _ _ _ _ _ _ _ _ _ _ _ _ _ _ _ _ _ wr=>∃i:Nat,u16=.int .i64 i/\i<=n/\Hid (RN i wr)) (fun _ _ _ _ _ _ _ _ _ u16 _ _ _ _ _ _ _ _ _ _ _ _ _ _ _ _ _ _ _ _ _ _ _ _ _ _ _ _=>n-(RowKit.intOf u16).toNat)
 case atStart=>exact⟨0,rfl,ax _,M0⟩
 case round=>
  rename World=>WO
  obtain⟨i,rfl,hi,HM⟩:=hrel;by_cases hlt:i<n
  ·obtain⟨Q,⟨g,off,rfl,c0⟩,hh⟩:=HR.out _ i hlt HM.out;have hdec:decide ((i:Int)<n)=true:=by simp;omega
   have LK:(i:Int)<n:=by omega
   have hwr:IntKind.i64.wrap ((i:Int)+1)=(i:Int)+1:=by rw[aD];omega
   clear HR pH HM M0;have HO:=hh;clear hh
   ·go_wp2_with(go_at_call 80;refine HO.out.mono ?_;rintro e w7 ⟨pi,pn,pc,RR,rfl,hpn,HR0,HRE,HRR⟩;clear HO);clear c0;go_loopw [13,35,36,37,38,39,40,41,42] (fun _ u35 _ _ _ _ _ _ _ wr=>∃j:Nat,u35=.int .i64 j/\j<=pn/\Hid (RR j wr)) (fun _ u35 _ _ _ _ _ _ _ _=>pn-(RowKit.intOf u35).toNat)
    case atStart=>exact⟨0,rfl,ax _,HR0⟩
    case round=>
     rename World=>WP
     obtain⟨j,rfl,hj,HJ⟩:=hrel;by_cases hlj:j<pn
     ·obtain⟨g',si,sn,sc,rfl,a0,HD⟩:=HRR.out _ j hlj HJ.out;have hdj:decide ((j:Int)<pn)=true:=by simp;omega
      have hjj:(j:Int)<pn:=by omega
      clear HRR HJ HR0 HRE;go_wp2_with(go_at_call 81;refine HD.out.mono ?_;rintro e w8 ⟨rfl,h8⟩;clear HD);exact⟨⟨j+1,by simp,by omega,h8⟩,by simp only[RowKit.intOf];omega⟩
     ·have hdj:decide ((j:Int)<pn)=false:=by simp;omega
      obtain rfl:j=pn:=by omega
      have HE:=a_ (HRE.out _ HJ.out);clear HRR HJ HR0 HRE;go_wp2;exact⟨⟨i+1,by simp,by omega,HE⟩,by simp only[RowKit.intOf];omega⟩
  ·have hdec:decide ((i:Int)<n)=false:=by simp;omega
   obtain rfl:i=n:=by omega
   go_wp2;refine aV (v:=.tuple #[.int .i64 0,.int .i64 0,.int .i64 0]) (by simp[results,results48,go_sem]) rfl (pH.out _ HM.out)
end
end Go.Proofs.YtjecakcpcnmieaaGreatDoor
