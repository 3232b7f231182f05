import Derived.Test.YtclgfepngpeifaaGreatDoorYA
import Derived.Test.YtclgfepngpeifaaGreatDoorYat
import Derived.Test.YtclgfepngpeifaaGreatDoorYas
set_option linter.unusedVariables false
set_option linter.unusedSimpArgs false
set_option maxHeartbeats 32000000
set_option maxRecDepth 100000
namespace Go.Proofs.YtclgfepngpeifaaGreatDoor
namespace K
open Go.RowKit Go.Lib Tryz
section
variable{s:ByteArray}{p:Nat}{c:Int}{x y z:Sc}{q:Bool}
theorem Ky(h:0<=cur s p):Ch.may (cur s p)=true:=by
 have hc:=eK h;have h1:Ch.fQ s p=true:=hc.2.1;rw[hc.2.2.1];simp only[Ch.fQ,aT]at h1;exact h1.1
theorem fX.nil:fX []:=⟨[],fun c hc=>by simp at hc,rfl⟩
theorem fX.one(h:Ch.may c=true):fX (Lib.encodeRune c):=⟨[c],fun d hd=>by simp at hd;rw[hd];exact h,by simp[vw]⟩
theorem fX.add{a b:List UInt8}(h:fX a)(k:fX b):fX (a++b):=by
 obtain⟨cs,h1,h2⟩:=h;obtain⟨ds,k1,k2⟩:=k;refine⟨cs++ds,fun c hc=>?_,by rw[h2,k2];simp[vw]⟩;rcases List.mem_append.1 hc with e|e
 ·exact h1 c e
 ·exact k1 c e
theorem BW(he:x.err=0)(jY:Nat)(hb:32<=jY/\jY<128)(h:(x.char s jY).1.err=0):fX (x.char s jY).2.data.toList:=by
 rw[uH he jY hb]at h ⊢;split
 ·rename_i h1;rw[if_pos h1]at h;exact absurd h (eO x s he)
 ·rename_i h1;rw[if_neg h1]at h;split
  ·rename_i h2;rw[if_pos h2]at h;split
   ·rename_i h3;rw[if_pos h3]at h;exact absurd h (mU x 4 x.i he (by decide))
   ·rename_i h3;have:=Ch.iN h3;exact fX.one this.1
  ·have h0:0<=cur s x.i:=by omega
   rw[gL,show x.i+wid s x.i-x.i=wid s x.i by omega,<-lJ h0];exact fX.one (Ky h0)
theorem MP(Q:Nat)(hQ:32<=Q/\Q<128):∀(f:Nat) (x:Sc) (t:List UInt8),fX t->(iO s Q f x t).1.err=0->fX (iO s Q f x t).2:=by
 intro f;induction f with
 |zero=>intro x t ht _;exact ht
 |succ f ih=>
  intro x t ht h;simp only[iO]at h ⊢;split
  ·rename_i h1;rw[if_pos h1]at h;by_cases hc:(x.char s Q).1.err=0
   ·exact ih _ _ (ht.add (BW h1.1 Q hQ hc)) h
   ·have hv:∀f t,iO s Q f (x.char s Q).1 t=((x.char s Q).1,t):=by
     intro f t;cases f with
     |zero=>rfl
     |succ f=>simp only[iO];rw[if_neg (fun e=>hc e.1)]
    rw[hv]at h;exact absurd h hc
  ·exact ht
theorem Je(he:x.err=0)(h:(x.value s).1.err=0):fX (x.value s).2:=by
 rw[qC he]at h ⊢;split
 ·rename_i h1;rw[if_pos h1]at h;exact MP _ (by rcases h1 with e|e<;>rw[e]<;>decide) _ _ _ fX.nil h
 ·exact fX.nil
theorem Ga(t:ByteArray)(hz:t.size≠0)(fI:Nat):∀(f:Nat) (x:Sc),x.err=0->fI<=x.i->fX (Ch.bytes s fI (x.i-fI))->fX (fS s t fI f x).2.data.toList:=by
 intro f;induction f with
 |zero=>intro x _ _ _;exact fX.nil
 |succ f ih=>
  intro x he hf ht;rw[mX _ _ _ _ _ he hz];split
  ·rw[gL];exact ht
  ·split
   ·rename_i h0;refine ih _ he (by show fI<=x.i+wid s x.i;omega) ?_;have hb:=oH s fI (x.i-fI) (wid s x.i);rw[show fI+(x.i-fI)=x.i by omega]at hb;show fX (Ch.bytes s fI (x.i+wid s x.i-fI));rw[show x.i+wid s x.i-fI=x.i-fI+wid s x.i by omega,<-hb,<-lJ h0];exact ht.add (fX.one (Ky h0))
   ·rw[ja _ _ _ _ _ (eO x s he)];exact fX.nil
theorem DB(he:x.err≠0)(l:List UInt8):(Sc.ey s l x).err≠0:=by
 cases l with
 |nil=>exact he
 |cons u l=>simp only[Sc.ey];rw[if_neg he];exact he
theorem DC(h:(x.name s).1.err=0):nh (x.name s).2.data.toList:=by
 by_cases he:x.err=0
 ·by_cases hb:Ch.eG (cur s x.i)=true
  ·rw[(kV he hb).2];exact⟨s,x.i,hb,rfl⟩
  ·rw[nL he hb]at h;exact absurd h (eO x s he)
 ·unfold Sc.name at h;rw[if_neg he]at h;exact absurd h he
theorem Ui{l:lK}(h:(x.attr s l).1.err=0):nh (x.attr s l).2.1/\fX (x.attr s l).2.2/\l.any (fun b=>b.1==(x.attr s l).2.1)=false:=by
 unfold Sc.attr at h ⊢;split
 ·rename_i h1;rw[if_pos h1]at h;have h2:(x.gz s l).err=0:=by
   refine bE fun e=>?_;have:(Sc.ey s [61] ((x.gz s l).eD s)).err≠0:=DB (show ((x.gz s l).eD s).err≠0 from e) _;exact this h1
  have h3:l.any (fun a=>a.1==(x.name s).2.data.toList)=false/\(x.name s).1.err=0:=by
   unfold Sc.gz at h2;split at h2
   ·by_cases hn:(x.name s).1.err=0
    ·exact absurd h2 (mU _ 5 x.i hn (by decide))
    ·unfold Sc.fail at h2;rw[if_neg hn]at h2;exact absurd h2 hn
   ·rename_i h4;exact⟨Bool.eq_false_iff.2 h4,h2⟩
  exact⟨DC h3.2,Je h1 h,h3.1⟩
 ·rename_i h1;rw[if_neg h1]at h;exact absurd h h1
theorem Gb:∀(a b l:lK),qI l (a++b)↔qI l a/\qI (l++a) b:=by
 intro a;induction a with
 |nil=>intro b l;simp[qI]
 |cons u a ih=>
  intro b l;simp only[aZ,qI,ih,and_assoc,aV,dD];simp
theorem MQ:∀(f:Nat) (x:Sc) (l:lK),(∀a∈l,nh a.1/\fX a.2)->qI [] l->(eB s f x l).1.err=0->(∀a∈(eB s f x l).2,nh a.1/\fX a.2)/\qI [] (eB s f x l).2:=by
 intro f;induction f with
 |zero=>intro x l h1 h2 _;exact⟨h1,h2⟩
 |succ f ih=>
  intro x l h1 h2 h;simp only[eB]at h ⊢;split
  ·exact⟨h1,h2⟩
  ·rename_i h3;rw[if_neg h3]at h;by_cases ha:((x.eD s).attr s l).1.err=0
   ·obtain⟨a1,a2,a3⟩:=Ui ha;refine ih _ _ ?_ ?_ h
    ·intro a hm;rcases List.mem_append.1 hm with e|e
     ·exact h1 a e
     ·rw[List.mem_singleton.1 e];exact⟨a1,a2⟩
    ·rw[Gb];exact⟨h2,by simpa [qI]using a3⟩
   ·rw[jO ha]at h;exact absurd h ha
def Inv(x:Sc):Prop:=fX x.more/\nN false x.l/\ends false x.l=false
theorem Inv.same(h:Inv x)(k:fY x y):Inv y:=by
 obtain⟨a,b,d⟩:=h;exact⟨by rw[k.2.1];exact a,by rw[k.1];exact b,by rw[k.1];exact d⟩
theorem Inv.told{t:fe}(h:Inv x)(ht:x.err=0->zt t/\t.kind≠3):Inv (x.told t):=by
 by_cases he:x.err=0
 ·obtain⟨h1,h2,h3⟩:=h;obtain⟨t1,t2⟩:=ht he;rw[Dg he];refine⟨fX.nil,?_,?_⟩
  ·simp only;rw[pk];split
   ·rw[h3];exact⟨h2,t1,fun e=>absurd e t2,trivial⟩
   ·rename_i hm;rw[pk,wO,h3];refine⟨⟨h2,Or.inr (Or.inr ⟨rfl,rfl,rfl,h1,hm⟩),fun _=>rfl,trivial⟩,t1,fun e=>absurd e t2,trivial⟩
  ·simp only;rw[wO];simp only[ends];simpa using t2
 ·rw[j3 he];exact h
theorem xH{k:Int}{n:List UInt8}{l:lK}{t:List UInt8}{a:Int}(h:k≠3):(⟨k,n,l,t,a⟩:fe).kind≠3:=h
theorem DF{nm:List UInt8}{l:lK}{tg:Int}(h:Inv x)(hn:x.err=0->nh nm/\(∀a∈l,nh a.1/\fX a.2)/\qI [] l):Inv (x.jb s nm l tg):=by
 unfold Sc.jb;have hm:∀y:Sc,y.err=x.err->((Sc.ey s [62] y).err=0->x.err=0):=by
  intro y hy e;refine bE fun e2=>?_;exact DB (s:=s) (x:=y) (by rw[hy];exact e2) [62] e
 split
 ·have i1:=(h.same (og x (x.i+1))).same (ij s [62] _);have i2:=i1.told (t:=⟨1,nm,l,[],tg⟩) (fun e=>by
   obtain⟨a,b,d⟩:=hn (hm {x with i:=x.i+1} rfl e);exact⟨Or.inl ⟨rfl,a,b,d,rfl⟩,xH (by decide)⟩)
  exact i2.told (fun e=>by
   rw[nZ]at e;obtain⟨a,b,d⟩:=hn (hm {x with i:=x.i+1} rfl e);exact⟨Or.inr (Or.inl ⟨rfl,a,rfl,rfl⟩),xH (by decide)⟩)
 ·have i1:=h.same (ij s [62] x);exact i1.told (t:=⟨1,nm,l,[],tg⟩) (fun e=>by
   obtain⟨a,b,d⟩:=hn (hm _ rfl e);exact⟨Or.inl ⟨rfl,a,b,d,rfl⟩,xH (by decide)⟩)
theorem Gc{tg:Int}(h:Inv x):Inv (x.ko s tg):=by
 unfold Sc.ko;refine DF ((h.same (np x s)).same (Dx _ s)) fun e=>?_;have hn:(x.name s).1.err=0:=by
  refine bE fun e2=>?_;unfold Sc.attrs at e;rw[jO e2]at e;exact e2 e
 have ha:=MQ (s:=s) (s.size+2) (x.name s).1 [] (fun a hm=>by simp at hm) trivial e;exact⟨DC hn,ha.1,ha.2⟩
theorem DG{tg:Int}(h:Inv x):Inv (x.jB s tg):=by
 unfold Sc.jB;refine(((h.same (np x s)).same (nj _ s)).same (ij s [62] _)).told fun e=>?_;have hn:(x.name s).1.err=0:=by
  refine bE fun e2=>?_;exact DB (s:=s) (x:=(x.name s).1.eD s) e2 [62] e
 exact⟨Or.inr (Or.inl ⟨rfl,DC hn,rfl,rfl⟩),xH (by decide)⟩
theorem MR(h:Inv x)(he:x.err=0):Inv (x.sL s):=by
 unfold Sc.sL;have h1:=(h.same (ij s [91,67,68,65,84,65,91] x)).same (mn _ s ⟨#[93,93,62]⟩);split
 ·rename_i hc;refine⟨?_,h1.2.1,h1.2.2⟩;refine h1.1.add ?_;by_cases hm:(Sc.ey s [91,67,68,65,84,65,91] x).err=0
  ·exact Ga _ (by decide) _ _ _ hm (au _) (by rw[Nat.sub_self];exact fX.nil)
  ·unfold Sc.until at hc;rw[ja _ _ _ _ _ hm]at hc;exact absurd hc.1 hm
 ·exact h1
theorem Jf(h:Inv x)(he:x.err=0):Inv (x.j8 s):=by
 unfold Sc.j8 Sc.behind;have h1:=h.same (og x (x.i+1));split
 ·unfold Sc.nW;have h2:=h1.same (og _ (x.i+1+1));split
  ·exact MR h2 he
  ·unfold Sc.remark;exact((h2.same (ij s [45,45] _)).same (mn _ s _)).same (ij s [62] _)
 ·split
  ·unfold Sc.order;have h2:=h1.same (og _ (x.i+1+1));exact(h2.same (np _ s)).same (mn _ s _)
  ·split
   ·exact DG (h1.same (og _ (x.i+1+1)))
   ·exact Gc h1
theorem MS(h:Inv x)(he:x.err=0):Inv (x.piece s):=by
 unfold Sc.piece;split
 ·exact Jf h he
 ·have h1:=h.same (zu x s 60);split
  ·rename_i hc;exact⟨h1.1.add (BW he 60 (by omega) hc),h1.2.1,h1.2.2⟩
  ·exact h1
theorem BZ:∀(f:Nat) (x:Sc),Inv x->Inv (iy s f x):=by
 intro f;induction f with
 |zero=>intro x h;exact h
 |succ f ih=>
  intro x h;simp only[iy];split
  ·rename_i hc;exact ih _ (MS h hc.2)
  ·exact h
theorem uP(s:ByteArray):nN false (ly s).1:=by
 have h:Inv (ei s):=BZ _ _ ⟨fX.nil,trivial,rfl⟩;unfold ly;split
 ·trivial
 ·rename_i he;have he:(ei s).err=0:=by simpa using he
  simp only;rw[pk,h.2.2];refine⟨h.2.1,?_⟩;unfold Sc.last;split
  ·trivial
  ·rename_i hm;exact⟨Or.inr (Or.inr ⟨rfl,rfl,rfl,h.1,fun e=>hm (Or.inr e)⟩),fun _=>rfl,trivial⟩
end
section
variable{g:Gr}{l:List Nd}{n n':Nd}{k L:Nat}{st:List Nat}{t:fe}
structure pL(l:List Nd):Prop where
 zero:∀n,l[0]?=some n->n.up= -1/\n.name≠[]
 up:∀(i:Nat) n,l[i+1]?=some n->∃u:Nat,n.up=u/\u<=i/\∃m,l[u]?=some m/\m.name≠[]
 nd:∀(k:Nat) n,l[k]?=some n->n.kids.Nodup/\qI [] n.attrs
 kid:∀(k:Nat) n,l[k]?=some n->∀x:Nat,x∈n.kids↔∃m,l[x]?=some m/\m.up=(k:Int)
structure GrN(g:Gr):Prop where
 tree:pL g.nodes
 none:g.nodes=[]->g.stack=[]
 named:∀k∈g.stack,∃n,g.nodes[k]?=some n/\n.name≠[]
theorem vQ(hs:g.stack=k::st){i:Nat}{m:Nd}(h:(g.put n).nodes[i]?=some m):(i<g.nodes.length/\∃o,g.nodes[i]?=some o/\m.up=o.up/\m.name=o.name/\m.attrs=o.attrs/\m.kids=if i=k then o.kids++[g.nodes.length]else o.kids)\/(i=g.nodes.length/\m={n with up:=(k:Int)}):=by
 unfold Gr.put at h;rw[hs]at h;simp only at h;by_cases hi:i<g.nodes.length
 ·rw[aU (by rw[fP];exact hi),mF]at h;refine Or.inl ⟨hi,?_⟩;by_cases hk:i=k
  ·rw[if_pos hk]at h;obtain⟨o,ho,rfl⟩:=Option.map_eq_some_iff.1 h;exact⟨o,ho,rfl,rfl,rfl,by rw[if_pos hk];rfl⟩
  ·rw[if_neg hk]at h;exact⟨m,h,rfl,rfl,rfl,by rw[if_neg hk]⟩
 ·rw[aW (by rw[fP];omega),fP]at h;have:=(List.getElem?_eq_some_iff.1 h).1;simp only[aC,aI]at this;have e:i=g.nodes.length:=by omega
  rw[e,Nat.sub_self]at h;exact Or.inr ⟨e,by simpa using h.symm⟩
theorem Ge(G:GrN g)(hk:n.kids=[])(hd:qI [] n.attrs)(h0:g.stack=[]->g.nodes=[]/\n.name≠[]):pL (g.put n).nodes/\∀k∈g.stack,∃m,(g.put n).nodes[k]?=some m/\m.name≠[]:=by
 cases hs:g.stack with
 |nil=>
  obtain⟨h1,h2⟩:=h0 hs;have e:(g.put n).nodes=[{n with up:= -1}]:=by unfold Gr.put;rw[hs];simp[h1]
  rw[e];refine⟨⟨fun m hm=>?_,fun i m hm=>by simp at hm,fun i m hm=>?_,fun i m hm x=>?_⟩,fun k hk=>by simp at hk⟩
  ·obtain rfl:_=m:=by simpa using hm
   exact⟨rfl,h2⟩
  ·cases i with
   |zero=>
    obtain rfl:_=m:=by simpa using hm
    exact⟨by simp[hk],hd⟩
   |succ i=>simp at hm
  ·cases i with
   |zero=>
    obtain rfl:_=m:=by simpa using hm
    refine⟨fun h=>by simp[hk]at h,fun⟨m,h1,h2⟩=>?_⟩;cases x with
    |zero=>
     obtain rfl:_=m:=by simpa using h1
     simp at h2
    |succ x=>simp at h1
   |succ i=>simp at hm
 |cons k st=>
  have T:=G.tree;obtain⟨nk,hnk,D6⟩:=G.named k (by rw[hs];exact cu);have vB:k<g.nodes.length:=(List.getElem?_eq_some_iff.1 hnk).1;have keep:∀(i:Nat) m,g.nodes[i]?=some m->∃m',(g.put n).nodes[i]?=some m'/\m'.up=m.up/\m'.name=m.name:=fun i m h=>by
   obtain⟨m',h1,h2,h3,_⟩:=F3 g n i m h;exact⟨m',h1,h2,h3⟩
  have last:=qH g n;rw[hs]at last;have LF:∀(i:Nat) o,g.nodes[i]?=some o->o.up≠g.nodes.length:=fun i o ho e=>by
   cases i with
   |zero=>have:=(T.zero o ho).1;omega
   |succ i=>
    obtain⟨u,h1,h2,-⟩:=T.up i o ho;have:=(List.getElem?_eq_some_iff.1 ho).1;omega
  refine⟨⟨fun m hm=>?_,fun i m hm=>?_,fun i m hm=>?_,fun i m hm x=>?_⟩,fun j hj=>?_⟩
  ·rcases vQ hs hm with⟨_,o,ho,e1,e2,_⟩|⟨e,_⟩
   ·have:=T.zero o ho;rw[e1,e2];exact this
   ·omega
  ·rcases vQ hs hm with⟨_,o,ho,e1,e2,_⟩|⟨e,rfl⟩
   ·obtain⟨u,h1,h2,m2,h3,h4⟩:=T.up i o ho;obtain⟨m3,h5,_,h6⟩:=keep u m2 h3;exact⟨u,e1.trans h1,h2,m3,h5,by rw[h6];exact h4⟩
   ·obtain⟨m3,h5,_,h6⟩:=keep k nk hnk;exact⟨k,rfl,by omega,m3,h5,by rw[h6];exact D6⟩
  ·rcases vQ hs hm with⟨hi,o,ho,e1,e2,e3,e4⟩|⟨e,rfl⟩
   ·obtain⟨h1,h2⟩:=T.nd i o ho;rw[e3,e4];refine⟨?_,h2⟩;split
    ·refine List.nodup_append.2 ⟨h1,by simp,fun a ha b hb e=>?_⟩;obtain⟨m2,h3,-⟩:=(T.kid i o ho a).1 ha;have:=(List.getElem?_eq_some_iff.1 h3).1;simp at hb;omega
    ·exact h1
   ·exact⟨by simp[hk],hd⟩
  ·rcases vQ hs hm with⟨hi,o,ho,e1,e2,e3,e4⟩|⟨e,rfl⟩
   ·rw[e4];have old:=T.kid i o ho x;constructor
    ·intro hx;have:x∈o.kids\/(i=k/\x=g.nodes.length):=by
      split at hx
      ·rename_i hik;rcases List.mem_append.1 hx with h|h
       ·exact Or.inl h
       ·exact Or.inr ⟨hik,by simpa using h⟩
      ·exact Or.inl hx
     rcases this with h|⟨rfl,rfl⟩
     ·obtain⟨m2,h1,h2⟩:=old.1 h;obtain⟨m3,h3,h4,-⟩:=keep x m2 h1;exact⟨m3,h3,h4.trans h2⟩
     ·exact⟨_,last,rfl⟩
    ·rintro⟨m2,h1,h2⟩;rcases vQ hs h1 with⟨hx,o2,RY,f1,-⟩|⟨rfl,rfl⟩
     ·have:=old.2 ⟨o2,RY,f1.symm.trans h2⟩;split
      ·exact List.mem_append_left _ this
      ·exact this
     ·have:i=k:=by simp only at h2;omega
      rw[if_pos this];simp
   ·simp only[hk];refine⟨fun h=>by simp at h,fun⟨m2,h1,h2⟩=>?_⟩;rcases vQ hs h1 with⟨hx,o2,RY,f1,-⟩|⟨rfl,rfl⟩
    ·exact absurd (f1.symm.trans (h2.trans (by rw[e]))) (LF x o2 RY)
    ·simp only at h2;omega
  ·rw[<-hs]at hj;obtain⟨m,h1,h2⟩:=G.named j hj;obtain⟨m3,h3,_,h4⟩:=keep j m h1;exact⟨m3,h3,by rw[h4];exact h2⟩
theorem vR{n:List UInt8}(h:nh n):n≠[]:=by
 obtain⟨s,q,h1,rfl⟩:=h;have hi:xl (cur s q)=true:=by unfold xl;rw[h1];rfl
 obtain⟨h2,_,_,h3,h4⟩:=eK (nI hi);have h5:=kh hi;have h6:=rE s (q+wid s q);have h7:=nJ (s:=s) (i:=q) (by omega);intro e;have:=BU s q (ju s q-q) (by omega);rw[e,aI]at this;omega
theorem MT(G:GrN g)(ht:zt t)(h:(g.take t).1=0):GrN (g.take t).2:=by
 unfold Gr.take at h ⊢;split
 ·rename_i h1;rw[if_pos h1]at h;have hn:nh t.name/\qI [] t.attrs:=by
   rcases ht with⟨_,a,_,b,_⟩|⟨e,_⟩|⟨e,_⟩
   ·exact⟨a,b⟩
   ·omega
   ·omega
  split
  ·exact G
  ·rename_i h2;split
   ·exact G
   ·have hput:=Ge (n:=elemOf t) G rfl hn.2 (fun e=>⟨by simpa [e]using h2,vR hn.1⟩);have B6:=qH g (elemOf t);refine⟨hput.1,fun e=>?_,fun k hk=>?_⟩
    ·simp only at e;rw[e]at B6;simp at B6
    ·rcases List.mem_cons.1 hk with e|e
     ·exact⟨_,by rw[e];exact B6,vR hn.1⟩
     ·exact hput.2 k e
 ·rename_i h1;rw[if_neg h1]at h;split
  ·rename_i h2;rw[if_pos h2]at h;split
   ·exact G
   ·rename_i k st hs;split
    ·exact⟨G.tree,fun e=>by have:=G.none e;rw[hs]at this;simp at this,fun j hj=>G.named j (by rw[hs];exact dH _ hj)⟩
    ·exact G
  ·split
   ·split<;>exact G
   ·rename_i k st hs;have hput:=Ge (n:=jd t) G rfl trivial (fun e=>by rw[hs]at e;simp at e);have B6:=qH g (jd t);refine⟨hput.1,fun e=>?_,fun k hk=>?_⟩
    ·rw[e]at B6;simp at B6
    ·rw[mG]at hk;exact hput.2 k hk
theorem B7:∀(l:List fe) (g:Gr) (b:Bool),GrN g->nN b l->(grow g l).1=0->GrN (grow g l).2.2
 |[],g,b,G,_,_=>G
 |t::l,g,b,G,hc,h=>by
  simp only[grow]at h ⊢;split at h
  ·rename_i h1;exact absurd h h1
  ·rename_i h1;rw[if_neg h1];exact B7 l _ _ (MT G hc.1 (by simpa using h1)) hc.2.2 h
theorem DI{s:ByteArray}(h:(eZ s).2.1=0):pL (eZ s).1/\0<(eZ s).1.length:=by
 unfold eZ at h ⊢;split
 ·rename_i h1;rw[if_pos h1]at h;exact absurd h h1
 ·rename_i h1;rw[if_neg h1]at h;split
  ·rename_i h2;rw[if_pos h2]at h;exact absurd h h2
  ·rename_i h2;rw[if_neg h2]at h;split
   ·rename_i h3;rw[if_pos h3]at h;simp at h
   ·rename_i h3;have hc:nN false ((ei s).l++(ei s).last):=by
     have:=uP s;unfold ly at this;rwa[if_neg (by simpa using h2)]at this
    have G:=B7 _ Gr.zero _ ⟨⟨fun n h=>by simp[Gr.zero]at h,fun i n h=>by simp[Gr.zero]at h,fun i n h=>by simp[Gr.zero]at h,fun i n h=>by simp[Gr.zero]at h⟩,fun _=>rfl,fun k h=>by simp[Gr.zero]at h⟩ hc (by simpa using h1);refine⟨G.tree,List.length_pos_iff.2 fun e=>h3 (Or.inr e)⟩
end
inductive Fo where
 |nil
 |text (t:List UInt8) (rest:Fo)
 |elem (n:List UInt8) (a:lK) (kids rest:Fo)
def Fo.size:Fo->Nat
 | .nil=>0
 | .text _ r=>1+r.size
 | .elem _ _ k r=>1+k.size+r.size
def Fo.deep:Fo->Nat
 | .nil=>0
 | .text _ r=>r.deep
 | .elem _ _ k r=>max (1+k.deep) r.deep
theorem sR(m:List Nd):∀(l:List Nd) (k j:Nat),k<l.length->fJ (l++m) k j=fJ l k j++m
 |[],k,j,h=>by simp at h
 |n::l,0,j,_=>rfl
 |n::l,k+1,j,h=>by simp only[aZ,fJ,sR m l k j (by simpa using h)]
theorem Gf(l:List Nd)(k j i:Nat):((fJ l k j)[i]?).map Nd.name=(l[i]?).map Nd.name:=by
 rw[mF];split
 ·cases l[i]?<;>rfl
 ·rfl
theorem vS(g:Gr)(k:Nat)(n:List UInt8):g.named k n=true↔(g.nodes[k]?).map Nd.name=some n:=by unfold Gr.named;cases g.nodes[k]?<;>simp
theorem QC(g:Gr)(n:Nd)(i:Nat)(hi:i<g.nodes.length):((g.put n).nodes[i]?).map Nd.name=(g.nodes[i]?).map Nd.name:=by
 unfold Gr.put;split
 ·rw[aU hi]
 ·rename_i k _ _;rw[aU (by rw[fP];exact hi),Gf]
section
variable{s:ByteArray}{p:Nat}{c:Int}{x y z:Sc}{q:Bool}
theorem uQ(q:Bool):∀l:List UInt8,(Ch.rX q l).length<=6*l.length
 |[]=>au _
 |u::l=>by
  have e1:Ch.rX q (u::l)=Ch.Ad q u++Ch.rX q l:=by simp[Ch.rX]
  have ih:=uQ q l;have h1:(Ch.Ad q u).length<=6:=by
   unfold Ch.Ad Ch.nR
   repeat' split
   all_goals simp
  rw[e1,ax,aC];omega
def cost(l:List fe):Nat:=(l.flatMap jl).length
theorem qJ(a b:List fe):cost (a++b)=cost a+cost b:=by simp[cost]
def jP(x:Sc):Nat:=cost x.l+(if x.more=[]then 0 else 6*x.more.length+27)
theorem rL(x:Sc)(t:fe):jP (x.told t)<=jP x+(jl t).length:=by
 by_cases he:x.err=0
 ·rw[Dg he];unfold jP;simp only[if_true];rw[qJ];have h1:cost [t]=(jl t).length:=by simp[cost]
  split
  ·omega
  ·have h2:cost [gi x]<=6*x.more.length+27:=by
    have h3:cost [gi x]=(jl (gi x)).length:=by simp[cost]
    have h4:jl (gi x)=Ch.rX false x.more++marks:=rfl;have h5:=uQ false x.more;have h6:marks.length=27:=rfl;rw[h3,h4,ax];omega
   rw[qJ];omega
 ·rw[j3 he];omega
theorem je(h:fY x y):jP y=jP x:=by unfold jP;rw[h.1,h.2.1]
theorem vT(h:(x.name s).1.err=0):(x.name s).1.i=x.i+(x.name s).2.data.toList.length/\1<=(x.name s).2.data.toList.length:=by
 by_cases he:x.err=0
 ·by_cases hb:Ch.eG (cur s x.i)=true
  ·have ou:xl (cur s x.i)=true:=by unfold xl;rw[hb];rfl
   have h0:0<=cur s x.i:=nI ou;have hc:=eK h0;have hle:ju s x.i<=s.size:=nJ (by omega);have NV:x.i<ju s x.i:=by
    have:=rE s (x.i+wid s x.i);rw[kh ou];omega
   rw[(kV he hb).1,(kV he hb).2,BU s _ _ (by omega)];exact⟨by simp only;omega,by omega⟩
  ·rw[nL he hb]at h;exact absurd h (eO x s he)
 ·unfold Sc.name at h;rw[if_neg he]at h;exact absurd h he
theorem lz:∀(l:List UInt8) (x:Sc),x.i<=(Sc.ey s l x).i/\((Sc.ey s l x).err=0->x.err=0/\(Sc.ey s l x).i=x.i+l.length):=by
 intro l;induction l with
 |nil=>intro x;exact⟨au _,fun e=>⟨e,rfl⟩⟩
 |cons u l ih=>
  intro x;simp only[Sc.ey];split
  ·rename_i he;split
   ·obtain⟨a,b⟩:=ih {x with i:=x.i+1};refine⟨by have a':x.i+1<=(Sc.ey s l {x with i:=x.i+1}).i:=a;omega,fun e=>⟨he,?_⟩⟩
    have b':(Sc.ey s l {x with i:=x.i+1}).i=x.i+1+l.length:=(b e).2;rw[b',aC];omega
   ·obtain⟨a,b⟩:=ih (x.wrong s);rw[kT]at a;exact⟨a,fun e=>absurd (b e).1 (eO x s he)⟩
  ·rename_i he;exact⟨au _,fun e=>absurd e he⟩
theorem B8(he:x.err=0)(jY:Nat)(hb:32<=jY/\jY<128):x.i+(x.char s jY).2.data.toList.length<=(x.char s jY).1.i:=by
 rw[uH he jY hb];split
 ·show x.i+0<=(x.wrong s).i;rw[kT];omega
 ·rename_i h1;split
  ·split
   ·show x.i+0<=(x.fail 4 x.i).i;rw[yC];omega
   ·rename_i h3;have h4:=Ch.iN h3;have h5:=Ch.q9 (Ch.eh s x.i).1;show x.i+(Lib.encodeRune (Ch.eh s x.i).1).length<=x.i+(Ch.eh s x.i).2.toNat;omega
  ·have hx:=gL s x.i (x.i+wid s x.i);rw[hx];have:(Ch.bytes s x.i (x.i+wid s x.i-x.i)).length<=wid s x.i:=by unfold Ch.bytes;rw[bJ];omega
   show x.i+_<=x.i+wid s x.i;omega
theorem MU(Q:Nat)(hQ:32<=Q/\Q<128):∀(f:Nat) (x:Sc) (t:List UInt8),x.i+(iO s Q f x t).2.length<=t.length+(iO s Q f x t).1.i:=by
 intro f;induction f with
 |zero=>intro x t;simp only[iO];omega
 |succ f ih=>
  intro x t;simp only[iO];split
  ·rename_i h1;have h2:=ih (x.char s Q).1 (t++(x.char s Q).2.data.toList);have h3:=B8 (s:=s) h1.1 Q hQ;rw[ax]at h2;omega
  ·simp only;omega
theorem Jg(he:x.err=0)(h:(x.value s).1.err=0):x.i+(x.value s).2.length+2<=(x.value s).1.i:=by
 rw[qC he]at h ⊢;split
 ·rename_i h1;have h2:=MU (s:=s) (cur s x.i).toNat (by rcases h1 with e|e<;>rw[e]<;>decide) (s.size+2) {x with i:=x.i+1} [];simp only[aI]at h2 ⊢;omega
 ·rename_i h1;rw[if_neg h1]at h;exact absurd h (eO x s he)
theorem uR(x:Sc):(x.eD s).i=x.i+x.skip s:=rfl
theorem MV{l:lK}(h:(x.attr s l).1.err=0):x.i+(x.attr s l).2.1.length+(x.attr s l).2.2.length+3<=(x.attr s l).1.i:=by
 unfold Sc.attr at h ⊢;split
 ·rename_i h1;rw[if_pos h1]at h;have h2:=Jg h1 h;have hm:=lz (s:=s) [61] ((x.gz s l).eD s);have ZJ:(Sc.ey s [61] ((x.gz s l).eD s)).err=0:=h1;have N5:=hm.2 ZJ;have Xk:(x.gz s l).err=0:=N5.1;have h3:x.gz s l=(x.name s).1:=by
   unfold Sc.gz at Xk ⊢;split
   ·rename_i h4;rw[if_pos h4]at Xk;by_cases hn:(x.name s).1.err=0
    ·exact absurd Xk (mU _ 5 x.i hn (by decide))
    ·unfold Sc.fail at Xk;rw[if_neg hn]at Xk;exact absurd Xk hn
   ·rfl
  have hn:=vT (s:=s) (x:=x) (by rw[<-h3];exact Xk);have e1:(x.equal s l).i=(Sc.ey s [61] ((x.gz s l).eD s)).i+(Sc.ey s [61] ((x.gz s l).eD s)).skip s:=rfl;have e2:=uR (s:=s) (x.gz s l);have e3:=N5.2;rw[h3]at e1 e2 e3;simp only[aC,aI]at e3;simp only;omega
 ·rename_i h1;rw[if_neg h1]at h;exact absurd h h1
theorem Gg(a:List UInt8×List UInt8):(kz a).length<=6+a.1.length+6*a.2.length:=by
 have:=uQ true a.2;unfold kz;simp only[aC,ax,aI];omega
theorem Gh:∀(f:Nat) (x:Sc) (l:lK),(eB s f x l).1.err=0->(l.flatMap kz).length<=8*x.i->((eB s f x l).2.flatMap kz).length+8*x.i<=(l.flatMap kz).length+8*(eB s f x l).1.i:=by
 intro f;induction f with
 |zero=>intro x l h _;simp only[eB];omega
 |succ f ih=>
  intro x l h hl;simp only[eB]at h ⊢;split
  ·rw[uR];simp only;omega
  ·rename_i h3;rw[if_neg h3]at h;by_cases ha:((x.eD s).attr s l).1.err=0
   ·have hp:=MV ha;have hb:=uR (s:=s) x;have hc:=Gg ((x.eD s).attr s l).2;have e1:((l++[((x.eD s).attr s l).2]).flatMap kz).length=(l.flatMap kz).length+(kz ((x.eD s).attr s l).2).length:=by simp
    have:=ih _ _ h (by rw[e1];omega);rw[e1]at this;omega
   ·rw[jO ha]at h;exact absurd h ha
theorem qK(t:ByteArray)(fI:Nat):∀(f:Nat) (x:Sc),fI<=x.i->x.i<=(fS s t fI f x).1.i/\fI+(fS s t fI f x).2.data.toList.length<=(fS s t fI f x).1.i:=by
 intro f;induction f with
 |zero=>intro x h;exact⟨au _,h⟩
 |succ f ih=>
  intro x h;simp only[fS];split
  ·split
   ·refine⟨by simp only;omega,?_⟩;have hx:=gL s fI x.i;rw[hx];have:(Ch.bytes s fI (x.i-fI)).length<=x.i-fI:=by unfold Ch.bytes;rw[bJ];omega
    simp only;omega
   ·split
    ·have:=ih (x.wrong s) (by rw[kT];exact h);rw[kT]at this;exact this
    ·have:=ih {x with i:=x.i+(Ch.mL s x.i).2.toNat} (by simp only;omega);simp only at this;omega
  ·exact⟨au _,h⟩
def Jh(x:Sc):Prop:=x.err=0->jP x<=64*x.i
theorem Au{nm:List UInt8}{L:lK}{tg:Int}(h:(x.jb s nm L tg).err=0):x.err=0/\x.i+1<=(x.jb s nm L tg).i/\jP (x.jb s nm L tg)<=jP x+6+2*nm.length+(L.flatMap kz).length:=by
 unfold Sc.jb at h ⊢;have cst:(jl ⟨1,nm,L,[],tg⟩).length=3+nm.length+(L.flatMap kz).length:=by
  have:jl ⟨1,nm,L,[],tg⟩=60::(nm++(L.flatMap kz++[32,62])):=rfl;rw[this];simp only[aC,ax,aI];omega
 have Xl:(jl ⟨2,nm,[],[],tg⟩).length=3+nm.length:=by
  have:jl ⟨2,nm,[],[],tg⟩=[60,47]++nm++[62]:=rfl;rw[this];simp only[aC,ax,aI];omega
 split
 ·rename_i BA;rw[if_pos BA,nZ,nZ]at h;obtain⟨k1,k2⟩:=(lz (s:=s) [62] {x with i:=x.i+1}).2 h;simp only[aC,aI]at k2;have hb:=je ((og x (x.i+1)).trans (ij s [62] _));have b1:=rL (Sc.ey s [62] {x with i:=x.i+1}) ⟨1,nm,L,[],tg⟩;have b2:=rL ((Sc.ey s [62] {x with i:=x.i+1}).told ⟨1,nm,L,[],tg⟩) ⟨2,nm,[],[],tg⟩;rw[cst]at b1;rw[Xl]at b2;rw[jc,jc];exact⟨k1,by omega,by omega⟩
 ·rename_i BA;rw[if_neg BA,nZ]at h;obtain⟨k1,k2⟩:=(lz (s:=s) [62] x).2 h;simp only[aC,aI]at k2;have hb:=je (ij s [62] x);have b1:=rL (Sc.ey s [62] x) ⟨1,nm,L,[],tg⟩;rw[cst]at b1;rw[jc];exact⟨k1,by omega,by omega⟩
theorem DJ{tg:Int}(h:(x.ko s tg).err=0):jP (x.ko s tg)+64*x.i<=jP x+64*(x.ko s tg).i:=by
 unfold Sc.ko at h ⊢;obtain⟨k1,k2,k3⟩:=Au h;have hb:=je ((np x s).trans (Dx (x.name s).1 s));have hne:(x.name s).1.err=0:=by
  refine bE fun e2=>?_;unfold Sc.attrs at k1;rw[jO e2]at k1;exact e2 k1
 have hn:=vT hne;have ha:=Gh (s:=s) (s.size+2) (x.name s).1 [] k1 (by simp);simp only[List.flatMap_nil,aI,aG]at ha;have ha':(((x.name s).1.attrs s).2.flatMap kz).length+8*(x.name s).1.i<=8*((x.name s).1.attrs s).1.i:=ha;omega
theorem Aw{tg:Int}(h:(x.jB s tg).err=0):jP (x.jB s tg)+64*x.i<=jP x+64*(x.jB s tg).i:=by
 unfold Sc.jB at h ⊢;rw[nZ]at h;have hm:=(lz (s:=s) [62] ((x.name s).1.eD s)).2 h;have hn:=vT (s:=s) (x:=x) hm.1;have hb:=je (((np x s).trans (nj _ s)).trans (ij s [62] ((x.name s).1.eD s)));have b1:=rL (Sc.ey s [62] ((x.name s).1.eD s)) ⟨2,(x.name s).2.data.toList,[],[],tg⟩;have Xl:(jl ⟨2,(x.name s).2.data.toList,[],[],tg⟩).length=3+(x.name s).2.data.toList.length:=by
  have:jl ⟨2,(x.name s).2.data.toList,[],[],tg⟩=[60,47]++(x.name s).2.data.toList++[62]:=rfl;rw[this];simp only[aC,ax,aI];omega
 have e2:=uR (s:=s) (x.name s).1;have e3:=hm.2;simp only[aC,aI]at e3;rw[Xl]at b1;rw[jc];omega
theorem wP(x:Sc)(t:ByteArray)(a:Int)(h:t.data.toList≠[]):jP (x.g_ t a)<=jP x+6*t.data.toList.length+27:=by
 have h1:¬(x.g_ t a).more=[]:=fun e=>h (List.append_eq_nil_iff.1 e).2;unfold jP;rw[if_neg h1];have e1:(x.g_ t a).more.length=x.more.length+t.data.toList.length:=ax;have e2:(x.g_ t a).l=x.l:=rfl;rw[e1,e2];split
 ·rename_i h2;rw[h2];simp only[aI];omega
 ·omega
theorem Ji(h:(x.sL s).err=0):jP (x.sL s)+64*x.i<=jP x+64*(x.sL s).i:=by
 unfold Sc.sL at h ⊢;have hm:=lz (s:=s) [91,67,68,65,84,65,91] x;have hu:=qK (s:=s) ⟨#[93,93,62]⟩ (Sc.ey s [91,67,68,65,84,65,91] x).i (s.size+2) (Sc.ey s [91,67,68,65,84,65,91] x) (au _);have hu':(Sc.ey s [91,67,68,65,84,65,91] x).i<=((Sc.ey s [91,67,68,65,84,65,91] x).until s ⟨#[93,93,62]⟩).1.i/\(Sc.ey s [91,67,68,65,84,65,91] x).i+((Sc.ey s [91,67,68,65,84,65,91] x).until s ⟨#[93,93,62]⟩).2.data.toList.length<=((Sc.ey s [91,67,68,65,84,65,91] x).until s ⟨#[93,93,62]⟩).1.i:=hu;have hb:=je ((ij s [91,67,68,65,84,65,91] x).trans (mn _ s ⟨#[93,93,62]⟩));generalize hU:(Sc.ey s [91,67,68,65,84,65,91] x).until s ⟨#[93,93,62]⟩=U at*
 split
 ·rename_i hc;have hme:(Sc.ey s [91,67,68,65,84,65,91] x).err=0:=by
   refine bE fun e=>?_;have:U.1=Sc.ey s [91,67,68,65,84,65,91] x:=by rw[<-hU];unfold Sc.until;rw[ja _ _ _ _ _ e]
   rw[this]at hc;exact e hc.1
  have hmi:=(hm.2 hme).2;have hlen:[91,67,68,65,84,65,91].length=7:=rfl;have ht:=wP U.1 U.2 (Sc.ey s [91,67,68,65,84,65,91] x).i hc.2;show jP _+64*x.i<=jP x+64*U.1.i;have hpos:1<=U.2.data.toList.length:=List.length_pos_iff.2 hc.2;simp only[aC,aI]at hmi;omega
 ·have:=hm.1;omega
theorem Gi(x:Sc):x.i<=(x.remark s).i:=by
 unfold Sc.remark;have h1:=(lz (s:=s) [45,45] x).1;have h2:=(qK (s:=s) ⟨#[45,45]⟩ (Sc.ey s [45,45] x).i (s.size+2) (Sc.ey s [45,45] x) (au _)).1;have h3:=(lz (s:=s) [62] ((Sc.ey s [45,45] x).until s ⟨#[45,45]⟩).1).1;exact aw h1 (aw h2 h3)
theorem Uj(x:Sc):x.i<=(x.name s).1.i:=by
 unfold Sc.name;repeat' split
 ·rw[kT];exact au _
 ·simp only;omega
 ·exact au _
theorem Jj(x:Sc):x.i<=(x.order s).i:=by
 unfold Sc.order;exact aw (Uj x) (qK (s:=s) ⟨#[63,62]⟩ (x.name s).1.i (s.size+2) (x.name s).1 (au _)).1
theorem Gj(h:(x.j8 s).err=0):jP (x.j8 s)+64*x.i<=jP x+64*(x.j8 s).i:=by
 unfold Sc.j8 Sc.behind at h ⊢;split
 ·rename_i Yh;rw[if_pos Yh]at h;unfold Sc.nW at h ⊢;split
  ·rename_i Yi;rw[if_pos Yi]at h;have h1:=Ji h;have hb:=je (og x (x.i+1+1));simp only at h1 ⊢;omega
  ·have h1:=Gi (s:=s) {x with i:=x.i+1+1};have hb:jP (({x with i:=x.i+1+1}:Sc).remark s)=jP x:=je ((((og x (x.i+1+1)).trans (ij s [45,45] _)).trans (mn _ s ⟨#[45,45]⟩)).trans (ij s [62] _));simp only at h1 ⊢;omega
 ·rename_i Yh;rw[if_neg Yh]at h;split
  ·have h1:=Jj (s:=s) {x with i:=x.i+1+1};have hb:jP (({x with i:=x.i+1+1}:Sc).order s)=jP x:=je (((og x (x.i+1+1)).trans (np _ s)).trans (mn _ s ⟨#[63,62]⟩));simp only at h1 ⊢;omega
  ·rename_i h63;rw[if_neg h63]at h;split
   ·rename_i BA;rw[if_pos BA]at h;have h1:=Aw h;have hb:=je (og x (x.i+1+1));simp only at h1 ⊢;omega
   ·rename_i BA;rw[if_neg BA]at h;have h1:=DJ h;have hb:=je (og x (x.i+1));simp only at h1 ⊢;omega
theorem zv(h:Jh x)(he:x.err=0):Jh (x.piece s):=by
 intro e;have h0:=h he;unfold Sc.piece at e ⊢;split
 ·rename_i rY;rw[if_pos rY]at e;have:=Gj e;omega
 ·rename_i rY;rw[if_neg rY]at e;split
  ·rename_i hc;have h1:=B8 (s:=s) he 60 (by omega);have h2:=je (zu x s 60);by_cases hn:(x.char s 60).2.data.toList=[]
   ·have e1:jP ((x.char s 60).1.g_ (x.char s 60).2 x.i)=jP (x.char s 60).1:=by unfold jP Sc.g_;rw[hn];simp
    have e2:((x.char s 60).1.g_ (x.char s 60).2 x.i).i=(x.char s 60).1.i:=rfl;rw[e1,e2];omega
   ·have ht:=wP (x.char s 60).1 (x.char s 60).2 x.i hn;have hpos:1<=(x.char s 60).2.data.toList.length:=List.length_pos_iff.2 hn;have e2:((x.char s 60).1.g_ (x.char s 60).2 x.i).i=(x.char s 60).1.i:=rfl;rw[e2];omega
  ·rename_i hc;rw[if_neg hc]at e;exact absurd e hc
theorem Jk:∀(f:Nat) (x:Sc),Jh x->Jh (iy s f x):=by
 intro f;induction f with
 |zero=>intro x h;exact h
 |succ f ih=>
  intro x h;simp only[iy];split
  ·rename_i hc;exact ih _ (zv h hc.2)
  ·exact h
theorem Rel.zero:Rel Sc.zero ⟨fun _=>[],fun _=>0,0,[],[],0,[]⟩:=⟨⟨rfl,rfl,fun e=>absurd rfl e⟩,rfl,rfl,rfl⟩
theorem QD(s:ByteArray):cost (ly s).1<=64*s.size:=by
 unfold ly;split
 ·simp[cost]
 ·rename_i he;have he:(ei s).err=0:=by simpa using he
  have hp:Jh (ei s):=Jk _ _ (fun _=>by simp[jP,cost,Sc.zero]);have h1:=hp he;have hi:(ei s).i=s.size:=(tu (s:=s) (fun _=>[]) (s.size+1) Sc.zero _ rfl (aB _) (by show s.size<0+(s.size+1);omega) Rel.zero he).1;rw[hi]at h1;refine aw ?_ h1;simp only;rw[qJ];unfold jP Sc.last;split
  ·simp[cost]
  ·rename_i hm;rw[if_neg (fun e=>hm (Or.inr e))];have h3:cost [gi (ei s)]=(jl (gi (ei s))).length:=by simp[cost]
   have h4:jl (gi (ei s))=Ch.rX false (ei s).more++marks:=rfl;have h5:=uQ false (ei s).more;have h6:marks.length=27:=rfl;rw[h3,h4,ax];omega
end
end K
end Go.Proofs.YtclgfepngpeifaaGreatDoor
namespace Go.Proofs.YtclgfepngpeifaaGreatDoor
namespace K
open Go.RowKit Go.Maps Go.Lib Tryz
section
variable{X:Nat}{w w' w'' wr:World}{s t:ByteArray}{lv:Value}{x x':Sc}{F:Nat->Prop}{cs:List Value}
theorem zw{w1:World}{y:Sc}(k:SE X w s lv y w1)(I J:Nat)(hJ:J=I+1):SE X w s lv {y with i:=J} (w1.setCell ⟨X,1,none⟩ (.int .i64 ((I:Int)+1))):=by
 rw[show ((I:Int)+1)=(J:Int) by omega];exact k.set (x':={y with i:=J}) 1 (.int .i64 (J:Int)) rfl
theorem Jl(x:Sc)(s t:ByteArray):(x.until s t).2.size<=s.size:=by
 have key:∀(f:Nat) (x:Sc) (fI:Nat),(fS s t fI f x).2.size<=s.size:=by
  intro f;induction f with
  |zero=>intro x fI;exact aB _
  |succ f ih=>
   intro x fI;simp only[fS]
   repeat' split
   ·simp only[bZ];omega
   ·exact ih _ _
   ·exact ih _ _
   ·exact aB _
 exact key _ _ _
theorem MW(h:RS F X w s lv cs x)(hs:s.size<=1099511627776)(he:x.err=0)(hi:x.i<s.size)(hn:x.l.length<=1099511627770)(hm:x.more.length<=s.size):
  Z4 40 #[Z8 X] w fun en w'=>en=.returned (.tuple #[])/\qp F X w s (x.j8 s) w':=by
 have c1:w.cell? ⟨X,1,none⟩=some (.int .i64 x.i):=h.sat.cell 1 rfl;have f1:=h.sat.free 1;have hlt:=h.sat.lt;have kit:=Xj X s lv hs;obtain⟨J,hJ⟩:∃J,J=x.i+1:=⟨_,rfl⟩
 have hwr:IntKind.i64.wrap ((x.i:Int)+1)=(x.i:Int)+1:=by rw[aM];omega
 have R0:=a_ (zw (SE.refl h.sat) x.i J hJ);have Xm:x.j8 s=Sc.behind {x with i:=J} s x.i:=by unfold Sc.j8;rw[hJ]
 rw[Xm];have hx0:fY x {x with i:=J}:=og x J;have hxe:({x with i:=J}:Sc).err=0:=he;have Tw:({x with i:=J}:Sc).i=J:=rfl;have hxf:Fits s {x with i:=J}:=fun _=>by show J<=_;omega
 generalize ({x with i:=J}:Sc)=x1 at*
 have K:=a_ kit;have H:=a_ h;have HS:=a_ hx0;have HXE:=a_ hxe;have HXF:=a_ hxf;clear kit h hx0 Xm he hxe hxf;have i33:=fun W (b:j6 X W s lv x1)=>K.out.Ym W x1 b 33 (by decide);have i63:=fun W (b:j6 X W s lv x1)=>K.out.Ym W x1 b 63 (by decide);have i47:=fun W (b:j6 X W s lv x1)=>K.out.Ym W x1 b 47 (by decide);unfold Sc.behind;cases q33:x1.is s 33
 ·rw[q33]at i33;have MX:=a_ i33;clear i33 q33;simp only[aA,aQ];cases q63:x1.is s 63
  ·rw[q63]at i63;have Uk:=a_ i63;clear i63 q63;simp only[aA,aQ];cases BV:x1.is s 47
   ·rw[BV]at i47;have Xn:=a_ i47;clear i47 BV;simp only[aA,aQ];have hns:fY x (x1.name s).1:=HS.out.trans (np _ s);have hnf:Fits s (x1.name s).1:=Dy HXF.out;have qR:=fun W (b:j6 X W s lv x1)=>K.out.name W x1 b HXF.out;unfold Sc.ko;generalize x1.name s=N at*
    have hat:=fun W (b:j6 X W s lv N.1)=>K.out.attrs W N.1 b hnf;have has:fY x (N.1.attrs s).1:=hns.trans (Dx _ s);have haf:Fits s (N.1.attrs s).1:=Uh hnf;generalize N.1.attrs s=A at*
    have GK:=fun W (b:j6 X W s lv A.1)=>K.out.Ym W A.1 b 47 (by decide);unfold Sc.jb;have En:=a_ qR;have rT:=a_ hat;have HAS:=a_ has;have HAF:=a_ haf;have HJ:=a_ hJ;clear qR hat has haf hns hnf hJ;cases q2:A.1.is s 47
    ·rw[q2]at GK;have I2:=a_ GK;clear GK q2;simp only[aA,aQ];go_enter func40,ntmps40;go_wp2_with fail;refine(MX.out _ R0.out.1).mono ?_;rintro e w1 ⟨rfl,r1⟩;have R1:=a_ (R0.out.on r1);clear r1 MX;go_wp2_with fail;refine(Uk.out _ R1.out.1).mono ?_;rintro e w2 ⟨rfl,r2⟩;have R2:=a_ (R1.out.on r2);clear r2 Uk;go_wp2_with fail;refine(Xn.out _ R2.out.1).mono ?_;rintro e w3 ⟨rfl,r3⟩;have R3:=a_ (R2.out.on r3);clear r3 Xn;go_wp2_with fail;refine(En.out _ R3.out.1).mono ?_;rintro e w4 ⟨rfl,r4⟩;have R4:=a_ (R3.out.on r4);clear r4;go_wp2_with fail;refine(rT.out _ R4.out.1).mono ?_;rintro e w5 ⟨v,rfl,r5,tE,QE⟩;obtain⟨ai,ac,rfl⟩:=dU tE;have R5:=a_ (R4.out.on r5);have Dw:=a_ tE;have QF:Hid (∀k,(Value.slice ai A.2.length ac).ownBlock=some k->w.heap.size<=k):=a_ fun k e=>aw R4.out.2.size (QE k e);clear r5 tE QE;have Vi:Hid ((Value.slice ai A.2.length ac).ownBlock≠some X):=a_ fun e=>by have:=QF.out X e;omega
     go_wp2_with fail;refine(I2.out _ R5.out.1).mono ?_;rintro e w6 ⟨rfl,r6⟩;have R6:=a_ (R5.out.on r6);have Qw:=a_ (gW Dw.out Vi.out r6.2);clear r6;go_wp2_with fail;refine(K.out.must _ _ R6.out.1 HAF.out ⟨#[62]⟩ (by decide) (by decide)).mono ?_;rintro e w7 ⟨rfl,r7⟩;have R7:=a_ (R6.out.on r7);have Qx:=a_ (gW Qw.out Vi.out r7.2);clear r7;have hsm:fY x (Sc.ey s [62] A.1):=HAS.out.trans (ij s _ _);have htl:=tF H.out R7.out hsm ⟨1,N.2.data.toList,A.2,[],x.i⟩ (.slice ai A.2.length ac) Qx.out QF.out (by show (Sc.ey s [62] A.1).l.length<=_;rw[hsm.1];omega);simp only[rK]at htl;go_wp2_with fail;refine htl.mono ?_;rintro e w8 ⟨rfl,r8⟩;have R8:=a_ r8;clear r8 htl hsm;go_wp2
     go_end0
     exact⟨rfl,R8.out⟩
    ·have hli:=is_lt q2;rw[q2]at GK;have I2:=a_ GK;clear GK q2;simp only[if_true];have Pv:IntKind.i64.wrap ((A.1.i:Int)+1)=(A.1.i:Int)+1:=by rw[aM];omega
     have RR:=a_ (fun w1 (r:SE X w s lv A.1 w1)=>zw r A.1.i (A.1.i+1) rfl);have Vj:Hid (fY x {A.1 with i:=A.1.i+1}):=a_ (HAS.out.trans (og _ _));have Kz:Hid (Fits s {A.1 with i:=A.1.i+1}):=a_ fun _=>by show A.1.i+1<=_;omega
     generalize YP:({A.1 with i:=A.1.i+1}:Sc)=A2 at*
     clear YP;go_enter func40,ntmps40;go_wp2_with fail;refine(MX.out _ R0.out.1).mono ?_;rintro e w1 ⟨rfl,r1⟩;have R1:=a_ (R0.out.on r1);clear r1 MX;go_wp2_with fail;refine(Uk.out _ R1.out.1).mono ?_;rintro e w2 ⟨rfl,r2⟩;have R2:=a_ (R1.out.on r2);clear r2 Uk;go_wp2_with fail;refine(Xn.out _ R2.out.1).mono ?_;rintro e w3 ⟨rfl,r3⟩;have R3:=a_ (R2.out.on r3);clear r3 Xn;go_wp2_with fail;refine(En.out _ R3.out.1).mono ?_;rintro e w4 ⟨rfl,r4⟩;have R4:=a_ (R3.out.on r4);clear r4;go_wp2_with fail;refine(rT.out _ R4.out.1).mono ?_;rintro e w5 ⟨v,rfl,r5,tE,QE⟩;obtain⟨ai,ac,rfl⟩:=dU tE;have R5:=a_ (R4.out.on r5);have Dw:=a_ tE;have QF:Hid (∀k,(Value.slice ai A.2.length ac).ownBlock=some k->w.heap.size<=k):=a_ fun k e=>aw R4.out.2.size (QE k e);clear r5 tE QE;have Vi:Hid ((Value.slice ai A.2.length ac).ownBlock≠some X):=a_ fun e=>by have:=QF.out X e;omega
     go_wp2_with fail;refine(I2.out _ R5.out.1).mono ?_;rintro e w6 ⟨rfl,r6⟩;have R6:=a_ (R5.out.on r6);have Qw:=a_ (gW Dw.out Vi.out r6.2);have c61:w6.cell? ⟨X,1,none⟩=some (.int .i64 (A.1.i:Int)):=R6.out.1.cell 1 rfl;have f61:=R6.out.1.free 1;have RS6:=a_ (RR.out w6 R6.out);have aae:=a_ (dY Qw.out fun k e=>ak w6 ⟨X,1,none⟩ (.int .i64 ((A.1.i:Int)+1)) k (fun e2=>Vi.out (by rw[e];exact aL some e2)));clear r6;go_wp2_with fail;refine(K.out.must _ _ RS6.out.1 Kz.out ⟨#[62]⟩ (by decide) (by decide)).mono ?_;rintro e w7 ⟨rfl,r7⟩;have R7:=a_ (RS6.out.on r7);have Qx:=a_ (gW aae.out Vi.out r7.2);clear r7;have hsm:fY x (Sc.ey s [62] A2):=Vj.out.trans (ij s _ _);have htl:=tF H.out R7.out hsm ⟨1,N.2.data.toList,A.2,[],x.i⟩ (.slice ai A.2.length ac) Qx.out QF.out (by show (Sc.ey s [62] A2).l.length<=_;rw[hsm.1];omega);simp only[rK]at htl;go_wp2_with fail;refine htl.mono ?_;rintro e w8 ⟨rfl,r8⟩;have htn:=MO r8 ⟨2,N.2.data.toList,[],[],x.i⟩ rfl (by have:=uI (Sc.ey s [62] A2) ⟨1,N.2.data.toList,A.2,[],x.i⟩;have h5:=hsm.1;show (Sc.told (Sc.ey s [62] A2) ⟨1,N.2.data.toList,A.2,[],x.i⟩).l.length<=_;rw[h5]at this;omega);simp only[rK]at htn;clear htl hsm r8;go_wp2_with fail;refine htn.mono ?_;rintro e w9 ⟨rfl,r9⟩;have R9:=a_ r9;clear r9 htn;go_wp2
     go_end0
     exact⟨rfl,R9.out⟩
   ·have zQ:J<s.size:=by have:=is_lt BV;omega
    rw[BV]at i47;have Xn:=a_ i47;clear i47 BV;simp only[if_true];obtain⟨J2,hJ2⟩:∃J2,J2=J+1:=⟨_,rfl⟩
    have Pv:IntKind.i64.wrap ((J:Int)+1)=(J:Int)+1:=by rw[aM];omega
    have e2:({x1 with i:=x1.i+1}:Sc)={x1 with i:=J2}:=by rw[Tw,hJ2]
    rw[e2];have hx2:fY x {x1 with i:=J2}:=HS.out.trans (og x1 J2);have hf2:Fits s {x1 with i:=J2}:=fun _=>by show J2<=_;omega
    have Vk:=fun w1 (r:SE X w s lv x1 w1)=>zw r J J2 hJ2;clear e2;generalize ({x1 with i:=J2}:Sc)=x2 at*
    have Vj:=a_ hx2;have Kz:=a_ hf2;have RR:=a_ Vk;have HJ:=a_ hJ;have HJ2:=a_ hJ2;clear hx2 hf2 Vk hJ hJ2;unfold Sc.jB;go_enter func40,ntmps40;go_wp2_with fail;refine(MX.out _ R0.out.1).mono ?_;rintro e w1 ⟨rfl,r1⟩;have R1:=a_ (R0.out.on r1);clear r1 MX;go_wp2_with fail;refine(Uk.out _ R1.out.1).mono ?_;rintro e w2 ⟨rfl,r2⟩;have R2:=a_ (R1.out.on r2);clear r2 Uk;go_wp2_with fail;refine(Xn.out _ R2.out.1).mono ?_;rintro e w3 ⟨rfl,r3⟩;have R3:=a_ (R2.out.on r3);have c31:w3.cell? ⟨X,1,none⟩=some (.int .i64 (J:Int)):=by have:=R3.out.1.cell (i:=1) (v:=.int .i64 (x1.i:Int)) rfl;rw[Tw]at this;exact this
    have f31:=R3.out.1.free 1;have R4:=a_ (RR.out w3 R3.out);clear r3 Xn;go_wp2_with fail;refine(K.out.name _ _ R4.out.1 Kz.out).mono ?_;rintro e w5 ⟨rfl,r5⟩;have R5:=a_ (R4.out.on r5);clear r5;go_wp2_with fail;refine(K.out.eD _ _ R5.out.1 (Dy Kz.out)).mono ?_;rintro e w6 ⟨rfl,r6⟩;have R6:=a_ (R5.out.on r6);clear r6;go_wp2_with fail;refine(K.out.must _ _ R6.out.1 (QB (Dy Kz.out)) ⟨#[62]⟩ (by decide) (by decide)).mono ?_;rintro e w7 ⟨rfl,r7⟩;have R7:=a_ (R6.out.on r7);clear r7;have hsm:fY x (Sc.ey s [62] ((x2.name s).1.eD s)):=((Vj.out.trans (np _ s)).trans (nj _ s)).trans (ij s _ _);have htl:=tF H.out R7.out hsm ⟨2,(x2.name s).2.data.toList,[],[],x.i⟩ (.slice none 0 0) (bB _ _ _ _) (by intro k e;simp[Value.ownBlock]at e) (by show (Sc.ey s [62] ((x2.name s).1.eD s)).l.length<=_;rw[hsm.1];omega);simp only[rK]at htl;go_wp2_with fail;refine htl.mono ?_;rintro e w8 ⟨rfl,r8⟩;go_wp2;refine aJ (aN rfl _ _ _) rfl ?_;exact⟨rfl,r8⟩
  ·have zQ:J<s.size:=by have:=is_lt q63;omega
   rw[q63]at i63;have Uk:=a_ i63;clear i63 q63 i47;simp only[if_true];obtain⟨J2,hJ2⟩:∃J2,J2=J+1:=⟨_,rfl⟩
   have Pv:IntKind.i64.wrap ((J:Int)+1)=(J:Int)+1:=by rw[aM];omega
   have e2:({x1 with i:=x1.i+1}:Sc)={x1 with i:=J2}:=by rw[Tw,hJ2]
   rw[e2];have hx2:fY x {x1 with i:=J2}:=HS.out.trans (og x1 J2);have hf2:Fits s {x1 with i:=J2}:=fun _=>by show J2<=_;omega
   have Vk:=fun w1 (r:SE X w s lv x1 w1)=>zw r J J2 hJ2;clear e2;generalize ({x1 with i:=J2}:Sc)=x2 at*
   have Vj:=a_ hx2;have Kz:=a_ hf2;have RR:=a_ Vk;have HJ:=a_ hJ;have HJ2:=a_ hJ2;clear hx2 hf2 Vk hJ hJ2;unfold Sc.order;go_enter func40,ntmps40;go_wp2_with fail;refine(MX.out _ R0.out.1).mono ?_;rintro e w1 ⟨rfl,r1⟩;have R1:=a_ (R0.out.on r1);clear r1 MX;go_wp2_with fail;refine(Uk.out _ R1.out.1).mono ?_;rintro e w2 ⟨rfl,r2⟩;have R2:=a_ (R1.out.on r2);have c21:w2.cell? ⟨X,1,none⟩=some (.int .i64 (J:Int)):=by have:=R2.out.1.cell (i:=1) (v:=.int .i64 (x1.i:Int)) rfl;rw[Tw]at this;exact this
   have f21:=R2.out.1.free 1;have R3:=a_ (RR.out w2 R2.out);clear r2 Uk;go_wp2_with fail;refine(K.out.name _ _ R3.out.1 Kz.out).mono ?_;rintro e w4 ⟨rfl,r4⟩;have R4:=a_ (R3.out.on r4);clear r4;go_wp2_with fail;refine(K.out.DA _ _ R4.out.1 (Dy Kz.out) ⟨#[63,62]⟩ (by decide)).mono ?_;rintro e w5 ⟨rfl,r5⟩;have R5:=a_ (R4.out.on r5);clear r5;go_wp2;refine aJ (aN rfl _ _ _) rfl ?_;exact⟨rfl,H.out.E9 R5.out ((Vj.out.trans (np _ s)).trans (mn _ s _)).1⟩
 ·have zQ:J<s.size:=by have:=is_lt q33;omega
  rw[q33]at i33;have MX:=a_ i33;clear i33 q33 i63 i47;simp only[if_true];obtain⟨J2,hJ2⟩:∃J2,J2=J+1:=⟨_,rfl⟩
  have Pv:IntKind.i64.wrap ((J:Int)+1)=(J:Int)+1:=by rw[aM];omega
  have e2:({x1 with i:=x1.i+1}:Sc)={x1 with i:=J2}:=by rw[Tw,hJ2]
  rw[e2];have hx2:fY x {x1 with i:=J2}:=HS.out.trans (og x1 J2);have hf2:Fits s {x1 with i:=J2}:=fun _=>by show J2<=_;omega
  have Vk:=fun w1 (r:SE X w s lv x1 w1)=>zw r J J2 hJ2;have abT:({x1 with i:=J2}:Sc).i=J2:=rfl;clear e2;generalize ({x1 with i:=J2}:Sc)=x2 at*
  have Vj:=a_ hx2;have Kz:=a_ hf2;have RR:=a_ Vk;have HJ:=a_ hJ;have HJ2:=a_ hJ2;clear hx2 hf2 Vk hJ hJ2;have i91:=fun W (b:j6 X W s lv x2)=>K.out.Ym W x2 b 91 (by decide);unfold Sc.nW;cases q91:x2.is s 91
  ·rw[q91]at i91;have I91:=a_ i91;clear i91 q91;simp only[aA,aQ];go_enter func40,ntmps40;go_wp2_with fail;refine(MX.out _ R0.out.1).mono ?_;rintro e w1 ⟨rfl,r1⟩;have R1:=a_ (R0.out.on r1);have c11:w1.cell? ⟨X,1,none⟩=some (.int .i64 (J:Int)):=by have:=R1.out.1.cell (i:=1) (v:=.int .i64 (x1.i:Int)) rfl;rw[Tw]at this;exact this
   have f11:=R1.out.1.free 1;have R2:=a_ (RR.out w1 R1.out);clear r1 MX;go_wp2_with fail;refine(I91.out _ R2.out.1).mono ?_;rintro e w3 ⟨rfl,r3⟩;have R3:=a_ (R2.out.on r3);clear r3 I91;go_wp2_with fail;refine(K.out.must _ _ R3.out.1 Kz.out ⟨#[45,45]⟩ (by decide) (by decide)).mono ?_;rintro e w4 ⟨rfl,r4⟩;have R4:=a_ (R3.out.on r4);clear r4;go_wp2_with fail;refine(K.out.DA _ _ R4.out.1 (Dz s _ _ Kz.out) ⟨#[45,45]⟩ (by decide)).mono ?_;rintro e w5 ⟨rfl,r5⟩;have R5:=a_ (R4.out.on r5);clear r5;go_wp2_with fail;refine(K.out.must _ _ R5.out.1 (Ug _ (by decide) (Dz s _ _ Kz.out)) ⟨#[62]⟩ (by decide) (by decide)).mono ?_;rintro e w6 ⟨rfl,r6⟩;have R6:=a_ (R5.out.on r6);clear r6;go_wp2;refine aJ (aN rfl _ _ _) rfl ?_;exact⟨rfl,H.out.E9 (x':=x2.remark s) R6.out (((Vj.out.trans (ij s _ _)).trans (mn _ s _)).trans (ij s _ _)).1⟩
  ·rw[q91]at i91;have I91:=a_ i91;clear i91 q91;simp only[if_true];unfold Sc.sL;have hYs:fY x (Sc.ey s [91,67,68,65,84,65,91] x2):=Vj.out.trans (ij s _ _);have hYf:Fits s (Sc.ey s [91,67,68,65,84,65,91] x2):=Dz s _ _ Kz.out;have Mf:=fun W (b:j6 X W s lv x2)=>K.out.must W x2 b Kz.out ⟨#[91,67,68,65,84,65,91]⟩ (by decide) (by decide);have hd:LN ⟨#[91,67,68,65,84,65,91]⟩ 0=[91,67,68,65,84,65,91]:=rfl;rw[hd]at Mf;generalize Sc.ey s [91,67,68,65,84,65,91] x2=Y at*
   have WE:=fun W (b:j6 X W s lv Y)=>K.out.DA W Y b hYf ⟨#[93,93,62]⟩ (by decide);have hUs:fY x (Y.until s ⟨#[93,93,62]⟩).1:=hYs.trans (mn Y s _);have hUb:(Y.until s ⟨#[93,93,62]⟩).2.size<=s.size:=Jl Y s _;have zO:(Y.until s ⟨#[93,93,62]⟩).1.more.length+(Y.until s ⟨#[93,93,62]⟩).2.size<=1125899906842624:=by rw[hUs.2.1];omega
   generalize Y.until s ⟨#[93,93,62]⟩=U at*
   generalize hG:(if U.1.err=0/\U.2.data.toList≠[]then U.1.g_ U.2 Y.i else U.1)=G at*
   have HG:=a_ hG;have Yj:=a_ Mf;have HUN:=a_ WE;have HYS:=a_ hYs;have HUS:=a_ hUs;clear Mf WE hYs hUs hYf hd hG;go_enter func40,ntmps40;go_wp2_with fail;refine(MX.out _ R0.out.1).mono ?_;rintro e w1 ⟨rfl,r1⟩;have R1:=a_ (R0.out.on r1);have c11:w1.cell? ⟨X,1,none⟩=some (.int .i64 (J:Int)):=by have:=R1.out.1.cell (i:=1) (v:=.int .i64 (x1.i:Int)) rfl;rw[Tw]at this;exact this
   have f11:=R1.out.1.free 1;have R2:=a_ (RR.out w1 R1.out);clear r1 MX;go_wp2_with fail;refine(I91.out _ R2.out.1).mono ?_;rintro e w3 ⟨rfl,r3⟩;have R3:=a_ (R2.out.on r3);clear r3 I91;go_wp2_with fail;refine(Yj.out _ R3.out.1).mono ?_;rintro e w4 ⟨rfl,r4⟩;have R4:=a_ (R3.out.on r4);have c41:w4.cell? ⟨X,1,none⟩=some (.int .i64 (Y.i:Int)):=R4.out.1.cell 1 rfl;clear r4;go_wp2_with fail;refine(HUN.out _ R4.out.1).mono ?_;rintro e w5 ⟨rfl,r5⟩;have R5:=a_ (R4.out.on r5);have c55:w5.cell? ⟨X,5,none⟩=some (.int .i64 U.1.err):=R5.out.1.cell 5 rfl;clear r5;by_cases Xo:U.1.err=0
   ·have e0:(U.1.err==0)=true:=by simpa using Xo
    have htl:U.2.toList=U.2.data.toList:=Lib.toList_data _;cases hb:U.2.toList.isEmpty
    ·have hne:U.2.data.toList≠[]:=by
      intro e;rw[htl,e]at hb;cases hb
     have QG:=HG.out;rw[if_pos ⟨Xo,hne⟩]at QG;have Wt:=a_ QG;clear QG;have MY:=K.out.g_ w5 U.1 R5.out.1 U.2 Y.i zO;clear Xo hne htl;go_wp2_with fail;refine MY.mono ?_;rintro e w6 ⟨rfl,r6⟩;have R6:=a_ (R5.out.on r6);clear r6 MY;go_wp2;refine aJ (aN rfl _ _ _) rfl ?_;exact⟨rfl,by rw[<-Wt.out];exact H.out.E9 R6.out HUS.out.1⟩
    ·have hne:¬(U.1.err=0/\U.2.data.toList≠[]):=by
      rintro⟨_,e⟩;apply e;rw[<-htl];simpa using hb
     have QG:=HG.out;rw[if_neg hne]at QG;have Wt:=a_ QG;clear Xo hne htl QG;go_wp2;refine aJ (aN rfl _ _ _) rfl ?_;exact⟨rfl,by rw[<-Wt.out];exact H.out.E9 R5.out HUS.out.1⟩
   ·have e0:(U.1.err==0)=false:=by simpa using Xo
    have QG:=HG.out;rw[if_neg (fun e=>Xo e.1)]at QG;have Wt:=a_ QG;clear Xo QG;go_wp2;refine aJ (aN rfl _ _ _) rfl ?_;exact⟨rfl,by rw[<-Wt.out];exact H.out.E9 R5.out HUS.out.1⟩
end
section
variable{X:Nat}{w w' w'' wr:World}{s t:ByteArray}{lv:Value}{x x':Sc}{F:Nat->Prop}{cs:List Value}
theorem KA(x:Sc):Rel x ⟨fun j=>if j=.text then x.more else [],fun _=>x.fI,0,[],[],0,x.l⟩:=⟨⟨rfl,rfl,fun _=>rfl⟩,rfl,rfl,rfl⟩
structure Yn(X:Nat)(w:World)(s:ByteArray)(y:Sc)(wr:World)(x:Sc)(f:Nat):Prop where
 rs:qp (fun k=>k=X) X w s x wr
 eq:iy s f x=y
 ok:x.err=0->x.i<=s.size/\s.size<x.i+f/\x.more.length<=x.i/\x.l.length<=3*x.i
theorem QH(he:x.err=0)(hi:x.i<s.size):(x.piece s).err=0->x.i<(x.piece s).i/\(x.piece s).i<=s.size/\(x.piece s).more.length+x.i<=x.more.length+(x.piece s).i/\(x.piece s).l.length<=x.l.length+3:=by
 rcases mY (g:=fun _=>[]) he hi (KA x)with⟨_,h2,h3,h4,_⟩|⟨h1,_⟩
 ·exact fun _=>⟨h2,h3,h4.2.1,h4.2.2⟩
 ·exact fun e=>absurd e h1
theorem qp.past(h:qp F X w s x w')(b:Below w'.heap.size w' w''):qp F X w s x w'':=h.on fun _ _ rs=>rs.below b
theorem qp.sat(h:qp F X w s x w'):∃lv,j6 X w' s lv x:=by obtain⟨lv,cs,r,_⟩:=h;exact⟨lv,r.sat⟩
theorem MZ(h:qp F X w s x wr)(hs:s.size<=274877906944)(he:x.err=0)(hi:x.i<s.size)(hm:x.more.length<=x.i)(hl:x.l.length<=3*x.i):Z4 40 #[Z8 X] wr fun en w'=>en=.returned (.tuple #[])/\qp F X w s (x.j8 s) w':=by
 obtain⟨lv,cs,r,f⟩:=h;refine(MW r (by omega) he hi (by omega) (by omega)).mono ?_;rintro en w' ⟨rfl,r2⟩;exact⟨rfl,qp.on ⟨lv,cs,r,f⟩ fun _ _ _=>r2⟩
theorem Ul(h:qp F X w s x wr)(hs:s.size<=274877906944):Z4 41 #[Z8 X,.int .u8 60] wr fun en w'=>en=.returned (.string (x.char s 60).2)/\qp F X w s (x.char s 60).1 w':=by
 obtain⟨lv,cs,r,f⟩:=h;refine(Kh r.sat (by omega) 60).mono ?_;rintro en w' ⟨rfl,r2⟩;exact⟨rfl,qp.on ⟨lv,cs,r,f⟩ fun _ _ _=>r.E9 r2 (zu x s 60).1⟩
theorem M2(h:qp F X w s x wr)(t:ByteArray)(a:Int)(hz:x.more.length+t.size<=1125899906842624):Z4 42 #[Z8 X,.string t,.int .i64 a] wr fun en w'=>en=.returned (.tuple #[])/\qp F X w s (x.g_ t a) w':=by
 obtain⟨lv,cs,r,f⟩:=h;refine(Bg r.sat t a hz).mono ?_;rintro en w' ⟨rfl,r2⟩;exact⟨rfl,qp.on ⟨lv,cs,r,f⟩ fun _ _ _=>r.E9 r2 rfl⟩
theorem Yn.next{y:Sc}{f:Nat}(h:Yn X w s y wr x (f+1))(he:x.err=0)(hi:x.i<s.size)(r:qp (fun k=>k=X) X w s (x.piece s) w'):Yn X w s y w' (x.piece s) f/\left X s.size w'<left X s.size wr:=by
 have hp:=QH he hi;obtain⟨o1,o2,o3,o4⟩:=h.ok he;have heq:=h.eq;simp only[iy]at heq;rw[if_pos ⟨hi,he⟩]at heq;refine⟨⟨r,heq,fun e=>?_⟩,?_⟩
 ·obtain⟨p1,p2,p3,p4⟩:=hp e;omega
 ·obtain⟨lv1,s1⟩:=r.sat;obtain⟨U9,s2⟩:=h.rs.sat;rw[left_eq s1 s.size,left_eq s2 s.size,if_pos he];split
  ·rename_i e;have:=hp e;omega
  ·omega
theorem QJ(s:ByteArray)(w:World)(hs:s.size<=274877906944):Z4 21 #[.string s] w fun en w'=>en=.returned (.pointer (some ⟨w.heap.size,0,none⟩))/\∃F lv cs,RS F w.heap.size w' s lv cs (ei s)/\Below w.heap.size w w'/\∀k,F k->w.heap.size<=k:=by
 have hb0:(w.alloc (.cells #[.string s,.int .i64 0,.slice none 0 0,.string ⟨#[]⟩,.int .i64 0,.int .i64 0,.int .i64 0] 65)).heap[w.heap.size]?=some (.cells #[.string s,.int .i64 0,.slice none 0 0,.string ⟨#[]⟩,.int .i64 0,.int .i64 0,.int .i64 0] 65):=dT _ _;have aaf:j6 w.heap.size (w.alloc (.cells #[.string s,.int .i64 0,.slice none 0 0,.string ⟨#[]⟩,.int .i64 0,.int .i64 0,.int .i64 0] 65)) s (.slice none 0 0) Sc.zero:=hb0;have h0:Yn w.heap.size (w.alloc (.cells #[.string s,.int .i64 0,.slice none 0 0,.string ⟨#[]⟩,.int .i64 0,.int .i64 0,.int .i64 0] 65)) s (ei s) (w.alloc (.cells #[.string s,.int .i64 0,.slice none 0 0,.string ⟨#[]⟩,.int .i64 0,.int .i64 0,.int .i64 0] 65)) Sc.zero (s.size+1):=
  ⟨(RS.first aaf rfl).below (Below.refl _ _),rfl,fun _=>⟨aB _,by show s.size<0+_;omega,aB _,aB _⟩⟩
 have iW:∀wr x f,Yn w.heap.size (w.alloc (.cells #[.string s,.int .i64 0,.slice none 0 0,.string ⟨#[]⟩,.int .i64 0,.int .i64 0,.int .i64 0] 65)) s (ei s) wr x f->x=ei s->∃F lv cs,RS F w.heap.size wr s lv cs (ei s)/\Below w.heap.size w wr/\∀k,F k->w.heap.size<=k:=by
  rintro wr x f ⟨⟨lv,cs,r,fr⟩,_,_⟩ rfl;refine⟨_,lv,cs,r,((Below.refl _ w).alloc (au _) _).trans ⟨fr.os,fr.tape,fr.output,fr.size,fun k hk=>fr.block k (by simp;omega) (by omega)⟩,?_⟩;rintro k (e|e)
  ·omega
  ·have:=e.1;simp at this;omega
 have H0:=a_ h0;have HF:=a_ iW;clear h0 iW aaf hb0;go_enter func21,ntmps21;go_wp2_with fail;generalize hw1:w.alloc (.cells #[.string s,.int .i64 0,.slice none 0 0,.string ⟨#[]⟩,.int .i64 0,.int .i64 0,.int .i64 0] 65)=w1 at*
 clear hw1;go_loopw [4,5] (fun _ _ wr=>∃x' f,Yn w.heap.size w1 s (ei s) wr x' f) (fun _ _ wr=>left w.heap.size s.size wr)
 case atStart=>exact⟨_,_,H0.out⟩
 case round=>
  obtain⟨x',f,u⟩:=hrel;obtain⟨lv',sat'⟩:=u.rs.sat;have c1:wr.cell? ⟨w.heap.size,1,none⟩=some (.int .i64 x'.i):=sat'.cell 1 rfl;have c5:wr.cell? ⟨w.heap.size,5,none⟩=some (.int .i64 x'.err):=sat'.cell 5 rfl;clear sat';by_cases he:x'.err=0
  ·have e0:(x'.err==0)=true:=by simpa using he
   by_cases hi:x'.i<s.size
   ·have hd:decide ((x'.i:Int)<(s.size:Int))=true:=by simp;omega
    obtain⟨o1,o2,o3,o4⟩:=u.ok he;obtain⟨f,rfl⟩:∃g,f=g+1:=⟨f-1,by omega⟩
    have NV:s[x'.i]=s.get! x'.i:=(Utf8W.get!_of_lt s x'.i hi).symm;have Ec:=fun w' (r:qp (fun k=>k=w.heap.size) w.heap.size w1 s (x'.piece s) w')=>u.next he hi r;have Xm:=fun W (r:qp (fun k=>k=w.heap.size) w.heap.size w1 s x' W)=>MZ r hs he hi o3 o4;have hch:=fun W (r:qp (fun k=>k=w.heap.size) w.heap.size w1 s x' W)=>Ul r hs;have U:=a_ u.rs;have HN:=a_ Ec;have HM:=a_ Xm;have HC:=a_ hch;have hcg:=Bh x' s 60 he o1;clear u Ec Xm hch;unfold Sc.piece at HN;by_cases rY:(s.get! x'.i).toNat=60
    ·have hq:(((s.get! x'.i).toNat:Int)==60)=true:=by simp;omega
     rw[if_pos rY]at HN;clear he rY hcg;go_wp2_with fail;refine(HM.out _ U.out).mono ?_;rintro e w2 ⟨rfl,r2⟩;have R2:=a_ (HN.out w2 r2);clear r2;go_wp2;exact⟨⟨_,_,R2.out.1⟩,R2.out.2⟩
    ·have hq:(((s.get! x'.i).toNat:Int)==60)=false:=by simp;omega
     rw[if_neg rY]at HN;by_cases hce:(x'.char s 60).1.err=0
     ·have e1:((x'.char s 60).1.err==0)=true:=by simpa using hce
      rw[if_pos hce]at HN;obtain⟨g1,g2,g3⟩:=hcg.1 hce;have MY:=fun W (r:qp (fun k=>k=w.heap.size) w.heap.size w1 s (x'.char s 60).1 W)=>M2 r (x'.char s 60).2 x'.i (by rw[(zu x' s 60).2.1];omega);have HT:=a_ MY;clear he rY hcg hce MY;go_wp2_with fail;refine(HC.out _ U.out).mono ?_;rintro e w2 ⟨rfl,r2⟩;obtain⟨U9,QK⟩:=r2.sat;have c25:w2.cell? ⟨w.heap.size,5,none⟩=some (.int .i64 (x'.char s 60).1.err):=QK.cell 5 rfl;have R2:=a_ r2;clear r2 QK;go_wp2_with fail;refine(HT.out _ R2.out).mono ?_;rintro e w3 ⟨rfl,r3⟩;have R3:=a_ (HN.out w3 r3);clear r3;go_wp2;exact⟨⟨_,_,R3.out.1⟩,R3.out.2⟩
     ·have e1:((x'.char s 60).1.err==0)=false:=by simpa using hce
      rw[if_neg hce]at HN;clear he rY hcg hce;go_wp2_with fail;refine(HC.out _ U.out).mono ?_;rintro e w2 ⟨rfl,r2⟩;obtain⟨U9,QK⟩:=r2.sat;have c25:w2.cell? ⟨w.heap.size,5,none⟩=some (.int .i64 (x'.char s 60).1.err):=QK.cell 5 rfl;have R2:=a_ (HN.out w2 r2);clear r2 QK;go_wp2;exact⟨⟨_,_,R2.out.1⟩,R2.out.2⟩
   ·have hd:decide ((x'.i:Int)<(s.size:Int))=false:=by simp;omega
    have hx:x'=ei s:=by
     rw[<-u.eq];cases f with
     |zero=>rfl
     |succ f=>simp only[iy];rw[if_neg (fun e=>hi e.1)]
    have R:=a_ (HF.out wr x' f u hx);clear u he hx;go_wp2;go_ret;exact⟨rfl,R.out⟩
  ·have e0:(x'.err==0)=false:=by simpa using he
   have hx:x'=ei s:=by rw[<-u.eq,rF he]
   have R:=a_ (HF.out wr x' f u hx);clear u he hx;by_cases hi:x'.i<s.size
   ·have hd:decide ((x'.i:Int)<(s.size:Int))=true:=by simp;omega
    go_wp2;go_ret;exact⟨rfl,R.out⟩
   ·have hd:decide ((x'.i:Int)<(s.size:Int))=false:=by simp;omega
    go_wp2;go_ret;exact⟨rfl,R.out⟩
end
section
variable{X:Nat}{w w' w'' wr:World}{s t:ByteArray}{lv:Value}{x x':Sc}{F:Nat->Prop}{cs:List Value}
def QL(w:World)(v:Value)(l:List fe):Prop:=∃F X cs,w.ownsRow 0 72 5 v l.length cs/\nG F X w l cs
theorem M3(b:Option Addr)(n c:Nat)(h:n<=c)(w:World):(Builtin.append_ #[62,62] 62 #[.slice b n c,.slice none 0 0]).run prog w=.ok (.slice b n c) w:=by cases b<;>simp[Builtin.append_,underlying,underlying62,sizeOf72,Builtin.lenOf,Builtin.firstCells,h,storeCells,Result.andThen]
theorem QM(h:j6 X w s lv x):Z4 22 #[Z8 X] w fun en w'=>∃v,en=.returned v/\Below w.heap.size w w'/\((x.last=[]/\v=.slice none 0 0)\/(x.last=[gi x]/\v=.slice (some ⟨w.heap.size,0,none⟩) 1 1/\w'.heap[w.heap.size]?=some (.cells (eH (gi x) (.slice none 0 0)).toArray 72))):=by
 have c3:w.cell? ⟨X,3,none⟩=some (.string ⟨x.more.toArray⟩):=h.cell 3 rfl;have c4:w.cell? ⟨X,4,none⟩=some (.int .i64 x.fI):=h.cell 4 rfl;have c5:w.cell? ⟨X,5,none⟩=some (.int .i64 x.err):=h.cell 5 rfl;unfold Sc.last;clear h;by_cases he:x.err=0
 ·have e0:(x.err !=0)=false:=by simpa using he
  by_cases hm:x.more=[]
  ·rw[if_pos (Or.inr hm)];have em:x.more.isEmpty=true:=by rw[hm];rfl
   clear he hm;go_enter func22,ntmps22;go_wp2;go_ret;exact⟨_,rfl,Below.refl _ _,Or.inl ⟨trivial,rfl⟩⟩
  ·rw[if_neg (by rintro(h|h);exact h he;exact hm h)];have em:x.more.isEmpty=false:=by simpa using hm
   clear he hm;go_enter func22,ntmps22;go_wp2_with fail;have d3:(w.alloc (.cells #[.int .i64 3,.string ⟨#[]⟩,.slice none 0 0,.string ⟨x.more.toArray⟩,.int .i64 x.fI] 72)).cell? ⟨X,3,none⟩=some (.string ⟨x.more.toArray⟩):=dX _ c3;have d4:(w.alloc (.cells #[.int .i64 3,.string ⟨#[]⟩,.slice none 0 0,.string ⟨x.more.toArray⟩,.int .i64 x.fI] 72)).cell? ⟨X,4,none⟩=some (.int .i64 x.fI):=dX _ c4;go_region_held3 (fun W=>W.cell? ⟨X,3,none⟩=some (.string ⟨x.more.toArray⟩)/\W.cell? ⟨X,4,none⟩=some (.int .i64 x.fI))
    (first|exact⟨c3,c4⟩|exact⟨d3,d4⟩)
    (fail)
   all_goals
    go_wp2;go_ret;exact⟨_,rfl,((Below.refl _ _).alloc (au _) _).drew,Or.inr ⟨trivial,rfl,dT _ _⟩⟩
 ·have e0:(x.err !=0)=true:=by simpa using he
  rw[if_pos (Or.inl he)];clear he;go_enter func22,ntmps22;go_wp2;go_ret;exact⟨_,rfl,Below.refl _ _,Or.inl ⟨trivial,rfl⟩⟩
theorem QN(h:RS F X w s lv cs x){w1:World}(b:Below w.heap.size w w1)(v:Value)(hv:(x.last=[]/\v=.slice none 0 0)\/(x.last=[gi x]/\v=.slice (some ⟨w.heap.size,0,none⟩) 1 1/\w1.heap[w.heap.size]?=some (.cells (eH (gi x) (.slice none 0 0)).toArray 72)))(hn:x.l.length<=1099511627776):
  ∃v' w2,(Builtin.append_ #[62,62] 62 #[lv,v]).run prog w1=.ok v' w2/\QL w2 v' (x.l++x.last)/\w1.grownBy w2 lv.ownBlock:=by
 have Um:w1.ownsRow 0 72 5 lv x.l.length cs:=dY h.row fun k e=>b.block k (h.lt k (h.own k e).1);have Vl:nG F X w1 x.l cs:=h.LR.frame fun k _ _ _ _ _ a _=>⟨b.block k (h.lt k a),a⟩
 rcases hv with⟨e1,rfl⟩|⟨e1,rfl,hb⟩
 ·obtain⟨ai,ac,rfl,hle⟩:∃ai ac,lv=.slice ai x.l.length ac/\x.l.length<=ac:=by
   rcases Um.2 with⟨rfl,hn⟩|⟨g,cap,cur,rfl,sx,hg,hc,hm,hcs,vz⟩
   ·exact⟨none,0,by rw[hn],by omega⟩
   ·exact⟨_,_,rfl,hc⟩
  refine⟨_,w1,M3 ai _ ac hle w1,⟨F,X,cs,?_,?_⟩,⟨rfl,rfl,rfl,au _,fun _ _ _=>rfl⟩⟩
  ·rw[e1,aP];exact Um
  ·rw[e1,aP];exact Vl
 ·obtain⟨i0,hi,hz0,hz1,hz2⟩:=aY Ii;have hcell:∀j u,(eH (gi x) (.slice none 0 0))[j]?=some u->w1.cell? ((⟨w.heap.size,0,none⟩:Addr).add j)=some u:=by
   intro j u hj;rw[Addr.add_mid,aG];refine cell_of hb ?_;simpa using hj
  obtain⟨v',w2,hr,ho,hgr,_,hat⟩:=cY (P:=prog) w1 0 62 62 72 i0 _ 5 72 underlying62 hi hz0 hz1 hz2 rfl (by decide) lv x.l.length cs Um ⟨w.heap.size,0,none⟩ 1 1 (eH (gi x) (.slice none 0 0)) rfl hcell (oZ _ _ rfl) (by unfold maxLen;omega) (by omega) (aB _);refine⟨v',w2,hr,⟨F,X,cs++eH (gi x) (.slice none 0 0),?_,?_⟩,hgr⟩
  ·rw[e1];simp only[ax,aC,aI,aG];exact ho
  ·rw[e1];refine(Vl.frame fun k n xs u hu e a c=>⟨?_,a⟩).app ⟨.slice none 0 0,[],by simp,bB _ _ _ _,by intro k e;simp[Value.ownBlock]at e,rfl⟩;exact hgr.block k (eu hu e) (fun e2=>ku hu Um (by decide) e e2.symm)
theorem DK{ops:Array Oper}{rest:List Oper}{o:Oper}{a:Act}{w:World}{Q:Exit->Act->World->Prop}(hgd:o.guard=none)(s x:Operand)(ho:o.op=Op.call {callee:=Callee.builtin Builtin.append,args:=#[s,x],argTypes:=#[62,62]})(hty:o.type=62)
  (v1 v2:Value) (hs:a.eval s=v1) (hx:a.eval x=v2) {v':Value} {w':World} (hr:(Builtin.append_ #[62,62] 62 #[v1,v2]).run prog w=.ok v' w') (h:wpList prog ops Q rest (a.put o.dst v') w'):wpList prog ops Q (o::rest) a w:=by
 refine wpList_plain hgd fun K hK=>?_;unfold Oper.wp execOp;simp only[ho,hty,resolve,invoke,builtin,Sem.run_bind,Sem.run_pure,dP,List.map_toArray,bO,cH,hs,hx,hr];exact hK _ _ h
theorem QO(s:ByteArray):(ei s).l.length<=3*s.size+3:=by
 have key:∀(f:Nat) (x:Sc),x.err=0->x.i<=s.size->x.l.length<=3*x.i->(iy s f x).l.length<=3*s.size+3:=by
  intro f;induction f with
  |zero=>intro x he hi hl;show x.l.length<=_;omega
  |succ f ih=>
   intro x he hi hl;simp only[iy];split
   ·rename_i hc;rcases mY (g:=fun _=>[]) he hc.1 (KA x)with⟨h1,h2,h3,h4,_⟩|⟨h1,h2,_⟩
    ·exact ih _ h1 h3 (by have:=h4.2.2;omega)
    ·rw[rF h1,h2];omega
   ·omega
 exact key _ Sc.zero rfl (aB _) (aB _)
end
end K
end Go.Proofs.YtclgfepngpeifaaGreatDoor
