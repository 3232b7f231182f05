import Derived.Test.YthlcmljckpdheaaGreatDoorHA
import Derived.Test.YthlcmljckpdheaaGreatDoorHat
import Derived.Test.YthlcmljckpdheaaGreatDoorHas
set_option linter.unusedVariables false
set_option linter.unusedSimpArgs false
set_option maxHeartbeats 32000000
set_option maxRecDepth 100000
namespace Go.Proofs.YthlcmljckpdheaaGreatDoor
namespace K
open Go.RowKit Go.Lib Tryz
section
variable{s:ByteArray}{p:Nat}{c:Int}{x y z:Sc}{q:Bool}
theorem Kc(h:0<=cur s p):Ch.may (cur s p)=true:=by
 have hc:=fp h;have h1:Ch.gW s p=true:=hc.2.1;rw[hc.2.2.1];simp only[Ch.gW,aV]at h1;exact h1.1
theorem gB.nil:gB []:=⟨[],fun c hc=>by simp at hc,rfl⟩
theorem gB.one(h:Ch.may c=true):gB (Lib.encodeRune c):=⟨[c],fun d hd=>by simp at hd;rw[hd];exact h,by simp[XL]⟩
theorem gB.add{a b:List UInt8}(h:gB a)(k:gB b):gB (a++b):=by
 obtain⟨cs,h1,h2⟩:=h;obtain⟨ds,k1,k2⟩:=k;refine⟨cs++ds,fun c hc=>?_,by rw[h2,k2];simp[XL]⟩;rcases List.mem_append.1 hc with e|e
 ·exact h1 c e
 ·exact k1 c e
theorem Bk(he:x.err=0)(km:Nat)(hb:32<=km/\km<128)(h:(x.char s km).1.err=0):gB (x.char s km).2.data.toList:=by
 rw[uP he km hb]at h ⊢;split
 ·rename_i h1;rw[if_pos h1]at h;exact absurd h (fx x s he)
 ·rename_i h1;rw[if_neg h1]at h;split
  ·rename_i h2;rw[if_pos h2]at h;split
   ·rename_i h3;rw[if_pos h3]at h;exact absurd h (nU x 4 x.i he (by decide))
   ·rename_i h3;have:=Ch.jk h3;exact gB.one this.1
  ·have h0:0<=cur s x.i:=by omega
   rw[ij,show x.i+wid s x.i-x.i=wid s x.i by omega,<-mh h0];exact gB.one (Kc h0)
theorem MC(Q:Nat)(hQ:32<=Q/\Q<128):∀(f:Nat) (x:Sc) (t:List UInt8),gB t->(jm s Q f x t).1.err=0->gB (jm s Q f x t).2:=by
 intro f;induction f with
 |zero=>intro x t ht _;exact ht
 |succ f ih=>
  intro x t ht h;simp only[jm]at h ⊢;split
  ·rename_i h1;rw[if_pos h1]at h;by_cases hc:(x.char s Q).1.err=0
   ·exact ih _ _ (ht.add (Bk h1.1 Q hQ hc)) h
   ·have hv:∀f t,jm s Q f (x.char s Q).1 t=((x.char s Q).1,t):=by
     intro f t;cases f with
     |zero=>rfl
     |succ f=>simp only[jm];rw[if_neg (fun e=>hc e.1)]
    rw[hv]at h;exact absurd h hc
  ·exact ht
theorem IU(he:x.err=0)(h:(x.value s).1.err=0):gB (x.value s).2:=by
 rw[q_ he]at h ⊢;split
 ·rename_i h1;rw[if_pos h1]at h;exact MC _ (by rcases h1 with e|e<;>rw[e]<;>decide) _ _ _ gB.nil h
 ·exact gB.nil
theorem FH(t:ByteArray)(hz:t.size≠0)(fY:Nat):∀(f:Nat) (x:Sc),x.err=0->fY<=x.i->gB (Ch.bytes s fY (x.i-fY))->gB (gu s t fY f x).2.data.toList:=by
 intro f;induction f with
 |zero=>intro x _ _ _;exact gB.nil
 |succ f ih=>
  intro x he hf ht;rw[nW _ _ _ _ _ he hz];split
  ·rw[ij];exact ht
  ·split
   ·rename_i h0;refine ih _ he (by show fY<=x.i+wid s x.i;omega) ?_;have hb:=px s fY (x.i-fY) (wid s x.i);rw[show fY+(x.i-fY)=x.i by omega]at hb;show gB (Ch.bytes s fY (x.i+wid s x.i-fY));rw[show x.i+wid s x.i-fY=x.i-fY+wid s x.i by omega,<-hb,<-mh h0];exact ht.add (gB.one (Kc h0))
   ·rw[jy _ _ _ _ _ (fx x s he)];exact gB.nil
theorem Df(he:x.err≠0)(l:List UInt8):(Sc.eZ s l x).err≠0:=by
 cases l with
 |nil=>exact he
 |cons u l=>simp only[Sc.eZ];rw[if_neg he];exact he
theorem Dg(h:(x.name s).1.err=0):kU (x.name s).2.data.toList:=by
 by_cases he:x.err=0
 ·by_cases hb:Ch.ft (cur s x.i)=true
  ·rw[(lB he hb).2];exact⟨s,x.i,hb,rfl⟩
  ·rw[oC he hb]at h;exact absurd h (fx x s he)
 ·unfold Sc.name at h;rw[if_neg he]at h;exact absurd h he
theorem UN{l:nE}(h:(x.attr s l).1.err=0):kU (x.attr s l).2.1/\gB (x.attr s l).2.2/\l.any (fun b=>b.1==(x.attr s l).2.1)=false:=by
 unfold Sc.attr at h ⊢;split
 ·rename_i h1;rw[if_pos h1]at h;have h2:(x.gY s l).err=0:=by
   refine bJ fun e=>?_;have:(Sc.eZ s [61] ((x.gY s l).fh s)).err≠0:=Df (show ((x.gY s l).fh s).err≠0 from e) _;exact this h1
  have h3:l.any (fun a=>a.1==(x.name s).2.data.toList)=false/\(x.name s).1.err=0:=by
   unfold Sc.gY at h2;split at h2
   ·by_cases hn:(x.name s).1.err=0
    ·exact absurd h2 (nU _ 5 x.i hn (by decide))
    ·unfold Sc.fail at h2;rw[if_neg hn]at h2;exact absurd h2 hn
   ·rename_i h4;exact⟨Bool.eq_false_iff.2 h4,h2⟩
  exact⟨Dg h3.2,IU h1 h,h3.1⟩
 ·rename_i h1;rw[if_neg h1]at h;exact absurd h h1
theorem FI:∀(a b l:nE),uV l (a++b)↔uV l a/\uV (l++a) b:=by
 intro a;induction a with
 |nil=>intro b l;simp[uV]
 |cons u a ih=>
  intro b l;simp only[bI,uV,ih,and_assoc,bt,List.singleton_append];simp
theorem MD:∀(f:Nat) (x:Sc) (l:nE),(∀a∈l,kU a.1/\gB a.2)->uV [] l->(fg s f x l).1.err=0->(∀a∈(fg s f x l).2,kU a.1/\gB a.2)/\uV [] (fg s f x l).2:=by
 intro f;induction f with
 |zero=>intro x l h1 h2 _;exact⟨h1,h2⟩
 |succ f ih=>
  intro x l h1 h2 h;simp only[fg]at h ⊢;split
  ·exact⟨h1,h2⟩
  ·rename_i h3;rw[if_neg h3]at h;by_cases ha:((x.fh s).attr s l).1.err=0
   ·obtain⟨a1,a2,a3⟩:=UN ha;refine ih _ _ ?_ ?_ h
    ·intro a hm;rcases List.mem_append.1 hm with e|e
     ·exact h1 a e
     ·rw[List.mem_singleton.1 e];exact⟨a1,a2⟩
    ·rw[FI];exact⟨h2,by simpa [uV]using a3⟩
   ·rw[j5 ha]at h;exact absurd h ha
def Inv(x:Sc):Prop:=gB x.more/\pD false x.l/\ends false x.l=false
theorem Inv.same(h:Inv x)(k:gC x y):Inv y:=by
 obtain⟨a,b,d⟩:=h;exact⟨by rw[k.2.1];exact a,by rw[k.1];exact b,by rw[k.1];exact d⟩
theorem Inv.told{t:Tok}(h:Inv x)(ht:x.err=0->FA t/\t.kind≠3):Inv (x.told t):=by
 by_cases he:x.err=0
 ·obtain⟨h1,h2,h3⟩:=h;obtain⟨t1,t2⟩:=ht he;rw[CW he];refine⟨gB.nil,?_,?_⟩
  ·simp only;rw[p7];split
   ·rw[h3];exact⟨h2,t1,fun e=>absurd e t2,trivial⟩
   ·rename_i hm;rw[p7,wQ,h3];refine⟨⟨h2,Or.inr (Or.inr ⟨rfl,rfl,rfl,h1,hm⟩),fun _=>rfl,trivial⟩,t1,fun e=>absurd e t2,trivial⟩
  ·simp only;rw[wQ];simp only[ends];simpa using t2
 ·rw[kp he];exact h
theorem xD{k:Int}{n:List UInt8}{l:nE}{t:List UInt8}{a:Int}(h:k≠3):(⟨k,n,l,t,a⟩:Tok).kind≠3:=h
theorem Dh{nm:List UInt8}{l:nE}{tg:Int}(h:Inv x)(hn:x.err=0->kU nm/\(∀a∈l,kU a.1/\gB a.2)/\uV [] l):Inv (x.jz s nm l tg):=by
 unfold Sc.jz;have hm:∀y:Sc,y.err=x.err->((Sc.eZ s [62] y).err=0->x.err=0):=by
  intro y hy e;refine bJ fun e2=>?_;exact Df (s:=s) (x:=y) (by rw[hy];exact e2) [62] e
 split
 ·have i1:=(h.same (o7 x (x.i+1))).same (iI s [62] _);have i2:=i1.told (t:=⟨1,nm,l,[],tg⟩) (fun e=>by
   obtain⟨a,b,d⟩:=hn (hm {x with i:=x.i+1} rfl e);exact⟨Or.inl ⟨rfl,a,b,d,rfl⟩,xD (by decide)⟩)
  exact i2.told (fun e=>by
   rw[oY]at e;obtain⟨a,b,d⟩:=hn (hm {x with i:=x.i+1} rfl e);exact⟨Or.inr (Or.inl ⟨rfl,a,rfl,rfl⟩),xD (by decide)⟩)
 ·have i1:=h.same (iI s [62] x);exact i1.told (t:=⟨1,nm,l,[],tg⟩) (fun e=>by
   obtain⟨a,b,d⟩:=hn (hm _ rfl e);exact⟨Or.inl ⟨rfl,a,b,d,rfl⟩,xD (by decide)⟩)
theorem FJ{tg:Int}(h:Inv x):Inv (x.kK s tg):=by
 unfold Sc.kK;refine Dh ((h.same (og x s)).same (Db _ s)) fun e=>?_;have hn:(x.name s).1.err=0:=by
  refine bJ fun e2=>?_;unfold Sc.d_ at e;rw[j5 e2]at e;exact e2 e
 have ha:=MD (s:=s) (s.size+2) (x.name s).1 [] (fun a hm=>by simp at hm) trivial e;exact⟨Dg hn,ha.1,ha.2⟩
theorem Di{tg:Int}(h:Inv x):Inv (x.jR s tg):=by
 unfold Sc.jR;refine(((h.same (og x s)).same (od _ s)).same (iI s [62] _)).told fun e=>?_;have hn:(x.name s).1.err=0:=by
  refine bJ fun e2=>?_;exact Df (s:=s) (x:=(x.name s).1.fh s) e2 [62] e
 exact⟨Or.inr (Or.inl ⟨rfl,Dg hn,rfl,rfl⟩),xD (by decide)⟩
theorem ME(h:Inv x)(he:x.err=0):Inv (x.sT s):=by
 unfold Sc.sT;have h1:=(h.same (iI s [91,67,68,65,84,65,91] x)).same (nr _ s ⟨#[93,93,62]⟩);split
 ·rename_i hc;refine⟨?_,h1.2.1,h1.2.2⟩;refine h1.1.add ?_;by_cases hm:(Sc.eZ s [91,67,68,65,84,65,91] x).err=0
  ·exact FH _ (by decide) _ _ _ hm (aj _) (by rw[Nat.sub_self];exact gB.nil)
  ·unfold Sc.until at hc;rw[jy _ _ _ _ _ hm]at hc;exact absurd hc.1 hm
 ·exact h1
theorem IV(h:Inv x)(he:x.err=0):Inv (x.kA s):=by
 unfold Sc.kA Sc.behind;have h1:=h.same (o7 x (x.i+1));split
 ·unfold Sc.oV;have h2:=h1.same (o7 _ (x.i+1+1));split
  ·exact ME h2 he
  ·unfold Sc.remark;exact((h2.same (iI s [45,45] _)).same (nr _ s _)).same (iI s [62] _)
 ·split
  ·unfold Sc.order;have h2:=h1.same (o7 _ (x.i+1+1));exact(h2.same (og _ s)).same (nr _ s _)
  ·split
   ·exact Di (h1.same (o7 _ (x.i+1+1)))
   ·exact FJ h1
theorem MF(h:Inv x)(he:x.err=0):Inv (x.piece s):=by
 unfold Sc.piece;split
 ·exact IV h he
 ·have h1:=h.same (zk x s 60);split
  ·rename_i hc;exact⟨h1.1.add (Bk he 60 (by omega) hc),h1.2.1,h1.2.2⟩
  ·exact h1
theorem Bl:∀(f:Nat) (x:Sc),Inv x->Inv (iQ s f x):=by
 intro f;induction f with
 |zero=>intro x h;exact h
 |succ f ih=>
  intro x h;simp only[iQ];split
  ·rename_i hc;exact ih _ (MF h hc.2)
  ·exact h
theorem uY(s:ByteArray):pD false (mS s).1:=by
 have h:Inv (eV s):=Bl _ _ ⟨gB.nil,trivial,rfl⟩;unfold mS;split
 ·trivial
 ·rename_i he;have he:(eV s).err=0:=by simpa using he
  simp only;rw[p7,h.2.2];refine⟨h.2.1,?_⟩;unfold Sc.last;split
  ·trivial
  ·rename_i hm;exact⟨Or.inr (Or.inr ⟨rfl,rfl,rfl,h.1,fun e=>hm (Or.inr e)⟩),fun _=>rfl,trivial⟩
end
section
variable{g:Gr}{l:List Nd}{n n':Nd}{k L:Nat}{st:List Nat}{t:Tok}
structure mJ(l:List Nd):Prop where
 zero:∀n,l[0]?=some n->n.up= -1/\n.name≠[]
 up:∀(i:Nat) n,l[i+1]?=some n->∃u:Nat,n.up=u/\u<=i/\∃m,l[u]?=some m/\m.name≠[]
 nd:∀(k:Nat) n,l[k]?=some n->n.kids.Nodup/\uV [] n.d_
 kid:∀(k:Nat) n,l[k]?=some n->∀x:Nat,x∈n.kids↔∃m,l[x]?=some m/\m.up=(k:Int)
structure GrN(g:Gr):Prop where
 tree:mJ g.nodes
 none:g.nodes=[]->g.stack=[]
 named:∀k∈g.stack,∃n,g.nodes[k]?=some n/\n.name≠[]
theorem v_(hs:g.stack=k::st){i:Nat}{m:Nd}(h:(g.put n).nodes[i]?=some m):(i<g.nodes.length/\∃o,g.nodes[i]?=some o/\m.up=o.up/\m.name=o.name/\m.d_=o.d_/\m.kids=if i=k then o.kids++[g.nodes.length]else o.kids)\/(i=g.nodes.length/\m={n with up:=(k:Int)}):=by
 unfold Gr.put at h;rw[hs]at h;simp only at h;by_cases hi:i<g.nodes.length
 ·rw[aL (by rw[gi];exact hi),nG]at h;refine Or.inl ⟨hi,?_⟩;by_cases hk:i=k
  ·rw[if_pos hk]at h;obtain⟨o,ho,rfl⟩:=Option.map_eq_some_iff.1 h;exact⟨o,ho,rfl,rfl,rfl,by rw[if_pos hk];rfl⟩
  ·rw[if_neg hk]at h;exact⟨m,h,rfl,rfl,rfl,by rw[if_neg hk]⟩
 ·rw[aP (by rw[gi];omega),gi]at h;have:=(List.getElem?_eq_some_iff.1 h).1;simp only[au,aF]at this;have e:i=g.nodes.length:=by omega
  rw[e,Nat.sub_self]at h;exact Or.inr ⟨e,by simpa using h.symm⟩
theorem FK(G:GrN g)(hk:n.kids=[])(hd:uV [] n.d_)(h0:g.stack=[]->g.nodes=[]/\n.name≠[]):mJ (g.put n).nodes/\∀k∈g.stack,∃m,(g.put n).nodes[k]?=some m/\m.name≠[]:=by
 cases hs:g.stack with
 |nil=>
  obtain⟨h1,h2⟩:=h0 hs;have e:(g.put n).nodes=[{n with up:= -1}]:=by unfold Gr.put;rw[hs];simp[h1]
  rw[e];refine⟨⟨fun m hm=>?_,fun i m hm=>by simp at hm,fun i m hm=>?_,fun i m hm x=>?_⟩,fun k hk=>by simp at hk⟩
  ·obtain rfl:_=m:=by simpa using hm
   exact⟨rfl,h2⟩
  ·cases i with
   |zero=>
    obtain rfl:_=m:=by simpa using hm
    exact⟨by simp[hk],hd⟩
   |succ i=>simp at hm
  ·cases i with
   |zero=>
    obtain rfl:_=m:=by simpa using hm
    refine⟨fun h=>by simp[hk]at h,fun⟨m,h1,h2⟩=>?_⟩;cases x with
    |zero=>
     obtain rfl:_=m:=by simpa using h1
     simp at h2
    |succ x=>simp at h1
   |succ i=>simp at hm
 |cons k st=>
  have T:=G.tree;obtain⟨nk,hnk,K5⟩:=G.named k (by rw[hs];exact bO);have mN:k<g.nodes.length:=(List.getElem?_eq_some_iff.1 hnk).1;have keep:∀(i:Nat) m,g.nodes[i]?=some m->∃m',(g.put n).nodes[i]?=some m'/\m'.up=m.up/\m'.name=m.name:=fun i m h=>by
   obtain⟨m',h1,h2,h3,_⟩:=Fz g n i m h;exact⟨m',h1,h2,h3⟩
  have last:=rk g n;rw[hs]at last;have YW:∀(i:Nat) o,g.nodes[i]?=some o->o.up≠g.nodes.length:=fun i o ho e=>by
   cases i with
   |zero=>have:=(T.zero o ho).1;omega
   |succ i=>
    obtain⟨u,h1,h2,-⟩:=T.up i o ho;have:=(List.getElem?_eq_some_iff.1 ho).1;omega
  refine⟨⟨fun m hm=>?_,fun i m hm=>?_,fun i m hm=>?_,fun i m hm x=>?_⟩,fun j hj=>?_⟩
  ·rcases v_ hs hm with⟨_,o,ho,e1,e2,_⟩|⟨e,_⟩
   ·have:=T.zero o ho;rw[e1,e2];exact this
   ·omega
  ·rcases v_ hs hm with⟨_,o,ho,e1,e2,_⟩|⟨e,rfl⟩
   ·obtain⟨u,h1,h2,m2,h3,h4⟩:=T.up i o ho;obtain⟨m3,h5,_,h6⟩:=keep u m2 h3;exact⟨u,e1.trans h1,h2,m3,h5,by rw[h6];exact h4⟩
   ·obtain⟨m3,h5,_,h6⟩:=keep k nk hnk;exact⟨k,rfl,by omega,m3,h5,by rw[h6];exact K5⟩
  ·rcases v_ hs hm with⟨hi,o,ho,e1,e2,e3,e4⟩|⟨e,rfl⟩
   ·obtain⟨h1,h2⟩:=T.nd i o ho;rw[e3,e4];refine⟨?_,h2⟩;split
    ·refine List.nodup_append.2 ⟨h1,by simp,fun a ha b hb e=>?_⟩;obtain⟨m2,h3,-⟩:=(T.kid i o ho a).1 ha;have:=(List.getElem?_eq_some_iff.1 h3).1;simp at hb;omega
    ·exact h1
   ·exact⟨by simp[hk],hd⟩
  ·rcases v_ hs hm with⟨hi,o,ho,e1,e2,e3,e4⟩|⟨e,rfl⟩
   ·rw[e4];have old:=T.kid i o ho x;constructor
    ·intro hx;have:x∈o.kids\/(i=k/\x=g.nodes.length):=by
      split at hx
      ·rename_i hik;rcases List.mem_append.1 hx with h|h
       ·exact Or.inl h
       ·exact Or.inr ⟨hik,by simpa using h⟩
      ·exact Or.inl hx
     rcases this with h|⟨rfl,rfl⟩
     ·obtain⟨m2,h1,h2⟩:=old.1 h;obtain⟨m3,h3,h4,-⟩:=keep x m2 h1;exact⟨m3,h3,h4.trans h2⟩
     ·exact⟨_,last,rfl⟩
    ·rintro⟨m2,h1,h2⟩;rcases v_ hs h1 with⟨hx,o2,ZL,f1,-⟩|⟨rfl,rfl⟩
     ·have:=old.2 ⟨o2,ZL,f1.symm.trans h2⟩;split
      ·exact dA _ this
      ·exact this
     ·have:i=k:=by simp only at h2;omega
      rw[if_pos this];simp
   ·simp only[hk];refine⟨fun h=>by simp at h,fun⟨m2,h1,h2⟩=>?_⟩;rcases v_ hs h1 with⟨hx,o2,ZL,f1,-⟩|⟨rfl,rfl⟩
    ·exact absurd (f1.symm.trans (h2.trans (by rw[e]))) (YW x o2 ZL)
    ·simp only at h2;omega
  ·rw[<-hs]at hj;obtain⟨m,h1,h2⟩:=G.named j hj;obtain⟨m3,h3,_,h4⟩:=keep j m h1;exact⟨m3,h3,by rw[h4];exact h2⟩
theorem Bn{n:List UInt8}(h:kU n):n≠[]:=by
 obtain⟨s,q,h1,rfl⟩:=h;have hi:vx (cur s q)=true:=by unfold vx;rw[h1];rfl
 obtain⟨h2,_,_,h3,h4⟩:=fp (mj hi);have h5:=j4 hi;have h6:=pU s (q+wid s q);have h7:=nh (s:=s) (i:=q) (by omega);intro e;have:=vZ s q (jr s q-q) (by omega);rw[e,aF]at this;omega
theorem MG(G:GrN g)(ht:FA t)(h:(g.take t).1=0):GrN (g.take t).2:=by
 unfold Gr.take at h ⊢;split
 ·rename_i h1;rw[if_pos h1]at h;have hn:kU t.name/\uV [] t.d_:=by
   rcases ht with⟨_,a,_,b,_⟩|⟨e,_⟩|⟨e,_⟩
   ·exact⟨a,b⟩
   ·omega
   ·omega
  split
  ·exact G
  ·rename_i h2;split
   ·exact G
   ·have hput:=FK (n:=elemOf t) G rfl hn.2 (fun e=>⟨by simpa [e]using h2,Bn hn.1⟩);have wD:=rk g (elemOf t);refine⟨hput.1,fun e=>?_,fun k hk=>?_⟩
    ·simp only at e;rw[e]at wD;simp at wD
    ·rcases List.mem_cons.1 hk with e|e
     ·exact⟨_,by rw[e];exact wD,Bn hn.1⟩
     ·exact hput.2 k e
 ·rename_i h1;rw[if_neg h1]at h;split
  ·rename_i h2;rw[if_pos h2]at h;split
   ·exact G
   ·rename_i k st hs;split
    ·exact⟨G.tree,fun e=>by have:=G.none e;rw[hs]at this;simp at this,fun j hj=>G.named j (by rw[hs];exact bP _ hj)⟩
    ·exact G
  ·split
   ·split<;>exact G
   ·rename_i k st hs;have hput:=FK (n:=jo t) G rfl trivial (fun e=>by rw[hs]at e;simp at e);have wD:=rk g (jo t);refine⟨hput.1,fun e=>?_,fun k hk=>?_⟩
    ·rw[e]at wD;simp at wD
    ·rw[nH]at hk;exact hput.2 k hk
theorem Bo:∀(l:List Tok) (g:Gr) (b:Bool),GrN g->pD b l->(grow g l).1=0->GrN (grow g l).2.2
 |[],g,b,G,_,_=>G
 |t::l,g,b,G,hc,h=>by
  simp only[grow]at h ⊢;split at h
  ·rename_i h1;exact absurd h h1
  ·rename_i h1;rw[if_neg h1];exact Bo l _ _ (MG G hc.1 (by simpa using h1)) hc.2.2 h
theorem xE{s:ByteArray}(h:(fj s).2.1=0):mJ (fj s).1/\0<(fj s).1.length:=by
 unfold fj at h ⊢;split
 ·rename_i h1;rw[if_pos h1]at h;exact absurd h h1
 ·rename_i h1;rw[if_neg h1]at h;split
  ·rename_i h2;rw[if_pos h2]at h;exact absurd h h2
  ·rename_i h2;rw[if_neg h2]at h;split
   ·rename_i h3;rw[if_pos h3]at h;simp at h
   ·rename_i h3;have hc:pD false ((eV s).l++(eV s).last):=by
     have:=uY s;unfold mS at this;rwa[if_neg (by simpa using h2)]at this
    have G:=Bo _ Gr.zero _ ⟨⟨fun n h=>by simp[Gr.zero]at h,fun i n h=>by simp[Gr.zero]at h,fun i n h=>by simp[Gr.zero]at h,fun i n h=>by simp[Gr.zero]at h⟩,fun _=>rfl,fun k h=>by simp[Gr.zero]at h⟩ hc (by simpa using h1);refine⟨G.tree,List.length_pos_iff.2 fun e=>h3 (Or.inr e)⟩
end
section
variable{s:ByteArray}{p:Nat}{c:Int}{x y z:Sc}{q:Bool}
theorem uZ(q:Bool):∀l:List UInt8,(Ch.tu q l).length<=6*l.length
 |[]=>aj _
 |u::l=>by
  have e1:Ch.tu q (u::l)=Ch.zT q u++Ch.tu q l:=by simp[Ch.tu]
  have ih:=uZ q l;have h1:(Ch.zT q u).length<=6:=by
   unfold Ch.zT Ch.oL
   repeat' split
   all_goals simp
  rw[e1,af,au];omega
def cost(l:List Tok):Nat:=(l.flatMap jG).length
theorem rp(a b:List Tok):cost (a++b)=cost a+cost b:=by simp[cost]
def j6(x:Sc):Nat:=cost x.l+(if x.more=[]then 0 else 6*x.more.length+27)
theorem sj(x:Sc)(t:Tok):j6 (x.told t)<=j6 x+(jG t).length:=by
 by_cases he:x.err=0
 ·rw[CW he];unfold j6;simp only[if_true];rw[rp];have h1:cost [t]=(jG t).length:=by simp[cost]
  split
  ·omega
  ·have h2:cost [gS x]<=6*x.more.length+27:=by
    have h3:cost [gS x]=(jG (gS x)).length:=by simp[cost]
    have h4:jG (gS x)=Ch.tu false x.more++marks:=rfl;have h5:=uZ false x.more;have h6:marks.length=27:=rfl;rw[h3,h4,af];omega
   rw[rp];omega
 ·rw[kp he];omega
theorem jB(h:gC x y):j6 y=j6 x:=by unfold j6;rw[h.1,h.2.1]
theorem wg(h:(x.name s).1.err=0):(x.name s).1.i=x.i+(x.name s).2.data.toList.length/\1<=(x.name s).2.data.toList.length:=by
 by_cases he:x.err=0
 ·by_cases hb:Ch.ft (cur s x.i)=true
  ·have vv:vx (cur s x.i)=true:=by unfold vx;rw[hb];rfl
   have h0:0<=cur s x.i:=mj vv;have hc:=fp h0;have hle:jr s x.i<=s.size:=nh (by omega);have NJ:x.i<jr s x.i:=by
    have:=pU s (x.i+wid s x.i);rw[j4 vv];omega
   rw[(lB he hb).1,(lB he hb).2,vZ s _ _ (by omega)];exact⟨by simp only;omega,by omega⟩
  ·rw[oC he hb]at h;exact absurd h (fx x s he)
 ·unfold Sc.name at h;rw[if_neg he]at h;exact absurd h he
theorem lZ:∀(l:List UInt8) (x:Sc),x.i<=(Sc.eZ s l x).i/\((Sc.eZ s l x).err=0->x.err=0/\(Sc.eZ s l x).i=x.i+l.length):=by
 intro l;induction l with
 |nil=>intro x;exact⟨aj _,fun e=>⟨e,rfl⟩⟩
 |cons u l ih=>
  intro x;simp only[Sc.eZ];split
  ·rename_i he;split
   ·obtain⟨a,b⟩:=ih {x with i:=x.i+1};refine⟨by have a':x.i+1<=(Sc.eZ s l {x with i:=x.i+1}).i:=a;omega,fun e=>⟨he,?_⟩⟩
    have b':(Sc.eZ s l {x with i:=x.i+1}).i=x.i+1+l.length:=(b e).2;rw[b',au];omega
   ·obtain⟨a,b⟩:=ih (x.wrong s);rw[lz]at a;exact⟨a,fun e=>absurd (b e).1 (fx x s he)⟩
  ·rename_i he;exact⟨aj _,fun e=>absurd e he⟩
theorem Bp(he:x.err=0)(km:Nat)(hb:32<=km/\km<128):x.i+(x.char s km).2.data.toList.length<=(x.char s km).1.i:=by
 rw[uP he km hb];split
 ·show x.i+0<=(x.wrong s).i;rw[lz];omega
 ·rename_i h1;split
  ·split
   ·show x.i+0<=(x.fail 4 x.i).i;rw[yy];omega
   ·rename_i h3;have h4:=Ch.jk h3;have h5:=Ch.rL (Ch.eU s x.i).1;show x.i+(Lib.encodeRune (Ch.eU s x.i).1).length<=x.i+(Ch.eU s x.i).2.toNat;omega
  ·have hx:=ij s x.i (x.i+wid s x.i);rw[hx];have:(Ch.bytes s x.i (x.i+wid s x.i-x.i)).length<=wid s x.i:=by unfold Ch.bytes;rw[bM];omega
   show x.i+_<=x.i+wid s x.i;omega
theorem MH(Q:Nat)(hQ:32<=Q/\Q<128):∀(f:Nat) (x:Sc) (t:List UInt8),x.i+(jm s Q f x t).2.length<=t.length+(jm s Q f x t).1.i:=by
 intro f;induction f with
 |zero=>intro x t;simp only[jm];omega
 |succ f ih=>
  intro x t;simp only[jm];split
  ·rename_i h1;have h2:=ih (x.char s Q).1 (t++(x.char s Q).2.data.toList);have h3:=Bp (s:=s) h1.1 Q hQ;rw[af]at h2;omega
  ·simp only;omega
theorem IW(he:x.err=0)(h:(x.value s).1.err=0):x.i+(x.value s).2.length+2<=(x.value s).1.i:=by
 rw[q_ he]at h ⊢;split
 ·rename_i h1;have h2:=MH (s:=s) (cur s x.i).toNat (by rcases h1 with e|e<;>rw[e]<;>decide) (s.size+2) {x with i:=x.i+1} [];simp only[aF]at h2 ⊢;omega
 ·rename_i h1;rw[if_neg h1]at h;exact absurd h (fx x s he)
theorem u_(x:Sc):(x.fh s).i=x.i+x.skip s:=rfl
theorem MI{l:nE}(h:(x.attr s l).1.err=0):x.i+(x.attr s l).2.1.length+(x.attr s l).2.2.length+3<=(x.attr s l).1.i:=by
 unfold Sc.attr at h ⊢;split
 ·rename_i h1;rw[if_pos h1]at h;have h2:=IW h1 h;have hm:=lZ (s:=s) [61] ((x.gY s l).fh s);have ZW:(Sc.eZ s [61] ((x.gY s l).fh s)).err=0:=h1;have Kz:=hm.2 ZW;have XW:(x.gY s l).err=0:=Kz.1;have h3:x.gY s l=(x.name s).1:=by
   unfold Sc.gY at XW ⊢;split
   ·rename_i h4;rw[if_pos h4]at XW;by_cases hn:(x.name s).1.err=0
    ·exact absurd XW (nU _ 5 x.i hn (by decide))
    ·unfold Sc.fail at XW;rw[if_neg hn]at XW;exact absurd XW hn
   ·rfl
  have hn:=wg (s:=s) (x:=x) (by rw[<-h3];exact XW);have e1:(x.equal s l).i=(Sc.eZ s [61] ((x.gY s l).fh s)).i+(Sc.eZ s [61] ((x.gY s l).fh s)).skip s:=rfl;have e2:=u_ (s:=s) (x.gY s l);have e3:=Kz.2;rw[h3]at e1 e2 e3;simp only[au,aF]at e3;simp only;omega
 ·rename_i h1;rw[if_neg h1]at h;exact absurd h h1
theorem FL(a:List UInt8×List UInt8):(lY a).length<=6+a.1.length+6*a.2.length:=by
 have:=uZ true a.2;unfold lY;simp only[au,af,aF];omega
theorem FM:∀(f:Nat) (x:Sc) (l:nE),(fg s f x l).1.err=0->(l.flatMap lY).length<=8*x.i->((fg s f x l).2.flatMap lY).length+8*x.i<=(l.flatMap lY).length+8*(fg s f x l).1.i:=by
 intro f;induction f with
 |zero=>intro x l h _;simp only[fg];omega
 |succ f ih=>
  intro x l h hl;simp only[fg]at h ⊢;split
  ·rw[u_];simp only;omega
  ·rename_i h3;rw[if_neg h3]at h;by_cases ha:((x.fh s).attr s l).1.err=0
   ·have hp:=MI ha;have hb:=u_ (s:=s) x;have hc:=FL ((x.fh s).attr s l).2;have e1:((l++[((x.fh s).attr s l).2]).flatMap lY).length=(l.flatMap lY).length+(lY ((x.fh s).attr s l).2).length:=by simp
    have:=ih _ _ h (by rw[e1];omega);rw[e1]at this;omega
   ·rw[j5 ha]at h;exact absurd h ha
theorem rq(t:ByteArray)(fY:Nat):∀(f:Nat) (x:Sc),fY<=x.i->x.i<=(gu s t fY f x).1.i/\fY+(gu s t fY f x).2.data.toList.length<=(gu s t fY f x).1.i:=by
 intro f;induction f with
 |zero=>intro x h;exact⟨aj _,h⟩
 |succ f ih=>
  intro x h;simp only[gu];split
  ·split
   ·refine⟨by simp only;omega,?_⟩;have hx:=ij s fY x.i;rw[hx];have:(Ch.bytes s fY (x.i-fY)).length<=x.i-fY:=by unfold Ch.bytes;rw[bM];omega
    simp only;omega
   ·split
    ·have:=ih (x.wrong s) (by rw[lz];exact h);rw[lz]at this;exact this
    ·have:=ih {x with i:=x.i+(Ch.nL s x.i).2.toNat} (by simp only;omega);simp only at this;omega
  ·exact⟨aj _,h⟩
def IX(x:Sc):Prop:=x.err=0->j6 x<=64*x.i
theorem Ad{nm:List UInt8}{L:nE}{tg:Int}(h:(x.jz s nm L tg).err=0):x.err=0/\x.i+1<=(x.jz s nm L tg).i/\j6 (x.jz s nm L tg)<=j6 x+6+2*nm.length+(L.flatMap lY).length:=by
 unfold Sc.jz at h ⊢;have cst:(jG ⟨1,nm,L,[],tg⟩).length=3+nm.length+(L.flatMap lY).length:=by
  have:jG ⟨1,nm,L,[],tg⟩=60::(nm++(L.flatMap lY++[32,62])):=rfl;rw[this];simp only[au,af,aF];omega
 have XX:(jG ⟨2,nm,[],[],tg⟩).length=3+nm.length:=by
  have:jG ⟨2,nm,[],[],tg⟩=[60,47]++nm++[62]:=rfl;rw[this];simp only[au,af,aF];omega
 split
 ·rename_i A3;rw[if_pos A3,oY,oY]at h;obtain⟨k1,k2⟩:=(lZ (s:=s) [62] {x with i:=x.i+1}).2 h;simp only[au,aF]at k2;have hb:=jB ((o7 x (x.i+1)).trans (iI s [62] _));have b1:=sj (Sc.eZ s [62] {x with i:=x.i+1}) ⟨1,nm,L,[],tg⟩;have b2:=sj ((Sc.eZ s [62] {x with i:=x.i+1}).told ⟨1,nm,L,[],tg⟩) ⟨2,nm,[],[],tg⟩;rw[cst]at b1;rw[XX]at b2;rw[jA,jA];exact⟨k1,by omega,by omega⟩
 ·rename_i A3;rw[if_neg A3,oY]at h;obtain⟨k1,k2⟩:=(lZ (s:=s) [62] x).2 h;simp only[au,aF]at k2;have hb:=jB (iI s [62] x);have b1:=sj (Sc.eZ s [62] x) ⟨1,nm,L,[],tg⟩;rw[cst]at b1;rw[jA];exact⟨k1,by omega,by omega⟩
theorem Dj{tg:Int}(h:(x.kK s tg).err=0):j6 (x.kK s tg)+64*x.i<=j6 x+64*(x.kK s tg).i:=by
 unfold Sc.kK at h ⊢;obtain⟨k1,k2,k3⟩:=Ad h;have hb:=jB ((og x s).trans (Db (x.name s).1 s));have hne:(x.name s).1.err=0:=by
  refine bJ fun e2=>?_;unfold Sc.d_ at k1;rw[j5 e2]at k1;exact e2 k1
 have hn:=wg hne;have ha:=FM (s:=s) (s.size+2) (x.name s).1 [] k1 (by simp);simp only[dw,aF,ax]at ha;have ha':(((x.name s).1.d_ s).2.flatMap lY).length+8*(x.name s).1.i<=8*((x.name s).1.d_ s).1.i:=ha;omega
theorem Ae{tg:Int}(h:(x.jR s tg).err=0):j6 (x.jR s tg)+64*x.i<=j6 x+64*(x.jR s tg).i:=by
 unfold Sc.jR at h ⊢;rw[oY]at h;have hm:=(lZ (s:=s) [62] ((x.name s).1.fh s)).2 h;have hn:=wg (s:=s) (x:=x) hm.1;have hb:=jB (((og x s).trans (od _ s)).trans (iI s [62] ((x.name s).1.fh s)));have b1:=sj (Sc.eZ s [62] ((x.name s).1.fh s)) ⟨2,(x.name s).2.data.toList,[],[],tg⟩;have XX:(jG ⟨2,(x.name s).2.data.toList,[],[],tg⟩).length=3+(x.name s).2.data.toList.length:=by
  have:jG ⟨2,(x.name s).2.data.toList,[],[],tg⟩=[60,47]++(x.name s).2.data.toList++[62]:=rfl;rw[this];simp only[au,af,aF];omega
 have e2:=u_ (s:=s) (x.name s).1;have e3:=hm.2;simp only[au,aF]at e3;rw[XX]at b1;rw[jA];omega
theorem wR(x:Sc)(t:ByteArray)(a:Int)(h:t.data.toList≠[]):j6 (x.iC t a)<=j6 x+6*t.data.toList.length+27:=by
 have h1:¬(x.iC t a).more=[]:=fun e=>h (List.append_eq_nil_iff.1 e).2;unfold j6;rw[if_neg h1];have e1:(x.iC t a).more.length=x.more.length+t.data.toList.length:=af;have e2:(x.iC t a).l=x.l:=rfl;rw[e1,e2];split
 ·rename_i h2;rw[h2];simp only[aF];omega
 ·omega
theorem IY(h:(x.sT s).err=0):j6 (x.sT s)+64*x.i<=j6 x+64*(x.sT s).i:=by
 unfold Sc.sT at h ⊢;have hm:=lZ (s:=s) [91,67,68,65,84,65,91] x;have hu:=rq (s:=s) ⟨#[93,93,62]⟩ (Sc.eZ s [91,67,68,65,84,65,91] x).i (s.size+2) (Sc.eZ s [91,67,68,65,84,65,91] x) (aj _);have hu':(Sc.eZ s [91,67,68,65,84,65,91] x).i<=((Sc.eZ s [91,67,68,65,84,65,91] x).until s ⟨#[93,93,62]⟩).1.i/\(Sc.eZ s [91,67,68,65,84,65,91] x).i+((Sc.eZ s [91,67,68,65,84,65,91] x).until s ⟨#[93,93,62]⟩).2.data.toList.length<=((Sc.eZ s [91,67,68,65,84,65,91] x).until s ⟨#[93,93,62]⟩).1.i:=hu;have hb:=jB ((iI s [91,67,68,65,84,65,91] x).trans (nr _ s ⟨#[93,93,62]⟩));generalize hU:(Sc.eZ s [91,67,68,65,84,65,91] x).until s ⟨#[93,93,62]⟩=U at*
 split
 ·rename_i hc;have hme:(Sc.eZ s [91,67,68,65,84,65,91] x).err=0:=by
   refine bJ fun e=>?_;have:U.1=Sc.eZ s [91,67,68,65,84,65,91] x:=by rw[<-hU];unfold Sc.until;rw[jy _ _ _ _ _ e]
   rw[this]at hc;exact e hc.1
  have UO:=(hm.2 hme).2;have hlen:[91,67,68,65,84,65,91].length=7:=rfl;have ht:=wR U.1 U.2 (Sc.eZ s [91,67,68,65,84,65,91] x).i hc.2;show j6 _+64*x.i<=j6 x+64*U.1.i;have hpos:1<=U.2.data.toList.length:=List.length_pos_iff.2 hc.2;simp only[au,aF]at UO;omega
 ·have:=hm.1;omega
theorem FN(x:Sc):x.i<=(x.remark s).i:=by
 unfold Sc.remark;have h1:=(lZ (s:=s) [45,45] x).1;have h2:=(rq (s:=s) ⟨#[45,45]⟩ (Sc.eZ s [45,45] x).i (s.size+2) (Sc.eZ s [45,45] x) (aj _)).1;have h3:=(lZ (s:=s) [62] ((Sc.eZ s [45,45] x).until s ⟨#[45,45]⟩).1).1;exact aw h1 (aw h2 h3)
theorem UQ(x:Sc):x.i<=(x.name s).1.i:=by
 unfold Sc.name;repeat' split
 ·rw[lz];exact aj _
 ·simp only;omega
 ·exact aj _
theorem IZ(x:Sc):x.i<=(x.order s).i:=by
 unfold Sc.order;exact aw (UQ x) (rq (s:=s) ⟨#[63,62]⟩ (x.name s).1.i (s.size+2) (x.name s).1 (aj _)).1
theorem FO(h:(x.kA s).err=0):j6 (x.kA s)+64*x.i<=j6 x+64*(x.kA s).i:=by
 unfold Sc.kA Sc.behind at h ⊢;split
 ·rename_i YR;rw[if_pos YR]at h;unfold Sc.oV at h ⊢;split
  ·rename_i Eb;rw[if_pos Eb]at h;have h1:=IY h;have hb:=jB (o7 x (x.i+1+1));simp only at h1 ⊢;omega
  ·have h1:=FN (s:=s) {x with i:=x.i+1+1};have hb:j6 (({x with i:=x.i+1+1}:Sc).remark s)=j6 x:=jB ((((o7 x (x.i+1+1)).trans (iI s [45,45] _)).trans (nr _ s ⟨#[45,45]⟩)).trans (iI s [62] _));simp only at h1 ⊢;omega
 ·rename_i YR;rw[if_neg YR]at h;split
  ·have h1:=IZ (s:=s) {x with i:=x.i+1+1};have hb:j6 (({x with i:=x.i+1+1}:Sc).order s)=j6 x:=jB (((o7 x (x.i+1+1)).trans (og _ s)).trans (nr _ s ⟨#[63,62]⟩));simp only at h1 ⊢;omega
  ·rename_i h63;rw[if_neg h63]at h;split
   ·rename_i A3;rw[if_pos A3]at h;have h1:=Ae h;have hb:=jB (o7 x (x.i+1+1));simp only at h1 ⊢;omega
   ·rename_i A3;rw[if_neg A3]at h;have h1:=Dj h;have hb:=jB (o7 x (x.i+1));simp only at h1 ⊢;omega
theorem zl(h:IX x)(he:x.err=0):IX (x.piece s):=by
 intro e;have h0:=h he;unfold Sc.piece at e ⊢;split
 ·rename_i sG;rw[if_pos sG]at e;have:=FO e;omega
 ·rename_i sG;rw[if_neg sG]at e;split
  ·rename_i hc;have h1:=Bp (s:=s) he 60 (by omega);have h2:=jB (zk x s 60);by_cases hn:(x.char s 60).2.data.toList=[]
   ·have e1:j6 ((x.char s 60).1.iC (x.char s 60).2 x.i)=j6 (x.char s 60).1:=by unfold j6 Sc.iC;rw[hn];simp
    have e2:((x.char s 60).1.iC (x.char s 60).2 x.i).i=(x.char s 60).1.i:=rfl;rw[e1,e2];omega
   ·have ht:=wR (x.char s 60).1 (x.char s 60).2 x.i hn;have hpos:1<=(x.char s 60).2.data.toList.length:=List.length_pos_iff.2 hn;have e2:((x.char s 60).1.iC (x.char s 60).2 x.i).i=(x.char s 60).1.i:=rfl;rw[e2];omega
  ·rename_i hc;rw[if_neg hc]at e;exact absurd e hc
theorem I0:∀(f:Nat) (x:Sc),IX x->IX (iQ s f x):=by
 intro f;induction f with
 |zero=>intro x h;exact h
 |succ f ih=>
  intro x h;simp only[iQ];split
  ·rename_i hc;exact ih _ (zl h hc.2)
  ·exact h
theorem Rel.zero:Rel Sc.zero ⟨fun _=>[],fun _=>0,0,[],[],0,[]⟩:=⟨⟨rfl,rfl,fun e=>absurd rfl e⟩,rfl,rfl,rfl⟩
theorem QF(s:ByteArray):cost (mS s).1<=64*s.size:=by
 unfold mS;split
 ·simp[cost]
 ·rename_i he;have he:(eV s).err=0:=by simpa using he
  have hp:IX (eV s):=I0 _ _ (fun _=>by simp[j6,cost,Sc.zero]);have h1:=hp he;have hi:(eV s).i=s.size:=(tI (s:=s) (fun _=>[]) (s.size+1) Sc.zero _ rfl (aq _) (by show s.size<0+(s.size+1);omega) Rel.zero he).1;rw[hi]at h1;refine aw ?_ h1;simp only;rw[rp];unfold j6 Sc.last;split
  ·simp[cost]
  ·rename_i hm;rw[if_neg (fun e=>hm (Or.inr e))];have h3:cost [gS (eV s)]=(jG (gS (eV s))).length:=by simp[cost]
   have h4:jG (gS (eV s))=Ch.tu false (eV s).more++marks:=rfl;have h5:=uZ false (eV s).more;have h6:marks.length=27:=rfl;rw[h3,h4,af];omega
end
end K
end Go.Proofs.YthlcmljckpdheaaGreatDoor
namespace Go.Proofs.YthlcmljckpdheaaGreatDoor
namespace K
open Go.RowKit Go.Maps Go.Lib Tryz
section
variable{X:Nat}{w w' w'' wr:World}{s t:ByteArray}{lv:Value}{x x':Sc}{F:Nat->Prop}{cs:List Value}
theorem zm{w1:World}{y:Sc}(k:SE X w s lv y w1)(I J:Nat)(hJ:J=I+1):SE X w s lv {y with i:=J} (w1.setCell ⟨X,1,none⟩ (.int .i64 ((I:Int)+1))):=by
 rw[show ((I:Int)+1)=(J:Int) by omega];exact k.set (x':={y with i:=J}) 1 (.int .i64 (J:Int)) rfl
theorem I3(x:Sc)(s t:ByteArray):(x.until s t).2.size<=s.size:=by
 have key:∀(f:Nat) (x:Sc) (fY:Nat),(gu s t fY f x).2.size<=s.size:=by
  intro f;induction f with
  |zero=>intro x fY;exact aq _
  |succ f ih=>
   intro x fY;simp only[gu]
   repeat' split
   ·simp only[cv];omega
   ·exact ih _ _
   ·exact ih _ _
   ·exact aq _
 exact key _ _ _
theorem MJ(h:RS F X w s lv cs x)(hs:s.size<=1099511627776)(he:x.err=0)(hi:x.i<s.size)(hn:x.l.length<=1099511627770)(hm:x.more.length<=s.size):
  Z4 34 #[Z8 X] w fun en w'=>en=.returned (.tuple #[])/\qU F X w s (x.kA s) w':=by
 have c1:w.cell? ⟨X,1,none⟩=some (.int .i64 x.i):=h.sat.cell 1 rfl;have f1:=h.sat.free 1;have hlt:=h.sat.lt;have kit:=XV X s lv hs;obtain⟨J,hJ⟩:∃J,J=x.i+1:=⟨_,rfl⟩
 have hwr:IntKind.i64.wrap ((x.i:Int)+1)=(x.i:Int)+1:=by rw[aI];omega
 have R0:=a_ (zm (SE.refl h.sat) x.i J hJ);have UR:x.kA s=Sc.behind {x with i:=J} s x.i:=by unfold Sc.kA;rw[hJ]
 rw[UR];have hx0:gC x {x with i:=J}:=o7 x J;have hxe:({x with i:=J}:Sc).err=0:=he;have Ua:({x with i:=J}:Sc).i=J:=rfl;have hxf:Fits s {x with i:=J}:=fun _=>by show J<=_;omega
 generalize ({x with i:=J}:Sc)=x1 at*
 have K:=a_ kit;have H:=a_ h;have HS:=a_ hx0;have HXE:=a_ hxe;have HXF:=a_ hxf;clear kit h hx0 UR he hxe hxf;have i33:=fun W (b:ky X W s lv x1)=>K.out.YX W x1 b 33 (by decide);have i63:=fun W (b:ky X W s lv x1)=>K.out.YX W x1 b 63 (by decide);have i47:=fun W (b:ky X W s lv x1)=>K.out.YX W x1 b 47 (by decide);unfold Sc.behind;cases q33:x1.is s 33
 ·rw[q33]at i33;have MK:=a_ i33;clear i33 q33;simp only[ay,bf];cases q63:x1.is s 63
  ·rw[q63]at i63;have US:=a_ i63;clear i63 q63;simp only[ay,bf];cases Bj:x1.is s 47
   ·rw[Bj]at i47;have XY:=a_ i47;clear i47 Bj;simp only[ay,bf];have hns:gC x (x1.name s).1:=HS.out.trans (og _ s);have hnf:Fits s (x1.name s).1:=Dc HXF.out;have qF:=fun W (b:ky X W s lv x1)=>K.out.name W x1 b HXF.out;unfold Sc.kK;generalize x1.name s=N at*
    have hat:=fun W (b:ky X W s lv N.1)=>K.out.d_ W N.1 b hnf;have has:gC x (N.1.d_ s).1:=hns.trans (Db _ s);have haf:Fits s (N.1.d_ s).1:=UM hnf;generalize N.1.d_ s=A at*
    have NR:=fun W (b:ky X W s lv A.1)=>K.out.YX W A.1 b 47 (by decide);unfold Sc.jz;have D6:=a_ qF;have sQ:=a_ hat;have HAS:=a_ has;have HAF:=a_ haf;have HJ:=a_ hJ;clear qF hat has haf hns hnf hJ;cases q2:A.1.is s 47
    ·rw[q2]at NR;have I2:=a_ NR;clear NR q2;simp only[ay,bf];go_enter func34,ntmps34;go_wp2_with fail;refine(MK.out _ R0.out.1).mono ?_;rintro e w1 ⟨rfl,r1⟩;have R1:=a_ (R0.out.on r1);clear r1 MK;go_wp2_with fail;refine(US.out _ R1.out.1).mono ?_;rintro e w2 ⟨rfl,r2⟩;have R2:=a_ (R1.out.on r2);clear r2 US;go_wp2_with fail;refine(XY.out _ R2.out.1).mono ?_;rintro e w3 ⟨rfl,r3⟩;have R3:=a_ (R2.out.on r3);clear r3 XY;go_wp2_with fail;refine(D6.out _ R3.out.1).mono ?_;rintro e w4 ⟨rfl,r4⟩;have R4:=a_ (R3.out.on r4);clear r4;go_wp2_with fail;refine(sQ.out _ R4.out.1).mono ?_;rintro e w5 ⟨v,rfl,r5,tM,QG⟩;obtain⟨ai,ac,rfl⟩:=eF tM;have R5:=a_ (R4.out.on r5);have Da:=a_ tM;have QH:Hid (∀k,(Value.slice ai A.2.length ac).ownBlock=some k->w.heap.size<=k):=a_ fun k e=>aw R4.out.2.size (QG k e);clear r5 tM QG;have K8:Hid ((Value.slice ai A.2.length ac).ownBlock≠some X):=a_ fun e=>by have:=QH.out X e;omega
     go_wp2_with fail;refine(I2.out _ R5.out.1).mono ?_;rintro e w6 ⟨rfl,r6⟩;have R6:=a_ (R5.out.on r6);have Qy:=a_ (iz Da.out K8.out r6.2);clear r6;go_wp2_with fail;refine(K.out.must _ _ R6.out.1 HAF.out ⟨#[62]⟩ (by decide) (by decide)).mono ?_;rintro e w7 ⟨rfl,r7⟩;have R7:=a_ (R6.out.on r7);have Qz:=a_ (iz Qy.out K8.out r7.2);clear r7;have hsm:gC x (Sc.eZ s [62] A.1):=HAS.out.trans (iI s _ _);have htl:=tO H.out R7.out hsm ⟨1,N.2.data.toList,A.2,[],x.i⟩ (.slice ai A.2.length ac) Qz.out QH.out (by show (Sc.eZ s [62] A.1).l.length<=_;rw[hsm.1];omega);simp only[sf]at htl;go_wp2_with fail;refine htl.mono ?_;rintro e w8 ⟨rfl,r8⟩;have R8:=a_ r8;clear r8 htl hsm;go_wp2
     go_end0
     exact⟨rfl,R8.out⟩
    ·have JN:=is_lt q2;rw[q2]at NR;have I2:=a_ NR;clear NR q2;simp only[if_true];have PA:IntKind.i64.wrap ((A.1.i:Int)+1)=(A.1.i:Int)+1:=by rw[aI];omega
     have RR:=a_ (fun w1 (r:SE X w s lv A.1 w1)=>zm r A.1.i (A.1.i+1) rfl);have Lj:Hid (gC x {A.1 with i:=A.1.i+1}):=a_ (HAS.out.trans (o7 _ _));have Kd:Hid (Fits s {A.1 with i:=A.1.i+1}):=a_ fun _=>by show A.1.i+1<=_;omega
     generalize hA2:({A.1 with i:=A.1.i+1}:Sc)=A2 at*
     clear hA2;go_enter func34,ntmps34;go_wp2_with fail;refine(MK.out _ R0.out.1).mono ?_;rintro e w1 ⟨rfl,r1⟩;have R1:=a_ (R0.out.on r1);clear r1 MK;go_wp2_with fail;refine(US.out _ R1.out.1).mono ?_;rintro e w2 ⟨rfl,r2⟩;have R2:=a_ (R1.out.on r2);clear r2 US;go_wp2_with fail;refine(XY.out _ R2.out.1).mono ?_;rintro e w3 ⟨rfl,r3⟩;have R3:=a_ (R2.out.on r3);clear r3 XY;go_wp2_with fail;refine(D6.out _ R3.out.1).mono ?_;rintro e w4 ⟨rfl,r4⟩;have R4:=a_ (R3.out.on r4);clear r4;go_wp2_with fail;refine(sQ.out _ R4.out.1).mono ?_;rintro e w5 ⟨v,rfl,r5,tM,QG⟩;obtain⟨ai,ac,rfl⟩:=eF tM;have R5:=a_ (R4.out.on r5);have Da:=a_ tM;have QH:Hid (∀k,(Value.slice ai A.2.length ac).ownBlock=some k->w.heap.size<=k):=a_ fun k e=>aw R4.out.2.size (QG k e);clear r5 tM QG;have K8:Hid ((Value.slice ai A.2.length ac).ownBlock≠some X):=a_ fun e=>by have:=QH.out X e;omega
     go_wp2_with fail;refine(I2.out _ R5.out.1).mono ?_;rintro e w6 ⟨rfl,r6⟩;have R6:=a_ (R5.out.on r6);have Qy:=a_ (iz Da.out K8.out r6.2);have c61:w6.cell? ⟨X,1,none⟩=some (.int .i64 (A.1.i:Int)):=R6.out.1.cell 1 rfl;have f61:=R6.out.1.free 1;have RS6:=a_ (RR.out w6 R6.out);have aap:=a_ (eH Qy.out fun k e=>ae w6 ⟨X,1,none⟩ (.int .i64 ((A.1.i:Int)+1)) k (fun e2=>K8.out (by rw[e];exact aA some e2)));clear r6;go_wp2_with fail;refine(K.out.must _ _ RS6.out.1 Kd.out ⟨#[62]⟩ (by decide) (by decide)).mono ?_;rintro e w7 ⟨rfl,r7⟩;have R7:=a_ (RS6.out.on r7);have Qz:=a_ (iz aap.out K8.out r7.2);clear r7;have hsm:gC x (Sc.eZ s [62] A2):=Lj.out.trans (iI s _ _);have htl:=tO H.out R7.out hsm ⟨1,N.2.data.toList,A.2,[],x.i⟩ (.slice ai A.2.length ac) Qz.out QH.out (by show (Sc.eZ s [62] A2).l.length<=_;rw[hsm.1];omega);simp only[sf]at htl;go_wp2_with fail;refine htl.mono ?_;rintro e w8 ⟨rfl,r8⟩;have htn:=MB r8 ⟨2,N.2.data.toList,[],[],x.i⟩ rfl (by have:=uQ (Sc.eZ s [62] A2) ⟨1,N.2.data.toList,A.2,[],x.i⟩;have h5:=hsm.1;show (Sc.told (Sc.eZ s [62] A2) ⟨1,N.2.data.toList,A.2,[],x.i⟩).l.length<=_;rw[h5]at this;omega);simp only[sf]at htn;clear htl hsm r8;go_wp2_with fail;refine htn.mono ?_;rintro e w9 ⟨rfl,r9⟩;have R9:=a_ r9;clear r9 htn;go_wp2
     go_end0
     exact⟨rfl,R9.out⟩
   ·have zK:J<s.size:=by have:=is_lt Bj;omega
    rw[Bj]at i47;have XY:=a_ i47;clear i47 Bj;simp only[if_true];obtain⟨J2,hJ2⟩:∃J2,J2=J+1:=⟨_,rfl⟩
    have PA:IntKind.i64.wrap ((J:Int)+1)=(J:Int)+1:=by rw[aI];omega
    have e2:({x1 with i:=x1.i+1}:Sc)={x1 with i:=J2}:=by rw[Ua,hJ2]
    rw[e2];have hx2:gC x {x1 with i:=J2}:=HS.out.trans (o7 x1 J2);have hf2:Fits s {x1 with i:=J2}:=fun _=>by show J2<=_;omega
    have VP:=fun w1 (r:SE X w s lv x1 w1)=>zm r J J2 hJ2;clear e2;generalize ({x1 with i:=J2}:Sc)=x2 at*
    have Lj:=a_ hx2;have Kd:=a_ hf2;have RR:=a_ VP;have HJ:=a_ hJ;have HJ2:=a_ hJ2;clear hx2 hf2 VP hJ hJ2;unfold Sc.jR;go_enter func34,ntmps34;go_wp2_with fail;refine(MK.out _ R0.out.1).mono ?_;rintro e w1 ⟨rfl,r1⟩;have R1:=a_ (R0.out.on r1);clear r1 MK;go_wp2_with fail;refine(US.out _ R1.out.1).mono ?_;rintro e w2 ⟨rfl,r2⟩;have R2:=a_ (R1.out.on r2);clear r2 US;go_wp2_with fail;refine(XY.out _ R2.out.1).mono ?_;rintro e w3 ⟨rfl,r3⟩;have R3:=a_ (R2.out.on r3);have c31:w3.cell? ⟨X,1,none⟩=some (.int .i64 (J:Int)):=by have:=R3.out.1.cell (i:=1) (v:=.int .i64 (x1.i:Int)) rfl;rw[Ua]at this;exact this
    have f31:=R3.out.1.free 1;have R4:=a_ (RR.out w3 R3.out);clear r3 XY;go_wp2_with fail;refine(K.out.name _ _ R4.out.1 Kd.out).mono ?_;rintro e w5 ⟨rfl,r5⟩;have R5:=a_ (R4.out.on r5);clear r5;go_wp2_with fail;refine(K.out.fh _ _ R5.out.1 (Dc Kd.out)).mono ?_;rintro e w6 ⟨rfl,r6⟩;have R6:=a_ (R5.out.on r6);clear r6;go_wp2_with fail;refine(K.out.must _ _ R6.out.1 (QE (Dc Kd.out)) ⟨#[62]⟩ (by decide) (by decide)).mono ?_;rintro e w7 ⟨rfl,r7⟩;have R7:=a_ (R6.out.on r7);clear r7;have hsm:gC x (Sc.eZ s [62] ((x2.name s).1.fh s)):=((Lj.out.trans (og _ s)).trans (od _ s)).trans (iI s _ _);have htl:=tO H.out R7.out hsm ⟨2,(x2.name s).2.data.toList,[],[],x.i⟩ (.slice none 0 0) (bp _ _ _ _) (by intro k e;simp[Value.ownBlock]at e) (by show (Sc.eZ s [62] ((x2.name s).1.fh s)).l.length<=_;rw[hsm.1];omega);simp only[sf]at htl;go_wp2_with fail;refine htl.mono ?_;rintro e w8 ⟨rfl,r8⟩;go_wp2;refine ba (aN rfl _ _ _) rfl ?_;exact⟨rfl,r8⟩
  ·have zK:J<s.size:=by have:=is_lt q63;omega
   rw[q63]at i63;have US:=a_ i63;clear i63 q63 i47;simp only[if_true];obtain⟨J2,hJ2⟩:∃J2,J2=J+1:=⟨_,rfl⟩
   have PA:IntKind.i64.wrap ((J:Int)+1)=(J:Int)+1:=by rw[aI];omega
   have e2:({x1 with i:=x1.i+1}:Sc)={x1 with i:=J2}:=by rw[Ua,hJ2]
   rw[e2];have hx2:gC x {x1 with i:=J2}:=HS.out.trans (o7 x1 J2);have hf2:Fits s {x1 with i:=J2}:=fun _=>by show J2<=_;omega
   have VP:=fun w1 (r:SE X w s lv x1 w1)=>zm r J J2 hJ2;clear e2;generalize ({x1 with i:=J2}:Sc)=x2 at*
   have Lj:=a_ hx2;have Kd:=a_ hf2;have RR:=a_ VP;have HJ:=a_ hJ;have HJ2:=a_ hJ2;clear hx2 hf2 VP hJ hJ2;unfold Sc.order;go_enter func34,ntmps34;go_wp2_with fail;refine(MK.out _ R0.out.1).mono ?_;rintro e w1 ⟨rfl,r1⟩;have R1:=a_ (R0.out.on r1);clear r1 MK;go_wp2_with fail;refine(US.out _ R1.out.1).mono ?_;rintro e w2 ⟨rfl,r2⟩;have R2:=a_ (R1.out.on r2);have c21:w2.cell? ⟨X,1,none⟩=some (.int .i64 (J:Int)):=by have:=R2.out.1.cell (i:=1) (v:=.int .i64 (x1.i:Int)) rfl;rw[Ua]at this;exact this
   have f21:=R2.out.1.free 1;have R3:=a_ (RR.out w2 R2.out);clear r2 US;go_wp2_with fail;refine(K.out.name _ _ R3.out.1 Kd.out).mono ?_;rintro e w4 ⟨rfl,r4⟩;have R4:=a_ (R3.out.on r4);clear r4;go_wp2_with fail;refine(K.out.De _ _ R4.out.1 (Dc Kd.out) ⟨#[63,62]⟩ (by decide)).mono ?_;rintro e w5 ⟨rfl,r5⟩;have R5:=a_ (R4.out.on r5);clear r5;go_wp2;refine ba (aN rfl _ _ _) rfl ?_;exact⟨rfl,H.out.EI R5.out ((Lj.out.trans (og _ s)).trans (nr _ s _)).1⟩
 ·have zK:J<s.size:=by have:=is_lt q33;omega
  rw[q33]at i33;have MK:=a_ i33;clear i33 q33 i63 i47;simp only[if_true];obtain⟨J2,hJ2⟩:∃J2,J2=J+1:=⟨_,rfl⟩
  have PA:IntKind.i64.wrap ((J:Int)+1)=(J:Int)+1:=by rw[aI];omega
  have e2:({x1 with i:=x1.i+1}:Sc)={x1 with i:=J2}:=by rw[Ua,hJ2]
  rw[e2];have hx2:gC x {x1 with i:=J2}:=HS.out.trans (o7 x1 J2);have hf2:Fits s {x1 with i:=J2}:=fun _=>by show J2<=_;omega
  have VP:=fun w1 (r:SE X w s lv x1 w1)=>zm r J J2 hJ2;have acp:({x1 with i:=J2}:Sc).i=J2:=rfl;clear e2;generalize ({x1 with i:=J2}:Sc)=x2 at*
  have Lj:=a_ hx2;have Kd:=a_ hf2;have RR:=a_ VP;have HJ:=a_ hJ;have HJ2:=a_ hJ2;clear hx2 hf2 VP hJ hJ2;have i91:=fun W (b:ky X W s lv x2)=>K.out.YX W x2 b 91 (by decide);unfold Sc.oV;cases q91:x2.is s 91
  ·rw[q91]at i91;have I91:=a_ i91;clear i91 q91;simp only[ay,bf];go_enter func34,ntmps34;go_wp2_with fail;refine(MK.out _ R0.out.1).mono ?_;rintro e w1 ⟨rfl,r1⟩;have R1:=a_ (R0.out.on r1);have c11:w1.cell? ⟨X,1,none⟩=some (.int .i64 (J:Int)):=by have:=R1.out.1.cell (i:=1) (v:=.int .i64 (x1.i:Int)) rfl;rw[Ua]at this;exact this
   have f11:=R1.out.1.free 1;have R2:=a_ (RR.out w1 R1.out);clear r1 MK;go_wp2_with fail;refine(I91.out _ R2.out.1).mono ?_;rintro e w3 ⟨rfl,r3⟩;have R3:=a_ (R2.out.on r3);clear r3 I91;go_wp2_with fail;refine(K.out.must _ _ R3.out.1 Kd.out ⟨#[45,45]⟩ (by decide) (by decide)).mono ?_;rintro e w4 ⟨rfl,r4⟩;have R4:=a_ (R3.out.on r4);clear r4;go_wp2_with fail;refine(K.out.De _ _ R4.out.1 (Dd s _ _ Kd.out) ⟨#[45,45]⟩ (by decide)).mono ?_;rintro e w5 ⟨rfl,r5⟩;have R5:=a_ (R4.out.on r5);clear r5;go_wp2_with fail;refine(K.out.must _ _ R5.out.1 (UL _ (by decide) (Dd s _ _ Kd.out)) ⟨#[62]⟩ (by decide) (by decide)).mono ?_;rintro e w6 ⟨rfl,r6⟩;have R6:=a_ (R5.out.on r6);clear r6;go_wp2;refine ba (aN rfl _ _ _) rfl ?_;exact⟨rfl,H.out.EI (x':=x2.remark s) R6.out (((Lj.out.trans (iI s _ _)).trans (nr _ s _)).trans (iI s _ _)).1⟩
  ·rw[q91]at i91;have I91:=a_ i91;clear i91 q91;simp only[if_true];unfold Sc.sT;have hYs:gC x (Sc.eZ s [91,67,68,65,84,65,91] x2):=Lj.out.trans (iI s _ _);have hYf:Fits s (Sc.eZ s [91,67,68,65,84,65,91] x2):=Dd s _ _ Kd.out;have L6:=fun W (b:ky X W s lv x2)=>K.out.must W x2 b Kd.out ⟨#[91,67,68,65,84,65,91]⟩ (by decide) (by decide);have hd:LH ⟨#[91,67,68,65,84,65,91]⟩ 0=[91,67,68,65,84,65,91]:=rfl;rw[hd]at L6;generalize Sc.eZ s [91,67,68,65,84,65,91] x2=Y at*
   have LV:=fun W (b:ky X W s lv Y)=>K.out.De W Y b hYf ⟨#[93,93,62]⟩ (by decide);have hUs:gC x (Y.until s ⟨#[93,93,62]⟩).1:=hYs.trans (nr Y s _);have hUb:(Y.until s ⟨#[93,93,62]⟩).2.size<=s.size:=I3 Y s _;have A7:(Y.until s ⟨#[93,93,62]⟩).1.more.length+(Y.until s ⟨#[93,93,62]⟩).2.size<=1125899906842624:=by rw[hUs.2.1];omega
   generalize Y.until s ⟨#[93,93,62]⟩=U at*
   generalize hG:(if U.1.err=0/\U.2.data.toList≠[]then U.1.iC U.2 Y.i else U.1)=G at*
   have HG:=a_ hG;have YT:=a_ L6;have HUN:=a_ LV;have HYS:=a_ hYs;have HUS:=a_ hUs;clear L6 LV hYs hUs hYf hd hG;go_enter func34,ntmps34;go_wp2_with fail;refine(MK.out _ R0.out.1).mono ?_;rintro e w1 ⟨rfl,r1⟩;have R1:=a_ (R0.out.on r1);have c11:w1.cell? ⟨X,1,none⟩=some (.int .i64 (J:Int)):=by have:=R1.out.1.cell (i:=1) (v:=.int .i64 (x1.i:Int)) rfl;rw[Ua]at this;exact this
   have f11:=R1.out.1.free 1;have R2:=a_ (RR.out w1 R1.out);clear r1 MK;go_wp2_with fail;refine(I91.out _ R2.out.1).mono ?_;rintro e w3 ⟨rfl,r3⟩;have R3:=a_ (R2.out.on r3);clear r3 I91;go_wp2_with fail;refine(YT.out _ R3.out.1).mono ?_;rintro e w4 ⟨rfl,r4⟩;have R4:=a_ (R3.out.on r4);have c41:w4.cell? ⟨X,1,none⟩=some (.int .i64 (Y.i:Int)):=R4.out.1.cell 1 rfl;clear r4;go_wp2_with fail;refine(HUN.out _ R4.out.1).mono ?_;rintro e w5 ⟨rfl,r5⟩;have R5:=a_ (R4.out.on r5);have c55:w5.cell? ⟨X,5,none⟩=some (.int .i64 U.1.err):=R5.out.1.cell 5 rfl;clear r5;by_cases XZ:U.1.err=0
   ·have e0:(U.1.err==0)=true:=by simpa using XZ
    have htl:U.2.toList=U.2.data.toList:=Lib.toList_data _;cases hb:U.2.toList.isEmpty
    ·have hne:U.2.data.toList≠[]:=by
      intro e;rw[htl,e]at hb;cases hb
     have QJ:=HG.out;rw[if_pos ⟨XZ,hne⟩]at QJ;have Xh:=a_ QJ;clear QJ;have QK:=K.out.iC w5 U.1 R5.out.1 U.2 Y.i A7;clear XZ hne htl;go_wp2_with fail;refine QK.mono ?_;rintro e w6 ⟨rfl,r6⟩;have R6:=a_ (R5.out.on r6);clear r6 QK;go_wp2;refine ba (aN rfl _ _ _) rfl ?_;exact⟨rfl,by rw[<-Xh.out];exact H.out.EI R6.out HUS.out.1⟩
    ·have hne:¬(U.1.err=0/\U.2.data.toList≠[]):=by
      rintro⟨_,e⟩;apply e;rw[<-htl];simpa using hb
     have QJ:=HG.out;rw[if_neg hne]at QJ;have Xh:=a_ QJ;clear XZ hne htl QJ;go_wp2;refine ba (aN rfl _ _ _) rfl ?_;exact⟨rfl,by rw[<-Xh.out];exact H.out.EI R5.out HUS.out.1⟩
   ·have e0:(U.1.err==0)=false:=by simpa using XZ
    have QJ:=HG.out;rw[if_neg (fun e=>XZ e.1)]at QJ;have Xh:=a_ QJ;clear XZ QJ;go_wp2;refine ba (aN rfl _ _ _) rfl ?_;exact⟨rfl,by rw[<-Xh.out];exact H.out.EI R5.out HUS.out.1⟩
end
section
variable{X:Nat}{w w' w'' wr:World}{s t:ByteArray}{lv:Value}{x x':Sc}{F:Nat->Prop}{cs:List Value}
theorem Ke(x:Sc):Rel x ⟨fun j=>if j=.text then x.more else [],fun _=>x.fY,0,[],[],0,x.l⟩:=⟨⟨rfl,rfl,fun _=>rfl⟩,rfl,rfl,rfl⟩
structure YY(X:Nat)(w:World)(s:ByteArray)(y:Sc)(wr:World)(x:Sc)(f:Nat):Prop where
 rs:qU (fun k=>k=X) X w s x wr
 eq:iQ s f x=y
 ok:x.err=0->x.i<=s.size/\s.size<x.i+f/\x.more.length<=x.i/\x.l.length<=3*x.i
theorem QL(he:x.err=0)(hi:x.i<s.size):(x.piece s).err=0->x.i<(x.piece s).i/\(x.piece s).i<=s.size/\(x.piece s).more.length+x.i<=x.more.length+(x.piece s).i/\(x.piece s).l.length<=x.l.length+3:=by
 rcases nY (g:=fun _=>[]) he hi (Ke x)with⟨_,h2,h3,h4,_⟩|⟨h1,_⟩
 ·exact fun _=>⟨h2,h3,h4.2.1,h4.2.2⟩
 ·exact fun e=>absurd e h1
theorem qU.past(h:qU F X w s x w')(b:Z5 w' w''):qU F X w s x w'':=h.on fun _ _ rs=>rs.below b
theorem qU.sat(h:qU F X w s x w'):∃lv,ky X w' s lv x:=by obtain⟨lv,cs,r,_⟩:=h;exact⟨lv,r.sat⟩
theorem ML(h:qU F X w s x wr)(hs:s.size<=274877906944)(he:x.err=0)(hi:x.i<s.size)(hm:x.more.length<=x.i)(hl:x.l.length<=3*x.i):Z4 34 #[Z8 X] wr fun en w'=>en=.returned (.tuple #[])/\qU F X w s (x.kA s) w':=by
 obtain⟨lv,cs,r,f⟩:=h;refine(MJ r (by omega) he hi (by omega) (by omega)).mono ?_;rintro en w' ⟨rfl,r2⟩;exact⟨rfl,qU.on ⟨lv,cs,r,f⟩ fun _ _ _=>r2⟩
theorem UT(h:qU F X w s x wr)(hs:s.size<=274877906944):Z4 35 #[Z8 X,.int .u8 60] wr fun en w'=>en=.returned (.string (x.char s 60).2)/\qU F X w s (x.char s 60).1 w':=by
 obtain⟨lv,cs,r,f⟩:=h;refine(JZ r.sat (by omega) 60).mono ?_;rintro en w' ⟨rfl,r2⟩;exact⟨rfl,qU.on ⟨lv,cs,r,f⟩ fun _ _ _=>r.EI r2 (zk x s 60).1⟩
theorem MN(h:qU F X w s x wr)(t:ByteArray)(a:Int)(hz:x.more.length+t.size<=1125899906842624):Z4 36 #[Z8 X,.string t,.int .i64 a] wr fun en w'=>en=.returned (.tuple #[])/\qU F X w s (x.iC t a) w':=by
 obtain⟨lv,cs,r,f⟩:=h;refine(AJ r.sat t a hz).mono ?_;rintro en w' ⟨rfl,r2⟩;exact⟨rfl,qU.on ⟨lv,cs,r,f⟩ fun _ _ _=>r.EI r2 rfl⟩
theorem YY.next{y:Sc}{f:Nat}(h:YY X w s y wr x (f+1))(he:x.err=0)(hi:x.i<s.size)(r:qU (fun k=>k=X) X w s (x.piece s) w'):YY X w s y w' (x.piece s) f/\left X s.size w'<left X s.size wr:=by
 have hp:=QL he hi;obtain⟨o1,o2,o3,o4⟩:=h.ok he;have heq:=h.eq;simp only[iQ]at heq;rw[if_pos ⟨hi,he⟩]at heq;refine⟨⟨r,heq,fun e=>?_⟩,?_⟩
 ·obtain⟨p1,p2,p3,p4⟩:=hp e;omega
 ·obtain⟨lv1,s1⟩:=r.sat;obtain⟨VC,s2⟩:=h.rs.sat;rw[left_eq s1 s.size,left_eq s2 s.size,if_pos he];split
  ·rename_i e;have:=hp e;omega
  ·omega
theorem QM(s:ByteArray)(w:World)(hs:s.size<=274877906944):Z4 20 #[.string s] w fun en w'=>en=.returned (.pointer (some ⟨w.heap.size,0,none⟩))/\∃F lv cs,RS F w.heap.size w' s lv cs (eV s)/\Z5 w w'/\∀k,F k->w.heap.size<=k:=by
 have hb0:(w.alloc (.cells #[.string s,.int .i64 0,.slice none 0 0,.string ⟨#[]⟩,.int .i64 0,.int .i64 0,.int .i64 0] 80)).heap[w.heap.size]?=some (.cells #[.string s,.int .i64 0,.slice none 0 0,.string ⟨#[]⟩,.int .i64 0,.int .i64 0,.int .i64 0] 80):=eL _ _;have aaq:ky w.heap.size (w.alloc (.cells #[.string s,.int .i64 0,.slice none 0 0,.string ⟨#[]⟩,.int .i64 0,.int .i64 0,.int .i64 0] 80)) s (.slice none 0 0) Sc.zero:=hb0;have h0:YY w.heap.size (w.alloc (.cells #[.string s,.int .i64 0,.slice none 0 0,.string ⟨#[]⟩,.int .i64 0,.int .i64 0,.int .i64 0] 80)) s (eV s) (w.alloc (.cells #[.string s,.int .i64 0,.slice none 0 0,.string ⟨#[]⟩,.int .i64 0,.int .i64 0,.int .i64 0] 80)) Sc.zero (s.size+1):=
  ⟨(RS.first aaq rfl).below (Below.refl _ _),rfl,fun _=>⟨aq _,by show s.size<0+_;omega,aq _,aq _⟩⟩
 have kh:∀wr x f,YY w.heap.size (w.alloc (.cells #[.string s,.int .i64 0,.slice none 0 0,.string ⟨#[]⟩,.int .i64 0,.int .i64 0,.int .i64 0] 80)) s (eV s) wr x f->x=eV s->∃F lv cs,RS F w.heap.size wr s lv cs (eV s)/\Z5 w wr/\∀k,F k->w.heap.size<=k:=by
  rintro wr x f ⟨⟨lv,cs,r,fr⟩,_,_⟩ rfl;refine⟨_,lv,cs,r,((Below.refl _ w).alloc (aj _) _).trans ⟨fr.os,fr.tape,fr.output,fr.size,fun k hk=>fr.block k (by simp;omega) (by omega)⟩,?_⟩;rintro k (e|e)
  ·omega
  ·have:=e.1;simp at this;omega
 have H0:=a_ h0;have HF:=a_ kh;clear h0 kh aaq hb0;go_enter func20,ntmps20;go_wp2_with fail;generalize hw1:w.alloc (.cells #[.string s,.int .i64 0,.slice none 0 0,.string ⟨#[]⟩,.int .i64 0,.int .i64 0,.int .i64 0] 80)=w1 at*
 clear hw1;go_loopw [4,5] (fun _ _ wr=>∃x' f,YY w.heap.size w1 s (eV s) wr x' f) (fun _ _ wr=>left w.heap.size s.size wr)
 case atStart=>exact⟨_,_,H0.out⟩
 case round=>
  obtain⟨x',f,u⟩:=hrel;obtain⟨lv',X0⟩:=u.rs.sat;have c1:wr.cell? ⟨w.heap.size,1,none⟩=some (.int .i64 x'.i):=X0.cell 1 rfl;have c5:wr.cell? ⟨w.heap.size,5,none⟩=some (.int .i64 x'.err):=X0.cell 5 rfl;clear X0;by_cases he:x'.err=0
  ·have e0:(x'.err==0)=true:=by simpa using he
   by_cases hi:x'.i<s.size
   ·have hd:decide ((x'.i:Int)<(s.size:Int))=true:=by simp;omega
    obtain⟨o1,o2,o3,o4⟩:=u.ok he;obtain⟨f,rfl⟩:∃g,f=g+1:=⟨f-1,by omega⟩
    have NJ:s[x'.i]=s.get! x'.i:=(Utf8W.get!_of_lt s x'.i hi).symm;have Gv:=fun w' (r:qU (fun k=>k=w.heap.size) w.heap.size w1 s (x'.piece s) w')=>u.next he hi r;have UR:=fun W (r:qU (fun k=>k=w.heap.size) w.heap.size w1 s x' W)=>ML r hs he hi o3 o4;have hch:=fun W (r:qU (fun k=>k=w.heap.size) w.heap.size w1 s x' W)=>UT r hs;have U:=a_ u.rs;have HN:=a_ Gv;have HM:=a_ UR;have HC:=a_ hch;have hcg:=AK x' s 60 he o1;clear u Gv UR hch;unfold Sc.piece at HN;by_cases sG:(s.get! x'.i).toNat=60
    ·have hq:(((s.get! x'.i).toNat:Int)==60)=true:=by simp;omega
     rw[if_pos sG]at HN;clear he sG hcg;go_wp2_with fail;refine(HM.out _ U.out).mono ?_;rintro e w2 ⟨rfl,r2⟩;have R2:=a_ (HN.out w2 r2);clear r2;go_wp2;exact⟨⟨_,_,R2.out.1⟩,R2.out.2⟩
    ·have hq:(((s.get! x'.i).toNat:Int)==60)=false:=by simp;omega
     rw[if_neg sG]at HN;by_cases hce:(x'.char s 60).1.err=0
     ·have e1:((x'.char s 60).1.err==0)=true:=by simpa using hce
      rw[if_pos hce]at HN;obtain⟨g1,g2,g3⟩:=hcg.1 hce;have QK:=fun W (r:qU (fun k=>k=w.heap.size) w.heap.size w1 s (x'.char s 60).1 W)=>MN r (x'.char s 60).2 x'.i (by rw[(zk x' s 60).2.1];omega);have HT:=a_ QK;clear he sG hcg hce QK;go_wp2_with fail;refine(HC.out _ U.out).mono ?_;rintro e w2 ⟨rfl,r2⟩;obtain⟨VC,QN⟩:=r2.sat;have c25:w2.cell? ⟨w.heap.size,5,none⟩=some (.int .i64 (x'.char s 60).1.err):=QN.cell 5 rfl;have R2:=a_ r2;clear r2 QN;go_wp2_with fail;refine(HT.out _ R2.out).mono ?_;rintro e w3 ⟨rfl,r3⟩;have R3:=a_ (HN.out w3 r3);clear r3;go_wp2;exact⟨⟨_,_,R3.out.1⟩,R3.out.2⟩
     ·have e1:((x'.char s 60).1.err==0)=false:=by simpa using hce
      rw[if_neg hce]at HN;clear he sG hcg hce;go_wp2_with fail;refine(HC.out _ U.out).mono ?_;rintro e w2 ⟨rfl,r2⟩;obtain⟨VC,QN⟩:=r2.sat;have c25:w2.cell? ⟨w.heap.size,5,none⟩=some (.int .i64 (x'.char s 60).1.err):=QN.cell 5 rfl;have R2:=a_ (HN.out w2 r2);clear r2 QN;go_wp2;exact⟨⟨_,_,R2.out.1⟩,R2.out.2⟩
   ·have hd:decide ((x'.i:Int)<(s.size:Int))=false:=by simp;omega
    have hx:x'=eV s:=by
     rw[<-u.eq];cases f with
     |zero=>rfl
     |succ f=>simp only[iQ];rw[if_neg (fun e=>hi e.1)]
    have R:=a_ (HF.out wr x' f u hx);clear u he hx;go_wp2;go_ret;exact⟨rfl,R.out⟩
  ·have e0:(x'.err==0)=false:=by simpa using he
   have hx:x'=eV s:=by rw[<-u.eq,rW he]
   have R:=a_ (HF.out wr x' f u hx);clear u he hx;by_cases hi:x'.i<s.size
   ·have hd:decide ((x'.i:Int)<(s.size:Int))=true:=by simp;omega
    go_wp2;go_ret;exact⟨rfl,R.out⟩
   ·have hd:decide ((x'.i:Int)<(s.size:Int))=false:=by simp;omega
    go_wp2;go_ret;exact⟨rfl,R.out⟩
end
end K
end Go.Proofs.YthlcmljckpdheaaGreatDoor
namespace Go.Proofs.YthlcmljckpdheaaGreatDoor
namespace K
open Go.RowKit Go.Lib Tryz
inductive Fo where
 |nil
 |text (t:List UInt8) (rest:Fo)
 |elem (n:List UInt8) (a:nE) (kids rest:Fo)
def Fo.size:Fo->Nat
 | .nil=>0
 | .text _ r=>1+r.size
 | .elem _ _ k r=>1+k.size+r.size
def Fo.deep:Fo->Nat
 | .nil=>0
 | .text _ r=>r.deep
 | .elem _ _ k r=>max (1+k.deep) r.deep
theorem s5(m:List Nd):∀(l:List Nd) (k j:Nat),k<l.length->fU (l++m) k j=fU l k j++m
 |[],k,j,h=>by simp at h
 |n::l,0,j,_=>rfl
 |n::l,k+1,j,h=>by simp only[bI,fU,s5 m l k j (by simpa using h)]
theorem FP(l:List Nd)(k j i:Nat):((fU l k j)[i]?).map Nd.name=(l[i]?).map Nd.name:=by
 rw[nG];split
 ·cases l[i]?<;>rfl
 ·rfl
theorem wj(g:Gr)(k:Nat)(n:List UInt8):g.named k n=true↔(g.nodes[k]?).map Nd.name=some n:=by unfold Gr.named;cases g.nodes[k]?<;>simp
theorem QO(g:Gr)(n:Nd)(i:Nat)(hi:i<g.nodes.length):((g.put n).nodes[i]?).map Nd.name=(g.nodes[i]?).map Nd.name:=by
 unfold Gr.put;split
 ·rw[aL hi]
 ·rename_i k _ _;rw[aL (by rw[gi];exact hi),FP]
end K
end Go.Proofs.YthlcmljckpdheaaGreatDoor
namespace Go.Proofs.YthlcmljckpdheaaGreatDoor
namespace K
open Go.RowKit Go.Maps Go.Lib Tryz
section
variable{X:Nat}{w w' w'' wr:World}{s t:ByteArray}{lv:Value}{x x':Sc}{F:Nat->Prop}{cs:List Value}
def QP(w:World)(v:Value)(l:List Tok):Prop:=∃F X cs,w.ownsRow 0 86 5 v l.length cs/\oz F X w l cs
theorem MO(b:Option Addr)(n c:Nat)(h:n<=c)(w:World):(Builtin.append_ #[77,77] 77 #[.slice b n c,.slice none 0 0]).run prog w=.ok (.slice b n c) w:=by cases b<;>simp[Builtin.append_,underlying,underlying77,sizeOf86,Builtin.lenOf,Builtin.firstCells,h,storeCells,Result.andThen]
theorem QQ(h:ky X w s lv x):Z4 21 #[Z8 X] w fun en w'=>∃v,en=.returned v/\Z5 w w'/\((x.last=[]/\v=.slice none 0 0)\/(x.last=[gS x]/\v=.slice (some ⟨w.heap.size,0,none⟩) 1 1/\w'.heap[w.heap.size]?=some (.cells (fk (gS x) (.slice none 0 0)).toArray 86))):=by
 have c3:w.cell? ⟨X,3,none⟩=some (.string ⟨x.more.toArray⟩):=h.cell 3 rfl;have c4:w.cell? ⟨X,4,none⟩=some (.int .i64 x.fY):=h.cell 4 rfl;have c5:w.cell? ⟨X,5,none⟩=some (.int .i64 x.err):=h.cell 5 rfl;unfold Sc.last;clear h;by_cases he:x.err=0
 ·have e0:(x.err !=0)=false:=by simpa using he
  by_cases hm:x.more=[]
  ·rw[if_pos (Or.inr hm)];have em:x.more.isEmpty=true:=by rw[hm];rfl
   clear he hm;go_enter func21,ntmps21;go_wp2;go_ret;exact⟨_,rfl,Below.refl _ _,Or.inl ⟨trivial,rfl⟩⟩
  ·rw[if_neg (by rintro(h|h);exact h he;exact hm h)];have em:x.more.isEmpty=false:=by simpa using hm
   clear he hm;go_enter func21,ntmps21;go_wp2_with fail;have d3:(w.alloc (.cells #[.int .i64 3,.string ⟨#[]⟩,.slice none 0 0,.string ⟨x.more.toArray⟩,.int .i64 x.fY] 86)).cell? ⟨X,3,none⟩=some (.string ⟨x.more.toArray⟩):=eG _ c3;have d4:(w.alloc (.cells #[.int .i64 3,.string ⟨#[]⟩,.slice none 0 0,.string ⟨x.more.toArray⟩,.int .i64 x.fY] 86)).cell? ⟨X,4,none⟩=some (.int .i64 x.fY):=eG _ c4;go_region_held3 (fun W=>W.cell? ⟨X,3,none⟩=some (.string ⟨x.more.toArray⟩)/\W.cell? ⟨X,4,none⟩=some (.int .i64 x.fY))
    (first|exact⟨c3,c4⟩|exact⟨d3,d4⟩)
    (fail)
   all_goals
    go_wp2;go_ret;exact⟨_,rfl,((Below.refl _ _).alloc (aj _) _).drew,Or.inr ⟨trivial,rfl,eL _ _⟩⟩
 ·have e0:(x.err !=0)=true:=by simpa using he
  rw[if_pos (Or.inl he)];clear he;go_enter func21,ntmps21;go_wp2;go_ret;exact⟨_,rfl,Below.refl _ _,Or.inl ⟨trivial,rfl⟩⟩
theorem QR(h:RS F X w s lv cs x){w1:World}(b:Z5 w w1)(v:Value)(hv:(x.last=[]/\v=.slice none 0 0)\/(x.last=[gS x]/\v=.slice (some ⟨w.heap.size,0,none⟩) 1 1/\w1.heap[w.heap.size]?=some (.cells (fk (gS x) (.slice none 0 0)).toArray 86)))(hn:x.l.length<=1099511627776):
  ∃v' w2,(Builtin.append_ #[77,77] 77 #[lv,v]).run prog w1=.ok v' w2/\QP w2 v' (x.l++x.last)/\w1.grownBy w2 lv.ownBlock:=by
 have UU:w1.ownsRow 0 86 5 lv x.l.length cs:=eH h.row fun k e=>b.block k (h.lt k (h.own k e).1);have VQ:oz F X w1 x.l cs:=h.LL.frame fun k _ _ _ _ _ a _=>⟨b.block k (h.lt k a),a⟩
 rcases hv with⟨e1,rfl⟩|⟨e1,rfl,hb⟩
 ·obtain⟨ai,ac,rfl,hle⟩:∃ai ac,lv=.slice ai x.l.length ac/\x.l.length<=ac:=by
   rcases UU.2 with⟨rfl,hn⟩|⟨g,cap,cur,rfl,Eo,hg,hc,hm,hcs,rH⟩
   ·exact⟨none,0,by rw[hn],by omega⟩
   ·exact⟨_,_,rfl,hc⟩
  refine⟨_,w1,MO ai _ ac hle w1,⟨F,X,cs,?_,?_⟩,⟨rfl,rfl,rfl,aj _,fun _ _ _=>rfl⟩⟩
  ·rw[e1,aM];exact UU
  ·rw[e1,aM];exact VQ
 ·obtain⟨i0,hi,hz0,hz1,hz2⟩:=aZ Hr;have hcell:∀j u,(fk (gS x) (.slice none 0 0))[j]?=some u->w1.cell? ((⟨w.heap.size,0,none⟩:Addr).add j)=some u:=by
   intro j u hj;rw[Addr.add_mid,ax];refine cell_of hb ?_;simpa using hj
  obtain⟨v',w2,hr,ho,hgr,_,hat⟩:=cJ (P:=prog) w1 0 77 77 86 i0 _ 5 72 underlying77 hi hz0 hz1 hz2 rfl (by decide) lv x.l.length cs UU ⟨w.heap.size,0,none⟩ 1 1 (fk (gS x) (.slice none 0 0)) rfl hcell (pQ _ _ rfl) (by unfold maxLen;omega) (by omega) (aq _);refine⟨v',w2,hr,⟨F,X,cs++fk (gS x) (.slice none 0 0),?_,?_⟩,hgr⟩
  ·rw[e1];simp only[af,au,aF,ax];exact ho
  ·rw[e1];refine(VQ.frame fun k n xs u hu e a c=>⟨?_,a⟩).app ⟨.slice none 0 0,[],by simp,bp _ _ _ _,by intro k e;simp[Value.ownBlock]at e,rfl⟩;exact hgr.block k (eW hu e) (fun e2=>kQ hu UU (by decide) e e2.symm)
theorem Dk{ops:Array Oper}{rest:List Oper}{o:Oper}{a:Act}{w:World}{Q:Exit->Act->World->Prop}(hgd:o.guard=none)(s x:Operand)(ho:o.op=Op.call {callee:=Callee.builtin Builtin.append,args:=#[s,x],argTypes:=#[77,77]})(hty:o.type=77)
  (v1 v2:Value) (hs:a.eval s=v1) (hx:a.eval x=v2) {v':Value} {w':World} (hr:(Builtin.append_ #[77,77] 77 #[v1,v2]).run prog w=.ok v' w') (h:wpList prog ops Q rest (a.put o.dst v') w'):wpList prog ops Q (o::rest) a w:=by
 refine wpList_plain hgd fun K hK=>?_;unfold Oper.wp execOp;simp only[ho,hty,resolve,invoke,builtin,Sem.run_bind,Sem.run_pure,eu,List.map_toArray,bC,b9,hs,hx,hr];exact hK _ _ h
theorem QT(s:ByteArray):(eV s).l.length<=3*s.size+3:=by
 have key:∀(f:Nat) (x:Sc),x.err=0->x.i<=s.size->x.l.length<=3*x.i->(iQ s f x).l.length<=3*s.size+3:=by
  intro f;induction f with
  |zero=>intro x he hi hl;show x.l.length<=_;omega
  |succ f ih=>
   intro x he hi hl;simp only[iQ];split
   ·rename_i hc;rcases nY (g:=fun _=>[]) he hc.1 (Ke x)with⟨h1,h2,h3,h4,_⟩|⟨h1,h2,_⟩
    ·exact ih _ h1 h3 (by have:=h4.2.2;omega)
    ·rw[rW h1,h2];omega
   ·omega
 exact key _ Sc.zero rfl (aq _) (aq _)
end
end K
end Go.Proofs.YthlcmljckpdheaaGreatDoor
