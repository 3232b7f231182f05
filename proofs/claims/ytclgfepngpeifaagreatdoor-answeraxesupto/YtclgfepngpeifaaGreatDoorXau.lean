import Derived.Test.YtclgfepngpeifaaGreatDoorXA
import Derived.Test.YtclgfepngpeifaaGreatDoorXat
import Derived.Test.YtclgfepngpeifaaGreatDoorXas
set_option linter.unusedVariables false
set_option linter.unusedSimpArgs false
set_option maxHeartbeats 32000000
set_option maxRecDepth 100000
namespace Go.Proofs.YtclgfepngpeifaaGreatDoor
namespace K
open Go.RowKit Go.Lib Tryz
section
variable{s:ByteArray}{p:Nat}{c:Int}{x y z:Sc}{q:Bool}
theorem Kn(h:0<=cur s p):Ch.may (cur s p)=true:=by
 have hc:=eF h;have h1:Ch.gb s p=true:=hc.2.1;rw[hc.2.2.1];simp only[Ch.gb,aT]at h1;exact h1.1
theorem fR.nil:fR []:=⟨[],fun c hc=>by simp at hc,rfl⟩
theorem fR.one(h:Ch.may c=true):fR (Lib.encodeRune c):=⟨[c],fun d hd=>by simp at hd;rw[hd];exact h,by simp[vM]⟩
theorem fR.add{a b:List UInt8}(h:fR a)(k:fR b):fR (a++b):=by
 obtain⟨cs,h1,h2⟩:=h;obtain⟨ds,k1,k2⟩:=k;refine⟨cs++ds,fun c hc=>?_,by rw[h2,k2];simp[vM]⟩;rcases List.mem_append.1 hc with e|e
 ·exact h1 c e
 ·exact k1 c e
theorem B7(he:x.err=0)(jU:Nat)(hb:32<=jU/\jU<128)(h:(x.char s jU).1.err=0):fR (x.char s jU).2.data.toList:=by
 rw[uR he jU hb]at h ⊢;split
 ·rename_i h1;rw[if_pos h1]at h;exact absurd h (eK x s he)
 ·rename_i h1;rw[if_neg h1]at h;split
  ·rename_i h2;rw[if_pos h2]at h;split
   ·rename_i h3;rw[if_pos h3]at h;exact absurd h (mV x 4 x.i he (by decide))
   ·rename_i h3;have:=Ch.iK h3;exact fR.one this.1
  ·have h0:0<=cur s x.i:=by omega
   rw[gG,show x.i+wid s x.i-x.i=wid s x.i by omega,<-lN h0];exact fR.one (Kn h0)
theorem MD(Q:Nat)(hQ:32<=Q/\Q<128):∀(f:Nat) (x:Sc) (t:List UInt8),fR t->(iL s Q f x t).1.err=0->fR (iL s Q f x t).2:=by
 intro f;induction f with
 |zero=>intro x t ht _;exact ht
 |succ f ih=>
  intro x t ht h;simp only[iL]at h ⊢;split
  ·rename_i h1;rw[if_pos h1]at h;by_cases hc:(x.char s Q).1.err=0
   ·exact ih _ _ (ht.add (B7 h1.1 Q hQ hc)) h
   ·have hv:∀f t,iL s Q f (x.char s Q).1 t=((x.char s Q).1,t):=by
     intro f t;cases f with
     |zero=>rfl
     |succ f=>simp only[iL];rw[if_neg (fun e=>hc e.1)]
    rw[hv]at h;exact absurd h hc
  ·exact ht
theorem I_(he:x.err=0)(h:(x.value s).1.err=0):fR (x.value s).2:=by
 rw[qO he]at h ⊢;split
 ·rename_i h1;rw[if_pos h1]at h;exact MD _ (by rcases h1 with e|e<;>rw[e]<;>decide) _ _ _ fR.nil h
 ·exact fR.nil
theorem F8(t:ByteArray)(hz:t.size≠0)(fD:Nat):∀(f:Nat) (x:Sc),x.err=0->fD<=x.i->fR (Ch.bytes s fD (x.i-fD))->fR (fM s t fD f x).2.data.toList:=by
 intro f;induction f with
 |zero=>intro x _ _ _;exact fR.nil
 |succ f ih=>
  intro x he hf ht;rw[mY _ _ _ _ _ he hz];split
  ·rw[gG];exact ht
  ·split
   ·rename_i h0;refine ih _ he (by show fD<=x.i+wid s x.i;omega) ?_;have hb:=oD s fD (x.i-fD) (wid s x.i);rw[show fD+(x.i-fD)=x.i by omega]at hb;show fR (Ch.bytes s fD (x.i+wid s x.i-fD));rw[show x.i+wid s x.i-fD=x.i-fD+wid s x.i by omega,<-hb,<-lN h0];exact ht.add (fR.one (Kn h0))
   ·rw[iY _ _ _ _ _ (eK x s he)];exact fR.nil
theorem DC(he:x.err≠0)(l:List UInt8):(Sc.eo s l x).err≠0:=by
 cases l with
 |nil=>exact he
 |cons u l=>simp only[Sc.eo];rw[if_neg he];exact he
theorem DF(h:(x.name s).1.err=0):nj (x.name s).2.data.toList:=by
 by_cases he:x.err=0
 ·by_cases hb:Ch.eI (cur s x.i)=true
  ·rw[(kW he hb).2];exact⟨s,x.i,hb,rfl⟩
  ·rw[nJ he hb]at h;exact absurd h (eK x s he)
 ·unfold Sc.name at h;rw[if_neg he]at h;exact absurd h he
theorem TP{l:mn}(h:(x.attr s l).1.err=0):nj (x.attr s l).2.1/\fR (x.attr s l).2.2/\l.any (fun b=>b.1==(x.attr s l).2.1)=false:=by
 unfold Sc.attr at h ⊢;split
 ·rename_i h1;rw[if_pos h1]at h;have h2:(x.gv s l).err=0:=by
   refine bD fun e=>?_;have:(Sc.eo s [61] ((x.gv s l).ey s)).err≠0:=DC (show ((x.gv s l).ey s).err≠0 from e) _;exact this h1
  have h3:l.any (fun a=>a.1==(x.name s).2.data.toList)=false/\(x.name s).1.err=0:=by
   unfold Sc.gv at h2;split at h2
   ·by_cases hn:(x.name s).1.err=0
    ·exact absurd h2 (mV _ 5 x.i hn (by decide))
    ·unfold Sc.fail at h2;rw[if_neg hn]at h2;exact absurd h2 hn
   ·rename_i h4;exact⟨Bool.eq_false_iff.2 h4,h2⟩
  exact⟨DF h3.2,I_ h1 h,h3.1⟩
 ·rename_i h1;rw[if_neg h1]at h;exact absurd h h1
theorem F9:∀(a b l:mn),uX l (a++b)↔uX l a/\uX (l++a) b:=by
 intro a;induction a with
 |nil=>intro b l;simp[uX]
 |cons u a ih=>
  intro b l;simp only[aZ,uX,ih,and_assoc,aV,dB];simp
theorem ME:∀(f:Nat) (x:Sc) (l:mn),(∀a∈l,nj a.1/\fR a.2)->uX [] l->(ew s f x l).1.err=0->(∀a∈(ew s f x l).2,nj a.1/\fR a.2)/\uX [] (ew s f x l).2:=by
 intro f;induction f with
 |zero=>intro x l h1 h2 _;exact⟨h1,h2⟩
 |succ f ih=>
  intro x l h1 h2 h;simp only[ew]at h ⊢;split
  ·exact⟨h1,h2⟩
  ·rename_i h3;rw[if_neg h3]at h;by_cases ha:((x.ey s).attr s l).1.err=0
   ·obtain⟨a1,a2,a3⟩:=TP ha;refine ih _ _ ?_ ?_ h
    ·intro a hm;rcases List.mem_append.1 hm with e|e
     ·exact h1 a e
     ·rw[List.mem_singleton.1 e];exact⟨a1,a2⟩
    ·rw[F9];exact⟨h2,by simpa [uX]using a3⟩
   ·rw[jL ha]at h;exact absurd h ha
def Inv(x:Sc):Prop:=fR x.more/\lX false x.l/\ends false x.l=false
theorem Inv.same(h:Inv x)(k:fS x y):Inv y:=by
 obtain⟨a,b,d⟩:=h;exact⟨by rw[k.2.1];exact a,by rw[k.1];exact b,by rw[k.1];exact d⟩
theorem Inv.told{t:eX}(h:Inv x)(ht:x.err=0->BZ t/\t.kind≠3):Inv (x.told t):=by
 by_cases he:x.err=0
 ·obtain⟨h1,h2,h3⟩:=h;obtain⟨t1,t2⟩:=ht he;rw[Dh he];refine⟨fR.nil,?_,?_⟩
  ·simp only;rw[pj];split
   ·rw[h3];exact⟨h2,t1,fun e=>absurd e t2,trivial⟩
   ·rename_i hm;rw[pj,wZ,h3];refine⟨⟨h2,Or.inr (Or.inr ⟨rfl,rfl,rfl,h1,hm⟩),fun _=>rfl,trivial⟩,t1,fun e=>absurd e t2,trivial⟩
  ·simp only;rw[wZ];simp only[ends];simpa using t2
 ·rw[jW he];exact h
theorem xM{k:Int}{n:List UInt8}{l:mn}{t:List UInt8}{a:Int}(h:k≠3):(⟨k,n,l,t,a⟩:eX).kind≠3:=h
theorem DG{nm:List UInt8}{l:mn}{tg:Int}(h:Inv x)(hn:x.err=0->nj nm/\(∀a∈l,nj a.1/\fR a.2)/\uX [] l):Inv (x.iZ s nm l tg):=by
 unfold Sc.iZ;have hm:∀y:Sc,y.err=x.err->((Sc.eo s [62] y).err=0->x.err=0):=by
  intro y hy e;refine bD fun e2=>?_;exact DC (s:=s) (x:=y) (by rw[hy];exact e2) [62] e
 split
 ·have i1:=(h.same (n_ x (x.i+1))).same (ia s [62] _);have i2:=i1.told (t:=⟨1,nm,l,[],tg⟩) (fun e=>by
   obtain⟨a,b,d⟩:=hn (hm {x with i:=x.i+1} rfl e);exact⟨Or.inl ⟨rfl,a,b,d,rfl⟩,xM (by decide)⟩)
  exact i2.told (fun e=>by
   rw[nW]at e;obtain⟨a,b,d⟩:=hn (hm {x with i:=x.i+1} rfl e);exact⟨Or.inr (Or.inl ⟨rfl,a,rfl,rfl⟩),xM (by decide)⟩)
 ·have i1:=h.same (ia s [62] x);exact i1.told (t:=⟨1,nm,l,[],tg⟩) (fun e=>by
   obtain⟨a,b,d⟩:=hn (hm _ rfl e);exact⟨Or.inl ⟨rfl,a,b,d,rfl⟩,xM (by decide)⟩)
theorem F_{tg:Int}(h:Inv x):Inv (x.kg s tg):=by
 unfold Sc.kg;refine DG ((h.same (nr x s)).same (Dy _ s)) fun e=>?_;have hn:(x.name s).1.err=0:=by
  refine bD fun e2=>?_;unfold Sc.attrs at e;rw[jL e2]at e;exact e2 e
 have ha:=ME (s:=s) (s.size+2) (x.name s).1 [] (fun a hm=>by simp at hm) trivial e;exact⟨DF hn,ha.1,ha.2⟩
theorem DI{tg:Int}(h:Inv x):Inv (x.jw s tg):=by
 unfold Sc.jw;refine(((h.same (nr x s)).same (np _ s)).same (ia s [62] _)).told fun e=>?_;have hn:(x.name s).1.err=0:=by
  refine bD fun e2=>?_;exact DC (s:=s) (x:=(x.name s).1.ey s) e2 [62] e
 exact⟨Or.inr (Or.inl ⟨rfl,DF hn,rfl,rfl⟩),xM (by decide)⟩
theorem MF(h:Inv x)(he:x.err=0):Inv (x.sW s):=by
 unfold Sc.sW;have h1:=(h.same (ia s [91,67,68,65,84,65,91] x)).same (mv _ s ⟨#[93,93,62]⟩);split
 ·rename_i hc;refine⟨?_,h1.2.1,h1.2.2⟩;refine h1.1.add ?_;by_cases hm:(Sc.eo s [91,67,68,65,84,65,91] x).err=0
  ·exact F8 _ (by decide) _ _ _ hm (au _) (by rw[Nat.sub_self];exact fR.nil)
  ·unfold Sc.until at hc;rw[iY _ _ _ _ _ hm]at hc;exact absurd hc.1 hm
 ·exact h1
theorem Ja(h:Inv x)(he:x.err=0):Inv (x.j4 s):=by
 unfold Sc.j4 Sc.behind;have h1:=h.same (n_ x (x.i+1));split
 ·unfold Sc.nU;have h2:=h1.same (n_ _ (x.i+1+1));split
  ·exact MF h2 he
  ·unfold Sc.remark;exact((h2.same (ia s [45,45] _)).same (mv _ s _)).same (ia s [62] _)
 ·split
  ·unfold Sc.order;have h2:=h1.same (n_ _ (x.i+1+1));exact(h2.same (nr _ s)).same (mv _ s _)
  ·split
   ·exact DI (h1.same (n_ _ (x.i+1+1)))
   ·exact F_ h1
theorem MG(h:Inv x)(he:x.err=0):Inv (x.piece s):=by
 unfold Sc.piece;split
 ·exact Ja h he
 ·have h1:=h.same (zA x s 60);split
  ·rename_i hc;exact⟨h1.1.add (B7 he 60 (by omega) hc),h1.2.1,h1.2.2⟩
  ·exact h1
theorem B8:∀(f:Nat) (x:Sc),Inv x->Inv (il s f x):=by
 intro f;induction f with
 |zero=>intro x h;exact h
 |succ f ih=>
  intro x h;simp only[il];split
  ·rename_i hc;exact ih _ (MG h hc.2)
  ·exact h
theorem u_(s:ByteArray):lX false (lB s).1:=by
 have h:Inv (ee s):=B8 _ _ ⟨fR.nil,trivial,rfl⟩;unfold lB;split
 ·trivial
 ·rename_i he;have he:(ee s).err=0:=by simpa using he
  simp only;rw[pj,h.2.2];refine⟨h.2.1,?_⟩;unfold Sc.last;split
  ·trivial
  ·rename_i hm;exact⟨Or.inr (Or.inr ⟨rfl,rfl,rfl,h.1,fun e=>hm (Or.inr e)⟩),fun _=>rfl,trivial⟩
end
section
variable{g:Gr}{l:List Nd}{n n':Nd}{k L:Nat}{st:List Nat}{t:eX}
structure pR(l:List Nd):Prop where
 zero:∀n,l[0]?=some n->n.up= -1/\n.name≠[]
 up:∀(i:Nat) n,l[i+1]?=some n->∃u:Nat,n.up=u/\u<=i/\∃m,l[u]?=some m/\m.name≠[]
 nd:∀(k:Nat) n,l[k]?=some n->n.kids.Nodup/\uX [] n.attrs
 kid:∀(k:Nat) n,l[k]?=some n->∀x:Nat,x∈n.kids↔∃m,l[x]?=some m/\m.up=(k:Int)
structure ZL(g:Gr):Prop where
 tree:pR g.nodes
 none:g.nodes=[]->g.stack=[]
 named:∀k∈g.stack,∃n,g.nodes[k]?=some n/\n.name≠[]
theorem wC(hs:g.stack=k::st){i:Nat}{m:Nd}(h:(g.put n).nodes[i]?=some m):(i<g.nodes.length/\∃o,g.nodes[i]?=some o/\m.up=o.up/\m.name=o.name/\m.attrs=o.attrs/\m.kids=if i=k then o.kids++[g.nodes.length]else o.kids)\/(i=g.nodes.length/\m={n with up:=(k:Int)}):=by
 unfold Gr.put at h;rw[hs]at h;simp only at h;by_cases hi:i<g.nodes.length
 ·rw[aU (by rw[fK];exact hi),mG]at h;refine Or.inl ⟨hi,?_⟩;by_cases hk:i=k
  ·rw[if_pos hk]at h;obtain⟨o,ho,rfl⟩:=Option.map_eq_some_iff.1 h;exact⟨o,ho,rfl,rfl,rfl,by rw[if_pos hk];rfl⟩
  ·rw[if_neg hk]at h;exact⟨m,h,rfl,rfl,rfl,by rw[if_neg hk]⟩
 ·rw[aW (by rw[fK];omega),fK]at h;have:=(List.getElem?_eq_some_iff.1 h).1;simp only[aC,aI]at this;have e:i=g.nodes.length:=by omega
  rw[e,Nat.sub_self]at h;exact Or.inr ⟨e,by simpa using h.symm⟩
theorem Ga(G:ZL g)(hk:n.kids=[])(hd:uX [] n.attrs)(h0:g.stack=[]->g.nodes=[]/\n.name≠[]):pR (g.put n).nodes/\∀k∈g.stack,∃m,(g.put n).nodes[k]?=some m/\m.name≠[]:=by
 cases hs:g.stack with
 |nil=>
  obtain⟨h1,h2⟩:=h0 hs;have e:(g.put n).nodes=[{n with up:= -1}]:=by unfold Gr.put;rw[hs];simp[h1]
  rw[e];refine⟨⟨fun m hm=>?_,fun i m hm=>by simp at hm,fun i m hm=>?_,fun i m hm x=>?_⟩,fun k hk=>by simp at hk⟩
  ·obtain rfl:_=m:=by simpa using hm
   exact⟨rfl,h2⟩
  ·cases i with
   |zero=>
    obtain rfl:_=m:=by simpa using hm
    exact⟨by simp[hk],hd⟩
   |succ i=>simp at hm
  ·cases i with
   |zero=>
    obtain rfl:_=m:=by simpa using hm
    refine⟨fun h=>by simp[hk]at h,fun⟨m,h1,h2⟩=>?_⟩;cases x with
    |zero=>
     obtain rfl:_=m:=by simpa using h1
     simp at h2
    |succ x=>simp at h1
   |succ i=>simp at hm
 |cons k st=>
  have T:=G.tree;obtain⟨nk,hnk,Hy⟩:=G.named k (by rw[hs];exact cr);have vS:k<g.nodes.length:=(List.getElem?_eq_some_iff.1 hnk).1;have keep:∀(i:Nat) m,g.nodes[i]?=some m->∃m',(g.put n).nodes[i]?=some m'/\m'.up=m.up/\m'.name=m.name:=fun i m h=>by
   obtain⟨m',h1,h2,h3,_⟩:=FX g n i m h;exact⟨m',h1,h2,h3⟩
  have last:=qU g n;rw[hs]at last;have Lr:∀(i:Nat) o,g.nodes[i]?=some o->o.up≠g.nodes.length:=fun i o ho e=>by
   cases i with
   |zero=>have:=(T.zero o ho).1;omega
   |succ i=>
    obtain⟨u,h1,h2,-⟩:=T.up i o ho;have:=(List.getElem?_eq_some_iff.1 ho).1;omega
  refine⟨⟨fun m hm=>?_,fun i m hm=>?_,fun i m hm=>?_,fun i m hm x=>?_⟩,fun j hj=>?_⟩
  ·rcases wC hs hm with⟨_,o,ho,e1,e2,_⟩|⟨e,_⟩
   ·have:=T.zero o ho;rw[e1,e2];exact this
   ·omega
  ·rcases wC hs hm with⟨_,o,ho,e1,e2,_⟩|⟨e,rfl⟩
   ·obtain⟨u,h1,h2,m2,h3,h4⟩:=T.up i o ho;obtain⟨m3,h5,_,h6⟩:=keep u m2 h3;exact⟨u,e1.trans h1,h2,m3,h5,by rw[h6];exact h4⟩
   ·obtain⟨m3,h5,_,h6⟩:=keep k nk hnk;exact⟨k,rfl,by omega,m3,h5,by rw[h6];exact Hy⟩
  ·rcases wC hs hm with⟨hi,o,ho,e1,e2,e3,e4⟩|⟨e,rfl⟩
   ·obtain⟨h1,h2⟩:=T.nd i o ho;rw[e3,e4];refine⟨?_,h2⟩;split
    ·refine List.nodup_append.2 ⟨h1,by simp,fun a ha b hb e=>?_⟩;obtain⟨m2,h3,-⟩:=(T.kid i o ho a).1 ha;have:=(List.getElem?_eq_some_iff.1 h3).1;simp at hb;omega
    ·exact h1
   ·exact⟨by simp[hk],hd⟩
  ·rcases wC hs hm with⟨hi,o,ho,e1,e2,e3,e4⟩|⟨e,rfl⟩
   ·rw[e4];have old:=T.kid i o ho x;constructor
    ·intro hx;have:x∈o.kids\/(i=k/\x=g.nodes.length):=by
      split at hx
      ·rename_i hik;rcases List.mem_append.1 hx with h|h
       ·exact Or.inl h
       ·exact Or.inr ⟨hik,by simpa using h⟩
      ·exact Or.inl hx
     rcases this with h|⟨rfl,rfl⟩
     ·obtain⟨m2,h1,h2⟩:=old.1 h;obtain⟨m3,h3,h4,-⟩:=keep x m2 h1;exact⟨m3,h3,h4.trans h2⟩
     ·exact⟨_,last,rfl⟩
    ·rintro⟨m2,h1,h2⟩;rcases wC hs h1 with⟨hx,o2,Rq,f1,-⟩|⟨rfl,rfl⟩
     ·have:=old.2 ⟨o2,Rq,f1.symm.trans h2⟩;split
      ·exact List.mem_append_left _ this
      ·exact this
     ·have:i=k:=by simp only at h2;omega
      rw[if_pos this];simp
   ·simp only[hk];refine⟨fun h=>by simp at h,fun⟨m2,h1,h2⟩=>?_⟩;rcases wC hs h1 with⟨hx,o2,Rq,f1,-⟩|⟨rfl,rfl⟩
    ·exact absurd (f1.symm.trans (h2.trans (by rw[e]))) (Lr x o2 Rq)
    ·simp only at h2;omega
  ·rw[<-hs]at hj;obtain⟨m,h1,h2⟩:=G.named j hj;obtain⟨m3,h3,_,h4⟩:=keep j m h1;exact⟨m3,h3,by rw[h4];exact h2⟩
theorem B9{n:List UInt8}(h:nj n):n≠[]:=by
 obtain⟨s,q,h1,rfl⟩:=h;have hi:xt (cur s q)=true:=by unfold xt;rw[h1];rfl
 obtain⟨h2,_,_,h3,h4⟩:=eF (nH hi);have h5:=j9 hi;have h6:=rQ s (q+wid s q);have h7:=nI (s:=s) (i:=q) (by omega);intro e;have:=BW s q (jq s q-q) (by omega);rw[e,aI]at this;omega
theorem MH(G:ZL g)(ht:BZ t)(h:(g.take t).1=0):ZL (g.take t).2:=by
 unfold Gr.take at h ⊢;split
 ·rename_i h1;rw[if_pos h1]at h;have hn:nj t.name/\uX [] t.attrs:=by
   rcases ht with⟨_,a,_,b,_⟩|⟨e,_⟩|⟨e,_⟩
   ·exact⟨a,b⟩
   ·omega
   ·omega
  split
  ·exact G
  ·rename_i h2;split
   ·exact G
   ·have hput:=Ga (n:=elemOf t) G rfl hn.2 (fun e=>⟨by simpa [e]using h2,B9 hn.1⟩);have B_:=qU g (elemOf t);refine⟨hput.1,fun e=>?_,fun k hk=>?_⟩
    ·simp only at e;rw[e]at B_;simp at B_
    ·rcases List.mem_cons.1 hk with e|e
     ·exact⟨_,by rw[e];exact B_,B9 hn.1⟩
     ·exact hput.2 k e
 ·rename_i h1;rw[if_neg h1]at h;split
  ·rename_i h2;rw[if_pos h2]at h;split
   ·exact G
   ·rename_i k st hs;split
    ·exact⟨G.tree,fun e=>by have:=G.none e;rw[hs]at this;simp at this,fun j hj=>G.named j (by rw[hs];exact dF _ hj)⟩
    ·exact G
  ·split
   ·split<;>exact G
   ·rename_i k st hs;have hput:=Ga (n:=ja t) G rfl trivial (fun e=>by rw[hs]at e;simp at e);have B_:=qU g (ja t);refine⟨hput.1,fun e=>?_,fun k hk=>?_⟩
    ·rw[e]at B_;simp at B_
    ·rw[mH]at hk;exact hput.2 k hk
theorem Cb:∀(l:List eX) (g:Gr) (b:Bool),ZL g->lX b l->(grow g l).1=0->ZL (grow g l).2.2
 |[],g,b,G,_,_=>G
 |t::l,g,b,G,hc,h=>by
  simp only[grow]at h ⊢;split at h
  ·rename_i h1;exact absurd h h1
  ·rename_i h1;rw[if_neg h1];exact Cb l _ _ (MH G hc.1 (by simpa using h1)) hc.2.2 h
theorem jB{s:ByteArray}(h:(eJ s).2.1=0):pR (eJ s).1/\0<(eJ s).1.length:=by
 unfold eJ at h ⊢;split
 ·rename_i h1;rw[if_pos h1]at h;exact absurd h h1
 ·rename_i h1;rw[if_neg h1]at h;split
  ·rename_i h2;rw[if_pos h2]at h;exact absurd h h2
  ·rename_i h2;rw[if_neg h2]at h;split
   ·rename_i h3;rw[if_pos h3]at h;simp at h
   ·rename_i h3;have hc:lX false ((ee s).l++(ee s).last):=by
     have:=u_ s;unfold lB at this;rwa[if_neg (by simpa using h2)]at this
    have G:=Cb _ Gr.zero _ ⟨⟨fun n h=>by simp[Gr.zero]at h,fun i n h=>by simp[Gr.zero]at h,fun i n h=>by simp[Gr.zero]at h,fun i n h=>by simp[Gr.zero]at h⟩,fun _=>rfl,fun k h=>by simp[Gr.zero]at h⟩ hc (by simpa using h1);refine⟨G.tree,List.length_pos_iff.2 fun e=>h3 (Or.inr e)⟩
end
inductive Fo where
 |nil
 |text (t:List UInt8) (rest:Fo)
 |elem (n:List UInt8) (a:mn) (kids rest:Fo)
def Fo.size:Fo->Nat
 | .nil=>0
 | .text _ r=>1+r.size
 | .elem _ _ k r=>1+k.size+r.size
def Fo.deep:Fo->Nat
 | .nil=>0
 | .text _ r=>r.deep
 | .elem _ _ k r=>max (1+k.deep) r.deep
theorem s7(m:List Nd):∀(l:List Nd) (k j:Nat),k<l.length->fJ (l++m) k j=fJ l k j++m
 |[],k,j,h=>by simp at h
 |n::l,0,j,_=>rfl
 |n::l,k+1,j,h=>by simp only[aZ,fJ,s7 m l k j (by simpa using h)]
theorem Gb(l:List Nd)(k j i:Nat):((fJ l k j)[i]?).map Nd.name=(l[i]?).map Nd.name:=by
 rw[mG];split
 ·cases l[i]?<;>rfl
 ·rfl
theorem wD(g:Gr)(k:Nat)(n:List UInt8):g.named k n=true↔(g.nodes[k]?).map Nd.name=some n:=by unfold Gr.named;cases g.nodes[k]?<;>simp
theorem Qr(g:Gr)(n:Nd)(i:Nat)(hi:i<g.nodes.length):((g.put n).nodes[i]?).map Nd.name=(g.nodes[i]?).map Nd.name:=by
 unfold Gr.put;split
 ·rw[aU hi]
 ·rename_i k _ _;rw[aU (by rw[fK];exact hi),Gb]
section
variable{s:ByteArray}{p:Nat}{c:Int}{x y z:Sc}{q:Bool}
theorem vd(q:Bool):∀l:List UInt8,(Ch.sA q l).length<=6*l.length
 |[]=>au _
 |u::l=>by
  have e1:Ch.sA q (u::l)=Ch.Ah q u++Ch.sA q l:=by simp[Ch.sA]
  have ih:=vd q l;have h1:(Ch.Ah q u).length<=6:=by
   unfold Ch.Ah Ch.nQ
   repeat' split
   all_goals simp
  rw[e1,ax,aC];omega
def cost(l:List eX):Nat:=(l.flatMap jh).length
theorem qV(a b:List eX):cost (a++b)=cost a+cost b:=by simp[cost]
def jM(x:Sc):Nat:=cost x.l+(if x.more=[]then 0 else 6*x.more.length+27)
theorem rX(x:Sc)(t:eX):jM (x.told t)<=jM x+(jh t).length:=by
 by_cases he:x.err=0
 ·rw[Dh he];unfold jM;simp only[if_true];rw[qV];have h1:cost [t]=(jh t).length:=by simp[cost]
  split
  ·omega
  ·have h2:cost [fY x]<=6*x.more.length+27:=by
    have h3:cost [fY x]=(jh (fY x)).length:=by simp[cost]
    have h4:jh (fY x)=Ch.sA false x.more++marks:=rfl;have h5:=vd false x.more;have h6:marks.length=27:=rfl;rw[h3,h4,ax];omega
   rw[qV];omega
 ·rw[jW he];omega
theorem jb(h:fS x y):jM y=jM x:=by unfold jM;rw[h.1,h.2.1]
theorem wE(h:(x.name s).1.err=0):(x.name s).1.i=x.i+(x.name s).2.data.toList.length/\1<=(x.name s).2.data.toList.length:=by
 by_cases he:x.err=0
 ·by_cases hb:Ch.eI (cur s x.i)=true
  ·have nB:xt (cur s x.i)=true:=by unfold xt;rw[hb];rfl
   have h0:0<=cur s x.i:=nH nB;have hc:=eF h0;have hle:jq s x.i<=s.size:=nI (by omega);have NG:x.i<jq s x.i:=by
    have:=rQ s (x.i+wid s x.i);rw[j9 nB];omega
   rw[(kW he hb).1,(kW he hb).2,BW s _ _ (by omega)];exact⟨by simp only;omega,by omega⟩
  ·rw[nJ he hb]at h;exact absurd h (eK x s he)
 ·unfold Sc.name at h;rw[if_neg he]at h;exact absurd h he
theorem lC:∀(l:List UInt8) (x:Sc),x.i<=(Sc.eo s l x).i/\((Sc.eo s l x).err=0->x.err=0/\(Sc.eo s l x).i=x.i+l.length):=by
 intro l;induction l with
 |nil=>intro x;exact⟨au _,fun e=>⟨e,rfl⟩⟩
 |cons u l ih=>
  intro x;simp only[Sc.eo];split
  ·rename_i he;split
   ·obtain⟨a,b⟩:=ih {x with i:=x.i+1};refine⟨by have a':x.i+1<=(Sc.eo s l {x with i:=x.i+1}).i:=a;omega,fun e=>⟨he,?_⟩⟩
    have b':(Sc.eo s l {x with i:=x.i+1}).i=x.i+1+l.length:=(b e).2;rw[b',aC];omega
   ·obtain⟨a,b⟩:=ih (x.wrong s);rw[kU]at a;exact⟨a,fun e=>absurd (b e).1 (eK x s he)⟩
  ·rename_i he;exact⟨au _,fun e=>absurd e he⟩
theorem Cc(he:x.err=0)(jU:Nat)(hb:32<=jU/\jU<128):x.i+(x.char s jU).2.data.toList.length<=(x.char s jU).1.i:=by
 rw[uR he jU hb];split
 ·show x.i+0<=(x.wrong s).i;rw[kU];omega
 ·rename_i h1;split
  ·split
   ·show x.i+0<=(x.fail 4 x.i).i;rw[yI];omega
   ·rename_i h3;have h4:=Ch.iK h3;have h5:=Ch.rC (Ch.ed s x.i).1;show x.i+(Lib.encodeRune (Ch.ed s x.i).1).length<=x.i+(Ch.ed s x.i).2.toNat;omega
  ·have hx:=gG s x.i (x.i+wid s x.i);rw[hx];have:(Ch.bytes s x.i (x.i+wid s x.i-x.i)).length<=wid s x.i:=by unfold Ch.bytes;rw[bI];omega
   show x.i+_<=x.i+wid s x.i;omega
theorem MI(Q:Nat)(hQ:32<=Q/\Q<128):∀(f:Nat) (x:Sc) (t:List UInt8),x.i+(iL s Q f x t).2.length<=t.length+(iL s Q f x t).1.i:=by
 intro f;induction f with
 |zero=>intro x t;simp only[iL];omega
 |succ f ih=>
  intro x t;simp only[iL];split
  ·rename_i h1;have h2:=ih (x.char s Q).1 (t++(x.char s Q).2.data.toList);have h3:=Cc (s:=s) h1.1 Q hQ;rw[ax]at h2;omega
  ·simp only;omega
theorem Jb(he:x.err=0)(h:(x.value s).1.err=0):x.i+(x.value s).2.length+2<=(x.value s).1.i:=by
 rw[qO he]at h ⊢;split
 ·rename_i h1;have h2:=MI (s:=s) (cur s x.i).toNat (by rcases h1 with e|e<;>rw[e]<;>decide) (s.size+2) {x with i:=x.i+1} [];simp only[aI]at h2 ⊢;omega
 ·rename_i h1;rw[if_neg h1]at h;exact absurd h (eK x s he)
theorem ve(x:Sc):(x.ey s).i=x.i+x.skip s:=rfl
theorem MJ{l:mn}(h:(x.attr s l).1.err=0):x.i+(x.attr s l).2.1.length+(x.attr s l).2.2.length+3<=(x.attr s l).1.i:=by
 unfold Sc.attr at h ⊢;split
 ·rename_i h1;rw[if_pos h1]at h;have h2:=Jb h1 h;have hm:=lC (s:=s) [61] ((x.gv s l).ey s);have Zh:(Sc.eo s [61] ((x.gv s l).ey s)).err=0:=h1;have NQ:=hm.2 Zh;have WJ:(x.gv s l).err=0:=NQ.1;have h3:x.gv s l=(x.name s).1:=by
   unfold Sc.gv at WJ ⊢;split
   ·rename_i h4;rw[if_pos h4]at WJ;by_cases hn:(x.name s).1.err=0
    ·exact absurd WJ (mV _ 5 x.i hn (by decide))
    ·unfold Sc.fail at WJ;rw[if_neg hn]at WJ;exact absurd WJ hn
   ·rfl
  have hn:=wE (s:=s) (x:=x) (by rw[<-h3];exact WJ);have e1:(x.equal s l).i=(Sc.eo s [61] ((x.gv s l).ey s)).i+(Sc.eo s [61] ((x.gv s l).ey s)).skip s:=rfl;have e2:=ve (s:=s) (x.gv s l);have e3:=NQ.2;rw[h3]at e1 e2 e3;simp only[aC,aI]at e3;simp only;omega
 ·rename_i h1;rw[if_neg h1]at h;exact absurd h h1
theorem Gc(a:List UInt8×List UInt8):(kt a).length<=6+a.1.length+6*a.2.length:=by
 have:=vd true a.2;unfold kt;simp only[aC,ax,aI];omega
theorem Gd:∀(f:Nat) (x:Sc) (l:mn),(ew s f x l).1.err=0->(l.flatMap kt).length<=8*x.i->((ew s f x l).2.flatMap kt).length+8*x.i<=(l.flatMap kt).length+8*(ew s f x l).1.i:=by
 intro f;induction f with
 |zero=>intro x l h _;simp only[ew];omega
 |succ f ih=>
  intro x l h hl;simp only[ew]at h ⊢;split
  ·rw[ve];simp only;omega
  ·rename_i h3;rw[if_neg h3]at h;by_cases ha:((x.ey s).attr s l).1.err=0
   ·have hp:=MJ ha;have hb:=ve (s:=s) x;have hc:=Gc ((x.ey s).attr s l).2;have e1:((l++[((x.ey s).attr s l).2]).flatMap kt).length=(l.flatMap kt).length+(kt ((x.ey s).attr s l).2).length:=by simp
    have:=ih _ _ h (by rw[e1];omega);rw[e1]at this;omega
   ·rw[jL ha]at h;exact absurd h ha
theorem qW(t:ByteArray)(fD:Nat):∀(f:Nat) (x:Sc),fD<=x.i->x.i<=(fM s t fD f x).1.i/\fD+(fM s t fD f x).2.data.toList.length<=(fM s t fD f x).1.i:=by
 intro f;induction f with
 |zero=>intro x h;exact⟨au _,h⟩
 |succ f ih=>
  intro x h;simp only[fM];split
  ·split
   ·refine⟨by simp only;omega,?_⟩;have hx:=gG s fD x.i;rw[hx];have:(Ch.bytes s fD (x.i-fD)).length<=x.i-fD:=by unfold Ch.bytes;rw[bI];omega
    simp only;omega
   ·split
    ·have:=ih (x.wrong s) (by rw[kU];exact h);rw[kU]at this;exact this
    ·have:=ih {x with i:=x.i+(Ch.mM s x.i).2.toNat} (by simp only;omega);simp only at this;omega
  ·exact⟨au _,h⟩
def Jc(x:Sc):Prop:=x.err=0->jM x<=64*x.i
theorem Ay{nm:List UInt8}{L:mn}{tg:Int}(h:(x.iZ s nm L tg).err=0):x.err=0/\x.i+1<=(x.iZ s nm L tg).i/\jM (x.iZ s nm L tg)<=jM x+6+2*nm.length+(L.flatMap kt).length:=by
 unfold Sc.iZ at h ⊢;have cst:(jh ⟨1,nm,L,[],tg⟩).length=3+nm.length+(L.flatMap kt).length:=by
  have:jh ⟨1,nm,L,[],tg⟩=60::(nm++(L.flatMap kt++[32,62])):=rfl;rw[this];simp only[aC,ax,aI];omega
 have WK:(jh ⟨2,nm,[],[],tg⟩).length=3+nm.length:=by
  have:jh ⟨2,nm,[],[],tg⟩=[60,47]++nm++[62]:=rfl;rw[this];simp only[aC,ax,aI];omega
 split
 ·rename_i BF;rw[if_pos BF,nW,nW]at h;obtain⟨k1,k2⟩:=(lC (s:=s) [62] {x with i:=x.i+1}).2 h;simp only[aC,aI]at k2;have hb:=jb ((n_ x (x.i+1)).trans (ia s [62] _));have b1:=rX (Sc.eo s [62] {x with i:=x.i+1}) ⟨1,nm,L,[],tg⟩;have b2:=rX ((Sc.eo s [62] {x with i:=x.i+1}).told ⟨1,nm,L,[],tg⟩) ⟨2,nm,[],[],tg⟩;rw[cst]at b1;rw[WK]at b2;rw[i_,i_];exact⟨k1,by omega,by omega⟩
 ·rename_i BF;rw[if_neg BF,nW]at h;obtain⟨k1,k2⟩:=(lC (s:=s) [62] x).2 h;simp only[aC,aI]at k2;have hb:=jb (ia s [62] x);have b1:=rX (Sc.eo s [62] x) ⟨1,nm,L,[],tg⟩;rw[cst]at b1;rw[i_];exact⟨k1,by omega,by omega⟩
theorem DJ{tg:Int}(h:(x.kg s tg).err=0):jM (x.kg s tg)+64*x.i<=jM x+64*(x.kg s tg).i:=by
 unfold Sc.kg at h ⊢;obtain⟨k1,k2,k3⟩:=Ay h;have hb:=jb ((nr x s).trans (Dy (x.name s).1 s));have hne:(x.name s).1.err=0:=by
  refine bD fun e2=>?_;unfold Sc.attrs at k1;rw[jL e2]at k1;exact e2 k1
 have hn:=wE hne;have ha:=Gd (s:=s) (s.size+2) (x.name s).1 [] k1 (by simp);simp only[List.flatMap_nil,aI,aG]at ha;have ha':(((x.name s).1.attrs s).2.flatMap kt).length+8*(x.name s).1.i<=8*((x.name s).1.attrs s).1.i:=ha;omega
theorem Az{tg:Int}(h:(x.jw s tg).err=0):jM (x.jw s tg)+64*x.i<=jM x+64*(x.jw s tg).i:=by
 unfold Sc.jw at h ⊢;rw[nW]at h;have hm:=(lC (s:=s) [62] ((x.name s).1.ey s)).2 h;have hn:=wE (s:=s) (x:=x) hm.1;have hb:=jb (((nr x s).trans (np _ s)).trans (ia s [62] ((x.name s).1.ey s)));have b1:=rX (Sc.eo s [62] ((x.name s).1.ey s)) ⟨2,(x.name s).2.data.toList,[],[],tg⟩;have WK:(jh ⟨2,(x.name s).2.data.toList,[],[],tg⟩).length=3+(x.name s).2.data.toList.length:=by
  have:jh ⟨2,(x.name s).2.data.toList,[],[],tg⟩=[60,47]++(x.name s).2.data.toList++[62]:=rfl;rw[this];simp only[aC,ax,aI];omega
 have e2:=ve (s:=s) (x.name s).1;have e3:=hm.2;simp only[aC,aI]at e3;rw[WK]at b1;rw[i_];omega
theorem w_(x:Sc)(t:ByteArray)(a:Int)(h:t.data.toList≠[]):jM (x.gS t a)<=jM x+6*t.data.toList.length+27:=by
 have h1:¬(x.gS t a).more=[]:=fun e=>h (List.append_eq_nil_iff.1 e).2;unfold jM;rw[if_neg h1];have e1:(x.gS t a).more.length=x.more.length+t.data.toList.length:=ax;have e2:(x.gS t a).l=x.l:=rfl;rw[e1,e2];split
 ·rename_i h2;rw[h2];simp only[aI];omega
 ·omega
theorem Jd(h:(x.sW s).err=0):jM (x.sW s)+64*x.i<=jM x+64*(x.sW s).i:=by
 unfold Sc.sW at h ⊢;have hm:=lC (s:=s) [91,67,68,65,84,65,91] x;have hu:=qW (s:=s) ⟨#[93,93,62]⟩ (Sc.eo s [91,67,68,65,84,65,91] x).i (s.size+2) (Sc.eo s [91,67,68,65,84,65,91] x) (au _);have hu':(Sc.eo s [91,67,68,65,84,65,91] x).i<=((Sc.eo s [91,67,68,65,84,65,91] x).until s ⟨#[93,93,62]⟩).1.i/\(Sc.eo s [91,67,68,65,84,65,91] x).i+((Sc.eo s [91,67,68,65,84,65,91] x).until s ⟨#[93,93,62]⟩).2.data.toList.length<=((Sc.eo s [91,67,68,65,84,65,91] x).until s ⟨#[93,93,62]⟩).1.i:=hu;have hb:=jb ((ia s [91,67,68,65,84,65,91] x).trans (mv _ s ⟨#[93,93,62]⟩));generalize hU:(Sc.eo s [91,67,68,65,84,65,91] x).until s ⟨#[93,93,62]⟩=U at*
 split
 ·rename_i hc;have hme:(Sc.eo s [91,67,68,65,84,65,91] x).err=0:=by
   refine bD fun e=>?_;have:U.1=Sc.eo s [91,67,68,65,84,65,91] x:=by rw[<-hU];unfold Sc.until;rw[iY _ _ _ _ _ e]
   rw[this]at hc;exact e hc.1
  have ZM:=(hm.2 hme).2;have hlen:[91,67,68,65,84,65,91].length=7:=rfl;have ht:=w_ U.1 U.2 (Sc.eo s [91,67,68,65,84,65,91] x).i hc.2;show jM _+64*x.i<=jM x+64*U.1.i;have hpos:1<=U.2.data.toList.length:=List.length_pos_iff.2 hc.2;simp only[aC,aI]at ZM;omega
 ·have:=hm.1;omega
theorem Ge(x:Sc):x.i<=(x.remark s).i:=by
 unfold Sc.remark;have h1:=(lC (s:=s) [45,45] x).1;have h2:=(qW (s:=s) ⟨#[45,45]⟩ (Sc.eo s [45,45] x).i (s.size+2) (Sc.eo s [45,45] x) (au _)).1;have h3:=(lC (s:=s) [62] ((Sc.eo s [45,45] x).until s ⟨#[45,45]⟩).1).1;exact aw h1 (aw h2 h3)
theorem TQ(x:Sc):x.i<=(x.name s).1.i:=by
 unfold Sc.name;repeat' split
 ·rw[kU];exact au _
 ·simp only;omega
 ·exact au _
theorem Je(x:Sc):x.i<=(x.order s).i:=by
 unfold Sc.order;exact aw (TQ x) (qW (s:=s) ⟨#[63,62]⟩ (x.name s).1.i (s.size+2) (x.name s).1 (au _)).1
theorem Gf(h:(x.j4 s).err=0):jM (x.j4 s)+64*x.i<=jM x+64*(x.j4 s).i:=by
 unfold Sc.j4 Sc.behind at h ⊢;split
 ·rename_i XN;rw[if_pos XN]at h;unfold Sc.nU at h ⊢;split
  ·rename_i XO;rw[if_pos XO]at h;have h1:=Jd h;have hb:=jb (n_ x (x.i+1+1));simp only at h1 ⊢;omega
  ·have h1:=Ge (s:=s) {x with i:=x.i+1+1};have hb:jM (({x with i:=x.i+1+1}:Sc).remark s)=jM x:=jb ((((n_ x (x.i+1+1)).trans (ia s [45,45] _)).trans (mv _ s ⟨#[45,45]⟩)).trans (ia s [62] _));simp only at h1 ⊢;omega
 ·rename_i XN;rw[if_neg XN]at h;split
  ·have h1:=Je (s:=s) {x with i:=x.i+1+1};have hb:jM (({x with i:=x.i+1+1}:Sc).order s)=jM x:=jb (((n_ x (x.i+1+1)).trans (nr _ s)).trans (mv _ s ⟨#[63,62]⟩));simp only at h1 ⊢;omega
  ·rename_i h63;rw[if_neg h63]at h;split
   ·rename_i BF;rw[if_pos BF]at h;have h1:=Az h;have hb:=jb (n_ x (x.i+1+1));simp only at h1 ⊢;omega
   ·rename_i BF;rw[if_neg BF]at h;have h1:=DJ h;have hb:=jb (n_ x (x.i+1));simp only at h1 ⊢;omega
theorem zB(h:Jc x)(he:x.err=0):Jc (x.piece s):=by
 intro e;have h0:=h he;unfold Sc.piece at e ⊢;split
 ·rename_i sB;rw[if_pos sB]at e;have:=Gf e;omega
 ·rename_i sB;rw[if_neg sB]at e;split
  ·rename_i hc;have h1:=Cc (s:=s) he 60 (by omega);have h2:=jb (zA x s 60);by_cases hn:(x.char s 60).2.data.toList=[]
   ·have e1:jM ((x.char s 60).1.gS (x.char s 60).2 x.i)=jM (x.char s 60).1:=by unfold jM Sc.gS;rw[hn];simp
    have e2:((x.char s 60).1.gS (x.char s 60).2 x.i).i=(x.char s 60).1.i:=rfl;rw[e1,e2];omega
   ·have ht:=w_ (x.char s 60).1 (x.char s 60).2 x.i hn;have hpos:1<=(x.char s 60).2.data.toList.length:=List.length_pos_iff.2 hn;have e2:((x.char s 60).1.gS (x.char s 60).2 x.i).i=(x.char s 60).1.i:=rfl;rw[e2];omega
  ·rename_i hc;rw[if_neg hc]at e;exact absurd e hc
theorem Jf:∀(f:Nat) (x:Sc),Jc x->Jc (il s f x):=by
 intro f;induction f with
 |zero=>intro x h;exact h
 |succ f ih=>
  intro x h;simp only[il];split
  ·rename_i hc;exact ih _ (zB h hc.2)
  ·exact h
theorem Rel.zero:Rel Sc.zero ⟨fun _=>[],fun _=>0,0,[],[],0,[]⟩:=⟨⟨rfl,rfl,fun e=>absurd rfl e⟩,rfl,rfl,rfl⟩
theorem Qs(s:ByteArray):cost (lB s).1<=64*s.size:=by
 unfold lB;split
 ·simp[cost]
 ·rename_i he;have he:(ee s).err=0:=by simpa using he
  have hp:Jc (ee s):=Jf _ _ (fun _=>by simp[jM,cost,Sc.zero]);have h1:=hp he;have hi:(ee s).i=s.size:=(tL (s:=s) (fun _=>[]) (s.size+1) Sc.zero _ rfl (aB _) (by show s.size<0+(s.size+1);omega) Rel.zero he).1;rw[hi]at h1;refine aw ?_ h1;simp only;rw[qV];unfold jM Sc.last;split
  ·simp[cost]
  ·rename_i hm;rw[if_neg (fun e=>hm (Or.inr e))];have h3:cost [fY (ee s)]=(jh (fY (ee s))).length:=by simp[cost]
   have h4:jh (fY (ee s))=Ch.sA false (ee s).more++marks:=rfl;have h5:=vd false (ee s).more;have h6:marks.length=27:=rfl;rw[h3,h4,ax];omega
end
end K
end Go.Proofs.YtclgfepngpeifaaGreatDoor
namespace Go.Proofs.YtclgfepngpeifaaGreatDoor
namespace K
open Go.RowKit Go.Maps Go.Lib Tryz
section
variable{X:Nat}{w w' w'' wr:World}{s t:ByteArray}{lv:Value}{x x':Sc}{F:Nat->Prop}{cs:List Value}
theorem zC{w1:World}{y:Sc}(k:SE X w s lv y w1)(I J:Nat)(hJ:J=I+1):SE X w s lv {y with i:=J} (w1.setCell ⟨X,1,none⟩ (.int .i64 ((I:Int)+1))):=by
 rw[show ((I:Int)+1)=(J:Int) by omega];exact k.set (x':={y with i:=J}) 1 (.int .i64 (J:Int)) rfl
theorem Jg(x:Sc)(s t:ByteArray):(x.until s t).2.size<=s.size:=by
 have key:∀(f:Nat) (x:Sc) (fD:Nat),(fM s t fD f x).2.size<=s.size:=by
  intro f;induction f with
  |zero=>intro x fD;exact aB _
  |succ f ih=>
   intro x fD;simp only[fM]
   repeat' split
   ·simp only[bY];omega
   ·exact ih _ _
   ·exact ih _ _
   ·exact aB _
 exact key _ _ _
theorem MK(h:RS F X w s lv cs x)(hs:s.size<=1099511627776)(he:x.err=0)(hi:x.i<s.size)(hn:x.l.length<=1099511627770)(hm:x.more.length<=s.size):
  Z4 40 #[Z8 X] w fun en w'=>en=.returned (.tuple #[])/\qx F X w s (x.j4 s) w':=by
 have c1:w.cell? ⟨X,1,none⟩=some (.int .i64 x.i):=h.sat.cell 1 rfl;have f1:=h.sat.free 1;have hlt:=h.sat.lt;have kit:=WI X s lv hs;obtain⟨J,hJ⟩:∃J,J=x.i+1:=⟨_,rfl⟩
 have hwr:IntKind.i64.wrap ((x.i:Int)+1)=(x.i:Int)+1:=by rw[aM];omega
 have R0:=a_ (zC (SE.refl h.sat) x.i J hJ);have WM:x.j4 s=Sc.behind {x with i:=J} s x.i:=by unfold Sc.j4;rw[hJ]
 rw[WM];have hx0:fS x {x with i:=J}:=n_ x J;have hxe:({x with i:=J}:Sc).err=0:=he;have S7:({x with i:=J}:Sc).i=J:=rfl;have hxf:Fits s {x with i:=J}:=fun _=>by show J<=_;omega
 generalize ({x with i:=J}:Sc)=x1 at*
 have K:=a_ kit;have H:=a_ h;have HS:=a_ hx0;have HXE:=a_ hxe;have HXF:=a_ hxf;clear kit h hx0 WM he hxe hxf;have i33:=fun W (b:j3 X W s lv x1)=>K.out.XS W x1 b 33 (by decide);have i63:=fun W (b:j3 X W s lv x1)=>K.out.XS W x1 b 63 (by decide);have i47:=fun W (b:j3 X W s lv x1)=>K.out.XS W x1 b 47 (by decide);unfold Sc.behind;cases ZN:x1.is s 33
 ·rw[ZN]at i33;have ML:=a_ i33;clear i33 ZN;simp only[aA,aQ];cases ZO:x1.is s 63
  ·rw[ZO]at i63;have TR:=a_ i63;clear i63 ZO;simp only[aA,aQ];cases B6:x1.is s 47
   ·rw[B6]at i47;have WN:=a_ i47;clear i47 B6;simp only[aA,aQ];have hns:fS x (x1.name s).1:=HS.out.trans (nr _ s);have hnf:Fits s (x1.name s).1:=Dz HXF.out;have ri:=fun W (b:j3 X W s lv x1)=>K.out.name W x1 b HXF.out;unfold Sc.kg;generalize x1.name s=N at*
    have hat:=fun W (b:j3 X W s lv N.1)=>K.out.attrs W N.1 b hnf;have has:fS x (N.1.attrs s).1:=hns.trans (Dy _ s);have haf:Fits s (N.1.attrs s).1:=TN hnf;generalize N.1.attrs s=A at*
    have GU:=fun W (b:j3 X W s lv A.1)=>K.out.XS W A.1 b 47 (by decide);unfold Sc.iZ;have El:=a_ ri;have sq:=a_ hat;have HAS:=a_ has;have HAF:=a_ haf;have HJ:=a_ hJ;clear ri hat has haf hns hnf hJ;cases q2:A.1.is s 47
    ·rw[q2]at GU;have I2:=a_ GU;clear GU q2;simp only[aA,aQ];go_enter func40,ntmps40;go_wp2_with fail;refine(ML.out _ R0.out.1).mono ?_;rintro e w1 ⟨rfl,r1⟩;have R1:=a_ (R0.out.on r1);clear r1 ML;go_wp2_with fail;refine(TR.out _ R1.out.1).mono ?_;rintro e w2 ⟨rfl,r2⟩;have R2:=a_ (R1.out.on r2);clear r2 TR;go_wp2_with fail;refine(WN.out _ R2.out.1).mono ?_;rintro e w3 ⟨rfl,r3⟩;have R3:=a_ (R2.out.on r3);clear r3 WN;go_wp2_with fail;refine(El.out _ R3.out.1).mono ?_;rintro e w4 ⟨rfl,r4⟩;have R4:=a_ (R3.out.on r4);clear r4;go_wp2_with fail;refine(sq.out _ R4.out.1).mono ?_;rintro e w5 ⟨v,rfl,r5,tU,Qt⟩;obtain⟨ai,ac,rfl⟩:=dS tU;have R5:=a_ (R4.out.on r5);have Dx:=a_ tU;have Qu:Hid (∀k,(Value.slice ai A.2.length ac).ownBlock=some k->w.heap.size<=k):=a_ fun k e=>aw R4.out.2.size (Qt k e);clear r5 tU Qt;have UZ:Hid ((Value.slice ai A.2.length ac).ownBlock≠some X):=a_ fun e=>by have:=Qu.out X e;omega
     go_wp2_with fail;refine(I2.out _ R5.out.1).mono ?_;rintro e w6 ⟨rfl,r6⟩;have R6:=a_ (R5.out.on r6);have Ql:=a_ (gL Dx.out UZ.out r6.2);clear r6;go_wp2_with fail;refine(K.out.must _ _ R6.out.1 HAF.out ⟨#[62]⟩ (by decide) (by decide)).mono ?_;rintro e w7 ⟨rfl,r7⟩;have R7:=a_ (R6.out.on r7);have Qm:=a_ (gL Ql.out UZ.out r7.2);clear r7;have hsm:fS x (Sc.eo s [62] A.1):=HAS.out.trans (ia s _ _);have htl:=tV H.out R7.out hsm ⟨1,N.2.data.toList,A.2,[],x.i⟩ (.slice ai A.2.length ac) Qm.out Qu.out (by show (Sc.eo s [62] A.1).l.length<=_;rw[hsm.1];omega);simp only[rW]at htl;go_wp2_with fail;refine htl.mono ?_;rintro e w8 ⟨rfl,r8⟩;have R8:=a_ r8;clear r8 htl hsm;go_wp2
     go_end0
     exact⟨rfl,R8.out⟩
    ·have hli:=is_lt q2;rw[q2]at GU;have I2:=a_ GU;clear GU q2;simp only[if_true];have Pg:IntKind.i64.wrap ((A.1.i:Int)+1)=(A.1.i:Int)+1:=by rw[aM];omega
     have RR:=a_ (fun w1 (r:SE X w s lv A.1 w1)=>zC r A.1.i (A.1.i+1) rfl);have U0:Hid (fS x {A.1 with i:=A.1.i+1}):=a_ (HAS.out.trans (n_ _ _));have Ko:Hid (Fits s {A.1 with i:=A.1.i+1}):=a_ fun _=>by show A.1.i+1<=_;omega
     generalize Yn:({A.1 with i:=A.1.i+1}:Sc)=A2 at*
     clear Yn;go_enter func40,ntmps40;go_wp2_with fail;refine(ML.out _ R0.out.1).mono ?_;rintro e w1 ⟨rfl,r1⟩;have R1:=a_ (R0.out.on r1);clear r1 ML;go_wp2_with fail;refine(TR.out _ R1.out.1).mono ?_;rintro e w2 ⟨rfl,r2⟩;have R2:=a_ (R1.out.on r2);clear r2 TR;go_wp2_with fail;refine(WN.out _ R2.out.1).mono ?_;rintro e w3 ⟨rfl,r3⟩;have R3:=a_ (R2.out.on r3);clear r3 WN;go_wp2_with fail;refine(El.out _ R3.out.1).mono ?_;rintro e w4 ⟨rfl,r4⟩;have R4:=a_ (R3.out.on r4);clear r4;go_wp2_with fail;refine(sq.out _ R4.out.1).mono ?_;rintro e w5 ⟨v,rfl,r5,tU,Qt⟩;obtain⟨ai,ac,rfl⟩:=dS tU;have R5:=a_ (R4.out.on r5);have Dx:=a_ tU;have Qu:Hid (∀k,(Value.slice ai A.2.length ac).ownBlock=some k->w.heap.size<=k):=a_ fun k e=>aw R4.out.2.size (Qt k e);clear r5 tU Qt;have UZ:Hid ((Value.slice ai A.2.length ac).ownBlock≠some X):=a_ fun e=>by have:=Qu.out X e;omega
     go_wp2_with fail;refine(I2.out _ R5.out.1).mono ?_;rintro e w6 ⟨rfl,r6⟩;have R6:=a_ (R5.out.on r6);have Ql:=a_ (gL Dx.out UZ.out r6.2);have c61:w6.cell? ⟨X,1,none⟩=some (.int .i64 (A.1.i:Int)):=R6.out.1.cell 1 rfl;have f61:=R6.out.1.free 1;have RS6:=a_ (RR.out w6 R6.out);have ZP:=a_ (dW Ql.out fun k e=>ak w6 ⟨X,1,none⟩ (.int .i64 ((A.1.i:Int)+1)) k (fun e2=>UZ.out (by rw[e];exact aL some e2)));clear r6;go_wp2_with fail;refine(K.out.must _ _ RS6.out.1 Ko.out ⟨#[62]⟩ (by decide) (by decide)).mono ?_;rintro e w7 ⟨rfl,r7⟩;have R7:=a_ (RS6.out.on r7);have Qm:=a_ (gL ZP.out UZ.out r7.2);clear r7;have hsm:fS x (Sc.eo s [62] A2):=U0.out.trans (ia s _ _);have htl:=tV H.out R7.out hsm ⟨1,N.2.data.toList,A.2,[],x.i⟩ (.slice ai A.2.length ac) Qm.out Qu.out (by show (Sc.eo s [62] A2).l.length<=_;rw[hsm.1];omega);simp only[rW]at htl;go_wp2_with fail;refine htl.mono ?_;rintro e w8 ⟨rfl,r8⟩;have htn:=MC r8 ⟨2,N.2.data.toList,[],[],x.i⟩ rfl (by have:=uS (Sc.eo s [62] A2) ⟨1,N.2.data.toList,A.2,[],x.i⟩;have h5:=hsm.1;show (Sc.told (Sc.eo s [62] A2) ⟨1,N.2.data.toList,A.2,[],x.i⟩).l.length<=_;rw[h5]at this;omega);simp only[rW]at htn;clear htl hsm r8;go_wp2_with fail;refine htn.mono ?_;rintro e w9 ⟨rfl,r9⟩;have R9:=a_ r9;clear r9 htn;go_wp2
     go_end0
     exact⟨rfl,R9.out⟩
   ·have Ej:J<s.size:=by have:=is_lt B6;omega
    rw[B6]at i47;have WN:=a_ i47;clear i47 B6;simp only[if_true];obtain⟨J2,hJ2⟩:∃J2,J2=J+1:=⟨_,rfl⟩
    have Pg:IntKind.i64.wrap ((J:Int)+1)=(J:Int)+1:=by rw[aM];omega
    have e2:({x1 with i:=x1.i+1}:Sc)={x1 with i:=J2}:=by rw[S7,hJ2]
    rw[e2];have hx2:fS x {x1 with i:=J2}:=HS.out.trans (n_ x1 J2);have hf2:Fits s {x1 with i:=J2}:=fun _=>by show J2<=_;omega
    have U1:=fun w1 (r:SE X w s lv x1 w1)=>zC r J J2 hJ2;clear e2;generalize ({x1 with i:=J2}:Sc)=x2 at*
    have U0:=a_ hx2;have Ko:=a_ hf2;have RR:=a_ U1;have HJ:=a_ hJ;have HJ2:=a_ hJ2;clear hx2 hf2 U1 hJ hJ2;unfold Sc.jw;go_enter func40,ntmps40;go_wp2_with fail;refine(ML.out _ R0.out.1).mono ?_;rintro e w1 ⟨rfl,r1⟩;have R1:=a_ (R0.out.on r1);clear r1 ML;go_wp2_with fail;refine(TR.out _ R1.out.1).mono ?_;rintro e w2 ⟨rfl,r2⟩;have R2:=a_ (R1.out.on r2);clear r2 TR;go_wp2_with fail;refine(WN.out _ R2.out.1).mono ?_;rintro e w3 ⟨rfl,r3⟩;have R3:=a_ (R2.out.on r3);have c31:w3.cell? ⟨X,1,none⟩=some (.int .i64 (J:Int)):=by have:=R3.out.1.cell (i:=1) (v:=.int .i64 (x1.i:Int)) rfl;rw[S7]at this;exact this
    have f31:=R3.out.1.free 1;have R4:=a_ (RR.out w3 R3.out);clear r3 WN;go_wp2_with fail;refine(K.out.name _ _ R4.out.1 Ko.out).mono ?_;rintro e w5 ⟨rfl,r5⟩;have R5:=a_ (R4.out.on r5);clear r5;go_wp2_with fail;refine(K.out.ey _ _ R5.out.1 (Dz Ko.out)).mono ?_;rintro e w6 ⟨rfl,r6⟩;have R6:=a_ (R5.out.on r6);clear r6;go_wp2_with fail;refine(K.out.must _ _ R6.out.1 (Qq (Dz Ko.out)) ⟨#[62]⟩ (by decide) (by decide)).mono ?_;rintro e w7 ⟨rfl,r7⟩;have R7:=a_ (R6.out.on r7);clear r7;have hsm:fS x (Sc.eo s [62] ((x2.name s).1.ey s)):=((U0.out.trans (nr _ s)).trans (np _ s)).trans (ia s _ _);have htl:=tV H.out R7.out hsm ⟨2,(x2.name s).2.data.toList,[],[],x.i⟩ (.slice none 0 0) (bA _ _ _ _) (by intro k e;simp[Value.ownBlock]at e) (by show (Sc.eo s [62] ((x2.name s).1.ey s)).l.length<=_;rw[hsm.1];omega);simp only[rW]at htl;go_wp2_with fail;refine htl.mono ?_;rintro e w8 ⟨rfl,r8⟩;go_wp2;refine aJ (aN rfl _ _ _) rfl ?_;exact⟨rfl,r8⟩
  ·have Ej:J<s.size:=by have:=is_lt ZO;omega
   rw[ZO]at i63;have TR:=a_ i63;clear i63 ZO i47;simp only[if_true];obtain⟨J2,hJ2⟩:∃J2,J2=J+1:=⟨_,rfl⟩
   have Pg:IntKind.i64.wrap ((J:Int)+1)=(J:Int)+1:=by rw[aM];omega
   have e2:({x1 with i:=x1.i+1}:Sc)={x1 with i:=J2}:=by rw[S7,hJ2]
   rw[e2];have hx2:fS x {x1 with i:=J2}:=HS.out.trans (n_ x1 J2);have hf2:Fits s {x1 with i:=J2}:=fun _=>by show J2<=_;omega
   have U1:=fun w1 (r:SE X w s lv x1 w1)=>zC r J J2 hJ2;clear e2;generalize ({x1 with i:=J2}:Sc)=x2 at*
   have U0:=a_ hx2;have Ko:=a_ hf2;have RR:=a_ U1;have HJ:=a_ hJ;have HJ2:=a_ hJ2;clear hx2 hf2 U1 hJ hJ2;unfold Sc.order;go_enter func40,ntmps40;go_wp2_with fail;refine(ML.out _ R0.out.1).mono ?_;rintro e w1 ⟨rfl,r1⟩;have R1:=a_ (R0.out.on r1);clear r1 ML;go_wp2_with fail;refine(TR.out _ R1.out.1).mono ?_;rintro e w2 ⟨rfl,r2⟩;have R2:=a_ (R1.out.on r2);have c21:w2.cell? ⟨X,1,none⟩=some (.int .i64 (J:Int)):=by have:=R2.out.1.cell (i:=1) (v:=.int .i64 (x1.i:Int)) rfl;rw[S7]at this;exact this
   have f21:=R2.out.1.free 1;have R3:=a_ (RR.out w2 R2.out);clear r2 TR;go_wp2_with fail;refine(K.out.name _ _ R3.out.1 Ko.out).mono ?_;rintro e w4 ⟨rfl,r4⟩;have R4:=a_ (R3.out.on r4);clear r4;go_wp2_with fail;refine(K.out.DB _ _ R4.out.1 (Dz Ko.out) ⟨#[63,62]⟩ (by decide)).mono ?_;rintro e w5 ⟨rfl,r5⟩;have R5:=a_ (R4.out.on r5);clear r5;go_wp2;refine aJ (aN rfl _ _ _) rfl ?_;exact⟨rfl,H.out.E6 R5.out ((U0.out.trans (nr _ s)).trans (mv _ s _)).1⟩
 ·have Ej:J<s.size:=by have:=is_lt ZN;omega
  rw[ZN]at i33;have ML:=a_ i33;clear i33 ZN i63 i47;simp only[if_true];obtain⟨J2,hJ2⟩:∃J2,J2=J+1:=⟨_,rfl⟩
  have Pg:IntKind.i64.wrap ((J:Int)+1)=(J:Int)+1:=by rw[aM];omega
  have e2:({x1 with i:=x1.i+1}:Sc)={x1 with i:=J2}:=by rw[S7,hJ2]
  rw[e2];have hx2:fS x {x1 with i:=J2}:=HS.out.trans (n_ x1 J2);have hf2:Fits s {x1 with i:=J2}:=fun _=>by show J2<=_;omega
  have U1:=fun w1 (r:SE X w s lv x1 w1)=>zC r J J2 hJ2;have abP:({x1 with i:=J2}:Sc).i=J2:=rfl;clear e2;generalize ({x1 with i:=J2}:Sc)=x2 at*
  have U0:=a_ hx2;have Ko:=a_ hf2;have RR:=a_ U1;have HJ:=a_ hJ;have HJ2:=a_ hJ2;clear hx2 hf2 U1 hJ hJ2;have i91:=fun W (b:j3 X W s lv x2)=>K.out.XS W x2 b 91 (by decide);unfold Sc.nU;cases q91:x2.is s 91
  ·rw[q91]at i91;have ZQ:=a_ i91;clear i91 q91;simp only[aA,aQ];go_enter func40,ntmps40;go_wp2_with fail;refine(ML.out _ R0.out.1).mono ?_;rintro e w1 ⟨rfl,r1⟩;have R1:=a_ (R0.out.on r1);have c11:w1.cell? ⟨X,1,none⟩=some (.int .i64 (J:Int)):=by have:=R1.out.1.cell (i:=1) (v:=.int .i64 (x1.i:Int)) rfl;rw[S7]at this;exact this
   have f11:=R1.out.1.free 1;have R2:=a_ (RR.out w1 R1.out);clear r1 ML;go_wp2_with fail;refine(ZQ.out _ R2.out.1).mono ?_;rintro e w3 ⟨rfl,r3⟩;have R3:=a_ (R2.out.on r3);clear r3 ZQ;go_wp2_with fail;refine(K.out.must _ _ R3.out.1 Ko.out ⟨#[45,45]⟩ (by decide) (by decide)).mono ?_;rintro e w4 ⟨rfl,r4⟩;have R4:=a_ (R3.out.on r4);clear r4;go_wp2_with fail;refine(K.out.DB _ _ R4.out.1 (DA s _ _ Ko.out) ⟨#[45,45]⟩ (by decide)).mono ?_;rintro e w5 ⟨rfl,r5⟩;have R5:=a_ (R4.out.on r5);clear r5;go_wp2_with fail;refine(K.out.must _ _ R5.out.1 (TM _ (by decide) (DA s _ _ Ko.out)) ⟨#[62]⟩ (by decide) (by decide)).mono ?_;rintro e w6 ⟨rfl,r6⟩;have R6:=a_ (R5.out.on r6);clear r6;go_wp2;refine aJ (aN rfl _ _ _) rfl ?_;exact⟨rfl,H.out.E6 (x':=x2.remark s) R6.out (((U0.out.trans (ia s _ _)).trans (mv _ s _)).trans (ia s _ _)).1⟩
  ·rw[q91]at i91;have ZQ:=a_ i91;clear i91 q91;simp only[if_true];unfold Sc.sW;have hYs:fS x (Sc.eo s [91,67,68,65,84,65,91] x2):=U0.out.trans (ia s _ _);have hYf:Fits s (Sc.eo s [91,67,68,65,84,65,91] x2):=DA s _ _ Ko.out;have LZ:=fun W (b:j3 X W s lv x2)=>K.out.must W x2 b Ko.out ⟨#[91,67,68,65,84,65,91]⟩ (by decide) (by decide);have hd:LA ⟨#[91,67,68,65,84,65,91]⟩ 0=[91,67,68,65,84,65,91]:=rfl;rw[hd]at LZ;generalize Sc.eo s [91,67,68,65,84,65,91] x2=Y at*
   have Wa:=fun W (b:j3 X W s lv Y)=>K.out.DB W Y b hYf ⟨#[93,93,62]⟩ (by decide);have hUs:fS x (Y.until s ⟨#[93,93,62]⟩).1:=hYs.trans (mv Y s _);have hUb:(Y.until s ⟨#[93,93,62]⟩).2.size<=s.size:=Jg Y s _;have zT:(Y.until s ⟨#[93,93,62]⟩).1.more.length+(Y.until s ⟨#[93,93,62]⟩).2.size<=1125899906842624:=by rw[hUs.2.1];omega
   generalize Y.until s ⟨#[93,93,62]⟩=U at*
   generalize hG:(if U.1.err=0/\U.2.data.toList≠[]then U.1.gS U.2 Y.i else U.1)=G at*
   have HG:=a_ hG;have XP:=a_ LZ;have HUN:=a_ Wa;have HYS:=a_ hYs;have HUS:=a_ hUs;clear LZ Wa hYs hUs hYf hd hG;go_enter func40,ntmps40;go_wp2_with fail;refine(ML.out _ R0.out.1).mono ?_;rintro e w1 ⟨rfl,r1⟩;have R1:=a_ (R0.out.on r1);have c11:w1.cell? ⟨X,1,none⟩=some (.int .i64 (J:Int)):=by have:=R1.out.1.cell (i:=1) (v:=.int .i64 (x1.i:Int)) rfl;rw[S7]at this;exact this
   have f11:=R1.out.1.free 1;have R2:=a_ (RR.out w1 R1.out);clear r1 ML;go_wp2_with fail;refine(ZQ.out _ R2.out.1).mono ?_;rintro e w3 ⟨rfl,r3⟩;have R3:=a_ (R2.out.on r3);clear r3 ZQ;go_wp2_with fail;refine(XP.out _ R3.out.1).mono ?_;rintro e w4 ⟨rfl,r4⟩;have R4:=a_ (R3.out.on r4);have c41:w4.cell? ⟨X,1,none⟩=some (.int .i64 (Y.i:Int)):=R4.out.1.cell 1 rfl;clear r4;go_wp2_with fail;refine(HUN.out _ R4.out.1).mono ?_;rintro e w5 ⟨rfl,r5⟩;have R5:=a_ (R4.out.on r5);have c55:w5.cell? ⟨X,5,none⟩=some (.int .i64 U.1.err):=R5.out.1.cell 5 rfl;clear r5;by_cases WQ:U.1.err=0
   ·have e0:(U.1.err==0)=true:=by simpa using WQ
    have htl:U.2.toList=U.2.data.toList:=Lib.toList_data _;cases hb:U.2.toList.isEmpty
    ·have hne:U.2.data.toList≠[]:=by
      intro e;rw[htl,e]at hb;cases hb
     have Qv:=HG.out;rw[if_pos ⟨WQ,hne⟩]at Qv;have VZ:=a_ Qv;clear Qv;have MN:=K.out.gS w5 U.1 R5.out.1 U.2 Y.i zT;clear WQ hne htl;go_wp2_with fail;refine MN.mono ?_;rintro e w6 ⟨rfl,r6⟩;have R6:=a_ (R5.out.on r6);clear r6 MN;go_wp2;refine aJ (aN rfl _ _ _) rfl ?_;exact⟨rfl,by rw[<-VZ.out];exact H.out.E6 R6.out HUS.out.1⟩
    ·have hne:¬(U.1.err=0/\U.2.data.toList≠[]):=by
      rintro⟨_,e⟩;apply e;rw[<-htl];simpa using hb
     have Qv:=HG.out;rw[if_neg hne]at Qv;have VZ:=a_ Qv;clear WQ hne htl Qv;go_wp2;refine aJ (aN rfl _ _ _) rfl ?_;exact⟨rfl,by rw[<-VZ.out];exact H.out.E6 R5.out HUS.out.1⟩
   ·have e0:(U.1.err==0)=false:=by simpa using WQ
    have Qv:=HG.out;rw[if_neg (fun e=>WQ e.1)]at Qv;have VZ:=a_ Qv;clear WQ Qv;go_wp2;refine aJ (aN rfl _ _ _) rfl ?_;exact⟨rfl,by rw[<-VZ.out];exact H.out.E6 R5.out HUS.out.1⟩
end
section
variable{X:Nat}{w w' w'' wr:World}{s t:ByteArray}{lv:Value}{x x':Sc}{F:Nat->Prop}{cs:List Value}
theorem Kr(x:Sc):Rel x ⟨fun j=>if j=.text then x.more else [],fun _=>x.fD,0,[],[],0,x.l⟩:=⟨⟨rfl,rfl,fun _=>rfl⟩,rfl,rfl,rfl⟩
structure XT(X:Nat)(w:World)(s:ByteArray)(y:Sc)(wr:World)(x:Sc)(f:Nat):Prop where
 rs:qx (fun k=>k=X) X w s x wr
 eq:il s f x=y
 ok:x.err=0->x.i<=s.size/\s.size<x.i+f/\x.more.length<=x.i/\x.l.length<=3*x.i
theorem Qw(he:x.err=0)(hi:x.i<s.size):(x.piece s).err=0->x.i<(x.piece s).i/\(x.piece s).i<=s.size/\(x.piece s).more.length+x.i<=x.more.length+(x.piece s).i/\(x.piece s).l.length<=x.l.length+3:=by
 rcases mZ (g:=fun _=>[]) he hi (Kr x)with⟨_,h2,h3,h4,_⟩|⟨h1,_⟩
 ·exact fun _=>⟨h2,h3,h4.2.1,h4.2.2⟩
 ·exact fun e=>absurd e h1
theorem qx.past(h:qx F X w s x w')(b:Below w'.heap.size w' w''):qx F X w s x w'':=h.on fun _ _ rs=>rs.below b
theorem qx.sat(h:qx F X w s x w'):∃lv,j3 X w' s lv x:=by obtain⟨lv,cs,r,_⟩:=h;exact⟨lv,r.sat⟩
theorem MO(h:qx F X w s x wr)(hs:s.size<=274877906944)(he:x.err=0)(hi:x.i<s.size)(hm:x.more.length<=x.i)(hl:x.l.length<=3*x.i):Z4 40 #[Z8 X] wr fun en w'=>en=.returned (.tuple #[])/\qx F X w s (x.j4 s) w':=by
 obtain⟨lv,cs,r,f⟩:=h;refine(MK r (by omega) he hi (by omega) (by omega)).mono ?_;rintro en w' ⟨rfl,r2⟩;exact⟨rfl,qx.on ⟨lv,cs,r,f⟩ fun _ _ _=>r2⟩
theorem TS(h:qx F X w s x wr)(hs:s.size<=274877906944):Z4 41 #[Z8 X,.int .u8 60] wr fun en w'=>en=.returned (.string (x.char s 60).2)/\qx F X w s (x.char s 60).1 w':=by
 obtain⟨lv,cs,r,f⟩:=h;refine(J9 r.sat (by omega) 60).mono ?_;rintro en w' ⟨rfl,r2⟩;exact⟨rfl,qx.on ⟨lv,cs,r,f⟩ fun _ _ _=>r.E6 r2 (zA x s 60).1⟩
theorem MP(h:qx F X w s x wr)(t:ByteArray)(a:Int)(hz:x.more.length+t.size<=1125899906842624):Z4 42 #[Z8 X,.string t,.int .i64 a] wr fun en w'=>en=.returned (.tuple #[])/\qx F X w s (x.gS t a) w':=by
 obtain⟨lv,cs,r,f⟩:=h;refine(Bi r.sat t a hz).mono ?_;rintro en w' ⟨rfl,r2⟩;exact⟨rfl,qx.on ⟨lv,cs,r,f⟩ fun _ _ _=>r.E6 r2 rfl⟩
theorem XT.next{y:Sc}{f:Nat}(h:XT X w s y wr x (f+1))(he:x.err=0)(hi:x.i<s.size)(r:qx (fun k=>k=X) X w s (x.piece s) w'):XT X w s y w' (x.piece s) f/\left X s.size w'<left X s.size wr:=by
 have hp:=Qw he hi;obtain⟨o1,o2,o3,o4⟩:=h.ok he;have heq:=h.eq;simp only[il]at heq;rw[if_pos ⟨hi,he⟩]at heq;refine⟨⟨r,heq,fun e=>?_⟩,?_⟩
 ·obtain⟨p1,p2,p3,p4⟩:=hp e;omega
 ·obtain⟨lv1,s1⟩:=r.sat;obtain⟨UN,s2⟩:=h.rs.sat;rw[left_eq s1 s.size,left_eq s2 s.size,if_pos he];split
  ·rename_i e;have:=hp e;omega
  ·omega
theorem Qx(s:ByteArray)(w:World)(hs:s.size<=274877906944):Z4 21 #[.string s] w fun en w'=>en=.returned (.pointer (some ⟨w.heap.size,0,none⟩))/\∃F lv cs,RS F w.heap.size w' s lv cs (ee s)/\Below w.heap.size w w'/\∀k,F k->w.heap.size<=k:=by
 have hb0:(w.alloc (.cells #[.string s,.int .i64 0,.slice none 0 0,.string ⟨#[]⟩,.int .i64 0,.int .i64 0,.int .i64 0] 65)).heap[w.heap.size]?=some (.cells #[.string s,.int .i64 0,.slice none 0 0,.string ⟨#[]⟩,.int .i64 0,.int .i64 0,.int .i64 0] 65):=dR _ _;have ZR:j3 w.heap.size (w.alloc (.cells #[.string s,.int .i64 0,.slice none 0 0,.string ⟨#[]⟩,.int .i64 0,.int .i64 0,.int .i64 0] 65)) s (.slice none 0 0) Sc.zero:=hb0;have h0:XT w.heap.size (w.alloc (.cells #[.string s,.int .i64 0,.slice none 0 0,.string ⟨#[]⟩,.int .i64 0,.int .i64 0,.int .i64 0] 65)) s (ee s) (w.alloc (.cells #[.string s,.int .i64 0,.slice none 0 0,.string ⟨#[]⟩,.int .i64 0,.int .i64 0,.int .i64 0] 65)) Sc.zero (s.size+1):=
  ⟨(RS.first ZR rfl).below (Below.refl _ _),rfl,fun _=>⟨aB _,by show s.size<0+_;omega,aB _,aB _⟩⟩
 have iT:∀wr x f,XT w.heap.size (w.alloc (.cells #[.string s,.int .i64 0,.slice none 0 0,.string ⟨#[]⟩,.int .i64 0,.int .i64 0,.int .i64 0] 65)) s (ee s) wr x f->x=ee s->∃F lv cs,RS F w.heap.size wr s lv cs (ee s)/\Below w.heap.size w wr/\∀k,F k->w.heap.size<=k:=by
  rintro wr x f ⟨⟨lv,cs,r,fr⟩,_,_⟩ rfl;refine⟨_,lv,cs,r,((Below.refl _ w).alloc (au _) _).trans ⟨fr.os,fr.tape,fr.output,fr.size,fun k hk=>fr.block k (by simp;omega) (by omega)⟩,?_⟩;rintro k (e|e)
  ·omega
  ·have:=e.1;simp at this;omega
 have H0:=a_ h0;have HF:=a_ iT;clear h0 iT ZR hb0;go_enter func21,ntmps21;go_wp2_with fail;generalize hw1:w.alloc (.cells #[.string s,.int .i64 0,.slice none 0 0,.string ⟨#[]⟩,.int .i64 0,.int .i64 0,.int .i64 0] 65)=w1 at*
 clear hw1;go_loopw [4,5] (fun _ _ wr=>∃x' f,XT w.heap.size w1 s (ee s) wr x' f) (fun _ _ wr=>left w.heap.size s.size wr)
 case atStart=>exact⟨_,_,H0.out⟩
 case round=>
  obtain⟨x',f,u⟩:=hrel;obtain⟨lv',sat'⟩:=u.rs.sat;have c1:wr.cell? ⟨w.heap.size,1,none⟩=some (.int .i64 x'.i):=sat'.cell 1 rfl;have c5:wr.cell? ⟨w.heap.size,5,none⟩=some (.int .i64 x'.err):=sat'.cell 5 rfl;clear sat';by_cases he:x'.err=0
  ·have e0:(x'.err==0)=true:=by simpa using he
   by_cases hi:x'.i<s.size
   ·have hd:decide ((x'.i:Int)<(s.size:Int))=true:=by simp;omega
    obtain⟨o1,o2,o3,o4⟩:=u.ok he;obtain⟨f,rfl⟩:∃g,f=g+1:=⟨f-1,by omega⟩
    have NG:s[x'.i]=s.get! x'.i:=(Utf8W.get!_of_lt s x'.i hi).symm;have D_:=fun w' (r:qx (fun k=>k=w.heap.size) w.heap.size w1 s (x'.piece s) w')=>u.next he hi r;have WM:=fun W (r:qx (fun k=>k=w.heap.size) w.heap.size w1 s x' W)=>MO r hs he hi o3 o4;have hch:=fun W (r:qx (fun k=>k=w.heap.size) w.heap.size w1 s x' W)=>TS r hs;have U:=a_ u.rs;have HN:=a_ D_;have HM:=a_ WM;have HC:=a_ hch;have hcg:=Bj x' s 60 he o1;clear u D_ WM hch;unfold Sc.piece at HN;by_cases sB:(s.get! x'.i).toNat=60
    ·have hq:(((s.get! x'.i).toNat:Int)==60)=true:=by simp;omega
     rw[if_pos sB]at HN;clear he sB hcg;go_wp2_with fail;refine(HM.out _ U.out).mono ?_;rintro e w2 ⟨rfl,r2⟩;have R2:=a_ (HN.out w2 r2);clear r2;go_wp2;exact⟨⟨_,_,R2.out.1⟩,R2.out.2⟩
    ·have hq:(((s.get! x'.i).toNat:Int)==60)=false:=by simp;omega
     rw[if_neg sB]at HN;by_cases hce:(x'.char s 60).1.err=0
     ·have e1:((x'.char s 60).1.err==0)=true:=by simpa using hce
      rw[if_pos hce]at HN;obtain⟨g1,g2,g3⟩:=hcg.1 hce;have MN:=fun W (r:qx (fun k=>k=w.heap.size) w.heap.size w1 s (x'.char s 60).1 W)=>MP r (x'.char s 60).2 x'.i (by rw[(zA x' s 60).2.1];omega);have HT:=a_ MN;clear he sB hcg hce MN;go_wp2_with fail;refine(HC.out _ U.out).mono ?_;rintro e w2 ⟨rfl,r2⟩;obtain⟨UN,Qy⟩:=r2.sat;have c25:w2.cell? ⟨w.heap.size,5,none⟩=some (.int .i64 (x'.char s 60).1.err):=Qy.cell 5 rfl;have R2:=a_ r2;clear r2 Qy;go_wp2_with fail;refine(HT.out _ R2.out).mono ?_;rintro e w3 ⟨rfl,r3⟩;have R3:=a_ (HN.out w3 r3);clear r3;go_wp2;exact⟨⟨_,_,R3.out.1⟩,R3.out.2⟩
     ·have e1:((x'.char s 60).1.err==0)=false:=by simpa using hce
      rw[if_neg hce]at HN;clear he sB hcg hce;go_wp2_with fail;refine(HC.out _ U.out).mono ?_;rintro e w2 ⟨rfl,r2⟩;obtain⟨UN,Qy⟩:=r2.sat;have c25:w2.cell? ⟨w.heap.size,5,none⟩=some (.int .i64 (x'.char s 60).1.err):=Qy.cell 5 rfl;have R2:=a_ (HN.out w2 r2);clear r2 Qy;go_wp2;exact⟨⟨_,_,R2.out.1⟩,R2.out.2⟩
   ·have hd:decide ((x'.i:Int)<(s.size:Int))=false:=by simp;omega
    have hx:x'=ee s:=by
     rw[<-u.eq];cases f with
     |zero=>rfl
     |succ f=>simp only[il];rw[if_neg (fun e=>hi e.1)]
    have R:=a_ (HF.out wr x' f u hx);clear u he hx;go_wp2;go_ret;exact⟨rfl,R.out⟩
  ·have e0:(x'.err==0)=false:=by simpa using he
   have hx:x'=ee s:=by rw[<-u.eq,rR he]
   have R:=a_ (HF.out wr x' f u hx);clear u he hx;by_cases hi:x'.i<s.size
   ·have hd:decide ((x'.i:Int)<(s.size:Int))=true:=by simp;omega
    go_wp2;go_ret;exact⟨rfl,R.out⟩
   ·have hd:decide ((x'.i:Int)<(s.size:Int))=false:=by simp;omega
    go_wp2;go_ret;exact⟨rfl,R.out⟩
end
section
variable{X:Nat}{w w' w'' wr:World}{s t:ByteArray}{lv:Value}{x x':Sc}{F:Nat->Prop}{cs:List Value}
def Qz(w:World)(v:Value)(l:List eX):Prop:=∃F X cs,w.ownsRow 0 72 5 v l.length cs/\nE F X w l cs
theorem MQ(b:Option Addr)(n c:Nat)(h:n<=c)(w:World):(Builtin.append_ #[62,62] 62 #[.slice b n c,.slice none 0 0]).run prog w=.ok (.slice b n c) w:=by cases b<;>simp[Builtin.append_,underlying,underlying62,sizeOf72,Builtin.lenOf,Builtin.firstCells,h,storeCells,Result.andThen]
theorem QA(h:j3 X w s lv x):Z4 22 #[Z8 X] w fun en w'=>∃v,en=.returned v/\Below w.heap.size w w'/\((x.last=[]/\v=.slice none 0 0)\/(x.last=[fY x]/\v=.slice (some ⟨w.heap.size,0,none⟩) 1 1/\w'.heap[w.heap.size]?=some (.cells (eB (fY x) (.slice none 0 0)).toArray 72))):=by
 have c3:w.cell? ⟨X,3,none⟩=some (.string ⟨x.more.toArray⟩):=h.cell 3 rfl;have c4:w.cell? ⟨X,4,none⟩=some (.int .i64 x.fD):=h.cell 4 rfl;have c5:w.cell? ⟨X,5,none⟩=some (.int .i64 x.err):=h.cell 5 rfl;unfold Sc.last;clear h;by_cases he:x.err=0
 ·have e0:(x.err !=0)=false:=by simpa using he
  by_cases hm:x.more=[]
  ·rw[if_pos (Or.inr hm)];have em:x.more.isEmpty=true:=by rw[hm];rfl
   clear he hm;go_enter func22,ntmps22;go_wp2;go_ret;exact⟨_,rfl,Below.refl _ _,Or.inl ⟨trivial,rfl⟩⟩
  ·rw[if_neg (by rintro(h|h);exact h he;exact hm h)];have em:x.more.isEmpty=false:=by simpa using hm
   clear he hm;go_enter func22,ntmps22;go_wp2_with fail;have d3:(w.alloc (.cells #[.int .i64 3,.string ⟨#[]⟩,.slice none 0 0,.string ⟨x.more.toArray⟩,.int .i64 x.fD] 72)).cell? ⟨X,3,none⟩=some (.string ⟨x.more.toArray⟩):=dV _ c3;have d4:(w.alloc (.cells #[.int .i64 3,.string ⟨#[]⟩,.slice none 0 0,.string ⟨x.more.toArray⟩,.int .i64 x.fD] 72)).cell? ⟨X,4,none⟩=some (.int .i64 x.fD):=dV _ c4;go_region_held3 (fun W=>W.cell? ⟨X,3,none⟩=some (.string ⟨x.more.toArray⟩)/\W.cell? ⟨X,4,none⟩=some (.int .i64 x.fD))
    (first|exact⟨c3,c4⟩|exact⟨d3,d4⟩)
    (fail)
   all_goals
    go_wp2;go_ret;exact⟨_,rfl,((Below.refl _ _).alloc (au _) _).drew,Or.inr ⟨trivial,rfl,dR _ _⟩⟩
 ·have e0:(x.err !=0)=true:=by simpa using he
  rw[if_pos (Or.inl he)];clear he;go_enter func22,ntmps22;go_wp2;go_ret;exact⟨_,rfl,Below.refl _ _,Or.inl ⟨trivial,rfl⟩⟩
theorem QB(h:RS F X w s lv cs x){w1:World}(b:Below w.heap.size w w1)(v:Value)(hv:(x.last=[]/\v=.slice none 0 0)\/(x.last=[fY x]/\v=.slice (some ⟨w.heap.size,0,none⟩) 1 1/\w1.heap[w.heap.size]?=some (.cells (eB (fY x) (.slice none 0 0)).toArray 72)))(hn:x.l.length<=1099511627776):
  ∃v' w2,(Builtin.append_ #[62,62] 62 #[lv,v]).run prog w1=.ok v' w2/\Qz w2 v' (x.l++x.last)/\w1.grownBy w2 lv.ownBlock:=by
 have TU:w1.ownsRow 0 72 5 lv x.l.length cs:=dW h.row fun k e=>b.block k (h.lt k (h.own k e).1);have U2:nE F X w1 x.l cs:=h.LD.frame fun k _ _ _ _ _ a _=>⟨b.block k (h.lt k a),a⟩
 rcases hv with⟨e1,rfl⟩|⟨e1,rfl,hb⟩
 ·obtain⟨ai,ac,rfl,hle⟩:∃ai ac,lv=.slice ai x.l.length ac/\x.l.length<=ac:=by
   rcases TU.2 with⟨rfl,hn⟩|⟨g,cap,cur,rfl,sO,hg,hc,hm,hcs,vQ⟩
   ·exact⟨none,0,by rw[hn],by omega⟩
   ·exact⟨_,_,rfl,hc⟩
  refine⟨_,w1,MQ ai _ ac hle w1,⟨F,X,cs,?_,?_⟩,⟨rfl,rfl,rfl,au _,fun _ _ _=>rfl⟩⟩
  ·rw[e1,aP];exact TU
  ·rw[e1,aP];exact U2
 ·obtain⟨i0,hi,hz0,hz1,hz2⟩:=aY Ib;have hcell:∀j u,(eB (fY x) (.slice none 0 0))[j]?=some u->w1.cell? ((⟨w.heap.size,0,none⟩:Addr).add j)=some u:=by
   intro j u hj;rw[Addr.add_mid,aG];refine cell_of hb ?_;simpa using hj
  obtain⟨v',w2,hr,ho,hgr,_,hat⟩:=cW (P:=prog) w1 0 62 62 72 i0 _ 5 72 underlying62 hi hz0 hz1 hz2 rfl (by decide) lv x.l.length cs TU ⟨w.heap.size,0,none⟩ 1 1 (eB (fY x) (.slice none 0 0)) rfl hcell (oY _ _ rfl) (by unfold maxLen;omega) (by omega) (aB _);refine⟨v',w2,hr,⟨F,X,cs++eB (fY x) (.slice none 0 0),?_,?_⟩,hgr⟩
  ·rw[e1];simp only[ax,aC,aI,aG];exact ho
  ·rw[e1];refine(U2.frame fun k n xs u hu e a c=>⟨?_,a⟩).app ⟨.slice none 0 0,[],by simp,bA _ _ _ _,by intro k e;simp[Value.ownBlock]at e,rfl⟩;exact hgr.block k (ej hu e) (fun e2=>kj hu TU (by decide) e e2.symm)
theorem DK{ops:Array Oper}{rest:List Oper}{o:Oper}{a:Act}{w:World}{Q:Exit->Act->World->Prop}(hgd:o.guard=none)(s x:Operand)(ho:o.op=Op.call {callee:=Callee.builtin Builtin.append,args:=#[s,x],argTypes:=#[62,62]})(hty:o.type=62)
  (v1 v2:Value) (hs:a.eval s=v1) (hx:a.eval x=v2) {v':Value} {w':World} (hr:(Builtin.append_ #[62,62] 62 #[v1,v2]).run prog w=.ok v' w') (h:wpList prog ops Q rest (a.put o.dst v') w'):wpList prog ops Q (o::rest) a w:=by
 refine wpList_plain hgd fun K hK=>?_;unfold Oper.wp execOp;simp only[ho,hty,resolve,invoke,builtin,Sem.run_bind,Sem.run_pure,dN,List.map_toArray,bN,cF,hs,hx,hr];exact hK _ _ h
theorem QC(s:ByteArray):(ee s).l.length<=3*s.size+3:=by
 have key:∀(f:Nat) (x:Sc),x.err=0->x.i<=s.size->x.l.length<=3*x.i->(il s f x).l.length<=3*s.size+3:=by
  intro f;induction f with
  |zero=>intro x he hi hl;show x.l.length<=_;omega
  |succ f ih=>
   intro x he hi hl;simp only[il];split
   ·rename_i hc;rcases mZ (g:=fun _=>[]) he hc.1 (Kr x)with⟨h1,h2,h3,h4,_⟩|⟨h1,h2,_⟩
    ·exact ih _ h1 h3 (by have:=h4.2.2;omega)
    ·rw[rR h1,h2];omega
   ·omega
 exact key _ Sc.zero rfl (aB _) (aB _)
end
end K
end Go.Proofs.YtclgfepngpeifaaGreatDoor
