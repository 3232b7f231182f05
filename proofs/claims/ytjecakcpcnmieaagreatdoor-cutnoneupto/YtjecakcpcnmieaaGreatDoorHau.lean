import Derived.Test.YtjecakcpcnmieaaGreatDoorHA
import Derived.Test.YtjecakcpcnmieaaGreatDoorHas
import Derived.Test.YtjecakcpcnmieaaGreatDoorHat
set_option linter.unusedVariables false
set_option linter.unusedSimpArgs false
set_option maxHeartbeats 32000000
set_option maxRecDepth 100000
namespace Go.Proofs.YtjecakcpcnmieaaGreatDoor
namespace K
open Go.RowKit Go.Lib Tryz
inductive Fo where
 |nil
 |text (t:List UInt8) (rest:Fo)
 |elem (n:List UInt8) (a:jY) (kids rest:Fo)
def Fo.size:Fo->Nat
 | .nil=>0
 | .text _ r=>1+r.size
 | .elem _ _ k r=>1+k.size+r.size
def Fo.deep:Fo->Nat
 | .nil=>0
 | .text _ r=>r.deep
 | .elem _ _ k r=>max (1+k.deep) r.deep
def Fo.jE:Nat->Fo->List Nat
 |_,.nil=>[]
 |m,.text _ r=>m::r.jE (m+1)
 |m,.elem _ _ k r=>m::r.jE (m+1+k.size)
def Fo.flat:Nat->Int->Fo->List Nd
 |_,_,.nil=>[]
 |m,u,.text t r=>⟨[],[],t,[],u⟩::r.flat (m+1) u
 |m,u,.elem n a k r=>⟨n,a,[],k.jE (m+1),u⟩::(k.flat (m+1) m++r.flat (m+1+k.size) u)
inductive ma:Fo->List Tok->Prop where
 |nil:ma .nil []
 |text (t:Tok) (r:Fo) (l:List Tok) (h1:t.kind≠1) (h2:t.kind≠2) (h:ma r l):ma (.text t.text r) (t::l)
 |elem (t c:Tok) (k r:Fo) (lk lr:List Tok) (h1:t.kind=1) (h2:c.kind=2) (hn:c.name=t.name) (hk:ma k lk) (hr:ma r lr):ma (.elem t.name t.b_ k r) (t::(lk++c::lr))
def jn(l:List Nd)(k:Nat)(js:List Nat):List Nd:=js.foldl (fun l j=>fy l k j) l
theorem rR(k:Nat):∀(js:List Nat) (l:List Nd),(jn l k js).length=l.length
 |[],l=>rfl
 |j::js,l=>by show (jn (fy l k j) k js).length=_;rw[rR k js,fB]
theorem pw(m:List Nd):∀(l:List Nd) (k j:Nat),k<l.length->fy (l++m) k j=fy l k j++m
 |[],k,j,h=>by simp at h
 |n::l,0,j,_=>rfl
 |n::l,k+1,j,h=>by simp only[aI,fy,pw m l k j (by simpa using h)]
theorem oM(m:List Nd)(k:Nat):∀(js:List Nat) (l:List Nd),k<l.length->jn (l++m) k js=jn l k js++m
 |[],l,_=>rfl
 |j::js,l,h=>by
  show jn (fy (l++m) k j) k js=jn (fy l k j) k js++m;rw[pw m l k j h,oM m k js _ (by rw[fB];exact h)]
theorem qu(n:Nd):∀(js:List Nat) (l:List Nd) (ks:List Nat),jn (l++[{n with kids:=ks}]) l.length js=l++[{n with kids:=ks++js}]
 |[],l,ks=>by simp[jn]
 |j::js,l,ks=>by
  have e:fy (l++[{n with kids:=ks}]) l.length j=l++[{n with kids:=ks++[j]}]:=by
   induction l with
   |nil=>rfl
   |cons x l ih=>simp only[aI,ag,fy,ih]
  show jn (fy _ _ j) _ js=_;rw[e,qu n js l (ks++[j])];simp
theorem nr:∀(f:Fo) (m:Nat) (u:Int),(f.flat m u).length=f.size
 | .nil,_,_=>rfl
 | .text t r,m,u=>by simp only[Fo.flat,ag,nr r,Fo.size];omega
 | .elem n a k r,m,u=>by simp only[Fo.flat,ag,ae,nr k,nr r,Fo.size];omega
theorem Ao{f:Fo}{ls:List Tok}(h:ma f ls):∀(g:Gr) (k:Nat) (st:List Nat) (rest:List Tok),g.stack=k::st->k<g.nodes.length->st.length+1+f.deep<=30->
  grow g (ls++rest)=grow ⟨jn g.nodes k (f.jE g.nodes.length)++f.flat g.nodes.length k,k::st⟩ rest:=by
 induction h with
 |nil=>
  intro g k st rest hs hk hd;obtain⟨nodes,stack⟩:=g;simp only at hs;subst hs;simp[Fo.jE,Fo.flat,jn]
 |text t r l h1 h2 h ih=>
  intro g k st rest hs hk hd;have et:g.take t=(0,g.put (jD t)):=by unfold Gr.take;rw[if_neg h1,if_neg h2,hs]
  have ep:g.put (jD t)=⟨fy g.nodes k g.nodes.length++[⟨[],[],t.text,[],k⟩],k::st⟩:=by unfold Gr.put;rw[hs];rfl
  rw[aI];show (if(g.take t).1≠0 then _ else _)=_;rw[et,if_neg (by simp),ep];have hl:(fy g.nodes k g.nodes.length++[(⟨[],[],t.text,[],k⟩:Nd)]).length=g.nodes.length+1:=by simp[fB]
  rw[ih ⟨_,_⟩ k st rest rfl (by simp only[hl];omega) (by simpa [Fo.deep]using hd)];simp only[hl];rw[oM _ _ _ _ (by rw[fB];exact hk)];simp only[Fo.jE,Fo.flat,jn,cm,aM,List.singleton_append]
 |elem t c kf r lk lr h1 h2 hn U6 hr U_ Qa=>
  intro g k st rest hs hk hd;have hne:g.nodes≠[]:=by intro e;rw[e]at hk;simp at hk
  simp only[Fo.deep]at hd;have et:g.take t=(0,{ (g.put (elemOf t))with stack:=g.nodes.length::g.stack}):=by unfold Gr.take;rw[if_pos h1,if_neg (by rw[hs];simp),if_neg (by rw[hs,ag];omega)]
  have ep:(g.put (elemOf t)).nodes=fy g.nodes k g.nodes.length++[⟨t.name,t.b_,[],[],k⟩]:=by unfold Gr.put;rw[hs];rfl
  rw[aI];show (if(g.take t).1≠0 then _ else _)=_;rw[et,if_neg (by simp)];simp only[ep,hs];have hl:(fy g.nodes k g.nodes.length++[(⟨t.name,t.b_,[],[],k⟩:Nd)]).length=g.nodes.length+1:=by simp[fB]
  rw[aM,U_ ⟨_,_⟩ g.nodes.length (k::st) _ rfl (by simp only[hl];omega) (by simp only[ag];omega)];simp only[hl];have e1:jn (fy g.nodes k g.nodes.length++[(⟨t.name,t.b_,[],[],k⟩:Nd)]) g.nodes.length (kf.jE (g.nodes.length+1))=fy g.nodes k g.nodes.length++[(⟨t.name,t.b_,[],kf.jE (g.nodes.length+1),k⟩:Nd)]:=by
   have:=qu ⟨t.name,t.b_,[],[],k⟩ (kf.jE (g.nodes.length+1)) (fy g.nodes k g.nodes.length) [];rw[fB]at this;simpa using this
  rw[e1]
  --the closing tag
  rw[aI];have qC:∀x:List Nd,(⟨(fy g.nodes k g.nodes.length++[(⟨t.name,t.b_,[],kf.jE (g.nodes.length+1),k⟩:Nd)])++x,g.nodes.length::k::st⟩:Gr).named g.nodes.length c.name=true:=by
   intro x;unfold Gr.named;have:((fy g.nodes k g.nodes.length++[(⟨t.name,t.b_,[],kf.jE (g.nodes.length+1),k⟩:Nd)])++x)[g.nodes.length]?=some ⟨t.name,t.b_,[],kf.jE (g.nodes.length+1),k⟩:=by
    rw[aL (by simp[fB]),aQ (by simp[fB])];simp[fB]
   simp only[this,hn,beq_self_eq_true]
  have ec:∀x:List Nd,(⟨(fy g.nodes k g.nodes.length++[(⟨t.name,t.b_,[],kf.jE (g.nodes.length+1),k⟩:Nd)])++x,g.nodes.length::k::st⟩:Gr).take c=(0,⟨(fy g.nodes k g.nodes.length++[(⟨t.name,t.b_,[],kf.jE (g.nodes.length+1),k⟩:Nd)])++x,k::st⟩):=by
   intro x;unfold Gr.take;rw[if_neg (by omega),if_pos h2];simp only[qC x,if_true]
  show (if(Gr.take _ c).1≠0 then _ else _)=_;rw[ec,if_neg (by simp)];have hl2:((fy g.nodes k g.nodes.length++[(⟨t.name,t.b_,[],kf.jE (g.nodes.length+1),k⟩:Nd)])++kf.flat (g.nodes.length+1) g.nodes.length).length=g.nodes.length+1+kf.size:=by simp only[ae,fB,nr,ag,aq]
  simp only;rw[Qa ⟨_,_⟩ k st rest rfl (by simp only[hl2];omega) (by omega)];simp only[hl2];rw[aM (fy g.nodes k g.nodes.length),oM _ _ _ _ (by rw[fB];exact hk)];simp only[Fo.jE,Fo.flat,jn,cm,aM,aI,bR]
theorem xM(l:List Nd)(k j i:Nat):((fy l k j)[i]?).map Nd.name=(l[i]?).map Nd.name:=by
 rw[pV];split
 ·cases l[i]?<;>rfl
 ·rfl
theorem vR(k i:Nat):∀(js:List Nat) (l:List Nd),((jn l k js)[i]?).map Nd.name=(l[i]?).map Nd.name
 |[],l=>rfl
 |j::js,l=>by show ((jn (fy l k j) k js)[i]?).map _=_;rw[vR k i js,xM]
theorem mC(g:Gr)(k:Nat)(n:List UInt8):g.named k n=true↔(g.nodes[k]?).map Nd.name=some n:=by unfold Gr.named;cases g.nodes[k]?<;>simp
theorem Hc(g:Gr)(n:Nd)(i:Nat)(hi:i<g.nodes.length):((g.put n).nodes[i]?).map Nd.name=(g.nodes[i]?).map Nd.name:=by
 unfold Gr.put;split
 ·rw[aL hi]
 ·rename_i k _ _;rw[aL (by rw[fB];exact hi),xM]
theorem xc{g g':Gr}{t:Tok}{l:List Tok}{q:Int}(h:grow g (t::l)=(0,q,g')):(g.take t).1=0/\grow (g.take t).2 l=(0,q,g'):=by
 have h':(if(g.take t).1≠0 then((g.take t).1,t.at_,g)else grow (g.take t).2 l)=(0,q,g'):=h;by_cases e:(g.take t).1=0
 ·rw[if_neg (by simpa using e)]at h';exact⟨e,h'⟩
 ·rw[if_pos e]at h';simp only[bQ]at h';exact absurd h'.1 e
theorem Kt(N:Nat):∀(l:List Tok) (g g':Gr) (k:Nat) (st:List Nat) (q:Int),l.length<=N->grow g l=(0,q,g')->g'.stack=[]->g.stack=k::st->k<g.nodes.length->
  ∃(f:Fo) (ls:List Tok) (c:Tok) (rest:List Tok),l=ls++c::rest/\ma f ls/\c.kind=2/\g.named k c.name=true/\(st.length+1<=30->st.length+1+f.deep<=30):=by
 induction N with
 |zero=>
  intro l g g' k st q hl hg he hs hk;obtain rfl:l=[]:=aR (by omega);simp only[grow,bQ]at hg;rw[hg.2.2]at hs;rw[he]at hs;cases hs
 |succ N ih=>
  intro l g g' k st q hl hg he hs hk;cases l with
  |nil=>
   simp only[grow,bQ]at hg;rw[hg.2.2]at hs;rw[he]at hs;cases hs
  |cons t l=>
   simp only[ag]at hl;obtain⟨ht,hg2⟩:=xc hg;have hne:g.nodes≠[]:=by intro e;rw[e]at hk;simp at hk
   by_cases h1:t.kind=1
   ·have hlt:¬30<=g.stack.length:=by
     intro hx;unfold Gr.take at ht;rw[if_pos h1,if_neg (by rw[hs];simp),if_pos hx]at ht;simp at ht
    have et:g.take t=(0,{ (g.put (elemOf t))with stack:=g.nodes.length::g.stack}):=by unfold Gr.take;rw[if_pos h1,if_neg (by rw[hs];simp),if_neg hlt]
    rw[et]at hg2;have hsl:g.stack.length=st.length+1:=by rw[hs];rfl
    obtain⟨f1,ls1,c1,Tn,e1,mk1,k1,nm1,d1⟩:=ih l _ g' g.nodes.length g.stack q (by omega) hg2 he rfl (by simp only[lh];omega);have hname:c1.name=t.name:=by
     rw[mC]at nm1;simp only[Am,cq,aJ]at nm1;exact nm1.symm
    have d1':g.stack.length+1+f1.deep<=30:=d1 (by omega);have Yy:=Ao (.elem t c1 f1 .nil ls1 [] h1 k1 hname mk1 .nil) g k st Tn hs hk (by simp only[Fo.deep];omega);rw[aI,aM,aI,bR,<-e1,hg]at Yy;have tR:Tn.length<=N:=by rw[e1]at hl;simp only[ae,ag]at hl;omega
    obtain⟨f2,ls2,c2,abB,e2,Za,k2,nm2,d2⟩:=ih Tn _ g' k st q tR Yy.symm he rfl (by simp only[ae,rR];omega);refine⟨.elem t.name t.b_ f1 f2,t::(ls1++c1::ls2),c2,abB,?_,.elem t c1 f1 f2 ls1 ls2 h1 k1 hname mk1 Za,k2,?_,fun hd=>?_⟩
    ·rw[e1,e2];simp
    ·rw[mC]at nm2 ⊢;rw[<-nm2,aL (by rw[rR];exact hk),vR]
    ·have:=d2 hd;simp only[Fo.deep];omega
   ·by_cases h2:t.kind=2
    ·have qC:g.named k t.name=true:=by
      refine aU fun hx=>?_;unfold Gr.take at ht;rw[if_neg h1,if_pos h2,hs]at ht;simp[hx]at ht
     exact⟨.nil,[],t,l,rfl,.nil,h2,qC,fun hd=>by simpa [Fo.deep]using hd⟩
    ·have et:g.take t=(0,g.put (jD t)):=by unfold Gr.take;rw[if_neg h1,if_neg h2,hs]
     rw[et]at hg2;obtain⟨f,ls,c,rest,e,mk,k2,nm,d⟩:=ih l _ g' k st q (by omega) hg2 he (by rw[od];exact hs) (by rw[lh];omega);refine⟨.text t.text f,t::ls,c,rest,by rw[e];rfl,.text t f ls h1 h2 mk,k2,?_,fun hd=>by simpa [Fo.deep]using d hd⟩;rw[mC]at nm ⊢;rw[<-nm,Hc _ _ _ hk]
def Idle(t:Tok):Prop:=t.kind≠1/\t.kind≠2/\gG t.text=true
theorem xN:∀(l:List Tok) (g g':Gr) (q:Int),grow g l=(0,q,g')->g.stack=[]->g.nodes≠[]->(∀t∈l,Idle t)/\g'=g
 |[],g,g',q,h,_,_=>by
  simp only[grow,bQ]at h;exact⟨fun t ht=>by simp at ht,h.2.2.symm⟩
 |t::l,g,g',q,h,hs,hn=>by
  obtain⟨ht,hg⟩:=xc h;have h1:t.kind≠1:=by
   intro e;unfold Gr.take at ht;rw[if_pos e,if_pos ⟨hs,hn⟩]at ht;simp at ht
  have h2:t.kind≠2:=by
   intro e;unfold Gr.take at ht;rw[if_neg h1,if_pos e,hs]at ht;simp at ht
  have h3:gG t.text=true:=by
   refine aU fun hx=>?_;unfold Gr.take at ht;rw[if_neg h1,if_neg h2,hs]at ht;simp[hx]at ht
  have et:g.take t=(0,g):=by unfold Gr.take;rw[if_neg h1,if_neg h2,hs];simp only[h3,if_true]
  rw[et]at hg;obtain⟨a,b⟩:=xN l g g' q hg hs hn;refine⟨fun x hx=>?_,b⟩;rcases List.mem_cons.1 hx with e|e
  ·rw[e];exact⟨h1,h2,h3⟩
  ·exact a x e
structure Doc(l:List Tok)(n:List UInt8)(a:jY)(f:Fo):Prop where
 ex:∃(b1:List Tok) (t:Tok) (ls:List Tok) (c:Tok) (b2:List Tok),l=b1++t::(ls++c::b2)/\(∀x∈b1,Idle x)/\(∀x∈b2,Idle x)/\t.kind=1/\t.name=n/\t.b_=a/\ma f ls/\c.kind=2/\c.name=n
 deep:1+f.deep<=30
theorem OD{g:Gr}(hs:g.stack=[])(hn:g.nodes=[])(t c:Tok)(f:Fo)(ls rest:List Tok)(h1:t.kind=1)(hm:ma f ls)(h2:c.kind=2)(hc:c.name=t.name)(hd:1+f.deep<=30):
  grow g (t::(ls++c::rest))=grow ⟨(Fo.elem t.name t.b_ f .nil).flat 0 (-1),[]⟩ rest:=by
 obtain⟨nodes,stack⟩:=g;simp only at hs hn;subst hs;subst hn;show (if(Gr.take ⟨[],[]⟩ t).1≠0 then _ else _)=_;have et:Gr.take ⟨[],[]⟩ t=(0,⟨[⟨t.name,t.b_,[],[],-1⟩],[0]⟩):=by unfold Gr.take;rw[if_pos h1,if_neg (by simp),if_neg (by simp)];rfl
 rw[et,if_neg (by simp)];simp only;rw[Ao hm ⟨_,_⟩ 0 [] _ rfl (by simp) (by simpa using hd)];simp only[ag,aq];have e1:jn [(⟨t.name,t.b_,[],[],-1⟩:Nd)] 0 (f.jE (0+1))=[⟨t.name,t.b_,[],f.jE 1,-1⟩]:=by
  have:=qu ⟨t.name,t.b_,[],[],-1⟩ (f.jE 1) [] [];simpa using this
 rw[e1];have ec:Gr.take ⟨[(⟨t.name,t.b_,[],f.jE 1,-1⟩:Nd)]++f.flat (0+1) ((0:Nat):Int),[0]⟩ c=(0,⟨[(⟨t.name,t.b_,[],f.jE 1,-1⟩:Nd)]++f.flat (0+1) ((0:Nat):Int),[]⟩):=by
  unfold Gr.take;rw[if_neg (by omega),if_pos h2];simp[Gr.named,hc]
 show (if(Gr.take _ c).1≠0 then _ else _)=_;rw[ec,if_neg (by simp)];simp[Fo.flat]
theorem Tp:∀(l:List Tok) (g':Gr) (q:Int),grow Gr.zero l=(0,q,g')->g'.stack=[]->g'.nodes≠[]->∃n a f,Doc l n a f/\g'.nodes=(Fo.elem n a f .nil).flat 0 (-1)
 |[],g',q,h,_,hn=>by
  simp only[grow,bQ]at h;rw[<-h.2.2]at hn;exact absurd rfl hn
 |t::l,g',q,h,hs,hn=>by
  obtain⟨ht,hg⟩:=xc h;by_cases h1:t.kind=1
  ·have et:Gr.take Gr.zero t=(0,⟨[⟨t.name,t.b_,[],[],-1⟩],[0]⟩):=by unfold Gr.take;rw[if_pos h1,if_neg (by simp[Gr.zero]),if_neg (by simp[Gr.zero])];rfl
   rw[et]at hg;obtain⟨f,ls,c,rest,e,mk,k2,nm,d⟩:=Kt l.length l _ g' 0 [] q (ah _) hg hs rfl (by simp);have hname:c.name=t.name:=by
    rw[mC]at nm;simpa using nm.symm
   have hd:1+f.deep<=30:=by simpa using d (by simp)
   subst e;have hr:=OD (g:=Gr.zero) rfl rfl t c f ls rest h1 mk k2 hname hd;rw[h]at hr;obtain⟨i2,eg⟩:=xN rest _ g' q hr.symm rfl (by simp[Fo.flat]);refine⟨t.name,t.b_,f,⟨⟨[],t,ls,c,rest,rfl,fun x hx=>by simp at hx,i2,h1,rfl,rfl,mk,k2,hname⟩,hd⟩,by rw[eg]⟩
  ·have h2:t.kind≠2:=by
    intro e;unfold Gr.take at ht;rw[if_neg h1,if_pos e]at ht;simp[Gr.zero]at ht
   have h3:gG t.text=true:=by
    refine aU fun hx=>?_;unfold Gr.take at ht;rw[if_neg h1,if_neg h2]at ht;simp[Gr.zero,hx]at ht
   have et:Gr.take Gr.zero t=(0,Gr.zero):=by unfold Gr.take;rw[if_neg h1,if_neg h2];simp[Gr.zero,h3]
   rw[et]at hg;obtain⟨n,a,f,⟨⟨b1,t',ls,c,b2,e,i1,r⟩,hd⟩,e2⟩:=Tp l g' q hg hs hn;refine⟨n,a,f,⟨⟨t::b1,t',ls,c,b2,by rw[e];rfl,fun x hx=>?_,r⟩,hd⟩,e2⟩;rcases List.mem_cons.1 hx with e|e
   ·rw[e];exact⟨h1,h2,h3⟩
   ·exact i1 x e
end K
end Go.Proofs.YtjecakcpcnmieaaGreatDoor
namespace Go.Proofs.YtjecakcpcnmieaaGreatDoor
namespace K
open Go.RowKit Go.Maps Go.Lib Tryz
section
variable{X:Nat}{w w' w'' wr:World}{s t:ByteArray}{lv:Value}{x x':Sc}{F:Nat->Prop}{cs:List Value}
theorem Ap{w1:World}{y:Sc}(k:SE X w s lv y w1)(I J:Nat)(hJ:J=I+1):SE X w s lv {y with i:=J} (w1.setCell ⟨X,1,none⟩ (.int .i64 ((I:Int)+1))):=by
 rw[show ((I:Int)+1)=(J:Int) by omega];exact k.set (x':={y with i:=J}) 1 (.int .i64 (J:Int)) rfl
theorem Ku(x:Sc)(s t:ByteArray):(x.until s t).2.size<=s.size:=by
 have key:∀(f:Nat) (x:Sc) (fV:Nat),(gw s t fV f x).2.size<=s.size:=by
  intro f;induction f with
  |zero=>intro x fV;exact ax _
  |succ f ih=>
   intro x fV;simp only[gw]
   repeat' split
   ·simp only[cw];omega
   ·exact ih _ _
   ·exact ih _ _
   ·exact ax _
 exact key _ _ _
theorem OE(h:RS F X w s lv cs x)(hs:s.size<=1099511627776)(he:x.err=0)(hi:x.i<s.size)(hn:x.l.length<=1099511627770)(hm:x.more.length<=s.size):
  Z4 40 #[Z8 X] w fun en w'=>en=.returned (.tuple #[])/\tZ F X w s (x.ly s) w':=by
 have c1:w.cell? ⟨X,1,none⟩=some (.int .i64 x.i):=h.sat.cell 1 rfl;have f1:=h.sat.free 1;have hlt:=h.sat.lt;have kit:=aam X s lv hs;obtain⟨J,hJ⟩:∃J,J=x.i+1:=⟨_,rfl⟩
 have hwr:IntKind.i64.wrap ((x.i:Int)+1)=(x.i:Int)+1:=by rw[aD];omega
 have R0:=a_ (Ap (SE.refl h.sat) x.i J hJ);have Yy:x.ly s=Sc.behind {x with i:=J} s x.i:=by unfold Sc.ly;rw[hJ]
 rw[Yy];have hx0:gH x {x with i:=J}:=nQ x J;have hxe:({x with i:=J}:Sc).err=0:=he;have Wn:({x with i:=J}:Sc).i=J:=rfl;have hxf:Fits s {x with i:=J}:=fun _=>by show J<=_;omega
 generalize ({x with i:=J}:Sc)=x1 at*
 have K:=a_ kit;have H:=a_ h;have HS:=a_ hx0;have HXE:=a_ hxe;have HXF:=a_ hxf;clear kit h hx0 Yy he hxe hxf;have i33:=fun W (b:kQ X W s lv x1)=>K.out.is_ W x1 b 33 (by decide);have i63:=fun W (b:kQ X W s lv x1)=>K.out.is_ W x1 b 63 (by decide);have i47:=fun W (b:kQ X W s lv x1)=>K.out.is_ W x1 b 47 (by decide);unfold Sc.behind;cases q33:x1.is s 33
 ·rw[q33]at i33;have OG:=a_ i33;clear i33 q33;simp only[aA,bf];cases q63:x1.is s 63
  ·rw[q63]at i63;have Xf:=a_ i63;clear i63 q63;simp only[aA,bf];cases CA:x1.is s 47
   ·rw[CA]at i47;have I47:=a_ i47;clear i47 CA;simp only[aA,bf];have hns:gH x (x1.name s).1:=HS.out.trans (l6 _ s);have hnf:Fits s (x1.name s).1:=rQ HXF.out;have qC:=fun W (b:kQ X W s lv x1)=>K.out.name W x1 b HXF.out;unfold Sc.j9;generalize x1.name s=N at*
    have hat:=fun W (b:kQ X W s lv N.1)=>K.out.b_ W N.1 b hnf;have has:gH x (N.1.b_ s).1:=hns.trans (yG _ s);have haf:Fits s (N.1.b_ s).1:=Mi hnf;generalize N.1.b_ s=A at*
    have IG:=fun W (b:kQ X W s lv A.1)=>K.out.is_ W A.1 b 47 (by decide);unfold Sc.jh;have Ff:=a_ qC;have tY:=a_ hat;have HAS:=a_ has;have HAF:=a_ haf;have HJ:=a_ hJ;clear qC hat has haf hns hnf hJ;cases q2:A.1.is s 47
    ·rw[q2]at IG;have I2:=a_ IG;clear IG q2;simp only[aA,bf];go_enter func40,ntmps40;go_wp2_with fail;refine(OG.out _ R0.out.1).mono ?_;rintro e w1 ⟨rfl,r1⟩;have R1:=a_ (R0.out.on r1);clear r1 OG;go_wp2_with fail;refine(Xf.out _ R1.out.1).mono ?_;rintro e w2 ⟨rfl,r2⟩;have R2:=a_ (R1.out.on r2);clear r2 Xf;go_wp2_with fail;refine(I47.out _ R2.out.1).mono ?_;rintro e w3 ⟨rfl,r3⟩;have R3:=a_ (R2.out.on r3);clear r3 I47;go_wp2_with fail;refine(Ff.out _ R3.out.1).mono ?_;rintro e w4 ⟨rfl,r4⟩;have R4:=a_ (R3.out.on r4);clear r4;go_wp2_with fail;refine(tY.out _ R4.out.1).mono ?_;rintro e w5 ⟨v,rfl,r5,uH,Tq⟩;obtain⟨ai,ac,rfl⟩:=eE uH;have R5:=a_ (R4.out.on r5);have Es:=a_ uH;have Tr:Hid (∀k,(Value.slice ai A.2.length ac).ownBlock=some k->w.heap.size<=k):=a_ fun k e=>ar R4.out.2.size (Tq k e);clear r5 uH Tq;have MZ:Hid ((Value.slice ai A.2.length ac).ownBlock≠some X):=a_ fun e=>by have:=Tr.out X e;omega
     go_wp2_with fail;refine(I2.out _ R5.out.1).mono ?_;rintro e w6 ⟨rfl,r6⟩;have R6:=a_ (R5.out.on r6);have Tf:=a_ (iF Es.out MZ.out r6.2);clear r6;go_wp2_with fail;refine(K.out.must _ _ R6.out.1 HAF.out ⟨#[62]⟩ (by decide) (by decide)).mono ?_;rintro e w7 ⟨rfl,r7⟩;have R7:=a_ (R6.out.on r7);have Tg:=a_ (iF Tf.out MZ.out r7.2);clear r7;have hsm:gH x (Sc.eW s [62] A.1):=HAS.out.trans (gQ s _ _);have htl:=uI H.out R7.out hsm ⟨1,N.2.data.toList,A.2,[],x.i⟩ (.slice ai A.2.length ac) Tg.out Tr.out (by show (Sc.eW s [62] A.1).l.length<=_;rw[hsm.1];omega);simp only[sX]at htl;go_wp2_with fail;refine htl.mono ?_;rintro e w8 ⟨rfl,r8⟩;have R8:=a_ r8;clear r8 htl hsm;go_wp2
     go_end0
     exact⟨rfl,R8.out⟩
    ·have Zl:=is_lt q2;rw[q2]at IG;have I2:=a_ IG;clear IG q2;simp only[if_true];have Sd:IntKind.i64.wrap ((A.1.i:Int)+1)=(A.1.i:Int)+1:=by rw[aD];omega
     have RR:=a_ (fun w1 (r:SE X w s lv A.1 w1)=>Ap r A.1.i (A.1.i+1) rfl);have Ng:Hid (gH x {A.1 with i:=A.1.i+1}):=a_ (HAS.out.trans (nQ _ _));have Mj:Hid (Fits s {A.1 with i:=A.1.i+1}):=a_ fun _=>by show A.1.i+1<=_;omega
     generalize hA2:({A.1 with i:=A.1.i+1}:Sc)=A2 at*
     clear hA2;go_enter func40,ntmps40;go_wp2_with fail;refine(OG.out _ R0.out.1).mono ?_;rintro e w1 ⟨rfl,r1⟩;have R1:=a_ (R0.out.on r1);clear r1 OG;go_wp2_with fail;refine(Xf.out _ R1.out.1).mono ?_;rintro e w2 ⟨rfl,r2⟩;have R2:=a_ (R1.out.on r2);clear r2 Xf;go_wp2_with fail;refine(I47.out _ R2.out.1).mono ?_;rintro e w3 ⟨rfl,r3⟩;have R3:=a_ (R2.out.on r3);clear r3 I47;go_wp2_with fail;refine(Ff.out _ R3.out.1).mono ?_;rintro e w4 ⟨rfl,r4⟩;have R4:=a_ (R3.out.on r4);clear r4;go_wp2_with fail;refine(tY.out _ R4.out.1).mono ?_;rintro e w5 ⟨v,rfl,r5,uH,Tq⟩;obtain⟨ai,ac,rfl⟩:=eE uH;have R5:=a_ (R4.out.on r5);have Es:=a_ uH;have Tr:Hid (∀k,(Value.slice ai A.2.length ac).ownBlock=some k->w.heap.size<=k):=a_ fun k e=>ar R4.out.2.size (Tq k e);clear r5 uH Tq;have MZ:Hid ((Value.slice ai A.2.length ac).ownBlock≠some X):=a_ fun e=>by have:=Tr.out X e;omega
     go_wp2_with fail;refine(I2.out _ R5.out.1).mono ?_;rintro e w6 ⟨rfl,r6⟩;have R6:=a_ (R5.out.on r6);have Tf:=a_ (iF Es.out MZ.out r6.2);have c61:w6.cell? ⟨X,1,none⟩=some (.int .i64 (A.1.i:Int)):=R6.out.1.cell 1 rfl;have f61:=R6.out.1.free 1;have RS6:=a_ (RR.out w6 R6.out);have abC:=a_ (eI Tf.out fun k e=>af w6 ⟨X,1,none⟩ (.int .i64 ((A.1.i:Int)+1)) k (fun e2=>MZ.out (by rw[e];exact aC some e2)));clear r6;go_wp2_with fail;refine(K.out.must _ _ RS6.out.1 Mj.out ⟨#[62]⟩ (by decide) (by decide)).mono ?_;rintro e w7 ⟨rfl,r7⟩;have R7:=a_ (RS6.out.on r7);have Tg:=a_ (iF abC.out MZ.out r7.2);clear r7;have hsm:gH x (Sc.eW s [62] A2):=Ng.out.trans (gQ s _ _);have htl:=uI H.out R7.out hsm ⟨1,N.2.data.toList,A.2,[],x.i⟩ (.slice ai A.2.length ac) Tg.out Tr.out (by show (Sc.eW s [62] A2).l.length<=_;rw[hsm.1];omega);simp only[sX]at htl;go_wp2_with fail;refine htl.mono ?_;rintro e w8 ⟨rfl,r8⟩;have htn:=OC r8 ⟨2,N.2.data.toList,[],[],x.i⟩ rfl (by have:=vK (Sc.eW s [62] A2) ⟨1,N.2.data.toList,A.2,[],x.i⟩;have h5:=hsm.1;show (Sc.told (Sc.eW s [62] A2) ⟨1,N.2.data.toList,A.2,[],x.i⟩).l.length<=_;rw[h5]at this;omega);simp only[sX]at htn;clear htl hsm r8;go_wp2_with fail;refine htn.mono ?_;rintro e w9 ⟨rfl,r9⟩;have R9:=a_ r9;clear r9 htn;go_wp2
     go_end0
     exact⟨rfl,R9.out⟩
   ·have yY:J<s.size:=by have:=is_lt CA;omega
    rw[CA]at i47;have I47:=a_ i47;clear i47 CA;simp only[if_true];obtain⟨J2,hJ2⟩:∃J2,J2=J+1:=⟨_,rfl⟩
    have Sd:IntKind.i64.wrap ((J:Int)+1)=(J:Int)+1:=by rw[aD];omega
    have e2:({x1 with i:=x1.i+1}:Sc)={x1 with i:=J2}:=by rw[Wn,hJ2]
    rw[e2];have hx2:gH x {x1 with i:=J2}:=HS.out.trans (nQ x1 J2);have hf2:Fits s {x1 with i:=J2}:=fun _=>by show J2<=_;omega
    have Yz:=fun w1 (r:SE X w s lv x1 w1)=>Ap r J J2 hJ2;clear e2;generalize ({x1 with i:=J2}:Sc)=x2 at*
    have Ng:=a_ hx2;have Mj:=a_ hf2;have RR:=a_ Yz;have HJ:=a_ hJ;have HJ2:=a_ hJ2;clear hx2 hf2 Yz hJ hJ2;unfold Sc.ji;go_enter func40,ntmps40;go_wp2_with fail;refine(OG.out _ R0.out.1).mono ?_;rintro e w1 ⟨rfl,r1⟩;have R1:=a_ (R0.out.on r1);clear r1 OG;go_wp2_with fail;refine(Xf.out _ R1.out.1).mono ?_;rintro e w2 ⟨rfl,r2⟩;have R2:=a_ (R1.out.on r2);clear r2 Xf;go_wp2_with fail;refine(I47.out _ R2.out.1).mono ?_;rintro e w3 ⟨rfl,r3⟩;have R3:=a_ (R2.out.on r3);have c31:w3.cell? ⟨X,1,none⟩=some (.int .i64 (J:Int)):=by have:=R3.out.1.cell (i:=1) (v:=.int .i64 (x1.i:Int)) rfl;rw[Wn]at this;exact this
    have f31:=R3.out.1.free 1;have R4:=a_ (RR.out w3 R3.out);clear r3 I47;go_wp2_with fail;refine(K.out.name _ _ R4.out.1 Mj.out).mono ?_;rintro e w5 ⟨rfl,r5⟩;have R5:=a_ (R4.out.on r5);clear r5;go_wp2_with fail;refine(K.out.eY _ _ R5.out.1 (rQ Mj.out)).mono ?_;rintro e w6 ⟨rfl,r6⟩;have R6:=a_ (R5.out.on r6);clear r6;go_wp2_with fail;refine(K.out.must _ _ R6.out.1 (oL (rQ Mj.out)) ⟨#[62]⟩ (by decide) (by decide)).mono ?_;rintro e w7 ⟨rfl,r7⟩;have R7:=a_ (R6.out.on r7);clear r7;have hsm:gH x (Sc.eW s [62] ((x2.name s).1.eY s)):=((Ng.out.trans (l6 _ s)).trans (np _ s)).trans (gQ s _ _);have htl:=uI H.out R7.out hsm ⟨2,(x2.name s).2.data.toList,[],[],x.i⟩ (.slice none 0 0) (bG _ _ _ _) (by intro k e;simp[Value.ownBlock]at e) (by show (Sc.eW s [62] ((x2.name s).1.eY s)).l.length<=_;rw[hsm.1];omega);simp only[sX]at htl;go_wp2_with fail;refine htl.mono ?_;rintro e w8 ⟨rfl,r8⟩;go_wp2;refine aV (aK rfl _ _ _) rfl ?_;exact⟨rfl,r8⟩
  ·have yY:J<s.size:=by have:=is_lt q63;omega
   rw[q63]at i63;have Xf:=a_ i63;clear i63 q63 i47;simp only[if_true];obtain⟨J2,hJ2⟩:∃J2,J2=J+1:=⟨_,rfl⟩
   have Sd:IntKind.i64.wrap ((J:Int)+1)=(J:Int)+1:=by rw[aD];omega
   have e2:({x1 with i:=x1.i+1}:Sc)={x1 with i:=J2}:=by rw[Wn,hJ2]
   rw[e2];have hx2:gH x {x1 with i:=J2}:=HS.out.trans (nQ x1 J2);have hf2:Fits s {x1 with i:=J2}:=fun _=>by show J2<=_;omega
   have Yz:=fun w1 (r:SE X w s lv x1 w1)=>Ap r J J2 hJ2;clear e2;generalize ({x1 with i:=J2}:Sc)=x2 at*
   have Ng:=a_ hx2;have Mj:=a_ hf2;have RR:=a_ Yz;have HJ:=a_ hJ;have HJ2:=a_ hJ2;clear hx2 hf2 Yz hJ hJ2;unfold Sc.order;go_enter func40,ntmps40;go_wp2_with fail;refine(OG.out _ R0.out.1).mono ?_;rintro e w1 ⟨rfl,r1⟩;have R1:=a_ (R0.out.on r1);clear r1 OG;go_wp2_with fail;refine(Xf.out _ R1.out.1).mono ?_;rintro e w2 ⟨rfl,r2⟩;have R2:=a_ (R1.out.on r2);have c21:w2.cell? ⟨X,1,none⟩=some (.int .i64 (J:Int)):=by have:=R2.out.1.cell (i:=1) (v:=.int .i64 (x1.i:Int)) rfl;rw[Wn]at this;exact this
   have f21:=R2.out.1.free 1;have R3:=a_ (RR.out w2 R2.out);clear r2 Xf;go_wp2_with fail;refine(K.out.name _ _ R3.out.1 Mj.out).mono ?_;rintro e w4 ⟨rfl,r4⟩;have R4:=a_ (R3.out.on r4);clear r4;go_wp2_with fail;refine(K.out.Et _ _ R4.out.1 (rQ Mj.out) ⟨#[63,62]⟩ (by decide)).mono ?_;rintro e w5 ⟨rfl,r5⟩;have R5:=a_ (R4.out.on r5);clear r5;go_wp2;refine aV (aK rfl _ _ _) rfl ?_;exact⟨rfl,H.out.F4 R5.out ((Ng.out.trans (l6 _ s)).trans (lj _ s _)).1⟩
 ·have yY:J<s.size:=by have:=is_lt q33;omega
  rw[q33]at i33;have OG:=a_ i33;clear i33 q33 i63 i47;simp only[if_true];obtain⟨J2,hJ2⟩:∃J2,J2=J+1:=⟨_,rfl⟩
  have Sd:IntKind.i64.wrap ((J:Int)+1)=(J:Int)+1:=by rw[aD];omega
  have e2:({x1 with i:=x1.i+1}:Sc)={x1 with i:=J2}:=by rw[Wn,hJ2]
  rw[e2];have hx2:gH x {x1 with i:=J2}:=HS.out.trans (nQ x1 J2);have hf2:Fits s {x1 with i:=J2}:=fun _=>by show J2<=_;omega
  have Yz:=fun w1 (r:SE X w s lv x1 w1)=>Ap r J J2 hJ2;have adK:({x1 with i:=J2}:Sc).i=J2:=rfl;clear e2;generalize ({x1 with i:=J2}:Sc)=x2 at*
  have Ng:=a_ hx2;have Mj:=a_ hf2;have RR:=a_ Yz;have HJ:=a_ hJ;have HJ2:=a_ hJ2;clear hx2 hf2 Yz hJ hJ2;have i91:=fun W (b:kQ X W s lv x2)=>K.out.is_ W x2 b 91 (by decide);unfold Sc.oT;cases q91:x2.is s 91
  ·rw[q91]at i91;have I91:=a_ i91;clear i91 q91;simp only[aA,bf];go_enter func40,ntmps40;go_wp2_with fail;refine(OG.out _ R0.out.1).mono ?_;rintro e w1 ⟨rfl,r1⟩;have R1:=a_ (R0.out.on r1);have c11:w1.cell? ⟨X,1,none⟩=some (.int .i64 (J:Int)):=by have:=R1.out.1.cell (i:=1) (v:=.int .i64 (x1.i:Int)) rfl;rw[Wn]at this;exact this
   have f11:=R1.out.1.free 1;have R2:=a_ (RR.out w1 R1.out);clear r1 OG;go_wp2_with fail;refine(I91.out _ R2.out.1).mono ?_;rintro e w3 ⟨rfl,r3⟩;have R3:=a_ (R2.out.on r3);clear r3 I91;go_wp2_with fail;refine(K.out.must _ _ R3.out.1 Mj.out ⟨#[45,45]⟩ (by decide) (by decide)).mono ?_;rintro e w4 ⟨rfl,r4⟩;have R4:=a_ (R3.out.on r4);clear r4;go_wp2_with fail;refine(K.out.Et _ _ R4.out.1 (sW s _ _ Mj.out) ⟨#[45,45]⟩ (by decide)).mono ?_;rintro e w5 ⟨rfl,r5⟩;have R5:=a_ (R4.out.on r5);clear r5;go_wp2_with fail;refine(K.out.must _ _ R5.out.1 (Mh _ (by decide) (sW s _ _ Mj.out)) ⟨#[62]⟩ (by decide) (by decide)).mono ?_;rintro e w6 ⟨rfl,r6⟩;have R6:=a_ (R5.out.on r6);clear r6;go_wp2;refine aV (aK rfl _ _ _) rfl ?_;exact⟨rfl,H.out.F4 (x':=x2.remark s) R6.out (((Ng.out.trans (gQ s _ _)).trans (lj _ s _)).trans (gQ s _ _)).1⟩
  ·rw[q91]at i91;have I91:=a_ i91;clear i91 q91;simp only[if_true];unfold Sc.qK;have hYs:gH x (Sc.eW s [91,67,68,65,84,65,91] x2):=Ng.out.trans (gQ s _ _);have hYf:Fits s (Sc.eW s [91,67,68,65,84,65,91] x2):=sW s _ _ Mj.out;have N7:=fun W (b:kQ X W s lv x2)=>K.out.must W x2 b Mj.out ⟨#[91,67,68,65,84,65,91]⟩ (by decide) (by decide);have hd:NG ⟨#[91,67,68,65,84,65,91]⟩ 0=[91,67,68,65,84,65,91]:=rfl;rw[hd]at N7;generalize Sc.eW s [91,67,68,65,84,65,91] x2=Y at*
   have ZT:=fun W (b:kQ X W s lv Y)=>K.out.Et W Y b hYf ⟨#[93,93,62]⟩ (by decide);have hUs:gH x (Y.until s ⟨#[93,93,62]⟩).1:=hYs.trans (lj Y s _);have hUb:(Y.until s ⟨#[93,93,62]⟩).2.size<=s.size:=Ku Y s _;have Cm:(Y.until s ⟨#[93,93,62]⟩).1.more.length+(Y.until s ⟨#[93,93,62]⟩).2.size<=1125899906842624:=by rw[hUs.2.1];omega
   generalize Y.until s ⟨#[93,93,62]⟩=U at*
   generalize hG:(if U.1.err=0/\U.2.data.toList≠[]then U.1.ic U.2 Y.i else U.1)=G at*
   have HG:=a_ hG;have HMU:=a_ N7;have HUN:=a_ ZT;have HYS:=a_ hYs;have HUS:=a_ hUs;clear N7 ZT hYs hUs hYf hd hG;go_enter func40,ntmps40;go_wp2_with fail;refine(OG.out _ R0.out.1).mono ?_;rintro e w1 ⟨rfl,r1⟩;have R1:=a_ (R0.out.on r1);have c11:w1.cell? ⟨X,1,none⟩=some (.int .i64 (J:Int)):=by have:=R1.out.1.cell (i:=1) (v:=.int .i64 (x1.i:Int)) rfl;rw[Wn]at this;exact this
   have f11:=R1.out.1.free 1;have R2:=a_ (RR.out w1 R1.out);clear r1 OG;go_wp2_with fail;refine(I91.out _ R2.out.1).mono ?_;rintro e w3 ⟨rfl,r3⟩;have R3:=a_ (R2.out.on r3);clear r3 I91;go_wp2_with fail;refine(HMU.out _ R3.out.1).mono ?_;rintro e w4 ⟨rfl,r4⟩;have R4:=a_ (R3.out.on r4);have c41:w4.cell? ⟨X,1,none⟩=some (.int .i64 (Y.i:Int)):=R4.out.1.cell 1 rfl;clear r4;go_wp2_with fail;refine(HUN.out _ R4.out.1).mono ?_;rintro e w5 ⟨rfl,r5⟩;have R5:=a_ (R4.out.on r5);have c55:w5.cell? ⟨X,5,none⟩=some (.int .i64 U.1.err):=R5.out.1.cell 5 rfl;clear r5;by_cases hue:U.1.err=0
   ·have e0:(U.1.err==0)=true:=by simpa using hue
    have htl:U.2.toList=U.2.data.toList:=Lib.toList_data _;cases hb:U.2.toList.isEmpty
    ·have hne:U.2.data.toList≠[]:=by
      intro e;rw[htl,e]at hb;cases hb
     have Ts:=HG.out;rw[if_pos ⟨hue,hne⟩]at Ts;have NL:=a_ Ts;clear Ts;have Tt:=K.out.ic w5 U.1 R5.out.1 U.2 Y.i Cm;clear hue hne htl;go_wp2_with fail;refine Tt.mono ?_;rintro e w6 ⟨rfl,r6⟩;have R6:=a_ (R5.out.on r6);clear r6 Tt;go_wp2;refine aV (aK rfl _ _ _) rfl ?_;exact⟨rfl,by rw[<-NL.out];exact H.out.F4 R6.out HUS.out.1⟩
    ·have hne:¬(U.1.err=0/\U.2.data.toList≠[]):=by
      rintro⟨_,e⟩;apply e;rw[<-htl];simpa using hb
     have Ts:=HG.out;rw[if_neg hne]at Ts;have NL:=a_ Ts;clear hue hne htl Ts;go_wp2;refine aV (aK rfl _ _ _) rfl ?_;exact⟨rfl,by rw[<-NL.out];exact H.out.F4 R5.out HUS.out.1⟩
   ·have e0:(U.1.err==0)=false:=by simpa using hue
    have Ts:=HG.out;rw[if_neg (fun e=>hue e.1)]at Ts;have NL:=a_ Ts;clear hue Ts;go_wp2;refine aV (aK rfl _ _ _) rfl ?_;exact⟨rfl,by rw[<-NL.out];exact H.out.F4 R5.out HUS.out.1⟩
end
section
variable{X:Nat}{w w' w'' wr:World}{s t:ByteArray}{lv:Value}{x x':Sc}{F:Nat->Prop}{cs:List Value}
theorem Ml(x:Sc):Rel x ⟨fun j=>if j=.text then x.more else [],fun _=>x.fV,0,[],[],0,x.l⟩:=⟨⟨rfl,rfl,fun _=>rfl⟩,rfl,rfl,rfl⟩
structure RI2(X:Nat)(w:World)(s:ByteArray)(y:Sc)(wr:World)(x:Sc)(f:Nat):Prop where
 rs:tZ (fun k=>k=X) X w s x wr
 eq:jk s f x=y
 ok:x.err=0->x.i<=s.size/\s.size<x.i+f/\x.more.length<=x.i/\x.l.length<=3*x.i
theorem Tv(he:x.err=0)(hi:x.i<s.size):(x.piece s).err=0->x.i<(x.piece s).i/\(x.piece s).i<=s.size/\(x.piece s).more.length+x.i<=x.more.length+(x.piece s).i/\(x.piece s).l.length<=x.l.length+3:=by
 rcases oH (g:=fun _=>[]) he hi (Ml x)with⟨_,h2,h3,h4,_⟩|⟨h1,_⟩
 ·exact fun _=>⟨h2,h3,h4.2.1,h4.2.2⟩
 ·exact fun e=>absurd e h1
theorem tZ.sat(h:tZ F X w s x w'):∃lv,kQ X w' s lv x:=by obtain⟨lv,cs,r,_⟩:=h;exact⟨lv,r.sat⟩
theorem OH(h:tZ F X w s x wr)(hs:s.size<=274877906944)(he:x.err=0)(hi:x.i<s.size)(hm:x.more.length<=x.i)(hl:x.l.length<=3*x.i):Z4 40 #[Z8 X] wr fun en w'=>en=.returned (.tuple #[])/\tZ F X w s (x.ly s) w':=by
 obtain⟨lv,cs,r,f⟩:=h;refine(OE r (by omega) he hi (by omega) (by omega)).mono ?_;rintro en w' ⟨rfl,r2⟩;exact⟨rfl,tZ.on ⟨lv,cs,r,f⟩ fun _ _ _=>r2⟩
theorem Xg(h:tZ F X w s x wr)(hs:s.size<=274877906944):Z4 41 #[Z8 X,.int .u8 60] wr fun en w'=>en=.returned (.string (x.char s 60).2)/\tZ F X w s (x.char s 60).1 w':=by
 obtain⟨lv,cs,r,f⟩:=h;refine(L3 r.sat (by omega) 60).mono ?_;rintro en w' ⟨rfl,r2⟩;exact⟨rfl,tZ.on ⟨lv,cs,r,f⟩ fun _ _ _=>r.F4 r2 (xb x s 60).1⟩
theorem OJ(h:tZ F X w s x wr)(t:ByteArray)(a:Int)(hz:x.more.length+t.size<=1125899906842624):Z4 42 #[Z8 X,.string t,.int .i64 a] wr fun en w'=>en=.returned (.tuple #[])/\tZ F X w s (x.ic t a) w':=by
 obtain⟨lv,cs,r,f⟩:=h;refine(B6 r.sat t a hz).mono ?_;rintro en w' ⟨rfl,r2⟩;exact⟨rfl,tZ.on ⟨lv,cs,r,f⟩ fun _ _ _=>r.F4 r2 rfl⟩
theorem RI2.next{y:Sc}{f:Nat}(h:RI2 X w s y wr x (f+1))(he:x.err=0)(hi:x.i<s.size)(r:tZ (fun k=>k=X) X w s (x.piece s) w'):RI2 X w s y w' (x.piece s) f/\left X s.size w'<left X s.size wr:=by
 have hp:=Tv he hi;obtain⟨o1,o2,o3,o4⟩:=h.ok he;have heq:=h.eq;simp only[jk]at heq;rw[if_pos ⟨hi,he⟩]at heq;refine⟨⟨r,heq,fun e=>?_⟩,?_⟩
 ·obtain⟨p1,p2,p3,p4⟩:=hp e;omega
 ·obtain⟨lv1,s1⟩:=r.sat;obtain⟨Ym,s2⟩:=h.rs.sat;rw[left_eq s1 s.size,left_eq s2 s.size,if_pos he];split
  ·rename_i e;have:=hp e;omega
  ·omega
theorem Tw(s:ByteArray)(w:World)(hs:s.size<=274877906944):Z4 18 #[.string s] w fun en w'=>en=.returned (.pointer (some ⟨w.heap.size,0,none⟩))/\∃F lv cs,RS F w.heap.size w' s lv cs (eQ s)/\Z5 w w'/\∀k,F k->w.heap.size<=k:=by
 have hb0:(w.alloc (.cells #[.string s,.int .i64 0,.slice none 0 0,.string ⟨#[]⟩,.int .i64 0,.int .i64 0,.int .i64 0] 69)).heap[w.heap.size]?=some (.cells #[.string s,.int .i64 0,.slice none 0 0,.string ⟨#[]⟩,.int .i64 0,.int .i64 0,.int .i64 0] 69):=eL _ _;have abD:kQ w.heap.size (w.alloc (.cells #[.string s,.int .i64 0,.slice none 0 0,.string ⟨#[]⟩,.int .i64 0,.int .i64 0,.int .i64 0] 69)) s (.slice none 0 0) Sc.zero:=hb0;have h0:RI2 w.heap.size (w.alloc (.cells #[.string s,.int .i64 0,.slice none 0 0,.string ⟨#[]⟩,.int .i64 0,.int .i64 0,.int .i64 0] 69)) s (eQ s) (w.alloc (.cells #[.string s,.int .i64 0,.slice none 0 0,.string ⟨#[]⟩,.int .i64 0,.int .i64 0,.int .i64 0] 69)) Sc.zero (s.size+1):=
  ⟨(RS.first abD rfl).below (Below.refl _ _),rfl,fun _=>⟨ax _,by show s.size<0+_;omega,ax _,ax _⟩⟩
 have kI:∀wr x f,RI2 w.heap.size (w.alloc (.cells #[.string s,.int .i64 0,.slice none 0 0,.string ⟨#[]⟩,.int .i64 0,.int .i64 0,.int .i64 0] 69)) s (eQ s) wr x f->x=eQ s->∃F lv cs,RS F w.heap.size wr s lv cs (eQ s)/\Z5 w wr/\∀k,F k->w.heap.size<=k:=by
  rintro wr x f ⟨⟨lv,cs,r,fr⟩,_,_⟩ rfl;refine⟨_,lv,cs,r,((Below.refl _ w).alloc (ah _) _).trans ⟨fr.os,fr.tape,fr.output,fr.size,fun k hk=>fr.block k (by simp;omega) (by omega)⟩,?_⟩;rintro k (e|e)
  ·omega
  ·have:=e.1;simp at this;omega
 have H0:=a_ h0;have HF:=a_ kI;clear h0 kI abD hb0;go_enter func18,ntmps18;go_wp2_with fail;generalize hw1:w.alloc (.cells #[.string s,.int .i64 0,.slice none 0 0,.string ⟨#[]⟩,.int .i64 0,.int .i64 0,.int .i64 0] 69)=w1 at*
 clear hw1;go_loopw [4,5] (fun _ _ wr=>∃x' f,RI2 w.heap.size w1 s (eQ s) wr x' f) (fun _ _ wr=>left w.heap.size s.size wr)
 case atStart=>exact⟨_,_,H0.out⟩
 case round=>
  obtain⟨x',f,u⟩:=hrel;obtain⟨lv',aao⟩:=u.rs.sat;have c1:wr.cell? ⟨w.heap.size,1,none⟩=some (.int .i64 x'.i):=aao.cell 1 rfl;have c5:wr.cell? ⟨w.heap.size,5,none⟩=some (.int .i64 x'.err):=aao.cell 5 rfl;clear aao;by_cases he:x'.err=0
  ·have e0:(x'.err==0)=true:=by simpa using he
   by_cases hi:x'.i<s.size
   ·have hd:decide ((x'.i:Int)<(s.size:Int))=true:=by simp;omega
    obtain⟨o1,o2,o3,o4⟩:=u.ok he;obtain⟨f,rfl⟩:∃g,f=g+1:=⟨f-1,by omega⟩
    have NH:s[x'.i]=s.get! x'.i:=(Utf8W.get!_of_lt s x'.i hi).symm;have tM:=fun w' (r:tZ (fun k=>k=w.heap.size) w.heap.size w1 s (x'.piece s) w')=>u.next he hi r;have Yy:=fun W (r:tZ (fun k=>k=w.heap.size) w.heap.size w1 s x' W)=>OH r hs he hi o3 o4;have hch:=fun W (r:tZ (fun k=>k=w.heap.size) w.heap.size w1 s x' W)=>Xg r hs;have U:=a_ u.rs;have HN:=a_ tM;have HM:=a_ Yy;have HC:=a_ hch;have hcg:=B7 x' s 60 he o1;clear u tM Yy hch;unfold Sc.piece at HN;by_cases sL:(s.get! x'.i).toNat=60
    ·have hq:(((s.get! x'.i).toNat:Int)==60)=true:=by simp;omega
     rw[if_pos sL]at HN;clear he sL hcg;go_wp2_with fail;refine(HM.out _ U.out).mono ?_;rintro e w2 ⟨rfl,r2⟩;have R2:=a_ (HN.out w2 r2);clear r2;go_wp2;exact⟨⟨_,_,R2.out.1⟩,R2.out.2⟩
    ·have hq:(((s.get! x'.i).toNat:Int)==60)=false:=by simp;omega
     rw[if_neg sL]at HN;by_cases hce:(x'.char s 60).1.err=0
     ·have e1:((x'.char s 60).1.err==0)=true:=by simpa using hce
      rw[if_pos hce]at HN;obtain⟨g1,g2,g3⟩:=hcg.1 hce;have Tt:=fun W (r:tZ (fun k=>k=w.heap.size) w.heap.size w1 s (x'.char s 60).1 W)=>OJ r (x'.char s 60).2 x'.i (by rw[(xb x' s 60).2.1];omega);have HT:=a_ Tt;clear he sL hcg hce Tt;go_wp2_with fail;refine(HC.out _ U.out).mono ?_;rintro e w2 ⟨rfl,r2⟩;obtain⟨Ym,Tx⟩:=r2.sat;have c25:w2.cell? ⟨w.heap.size,5,none⟩=some (.int .i64 (x'.char s 60).1.err):=Tx.cell 5 rfl;have R2:=a_ r2;clear r2 Tx;go_wp2_with fail;refine(HT.out _ R2.out).mono ?_;rintro e w3 ⟨rfl,r3⟩;have R3:=a_ (HN.out w3 r3);clear r3;go_wp2;exact⟨⟨_,_,R3.out.1⟩,R3.out.2⟩
     ·have e1:((x'.char s 60).1.err==0)=false:=by simpa using hce
      rw[if_neg hce]at HN;clear he sL hcg hce;go_wp2_with fail;refine(HC.out _ U.out).mono ?_;rintro e w2 ⟨rfl,r2⟩;obtain⟨Ym,Tx⟩:=r2.sat;have c25:w2.cell? ⟨w.heap.size,5,none⟩=some (.int .i64 (x'.char s 60).1.err):=Tx.cell 5 rfl;have R2:=a_ (HN.out w2 r2);clear r2 Tx;go_wp2;exact⟨⟨_,_,R2.out.1⟩,R2.out.2⟩
   ·have hd:decide ((x'.i:Int)<(s.size:Int))=false:=by simp;omega
    have hx:x'=eQ s:=by
     rw[<-u.eq];cases f with
     |zero=>rfl
     |succ f=>simp only[jk];rw[if_neg (fun e=>hi e.1)]
    have R:=a_ (HF.out wr x' f u hx);clear u he hx;go_wp2;go_ret;exact⟨rfl,R.out⟩
  ·have e0:(x'.err==0)=false:=by simpa using he
   have hx:x'=eQ s:=by rw[<-u.eq,sR he]
   have R:=a_ (HF.out wr x' f u hx);clear u he hx;by_cases hi:x'.i<s.size
   ·have hd:decide ((x'.i:Int)<(s.size:Int))=true:=by simp;omega
    go_wp2;go_ret;exact⟨rfl,R.out⟩
   ·have hd:decide ((x'.i:Int)<(s.size:Int))=false:=by simp;omega
    go_wp2;go_ret;exact⟨rfl,R.out⟩
end
section
variable{X:Nat}{w w' w'' wr:World}{s t:ByteArray}{lv:Value}{x x':Sc}{F:Nat->Prop}{cs:List Value}
def Ty(w:World)(v:Value)(l:List Tok):Prop:=∃F X cs,w.ownsRow 0 75 5 v l.length cs/\oX F X w l cs
theorem OL(b:Option Addr)(n c:Nat)(h:n<=c)(w:World):(Builtin.append_ #[66,66] 66 #[.slice b n c,.slice none 0 0]).run prog w=.ok (.slice b n c) w:=by cases b<;>simp[Builtin.append_,underlying,underlying66,sizeOf75,Builtin.lenOf,Builtin.firstCells,h,storeCells,Result.andThen]
theorem Tz(h:kQ X w s lv x):Z4 19 #[Z8 X] w fun en w'=>∃v,en=.returned v/\Z5 w w'/\((x.last=[]/\v=.slice none 0 0)\/(x.last=[gU x]/\v=.slice (some ⟨w.heap.size,0,none⟩) 1 1/\w'.heap[w.heap.size]?=some (.cells (fq (gU x) (.slice none 0 0)).toArray 75))):=by
 have c3:w.cell? ⟨X,3,none⟩=some (.string ⟨x.more.toArray⟩):=h.cell 3 rfl;have c4:w.cell? ⟨X,4,none⟩=some (.int .i64 x.fV):=h.cell 4 rfl;have c5:w.cell? ⟨X,5,none⟩=some (.int .i64 x.err):=h.cell 5 rfl;unfold Sc.last;clear h;by_cases he:x.err=0
 ·have e0:(x.err !=0)=false:=by simpa using he
  by_cases hm:x.more=[]
  ·rw[if_pos (Or.inr hm)];have em:x.more.isEmpty=true:=by rw[hm];rfl
   clear he hm;go_enter func19,ntmps19;go_wp2;go_ret;exact⟨_,rfl,Below.refl _ _,Or.inl ⟨trivial,rfl⟩⟩
  ·rw[if_neg (by rintro(h|h);exact h he;exact hm h)];have em:x.more.isEmpty=false:=by simpa using hm
   clear he hm;go_enter func19,ntmps19;go_wp2_with fail;have d3:(w.alloc (.cells #[.int .i64 3,.string ⟨#[]⟩,.slice none 0 0,.string ⟨x.more.toArray⟩,.int .i64 x.fV] 75)).cell? ⟨X,3,none⟩=some (.string ⟨x.more.toArray⟩):=eF _ c3;have d4:(w.alloc (.cells #[.int .i64 3,.string ⟨#[]⟩,.slice none 0 0,.string ⟨x.more.toArray⟩,.int .i64 x.fV] 75)).cell? ⟨X,4,none⟩=some (.int .i64 x.fV):=eF _ c4;go_region_held3 (fun W=>W.cell? ⟨X,3,none⟩=some (.string ⟨x.more.toArray⟩)/\W.cell? ⟨X,4,none⟩=some (.int .i64 x.fV))
    (first|exact⟨c3,c4⟩|exact⟨d3,d4⟩)
    (fail)
   all_goals
    go_wp2;go_ret;exact⟨_,rfl,((Below.refl _ _).alloc (ah _) _).drew,Or.inr ⟨trivial,rfl,eL _ _⟩⟩
 ·have e0:(x.err !=0)=true:=by simpa using he
  rw[if_pos (Or.inl he)];clear he;go_enter func19,ntmps19;go_wp2;go_ret;exact⟨_,rfl,Below.refl _ _,Or.inl ⟨trivial,rfl⟩⟩
theorem TC(h:RS F X w s lv cs x){w1:World}(b:Z5 w w1)(v:Value)(hv:(x.last=[]/\v=.slice none 0 0)\/(x.last=[gU x]/\v=.slice (some ⟨w.heap.size,0,none⟩) 1 1/\w1.heap[w.heap.size]?=some (.cells (fq (gU x) (.slice none 0 0)).toArray 75)))(hn:x.l.length<=1099511627776):
  ∃v' w2,(Builtin.append_ #[66,66] 66 #[lv,v]).run prog w1=.ok v' w2/\Ty w2 v' (x.l++x.last)/\w1.grownBy w2 lv.ownBlock:=by
 have Xh:w1.ownsRow 0 75 5 lv x.l.length cs:=eI h.row fun k e=>b.block k (h.lt k (h.own k e).1);have YA:oX F X w1 x.l cs:=h.DY.frame fun k _ _ _ _ _ a _=>⟨b.block k (h.lt k a),a⟩
 rcases hv with⟨e1,rfl⟩|⟨e1,rfl,hb⟩
 ·obtain⟨ai,ac,rfl,hle⟩:∃ai ac,lv=.slice ai x.l.length ac/\x.l.length<=ac:=by
   rcases Xh.2 with⟨rfl,hn⟩|⟨g,cap,cur,rfl,EV,hg,hc,hm,hcs,sq⟩
   ·exact⟨none,0,by rw[hn],by omega⟩
   ·exact⟨_,_,rfl,hc⟩
  refine⟨_,w1,OL ai _ ac hle w1,⟨F,X,cs,?_,?_⟩,⟨rfl,rfl,rfl,ah _,fun _ _ _=>rfl⟩⟩
  ·rw[e1,aO];exact Xh
  ·rw[e1,aO];exact YA
 ·obtain⟨i0,hi,hz0,hz1,hz2⟩:=bk JJ;have hcell:∀j u,(fq (gU x) (.slice none 0 0))[j]?=some u->w1.cell? ((⟨w.heap.size,0,none⟩:Addr).add j)=some u:=by
   intro j u hj;rw[Addr.add_mid,ay];refine cell_of hb ?_;simpa using hj
  obtain⟨v',w2,hr,ho,hgr,_,hat⟩:=dm (P:=prog) w1 0 66 66 75 i0 _ 5 72 underlying66 hi hz0 hz1 hz2 rfl (by decide) lv x.l.length cs Xh ⟨w.heap.size,0,none⟩ 1 1 (fq (gU x) (.slice none 0 0)) rfl hcell (qf _ _ rfl) (by unfold maxLen;omega) (by omega) (ax _);refine⟨v',w2,hr,⟨F,X,cs++fq (gU x) (.slice none 0 0),?_,?_⟩,hgr⟩
  ·rw[e1];simp only[ae,ag,aq,ay];exact ho
  ·rw[e1];refine(YA.frame fun k n xs u hu e a c=>⟨?_,a⟩).app ⟨.slice none 0 0,[],by simp,bG _ _ _ _,by intro k e;simp[Value.ownBlock]at e,rfl⟩;exact hgr.block k (eU hu e) (fun e2=>lu hu Xh (by decide) e e2.symm)
theorem Eu{ops:Array Oper}{rest:List Oper}{o:Oper}{a:Act}{w:World}{Q:Exit->Act->World->Prop}(hgd:o.guard=none)(s x:Operand)(ho:o.op=Op.call {callee:=Callee.builtin Builtin.append,args:=#[s,x],argTypes:=#[66,66]})(hty:o.type=66)
  (v1 v2:Value) (hs:a.eval s=v1) (hx:a.eval x=v2) {v':Value} {w':World} (hr:(Builtin.append_ #[66,66] 66 #[v1,v2]).run prog w=.ok v' w') (h:wpList prog ops Q rest (a.put o.dst v') w'):wpList prog ops Q (o::rest) a w:=by
 refine wpList_plain hgd fun K hK=>?_;unfold Oper.wp execOp;simp only[ho,hty,resolve,invoke,builtin,dW,Sem.run_pure,dL,dT,bB,bZ,hs,hx,hr];exact hK _ _ h
theorem TD(s:ByteArray):(eQ s).l.length<=3*s.size+3:=by
 have key:∀(f:Nat) (x:Sc),x.err=0->x.i<=s.size->x.l.length<=3*x.i->(jk s f x).l.length<=3*s.size+3:=by
  intro f;induction f with
  |zero=>intro x he hi hl;show x.l.length<=_;omega
  |succ f ih=>
   intro x he hi hl;simp only[jk];split
   ·rename_i hc;rcases oH (g:=fun _=>[]) he hc.1 (Ml x)with⟨h1,h2,h3,h4,_⟩|⟨h1,h2,_⟩
    ·exact ih _ h1 h3 (by have:=h4.2.2;omega)
    ·rw[sR h1,h2];omega
   ·omega
 exact key _ Sc.zero rfl (ax _) (ax _)
end
end K
end Go.Proofs.YtjecakcpcnmieaaGreatDoor
namespace Go.Proofs.YtjecakcpcnmieaaGreatDoor
namespace K
open Go.RowKit Go.Lib Tryz
section
variable{s:ByteArray}{p:Nat}{c:Int}{x y z:Sc}{q:Bool}
theorem Mm(h:0<=cur s p):Ch.may (cur s p)=true:=by
 have hc:=fl h;have h1:Ch.gY s p=true:=hc.2.1;rw[hc.2.2.1];simp only[Ch.gY,aY]at h1;exact h1.1
theorem gy.nil:gy []:=⟨[],fun c hc=>by simp at hc,rfl⟩
theorem gy.one(h:Ch.may c=true):gy (Lib.encodeRune c):=⟨[c],fun d hd=>by simp at hd;rw[hd];exact h,by simp[aan]⟩
theorem gy.add{a b:List UInt8}(h:gy a)(k:gy b):gy (a++b):=by
 obtain⟨cs,h1,h2⟩:=h;obtain⟨ds,k1,k2⟩:=k;refine⟨cs++ds,fun c hc=>?_,by rw[h2,k2];simp[aan]⟩;rcases List.mem_append.1 hc with e|e
 ·exact h1 c e
 ·exact k1 c e
theorem CD(he:x.err=0)(j6:Nat)(hb:32<=j6/\j6<128)(h:(x.char s j6).1.err=0):gy (x.char s j6).2.data.toList:=by
 rw[rJ he j6 hb]at h ⊢;split
 ·rename_i h1;rw[if_pos h1]at h;exact absurd h (fx x s he)
 ·rename_i h1;rw[if_neg h1]at h;split
  ·rename_i h2;rw[if_pos h2]at h;split
   ·rename_i h3;rw[if_pos h3]at h;exact absurd h (lW x 4 x.i he (by decide))
   ·rename_i h3;have:=Ch.iV h3;exact gy.one this.1
  ·have h0:0<=cur s x.i:=by omega
   rw[im,show x.i+wid s x.i-x.i=wid s x.i by omega,<-mU h0];exact gy.one (Mm h0)
theorem OM(Q:Nat)(hQ:32<=Q/\Q<128):∀(f:Nat) (x:Sc) (t:List UInt8),gy t->(jb s Q f x t).1.err=0->gy (jb s Q f x t).2:=by
 intro f;induction f with
 |zero=>intro x t ht _;exact ht
 |succ f ih=>
  intro x t ht h;simp only[jb]at h ⊢;split
  ·rename_i h1;rw[if_pos h1]at h;by_cases hc:(x.char s Q).1.err=0
   ·exact ih _ _ (ht.add (CD h1.1 Q hQ hc)) h
   ·have hv:∀f t,jb s Q f (x.char s Q).1 t=((x.char s Q).1,t):=by
     intro f t;cases f with
     |zero=>rfl
     |succ f=>simp only[jb];rw[if_neg (fun e=>hc e.1)]
    rw[hv]at h;exact absurd h hc
  ·exact ht
theorem Kv(he:x.err=0)(h:(x.value s).1.err=0):gy (x.value s).2:=by
 rw[o6 he]at h ⊢;split
 ·rename_i h1;rw[if_pos h1]at h;exact OM _ (by rcases h1 with e|e<;>rw[e]<;>decide) _ _ _ gy.nil h
 ·exact gy.nil
theorem Hd(t:ByteArray)(hz:t.size≠0)(fV:Nat):∀(f:Nat) (x:Sc),x.err=0->fV<=x.i->gy (Ch.bytes s fV (x.i-fV))->gy (gw s t fV f x).2.data.toList:=by
 intro f;induction f with
 |zero=>intro x _ _ _;exact gy.nil
 |succ f ih=>
  intro x he hf ht;rw[my _ _ _ _ _ he hz];split
  ·rw[im];exact ht
  ·split
   ·rename_i h0;refine ih _ he (by show fV<=x.i+wid s x.i;omega) ?_;have hb:=pP s fV (x.i-fV) (wid s x.i);rw[show fV+(x.i-fV)=x.i by omega]at hb;show gy (Ch.bytes s fV (x.i+wid s x.i-fV));rw[show x.i+wid s x.i-fV=x.i-fV+wid s x.i by omega,<-hb,<-mU h0];exact ht.add (gy.one (Mm h0))
   ·rw[iQ _ _ _ _ _ (fx x s he)];exact gy.nil
theorem Ev(he:x.err≠0)(l:List UInt8):(Sc.eW s l x).err≠0:=by
 cases l with
 |nil=>exact he
 |cons u l=>simp only[Sc.eW];rw[if_neg he];exact he
theorem Ew(h:(x.name s).1.err=0):nD (x.name s).2.data.toList:=by
 by_cases he:x.err=0
 ·by_cases hb:Ch.fw (cur s x.i)=true
  ·rw[(lY he hb).2];exact⟨s,x.i,hb,rfl⟩
  ·rw[o0 he hb]at h;exact absurd h (fx x s he)
 ·unfold Sc.name at h;rw[if_neg he]at h;exact absurd h he
theorem Xi{l:jY}(h:(x.attr s l).1.err=0):nD (x.attr s l).2.1/\gy (x.attr s l).2.2/\l.any (fun b=>b.1==(x.attr s l).2.1)=false:=by
 unfold Sc.attr at h ⊢;split
 ·rename_i h1;rw[if_pos h1]at h;have h2:(x.gW s l).err=0:=by
   refine aU fun e=>?_;have:(Sc.eW s [61] ((x.gW s l).eY s)).err≠0:=Ev (show ((x.gW s l).eY s).err≠0 from e) _;exact this h1
  have h3:l.any (fun a=>a.1==(x.name s).2.data.toList)=false/\(x.name s).1.err=0:=by
   unfold Sc.gW at h2;split at h2
   ·by_cases hn:(x.name s).1.err=0
    ·exact absurd h2 (lW _ 5 x.i hn (by decide))
    ·unfold Sc.fail at h2;rw[if_neg hn]at h2;exact absurd h2 hn
   ·rename_i h4;exact⟨Bool.eq_false_iff.2 h4,h2⟩
  exact⟨Ew h3.2,Kv h1 h,h3.1⟩
 ·rename_i h1;rw[if_neg h1]at h;exact absurd h h1
theorem He:∀(a b l:jY),yo l (a++b)↔yo l a/\yo (l++a) b:=by
 intro a;induction a with
 |nil=>intro b l;simp[yo]
 |cons u a ih=>
  intro b l;simp only[aI,yo,ih,and_assoc,aM,List.singleton_append];simp
theorem OO:∀(f:Nat) (x:Sc) (l:jY),(∀a∈l,nD a.1/\gy a.2)->yo [] l->(fe s f x l).1.err=0->(∀a∈(fe s f x l).2,nD a.1/\gy a.2)/\yo [] (fe s f x l).2:=by
 intro f;induction f with
 |zero=>intro x l h1 h2 _;exact⟨h1,h2⟩
 |succ f ih=>
  intro x l h1 h2 h;simp only[fe]at h ⊢;split
  ·exact⟨h1,h2⟩
  ·rename_i h3;rw[if_neg h3]at h;by_cases ha:((x.eY s).attr s l).1.err=0
   ·obtain⟨a1,a2,a3⟩:=Xi ha;refine ih _ _ ?_ ?_ h
    ·intro a hm;rcases List.mem_append.1 hm with e|e
     ·exact h1 a e
     ·rw[List.mem_singleton.1 e];exact⟨a1,a2⟩
    ·rw[He];exact⟨h2,by simpa [yo]using a3⟩
   ·rw[kx ha]at h;exact absurd h ha
def Inv(x:Sc):Prop:=gy x.more/\pW false x.l/\ends false x.l=false
theorem Inv.same(h:Inv x)(k:gH x y):Inv y:=by
 obtain⟨a,b,d⟩:=h;exact⟨by rw[k.2.1];exact a,by rw[k.1];exact b,by rw[k.1];exact d⟩
theorem Inv.told{t:Tok}(h:Inv x)(ht:x.err=0->CC t/\t.kind≠3):Inv (x.told t):=by
 by_cases he:x.err=0
 ·obtain⟨h1,h2,h3⟩:=h;obtain⟨t1,t2⟩:=ht he;rw[D_ he];refine⟨gy.nil,?_,?_⟩
  ·simp only;rw[kN];split
   ·rw[h3];exact⟨h2,t1,fun e=>absurd e t2,trivial⟩
   ·rename_i hm;rw[kN,xL,h3];refine⟨⟨h2,Or.inr (Or.inr ⟨rfl,rfl,rfl,h1,hm⟩),fun _=>rfl,trivial⟩,t1,fun e=>absurd e t2,trivial⟩
  ·simp only;rw[xL];simp only[ends];simpa using t2
 ·rw[kM he];exact h
theorem yH{k:Int}{n:List UInt8}{l:jY}{t:List UInt8}{a:Int}(h:k≠3):(⟨k,n,l,t,a⟩:Tok).kind≠3:=h
theorem Ex{nm:List UInt8}{l:jY}{tg:Int}(h:Inv x)(hn:x.err=0->nD nm/\(∀a∈l,nD a.1/\gy a.2)/\yo [] l):Inv (x.jh s nm l tg):=by
 unfold Sc.jh;have hm:∀y:Sc,y.err=x.err->((Sc.eW s [62] y).err=0->x.err=0):=by
  intro y hy e;refine aU fun e2=>?_;exact Ev (s:=s) (x:=y) (by rw[hy];exact e2) [62] e
 split
 ·have i1:=(h.same (nQ x (x.i+1))).same (gQ s [62] _);have i2:=i1.told (t:=⟨1,nm,l,[],tg⟩) (fun e=>by
   obtain⟨a,b,d⟩:=hn (hm {x with i:=x.i+1} rfl e);exact⟨Or.inl ⟨rfl,a,b,d,rfl⟩,yH (by decide)⟩)
  exact i2.told (fun e=>by
   rw[pk]at e;obtain⟨a,b,d⟩:=hn (hm {x with i:=x.i+1} rfl e);exact⟨Or.inr (Or.inl ⟨rfl,a,rfl,rfl⟩),yH (by decide)⟩)
 ·have i1:=h.same (gQ s [62] x);exact i1.told (t:=⟨1,nm,l,[],tg⟩) (fun e=>by
   obtain⟨a,b,d⟩:=hn (hm _ rfl e);exact⟨Or.inl ⟨rfl,a,b,d,rfl⟩,yH (by decide)⟩)
theorem Hf{tg:Int}(h:Inv x):Inv (x.j9 s tg):=by
 unfold Sc.j9;refine Ex ((h.same (l6 x s)).same (yG _ s)) fun e=>?_;have hn:(x.name s).1.err=0:=by
  refine aU fun e2=>?_;unfold Sc.b_ at e;rw[kx e2]at e;exact e2 e
 have ha:=OO (s:=s) (s.size+2) (x.name s).1 [] (fun a hm=>by simp at hm) trivial e;exact⟨Ew hn,ha.1,ha.2⟩
theorem Ey{tg:Int}(h:Inv x):Inv (x.ji s tg):=by
 unfold Sc.ji;refine(((h.same (l6 x s)).same (np _ s)).same (gQ s [62] _)).told fun e=>?_;have hn:(x.name s).1.err=0:=by
  refine aU fun e2=>?_;exact Ev (s:=s) (x:=(x.name s).1.eY s) e2 [62] e
 exact⟨Or.inr (Or.inl ⟨rfl,Ew hn,rfl,rfl⟩),yH (by decide)⟩
theorem OP(h:Inv x)(he:x.err=0):Inv (x.qK s):=by
 unfold Sc.qK;have h1:=(h.same (gQ s [91,67,68,65,84,65,91] x)).same (lj _ s ⟨#[93,93,62]⟩);split
 ·rename_i hc;refine⟨?_,h1.2.1,h1.2.2⟩;refine h1.1.add ?_;by_cases hm:(Sc.eW s [91,67,68,65,84,65,91] x).err=0
  ·exact Hd _ (by decide) _ _ _ hm (ah _) (by rw[dX];exact gy.nil)
  ·unfold Sc.until at hc;rw[iQ _ _ _ _ _ hm]at hc;exact absurd hc.1 hm
 ·exact h1
theorem Kw(h:Inv x)(he:x.err=0):Inv (x.ly s):=by
 unfold Sc.ly Sc.behind;have h1:=h.same (nQ x (x.i+1));split
 ·unfold Sc.oT;have h2:=h1.same (nQ _ (x.i+1+1));split
  ·exact OP h2 he
  ·unfold Sc.remark;exact((h2.same (gQ s [45,45] _)).same (lj _ s _)).same (gQ s [62] _)
 ·split
  ·unfold Sc.order;have h2:=h1.same (nQ _ (x.i+1+1));exact(h2.same (l6 _ s)).same (lj _ s _)
  ·split
   ·exact Ey (h1.same (nQ _ (x.i+1+1)))
   ·exact Hf h1
theorem OQ(h:Inv x)(he:x.err=0):Inv (x.piece s):=by
 unfold Sc.piece;split
 ·exact Kw h he
 ·have h1:=h.same (xb x s 60);split
  ·rename_i hc;exact⟨h1.1.add (CD he 60 (by omega) hc),h1.2.1,h1.2.2⟩
  ·exact h1
theorem CF:∀(f:Nat) (x:Sc),Inv x->Inv (jk s f x):=by
 intro f;induction f with
 |zero=>intro x h;exact h
 |succ f ih=>
  intro x h;simp only[jk];split
  ·rename_i hc;exact ih _ (OQ h hc.2)
  ·exact h
theorem vS(s:ByteArray):pW false (kY s).1:=by
 have h:Inv (eQ s):=CF _ _ ⟨gy.nil,trivial,rfl⟩;unfold kY;split
 ·trivial
 ·rename_i he;have he:(eQ s).err=0:=by simpa using he
  simp only;rw[kN,h.2.2];refine⟨h.2.1,?_⟩;unfold Sc.last;split
  ·trivial
  ·rename_i hm;exact⟨Or.inr (Or.inr ⟨rfl,rfl,rfl,h.1,fun e=>hm (Or.inr e)⟩),fun _=>rfl,trivial⟩
end
section
variable{s:ByteArray}{p:Nat}{c:Int}{x y z:Sc}{q:Bool}
theorem vT(q:Bool):∀l:List UInt8,(Ch.h_ q l).length<=6*l.length
 |[]=>ah _
 |u::l=>by
  have e1:Ch.h_ q (u::l)=Ch.rp q u++Ch.h_ q l:=by simp[Ch.h_]
  have ih:=vT q l;have h1:(Ch.rp q u).length<=6:=by
   unfold Ch.rp Ch.iM
   repeat' split
   all_goals simp
  rw[e1,ae,ag];omega
def cost(l:List Tok):Nat:=(l.flatMap jm).length
theorem ky(a b:List Tok):cost (a++b)=cost a+cost b:=by simp[cost]
def kz(x:Sc):Nat:=cost x.l+(if x.more=[]then 0 else 6*x.more.length+27)
theorem sY(x:Sc)(t:Tok):kz (x.told t)<=kz x+(jm t).length:=by
 by_cases he:x.err=0
 ·rw[D_ he];unfold kz;simp only[if_true];rw[ky];have h1:cost [t]=(jm t).length:=by simp[cost]
  split
  ·omega
  ·have h2:cost [gU x]<=6*x.more.length+27:=by
    have h3:cost [gU x]=(jm (gU x)).length:=by simp[cost]
    have h4:jm (gU x)=Ch.h_ false x.more++marks:=rfl;have h5:=vT false x.more;have h6:marks.length=27:=rfl;rw[h3,h4,ae];omega
   rw[ky];omega
 ·rw[kM he];omega
theorem jF(h:gH x y):kz y=kz x:=by unfold kz;rw[h.1,h.2.1]
theorem xd(h:(x.name s).1.err=0):(x.name s).1.i=x.i+(x.name s).2.data.toList.length/\1<=(x.name s).2.data.toList.length:=by
 by_cases he:x.err=0
 ·by_cases hb:Ch.fw (cur s x.i)=true
  ·have uO:yj (cur s x.i)=true:=by unfold yj;rw[hb];rfl
   have h0:0<=cur s x.i:=qj uO;have hc:=fl h0;have hle:jK s x.i<=s.size:=oZ (by omega);have NH:x.i<jK s x.i:=by
    have:=sQ s (x.i+wid s x.i);rw[ld uO];omega
   rw[(lY he hb).1,(lY he hb).2,CB s _ _ (by omega)];exact⟨by simp only;omega,by omega⟩
  ·rw[o0 he hb]at h;exact absurd h (fx x s he)
 ·unfold Sc.name at h;rw[if_neg he]at h;exact absurd h he
theorem mD:∀(l:List UInt8) (x:Sc),x.i<=(Sc.eW s l x).i/\((Sc.eW s l x).err=0->x.err=0/\(Sc.eW s l x).i=x.i+l.length):=by
 intro l;induction l with
 |nil=>intro x;exact⟨ah _,fun e=>⟨e,rfl⟩⟩
 |cons u l ih=>
  intro x;simp only[Sc.eW];split
  ·rename_i he;split
   ·obtain⟨a,b⟩:=ih {x with i:=x.i+1};refine⟨by have a':x.i+1<=(Sc.eW s l {x with i:=x.i+1}).i:=a;omega,fun e=>⟨he,?_⟩⟩
    have b':(Sc.eW s l {x with i:=x.i+1}).i=x.i+1+l.length:=(b e).2;rw[b',ag];omega
   ·obtain⟨a,b⟩:=ih (x.wrong s);rw[lV]at a;exact⟨a,fun e=>absurd (b e).1 (fx x s he)⟩
  ·rename_i he;exact⟨ah _,fun e=>absurd e he⟩
theorem CG(he:x.err=0)(j6:Nat)(hb:32<=j6/\j6<128):x.i+(x.char s j6).2.data.toList.length<=(x.char s j6).1.i:=by
 rw[rJ he j6 hb];split
 ·show x.i+0<=(x.wrong s).i;rw[lV];omega
 ·rename_i h1;split
  ·split
   ·show x.i+0<=(x.fail 4 x.i).i;rw[zC];omega
   ·rename_i h3;have h4:=Ch.iV h3;have h5:=Ch.sx (Ch.eR s x.i).1;show x.i+(Lib.encodeRune (Ch.eR s x.i).1).length<=x.i+(Ch.eR s x.i).2.toNat;omega
  ·have hx:=im s x.i (x.i+wid s x.i);rw[hx];have:(Ch.bytes s x.i (x.i+wid s x.i-x.i)).length<=wid s x.i:=by unfold Ch.bytes;rw[bP];omega
   show x.i+_<=x.i+wid s x.i;omega
theorem OS(Q:Nat)(hQ:32<=Q/\Q<128):∀(f:Nat) (x:Sc) (t:List UInt8),x.i+(jb s Q f x t).2.length<=t.length+(jb s Q f x t).1.i:=by
 intro f;induction f with
 |zero=>intro x t;simp only[jb];omega
 |succ f ih=>
  intro x t;simp only[jb];split
  ·rename_i h1;have h2:=ih (x.char s Q).1 (t++(x.char s Q).2.data.toList);have h3:=CG (s:=s) h1.1 Q hQ;rw[ae]at h2;omega
  ·simp only;omega
theorem Ky(he:x.err=0)(h:(x.value s).1.err=0):x.i+(x.value s).2.length+2<=(x.value s).1.i:=by
 rw[o6 he]at h ⊢;split
 ·rename_i h1;have h2:=OS (s:=s) (cur s x.i).toNat (by rcases h1 with e|e<;>rw[e]<;>decide) (s.size+2) {x with i:=x.i+1} [];simp only[aq]at h2 ⊢;omega
 ·rename_i h1;rw[if_neg h1]at h;exact absurd h (fx x s he)
theorem vU(x:Sc):(x.eY s).i=x.i+x.skip s:=rfl
theorem OT{l:jY}(h:(x.attr s l).1.err=0):x.i+(x.attr s l).2.1.length+(x.attr s l).2.2.length+3<=(x.attr s l).1.i:=by
 unfold Sc.attr at h ⊢;split
 ·rename_i h1;rw[if_pos h1]at h;have h2:=Ky h1 h;have hm:=mD (s:=s) [61] ((x.gW s l).eY s);have he2:(Sc.eW s [61] ((x.gW s l).eY s)).err=0:=h1;have Qg:=hm.2 he2;have hte:(x.gW s l).err=0:=Qg.1;have h3:x.gW s l=(x.name s).1:=by
   unfold Sc.gW at hte ⊢;split
   ·rename_i h4;rw[if_pos h4]at hte;by_cases hn:(x.name s).1.err=0
    ·exact absurd hte (lW _ 5 x.i hn (by decide))
    ·unfold Sc.fail at hte;rw[if_neg hn]at hte;exact absurd hte hn
   ·rfl
  have hn:=xd (s:=s) (x:=x) (by rw[<-h3];exact hte);have e1:(x.equal s l).i=(Sc.eW s [61] ((x.gW s l).eY s)).i+(Sc.eW s [61] ((x.gW s l).eY s)).skip s:=rfl;have e2:=vU (s:=s) (x.gW s l);have e3:=Qg.2;rw[h3]at e1 e2 e3;simp only[ag,aq]at e3;simp only;omega
 ·rename_i h1;rw[if_neg h1]at h;exact absurd h h1
theorem Hg(a:List UInt8×List UInt8):(kZ a).length<=6+a.1.length+6*a.2.length:=by
 have:=vT true a.2;unfold kZ;simp only[ag,ae,aq];omega
theorem Hh:∀(f:Nat) (x:Sc) (l:jY),(fe s f x l).1.err=0->(l.flatMap kZ).length<=8*x.i->((fe s f x l).2.flatMap kZ).length+8*x.i<=(l.flatMap kZ).length+8*(fe s f x l).1.i:=by
 intro f;induction f with
 |zero=>intro x l h _;simp only[fe];omega
 |succ f ih=>
  intro x l h hl;simp only[fe]at h ⊢;split
  ·rw[vU];simp only;omega
  ·rename_i h3;rw[if_neg h3]at h;by_cases ha:((x.eY s).attr s l).1.err=0
   ·have hp:=OT ha;have hb:=vU (s:=s) x;have hc:=Hg ((x.eY s).attr s l).2;have e1:((l++[((x.eY s).attr s l).2]).flatMap kZ).length=(l.flatMap kZ).length+(kZ ((x.eY s).attr s l).2).length:=by simp
    have:=ih _ _ h (by rw[e1];omega);rw[e1]at this;omega
   ·rw[kx ha]at h;exact absurd h ha
theorem rU(t:ByteArray)(fV:Nat):∀(f:Nat) (x:Sc),fV<=x.i->x.i<=(gw s t fV f x).1.i/\fV+(gw s t fV f x).2.data.toList.length<=(gw s t fV f x).1.i:=by
 intro f;induction f with
 |zero=>intro x h;exact⟨ah _,h⟩
 |succ f ih=>
  intro x h;simp only[gw];split
  ·split
   ·refine⟨by simp only;omega,?_⟩;have hx:=im s fV x.i;rw[hx];have:(Ch.bytes s fV (x.i-fV)).length<=x.i-fV:=by unfold Ch.bytes;rw[bP];omega
    simp only;omega
   ·split
    ·have:=ih (x.wrong s) (by rw[lV];exact h);rw[lV]at this;exact this
    ·have:=ih {x with i:=x.i+(Ch.om s x.i).2.toNat} (by simp only;omega);simp only at this;omega
  ·exact⟨ah _,h⟩
def Kz(x:Sc):Prop:=x.err=0->kz x<=64*x.i
theorem Bp{nm:List UInt8}{L:jY}{tg:Int}(h:(x.jh s nm L tg).err=0):x.err=0/\x.i+1<=(x.jh s nm L tg).i/\kz (x.jh s nm L tg)<=kz x+6+2*nm.length+(L.flatMap kZ).length:=by
 unfold Sc.jh at h ⊢;have cst:(jm ⟨1,nm,L,[],tg⟩).length=3+nm.length+(L.flatMap kZ).length:=by
  have:jm ⟨1,nm,L,[],tg⟩=60::(nm++(L.flatMap kZ++[32,62])):=rfl;rw[this];simp only[ag,ae,aq];omega
 have aap:(jm ⟨2,nm,[],[],tg⟩).length=3+nm.length:=by
  have:jm ⟨2,nm,[],[],tg⟩=[60,47]++nm++[62]:=rfl;rw[this];simp only[ag,ae,aq];omega
 split
 ·rename_i ww;rw[if_pos ww,pk,pk]at h;obtain⟨k1,k2⟩:=(mD (s:=s) [62] {x with i:=x.i+1}).2 h;simp only[ag,aq]at k2;have hb:=jF ((nQ x (x.i+1)).trans (gQ s [62] _));have b1:=sY (Sc.eW s [62] {x with i:=x.i+1}) ⟨1,nm,L,[],tg⟩;have b2:=sY ((Sc.eW s [62] {x with i:=x.i+1}).told ⟨1,nm,L,[],tg⟩) ⟨2,nm,[],[],tg⟩;rw[cst]at b1;rw[aap]at b2;rw[jC,jC];exact⟨k1,by omega,by omega⟩
 ·rename_i ww;rw[if_neg ww,pk]at h;obtain⟨k1,k2⟩:=(mD (s:=s) [62] x).2 h;simp only[ag,aq]at k2;have hb:=jF (gQ s [62] x);have b1:=sY (Sc.eW s [62] x) ⟨1,nm,L,[],tg⟩;rw[cst]at b1;rw[jC];exact⟨k1,by omega,by omega⟩
theorem Ez{tg:Int}(h:(x.j9 s tg).err=0):kz (x.j9 s tg)+64*x.i<=kz x+64*(x.j9 s tg).i:=by
 unfold Sc.j9 at h ⊢;obtain⟨k1,k2,k3⟩:=Bp h;have hb:=jF ((l6 x s).trans (yG (x.name s).1 s));have hne:(x.name s).1.err=0:=by
  refine aU fun e2=>?_;unfold Sc.b_ at k1;rw[kx e2]at k1;exact e2 k1
 have hn:=xd hne;have ha:=Hh (s:=s) (s.size+2) (x.name s).1 [] k1 (by simp);simp only[cx,aq,ay]at ha;have ha':(((x.name s).1.b_ s).2.flatMap kZ).length+8*(x.name s).1.i<=8*((x.name s).1.b_ s).1.i:=ha;omega
theorem Bq{tg:Int}(h:(x.ji s tg).err=0):kz (x.ji s tg)+64*x.i<=kz x+64*(x.ji s tg).i:=by
 unfold Sc.ji at h ⊢;rw[pk]at h;have hm:=(mD (s:=s) [62] ((x.name s).1.eY s)).2 h;have hn:=xd (s:=s) (x:=x) hm.1;have hb:=jF (((l6 x s).trans (np _ s)).trans (gQ s [62] ((x.name s).1.eY s)));have b1:=sY (Sc.eW s [62] ((x.name s).1.eY s)) ⟨2,(x.name s).2.data.toList,[],[],tg⟩;have aap:(jm ⟨2,(x.name s).2.data.toList,[],[],tg⟩).length=3+(x.name s).2.data.toList.length:=by
  have:jm ⟨2,(x.name s).2.data.toList,[],[],tg⟩=[60,47]++(x.name s).2.data.toList++[62]:=rfl;rw[this];simp only[ag,ae,aq];omega
 have e2:=vU (s:=s) (x.name s).1;have e3:=hm.2;simp only[ag,aq]at e3;rw[aap]at b1;rw[jC];omega
theorem xO(x:Sc)(t:ByteArray)(a:Int)(h:t.data.toList≠[]):kz (x.ic t a)<=kz x+6*t.data.toList.length+27:=by
 have h1:¬(x.ic t a).more=[]:=fun e=>h (List.append_eq_nil_iff.1 e).2;unfold kz;rw[if_neg h1];have e1:(x.ic t a).more.length=x.more.length+t.data.toList.length:=ae;have e2:(x.ic t a).l=x.l:=rfl;rw[e1,e2];split
 ·rename_i h2;rw[h2];simp only[aq];omega
 ·omega
theorem KA(h:(x.qK s).err=0):kz (x.qK s)+64*x.i<=kz x+64*(x.qK s).i:=by
 unfold Sc.qK at h ⊢;have hm:=mD (s:=s) [91,67,68,65,84,65,91] x;have hu:=rU (s:=s) ⟨#[93,93,62]⟩ (Sc.eW s [91,67,68,65,84,65,91] x).i (s.size+2) (Sc.eW s [91,67,68,65,84,65,91] x) (ah _);have hu':(Sc.eW s [91,67,68,65,84,65,91] x).i<=((Sc.eW s [91,67,68,65,84,65,91] x).until s ⟨#[93,93,62]⟩).1.i/\(Sc.eW s [91,67,68,65,84,65,91] x).i+((Sc.eW s [91,67,68,65,84,65,91] x).until s ⟨#[93,93,62]⟩).2.data.toList.length<=((Sc.eW s [91,67,68,65,84,65,91] x).until s ⟨#[93,93,62]⟩).1.i:=hu;have hb:=jF ((gQ s [91,67,68,65,84,65,91] x).trans (lj _ s ⟨#[93,93,62]⟩));generalize hU:(Sc.eW s [91,67,68,65,84,65,91] x).until s ⟨#[93,93,62]⟩=U at*
 split
 ·rename_i hc;have hme:(Sc.eW s [91,67,68,65,84,65,91] x).err=0:=by
   refine aU fun e=>?_;have:U.1=Sc.eW s [91,67,68,65,84,65,91] x:=by rw[<-hU];unfold Sc.until;rw[iQ _ _ _ _ _ e]
   rw[this]at hc;exact e hc.1
  have YB:=(hm.2 hme).2;have hlen:[91,67,68,65,84,65,91].length=7:=rfl;have ht:=xO U.1 U.2 (Sc.eW s [91,67,68,65,84,65,91] x).i hc.2;show kz _+64*x.i<=kz x+64*U.1.i;have hpos:1<=U.2.data.toList.length:=List.length_pos_iff.2 hc.2;simp only[ag,aq]at YB;omega
 ·have:=hm.1;omega
theorem Hi(x:Sc):x.i<=(x.remark s).i:=by
 unfold Sc.remark;have h1:=(mD (s:=s) [45,45] x).1;have h2:=(rU (s:=s) ⟨#[45,45]⟩ (Sc.eW s [45,45] x).i (s.size+2) (Sc.eW s [45,45] x) (ah _)).1;have h3:=(mD (s:=s) [62] ((Sc.eW s [45,45] x).until s ⟨#[45,45]⟩).1).1;exact ar h1 (ar h2 h3)
theorem Xj(x:Sc):x.i<=(x.name s).1.i:=by
 unfold Sc.name;repeat' split
 ·rw[lV];exact ah _
 ·simp only;omega
 ·exact ah _
theorem KC(x:Sc):x.i<=(x.order s).i:=by
 unfold Sc.order;exact ar (Xj x) (rU (s:=s) ⟨#[63,62]⟩ (x.name s).1.i (s.size+2) (x.name s).1 (ah _)).1
theorem Hj(h:(x.ly s).err=0):kz (x.ly s)+64*x.i<=kz x+64*(x.ly s).i:=by
 unfold Sc.ly Sc.behind at h ⊢;split
 ·rename_i Yr;rw[if_pos Yr]at h;unfold Sc.oT at h ⊢;split
  ·rename_i Fq;rw[if_pos Fq]at h;have h1:=KA h;have hb:=jF (nQ x (x.i+1+1));simp only at h1 ⊢;omega
  ·have h1:=Hi (s:=s) {x with i:=x.i+1+1};have hb:kz (({x with i:=x.i+1+1}:Sc).remark s)=kz x:=jF ((((nQ x (x.i+1+1)).trans (gQ s [45,45] _)).trans (lj _ s ⟨#[45,45]⟩)).trans (gQ s [62] _));simp only at h1 ⊢;omega
 ·rename_i Yr;rw[if_neg Yr]at h;split
  ·have h1:=KC (s:=s) {x with i:=x.i+1+1};have hb:kz (({x with i:=x.i+1+1}:Sc).order s)=kz x:=jF (((nQ x (x.i+1+1)).trans (l6 _ s)).trans (lj _ s ⟨#[63,62]⟩));simp only at h1 ⊢;omega
  ·rename_i h63;rw[if_neg h63]at h;split
   ·rename_i ww;rw[if_pos ww]at h;have h1:=Bq h;have hb:=jF (nQ x (x.i+1+1));simp only at h1 ⊢;omega
   ·rename_i ww;rw[if_neg ww]at h;have h1:=Ez h;have hb:=jF (nQ x (x.i+1));simp only at h1 ⊢;omega
theorem Aq(h:Kz x)(he:x.err=0):Kz (x.piece s):=by
 intro e;have h0:=h he;unfold Sc.piece at e ⊢;split
 ·rename_i sL;rw[if_pos sL]at e;have:=Hj e;omega
 ·rename_i sL;rw[if_neg sL]at e;split
  ·rename_i hc;have h1:=CG (s:=s) he 60 (by omega);have h2:=jF (xb x s 60);by_cases hn:(x.char s 60).2.data.toList=[]
   ·have e1:kz ((x.char s 60).1.ic (x.char s 60).2 x.i)=kz (x.char s 60).1:=by unfold kz Sc.ic;rw[hn];simp
    have e2:((x.char s 60).1.ic (x.char s 60).2 x.i).i=(x.char s 60).1.i:=rfl;rw[e1,e2];omega
   ·have ht:=xO (x.char s 60).1 (x.char s 60).2 x.i hn;have hpos:1<=(x.char s 60).2.data.toList.length:=List.length_pos_iff.2 hn;have e2:((x.char s 60).1.ic (x.char s 60).2 x.i).i=(x.char s 60).1.i:=rfl;rw[e2];omega
  ·rename_i hc;rw[if_neg hc]at e;exact absurd e hc
theorem KD:∀(f:Nat) (x:Sc),Kz x->Kz (jk s f x):=by
 intro f;induction f with
 |zero=>intro x h;exact h
 |succ f ih=>
  intro x h;simp only[jk];split
  ·rename_i hc;exact ih _ (Aq h hc.2)
  ·exact h
theorem Rel.zero:Rel Sc.zero ⟨fun _=>[],fun _=>0,0,[],[],0,[]⟩:=⟨⟨rfl,rfl,fun e=>absurd rfl e⟩,rfl,rfl,rfl⟩
theorem TE(s:ByteArray):cost (kY s).1<=64*s.size:=by
 unfold kY;split
 ·simp[cost]
 ·rename_i he;have he:(eQ s).err=0:=by simpa using he
  have hp:Kz (eQ s):=KD _ _ (fun _=>by simp[kz,cost,Sc.zero]);have h1:=hp he;have hi:(eQ s).i=s.size:=(uC (s:=s) (fun _=>[]) (s.size+1) Sc.zero _ rfl (ax _) (by show s.size<0+(s.size+1);omega) Rel.zero he).1;rw[hi]at h1;refine ar ?_ h1;simp only;rw[ky];unfold kz Sc.last;split
  ·simp[cost]
  ·rename_i hm;rw[if_neg (fun e=>hm (Or.inr e))];have h3:cost [gU (eQ s)]=(jm (gU (eQ s))).length:=by simp[cost]
   have h4:jm (gU (eQ s))=Ch.h_ false (eQ s).more++marks:=rfl;have h5:=vT false (eQ s).more;have h6:marks.length=27:=rfl;rw[h3,h4,ae];omega
end
section
variable{s:ByteArray}{p:Nat}{c:Int}{x y z:Sc}{q:Bool}
def ui(s:ByteArray)(x:Sc):Prop:=x.err≠0->0<=x.at_/\x.at_<=s.size
theorem KE{e a:Int}(k:ui s x)(h:x.err=0->0<=a/\a<=s.size):ui s (x.fail e a):=by
 unfold Sc.fail;split
 ·rename_i he;exact fun _=>h he
 ·exact k
theorem vV(k:ui s x)(h:Fits s x):ui s (x.wrong s):=by
 have:x.err=0->0<=(x.i:Int)/\(x.i:Int)<=s.size:=fun e=>by have:=h e;omega
 unfold Sc.wrong
 repeat' split
 all_goals exact KE k this
theorem EA(x:Sc)(s:ByteArray)(he:x.err=0):Fits s (x.wrong s):=fun e=>absurd e (fx x s he)
theorem Bt(k:ui s x)(j:Nat):ui s {x with i:=j}:=k
theorem rV(k:ui s x):ui s (x.eY s):=k
theorem EB(k:ui s x)(h:Fits s x):ui s (x.name s).1:=by
 unfold Sc.name
 repeat' split
 ·exact vV k h
 ·exact k
 ·exact k
theorem qw:∀(l:List UInt8) (x:Sc),ui s x->Fits s x->ui s (Sc.eW s l x):=by
 intro l;induction l with
 |nil=>intro x k _;exact k
 |cons u l ih=>
  intro x k h;simp only[Sc.eW]
  repeat' split
  ·rename_i h1 h2;have:=is_lt h2;exact ih _ (Bt k _) (fun _=>by show x.i+1<=_;omega)
  ·rename_i h1 h2;exact ih _ (vV k h) (EA x s h1)
  ·exact k
theorem TF(t:ByteArray)(hz:t.size≠0)(fV:Nat):∀(f:Nat) (x:Sc),ui s x->Fits s x->ui s (gw s t fV f x).1:=by
 intro f;induction f with
 |zero=>intro x k _;exact k
 |succ f ih=>
  intro x k h;by_cases he:x.err=0
  ·rw[my _ _ _ _ _ he hz];split
   ·exact Bt k _
   ·split
    ·rename_i hc;have:=fl hc;exact ih _ (Bt k _) (fun _=>by show x.i+wid s x.i<=_;omega)
    ·exact ih _ (vV k h) (EA x s he)
  ·rw[iQ _ _ _ _ _ he];exact k
theorem TH(he:x.err=0)(j6:Nat)(hb:32<=j6/\j6<128)(k:ui s x)(h:Fits s x):ui s (x.char s j6).1/\Fits s (x.char s j6).1:=by
 have hi:=h he;rw[rJ he j6 hb];split
 ·exact⟨vV k h,EA x s he⟩
 ·rename_i h1;split
  ·split
   ·exact⟨KE k (fun _=>by omega),fun e=>absurd e (lW x 4 x.i he (by decide))⟩
   ·rename_i h3;have h4:=Ch.iV h3;exact⟨Bt k _,fun _=>by show x.i+(Ch.eR s x.i).2.toNat<=_;omega⟩
  ·have:=fl (s:=s) (i:=x.i) (by omega);exact⟨Bt k _,fun _=>by show x.i+wid s x.i<=_;omega⟩
theorem aaq(Q:Nat)(hQ:32<=Q/\Q<128):∀(f:Nat) (x:Sc) (t:List UInt8),ui s x->Fits s x->ui s (jb s Q f x t).1:=by
 intro f;induction f with
 |zero=>intro x t k _;exact k
 |succ f ih=>
  intro x t k h;simp only[jb];split
  ·rename_i h1;obtain⟨a,b⟩:=TH h1.1 Q hQ k h;exact ih _ _ a b
  ·exact k
theorem Xk(he:x.err=0)(k:ui s x)(h:Fits s x):ui s (x.value s).1:=by
 rw[o6 he];split
 ·rename_i h1;have hp:=fl (s:=s) (i:=x.i) (by omega);refine Bt (aaq _ (by rcases h1 with e|e<;>rw[e]<;>decide) _ _ _ (Bt k _) ?_) _;exact fun _=>by show x.i+1<=_;omega
 ·exact vV k h
theorem Xl{l:jY}(k:ui s x)(h:Fits s x):ui s (x.gW s l)/\Fits s (x.gW s l):=by
 unfold Sc.gW;have hn:=EB k h;have hf:=rQ h;split
 ·refine⟨KE hn fun e=>?_,fun e=>?_⟩
  ·by_cases he:x.err=0
   ·have:=h he;omega
   ·have:x.name s=(x,⟨#[]⟩):=by unfold Sc.name;rw[if_neg he]
    rw[this]at e;exact absurd e he
  ·by_cases he:(x.name s).1.err=0
   ·exact absurd e (lW _ 5 _ he (by decide))
   ·unfold Sc.fail at e;rw[if_neg he]at e;exact absurd e he
 ·exact⟨hn,hf⟩
theorem Xm{l:jY}(k:ui s x)(h:Fits s x):ui s (x.equal s l)/\Fits s (x.equal s l):=by
 obtain⟨a,b⟩:=Xl (l:=l) k h;have a1:=qw [61] _ (rV a) (oL b);have b1:=sW s [61] _ (oL b);exact⟨rV a1,oL b1⟩
theorem aar{l:jY}(k:ui s x)(h:Fits s x):ui s (x.attr s l).1:=by
 obtain⟨a,b⟩:=Xm (l:=l) k h;unfold Sc.attr;split
 ·rename_i he;exact Xk he a b
 ·exact a
theorem aas{l:jY}(h:Fits s x)(he:x.err=0)(hbl:¬Tk.blank (cur s x.i)=true)(ww:¬cur s x.i=47)(AW:¬cur s x.i=62):Fits s (x.attr s l).1:=by
 have hA:Cj x ⟨fun j=>if j=.text then x.more else [],fun _=>x.fV,0,l,l.map Prod.fst,0,x.l⟩ l [] 0:=⟨⟨rfl,rfl,fun _=>rfl⟩,rfl,rfl,rfl,rfl,rfl⟩
 rcases wV (g:=fun _=>[]) (s:=s) he (h he) hA hbl ww AW with⟨_,_,h3,_⟩|⟨h1,_⟩
 ·exact fun _=>h3
 ·exact fun e=>absurd e h1
theorem TI:∀(f:Nat) (x:Sc) (l:jY),ui s x->Fits s x->ui s (fe s f x l).1:=by
 intro f;induction f with
 |zero=>intro x l k _;exact k
 |succ f ih=>
  intro x l k h;simp only[fe];split
  ·exact rV k
  ·rename_i h3;have he:(x.eY s).err=0:=aU fun e=>h3 (Or.inr (Or.inl e));have hx:x.err=0:=he;have ww:¬cur s (x.eY s).i=47:=fun e=>h3 (Or.inr (Or.inr (Or.inl ((jT he (c:=47) (by omega)).2 e))));have AW:¬cur s (x.eY s).i=62:=fun e=>h3 (Or.inr (Or.inr (Or.inr ((jT he (c:=62) (by omega)).2 e))));have hbl:¬Tk.blank (cur s (x.eY s).i)=true:=by rw[lx hx];exact qi s x.i
   exact ih _ _ (aar (rV k) (oL h)) (aas (oL h) he hbl ww AW)
theorem EC(t:ByteArray)(hz:t.size≠0)(k:ui s x)(h:Fits s x):ui s (x.until s t).1:=TF t hz _ _ _ k h
end
end K
end Go.Proofs.YtjecakcpcnmieaaGreatDoor
namespace Go.Proofs.YtjecakcpcnmieaaGreatDoor
namespace K
open Go.RowKit Go.Maps Go.Lib Tryz
section
variable{N:Int}{T:List Tok}{st iJ:St}{c q:Int}
end
end K
end Go.Proofs.YtjecakcpcnmieaaGreatDoor
