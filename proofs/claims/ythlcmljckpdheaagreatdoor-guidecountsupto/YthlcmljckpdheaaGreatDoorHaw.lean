import Derived.Test.YthlcmljckpdheaaGreatDoorHA
import Derived.Test.YthlcmljckpdheaaGreatDoorHau
import Derived.Test.YthlcmljckpdheaaGreatDoorHav
import Derived.Test.YthlcmljckpdheaaGreatDoorHas
set_option linter.unusedVariables false
set_option linter.unusedSimpArgs false
set_option maxHeartbeats 32000000
set_option maxRecDepth 100000
namespace Go.Proofs.YthlcmljckpdheaaGreatDoor
namespace K
open Go.RowKit Go.Lib Tryz
section
variable{s:ByteArray}
theorem I_(f:Nat)(x:Sc)(h:x.err≠0):iQ s f x=x:=by
 cases f with
 |zero=>rfl
 |succ f=>simp only[iQ];rw[if_neg (fun e=>h e.2)]
theorem Ja:∀(f:Nat) (x:Sc) (st:St),x.err=0->IX x->x.i<=s.size->Rel x st->cost (iQ s f x).l<=64*s.size/\((iQ s f x).err=0->(iQ s f x).i<=s.size/\IX (iQ s f x)):=by
 intro f;induction f with
 |zero=>
  intro x st he hp hi _;refine⟨?_,fun _=>⟨hi,hp⟩⟩;have:=hp he;unfold j6 at this;show cost x.l<=_;omega
 |succ f ih=>
  intro x st he hp hi hr;simp only[iQ];by_cases hc:x.i<s.size/\x.err=0
  ·rw[if_pos hc];rcases nY (g:=fun _=>[]) he hc.1 hr with⟨h1,h2,h3,_,iG,h5,_⟩|⟨h1,h2,_⟩
   ·exact ih _ iG h1 (zl hp he) h3 h5
   ·rw[I_ f _ h1];refine⟨?_,fun e=>absurd e h1⟩;rw[h2];have:=hp he;unfold j6 at this;omega
  ·rw[if_neg hc];refine⟨?_,fun _=>⟨hi,hp⟩⟩;have:=hp he;unfold j6 at this;omega
theorem tR(s:ByteArray):cost ((eV s).l++(eV s).last)<=64*s.size:=by
 obtain⟨h1,h2⟩:=Ja (s:=s) (s.size+1) Sc.zero _ rfl (fun _=>by simp[j6,cost,Sc.zero]) (aq _) Rel.zero;have Oe:cost (eV s).l<=64*s.size:=h1;by_cases he:(eV s).err=0
 ·have:=QF s;unfold mS at this;rw[if_neg (by simpa using he)]at this;exact this
 ·have:(eV s).last=[]:=by unfold Sc.last;rw[if_pos (Or.inl he)]
  rw[this,aM];exact Oe
theorem FT:∀{l:List Tok} {t:Tok},t∈l->(jG t).length<=cost l
 |[],t,h=>by simp at h
 |x::l,t,h=>by
  have e:cost (x::l)=(jG x).length+cost l:=by simp[cost]
  rw[e];rcases List.mem_cons.1 h with rfl|h
  ·omega
  ·have:=FT h;omega
theorem FU(t:Tok):1<=(jG t).length:=by
 unfold jG;split
 ·simp
 ·split
  ·simp
  ·have:marks.length=27:=rfl;rw[af];omega
theorem FV:∀(l:List Tok),l.length<=cost l
 |[]=>aq _
 |x::l=>by
  have e:cost (x::l)=(jG x).length+cost l:=by simp[cost]
  have:=FV l;have:=FU x;rw[e,au];omega
theorem Bt(s:ByteArray):pD false ((eV s).l++(eV s).last):=by
 by_cases he:(eV s).err=0
 ·have:=uY s;unfold mS at this;rw[if_neg (by simpa using he)]at this;exact this
 ·have h0:(eV s).last=[]:=by unfold Sc.last;rw[if_pos (Or.inl he)]
  have hi:Inv (eV s):=Bl _ _ ⟨gB.nil,trivial,rfl⟩;rw[h0,aM];exact hi.2.1
theorem Bu:∀{l:List Tok} {b:Bool} {t:Tok},pD b l->t∈l->FA t
 |[],_,t,_,h=>by simp at h
 |x::l,b,t,hc,h=>by
  rcases List.mem_cons.1 h with rfl|h
  ·exact hc.1
  ·exact Bu hc.2.2 h
theorem zq(s:ByteArray)(t:Tok)(h:t∈(eV s).l++(eV s).last):t.text.length<=64*s.size:=by
 have h1:=FT h;have h2:=tR s;rcases Bu (Bt s) h with⟨_,_,_,_,e⟩|⟨_,_,_,e⟩|⟨k,_⟩
 ·rw[e];simp
 ·rw[e];simp
 ·have h3:jG t=Ch.tu false t.text++marks:=by unfold jG;rw[if_neg (by omega),if_neg (by omega)]
  have h7:=Ch.TQ false t.text;rw[h3,af]at h1;omega
theorem Bv(s:ByteArray):((eV s).l++(eV s).last).length<=64*s.size:=aw (FV _) (tR s)
end
end K
end Go.Proofs.YthlcmljckpdheaaGreatDoor
namespace Go.Proofs.YthlcmljckpdheaaGreatDoor
namespace K
open Go.RowKit Go.Maps Go.Lib Tryz
section
variable{A K S F:Nat->Prop}{w w0 w' w1 w2:World}{nv sv rv:Value}{av kv:Nat->Value}{g:Gr}{X:Nat}
def Gr.nameAt(g:Gr)(k:Nat):List UInt8:=((g.nodes[k]?).map Nd.name).getD []
def Gr.names(g:Gr):List (List UInt8):=(g.stack.map g.nameAt).reverse
def Gr.nest(g:Gr):pE:=⟨g.names,!g.nodes.isEmpty⟩
theorem Bw(g:Gr)(wf:g.Wf)(n:Nd):g.stack.map (g.put n).nameAt=g.stack.map g.nameAt:=by
 refine cV fun k hk=>?_;have hlt:=wf.YW.lt k hk;unfold Gr.nameAt;rw[QO g n k hlt]
theorem ve(g:Gr)(n:Nd):(g.put n).nodes.isEmpty=false:=by
 cases h:(g.put n).nodes with
 |nil=>have:=mH g n;rw[h]at this;simp at this
 |cons a l=>rfl
theorem MZ(wf:g.Wf)(t:Tok):g.nest.take t=((g.take t).1,(g.take t).2.nest):=by
 have hlen:g.names.length=g.stack.length:=by simp[Gr.names]
 have hnil:g.names=[]↔g.stack=[]:=by simp[Gr.names]
 unfold pE.take Gr.take Gr.nest;simp only[hnil,hlen];by_cases h1:t.kind=1
 ·rw[if_pos h1,if_pos h1];by_cases h2:g.stack=[]/\g.nodes≠[]
  ·rw[if_pos ⟨by cases hg:g.nodes with|nil=>exact absurd hg h2.2|cons a l=>rfl,h2.1⟩,if_pos h2]
  ·rw[if_neg (fun e=>h2 ⟨e.2,fun x=>by rw[x]at e;simp at e⟩),if_neg h2];by_cases h3:30<=g.stack.length
   ·rw[if_pos h3,if_pos h3]
   ·rw[if_neg h3,if_neg h3];have e1:(g.put (elemOf t)).nodes.isEmpty=false:=ve _ _;have e2:Gr.names { (g.put (elemOf t))with stack:=g.nodes.length::g.stack}=g.names++[t.name]:=by
     have e3:(g.put (elemOf t)).nameAt g.nodes.length=t.name:=by unfold Gr.nameAt;rw[rk];rfl
     have e4:=Bw g wf (elemOf t);unfold Gr.names;have e5:Gr.nameAt { (g.put (elemOf t))with stack:=g.nodes.length::g.stack}=(g.put (elemOf t)).nameAt:=rfl;simp only[bC,eB,e5];rw[e3,e4]
    rw[e2];simp only[e1];rfl
 ·rw[if_neg h1,if_neg h1];by_cases h2:t.kind=2
  ·rw[if_pos h2,if_pos h2];cases hs:g.stack with
   |nil=>
    have e:g.names=[]:=hnil.2 hs;rw[e,if_neg (by simp)]
   |cons k st=>
    obtain⟨m,hm,_,_⟩:=wf.top hs;have e:g.names=(st.map g.nameAt).reverse++[m.name]:=by
     unfold Gr.names;rw[hs];simp only[bC,eB];have:g.nameAt k=m.name:=by unfold Gr.nameAt;rw[hm];rfl
     rw[this]
    have qF:g.named k t.name=true↔m.name=t.name:=by rw[wj,hm];simp
    simp only;by_cases h3:m.name=t.name
    ·rw[if_pos (by rw[e];simp[h3]),if_pos (qF.2 h3),e,List.dropLast_concat];rfl
    ·rw[if_neg (by rw[e];simpa using h3),if_neg (fun x=>h3 (qF.1 x))]
  ·rw[if_neg h2,if_neg h2];cases hs:g.stack with
   |nil=>
    by_cases h3:ia t.text=true
    ·rw[if_neg (by rw[h3];simp),if_pos h3]
    ·rw[if_pos ⟨rfl,by simpa using h3⟩,if_neg h3]
   |cons k st=>
    rw[if_neg (by simp)];have e1:(g.put (jo t)).nodes.isEmpty=false:=ve _ _;have e2:(g.put (jo t)).names=g.names:=by unfold Gr.names;rw[nH,Bw g wf]
    obtain⟨m,hm,_,hlt⟩:=wf.top hs;have e3:g.nodes.isEmpty=false:=by cases hg:g.nodes with|nil=>rw[hg]at hm;simp at hm|cons a l=>rfl
    simp only[e1,e2,e3]
theorem Jb(wf:g.Wf):g.nest.names≠[]->g.nest.gw=true:=by
 intro h;cases hs:g.stack with
 |nil=>exact absurd (by simp[Gr.nest,Gr.names,hs]) h
 |cons k st=>
  obtain⟨m,hm,_,_⟩:=wf.top hs;have:g.nodes.isEmpty=false:=by cases hg:g.nodes with|nil=>rw[hg]at hm;simp at hm|cons a l=>rfl
  simp[Gr.nest,this]
theorem Q7(wf:g.Wf):g.nest.names.length<=30:=by
 have:=wf.deep;simpa [Gr.nest,Gr.names]using this
theorem Q8(t:Tok)(h:(g.take t).1≠0):(g.take t).2=g:=by
 unfold Gr.take at h ⊢;split
 ·rename_i h1;rw[if_pos h1]at h;split
  ·rfl
  ·rename_i h2;rw[if_neg h2]at h;split
   ·rfl
   ·rename_i h3;rw[if_neg h3]at h;exact absurd rfl h
 ·rename_i h1;rw[if_neg h1]at h;split
  ·rename_i h2;rw[if_pos h2]at h;split
   ·rfl
   ·rename_i k st hs;simp only[hs]at h;split
    ·rename_i h3;rw[if_pos h3]at h;exact absurd rfl h
    ·rfl
  ·rename_i h2;rw[if_neg h2]at h;split
   ·split<;>rfl
   ·rename_i hs;simp only[hs]at h;exact absurd rfl h
structure GR(A F:Nat->Prop)(X:Nat)(w:World)(g:Gr):Prop where
 ex:∃K S nv av kv sv,jU A K X w g nv av kv sv (.bool g.nest.gw)/\NS S X 0 w #[sv,.bool g.nest.gw,nv,.int .i64 (je g.stack)] 65 sv g.nest.names g.nest.gw/\
  (∀k,K k->F k)/\(∀k,S k->F k)/\(∀k,A k->¬S k)/\(∀k,S k->¬K k)/\(g.nodes=[]->nv=fK)
 lt:∀k,F k->k<w.heap.size
 nF:¬F X
 kids:l5 g
 wf:g.Wf
theorem jU.keep{W:World}(h:jU A K X w g nv av kv sv rv)(hM:eN w W):jU A K X W g nv av kv sv rv:=
 ⟨(hM.keep X (eO h.blk)).trans h.blk,hM.nodes h.nodes,h.nA,h.nK,h.sq,fun k x=>ah (h.lt k x) hM.size,fun k x=>ah (h.sH k x) hM.size⟩
theorem GR.keep{W:World}(h:GR A F X w g)(hM:eN w W):GR A F X W g:=by
 obtain⟨⟨K,S,nv,av,kv,sv,h1,h2,h3⟩,h4,h5,h6,h7⟩:=h;exact⟨⟨K,S,nv,av,kv,sv,h1.keep hM,h2.keep hM,h3⟩,fun k x=>ah (h4 k x) hM.size,h5,h6,h7⟩
theorem GR.blk(h:GR A F X w g):X<w.heap.size:=by
 obtain⟨⟨K,S,nv,av,kv,sv,h1,_⟩,_⟩:=h;exact eO h1.blk
theorem G4{a b c d a' b':Value}{cs:Array Value}(h:Gq 0 #[a,b,c,d] cs)(h0:cs[0]?=some a')(h1:cs[0+1]?=some b'):cs=#[a',b',c,d]:=by
 obtain⟨hs,ho⟩:=h;have h2:=ho 2 (by decide) (by decide);have h3:=ho 3 (by decide) (by decide);refine Array.ext_getElem? fun j=>?_
 match j with
 |0=>exact h0
 |1=>exact h1
 |2=>exact h2
 |3=>exact h3
 |j+4=>
  rw[Array.getElem?_eq_none (by rw[hs];simp),Array.getElem?_eq_none (by simp)]
theorem jU.nested{cs:Array Value}{Kh:Value}{n:pE}{r:Bool}(h:jU A K X w g nv av kv sv (.bool r))(hSA:∀k,A k->¬S k)(Y0:∀k,S k->¬K k)(q:NS (Grow S w w1) X 0 w1 cs 65 Kh n.names n.gw)(o:Gq 0 #[sv,.bool r,nv,.int .i64 (je g.stack)] cs)(fr:Frame (fun k=>k=X\/S k) w w1):
  jU A K X w1 g nv av kv Kh (.bool n.gw):=by
 have e:=G4 o q.c0 q.c1;have hb:=q.blk;rw[e]at hb;refine⟨hb,h.nodes.frame (fun k hk hA=>fr.block k hk ?_) (fun k hk hK=>fr.block k hk ?_) (fun _ _ x=>x),h.nA,h.nK,h.sq,fun k x=>ah (h.lt k x) fr.size,fun k x=>ah (h.sH k x) fr.size⟩
 ·rintro(x|x)
  ·exact h.nA (x▸hA)
  ·exact hSA k hA x
 ·rintro(x|x)
  ·exact h.nK (x▸hK)
  ·exact Y0 k x hK
def wl(A F:Nat->Prop)(X:Nat)(w:World)(x:Int×Gr)(e:Ending)(w':World):Prop:=e=.returned (.int .i64 x.1)/\GR A (Grow F w w') X w' x.2/\Frame (fun k=>k=X\/F k) w w'
theorem GR.made{K S:Nat->Prop}{kq kC:Value}{jS j9:Nat->Value}{cs:Array Value}{g':Gr}{n:pE}(hlt:∀k,F k->k<w.heap.size)(hnF:¬F X)(Y1:∀k,K k->F k)(hSF:∀k,S k->F k)(hAS:∀k,A k->¬S k)(Y0:∀k,S k->¬K k)(hA:∀k,A k->k<w.heap.size)(hX:X<w.heap.size)(m0:eN w w0)(q1:NS (Grow S w0 w1) X 0 w1 cs 65 kC n.names n.gw)(f1:Frame (fun k=>k=X\/S k) w0 w1)
  (r2:jU A (Grow K w1 w2) X w2 g' kq jS j9 kC (.bool n.gw)) (f2:Frame (fun k=>k=X\/K k) w1 w2) (hn:n=g'.nest) (kids:l5 g') (wf:g'.Wf) (hnil:g'.nodes=[]->kq=fK):GR A (Grow F w w2) X w2 g'/\Frame (fun k=>k=X\/F k) w w2:=by
 subst hn;have s0:=m0.size;have s1:=f1.size;have s2:=f2.size;have fr:Frame (fun k=>k=X\/F k) w w2:=by
  refine⟨f2.os.trans (f1.os.trans m0.os),f2.tape.trans (f1.tape.trans m0.tape),f2.output.trans (f1.output.trans m0.output),by omega,fun k hk hf=>?_⟩;rw[f2.block k (by omega) (fun x=>hf (x.imp id (Y1 k))),f1.block k (by omega) (fun x=>hf (x.imp id (hSF k))),m0.keep k hk]
 refine⟨⟨⟨_,Grow S w0 w1,kq,jS,j9,kC,r2,⟨r2.blk,rfl,rfl,eH q1.row fun k e=>f2.block k (eW q1.row e) ?_,q1.own,q1.nX,fun k x=>ah (q1.lt k x) s2⟩,?_,?_,?_,?_,hnil⟩,iX hlt (by omega),?_,kids,wf⟩,fr⟩
 ·have hS:=q1.own k e;rintro(x|x)
  ·exact q1.nX (x▸hS)
  ·rcases hS with y|y
   ·exact Y0 k y x
   ·have:=hlt k (Y1 k x);omega
 ·rintro k (x|x)
  ·exact Or.inl (Y1 k x)
  ·exact Or.inr ⟨by omega,x.2⟩
 ·rintro k (x|x)
  ·exact Or.inl (hSF k x)
  ·exact Or.inr ⟨by omega,by omega⟩
 ·rintro k hk (x|x)
  ·exact hAS k hk x
  ·have:=hA k hk;omega
 ·rintro k (x|x) (y|y)
  ·exact Y0 k x y
  ·have:=hlt k (hSF k x);omega
  ·have:=hlt k (Y1 k y);omega
  ·omega
 ·rintro(x|x)
  ·exact hnF x
  ·omega
theorem jU.top(h:jU A K X w g nv av kv sv rv)(st:List Nat)(o:Int)(ho:o=je st):jU A K X (w.setCell ⟨X,3,none⟩ (.int .i64 o)) {g with stack:=st} nv av kv sv rv:=by
 have keep:∀b,b≠X->(w.setCell ⟨X,3,none⟩ (.int .i64 o)).heap[b]?=w.heap[b]?:=fun b hb=>ae _ _ _ _ hb;have hz:(w.setCell ⟨X,3,none⟩ (.int .i64 o)).heap.size=w.heap.size:=by simp[World.setCell]
 refine⟨?_,h.nodes.frame (fun b _ hA=>keep b (fun e=>h.nA (by rw[<-e];exact hA))) (fun b _ hK=>keep b (fun e=>h.nK (by rw[<-e];exact hK))) (fun _ _ x=>x),h.nA,h.nK,h.sq,fun b hb=>by rw[hz];exact h.lt b hb,fun b hb=>by rw[hz];exact h.sH b hb⟩;rw[fe h.blk _,ho];rfl
theorem zr{P:Nat->Prop}(w1:World)(i:Nat)(a:Value):Frame (fun k=>k=X\/P k) w1 (w1.setCell ⟨X,i,none⟩ a):=
 ⟨rfl,rfl,rfl,by simp[World.setCell],fun k hk hf=>ae _ _ _ _ (fun e=>hf (Or.inl e))⟩
end
section
variable{A K S F:Nat->Prop}{w w0 w' w1 w2:World}{nv sv rv:Value}{av kv:Nat->Value}{g:Gr}{X:Nat}
theorem l5.put(h:l5 g)(n:Nd)(hn:n.kids=[]):l5 (g.put n):=by
 intro i m hi;rw[mH];unfold Gr.put at hi;split at hi
 ·by_cases h1:i<g.nodes.length
  ·rw[aL h1]at hi;have:=h i m hi;omega
  ·rw[aP (by omega)]at hi;have h2:=(List.getElem?_eq_some_iff.1 hi).1;simp only[au,aF]at h2;rw[show i-g.nodes.length=0 by omega]at hi;obtain rfl:_=m:=by simpa using hi
   show n.kids.length<=_;rw[hn];simp
 ·rename_i k st hs;by_cases h1:i<g.nodes.length
  ·rw[aL (by rw[gi];exact h1),nG]at hi;by_cases e:i=k
   ·rw[if_pos e]at hi;obtain⟨m',h3,h4⟩:=Option.map_eq_some_iff.1 hi;have:=h i m' h3;rw[<-h4];simp only[Nd.kid,af,au,aF];omega
   ·rw[if_neg e]at hi;have:=h i m hi;omega
  ·rw[aP (by rw[gi];omega),gi]at hi;have h2:=(List.getElem?_eq_some_iff.1 hi).1;simp only[au,aF]at h2;rw[show i-g.nodes.length=0 by omega]at hi;obtain rfl:_=m:=by simpa using hi
   show n.kids.length<=_;rw[hn];simp
structure GP(A F K S:Nat->Prop)(X:Nat)(w:World)(g:Gr)(nv sv:Value)(av kv:Nat->Value):Prop where
 mG:jU A K X w g nv av kv sv (.bool g.nest.gw)
 nest:NS S X 0 w #[sv,.bool g.nest.gw,nv,.int .i64 (je g.stack)] 65 sv g.nest.names g.nest.gw
 kF:∀k,K k->F k
 sF:∀k,S k->F k
 aS:∀k,A k->¬S k
 sK:∀k,S k->¬K k
 nil:g.nodes=[]->nv=fK
 lt:∀k,F k->k<w.heap.size
 nF:¬F X
 kids:l5 g
 wf:g.Wf
theorem GR.parts(h:GR A F X w g):∃K S nv sv av kv,GP A F K S X w g nv sv av kv:=by
 obtain⟨⟨K,S,nv,av,kv,sv,r0,n0,Y1,hSF,hAS,Y0,hnil⟩,hlt,hnF,hk,wf⟩:=h;exact⟨K,S,nv,sv,av,kv,r0,n0,Y1,hSF,hAS,Y0,hnil,hlt,hnF,hk,wf⟩
structure GQ(A F K S:Nat->Prop)(X:Nat)(w w0 w1:World)(g:Gr)(n:pE)(nv kC:Value)(av kv:Nat->Value):Prop where
 more:eN w w0
 ns:∃cs,NS (Grow S w0 w1) X 0 w1 cs 65 kC n.names n.gw
 fr:Frame (fun k=>k=X\/S k) w0 w1
 mG:jU A K X w1 g nv av kv kC (.bool n.gw)
theorem GP.behind{nv sv:Value}{av kv:Nat->Value}{n:pE}{x:Int}{e:Ending}(h:GP A F K S X w g nv sv av kv)(m0:eN w w0)(q:oF S X 0 w0 #[sv,.bool g.nest.gw,nv,.int .i64 (je g.stack)] 65 (x,n) e w1):e=.returned (.int .i64 x)/\∃kC,GQ A F K S X w w0 w1 g n nv kC av kv:=by
 obtain⟨rfl,cs,kC,q1,q2,q3⟩:=q;exact⟨rfl,kC,m0,⟨cs,q1⟩,q3,(h.mG.keep m0).nested h.aS h.sK q1 q2 q3⟩
theorem GP.ends{nv sv kC kq:Value}{av kv jS j9:Nat->Value}{g':Gr}{x:Int}(h:GP A F K S X w g nv sv av kv)(q:GQ A F K S X w w0 w1 g g'.nest nv kC av kv)
  (r2:jU A (Grow K w1 w2) X w2 g' kq jS j9 kC (.bool g'.nest.gw)) (f2:Frame (fun k=>k=X\/K k) w1 w2) (kids:l5 g') (wf:g'.Wf) (hnil:g'.nodes=[]->kq=fK):wl A F X w (x,g') (.returned (.int .i64 x)) w2:=by
 obtain⟨m0,⟨cs,q1⟩,f1,r1⟩:=q;obtain⟨z1,z2⟩:=GR.made h.lt h.nF h.kF h.sF h.aS h.sK h.mG.sH (eO h.mG.blk) m0 q1 f1 r2 f2 rfl kids wf hnil;exact⟨rfl,z1,z2⟩
theorem GP.same{nv sv kC:Value}{av kv:Nat->Value}{x:Int}(h:GP A F K S X w g nv sv av kv)(q:GQ A F K S X w w0 w1 g g.nest nv kC av kv)(m2:eN w1 w2):wl A F X w (x,g) (.returned (.int .i64 x)) w2:=by
 have r1:=q.mG;have r2:=(r1.keep m2)
 exact h.ends q (r1.next m2.frame r2.nodes (fun k _ x=>Or.inl x) r2.blk) m2.frame h.kids h.wf h.nil
theorem GQ.box{nv kC:Value}{av kv:Nat->Value}{n:pE}{o:Obj}(h:GQ A F K S X w w0 w1 g n nv kC av kv)(hX:X<w.heap.size)(hS:∀k,S k->k<w.heap.size)(hb:w0.heap[w.heap.size]?=some o):w1.heap[w.heap.size]?=some o:=by
 rw[h.fr.block w.heap.size (Array.getElem?_eq_some_iff.1 hb).1 (fun x=>by
  rcases x with e|e
  ·omega
  ·have:=hS _ e;omega)]
 exact hb
theorem GQ.attr{nv sv kC va:Value}{av kv:Nat->Value}{n:pE}{m:Nat}{xs:List Value}(h:GQ A F K S X w w0 w1 g n nv kC av kv)(p:GP A F K S X w g nv sv av kv)(ha:w.ownsRow 0 326 2 va m xs)(nu:∀k,va.ownBlock=some k->A k):w1.ownsRow 0 326 2 va m xs:=by
 refine eH ha fun b e=>(h.fr.block b (ah (eW ha e) h.more.size) ?_).trans (h.more.keep b (eW ha e));rintro(x|x)
 ·exact p.mG.nA (x▸nu b e)
 ·exact p.aS b (nu b e) x
def iD(t:Tok)(va:Value):Obj:=.cells #[.int .i64 t.kind,.string ⟨t.name.toArray⟩,va,.string ⟨t.text.toArray⟩,.int .i64 t.at_] 67
def Bx(B:Nat)(k nm va tx at_:Value)(W:World):Prop:=W.cell? ⟨B,0,none⟩=some k/\W.cell? ⟨B,1,none⟩=some nm/\W.cell? ⟨B,2,none⟩=some va/\W.cell? ⟨B,3,none⟩=some tx/\W.cell? ⟨B,4,none⟩=some at_
theorem oG{t:Tok}{va:Value}{W:World}{B:Nat}(h:W.heap[B]?=some (iD t va)):Bx B (.int .i64 t.kind) (.string ⟨t.name.toArray⟩) va (.string ⟨t.text.toArray⟩) (.int .i64 t.at_) W:=
 ⟨cell_of h rfl,cell_of h rfl,cell_of h rfl,cell_of h rfl,cell_of h rfl⟩
theorem pF{nv sv:Value}{av kv:Nat->Value}(h:GP A F K S X w g nv sv av kv)(t:Tok)(ai:Option Addr)(ac:Nat)(hz:t.text.length<=9223372036854775807):
  Z4 32 #[Z8 X,mU t (.slice ai t.d_.length ac)] (w.alloc (iD t (.slice ai t.d_.length ac))).drew fun e w1=>e=.returned (.int .i64 (g.take t).1)/\∃kC,GQ A F K S X w (w.alloc (iD t (.slice ai t.d_.length ac))).drew w1 g (g.take t).2.nest nv kC av kv/\w1.heap[w.heap.size]?=some (iD t (.slice ai t.d_.length ac)):=by
 have m0:eN w (w.alloc (iD t (.slice ai t.d_.length ac))).drew:=((eN.refl w).alloc _).drewN 1;have:=MY (h.nest.keep m0) (Q7 h.wf) (Jb h.wf) t ai t.d_.length ac hz;rw[MZ h.wf t]at this;refine this.mono ?_;intro e w1 q;obtain⟨rfl,kC,gq⟩:=h.behind m0 q;exact⟨rfl,kC,gq,gq.box (eO h.mG.blk) (fun k x=>h.lt k (h.sF k x)) (eL w _)⟩
theorem Jc{nv sv:Value}{av kv:Nat->Value}(h:GP A F K S X w g nv sv av kv)(t:Tok)(ai:Option Addr)(ac:Nat)(hz:t.text.length<=9223372036854775807)(h0:(g.take t).1≠0):
  Z4 17 #[Z8 X,mU t (.slice ai t.d_.length ac)] w (wl A F X w (g.take t)):=by
 have fy:=pF h t ai ac hz;have hx:=Q8 t h0;have kh:∀w1 kC,GQ A F K S X w (w.alloc (iD t (.slice ai t.d_.length ac))).drew w1 g (g.take t).2.nest nv kC av kv->wl A F X w (g.take t) (.returned (.int .i64 (g.take t).1)) w1:=fun w1 kC q=>by
  rw[hx]at q;have:=h.same (x:=(g.take t).1) q (eN.refl w1);rw[show g.take t=((g.take t).1,g)from Prod.ext rfl hx];exact this
 have hne:((g.take t).1 !=0)=true:=by simpa using h0
 have fw:Bx w.heap.size (.int .i64 t.kind) (.string ⟨t.name.toArray⟩) (.slice ai t.d_.length ac) (.string ⟨t.text.toArray⟩) (.int .i64 t.at_) (w.alloc (iD t (.slice ai t.d_.length ac))):=oG (eL w _);obtain⟨b0,b1,b2,b3,b4⟩:=fw;unfold mU e8 at fy ⊢;unfold iD at*
 have HC:=a_ fy;have HF:=a_ kh;clear fy kh h0 hx h;generalize (g.take t).1=no at*
 go_enter func17,ntmps17;go_wp2_with fail;go_region_held3 (fun W=>W.cell? ⟨w.heap.size,0,none⟩=some (.int .i64 t.kind)/\W.cell? ⟨w.heap.size,1,none⟩=some (.string ⟨t.name.toArray⟩)/\W.cell? ⟨w.heap.size,2,none⟩=some (.slice ai t.d_.length ac)/\W.cell? ⟨w.heap.size,3,none⟩=some (.string ⟨t.text.toArray⟩)/\W.cell? ⟨w.heap.size,4,none⟩=some (.int .i64 t.at_))
  (first|exact⟨b0,b1,b2,b3,b4⟩|exact oG hb1)
  (first|(go_at_call 32;refine HC.out.mono ?_;rintro e w1 ⟨rfl,kC,gq,hb1⟩))
 all_goals
  have U0:=a_ gq;clear gq b0 b1 b2 b3 b4 hb1;go_wp2;go_ret;exact HF.out _ _ U0.out
theorem M2{nv sv:Value}{av kv:Nat->Value}(h:GP A F K S X w g nv sv av kv)(hb:g.nodes.length<=17179869184)(t:Tok)(ai:Option Addr)(ac:Nat)(hz:t.text.length<=9223372036854775807)(ha:w.ownsRow 0 326 2 (.slice ai t.d_.length ac) t.d_.length (eQ t.d_))(nu:∀k,(Value.slice ai t.d_.length ac).ownBlock=some k->A k)(h0:(g.take t).1=0)(hk:t.kind=1):
  Z4 17 #[Z8 X,mU t (.slice ai t.d_.length ac)] w (wl A F X w (g.take t)):=by
 have fy:=pF h t ai ac hz;have hg:g.take t=(0,{ (g.put (elemOf t))with stack:=g.nodes.length::g.stack}):=by
  unfold Gr.take at h0 ⊢;rw[if_pos hk]at h0 ⊢;split at h0
  ·cases h0
  ·rename_i h1;rw[if_neg h1];split at h0
   ·cases h0
   ·rename_i h2;rw[if_neg h2]
 have DC:=h.wf.take t;rw[hg]at fy DC ⊢;have fw:Bx w.heap.size (.int .i64 t.kind) (.string ⟨t.name.toArray⟩) (.slice ai t.d_.length ac) (.string ⟨t.text.toArray⟩) (.int .i64 t.at_) (w.alloc (iD t (.slice ai t.d_.length ac))):=oG (eL w _);obtain⟨b0,b1,b2,b3,b4⟩:=fw;have hput:∀w1 kC n,GQ A F K S X w (w.alloc (iD t (.slice ai t.d_.length ac))).drew w1 g n nv kC av kv->Z4 33 #[Z8 X,.agg #[.string ⟨t.name.toArray⟩,.slice ai t.d_.length ac,.string ⟨#[]⟩,.slice none 0 0,.int .i64 0]] w1 fun e w'=>e=.returned (.int .i64 g.nodes.length)/\∃kq jS j9,jU A (Grow K w1 w') X w' (g.put (elemOf t)) kq jS j9 kC (.bool n.gw)/\Frame (fun k=>k=X\/K k) w1 w':=fun w1 kC n q=>
  FQ q.mG h.wf h.kids (elemOf t) (.slice ai t.d_.length ac) 0 (q.attr h ha nu) nu rfl hb
 have kh:∀w1 w2 kC kq jS j9,GQ A F K S X w (w.alloc (iD t (.slice ai t.d_.length ac))).drew w1 g (Gr.nest { (g.put (elemOf t))with stack:=g.nodes.length::g.stack}) nv kC av kv->jU A (Grow K w1 w2) X w2 (g.put (elemOf t)) kq jS j9 kC (.bool (Gr.nest { (g.put (elemOf t))with stack:=g.nodes.length::g.stack}).gw)->Frame (fun k=>k=X\/K k) w1 w2->
   wl A F X w (0,{ (g.put (elemOf t))with stack:=g.nodes.length::g.stack}) (.returned (.int .i64 0)) (w2.setCell ⟨X,3,none⟩ (.int .i64 g.nodes.length)):=fun w1 w2 kC kq jS j9 q r f=>by
  have r3:=r.top (g.nodes.length::g.stack) (g.nodes.length:Int) rfl;have f3:Frame (fun k=>k=X\/K k) w1 (w2.setCell ⟨X,3,none⟩ (.int .i64 g.nodes.length)):=f.trans' (zr w2 3 _);have hz2:(w2.setCell ⟨X,3,none⟩ (.int .i64 g.nodes.length)).heap.size=w2.heap.size:=by simp[World.setCell]
  have r4:jU A (Grow K w1 (w2.setCell ⟨X,3,none⟩ (.int .i64 g.nodes.length))) X (w2.setCell ⟨X,3,none⟩ (.int .i64 g.nodes.length)) { (g.put (elemOf t))with stack:=g.nodes.length::g.stack} kq jS j9 kC _:=
   q.mG.next (g':={ (g.put (elemOf t))with stack:=g.nodes.length::g.stack}) f3 r3.nodes (fun k _ x=>x.imp id fun y=>⟨y.1,by rw[hz2];exact y.2⟩) r3.blk
  refine h.ends q r4 f3 (h.kids.put (elemOf t) rfl) DC (fun e=>?_);have:=ve g (elemOf t);have e':(g.put (elemOf t)).nodes=[]:=e;rw[e']at this;cases this
 have hcell:∀w2 kq jS j9 kC rv1 K2,jU A K2 X w2 (g.put (elemOf t)) kq jS j9 kC rv1->(∃v,w2.cell? ⟨X,3,none⟩=some v)/\w2.frozen? ⟨X,3,none⟩=false:=fun w2 kq jS j9 kC rv1 K2 r=>⟨⟨_,r.cell 3 rfl⟩,eR r.blk⟩
 unfold mU e8 at fy ⊢;unfold iD at*
 have li:(t.kind==1)=true:=by simpa using hk
 clear hk;have HC:=a_ fy;have HF:=a_ kh;have HP:=a_ hput;have HQ:=a_ hcell;clear fy kh h0 h hput hcell hg DC ha nu;generalize Gr.nest { (g.put (elemOf t))with stack:=g.nodes.length::g.stack}=nn at*
 go_enter func17,ntmps17;go_wp2_with fail;go_region_held3 (fun W=>W.cell? ⟨w.heap.size,0,none⟩=some (.int .i64 t.kind)/\W.cell? ⟨w.heap.size,1,none⟩=some (.string ⟨t.name.toArray⟩)/\W.cell? ⟨w.heap.size,2,none⟩=some (.slice ai t.d_.length ac)/\W.cell? ⟨w.heap.size,3,none⟩=some (.string ⟨t.text.toArray⟩)/\W.cell? ⟨w.heap.size,4,none⟩=some (.int .i64 t.at_))
  (first|exact⟨b0,b1,b2,b3,b4⟩|exact oG (t:=t) hb1)
  (first|(go_at_call 32;refine HC.out.mono ?_;rintro e w1 ⟨rfl,kC,gq,hb1⟩))
 all_goals
  have hp:=HP.out _ _ _ gq;have hb2:=oG (t:=t) (va:=.slice ai t.d_.length ac) hb1;obtain⟨d0,d1,d2,d3,d4⟩:=hb2;have U0:=a_ gq;clear gq b0 b1 b2 b3 b4 hb1;go_wp2_with(go_at_call 33;refine hp.mono ?_;rintro e w2 ⟨rfl,kq,jS,j9,r2,f2⟩;obtain⟨⟨v3,c3⟩,f3⟩:=HQ.out _ _ _ _ _ _ _ r2;have R2:=a_ r2;have F2:=a_ f2;clear r2 f2);go_ret;exact HF.out _ _ _ _ _ _ U0.out R2.out F2.out
end
section
variable{A K S F:Nat->Prop}{w w0 w' w1 w2:World}{nv sv rv:Value}{av kv:Nat->Value}{g:Gr}{X:Nat}
theorem M3{nv sv:Value}{av kv:Nat->Value}(h:GP A F K S X w g nv sv av kv)(t:Tok)(ai:Option Addr)(ac:Nat)(hz:t.text.length<=9223372036854775807)(h0:(g.take t).1=0)(hk:t.kind=2):
  Z4 17 #[Z8 X,mU t (.slice ai t.d_.length ac)] w (wl A F X w (g.take t)):=by
 have fy:=pF h t ai ac hz;obtain⟨k,st,m,hs,hm,l8,hg⟩:∃k st m,g.stack=k::st/\g.nodes[k]?=some m/\m.up=je st/\g.take t=(0,{g with stack:=st}):=by
  unfold Gr.take at h0 ⊢;rw[if_neg (by omega),if_pos hk]at h0 ⊢;cases hs:g.stack with
  |nil=>simp only[hs]at h0;cases h0
  |cons k st=>
   obtain⟨m,hm,l8,_⟩:=h.wf.top hs;simp only[hs]at h0 ⊢;split at h0
   ·rename_i h1;exact⟨k,st,m,rfl,hm,l8,by rw[if_pos h1]⟩
   ·cases h0
 have DC:=h.wf.take t;rw[hg]at fy DC ⊢;have mN:k<g.nodes.length:=(List.getElem?_eq_some_iff.1 hm).1;have fw:Bx w.heap.size (.int .i64 t.kind) (.string ⟨t.name.toArray⟩) (.slice ai t.d_.length ac) (.string ⟨t.text.toArray⟩) (.int .i64 t.at_) (w.alloc (iD t (.slice ai t.d_.length ac))):=oG (eL w _);obtain⟨b0,b1,b2,b3,b4⟩:=fw;have mO:∀w1 kC n,GQ A F K S X w (w.alloc (iD t (.slice ai t.d_.length ac))).drew w1 g n nv kC av kv->∃gN nc,w1.cell? ⟨X,2,none⟩=some (Z9 gN g.nodes.length nc)/\w1.cell? ⟨X,3,none⟩=some (.int .i64 k)/\w1.cell? ⟨gN,k*5+4,none⟩=some (.int .i64 m.up)/\w1.frozen? ⟨X,3,none⟩=false/\gN≠X:=fun w1 kC n q=>by
  obtain⟨gN,nc,qy,hmx,I4,m0,m1,m2,m3,m4⟩:=q.mG.nodes.cells k m hm;refine⟨gN,nc,(q.mG.cell (u:=nv) 2 rfl).trans (by rw[qy]),by rw[q.mG.cell 3 rfl,hs];rfl,m4,eR q.mG.blk,fun e=>q.mG.nK (e▸I4)⟩
 have kh:∀w1 kC,GQ A F K S X w (w.alloc (iD t (.slice ai t.d_.length ac))).drew w1 g (Gr.nest {g with stack:=st}) nv kC av kv->
   wl A F X w (0,{g with stack:=st}) (.returned (.int .i64 0)) (w1.setCell ⟨X,3,none⟩ (.int .i64 m.up)).drew:=fun w1 kC q=>by
  have r3:=(q.mG.top st m.up l8).keep ((eN.refl _).drewN 1);have f3:Frame (fun k=>k=X\/K k) w1 (w1.setCell ⟨X,3,none⟩ (.int .i64 m.up)).drew:=(zr w1 3 _).trans' (Frame.drew' _);have r4:=q.mG.next (g':={g with stack:=st}) f3 r3.nodes (fun k _ x=>Or.inl x) r3.blk;refine h.ends q r4 f3 h.kids DC (fun e=>?_);have e':g.nodes=[]:=e;rw[e']at hm;simp at hm
 unfold mU e8 at fy ⊢;unfold iD at*
 have li:(t.kind==1)=false:=by rw[hk];rfl
 have hk2:(t.kind==2)=true:=by simpa using hk
 have UY:(k:Int)<g.nodes.length:=by omega
 have HC:=a_ fy;have HF:=a_ kh;have HQ:=a_ mO;clear fy kh h0 h mO hg DC hs hk l8;generalize Gr.nest {g with stack:=st}=nn at*
 go_enter func17,ntmps17;go_wp2_with fail;go_region_held3 (fun W=>W.cell? ⟨w.heap.size,0,none⟩=some (.int .i64 t.kind)/\W.cell? ⟨w.heap.size,1,none⟩=some (.string ⟨t.name.toArray⟩)/\W.cell? ⟨w.heap.size,2,none⟩=some (.slice ai t.d_.length ac)/\W.cell? ⟨w.heap.size,3,none⟩=some (.string ⟨t.text.toArray⟩)/\W.cell? ⟨w.heap.size,4,none⟩=some (.int .i64 t.at_))
  (first|exact⟨b0,b1,b2,b3,b4⟩|exact oG (t:=t) hb1)
  (first|(go_at_call 32;refine HC.out.mono ?_;rintro e w1 ⟨rfl,kC,gq,hb1⟩))
 all_goals
  have hb2:=oG (t:=t) (va:=.slice ai t.d_.length ac) hb1;obtain⟨d0,d1,d2,d3,d4⟩:=hb2;obtain⟨gN,nc,c2,c3,c4,f3,hgX⟩:=HQ.out _ _ _ gq;have U0:=a_ gq;clear gq b0 b1 b2 b3 b4 hb1;go_wp2_with fail;go_region_law (fail);all_goals
   go_wp2;go_ret;exact HF.out _ _ U0.out
theorem M4{nv sv:Value}{av kv:Nat->Value}(h:GP A F K S X w g nv sv av kv)(hb:g.nodes.length<=17179869184)(t:Tok)(ai:Option Addr)(ac:Nat)(hz:t.text.length<=9223372036854775807)(h0:(g.take t).1=0)(li:t.kind≠1)(hk2:t.kind≠2)(k:Nat)(st:List Nat)(hs:g.stack=k::st):
  Z4 17 #[Z8 X,mU t (.slice ai t.d_.length ac)] w (wl A F X w (g.take t)):=by
 have fy:=pF h t ai ac hz;have hg:g.take t=(0,g.put (jo t)):=by
  unfold Gr.take;rw[if_neg li,if_neg hk2];simp only[hs]
 have DC:=h.wf.take t;rw[hg]at fy DC ⊢;have fw:Bx w.heap.size (.int .i64 t.kind) (.string ⟨t.name.toArray⟩) (.slice ai t.d_.length ac) (.string ⟨t.text.toArray⟩) (.int .i64 t.at_) (w.alloc (iD t (.slice ai t.d_.length ac))):=oG (eL w _);obtain⟨b0,b1,b2,b3,b4⟩:=fw;have hput:∀w1 kC n,GQ A F K S X w (w.alloc (iD t (.slice ai t.d_.length ac))).drew w1 g n nv kC av kv->Z4 33 #[Z8 X,.agg #[.string ⟨#[]⟩,.slice none 0 0,.string ⟨t.text.toArray⟩,.slice none 0 0,.int .i64 0]] w1 fun e w'=>e=.returned (.int .i64 g.nodes.length)/\∃kq jS j9,jU A (Grow K w1 w') X w' (g.put (jo t)) kq jS j9 kC (.bool n.gw)/\Frame (fun k=>k=X\/K k) w1 w':=fun w1 kC n q=>
  FQ q.mG h.wf h.kids (jo t) (.slice none 0 0) 0 ⟨rfl,Or.inl ⟨rfl,rfl⟩⟩ (fun k e=>by cases e) rfl hb
 have mO:∀w1 kC n,GQ A F K S X w (w.alloc (iD t (.slice ai t.d_.length ac))).drew w1 g n nv kC av kv->w1.cell? ⟨X,3,none⟩=some (.int .i64 k):=fun w1 kC n q=>by rw[q.mG.cell 3 rfl,hs];rfl
 have kh:∀w1 w2 kC kq jS j9,GQ A F K S X w (w.alloc (iD t (.slice ai t.d_.length ac))).drew w1 g (g.put (jo t)).nest nv kC av kv->jU A (Grow K w1 w2) X w2 (g.put (jo t)) kq jS j9 kC (.bool (g.put (jo t)).nest.gw)->Frame (fun k=>k=X\/K k) w1 w2->
   wl A F X w (0,g.put (jo t)) (.returned (.int .i64 0)) w2:=fun w1 w2 kC kq jS j9 q r f=>by
  refine h.ends q r f (h.kids.put (jo t) rfl) DC (fun e=>?_);have:=ve g (jo t);rw[e]at this;cases this
 unfold mU e8 at fy ⊢;unfold iD at*
 have e1:(t.kind==1)=false:=by simpa using li
 have e2:(t.kind==2)=false:=by simpa using hk2
 have hkn:((k:Int) != -1)=true:=by simp
 have HC:=a_ fy;have HF:=a_ kh;have HP:=a_ hput;have HQ:=a_ mO;clear fy kh h0 h hput mO hg DC hs li hk2;generalize (g.put (jo t)).nest=nn at*
 go_enter func17,ntmps17;go_wp2_with fail;go_region_held3 (fun W=>W.cell? ⟨w.heap.size,0,none⟩=some (.int .i64 t.kind)/\W.cell? ⟨w.heap.size,1,none⟩=some (.string ⟨t.name.toArray⟩)/\W.cell? ⟨w.heap.size,2,none⟩=some (.slice ai t.d_.length ac)/\W.cell? ⟨w.heap.size,3,none⟩=some (.string ⟨t.text.toArray⟩)/\W.cell? ⟨w.heap.size,4,none⟩=some (.int .i64 t.at_))
  (first|exact⟨b0,b1,b2,b3,b4⟩|exact oG (t:=t) hb1)
  (first|(go_at_call 32;refine HC.out.mono ?_;rintro e w1 ⟨rfl,kC,gq,hb1⟩))
 all_goals
  have hp:=HP.out _ _ _ gq;have hb2:=oG (t:=t) (va:=.slice ai t.d_.length ac) hb1;obtain⟨d0,d1,d2,d3,d4⟩:=hb2;have c3:=HQ.out _ _ _ gq;have U0:=a_ gq;clear gq b0 b1 b2 b3 b4 hb1;go_wp2_with(go_at_call 33;refine hp.mono ?_;rintro e w2 ⟨rfl,kq,jS,j9,r2,f2⟩;have R2:=a_ r2;have F2:=a_ f2;clear r2 f2);go_ret;exact HF.out _ _ _ _ _ _ U0.out R2.out F2.out
theorem Jd{nv sv:Value}{av kv:Nat->Value}(h:GP A F K S X w g nv sv av kv)(t:Tok)(ai:Option Addr)(ac:Nat)(hz:t.text.length<=9223372036854775807)(h0:(g.take t).1=0)(li:t.kind≠1)(hk2:t.kind≠2)(hs:g.stack=[]):
  Z4 17 #[Z8 X,mU t (.slice ai t.d_.length ac)] w (wl A F X w (g.take t)):=by
 have fy:=pF h t ai ac hz;have hg:g.take t=(0,g):=by
  unfold Gr.take at h0 ⊢;rw[if_neg li,if_neg hk2]at h0 ⊢;simp only[hs]at h0 ⊢;split at h0
  ·rename_i h1;rw[if_pos h1]
  ·cases h0
 rw[hg]at fy ⊢;have fw:Bx w.heap.size (.int .i64 t.kind) (.string ⟨t.name.toArray⟩) (.slice ai t.d_.length ac) (.string ⟨t.text.toArray⟩) (.int .i64 t.at_) (w.alloc (iD t (.slice ai t.d_.length ac))):=oG (eL w _);obtain⟨b0,b1,b2,b3,b4⟩:=fw;have mO:∀w1 kC n,GQ A F K S X w (w.alloc (iD t (.slice ai t.d_.length ac))).drew w1 g n nv kC av kv->w1.cell? ⟨X,3,none⟩=some (.int .i64 (-1)):=fun w1 kC n q=>by rw[q.mG.cell 3 rfl,hs];rfl
 have kh:∀w1 kC,GQ A F K S X w (w.alloc (iD t (.slice ai t.d_.length ac))).drew w1 g g.nest nv kC av kv->wl A F X w (0,g) (.returned (.int .i64 0)) w1:=fun w1 kC q=>h.same q (eN.refl w1);unfold mU e8 at fy ⊢;unfold iD at*
 have e1:(t.kind==1)=false:=by simpa using li
 have e2:(t.kind==2)=false:=by simpa using hk2
 have HC:=a_ fy;have HF:=a_ kh;have HQ:=a_ mO;clear fy kh h0 h mO hg hs li hk2;generalize g.nest=nn at*
 go_enter func17,ntmps17;go_wp2_with fail;go_region_held3 (fun W=>W.cell? ⟨w.heap.size,0,none⟩=some (.int .i64 t.kind)/\W.cell? ⟨w.heap.size,1,none⟩=some (.string ⟨t.name.toArray⟩)/\W.cell? ⟨w.heap.size,2,none⟩=some (.slice ai t.d_.length ac)/\W.cell? ⟨w.heap.size,3,none⟩=some (.string ⟨t.text.toArray⟩)/\W.cell? ⟨w.heap.size,4,none⟩=some (.int .i64 t.at_))
  (first|exact⟨b0,b1,b2,b3,b4⟩|exact oG (t:=t) hb1)
  (first|(go_at_call 32;refine HC.out.mono ?_;rintro e w1 ⟨rfl,kC,gq,hb1⟩))
 all_goals
  have hb2:=oG (t:=t) (va:=.slice ai t.d_.length ac) hb1;obtain⟨d0,d1,d2,d3,d4⟩:=hb2;have c3:=HQ.out _ _ _ gq;have U0:=a_ gq;clear gq b0 b1 b2 b3 b4 hb1;go_wp2;go_ret;exact HF.out _ _ U0.out
theorem M5(h:GR A F X w g)(hb:g.nodes.length<=17179869184)(t:Tok)(va:Value)(hz:t.text.length<=9223372036854775807)(ha:w.ownsRow 0 326 2 va t.d_.length (eQ t.d_))(nu:∀k,va.ownBlock=some k->A k):
  Z4 17 #[Z8 X,mU t va] w (wl A F X w (g.take t)):=by
 obtain⟨K,S,nv,sv,av,kv,p⟩:=h.parts;obtain⟨ai,ac,rfl⟩:=eF ha;by_cases h0:(g.take t).1=0
 ·by_cases li:t.kind=1
  ·exact M2 p hb t ai ac hz ha nu h0 li
  ·by_cases hk2:t.kind=2
   ·exact M3 p t ai ac hz h0 hk2
   ·cases hs:g.stack with
    |nil=>exact Jd p t ai ac hz h0 li hk2 hs
    |cons k st=>exact M4 p hb t ai ac hz h0 li hk2 k st hs
 ·exact Jc p t ai ac hz h0
end
section
variable{A K K':Nat->Prop}{w w' w1:World}{nv v:Value}{av kv:Nat->Value}{g:Gr}{X:Nat}{a:Addr}{l:List Tok}
theorem Ba.atA(h:Ba A w v l)(i:Nat)(hi:i<l.length):∃g cap va,v=Z9 g l.length cap/\w.ownsRow 0 326 2 va (l[i]).d_.length (eQ (l[i]).d_)/\(∀k,va.ownBlock=some k->A k)/\
  w.cell? ⟨g,i*5,none⟩=some (.int .i64 (l[i]).kind)/\w.cell? ⟨g,i*5+1,none⟩=some (e8 (l[i]).name)/\w.cell? ⟨g,i*5+2,none⟩=some va/\w.cell? ⟨g,i*5+3,none⟩=some (e8 (l[i]).text)/\w.cell? ⟨g,i*5+4,none⟩=some (.int .i64 (l[i]).at_)/\l.length<=maxLen:=by
 obtain⟨cs,h1,h2,h3⟩:=h;have Oe:=h1;rcases Oe.2 with⟨e,e0⟩|⟨g,cap,cur,e,_,_,Sh,Kz,_⟩
 ·omega
 subst e;have hc:=h1.cells (g:=g) rfl;have key:∀(l:List Tok) (cs:List Value),lH A 0 w fK l cs->∀(i:Nat) (hi:i<l.length),∃va,w.ownsRow 0 326 2 va (l[i]).d_.length (eQ (l[i]).d_)/\(∀k,va.ownBlock=some k->A k)/\cs[i*5]?=some (.int .i64 (l[i]).kind)/\cs[i*5+1]?=some (e8 (l[i]).name)/\cs[i*5+2]?=some va/\cs[i*5+3]?=some (e8 (l[i]).text)/\cs[i*5+4]?=some (.int .i64 (l[i]).at_):=by
  intro l cs h;induction h with
  |nil=>intro i hi;cases hi
  |cons t v l cs ho hf hl ih=>
   intro i hi;cases i with
   |zero=>exact⟨v,ho,fun k e=>(hf k e).1,rfl,rfl,rfl,rfl,rfl⟩
   |succ i=>
    obtain⟨va,a0,b0,a1,a2,a3,a4,a5⟩:=ih i (by simpa using hi);have e1:∀j,(i+1)*5+j=(fk t v).length+(i*5+j):=fun j=>by show _=5+_;omega
    have e2:∀j,(fk t v++cs)[(i+1)*5+j]?=cs[i*5+j]?:=fun j=>by rw[e1,aP (cj _ _),Nat.add_sub_cancel_left]
    exact⟨va,a0,b0,(e2 0).trans a1,(e2 1).trans a2,(e2 2).trans a3,(e2 3).trans a4,(e2 4).trans a5⟩
 obtain⟨va,a0,b0,a1,a2,a3,a4,a5⟩:=key l cs h2 i hi;have up:∀j u,cs[j]?=some u->w.cell? ⟨g,j,none⟩=some u:=fun j u hj=>by
  have:=hc j u hj;rwa[Addr.add_mid,ax]at this
 exact⟨g,cap,va,rfl,a0,b0,up _ _ a1,up _ _ a2,up _ _ a3,up _ _ a4,up _ _ a5,aw Sh Kz⟩
theorem Q9(h:Ba A w v l):∃b c,v=.slice b l.length c/\l.length<=maxLen:=by
 obtain⟨cs,o,_,_⟩:=h;rcases o.2 with⟨rfl,e⟩|⟨g,cap,cur,rfl,_,_,h1,h2,_⟩
 ·rw[e];exact⟨none,0,rfl,aq _⟩
 ·exact⟨_,_,rfl,aw h1 h2⟩
def abC(B:Nat)(w:World)(v:Value)(l:List Nd):Prop:=∃A K av kv,ic 44 326 A K w v l av kv/\(∀k,A k->B<=k)/\(∀k,K k->B<=k)/\(∀k,A k->¬K k)
def zt(w:World)(x:List Nd×Int×Int)(e:Ending)(w':World):Prop:=∃v,e=.returned (.tuple #[v,.int .i64 x.2.1,.int .i64 x.2.2])/\abC w.heap.size w' v x.1/\Z5 w w'/\(x.2.1≠0->v=fK)
structure Start(w:World)(b:ByteArray)(v':Value)(w4:World):Prop where
 ex:∃A,Ba A w4 v' ((eV b).l++(eV b).last)/\(∀k,A k->w.heap.size<=k)
 below:Z5 w w4
 err:∀W,eN w4 W->Z4 18 #[.pointer (some ⟨w.heap.size,0,none⟩)] W fun e w5=>e=.returned (.tuple #[.int .i64 (eV b).err,.int .i64 (eV b).at_])/\Z5 W w5
theorem ym(b:ByteArray)(w:World)(gl:Gl w a)(hb:b.size<=2147483648):
  Z4 15 #[.pointer (some ⟨w.heap.size,0,none⟩),.string b] (w.alloc (.cells pC 110)) fun e w2=>∃v1,e=.returned v1/\
   Z4 16 #[.pointer (some ⟨w.heap.size,0,none⟩)] w2 fun e w3=>∃v2,e=.returned v2/\∃v' w4,(Builtin.append_ #[59,59] 59 #[v1,v2]).run prog w3=.ok v' w4/\Start w b v' w4:=by
 have hsz:=gl.size;have Mj:=Qn gl (.cells pC 110);have lo0:Low (fun k=>k=w.heap.size):=fun k hk e=>by omega
 have hw:=Qj (Mt w) y_ Mj lo0 b (by omega);have hg:=ID y_ b;have ht1:=IE y_ b;have ht2:=IG hg;obtain⟨cr1,cr2,_⟩:=Bi b;refine hw.mono ?_;rintro e w2 ⟨v1,A1,F1,rfl,an1,al1,w_,h1,h2⟩;have hz1:w.heap.size+1<=w2.heap.size:=by have:=w_.size;simp at this;omega
 have YV:∀k,F1 k->w.heap.size<=k:=fun k hk=>(h2 k hk).elim (fun e=>by omega) (fun x=>by have:=x.1;simp at this;omega);have Uo:Low F1:=fun k hk x=>by have:=YV k x;omega
 refine⟨v1,rfl,(Qk al1 hg (Mj.frame w_ lo0) Uo (by omega)).mono ?_⟩;rintro e w3 ⟨v2,A2,F2,rfl,an2,al2,tY,g1,g2⟩;obtain⟨v',w4,A,hrun,VM,al4,b4,hA,hF2⟩:=Qm (x:=PR.new.write b) (y:=(PR.new.write b).1.close) (K:=w.heap.size) (by omega) an1 (fun k hA=>⟨(h1 k hA).1.elim (fun e=>by omega) (fun x=>by have:=x.1;simp at this;omega),(h1 k hA).1.elim (fun e=>by omega) (fun x=>x.2),(h1 k hA).2⟩) YV an2 al2 tY g1 g2 (by omega);have b1:Z5 w (w.alloc (.cells pC 110)):=(Below.refl _ _).alloc (aj _) _;have b2:Below w.heap.size (w.alloc (.cells pC 110)) w2:=w_.up (fun k e=>by omega) (by simp);rw[Bh,cr1]at VM;refine⟨v2,rfl,v',w4,hrun,⟨A,VM,fun k hk=>(hA k hk).1⟩,(b1.trans b2).trans b4,fun W hM=>?_⟩;have hlt:∀k,F2 k->k<w4.heap.size:=fun k hk=>by obtain⟨_,_,mG,_⟩:=al4;exact mG.lt k hk
 have:=XK (al4.keep (fun k hk=>hM.keep k (hlt k hk)) hM.size);rw[cr2]at this;exact this
end
section
variable{A K K':Nat->Prop}{w w' w1 w4 wr:World}{nv v:Value}{av kv:Nat->Value}{g:Gr}{X:Nat}{a:Addr}{l T:List Tok}
structure PI(w4:World)(A:Nat->Prop)(T:List Tok)(wr:World)(k:Nat):Prop where
 ex:∃g Kx,GR A Kx w4.heap.size wr g/\(∀j,Kx j->w4.heap.size<=j)/\grow Gr.zero T=grow g (T.drop k)/\g.nodes.length<=k
 more:eN w4 wr
theorem PI.start(hA:∀k,A k->k<w4.heap.size):PI w4 A T (w4.alloc (.cells #[.slice none 0 0,.bool false,.slice none 0 0,.int .i64 (-1)] 65)) 0:=by refine⟨⟨Gr.zero,fun _=>False,⟨⟨fun _=>False,fun _=>False,fK,_,_,fK,⟨eL w4 _,ic.zero,fun x=>by have:=hA _ x;omega,fun x=>x,fun _ _ x=>x,fun _ x=>x.elim,fun k x=>by have:=hA k x;simp;omega⟩,⟨eL w4 _,rfl,rfl,⟨rfl,Or.inl ⟨rfl,rfl⟩⟩,(fun k e=>by cases e),fun x=>x,fun _ x=>x.elim⟩,fun _ x=>x,fun _ x=>x,fun _ _ x=>x,fun _ x=>x.elim,fun _=>rfl⟩,fun _ x=>x.elim,fun x=>x,fun i m hi=>by simp[Gr.zero]at hi,Gr.Wf.zero⟩,fun _ x=>x.elim,by simp,by simp[Gr.zero]⟩,(eN.refl w4).alloc _⟩
theorem PI.call{k:Nat}(h:PI w4 A T wr k)(hk:k<T.length)(hb:T.length<=17179869184)(hA:∀k,A k->k<w4.heap.size)(va:Value)(hz:(T[k]).text.length<=9223372036854775807)(ha:w4.ownsRow 0 326 2 va (T[k]).d_.length (eQ (T[k]).d_))(nu:∀k,va.ownBlock=some k->A k)(o:Obj):
  Z4 17 #[.pointer (some ⟨w4.heap.size,0,none⟩),mU (T[k]) va] (wr.alloc o) fun e w'=>∃no,e=.returned (.int .i64 no)/\eN w4 w'/\w'.heap[wr.heap.size]?=some o/\(no=0->PI w4 A T w' (k+1))/\(no≠0->(grow Gr.zero T).1=no/\(grow Gr.zero T).2.1=(T[k]).at_):=by
 obtain⟨⟨g,Kx,hg,hKx,hgr,hlen⟩,hM⟩:=h;have hM1:eN wr (wr.alloc o):=(eN.refl wr).alloc o;have wT:=hM.alloc o;have hXr:w4.heap.size<wr.heap.size:=hg.blk;have hdrop:T.drop k=T[k]::T.drop (k+1):=(bT hk)
 refine(M5 (hg.keep hM1) (by omega) (T[k]) va hz (eH ha fun b e=>wT.keep b (eW ha e)) nu).mono ?_;rintro e w' ⟨rfl,r,fr⟩;have hM3:eN w4 w':=⟨fr.os.trans wT.os,fr.tape.trans wT.tape,fr.output.trans wT.output,aw wT.size fr.size,fun b hb2=>by
  rw[fr.block b (ah hb2 wT.size) (fun x=>by
   rcases x with e|e
   ·omega
   ·have:=hKx b e;omega)]
  exact wT.keep b hb2⟩
 have abD:∀j,Kx j->j<wr.heap.size:=hg.lt;refine⟨_,rfl,hM3,?_,fun h0=>?_,fun hn=>?_⟩
 ·rw[fr.block wr.heap.size (by simp) (fun x=>by
   rcases x with e|e
   ·omega
   ·have:=abD _ e;omega)]
  exact eL wr o
 ·refine⟨⟨_,_,r,?_,?_,?_⟩,hM3⟩
  ·rintro j (e|e)
   ·exact hKx j e
   ·have:=e.1;simp at this;omega
  ·rw[hgr,hdrop];simp only[grow];rw[if_neg (by simpa using h0)]
  ·have:(g.take (T[k])).2.nodes.length<=g.nodes.length+1:=by
    unfold Gr.take;split
    ·split
     ·simp
     ·split
      ·simp
      ·simp only[mH];omega
    ·split
     ·split
      ·simp
      ·split<;>simp
     ·split
      ·split<;>simp
      ·rw[mH];omega
   omega
 ·rw[hgr,hdrop];simp only[grow];rw[if_pos hn];exact⟨rfl,rfl⟩
end
section
variable{A K K':Nat->Prop}{w w' w1 w4 wr:World}{nv v:Value}{av kv:Nat->Value}{g:Gr}{X:Nat}{a:Addr}{l T:List Tok}
theorem PI.over(h:PI w4 A T wr T.length):∃g Kx,GR A Kx w4.heap.size wr g/\(∀j,Kx j->w4.heap.size<=j)/\grow Gr.zero T=(0,0,g):=by
 obtain⟨⟨g,Kx,h1,h2,h3,_⟩,_⟩:=h;refine⟨g,Kx,h1,h2,?_⟩;rw[h3,dx];rfl
theorem zu{no q:Int}(b4:Z5 w w4)(hM:eN w4 w')(hn:no≠0):zt w ([],no,q) (.returned (.tuple #[.slice none 0 0,.int .i64 no,.int .i64 q])) w':=
 ⟨fK,rfl,⟨fun _=>False,fun _=>False,_,_,ic.zero,fun _ x=>x.elim,fun _ x=>x.elim,fun _ x=>x.elim⟩,b4.trans ⟨hM.os,hM.tape,hM.output,hM.size,fun k hk=>hM.keep k (ah hk b4.size)⟩,fun _=>rfl⟩
structure Says(b:ByteArray)(T:List Tok)(Dp Sv:Int):Prop where
 tok:(grow Gr.zero T).1≠0->fj b=([],(grow Gr.zero T).1,(grow Gr.zero T).2.1)
 err:(grow Gr.zero T).1=0->Dp≠0->fj b=([],Dp,Sv)
 form:(grow Gr.zero T).1=0->Dp=0->((grow Gr.zero T).2.2.stack≠[]\/(grow Gr.zero T).2.2.nodes=[])->fj b=([],3,(b.size:Int))
 ok:(grow Gr.zero T).1=0->Dp=0->(grow Gr.zero T).2.2.stack=[]->(grow Gr.zero T).2.2.nodes≠[]->fj b=((grow Gr.zero T).2.2.nodes,0,0)
theorem says(b:ByteArray):Says b ((eV b).l++(eV b).last) (eV b).err (eV b).at_:=by
 refine⟨fun h=>?_,fun h h2=>?_,fun h h2 h3=>?_,fun h h2 h3 h4=>?_⟩
 ·unfold fj;rw[if_pos h]
 ·unfold fj;rw[if_neg (by simpa using h),if_pos h2]
 ·unfold fj;rw[if_neg (by simpa using h),if_neg (by simpa using h2),if_pos h3]
 ·unfold fj;rw[if_neg (by simpa using h),if_neg (by simpa using h2),if_neg (by rintro(e|e);exact e h3;exact h4 e)]
theorem Je(b:ByteArray)(w:World)(gl:Gl w a)(hb:b.size<=2147483648)(hlen:((eV b).l++(eV b).last).length<=17179869184)(QK:∀t∈(eV b).l++(eV b).last,t.text.length<=9223372036854775807):Z4 8 #[.string b] w (zt w (fj b)):=by
 have hst:=ym b w gl hb;have OG:=G_ w;have Q_:=says b;have HST:=a_ hst;have Ag:=a_ Q_;have X4:=a_ hlen;have HTX:=a_ QK;clear hst gl Q_ hlen QK;go_enter func8,ntmps8;go_wp2_with(first|(go_at_call 14;refine OG.mono ?_;rintro e wn ⟨rfl,rfl⟩)|(go_at_call 15;refine HST.out.mono ?_;rintro e w2 ⟨v1,rfl,Ap⟩)|(go_at_call 16;refine Ap.mono ?_;rintro e w3 ⟨v2,rfl,v',w4,hrun,Sw⟩;have Qp:=Sw.err;have hb4:=Sw.below;obtain⟨A4,VM,hA4⟩:=Sw.ex;generalize (eV b).l++(eV b).last=T at*;generalize (eV b).err=Dp at*;generalize (eV b).at_=Sv at*;obtain⟨bl,cl,el,hmx⟩:=Q9 VM;subst el;have AN4:=a_ VM;have HA4:=a_ hA4;have HMX:=a_ hmx;have HER:=a_ Qp;have B4:=a_ hb4;clear Sw VM hA4 hmx Qp hb4 Ap HST)|(at_builtin;refine IJ rfl (.tmp 16) (.tmp 18) rfl rfl _ _ rfl rfl hrun ?_));go_loopw [9,10,23] (fun _ _ iv wr=>∃k:Nat,iv=.int .i64 k/\k<=T.length/\PI w4 (fun j=>A4 j/\j<w4.heap.size) T wr k) (fun _ _ iv _=>T.length-(RowKit.intOf iv).toNat)
 case atStart=>exact⟨0,rfl,aq _,PI.start (fun k x=>x.2)⟩
 case round=>
  obtain⟨k,rfl,hk,Ra⟩:=hrel;by_cases mN:k<T.length
  ·have hdec:decide ((k:Int)<T.length)=true:=by simp;omega
   have zv:decide (k<T.length)=true:=by simp;omega
   have UY:(k:Int)<T.length:=by omega
   have UO:(T.length:Int)<=9223372036854775807:=by have:=HMX.out;have:maxLen=9223372036854775807:=rfl;omega
   obtain⟨gT,cT,va,eT,oa,oA,x0,x1,x2,x3,x4,_⟩:=AN4.out.atA k mN;have fy:=fun o=>Ra.call mN X4.out (fun j x=>x.2) va (HTX.out _ (bR mN)) oa (fun j e=>⟨oA j e,eW oa e⟩) o;obtain⟨ai,ac,ng⟩:=eF oa;cases eT;have hlt:gT<w4.heap.size:=aU w4 _ x0;subst ng;unfold e8 at x1 x3;unfold mU e8 at fy;have y0:=(ag (a:=⟨gT,k*5,none⟩) (Ra.more.keep gT hlt)).trans x0;have y1:=(ag (a:=⟨gT,k*5+1,none⟩) (Ra.more.keep gT hlt)).trans x1;have y2:=(ag (a:=⟨gT,k*5+2,none⟩) (Ra.more.keep gT hlt)).trans x2;have y3:=(ag (a:=⟨gT,k*5+3,none⟩) (Ra.more.keep gT hlt)).trans x3;have y4:=(ag (a:=⟨gT,k*5+4,none⟩) (Ra.more.keep gT hlt)).trans x4;have HC:=a_ fy;have HPI:=a_ Ra;clear fy Ra oa oA x0 x1 x2 x3 x4;generalize T[k]=t at*
   go_wp2_with fail;refine(HC.out _).mono ?_;rintro e w5 ⟨no,rfl,hM5,fw,iM,oM⟩;by_cases h0:no=0
   ·have hp5:=iM h0;subst h0;have HP5:=a_ hp5;clear iM oM fw hM5 hp5;go_wp2
    go_roundw
    case rel=>exact⟨k+1,by simp,by omega,HP5.out⟩
    case measure=>simp only[RowKit.intOf];omega
   ·have hne:(no !=0)=true:=by simpa using h0
    have z4:=cell_of (i:=4) fw rfl;have HB:=a_ (oM h0);have HM5:=a_ hM5;have H0:=a_ h0;clear iM oM fw hM5 h0;go_wp2_with fail;go_quiet(fail);go_wp2
    go_ret3
    have hq:=HB.out;have X5:=Ag.out.tok (by rw[hq.1];exact H0.out);rw[X5,hq.1,hq.2];exact zu B4.out (HM5.out.drewN _) H0.out
  ·have hdec:decide ((k:Int)<T.length)=false:=by simp;omega
   have zv:decide (k<T.length)=false:=by simp;omega
   have he:k=T.length:=by omega
   subst he;have hM:=Ra.more;obtain⟨g,Kx,hg,hKx,hgr⟩:=Ra.over;have h10:(grow Gr.zero T).1=0:=by rw[hgr]
   have H10:=a_ h10;have HG:=a_ hg;have Hq:=a_ hgr;have HKX:=a_ hKx;have vg:=a_ hM;clear Ra hg hgr hKx hM h10;by_cases h0:Dp=0
   ·subst h0;obtain⟨Kg,Sg,nv,sv,av,kv,p⟩:=HG.out.parts;have hall:∀W,eN wr W->∃A' K',ic 44 326 A' K' W nv g.nodes av kv/\(∀j,A' j->w.heap.size<=j)/\(∀j,K' j->w.heap.size<=j)/\(∀j,A' j->¬K' j):=fun W hW=>⟨_,_,hW.nodes p.mG.nodes,fun j x=>HA4.out j x.1,fun j x=>aw B4.out.size (HKX.out j (p.kF j x)),p.mG.sq⟩
    have Rb:∀W,eN wr W->Z4 19 #[.pointer (some ⟨w4.heap.size,0,none⟩)] W fun e w'=>e=.returned (.bool (g.nest.gw&&decide (g.nest.names.length=0)))/\eN W w':=fun W hW=>p8 (p.nest.keep hW);have Rc:∀W,eN wr W->W.cell? ⟨w4.heap.size,2,none⟩=some nv:=fun W hW=>(p.mG.keep hW).cell 2 rfl;have Sn:(g.nest.gw&&decide (g.nest.names.length=0))=true↔(g.stack=[]/\g.nodes≠[]):=by simp[Gr.nest,Gr.names,and_comm]
    have X7:=a_ hall;have HWH:=a_ Rb;have HND:=a_ Rc;clear hall Rb Rc p;generalize (g.nest.gw&&decide (g.nest.names.length=0))=wb at*
    cases wb with
    |false=>
     have X5:=Ag.out.form H10.out rfl (by
      rw[Hq.out];by_cases e:g.stack=[]
      ·exact Or.inr (bJ fun e2=>by simpa using Sn.2 ⟨e,e2⟩)
      ·exact Or.inl e)
     clear Sn;go_wp2_with fail;refine(HER.out _ vg.out).mono ?_;rintro e w5 ⟨rfl,b5⟩;have hw5:=HWH.out w5 (j8 b5);have B5:=a_ b5;clear b5;go_wp2_with(go_at_call 19;refine hw5.mono ?_;rintro e w6 ⟨rfl,m6⟩;have M6:=a_ m6;clear m6)
     go_ret3
     rw[X5];exact zu B4.out ((vg.out.trans (j8 B5.out)).trans M6.out) (by decide)
    |true=>
     obtain⟨hs,K5⟩:=Sn.1 rfl;have X5:=Ag.out.ok H10.out rfl (by rw[Hq.out];exact hs) (by rw[Hq.out];exact K5);rw[Hq.out]at X5;have HSY:=a_ X5;clear Sn hs K5 X5;go_wp2_with fail;refine(HER.out _ vg.out).mono ?_;rintro e w5 ⟨rfl,b5⟩;have hw5:=HWH.out w5 (j8 b5);have B5:=a_ b5;clear b5;go_wp2_with(go_at_call 19;refine hw5.mono ?_;rintro e w6 ⟨rfl,m6⟩;have c0:=HND.out w6 ((j8 B5.out).trans m6);have M6:=a_ m6;clear m6)
     go_ret3
     rw[HSY.out];have hM6:=(j8 B5.out).trans M6.out;obtain⟨A',K',q1,q2,q3,q4⟩:=X7.out w6 hM6;have hM7:=vg.out.trans hM6;have zG:Z5 w w6:=B4.out.trans ⟨hM7.os,hM7.tape,hM7.output,hM7.size,fun j hj=>hM7.keep j (ah hj B4.out.size)⟩;exact⟨_,rfl,⟨A',K',av,kv,q1,q2,q3,q4⟩,zG,fun h=>absurd rfl h⟩
   ·have hne:(Dp !=0)=true:=by simpa using h0
    have H0:=a_ h0;clear h0;go_wp2_with fail;refine(HER.out _ vg.out).mono ?_;rintro e w5 ⟨rfl,b5⟩;have B5:=a_ b5;clear b5;go_wp2_with fail
    go_ret3
    rw[Ag.out.err H10.out H0.out];exact zu B4.out (vg.out.trans (j8 B5.out)) H0.out
end
end K
end Go.Proofs.YthlcmljckpdheaaGreatDoor
namespace Go.Proofs.YthlcmljckpdheaaGreatDoor
namespace K
open Go.RowKit Go.Lib Tryz
theorem qJ{a:Addr}(b:ByteArray)(w:World)(gl:Gl w a)(hb:b.size<=268435456):Z4 8 #[.string b] w (zt w (fj b)):=
 Je b w gl (by omega) (by have:=Bv b;omega) (fun t h=>by have:=zq b t h;omega)
end K
end Go.Proofs.YthlcmljckpdheaaGreatDoor
