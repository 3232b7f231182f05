import Derived.Test.YtclgfepngpeifaaGreatDoorYA
import Derived.Test.YtclgfepngpeifaaGreatDoorYav
import Derived.Test.YtclgfepngpeifaaGreatDoorYau
import Derived.Test.YtclgfepngpeifaaGreatDoorYas
set_option linter.unusedVariables false
set_option linter.unusedSimpArgs false
set_option maxHeartbeats 32000000
set_option maxRecDepth 100000
namespace Go.Proofs.YtclgfepngpeifaaGreatDoor
namespace K
open Go.RowKit Go.Maps Go.Lib Tryz
section
variable{A K S F:Nat->Prop}{w w0 w' w1 w2:World}{nv sv rv:Value}{av kv:Nat->Value}{g:Gr}{X:Nat}
def Gr.nameAt(g:Gr)(k:Nat):List UInt8:=((g.nodes[k]?).map Nd.name).getD []
def Gr.names(g:Gr):List (List UInt8):=(g.stack.map g.nameAt).reverse
def Gr.nest(g:Gr):oL:=⟨g.names,!g.nodes.isEmpty⟩
theorem B_(g:Gr)(wf:g.Wf)(n:Nd):g.stack.map (g.put n).nameAt=g.stack.map g.nameAt:=by
 refine List.map_congr_left fun k hk=>?_;have hlt:=wf.LF.lt k hk;unfold Gr.nameAt;rw[QC g n k hlt]
theorem uT(g:Gr)(n:Nd):(g.put n).nodes.isEmpty=false:=by
 cases h:(g.put n).nodes with
 |nil=>have:=lV g n;rw[h]at this;simp at this
 |cons a l=>rfl
theorem Ng(wf:g.Wf)(t:fe):g.nest.take t=((g.take t).1,(g.take t).2.nest):=by
 have hlen:g.names.length=g.stack.length:=by simp[Gr.names]
 have hnil:g.names=[]↔g.stack=[]:=by simp[Gr.names]
 unfold oL.take Gr.take Gr.nest;simp only[hnil,hlen];by_cases h1:t.kind=1
 ·rw[if_pos h1,if_pos h1];by_cases h2:g.stack=[]/\g.nodes≠[]
  ·rw[if_pos ⟨by cases hg:g.nodes with|nil=>exact absurd hg h2.2|cons a l=>rfl,h2.1⟩,if_pos h2]
  ·rw[if_neg (fun e=>h2 ⟨e.2,fun x=>by rw[x]at e;simp at e⟩),if_neg h2];by_cases h3:30<=g.stack.length
   ·rw[if_pos h3,if_pos h3]
   ·rw[if_neg h3,if_neg h3];have e1:(g.put (elemOf t)).nodes.isEmpty=false:=uT _ _;have e2:Gr.names { (g.put (elemOf t))with stack:=g.nodes.length::g.stack}=g.names++[t.name]:=by
     have e3:(g.put (elemOf t)).nameAt g.nodes.length=t.name:=by unfold Gr.nameAt;rw[qH];rfl
     have e4:=B_ g wf (elemOf t);unfold Gr.names;have e5:Gr.nameAt { (g.put (elemOf t))with stack:=g.nodes.length::g.stack}=(g.put (elemOf t)).nameAt:=rfl;simp only[bO,dQ,e5];rw[e3,e4]
    rw[e2];simp only[e1];rfl
 ·rw[if_neg h1,if_neg h1];by_cases h2:t.kind=2
  ·rw[if_pos h2,if_pos h2];cases hs:g.stack with
   |nil=>
    have e:g.names=[]:=hnil.2 hs;rw[e,if_neg (by simp)]
   |cons k st=>
    obtain⟨m,hm,_,_⟩:=wf.top hs;have e:g.names=(st.map g.nameAt).reverse++[m.name]:=by
     unfold Gr.names;rw[hs];simp only[bO,dQ];have:g.nameAt k=m.name:=by unfold Gr.nameAt;rw[hm];rfl
     rw[this]
    have qR:g.named k t.name=true↔m.name=t.name:=by rw[vS,hm];simp
    simp only;by_cases h3:m.name=t.name
    ·rw[if_pos (by rw[e];simp[h3]),if_pos (qR.2 h3),e,List.dropLast_concat];rfl
    ·rw[if_neg (by rw[e];simpa using h3),if_neg (fun x=>h3 (qR.1 x))]
  ·rw[if_neg h2,if_neg h2];cases hs:g.stack with
   |nil=>
    by_cases h3:gI t.text=true
    ·rw[if_neg (by rw[h3];simp),if_pos h3]
    ·rw[if_pos ⟨rfl,by simpa using h3⟩,if_neg h3]
   |cons k st=>
    rw[if_neg (by simp)];have e1:(g.put (jd t)).nodes.isEmpty=false:=uT _ _;have e2:(g.put (jd t)).names=g.names:=by unfold Gr.names;rw[mG,B_ g wf]
    obtain⟨m,hm,_,hlt⟩:=wf.top hs;have e3:g.nodes.isEmpty=false:=by cases hg:g.nodes with|nil=>rw[hg]at hm;simp at hm|cons a l=>rfl
    simp only[e1,e2,e3]
theorem Js(wf:g.Wf):g.nest.names≠[]->g.nest.fU=true:=by
 intro h;cases hs:g.stack with
 |nil=>exact absurd (by simp[Gr.nest,Gr.names,hs]) h
 |cons k st=>
  obtain⟨m,hm,_,_⟩:=wf.top hs;have:g.nodes.isEmpty=false:=by cases hg:g.nodes with|nil=>rw[hg]at hm;simp at hm|cons a l=>rfl
  simp[Gr.nest,this]
theorem QY(wf:g.Wf):g.nest.names.length<=30:=by
 have:=wf.deep;simpa [Gr.nest,Gr.names]using this
theorem QZ(t:fe)(h:(g.take t).1≠0):(g.take t).2=g:=by
 unfold Gr.take at h ⊢;split
 ·rename_i h1;rw[if_pos h1]at h;split
  ·rfl
  ·rename_i h2;rw[if_neg h2]at h;split
   ·rfl
   ·rename_i h3;rw[if_neg h3]at h;exact absurd rfl h
 ·rename_i h1;rw[if_neg h1]at h;split
  ·rename_i h2;rw[if_pos h2]at h;split
   ·rfl
   ·rename_i k st hs;simp only[hs]at h;split
    ·rename_i h3;rw[if_pos h3]at h;exact absurd rfl h
    ·rfl
  ·rename_i h2;rw[if_neg h2]at h;split
   ·split<;>rfl
   ·rename_i hs;simp only[hs]at h;exact absurd rfl h
structure GR(A F:Nat->Prop)(X:Nat)(w:World)(g:Gr):Prop where
 ex:∃K S nv av kv sv,jF A K X w g nv av kv sv (.bool g.nest.fU)/\NS S X 0 w #[sv,.bool g.nest.fU,nv,.int .i64 (iI g.stack)] 54 sv g.nest.names g.nest.fU/\
  (∀k,K k->F k)/\(∀k,S k->F k)/\(∀k,A k->¬S k)/\(∀k,S k->¬K k)/\(g.nodes=[]->nv=fo)
 lt:∀k,F k->k<w.heap.size
 nF:¬F X
 kids:lA g
 wf:g.Wf
theorem jF.keep{W:World}(h:jF A K X w g nv av kv sv rv)(hM:ed w W):jF A K X W g nv av kv sv rv:=
 ⟨(hM.keep X (dS h.blk)).trans h.blk,hM.nodes h.nodes,h.nA,h.nK,h.rM,fun k x=>aq (h.lt k x) hM.size,fun k x=>aq (h.rZ k x) hM.size⟩
theorem GR.keep{W:World}(h:GR A F X w g)(hM:ed w W):GR A F X W g:=by
 obtain⟨⟨K,S,nv,av,kv,sv,h1,h2,h3⟩,h4,h5,h6,h7⟩:=h;exact⟨⟨K,S,nv,av,kv,sv,h1.keep hM,h2.keep hM,h3⟩,fun k x=>aq (h4 k x) hM.size,h5,h6,h7⟩
theorem GR.blk(h:GR A F X w g):X<w.heap.size:=by
 obtain⟨⟨K,S,nv,av,kv,sv,h1,_⟩,_⟩:=h;exact dS h1.blk
theorem Xp{a b c d a' b':Value}{cs:Array Value}(h:GZ 0 #[a,b,c,d] cs)(h0:cs[0]?=some a')(h1:cs[0+1]?=some b'):cs=#[a',b',c,d]:=by
 obtain⟨hs,ho⟩:=h;have h2:=ho 2 (by decide) (by decide);have h3:=ho 3 (by decide) (by decide);refine Array.ext_getElem? fun j=>?_
 match j with
 |0=>exact h0
 |1=>exact h1
 |2=>exact h2
 |3=>exact h3
 |j+4=>
  rw[Array.getElem?_eq_none (by rw[hs];simp),Array.getElem?_eq_none (by simp)]
theorem jF.nested{cs:Array Value}{KB:Value}{n:oL}{r:Bool}(h:jF A K X w g nv av kv sv (.bool r))(hSA:∀k,A k->¬S k)(Yq:∀k,S k->¬K k)(q:NS (Grow S w w1) X 0 w1 cs 54 KB n.names n.fU)(o:GZ 0 #[sv,.bool r,nv,.int .i64 (iI g.stack)] cs)(fr:Frame (fun k=>k=X\/S k) w w1):
  jF A K X w1 g nv av kv KB (.bool n.fU):=by
 have e:=Xp o q.c0 q.c1;have hb:=q.blk;rw[e]at hb;refine⟨hb,h.nodes.frame (fun k hk hA=>fr.block k hk ?_) (fun k hk hK=>fr.block k hk ?_) (fun _ _ x=>x),h.nA,h.nK,h.rM,fun k x=>aq (h.lt k x) fr.size,fun k x=>aq (h.rZ k x) fr.size⟩
 ·rintro(x|x)
  ·exact h.nA (x▸hA)
  ·exact hSA k hA x
 ·rintro(x|x)
  ·exact h.nK (x▸hK)
  ·exact Yq k x hK
def vV(A F:Nat->Prop)(X:Nat)(w:World)(x:Int×Gr)(e:Ending)(w':World):Prop:=e=.returned (.int .i64 x.1)/\GR A (Grow F w w') X w' x.2/\Frame (fun k=>k=X\/F k) w w'
theorem GR.made{K S:Nat->Prop}{j4 j9:Value}{jh jS:Nat->Value}{cs:Array Value}{g':Gr}{n:oL}(hlt:∀k,F k->k<w.heap.size)(hnF:¬F X)(Yr:∀k,K k->F k)(hSF:∀k,S k->F k)(hAS:∀k,A k->¬S k)(Yq:∀k,S k->¬K k)(hA:∀k,A k->k<w.heap.size)(hX:X<w.heap.size)(m0:ed w w0)(q1:NS (Grow S w0 w1) X 0 w1 cs 54 j9 n.names n.fU)(f1:Frame (fun k=>k=X\/S k) w0 w1)
  (r2:jF A (Grow K w1 w2) X w2 g' j4 jh jS j9 (.bool n.fU)) (f2:Frame (fun k=>k=X\/K k) w1 w2) (hn:n=g'.nest) (kids:lA g') (wf:g'.Wf) (hnil:g'.nodes=[]->j4=fo):GR A (Grow F w w2) X w2 g'/\Frame (fun k=>k=X\/F k) w w2:=by
 subst hn;have s0:=m0.size;have s1:=f1.size;have s2:=f2.size;have fr:Frame (fun k=>k=X\/F k) w w2:=by
  refine⟨f2.os.trans (f1.os.trans m0.os),f2.tape.trans (f1.tape.trans m0.tape),f2.output.trans (f1.output.trans m0.output),by omega,fun k hk hf=>?_⟩;rw[f2.block k (by omega) (fun x=>hf (x.imp id (Yr k))),f1.block k (by omega) (fun x=>hf (x.imp id (hSF k))),m0.keep k hk]
 refine⟨⟨⟨_,Grow S w0 w1,j4,jh,jS,j9,r2,⟨r2.blk,rfl,rfl,dY q1.row fun k e=>f2.block k (eu q1.row e) ?_,q1.own,q1.nX,fun k x=>aq (q1.lt k x) s2⟩,?_,?_,?_,?_,hnil⟩,iA hlt (by omega),?_,kids,wf⟩,fr⟩
 ·have hS:=q1.own k e;rintro(x|x)
  ·exact q1.nX (x▸hS)
  ·rcases hS with y|y
   ·exact Yq k y x
   ·have:=hlt k (Yr k x);omega
 ·rintro k (x|x)
  ·exact Or.inl (Yr k x)
  ·exact Or.inr ⟨by omega,x.2⟩
 ·rintro k (x|x)
  ·exact Or.inl (hSF k x)
  ·exact Or.inr ⟨by omega,by omega⟩
 ·rintro k hk (x|x)
  ·exact hAS k hk x
  ·have:=hA k hk;omega
 ·rintro k (x|x) (y|y)
  ·exact Yq k x y
  ·have:=hlt k (hSF k x);omega
  ·have:=hlt k (Yr k y);omega
  ·omega
 ·rintro(x|x)
  ·exact hnF x
  ·omega
theorem jF.top(h:jF A K X w g nv av kv sv rv)(st:List Nat)(o:Int)(ho:o=iI st):jF A K X (w.setCell ⟨X,3,none⟩ (.int .i64 o)) {g with stack:=st} nv av kv sv rv:=by
 have keep:∀b,b≠X->(w.setCell ⟨X,3,none⟩ (.int .i64 o)).heap[b]?=w.heap[b]?:=fun b hb=>ak _ _ _ _ hb;have hz:(w.setCell ⟨X,3,none⟩ (.int .i64 o)).heap.size=w.heap.size:=by simp[World.setCell]
 refine⟨?_,h.nodes.frame (fun b _ hA=>keep b (fun e=>h.nA (by rw[<-e];exact hA))) (fun b _ hK=>keep b (fun e=>h.nK (by rw[<-e];exact hK))) (fun _ _ x=>x),h.nA,h.nK,h.rM,fun b hb=>by rw[hz];exact h.lt b hb,fun b hb=>by rw[hz];exact h.rZ b hb⟩;rw[ej h.blk _,ho];rfl
theorem zA{P:Nat->Prop}(w1:World)(i:Nat)(a:Value):Frame (fun k=>k=X\/P k) w1 (w1.setCell ⟨X,i,none⟩ a):=
 ⟨rfl,rfl,rfl,by simp[World.setCell],fun k hk hf=>ak _ _ _ _ (fun e=>hf (Or.inl e))⟩
end
section
variable{A K S F:Nat->Prop}{w w0 w' w1 w2:World}{nv sv rv:Value}{av kv:Nat->Value}{g:Gr}{X:Nat}
theorem lA.put(h:lA g)(n:Nd)(hn:n.kids=[]):lA (g.put n):=by
 intro i m hi;rw[lV];unfold Gr.put at hi;split at hi
 ·by_cases h1:i<g.nodes.length
  ·rw[aU h1]at hi;have:=h i m hi;omega
  ·rw[aW (by omega)]at hi;have h2:=(List.getElem?_eq_some_iff.1 hi).1;simp only[aC,aI]at h2;rw[show i-g.nodes.length=0 by omega]at hi;obtain rfl:_=m:=by simpa using hi
   show n.kids.length<=_;rw[hn];simp
 ·rename_i k st hs;by_cases h1:i<g.nodes.length
  ·rw[aU (by rw[fP];exact h1),mF]at hi;by_cases e:i=k
   ·rw[if_pos e]at hi;obtain⟨m',h3,h4⟩:=Option.map_eq_some_iff.1 hi;have:=h i m' h3;rw[<-h4];simp only[Nd.kid,ax,aC,aI];omega
   ·rw[if_neg e]at hi;have:=h i m hi;omega
  ·rw[aW (by rw[fP];omega),fP]at hi;have h2:=(List.getElem?_eq_some_iff.1 hi).1;simp only[aC,aI]at h2;rw[show i-g.nodes.length=0 by omega]at hi;obtain rfl:_=m:=by simpa using hi
   show n.kids.length<=_;rw[hn];simp
structure GP(A F K S:Nat->Prop)(X:Nat)(w:World)(g:Gr)(nv sv:Value)(av kv:Nat->Value):Prop where
 lU:jF A K X w g nv av kv sv (.bool g.nest.fU)
 nest:NS S X 0 w #[sv,.bool g.nest.fU,nv,.int .i64 (iI g.stack)] 54 sv g.nest.names g.nest.fU
 kF:∀k,K k->F k
 sF:∀k,S k->F k
 aS:∀k,A k->¬S k
 sK:∀k,S k->¬K k
 nil:g.nodes=[]->nv=fo
 lt:∀k,F k->k<w.heap.size
 nF:¬F X
 kids:lA g
 wf:g.Wf
theorem GR.parts(h:GR A F X w g):∃K S nv sv av kv,GP A F K S X w g nv sv av kv:=by
 obtain⟨⟨K,S,nv,av,kv,sv,r0,n0,Yr,hSF,hAS,Yq,hnil⟩,hlt,hnF,hk,wf⟩:=h;exact⟨K,S,nv,sv,av,kv,r0,n0,Yr,hSF,hAS,Yq,hnil,hlt,hnF,hk,wf⟩
structure GQ(A F K S:Nat->Prop)(X:Nat)(w w0 w1:World)(g:Gr)(n:oL)(nv j9:Value)(av kv:Nat->Value):Prop where
 more:ed w w0
 ns:∃cs,NS (Grow S w0 w1) X 0 w1 cs 54 j9 n.names n.fU
 fr:Frame (fun k=>k=X\/S k) w0 w1
 lU:jF A K X w1 g nv av kv j9 (.bool n.fU)
theorem GP.behind{nv sv:Value}{av kv:Nat->Value}{n:oL}{x:Int}{e:Ending}(h:GP A F K S X w g nv sv av kv)(m0:ed w w0)(q:nO S X 0 w0 #[sv,.bool g.nest.fU,nv,.int .i64 (iI g.stack)] 54 (x,n) e w1):e=.returned (.int .i64 x)/\∃j9,GQ A F K S X w w0 w1 g n nv j9 av kv:=by
 obtain⟨rfl,cs,j9,q1,q2,q3⟩:=q;exact⟨rfl,j9,m0,⟨cs,q1⟩,q3,(h.lU.keep m0).nested h.aS h.sK q1 q2 q3⟩
theorem GP.ends{nv sv j9 j4:Value}{av kv jh jS:Nat->Value}{g':Gr}{x:Int}(h:GP A F K S X w g nv sv av kv)(q:GQ A F K S X w w0 w1 g g'.nest nv j9 av kv)
  (r2:jF A (Grow K w1 w2) X w2 g' j4 jh jS j9 (.bool g'.nest.fU)) (f2:Frame (fun k=>k=X\/K k) w1 w2) (kids:lA g') (wf:g'.Wf) (hnil:g'.nodes=[]->j4=fo):vV A F X w (x,g') (.returned (.int .i64 x)) w2:=by
 obtain⟨m0,⟨cs,q1⟩,f1,r1⟩:=q;obtain⟨z1,z2⟩:=GR.made h.lt h.nF h.kF h.sF h.aS h.sK h.lU.rZ (dS h.lU.blk) m0 q1 f1 r2 f2 rfl kids wf hnil;exact⟨rfl,z1,z2⟩
theorem GP.same{nv sv j9:Value}{av kv:Nat->Value}{x:Int}(h:GP A F K S X w g nv sv av kv)(q:GQ A F K S X w w0 w1 g g.nest nv j9 av kv)(m2:ed w1 w2):vV A F X w (x,g) (.returned (.int .i64 x)) w2:=by
 have r1:=q.lU;have r2:=(r1.keep m2)
 exact h.ends q (r1.next m2.frame r2.nodes (fun k _ x=>Or.inl x) r2.blk) m2.frame h.kids h.wf h.nil
theorem GQ.box{nv j9:Value}{av kv:Nat->Value}{n:oL}{o:Obj}(h:GQ A F K S X w w0 w1 g n nv j9 av kv)(hX:X<w.heap.size)(hS:∀k,S k->k<w.heap.size)(hb:w0.heap[w.heap.size]?=some o):w1.heap[w.heap.size]?=some o:=by
 rw[h.fr.block w.heap.size (Array.getElem?_eq_some_iff.1 hb).1 (fun x=>by
  rcases x with e|e
  ·omega
  ·have:=hS _ e;omega)]
 exact hb
theorem GQ.attr{nv sv j9 va:Value}{av kv:Nat->Value}{n:oL}{m:Nat}{xs:List Value}(h:GQ A F K S X w w0 w1 g n nv j9 av kv)(p:GP A F K S X w g nv sv av kv)(ha:w.ownsRow 0 42 2 va m xs)(mq:∀k,va.ownBlock=some k->A k):w1.ownsRow 0 42 2 va m xs:=by
 refine dY ha fun b e=>(h.fr.block b (aq (eu ha e) h.more.size) ?_).trans (h.more.keep b (eu ha e));rintro(x|x)
 ·exact p.lU.nA (x▸mq b e)
 ·exact p.aS b (mq b e) x
def h_(t:fe)(va:Value):Obj:=.cells #[.int .i64 t.kind,.string ⟨t.name.toArray⟩,va,.string ⟨t.text.toArray⟩,.int .i64 t.at_] 56
def Cb(B:Nat)(k nm va tx at_:Value)(W:World):Prop:=W.cell? ⟨B,0,none⟩=some k/\W.cell? ⟨B,1,none⟩=some nm/\W.cell? ⟨B,2,none⟩=some va/\W.cell? ⟨B,3,none⟩=some tx/\W.cell? ⟨B,4,none⟩=some at_
theorem nP{t:fe}{va:Value}{W:World}{B:Nat}(h:W.heap[B]?=some (h_ t va)):Cb B (.int .i64 t.kind) (.string ⟨t.name.toArray⟩) va (.string ⟨t.text.toArray⟩) (.int .i64 t.at_) W:=
 ⟨cell_of h rfl,cell_of h rfl,cell_of h rfl,cell_of h rfl,cell_of h rfl⟩
theorem oM{nv sv:Value}{av kv:Nat->Value}(h:GP A F K S X w g nv sv av kv)(t:fe)(ai:Option Addr)(ac:Nat)(hz:t.text.length<=9223372036854775807):
  Z4 38 #[Z8 X,l6 t (.slice ai t.attrs.length ac)] (w.alloc (h_ t (.slice ai t.attrs.length ac))).drew fun e w1=>e=.returned (.int .i64 (g.take t).1)/\∃j9,GQ A F K S X w (w.alloc (h_ t (.slice ai t.attrs.length ac))).drew w1 g (g.take t).2.nest nv j9 av kv/\w1.heap[w.heap.size]?=some (h_ t (.slice ai t.attrs.length ac)):=by
 have m0:ed w (w.alloc (h_ t (.slice ai t.attrs.length ac))).drew:=((ed.refl w).alloc _).drewN 1;have:=Nf (h.nest.keep m0) (QY h.wf) (Js h.wf) t ai t.attrs.length ac hz;rw[Ng h.wf t]at this;refine this.mono ?_;intro e w1 q;obtain⟨rfl,j9,gq⟩:=h.behind m0 q;exact⟨rfl,j9,gq,gq.box (dS h.lU.blk) (fun k x=>h.lt k (h.sF k x)) (dT w _)⟩
theorem Jt{nv sv:Value}{av kv:Nat->Value}(h:GP A F K S X w g nv sv av kv)(t:fe)(ai:Option Addr)(ac:Nat)(hz:t.text.length<=9223372036854775807)(h0:(g.take t).1≠0):
  Z4 18 #[Z8 X,l6 t (.slice ai t.attrs.length ac)] w (vV A F X w (g.take t)):=by
 have eX:=oM h t ai ac hz;have hx:=QZ t h0;have iW:∀w1 j9,GQ A F K S X w (w.alloc (h_ t (.slice ai t.attrs.length ac))).drew w1 g (g.take t).2.nest nv j9 av kv->vV A F X w (g.take t) (.returned (.int .i64 (g.take t).1)) w1:=fun w1 j9 q=>by
  rw[hx]at q;have:=h.same (x:=(g.take t).1) q (ed.refl w1);rw[show g.take t=((g.take t).1,g)from Prod.ext rfl hx];exact this
 have hne:((g.take t).1 !=0)=true:=by simpa using h0
 have eE:Cb w.heap.size (.int .i64 t.kind) (.string ⟨t.name.toArray⟩) (.slice ai t.attrs.length ac) (.string ⟨t.text.toArray⟩) (.int .i64 t.at_) (w.alloc (h_ t (.slice ai t.attrs.length ac))):=nP (dT w _);obtain⟨b0,b1,b2,b3,b4⟩:=eE;unfold l6 eA at eX ⊢;unfold h_ at*
 have HC:=a_ eX;have HF:=a_ iW;clear eX iW h0 hx h;generalize (g.take t).1=no at*
 go_enter func18,ntmps18;go_wp2_with fail;go_region_held3 (fun W=>W.cell? ⟨w.heap.size,0,none⟩=some (.int .i64 t.kind)/\W.cell? ⟨w.heap.size,1,none⟩=some (.string ⟨t.name.toArray⟩)/\W.cell? ⟨w.heap.size,2,none⟩=some (.slice ai t.attrs.length ac)/\W.cell? ⟨w.heap.size,3,none⟩=some (.string ⟨t.text.toArray⟩)/\W.cell? ⟨w.heap.size,4,none⟩=some (.int .i64 t.at_))
  (first|exact⟨b0,b1,b2,b3,b4⟩|exact nP hb1)
  (first|(go_at_call 38;refine HC.out.mono ?_;rintro e w1 ⟨rfl,j9,gq,hb1⟩))
 all_goals
  have Uq:=a_ gq;clear gq b0 b1 b2 b3 b4 hb1;go_wp2;go_ret;exact HF.out _ _ Uq.out
theorem Nh{nv sv:Value}{av kv:Nat->Value}(h:GP A F K S X w g nv sv av kv)(hb:g.nodes.length<=17179869184)(t:fe)(ai:Option Addr)(ac:Nat)(hz:t.text.length<=9223372036854775807)(ha:w.ownsRow 0 42 2 (.slice ai t.attrs.length ac) t.attrs.length (ee t.attrs))(mq:∀k,(Value.slice ai t.attrs.length ac).ownBlock=some k->A k)(h0:(g.take t).1=0)(hk:t.kind=1):
  Z4 18 #[Z8 X,l6 t (.slice ai t.attrs.length ac)] w (vV A F X w (g.take t)):=by
 have eX:=oM h t ai ac hz;have hg:g.take t=(0,{ (g.put (elemOf t))with stack:=g.nodes.length::g.stack}):=by
  unfold Gr.take at h0 ⊢;rw[if_pos hk]at h0 ⊢;split at h0
  ·cases h0
  ·rename_i h1;rw[if_neg h1];split at h0
   ·cases h0
   ·rename_i h2;rw[if_neg h2]
 have Q0:=h.wf.take t;rw[hg]at eX Q0 ⊢;have eE:Cb w.heap.size (.int .i64 t.kind) (.string ⟨t.name.toArray⟩) (.slice ai t.attrs.length ac) (.string ⟨t.text.toArray⟩) (.int .i64 t.at_) (w.alloc (h_ t (.slice ai t.attrs.length ac))):=nP (dT w _);obtain⟨b0,b1,b2,b3,b4⟩:=eE;have hput:∀w1 j9 n,GQ A F K S X w (w.alloc (h_ t (.slice ai t.attrs.length ac))).drew w1 g n nv j9 av kv->Z4 39 #[Z8 X,.agg #[.string ⟨t.name.toArray⟩,.slice ai t.attrs.length ac,.string ⟨#[]⟩,.slice none 0 0,.int .i64 0]] w1 fun e w'=>e=.returned (.int .i64 g.nodes.length)/\∃j4 jh jS,jF A (Grow K w1 w') X w' (g.put (elemOf t)) j4 jh jS j9 (.bool n.fU)/\Frame (fun k=>k=X\/K k) w1 w':=fun w1 j9 n q=>
  Gk q.lU h.wf h.kids (elemOf t) (.slice ai t.attrs.length ac) 0 (q.attr h ha mq) mq rfl hb
 have iW:∀w1 w2 j9 j4 jh jS,GQ A F K S X w (w.alloc (h_ t (.slice ai t.attrs.length ac))).drew w1 g (Gr.nest { (g.put (elemOf t))with stack:=g.nodes.length::g.stack}) nv j9 av kv->jF A (Grow K w1 w2) X w2 (g.put (elemOf t)) j4 jh jS j9 (.bool (Gr.nest { (g.put (elemOf t))with stack:=g.nodes.length::g.stack}).fU)->Frame (fun k=>k=X\/K k) w1 w2->
   vV A F X w (0,{ (g.put (elemOf t))with stack:=g.nodes.length::g.stack}) (.returned (.int .i64 0)) (w2.setCell ⟨X,3,none⟩ (.int .i64 g.nodes.length)):=fun w1 w2 j9 j4 jh jS q r f=>by
  have r3:=r.top (g.nodes.length::g.stack) (g.nodes.length:Int) rfl;have f3:Frame (fun k=>k=X\/K k) w1 (w2.setCell ⟨X,3,none⟩ (.int .i64 g.nodes.length)):=f.trans' (zA w2 3 _);have hz2:(w2.setCell ⟨X,3,none⟩ (.int .i64 g.nodes.length)).heap.size=w2.heap.size:=by simp[World.setCell]
  have r4:jF A (Grow K w1 (w2.setCell ⟨X,3,none⟩ (.int .i64 g.nodes.length))) X (w2.setCell ⟨X,3,none⟩ (.int .i64 g.nodes.length)) { (g.put (elemOf t))with stack:=g.nodes.length::g.stack} j4 jh jS j9 _:=
   q.lU.next (g':={ (g.put (elemOf t))with stack:=g.nodes.length::g.stack}) f3 r3.nodes (fun k _ x=>x.imp id fun y=>⟨y.1,by rw[hz2];exact y.2⟩) r3.blk
  refine h.ends q r4 f3 (h.kids.put (elemOf t) rfl) Q0 (fun e=>?_);have:=uT g (elemOf t);have e':(g.put (elemOf t)).nodes=[]:=e;rw[e']at this;cases this
 have hcell:∀w2 j4 jh jS j9 rv1 K2,jF A K2 X w2 (g.put (elemOf t)) j4 jh jS j9 rv1->(∃v,w2.cell? ⟨X,3,none⟩=some v)/\w2.frozen? ⟨X,3,none⟩=false:=fun w2 j4 jh jS j9 rv1 K2 r=>⟨⟨_,r.cell 3 rfl⟩,d_ r.blk⟩
 unfold l6 eA at eX ⊢;unfold h_ at*
 have ny:(t.kind==1)=true:=by simpa using hk
 clear hk;have HC:=a_ eX;have HF:=a_ iW;have HP:=a_ hput;have HQ:=a_ hcell;clear eX iW h0 h hput hcell hg Q0 ha mq;generalize Gr.nest { (g.put (elemOf t))with stack:=g.nodes.length::g.stack}=nn at*
 go_enter func18,ntmps18;go_wp2_with fail;go_region_held3 (fun W=>W.cell? ⟨w.heap.size,0,none⟩=some (.int .i64 t.kind)/\W.cell? ⟨w.heap.size,1,none⟩=some (.string ⟨t.name.toArray⟩)/\W.cell? ⟨w.heap.size,2,none⟩=some (.slice ai t.attrs.length ac)/\W.cell? ⟨w.heap.size,3,none⟩=some (.string ⟨t.text.toArray⟩)/\W.cell? ⟨w.heap.size,4,none⟩=some (.int .i64 t.at_))
  (first|exact⟨b0,b1,b2,b3,b4⟩|exact nP (t:=t) hb1)
  (first|(go_at_call 38;refine HC.out.mono ?_;rintro e w1 ⟨rfl,j9,gq,hb1⟩))
 all_goals
  have hp:=HP.out _ _ _ gq;have hb2:=nP (t:=t) (va:=.slice ai t.attrs.length ac) hb1;obtain⟨d0,d1,d2,d3,d4⟩:=hb2;have Uq:=a_ gq;clear gq b0 b1 b2 b3 b4 hb1;go_wp2_with(go_at_call 39;refine hp.mono ?_;rintro e w2 ⟨rfl,j4,jh,jS,r2,f2⟩;obtain⟨⟨v3,c3⟩,f3⟩:=HQ.out _ _ _ _ _ _ _ r2;have R2:=a_ r2;have F2:=a_ f2;clear r2 f2);go_ret;exact HF.out _ _ _ _ _ _ Uq.out R2.out F2.out
end
section
variable{A K S F:Nat->Prop}{w w0 w' w1 w2:World}{nv sv rv:Value}{av kv:Nat->Value}{g:Gr}{X:Nat}
theorem Ni{nv sv:Value}{av kv:Nat->Value}(h:GP A F K S X w g nv sv av kv)(t:fe)(ai:Option Addr)(ac:Nat)(hz:t.text.length<=9223372036854775807)(h0:(g.take t).1=0)(hk:t.kind=2):
  Z4 18 #[Z8 X,l6 t (.slice ai t.attrs.length ac)] w (vV A F X w (g.take t)):=by
 have eX:=oM h t ai ac hz;obtain⟨k,st,m,hs,hm,om,hg⟩:∃k st m,g.stack=k::st/\g.nodes[k]?=some m/\m.up=iI st/\g.take t=(0,{g with stack:=st}):=by
  unfold Gr.take at h0 ⊢;rw[if_neg (by omega),if_pos hk]at h0 ⊢;cases hs:g.stack with
  |nil=>simp only[hs]at h0;cases h0
  |cons k st=>
   obtain⟨m,hm,om,_⟩:=h.wf.top hs;simp only[hs]at h0 ⊢;split at h0
   ·rename_i h1;exact⟨k,st,m,rfl,hm,om,by rw[if_pos h1]⟩
   ·cases h0
 have Q0:=h.wf.take t;rw[hg]at eX Q0 ⊢;have vB:k<g.nodes.length:=(List.getElem?_eq_some_iff.1 hm).1;have eE:Cb w.heap.size (.int .i64 t.kind) (.string ⟨t.name.toArray⟩) (.slice ai t.attrs.length ac) (.string ⟨t.text.toArray⟩) (.int .i64 t.at_) (w.alloc (h_ t (.slice ai t.attrs.length ac))):=nP (dT w _);obtain⟨b0,b1,b2,b3,b4⟩:=eE;have lZ:∀w1 j9 n,GQ A F K S X w (w.alloc (h_ t (.slice ai t.attrs.length ac))).drew w1 g n nv j9 av kv->∃gN nc,w1.cell? ⟨X,2,none⟩=some (Z9 gN g.nodes.length nc)/\w1.cell? ⟨X,3,none⟩=some (.int .i64 k)/\w1.cell? ⟨gN,k*5+4,none⟩=some (.int .i64 m.up)/\w1.frozen? ⟨X,3,none⟩=false/\gN≠X:=fun w1 j9 n q=>by
  obtain⟨gN,nc,pQ,hmx,Jm,m0,m1,m2,m3,m4⟩:=q.lU.nodes.cells k m hm;refine⟨gN,nc,(q.lU.cell (u:=nv) 2 rfl).trans (by rw[pQ]),by rw[q.lU.cell 3 rfl,hs];rfl,m4,d_ q.lU.blk,fun e=>q.lU.nK (e▸Jm)⟩
 have iW:∀w1 j9,GQ A F K S X w (w.alloc (h_ t (.slice ai t.attrs.length ac))).drew w1 g (Gr.nest {g with stack:=st}) nv j9 av kv->
   vV A F X w (0,{g with stack:=st}) (.returned (.int .i64 0)) (w1.setCell ⟨X,3,none⟩ (.int .i64 m.up)).drew:=fun w1 j9 q=>by
  have r3:=(q.lU.top st m.up om).keep ((ed.refl _).drewN 1);have f3:Frame (fun k=>k=X\/K k) w1 (w1.setCell ⟨X,3,none⟩ (.int .i64 m.up)).drew:=(zA w1 3 _).trans' (Frame.drew' _);have r4:=q.lU.next (g':={g with stack:=st}) f3 r3.nodes (fun k _ x=>Or.inl x) r3.blk;refine h.ends q r4 f3 h.kids Q0 (fun e=>?_);have e':g.nodes=[]:=e;rw[e']at hm;simp at hm
 unfold l6 eA at eX ⊢;unfold h_ at*
 have ny:(t.kind==1)=false:=by rw[hk];rfl
 have hk2:(t.kind==2)=true:=by simpa using hk
 have Yp:(k:Int)<g.nodes.length:=by omega
 have HC:=a_ eX;have HF:=a_ iW;have HQ:=a_ lZ;clear eX iW h0 h lZ hg Q0 hs hk om;generalize Gr.nest {g with stack:=st}=nn at*
 go_enter func18,ntmps18;go_wp2_with fail;go_region_held3 (fun W=>W.cell? ⟨w.heap.size,0,none⟩=some (.int .i64 t.kind)/\W.cell? ⟨w.heap.size,1,none⟩=some (.string ⟨t.name.toArray⟩)/\W.cell? ⟨w.heap.size,2,none⟩=some (.slice ai t.attrs.length ac)/\W.cell? ⟨w.heap.size,3,none⟩=some (.string ⟨t.text.toArray⟩)/\W.cell? ⟨w.heap.size,4,none⟩=some (.int .i64 t.at_))
  (first|exact⟨b0,b1,b2,b3,b4⟩|exact nP (t:=t) hb1)
  (first|(go_at_call 38;refine HC.out.mono ?_;rintro e w1 ⟨rfl,j9,gq,hb1⟩))
 all_goals
  have hb2:=nP (t:=t) (va:=.slice ai t.attrs.length ac) hb1;obtain⟨d0,d1,d2,d3,d4⟩:=hb2;obtain⟨gN,nc,c2,c3,c4,f3,hgX⟩:=HQ.out _ _ _ gq;have Uq:=a_ gq;clear gq b0 b1 b2 b3 b4 hb1;go_wp2_with fail;go_region_law (fail);all_goals
   go_wp2;go_ret;exact HF.out _ _ Uq.out
theorem Nj{nv sv:Value}{av kv:Nat->Value}(h:GP A F K S X w g nv sv av kv)(hb:g.nodes.length<=17179869184)(t:fe)(ai:Option Addr)(ac:Nat)(hz:t.text.length<=9223372036854775807)(h0:(g.take t).1=0)(ny:t.kind≠1)(hk2:t.kind≠2)(k:Nat)(st:List Nat)(hs:g.stack=k::st):
  Z4 18 #[Z8 X,l6 t (.slice ai t.attrs.length ac)] w (vV A F X w (g.take t)):=by
 have eX:=oM h t ai ac hz;have hg:g.take t=(0,g.put (jd t)):=by
  unfold Gr.take;rw[if_neg ny,if_neg hk2];simp only[hs]
 have Q0:=h.wf.take t;rw[hg]at eX Q0 ⊢;have eE:Cb w.heap.size (.int .i64 t.kind) (.string ⟨t.name.toArray⟩) (.slice ai t.attrs.length ac) (.string ⟨t.text.toArray⟩) (.int .i64 t.at_) (w.alloc (h_ t (.slice ai t.attrs.length ac))):=nP (dT w _);obtain⟨b0,b1,b2,b3,b4⟩:=eE;have hput:∀w1 j9 n,GQ A F K S X w (w.alloc (h_ t (.slice ai t.attrs.length ac))).drew w1 g n nv j9 av kv->Z4 39 #[Z8 X,.agg #[.string ⟨#[]⟩,.slice none 0 0,.string ⟨t.text.toArray⟩,.slice none 0 0,.int .i64 0]] w1 fun e w'=>e=.returned (.int .i64 g.nodes.length)/\∃j4 jh jS,jF A (Grow K w1 w') X w' (g.put (jd t)) j4 jh jS j9 (.bool n.fU)/\Frame (fun k=>k=X\/K k) w1 w':=fun w1 j9 n q=>
  Gk q.lU h.wf h.kids (jd t) (.slice none 0 0) 0 ⟨rfl,Or.inl ⟨rfl,rfl⟩⟩ (fun k e=>by cases e) rfl hb
 have lZ:∀w1 j9 n,GQ A F K S X w (w.alloc (h_ t (.slice ai t.attrs.length ac))).drew w1 g n nv j9 av kv->w1.cell? ⟨X,3,none⟩=some (.int .i64 k):=fun w1 j9 n q=>by rw[q.lU.cell 3 rfl,hs];rfl
 have iW:∀w1 w2 j9 j4 jh jS,GQ A F K S X w (w.alloc (h_ t (.slice ai t.attrs.length ac))).drew w1 g (g.put (jd t)).nest nv j9 av kv->jF A (Grow K w1 w2) X w2 (g.put (jd t)) j4 jh jS j9 (.bool (g.put (jd t)).nest.fU)->Frame (fun k=>k=X\/K k) w1 w2->
   vV A F X w (0,g.put (jd t)) (.returned (.int .i64 0)) w2:=fun w1 w2 j9 j4 jh jS q r f=>by
  refine h.ends q r f (h.kids.put (jd t) rfl) Q0 (fun e=>?_);have:=uT g (jd t);rw[e]at this;cases this
 unfold l6 eA at eX ⊢;unfold h_ at*
 have e1:(t.kind==1)=false:=by simpa using ny
 have e2:(t.kind==2)=false:=by simpa using hk2
 have hkn:((k:Int) != -1)=true:=by simp
 have HC:=a_ eX;have HF:=a_ iW;have HP:=a_ hput;have HQ:=a_ lZ;clear eX iW h0 h hput lZ hg Q0 hs ny hk2;generalize (g.put (jd t)).nest=nn at*
 go_enter func18,ntmps18;go_wp2_with fail;go_region_held3 (fun W=>W.cell? ⟨w.heap.size,0,none⟩=some (.int .i64 t.kind)/\W.cell? ⟨w.heap.size,1,none⟩=some (.string ⟨t.name.toArray⟩)/\W.cell? ⟨w.heap.size,2,none⟩=some (.slice ai t.attrs.length ac)/\W.cell? ⟨w.heap.size,3,none⟩=some (.string ⟨t.text.toArray⟩)/\W.cell? ⟨w.heap.size,4,none⟩=some (.int .i64 t.at_))
  (first|exact⟨b0,b1,b2,b3,b4⟩|exact nP (t:=t) hb1)
  (first|(go_at_call 38;refine HC.out.mono ?_;rintro e w1 ⟨rfl,j9,gq,hb1⟩))
 all_goals
  have hp:=HP.out _ _ _ gq;have hb2:=nP (t:=t) (va:=.slice ai t.attrs.length ac) hb1;obtain⟨d0,d1,d2,d3,d4⟩:=hb2;have c3:=HQ.out _ _ _ gq;have Uq:=a_ gq;clear gq b0 b1 b2 b3 b4 hb1;go_wp2_with(go_at_call 39;refine hp.mono ?_;rintro e w2 ⟨rfl,j4,jh,jS,r2,f2⟩;have R2:=a_ r2;have F2:=a_ f2;clear r2 f2);go_ret;exact HF.out _ _ _ _ _ _ Uq.out R2.out F2.out
theorem Ju{nv sv:Value}{av kv:Nat->Value}(h:GP A F K S X w g nv sv av kv)(t:fe)(ai:Option Addr)(ac:Nat)(hz:t.text.length<=9223372036854775807)(h0:(g.take t).1=0)(ny:t.kind≠1)(hk2:t.kind≠2)(hs:g.stack=[]):
  Z4 18 #[Z8 X,l6 t (.slice ai t.attrs.length ac)] w (vV A F X w (g.take t)):=by
 have eX:=oM h t ai ac hz;have hg:g.take t=(0,g):=by
  unfold Gr.take at h0 ⊢;rw[if_neg ny,if_neg hk2]at h0 ⊢;simp only[hs]at h0 ⊢;split at h0
  ·rename_i h1;rw[if_pos h1]
  ·cases h0
 rw[hg]at eX ⊢;have eE:Cb w.heap.size (.int .i64 t.kind) (.string ⟨t.name.toArray⟩) (.slice ai t.attrs.length ac) (.string ⟨t.text.toArray⟩) (.int .i64 t.at_) (w.alloc (h_ t (.slice ai t.attrs.length ac))):=nP (dT w _);obtain⟨b0,b1,b2,b3,b4⟩:=eE;have lZ:∀w1 j9 n,GQ A F K S X w (w.alloc (h_ t (.slice ai t.attrs.length ac))).drew w1 g n nv j9 av kv->w1.cell? ⟨X,3,none⟩=some (.int .i64 (-1)):=fun w1 j9 n q=>by rw[q.lU.cell 3 rfl,hs];rfl
 have iW:∀w1 j9,GQ A F K S X w (w.alloc (h_ t (.slice ai t.attrs.length ac))).drew w1 g g.nest nv j9 av kv->vV A F X w (0,g) (.returned (.int .i64 0)) w1:=fun w1 j9 q=>h.same q (ed.refl w1);unfold l6 eA at eX ⊢;unfold h_ at*
 have e1:(t.kind==1)=false:=by simpa using ny
 have e2:(t.kind==2)=false:=by simpa using hk2
 have HC:=a_ eX;have HF:=a_ iW;have HQ:=a_ lZ;clear eX iW h0 h lZ hg hs ny hk2;generalize g.nest=nn at*
 go_enter func18,ntmps18;go_wp2_with fail;go_region_held3 (fun W=>W.cell? ⟨w.heap.size,0,none⟩=some (.int .i64 t.kind)/\W.cell? ⟨w.heap.size,1,none⟩=some (.string ⟨t.name.toArray⟩)/\W.cell? ⟨w.heap.size,2,none⟩=some (.slice ai t.attrs.length ac)/\W.cell? ⟨w.heap.size,3,none⟩=some (.string ⟨t.text.toArray⟩)/\W.cell? ⟨w.heap.size,4,none⟩=some (.int .i64 t.at_))
  (first|exact⟨b0,b1,b2,b3,b4⟩|exact nP (t:=t) hb1)
  (first|(go_at_call 38;refine HC.out.mono ?_;rintro e w1 ⟨rfl,j9,gq,hb1⟩))
 all_goals
  have hb2:=nP (t:=t) (va:=.slice ai t.attrs.length ac) hb1;obtain⟨d0,d1,d2,d3,d4⟩:=hb2;have c3:=HQ.out _ _ _ gq;have Uq:=a_ gq;clear gq b0 b1 b2 b3 b4 hb1;go_wp2;go_ret;exact HF.out _ _ Uq.out
theorem Nk(h:GR A F X w g)(hb:g.nodes.length<=17179869184)(t:fe)(va:Value)(hz:t.text.length<=9223372036854775807)(ha:w.ownsRow 0 42 2 va t.attrs.length (ee t.attrs))(mq:∀k,va.ownBlock=some k->A k):
  Z4 18 #[Z8 X,l6 t va] w (vV A F X w (g.take t)):=by
 obtain⟨K,S,nv,sv,av,kv,p⟩:=h.parts;obtain⟨ai,ac,rfl⟩:=dU ha;by_cases h0:(g.take t).1=0
 ·by_cases ny:t.kind=1
  ·exact Nh p hb t ai ac hz ha mq h0 ny
  ·by_cases hk2:t.kind=2
   ·exact Ni p t ai ac hz h0 hk2
   ·cases hs:g.stack with
    |nil=>exact Ju p t ai ac hz h0 ny hk2 hs
    |cons k st=>exact Nj p hb t ai ac hz h0 ny hk2 k st hs
 ·exact Jt p t ai ac hz h0
end
section
variable{A K K':Nat->Prop}{w w' w1:World}{nv v:Value}{av kv:Nat->Value}{g:Gr}{X:Nat}{a:Addr}{l:List fe}
theorem BK.atA(h:BK A w v l)(i:Nat)(hi:i<l.length):∃g cap va,v=Z9 g l.length cap/\w.ownsRow 0 42 2 va (l[i]).attrs.length (ee (l[i]).attrs)/\(∀k,va.ownBlock=some k->A k)/\
  w.cell? ⟨g,i*5,none⟩=some (.int .i64 (l[i]).kind)/\w.cell? ⟨g,i*5+1,none⟩=some (eA (l[i]).name)/\w.cell? ⟨g,i*5+2,none⟩=some va/\w.cell? ⟨g,i*5+3,none⟩=some (eA (l[i]).text)/\w.cell? ⟨g,i*5+4,none⟩=some (.int .i64 (l[i]).at_)/\l.length<=maxLen:=by
 obtain⟨cs,h1,h2,h3⟩:=h;have Ox:=h1;rcases Ox.2 with⟨e,e0⟩|⟨g,cap,cur,e,_,_,UL,N5,_⟩
 ·omega
 subst e;have hc:=h1.cells (g:=g) rfl;have key:∀(l:List fe) (cs:List Value),k9 A 0 w fo l cs->∀(i:Nat) (hi:i<l.length),∃va,w.ownsRow 0 42 2 va (l[i]).attrs.length (ee (l[i]).attrs)/\(∀k,va.ownBlock=some k->A k)/\cs[i*5]?=some (.int .i64 (l[i]).kind)/\cs[i*5+1]?=some (eA (l[i]).name)/\cs[i*5+2]?=some va/\cs[i*5+3]?=some (eA (l[i]).text)/\cs[i*5+4]?=some (.int .i64 (l[i]).at_):=by
  intro l cs h;induction h with
  |nil=>intro i hi;cases hi
  |cons t v l cs ho hf hl ih=>
   intro i hi;cases i with
   |zero=>exact⟨v,ho,fun k e=>(hf k e).1,rfl,rfl,rfl,rfl,rfl⟩
   |succ i=>
    obtain⟨va,a0,b0,a1,a2,a3,a4,a5⟩:=ih i (by simpa using hi);have e1:∀j,(i+1)*5+j=(eH t v).length+(i*5+j):=fun j=>by show _=5+_;omega
    have e2:∀j,(eH t v++cs)[(i+1)*5+j]?=cs[i*5+j]?:=fun j=>by rw[e1,aW (cI _ _),Nat.add_sub_cancel_left]
    exact⟨va,a0,b0,(e2 0).trans a1,(e2 1).trans a2,(e2 2).trans a3,(e2 3).trans a4,(e2 4).trans a5⟩
 obtain⟨va,a0,b0,a1,a2,a3,a4,a5⟩:=key l cs h2 i hi;have up:∀j u,cs[j]?=some u->w.cell? ⟨g,j,none⟩=some u:=fun j u hj=>by
  have:=hc j u hj;rwa[Addr.add_mid,aG]at this
 exact⟨g,cap,va,rfl,a0,b0,up _ _ a1,up _ _ a2,up _ _ a3,up _ _ a4,up _ _ a5,aw UL N5⟩
theorem Q5(h:BK A w v l):∃b c,v=.slice b l.length c/\l.length<=maxLen:=by
 obtain⟨cs,o,_,_⟩:=h;rcases o.2 with⟨rfl,e⟩|⟨g,cap,cur,rfl,_,_,h1,h2,_⟩
 ·rw[e];exact⟨none,0,rfl,aB _⟩
 ·exact⟨_,_,rfl,aw h1 h2⟩
def aaj(B:Nat)(w:World)(v:Value)(l:List Nd):Prop:=∃A K av kv,ic 40 42 A K w v l av kv/\(∀k,A k->B<=k)/\(∀k,K k->B<=k)/\(∀k,A k->¬K k)
def zB(w:World)(x:List Nd×Int×Int)(e:Ending)(w':World):Prop:=∃v,e=.returned (.tuple #[v,.int .i64 x.2.1,.int .i64 x.2.2])/\aaj w.heap.size w' v x.1/\Below w.heap.size w w'/\(x.2.1≠0->v=fo)
structure Start(w:World)(b:ByteArray)(v':Value)(w4:World):Prop where
 ex:∃A,BK A w4 v' ((ei b).l++(ei b).last)/\(∀k,A k->w.heap.size<=k)
 below:Below w.heap.size w w4
 err:∀W,ed w4 W->Z4 19 #[.pointer (some ⟨w.heap.size,0,none⟩)] W fun e w5=>e=.returned (.tuple #[.int .i64 (ei b).err,.int .i64 (ei b).at_])/\Below W.heap.size W w5
theorem Q6(b:ByteArray)(w:World)(gl:Gl w a)(hb:b.size<=2147483648):
  Z4 16 #[.pointer (some ⟨w.heap.size,0,none⟩),.string b] (w.alloc (.cells oK 110)) fun e w2=>∃v1,e=.returned v1/\
   Z4 17 #[.pointer (some ⟨w.heap.size,0,none⟩)] w2 fun e w3=>∃v2,e=.returned v2/\∃v' w4,(Builtin.append_ #[47,47] 47 #[v1,v2]).run prog w3=.ok v' w4/\Start w b v' w4:=by
 have hsz:=gl.size;have Mv:=Qm gl (.cells oK 110);have lo0:Low (fun k=>k=w.heap.size):=fun k hk e=>by omega
 have hw:=Qi (MF w) zk Mv lo0 b (by omega);have hg:=I5 zk b;have ht1:=I6 zk b;have ht2:=I7 hg;obtain⟨cr1,cr2,_⟩:=BT b;refine hw.mono ?_;rintro e w2 ⟨v1,A1,F1,rfl,an1,al1,xb,h1,h2⟩;have hz1:w.heap.size+1<=w2.heap.size:=by have:=xb.size;simp at this;omega
 have Yl:∀k,F1 k->w.heap.size<=k:=fun k hk=>(h2 k hk).elim (fun e=>by omega) (fun x=>by have:=x.1;simp at this;omega);have TM:Low F1:=fun k hk x=>by have:=Yl k x;omega
 refine⟨v1,rfl,(Qj al1 hg (Mv.frame xb lo0) TM (by omega)).mono ?_⟩;rintro e w3 ⟨v2,A2,F2,rfl,an2,al2,lC,g1,g2⟩;obtain⟨v',w4,A,hrun,Vf,al4,b4,hA,hF2⟩:=Ql (x:=PR.new.write b) (y:=(PR.new.write b).1.close) (K:=w.heap.size) (by omega) an1 (fun k hA=>⟨(h1 k hA).1.elim (fun e=>by omega) (fun x=>by have:=x.1;simp at this;omega),(h1 k hA).1.elim (fun e=>by omega) (fun x=>x.2),(h1 k hA).2⟩) Yl an2 al2 lC g1 g2 (by omega);have b1:Below w.heap.size w (w.alloc (.cells oK 110)):=(Below.refl _ _).alloc (au _) _;have b2:Below w.heap.size (w.alloc (.cells oK 110)) w2:=xb.up (fun k e=>by omega) (by simp);rw[BS,cr1]at Vf;refine⟨v2,rfl,v',w4,hrun,⟨A,Vf,fun k hk=>(hA k hk).1⟩,(b1.trans b2).trans b4,fun W hM=>?_⟩;have hlt:∀k,F2 k->k<w4.heap.size:=fun k hk=>by obtain⟨_,_,lU,_⟩:=al4;exact lU.lt k hk
 have:=Xa (al4.keep (fun k hk=>hM.keep k (hlt k hk)) hM.size);rw[cr2]at this;exact this
end
section
variable{A K K':Nat->Prop}{w w' w1 w4 wr:World}{nv v:Value}{av kv:Nat->Value}{g:Gr}{X:Nat}{a:Addr}{l T:List fe}
structure PI(w4:World)(A:Nat->Prop)(T:List fe)(wr:World)(k:Nat):Prop where
 ex:∃g Kx,GR A Kx w4.heap.size wr g/\(∀j,Kx j->w4.heap.size<=j)/\grow Gr.zero T=grow g (T.drop k)/\g.nodes.length<=k
 more:ed w4 wr
theorem PI.start(hA:∀k,A k->k<w4.heap.size):PI w4 A T (w4.alloc (.cells #[.slice none 0 0,.bool false,.slice none 0 0,.int .i64 (-1)] 54)) 0:=by refine⟨⟨Gr.zero,fun _=>False,⟨⟨fun _=>False,fun _=>False,fo,_,_,fo,⟨dT w4 _,ic.zero,fun x=>by have:=hA _ x;omega,fun x=>x,fun _ _ x=>x,fun _ x=>x.elim,fun k x=>by have:=hA k x;simp;omega⟩,⟨dT w4 _,rfl,rfl,⟨rfl,Or.inl ⟨rfl,rfl⟩⟩,(fun k e=>by cases e),fun x=>x,fun _ x=>x.elim⟩,fun _ x=>x,fun _ x=>x,fun _ _ x=>x,fun _ x=>x.elim,fun _=>rfl⟩,fun _ x=>x.elim,fun x=>x,fun i m hi=>by simp[Gr.zero]at hi,Gr.Wf.zero⟩,fun _ x=>x.elim,by simp,by simp[Gr.zero]⟩,(ed.refl w4).alloc _⟩
theorem PI.call{k:Nat}(h:PI w4 A T wr k)(hk:k<T.length)(hb:T.length<=17179869184)(hA:∀k,A k->k<w4.heap.size)(va:Value)(hz:(T[k]).text.length<=9223372036854775807)(ha:w4.ownsRow 0 42 2 va (T[k]).attrs.length (ee (T[k]).attrs))(mq:∀k,va.ownBlock=some k->A k)(o:Obj):
  Z4 18 #[.pointer (some ⟨w4.heap.size,0,none⟩),l6 (T[k]) va] (wr.alloc o) fun e w'=>∃no,e=.returned (.int .i64 no)/\ed w4 w'/\w'.heap[wr.heap.size]?=some o/\(no=0->PI w4 A T w' (k+1))/\(no≠0->(grow Gr.zero T).1=no/\(grow Gr.zero T).2.1=(T[k]).at_):=by
 obtain⟨⟨g,Kx,hg,hKx,hgr,hlen⟩,hM⟩:=h;have hM1:ed wr (wr.alloc o):=(ed.refl wr).alloc o;have wR:=hM.alloc o;have hXr:w4.heap.size<wr.heap.size:=hg.blk;have hdrop:T.drop k=T[k]::T.drop (k+1):=(cy hk)
 refine(Nk (hg.keep hM1) (by omega) (T[k]) va hz (dY ha fun b e=>wR.keep b (eu ha e)) mq).mono ?_;rintro e w' ⟨rfl,r,fr⟩;have hM3:ed w4 w':=⟨fr.os.trans wR.os,fr.tape.trans wR.tape,fr.output.trans wR.output,aw wR.size fr.size,fun b hb2=>by
  rw[fr.block b (aq hb2 wR.size) (fun x=>by
   rcases x with e|e
   ·omega
   ·have:=hKx b e;omega)]
  exact wR.keep b hb2⟩
 have abj:∀j,Kx j->j<wr.heap.size:=hg.lt;refine⟨_,rfl,hM3,?_,fun h0=>?_,fun hn=>?_⟩
 ·rw[fr.block wr.heap.size (by simp) (fun x=>by
   rcases x with e|e
   ·omega
   ·have:=abj _ e;omega)]
  exact dT wr o
 ·refine⟨⟨_,_,r,?_,?_,?_⟩,hM3⟩
  ·rintro j (e|e)
   ·exact hKx j e
   ·have:=e.1;simp at this;omega
  ·rw[hgr,hdrop];simp only[grow];rw[if_neg (by simpa using h0)]
  ·have:(g.take (T[k])).2.nodes.length<=g.nodes.length+1:=by
    unfold Gr.take;split
    ·split
     ·simp
     ·split
      ·simp
      ·simp only[lV];omega
    ·split
     ·split
      ·simp
      ·split<;>simp
     ·split
      ·split<;>simp
      ·rw[lV];omega
   omega
 ·rw[hgr,hdrop];simp only[grow];rw[if_pos hn];exact⟨rfl,rfl⟩
end
section
variable{A K K':Nat->Prop}{w w' w1 w4 wr:World}{nv v:Value}{av kv:Nat->Value}{g:Gr}{X:Nat}{a:Addr}{l T:List fe}
theorem PI.over(h:PI w4 A T wr T.length):∃g Kx,GR A Kx w4.heap.size wr g/\(∀j,Kx j->w4.heap.size<=j)/\grow Gr.zero T=(0,0,g):=by
 obtain⟨⟨g,Kx,h1,h2,h3,_⟩,_⟩:=h;refine⟨g,Kx,h1,h2,?_⟩;rw[h3,List.drop_length];rfl
theorem zC{no q:Int}(b4:Below w.heap.size w w4)(hM:ed w4 w')(hn:no≠0):zB w ([],no,q) (.returned (.tuple #[.slice none 0 0,.int .i64 no,.int .i64 q])) w':=
 ⟨fo,rfl,⟨fun _=>False,fun _=>False,_,_,ic.zero,fun _ x=>x.elim,fun _ x=>x.elim,fun _ x=>x.elim⟩,b4.trans ⟨hM.os,hM.tape,hM.output,hM.size,fun k hk=>hM.keep k (aq hk b4.size)⟩,fun _=>rfl⟩
structure Says(b:ByteArray)(T:List fe)(DR Se:Int):Prop where
 tok:(grow Gr.zero T).1≠0->eZ b=([],(grow Gr.zero T).1,(grow Gr.zero T).2.1)
 err:(grow Gr.zero T).1=0->DR≠0->eZ b=([],DR,Se)
 form:(grow Gr.zero T).1=0->DR=0->((grow Gr.zero T).2.2.stack≠[]\/(grow Gr.zero T).2.2.nodes=[])->eZ b=([],3,(b.size:Int))
 ok:(grow Gr.zero T).1=0->DR=0->(grow Gr.zero T).2.2.stack=[]->(grow Gr.zero T).2.2.nodes≠[]->eZ b=((grow Gr.zero T).2.2.nodes,0,0)
theorem says(b:ByteArray):Says b ((ei b).l++(ei b).last) (ei b).err (ei b).at_:=by
 refine⟨fun h=>?_,fun h h2=>?_,fun h h2 h3=>?_,fun h h2 h3 h4=>?_⟩
 ·unfold eZ;rw[if_pos h]
 ·unfold eZ;rw[if_neg (by simpa using h),if_pos h2]
 ·unfold eZ;rw[if_neg (by simpa using h),if_neg (by simpa using h2),if_pos h3]
 ·unfold eZ;rw[if_neg (by simpa using h),if_neg (by simpa using h2),if_neg (by rintro(e|e);exact e h3;exact h4 e)]
theorem Jv(b:ByteArray)(w:World)(gl:Gl w a)(hb:b.size<=2147483648)(hlen:((ei b).l++(ei b).last).length<=17179869184)(MY:∀t∈(ei b).l++(ei b).last,t.text.length<=9223372036854775807):Z4 5 #[.string b] w (zB w (eZ b)):=by
 have hst:=Q6 b w gl hb;have mN:=Xb w;have Q7:=says b;have HST:=a_ hst;have Ay:=a_ Q7;have Xq:=a_ hlen;have HTX:=a_ MY;clear hst gl Q7 hlen MY;go_enter func5,ntmps5;go_wp2_with(first|(go_at_call 15;refine mN.mono ?_;rintro e wn ⟨rfl,rfl⟩)|(go_at_call 16;refine HST.out.mono ?_;rintro e w2 ⟨v1,rfl,zN⟩)|(go_at_call 17;refine zN.mono ?_;rintro e w3 ⟨v2,rfl,v',w4,hrun,Sf⟩;have Qo:=Sf.err;have hb4:=Sf.below;obtain⟨A4,Vf,hA4⟩:=Sf.ex;generalize (ei b).l++(ei b).last=T at*;generalize (ei b).err=DR at*;generalize (ei b).at_=Se at*;obtain⟨bl,cl,el,hmx⟩:=Q5 Vf;subst el;have AN4:=a_ Vf;have HA4:=a_ hA4;have HMX:=a_ hmx;have HER:=a_ Qo;have B4:=a_ hb4;clear Sf Vf hA4 hmx Qo hb4 zN HST)|(at_builtin;refine I9 rfl (.tmp 16) (.tmp 18) rfl rfl _ _ rfl rfl hrun ?_));go_loopw [9,10,23] (fun _ _ iv wr=>∃k:Nat,iv=.int .i64 k/\k<=T.length/\PI w4 (fun j=>A4 j/\j<w4.heap.size) T wr k) (fun _ _ iv _=>T.length-(RowKit.intOf iv).toNat)
 case atStart=>exact⟨0,rfl,aB _,PI.start (fun k x=>x.2)⟩
 case round=>
  obtain⟨k,rfl,hk,Q8⟩:=hrel;by_cases vB:k<T.length
  ·have hdec:decide ((k:Int)<T.length)=true:=by simp;omega
   have Gn:decide (k<T.length)=true:=by simp;omega
   have Yp:(k:Int)<T.length:=by omega
   have hmi:(T.length:Int)<=9223372036854775807:=by have:=HMX.out;have:maxLen=9223372036854775807:=rfl;omega
   obtain⟨gT,cT,va,eT,oa,oA,x0,x1,x2,x3,x4,_⟩:=AN4.out.atA k vB;have eX:=fun o=>Q8.call vB Xq.out (fun j x=>x.2) va (HTX.out _ (bR vB)) oa (fun j e=>⟨oA j e,eu oa e⟩) o;obtain⟨ai,ac,l8⟩:=dU oa;cases eT;have hlt:gT<w4.heap.size:=aD w4 _ x0;subst l8;unfold eA at x1 x3;unfold l6 eA at eX;have y0:=(ar (a:=⟨gT,k*5,none⟩) (Q8.more.keep gT hlt)).trans x0;have y1:=(ar (a:=⟨gT,k*5+1,none⟩) (Q8.more.keep gT hlt)).trans x1;have y2:=(ar (a:=⟨gT,k*5+2,none⟩) (Q8.more.keep gT hlt)).trans x2;have y3:=(ar (a:=⟨gT,k*5+3,none⟩) (Q8.more.keep gT hlt)).trans x3;have y4:=(ar (a:=⟨gT,k*5+4,none⟩) (Q8.more.keep gT hlt)).trans x4;have HC:=a_ eX;have HPI:=a_ Q8;clear eX Q8 oa oA x0 x1 x2 x3 x4;generalize T[k]=t at*
   go_wp2_with fail;refine(HC.out _).mono ?_;rintro e w5 ⟨no,rfl,hM5,eE,gZ,nS⟩;by_cases h0:no=0
   ·have hp5:=gZ h0;subst h0;have HP5:=a_ hp5;clear gZ nS eE hM5 hp5;go_wp2
    go_roundw
    case rel=>exact⟨k+1,by simp,by omega,HP5.out⟩
    case measure=>simp only[RowKit.intOf];omega
   ·have hne:(no !=0)=true:=by simpa using h0
    have z4:=cell_of (i:=4) eE rfl;have HB:=a_ (nS h0);have HM5:=a_ hM5;have H0:=a_ h0;clear gZ nS eE hM5 h0;go_wp2_with fail;go_quiet(fail);go_wp2
    go_ret3
    have hq:=HB.out;have Xr:=Ay.out.tok (by rw[hq.1];exact H0.out);rw[Xr,hq.1,hq.2];exact zC B4.out (HM5.out.drewN _) H0.out
  ·have hdec:decide ((k:Int)<T.length)=false:=by simp;omega
   have Gn:decide (k<T.length)=false:=by simp;omega
   have he:k=T.length:=by omega
   subst he;have hM:=Q8.more;obtain⟨g,Kx,hg,hKx,hgr⟩:=Q8.over;have h10:(grow Gr.zero T).1=0:=by rw[hgr]
   have Zk:=a_ h10;have HG:=a_ hg;have Ih:=a_ hgr;have HKX:=a_ hKx;have uU:=a_ hM;clear Q8 hg hgr hKx hM h10;by_cases h0:DR=0
   ·subst h0;obtain⟨Kg,Sg,nv,sv,av,kv,p⟩:=HG.out.parts;have hall:∀W,ed wr W->∃A' K',ic 40 42 A' K' W nv g.nodes av kv/\(∀j,A' j->w.heap.size<=j)/\(∀j,K' j->w.heap.size<=j)/\(∀j,A' j->¬K' j):=fun W hW=>⟨_,_,hW.nodes p.lU.nodes,fun j x=>HA4.out j x.1,fun j x=>aw B4.out.size (HKX.out j (p.kF j x)),p.lU.rM⟩
    have Q9:∀W,ed wr W->Z4 20 #[.pointer (some ⟨w4.heap.size,0,none⟩)] W fun e w'=>e=.returned (.bool (g.nest.fU&&decide (g.nest.names.length=0)))/\ed W w':=fun W hW=>po (p.nest.keep hW);have Q_:∀W,ed wr W->W.cell? ⟨w4.heap.size,2,none⟩=some nv:=fun W hW=>(p.lU.keep hW).cell 2 rfl;have hwb:(g.nest.fU&&decide (g.nest.names.length=0))=true↔(g.stack=[]/\g.nodes≠[]):=by simp[Gr.nest,Gr.names,and_comm]
    have Xt:=a_ hall;have HWH:=a_ Q9;have HND:=a_ Q_;clear hall Q9 Q_ p;generalize (g.nest.fU&&decide (g.nest.names.length=0))=wb at*
    cases wb with
    |false=>
     have Xr:=Ay.out.form Zk.out rfl (by
      rw[Ih.out];by_cases e:g.stack=[]
      ·exact Or.inr (bE fun e2=>by simpa using hwb.2 ⟨e,e2⟩)
      ·exact Or.inl e)
     clear hwb;go_wp2_with fail;refine(HER.out _ uU.out).mono ?_;rintro e w5 ⟨rfl,b5⟩;have hw5:=HWH.out w5 (jR b5);have B5:=a_ b5;clear b5;go_wp2_with(go_at_call 20;refine hw5.mono ?_;rintro e w6 ⟨rfl,m6⟩;have M6:=a_ m6;clear m6)
     go_ret3
     rw[Xr];exact zC B4.out ((uU.out.trans (jR B5.out)).trans M6.out) (by decide)
    |true=>
     obtain⟨hs,D6⟩:=hwb.1 rfl;have Xr:=Ay.out.ok Zk.out rfl (by rw[Ih.out];exact hs) (by rw[Ih.out];exact D6);rw[Ih.out]at Xr;have HSY:=a_ Xr;clear hwb hs D6 Xr;go_wp2_with fail;refine(HER.out _ uU.out).mono ?_;rintro e w5 ⟨rfl,b5⟩;have hw5:=HWH.out w5 (jR b5);have B5:=a_ b5;clear b5;go_wp2_with(go_at_call 20;refine hw5.mono ?_;rintro e w6 ⟨rfl,m6⟩;have c0:=HND.out w6 ((jR B5.out).trans m6);have M6:=a_ m6;clear m6)
     go_ret3
     rw[HSY.out];have hM6:=(jR B5.out).trans M6.out;obtain⟨A',K',q1,q2,q3,q4⟩:=Xt.out w6 hM6;have hM7:=uU.out.trans hM6;have ma:Below w.heap.size w w6:=B4.out.trans ⟨hM7.os,hM7.tape,hM7.output,hM7.size,fun j hj=>hM7.keep j (aq hj B4.out.size)⟩;exact⟨_,rfl,⟨A',K',av,kv,q1,q2,q3,q4⟩,ma,fun h=>absurd rfl h⟩
   ·have hne:(DR !=0)=true:=by simpa using h0
    have H0:=a_ h0;clear h0;go_wp2_with fail;refine(HER.out _ uU.out).mono ?_;rintro e w5 ⟨rfl,b5⟩;have B5:=a_ b5;clear b5;go_wp2_with fail
    go_ret3
    rw[Ay.out.err Zk.out H0.out];exact zC B4.out (uU.out.trans (jR B5.out)) H0.out
end
end K
end Go.Proofs.YtclgfepngpeifaaGreatDoor
namespace Go.Proofs.YtclgfepngpeifaaGreatDoor
namespace K
open Go.RowKit Go.Lib Tryz
section
variable{s:ByteArray}
theorem Jw(f:Nat)(x:Sc)(h:x.err≠0):iy s f x=x:=by
 cases f with
 |zero=>rfl
 |succ f=>simp only[iy];rw[if_neg (fun e=>h e.2)]
theorem Jy:∀(f:Nat) (x:Sc) (st:St),x.err=0->Jh x->x.i<=s.size->Rel x st->cost (iy s f x).l<=64*s.size/\((iy s f x).err=0->(iy s f x).i<=s.size/\Jh (iy s f x)):=by
 intro f;induction f with
 |zero=>
  intro x st he hp hi _;refine⟨?_,fun _=>⟨hi,hp⟩⟩;have:=hp he;unfold jP at this;show cost x.l<=_;omega
 |succ f ih=>
  intro x st he hp hi hr;simp only[iy];by_cases hc:x.i<s.size/\x.err=0
  ·rw[if_pos hc];rcases mY (g:=fun _=>[]) he hc.1 hr with⟨h1,h2,h3,_,ia,h5,_⟩|⟨h1,h2,_⟩
   ·exact ih _ ia h1 (zv hp he) h3 h5
   ·rw[Jw f _ h1];refine⟨?_,fun e=>absurd e h1⟩;rw[h2];have:=hp he;unfold jP at this;omega
  ·rw[if_neg hc];refine⟨?_,fun _=>⟨hi,hp⟩⟩;have:=hp he;unfold jP at this;omega
theorem tG(s:ByteArray):cost ((ei s).l++(ei s).last)<=64*s.size:=by
 obtain⟨h1,h2⟩:=Jy (s:=s) (s.size+1) Sc.zero _ rfl (fun _=>by simp[jP,cost,Sc.zero]) (aB _) Rel.zero;have Ox:cost (ei s).l<=64*s.size:=h1;by_cases he:(ei s).err=0
 ·have:=QD s;unfold ly at this;rw[if_neg (by simpa using he)]at this;exact this
 ·have:(ei s).last=[]:=by unfold Sc.last;rw[if_pos (Or.inl he)]
  rw[this,aP];exact Ox
theorem Gp:∀{l:List fe} {t:fe},t∈l->(jl t).length<=cost l
 |[],t,h=>by simp at h
 |x::l,t,h=>by
  have e:cost (x::l)=(jl x).length+cost l:=by simp[cost]
  rw[e];rcases List.mem_cons.1 h with rfl|h
  ·omega
  ·have:=Gp h;omega
theorem Gq(t:fe):1<=(jl t).length:=by
 unfold jl;split
 ·simp
 ·split
  ·simp
  ·have:marks.length=27:=rfl;rw[ax];omega
theorem Gs:∀(l:List fe),l.length<=cost l
 |[]=>aB _
 |x::l=>by
  have e:cost (x::l)=(jl x).length+cost l:=by simp[cost]
  have:=Gs l;have:=Gq x;rw[e,aC];omega
theorem vW(s:ByteArray):nN false ((ei s).l++(ei s).last):=by
 by_cases he:(ei s).err=0
 ·have:=uP s;unfold ly at this;rw[if_neg (by simpa using he)]at this;exact this
 ·have h0:(ei s).last=[]:=by unfold Sc.last;rw[if_pos (Or.inl he)]
  have hi:Inv (ei s):=BZ _ _ ⟨fX.nil,trivial,rfl⟩;rw[h0,aP];exact hi.2.1
theorem Cc:∀{l:List fe} {b:Bool} {t:fe},nN b l->t∈l->zt t
 |[],_,t,_,h=>by simp at h
 |x::l,b,t,hc,h=>by
  rcases List.mem_cons.1 h with rfl|h
  ·exact hc.1
  ·exact Cc hc.2.2 h
theorem zD(s:ByteArray)(t:fe)(h:t∈(ei s).l++(ei s).last):t.text.length<=64*s.size:=by
 have h1:=Gp h;have h2:=tG s;rcases Cc (vW s) h with⟨_,_,_,_,e⟩|⟨_,_,_,e⟩|⟨k,_⟩
 ·rw[e];simp
 ·rw[e];simp
 ·have h3:jl t=Ch.rX false t.text++marks:=by unfold jl;rw[if_neg (by omega),if_neg (by omega)]
  have h7:=Ch.Kb false t.text;rw[h3,ax]at h1;omega
theorem Ce(s:ByteArray):((ei s).l++(ei s).last).length<=64*s.size:=aw (Gs _) (tG s)
end
theorem qf{a:Addr}(b:ByteArray)(w:World)(gl:Gl w a)(hb:b.size<=268435456):Z4 5 #[.string b] w (zB w (eZ b)):=
 Jv b w gl (by omega) (by have:=Ce b;omega) (fun t h=>by have:=zD b t h;omega)
end K
end Go.Proofs.YtclgfepngpeifaaGreatDoor
