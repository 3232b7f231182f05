import Derived.Test.YtclgfepngpeifaaGreatDoorXA
import Derived.Test.YtclgfepngpeifaaGreatDoorXav
import Derived.Test.YtclgfepngpeifaaGreatDoorXau
import Derived.Test.YtclgfepngpeifaaGreatDoorXas
set_option linter.unusedVariables false
set_option linter.unusedSimpArgs false
set_option maxHeartbeats 32000000
set_option maxRecDepth 100000
namespace Go.Proofs.YtclgfepngpeifaaGreatDoor
namespace K
open Go.RowKit Go.Maps Go.Lib Tryz
section
variable{A K S F:Nat->Prop}{w w0 w' w1 w2:World}{nv sv rv:Value}{av kv:Nat->Value}{g:Gr}{X:Nat}
def Gr.nameAt(g:Gr)(k:Nat):List UInt8:=((g.nodes[k]?).map Nd.name).getD []
def Gr.names(g:Gr):List (List UInt8):=(g.stack.map g.nameAt).reverse
def Gr.nest(g:Gr):oI:=⟨g.names,!g.nodes.isEmpty⟩
theorem Cf(g:Gr)(wf:g.Wf)(n:Nd):g.stack.map (g.put n).nameAt=g.stack.map g.nameAt:=by
 refine List.map_congr_left fun k hk=>?_;have hlt:=wf.Lr.lt k hk;unfold Gr.nameAt;rw[Qr g n k hlt]
theorem vh(g:Gr)(n:Nd):(g.put n).nodes.isEmpty=false:=by
 cases h:(g.put n).nodes with
 |nil=>have:=lW g n;rw[h]at this;simp at this
 |cons a l=>rfl
theorem M2(wf:g.Wf)(t:eX):g.nest.take t=((g.take t).1,(g.take t).2.nest):=by
 have hlen:g.names.length=g.stack.length:=by simp[Gr.names]
 have hnil:g.names=[]↔g.stack=[]:=by simp[Gr.names]
 unfold oI.take Gr.take Gr.nest;simp only[hnil,hlen];by_cases h1:t.kind=1
 ·rw[if_pos h1,if_pos h1];by_cases h2:g.stack=[]/\g.nodes≠[]
  ·rw[if_pos ⟨by cases hg:g.nodes with|nil=>exact absurd hg h2.2|cons a l=>rfl,h2.1⟩,if_pos h2]
  ·rw[if_neg (fun e=>h2 ⟨e.2,fun x=>by rw[x]at e;simp at e⟩),if_neg h2];by_cases h3:30<=g.stack.length
   ·rw[if_pos h3,if_pos h3]
   ·rw[if_neg h3,if_neg h3];have e1:(g.put (elemOf t)).nodes.isEmpty=false:=vh _ _;have e2:Gr.names { (g.put (elemOf t))with stack:=g.nodes.length::g.stack}=g.names++[t.name]:=by
     have e3:(g.put (elemOf t)).nameAt g.nodes.length=t.name:=by unfold Gr.nameAt;rw[qU];rfl
     have e4:=Cf g wf (elemOf t);unfold Gr.names;have e5:Gr.nameAt { (g.put (elemOf t))with stack:=g.nodes.length::g.stack}=(g.put (elemOf t)).nameAt:=rfl;simp only[bN,dO,e5];rw[e3,e4]
    rw[e2];simp only[e1];rfl
 ·rw[if_neg h1,if_neg h1];by_cases h2:t.kind=2
  ·rw[if_pos h2,if_pos h2];cases hs:g.stack with
   |nil=>
    have e:g.names=[]:=hnil.2 hs;rw[e,if_neg (by simp)]
   |cons k st=>
    obtain⟨m,hm,_,_⟩:=wf.top hs;have e:g.names=(st.map g.nameAt).reverse++[m.name]:=by
     unfold Gr.names;rw[hs];simp only[bN,dO];have:g.nameAt k=m.name:=by unfold Gr.nameAt;rw[hm];rfl
     rw[this]
    have ri:g.named k t.name=true↔m.name=t.name:=by rw[wD,hm];simp
    simp only;by_cases h3:m.name=t.name
    ·rw[if_pos (by rw[e];simp[h3]),if_pos (ri.2 h3),e,List.dropLast_concat];rfl
    ·rw[if_neg (by rw[e];simpa using h3),if_neg (fun x=>h3 (ri.1 x))]
  ·rw[if_neg h2,if_neg h2];cases hs:g.stack with
   |nil=>
    by_cases h3:gC t.text=true
    ·rw[if_neg (by rw[h3];simp),if_pos h3]
    ·rw[if_pos ⟨rfl,by simpa using h3⟩,if_neg h3]
   |cons k st=>
    rw[if_neg (by simp)];have e1:(g.put (ja t)).nodes.isEmpty=false:=vh _ _;have e2:(g.put (ja t)).names=g.names:=by unfold Gr.names;rw[mH,Cf g wf]
    obtain⟨m,hm,_,hlt⟩:=wf.top hs;have e3:g.nodes.isEmpty=false:=by cases hg:g.nodes with|nil=>rw[hg]at hm;simp at hm|cons a l=>rfl
    simp only[e1,e2,e3]
theorem Jn(wf:g.Wf):g.nest.names≠[]->g.nest.fO=true:=by
 intro h;cases hs:g.stack with
 |nil=>exact absurd (by simp[Gr.nest,Gr.names,hs]) h
 |cons k st=>
  obtain⟨m,hm,_,_⟩:=wf.top hs;have:g.nodes.isEmpty=false:=by cases hg:g.nodes with|nil=>rw[hg]at hm;simp at hm|cons a l=>rfl
  simp[Gr.nest,this]
theorem QL(wf:g.Wf):g.nest.names.length<=30:=by
 have:=wf.deep;simpa [Gr.nest,Gr.names]using this
theorem QM(t:eX)(h:(g.take t).1≠0):(g.take t).2=g:=by
 unfold Gr.take at h ⊢;split
 ·rename_i h1;rw[if_pos h1]at h;split
  ·rfl
  ·rename_i h2;rw[if_neg h2]at h;split
   ·rfl
   ·rename_i h3;rw[if_neg h3]at h;exact absurd rfl h
 ·rename_i h1;rw[if_neg h1]at h;split
  ·rename_i h2;rw[if_pos h2]at h;split
   ·rfl
   ·rename_i k st hs;simp only[hs]at h;split
    ·rename_i h3;rw[if_pos h3]at h;exact absurd rfl h
    ·rfl
  ·rename_i h2;rw[if_neg h2]at h;split
   ·split<;>rfl
   ·rename_i hs;simp only[hs]at h;exact absurd rfl h
structure GR(A F:Nat->Prop)(X:Nat)(w:World)(g:Gr):Prop where
 ex:∃K S nv av kv sv,jD A K X w g nv av kv sv (.bool g.nest.fO)/\NS S X 0 w #[sv,.bool g.nest.fO,nv,.int .i64 (iD g.stack)] 54 sv g.nest.names g.nest.fO/\
  (∀k,K k->F k)/\(∀k,S k->F k)/\(∀k,A k->¬S k)/\(∀k,S k->¬K k)/\(g.nodes=[]->nv=fh)
 lt:∀k,F k->k<w.heap.size
 nF:¬F X
 kids:lD g
 wf:g.Wf
theorem jD.keep{W:World}(h:jD A K X w g nv av kv sv rv)(hM:dZ w W):jD A K X W g nv av kv sv rv:=
 ⟨(hM.keep X (dQ h.blk)).trans h.blk,hM.nodes h.nodes,h.nA,h.nK,h.rY,fun k x=>aq (h.lt k x) hM.size,fun k x=>aq (h.sD k x) hM.size⟩
theorem GR.keep{W:World}(h:GR A F X w g)(hM:dZ w W):GR A F X W g:=by
 obtain⟨⟨K,S,nv,av,kv,sv,h1,h2,h3⟩,h4,h5,h6,h7⟩:=h;exact⟨⟨K,S,nv,av,kv,sv,h1.keep hM,h2.keep hM,h3⟩,fun k x=>aq (h4 k x) hM.size,h5,h6,h7⟩
theorem GR.blk(h:GR A F X w g):X<w.heap.size:=by
 obtain⟨⟨K,S,nv,av,kv,sv,h1,_⟩,_⟩:=h;exact dQ h1.blk
theorem WR{a b c d a' b':Value}{cs:Array Value}(h:GN 0 #[a,b,c,d] cs)(h0:cs[0]?=some a')(h1:cs[0+1]?=some b'):cs=#[a',b',c,d]:=by
 obtain⟨hs,ho⟩:=h;have h2:=ho 2 (by decide) (by decide);have h3:=ho 3 (by decide) (by decide);refine Array.ext_getElem? fun j=>?_
 match j with
 |0=>exact h0
 |1=>exact h1
 |2=>exact h2
 |3=>exact h3
 |j+4=>
  rw[Array.getElem?_eq_none (by rw[hs];simp),Array.getElem?_eq_none (by simp)]
theorem jD.nested{cs:Array Value}{Ks:Value}{n:oI}{r:Bool}(h:jD A K X w g nv av kv sv (.bool r))(hSA:∀k,A k->¬S k)(XW:∀k,S k->¬K k)(q:NS (Grow S w w1) X 0 w1 cs 54 Ks n.names n.fO)(o:GN 0 #[sv,.bool r,nv,.int .i64 (iD g.stack)] cs)(fr:Frame (fun k=>k=X\/S k) w w1):
  jD A K X w1 g nv av kv Ks (.bool n.fO):=by
 have e:=WR o q.c0 q.c1;have hb:=q.blk;rw[e]at hb;refine⟨hb,h.nodes.frame (fun k hk hA=>fr.block k hk ?_) (fun k hk hK=>fr.block k hk ?_) (fun _ _ x=>x),h.nA,h.nK,h.rY,fun k x=>aq (h.lt k x) fr.size,fun k x=>aq (h.sD k x) fr.size⟩
 ·rintro(x|x)
  ·exact h.nA (x▸hA)
  ·exact hSA k hA x
 ·rintro(x|x)
  ·exact h.nK (x▸hK)
  ·exact XW k x hK
def wG(A F:Nat->Prop)(X:Nat)(w:World)(x:Int×Gr)(e:Ending)(w':World):Prop:=e=.returned (.int .i64 x.1)/\GR A (Grow F w w') X w' x.2/\Frame (fun k=>k=X\/F k) w w'
theorem GR.made{K S:Nat->Prop}{jX j5:Value}{je jQ:Nat->Value}{cs:Array Value}{g':Gr}{n:oI}(hlt:∀k,F k->k<w.heap.size)(hnF:¬F X)(XX:∀k,K k->F k)(ZY:∀k,S k->F k)(hAS:∀k,A k->¬S k)(XW:∀k,S k->¬K k)(hA:∀k,A k->k<w.heap.size)(hX:X<w.heap.size)(m0:dZ w w0)(q1:NS (Grow S w0 w1) X 0 w1 cs 54 j5 n.names n.fO)(f1:Frame (fun k=>k=X\/S k) w0 w1)
  (r2:jD A (Grow K w1 w2) X w2 g' jX je jQ j5 (.bool n.fO)) (f2:Frame (fun k=>k=X\/K k) w1 w2) (hn:n=g'.nest) (kids:lD g') (wf:g'.Wf) (hnil:g'.nodes=[]->jX=fh):GR A (Grow F w w2) X w2 g'/\Frame (fun k=>k=X\/F k) w w2:=by
 subst hn;have s0:=m0.size;have s1:=f1.size;have s2:=f2.size;have fr:Frame (fun k=>k=X\/F k) w w2:=by
  refine⟨f2.os.trans (f1.os.trans m0.os),f2.tape.trans (f1.tape.trans m0.tape),f2.output.trans (f1.output.trans m0.output),by omega,fun k hk hf=>?_⟩;rw[f2.block k (by omega) (fun x=>hf (x.imp id (XX k))),f1.block k (by omega) (fun x=>hf (x.imp id (ZY k))),m0.keep k hk]
 refine⟨⟨⟨_,Grow S w0 w1,jX,je,jQ,j5,r2,⟨r2.blk,rfl,rfl,dW q1.row fun k e=>f2.block k (ej q1.row e) ?_,q1.own,q1.nX,fun k x=>aq (q1.lt k x) s2⟩,?_,?_,?_,?_,hnil⟩,iu hlt (by omega),?_,kids,wf⟩,fr⟩
 ·have hS:=q1.own k e;rintro(x|x)
  ·exact q1.nX (x▸hS)
  ·rcases hS with y|y
   ·exact XW k y x
   ·have:=hlt k (XX k x);omega
 ·rintro k (x|x)
  ·exact Or.inl (XX k x)
  ·exact Or.inr ⟨by omega,x.2⟩
 ·rintro k (x|x)
  ·exact Or.inl (ZY k x)
  ·exact Or.inr ⟨by omega,by omega⟩
 ·rintro k hk (x|x)
  ·exact hAS k hk x
  ·have:=hA k hk;omega
 ·rintro k (x|x) (y|y)
  ·exact XW k x y
  ·have:=hlt k (ZY k x);omega
  ·have:=hlt k (XX k y);omega
  ·omega
 ·rintro(x|x)
  ·exact hnF x
  ·omega
theorem jD.top(h:jD A K X w g nv av kv sv rv)(st:List Nat)(o:Int)(ho:o=iD st):jD A K X (w.setCell ⟨X,3,none⟩ (.int .i64 o)) {g with stack:=st} nv av kv sv rv:=by
 have keep:∀b,b≠X->(w.setCell ⟨X,3,none⟩ (.int .i64 o)).heap[b]?=w.heap[b]?:=fun b hb=>ak _ _ _ _ hb;have hz:(w.setCell ⟨X,3,none⟩ (.int .i64 o)).heap.size=w.heap.size:=by simp[World.setCell]
 refine⟨?_,h.nodes.frame (fun b _ hA=>keep b (fun e=>h.nA (by rw[<-e];exact hA))) (fun b _ hK=>keep b (fun e=>h.nK (by rw[<-e];exact hK))) (fun _ _ x=>x),h.nA,h.nK,h.rY,fun b hb=>by rw[hz];exact h.lt b hb,fun b hb=>by rw[hz];exact h.sD b hb⟩;rw[eh h.blk _,ho];rfl
theorem zF{P:Nat->Prop}(w1:World)(i:Nat)(a:Value):Frame (fun k=>k=X\/P k) w1 (w1.setCell ⟨X,i,none⟩ a):=
 ⟨rfl,rfl,rfl,by simp[World.setCell],fun k hk hf=>ak _ _ _ _ (fun e=>hf (Or.inl e))⟩
end
section
variable{A K S F:Nat->Prop}{w w0 w' w1 w2:World}{nv sv rv:Value}{av kv:Nat->Value}{g:Gr}{X:Nat}
theorem lD.put(h:lD g)(n:Nd)(hn:n.kids=[]):lD (g.put n):=by
 intro i m hi;rw[lW];unfold Gr.put at hi;split at hi
 ·by_cases h1:i<g.nodes.length
  ·rw[aU h1]at hi;have:=h i m hi;omega
  ·rw[aW (by omega)]at hi;have h2:=(List.getElem?_eq_some_iff.1 hi).1;simp only[aC,aI]at h2;rw[show i-g.nodes.length=0 by omega]at hi;obtain rfl:_=m:=by simpa using hi
   show n.kids.length<=_;rw[hn];simp
 ·rename_i k st hs;by_cases h1:i<g.nodes.length
  ·rw[aU (by rw[fK];exact h1),mG]at hi;by_cases e:i=k
   ·rw[if_pos e]at hi;obtain⟨m',h3,h4⟩:=Option.map_eq_some_iff.1 hi;have:=h i m' h3;rw[<-h4];simp only[Nd.kid,ax,aC,aI];omega
   ·rw[if_neg e]at hi;have:=h i m hi;omega
  ·rw[aW (by rw[fK];omega),fK]at hi;have h2:=(List.getElem?_eq_some_iff.1 hi).1;simp only[aC,aI]at h2;rw[show i-g.nodes.length=0 by omega]at hi;obtain rfl:_=m:=by simpa using hi
   show n.kids.length<=_;rw[hn];simp
structure GP(A F K S:Nat->Prop)(X:Nat)(w:World)(g:Gr)(nv sv:Value)(av kv:Nat->Value):Prop where
 lV:jD A K X w g nv av kv sv (.bool g.nest.fO)
 nest:NS S X 0 w #[sv,.bool g.nest.fO,nv,.int .i64 (iD g.stack)] 54 sv g.nest.names g.nest.fO
 kF:∀k,K k->F k
 sF:∀k,S k->F k
 aS:∀k,A k->¬S k
 sK:∀k,S k->¬K k
 nil:g.nodes=[]->nv=fh
 lt:∀k,F k->k<w.heap.size
 nF:¬F X
 kids:lD g
 wf:g.Wf
theorem GR.parts(h:GR A F X w g):∃K S nv sv av kv,GP A F K S X w g nv sv av kv:=by
 obtain⟨⟨K,S,nv,av,kv,sv,r0,n0,XX,ZY,hAS,XW,hnil⟩,hlt,hnF,hk,wf⟩:=h;exact⟨K,S,nv,sv,av,kv,r0,n0,XX,ZY,hAS,XW,hnil,hlt,hnF,hk,wf⟩
structure GQ(A F K S:Nat->Prop)(X:Nat)(w w0 w1:World)(g:Gr)(n:oI)(nv j5:Value)(av kv:Nat->Value):Prop where
 more:dZ w w0
 ns:∃cs,NS (Grow S w0 w1) X 0 w1 cs 54 j5 n.names n.fO
 fr:Frame (fun k=>k=X\/S k) w0 w1
 lV:jD A K X w1 g nv av kv j5 (.bool n.fO)
theorem GP.behind{nv sv:Value}{av kv:Nat->Value}{n:oI}{x:Int}{e:Ending}(h:GP A F K S X w g nv sv av kv)(m0:dZ w w0)(q:nM S X 0 w0 #[sv,.bool g.nest.fO,nv,.int .i64 (iD g.stack)] 54 (x,n) e w1):e=.returned (.int .i64 x)/\∃j5,GQ A F K S X w w0 w1 g n nv j5 av kv:=by
 obtain⟨rfl,cs,j5,q1,q2,q3⟩:=q;exact⟨rfl,j5,m0,⟨cs,q1⟩,q3,(h.lV.keep m0).nested h.aS h.sK q1 q2 q3⟩
theorem GP.ends{nv sv j5 jX:Value}{av kv je jQ:Nat->Value}{g':Gr}{x:Int}(h:GP A F K S X w g nv sv av kv)(q:GQ A F K S X w w0 w1 g g'.nest nv j5 av kv)
  (r2:jD A (Grow K w1 w2) X w2 g' jX je jQ j5 (.bool g'.nest.fO)) (f2:Frame (fun k=>k=X\/K k) w1 w2) (kids:lD g') (wf:g'.Wf) (hnil:g'.nodes=[]->jX=fh):wG A F X w (x,g') (.returned (.int .i64 x)) w2:=by
 obtain⟨m0,⟨cs,q1⟩,f1,r1⟩:=q;obtain⟨z1,z2⟩:=GR.made h.lt h.nF h.kF h.sF h.aS h.sK h.lV.sD (dQ h.lV.blk) m0 q1 f1 r2 f2 rfl kids wf hnil;exact⟨rfl,z1,z2⟩
theorem GP.same{nv sv j5:Value}{av kv:Nat->Value}{x:Int}(h:GP A F K S X w g nv sv av kv)(q:GQ A F K S X w w0 w1 g g.nest nv j5 av kv)(m2:dZ w1 w2):wG A F X w (x,g) (.returned (.int .i64 x)) w2:=by
 have r1:=q.lV;have r2:=(r1.keep m2)
 exact h.ends q (r1.next m2.frame r2.nodes (fun k _ x=>Or.inl x) r2.blk) m2.frame h.kids h.wf h.nil
theorem GQ.box{nv j5:Value}{av kv:Nat->Value}{n:oI}{o:Obj}(h:GQ A F K S X w w0 w1 g n nv j5 av kv)(hX:X<w.heap.size)(hS:∀k,S k->k<w.heap.size)(hb:w0.heap[w.heap.size]?=some o):w1.heap[w.heap.size]?=some o:=by
 rw[h.fr.block w.heap.size (Array.getElem?_eq_some_iff.1 hb).1 (fun x=>by
  rcases x with e|e
  ·omega
  ·have:=hS _ e;omega)]
 exact hb
theorem GQ.attr{nv sv j5 va:Value}{av kv:Nat->Value}{n:oI}{m:Nat}{xs:List Value}(h:GQ A F K S X w w0 w1 g n nv j5 av kv)(p:GP A F K S X w g nv sv av kv)(ha:w.ownsRow 0 42 2 va m xs)(mz:∀k,va.ownBlock=some k->A k):w1.ownsRow 0 42 2 va m xs:=by
 refine dW ha fun b e=>(h.fr.block b (aq (ej ha e) h.more.size) ?_).trans (h.more.keep b (ej ha e));rintro(x|x)
 ·exact p.lV.nA (x▸mz b e)
 ·exact p.aS b (mz b e) x
def gU(t:eX)(va:Value):Obj:=.cells #[.int .i64 t.kind,.string ⟨t.name.toArray⟩,va,.string ⟨t.text.toArray⟩,.int .i64 t.at_] 56
def Cg(B:Nat)(k nm va tx at_:Value)(W:World):Prop:=W.cell? ⟨B,0,none⟩=some k/\W.cell? ⟨B,1,none⟩=some nm/\W.cell? ⟨B,2,none⟩=some va/\W.cell? ⟨B,3,none⟩=some tx/\W.cell? ⟨B,4,none⟩=some at_
theorem nN{t:eX}{va:Value}{W:World}{B:Nat}(h:W.heap[B]?=some (gU t va)):Cg B (.int .i64 t.kind) (.string ⟨t.name.toArray⟩) va (.string ⟨t.text.toArray⟩) (.int .i64 t.at_) W:=
 ⟨cell_of h rfl,cell_of h rfl,cell_of h rfl,cell_of h rfl,cell_of h rfl⟩
theorem oJ{nv sv:Value}{av kv:Nat->Value}(h:GP A F K S X w g nv sv av kv)(t:eX)(ai:Option Addr)(ac:Nat)(hz:t.text.length<=9223372036854775807):
  Z4 38 #[Z8 X,l7 t (.slice ai t.attrs.length ac)] (w.alloc (gU t (.slice ai t.attrs.length ac))).drew fun e w1=>e=.returned (.int .i64 (g.take t).1)/\∃j5,GQ A F K S X w (w.alloc (gU t (.slice ai t.attrs.length ac))).drew w1 g (g.take t).2.nest nv j5 av kv/\w1.heap[w.heap.size]?=some (gU t (.slice ai t.attrs.length ac)):=by
 have m0:dZ w (w.alloc (gU t (.slice ai t.attrs.length ac))).drew:=((dZ.refl w).alloc _).drewN 1;have:=MZ (h.nest.keep m0) (QL h.wf) (Jn h.wf) t ai t.attrs.length ac hz;rw[M2 h.wf t]at this;refine this.mono ?_;intro e w1 q;obtain⟨rfl,j5,gq⟩:=h.behind m0 q;exact⟨rfl,j5,gq,gq.box (dQ h.lV.blk) (fun k x=>h.lt k (h.sF k x)) (dR w _)⟩
theorem Jo{nv sv:Value}{av kv:Nat->Value}(h:GP A F K S X w g nv sv av kv)(t:eX)(ai:Option Addr)(ac:Nat)(hz:t.text.length<=9223372036854775807)(h0:(g.take t).1≠0):
  Z4 18 #[Z8 X,l7 t (.slice ai t.attrs.length ac)] w (wG A F X w (g.take t)):=by
 have eR:=oJ h t ai ac hz;have hx:=QM t h0;have iT:∀w1 j5,GQ A F K S X w (w.alloc (gU t (.slice ai t.attrs.length ac))).drew w1 g (g.take t).2.nest nv j5 av kv->wG A F X w (g.take t) (.returned (.int .i64 (g.take t).1)) w1:=fun w1 j5 q=>by
  rw[hx]at q;have:=h.same (x:=(g.take t).1) q (dZ.refl w1);rw[show g.take t=((g.take t).1,g)from Prod.ext rfl hx];exact this
 have hne:((g.take t).1 !=0)=true:=by simpa using h0
 have eA:Cg w.heap.size (.int .i64 t.kind) (.string ⟨t.name.toArray⟩) (.slice ai t.attrs.length ac) (.string ⟨t.text.toArray⟩) (.int .i64 t.at_) (w.alloc (gU t (.slice ai t.attrs.length ac))):=nN (dR w _);obtain⟨b0,b1,b2,b3,b4⟩:=eA;unfold l7 eu at eR ⊢;unfold gU at*
 have HC:=a_ eR;have HF:=a_ iT;clear eR iT h0 hx h;generalize (g.take t).1=no at*
 go_enter func18,ntmps18;go_wp2_with fail;go_region_held3 (fun W=>W.cell? ⟨w.heap.size,0,none⟩=some (.int .i64 t.kind)/\W.cell? ⟨w.heap.size,1,none⟩=some (.string ⟨t.name.toArray⟩)/\W.cell? ⟨w.heap.size,2,none⟩=some (.slice ai t.attrs.length ac)/\W.cell? ⟨w.heap.size,3,none⟩=some (.string ⟨t.text.toArray⟩)/\W.cell? ⟨w.heap.size,4,none⟩=some (.int .i64 t.at_))
  (first|exact⟨b0,b1,b2,b3,b4⟩|exact nN hb1)
  (first|(go_at_call 38;refine HC.out.mono ?_;rintro e w1 ⟨rfl,j5,gq,hb1⟩))
 all_goals
  have T5:=a_ gq;clear gq b0 b1 b2 b3 b4 hb1;go_wp2;go_ret;exact HF.out _ _ T5.out
theorem M3{nv sv:Value}{av kv:Nat->Value}(h:GP A F K S X w g nv sv av kv)(hb:g.nodes.length<=17179869184)(t:eX)(ai:Option Addr)(ac:Nat)(hz:t.text.length<=9223372036854775807)(ha:w.ownsRow 0 42 2 (.slice ai t.attrs.length ac) t.attrs.length (d_ t.attrs))(mz:∀k,(Value.slice ai t.attrs.length ac).ownBlock=some k->A k)(h0:(g.take t).1=0)(hk:t.kind=1):
  Z4 18 #[Z8 X,l7 t (.slice ai t.attrs.length ac)] w (wG A F X w (g.take t)):=by
 have eR:=oJ h t ai ac hz;have hg:g.take t=(0,{ (g.put (elemOf t))with stack:=g.nodes.length::g.stack}):=by
  unfold Gr.take at h0 ⊢;rw[if_pos hk]at h0 ⊢;split at h0
  ·cases h0
  ·rename_i h1;rw[if_neg h1];split at h0
   ·cases h0
   ·rename_i h2;rw[if_neg h2]
 have QN:=h.wf.take t;rw[hg]at eR QN ⊢;have eA:Cg w.heap.size (.int .i64 t.kind) (.string ⟨t.name.toArray⟩) (.slice ai t.attrs.length ac) (.string ⟨t.text.toArray⟩) (.int .i64 t.at_) (w.alloc (gU t (.slice ai t.attrs.length ac))):=nN (dR w _);obtain⟨b0,b1,b2,b3,b4⟩:=eA;have hput:∀w1 j5 n,GQ A F K S X w (w.alloc (gU t (.slice ai t.attrs.length ac))).drew w1 g n nv j5 av kv->Z4 39 #[Z8 X,.agg #[.string ⟨t.name.toArray⟩,.slice ai t.attrs.length ac,.string ⟨#[]⟩,.slice none 0 0,.int .i64 0]] w1 fun e w'=>e=.returned (.int .i64 g.nodes.length)/\∃jX je jQ,jD A (Grow K w1 w') X w' (g.put (elemOf t)) jX je jQ j5 (.bool n.fO)/\Frame (fun k=>k=X\/K k) w1 w':=fun w1 j5 n q=>
  Gg q.lV h.wf h.kids (elemOf t) (.slice ai t.attrs.length ac) 0 (q.attr h ha mz) mz rfl hb
 have iT:∀w1 w2 j5 jX je jQ,GQ A F K S X w (w.alloc (gU t (.slice ai t.attrs.length ac))).drew w1 g (Gr.nest { (g.put (elemOf t))with stack:=g.nodes.length::g.stack}) nv j5 av kv->jD A (Grow K w1 w2) X w2 (g.put (elemOf t)) jX je jQ j5 (.bool (Gr.nest { (g.put (elemOf t))with stack:=g.nodes.length::g.stack}).fO)->Frame (fun k=>k=X\/K k) w1 w2->
   wG A F X w (0,{ (g.put (elemOf t))with stack:=g.nodes.length::g.stack}) (.returned (.int .i64 0)) (w2.setCell ⟨X,3,none⟩ (.int .i64 g.nodes.length)):=fun w1 w2 j5 jX je jQ q r f=>by
  have r3:=r.top (g.nodes.length::g.stack) (g.nodes.length:Int) rfl;have f3:Frame (fun k=>k=X\/K k) w1 (w2.setCell ⟨X,3,none⟩ (.int .i64 g.nodes.length)):=f.trans' (zF w2 3 _);have hz2:(w2.setCell ⟨X,3,none⟩ (.int .i64 g.nodes.length)).heap.size=w2.heap.size:=by simp[World.setCell]
  have r4:jD A (Grow K w1 (w2.setCell ⟨X,3,none⟩ (.int .i64 g.nodes.length))) X (w2.setCell ⟨X,3,none⟩ (.int .i64 g.nodes.length)) { (g.put (elemOf t))with stack:=g.nodes.length::g.stack} jX je jQ j5 _:=
   q.lV.next (g':={ (g.put (elemOf t))with stack:=g.nodes.length::g.stack}) f3 r3.nodes (fun k _ x=>x.imp id fun y=>⟨y.1,by rw[hz2];exact y.2⟩) r3.blk
  refine h.ends q r4 f3 (h.kids.put (elemOf t) rfl) QN (fun e=>?_);have:=vh g (elemOf t);have e':(g.put (elemOf t)).nodes=[]:=e;rw[e']at this;cases this
 have hcell:∀w2 jX je jQ j5 rv1 K2,jD A K2 X w2 (g.put (elemOf t)) jX je jQ j5 rv1->(∃v,w2.cell? ⟨X,3,none⟩=some v)/\w2.frozen? ⟨X,3,none⟩=false:=fun w2 jX je jQ j5 rv1 K2 r=>⟨⟨_,r.cell 3 rfl⟩,dY r.blk⟩
 unfold l7 eu at eR ⊢;unfold gU at*
 have ny:(t.kind==1)=true:=by simpa using hk
 clear hk;have HC:=a_ eR;have HF:=a_ iT;have HP:=a_ hput;have HQ:=a_ hcell;clear eR iT h0 h hput hcell hg QN ha mz;generalize Gr.nest { (g.put (elemOf t))with stack:=g.nodes.length::g.stack}=nn at*
 go_enter func18,ntmps18;go_wp2_with fail;go_region_held3 (fun W=>W.cell? ⟨w.heap.size,0,none⟩=some (.int .i64 t.kind)/\W.cell? ⟨w.heap.size,1,none⟩=some (.string ⟨t.name.toArray⟩)/\W.cell? ⟨w.heap.size,2,none⟩=some (.slice ai t.attrs.length ac)/\W.cell? ⟨w.heap.size,3,none⟩=some (.string ⟨t.text.toArray⟩)/\W.cell? ⟨w.heap.size,4,none⟩=some (.int .i64 t.at_))
  (first|exact⟨b0,b1,b2,b3,b4⟩|exact nN (t:=t) hb1)
  (first|(go_at_call 38;refine HC.out.mono ?_;rintro e w1 ⟨rfl,j5,gq,hb1⟩))
 all_goals
  have hp:=HP.out _ _ _ gq;have hb2:=nN (t:=t) (va:=.slice ai t.attrs.length ac) hb1;obtain⟨d0,d1,d2,d3,d4⟩:=hb2;have T5:=a_ gq;clear gq b0 b1 b2 b3 b4 hb1;go_wp2_with(go_at_call 39;refine hp.mono ?_;rintro e w2 ⟨rfl,jX,je,jQ,r2,f2⟩;obtain⟨⟨v3,c3⟩,f3⟩:=HQ.out _ _ _ _ _ _ _ r2;have R2:=a_ r2;have F2:=a_ f2;clear r2 f2);go_ret;exact HF.out _ _ _ _ _ _ T5.out R2.out F2.out
end
section
variable{A K S F:Nat->Prop}{w w0 w' w1 w2:World}{nv sv rv:Value}{av kv:Nat->Value}{g:Gr}{X:Nat}
theorem M5{nv sv:Value}{av kv:Nat->Value}(h:GP A F K S X w g nv sv av kv)(t:eX)(ai:Option Addr)(ac:Nat)(hz:t.text.length<=9223372036854775807)(h0:(g.take t).1=0)(hk:t.kind=2):
  Z4 18 #[Z8 X,l7 t (.slice ai t.attrs.length ac)] w (wG A F X w (g.take t)):=by
 have eR:=oJ h t ai ac hz;obtain⟨k,st,m,hs,hm,og,hg⟩:∃k st m,g.stack=k::st/\g.nodes[k]?=some m/\m.up=iD st/\g.take t=(0,{g with stack:=st}):=by
  unfold Gr.take at h0 ⊢;rw[if_neg (by omega),if_pos hk]at h0 ⊢;cases hs:g.stack with
  |nil=>simp only[hs]at h0;cases h0
  |cons k st=>
   obtain⟨m,hm,og,_⟩:=h.wf.top hs;simp only[hs]at h0 ⊢;split at h0
   ·rename_i h1;exact⟨k,st,m,rfl,hm,og,by rw[if_pos h1]⟩
   ·cases h0
 have QN:=h.wf.take t;rw[hg]at eR QN ⊢;have vS:k<g.nodes.length:=(List.getElem?_eq_some_iff.1 hm).1;have eA:Cg w.heap.size (.int .i64 t.kind) (.string ⟨t.name.toArray⟩) (.slice ai t.attrs.length ac) (.string ⟨t.text.toArray⟩) (.int .i64 t.at_) (w.alloc (gU t (.slice ai t.attrs.length ac))):=nN (dR w _);obtain⟨b0,b1,b2,b3,b4⟩:=eA;have l5:∀w1 j5 n,GQ A F K S X w (w.alloc (gU t (.slice ai t.attrs.length ac))).drew w1 g n nv j5 av kv->∃gN nc,w1.cell? ⟨X,2,none⟩=some (Z9 gN g.nodes.length nc)/\w1.cell? ⟨X,3,none⟩=some (.int .i64 k)/\w1.cell? ⟨gN,k*5+4,none⟩=some (.int .i64 m.up)/\w1.frozen? ⟨X,3,none⟩=false/\gN≠X:=fun w1 j5 n q=>by
  obtain⟨gN,nc,pW,hmx,Jh,m0,m1,m2,m3,m4⟩:=q.lV.nodes.cells k m hm;refine⟨gN,nc,(q.lV.cell (u:=nv) 2 rfl).trans (by rw[pW]),by rw[q.lV.cell 3 rfl,hs];rfl,m4,dY q.lV.blk,fun e=>q.lV.nK (e▸Jh)⟩
 have iT:∀w1 j5,GQ A F K S X w (w.alloc (gU t (.slice ai t.attrs.length ac))).drew w1 g (Gr.nest {g with stack:=st}) nv j5 av kv->
   wG A F X w (0,{g with stack:=st}) (.returned (.int .i64 0)) (w1.setCell ⟨X,3,none⟩ (.int .i64 m.up)).drew:=fun w1 j5 q=>by
  have r3:=(q.lV.top st m.up og).keep ((dZ.refl _).drewN 1);have f3:Frame (fun k=>k=X\/K k) w1 (w1.setCell ⟨X,3,none⟩ (.int .i64 m.up)).drew:=(zF w1 3 _).trans' (Frame.drew' _);have r4:=q.lV.next (g':={g with stack:=st}) f3 r3.nodes (fun k _ x=>Or.inl x) r3.blk;refine h.ends q r4 f3 h.kids QN (fun e=>?_);have e':g.nodes=[]:=e;rw[e']at hm;simp at hm
 unfold l7 eu at eR ⊢;unfold gU at*
 have ny:(t.kind==1)=false:=by rw[hk];rfl
 have hk2:(t.kind==2)=true:=by simpa using hk
 have XV:(k:Int)<g.nodes.length:=by omega
 have HC:=a_ eR;have HF:=a_ iT;have HQ:=a_ l5;clear eR iT h0 h l5 hg QN hs hk og;generalize Gr.nest {g with stack:=st}=nn at*
 go_enter func18,ntmps18;go_wp2_with fail;go_region_held3 (fun W=>W.cell? ⟨w.heap.size,0,none⟩=some (.int .i64 t.kind)/\W.cell? ⟨w.heap.size,1,none⟩=some (.string ⟨t.name.toArray⟩)/\W.cell? ⟨w.heap.size,2,none⟩=some (.slice ai t.attrs.length ac)/\W.cell? ⟨w.heap.size,3,none⟩=some (.string ⟨t.text.toArray⟩)/\W.cell? ⟨w.heap.size,4,none⟩=some (.int .i64 t.at_))
  (first|exact⟨b0,b1,b2,b3,b4⟩|exact nN (t:=t) hb1)
  (first|(go_at_call 38;refine HC.out.mono ?_;rintro e w1 ⟨rfl,j5,gq,hb1⟩))
 all_goals
  have hb2:=nN (t:=t) (va:=.slice ai t.attrs.length ac) hb1;obtain⟨d0,d1,d2,d3,d4⟩:=hb2;obtain⟨gN,nc,c2,c3,c4,f3,hgX⟩:=HQ.out _ _ _ gq;have T5:=a_ gq;clear gq b0 b1 b2 b3 b4 hb1;go_wp2_with fail;go_region_law (fail);all_goals
   go_wp2;go_ret;exact HF.out _ _ T5.out
theorem M7{nv sv:Value}{av kv:Nat->Value}(h:GP A F K S X w g nv sv av kv)(hb:g.nodes.length<=17179869184)(t:eX)(ai:Option Addr)(ac:Nat)(hz:t.text.length<=9223372036854775807)(h0:(g.take t).1=0)(ny:t.kind≠1)(hk2:t.kind≠2)(k:Nat)(st:List Nat)(hs:g.stack=k::st):
  Z4 18 #[Z8 X,l7 t (.slice ai t.attrs.length ac)] w (wG A F X w (g.take t)):=by
 have eR:=oJ h t ai ac hz;have hg:g.take t=(0,g.put (ja t)):=by
  unfold Gr.take;rw[if_neg ny,if_neg hk2];simp only[hs]
 have QN:=h.wf.take t;rw[hg]at eR QN ⊢;have eA:Cg w.heap.size (.int .i64 t.kind) (.string ⟨t.name.toArray⟩) (.slice ai t.attrs.length ac) (.string ⟨t.text.toArray⟩) (.int .i64 t.at_) (w.alloc (gU t (.slice ai t.attrs.length ac))):=nN (dR w _);obtain⟨b0,b1,b2,b3,b4⟩:=eA;have hput:∀w1 j5 n,GQ A F K S X w (w.alloc (gU t (.slice ai t.attrs.length ac))).drew w1 g n nv j5 av kv->Z4 39 #[Z8 X,.agg #[.string ⟨#[]⟩,.slice none 0 0,.string ⟨t.text.toArray⟩,.slice none 0 0,.int .i64 0]] w1 fun e w'=>e=.returned (.int .i64 g.nodes.length)/\∃jX je jQ,jD A (Grow K w1 w') X w' (g.put (ja t)) jX je jQ j5 (.bool n.fO)/\Frame (fun k=>k=X\/K k) w1 w':=fun w1 j5 n q=>
  Gg q.lV h.wf h.kids (ja t) (.slice none 0 0) 0 ⟨rfl,Or.inl ⟨rfl,rfl⟩⟩ (fun k e=>by cases e) rfl hb
 have l5:∀w1 j5 n,GQ A F K S X w (w.alloc (gU t (.slice ai t.attrs.length ac))).drew w1 g n nv j5 av kv->w1.cell? ⟨X,3,none⟩=some (.int .i64 k):=fun w1 j5 n q=>by rw[q.lV.cell 3 rfl,hs];rfl
 have iT:∀w1 w2 j5 jX je jQ,GQ A F K S X w (w.alloc (gU t (.slice ai t.attrs.length ac))).drew w1 g (g.put (ja t)).nest nv j5 av kv->jD A (Grow K w1 w2) X w2 (g.put (ja t)) jX je jQ j5 (.bool (g.put (ja t)).nest.fO)->Frame (fun k=>k=X\/K k) w1 w2->
   wG A F X w (0,g.put (ja t)) (.returned (.int .i64 0)) w2:=fun w1 w2 j5 jX je jQ q r f=>by
  refine h.ends q r f (h.kids.put (ja t) rfl) QN (fun e=>?_);have:=vh g (ja t);rw[e]at this;cases this
 unfold l7 eu at eR ⊢;unfold gU at*
 have e1:(t.kind==1)=false:=by simpa using ny
 have e2:(t.kind==2)=false:=by simpa using hk2
 have hkn:((k:Int) != -1)=true:=by simp
 have HC:=a_ eR;have HF:=a_ iT;have HP:=a_ hput;have HQ:=a_ l5;clear eR iT h0 h hput l5 hg QN hs ny hk2;generalize (g.put (ja t)).nest=nn at*
 go_enter func18,ntmps18;go_wp2_with fail;go_region_held3 (fun W=>W.cell? ⟨w.heap.size,0,none⟩=some (.int .i64 t.kind)/\W.cell? ⟨w.heap.size,1,none⟩=some (.string ⟨t.name.toArray⟩)/\W.cell? ⟨w.heap.size,2,none⟩=some (.slice ai t.attrs.length ac)/\W.cell? ⟨w.heap.size,3,none⟩=some (.string ⟨t.text.toArray⟩)/\W.cell? ⟨w.heap.size,4,none⟩=some (.int .i64 t.at_))
  (first|exact⟨b0,b1,b2,b3,b4⟩|exact nN (t:=t) hb1)
  (first|(go_at_call 38;refine HC.out.mono ?_;rintro e w1 ⟨rfl,j5,gq,hb1⟩))
 all_goals
  have hp:=HP.out _ _ _ gq;have hb2:=nN (t:=t) (va:=.slice ai t.attrs.length ac) hb1;obtain⟨d0,d1,d2,d3,d4⟩:=hb2;have c3:=HQ.out _ _ _ gq;have T5:=a_ gq;clear gq b0 b1 b2 b3 b4 hb1;go_wp2_with(go_at_call 39;refine hp.mono ?_;rintro e w2 ⟨rfl,jX,je,jQ,r2,f2⟩;have R2:=a_ r2;have F2:=a_ f2;clear r2 f2);go_ret;exact HF.out _ _ _ _ _ _ T5.out R2.out F2.out
theorem Jp{nv sv:Value}{av kv:Nat->Value}(h:GP A F K S X w g nv sv av kv)(t:eX)(ai:Option Addr)(ac:Nat)(hz:t.text.length<=9223372036854775807)(h0:(g.take t).1=0)(ny:t.kind≠1)(hk2:t.kind≠2)(hs:g.stack=[]):
  Z4 18 #[Z8 X,l7 t (.slice ai t.attrs.length ac)] w (wG A F X w (g.take t)):=by
 have eR:=oJ h t ai ac hz;have hg:g.take t=(0,g):=by
  unfold Gr.take at h0 ⊢;rw[if_neg ny,if_neg hk2]at h0 ⊢;simp only[hs]at h0 ⊢;split at h0
  ·rename_i h1;rw[if_pos h1]
  ·cases h0
 rw[hg]at eR ⊢;have eA:Cg w.heap.size (.int .i64 t.kind) (.string ⟨t.name.toArray⟩) (.slice ai t.attrs.length ac) (.string ⟨t.text.toArray⟩) (.int .i64 t.at_) (w.alloc (gU t (.slice ai t.attrs.length ac))):=nN (dR w _);obtain⟨b0,b1,b2,b3,b4⟩:=eA;have l5:∀w1 j5 n,GQ A F K S X w (w.alloc (gU t (.slice ai t.attrs.length ac))).drew w1 g n nv j5 av kv->w1.cell? ⟨X,3,none⟩=some (.int .i64 (-1)):=fun w1 j5 n q=>by rw[q.lV.cell 3 rfl,hs];rfl
 have iT:∀w1 j5,GQ A F K S X w (w.alloc (gU t (.slice ai t.attrs.length ac))).drew w1 g g.nest nv j5 av kv->wG A F X w (0,g) (.returned (.int .i64 0)) w1:=fun w1 j5 q=>h.same q (dZ.refl w1);unfold l7 eu at eR ⊢;unfold gU at*
 have e1:(t.kind==1)=false:=by simpa using ny
 have e2:(t.kind==2)=false:=by simpa using hk2
 have HC:=a_ eR;have HF:=a_ iT;have HQ:=a_ l5;clear eR iT h0 h l5 hg hs ny hk2;generalize g.nest=nn at*
 go_enter func18,ntmps18;go_wp2_with fail;go_region_held3 (fun W=>W.cell? ⟨w.heap.size,0,none⟩=some (.int .i64 t.kind)/\W.cell? ⟨w.heap.size,1,none⟩=some (.string ⟨t.name.toArray⟩)/\W.cell? ⟨w.heap.size,2,none⟩=some (.slice ai t.attrs.length ac)/\W.cell? ⟨w.heap.size,3,none⟩=some (.string ⟨t.text.toArray⟩)/\W.cell? ⟨w.heap.size,4,none⟩=some (.int .i64 t.at_))
  (first|exact⟨b0,b1,b2,b3,b4⟩|exact nN (t:=t) hb1)
  (first|(go_at_call 38;refine HC.out.mono ?_;rintro e w1 ⟨rfl,j5,gq,hb1⟩))
 all_goals
  have hb2:=nN (t:=t) (va:=.slice ai t.attrs.length ac) hb1;obtain⟨d0,d1,d2,d3,d4⟩:=hb2;have c3:=HQ.out _ _ _ gq;have T5:=a_ gq;clear gq b0 b1 b2 b3 b4 hb1;go_wp2;go_ret;exact HF.out _ _ T5.out
theorem M8(h:GR A F X w g)(hb:g.nodes.length<=17179869184)(t:eX)(va:Value)(hz:t.text.length<=9223372036854775807)(ha:w.ownsRow 0 42 2 va t.attrs.length (d_ t.attrs))(mz:∀k,va.ownBlock=some k->A k):
  Z4 18 #[Z8 X,l7 t va] w (wG A F X w (g.take t)):=by
 obtain⟨K,S,nv,sv,av,kv,p⟩:=h.parts;obtain⟨ai,ac,rfl⟩:=dS ha;by_cases h0:(g.take t).1=0
 ·by_cases ny:t.kind=1
  ·exact M3 p hb t ai ac hz ha mz h0 ny
  ·by_cases hk2:t.kind=2
   ·exact M5 p t ai ac hz h0 hk2
   ·cases hs:g.stack with
    |nil=>exact Jp p t ai ac hz h0 ny hk2 hs
    |cons k st=>exact M7 p hb t ai ac hz h0 ny hk2 k st hs
 ·exact Jo p t ai ac hz h0
end
section
variable{A K K':Nat->Prop}{w w' w1:World}{nv v:Value}{av kv:Nat->Value}{g:Gr}{X:Nat}{a:Addr}{l:List eX}
theorem BM.atA(h:BM A w v l)(i:Nat)(hi:i<l.length):∃g cap va,v=Z9 g l.length cap/\w.ownsRow 0 42 2 va (l[i]).attrs.length (d_ (l[i]).attrs)/\(∀k,va.ownBlock=some k->A k)/\
  w.cell? ⟨g,i*5,none⟩=some (.int .i64 (l[i]).kind)/\w.cell? ⟨g,i*5+1,none⟩=some (eu (l[i]).name)/\w.cell? ⟨g,i*5+2,none⟩=some va/\w.cell? ⟨g,i*5+3,none⟩=some (eu (l[i]).text)/\w.cell? ⟨g,i*5+4,none⟩=some (.int .i64 (l[i]).at_)/\l.length<=maxLen:=by
 obtain⟨cs,h1,h2,h3⟩:=h;have Oh:=h1;rcases Oh.2 with⟨e,e0⟩|⟨g,cap,cur,e,_,_,Uq,NQ,_⟩
 ·omega
 subst e;have hc:=h1.cells (g:=g) rfl;have key:∀(l:List eX) (cs:List Value),k_ A 0 w fh l cs->∀(i:Nat) (hi:i<l.length),∃va,w.ownsRow 0 42 2 va (l[i]).attrs.length (d_ (l[i]).attrs)/\(∀k,va.ownBlock=some k->A k)/\cs[i*5]?=some (.int .i64 (l[i]).kind)/\cs[i*5+1]?=some (eu (l[i]).name)/\cs[i*5+2]?=some va/\cs[i*5+3]?=some (eu (l[i]).text)/\cs[i*5+4]?=some (.int .i64 (l[i]).at_):=by
  intro l cs h;induction h with
  |nil=>intro i hi;cases hi
  |cons t v l cs ho hf hl ih=>
   intro i hi;cases i with
   |zero=>exact⟨v,ho,fun k e=>(hf k e).1,rfl,rfl,rfl,rfl,rfl⟩
   |succ i=>
    obtain⟨va,a0,b0,a1,a2,a3,a4,a5⟩:=ih i (by simpa using hi);have e1:∀j,(i+1)*5+j=(eB t v).length+(i*5+j):=fun j=>by show _=5+_;omega
    have e2:∀j,(eB t v++cs)[(i+1)*5+j]?=cs[i*5+j]?:=fun j=>by rw[e1,aW (cG _ _),Nat.add_sub_cancel_left]
    exact⟨va,a0,b0,(e2 0).trans a1,(e2 1).trans a2,(e2 2).trans a3,(e2 3).trans a4,(e2 4).trans a5⟩
 obtain⟨va,a0,b0,a1,a2,a3,a4,a5⟩:=key l cs h2 i hi;have up:∀j u,cs[j]?=some u->w.cell? ⟨g,j,none⟩=some u:=fun j u hj=>by
  have:=hc j u hj;rwa[Addr.add_mid,aG]at this
 exact⟨g,cap,va,rfl,a0,b0,up _ _ a1,up _ _ a2,up _ _ a3,up _ _ a4,up _ _ a5,aw Uq NQ⟩
theorem QO(h:BM A w v l):∃b c,v=.slice b l.length c/\l.length<=maxLen:=by
 obtain⟨cs,o,_,_⟩:=h;rcases o.2 with⟨rfl,e⟩|⟨g,cap,cur,rfl,_,_,h1,h2,_⟩
 ·rw[e];exact⟨none,0,rfl,aB _⟩
 ·exact⟨_,_,rfl,aw h1 h2⟩
def ZZ(B:Nat)(w:World)(v:Value)(l:List Nd):Prop:=∃A K av kv,gX 40 42 A K w v l av kv/\(∀k,A k->B<=k)/\(∀k,K k->B<=k)/\(∀k,A k->¬K k)
def zG(w:World)(x:List Nd×Int×Int)(e:Ending)(w':World):Prop:=∃v,e=.returned (.tuple #[v,.int .i64 x.2.1,.int .i64 x.2.2])/\ZZ w.heap.size w' v x.1/\Below w.heap.size w w'/\(x.2.1≠0->v=fh)
structure Start(w:World)(b:ByteArray)(v':Value)(w4:World):Prop where
 ex:∃A,BM A w4 v' ((ee b).l++(ee b).last)/\(∀k,A k->w.heap.size<=k)
 below:Below w.heap.size w w4
 err:∀W,dZ w4 W->Z4 19 #[.pointer (some ⟨w.heap.size,0,none⟩)] W fun e w5=>e=.returned (.tuple #[.int .i64 (ee b).err,.int .i64 (ee b).at_])/\Below W.heap.size W w5
theorem QP(b:ByteArray)(w:World)(gl:Gl w a)(hb:b.size<=2147483648):
  Z4 16 #[.pointer (some ⟨w.heap.size,0,none⟩),.string b] (w.alloc (.cells oH 110)) fun e w2=>∃v1,e=.returned v1/\
   Z4 17 #[.pointer (some ⟨w.heap.size,0,none⟩)] w2 fun e w3=>∃v2,e=.returned v2/\∃v' w4,(Builtin.append_ #[47,47] 47 #[v1,v2]).run prog w3=.ok v' w4/\Start w b v' w4:=by
 have hsz:=gl.size;have Mi:=Qb gl (.cells oH 110);have lo0:Low (fun k=>k=w.heap.size):=fun k hk e=>by omega
 have hw:=P8 (Mr w) zr Mi lo0 b (by omega);have hg:=IY zr b;have ht1:=IZ zr b;have ht2:=I0 hg;obtain⟨cr1,cr2,_⟩:=BV b;refine hw.mono ?_;rintro e w2 ⟨v1,A1,F1,rfl,an1,al1,xl,h1,h2⟩;have hz1:w.heap.size+1<=w2.heap.size:=by have:=xl.size;simp at this;omega
 have XR:∀k,F1 k->w.heap.size<=k:=fun k hk=>(h2 k hk).elim (fun e=>by omega) (fun x=>by have:=x.1;simp at this;omega);have Tm:Low F1:=fun k hk x=>by have:=XR k x;omega
 refine⟨v1,rfl,(P9 al1 hg (Mi.frame xl lo0) Tm (by omega)).mono ?_⟩;rintro e w3 ⟨v2,A2,F2,rfl,an2,al2,lI,g1,g2⟩;obtain⟨v',w4,A,hrun,UW,al4,b4,hA,hF2⟩:=Qa (x:=PR.new.write b) (y:=(PR.new.write b).1.close) (K:=w.heap.size) (by omega) an1 (fun k hA=>⟨(h1 k hA).1.elim (fun e=>by omega) (fun x=>by have:=x.1;simp at this;omega),(h1 k hA).1.elim (fun e=>by omega) (fun x=>x.2),(h1 k hA).2⟩) XR an2 al2 lI g1 g2 (by omega);have b1:Below w.heap.size w (w.alloc (.cells oH 110)):=(Below.refl _ _).alloc (au _) _;have b2:Below w.heap.size (w.alloc (.cells oH 110)) w2:=xl.up (fun k e=>by omega) (by simp);rw[BU,cr1]at UW;refine⟨v2,rfl,v',w4,hrun,⟨A,UW,fun k hk=>(hA k hk).1⟩,(b1.trans b2).trans b4,fun W hM=>?_⟩;have hlt:∀k,F2 k->k<w4.heap.size:=fun k hk=>by obtain⟨_,_,lV,_⟩:=al4;exact lV.lt k hk
 have:=Wy (al4.keep (fun k hk=>hM.keep k (hlt k hk)) hM.size);rw[cr2]at this;exact this
end
section
variable{A K K':Nat->Prop}{w w' w1 w4 wr:World}{nv v:Value}{av kv:Nat->Value}{g:Gr}{X:Nat}{a:Addr}{l T:List eX}
structure PI(w4:World)(A:Nat->Prop)(T:List eX)(wr:World)(k:Nat):Prop where
 ex:∃g Kx,GR A Kx w4.heap.size wr g/\(∀j,Kx j->w4.heap.size<=j)/\grow Gr.zero T=grow g (T.drop k)/\g.nodes.length<=k
 more:dZ w4 wr
theorem PI.start(hA:∀k,A k->k<w4.heap.size):PI w4 A T (w4.alloc (.cells #[.slice none 0 0,.bool false,.slice none 0 0,.int .i64 (-1)] 54)) 0:=by refine⟨⟨Gr.zero,fun _=>False,⟨⟨fun _=>False,fun _=>False,fh,_,_,fh,⟨dR w4 _,gX.zero,fun x=>by have:=hA _ x;omega,fun x=>x,fun _ _ x=>x,fun _ x=>x.elim,fun k x=>by have:=hA k x;simp;omega⟩,⟨dR w4 _,rfl,rfl,⟨rfl,Or.inl ⟨rfl,rfl⟩⟩,(fun k e=>by cases e),fun x=>x,fun _ x=>x.elim⟩,fun _ x=>x,fun _ x=>x,fun _ _ x=>x,fun _ x=>x.elim,fun _=>rfl⟩,fun _ x=>x.elim,fun x=>x,fun i m hi=>by simp[Gr.zero]at hi,Gr.Wf.zero⟩,fun _ x=>x.elim,by simp,by simp[Gr.zero]⟩,(dZ.refl w4).alloc _⟩
theorem PI.call{k:Nat}(h:PI w4 A T wr k)(hk:k<T.length)(hb:T.length<=17179869184)(hA:∀k,A k->k<w4.heap.size)(va:Value)(hz:(T[k]).text.length<=9223372036854775807)(ha:w4.ownsRow 0 42 2 va (T[k]).attrs.length (d_ (T[k]).attrs))(mz:∀k,va.ownBlock=some k->A k)(o:Obj):
  Z4 18 #[.pointer (some ⟨w4.heap.size,0,none⟩),l7 (T[k]) va] (wr.alloc o) fun e w'=>∃no,e=.returned (.int .i64 no)/\dZ w4 w'/\w'.heap[wr.heap.size]?=some o/\(no=0->PI w4 A T w' (k+1))/\(no≠0->(grow Gr.zero T).1=no/\(grow Gr.zero T).2.1=(T[k]).at_):=by
 obtain⟨⟨g,Kx,hg,hKx,hgr,hlen⟩,hM⟩:=h;have hM1:dZ wr (wr.alloc o):=(dZ.refl wr).alloc o;have tZ:=hM.alloc o;have hXr:w4.heap.size<wr.heap.size:=hg.blk;have hdrop:T.drop k=T[k]::T.drop (k+1):=(cw hk)
 refine(M8 (hg.keep hM1) (by omega) (T[k]) va hz (dW ha fun b e=>tZ.keep b (ej ha e)) mz).mono ?_;rintro e w' ⟨rfl,r,fr⟩;have hM3:dZ w4 w':=⟨fr.os.trans tZ.os,fr.tape.trans tZ.tape,fr.output.trans tZ.output,aw tZ.size fr.size,fun b hb2=>by
  rw[fr.block b (aq hb2 tZ.size) (fun x=>by
   rcases x with e|e
   ·omega
   ·have:=hKx b e;omega)]
  exact tZ.keep b hb2⟩
 have aa_:∀j,Kx j->j<wr.heap.size:=hg.lt;refine⟨_,rfl,hM3,?_,fun h0=>?_,fun hn=>?_⟩
 ·rw[fr.block wr.heap.size (by simp) (fun x=>by
   rcases x with e|e
   ·omega
   ·have:=aa_ _ e;omega)]
  exact dR wr o
 ·refine⟨⟨_,_,r,?_,?_,?_⟩,hM3⟩
  ·rintro j (e|e)
   ·exact hKx j e
   ·have:=e.1;simp at this;omega
  ·rw[hgr,hdrop];simp only[grow];rw[if_neg (by simpa using h0)]
  ·have:(g.take (T[k])).2.nodes.length<=g.nodes.length+1:=by
    unfold Gr.take;split
    ·split
     ·simp
     ·split
      ·simp
      ·simp only[lW];omega
    ·split
     ·split
      ·simp
      ·split<;>simp
     ·split
      ·split<;>simp
      ·rw[lW];omega
   omega
 ·rw[hgr,hdrop];simp only[grow];rw[if_pos hn];exact⟨rfl,rfl⟩
end
section
variable{A K K':Nat->Prop}{w w' w1 w4 wr:World}{nv v:Value}{av kv:Nat->Value}{g:Gr}{X:Nat}{a:Addr}{l T:List eX}
theorem PI.over(h:PI w4 A T wr T.length):∃g Kx,GR A Kx w4.heap.size wr g/\(∀j,Kx j->w4.heap.size<=j)/\grow Gr.zero T=(0,0,g):=by
 obtain⟨⟨g,Kx,h1,h2,h3,_⟩,_⟩:=h;refine⟨g,Kx,h1,h2,?_⟩;rw[h3,List.drop_length];rfl
theorem zH{no q:Int}(b4:Below w.heap.size w w4)(hM:dZ w4 w')(hn:no≠0):zG w ([],no,q) (.returned (.tuple #[.slice none 0 0,.int .i64 no,.int .i64 q])) w':=
 ⟨fh,rfl,⟨fun _=>False,fun _=>False,_,_,gX.zero,fun _ x=>x.elim,fun _ x=>x.elim,fun _ x=>x.elim⟩,b4.trans ⟨hM.os,hM.tape,hM.output,hM.size,fun k hk=>hM.keep k (aq hk b4.size)⟩,fun _=>rfl⟩
structure Says(b:ByteArray)(T:List eX)(DR Rw:Int):Prop where
 tok:(grow Gr.zero T).1≠0->eJ b=([],(grow Gr.zero T).1,(grow Gr.zero T).2.1)
 err:(grow Gr.zero T).1=0->DR≠0->eJ b=([],DR,Rw)
 form:(grow Gr.zero T).1=0->DR=0->((grow Gr.zero T).2.2.stack≠[]\/(grow Gr.zero T).2.2.nodes=[])->eJ b=([],3,(b.size:Int))
 ok:(grow Gr.zero T).1=0->DR=0->(grow Gr.zero T).2.2.stack=[]->(grow Gr.zero T).2.2.nodes≠[]->eJ b=((grow Gr.zero T).2.2.nodes,0,0)
theorem says(b:ByteArray):Says b ((ee b).l++(ee b).last) (ee b).err (ee b).at_:=by
 refine⟨fun h=>?_,fun h h2=>?_,fun h h2 h3=>?_,fun h h2 h3 h4=>?_⟩
 ·unfold eJ;rw[if_pos h]
 ·unfold eJ;rw[if_neg (by simpa using h),if_pos h2]
 ·unfold eJ;rw[if_neg (by simpa using h),if_neg (by simpa using h2),if_pos h3]
 ·unfold eJ;rw[if_neg (by simpa using h),if_neg (by simpa using h2),if_neg (by rintro(e|e);exact e h3;exact h4 e)]
theorem Jq(b:ByteArray)(w:World)(gl:Gl w a)(hb:b.size<=2147483648)(hlen:((ee b).l++(ee b).last).length<=17179869184)(MN:∀t∈(ee b).l++(ee b).last,t.text.length<=9223372036854775807):Z4 5 #[.string b] w (zG w (eJ b)):=by
 have hst:=QP b w gl hb;have mO:=Wz w;have QQ:=says b;have HST:=a_ hst;have AB:=a_ QQ;have WT:=a_ hlen;have HTX:=a_ MN;clear hst gl QQ hlen MN;go_enter func5,ntmps5;go_wp2_with(first|(go_at_call 15;refine mO.mono ?_;rintro e wn ⟨rfl,rfl⟩)|(go_at_call 16;refine HST.out.mono ?_;rintro e w2 ⟨v1,rfl,zS⟩)|(go_at_call 17;refine zS.mono ?_;rintro e w3 ⟨v2,rfl,v',w4,hrun,Rx⟩;have Qd:=Rx.err;have hb4:=Rx.below;obtain⟨A4,UW,hA4⟩:=Rx.ex;generalize (ee b).l++(ee b).last=T at*;generalize (ee b).err=DR at*;generalize (ee b).at_=Rw at*;obtain⟨bl,cl,el,hmx⟩:=QO UW;subst el;have AN4:=a_ UW;have HA4:=a_ hA4;have HMX:=a_ hmx;have HER:=a_ Qd;have B4:=a_ hb4;clear Rx UW hA4 hmx Qd hb4 zS HST)|(at_builtin;refine I4 rfl (.tmp 16) (.tmp 18) rfl rfl _ _ rfl rfl hrun ?_));go_loopw [9,10,23] (fun _ _ iv wr=>∃k:Nat,iv=.int .i64 k/\k<=T.length/\PI w4 (fun j=>A4 j/\j<w4.heap.size) T wr k) (fun _ _ iv _=>T.length-(RowKit.intOf iv).toNat)
 case atStart=>exact⟨0,rfl,aB _,PI.start (fun k x=>x.2)⟩
 case round=>
  obtain⟨k,rfl,hk,QR⟩:=hrel;by_cases vS:k<T.length
  ·have hdec:decide ((k:Int)<T.length)=true:=by simp;omega
   have Gi:decide (k<T.length)=true:=by simp;omega
   have XV:(k:Int)<T.length:=by omega
   have ZM:(T.length:Int)<=9223372036854775807:=by have:=HMX.out;have:maxLen=9223372036854775807:=rfl;omega
   obtain⟨gT,cT,va,eT,oa,oA,x0,x1,x2,x3,x4,_⟩:=AN4.out.atA k vS;have eR:=fun o=>QR.call vS WT.out (fun j x=>x.2) va (HTX.out _ (bQ vS)) oa (fun j e=>⟨oA j e,ej oa e⟩) o;obtain⟨ai,ac,l9⟩:=dS oa;cases eT;have hlt:gT<w4.heap.size:=aD w4 _ x0;subst l9;unfold eu at x1 x3;unfold l7 eu at eR;have y0:=(ar (a:=⟨gT,k*5,none⟩) (QR.more.keep gT hlt)).trans x0;have y1:=(ar (a:=⟨gT,k*5+1,none⟩) (QR.more.keep gT hlt)).trans x1;have y2:=(ar (a:=⟨gT,k*5+2,none⟩) (QR.more.keep gT hlt)).trans x2;have y3:=(ar (a:=⟨gT,k*5+3,none⟩) (QR.more.keep gT hlt)).trans x3;have y4:=(ar (a:=⟨gT,k*5+4,none⟩) (QR.more.keep gT hlt)).trans x4;have HC:=a_ eR;have HPI:=a_ QR;clear eR QR oa oA x0 x1 x2 x3 x4;generalize T[k]=t at*
   go_wp2_with fail;refine(HC.out _).mono ?_;rintro e w5 ⟨no,rfl,hM5,eA,iH,nR⟩;by_cases h0:no=0
   ·have hp5:=iH h0;subst h0;have HP5:=a_ hp5;clear iH nR eA hM5 hp5;go_wp2
    go_roundw
    case rel=>exact⟨k+1,by simp,by omega,HP5.out⟩
    case measure=>simp only[RowKit.intOf];omega
   ·have hne:(no !=0)=true:=by simpa using h0
    have z4:=cell_of (i:=4) eA rfl;have HB:=a_ (nR h0);have HM5:=a_ hM5;have H0:=a_ h0;clear iH nR eA hM5 h0;go_wp2_with fail;go_quiet(fail);go_wp2
    go_ret3
    have hq:=HB.out;have WU:=AB.out.tok (by rw[hq.1];exact H0.out);rw[WU,hq.1,hq.2];exact zH B4.out (HM5.out.drewN _) H0.out
  ·have hdec:decide ((k:Int)<T.length)=false:=by simp;omega
   have Gi:decide (k<T.length)=false:=by simp;omega
   have he:k=T.length:=by omega
   subst he;have hM:=QR.more;obtain⟨g,Kx,hg,hKx,hgr⟩:=QR.over;have h10:(grow Gr.zero T).1=0:=by rw[hgr]
   have YT:=a_ h10;have HG:=a_ hg;have Ia:=a_ hgr;have HKX:=a_ hKx;have vo:=a_ hM;clear QR hg hgr hKx hM h10;by_cases h0:DR=0
   ·subst h0;obtain⟨Kg,Sg,nv,sv,av,kv,p⟩:=HG.out.parts;have hall:∀W,dZ wr W->∃A' K',gX 40 42 A' K' W nv g.nodes av kv/\(∀j,A' j->w.heap.size<=j)/\(∀j,K' j->w.heap.size<=j)/\(∀j,A' j->¬K' j):=fun W hW=>⟨_,_,hW.nodes p.lV.nodes,fun j x=>HA4.out j x.1,fun j x=>aw B4.out.size (HKX.out j (p.kF j x)),p.lV.rY⟩
    have QT:∀W,dZ wr W->Z4 20 #[.pointer (some ⟨w4.heap.size,0,none⟩)] W fun e w'=>e=.returned (.bool (g.nest.fO&&decide (g.nest.names.length=0)))/\dZ W w':=fun W hW=>pk (p.nest.keep hW);have QU:∀W,dZ wr W->W.cell? ⟨w4.heap.size,2,none⟩=some nv:=fun W hW=>(p.lV.keep hW).cell 2 rfl;have hwb:(g.nest.fO&&decide (g.nest.names.length=0))=true↔(g.stack=[]/\g.nodes≠[]):=by simp[Gr.nest,Gr.names,and_comm]
    have WV:=a_ hall;have HWH:=a_ QT;have HND:=a_ QU;clear hall QT QU p;generalize (g.nest.fO&&decide (g.nest.names.length=0))=wb at*
    cases wb with
    |false=>
     have WU:=AB.out.form YT.out rfl (by
      rw[Ia.out];by_cases e:g.stack=[]
      ·exact Or.inr (bD fun e2=>by simpa using hwb.2 ⟨e,e2⟩)
      ·exact Or.inl e)
     clear hwb;go_wp2_with fail;refine(HER.out _ vo.out).mono ?_;rintro e w5 ⟨rfl,b5⟩;have hw5:=HWH.out w5 (jO b5);have B5:=a_ b5;clear b5;go_wp2_with(go_at_call 20;refine hw5.mono ?_;rintro e w6 ⟨rfl,m6⟩;have M6:=a_ m6;clear m6)
     go_ret3
     rw[WU];exact zH B4.out ((vo.out.trans (jO B5.out)).trans M6.out) (by decide)
    |true=>
     obtain⟨hs,Hy⟩:=hwb.1 rfl;have WU:=AB.out.ok YT.out rfl (by rw[Ia.out];exact hs) (by rw[Ia.out];exact Hy);rw[Ia.out]at WU;have HSY:=a_ WU;clear hwb hs Hy WU;go_wp2_with fail;refine(HER.out _ vo.out).mono ?_;rintro e w5 ⟨rfl,b5⟩;have hw5:=HWH.out w5 (jO b5);have B5:=a_ b5;clear b5;go_wp2_with(go_at_call 20;refine hw5.mono ?_;rintro e w6 ⟨rfl,m6⟩;have c0:=HND.out w6 ((jO B5.out).trans m6);have M6:=a_ m6;clear m6)
     go_ret3
     rw[HSY.out];have hM6:=(jO B5.out).trans M6.out;obtain⟨A',K',q1,q2,q3,q4⟩:=WV.out w6 hM6;have Z0:=vo.out.trans hM6;have mh:Below w.heap.size w w6:=B4.out.trans ⟨Z0.os,Z0.tape,Z0.output,Z0.size,fun j hj=>Z0.keep j (aq hj B4.out.size)⟩;exact⟨_,rfl,⟨A',K',av,kv,q1,q2,q3,q4⟩,mh,fun h=>absurd rfl h⟩
   ·have hne:(DR !=0)=true:=by simpa using h0
    have H0:=a_ h0;clear h0;go_wp2_with fail;refine(HER.out _ vo.out).mono ?_;rintro e w5 ⟨rfl,b5⟩;have B5:=a_ b5;clear b5;go_wp2_with fail
    go_ret3
    rw[AB.out.err YT.out H0.out];exact zH B4.out (vo.out.trans (jO B5.out)) H0.out
end
end K
end Go.Proofs.YtclgfepngpeifaaGreatDoor
namespace Go.Proofs.YtclgfepngpeifaaGreatDoor
namespace K
open Go.RowKit Go.Lib Tryz
section
variable{s:ByteArray}
theorem Jr(f:Nat)(x:Sc)(h:x.err≠0):il s f x=x:=by
 cases f with
 |zero=>rfl
 |succ f=>simp only[il];rw[if_neg (fun e=>h e.2)]
theorem Js:∀(f:Nat) (x:Sc) (st:St),x.err=0->Jc x->x.i<=s.size->Rel x st->cost (il s f x).l<=64*s.size/\((il s f x).err=0->(il s f x).i<=s.size/\Jc (il s f x)):=by
 intro f;induction f with
 |zero=>
  intro x st he hp hi _;refine⟨?_,fun _=>⟨hi,hp⟩⟩;have:=hp he;unfold jM at this;show cost x.l<=_;omega
 |succ f ih=>
  intro x st he hp hi hr;simp only[il];by_cases hc:x.i<s.size/\x.err=0
  ·rw[if_pos hc];rcases mZ (g:=fun _=>[]) he hc.1 hr with⟨h1,h2,h3,_,gV,h5,_⟩|⟨h1,h2,_⟩
   ·exact ih _ gV h1 (zB hp he) h3 h5
   ·rw[Jr f _ h1];refine⟨?_,fun e=>absurd e h1⟩;rw[h2];have:=hp he;unfold jM at this;omega
  ·rw[if_neg hc];refine⟨?_,fun _=>⟨hi,hp⟩⟩;have:=hp he;unfold jM at this;omega
theorem tW(s:ByteArray):cost ((ee s).l++(ee s).last)<=64*s.size:=by
 obtain⟨h1,h2⟩:=Js (s:=s) (s.size+1) Sc.zero _ rfl (fun _=>by simp[jM,cost,Sc.zero]) (aB _) Rel.zero;have Oh:cost (ee s).l<=64*s.size:=h1;by_cases he:(ee s).err=0
 ·have:=Qs s;unfold lB at this;rw[if_neg (by simpa using he)]at this;exact this
 ·have:(ee s).last=[]:=by unfold Sc.last;rw[if_pos (Or.inl he)]
  rw[this,aP];exact Oh
theorem Gj:∀{l:List eX} {t:eX},t∈l->(jh t).length<=cost l
 |[],t,h=>by simp at h
 |x::l,t,h=>by
  have e:cost (x::l)=(jh x).length+cost l:=by simp[cost]
  rw[e];rcases List.mem_cons.1 h with rfl|h
  ·omega
  ·have:=Gj h;omega
theorem Gk(t:eX):1<=(jh t).length:=by
 unfold jh;split
 ·simp
 ·split
  ·simp
  ·have:marks.length=27:=rfl;rw[ax];omega
theorem Gm:∀(l:List eX),l.length<=cost l
 |[]=>aB _
 |x::l=>by
  have e:cost (x::l)=(jh x).length+cost l:=by simp[cost]
  have:=Gm l;have:=Gk x;rw[e,aC];omega
theorem Ci(s:ByteArray):lX false ((ee s).l++(ee s).last):=by
 by_cases he:(ee s).err=0
 ·have:=u_ s;unfold lB at this;rw[if_neg (by simpa using he)]at this;exact this
 ·have h0:(ee s).last=[]:=by unfold Sc.last;rw[if_pos (Or.inl he)]
  have hi:Inv (ee s):=B8 _ _ ⟨fR.nil,trivial,rfl⟩;rw[h0,aP];exact hi.2.1
theorem Cj:∀{l:List eX} {b:Bool} {t:eX},lX b l->t∈l->BZ t
 |[],_,t,_,h=>by simp at h
 |x::l,b,t,hc,h=>by
  rcases List.mem_cons.1 h with rfl|h
  ·exact hc.1
  ·exact Cj hc.2.2 h
theorem zI(s:ByteArray)(t:eX)(h:t∈(ee s).l++(ee s).last):t.text.length<=64*s.size:=by
 have h1:=Gj h;have h2:=tW s;rcases Cj (Ci s) h with⟨_,_,_,_,e⟩|⟨_,_,_,e⟩|⟨k,_⟩
 ·rw[e];simp
 ·rw[e];simp
 ·have h3:jh t=Ch.sA false t.text++marks:=by unfold jh;rw[if_neg (by omega),if_neg (by omega)]
  have h7:=Ch.J5 false t.text;rw[h3,ax]at h1;omega
theorem Ck(s:ByteArray):((ee s).l++(ee s).last).length<=64*s.size:=aw (Gm _) (tW s)
end
theorem qj{a:Addr}(b:ByteArray)(w:World)(gl:Gl w a)(hb:b.size<=268435456):Z4 5 #[.string b] w (zG w (eJ b)):=
 Jq b w gl (by omega) (by have:=Ck b;omega) (fun t h=>by have:=zI b t h;omega)
end K
end Go.Proofs.YtclgfepngpeifaaGreatDoor
