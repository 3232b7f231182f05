import Derived.Test.YtjecakcpcnmieaaGreatDoorHA
import Derived.Test.YtjecakcpcnmieaaGreatDoorHav
import Derived.Test.YtjecakcpcnmieaaGreatDoorHau
import Derived.Test.YtjecakcpcnmieaaGreatDoorHas
set_option linter.unusedVariables false
set_option linter.unusedSimpArgs false
set_option maxHeartbeats 32000000
set_option maxRecDepth 100000
namespace Go.Proofs.YtjecakcpcnmieaaGreatDoor
namespace K
open Go.RowKit Go.Maps Go.Lib Tryz
section
variable{A K S F:Nat->Prop}{w w0 w' w1 w2:World}{nv sv rv:Value}{av kv:Nat->Value}{g:Gr}{X:Nat}
def Gr.nameAt(g:Gr)(k:Nat):List UInt8:=((g.nodes[k]?).map Nd.name).getD []
def Gr.names(g:Gr):List (List UInt8):=(g.stack.map g.nameAt).reverse
def Gr.nest(g:Gr):pX:=⟨g.names,!g.nodes.isEmpty⟩
theorem CJ(g:Gr)(wf:g.Wf)(n:Nd):g.stack.map (g.put n).nameAt=g.stack.map g.nameAt:=by
 refine cU fun k hk=>?_;have hlt:=wf.ups.lt k hk;unfold Gr.nameAt;rw[Hc g n k hlt]
theorem vX(g:Gr)(n:Nd):(g.put n).nodes.isEmpty=false:=by
 cases h:(g.put n).nodes with
 |nil=>have:=lh g n;rw[h]at this;simp at this
 |cons a l=>rfl
theorem O4(wf:g.Wf)(t:Tok):g.nest.take t=((g.take t).1,(g.take t).2.nest):=by
 have hlen:g.names.length=g.stack.length:=by simp[Gr.names]
 have hnil:g.names=[]↔g.stack=[]:=by simp[Gr.names]
 unfold pX.take Gr.take Gr.nest;simp only[hnil,hlen];by_cases h1:t.kind=1
 ·rw[if_pos h1,if_pos h1];by_cases h2:g.stack=[]/\g.nodes≠[]
  ·rw[if_pos ⟨by cases hg:g.nodes with|nil=>exact absurd hg h2.2|cons a l=>rfl,h2.1⟩,if_pos h2]
  ·rw[if_neg (fun e=>h2 ⟨e.2,fun x=>by rw[x]at e;simp at e⟩),if_neg h2];by_cases h3:30<=g.stack.length
   ·rw[if_pos h3,if_pos h3]
   ·rw[if_neg h3,if_neg h3];have e1:(g.put (elemOf t)).nodes.isEmpty=false:=vX _ _;have e2:Gr.names { (g.put (elemOf t))with stack:=g.nodes.length::g.stack}=g.names++[t.name]:=by
     have e3:(g.put (elemOf t)).nameAt g.nodes.length=t.name:=by unfold Gr.nameAt;rw[Am];rfl
     have e4:=CJ g wf (elemOf t);unfold Gr.names;have e5:Gr.nameAt { (g.put (elemOf t))with stack:=g.nodes.length::g.stack}=(g.put (elemOf t)).nameAt:=rfl;simp only[bB,ew,e5];rw[e3,e4]
    rw[e2];simp only[e1];rfl
 ·rw[if_neg h1,if_neg h1];by_cases h2:t.kind=2
  ·rw[if_pos h2,if_pos h2];cases hs:g.stack with
   |nil=>
    have e:g.names=[]:=hnil.2 hs;rw[e,if_neg (by simp)]
   |cons k st=>
    obtain⟨m,hm,_,_⟩:=wf.top hs;have e:g.names=(st.map g.nameAt).reverse++[m.name]:=by
     unfold Gr.names;rw[hs];simp only[bB,ew];have:g.nameAt k=m.name:=by unfold Gr.nameAt;rw[hm];rfl
     rw[this]
    have qC:g.named k t.name=true↔m.name=t.name:=by rw[mC,hm];simp
    simp only;by_cases h3:m.name=t.name
    ·rw[if_pos (by rw[e];simp[h3]),if_pos (qC.2 h3),e,List.dropLast_concat];rfl
    ·rw[if_neg (by rw[e];simpa using h3),if_neg (fun x=>h3 (qC.1 x))]
  ·rw[if_neg h2,if_neg h2];cases hs:g.stack with
   |nil=>
    by_cases h3:gG t.text=true
    ·rw[if_neg (by rw[h3];simp),if_pos h3]
    ·rw[if_pos ⟨rfl,by simpa using h3⟩,if_neg h3]
   |cons k st=>
    rw[if_neg (by simp)];have e1:(g.put (jD t)).nodes.isEmpty=false:=vX _ _;have e2:(g.put (jD t)).names=g.names:=by unfold Gr.names;rw[od,CJ g wf]
    obtain⟨m,hm,_,hlt⟩:=wf.top hs;have e3:g.nodes.isEmpty=false:=by cases hg:g.nodes with|nil=>rw[hg]at hm;simp at hm|cons a l=>rfl
    simp only[e1,e2,e3]
theorem KO(wf:g.Wf):g.nest.names≠[]->g.nest.gC=true:=by
 intro h;cases hs:g.stack with
 |nil=>exact absurd (by simp[Gr.nest,Gr.names,hs]) h
 |cons k st=>
  obtain⟨m,hm,_,_⟩:=wf.top hs;have:g.nodes.isEmpty=false:=by cases hg:g.nodes with|nil=>rw[hg]at hm;simp at hm|cons a l=>rfl
  simp[Gr.nest,this]
theorem TU(wf:g.Wf):g.nest.names.length<=30:=by
 have:=wf.deep;simpa [Gr.nest,Gr.names]using this
theorem TV(t:Tok)(h:(g.take t).1≠0):(g.take t).2=g:=by
 unfold Gr.take at h ⊢;split
 ·rename_i h1;rw[if_pos h1]at h;split
  ·rfl
  ·rename_i h2;rw[if_neg h2]at h;split
   ·rfl
   ·rename_i h3;rw[if_neg h3]at h;exact absurd rfl h
 ·rename_i h1;rw[if_neg h1]at h;split
  ·rename_i h2;rw[if_pos h2]at h;split
   ·rfl
   ·rename_i k st hs;simp only[hs]at h;split
    ·rename_i h3;rw[if_pos h3]at h;exact absurd rfl h
    ·rfl
  ·rename_i h2;rw[if_neg h2]at h;split
   ·split<;>rfl
   ·rename_i hs;simp only[hs]at h;exact absurd rfl h
structure GR(A F:Nat->Prop)(X:Nat)(w:World)(g:Gr):Prop where
 ex:∃K S nv av kv sv,kg A K X w g nv av kv sv (.bool g.nest.gC)/\NS S X 0 w #[sv,.bool g.nest.gC,nv,.int .i64 (jl g.stack)] 93 sv g.nest.names g.nest.gC/\
  (∀k,K k->F k)/\(∀k,S k->F k)/\(∀k,A k->¬S k)/\(∀k,S k->¬K k)/\(g.nodes=[]->nv=fO)
 lt:∀k,F k->k<w.heap.size
 nF:¬F X
 kids:mF g
 wf:g.Wf
theorem kg.keep{W:World}(h:kg A K X w g nv av kv sv rv)(hM:eN w W):kg A K X W g nv av kv sv rv:=
 ⟨(hM.keep X (eO h.blk)).trans h.blk,hM.nodes h.nodes,h.nA,h.nK,h.sZ,fun k x=>ak (h.lt k x) hM.size,fun k x=>ak (h.tH k x) hM.size⟩
theorem GR.keep{W:World}(h:GR A F X w g)(hM:eN w W):GR A F X W g:=by
 obtain⟨⟨K,S,nv,av,kv,sv,h1,h2,h3⟩,h4,h5,h6,h7⟩:=h;exact⟨⟨K,S,nv,av,kv,sv,h1.keep hM,h2.keep hM,h3⟩,fun k x=>ak (h4 k x) hM.size,h5,h6,h7⟩
theorem GR.blk(h:GR A F X w g):X<w.heap.size:=by
 obtain⟨⟨K,S,nv,av,kv,sv,h1,_⟩,_⟩:=h;exact eO h1.blk
theorem Ji{a b c d a' b':Value}{cs:Array Value}(h:IE 0 #[a,b,c,d] cs)(h0:cs[0]?=some a')(h1:cs[0+1]?=some b'):cs=#[a',b',c,d]:=by
 obtain⟨hs,ho⟩:=h;have h2:=ho 2 (by decide) (by decide);have h3:=ho 3 (by decide) (by decide);refine Array.ext_getElem? fun j=>?_
 match j with
 |0=>exact h0
 |1=>exact h1
 |2=>exact h2
 |3=>exact h3
 |j+4=>
  rw[Array.getElem?_eq_none (by rw[hs];simp),Array.getElem?_eq_none (by simp)]
theorem kg.nested{cs:Array Value}{Mn:Value}{n:pX}{r:Bool}(h:kg A K X w g nv av kv sv (.bool r))(hSA:∀k,A k->¬S k)(hSK:∀k,S k->¬K k)(q:NS (Grow S w w1) X 0 w1 cs 93 Mn n.names n.gC)(o:IE 0 #[sv,.bool r,nv,.int .i64 (jl g.stack)] cs)(fr:Frame (fun k=>k=X\/S k) w w1):
  kg A K X w1 g nv av kv Mn (.bool n.gC):=by
 have e:=Ji o q.c0 q.c1;have hb:=q.blk;rw[e]at hb;refine⟨hb,h.nodes.frame (fun k hk hA=>fr.block k hk ?_) (fun k hk hK=>fr.block k hk ?_) (fun _ _ x=>x),h.nA,h.nK,h.sZ,fun k x=>ak (h.lt k x) fr.size,fun k x=>ak (h.tH k x) fr.size⟩
 ·rintro(x|x)
  ·exact h.nA (x▸hA)
  ·exact hSA k hA x
 ·rintro(x|x)
  ·exact h.nK (x▸hK)
  ·exact hSK k x hK
def xh(A F:Nat->Prop)(X:Nat)(w:World)(x:Int×Gr)(e:Ending)(w':World):Prop:=e=.returned (.int .i64 x.1)/\GR A (Grow F w w') X w' x.2/\Frame (fun k=>k=X\/F k) w w'
theorem GR.made{K S:Nat->Prop}{kh k7:Value}{j8 kA:Nat->Value}{cs:Array Value}{g':Gr}{n:pX}(hlt:∀k,F k->k<w.heap.size)(hnF:¬F X)(hKF:∀k,K k->F k)(hSF:∀k,S k->F k)(hAS:∀k,A k->¬S k)(hSK:∀k,S k->¬K k)(hA:∀k,A k->k<w.heap.size)(hX:X<w.heap.size)(m0:eN w w0)(q1:NS (Grow S w0 w1) X 0 w1 cs 93 k7 n.names n.gC)(f1:Frame (fun k=>k=X\/S k) w0 w1)
  (r2:kg A (Grow K w1 w2) X w2 g' kh j8 kA k7 (.bool n.gC)) (f2:Frame (fun k=>k=X\/K k) w1 w2) (hn:n=g'.nest) (kids:mF g') (wf:g'.Wf) (hnil:g'.nodes=[]->kh=fO):GR A (Grow F w w2) X w2 g'/\Frame (fun k=>k=X\/F k) w w2:=by
 subst hn;have s0:=m0.size;have s1:=f1.size;have s2:=f2.size;have fr:Frame (fun k=>k=X\/F k) w w2:=by
  refine⟨f2.os.trans (f1.os.trans m0.os),f2.tape.trans (f1.tape.trans m0.tape),f2.output.trans (f1.output.trans m0.output),by omega,fun k hk hf=>?_⟩;rw[f2.block k (by omega) (fun x=>hf (x.imp id (hKF k))),f1.block k (by omega) (fun x=>hf (x.imp id (hSF k))),m0.keep k hk]
 refine⟨⟨⟨_,Grow S w0 w1,kh,j8,kA,k7,r2,⟨r2.blk,rfl,rfl,eI q1.row fun k e=>f2.block k (eU q1.row e) ?_,q1.own,q1.nX,fun k x=>ak (q1.lt k x) s2⟩,?_,?_,?_,?_,hnil⟩,i_ hlt (by omega),?_,kids,wf⟩,fr⟩
 ·have hS:=q1.own k e;rintro(x|x)
  ·exact q1.nX (x▸hS)
  ·rcases hS with y|y
   ·exact hSK k y x
   ·have:=hlt k (hKF k x);omega
 ·rintro k (x|x)
  ·exact Or.inl (hKF k x)
  ·exact Or.inr ⟨by omega,x.2⟩
 ·rintro k (x|x)
  ·exact Or.inl (hSF k x)
  ·exact Or.inr ⟨by omega,by omega⟩
 ·rintro k hk (x|x)
  ·exact hAS k hk x
  ·have:=hA k hk;omega
 ·rintro k (x|x) (y|y)
  ·exact hSK k x y
  ·have:=hlt k (hSF k x);omega
  ·have:=hlt k (hKF k y);omega
  ·omega
 ·rintro(x|x)
  ·exact hnF x
  ·omega
theorem kg.top(h:kg A K X w g nv av kv sv rv)(st:List Nat)(o:Int)(ho:o=jl st):kg A K X (w.setCell ⟨X,3,none⟩ (.int .i64 o)) {g with stack:=st} nv av kv sv rv:=by
 have keep:∀b,b≠X->(w.setCell ⟨X,3,none⟩ (.int .i64 o)).heap[b]?=w.heap[b]?:=fun b hb=>af _ _ _ _ hb;have hz:(w.setCell ⟨X,3,none⟩ (.int .i64 o)).heap.size=w.heap.size:=by simp[World.setCell]
 refine⟨?_,h.nodes.frame (fun b _ hA=>keep b (fun e=>h.nA (by rw[<-e];exact hA))) (fun b _ hK=>keep b (fun e=>h.nK (by rw[<-e];exact hK))) (fun _ _ x=>x),h.nA,h.nK,h.sZ,fun b hb=>by rw[hz];exact h.lt b hb,fun b hb=>by rw[hz];exact h.tH b hb⟩;rw[eV h.blk _,ho];rfl
theorem Av{P:Nat->Prop}(w1:World)(i:Nat)(a:Value):Frame (fun k=>k=X\/P k) w1 (w1.setCell ⟨X,i,none⟩ a):=
 ⟨rfl,rfl,rfl,by simp[World.setCell],fun k hk hf=>af _ _ _ _ (fun e=>hf (Or.inl e))⟩
end
section
variable{A K S F:Nat->Prop}{w w0 w' w1 w2:World}{nv sv rv:Value}{av kv:Nat->Value}{g:Gr}{X:Nat}
theorem mF.put(h:mF g)(n:Nd)(hn:n.kids=[]):mF (g.put n):=by
 intro i m hi;rw[lh];unfold Gr.put at hi;split at hi
 ·by_cases h1:i<g.nodes.length
  ·rw[aL h1]at hi;have:=h i m hi;omega
  ·rw[aQ (by omega)]at hi;have h2:=(List.getElem?_eq_some_iff.1 hi).1;simp only[ag,aq]at h2;rw[show i-g.nodes.length=0 by omega]at hi;obtain rfl:_=m:=by simpa using hi
   show n.kids.length<=_;rw[hn];simp
 ·rename_i k st hs;by_cases h1:i<g.nodes.length
  ·rw[aL (by rw[fB];exact h1),pV]at hi;by_cases e:i=k
   ·rw[if_pos e]at hi;obtain⟨m',h3,h4⟩:=Option.map_eq_some_iff.1 hi;have:=h i m' h3;rw[<-h4];simp only[Nd.kid,ae,ag,aq];omega
   ·rw[if_neg e]at hi;have:=h i m hi;omega
  ·rw[aQ (by rw[fB];omega),fB]at hi;have h2:=(List.getElem?_eq_some_iff.1 hi).1;simp only[ag,aq]at h2;rw[show i-g.nodes.length=0 by omega]at hi;obtain rfl:_=m:=by simpa using hi
   show n.kids.length<=_;rw[hn];simp
structure GP(A F K S:Nat->Prop)(X:Nat)(w:World)(g:Gr)(nv sv:Value)(av kv:Nat->Value):Prop where
 rep:kg A K X w g nv av kv sv (.bool g.nest.gC)
 nest:NS S X 0 w #[sv,.bool g.nest.gC,nv,.int .i64 (jl g.stack)] 93 sv g.nest.names g.nest.gC
 kF:∀k,K k->F k
 sF:∀k,S k->F k
 aS:∀k,A k->¬S k
 sK:∀k,S k->¬K k
 nil:g.nodes=[]->nv=fO
 lt:∀k,F k->k<w.heap.size
 nF:¬F X
 kids:mF g
 wf:g.Wf
theorem GR.parts(h:GR A F X w g):∃K S nv sv av kv,GP A F K S X w g nv sv av kv:=by
 obtain⟨⟨K,S,nv,av,kv,sv,r0,n0,hKF,hSF,hAS,hSK,hnil⟩,hlt,hnF,hk,wf⟩:=h;exact⟨K,S,nv,sv,av,kv,r0,n0,hKF,hSF,hAS,hSK,hnil,hlt,hnF,hk,wf⟩
structure GQ(A F K S:Nat->Prop)(X:Nat)(w w0 w1:World)(g:Gr)(n:pX)(nv k7:Value)(av kv:Nat->Value):Prop where
 more:eN w w0
 ns:∃cs,NS (Grow S w0 w1) X 0 w1 cs 93 k7 n.names n.gC
 fr:Frame (fun k=>k=X\/S k) w0 w1
 rep:kg A K X w1 g nv av kv k7 (.bool n.gC)
theorem GP.behind{nv sv:Value}{av kv:Nat->Value}{n:pX}{x:Int}{e:Ending}(h:GP A F K S X w g nv sv av kv)(m0:eN w w0)(q:o7 S X 0 w0 #[sv,.bool g.nest.gC,nv,.int .i64 (jl g.stack)] 93 (x,n) e w1):e=.returned (.int .i64 x)/\∃k7,GQ A F K S X w w0 w1 g n nv k7 av kv:=by
 obtain⟨rfl,cs,k7,q1,q2,q3⟩:=q;exact⟨rfl,k7,m0,⟨cs,q1⟩,q3,(h.rep.keep m0).nested h.aS h.sK q1 q2 q3⟩
theorem GP.ends{nv sv k7 kh:Value}{av kv j8 kA:Nat->Value}{g':Gr}{x:Int}(h:GP A F K S X w g nv sv av kv)(q:GQ A F K S X w w0 w1 g g'.nest nv k7 av kv)
  (r2:kg A (Grow K w1 w2) X w2 g' kh j8 kA k7 (.bool g'.nest.gC)) (f2:Frame (fun k=>k=X\/K k) w1 w2) (kids:mF g') (wf:g'.Wf) (hnil:g'.nodes=[]->kh=fO):xh A F X w (x,g') (.returned (.int .i64 x)) w2:=by
 obtain⟨m0,⟨cs,q1⟩,f1,r1⟩:=q;obtain⟨z1,z2⟩:=GR.made h.lt h.nF h.kF h.sF h.aS h.sK h.rep.tH (eO h.rep.blk) m0 q1 f1 r2 f2 rfl kids wf hnil;exact⟨rfl,z1,z2⟩
theorem GP.same{nv sv k7:Value}{av kv:Nat->Value}{x:Int}(h:GP A F K S X w g nv sv av kv)(q:GQ A F K S X w w0 w1 g g.nest nv k7 av kv)(m2:eN w1 w2):xh A F X w (x,g) (.returned (.int .i64 x)) w2:=by
 have r1:=q.rep;have r2:=(r1.keep m2)
 exact h.ends q (r1.next m2.frame r2.nodes (fun k _ x=>Or.inl x) r2.blk) m2.frame h.kids h.wf h.nil
theorem GQ.box{nv k7:Value}{av kv:Nat->Value}{n:pX}{o:Obj}(h:GQ A F K S X w w0 w1 g n nv k7 av kv)(hX:X<w.heap.size)(hS:∀k,S k->k<w.heap.size)(hb:w0.heap[w.heap.size]?=some o):w1.heap[w.heap.size]?=some o:=by
 rw[h.fr.block w.heap.size (Array.getElem?_eq_some_iff.1 hb).1 (fun x=>by
  rcases x with e|e
  ·omega
  ·have:=hS _ e;omega)]
 exact hb
theorem GQ.attr{nv sv k7 va:Value}{av kv:Nat->Value}{n:pX}{m:Nat}{xs:List Value}(h:GQ A F K S X w w0 w1 g n nv k7 av kv)(p:GP A F K S X w g nv sv av kv)(ha:w.ownsRow 0 143 2 va m xs)(nS:∀k,va.ownBlock=some k->A k):w1.ownsRow 0 143 2 va m xs:=by
 refine eI ha fun b e=>(h.fr.block b (ak (eU ha e) h.more.size) ?_).trans (h.more.keep b (eU ha e));rintro(x|x)
 ·exact p.rep.nA (x▸nS b e)
 ·exact p.aS b (nS b e) x
def iI(t:Tok)(va:Value):Obj:=.cells #[.int .i64 t.kind,.string ⟨t.name.toArray⟩,va,.string ⟨t.text.toArray⟩,.int .i64 t.at_] 56
def CK(B:Nat)(k nm va tx at_:Value)(W:World):Prop:=W.cell? ⟨B,0,none⟩=some k/\W.cell? ⟨B,1,none⟩=some nm/\W.cell? ⟨B,2,none⟩=some va/\W.cell? ⟨B,3,none⟩=some tx/\W.cell? ⟨B,4,none⟩=some at_
theorem o8{t:Tok}{va:Value}{W:World}{B:Nat}(h:W.heap[B]?=some (iI t va)):CK B (.int .i64 t.kind) (.string ⟨t.name.toArray⟩) va (.string ⟨t.text.toArray⟩) (.int .i64 t.at_) W:=
 ⟨cell_of h rfl,cell_of h rfl,cell_of h rfl,cell_of h rfl,cell_of h rfl⟩
theorem pY{nv sv:Value}{av kv:Nat->Value}(h:GP A F K S X w g nv sv av kv)(t:Tok)(ai:Option Addr)(ac:Nat)(hz:t.text.length<=9223372036854775807):
  Z4 53 #[Z8 X,nC t (.slice ai t.b_.length ac)] (w.alloc (iI t (.slice ai t.b_.length ac))).drew fun e w1=>e=.returned (.int .i64 (g.take t).1)/\∃k7,GQ A F K S X w (w.alloc (iI t (.slice ai t.b_.length ac))).drew w1 g (g.take t).2.nest nv k7 av kv/\w1.heap[w.heap.size]?=some (iI t (.slice ai t.b_.length ac)):=by
 have m0:eN w (w.alloc (iI t (.slice ai t.b_.length ac))).drew:=((eN.refl w).alloc _).drewN 1;have:=O3 (h.nest.keep m0) (TU h.wf) (KO h.wf) t ai t.b_.length ac hz;rw[O4 h.wf t]at this;refine this.mono ?_;intro e w1 q;obtain⟨rfl,k7,gq⟩:=h.behind m0 q;exact⟨rfl,k7,gq,gq.box (eO h.rep.blk) (fun k x=>h.lt k (h.sF k x)) (eL w _)⟩
theorem KP{nv sv:Value}{av kv:Nat->Value}(h:GP A F K S X w g nv sv av kv)(t:Tok)(ai:Option Addr)(ac:Nat)(hz:t.text.length<=9223372036854775807)(h0:(g.take t).1≠0):
  Z4 27 #[Z8 X,nC t (.slice ai t.b_.length ac)] w (xh A F X w (g.take t)):=by
 have fg:=pY h t ai ac hz;have hx:=TV t h0;have kI:∀w1 k7,GQ A F K S X w (w.alloc (iI t (.slice ai t.b_.length ac))).drew w1 g (g.take t).2.nest nv k7 av kv->xh A F X w (g.take t) (.returned (.int .i64 (g.take t).1)) w1:=fun w1 k7 q=>by
  rw[hx]at q;have:=h.same (x:=(g.take t).1) q (eN.refl w1);rw[show g.take t=((g.take t).1,g)from Prod.ext rfl hx];exact this
 have hne:((g.take t).1 !=0)=true:=by simpa using h0
 have fj:CK w.heap.size (.int .i64 t.kind) (.string ⟨t.name.toArray⟩) (.slice ai t.b_.length ac) (.string ⟨t.text.toArray⟩) (.int .i64 t.at_) (w.alloc (iI t (.slice ai t.b_.length ac))):=o8 (eL w _);obtain⟨b0,b1,b2,b3,b4⟩:=fj;unfold nC eZ at fg ⊢;unfold iI at*
 have HC:=a_ fg;have HF:=a_ kI;clear fg kI h0 hx h;generalize (g.take t).1=no at*
 go_enter func27,ntmps27;go_wp2_with fail;go_region_held3 (fun W=>W.cell? ⟨w.heap.size,0,none⟩=some (.int .i64 t.kind)/\W.cell? ⟨w.heap.size,1,none⟩=some (.string ⟨t.name.toArray⟩)/\W.cell? ⟨w.heap.size,2,none⟩=some (.slice ai t.b_.length ac)/\W.cell? ⟨w.heap.size,3,none⟩=some (.string ⟨t.text.toArray⟩)/\W.cell? ⟨w.heap.size,4,none⟩=some (.int .i64 t.at_))
  (first|exact⟨b0,b1,b2,b3,b4⟩|exact o8 hb1)
  (first|(go_at_call 53;refine HC.out.mono ?_;rintro e w1 ⟨rfl,k7,gq,hb1⟩))
 all_goals
  have Xu:=a_ gq;clear gq b0 b1 b2 b3 b4 hb1;go_wp2;go_ret;exact HF.out _ _ Xu.out
theorem O5{nv sv:Value}{av kv:Nat->Value}(h:GP A F K S X w g nv sv av kv)(hb:g.nodes.length<=17179869184)(t:Tok)(ai:Option Addr)(ac:Nat)(hz:t.text.length<=9223372036854775807)(ha:w.ownsRow 0 143 2 (.slice ai t.b_.length ac) t.b_.length (eG t.b_))(nS:∀k,(Value.slice ai t.b_.length ac).ownBlock=some k->A k)(h0:(g.take t).1=0)(hk:t.kind=1):
  Z4 27 #[Z8 X,nC t (.slice ai t.b_.length ac)] w (xh A F X w (g.take t)):=by
 have fg:=pY h t ai ac hz;have hg:g.take t=(0,{ (g.put (elemOf t))with stack:=g.nodes.length::g.stack}):=by
  unfold Gr.take at h0 ⊢;rw[if_pos hk]at h0 ⊢;split at h0
  ·cases h0
  ·rename_i h1;rw[if_neg h1];split at h0
   ·cases h0
   ·rename_i h2;rw[if_neg h2]
 have Dn:=h.wf.take t;rw[hg]at fg Dn ⊢;have fj:CK w.heap.size (.int .i64 t.kind) (.string ⟨t.name.toArray⟩) (.slice ai t.b_.length ac) (.string ⟨t.text.toArray⟩) (.int .i64 t.at_) (w.alloc (iI t (.slice ai t.b_.length ac))):=o8 (eL w _);obtain⟨b0,b1,b2,b3,b4⟩:=fj;have hput:∀w1 k7 n,GQ A F K S X w (w.alloc (iI t (.slice ai t.b_.length ac))).drew w1 g n nv k7 av kv->Z4 54 #[Z8 X,.agg #[.string ⟨t.name.toArray⟩,.slice ai t.b_.length ac,.string ⟨#[]⟩,.slice none 0 0,.int .i64 0]] w1 fun e w'=>e=.returned (.int .i64 g.nodes.length)/\∃kh j8 kA,kg A (Grow K w1 w') X w' (g.put (elemOf t)) kh j8 kA k7 (.bool n.gC)/\Frame (fun k=>k=X\/K k) w1 w':=fun w1 k7 n q=>
  Hm q.rep h.wf h.kids (elemOf t) (.slice ai t.b_.length ac) 0 (q.attr h ha nS) nS rfl hb
 have kI:∀w1 w2 k7 kh j8 kA,GQ A F K S X w (w.alloc (iI t (.slice ai t.b_.length ac))).drew w1 g (Gr.nest { (g.put (elemOf t))with stack:=g.nodes.length::g.stack}) nv k7 av kv->kg A (Grow K w1 w2) X w2 (g.put (elemOf t)) kh j8 kA k7 (.bool (Gr.nest { (g.put (elemOf t))with stack:=g.nodes.length::g.stack}).gC)->Frame (fun k=>k=X\/K k) w1 w2->
   xh A F X w (0,{ (g.put (elemOf t))with stack:=g.nodes.length::g.stack}) (.returned (.int .i64 0)) (w2.setCell ⟨X,3,none⟩ (.int .i64 g.nodes.length)):=fun w1 w2 k7 kh j8 kA q r f=>by
  have r3:=r.top (g.nodes.length::g.stack) (g.nodes.length:Int) rfl;have f3:Frame (fun k=>k=X\/K k) w1 (w2.setCell ⟨X,3,none⟩ (.int .i64 g.nodes.length)):=f.trans' (Av w2 3 _);have hz2:(w2.setCell ⟨X,3,none⟩ (.int .i64 g.nodes.length)).heap.size=w2.heap.size:=by simp[World.setCell]
  have r4:kg A (Grow K w1 (w2.setCell ⟨X,3,none⟩ (.int .i64 g.nodes.length))) X (w2.setCell ⟨X,3,none⟩ (.int .i64 g.nodes.length)) { (g.put (elemOf t))with stack:=g.nodes.length::g.stack} kh j8 kA k7 _:=
   q.rep.next (g':={ (g.put (elemOf t))with stack:=g.nodes.length::g.stack}) f3 r3.nodes (fun k _ x=>x.imp id fun y=>⟨y.1,by rw[hz2];exact y.2⟩) r3.blk
  refine h.ends q r4 f3 (h.kids.put (elemOf t) rfl) Dn (fun e=>?_);have:=vX g (elemOf t);have e':(g.put (elemOf t)).nodes=[]:=e;rw[e']at this;cases this
 have hcell:∀w2 kh j8 kA k7 rv1 K2,kg A K2 X w2 (g.put (elemOf t)) kh j8 kA k7 rv1->(∃v,w2.cell? ⟨X,3,none⟩=some v)/\w2.frozen? ⟨X,3,none⟩=false:=fun w2 kh j8 kA k7 rv1 K2 r=>⟨⟨_,r.cell 3 rfl⟩,eP r.blk⟩
 unfold nC eZ at fg ⊢;unfold iI at*
 have lI:(t.kind==1)=true:=by simpa using hk
 clear hk;have HC:=a_ fg;have HF:=a_ kI;have HP:=a_ hput;have HQ:=a_ hcell;clear fg kI h0 h hput hcell hg Dn ha nS;generalize Gr.nest { (g.put (elemOf t))with stack:=g.nodes.length::g.stack}=nn at*
 go_enter func27,ntmps27;go_wp2_with fail;go_region_held3 (fun W=>W.cell? ⟨w.heap.size,0,none⟩=some (.int .i64 t.kind)/\W.cell? ⟨w.heap.size,1,none⟩=some (.string ⟨t.name.toArray⟩)/\W.cell? ⟨w.heap.size,2,none⟩=some (.slice ai t.b_.length ac)/\W.cell? ⟨w.heap.size,3,none⟩=some (.string ⟨t.text.toArray⟩)/\W.cell? ⟨w.heap.size,4,none⟩=some (.int .i64 t.at_))
  (first|exact⟨b0,b1,b2,b3,b4⟩|exact o8 (t:=t) hb1)
  (first|(go_at_call 53;refine HC.out.mono ?_;rintro e w1 ⟨rfl,k7,gq,hb1⟩))
 all_goals
  have hp:=HP.out _ _ _ gq;have hb2:=o8 (t:=t) (va:=.slice ai t.b_.length ac) hb1;obtain⟨d0,d1,d2,d3,d4⟩:=hb2;have Xu:=a_ gq;clear gq b0 b1 b2 b3 b4 hb1;go_wp2_with(go_at_call 54;refine hp.mono ?_;rintro e w2 ⟨rfl,kh,j8,kA,r2,f2⟩;obtain⟨⟨v3,c3⟩,f3⟩:=HQ.out _ _ _ _ _ _ _ r2;have R2:=a_ r2;have F2:=a_ f2;clear r2 f2);go_ret;exact HF.out _ _ _ _ _ _ Xu.out R2.out F2.out
end
end K
end Go.Proofs.YtjecakcpcnmieaaGreatDoor
namespace Go.Proofs.YtjecakcpcnmieaaGreatDoor
namespace K
open Go.RowKit Go.Lib Tryz
section
variable{s:ByteArray}
theorem KQ(f:Nat)(x:Sc)(h:x.err≠0):jk s f x=x:=by
 cases f with
 |zero=>rfl
 |succ f=>simp only[jk];rw[if_neg (fun e=>h e.2)]
theorem KR:∀(f:Nat) (x:Sc) (st:St),x.err=0->Kz x->x.i<=s.size->Rel x st->cost (jk s f x).l<=64*s.size/\((jk s f x).err=0->(jk s f x).i<=s.size/\Kz (jk s f x)):=by
 intro f;induction f with
 |zero=>
  intro x st he hp hi _;refine⟨?_,fun _=>⟨hi,hp⟩⟩;have:=hp he;unfold kz at this;show cost x.l<=_;omega
 |succ f ih=>
  intro x st he hp hi hr;simp only[jk];by_cases hc:x.i<s.size/\x.err=0
  ·rw[if_pos hc];rcases oH (g:=fun _=>[]) he hc.1 hr with⟨h1,h2,h3,_,iJ,h5,_⟩|⟨h1,h2,_⟩
   ·exact ih _ iJ h1 (Aq hp he) h3 h5
   ·rw[KQ f _ h1];refine⟨?_,fun e=>absurd e h1⟩;rw[h2];have:=hp he;unfold kz at this;omega
  ·rw[if_neg hc];refine⟨?_,fun _=>⟨hi,hp⟩⟩;have:=hp he;unfold kz at this;omega
theorem qy(s:ByteArray):cost ((eQ s).l++(eQ s).last)<=64*s.size:=by
 obtain⟨h1,h2⟩:=KR (s:=s) (s.size+1) Sc.zero _ rfl (fun _=>by simp[kz,cost,Sc.zero]) (ax _) Rel.zero;have QB:cost (eQ s).l<=64*s.size:=h1;by_cases he:(eQ s).err=0
 ·have:=TE s;unfold kY at this;rw[if_neg (by simpa using he)]at this;exact this
 ·have:(eQ s).last=[]:=by unfold Sc.last;rw[if_pos (Or.inl he)]
  rw[this,aO];exact QB
theorem Ho:∀{l:List Tok} {t:Tok},t∈l->(jm t).length<=cost l
 |[],t,h=>by simp at h
 |x::l,t,h=>by
  have e:cost (x::l)=(jm x).length+cost l:=by simp[cost]
  rw[e];rcases List.mem_cons.1 h with rfl|h
  ·omega
  ·have:=Ho h;omega
theorem TW(t:Tok):1<=(jm t).length:=by
 unfold jm;split
 ·simp
 ·split
  ·simp
  ·have:marks.length=27:=rfl;rw[ae];omega
theorem Hp:∀(l:List Tok),l.length<=cost l
 |[]=>ax _
 |x::l=>by
  have e:cost (x::l)=(jm x).length+cost l:=by simp[cost]
  have:=Hp l;have:=TW x;rw[e,ag];omega
theorem O6(s:ByteArray):pW false ((eQ s).l++(eQ s).last):=by
 by_cases he:(eQ s).err=0
 ·have:=vS s;unfold kY at this;rw[if_neg (by simpa using he)]at this;exact this
 ·have h0:(eQ s).last=[]:=by unfold Sc.last;rw[if_pos (Or.inl he)]
  have hi:Inv (eQ s):=CF _ _ ⟨gy.nil,trivial,rfl⟩;rw[h0,aO];exact hi.2.1
theorem CL:∀{l:List Tok} {b:Bool} {t:Tok},pW b l->t∈l->CC t
 |[],_,t,_,h=>by simp at h
 |x::l,b,t,hc,h=>by
  rcases List.mem_cons.1 h with rfl|h
  ·exact hc.1
  ·exact CL hc.2.2 h
theorem Aw(s:ByteArray)(t:Tok)(h:t∈(eQ s).l++(eQ s).last):t.text.length<=64*s.size:=by
 have h1:=Ho h;have h2:=qy s;rcases CL (O6 s) h with⟨_,_,_,_,e⟩|⟨_,_,_,e⟩|⟨k,_⟩
 ·rw[e];simp
 ·rw[e];simp
 ·have h3:jm t=Ch.h_ false t.text++marks:=by unfold jm;rw[if_neg (by omega),if_neg (by omega)]
  have h7:=Ch.sA false t.text;rw[h3,ae]at h1;omega
theorem xj(s:ByteArray):((eQ s).l++(eQ s).last).length<=64*s.size:=ar (Hp _) (qy s)
end
end K
end Go.Proofs.YtjecakcpcnmieaaGreatDoor
namespace Go.Proofs.YtjecakcpcnmieaaGreatDoor
namespace K
open Go.RowKit Go.Maps Go.Lib Tryz
section
variable{A K S F:Nat->Prop}{w w0 w' w1 w2:World}{nv sv rv:Value}{av kv:Nat->Value}{g:Gr}{X:Nat}
theorem O7{nv sv:Value}{av kv:Nat->Value}(h:GP A F K S X w g nv sv av kv)(t:Tok)(ai:Option Addr)(ac:Nat)(hz:t.text.length<=9223372036854775807)(h0:(g.take t).1=0)(hk:t.kind=2):
  Z4 27 #[Z8 X,nC t (.slice ai t.b_.length ac)] w (xh A F X w (g.take t)):=by
 have fg:=pY h t ai ac hz;obtain⟨k,st,m,hs,hm,oO,hg⟩:∃k st m,g.stack=k::st/\g.nodes[k]?=some m/\m.up=jl st/\g.take t=(0,{g with stack:=st}):=by
  unfold Gr.take at h0 ⊢;rw[if_neg (by omega),if_pos hk]at h0 ⊢;cases hs:g.stack with
  |nil=>simp only[hs]at h0;cases h0
  |cons k st=>
   obtain⟨m,hm,oO,_⟩:=h.wf.top hs;simp only[hs]at h0 ⊢;split at h0
   ·rename_i h1;exact⟨k,st,m,rfl,hm,oO,by rw[if_pos h1]⟩
   ·cases h0
 have Dn:=h.wf.take t;rw[hg]at fg Dn ⊢;have qU:k<g.nodes.length:=(List.getElem?_eq_some_iff.1 hm).1;have fj:CK w.heap.size (.int .i64 t.kind) (.string ⟨t.name.toArray⟩) (.slice ai t.b_.length ac) (.string ⟨t.text.toArray⟩) (.int .i64 t.at_) (w.alloc (iI t (.slice ai t.b_.length ac))):=o8 (eL w _);obtain⟨b0,b1,b2,b3,b4⟩:=fj;have kE:∀w1 k7 n,GQ A F K S X w (w.alloc (iI t (.slice ai t.b_.length ac))).drew w1 g n nv k7 av kv->∃gN nc,w1.cell? ⟨X,2,none⟩=some (Z9 gN g.nodes.length nc)/\w1.cell? ⟨X,3,none⟩=some (.int .i64 k)/\w1.cell? ⟨gN,k*5+4,none⟩=some (.int .i64 m.up)/\w1.frozen? ⟨X,3,none⟩=false/\gN≠X:=fun w1 k7 n q=>by
  obtain⟨gN,nc,qO,hmx,KH,m0,m1,m2,m3,m4⟩:=q.rep.nodes.cells k m hm;refine⟨gN,nc,(q.rep.cell (u:=nv) 2 rfl).trans (by rw[qO]),by rw[q.rep.cell 3 rfl,hs];rfl,m4,eP q.rep.blk,fun e=>q.rep.nK (e▸KH)⟩
 have kI:∀w1 k7,GQ A F K S X w (w.alloc (iI t (.slice ai t.b_.length ac))).drew w1 g (Gr.nest {g with stack:=st}) nv k7 av kv->
   xh A F X w (0,{g with stack:=st}) (.returned (.int .i64 0)) (w1.setCell ⟨X,3,none⟩ (.int .i64 m.up)).drew:=fun w1 k7 q=>by
  have r3:=(q.rep.top st m.up oO).keep ((eN.refl _).drewN 1);have f3:Frame (fun k=>k=X\/K k) w1 (w1.setCell ⟨X,3,none⟩ (.int .i64 m.up)).drew:=(Av w1 3 _).trans' (Frame.drew' _);have r4:=q.rep.next (g':={g with stack:=st}) f3 r3.nodes (fun k _ x=>Or.inl x) r3.blk;refine h.ends q r4 f3 h.kids Dn (fun e=>?_);have e':g.nodes=[]:=e;rw[e']at hm;simp at hm
 unfold nC eZ at fg ⊢;unfold iI at*
 have lI:(t.kind==1)=false:=by rw[hk];rfl
 have hk2:(t.kind==2)=true:=by simpa using hk
 have Hl:(k:Int)<g.nodes.length:=by omega
 have HC:=a_ fg;have HF:=a_ kI;have HQ:=a_ kE;clear fg kI h0 h kE hg Dn hs hk oO;generalize Gr.nest {g with stack:=st}=nn at*
 go_enter func27,ntmps27;go_wp2_with fail;go_region_held3 (fun W=>W.cell? ⟨w.heap.size,0,none⟩=some (.int .i64 t.kind)/\W.cell? ⟨w.heap.size,1,none⟩=some (.string ⟨t.name.toArray⟩)/\W.cell? ⟨w.heap.size,2,none⟩=some (.slice ai t.b_.length ac)/\W.cell? ⟨w.heap.size,3,none⟩=some (.string ⟨t.text.toArray⟩)/\W.cell? ⟨w.heap.size,4,none⟩=some (.int .i64 t.at_))
  (first|exact⟨b0,b1,b2,b3,b4⟩|exact o8 (t:=t) hb1)
  (first|(go_at_call 53;refine HC.out.mono ?_;rintro e w1 ⟨rfl,k7,gq,hb1⟩))
 all_goals
  have hb2:=o8 (t:=t) (va:=.slice ai t.b_.length ac) hb1;obtain⟨d0,d1,d2,d3,d4⟩:=hb2;obtain⟨gN,nc,c2,c3,c4,f3,hgX⟩:=HQ.out _ _ _ gq;have Xu:=a_ gq;clear gq b0 b1 b2 b3 b4 hb1;go_wp2_with fail;go_region_law (fail);all_goals
   go_wp2;go_ret;exact HF.out _ _ Xu.out
theorem O8{nv sv:Value}{av kv:Nat->Value}(h:GP A F K S X w g nv sv av kv)(hb:g.nodes.length<=17179869184)(t:Tok)(ai:Option Addr)(ac:Nat)(hz:t.text.length<=9223372036854775807)(h0:(g.take t).1=0)(lI:t.kind≠1)(hk2:t.kind≠2)(k:Nat)(st:List Nat)(hs:g.stack=k::st):
  Z4 27 #[Z8 X,nC t (.slice ai t.b_.length ac)] w (xh A F X w (g.take t)):=by
 have fg:=pY h t ai ac hz;have hg:g.take t=(0,g.put (jD t)):=by
  unfold Gr.take;rw[if_neg lI,if_neg hk2];simp only[hs]
 have Dn:=h.wf.take t;rw[hg]at fg Dn ⊢;have fj:CK w.heap.size (.int .i64 t.kind) (.string ⟨t.name.toArray⟩) (.slice ai t.b_.length ac) (.string ⟨t.text.toArray⟩) (.int .i64 t.at_) (w.alloc (iI t (.slice ai t.b_.length ac))):=o8 (eL w _);obtain⟨b0,b1,b2,b3,b4⟩:=fj;have hput:∀w1 k7 n,GQ A F K S X w (w.alloc (iI t (.slice ai t.b_.length ac))).drew w1 g n nv k7 av kv->Z4 54 #[Z8 X,.agg #[.string ⟨#[]⟩,.slice none 0 0,.string ⟨t.text.toArray⟩,.slice none 0 0,.int .i64 0]] w1 fun e w'=>e=.returned (.int .i64 g.nodes.length)/\∃kh j8 kA,kg A (Grow K w1 w') X w' (g.put (jD t)) kh j8 kA k7 (.bool n.gC)/\Frame (fun k=>k=X\/K k) w1 w':=fun w1 k7 n q=>
  Hm q.rep h.wf h.kids (jD t) (.slice none 0 0) 0 ⟨rfl,Or.inl ⟨rfl,rfl⟩⟩ (fun k e=>by cases e) rfl hb
 have kE:∀w1 k7 n,GQ A F K S X w (w.alloc (iI t (.slice ai t.b_.length ac))).drew w1 g n nv k7 av kv->w1.cell? ⟨X,3,none⟩=some (.int .i64 k):=fun w1 k7 n q=>by rw[q.rep.cell 3 rfl,hs];rfl
 have kI:∀w1 w2 k7 kh j8 kA,GQ A F K S X w (w.alloc (iI t (.slice ai t.b_.length ac))).drew w1 g (g.put (jD t)).nest nv k7 av kv->kg A (Grow K w1 w2) X w2 (g.put (jD t)) kh j8 kA k7 (.bool (g.put (jD t)).nest.gC)->Frame (fun k=>k=X\/K k) w1 w2->
   xh A F X w (0,g.put (jD t)) (.returned (.int .i64 0)) w2:=fun w1 w2 k7 kh j8 kA q r f=>by
  refine h.ends q r f (h.kids.put (jD t) rfl) Dn (fun e=>?_);have:=vX g (jD t);rw[e]at this;cases this
 unfold nC eZ at fg ⊢;unfold iI at*
 have e1:(t.kind==1)=false:=by simpa using lI
 have e2:(t.kind==2)=false:=by simpa using hk2
 have hkn:((k:Int) != -1)=true:=by simp
 have HC:=a_ fg;have HF:=a_ kI;have HP:=a_ hput;have HQ:=a_ kE;clear fg kI h0 h hput kE hg Dn hs lI hk2;generalize (g.put (jD t)).nest=nn at*
 go_enter func27,ntmps27;go_wp2_with fail;go_region_held3 (fun W=>W.cell? ⟨w.heap.size,0,none⟩=some (.int .i64 t.kind)/\W.cell? ⟨w.heap.size,1,none⟩=some (.string ⟨t.name.toArray⟩)/\W.cell? ⟨w.heap.size,2,none⟩=some (.slice ai t.b_.length ac)/\W.cell? ⟨w.heap.size,3,none⟩=some (.string ⟨t.text.toArray⟩)/\W.cell? ⟨w.heap.size,4,none⟩=some (.int .i64 t.at_))
  (first|exact⟨b0,b1,b2,b3,b4⟩|exact o8 (t:=t) hb1)
  (first|(go_at_call 53;refine HC.out.mono ?_;rintro e w1 ⟨rfl,k7,gq,hb1⟩))
 all_goals
  have hp:=HP.out _ _ _ gq;have hb2:=o8 (t:=t) (va:=.slice ai t.b_.length ac) hb1;obtain⟨d0,d1,d2,d3,d4⟩:=hb2;have c3:=HQ.out _ _ _ gq;have Xu:=a_ gq;clear gq b0 b1 b2 b3 b4 hb1;go_wp2_with(go_at_call 54;refine hp.mono ?_;rintro e w2 ⟨rfl,kh,j8,kA,r2,f2⟩;have R2:=a_ r2;have F2:=a_ f2;clear r2 f2);go_ret;exact HF.out _ _ _ _ _ _ Xu.out R2.out F2.out
theorem KT{nv sv:Value}{av kv:Nat->Value}(h:GP A F K S X w g nv sv av kv)(t:Tok)(ai:Option Addr)(ac:Nat)(hz:t.text.length<=9223372036854775807)(h0:(g.take t).1=0)(lI:t.kind≠1)(hk2:t.kind≠2)(hs:g.stack=[]):
  Z4 27 #[Z8 X,nC t (.slice ai t.b_.length ac)] w (xh A F X w (g.take t)):=by
 have fg:=pY h t ai ac hz;have hg:g.take t=(0,g):=by
  unfold Gr.take at h0 ⊢;rw[if_neg lI,if_neg hk2]at h0 ⊢;simp only[hs]at h0 ⊢;split at h0
  ·rename_i h1;rw[if_pos h1]
  ·cases h0
 rw[hg]at fg ⊢;have fj:CK w.heap.size (.int .i64 t.kind) (.string ⟨t.name.toArray⟩) (.slice ai t.b_.length ac) (.string ⟨t.text.toArray⟩) (.int .i64 t.at_) (w.alloc (iI t (.slice ai t.b_.length ac))):=o8 (eL w _);obtain⟨b0,b1,b2,b3,b4⟩:=fj;have kE:∀w1 k7 n,GQ A F K S X w (w.alloc (iI t (.slice ai t.b_.length ac))).drew w1 g n nv k7 av kv->w1.cell? ⟨X,3,none⟩=some (.int .i64 (-1)):=fun w1 k7 n q=>by rw[q.rep.cell 3 rfl,hs];rfl
 have kI:∀w1 k7,GQ A F K S X w (w.alloc (iI t (.slice ai t.b_.length ac))).drew w1 g g.nest nv k7 av kv->xh A F X w (0,g) (.returned (.int .i64 0)) w1:=fun w1 k7 q=>h.same q (eN.refl w1);unfold nC eZ at fg ⊢;unfold iI at*
 have e1:(t.kind==1)=false:=by simpa using lI
 have e2:(t.kind==2)=false:=by simpa using hk2
 have HC:=a_ fg;have HF:=a_ kI;have HQ:=a_ kE;clear fg kI h0 h kE hg hs lI hk2;generalize g.nest=nn at*
 go_enter func27,ntmps27;go_wp2_with fail;go_region_held3 (fun W=>W.cell? ⟨w.heap.size,0,none⟩=some (.int .i64 t.kind)/\W.cell? ⟨w.heap.size,1,none⟩=some (.string ⟨t.name.toArray⟩)/\W.cell? ⟨w.heap.size,2,none⟩=some (.slice ai t.b_.length ac)/\W.cell? ⟨w.heap.size,3,none⟩=some (.string ⟨t.text.toArray⟩)/\W.cell? ⟨w.heap.size,4,none⟩=some (.int .i64 t.at_))
  (first|exact⟨b0,b1,b2,b3,b4⟩|exact o8 (t:=t) hb1)
  (first|(go_at_call 53;refine HC.out.mono ?_;rintro e w1 ⟨rfl,k7,gq,hb1⟩))
 all_goals
  have hb2:=o8 (t:=t) (va:=.slice ai t.b_.length ac) hb1;obtain⟨d0,d1,d2,d3,d4⟩:=hb2;have c3:=HQ.out _ _ _ gq;have Xu:=a_ gq;clear gq b0 b1 b2 b3 b4 hb1;go_wp2;go_ret;exact HF.out _ _ Xu.out
theorem O9(h:GR A F X w g)(hb:g.nodes.length<=17179869184)(t:Tok)(va:Value)(hz:t.text.length<=9223372036854775807)(ha:w.ownsRow 0 143 2 va t.b_.length (eG t.b_))(nS:∀k,va.ownBlock=some k->A k):
  Z4 27 #[Z8 X,nC t va] w (xh A F X w (g.take t)):=by
 obtain⟨K,S,nv,sv,av,kv,p⟩:=h.parts;obtain⟨ai,ac,rfl⟩:=eE ha;by_cases h0:(g.take t).1=0
 ·by_cases lI:t.kind=1
  ·exact O5 p hb t ai ac hz ha nS h0 lI
  ·by_cases hk2:t.kind=2
   ·exact O7 p t ai ac hz h0 hk2
   ·cases hs:g.stack with
    |nil=>exact KT p t ai ac hz h0 lI hk2 hs
    |cons k st=>exact O8 p hb t ai ac hz h0 lI hk2 k st hs
 ·exact KP p t ai ac hz h0
end
section
variable{A K K':Nat->Prop}{w w' w1:World}{nv v:Value}{av kv:Nat->Value}{g:Gr}{X:Nat}{a:Addr}{l:List Tok}
theorem xa.atA(h:xa A w v l)(i:Nat)(hi:i<l.length):∃g cap va,v=Z9 g l.length cap/\w.ownsRow 0 143 2 va (l[i]).b_.length (eG (l[i]).b_)/\(∀k,va.ownBlock=some k->A k)/\
  w.cell? ⟨g,i*5,none⟩=some (.int .i64 (l[i]).kind)/\w.cell? ⟨g,i*5+1,none⟩=some (eZ (l[i]).name)/\w.cell? ⟨g,i*5+2,none⟩=some va/\w.cell? ⟨g,i*5+3,none⟩=some (eZ (l[i]).text)/\w.cell? ⟨g,i*5+4,none⟩=some (.int .i64 (l[i]).at_)/\l.length<=maxLen:=by
 obtain⟨cs,h1,h2,h3⟩:=h;have QB:=h1;rcases QB.2 with⟨e,e0⟩|⟨g,cap,cur,e,_,_,U0,Qg,_⟩
 ·omega
 subst e;have hc:=h1.cells (g:=g) rfl;have key:∀(l:List Tok) (cs:List Value),nh A 0 w fO l cs->∀(i:Nat) (hi:i<l.length),∃va,w.ownsRow 0 143 2 va (l[i]).b_.length (eG (l[i]).b_)/\(∀k,va.ownBlock=some k->A k)/\cs[i*5]?=some (.int .i64 (l[i]).kind)/\cs[i*5+1]?=some (eZ (l[i]).name)/\cs[i*5+2]?=some va/\cs[i*5+3]?=some (eZ (l[i]).text)/\cs[i*5+4]?=some (.int .i64 (l[i]).at_):=by
  intro l cs h;induction h with
  |nil=>intro i hi;cases hi
  |cons t v l cs ho hf hl ih=>
   intro i hi;cases i with
   |zero=>exact⟨v,ho,fun k e=>(hf k e).1,rfl,rfl,rfl,rfl,rfl⟩
   |succ i=>
    obtain⟨va,a0,b0,a1,a2,a3,a4,a5⟩:=ih i (by simpa using hi);have e1:∀j,(i+1)*5+j=(fq t v).length+(i*5+j):=fun j=>by show _=5+_;omega
    have e2:∀j,(fq t v++cs)[(i+1)*5+j]?=cs[i*5+j]?:=fun j=>by rw[e1,aQ (cF _ _),cj]
    exact⟨va,a0,b0,(e2 0).trans a1,(e2 1).trans a2,(e2 2).trans a3,(e2 3).trans a4,(e2 4).trans a5⟩
 obtain⟨va,a0,b0,a1,a2,a3,a4,a5⟩:=key l cs h2 i hi;have up:∀j u,cs[j]?=some u->w.cell? ⟨g,j,none⟩=some u:=fun j u hj=>by
  have:=hc j u hj;rwa[Addr.add_mid,ay]at this
 exact⟨g,cap,va,rfl,a0,b0,up _ _ a1,up _ _ a2,up _ _ a3,up _ _ a4,up _ _ a5,ar U0 Qg⟩
theorem TX(h:xa A w v l):∃b c,v=.slice b l.length c/\l.length<=maxLen:=by
 obtain⟨cs,o,_,_⟩:=h;rcases o.2 with⟨rfl,e⟩|⟨g,cap,cur,rfl,_,_,h1,h2,_⟩
 ·rw[e];exact⟨none,0,rfl,ax _⟩
 ·exact⟨_,_,rfl,ar h1 h2⟩
def acX(B:Nat)(w:World)(v:Value)(l:List Nd):Prop:=∃A K av kv,f_ 108 143 A K w v l av kv/\(∀k,A k->B<=k)/\(∀k,K k->B<=k)/\(∀k,A k->¬K k)
def vY(w:World)(x:List Nd×Int×Int)(e:Ending)(w':World):Prop:=∃v,e=.returned (.tuple #[v,.int .i64 x.2.1,.int .i64 x.2.2])/\acX w.heap.size w' v x.1/\Z5 w w'/\(x.2.1≠0->v=fO)
structure Start(w:World)(b:ByteArray)(v':Value)(w4:World):Prop where
 ex:∃A,xa A w4 v' ((eQ b).l++(eQ b).last)/\(∀k,A k->w.heap.size<=k)
 below:Z5 w w4
 err:∀W,eN w4 W->Z4 28 #[.pointer (some ⟨w.heap.size,0,none⟩)] W fun e w5=>e=.returned (.tuple #[.int .i64 (eQ b).err,.int .i64 (eQ b).at_])/\Z5 W w5
theorem zq(b:ByteArray)(w:World)(gl:Gl w a)(hb:b.size<=2147483648):
  Z4 25 #[.pointer (some ⟨w.heap.size,0,none⟩),.string b] (w.alloc (.cells lg 137)) fun e w2=>∃v1,e=.returned v1/\
   Z4 26 #[.pointer (some ⟨w.heap.size,0,none⟩)] w2 fun e w3=>∃v2,e=.returned v2/\∃v' w4,(Builtin.append_ #[45,45] 45 #[v1,v2]).run prog w3=.ok v' w4/\Start w b v' w4:=by
 have hsz:=gl.size;have GM:=G4 gl (.cells lg 137);have lo0:Low (fun k=>k=w.heap.size):=fun k hk e=>by omega
 have hw:=G1 (Cu w) pR GM lo0 b (by omega);have hg:=Ae pR b;have ht1:=Ag pR b;have ht2:=Ah hg;obtain⟨cr1,cr2,_⟩:=Cz b;refine hw.mono ?_;rintro e w2 ⟨v1,A1,F1,rfl,an1,al1,vd,h1,h2⟩;have hz1:w.heap.size+1<=w2.heap.size:=by have:=vd.size;simp at this;omega
 have WT:∀k,F1 k->w.heap.size<=k:=fun k hk=>(h2 k hk).elim (fun e=>by omega) (fun x=>by have:=x.1;simp at this;omega);have SF:Low F1:=fun k hk x=>by have:=WT k x;omega
 refine⟨v1,rfl,(G2 al1 hg (GM.frame vd lo0) SF (by omega)).mono ?_⟩;rintro e w3 ⟨v2,A2,F2,rfl,an2,al2,tO,g1,g2⟩;obtain⟨v',w4,A,hrun,ID,al4,b4,hA,hF2⟩:=G3 (x:=PR.new.write b) (y:=(PR.new.write b).1.close) (K:=w.heap.size) (by omega) an1 (fun k hA=>⟨(h1 k hA).1.elim (fun e=>by omega) (fun x=>by have:=x.1;simp at this;omega),(h1 k hA).1.elim (fun e=>by omega) (fun x=>x.2),(h1 k hA).2⟩) WT an2 al2 tO g1 g2 (by omega);have b1:Z5 w (w.alloc (.cells lg 137)):=(Below.refl _ _).alloc (ah _) _;have b2:Below w.heap.size (w.alloc (.cells lg 137)) w2:=vd.up (fun k e=>by omega) (by simp);rw[Cy,cr1]at ID;refine⟨v2,rfl,v',w4,hrun,⟨A,ID,fun k hk=>(hA k hk).1⟩,(b1.trans b2).trans b4,fun W hM=>?_⟩;have hlt:∀k,F2 k->k<w4.heap.size:=fun k hk=>by obtain⟨_,_,rep,_⟩:=al4;exact rep.lt k hk
 have:=SZ (al4.keep (fun k hk=>hM.keep k (hlt k hk)) hM.size);rw[cr2]at this;exact this
end
section
variable{A K K':Nat->Prop}{w w' w1 w4 wr:World}{nv v:Value}{av kv:Nat->Value}{g:Gr}{X:Nat}{a:Addr}{l T:List Tok}
structure PI(w4:World)(A:Nat->Prop)(T:List Tok)(wr:World)(k:Nat):Prop where
 ex:∃g Kx,GR A Kx w4.heap.size wr g/\(∀j,Kx j->w4.heap.size<=j)/\grow Gr.zero T=grow g (T.drop k)/\g.nodes.length<=k
 more:eN w4 wr
theorem PI.start(hA:∀k,A k->k<w4.heap.size):PI w4 A T (w4.alloc (.cells #[.slice none 0 0,.bool false,.slice none 0 0,.int .i64 (-1)] 93)) 0:=by refine⟨⟨Gr.zero,fun _=>False,⟨⟨fun _=>False,fun _=>False,fO,_,_,fO,⟨eL w4 _,f_.zero,fun x=>by have:=hA _ x;omega,fun x=>x,fun _ _ x=>x,fun _ x=>x.elim,fun k x=>by have:=hA k x;simp;omega⟩,⟨eL w4 _,rfl,rfl,⟨rfl,Or.inl ⟨rfl,rfl⟩⟩,(fun k e=>by cases e),fun x=>x,fun _ x=>x.elim⟩,fun _ x=>x,fun _ x=>x,fun _ _ x=>x,fun _ x=>x.elim,fun _=>rfl⟩,fun _ x=>x.elim,fun x=>x,fun i m hi=>by simp[Gr.zero]at hi,Gr.Wf.zero⟩,fun _ x=>x.elim,by simp,by simp[Gr.zero]⟩,(eN.refl w4).alloc _⟩
theorem PI.call{k:Nat}(h:PI w4 A T wr k)(hk:k<T.length)(hb:T.length<=17179869184)(hA:∀k,A k->k<w4.heap.size)(va:Value)(hz:(T[k]).text.length<=9223372036854775807)(ha:w4.ownsRow 0 143 2 va (T[k]).b_.length (eG (T[k]).b_))(nS:∀k,va.ownBlock=some k->A k)(o:Obj):
  Z4 27 #[.pointer (some ⟨w4.heap.size,0,none⟩),nC (T[k]) va] (wr.alloc o) fun e w'=>∃no,e=.returned (.int .i64 no)/\eN w4 w'/\w'.heap[wr.heap.size]?=some o/\(no=0->PI w4 A T w' (k+1))/\(no≠0->(grow Gr.zero T).1=no/\(grow Gr.zero T).2.1=(T[k]).at_):=by
 obtain⟨⟨g,Kx,hg,hKx,hgr,hlen⟩,hM⟩:=h;have hM1:eN wr (wr.alloc o):=(eN.refl wr).alloc o;have xQ:=hM.alloc o;have hXr:w4.heap.size<wr.heap.size:=hg.blk;have hdrop:T.drop k=T[k]::T.drop (k+1):=(bX hk)
 refine(O9 (hg.keep hM1) (by omega) (T[k]) va hz (eI ha fun b e=>xQ.keep b (eU ha e)) nS).mono ?_;rintro e w' ⟨rfl,r,fr⟩;have hM3:eN w4 w':=⟨fr.os.trans xQ.os,fr.tape.trans xQ.tape,fr.output.trans xQ.output,ar xQ.size fr.size,fun b hb2=>by
  rw[fr.block b (ak hb2 xQ.size) (fun x=>by
   rcases x with e|e
   ·omega
   ·have:=hKx b e;omega)]
  exact xQ.keep b hb2⟩
 have acY:∀j,Kx j->j<wr.heap.size:=hg.lt;refine⟨_,rfl,hM3,?_,fun h0=>?_,fun hn=>?_⟩
 ·rw[fr.block wr.heap.size (by simp) (fun x=>by
   rcases x with e|e
   ·omega
   ·have:=acY _ e;omega)]
  exact eL wr o
 ·refine⟨⟨_,_,r,?_,?_,?_⟩,hM3⟩
  ·rintro j (e|e)
   ·exact hKx j e
   ·have:=e.1;simp at this;omega
  ·rw[hgr,hdrop];simp only[grow];rw[if_neg (by simpa using h0)]
  ·have:(g.take (T[k])).2.nodes.length<=g.nodes.length+1:=by
    unfold Gr.take;split
    ·split
     ·simp
     ·split
      ·simp
      ·simp only[lh];omega
    ·split
     ·split
      ·simp
      ·split<;>simp
     ·split
      ·split<;>simp
      ·rw[lh];omega
   omega
 ·rw[hgr,hdrop];simp only[grow];rw[if_pos hn];exact⟨rfl,rfl⟩
end
section
variable{A K K':Nat->Prop}{w w' w1 w4 wr:World}{nv v:Value}{av kv:Nat->Value}{g:Gr}{X:Nat}{a:Addr}{l T:List Tok}
theorem PI.over(h:PI w4 A T wr T.length):∃g Kx,GR A Kx w4.heap.size wr g/\(∀j,Kx j->w4.heap.size<=j)/\grow Gr.zero T=(0,0,g):=by
 obtain⟨⟨g,Kx,h1,h2,h3,_⟩,_⟩:=h;refine⟨g,Kx,h1,h2,?_⟩;rw[h3,dz];rfl
theorem Ax{no q:Int}(b4:Z5 w w4)(hM:eN w4 w')(hn:no≠0):vY w ([],no,q) (.returned (.tuple #[.slice none 0 0,.int .i64 no,.int .i64 q])) w':=
 ⟨fO,rfl,⟨fun _=>False,fun _=>False,_,_,f_.zero,fun _ x=>x.elim,fun _ x=>x.elim,fun _ x=>x.elim⟩,b4.trans ⟨hM.os,hM.tape,hM.output,hM.size,fun k hk=>hM.keep k (ak hk b4.size)⟩,fun _=>rfl⟩
structure Says(b:ByteArray)(T:List Tok)(Bn P9:Int):Prop where
 tok:(grow Gr.zero T).1≠0->fp b=([],(grow Gr.zero T).1,(grow Gr.zero T).2.1)
 err:(grow Gr.zero T).1=0->Bn≠0->fp b=([],Bn,P9)
 form:(grow Gr.zero T).1=0->Bn=0->((grow Gr.zero T).2.2.stack≠[]\/(grow Gr.zero T).2.2.nodes=[])->fp b=([],3,(b.size:Int))
 ok:(grow Gr.zero T).1=0->Bn=0->(grow Gr.zero T).2.2.stack=[]->(grow Gr.zero T).2.2.nodes≠[]->fp b=((grow Gr.zero T).2.2.nodes,0,0)
theorem says(b:ByteArray):Says b ((eQ b).l++(eQ b).last) (eQ b).err (eQ b).at_:=by
 refine⟨fun h=>?_,fun h h2=>?_,fun h h2 h3=>?_,fun h h2 h3 h4=>?_⟩
 ·unfold fp;rw[if_pos h]
 ·unfold fp;rw[if_neg (by simpa using h),if_pos h2]
 ·unfold fp;rw[if_neg (by simpa using h),if_neg (by simpa using h2),if_pos h3]
 ·unfold fp;rw[if_neg (by simpa using h),if_neg (by simpa using h2),if_neg (by rintro(e|e);exact e h3;exact h4 e)]
theorem KU(b:ByteArray)(w:World)(gl:Gl w a)(hb:b.size<=2147483648)(hlen:((eQ b).l++(eQ b).last).length<=17179869184)(Tt:∀t∈(eQ b).l++(eQ b).last,t.text.length<=9223372036854775807):Z4 11 #[.string b] w (vY w (fp b)):=by
 have hst:=zq b w gl hb;have A8:=Dw w;have TY:=says b;have HST:=a_ hst;have Bu:=a_ TY;have aat:=a_ hlen;have HTX:=a_ Tt;clear hst gl TY hlen Tt;go_enter func11,ntmps11;go_wp2_with(first|(go_at_call 24;refine A8.mono ?_;rintro e wn ⟨rfl,rfl⟩)|(go_at_call 25;refine HST.out.mono ?_;rintro e w2 ⟨v1,rfl,qQ⟩)|(go_at_call 26;refine qQ.mono ?_;rintro e w3 ⟨v2,rfl,v',w4,hrun,Vb⟩;have Ep:=Vb.err;have hb4:=Vb.below;obtain⟨A4,ID,hA4⟩:=Vb.ex;generalize (eQ b).l++(eQ b).last=T at*;generalize (eQ b).err=Bn at*;generalize (eQ b).at_=P9 at*;obtain⟨bl,cl,el,hmx⟩:=TX ID;subst el;have AN4:=a_ ID;have HA4:=a_ hA4;have HMX:=a_ hmx;have HER:=a_ Ep;have B4:=a_ hb4;clear Vb ID hA4 hmx Ep hb4 qQ HST)|(at_builtin;refine uG rfl (.tmp 16) (.tmp 18) rfl rfl _ _ rfl rfl hrun ?_));go_loopw [9,10,23] (fun _ _ iv wr=>∃k:Nat,iv=.int .i64 k/\k<=T.length/\PI w4 (fun j=>A4 j/\j<w4.heap.size) T wr k) (fun _ _ iv _=>T.length-(RowKit.intOf iv).toNat)
 case atStart=>exact⟨0,rfl,ax _,PI.start (fun k x=>x.2)⟩
 case round=>
  obtain⟨k,rfl,hk,T5⟩:=hrel;by_cases qU:k<T.length
  ·have hdec:decide ((k:Int)<T.length)=true:=by simp;omega
   have Hq:decide (k<T.length)=true:=by simp;omega
   have Hl:(k:Int)<T.length:=by omega
   have YB:(T.length:Int)<=9223372036854775807:=by have:=HMX.out;have:maxLen=9223372036854775807:=rfl;omega
   obtain⟨gT,cT,va,eT,oa,oA,x0,x1,x2,x3,x4,_⟩:=AN4.out.atA k qU;have fg:=fun o=>T5.call qU aat.out (fun j x=>x.2) va (HTX.out _ (bU qU)) oa (fun j e=>⟨oA j e,eU oa e⟩) o;obtain⟨ai,ac,oF⟩:=eE oa;cases eT;have hlt:gT<w4.heap.size:=bE w4 _ x0;subst oF;unfold eZ at x1 x3;unfold nC eZ at fg;have y0:=(aj (a:=⟨gT,k*5,none⟩) (T5.more.keep gT hlt)).trans x0;have y1:=(aj (a:=⟨gT,k*5+1,none⟩) (T5.more.keep gT hlt)).trans x1;have y2:=(aj (a:=⟨gT,k*5+2,none⟩) (T5.more.keep gT hlt)).trans x2;have y3:=(aj (a:=⟨gT,k*5+3,none⟩) (T5.more.keep gT hlt)).trans x3;have y4:=(aj (a:=⟨gT,k*5+4,none⟩) (T5.more.keep gT hlt)).trans x4;have HC:=a_ fg;have HPI:=a_ T5;clear fg T5 oa oA x0 x1 x2 x3 x4;generalize T[k]=t at*
   go_wp2_with fail;refine(HC.out _).mono ?_;rintro e w5 ⟨no,rfl,hM5,fj,jO,nH⟩;by_cases h0:no=0
   ·have hp5:=jO h0;subst h0;have HP5:=a_ hp5;clear jO nH fj hM5 hp5;go_wp2
    go_roundw
    case rel=>exact⟨k+1,by simp,by omega,HP5.out⟩
    case measure=>simp only[RowKit.intOf];omega
   ·have hne:(no !=0)=true:=by simpa using h0
    have z4:=cell_of (i:=4) fj rfl;have HB:=a_ (nH h0);have HM5:=a_ hM5;have H0:=a_ h0;clear jO nH fj hM5 h0;go_wp2_with fail;go_quiet(fail);go_wp2
    go_ret3
    have hq:=HB.out;have hsy:=Bu.out.tok (by rw[hq.1];exact H0.out);rw[hsy,hq.1,hq.2];exact Ax B4.out (HM5.out.drewN _) H0.out
  ·have hdec:decide ((k:Int)<T.length)=false:=by simp;omega
   have Hq:decide (k<T.length)=false:=by simp;omega
   have he:k=T.length:=by omega
   subst he;have hM:=T5.more;obtain⟨g,Kx,hg,hKx,hgr⟩:=T5.over;have h10:(grow Gr.zero T).1=0:=by rw[hgr]
   have H10:=a_ h10;have HG:=a_ hg;have JI:=a_ hgr;have HKX:=a_ hKx;have vZ:=a_ hM;clear T5 hg hgr hKx hM h10;by_cases h0:Bn=0
   ·subst h0;obtain⟨Kg,Sg,nv,sv,av,kv,p⟩:=HG.out.parts;have hall:∀W,eN wr W->∃A' K',f_ 108 143 A' K' W nv g.nodes av kv/\(∀j,A' j->w.heap.size<=j)/\(∀j,K' j->w.heap.size<=j)/\(∀j,A' j->¬K' j):=fun W hW=>⟨_,_,hW.nodes p.rep.nodes,fun j x=>HA4.out j x.1,fun j x=>ar B4.out.size (HKX.out j (p.kF j x)),p.rep.sZ⟩
    have T6:∀W,eN wr W->Z4 29 #[.pointer (some ⟨w4.heap.size,0,none⟩)] W fun e w'=>e=.returned (.bool (g.nest.gC&&decide (g.nest.names.length=0)))/\eN W w':=fun W hW=>qx (p.nest.keep hW);have T7:∀W,eN wr W->W.cell? ⟨w4.heap.size,2,none⟩=some nv:=fun W hW=>(p.rep.keep hW).cell 2 rfl;have U7:(g.nest.gC&&decide (g.nest.names.length=0))=true↔(g.stack=[]/\g.nodes≠[]):=by simp[Gr.nest,Gr.names,and_comm]
    have aau:=a_ hall;have HWH:=a_ T6;have HND:=a_ T7;clear hall T6 T7 p;generalize (g.nest.gC&&decide (g.nest.names.length=0))=wb at*
    cases wb with
    |false=>
     have hsy:=Bu.out.form H10.out rfl (by
      rw[JI.out];by_cases e:g.stack=[]
      ·exact Or.inr (aU fun e2=>by simpa using U7.2 ⟨e,e2⟩)
      ·exact Or.inl e)
     clear U7;go_wp2_with fail;refine(HER.out _ vZ.out).mono ?_;rintro e w5 ⟨rfl,b5⟩;have hw5:=HWH.out w5 (kD b5);have B5:=a_ b5;clear b5;go_wp2_with(go_at_call 29;refine hw5.mono ?_;rintro e w6 ⟨rfl,m6⟩;have M6:=a_ m6;clear m6)
     go_ret3
     rw[hsy];exact Ax B4.out ((vZ.out.trans (kD B5.out)).trans M6.out) (by decide)
    |true=>
     obtain⟨hs,Jg⟩:=U7.1 rfl;have hsy:=Bu.out.ok H10.out rfl (by rw[JI.out];exact hs) (by rw[JI.out];exact Jg);rw[JI.out]at hsy;have HSY:=a_ hsy;clear U7 hs Jg hsy;go_wp2_with fail;refine(HER.out _ vZ.out).mono ?_;rintro e w5 ⟨rfl,b5⟩;have hw5:=HWH.out w5 (kD b5);have B5:=a_ b5;clear b5;go_wp2_with(go_at_call 29;refine hw5.mono ?_;rintro e w6 ⟨rfl,m6⟩;have c0:=HND.out w6 ((kD B5.out).trans m6);have M6:=a_ m6;clear m6)
     go_ret3
     rw[HSY.out];have hM6:=(kD B5.out).trans M6.out;obtain⟨A',K',q1,q2,q3,q4⟩:=aau.out w6 hM6;have hM7:=vZ.out.trans hM6;have ya:Z5 w w6:=B4.out.trans ⟨hM7.os,hM7.tape,hM7.output,hM7.size,fun j hj=>hM7.keep j (ak hj B4.out.size)⟩;exact⟨_,rfl,⟨A',K',av,kv,q1,q2,q3,q4⟩,ya,fun h=>absurd rfl h⟩
   ·have hne:(Bn !=0)=true:=by simpa using h0
    have H0:=a_ h0;clear h0;go_wp2_with fail;refine(HER.out _ vZ.out).mono ?_;rintro e w5 ⟨rfl,b5⟩;have B5:=a_ b5;clear b5;go_wp2_with fail
    go_ret3
    rw[Bu.out.err H10.out H0.out];exact Ax B4.out (vZ.out.trans (kD B5.out)) H0.out
end
end K
end Go.Proofs.YtjecakcpcnmieaaGreatDoor
namespace Go.Proofs.YtjecakcpcnmieaaGreatDoor
namespace K
open Go.RowKit Go.Lib Tryz
theorem pF{a:Addr}(b:ByteArray)(w:World)(gl:Gl w a)(hb:b.size<=268435456):Z4 11 #[.string b] w (vY w (fp b)):=
 KU b w gl (by omega) (by have:=xj b;omega) (fun t h=>by have:=Aw b t h;omega)
end K
end Go.Proofs.YtjecakcpcnmieaaGreatDoor
