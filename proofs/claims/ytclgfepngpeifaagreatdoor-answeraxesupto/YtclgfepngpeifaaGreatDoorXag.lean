import Derived.Test.YtclgfepngpeifaaGreatDoorXA
import Derived.Test.YtclgfepngpeifaaGreatDoorXaf
import Derived.Test.YtclgfepngpeifaaGreatDoorXad
set_option linter.unusedVariables false
set_option linter.unusedSimpArgs false
set_option maxHeartbeats 32000000
set_option maxRecDepth 100000
namespace Go.Proofs.YtclgfepngpeifaaGreatDoor
open Go.RowKit Go.Maps Go.Lib Go.Shelf Tryz
section
variable{w w' W W' w1 w2 w3 wr:World}{v nv lv pv:Value}{lo X n:Nat}{a0 a1 a2 a3 a5 v1:Value}{Av Bv:Nat->Prop}
structure Cd where
 ag:Bool
 op:ByteArray
 kids:List Int
 steps:List oh
 at_:ByteArray
 tx:ByteArray
def KR(Av:Nat->Prop)(w:World)(v:Value)(l:List Int):Prop:=(w.ownsRow 0 3 1 v l.length (g_ l)/\∀k,v.ownBlock=some k->¬Av k)/\l.length<=1000
def La(y:oh×Value):List Value:=[.bool y.1.1,.string y.1.2.1,y.2]
def SR(Av:Nat->Prop)(w:World)(v:Value)(l:List oh):Prop:=∃ys:List (oh×Value),ys.map (·.1)=l/\((w.ownsRow 0 137 3 v l.length (ys.flatMap La)/\∀k,v.ownBlock=some k->¬Av k)/\l.length<=1000)/\∀y∈ys,KR Av w y.2 y.1.2.2
def uA(x:Cd×Value×Value):List Value:=[.bool x.1.ag,.string x.1.op,x.2.1,x.2.2,.string x.1.at_,.string x.1.tx]
structure CS(Av:Nat->Prop)(X:Nat)(a0 a1 a2 a3 a5:Value)(w:World)(v:Value)(l:List Cd):Prop where
 blk:w.heap[X]?=some (.cells #[a0,a1,a2,a3,v,a5] 84 (0,0))
 ex:∃xs:List (Cd×Value×Value),xs.map (·.1)=l/\w.ownsRow 0 177 6 v l.length (xs.flatMap uA)/\∀x∈xs,KR Av w x.2.1 x.1.kids/\SR Av w x.2.2 x.1.steps
 few:l.length<=1000
def Hk(X:Nat)(v:Value)(k:Nat):Prop:=k=X\/v.ownBlock=some k
structure om(X:Nat)(v v':Value)(w w':World):Prop where
 fr:Fr (Hk X v) w w'
 own:v'.ownBlock=v.ownBlock\/∀k,v'.ownBlock=some k->w.heap.size<=k
theorem om.past(h:Z5 w w'):om X v v w w':=⟨⟨h.os,h.tape,h.output,h.size,fun k hk _=>h.block k hk⟩,Or.inl rfl⟩
theorem om.trans{v1 v2:Value}(h:om X v v1 w w1)(k:om X v1 v2 w1 w2):om X v v2 w w2:=by
 refine⟨⟨k.fr.os.trans h.fr.os,k.fr.tape.trans h.fr.tape,k.fr.output.trans h.fr.output,aw h.fr.size k.fr.size,fun j hj hn=>?_⟩,?_⟩
 ·refine(k.fr.block j (aq hj h.fr.size) fun e=>?_).trans (h.fr.block j hj hn);rcases e with e|e
  ·exact hn (Or.inl e)
  ·rcases h.own with o|o
   ·exact hn (Or.inr (o▸e))
   ·have:=o j e;omega
 ·rcases k.own with e|e
  ·rw[e];exact h.own
  ·exact Or.inr fun j hj=>aw h.fr.size (e j hj)
theorem CS.other{l:List Cd}(C:CS Av X a0 a1 a2 a3 a5 w v l){k:Nat}{c:Array Value}{t:TypeId}{fz:Nat×Nat}(hk:w.heap[k]?=some (.cells c t fz))(h1:t≠84)(h2:t≠177):¬Hk X v k:=by
 rintro(rfl|e)
 ·rw[C.blk]at hk;cases hk;exact h1 rfl
 ·obtain⟨xs,-,h,-⟩:=C.ex;obtain⟨-,cur,fz',h'⟩:=eY h e;rw[hk]at h';cases h';exact h2 rfl
theorem KR.fr{l:List Cd}{z:Value}{ns:List Int}(h:KR Bv w z ns)(C:CS Av X a0 a1 a2 a3 a5 w v l)(f:om X v v1 w w'):KR Bv w' z ns:=⟨⟨dW h.1.1 fun k e=>by
 obtain⟨-,cur,fz,hc⟩:=eY h.1.1 e;exact f.fr.block k (dQ hc) (C.other hc (by decide) (by decide)),h.1.2⟩,h.2⟩
theorem SR.fr{l:List Cd}{z:Value}{ss:List oh}(h:SR Bv w z ss)(C:CS Av X a0 a1 a2 a3 a5 w v l)(f:om X v v1 w w'):SR Bv w' z ss:=by
 obtain⟨ys,h1,⟨⟨h2,h5⟩,h3⟩,h4⟩:=h;refine⟨ys,h1,⟨⟨dW h2 fun k e=>?_,h5⟩,h3⟩,fun y hy=>(h4 y hy).fr C f⟩;obtain⟨-,cur,fz,hc⟩:=eY h2 e;exact f.fr.block k (dQ hc) (C.other hc (by decide) (by decide))
theorem CS.below{l:List Cd}(C:CS Av X a0 a1 a2 a3 a5 w v l)(h:Z5 w w'):CS Av X a0 a1 a2 a3 a5 w' v l:=by
 obtain⟨xs,h1,h2,h3⟩:=C.ex;have f:om X v v w w':=om.past h;exact⟨(h.block _ (dQ C.blk)).trans C.blk,⟨xs,h1,dW h2 fun k e=>h.block k (ej h2 e),fun x hx=>⟨(h3 x hx).1.fr C f,(h3 x hx).2.fr C f⟩⟩,C.few⟩
theorem CS.push{l:List Cd}(C:CS Av X a0 a1 a2 a3 a5 w v l){c:Cd}{kv sv v':Value}{xs:List (Cd×Value×Value)}(hx:xs.map (·.1)=l)(hxs:∀x∈xs,KR Av w x.2.1 x.1.kids/\SR Av w x.2.2 x.1.steps)(hk:KR Av w kv c.kids)(hs:SR Av w sv c.steps)(ho:w'.ownsRow 0 177 6 v' (l.length+1) (xs.flatMap uA++uA (c,kv,sv)))(hg:w.grownBy w' v.ownBlock)(hat:v'.ownBlock=v.ownBlock\/v'.ownBlock=some w.heap.size)(hf:l.length+1<=1000):
  CS Av X a0 a1 a2 a3 a5 (w'.setCell ⟨X,4,none⟩ v') v' (l++[c])/\om X v v' w (w'.setCell ⟨X,4,none⟩ v'):=by
 have hbX:w'.heap[X]?=some (.cells #[a0,a1,a2,a3,v,a5] 84 (0,0)):=(hg.block _ (dQ C.blk) fun e=>by
  obtain⟨ys,-,h,-⟩:=C.ex;obtain⟨-,cur,fz,h'⟩:=eY h e.symm;rw[C.blk]at h';cases h').trans C.blk
 have f1:om X v v' w w':=⟨⟨hg.os,hg.tape,hg.output,hg.size,fun k hk hn=>hg.block k hk fun e=>hn (Or.inr e.symm)⟩,hat.imp id fun e k h=>by rw[e]at h;cases h;exact au _⟩
 have set:∀{e:TypeId} {s m:Nat} {u:Value} {zs:List Value},e≠84->w'.ownsRow 0 e s u m zs->(w'.setCell ⟨X,4,none⟩ v').ownsRow 0 e s u m zs:=fun hne h=>dW h fun k e=>ak _ _ _ _ fun e'=>by
  obtain⟨-,cur,fz,h'⟩:=eY h e;have:k=X:=e';subst this;rw[hbX]at h';cases h';exact hne rfl
 have kr:∀{u:Value} {ns:List Int},KR Av w u ns->KR Av (w'.setCell ⟨X,4,none⟩ v') u ns:=fun h=>⟨⟨set (by decide) (h.fr C f1).1.1,h.1.2⟩,h.2⟩
 have sr:∀{u:Value} {ss:List oh},SR Av w u ss->SR Av (w'.setCell ⟨X,4,none⟩ v') u ss:=fun h=>by
  obtain⟨ys,h1,⟨⟨h2,h5⟩,h3⟩,h4⟩:=h.fr C f1;exact⟨ys,h1,⟨⟨set (by decide) h2,h5⟩,h3⟩,fun y hy=>⟨⟨set (by decide) (h4 y hy).1.1,(h4 y hy).1.2⟩,(h4 y hy).2⟩⟩
 have f2:om X v v' w (w'.setCell ⟨X,4,none⟩ v'):=⟨⟨f1.fr.os,f1.fr.tape,f1.fr.output,by simpa [World.setCell]using f1.fr.size,fun k hk hn=>(ak _ _ _ _ fun e=>hn (Or.inl e)).trans (f1.fr.block k hk hn)⟩,f1.own⟩
 refine⟨⟨by rw[eh (i:=4) hbX];rfl,⟨xs++[(c,kv,sv)],by rw[bE,hx];rfl,?_,fun x hx=>?_⟩,by rw[ax];exact hf⟩,f2⟩
 ·rw[ax,cQ];have:=set (by decide) ho;simpa using this
 ·rcases List.mem_append.1 hx with h|h
  ·exact⟨kr (hxs x h).1,sr (hxs x h).2⟩
  ·obtain rfl:x=(c,kv,sv):=by simpa using h
   exact⟨kr hk,sr hs⟩
theorem KR.less{z:Value}{ns:List Int}(h:KR Av w z ns)(hb:∀k,k<w.heap.size->Bv k->Av k):KR Bv w z ns:=⟨⟨h.1.1,fun k e hB=>h.1.2 k e (hb k (ej h.1.1 e) hB)⟩,h.2⟩
theorem SR.less{z:Value}{ss:List oh}(h:SR Av w z ss)(hb:∀k,k<w.heap.size->Bv k->Av k):SR Bv w z ss:=by
 obtain⟨ys,h1,⟨⟨h2,h5⟩,h3⟩,h4⟩:=h;exact⟨ys,h1,⟨⟨h2,fun k e hB=>h5 k e (hb k (ej h2 e) hB)⟩,h3⟩,fun y hy=>(h4 y hy).less hb⟩
theorem CS.less{l:List Cd}(C:CS Av X a0 a1 a2 a3 a5 w v l)(hb:∀k,k<w.heap.size->Bv k->Av k):CS Bv X a0 a1 a2 a3 a5 w v l:=by
 obtain⟨xs,h1,h2,h3⟩:=C.ex;exact⟨C.blk,⟨xs,h1,h2,fun x hx=>⟨(h3 x hx).1.less hb,(h3 x hx).2.less hb⟩⟩,C.few⟩
theorem KR.grown{z:Value}{ns:List Int}{b:Option Nat}(h:KR Av w z ns)(hg:w.grownBy w' b)(hb:∀k,b=some k->Av k):KR Av w' z ns:=⟨⟨dW h.1.1 fun k e=>hg.block k (ej h.1.1 e) fun e'=>h.1.2 k e (hb k e'.symm),h.1.2⟩,h.2⟩
theorem CS.grown{l:List Cd}{b:Option Nat}(C:CS Av X a0 a1 a2 a3 a5 w v l)(hg:w.grownBy w' b)(hb:∀k,b=some k->Av k/\¬Hk X v k):CS Av X a0 a1 a2 a3 a5 w' v l:=by
 obtain⟨xs,h1,h2,h3⟩:=C.ex;have hA:=fun k e=>(hb k e).1;refine⟨(hg.block _ (dQ C.blk) fun e=>(hb _ e.symm).2 (Or.inl rfl)).trans C.blk,⟨xs,h1,dW h2 fun k e=>hg.block k (ej h2 e) fun e'=>(hb k e'.symm).2 (Or.inr e),fun x hx=>⟨(h3 x hx).1.grown hg hA,?_⟩⟩,C.few⟩;obtain⟨ys,k1,⟨⟨k2,k5⟩,k3⟩,k4⟩:=(h3 x hx).2;exact⟨ys,k1,⟨⟨dW k2 fun k e=>hg.block k (ej k2 e) fun e'=>k5 k e (hA k e'.symm),k5⟩,k3⟩,fun y hy=>(k4 y hy).grown hg hA⟩
def Lb:gh->List oh
 | .nil=>[]
 | .cons d t _ m=>(d,bs t,[])::Lb m
def iO(n:Nat)(ag:Bool):gR->List Int×List Cd
 | .nil=>([],[])
 | .cons op ks ss a t m=>((((n+(iO n false ks).2.length:Nat)):Int)::(iO (n+(iO n false ks).2.length+1) ag m).1,(iO n false ks).2++⟨ag,bs op,(iO n false ks).1,Lb ss,bs a,bs t⟩::(iO (n+(iO n false ks).2.length+1) ag m).2)
end
section
variable{w w' W W' w1 w2 w3 wr:World}{v nv lv pv sv:Value}{lo X n:Nat}{a0 a1 a2 a3 a5 v1:Value}{l:List Cd}{inner:Bool}{Av:Nat->Prop}
def Lc(lo X:Nat)(w:World)(v:Value):Prop:=lo<=X/\lo<=w.heap.size/\∀k,v.ownBlock=some k->lo<=k
theorem Lc.up(h:Lc lo X w v)(f:om X v v1 w w'):Lc lo X w' v1:=⟨h.1,aw h.2.1 f.fr.size,fun k e=>by
 rcases f.own with o|o
 ·exact h.2.2 k (o▸e)
 ·exact aw h.2.1 (o k e)⟩
theorem om.move(f:om X v v1 w w')(h:Lc lo X w v):Move (fun b=>b<lo) (fun b=>b<lo) w w':=fun b hb hl=>⟨hb,f.fr.block b hl fun e=>by
 rcases e with e|e
 ·have:=h.1;omega
 ·have:=h.2.2 b e;omega⟩
def Vt(Av:Nat->Prop)(X:Nat)(a0 a1 a2 a3 a5:Value)(w:World)(v:Value)(l:List Cd)(r:List Int×List Cd)(e:Ending)(w':World):Prop:=∃v' ra rn rc,e=.returned (.slice ra rn rc)/\KR Av w' (.slice ra rn rc) r.1/\CS Av X a0 a1 a2 a3 a5 w' v' (l++r.2)/\om X v v' w w'
def CK(lo X:Nat)(a0 a1 a2 a3 a5:Value)(inner:Bool)(ps:gR):Prop:=∀(Av:Nat->Prop) (w:World) (v:Value) (l:List Cd) (pv:Value),CS Av X a0 a1 a2 a3 a5 w v l->(∀b,Av b->b<w.heap.size)->Lc lo X w v->pV w (fun b=>b<lo) 144 146 pv ps->l.length+(iO l.length inner ps).2.length<=1000->Z4 55 #[.pointer (some ⟨X,4,none⟩),pv,.bool inner] w (Vt Av X a0 a1 a2 a3 a5 w v l (iO l.length inner ps))
def jS(n:Nat)(inner:Bool):gh->List oh×List Cd
 | .nil=>([],[])
 | .cons d t ps m=>((d,bs t,(iO n inner ps).1)::(jS (n+(iO n inner ps).2.length) inner m).1,(iO n inner ps).2++(jS (n+(iO n inner ps).2.length) inner m).2)
def Vu(Av:Nat->Prop)(X:Nat)(a0 a1 a2 a3 a5:Value)(w:World)(v:Value)(l:List Cd)(r:List oh×List Cd)(e:Ending)(w':World):Prop:=∃v' ra rn rc,e=.returned (.slice ra rn rc)/\SR Av w' (.slice ra rn rc) r.1/\CS Av X a0 a1 a2 a3 a5 w' v' (l++r.2)/\om X v v' w w'
def Ac(q:gR->Prop):gh->Prop
 | .nil=>True
 | .cons _ _ ps m=>q ps/\Ac q m
structure CL(Av:Nat->Prop)(lo X:Nat)(a0 a1 a2 a3 a5:Value)(inner:Bool)(q:gR->Prop)(g:Nat)(R:List oh×List Cd)(w:World)(v:Value)(len i:Nat)(av:Value)(wr:World):Prop where
 ex:∃v' l' rest,∃ys:List (oh×Value),CS (fun k=>Av k\/av.ownBlock=some k) X a0 a1 a2 a3 a5 wr v' l'/\om X v v' w wr/\Lc lo X wr v'/\ow wr (fun b=>b<lo) 144 146 g i rest/\Ac q rest/\(i+rest.len=len/\ys.length=i)/\((wr.ownsRow 0 137 3 av i (ys.flatMap La)/\∀k,av.ownBlock=some k->w.heap.size<=k)/\∀y∈ys,KR Av wr y.2 y.1.2.2)/\(ys.map (·.1)++(jS l'.length inner rest).1=R.1/\l'++(jS l'.length inner rest).2=R.2)
theorem CL.round{q:gR->Prop}{g:Nat}{R:List oh×List Cd}{len i:Nat}{av:Value}(h:CL Av lo X a0 a1 a2 a3 a5 inner q g R w v len i av wr)(Nz:∀b,Av b->b<w.heap.size)(hg:g<lo)(hq:∀ps,q ps->CK lo X a0 a1 a2 a3 a5 inner ps/\(inner=true->ps=.nil))(hi:i<len)(L0:Lc lo X w v)(hR:R.2.length<=1000):
  ∃d t pi pn pc an ac,av=.slice an i ac/\(wr.cell? ⟨g,i*3,none⟩=some (.bool d)/\wr.cell? ⟨g,i*3+1,none⟩=some (.string t)/\wr.cell? ⟨g,i*3+2,none⟩=some (.slice pi pn pc))/\(inner=true->pn=0)/\pn<=1000/\
   ∀m,Hid (Z4 55 #[.pointer (some ⟨X,4,none⟩),.slice pi pn pc,.bool inner] ((wr.alloc (.cells #[.bool d,.string t,.slice pi pn pc] 144)).drewN m) fun e w1=>∃ra rn rc xs,e=.returned (.slice ra rn rc)/\(w1.cell? ⟨wr.heap.size,0,none⟩=some (.bool d)/\w1.cell? ⟨wr.heap.size,1,none⟩=some (.string t))/\
    Hid ((w1.alloc (.cells #[.bool d,.string t,.slice ra rn rc] 137)).ownsRow 0 137 3 av i xs/\∀v' w2,w2.ownsRow 0 137 3 v' (i+1) (xs++[.bool d,.string t,.slice ra rn rc])->(w1.alloc (.cells #[.bool d,.string t,.slice ra rn rc] 137)).grownBy w2 av.ownBlock->(v'.ownBlock=av.ownBlock\/v'.ownBlock=some (w1.alloc (.cells #[.bool d,.string t,.slice ra rn rc] 137)).heap.size)->(w2.cell? ⟨wr.heap.size,0,none⟩=some (.bool d)/\w2.cell? ⟨wr.heap.size,1,none⟩=some (.string t))/\Hid (CL Av lo X a0 a1 a2 a3 a5 inner q g R w v len (i+1) v' w2))):=by
 obtain⟨v',l',rest,ys,C,f,L,hr,ha,⟨rZ,pX⟩,⟨⟨ho,mO⟩,hk⟩,r1,r2⟩:=h.ex;cases rest with
 |nil=>simp[gh.len]at rZ;omega
 |cons d t ps m=>
  simp only[ow]at hr;obtain⟨c0,c1,⟨u,c2,hu⟩,hm⟩:=hr;obtain⟨pi,pc,rfl⟩:=hu.shape;obtain⟨an,n',ac,rfl⟩:=fT ho;obtain⟨hN,hnil⟩:=hq ps ha.1;have JR:ps.len<=1000:=by
   rcases hu with⟨e,-⟩|⟨g,cap,cur,-,-,-,h,-⟩
   ·omega
   ·exact h
  have hsz:l'.length+(iO l'.length inner ps).2.length<=1000:=by
   have:=aL List.length r2;simp only[jS,ax]at this;omega
  have nB:n'=i:=by
   rcases ho.2 with⟨e,e'⟩|⟨g,cap,cur,e,-⟩<;>cases e
   ·exact e'.symm
   ·rfl
  subst nB;refine⟨d,bs t,pi,ps.len,pc,an,ac,rfl,⟨c0,c1,c2⟩,fun e=>by rw[hnil e];rfl,JR,fun mm=>a_ ?_⟩;have tX:Z5 wr ((wr.alloc (.cells #[.bool d,.string (bs t),.slice pi ps.len pc] 144)).drewN mm):=below_drewN ((Below.refl _ wr).alloc (au _) _) mm;have bx:((wr.alloc (.cells #[.bool d,.string (bs t),.slice pi ps.len pc] 144)).drewN mm).heap[wr.heap.size]?=some (.cells #[.bool d,.string (bs t),.slice pi ps.len pc] 144 (0,0)):=dR wr _;have fa:om X v' v' wr _:=om.past tX;have Ca:=C.below tX;have hAa:∀b,(Av b\/(Value.slice an n' ac).ownBlock=some b)->b<wr.heap.size:=fun b hb=>hb.elim (fun h=>aq (Nz b h) f.fr.size) (fun h=>ej ho h);refine(hN _ _ v' l' _ Ca (fun b hb=>aq (hAa b hb) tX.size) (L.up fa) (sl.move (fa.move L) hu fun g' ha hl hr=>lf.move (fa.move L) ps g' 0 ((fa.move L) g' ha hl).2 hr) hsz).mono ?_;rintro e w1 ⟨v2,ra,rn,rc,rfl,k1,C1,f1⟩;have ft:=fa.trans f1;have b1:w1.heap[wr.heap.size]?=some (.cells #[.bool d,.string (bs t),.slice pi ps.len pc] 144 (0,0)):=(f1.fr.block _ (dQ bx) (Ca.other bx (by decide) (by decide))).trans bx;have Es:=(Below.refl w1.heap.size w1).alloc (au _) (.cells #[.bool d,.string (bs t),.slice ra rn rc] 137);have fn:om X v2 v2 w1 _:=om.past Es;have C2:=C1.below Es;have Rq:∀k,(Value.slice an n' ac).ownBlock=some k->∃cur fz,(w1.alloc (.cells #[.bool d,.string (bs t),.slice ra rn rc] 137)).heap[k]?=some (.cells cur 137 fz)/\(w1.alloc (.cells #[.bool d,.string (bs t),.slice ra rn rc] 137)).heap[k]?=wr.heap[k]?:=fun k e=>by
   obtain⟨-,cur,fz,hc⟩:=eY ho e;have:=(ft.trans fn).fr.block k (dQ hc) (C.other hc (by decide) (by decide));exact⟨cur,fz,this.trans hc,this⟩
  refine⟨ra,rn,rc,ys.flatMap La,rfl,⟨cell_of b1 rfl,cell_of b1 rfl⟩,a_ ⟨dW ho fun k e=>(Rq k e).choose_spec.choose_spec.2,fun v3 w2 ho3 hg2 hat=>⟨?_,a_ ⟨v2,l'++(iO l'.length inner ps).2,m,ys++[((d,bs t,(iO l'.length inner ps).1),.slice ra rn rc)],?_⟩⟩⟩⟩
  ·have b2:w2.heap[wr.heap.size]?=some (.cells #[.bool d,.string (bs t),.slice pi ps.len pc] 144 (0,0)):=(hg2.block _ (dQ ((Es.block _ (dQ b1)).trans b1)) fun e=>by
    obtain⟨cur,fz,hc,-⟩:=Rq _ e.symm;rw[(Es.block _ (dQ b1)).trans b1]at hc;cases hc).trans ((Es.block _ (dQ b1)).trans b1)
   exact⟨cell_of b2 rfl,cell_of b2 rfl⟩
  have YP:∀k,(Value.slice an n' ac).ownBlock=some k->(Av k\/(Value.slice an n' ac).ownBlock=some k)/\¬Hk X v2 k:=fun k e=>⟨Or.inr e,by
   obtain⟨cur,fz,hc,-⟩:=Rq k e;exact C2.other hc (by decide) (by decide)⟩
  have f2:om X v v2 w w2:=by
   have f3:=(f.trans ft).trans fn;exact⟨⟨hg2.os.trans f3.fr.os,hg2.tape.trans f3.fr.tape,hg2.output.trans f3.fr.output,aw f3.fr.size hg2.size,fun k hk hn=>(hg2.block k (aq hk f3.fr.size) fun e=>by have:=mO k e.symm;omega).trans (f3.fr.block k hk hn)⟩,f3.own⟩
  have L2:Lc lo X w2 v2:=by
   have L3:=(L.up ft).up fn;exact⟨L3.1,aw L3.2.1 hg2.size,L3.2.2⟩
  have w12:wr.heap.size<=w1.heap.size:=ft.fr.size;have C3:=(C2.less (Bv:=fun k=>(Av k\/(Value.slice an n' ac).ownBlock=some k)\/v3.ownBlock=some k) fun k hk hB=>hB.elim id fun e=>by
   rcases hat with x|x
   ·exact Or.inr (x▸e)
   ·rw[x]at e;cases e;omega).grown hg2 fun k e=>⟨Or.inl (YP k e).1,(YP k e).2⟩
  have hM:Move (fun b=>b<lo) (fun b=>b<lo) wr w2:=fun b hb hl=>by
   obtain⟨h1,h2⟩:=((ft.trans fn).move L) b hb hl;refine⟨hb,(hg2.block b (aq hl (ft.trans fn).fr.size) fun e=>?_).trans h2⟩;have:=mO b e.symm;have:=L0.2.1;omega
  have typed:∀{z:Value} {ns:List Int},KR Av (w1.alloc (.cells #[.bool d,.string (bs t),.slice ra rn rc] 137)) z ns->KR Av w2 z ns:=fun h=>⟨⟨dW h.1.1 fun k e=>hg2.block k (ej h.1.1 e) fun e'=>(by
   obtain⟨-,c',z',h'⟩:=eY h.1.1 e;obtain⟨cur,fz,hc,-⟩:=Rq k e'.symm;rw[hc]at h';cases h'),h.1.2⟩,h.2⟩
  refine⟨C3.less fun k hk hB=>hB.elim (fun h=>Or.inl (Or.inl h)) Or.inr,f2,L2,ow.move hM m g _ (hM g hg (aD _ _ c0)).2 hm,ha.2,⟨by simp only[gh.len]at rZ;omega,by simp[pX]⟩,⟨⟨?_,fun k e=>?_⟩,fun y hy=>?_⟩,?_,?_⟩
  ·rw[cQ];simpa [La]using ho3
  ·rcases hat with x|x
   ·exact mO k (x▸e)
   ·rw[x]at e;cases e;have:=f.fr.size;simp;omega
  ·rcases List.mem_append.1 hy with h|h
   ·exact typed ((hk y h).fr C (ft.trans fn))
   ·obtain rfl:=List.mem_singleton.1 h;exact typed ((k1.less fun k _ h=>Or.inl h).fr C1 fn)
  ·simpa [jS]using r1
  ·simpa [jS]using r2
theorem yu(inner:Bool):∀(s:gh) (n:Nat),(jS n inner s).1.length=s.len
 | .nil,_=>rfl
 | .cons d t ps m,n=>by simp only[jS,aC,gh.len,yu inner m]
theorem SA:(prog.info? 137).map (fun i=>(i.zero,i.size,i.bytes))=some (some (.agg #[.bool false,.string ⟨#[]⟩,.slice none 0 0]),3,48):=by kernel_rfl
theorem EG{q:gR->Prop}{s:gh}(C:CS Av X a0 a1 a2 a3 a5 w v l)(Nz:∀b,Av b->b<w.heap.size)(L:Lc lo X w v)(hs:qd w (fun b=>b<lo) 144 146 sv s)(ha:Ac q s)(hq:∀ps,q ps->CK lo X a0 a1 a2 a3 a5 inner ps/\(inner=true->ps=.nil))(hsz:l.length+(jS l.length inner s).2.length<=1000):
  Z4 29 #[.pointer (some ⟨X,4,none⟩),sv,.bool inner] w (Vu Av X a0 a1 a2 a3 a5 w v l (jS l.length inner s)):=by
 obtain⟨i0,hi,hz0,hz1,hz2⟩:=aY SA;obtain⟨R,hR⟩:∃R,(jS l.length inner s).1=R:=⟨_,rfl⟩
 obtain⟨si,sc,rfl⟩:=hs.shape;have uj:s.len<=1000:=by
  rcases hs with⟨e,-⟩|⟨g,cap,cur,-,-,-,h,-⟩
  ·omega
  ·exact h
 have HF:Hid (∀g av wr,CL Av lo X a0 a1 a2 a3 a5 inner q g ((jS l.length inner s).1,l++(jS l.length inner s).2) w v s.len s.len av wr->∃an ac,av=.slice an s.len ac/\Vu Av X a0 a1 a2 a3 a5 w v l (jS l.length inner s) (.returned (.slice an s.len ac)) wr):=a_ fun g av wr h=>by
  obtain⟨v',l',rest,ys,C,f,L,hr,ha,⟨rZ,pX⟩,⟨⟨ho,mO⟩,hk⟩,r1,r2⟩:=h.ex;have:rest=.nil:=by
   cases rest with
   |nil=>rfl
   |cons d t ps m=>simp[gh.len]at rZ
  subst this;simp only[jS,aP]at r1 r2;obtain⟨an,n',ac,rfl⟩:=fT ho;have nB:n'=s.len:=by
   rcases ho.2 with⟨e,e'⟩|⟨g,cap,cur,e,-⟩<;>cases e
   ·exact e'.symm
   ·rfl
  subst nB;refine⟨an,ac,rfl,v',an,_,ac,rfl,⟨ys,r1,⟨⟨by rw[yu];exact ho,fun k e hA=>?_⟩,by rw[yu];exact uj⟩,hk⟩,?_,f⟩
  ·have:=mO k e;have:=Nz k hA;omega
  ·rw[r2]at C;exact C.less fun k _ h=>Or.inl h
 obtain⟨g,zV,M0⟩:∃g,(0<s.len->si=some ⟨g,0,none⟩/\g<lo)/\Hid (CL Av lo X a0 a1 a2 a3 a5 inner q g ((jS l.length inner s).1,l++(jS l.length inner s).2) w v s.len 0 (.slice none 0 0) w):=by
  have mk:∀g,ow w (fun b=>b<lo) 144 146 g 0 s->CL Av lo X a0 a1 a2 a3 a5 inner q g ((jS l.length inner s).1,l++(jS l.length inner s).2) w v s.len 0 (.slice none 0 0) w:=fun g hr=>
   ⟨v,l,s,[],C.less fun k _ h=>h.elim id fun e=>(by cases e),om.past (Below.refl _ _),L,hr,ha,⟨by omega,rfl⟩,⟨⟨bA _ _ _ _,fun k e=>by cases e⟩,fun y hy=>by cases hy⟩,rfl,rfl⟩
  rcases hs with⟨e,-⟩|⟨g,cap,cur,e,hA,-,-,-,hr⟩
  ·cases s with
   |nil=>exact⟨0,fun h=>by simp[gh.len]at h,a_ (mk 0 (by simp only[ow]))⟩
   |cons d t ps m=>simp[gh.len]at e
  ·cases e;exact⟨g,fun _=>⟨rfl,hA⟩,a_ (mk g hr)⟩
 have HR:Hid (∀i av wr,i<s.len->CL Av lo X a0 a1 a2 a3 a5 inner q g ((jS l.length inner s).1,l++(jS l.length inner s).2) w v s.len i av wr->_):=a_ fun i av wr hi M=>M.round Nz (zV (by omega)).2 hq hi L (by simpa using hsz);have HF:=a_ (fun av wr=>HF.out g av wr);have zV:Hid (0<s.len->si=some ⟨g,0,none⟩):=a_ fun h=>(zV h).1;have XB:Hid (∀i av wr,CL Av lo X a0 a1 a2 a3 a5 inner q g ((jS l.length inner s).1,l++(jS l.length inner s).2) w v s.len i av wr->∃a n c,av=.slice a n c):=a_ fun i av wr h=>by
  obtain⟨v',l',rest,ys,C,f,L,hr,ha,hn,⟨⟨ho,-⟩,-⟩,-⟩:=h.ex;exact fT ho
 generalize Vu Av X a0 a1 a2 a3 a5 w v l (jS l.length inner s)=PP at*
 generalize CL Av lo X a0 a1 a2 a3 a5 inner q g ((jS l.length inner s).1,l++(jS l.length inner s).2) w v s.len=MM at*
 generalize s.len=len at*
 clear C Nz L hs ha hq hsz;go_enter func29,ntmps29;go_wp2_with fail;go_loopw [7,13] (fun av iv wr=>∃i:Nat,iv=.int .i64 i/\i<=len/\MM i av wr) (fun _ iv _=>len-(RowKit.intOf iv).toNat)
 case atStart=>exact⟨0,rfl,aB _,M0.out⟩
 case round=>
  rename World=>WO
  obtain⟨i,rfl,GJ,hM⟩:=hrel;clear M0;by_cases hlt:i<len
  ·obtain⟨d,t,pi,pn,pc,an,ac,rfl,⟨c0,c1,c2⟩,nB,hpn,HC⟩:=HR.out _ _ _ hlt hM;obtain rfl:=zV.out (by omega);have Nw:(i:Int)<len:=by omega
   clear HR HF XB hM zV;have bx:=dR WO (.cells #[.bool d,.string t,.slice pi pn pc] 144);have K0:∀m,((WO.alloc (.cells #[.bool d,.string t,.slice pi pn pc] 144)).drewN m).cell? ⟨WO.heap.size,0,none⟩=some (.bool d)/\((WO.alloc (.cells #[.bool d,.string t,.slice pi pn pc] 144)).drewN m).cell? ⟨WO.heap.size,1,none⟩=some (.string t):=fun m=>⟨cell_of bx rfl,cell_of bx rfl⟩
   have K1:(WO.alloc (.cells #[.bool d,.string t,.slice pi pn pc] 144)).drew.cell? ⟨WO.heap.size,0,none⟩=some (.bool d)/\(WO.alloc (.cells #[.bool d,.string t,.slice pi pn pc] 144)).drew.cell? ⟨WO.heap.size,1,none⟩=some (.string t):=K0 1;have K2:(WO.alloc (.cells #[.bool d,.string t,.slice pi pn pc] 144)).cell? ⟨WO.heap.size,0,none⟩=some (.bool d)/\(WO.alloc (.cells #[.bool d,.string t,.slice pi pn pc] 144)).cell? ⟨WO.heap.size,1,none⟩=some (.string t):=K0 0;clear bx;obtain rfl|⟨rfl,rfl⟩:inner=false\/(inner=true/\pn=0):=by
    cases inner
    ·exact Or.inl rfl
    ·exact Or.inr ⟨rfl,nB rfl⟩
   all_goals
    go_wp2_with fail;go_region_held3 (fun W=>W.cell? ⟨WO.heap.size,0,none⟩=some (.bool d)/\W.cell? ⟨WO.heap.size,1,none⟩=some (.string t))
     (first|exact d7|exact⟨dV _ d3.1,dV _ d3.2⟩|exact d3|exact K1|exact K2|exact K0 _)
     (first
      |(go_at_call 55;(first|refine(HC 1).out.mono ?_|refine(HC 0).out.mono ?_|refine(HC _).out.mono ?_);rintro e w1 ⟨ra,rn,rc,xs,rfl,d3,H6⟩)
      |(refine eL rfl (.tmp 28) (.tmp 38) 90 rfl 137 i0 _ 3 48 underlying90 hi hz0 hz1 hz2 rfl (by decide) (.slice an i ac) i xs (by simp[Act.eval,Act.put]) H6.out.1 ⟨w1.heap.size,0,none⟩ 1 1 [.bool d,.string t,.slice ra rn rc] (by simp[Act.eval,Act.put]) rfl (kK _ _ _) (vL _ _ _ _ _) (by unfold maxLen;omega) (by omega) ?_;intro v' w2 ho hg hat;obtain⟨d7,h7⟩:=H6.out.2 v' w2 ho hg hat;obtain⟨a7,n7,c7,rfl⟩:=fT ho;clear ho hg hat H6))
    all_goals
     clear d3 d7 K0 K1 K2 HC;go_wp2;exact⟨⟨i+1,by simp,by omega,h7.out⟩,by simp only[RowKit.intOf];omega⟩
  ·obtain rfl:i=len:=by omega
   obtain⟨an,ac,rfl,hP⟩:=HF.out _ _ hM;have HP:=a_ hP;clear HR HF XB hM zV hP;go_wp2;first|exact HP.out|(go_ret;exact HP.out)
end
section
variable{w w' W W' w1 w2 w3 wr wq:World}{v nv lv pv sv av kv v1 v2:Value}{lo X n i g len:Nat}{a0 a1 a2 a3 a5:Value}{l l1:List Cd}{ag:Bool}{Av:Nat->Prop}{q:gR->Prop}{R:List Int×List Cd}
def JY:Nat->gR->Prop
 |_,.nil=>True
 |0,.cons .. =>False
 |d+1,.cons _ ks ss _ _ m=>JY d ks/\Ac (· =.nil) ss/\JY (d+1) m
theorem A0:∀(s:gh) (n:Nat),Ac (· =.nil) s->jS n true s=(Lb s,[])
 | .nil,_,_=>rfl
 | .cons d t ps m,n,h=>by
  obtain⟨rfl,h⟩:=h;simp[jS,Lb,iO,A0 m _ h]
structure EH(Av:Nat->Prop)(lo X:Nat)(a0 a1 a2 a3 a5:Value)(ag:Bool)(d g:Nat)(R:List Int×List Cd)(w:World)(v:Value)(len i:Nat)(av:Value)(wr:World):Prop where
 ex:∃v' l' rest,∃ns:List Int,CS (fun k=>Av k\/av.ownBlock=some k) X a0 a1 a2 a3 a5 wr v' l'/\om X v v' w wr/\Lc lo X wr v'/\lf wr (fun b=>b<lo) 144 146 g i rest/\JY d rest/\(i+rest.len=len/\ns.length=i)/\(wr.ownsRow 0 3 1 av i (g_ ns)/\∀k,av.ownBlock=some k->w.heap.size<=k)/\(ns++(iO l'.length ag rest).1=R.1/\l'++(iO l'.length ag rest).2=R.2)
structure vT(Av:Nat->Prop)(lo X:Nat)(a0 a1 a2 a3 a5:Value)(ag:Bool)(d g:Nat)(R:List Int×List Cd)(w:World)(v:Value)(len i:Nat)(av:Value)(l1:List Cd)(c:Cd)(kv sv v':Value)(wr:World):Prop where
 ex:∃rest,∃ns:List Int,(CS (fun k=>Av k\/av.ownBlock=some k) X a0 a1 a2 a3 a5 wr v' l1/\KR (fun k=>Av k\/av.ownBlock=some k) wr kv c.kids/\SR (fun k=>Av k\/av.ownBlock=some k) wr sv c.steps)/\om X v v' w wr/\Lc lo X wr v'/\lf wr (fun b=>b<lo) 144 146 g (i+1) rest/\JY d rest/\(i+1+rest.len=len/\ns.length=i)/\(wr.ownsRow 0 3 1 av i (g_ ns)/\∀k,av.ownBlock=some k->w.heap.size<=k)/\(ns++(l1.length:Int)::(iO (l1.length+1) ag rest).1=R.1/\l1++c::(iO (l1.length+1) ag rest).2=R.2)
theorem vT.below{d:Nat}{c:Cd}(h:vT Av lo X a0 a1 a2 a3 a5 ag d g R w v len i av l1 c kv sv v1 wr)(hg:g<lo/\g<wr.heap.size)(hb:Z5 wr w'):vT Av lo X a0 a1 a2 a3 a5 ag d g R w v len i av l1 c kv sv v1 w':=by
 obtain⟨rest,ns,⟨C,k1,s1⟩,f,L,hr,ha,hn,⟨ho,mO⟩,r⟩:=h.ex;have f1:om X v1 v1 wr w':=om.past hb;exact⟨rest,ns,⟨C.below hb,k1.fr C f1,s1.fr C f1⟩,f.trans f1,L.up f1,lf.move (f1.move L) rest g _ (hb.block g hg.2) hr,ha,hn,⟨dW ho fun k e=>hb.block k (ej ho e),mO⟩,r⟩
theorem EH.round{d:Nat}(h:EH Av lo X a0 a1 a2 a3 a5 ag (d+1) g R w v len i av wr)(Nz:∀b,Av b->b<w.heap.size)(hg:g<lo)(hq:∀ps,JY d ps->CK lo X a0 a1 a2 a3 a5 false ps)(hq0:CK lo X a0 a1 a2 a3 a5 true .nil)(hi:i<len)(L0:Lc lo X w v)(hR:R.2.length<=1000):
  ∃op ki kn kc si sn sc a t an ac,av=.slice an i ac/\(wr.cell? ⟨g,i*5,none⟩=some (.string op)/\wr.cell? ⟨g,i*5+1,none⟩=some (.slice ki kn kc)/\wr.cell? ⟨g,i*5+2,none⟩=some (.slice si sn sc)/\wr.cell? ⟨g,i*5+3,none⟩=some (.string a)/\wr.cell? ⟨g,i*5+4,none⟩=some (.string t))/\∃l1:List Cd,∃ks:List Int,∃ss:List oh,(l1.length<1000/\w.heap.size<=wr.heap.size)/\
   Hid (∀wz,Below (wr.alloc (.cells #[.string op,.slice ki kn kc,.slice si sn sc,.string a,.string t] 146)).heap.size (wr.alloc (.cells #[.string op,.slice ki kn kc,.slice si sn sc,.string a,.string t] 146)) wz->Z4 55 #[.pointer (some ⟨X,4,none⟩),.slice ki kn kc,.bool false] wz fun e w1=>∃ra rn rc,e=.returned (.slice ra rn rc)/\(∀k o,wr.heap.size<=k->wz.heap[k]?=some o->w1.heap[k]?=some o)/\
    Hid (∀wy,Z5 w1 wy->Z4 29 #[.pointer (some ⟨X,4,none⟩),.slice si sn sc,.bool true] wy fun e w2=>∃sa sn' XE v3,e=.returned (.slice sa sn' XE)/\(∀k o,wr.heap.size<=k->(k<wz.heap.size\/w1.heap.size<=k)->wy.heap[k]?=some o->w2.heap[k]?=some o/\v3.ownBlock≠some k)/\g<w2.heap.size/\Hid (vT Av lo X a0 a1 a2 a3 a5 ag (d+1) g R w v len i av l1 ⟨ag,op,ks,ss,a,t⟩ (.slice ra rn rc) (.slice sa sn' XE) v3 w2))):=by
 obtain⟨v',l',rest,ns,C,f,L,hr,ha,⟨rZ,pX⟩,⟨ho,mO⟩,r1,r2⟩:=h.ex;cases rest with
 |nil=>simp[gR.len]at rZ;omega
 |cons op ks ss a t m=>
  simp only[lf]at hr;obtain⟨c0,⟨u,c1,hu⟩,⟨y,c2,hy⟩,c3,c4,hm⟩:=hr;obtain⟨ki,kc,rfl⟩:=hu.shape;obtain⟨si,sc,rfl⟩:=hy.shape;obtain⟨an,n',ac,rfl⟩:=fT ho;have nB:n'=i:=by
   rcases ho.2 with⟨e,e'⟩|⟨g,cap,cur,e,-⟩<;>cases e
   ·exact e'.symm
   ·rfl
  subst nB;obtain⟨hk,hf,zT⟩:=ha;have hlen:=aL List.length r2;simp only[iO,ax,aC]at hlen;have sw:=aD _ _ c0;refine⟨bs op,ki,ks.len,kc,si,ss.len,sc,bs a,bs t,an,ac,rfl,⟨c0,c1,c2,c3,c4⟩,l'++(iO l'.length false ks).2,(iO l'.length false ks).1,Lb ss,⟨by rw[ax];omega,f.fr.size⟩,a_ fun wz hz=>?_⟩;have hz1:Z5 wr wz:=((Below.refl _ wr).alloc (au _) _).trans (eG hz (by simp));have fa:om X v' v' wr wz:=om.past hz1;have Ca:=C.below hz1;have hAa:∀b,(Av b\/(Value.slice an n' ac).ownBlock=some b)->b<wr.heap.size:=fun b hb=>hb.elim (fun h=>aq (Nz b h) f.fr.size) (fun h=>ej ho h);have Mz:=fa.move L;have hox:∀k,Hk X v' k->k<wr.heap.size:=fun k e=>by
   rcases e with rfl|e
   ·exact dQ C.blk
   ·obtain⟨xs,-,h,-⟩:=C.ex;exact ej h e
  refine(hq ks hk _ wz v' l' _ Ca (fun b hb=>aq (hAa b hb) hz1.size) (L.up fa) (sl.move Mz hu fun g' ha hl hr=>lf.move Mz ks g' 0 (Mz g' ha hl).2 hr) (by omega)).mono ?_;rintro e w1 ⟨v2,ra,rn,rc,rfl,k1,C1,f1⟩;refine⟨ra,rn,rc,rfl,fun k o h1 ha=>(f1.fr.block k (dQ ha) fun e=>by have:=hox k e;omega).trans ha,a_ fun wy ED=>?_⟩;have ft:=(fa.trans f1).trans (om.past ED:om X v2 v2 w1 wy);have My:=ft.move L;have Cy:=C1.below ED;have rz:jS (l'++(iO l'.length false ks).2).length true ss=(Lb ss,[]):=A0 ss _ hf;refine(EG (inner:=true) (lo:=lo) Cy (fun b hb=>aq (hAa b hb) ft.fr.size) (L.up ft) (sl.move My hy fun g' ha hl hr=>ow.move My ss g' 0 (My g' ha hl).2 hr) hf (fun ps e=>by subst e;exact⟨hq0,fun _=>rfl⟩) (by rw[rz];simp;omega)).mono ?_;rw[rz];rintro e w2 ⟨v3,sa,sn',XE,rfl,s1,C2,f2⟩;rw[aP]at C2;have fu:=ft.trans f2;refine⟨sa,sn',XE,v3,rfl,?_,aq sw fu.fr.size,a_ ⟨m,ns,⟨C2,(k1.fr C1 (om.past ED:om X v2 v2 w1 wy)).fr Cy f2,s1⟩,f.trans fu,L.up fu,lf.move (fu.move L) m g _ (fu.move L g hg sw).2 hm,zT,⟨by simp only[gR.len]at rZ;omega,pX⟩,⟨dW ho fun k e=>?_,mO⟩,?_,?_⟩⟩
  ·intro k o h1 h2 ha;have hno:¬Hk X v2 k:=fun e=>by
    rcases e with rfl|e
    ·have:=dQ C.blk;omega
    ·rcases f1.own with o|o
     ·have:=hox k (Or.inr (o▸e));omega
     ·have:=o k e;obtain⟨xs,-,h,-⟩:=C1.ex;have:=ej h e;omega
   refine⟨(f2.fr.block k (dQ ha) hno).trans ha,fun e=>?_⟩;rcases f2.own with o|o
   ·exact hno (Or.inr (o▸e))
   ·have:=o k e;have:=dQ ha;omega
  ·obtain⟨-,cur,fz,hc⟩:=eY ho e;exact fu.fr.block k (dQ hc) (C.other hc (by decide) (by decide))
  ·simpa [iO]using r1
  ·simpa [iO]using r2
abbrev yv:Array Value:=#[.bool false,.string ⟨#[]⟩,.slice none 0 0,.slice none 0 0,.string ⟨#[]⟩,.string ⟨#[]⟩]
theorem z6{b:Nat}(h:w.heap[b]?=some (.cells yv 177 (0,0))):(w.cell? ⟨b,0,none⟩=some (.bool false)/\w.cell? ⟨b,1,none⟩=some (.string ⟨#[]⟩)/\w.cell? ⟨b,2,none⟩=some (.slice none 0 0)/\w.cell? ⟨b,3,none⟩=some (.slice none 0 0)/\w.cell? ⟨b,4,none⟩=some (.string ⟨#[]⟩)/\w.cell? ⟨b,5,none⟩=some (.string ⟨#[]⟩))/\(w.frozen? ⟨b,0,none⟩=false/\w.frozen? ⟨b,1,none⟩=false/\w.frozen? ⟨b,2,none⟩=false/\w.frozen? ⟨b,3,none⟩=false/\w.frozen? ⟨b,4,none⟩=false/\w.frozen? ⟨b,5,none⟩=false):=
 ⟨⟨cell_of h rfl,cell_of h rfl,cell_of h rfl,cell_of h rfl,cell_of h rfl,cell_of h rfl⟩,dY h,dY h,dY h,dY h,dY h,dY h⟩
def sx(w:World)(b:Nat)(x0 x1 x2 x3 x4 x5:Value):World:=(((((w.setCell ⟨b,0,none⟩ x0).setCell ⟨b,1,none⟩ x1).setCell ⟨b,2,none⟩ x2).setCell ⟨b,3,none⟩ x3).setCell ⟨b,4,none⟩ x4).setCell ⟨b,5,none⟩ x5
theorem Ld(w:World)(p:Addr)(u:Value):(w.setCell p u).heap.size=w.heap.size/\(w.setCell p u).os=w.os/\(w.setCell p u).tape=w.tape/\(w.setCell p u).output=w.output:=⟨by simp[World.setCell],rfl,rfl,rfl⟩
theorem A3(w:World)(b:Nat)(x0 x1 x2 x3 x4 x5:Value):(sx w b x0 x1 x2 x3 x4 x5).heap.size=w.heap.size/\(sx w b x0 x1 x2 x3 x4 x5).os=w.os/\(sx w b x0 x1 x2 x3 x4 x5).tape=w.tape/\(sx w b x0 x1 x2 x3 x4 x5).output=w.output:=by
 unfold sx;simp only[Ld,and_self]
theorem yw{b k:Nat}(h:k≠b)(x0 x1 x2 x3 x4 x5:Value):(sx w b x0 x1 x2 x3 x4 x5).heap[k]?=w.heap[k]?:=by
 unfold sx
 iterate 6 rw[ak _ _ _ _ h]
theorem Le{b:Nat}{x0 x1 x2 x3 x4 x5:Value}(h:w.heap[b]?=some (.cells yv 177 (0,0))):(sx w b x0 x1 x2 x3 x4 x5).heap[b]?=some (.cells #[x0,x1,x2,x3,x4,x5] 177 (0,0)):=
 (eh (i:=5) (eh (i:=4) (eh (i:=3) (eh (i:=2) (eh (i:=1) (eh (i:=0) h x0) x1) x2) x3) x4) x5)
theorem vT.set{d b:Nat}{c:Cd}(h:vT Av lo X a0 a1 a2 a3 a5 ag d g R w v len i av l1 c kv sv v1 wr)(hg:g<lo/\g<wr.heap.size)(hb:wr.heap[b]?=some (.cells yv 177 (0,0)))(nx:w.heap.size<=b)(hw:lo<=w.heap.size)(hne:v1.ownBlock≠some b)(x0 x1 x2 x3 x4 x5:Value):vT Av lo X a0 a1 a2 a3 a5 ag d g R w v len i av l1 c kv sv v1 (sx wr b x0 x1 x2 x3 x4 x5):=by
 obtain⟨rest,ns,⟨C,k1,s1⟩,f,L,hr,ha,hn,⟨ho,mO⟩,r⟩:=h.ex;have ot:∀k,k≠b->(sx wr b x0 x1 x2 x3 x4 x5).heap[k]?=wr.heap[k]?:=fun k hk=>yw hk _ _ _ _ _ _;have row:∀{e:TypeId} {s m:Nat} {u:Value} {zs:List Value},e≠177->wr.ownsRow 0 e s u m zs->(sx wr b x0 x1 x2 x3 x4 x5).ownsRow 0 e s u m zs:=fun hne h=>dW h fun k e=>ot k fun e'=>by
  obtain⟨-,cur,fz,h'⟩:=eY h e;rw[e',hb]at h';cases h';exact hne rfl
 have kr:∀{B:Nat->Prop} {u:Value} {ns:List Int},KR B wr u ns->KR B (sx wr b x0 x1 x2 x3 x4 x5) u ns:=fun h=>⟨⟨row (by decide) h.1.1,h.1.2⟩,h.2⟩
 have sr:∀{B:Nat->Prop} {u:Value} {ss:List oh},SR B wr u ss->SR B (sx wr b x0 x1 x2 x3 x4 x5) u ss:=fun⟨ys,h1,⟨⟨h2,h5⟩,h3⟩,h4⟩=>⟨ys,h1,⟨⟨row (by decide) h2,h5⟩,h3⟩,fun y hy=>kr (h4 y hy)⟩
 obtain⟨xs,e1,e2,e3⟩:=C.ex;obtain⟨hsz,hos⟩:=A3 wr b x0 x1 x2 x3 x4 x5;generalize sx wr b x0 x1 x2 x3 x4 x5=W6 at*
 refine⟨rest,ns,⟨⟨(ot X fun e=>?_).trans C.blk,⟨xs,e1,dW e2 fun k e=>ot k fun e'=>hne (e'▸e),fun x hx=>⟨kr (e3 x hx).1,sr (e3 x hx).2⟩⟩,C.few⟩,kr k1,sr s1⟩,⟨⟨hos.1.trans f.fr.os,hos.2.1.trans f.fr.tape,hos.2.2.trans f.fr.output,by rw[hsz];exact f.fr.size,fun k hk hn=>(ot k (by omega)).trans (f.fr.block k hk hn)⟩,f.own⟩,⟨L.1,by rw[hsz];exact L.2.1,L.2.2⟩,lf.move (fun k hk _=>⟨hk,ot k (by omega)⟩) rest g _ (ot g (by omega)) hr,ha,hn,⟨row (by decide) ho,mO⟩,r⟩;rw[<-e,C.blk]at hb;cases hb
theorem JZ{d b:Nat}{c:Cd}(h:vT Av lo X a0 a1 a2 a3 a5 ag d g R w v len i av l1 c kv sv v1 wr)(hg:g<lo/\g<wr.heap.size)(hb:wr.heap[b]?=some (.cells yv 177 (0,0)))(nx:w.heap.size<=b)(hw:lo<=w.heap.size)(hne:v1.ownBlock≠some b):∃wq,sx wr b (.bool c.ag) (.string c.op) kv sv (.string c.at_) (.string c.tx)=wq/\Hid (vT Av lo X a0 a1 a2 a3 a5 ag d g R w v len i av l1 c kv sv v1 wq)/\wq.heap[b]?=some (.cells (uA (c,kv,sv)).toArray 177 (0,0))/\v1.ownBlock≠some b/\g<wq.heap.size:=⟨_,rfl,a_ (h.set hg hb nx hw hne _ _ _ _ _ _),Le hb,hne,by rw[(A3 _ _ _ _ _ _ _ _).1];exact hg.2⟩
theorem SB{d:Nat}{c:Cd}(h:vT Av lo X a0 a1 a2 a3 a5 ag d g R w v len i av l1 c kv sv v1 wr)(hg:g<lo/\g<wr.heap.size):∃wq,wr.alloc (.cells (uA (c,kv,sv)).toArray 177)=wq/\Hid (vT Av lo X a0 a1 a2 a3 a5 ag d g R w v len i av l1 c kv sv v1 wq)/\wq.heap[wr.heap.size]?=some (.cells (uA (c,kv,sv)).toArray 177 (0,0))/\v1.ownBlock≠some wr.heap.size/\g<wq.heap.size:=⟨_,rfl,a_ (h.below hg ((Below.refl _ wr).alloc (au _) _)),dR wr _,fun e=>by
 obtain⟨rest,ns,⟨C,-,-⟩,-⟩:=h.ex;obtain⟨xs,-,e2,-⟩:=C.ex;have:=ej e2 e;omega,by simp;omega⟩
theorem vT.tell{d b:Nat}{c:Cd}(h:vT Av lo X a0 a1 a2 a3 a5 ag d g R w v len i av l1 c kv sv v1 wr)(hg:g<lo/\g<wr.heap.size)(hb:wr.heap[b]?=some (.cells (uA (c,kv,sv)).toArray 177 (0,0)))(hne:v1.ownBlock≠some b)(hf:l1.length<1000)(py:lo<=w.heap.size):∃va vc,v1=.slice va l1.length vc/\wr.cell? ⟨X,4,none⟩=some (.slice va l1.length vc)/\∃xs,Hid ((wr.alloc (.cells #[.int .i64 l1.length] 3)).ownsRow 0 3 1 av i xs/\∀je w4,w4.ownsRow 0 3 1 je (i+1) (xs++[.int .i64 l1.length])->(wr.alloc (.cells #[.int .i64 l1.length] 3)).grownBy w4 av.ownBlock->(je.ownBlock=av.ownBlock\/je.ownBlock=some (wr.alloc (.cells #[.int .i64 l1.length] 3)).heap.size)->
  (w4.heap[X]?=some (.cells #[a0,a1,a2,a3,.slice va l1.length vc,a5] 84 (0,0))/\w4.heap[b]?=some (.cells (uA (c,kv,sv)).toArray 177 (0,0)))/\∃ys,Hid (∀W5,Z5 w4 W5->W5.ownsRow 0 177 6 (.slice va l1.length vc) l1.length ys/\∀v5 w5,w5.ownsRow 0 177 6 v5 (l1.length+1) (ys++uA (c,kv,sv))->W5.grownBy w5 (Value.slice va l1.length vc).ownBlock->(v5.ownBlock=(Value.slice va l1.length vc).ownBlock\/v5.ownBlock=some W5.heap.size)->w5.heap[X]?=some (.cells #[a0,a1,a2,a3,.slice va l1.length vc,a5] 84 (0,0))/\Hid (EH Av lo X a0 a1 a2 a3 a5 ag d g R w v len (i+1) je (w5.setCell ⟨X,4,none⟩ v5)))):=by
 obtain⟨rest,ns,⟨C,k1,s1⟩,f,L,hr,ha,⟨rZ,pX⟩,⟨ho,mO⟩,r1,r2⟩:=h.ex;obtain⟨xs,e1,e2,e3⟩:=C.ex;obtain⟨va,vn,vc,rfl⟩:=fT e2;have hvn:vn=l1.length:=by
  rcases e2.2 with⟨e,e'⟩|⟨g,cap,cur,e,-⟩<;>cases e
  ·exact e'.symm
  ·rfl
 subst hvn;have tX:=(Below.refl wr.heap.size wr).alloc (au _) (.cells #[.int .i64 (l1.length:Nat)] 3);have fa:om X (.slice va l1.length vc) (.slice va l1.length vc) wr _:=om.past tX;have hoa:∀k,av.ownBlock=some k->∃cur fz,(wr.alloc (.cells #[.int .i64 (l1.length:Nat)] 3)).heap[k]?=some (.cells cur 3 fz):=fun k e=>by
  obtain⟨-,cur,fz,hc⟩:=eY ho e;exact⟨cur,fz,(tX.block k (dQ hc)).trans hc⟩
 refine⟨va,vc,rfl,cell_of C.blk rfl,g_ ns,a_ ⟨dW ho fun k e=>tX.block k (ej ho e),fun je w4 XF hg4 hat=>?_⟩⟩;have Ca:=C.below tX;have no:∀k,av.ownBlock=some k->¬Hk X (.slice va l1.length vc) k:=fun k e=>by
  obtain⟨cur,fz,hc⟩:=hoa k e;exact Ca.other hc (by decide) (by decide)
 have less:∀k,k<(wr.alloc (.cells #[.int .i64 (l1.length:Nat)] 3)).heap.size->((Av k\/av.ownBlock=some k)\/je.ownBlock=some k)->(Av k\/av.ownBlock=some k):=fun k hk hB=>hB.elim id fun e=>by
  rcases hat with x|x
  ·exact Or.inr (x▸e)
  ·rw[x]at e;cases e;omega
 have C4:=(Ca.less less).grown hg4 fun k e=>⟨Or.inl (Or.inr e),no k e⟩
 have k4:=((k1.fr C fa).less less).grown hg4 fun k e=>Or.inl (Or.inr e);have s4:SR (fun k=>(Av k\/av.ownBlock=some k)\/je.ownBlock=some k) w4 sv c.steps:=by
  obtain⟨ys,h1,⟨⟨h2,h5⟩,h3⟩,h4⟩:=(s1.fr C fa).less less;exact⟨ys,h1,⟨⟨dW h2 fun k e=>hg4.block k (ej h2 e) fun e'=>h5 k e (Or.inl (Or.inr e'.symm)),h5⟩,h3⟩,fun y hy=>(h4 y hy).grown hg4 fun k e=>Or.inl (Or.inr e)⟩
 have hb4:w4.heap[b]?=some (.cells (uA (c,kv,sv)).toArray 177 (0,0)):=(hg4.block b (dQ ((tX.block b (dQ hb)).trans hb)) fun e=>by
  obtain⟨cur,fz,hc⟩:=hoa b e.symm;rw[(tX.block b (dQ hb)).trans hb]at hc;cases hc).trans ((tX.block b (dQ hb)).trans hb)
 have f3:=f.trans fa;have f4:om X v (.slice va l1.length vc) w w4:=⟨⟨hg4.os.trans f3.fr.os,hg4.tape.trans f3.fr.tape,hg4.output.trans f3.fr.output,aw f3.fr.size hg4.size,fun k hk hn=>(hg4.block k (aq hk f3.fr.size) fun e=>by have:=mO k e.symm;omega).trans (f3.fr.block k hk hn)⟩,f3.own⟩
 have L4:Lc lo X w4 (.slice va l1.length vc):=⟨L.1,aw py f4.fr.size,L.2.2⟩
 have M4:Move (fun b=>b<lo) (fun b=>b<lo) wr w4:=fun k hk hl=>by
  obtain⟨-,h2⟩:=(fa.move L) k hk hl;exact⟨hk,(hg4.block k (aq hl tX.size) fun e=>by have:=mO k e.symm;omega).trans h2⟩
 have aaC:∀k,je.ownBlock=some k->w.heap.size<=k:=fun k e=>by
  rcases hat with x|x
  ·exact mO k (x▸e)
  ·rw[x]at e;cases e;exact f3.fr.size
 obtain⟨xs4,y1,y2,y3⟩:=C4.ex;refine⟨⟨C4.blk,hb4⟩,xs4.flatMap uA,a_ fun W5 mh=>⟨dW y2 fun k e=>mh.block k (ej y2 e),fun v5 w5 YQ YR SC=>?_⟩⟩;have f5:om X (.slice va l1.length vc) (.slice va l1.length vc) w4 W5:=om.past mh;have C5:=C4.below mh;obtain⟨C6,f6⟩:=C5.push y1 (fun x hx=>⟨(y3 x hx).1.fr C4 f5,(y3 x hx).2.fr C4 f5⟩) (k4.fr C4 f5) (s4.fr C4 f5) YQ YR SC (by omega);have ft:=f5.trans f6;have Mt:=ft.move L4;refine⟨(YR.block _ (dQ C5.blk) fun e=>by
  obtain⟨zs,-,z2,-⟩:=C5.ex;obtain⟨-,cur,fz,h'⟩:=eY z2 e.symm;rw[C5.blk]at h';cases h').trans C5.blk,a_ ⟨v5,l1++[c],rest,ns++[(l1.length:Int)],C6.less fun k _ h=>h.elim (fun h=>Or.inl (Or.inl h)) Or.inr,f4.trans ft,L4.up ft,lf.move (fun k hk hl=>⟨hk,(Mt k hk (aq hl (aw tX.size hg4.size))).2.trans (M4 k hk hl).2⟩) rest g _ ((Mt g hg.1 (aq hg.2 (aw tX.size hg4.size))).2.trans (M4 g hg.1 hg.2).2) hr,ha,⟨rZ,by simp[pX]⟩,⟨dW (w:=w4) (by simpa [g_]using XF) fun k e=>?_,aaC⟩,?_,?_⟩⟩
 ·obtain⟨-,cur,fz,hc⟩:=eY XF e;exact ft.fr.block k (dQ hc) (C4.other hc (by decide) (by decide))
 ·simpa using r1
 ·simpa using r2
theorem r6{b:Nat}{x0:Bool}{x1 x4 x5:ByteArray}{x2 x3:Value}(h:w.heap[b]?=some (.cells #[.bool x0,.string x1,x2,x3,.string x4,.string x5] 177 (0,0))):w.cell? ⟨b,0,none⟩=some (.bool x0)/\w.cell? ⟨b,1,none⟩=some (.string x1)/\w.cell? ⟨b,2,none⟩=some x2/\w.cell? ⟨b,3,none⟩=some x3/\w.cell? ⟨b,4,none⟩=some (.string x4)/\w.cell? ⟨b,5,none⟩=some (.string x5):=
 ⟨cell_of h rfl,cell_of h rfl,cell_of h rfl,cell_of h rfl,cell_of h rfl,cell_of h rfl⟩
theorem SD(x0:Bool)(x1 x4 x5:ByteArray)(a2 a3:Option Addr)(n2 c2 n3 c3:Nat):∀u∈[Value.bool x0,.string x1,.slice a2 n2 c2,.slice a3 n3 c3,.string x4,.string x5],u.oneCell'=true:=by simp[Value.oneCell']
theorem SF:(prog.info? 177).map (fun i=>(i.zero,i.size,i.bytes))=some (some (.agg #[.bool false,.string ⟨#[]⟩,.slice none 0 0,.slice none 0 0,.string ⟨#[]⟩,.string ⟨#[]⟩]),6,104):=by kernel_rfl
theorem SG{d:Nat}(hq:∀ps,JY d ps->CK lo X a0 a1 a2 a3 a5 false ps)(hq0:CK lo X a0 a1 a2 a3 a5 true .nil)(ag:Bool)(s:gR)(ha:JY (d+1) s):CK lo X a0 a1 a2 a3 a5 ag s:=by
 intro Av w v l pv C Nz L hs hsz;obtain⟨j0,hj,Rt,ED,D3⟩:=aY uw;obtain⟨i0,hi,hz0,hz1,hz2⟩:=aY SF;obtain⟨si,sc,rfl⟩:=hs.shape;have uj:s.len<=1000:=by
  rcases hs with⟨e,-⟩|⟨g,cap,cur,-,-,-,h,-⟩
  ·omega
  ·exact h
 obtain⟨g,zV,M0⟩:∃g,(0<s.len->si=some ⟨g,0,none⟩/\g<lo)/\Hid (EH Av lo X a0 a1 a2 a3 a5 ag (d+1) g ((iO l.length ag s).1,l++(iO l.length ag s).2) w v s.len 0 (.slice none 0 0) w):=by
  have mk:∀g,lf w (fun b=>b<lo) 144 146 g 0 s->EH Av lo X a0 a1 a2 a3 a5 ag (d+1) g ((iO l.length ag s).1,l++(iO l.length ag s).2) w v s.len 0 (.slice none 0 0) w:=fun g hr=>
   ⟨v,l,s,[],C.less fun k _ h=>h.elim id fun e=>(by cases e),om.past (Below.refl _ _),L,hr,ha,⟨by omega,rfl⟩,⟨bA _ _ _ _,fun k e=>by cases e⟩,rfl,rfl⟩
  rcases hs with⟨e,-⟩|⟨g,cap,cur,e,hA,-,-,-,hr⟩
  ·cases s with
   |nil=>exact⟨0,fun h=>by simp[gR.len]at h,a_ (mk 0 (by simp only[lf]))⟩
   |cons _ _ _ _ _ _=>simp[gR.len]at e
  ·cases e;exact⟨g,fun _=>⟨rfl,hA⟩,a_ (mk g hr)⟩
 have HF:Hid (∀av wr,EH Av lo X a0 a1 a2 a3 a5 ag (d+1) g ((iO l.length ag s).1,l++(iO l.length ag s).2) w v s.len s.len av wr->∃an ac,av=.slice an s.len ac/\Vt Av X a0 a1 a2 a3 a5 w v l (iO l.length ag s) (.returned (.slice an s.len ac)) wr):=a_ fun av wr h=>by
  obtain⟨v',l',rest,ns,C,f,L,hr,ha,⟨rZ,pX⟩,⟨ho,mO⟩,r1,r2⟩:=h.ex;have:rest=.nil:=by
   cases rest with
   |nil=>rfl
   |cons _ _ _ _ _ _=>simp[gR.len]at rZ
  subst this;simp only[iO,aP]at r1 r2;obtain⟨an,n',ac,rfl⟩:=fT ho;have nB:n'=s.len:=by
   rcases ho.2 with⟨e,e'⟩|⟨g,cap,cur,e,-⟩<;>cases e
   ·exact e'.symm
   ·rfl
  subst nB;subst r1;refine⟨an,ac,rfl,v',an,_,ac,rfl,⟨⟨by rw[pX];exact ho,fun k e hA=>?_⟩,by omega⟩,?_,f⟩
  ·have:=mO k e;have:=Nz k hA;omega
  ·rw[r2]at C;exact C.less fun k _ h=>Or.inl h
 have HR:Hid (∀i av wr,i<s.len->EH Av lo X a0 a1 a2 a3 a5 ag (d+1) g ((iO l.length ag s).1,l++(iO l.length ag s).2) w v s.len i av wr->_):=a_ fun i av wr hi M=>M.round Nz (zV (by omega)).2 hq hq0 hi L (by simpa using hsz);have zV:Hid (0<s.len->si=some ⟨g,0,none⟩/\g<lo):=a_ zV;have py:=L.2.1;generalize Vt Av X a0 a1 a2 a3 a5 w v l (iO l.length ag s)=PP at*
 generalize s.len=len at*
 generalize ((iO l.length ag s).1,l++(iO l.length ag s).2)=R at*
 clear C Nz L hs ha hq hq0 hsz;go_enter func55,ntmps55;go_wp2_with fail;go_loopw [7,13] (fun av iv wr=>∃i:Nat,iv=.int .i64 i/\i<=len/\EH Av lo X a0 a1 a2 a3 a5 ag (d+1) g R w v len i av wr) (fun _ iv _=>len-(RowKit.intOf iv).toNat)
 case atStart=>exact⟨0,rfl,aB _,M0.out⟩
 case round=>
  rename World=>WO
  obtain⟨i,rfl,GJ,hM⟩:=hrel;clear M0;by_cases hlt:i<len
  ·obtain⟨op,ki,kn,kc,ti,tn,tc,a,t,an,ac,rfl,⟨c0,c1,c2,c3,c4⟩,l1,ks,ss,⟨Yg,hww⟩,HC⟩:=HR.out _ _ _ hlt hM;obtain⟨rfl,N4⟩:=zV.out (by omega);have Nw:(i:Int)<len:=by omega
   clear HR HF hM zV;go_wp2_with fail;have bx:=dR WO (.cells #[.string op,.slice ki kn kc,.slice ti tn tc,.string a,.string t] 146);obtain⟨W1,hW1⟩:∃W1,WO.alloc (.cells #[.string op,.slice ki kn kc,.slice ti tn tc,.string a,.string t] 146)=W1:=⟨_,rfl⟩
   have Vv:WO.heap.size<=W1.heap.size:=by rw[<-hW1];simp
   have YS:WO.heap.size<W1.heap.size:=by rw[<-hW1];simp
   rw[hW1]at HC bx ⊢;have C5:∀W:World,W.heap[WO.heap.size]?=some (.cells #[.string op,.slice ki kn kc,.slice ti tn tc,.string a,.string t] 146 (0,0))->W.cell? ⟨WO.heap.size,0,none⟩=some (.string op)/\W.cell? ⟨WO.heap.size,1,none⟩=some (.slice ki kn kc)/\W.cell? ⟨WO.heap.size,2,none⟩=some (.slice ti tn tc)/\W.cell? ⟨WO.heap.size,3,none⟩=some (.string a)/\W.cell? ⟨WO.heap.size,4,none⟩=some (.string t):=fun W h=>⟨cell_of h rfl,cell_of h rfl,cell_of h rfl,cell_of h rfl,cell_of h rfl⟩
   have ba:∀o,(W1.alloc o).heap[WO.heap.size]?=some (.cells #[.string op,.slice ki kn kc,.slice ti tn tc,.string a,.string t] 146 (0,0)):=fun o=>(ay _ _ _ YS).trans bx;have B0:=Below.refl W1.heap.size W1;have B1:∀m,Z5 W1 (W1.drewN m):=fun m=>below_drewN B0 m;have B2:∀o,Z5 W1 (W1.alloc o):=fun o=>B0.alloc (au _) o;have B3:∀o m,Z5 W1 ((W1.alloc o).drewN m):=fun o m=>below_drewN (B2 o) m;have BD:Z5 W1 W1.drew:=B1 1;have BE:∀o,Z5 W1 (W1.alloc o).drew:=fun o=>B3 o 1;have e1:=C5 W1 bx;have e2:=fun m=>C5 (W1.drewN m) bx;have e3:=fun o=>C5 (W1.alloc o) (ba o);have e4:=fun o m=>C5 ((W1.alloc o).drewN m) (ba o);have e5:=C5 W1.drew bx;have e6:=fun o=>C5 (W1.alloc o).drew (ba o);clear c0 c1 c2 c3 c4 hW1;go_region_held3 (fun W=>W.cell? ⟨WO.heap.size,0,none⟩=some (.string op)/\W.cell? ⟨WO.heap.size,1,none⟩=some (.slice ki kn kc)/\W.cell? ⟨WO.heap.size,2,none⟩=some (.slice ti tn tc)/\W.cell? ⟨WO.heap.size,3,none⟩=some (.string a)/\W.cell? ⟨WO.heap.size,4,none⟩=some (.string t))
    (first|with_reducible exact e1|with_reducible exact e5|with_reducible exact e2 _|with_reducible exact e3 _|with_reducible exact e6 _|with_reducible exact e4 _ _|with_reducible exact f2|with_reducible exact f1|with_reducible exact f3 _|with_reducible exact f4 _|exact C5 _ ((yw (by omega) _ _ _ _ _ _).trans g2))
    (first
     |(go_at_call 55;(first|with_reducible refine(HC.out _ BD).mono ?_|with_reducible refine(HC.out _ (BE _)).mono ?_|with_reducible refine(HC.out _ (B1 _)).mono ?_|with_reducible refine(HC.out _ (B3 _ _)).mono ?_|with_reducible refine(HC.out _ (B2 _)).mono ?_|with_reducible refine(HC.out _ B0).mono ?_);rintro e w1 ⟨ra,rn,rc,rfl,K1,H6⟩;(first|have g1:=K1 _ _ (au _) (ba _)|have g1:=K1 _ _ (au _) bx);have f1:=C5 _ g1;have f3:=fun o=>C5 (w1.alloc o) ((ay _ _ _ (dQ g1)).trans g1))
     |(go_at_call 29;(first|with_reducible refine(H6.out _ (Below.refl _ w1)).mono ?_|with_reducible refine(H6.out _ ((Below.refl _ w1).alloc (au _) _)).mono ?_);rintro e w2 ⟨sa,sn,XE,v3,rfl,K2,hg2,H7⟩;(first|have g2:=(K2 _ _ (au _) (Or.inl (dQ (ba _))) g1).1|have g2:=(K2 _ _ (au _) (Or.inl (dQ bx)) g1).1|have g2:=(K2 _ _ (au _) (Or.inl (dQ (ba _))) ((ay _ _ _ (dQ g1)).trans g1)).1|have g2:=(K2 _ _ (au _) (Or.inl (dQ bx)) ((ay _ _ _ (dQ g1)).trans g1)).1);have f2:=C5 _ g2;have f4:=fun o=>C5 (w2.alloc o) ((ay _ _ _ (dQ g2)).trans g2);have hb1:=dQ g1;(first|(have zz:=K2 W1.heap.size _ Vv (Or.inl (dQ (dR W1 (.cells yv 177)))) (K1 W1.heap.size _ Vv (dR W1 (.cells yv 177)));have z7:=z6 zz.1;obtain⟨⟨p0,p1,p2,p3,p4,p5⟩,q0,q1,q2,q3,q4,q5⟩:=z7)|(have zz:=K2 w1.heap.size _ (Nat.le_of_lt (dQ g1)) (Or.inr (au _)) (dR w1 (.cells yv 177));have z7:=z6 zz.1;obtain⟨⟨p0,p1,p2,p3,p4,p5⟩,q0,q1,q2,q3,q4,q5⟩:=z7)|have zz:=True.intro)))
   all_goals
    (first|have FQ:=JZ H7.out ⟨N4,hg2⟩ zz.1 (aw hww Vv) py zz.2|have FQ:=JZ H7.out ⟨N4,hg2⟩ zz.1 (aw hww (Nat.le_of_lt hb1)) py zz.2|have FQ:=SB H7.out ⟨N4,hg2⟩)
    obtain⟨wq,hq,HQ,bq,bne,gq⟩:=FQ
    (try unfold sx at hq)
    dsimp only[uA]at hq;rw[hq];obtain⟨va,vc,rfl,x4,xs,H8⟩:=HQ.out.tell ⟨N4,gq⟩ bq bne Yg py;clear hq HQ bq bne gq H7 K1 K2 H6 f1 f2 f3 f4 g1 g2 zz e1 e2 e3 e4 e5 e6 C5 ba B0 B1 B2 B3 BD BE HC bx;go_wp2_with(at_builtin;refine bu (w:=_) rfl _ _ 31 rfl 0 3 j0 _ 1 8 underlying31 hj Rt ED D3 rfl (by decide) _ _ _ rfl H8.out.1 ⟨wq.heap.size,0,none⟩ 1 1 [.int .i64 (l1.length:Nat)] rfl rfl (kK _ _ _) (by simp[Value.oneCell']) (by unfold maxLen;omega) (by omega) (aB _) ?_;intro v4 w4 XF hg4 _ EI;obtain⟨⟨x5,y5⟩,ys,H9⟩:=H8.out.2 _ _ XF hg4 EI;obtain⟨a4,n4,c4,rfl⟩:=fT XF;clear XF hg4 EI H8);dsimp only[uA]at y5 H9;obtain⟨y0,y1,y2,y3,y4,y6⟩:=r6 (w:=w4.drew) y5;have t4:w4.drew.cell? ⟨X,4,none⟩=some (.slice va l1.length vc):=cell_of (w:=w4.drew) x5 rfl;have t5:∀o,(w4.alloc o).drew.cell? ⟨X,4,none⟩=some (.slice va l1.length vc):=fun o=>dV (w:=w4.drew) o t4;have HB:∀o,Z5 w4 (w4.alloc o).drew:=fun o=>((Below.refl _ w4).alloc (au _) o).drew;clear x5 y5;go_region_law
     (first|(refine eL rfl (.tmp 43) (.tmp 45) 82 rfl 177 i0 _ 6 104 underlying82 hi hz0 hz1 hz2 rfl (by decide) (.slice va l1.length vc) l1.length ys (by simp[Act.eval,Act.put]) (H9.out _ (HB _)).1 ⟨w4.heap.size,0,none⟩ 1 1 [.bool ag,.string op,.slice ra rn rc,.slice sa sn XE,.string a,.string t] (by simp[Act.eval,Act.put]) rfl (kK _ _ _) (SD _ _ _ _ _ _ _ _ _ _) (by unfold maxLen;omega) (by omega) ?_;intro v5 w5 YQ YR SC;obtain⟨hX5,YT⟩:=(H9.out _ (HB _)).2 v5 w5 YQ YR SC;obtain⟨a5',n5,c5,rfl⟩:=fT YQ;have d5:=cell_of (i:=4) hX5 rfl;have d6:=dY (i:=4) hX5;clear YQ YR SC hX5))
    all_goals
     clear H9 HB t4 t5 y0 y1 y2 y3 y4 y6 d5 d6;go_wp2;exact⟨⟨i+1,by simp,by omega,YT.out⟩,by simp only[RowKit.intOf];omega⟩
  ·obtain rfl:i=len:=by omega
   obtain⟨an,ac,rfl,hP⟩:=HF.out _ _ hM;have HP:=a_ hP;clear HR HF hM zV hP;go_wp2;first|exact HP.out|(go_ret;exact HP.out)
end
section
variable{w w' W W' w1 w2 w3 wr wq:World}{v nv lv pv sv av kv v1 v2:Value}{lo X n i g len:Nat}{a0 a1 a2 a3 a5:Value}{l l1:List Cd}{ag:Bool}{Av:Nat->Prop}
theorem Ox(ag:Bool)(X:Nat)(w:World):Z4 55 #[.pointer (some ⟨X,4,none⟩),.slice none 0 0,.bool ag] w (Z6 (.slice none 0 0) w):=by
 go_enter func55,ntmps55;go_wp2_with fail;go_loopw [7,13] (fun av iv wr=>av=.slice none 0 0/\iv=.int .i64 0/\wr=w) (fun _ _ _=>0)
 case atStart=>exact⟨rfl,rfl,rfl⟩
 case round=>
  obtain⟨rfl,rfl,rfl⟩:=hrel;go_wp2;go_ret;exact⟨rfl,rfl⟩
theorem EJ(ag:Bool):CK lo X a0 a1 a2 a3 a5 ag .nil:=by
 intro Av w v l pv C Nz L hs hsz;have e:pv=fh:=by
  rcases hs with⟨_,e⟩|⟨g,cap,cur,_,_,_,_,⟨h,_⟩,_⟩
  ·exact e
  ·simp[gR.len]at h
 subst e;refine(Ox ag X w).mono ?_;rintro e w' ⟨rfl,rfl⟩;exact⟨v,none,0,0,rfl,⟨⟨bA _ _ _ _,fun k e=>by cases e⟩,by simp[iO]⟩,by simpa [iO]using C,om.past (Below.refl _ _)⟩
theorem EK:∀(d:Nat) (ag:Bool) (ps:gR),JY d ps->CK lo X a0 a1 a2 a3 a5 ag ps
 |0,ag,.nil,_=>EJ ag
 |0,ag,.cons ..,h=>h.elim
 |d+1,ag,ps,h=>SG (EK d false) (EJ true) ag ps h
theorem xE{α:Type}{f:α->List Value}{s:Nat}(hf:∀y,(f y).length=s):∀(ys:List α) (i j:Nat) (y:α),ys[i]?=some y->j<s->(ys.flatMap f)[i*s+j]?=(f y)[j]?
 |[],i,j,y,h,_=>by simp at h
 |z::ys,0,j,y,h,hj=>by
  obtain rfl:z=y:=by simpa using h
  rw[cE,Nat.zero_mul,aG,aU (by rw[hf];exact hj)]
 |z::ys,i+1,j,y,h,hj=>by
  rw[cE,aW (by rw[hf,Nat.add_mul];omega),hf,show (i+1)*s+j-s=i*s+j by rw[Nat.add_mul];omega];exact xE hf ys i j y (by simpa using h) hj
theorem KR.ir{z:Value}{ns:List Int}(h:KR Av w z ns):IR w z ns:=lh h.1.1 (by have:=h.2;omega)
theorem Hl{e:TypeId}{s m:Nat}{z:Value}{xs:List Value}(h:w.ownsRow 0 e s z m xs):∃ai cap,z=.slice ai m cap/\m<=cap/\(0<m->∃g,ai=some ⟨g,0,none⟩/\g<w.heap.size/\∀j u,xs[j]?=some u->w.cell? ⟨g,j,none⟩=some u):=by
 rcases h.2 with⟨rfl,rfl⟩|⟨g,cap,cur,rfl,-,hg,hc,-⟩
 ·exact⟨none,0,rfl,au _,fun h=>by omega⟩
 ·refine⟨_,cap,rfl,hc,fun _=>⟨g,rfl,dQ hg,fun j u hu=>?_⟩⟩;have:=h.cells (g:=g) rfl j u hu;rwa[Addr.add_mid,aG]at this
theorem SR.stp{z:Value}{ss:List oh}(h:SR Av w z ss):uz w z ss:=by
 obtain⟨ys,rfl,⟨⟨h1,-⟩,h2⟩,h3⟩:=h;obtain⟨ai,cap,rfl,hc,hr⟩:=Hl h1;refine⟨ai,cap,rfl,⟨hc,by omega⟩,fun i s hs=>?_⟩;have GJ:=(List.getElem?_eq_some_iff.1 hs).1;obtain⟨g,e,hg,hr⟩:=hr (by omega);rw[bW]at hs;obtain⟨y,hy,rfl⟩:=Option.map_eq_some_iff.1 hs;have hk:=(h3 y (bO hy)).ir;obtain⟨ci,cc,e2,-⟩:=id hk;have at_:=fun j hj=>xE (f:=La) (s:=3) (fun _=>rfl) ys i j y hy hj;exact⟨g,ci,cc,e,hg,hr _ _ (at_ 0 (by omega)),hr _ _ (at_ 1 (by omega)),hr _ _ ((at_ 2 (by omega)).trans ((show (La y)[2]?=some y.2 from rfl).trans (aL some e2))),by rw[<-e2];exact hk⟩
def XG(w:World)(X:Nat)(l:List Cd):Prop:=∃ai cap,w.cell? ⟨X,4,none⟩=some (.slice ai l.length cap)/\l.length<=1000/\X<w.heap.size/\∀(i:Nat) c,l[i]?=some c->∃g kv sv,ai=some ⟨g,0,none⟩/\w.cell? ⟨g,i*6,none⟩=some (.bool c.ag)/\w.cell? ⟨g,i*6+1,none⟩=some (.string c.op)/\w.cell? ⟨g,i*6+2,none⟩=some kv/\w.cell? ⟨g,i*6+3,none⟩=some sv/\w.cell? ⟨g,i*6+4,none⟩=some (.string c.at_)/\w.cell? ⟨g,i*6+5,none⟩=some (.string c.tx)/\IR w kv c.kids/\uz w sv c.steps
theorem CS.cdm(C:CS Av X a0 a1 a2 a3 a5 w v l):XG w X l:=by
 obtain⟨xs,rfl,h1,h2⟩:=C.ex;obtain⟨ai,cap,rfl,hc,hr⟩:=Hl h1;refine⟨ai,cap,cell_of C.blk rfl,C.few,dQ C.blk,fun i c hs=>?_⟩;have GJ:=(List.getElem?_eq_some_iff.1 hs).1;obtain⟨g,e,hg,hr⟩:=hr (by omega);rw[bW]at hs;obtain⟨y,hy,rfl⟩:=Option.map_eq_some_iff.1 hs;have hk:=h2 y (bO hy);have at_:=fun j hj=>xE (f:=uA) (s:=6) (fun _=>rfl) xs i j y hy hj;exact⟨g,_,_,e,hr _ _ (at_ 0 (by omega)),hr _ _ (at_ 1 (by omega)),hr _ _ (at_ 2 (by omega)),hr _ _ (at_ 3 (by omega)),hr _ _ (at_ 4 (by omega)),hr _ _ (at_ 5 (by omega)),hk.1.ir,hk.2.stp⟩
end
end Go.Proofs.YtclgfepngpeifaaGreatDoor
