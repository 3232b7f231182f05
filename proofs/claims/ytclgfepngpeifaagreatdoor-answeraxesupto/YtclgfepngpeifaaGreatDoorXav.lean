import Derived.Test.YtclgfepngpeifaaGreatDoorXA
import Derived.Deep.RegionHeld3
import Derived.Deep.RegionLaw
import Derived.Shelf.Strings.Trim
import Derived.Shelf.Strings.SlTrimAscii
import Derived.Test.YtclgfepngpeifaaGreatDoorProg
import Derived.Test.YtclgfepngpeifaaGreatDoorXas
import Derived.Test.YtclgfepngpeifaaGreatDoorXak
set_option linter.unusedVariables false
set_option linter.unusedSimpArgs false
set_option maxHeartbeats 32000000
set_option maxRecDepth 100000
namespace Go.Proofs.YtclgfepngpeifaaGreatDoor
namespace K
open Go.RowKit Go.Maps Go.Lib Tryz
section
variable{A K K':Nat->Prop}{w w' w1:World}{nv:Value}{l:List Nd}{av kv:Nat->Value}{tN tA:TypeId}
def e8(l:List Nat):List Value:=l.map fun(k:Nat)=>Value.int .i64 (k:Int)
def gM(n:Nd)(a k:Value):List Value:=[eu n.name,a,eu n.text,k,.int .i64 n.up]
def eZ(av kv:Nat->Value):Nat->List Nd->List Value
 |_,[]=>[]
 |i,n::l=>gM n (av i) (kv i)++eZ av kv (i+1) l
def upd(f:Nat->Value)(k:Nat)(v:Value):Nat->Value:=fun i=>if i=k then v else f i
theorem upd_same(f:Nat->Value)(k:Nat)(v:Value):upd f k v k=v:=by simp[upd]
theorem fl(f:Nat->Value){k i:Nat}(v:Value)(h:i≠k):upd f k v i=f i:=by simp[upd,h]
theorem zD(av kv:Nat->Value):∀(l:List Nd) (i0 i:Nat) (n:Nd) (c:Nat) (u:Value),l[i]?=some n->(gM n (av (i0+i)) (kv (i0+i)))[c]?=some u->(eZ av kv i0 l)[i*5+c]?=some u
 |[],_,_,_,_,_,h,_=>by simp at h
 |m::l,i0,0,n,c,u,h,hc=>by
  obtain rfl:m=n:=by simpa using h
  have hl:c<(gM m (av i0) (kv i0)).length:=by
   have:=(List.getElem?_eq_some_iff.1 hc).1;simpa using this
  simp only[eZ,Nat.zero_mul,aG];rw[aU hl];simpa using hc
 |m::l,i0,i+1,n,c,u,h,hc=>by
  have:=zD av kv l (i0+1) i n c u (by simpa using h) (by rw[show i0+1+i=i0+(i+1) by omega];exact hc);simp only[eZ];have hl:(gM m (av i0) (kv i0)).length=5:=rfl;rw[aW (by rw[hl];omega),hl,show (i+1)*5+c-5=i*5+c by omega];exact this
theorem qX(av kv:Nat->Value)(l':List Nd):∀(l:List Nd) (i:Nat),eZ av kv i (l++l')=eZ av kv i l++eZ av kv (i+l.length) l'
 |[],i=>by simp[eZ]
 |n::l,i=>by
  simp only[aZ,eZ,aV,qX av kv l' l (i+1),aC];rw[show i+1+l.length=i+(l.length+1) by omega]
theorem od{av kv je jQ:Nat->Value}:∀(l:List Nd) (i:Nat),(∀j,i<=j->j<i+l.length->av j=je j/\kv j=jQ j)->eZ av kv i l=eZ je jQ i l
 |[],i,_=>rfl
 |n::l,i,h=>by
  have h0:=h i (au _) (by simp);simp only[eZ,h0.1,h0.2];rw[od l (i+1) fun j a b=>h j (by omega) (by simp only[aC];omega)]
theorem xb(av:Nat->Value)(v:Value)(j:Nat):∀(l:List Nd) (kv:Nat->Value) (i k:Nat),k<l.length->(eZ av kv i l).set (k*5+3) v=eZ av (upd kv (i+k) v) i (fJ l k j)
 |[],_,_,k,h=>by simp at h
 |n::l,kv,i,0,_=>by
  simp only[fJ,eZ,bG,upd_same,Nat.zero_mul,aG];rw[od (av:=av) (kv:=kv) (je:=av) (jQ:=upd kv i v) l (i+1) fun j a b=>⟨rfl,(fl _ _ (by omega)).symm⟩];rfl
 |n::l,kv,i,k+1,h=>by
  have ih:=xb av v j l kv (i+1) k (by simpa using h);simp only[fJ,eZ];rw[fl kv v (show i≠i+(k+1) by omega),show i+(k+1)=i+1+k by omega,<-ih];have hl:(gM n (av i) (kv i)).length=5:=rfl;rw[List.set_append,if_neg (by rw[hl];omega),hl,show (k+1)*5+3-5=k*5+3 by omega]
structure gX(tN tA:TypeId)(A K:Nat->Prop)(w:World)(nv:Value)(l:List Nd)(av kv:Nat->Value):Prop where
 row:w.ownsRow 0 tN 5 nv l.length (eZ av kv 0 l)
 nz:∀k,nv.ownBlock=some k->K k
 attr:∀i n,l[i]?=some n->w.ownsRow 0 tA 2 (av i) n.attrs.length (d_ n.attrs)
 vg:∀i k,i<l.length->(av i).ownBlock=some k->A k
 kid:∀i n,l[i]?=some n->w.ownsRow 0 3 1 (kv i) n.kids.length (e8 n.kids)
 my:∀i k,i<l.length->(kv i).ownBlock=some k->K k/\nv.ownBlock≠some k
 apart:∀i j k,i<l.length->j<l.length->i≠j->(kv i).ownBlock=some k->(kv j).ownBlock≠some k
 TV:∀i n,l[i]?=some n->n.kids=[]->kv i=fh
theorem gX.zero:gX tN tA A K w fh [] (fun _=>fh) (fun _=>fh):=
 ⟨⟨rfl,Or.inl ⟨rfl,rfl⟩⟩,(fun k e=>by cases e),(fun i n h=>by simp at h),(fun i k h=>by simp at h),(fun i n h=>by simp at h),(fun i k h=>by simp at h),(fun i j k h=>by simp at h),(fun i n h=>by simp at h)⟩
theorem gX.frame(h:gX tN tA A K w nv l av kv)(hA:∀k,k<w.heap.size->A k->w'.heap[k]?=w.heap[k]?)(hK:∀k,k<w.heap.size->K k->w'.heap[k]?=w.heap[k]?)(hK':∀k,k<w'.heap.size->K k->K' k):gX tN tA A K' w' nv l av kv:=by
 have lt:∀{e s v n xs k},w.ownsRow 0 e s v n xs->v.ownBlock=some k->k<w.heap.size:=fun h e=>ej h e;have row:w'.ownsRow 0 tN 5 nv l.length (eZ av kv 0 l):=dW h.row fun k e=>hK k (lt h.row e) (h.nz k e);have kid:∀i n,l[i]?=some n->w'.ownsRow 0 3 1 (kv i) n.kids.length (e8 n.kids):=fun i n hi=>dW (h.kid i n hi) fun k e=>hK k (lt (h.kid i n hi) e) (h.my i k (List.getElem?_eq_some_iff.1 hi).1 e).1;refine⟨row,fun k e=>hK' k (ej row e) (h.nz k e),fun i n hi=>dW (h.attr i n hi) fun k e=>hA k (lt (h.attr i n hi) e) (h.vg i k (List.getElem?_eq_some_iff.1 hi).1 e),h.vg,
  kid,fun i k hi e=>⟨hK' k (ej (kid i _ (aF hi)) e) (h.my i k hi e).1,(h.my i k hi e).2⟩,h.apart,h.TV⟩
theorem QD{e:TypeId}{s g n cap i:Nat}{xs:List Value}(h:w.ownsRow 0 e s (Z9 g n cap) n xs)(hi:i<n*s)(u:Value):(w.setCell ⟨g,i,none⟩ u).ownsRow 0 e s (Z9 g n cap) n (xs.set i u):=by
 refine⟨by rw[List.length_set];exact h.1,?_⟩;rcases h.2 with⟨e1,_⟩|⟨g',cap',cur,e1,h0,hg,h1,h2,h3,h4⟩
 ·cases e1
 ·cases e1;refine Or.inr ⟨g,cap,cur.setIfInBounds i u,rfl,h0,eh hg u,h1,h2,by simpa using h3,?_⟩;rw[Array.toList_setIfInBounds,List.take_set,h4]
theorem gX.cells(h:gX tN tA A K w nv l av kv)(k:Nat)(n:Nd)(hk:l[k]?=some n):∃g cap,nv=Z9 g l.length cap/\l.length<=maxLen/\K g/\
  w.cell? ⟨g,k*5,none⟩=some (eu n.name)/\w.cell? ⟨g,k*5+1,none⟩=some (av k)/\w.cell? ⟨g,k*5+2,none⟩=some (eu n.text)/\w.cell? ⟨g,k*5+3,none⟩=some (kv k)/\w.cell? ⟨g,k*5+4,none⟩=some (.int .i64 n.up):=by
 have hlt:=(List.getElem?_eq_some_iff.1 hk).1;rcases h.row.2 with⟨_,e⟩|⟨g,cap,cur,e1,h0,hg,h1,h2,h3,h4⟩
 ·omega
 ·have hc:∀c u,(gM n (av k) (kv k))[c]?=some u->w.cell? ⟨g,k*5+c,none⟩=some u:=by
   intro c u hu;have h5:=zD av kv l 0 k n c u hk (by rw[aG];exact hu);refine cell_of hg ?_;rw[<-h4,bR]at h5;split at h5
   ·simpa using h5
   ·cases h5
  exact⟨g,cap,e1,by omega,h.nz g (by rw[e1];rfl),hc 0 _ rfl,hc 1 _ rfl,hc 2 _ rfl,hc 3 _ rfl,hc 4 _ rfl⟩
theorem gX.fJ(h:gX tN tA A K w nv l av kv)(rY:∀k,A k->¬K k)(lt:∀k,K k->k<w.heap.size)(sD:∀k,A k->k<w.heap.size){g cap k j:Nat}{n:Nd}{v':Value}(hv:nv=Z9 g l.length cap)(hk:l[k]?=some n)
  (hg:w.grownBy w1 (kv k).ownBlock) (ho:w1.ownsRow 0 3 1 v' (n.kids.length+1) (e8 n.kids++[.int .i64 j])) (hat:v'.ownBlock=(kv k).ownBlock\/v'.ownBlock=some w.heap.size):
  gX tN tA A (fun i=>K i\/i=w.heap.size) (w1.setCell ⟨g,k*5+3,none⟩ v') nv (fJ l k j) av (upd kv k v'):=by
 have hlt:=(List.getElem?_eq_some_iff.1 hk).1;have Jh:K g:=h.nz g (by rw[hv];rfl);have hne:(kv k).ownBlock≠some g:=fun e=>(h.my k g hlt e).2 (by rw[hv];rfl);have aa7:v'.ownBlock≠some g:=by
  rcases hat with e|e<;>rw[e]
  ·exact hne
  ·intro x;cases x;exact absurd (lt _ Jh) (by omega)
 --blocks that are kept
 have keep:∀b,b<w.heap.size->b≠g->(kv k).ownBlock≠some b->(w1.setCell ⟨g,k*5+3,none⟩ v').heap[b]?=w.heap[b]?:=fun b hb h1 h2=>by rw[ak _ _ _ _ h1];exact hg.block b hb (fun e=>h2 e.symm)
 have U3:w1.ownsRow 0 tN 5 nv l.length (eZ av kv 0 l):=dW h.row fun b e=>hg.block b (ej h.row e) (fun x=>by rw[hv]at e;cases e;exact hne x.symm);have NL:∀i m,(Proofs.YtclgfepngpeifaaGreatDoor.K.fJ l k j)[i]?=some m->(i=k/\m=n.kid j)\/(i≠k/\l[i]?=some m):=by
  intro i m hi;rw[mG]at hi;by_cases e:i=k
  ·subst e;rw[if_pos rfl,hk]at hi;simp only[Option.map_some,bK]at hi;exact Or.inl ⟨rfl,hi.symm⟩
  ·rw[if_neg e]at hi;exact Or.inr ⟨e,hi⟩
 refine⟨?_,fun b e=>Or.inl (h.nz b e),?_,fun i b hi e=>h.vg i b (by rwa[fK]at hi) e,?_,?_,?_,?_⟩
 ·rw[fK];have:=xb av v' j l kv 0 k hlt;rw[aG]at this;rw[<-this,hv];rw[hv]at U3;exact QD U3 (by omega) v'
 ·intro i m hi;have key:∀m',l[i]?=some m'->m'.attrs=m.attrs->(w1.setCell ⟨g,k*5+3,none⟩ v').ownsRow 0 tA 2 (av i) m.attrs.length (d_ m.attrs):=by
   intro m' h' ea;have Ie:=h.attr i m' h';rw[ea]at Ie;refine dW Ie fun b e=>keep b (ej Ie e) ?_ ?_
   ·rintro rfl;exact rY _ (h.vg i _ (List.getElem?_eq_some_iff.1 h').1 e) Jh
   ·intro e2;exact rY _ (h.vg i _ (List.getElem?_eq_some_iff.1 h').1 e) (h.my k b hlt e2).1
  rcases NL i m hi with⟨rfl,rfl⟩|⟨_,h'⟩
  ·exact key n hk rfl
  ·exact key m h' rfl
 ·intro i m hi;rcases NL i m hi with⟨rfl,rfl⟩|⟨hik,h'⟩
  ·rw[upd_same];have e1:(n.kid j).kids=n.kids++[j]:=rfl;have e2:e8 (n.kids++[j])=e8 n.kids++[.int .i64 j]:=by simp[e8]
   rw[e1,e2,ax];exact dW ho fun b e=>ak _ _ _ _ (fun x=>aa7 (by rw[e,x]))
  ·rw[fl _ _ hik];have GJ:=(List.getElem?_eq_some_iff.1 h').1;refine dW (h.kid i m h') fun b e=>keep b (ej (h.kid i m h') e) (fun x=>(h.my i b GJ e).2 (by rw[hv,x];rfl)) (h.apart i k b GJ hlt hik e)
 ·intro i b hi e;rw[fK]at hi;by_cases hik:i=k
  ·subst hik;rw[upd_same]at e;rcases hat with e2|e2
   ·rw[e2]at e;exact⟨Or.inl (h.my i b hi e).1,(h.my i b hi e).2⟩
   ·rw[e2]at e;cases e;refine⟨Or.inr rfl,fun x=>?_⟩;rw[hv]at x;have hx:g=w.heap.size:=by simpa [Value.ownBlock]using x
    have:=lt _ Jh;omega
  ·rw[fl _ _ hik]at e;exact⟨Or.inl (h.my i b hi e).1,(h.my i b hi e).2⟩
 ·intro i i' b hi GI KG e;rw[fK]at hi GI;by_cases h1:i=k
  ·subst h1;rw[upd_same]at e;rw[fl _ _ (fun x=>KG x.symm)];rcases hat with e2|e2
   ·rw[e2]at e;exact h.apart i i' b hi GI KG e
   ·rw[e2]at e;cases e;intro x;exact absurd (lt _ (h.my i' _ GI x).1) (by omega)
  ·rw[fl _ _ h1]at e;by_cases h2:i'=k
   ·subst h2;rw[upd_same];rcases hat with e2|e2
    ·rw[e2];exact h.apart i i' b hi GI KG e
    ·rw[e2];intro x;cases x;exact absurd (lt _ (h.my i _ hi e).1) (by omega)
   ·rw[fl _ _ h2];exact h.apart i i' b hi GI KG e
 ·intro i m hi hm;rcases NL i m hi with⟨rfl,rfl⟩|⟨hik,h'⟩
  ·simp[Nd.kid]at hm
  ·rw[fl _ _ hik];exact h.TV i m h' hm
theorem gX.push(h:gX tN tA A K w nv l av kv)(rY:∀k,A k->¬K k)(lt:∀k,K k->k<w.heap.size)(sD:∀k,A k->k<w.heap.size){n:Nd}{a v':Value}
  (ha:w.ownsRow 0 tA 2 a n.attrs.length (d_ n.attrs)) (mz:∀k,a.ownBlock=some k->A k) (hn:n.kids=[])
  (hg:w.grownBy w1 nv.ownBlock) (ho:w1.ownsRow 0 tN 5 v' (l.length+1) (eZ av kv 0 l++gM n a fh)) (hat:v'.ownBlock=nv.ownBlock\/v'.ownBlock=some w.heap.size):
  gX tN tA A (fun i=>K i\/i=w.heap.size) w1 v' (l++[n]) (upd av l.length a) (upd kv l.length fh):=by
 have keep:∀b,b<w.heap.size->nv.ownBlock≠some b->w1.heap[b]?=w.heap[b]?:=fun b hb h2=>hg.block b hb (fun e=>h2 e.symm);have hvK:∀b,v'.ownBlock=some b->(K b\/b=w.heap.size):=fun b e=>by
  rcases hat with e2|e2
  ·rw[e2]at e;exact Or.inl (h.nz b e)
  ·rw[e2]at e;cases e;exact Or.inr rfl
 have hget:∀i m,(l++[n])[i]?=some m->(i<l.length/\l[i]?=some m)\/(i=l.length/\m=n):=by
  intro i m hi;by_cases h1:i<l.length
  ·rw[aU h1]at hi;exact Or.inl ⟨h1,hi⟩
  ·rw[aW (by omega)]at hi;have h2:=(List.getElem?_eq_some_iff.1 hi).1;simp only[aC,aI]at h2;have h3:i-l.length=0:=by omega
   rw[h3]at hi;exact Or.inr ⟨by omega,by simpa using hi.symm⟩
 refine⟨?_,hvK,?_,?_,?_,?_,?_,?_⟩
 ·rw[ax,qX];have e1:eZ (upd av l.length a) (upd kv l.length fh) 0 l=eZ av kv 0 l:=od l 0 fun j _ b=>⟨fl _ _ (by omega),fl _ _ (by omega)⟩
  have e2:eZ (upd av l.length a) (upd kv l.length fh) (0+l.length) [n]=gM n a fh:=by simp only[eZ,aG,upd_same,aP]
  rw[e1,e2];exact ho
 ·intro i m hi;rcases hget i m hi with⟨h1,h2⟩|⟨rfl,rfl⟩
  ·rw[fl _ _ (by omega)];exact dW (h.attr i m h2) fun b e=>keep b (ej (h.attr i m h2) e) fun x=>rY b (h.vg i b h1 e) (h.nz b x)
  ·rw[upd_same];exact dW ha fun b e=>keep b (ej ha e) fun x=>rY b (mz b e) (h.nz b x)
 ·intro i b hi e;by_cases h1:i=l.length
  ·subst h1;rw[upd_same]at e;exact mz b e
  ·rw[fl _ _ h1]at e;exact h.vg i b (by simp only[ax,aC,aI]at hi;omega) e
 ·intro i m hi;rcases hget i m hi with⟨h1,h2⟩|⟨rfl,rfl⟩
  ·rw[fl _ _ (by omega)];exact dW (h.kid i m h2) fun b e=>keep b (ej (h.kid i m h2) e) (h.my i b h1 e).2
  ·rw[upd_same,hn];exact⟨rfl,Or.inl ⟨rfl,rfl⟩⟩
 ·intro i b hi e;by_cases h1:i=l.length
  ·subst h1;rw[upd_same]at e;cases e
  ·rw[fl _ _ h1]at e;have GJ:i<l.length:=by simp only[ax,aC,aI]at hi;omega
   have hk:=h.my i b GJ e;refine⟨Or.inl hk.1,?_⟩;rcases hat with e2|e2
   ·rw[e2];exact hk.2
   ·rw[e2];intro x;cases x;exact absurd (lt _ hk.1) (by omega)
 ·intro i j b hi hj YH e;simp only[ax,aC,aI]at hi hj;by_cases h1:i=l.length
  ·subst h1;rw[upd_same]at e;cases e
  ·rw[fl _ _ h1]at e;by_cases h2:j=l.length
   ·subst h2;rw[upd_same];intro x;cases x
   ·rw[fl _ _ h2];exact h.apart i j b (by omega) (by omega) YH e
 ·intro i m hi hm;rcases hget i m hi with⟨h1,h2⟩|⟨rfl,rfl⟩
  ·rw[fl _ _ (by omega)];exact h.TV i m h2 hm
  ·rw[upd_same]
end
section
variable{A K K':Nat->Prop}{w w' w1:World}{nv:Value}{av kv:Nat->Value}{g:Gr}{X:Nat}{sv rv:Value}
structure jD(A K:Nat->Prop)(X:Nat)(w:World)(g:Gr)(nv:Value)(av kv:Nat->Value)(sv rv:Value):Prop where
 blk:w.heap[X]?=some (.cells #[sv,rv,nv,.int .i64 (iD g.stack)] 54 (0,0))
 nodes:gX 40 42 A K w nv g.nodes av kv
 nA:¬A X
 nK:¬K X
 rY:∀k,A k->¬K k
 lt:∀k,K k->k<w.heap.size
 sD:∀k,A k->k<w.heap.size
theorem jD.cell(h:jD A K X w g nv av kv sv rv)(i:Nat){u:Value}(e:#[sv,rv,nv,.int .i64 (iD g.stack)][i]?=some u):w.cell? ⟨X,i,none⟩=some u:=cell_of h.blk e
theorem QE:(prog.info? 40).map (fun i=>(i.zero,i.size,i.bytes))=some (some (.agg #[.string ⟨#[]⟩,.slice none 0 0,.string ⟨#[]⟩,.slice none 0 0,.int .i64 0]),5,88):=by kernel_rfl
theorem uw:(prog.info? 3).map (fun i=>(i.zero,i.size,i.bytes))=some (some (.int .i64 0),1,8):=by kernel_rfl
theorem xN(w:World)(n:Nd)(a k:Value)(t:TypeId):∀j u,(gM n a k)[j]?=some u->(w.alloc (.cells (gM n a k).toArray t)).cell? ((⟨w.heap.size,0,none⟩:Addr).add j)=some u:=by
 intro j u hu;rw[cZ,aG,cell_of (bf w _) (v:=u)];rw[cu];exact hu
theorem DL(n:Nd)(a k:Value)(ha:a.oneCell'=true)(hk:k.oneCell'=true):∀u∈gM n a k,u.oneCell'=true:=by
 intro u hu;simp only[gM,bM,bB,cm]at hu;rcases hu with rfl|rfl|rfl|rfl|rfl
 ·rfl
 ·exact ha
 ·rfl
 ·exact hk
 ·rfl
theorem zE{u0 w2:World}{K1:Nat->Prop}{l1:List Nd}{n:Nd}{a v':Value}{d:Value}(hX:u0.heap[X]?=some (.cells #[sv,rv,nv,d] 54 (0,0)))(hn:gX 40 42 A K1 u0 nv l1 av kv)(rY:∀k,A k->¬K1 k)(lt:∀k,K1 k->k<u0.heap.size)(sD:∀k,A k->k<u0.heap.size)(nA:¬A X)(nK:¬K1 X)
  (ha:u0.ownsRow 0 42 2 a n.attrs.length (d_ n.attrs)) (mz:∀k,a.ownBlock=some k->A k) (hk:n.kids=[]) (hg:u0.grownBy w2 nv.ownBlock) (ho:w2.ownsRow 0 40 5 v' (l1.length+1) (eZ av kv 0 l1++gM n a fh)) (hat:v'.ownBlock=nv.ownBlock\/v'.ownBlock=some u0.heap.size):
  gX 40 42 A (fun i=>K1 i\/i=u0.heap.size) (w2.setCell ⟨X,2,none⟩ v') v' (l1++[n]) (upd av l1.length a) (upd kv l1.length fh)/\(w2.setCell ⟨X,2,none⟩ v').heap[X]?=some (.cells #[sv,rv,v',d] 54 (0,0))/\
  Frame (fun k=>k=X\/K1 k) u0 (w2.setCell ⟨X,2,none⟩ v'):=by
 have qY:X<u0.heap.size:=dQ hX;have Rv:nv.ownBlock≠some X:=fun e=>nK (hn.nz X e);have Yx:w2.heap[X]?=some (.cells #[sv,rv,nv,d] 54 (0,0)):=(hg.block X qY (fun e=>Rv e.symm)).trans hX;have hp:=hn.push rY lt sD ha mz hk hg ho hat;refine⟨hp.frame (fun k _ hA=>ak _ _ _ _ (fun e=>nA (by have e':k=X:=e;rw[<-e'];exact hA))) (fun k hk2 hK=>ak _ _ _ _ ?_) (fun k _ hK=>hK),?_,⟨hg.os,hg.tape,hg.output,?_,?_⟩⟩
 ·rintro rfl;rcases hK with e|e
  ·exact nK e
  ·omega
 ·rw[eh Yx];rfl
 ·have:=hg.size;simpa [World.setCell]using this
 ·intro k hk2 hf;rw[ak _ _ _ _ (fun e=>hf (Or.inl e))];exact hg.block k hk2 (fun e=>hf (Or.inr (hn.nz k e.symm)))
theorem jD.next{g':Gr}{jX:Value}{je jQ:Nat->Value}{Kx:Nat->Prop}(h:jD A K X w g nv av kv sv rv)(fr:Frame (fun k=>k=X\/K k) w w')(hn:gX 40 42 A Kx w' jX g'.nodes je jQ)(hK:∀k,k<w'.heap.size->Kx k->Grow K w w' k)
  (hb:w'.heap[X]?=some (.cells #[sv,rv,jX,.int .i64 (iD g'.stack)] 54 (0,0))):jD A (Grow K w w') X w' g' jX je jQ sv rv:=by
 have qY:=dQ h.blk;refine⟨hb,hn.frame (fun _ _ _=>rfl) (fun _ _ _=>rfl) hK,h.nA,?_,?_,iu h.lt fr.size,fun k hA=>aq (h.sD k hA) fr.size⟩
 ·rintro(e|e)
  ·exact h.nK e
  ·omega
 ·rintro k hA (e|e)
  ·exact h.rY k hA e
  ·have:=h.sD k hA;omega
theorem Frame.trans'{F:Nat->Prop}{a b c:World}(h:Frame F a b)(k:Frame F b c):Frame F a c:=
 ⟨k.os.trans h.os,k.tape.trans h.tape,k.output.trans h.output,aw h.size k.size,fun i hi hf=>(k.block i (aq hi h.size) hf).trans (h.block i hi hf)⟩
theorem Frame.QF{F:Nat->Prop}(w:World)(o:Obj):Frame F w (w.alloc o):=⟨rfl,rfl,rfl,by simp,fun k hk _=>ay _ _ _ hk⟩
theorem Frame.drew'{F:Nat->Prop}(w:World):Frame F w w.drew:=⟨rfl,rfl,rfl,au _,fun _ _ _=>rfl⟩
theorem MR{n:Nd}{a v':Value}{o1 o2:Obj}{w2:World}(h:jD A K X w g nv av kv sv rv)(hs:g.stack=[])(ha:w.ownsRow 0 42 2 a n.attrs.length (d_ n.attrs))(mz:∀k,a.ownBlock=some k->A k)(hn:n.kids=[])
  (hg:((w.alloc o1).drew.alloc o2).grownBy w2 nv.ownBlock) (ho:w2.ownsRow 0 40 5 v' (g.nodes.length+1) (eZ av kv 0 g.nodes++gM {n with up:= -1} a fh)) (hat:v'.ownBlock=nv.ownBlock\/v'.ownBlock=some ((w.alloc o1).drew.alloc o2).heap.size):
  ∃jX je jQ,jD A (Grow K w (w2.setCell ⟨X,2,none⟩ v')) X (w2.setCell ⟨X,2,none⟩ v') (g.put n) jX je jQ sv rv/\Frame (fun k=>k=X\/K k) w (w2.setCell ⟨X,2,none⟩ v'):=by
 have f1:∀F:Nat->Prop,Frame F w ((w.alloc o1).drew.alloc o2):=fun F=>((Frame.QF _ _).trans' (Frame.drew' _)).trans' (Frame.QF _ _);have qY:=dQ h.blk;have keep:∀k,k<w.heap.size->((w.alloc o1).drew.alloc o2).heap[k]?=w.heap[k]?:=fun k hk=>(f1 (fun _=>False)).block k hk (fun x=>x);have hsz:=(f1 (fun _=>False)).size;obtain⟨p1,p2,p3⟩:=zE (n:={n with up:= -1}) (a:=a) ((keep X qY).trans h.blk) (h.nodes.frame (K':=K) (fun k hk _=>keep k hk) (fun k hk _=>keep k hk) (fun _ _ x=>x)) h.rY (fun k x=>aq (h.lt k x) hsz) (fun k x=>aq (h.sD k x) hsz) h.nA h.nK
  (dW ha fun k e=>keep k (ej ha e)) mz hn hg ho hat
 have fr:=(f1 (fun k=>k=X\/K k)).trans' p3;have Ji:g.put n=⟨g.nodes++[{n with up:= -1}],g.stack⟩:=by unfold Gr.put;rw[hs]
 rw[Ji];refine⟨_,_,_,h.next (g':=⟨g.nodes++[{n with up:= -1}],g.stack⟩) fr p1 ?_ p2,fr⟩;rintro k hk (e|e)
 ·exact Or.inl e
 ·exact Or.inr ⟨by omega,hk⟩
theorem QG(h:jD A K X w g nv av kv sv rv)(hs:g.stack=[])(n:Nd)(a:Value)(z:Int)(ha:w.ownsRow 0 42 2 a n.attrs.length (d_ n.attrs))(mz:∀k,a.ownBlock=some k->A k)(hn:n.kids=[])(hb:g.nodes.length<=17179869184):
  Z4 39 #[Z8 X,.agg #[.string ⟨n.name.toArray⟩,a,.string ⟨n.text.toArray⟩,.slice none 0 0,.int .i64 z]] w fun e w'=>e=.returned (.int .i64 g.nodes.length)/\∃jX je jQ,jD A (Grow K w w') X w' (g.put n) jX je jQ sv rv/\Frame (fun k=>k=X\/K k) w w':=by
 obtain⟨ai,ac,l9⟩:=dS ha;obtain⟨ni,nc,pW⟩:=dS h.nodes.row;subst l9;subst pW;have c0:w.cell? ⟨X,2,none⟩=some (.slice ni g.nodes.length nc):=h.cell 2 rfl;have c1:w.cell? ⟨X,3,none⟩=some (.int .i64 (-1)):=by have:=h.cell 3 rfl;rw[hs]at this;exact this
 have c0a:∀o:Obj,(w.alloc o).cell? ⟨X,2,none⟩=some (.slice ni g.nodes.length nc):=fun o=>dV o c0;have c1a:∀o:Obj,(w.alloc o).cell? ⟨X,3,none⟩=some (.int .i64 (-1)):=fun o=>dV o c1;have qY:=dQ h.blk;have Rv:(Value.slice ni g.nodes.length nc).ownBlock≠some X:=fun e=>h.nK (h.nodes.nz X e);obtain⟨i0,hi,hz0,hz1,hz2⟩:=aY QE;have HR:=a_ h.nodes.row;have HA:=a_ ha;have G9:=a_ mz;have H:=a_ h;clear h ha mz;go_enter func39,ntmps39;go_wp2_with fail;obtain⟨W1,hW1⟩:∃W,w.alloc (.cells #[.string ⟨n.name.toArray⟩,.slice ai (List.length n.attrs) ac,.string ⟨n.text.toArray⟩,.slice none 0 0,.int .i64 (-1)] 40)=W:=⟨_,rfl⟩
 rw[hW1];have eA:W1.heap[w.heap.size]?=some (.cells #[.string ⟨n.name.toArray⟩,.slice ai (List.length n.attrs) ac,.string ⟨n.text.toArray⟩,.slice none 0 0,.int .i64 (-1)] 40):=by rw[<-hW1];exact dR _ _
 have n0:=cell_of (i:=0) eA rfl;have n1:=cell_of (i:=1) eA rfl;have n2:=cell_of (i:=2) eA rfl;have n3:=cell_of (i:=3) eA rfl;have n4:=cell_of (i:=4) eA rfl;have x0:W1.cell? ⟨X,2,none⟩=some (.slice ni g.nodes.length nc):=by rw[<-hW1];exact c0a _
 have ZS:∀o:Obj,(W1.alloc o).cell? ⟨X,2,none⟩=some (.slice ni g.nodes.length nc):=fun o=>dV o x0;have XU:W1.heap[X]?=some (.cells #[sv,rv,.slice ni g.nodes.length nc,.int .i64 (iD g.stack)] 54 (0,0)):=by rw[<-hW1,ay _ _ _ qY];exact H.out.blk
 have DY:Hid (W1.ownsRow 0 40 5 (.slice ni g.nodes.length nc) g.nodes.length (eZ av kv 0 g.nodes)):=a_ (by rw[<-hW1];exact HR.out.alloc _);have HXB:=a_ XU;have KW:=a_ hW1;have f0:=dY (i:=2) XU;clear hW1 eA c0a c1a c0 c1 XU;go_region_law
  (first|(
   refine eL rfl (.tmp 45) (.tmp 47) 22 rfl 40 i0 _ 5 88 underlying22 hi hz0 hz1 hz2 rfl (by decide) (.slice ni g.nodes.length nc) g.nodes.length (eZ av kv 0 g.nodes) (by simp[Act.eval,Act.put]) (DY.out.drew.alloc _) ⟨W1.heap.size,0,none⟩ 1 1 (gM {n with up:= -1} (.slice ai (List.length n.attrs) ac) fh) (by simp[Act.eval,Act.put]) rfl (xN _ _ _ _ _) (DL _ _ _ rfl rfl) (by unfold maxLen;omega) (by omega) ?_;intro v' w2 ho hg hat;obtain⟨sP,cap',rfl⟩:=dS ho;have hb1:=fF HXB.out Rv hg;have ZT:w2.cell? ⟨X,2,none⟩=some (.slice ni g.nodes.length nc):=cell_of hb1 rfl;have ZU:=dY (i:=2) hb1;have HO:=a_ ho;have HG:=a_ hg;have sq:=a_ hat;clear ho hg hat hb1))
 all_goals
  go_wp2;go_ret;have h3:=KW.out;subst h3;exact⟨rfl,MR H.out hs HA.out G9.out hn HG.out HO.out sq.out⟩
end
section
variable{A K K':Nat->Prop}{w w' w1:World}{nv:Value}{av kv:Nat->Value}{g:Gr}{X:Nat}{sv rv:Value}
structure dZ(w W:World):Prop where
 os:W.os=w.os
 tape:W.tape=w.tape
 output:W.output=w.output
 size:w.heap.size<=W.heap.size
 keep:∀b,b<w.heap.size->W.heap[b]?=w.heap[b]?
theorem dZ.frame{F:Nat->Prop}{W:World}(h:dZ w W):Frame F w W:=⟨h.os,h.tape,h.output,h.size,fun b hb _=>h.keep b hb⟩
theorem dZ.nodes{W:World}{l:List Nd}(h:dZ w W)(hn:gX 40 42 A K w nv l av kv):gX 40 42 A K W nv l av kv:=hn.frame (fun k hk _=>h.keep k hk) (fun k hk _=>h.keep k hk) (fun _ _ x=>x)
theorem dZ.alloc{W:World}(h:dZ w W)(o:Obj):dZ w (W.alloc o):=⟨h.os,h.tape,h.output,by have:=h.size;simp;omega,fun b hb=>(ay _ _ _ (aq hb h.size)).trans (h.keep b hb)⟩
theorem dZ.drewN{W:World}(h:dZ w W)(n:Nat):dZ w (W.drewN n):=⟨h.os,h.tape,h.output,h.size,h.keep⟩
theorem dZ.refl(w:World):dZ w w:=⟨rfl,rfl,rfl,au _,fun _ _=>rfl⟩
theorem TW{k:Nat}{st:List Nat}{m:Nd}{W1 w2:World}{o:Obj}{v':Value}{gN nc:Nat}(h:jD A K X w g nv av kv sv rv)(hm:g.nodes[k]?=some m)(pW:nv=Z9 gN g.nodes.length nc)(hW:dZ w W1)
  (hg:(W1.alloc o).grownBy w2 (kv k).ownBlock) (ho:w2.ownsRow 0 3 1 v' (m.kids.length+1) (e8 m.kids++[.int .i64 g.nodes.length])) (hat:v'.ownBlock=(kv k).ownBlock\/v'.ownBlock=some (W1.alloc o).heap.size):
  gX 40 42 A (fun i=>K i\/i=(W1.alloc o).heap.size) (w2.setCell ⟨gN,k*5+3,none⟩ v') nv (fJ g.nodes k g.nodes.length) av (upd kv k v')/\
  (∀b,b<(W1.alloc o).heap.size->¬K b->(w2.setCell ⟨gN,k*5+3,none⟩ v').heap[b]?=(W1.alloc o).heap[b]?)/\Frame K w (w2.setCell ⟨gN,k*5+3,none⟩ v')/\(W1.alloc o).heap.size<=(w2.setCell ⟨gN,k*5+3,none⟩ v').heap.size:=by
 have hk:k<g.nodes.length:=(List.getElem?_eq_some_iff.1 hm).1;have Jh:K gN:=h.nodes.nz gN (by rw[pW];rfl);have hM:=hW.alloc o;have hn:=(hM.nodes h.nodes).fJ (j:=g.nodes.length) h.rY (fun i x=>aq (h.lt i x) hM.size) (fun i x=>aq (h.sD i x) hM.size) pW hm hg ho hat;have hb:∀b,b<(W1.alloc o).heap.size->¬K b->(w2.setCell ⟨gN,k*5+3,none⟩ v').heap[b]?=(W1.alloc o).heap[b]?:=by
  intro b hb hK;rw[ak _ _ _ _ (fun e=>hK (by have e':b=gN:=e;rw[e'];exact Jh))];exact hg.block b hb (fun e=>hK (h.nodes.my k b hk e.symm).1)
 have hz:(W1.alloc o).heap.size<=(w2.setCell ⟨gN,k*5+3,none⟩ v').heap.size:=by
  have:=hg.size;simpa [World.setCell]using this
 exact⟨hn,hb,⟨hg.os.trans hM.os,hg.tape.trans hM.tape,hg.output.trans hM.output,aw hM.size hz,fun i hi hK=>(hb i (aq hi hM.size) hK).trans (hM.keep i hi)⟩,hz⟩
theorem Jj{k:Nat}{st:List Nat}{n:Nd}{a v1 v':Value}{o2:Obj}{W3 w4:World}{Z:Nat}(h:jD A K X w g nv av kv sv rv)(hs:g.stack=k::st)(ha:w.ownsRow 0 42 2 a n.attrs.length (d_ n.attrs))(mz:∀k,a.ownBlock=some k->A k)(hn:n.kids=[])
  (hZ:w.heap.size<=Z) (hZ3:Z<=W3.heap.size) (p1:gX 40 42 A (fun i=>K i\/i=Z) W3 nv (fJ g.nodes k g.nodes.length) av (upd kv k v1)) (p3:Frame K w W3) (hX:W3.heap[X]?=some (.cells #[sv,rv,nv,.int .i64 (iD g.stack)] 54 (0,0)))
  (hg:(W3.drew.alloc o2).grownBy w4 nv.ownBlock) (ho:w4.ownsRow 0 40 5 v' (g.nodes.length+1) (eZ av (upd kv k v1) 0 (fJ g.nodes k g.nodes.length)++gM {n with up:=k} a fh)) (hat:v'.ownBlock=nv.ownBlock\/v'.ownBlock=some (W3.drew.alloc o2).heap.size):
  ∃jX je jQ,jD A (Grow K w (w4.setCell ⟨X,2,none⟩ v')) X (w4.setCell ⟨X,2,none⟩ v') (g.put n) jX je jQ sv rv/\Frame (fun k=>k=X\/K k) w (w4.setCell ⟨X,2,none⟩ v'):=by
 have qY:=dQ h.blk;have hM:dZ W3 (W3.drew.alloc o2):=((dZ.refl W3).drewN 1).alloc o2
 --what lies at all
 let K1:Nat->Prop:=fun i=>(K i\/i=Z)/\i<W3.heap.size
 have p1':gX 40 42 A K1 W3 nv (fJ g.nodes k g.nodes.length) av (upd kv k v1):=p1.frame (fun _ _ _=>rfl) (fun _ _ _=>rfl) (fun i hi x=>⟨x,hi⟩);have q1:∀i,A i->¬K1 i:=fun i hA x=>by
  rcases x.1 with e|e
  ·exact h.rY i hA e
  ·have:=h.sD i hA;omega
 have q2:∀i,K1 i->i<(W3.drew.alloc o2).heap.size:=fun i x=>aq x.2 hM.size;have q3:∀i,A i->i<(W3.drew.alloc o2).heap.size:=fun i x=>aq (h.sD i x) (aw p3.size hM.size);have q4:¬K1 X:=fun x=>by
  rcases x.1 with e|e
  ·exact h.nK e
  ·omega
 have hA3:∀i,A i->W3.heap[i]?=w.heap[i]?:=fun i hA=>p3.block i (h.sD i hA) (fun x=>h.rY i hA x);have ha3:(W3.drew.alloc o2).ownsRow 0 42 2 a n.attrs.length (d_ n.attrs):=dW ha fun i e=>(hM.keep i (aq (ej ha e) p3.size)).trans (hA3 i (mz i e));obtain⟨r1,r2,r3⟩:=zE (n:={n with up:=k}) (a:=a) ((hM.keep X (aq qY p3.size)).trans hX) (hM.nodes p1') q1 q2 q3 h.nA q4 ha3 mz hn hg (by rw[fK];exact ho) hat;have fr:Frame (fun k=>k=X\/K k) w (w4.setCell ⟨X,2,none⟩ v'):=by
  refine⟨r3.os.trans (hM.os.trans p3.os),r3.tape.trans (hM.tape.trans p3.tape),r3.output.trans (hM.output.trans p3.output),aw p3.size (aw hM.size r3.size),fun i hi hf=>?_⟩;rw[r3.block i (aq hi (aw p3.size hM.size)) (fun x=>?_),hM.keep i (aq hi p3.size)]
  ·exact p3.block i hi (fun x=>hf (Or.inr x))
  ·rcases x with e|e
   ·exact hf (Or.inl e)
   ·rcases e.1 with e|e
    ·exact hf (Or.inr e)
    ·omega
 have Ji:g.put n=⟨fJ g.nodes k g.nodes.length++[{n with up:=(k:Int)}],g.stack⟩:=by unfold Gr.put;rw[hs]
 rw[Ji];refine⟨_,_,_,h.next (g':=⟨fJ g.nodes k g.nodes.length++[{n with up:=(k:Int)}],g.stack⟩) fr r1 ?_ r2,fr⟩;rintro i hi (e|e)
 ·rcases e.1 with e1|e1
  ·exact Or.inl e1
  ·exact Or.inr ⟨by omega,hi⟩
 ·exact Or.inr ⟨by have:=p3.size;have:=hM.size;omega,hi⟩
theorem QH(h:jD A K X w g nv av kv sv rv)(k:Nat)(st:List Nat)(m:Nd)(hs:g.stack=k::st)(hm:g.nodes[k]?=some m)(n:Nd)(a:Value)(z:Int)(ha:w.ownsRow 0 42 2 a n.attrs.length (d_ n.attrs))(mz:∀k,a.ownBlock=some k->A k)(hn:n.kids=[])(hb:g.nodes.length<=17179869184)(hb2:m.kids.length<=17179869184):
  Z4 39 #[Z8 X,.agg #[.string ⟨n.name.toArray⟩,a,.string ⟨n.text.toArray⟩,.slice none 0 0,.int .i64 z]] w fun e w'=>e=.returned (.int .i64 g.nodes.length)/\∃jX je jQ,jD A (Grow K w w') X w' (g.put n) jX je jQ sv rv/\Frame (fun k=>k=X\/K k) w w':=by
 obtain⟨ai,ac,l9⟩:=dS ha;obtain⟨gN,nc,pW,hmx,Jh,m0,m1,m2,m3,m4⟩:=h.nodes.cells k m hm;have vS:k<g.nodes.length:=(List.getElem?_eq_some_iff.1 hm).1;have AA:=h.nodes.kid k m hm;obtain⟨ki,kc,vC⟩:=dS AA;rw[vC]at m3 AA;subst l9;subst pW;have c0:w.cell? ⟨X,2,none⟩=some (Z9 gN g.nodes.length nc):=h.cell 2 rfl;have c1:w.cell? ⟨X,3,none⟩=some (.int .i64 k):=by have:=h.cell 3 rfl;rw[hs]at this;exact this
 have c0a:∀o:Obj,(w.alloc o).cell? ⟨X,2,none⟩=some (Z9 gN g.nodes.length nc):=fun o=>dV o c0;have c1a:∀o:Obj,(w.alloc o).cell? ⟨X,3,none⟩=some (.int .i64 k):=fun o=>dV o c1;have m3a:∀o:Obj,(w.alloc o).cell? ⟨gN,k*5+3,none⟩=some (.slice ki m.kids.length kc):=fun o=>dV o m3;have qY:=dQ h.blk;have hXg:gN≠X:=fun e=>h.nK (e▸Jh);have hkX:(Value.slice ki m.kids.length kc).ownBlock≠some X:=fun e=>h.nK (h.nodes.my k X vS (by rw[vC];exact e)).1;have hkg:(Value.slice ki m.kids.length kc).ownBlock≠some gN:=fun e=>(h.nodes.my k gN vS (by rw[vC];exact e)).2 rfl;have hkn:¬((k:Int)= -1):=by omega
 have hne:((k:Int) != -1)=true:=by simp
 have XV:(k:Int)<g.nodes.length:=by omega
 obtain⟨i0,hi,hz0,hz1,hz2⟩:=aY QE;obtain⟨j0,hj,Rt,ED,D3⟩:=aY uw;have HR:=a_ h.nodes.row;have ZV:=a_ AA;have HA:=a_ ha;have G9:=a_ mz;have H:=a_ h;clear h ha mz AA m0 m1 m2 m4;go_enter func39,ntmps39;go_wp2_with fail;go_quiet(fail);obtain⟨W1,hW1⟩:∃W,(w.alloc (.cells #[.string ⟨n.name.toArray⟩,.slice ai (List.length n.attrs) ac,.string ⟨n.text.toArray⟩,.slice none 0 0,.int .i64 (k:Int)] 40)).drewN nq=W:=⟨_,rfl⟩
 rw[hW1];have hM:dZ w W1:=by rw[<-hW1];exact((dZ.refl w).alloc _).drewN _
 have eA:W1.heap[w.heap.size]?=some (.cells #[.string ⟨n.name.toArray⟩,.slice ai (List.length n.attrs) ac,.string ⟨n.text.toArray⟩,.slice none 0 0,.int .i64 (k:Int)] 40):=by rw[<-hW1];exact dR w _
 have XU:W1.heap[X]?=some (.cells #[sv,rv,Z9 gN g.nodes.length nc,.int .i64 (iD g.stack)] 54 (0,0)):=(hM.keep X qY).trans H.out.blk;obtain⟨cur,zW⟩:=fq HR.out (k:=gN) rfl;have sw:gN<w.heap.size:=dQ zW;have U4:W1.heap[gN]?=some (.cells cur 40 (0,0)):=(hM.keep gN sw).trans zW;have k3:W1.cell? ⟨gN,k*5+3,none⟩=some (.slice ki m.kids.length kc):=(ar (hM.keep gN sw)).trans m3;have HK1:Hid (W1.ownsRow 0 3 1 (.slice ki m.kids.length kc) m.kids.length (e8 m.kids)):=a_ (dW ZV.out fun b e=>hM.keep b (ej ZV.out e));have HM:=a_ hM;have wF:=a_ eA;have HXB:=a_ XU;have Jk:=a_ U4;have HM3:=a_ m3;clear hW1 eA c0a c1a c0 c1 XU hM zW U4 m3a m3;go_wp2_with(at_builtin;refine bu _ rfl (.tmp 35) (.tmp 37) 31 rfl 0 3 j0 _ 1 8 underlying31 hj Rt ED D3 rfl (by decide) (.slice ki m.kids.length kc) m.kids.length (e8 m.kids) rfl (HK1.out.alloc _) ⟨W1.heap.size,0,none⟩ 1 1 [.int .i64 g.nodes.length] rfl rfl ?c1 ?c2 ?c3 ?c4 (aB _) ?_)
 case c1=>
  intro j u hj
  match j,hj with
  |0,hj=>simp at hj;subst hj;simp[Addr.add]
  |(j+1),hj=>simp at hj
 case c2=>intro u hu;simp at hu;subst hu;rfl
 case c3=>unfold maxLen;omega
 case c4=>omega
 intro v' w2 ho hg _ hat;obtain⟨sP,cap',rfl⟩:=dS ho;have aa8:=vC;rw[<-vC]at hg hat;obtain⟨p1,p2,p3,p4⟩:=TW (st:=st) H.out hm rfl HM.out hg ho (by simpa using hat);have hlW:w.heap.size<=W1.heap.size:=HM.out.size;have hbl:w.heap.size<W1.heap.size:=dQ wF.out;have QJ:w2.heap[gN]?=some (.cells cur 40 (0,0)):=by rw[hg.block gN (by simp;omega) (by rw[vC];exact fun e=>hkg e.symm),ay _ _ _ (by omega)];exact Jk.out
 have k3':w2.cell? ⟨gN,k*5+3,none⟩=some (.slice ki m.kids.length kc):=by
  rw[ar (w:=w) (a:=⟨gN,k*5+3,none⟩)]
  ·exact HM3.out
  ·rw[QJ,<-Jk.out];exact HM.out.keep gN sw
 have f3':=dY (i:=k*5+3) QJ;have P1:=a_ p1;have P2:=a_ p2;have P3:=a_ p3;have P4:=a_ p4;clear p1 p2 p3 p4 hg ho hat QJ aa8 vC;go_wp2_with fail;obtain⟨W3,hW3⟩:∃W,w2.setCell ⟨gN,k*5+3,none⟩ (.slice sP (m.kids.length+1) cap')=W:=⟨_,rfl⟩
 rw[hW3];rw[hW3]at P1 P2 P3 P4;have TY:W3.heap[X]?=some (.cells #[sv,rv,Z9 gN g.nodes.length nc,.int .i64 (iD g.stack)] 54 (0,0)):=by rw[P2.out X (by simp;omega) H.out.nK,ay _ _ _ (by omega)];exact HXB.out
 have Ce:W3.heap[w.heap.size]?=some (.cells #[.string ⟨n.name.toArray⟩,.slice ai (List.length n.attrs) ac,.string ⟨n.text.toArray⟩,.slice none 0 0,.int .i64 (k:Int)] 40):=by rw[P2.out w.heap.size (by simp;omega) (fun x=>by have:=H.out.lt _ x;omega),ay _ _ _ hbl];exact wF.out
 have n0:=cell_of (i:=0) Ce rfl;have n1:=cell_of (i:=1) Ce rfl;have n2:=cell_of (i:=2) Ce rfl;have n3:=cell_of (i:=3) Ce rfl;have n4:=cell_of (i:=4) Ce rfl;have x0:W3.cell? ⟨X,2,none⟩=some (Z9 gN g.nodes.length nc):=cell_of TY rfl;have ZS:∀o:Obj,(W3.alloc o).cell? ⟨X,2,none⟩=some (Z9 gN g.nodes.length nc):=fun o=>dV o x0;have hrow3:=P1.out.row;rw[fK]at hrow3;have HR3:=a_ hrow3;have ZW:=a_ TY;have Rv:(Z9 gN g.nodes.length nc).ownBlock≠some X:=fun e=>hXg (by cases e;rfl);have f0:=dY (i:=2) TY;clear hW3 Ce TY hrow3 k3' f3' k3;go_region_law
  (first|(
   refine eL rfl (.tmp 45) (.tmp 47) 22 rfl 40 i0 _ 5 88 underlying22 hi hz0 hz1 hz2 rfl (by decide) (Z9 gN g.nodes.length nc) g.nodes.length (eZ av (upd kv k (.slice sP (m.kids.length+1) cap')) 0 (fJ g.nodes k g.nodes.length)) (by simp[Act.eval,Act.put]) (HR3.out.drew.alloc _) ⟨W3.heap.size,0,none⟩ 1 1 (gM {n with up:=k} (.slice ai (List.length n.attrs) ac) fh) (by simp[Act.eval,Act.put]) rfl (xN _ _ _ _ _) (DL _ _ _ rfl rfl) (by unfold maxLen;omega) (by omega) ?_;intro v' w4 ho hg hat;obtain⟨ao4,abQ,rfl⟩:=dS ho;have hb1:=fF ZW.out Rv hg;have ZT:w4.cell? ⟨X,2,none⟩=some (Z9 gN g.nodes.length nc):=cell_of hb1 rfl;have ZU:=dY (i:=2) hb1;have HO:=a_ ho;have HG:=a_ hg;have sq:=a_ hat;clear ho hg hat hb1))
 all_goals
  go_wp2;go_ret;exact⟨rfl,Jj H.out hs HA.out G9.out hn (by have:=HM.out.size;simp;omega) P4.out P1.out P3.out ZW.out HG.out HO.out sq.out⟩
def lD(g:Gr):Prop:=∀(i:Nat) (m:Nd),g.nodes[i]?=some m->m.kids.length<=g.nodes.length
theorem Gg(h:jD A K X w g nv av kv sv rv)(wf:g.Wf)(hk:lD g)(n:Nd)(a:Value)(z:Int)(ha:w.ownsRow 0 42 2 a n.attrs.length (d_ n.attrs))(mz:∀k,a.ownBlock=some k->A k)(hn:n.kids=[])(hb:g.nodes.length<=17179869184):
  Z4 39 #[Z8 X,.agg #[.string ⟨n.name.toArray⟩,a,.string ⟨n.text.toArray⟩,.slice none 0 0,.int .i64 z]] w fun e w'=>e=.returned (.int .i64 g.nodes.length)/\∃jX je jQ,jD A (Grow K w w') X w' (g.put n) jX je jQ sv rv/\Frame (fun k=>k=X\/K k) w w':=by
 cases hs:g.stack with
 |nil=>exact QG h hs n a z ha mz hn hb
 |cons k st=>
  obtain⟨m,hm,_,_⟩:=wf.top hs;exact QH h k st m hs hm n a z ha mz hn hb (aw (hk k m hm) hb)
end
end K
end Go.Proofs.YtclgfepngpeifaaGreatDoor
namespace Go.Proofs
open Go.Shelf
def Tryz.lays160_ren:Go.Shelf.Ren:=⟨fun|160=>124|232=>167|231=>166|227=>168|234=>170|233=>169|236=>172|235=>171|228=>195|271=>197|151=>196|197=>162|120=>211|152=>210|260=>194|137=>214|119=>215|224=>216|225=>217|217=>222|266=>228|n=>n,fun|9=>9|4=>4|3=>3|5=>5|117=>252|116=>251|0=>0|124=>255|21=>21|105=>231|46=>150|119=>270|139=>273|138=>272|n=>n,fun|3=>3|4=>4|n=>n⟩
theorem Tryz.lays160:Go.Proofs.Lays.n160 Tryz.prog Tryz.lays160_ren:={
 mixed:=by kernel_rfl
 f119:=Tryz.func215.trans (aL some (by kernel_rfl))
 f120:=Tryz.func211.trans (aL some (by kernel_rfl))
 f137:=Tryz.func214.trans (aL some (by kernel_rfl))
 f151:=Tryz.func196.trans (aL some (by kernel_rfl))
 f152:=Tryz.func210.trans (aL some (by kernel_rfl))
 f160:=Tryz.func124.trans (aL some (by kernel_rfl))
 f197:=Tryz.func162.trans (aL some (by kernel_rfl))
 f217:=Tryz.func222.trans (aL some (by kernel_rfl))
 f224:=Tryz.func216.trans (aL some (by kernel_rfl))
 f225:=Tryz.func217.trans (aL some (by kernel_rfl))
 f227:=Tryz.func168.trans (aL some (by kernel_rfl))
 f228:=Tryz.func195.trans (aL some (by kernel_rfl))
 f231:=Tryz.func166.trans (aL some (by kernel_rfl))
 f232:=Tryz.func167.trans (aL some (by kernel_rfl))
 f233:=Tryz.func169.trans (aL some (by kernel_rfl))
 f234:=Tryz.func170.trans (aL some (by kernel_rfl))
 f235:=Tryz.func171.trans (aL some (by kernel_rfl))
 f236:=Tryz.func172.trans (aL some (by kernel_rfl))
 f260:=Tryz.func194.trans (aL some (by kernel_rfl))
 f266:=Tryz.func228.trans (aL some (by kernel_rfl))
 f271:=Tryz.func197.trans (aL some (by kernel_rfl))
 t0:=Tryz.underlying0
 a0:=Tryz.isAgg0
 z0:=Tryz.sizeOf0
 v0:=Tryz.zeroValue0
 t3:=Tryz.underlying3
 a3:=Tryz.isAgg3
 z3:=Tryz.sizeOf3
 v3:=Tryz.zeroValue3
 t4:=Tryz.underlying4
 a4:=Tryz.isAgg4
 z4:=Tryz.sizeOf4
 v4:=Tryz.zeroValue4
 t5:=Tryz.underlying5
 a5:=Tryz.isAgg5
 z5:=Tryz.sizeOf5
 v5:=Tryz.zeroValue5
 t9:=Tryz.underlying9
 a9:=Tryz.isAgg9
 z9:=Tryz.sizeOf9
 v9:=Tryz.zeroValue9
 t21:=Tryz.underlying21
 a21:=Tryz.isAgg21
 z21:=Tryz.sizeOf21
 v21:=Tryz.zeroValue21
 t46:=Tryz.underlying150
 a46:=Tryz.isAgg150
 z46:=Tryz.sizeOf150
 v46:=Tryz.zeroValue150
 t105:=Tryz.underlying231
 a105:=Tryz.isAgg231
 z105:=Tryz.sizeOf231
 v105:=Tryz.zeroValue231
 t116:=Tryz.underlying251
 a116:=Tryz.isAgg251
 z116:=Tryz.sizeOf251
 t117:=Tryz.underlying252
 a117:=Tryz.isAgg252
 z117:=Tryz.sizeOf252
 v117:=Tryz.zeroValue252
 t119:=Tryz.underlying270
 a119:=Tryz.isAgg270
 z119:=Tryz.sizeOf270
 t124:=Tryz.underlying255
 a124:=Tryz.isAgg255
 z124:=Tryz.sizeOf255
 v124:=Tryz.zeroValue255
 t138:=Tryz.underlying272
 a138:=Tryz.isAgg272
 z138:=Tryz.sizeOf272
 v138:=Tryz.zeroValue272
 t139:=Tryz.underlying273
 a139:=Tryz.isAgg273
 z139:=Tryz.sizeOf273
 v139:=Tryz.zeroValue273
 g3:=by kernel_rfl
 g4:=by kernel_rfl}
open Go.RowKit in
theorem Tryz.strings_Trim_blanks(s:ByteArray)(w:World)(hs:s.size<=9223372036854775807):
  Calls Tryz.prog 124 #[.string s,.string ⟨#[9,10,13,32]⟩] w fun e w'=>e=.returned (.string ⟨(Lib.trimS s.data.toList [9,10,13,32]).toArray⟩)/\Below w.heap.size w w':=
 Any.strings_Trim_laid Tryz.lays160 (by kernel_rfl) s ⟨#[9,10,13,32]⟩ w hs (by decide) (ascii_of_all (by decide))
end Go.Proofs
namespace Go.Proofs.YtclgfepngpeifaaGreatDoor
namespace K
open Go.RowKit Go.Maps Go.Lib Tryz
section
variable{S:Nat->Prop}{w w' w1:World}{sv:Value}{X i:Nat}{cs:Array Value}{ty:TypeId}{ns:List (List UInt8)}{r:Bool}
def jc(l:List (List UInt8)):List Value:=l.map eu
structure NS(S:Nat->Prop)(X i:Nat)(w:World)(cs:Array Value)(ty:TypeId)(sv:Value)(ns:List (List UInt8))(r:Bool):Prop where
 blk:w.heap[X]?=some (.cells cs ty (0,0))
 c0:cs[i]?=some sv
 c1:cs[i+1]?=some (.bool r)
 row:w.ownsRow 0 9 1 sv ns.length (jc ns)
 own:∀k,sv.ownBlock=some k->S k
 nX:¬S X
 lt:∀k,S k->k<w.heap.size
def GN(i:Nat)(cs cs':Array Value):Prop:=cs'.size=cs.size/\∀j,j≠i->j≠i+1->cs'[j]?=cs[j]?
theorem GN.refl(i:Nat)(cs:Array Value):GN i cs cs:=⟨rfl,fun _ _ _=>rfl⟩
theorem GN.set(i:Nat)(cs:Array Value)(v:Value):GN i cs (cs.setIfInBounds i v):=⟨by simp,fun j h _=>by rw[bj,if_neg (fun e=>h e.symm)]⟩
theorem GN.aa9(i:Nat)(cs:Array Value)(v u:Value):GN i cs ((cs.setIfInBounds i v).setIfInBounds (i+1) u):=⟨by simp,fun j h h2=>by rw[bj,if_neg (fun e=>h2 e.symm),bj,if_neg (fun e=>h e.symm)]⟩
theorem NS.cell0(h:NS S X i w cs ty sv ns r):w.cell? ⟨X,i,none⟩=some sv:=cell_of h.blk h.c0
theorem NS.cell1(h:NS S X i w cs ty sv ns r):w.cell? ⟨X,i+1,none⟩=some (.bool r):=cell_of h.blk h.c1
theorem ZX:(prog.info? 9).map (fun i=>(i.zero,i.size,i.bytes))=some (some (.string ⟨#[]⟩),1,16):=by kernel_rfl
theorem pk(h:NS S X i w cs ty sv ns r):Z4 20 #[.pointer (some ⟨X,i,none⟩)] w fun e w'=>e=.returned (.bool (r&&decide (ns.length=0)))/\dZ w w':=by
 obtain⟨ai,ac,l9⟩:=dS h.row;subst l9;have c0:=h.cell0;have c1:=h.cell1;clear h;cases r with
 |false=>
  go_enter func20,ntmps20;go_wp2;go_ret;exact⟨by simp,dZ.refl w⟩
 |true=>
  by_cases hz:ns.length=0
  ·rw[hz]at c0 ⊢;go_enter func20,ntmps20;go_wp2;go_ret;exact⟨by simp,dZ.refl w⟩
  ·have hz1:((ns.length:Int)==0)=false:=by rw[aK];omega
   have hz2:(decide (ns.length=0))=false:=decide_eq_false hz;go_enter func20,ntmps20;go_wp2;go_ret;exact⟨by rw[hz2];rfl,dZ.refl w⟩
theorem MS(h:NS S X i w cs ty sv [] true)(name:ByteArray):Z4 69 #[.pointer (some ⟨X,i,none⟩),.string name] w fun e w'=>e=.returned (.int .i64 7)/\dZ w w':=by
 have hw:=pk h;clear h;go_enter func69,ntmps69;go_wp2_with(go_at_call 20;refine hw.mono ?_;rintro e w1 ⟨rfl,m1⟩);go_ret;exact⟨rfl,m1⟩
theorem NS.keep{W:World}(h:NS S X i w cs ty sv ns r)(hM:dZ w W):NS S X i W cs ty sv ns r:=
 ⟨(hM.keep X (dQ h.blk)).trans h.blk,h.c0,h.c1,dW h.row fun k e=>hM.keep k (ej h.row e),h.own,h.nX,fun k x=>aq (h.lt k x) hM.size⟩
theorem MT(h:NS S X i w cs ty sv ns r)(hn:ns.length=30)(name:ByteArray):Z4 69 #[.pointer (some ⟨X,i,none⟩),.string name] w fun e w'=>e=.returned (.int .i64 8)/\dZ w w':=by
 have hw:Z4 20 #[.pointer (some ⟨X,i,none⟩)] w fun e w'=>e=.returned (.bool false)/\dZ w w':=by
  have:=pk h;rw[hn]at this;simpa using this
 have hc:∀W,dZ w W->∃ai ac,W.cell? ⟨X,i,none⟩=some (.slice ai 30 ac):=fun W hM=>by
  have h2:=h.keep hM;obtain⟨ai,ac,l9⟩:=dS h2.row;exact⟨ai,ac,by rw[h2.cell0,l9,hn]⟩
 have HC:=a_ hc;clear h hn hc;go_enter func69,ntmps69;go_wp2_with(go_at_call 20;refine hw.mono ?_;rintro e w1 ⟨rfl,m1⟩;obtain⟨ai,ac,c0⟩:=HC.out _ m1);go_ret;exact⟨rfl,m1⟩
theorem Jl{cs:Array Value}{ty:TypeId}{v':Value}{name:List UInt8}{w2:World}{o:Obj}(h:NS S X i w cs ty sv ns r)(m1:dZ w w1)(hg:(w1.alloc o).grownBy w2 sv.ownBlock)(ho:w2.ownsRow 0 9 1 v' (ns.length+1) (jc ns++[eu name]))(hat:v'.ownBlock=sv.ownBlock\/v'.ownBlock=some (w1.alloc o).heap.size):
  ∃cs' Ks,NS (Grow S w ((w2.setCell ⟨X,i,none⟩ v').setCell ⟨X,i+1,none⟩ (.bool true))) X i ((w2.setCell ⟨X,i,none⟩ v').setCell ⟨X,i+1,none⟩ (.bool true)) cs' ty Ks (ns++[name]) true/\GN i cs cs'/\Frame (fun k=>k=X\/S k) w ((w2.setCell ⟨X,i,none⟩ v').setCell ⟨X,i+1,none⟩ (.bool true)):=by
 have hM:=m1.alloc o;have qY:=dQ h.blk;have Rv:sv.ownBlock≠some X:=fun e=>h.nX (h.own X e);have Yx:w2.heap[X]?=some (.cells cs ty (0,0)):=(hg.block X (aq qY hM.size) (fun e=>Rv e.symm)).trans ((hM.keep X qY).trans h.blk);have UZ:v'.ownBlock≠some X:=by
  rcases hat with e|e<;>rw[e]
  ·exact Rv
  ·intro x;cases x;exact absurd qY (by have:=hM.size;omega)
 have hX3:=eh (i:=i+1) (eh (i:=i) Yx v') (.bool true);have RA:i<cs.size:=(Array.getElem?_eq_some_iff.1 h.c0).1;have Nq:i+1<cs.size:=(Array.getElem?_eq_some_iff.1 h.c1).1;have hz:w.heap.size<=w2.heap.size:=aw hM.size hg.size;have keep:∀b,b≠X->((w2.setCell ⟨X,i,none⟩ v').setCell ⟨X,i+1,none⟩ (.bool true)).heap[b]?=w2.heap[b]?:=fun b hb=>by rw[ak _ _ _ _ hb,ak _ _ _ _ hb]
 have hs:((w2.setCell ⟨X,i,none⟩ v').setCell ⟨X,i+1,none⟩ (.bool true)).heap.size=w2.heap.size:=by simp[World.setCell]
 refine⟨_,v',⟨hX3,?_,?_,?_,?_,?_,?_⟩,GN.aa9 _ _ _ _,hg.os.trans hM.os,hg.tape.trans hM.tape,hg.output.trans hM.output,by rw[hs];exact hz,?_⟩
 ·rw[bj,if_neg (by omega),bj,if_pos rfl,if_pos RA]
 ·rw[bj,if_pos rfl,if_pos (by simpa using Nq)]
 ·have e:jc (ns++[name])=jc ns++[eu name]:=by simp[jc]
  rw[e,ax];exact dW ho fun b e=>keep b (fun x=>UZ (by rw[e,x]))
 ·intro k e;rcases hat with e2|e2
  ·rw[e2]at e;exact Or.inl (h.own k e)
  ·rw[e2]at e;cases e;refine Or.inr ⟨hM.size,?_⟩;rw[hs];have h1:=ej ho e2;exact h1
 ·rintro(e|e)
  ·exact h.nX e
  ·omega
 ·exact iu h.lt (by rw[hs];exact hz)
 ·intro k hk hf;rw[keep k (fun e=>hf (Or.inl e)),hg.block k (aq hk hM.size) (fun e=>hf (Or.inr (h.own k e.symm)))];exact hM.keep k hk
theorem Gh(h:NS S X i w cs ty sv ns r)(hr:ns=[]->r=false)(hn:ns.length<30)(name:List UInt8):Z4 69 #[.pointer (some ⟨X,i,none⟩),.string ⟨name.toArray⟩] w fun e w'=>e=.returned (.int .i64 0)/\∃cs' Ks,NS (Grow S w w') X i w' cs' ty Ks (ns++[name]) true/\GN i cs cs'/\Frame (fun k=>k=X\/S k) w w':=by
 have hw:Z4 20 #[.pointer (some ⟨X,i,none⟩)] w fun e w'=>e=.returned (.bool false)/\dZ w w':=by
  have:=pk h;cases ns with
  |nil=>rw[hr rfl]at this;simpa using this
  |cons a l=>simpa using this
 have hk:∀W,dZ w W->NS S X i W cs ty sv ns r:=fun W hM=>h.keep hM;obtain⟨ai,ac,l9⟩:=dS h.row;subst l9;have hz1:((ns.length:Int)==30)=false:=by rw[aK];omega
 obtain⟨i0,hi,hz0,hzz,hz2⟩:=aY ZX;have H:=a_ h;have HK:=a_ hk;clear h hk hr;have Rv:(Value.slice ai ns.length ac).ownBlock≠some X:=fun e=>H.out.nX (H.out.own X e);go_enter func69,ntmps69;go_wp2_with(first
  |(go_at_call 20;refine hw.mono ?_;rintro e w1 ⟨rfl,m1⟩;have h1:=HK.out _ m1;have c0:=h1.cell0;have c1:=h1.cell1;have R1:=a_ h1.row;have B1:=a_ h1.blk;have hXl:=dQ h1.blk;clear h1)
  |(at_builtin;refine bu _ rfl (.tmp 17) (.tmp 19) 50 rfl 0 9 i0 _ 1 16 underlying50 hi hz0 hzz hz2 rfl (by decide) (.slice ai ns.length ac) ns.length (jc ns) rfl (R1.out.alloc _) ⟨w1.heap.size,0,none⟩ 1 1 [eu name] rfl rfl ?c1 ?c2 ?c3 ?c4 (aB _) ?_))
 case c1=>
  intro j u hj
  match j,hj with
  |0,hj=>simp at hj;subst hj;simp[Addr.add,eu]
  |(j+1),hj=>simp at hj
 case c2=>intro u hu;simp at hu;subst hu;rfl
 case c3=>unfold maxLen;omega
 case c4=>omega
 intro v' w2 ho hg _ hat;obtain⟨sP,cap',rfl⟩:=dS ho;have hb1:w2.heap[X]?=some (.cells cs ty (0,0)):=(hg.block X (by simp;omega) (fun e=>Rv e.symm)).trans ((ay _ _ _ hXl).trans B1.out);have x0:w2.cell? ⟨X,i,none⟩=some (.slice ai ns.length ac):=cell_of hb1 H.out.c0;have x1:∀v,(w2.setCell ⟨X,i,none⟩ v).cell? ⟨X,i+1,none⟩=some (.bool r):=fun v=>cell_of (eh hb1 v) (by rw[bj,if_neg (by omega)];exact H.out.c1);have f0:=dY (i:=i) hb1;have f1:∀v,(w2.setCell ⟨X,i,none⟩ v).frozen? ⟨X,i+1,none⟩=false:=fun v=>dY (i:=i+1) (eh hb1 v);have HO:=a_ ho;have HG:=a_ hg;have sq:=a_ hat;have M1:=a_ m1;clear ho hg hat hb1 m1 c0 c1;go_wp2;go_ret;exact⟨rfl,Jl H.out M1.out HG.out HO.out (by simpa using sq.out)⟩
end
section
variable{S:Nat->Prop}{w w' w1:World}{sv:Value}{X i:Nat}{cs:Array Value}{ty:TypeId}{ns:List (List UInt8)}{r:Bool}
theorem MU(h:NS S X i w cs ty sv [] r)(name:ByteArray):Z4 70 #[.pointer (some ⟨X,i,none⟩),.string name] w fun e w'=>e=.returned (.int .i64 6)/\dZ w w':=by
 obtain⟨ai,ac,l9⟩:=dS h.row;subst l9;have c0:=h.cell0;clear h;go_enter func70,ntmps70;go_wp2;go_ret;exact⟨rfl,dZ.refl w⟩
theorem NS.last{nm:List UInt8}{xs:List (List UInt8)}(h:NS S X i w cs ty sv (xs++[nm]) r):∃g ac,sv=Z9 g (xs.length+1) ac/\w.cell? ⟨g,xs.length,none⟩=some (eu nm)/\xs.length+1<=ac/\ac<=maxLen/\S g:=by
 have ho:=h.row;rw[ax]at ho;rcases ho.2 with⟨_,e⟩|⟨g,cap,cur,e1,h0,hg,h1,h2,h3,h4⟩
 ·simp at e
 ·refine⟨g,cap,e1,cell_of hg ?_,by simpa using h1,h2,h.own g (by rw[e1];rfl)⟩;have h5:(jc (xs++[nm]))[xs.length]?=some (eu nm):=by simp[jc]
  rw[<-h4,bR]at h5;split at h5
  ·simpa using h5
  ·cases h5
theorem MV{e:TypeId}{s g n m cap:Nat}{xs:List Value}(h:w.ownsRow 0 e s (Z9 g n cap) n xs)(hm:m<=n):w.ownsRow 0 e s (Z9 g m cap) m (xs.take (m*s)):=by
 have hms:m*s<=n*s:=Nat.mul_le_mul_right s hm;refine⟨by rw[bI,h.1];omega,?_⟩;rcases h.2 with⟨e1,_⟩|⟨g',cap',cur,e1,h0,hg,h1,h2,h3,h4⟩
 ·cases e1
 ·cases e1;refine Or.inr ⟨g,cap,cur,rfl,h0,hg,by omega,h2,h3,?_⟩;rw[<-h4,List.take_take,Nat.min_eq_left hms]
theorem QK{nm:List UInt8}{xs:List (List UInt8)}(h:NS S X i w cs ty sv (xs++[nm]) r)(hx:xs.length<=30)(name:List UInt8)(hne:nm≠name):Z4 70 #[.pointer (some ⟨X,i,none⟩),.string ⟨name.toArray⟩] w fun e w'=>e=.returned (.int .i64 6)/\dZ w w':=by
 obtain⟨g,ac,l9,k0,Xv,_⟩:=h.last;unfold eu at k0;subst l9;have c0:=h.cell0;generalize xs.length=n at*
 have hwr:IntKind.i64.wrap (((n+1:Nat):Int)-1)=(n:Int):=by rw[aM];omega
 have hlt:decide ((n:Int)<0)=false:=by simp
 have nB:(n:Int)<((n+1:Nat):Int):=by omega
 have ri:(nm==name)=false:=by simpa using hne
 clear h hne;go_enter func70,ntmps70;go_wp2;go_ret;exact⟨rfl,dZ.refl w⟩
theorem xy{nm:List UInt8}{xs:List (List UInt8)}{g ac:Nat}(h:NS S X i w cs ty (Z9 g (xs.length+1) ac) (xs++[nm]) r)(m1:dZ w w1):
  ∃cs' Ks,NS (Grow S w (w1.setCell ⟨X,i,none⟩ (Z9 g xs.length ac))) X i (w1.setCell ⟨X,i,none⟩ (Z9 g xs.length ac)) cs' ty Ks xs r/\GN i cs cs'/\Frame (fun k=>k=X\/S k) w (w1.setCell ⟨X,i,none⟩ (Z9 g xs.length ac)):=by
 have qY:=dQ h.blk;have hgS:S g:=h.own g rfl;have hgX:g≠X:=fun e=>h.nX (e▸hgS);have h1:=h.keep m1;have keep:∀b,b≠X->(w1.setCell ⟨X,i,none⟩ (Z9 g xs.length ac)).heap[b]?=w1.heap[b]?:=fun b hb=>ak _ _ _ _ hb;have hs:(w1.setCell ⟨X,i,none⟩ (Z9 g xs.length ac)).heap.size=w1.heap.size:=by simp[World.setCell]
 have RA:i<cs.size:=(Array.getElem?_eq_some_iff.1 h.c0).1;refine⟨_,Z9 g xs.length ac,⟨eh (i:=i) h1.blk _,?_,?_,?_,?_,?_,?_⟩,GN.set _ _ _,m1.os,m1.tape,m1.output,by rw[hs];exact m1.size,?_⟩
 ·rw[bj,if_pos rfl,if_pos RA]
 ·rw[bj,if_neg (by omega)];exact h.c1
 ·have hr:=h1.row;rw[ax]at hr;have h2:=MV (m:=xs.length) hr (by simp);have e:(jc (xs++[nm])).take (xs.length*1)=jc xs:=by simp[jc,List.take_append_of_le_length]
  rw[e]at h2;exact dW h2 fun b e=>keep b (fun x=>by cases e;exact hgX x)
 ·intro k e;cases e;exact Or.inl hgS
 ·rintro(e|e)
  ·exact h.nX e
  ·omega
 ·exact iu h.lt (by rw[hs];exact m1.size)
 ·intro k hk hf;rw[keep k (fun e=>hf (Or.inl e))];exact m1.keep k hk
theorem MW{nm:List UInt8}{xs:List (List UInt8)}(h:NS S X i w cs ty sv (xs++[nm]) r)(hx:xs.length<=30):Z4 70 #[.pointer (some ⟨X,i,none⟩),.string ⟨nm.toArray⟩] w fun e w'=>e=.returned (.int .i64 0)/\∃cs' Ks,NS (Grow S w w') X i w' cs' ty Ks xs r/\GN i cs cs'/\Frame (fun k=>k=X\/S k) w w':=by
 obtain⟨g,ac,l9,k0,Xv,hmx,_⟩:=h.last;unfold eu at k0;subst l9;have c0:=h.cell0;have f0:=dY (i:=i) h.blk;have HE:=a_ (xy h (dZ.refl w));generalize xs.length=n at*
 have hwr:IntKind.i64.wrap (((n+1:Nat):Int)-1)=(n:Int):=by rw[aM];omega
 have hlt:decide ((n:Int)<0)=false:=by simp
 have nB:(n:Int)<((n+1:Nat):Int):=by omega
 have ri:(nm==nm)=true:=by simp
 have Ez:(n:Int)<=(ac:Int):=by omega
 have abv:n<=ac:=by omega
 clear h;go_enter func70,ntmps70;go_wp2;go_ret;exact⟨rfl,HE.out⟩
theorem pS{α:Type}(p:α->Bool):∀l:List α,(l.dropWhile p).dropWhile p=l.dropWhile p
 |[]=>rfl
 |x::l=>by
  by_cases h:p x=true
  ·simp only[di,h,if_true];exact pS p l
  ·simp[di,h]
theorem jN{α:Type}(p:α->Bool):∀l:List α,l.dropWhile p=[]↔l.all p=true
 |[]=>by simp
 |x::l=>by
  by_cases h:p x=true
  ·simp only[di,h,if_true,List.all_cons,cV];exact jN p l
  ·simp[di,h]
theorem MX(l:List UInt8):Lib.trimS l [9,10,13,32]=[]↔gC l=true:=by
 have hp:∀c:UInt8,([9,10,13,32]:List UInt8).contains c=iQ c.toNat:=by
  intro c;rw[bC];simp only[dp,List.contains_nil,bm,bk,aA,cm,iQ,<-UInt8.toNat_inj];have e1:(9:UInt8).toNat=9:=rfl;have e2:(10:UInt8).toNat=10:=rfl;have e3:(13:UInt8).toNat=13:=rfl;have e4:(32:UInt8).toNat=32:=rfl;omega
 have e:gC l=l.all (fun c=>([9,10,13,32]:List UInt8).contains c):=by
  unfold gC;congr 1;funext c;exact(hp c).symm
 rw[e];unfold Lib.trimS Lib.trimLeftS Lib.trimRightS;rw[jN,List.all_reverse];constructor
 ·intro h;have h1:=(jN _ _).2 h;rw[pS,jN,List.all_reverse]at h1;exact h1
 ·intro h;have h1:=(jN (fun c=>([9,10,13,32]:List UInt8).contains c) l.reverse).2 (by rw[List.all_reverse];exact h);rw[h1];rfl
theorem jO{W:World}(b:Below w.heap.size w W):dZ w W:=⟨b.os,b.tape,b.output,b.size,fun k hk=>b.block k hk⟩
theorem dZ.trans{a b c:World}(h:dZ a b)(k:dZ b c):dZ a c:=⟨k.os.trans h.os,k.tape.trans h.tape,k.output.trans h.output,aw h.size k.size,fun i hi=>(k.keep i (aq hi h.size)).trans (h.keep i hi)⟩
theorem MY(h:NS S X i w cs ty sv ns r)(hx:ns.length<=30)(t:List UInt8)(hz:t.length<=9223372036854775807):Z4 71 #[.pointer (some ⟨X,i,none⟩),.string ⟨t.toArray⟩] w fun e w'=>e=.returned (.int .i64 (if ns=[]/\gC t=false then 7 else 0))/\dZ w w':=by
 obtain⟨ai,ac,l9⟩:=dS h.row;subst l9;have c0:=h.cell0;have htr:∀W,Z4 124 #[.string ⟨t.toArray⟩,.string ⟨#[9,10,13,32]⟩] W fun e w'=>e=.returned (.string ⟨(Lib.trimS t [9,10,13,32]).toArray⟩)/\Below W.heap.size W w':=fun W=>by
  have:=strings_Trim_blanks ⟨t.toArray⟩ W (by simpa [ByteArray.size]using hz);simpa using this
 have hn:=MX t;generalize Lib.trimS t [9,10,13,32]=R at htr hn;have HT:=a_ htr;clear h htr;cases ns with
 |cons a l=>
  rw[if_neg (fun e=>by cases e.1)];have hz1:(((a::l).length:Int)==0)=false:=by rw[aK];simp only[aC];omega
  generalize (a::l).length=n at*
  clear hn;go_enter func71,ntmps71;go_wp2;go_ret;exact⟨rfl,dZ.refl w⟩
 |nil=>
  by_cases hb:gC t=true
  ·rw[if_neg (fun e=>by rw[hb]at e;cases e.2)];have hR:=hn.2 hb;subst hR;clear hn hb;go_enter func71,ntmps71;go_wp2_with(go_at_call 124;refine(HT.out _).mono ?_;rintro e w2 ⟨rfl,b2⟩;have B2:=a_ b2;clear b2);go_ret;exact⟨rfl,jO B2.out⟩
  ·rw[if_pos ⟨rfl,by simpa using hb⟩];have hR:(R==[])=false:=by
    have:R≠[]:=fun e=>hb (hn.1 e);cases R with
    |nil=>exact absurd rfl this
    |cons a l=>rfl
   clear hn hb;go_enter func71,ntmps71;go_wp2_with(go_at_call 124;refine(HT.out _).mono ?_;rintro e w2 ⟨rfl,b2⟩;have B2:=a_ b2;clear b2);go_ret;exact⟨rfl,jO B2.out⟩
end
section
variable{S:Nat->Prop}{w w' w1:World}{sv:Value}{X i:Nat}{cs:Array Value}{ty:TypeId}{ns:List (List UInt8)}{r:Bool}
structure oI where
 names:List (List UInt8)
 fO:Bool
def oI.take(n:oI)(t:eX):Int×oI:=
 if t.kind=1 then
  if n.fO=true/\n.names=[]then(7,n)
  else if 30<=n.names.length then(8,n)
  else(0,⟨n.names++[t.name],true⟩)
 else if t.kind=2 then
  if n.names.getLast?=some t.name then(0,⟨n.names.dropLast,n.fO⟩)else(6,n)
 else if n.names=[]/\gC t.text=false then(7,n)else(0,n)
def nM(S:Nat->Prop)(X i:Nat)(w:World)(cs:Array Value)(ty:TypeId)(x:Int×oI)(e:Ending)(w':World):Prop:=
 e=.returned (.int .i64 x.1)/\∃cs' Ks,NS (Grow S w w') X i w' cs' ty Ks x.2.names x.2.fO/\GN i cs cs'/\Frame (fun k=>k=X\/S k) w w'
theorem mL{n:oI}{x:Int}(h:NS S X i w cs ty sv n.names n.fO)(hM:dZ w w'):nM S X i w cs ty (x,n) (.returned (.int .i64 x)) w':=by
 have h1:=h.keep hM;exact⟨rfl,cs,sv,⟨h1.blk,h1.c0,h1.c1,h1.row,fun k e=>Or.inl (h1.own k e),fun e=>by
  rcases e with e|e
  ·exact h.nX e
  ·have:=dQ h.blk;omega,iu h.lt hM.size⟩,GN.refl _ _,hM.frame⟩
theorem DM{n:oI}(h:NS S X i w cs ty sv n.names n.fO)(hn:n.names.length<=30)(hr:n.names≠[]->n.fO=true)(t:eX)(hk:t.kind=1):Z4 69 #[.pointer (some ⟨X,i,none⟩),.string ⟨t.name.toArray⟩] w (nM S X i w cs ty (n.take t)):=by
 unfold oI.take;rw[if_pos hk];by_cases h1:n.fO=true/\n.names=[]
 ·rw[if_pos h1];have h2:=h;rw[h1.1,h1.2]at h2;refine(MS h2 _).mono ?_;rintro e w' ⟨rfl,m⟩;exact mL h m
 ·rw[if_neg h1];by_cases h3:30<=n.names.length
  ·rw[if_pos h3];refine(MT h (by omega) _).mono ?_;rintro e w' ⟨rfl,m⟩;exact mL h m
  ·rw[if_neg h3];refine(Gh h (fun e=>by cases hrr:n.fO with|false=>rfl|true=>exact absurd ⟨hrr,e⟩ h1) (by omega) t.name).mono ?_;rintro e w' ⟨rfl,hx⟩;exact⟨rfl,hx⟩
theorem DN{n:oI}(h:NS S X i w cs ty sv n.names n.fO)(hn:n.names.length<=30)(t:eX)(h1:t.kind≠1)(hk:t.kind=2):Z4 70 #[.pointer (some ⟨X,i,none⟩),.string ⟨t.name.toArray⟩] w (nM S X i w cs ty (n.take t)):=by
 unfold oI.take;rw[if_neg h1,if_pos hk];rcases List.eq_nil_or_concat n.names with e0|⟨xs,nm,e0⟩
 ·rw[e0,if_neg (by simp)];have h2:=h;rw[e0]at h2;refine(MU h2 _).mono ?_;rintro e w' ⟨rfl,m⟩;exact mL h m
 ·have h2:=h;rw[e0]at h2 hn;rw[List.concat_eq_append]at e0 h2 hn;simp only[ax,aC,aI]at hn;by_cases ri:nm=t.name
  ·subst ri;rw[e0,if_pos (by simp)];refine(MW h2 (by omega)).mono ?_;rintro e w' ⟨rfl,hx⟩;rw[List.dropLast_concat];exact⟨rfl,hx⟩
  ·rw[e0,if_neg (by simpa using ri)];refine(QK h2 (by omega) t.name ri).mono ?_;rintro e w' ⟨rfl,m⟩;exact mL h m
theorem Jm{n:oI}(h:NS S X i w cs ty sv n.names n.fO)(hn:n.names.length<=30)(t:eX)(hz:t.text.length<=9223372036854775807)(h1:t.kind≠1)(h2:t.kind≠2):Z4 71 #[.pointer (some ⟨X,i,none⟩),.string ⟨t.text.toArray⟩] w (nM S X i w cs ty (n.take t)):=by
 unfold oI.take;rw[if_neg h1,if_neg h2];refine(MY h hn t.text hz).mono ?_;rintro e w' ⟨rfl,m⟩;split
 ·exact mL h m
 ·exact mL h m
theorem MZ{n:oI}(h:NS S X i w cs ty sv n.names n.fO)(hn:n.names.length<=30)(hr:n.names≠[]->n.fO=true)(t:eX)(ai:Option Addr)(an ac:Nat)(hz:t.text.length<=9223372036854775807):
  Z4 38 #[.pointer (some ⟨X,i,none⟩),l7 t (.slice ai an ac)] w (nM S X i w cs ty (n.take t)):=by
 have hM:=fun o=>(dZ.refl w).alloc o;have k1:=fun hk o=>DM (h.keep (hM o)) hn hr t hk;have k2:=fun h1 hk o=>DN (h.keep (hM o)) hn t h1 hk;have k3:=fun h1 hk o=>Jm (h.keep (hM o)) hn t hz h1 hk;have lift:∀o e w',nM S X i (w.alloc o) cs ty (n.take t) e w'->nM S X i w cs ty (n.take t) e w':=by
  rintro o e w' ⟨rfl,cs',Ks,q1,q2,q3⟩;have hs:=(hM o).size;refine⟨rfl,cs',Ks,⟨q1.blk,q1.c0,q1.c1,q1.row,fun k e=>?_,fun e=>?_,iu h.lt (aw hs q3.size)⟩,q2,(hM o).frame.trans' q3⟩
  ·rcases q1.own k e with a|a
   ·exact Or.inl a
   ·exact Or.inr ⟨by omega,a.2⟩
  ·rcases e with e|e
   ·exact h.nX e
   ·have:=dQ h.blk;omega
 unfold l7 eu;have LI:=a_ lift;clear h hn hr hM lift;generalize n.take t=R at*
 by_cases h1:t.kind=1
 ·have HK:=a_ (k1 h1);rw[h1]at ⊢;clear k1 k2 k3 h1;go_enter func38,ntmps38;go_wp2_with(go_at_call 69;refine(HK.out _).mono ?_;rintro e w1 hx;have hy:=LI.out _ _ _ hx;obtain⟨rfl,hz⟩:=hy;have HZ:=a_ hz;clear hx hz);go_ret;exact⟨rfl,HZ.out⟩
 ·by_cases h2:t.kind=2
  ·have HK:=a_ (k2 h1 h2);rw[h2]at ⊢;clear k1 k2 k3 h1 h2;go_enter func38,ntmps38;go_wp2_with(go_at_call 70;refine(HK.out _).mono ?_;rintro e w1 hx;have hy:=LI.out _ _ _ hx;obtain⟨rfl,hz⟩:=hy;have HZ:=a_ hz;clear hx hz);go_ret;exact⟨rfl,HZ.out⟩
  ·have HK:=a_ (k3 h1 h2);have e1:(t.kind==1)=false:=by simpa using h1
   have e2:(t.kind==2)=false:=by simpa using h2
   clear k1 k2 k3 h1 h2;go_enter func38,ntmps38;go_wp2_with(go_at_call 71;refine(HK.out _).mono ?_;rintro e w1 hx;have hy:=LI.out _ _ _ hx;obtain⟨rfl,hz⟩:=hy;have HZ:=a_ hz;clear hx hz);go_ret;exact⟨rfl,HZ.out⟩
end
end K
end Go.Proofs.YtclgfepngpeifaaGreatDoor
