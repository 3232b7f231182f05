import Derived.Test.YtclgfepngpeifaaGreatDoorYA
import Derived.Deep.RegionHeld3
import Derived.Deep.RegionLaw
import Derived.Shelf.Strings.Trim
import Derived.Shelf.Strings.SlTrimAscii
import Derived.Test.YtclgfepngpeifaaGreatDoorProg
import Derived.Test.YtclgfepngpeifaaGreatDoorYas
import Derived.Test.YtclgfepngpeifaaGreatDoorYak
set_option linter.unusedVariables false
set_option linter.unusedSimpArgs false
set_option maxHeartbeats 32000000
set_option maxRecDepth 100000
namespace Go.Proofs.YtclgfepngpeifaaGreatDoor
namespace K
open Go.RowKit Go.Maps Go.Lib Tryz
section
variable{A K K':Nat->Prop}{w w' w1:World}{nv:Value}{l:List Nd}{av kv:Nat->Value}{tN tA:TypeId}
def fj(l:List Nat):List Value:=l.map fun(k:Nat)=>Value.int .i64 (k:Int)
def gX(n:Nd)(a k:Value):List Value:=[eA n.name,a,eA n.text,k,.int .i64 n.up]
def fh(av kv:Nat->Value):Nat->List Nd->List Value
 |_,[]=>[]
 |i,n::l=>gX n (av i) (kv i)++fh av kv (i+1) l
def upd(f:Nat->Value)(k:Nat)(v:Value):Nat->Value:=fun i=>if i=k then v else f i
theorem upd_same(f:Nat->Value)(k:Nat)(v:Value):upd f k v k=v:=by simp[upd]
theorem fw(f:Nat->Value){k i:Nat}(v:Value)(h:i≠k):upd f k v i=f i:=by simp[upd,h]
theorem zx(av kv:Nat->Value):∀(l:List Nd) (i0 i:Nat) (n:Nd) (c:Nat) (u:Value),l[i]?=some n->(gX n (av (i0+i)) (kv (i0+i)))[c]?=some u->(fh av kv i0 l)[i*5+c]?=some u
 |[],_,_,_,_,_,h,_=>by simp at h
 |m::l,i0,0,n,c,u,h,hc=>by
  obtain rfl:m=n:=by simpa using h
  have hl:c<(gX m (av i0) (kv i0)).length:=by
   have:=(List.getElem?_eq_some_iff.1 hc).1;simpa using this
  simp only[fh,Nat.zero_mul,aG];rw[aU hl];simpa using hc
 |m::l,i0,i+1,n,c,u,h,hc=>by
  have:=zx av kv l (i0+1) i n c u (by simpa using h) (by rw[show i0+1+i=i0+(i+1) by omega];exact hc);simp only[fh];have hl:(gX m (av i0) (kv i0)).length=5:=rfl;rw[aW (by rw[hl];omega),hl,show (i+1)*5+c-5=i*5+c by omega];exact this
theorem qL(av kv:Nat->Value)(l':List Nd):∀(l:List Nd) (i:Nat),fh av kv i (l++l')=fh av kv i l++fh av kv (i+l.length) l'
 |[],i=>by simp[fh]
 |n::l,i=>by
  simp only[aZ,fh,aV,qL av kv l' l (i+1),aC];rw[show i+1+l.length=i+(l.length+1) by omega]
theorem oh{av kv jh jS:Nat->Value}:∀(l:List Nd) (i:Nat),(∀j,i<=j->j<i+l.length->av j=jh j/\kv j=jS j)->fh av kv i l=fh jh jS i l
 |[],i,_=>rfl
 |n::l,i,h=>by
  have h0:=h i (au _) (by simp);simp only[fh,h0.1,h0.2];rw[oh l (i+1) fun j a b=>h j (by omega) (by simp only[aC];omega)]
theorem wQ(av:Nat->Value)(v:Value)(j:Nat):∀(l:List Nd) (kv:Nat->Value) (i k:Nat),k<l.length->(fh av kv i l).set (k*5+3) v=fh av (upd kv (i+k) v) i (fJ l k j)
 |[],_,_,k,h=>by simp at h
 |n::l,kv,i,0,_=>by
  simp only[fJ,fh,bH,upd_same,Nat.zero_mul,aG];rw[oh (av:=av) (kv:=kv) (jh:=av) (jS:=upd kv i v) l (i+1) fun j a b=>⟨rfl,(fw _ _ (by omega)).symm⟩];rfl
 |n::l,kv,i,k+1,h=>by
  have ih:=wQ av v j l kv (i+1) k (by simpa using h);simp only[fJ,fh];rw[fw kv v (show i≠i+(k+1) by omega),show i+(k+1)=i+1+k by omega,<-ih];have hl:(gX n (av i) (kv i)).length=5:=rfl;rw[List.set_append,if_neg (by rw[hl];omega),hl,show (k+1)*5+3-5=k*5+3 by omega]
structure ic(tN tA:TypeId)(A K:Nat->Prop)(w:World)(nv:Value)(l:List Nd)(av kv:Nat->Value):Prop where
 row:w.ownsRow 0 tN 5 nv l.length (fh av kv 0 l)
 nz:∀k,nv.ownBlock=some k->K k
 attr:∀i n,l[i]?=some n->w.ownsRow 0 tA 2 (av i) n.attrs.length (ee n.attrs)
 uS:∀i k,i<l.length->(av i).ownBlock=some k->A k
 kid:∀i n,l[i]?=some n->w.ownsRow 0 3 1 (kv i) n.kids.length (fj n.kids)
 mo:∀i k,i<l.length->(kv i).ownBlock=some k->K k/\nv.ownBlock≠some k
 apart:∀i j k,i<l.length->j<l.length->i≠j->(kv i).ownBlock=some k->(kv j).ownBlock≠some k
 Un:∀i n,l[i]?=some n->n.kids=[]->kv i=fo
theorem ic.zero:ic tN tA A K w fo [] (fun _=>fo) (fun _=>fo):=
 ⟨⟨rfl,Or.inl ⟨rfl,rfl⟩⟩,(fun k e=>by cases e),(fun i n h=>by simp at h),(fun i k h=>by simp at h),(fun i n h=>by simp at h),(fun i k h=>by simp at h),(fun i j k h=>by simp at h),(fun i n h=>by simp at h)⟩
theorem ic.frame(h:ic tN tA A K w nv l av kv)(hA:∀k,k<w.heap.size->A k->w'.heap[k]?=w.heap[k]?)(hK:∀k,k<w.heap.size->K k->w'.heap[k]?=w.heap[k]?)(hK':∀k,k<w'.heap.size->K k->K' k):ic tN tA A K' w' nv l av kv:=by
 have lt:∀{e s v n xs k},w.ownsRow 0 e s v n xs->v.ownBlock=some k->k<w.heap.size:=fun h e=>eu h e;have row:w'.ownsRow 0 tN 5 nv l.length (fh av kv 0 l):=dY h.row fun k e=>hK k (lt h.row e) (h.nz k e);have kid:∀i n,l[i]?=some n->w'.ownsRow 0 3 1 (kv i) n.kids.length (fj n.kids):=fun i n hi=>dY (h.kid i n hi) fun k e=>hK k (lt (h.kid i n hi) e) (h.mo i k (List.getElem?_eq_some_iff.1 hi).1 e).1;refine⟨row,fun k e=>hK' k (eu row e) (h.nz k e),fun i n hi=>dY (h.attr i n hi) fun k e=>hA k (lt (h.attr i n hi) e) (h.uS i k (List.getElem?_eq_some_iff.1 hi).1 e),h.uS,
  kid,fun i k hi e=>⟨hK' k (eu (kid i _ (aF hi)) e) (h.mo i k hi e).1,(h.mo i k hi e).2⟩,h.apart,h.Un⟩
theorem QP{e:TypeId}{s g n cap i:Nat}{xs:List Value}(h:w.ownsRow 0 e s (Z9 g n cap) n xs)(hi:i<n*s)(u:Value):(w.setCell ⟨g,i,none⟩ u).ownsRow 0 e s (Z9 g n cap) n (xs.set i u):=by
 refine⟨by rw[List.length_set];exact h.1,?_⟩;rcases h.2 with⟨e1,_⟩|⟨g',cap',cur,e1,h0,hg,h1,h2,h3,h4⟩
 ·cases e1
 ·cases e1;refine Or.inr ⟨g,cap,cur.setIfInBounds i u,rfl,h0,ej hg u,h1,h2,by simpa using h3,?_⟩;rw[Array.toList_setIfInBounds,List.take_set,h4]
theorem ic.cells(h:ic tN tA A K w nv l av kv)(k:Nat)(n:Nd)(hk:l[k]?=some n):∃g cap,nv=Z9 g l.length cap/\l.length<=maxLen/\K g/\
  w.cell? ⟨g,k*5,none⟩=some (eA n.name)/\w.cell? ⟨g,k*5+1,none⟩=some (av k)/\w.cell? ⟨g,k*5+2,none⟩=some (eA n.text)/\w.cell? ⟨g,k*5+3,none⟩=some (kv k)/\w.cell? ⟨g,k*5+4,none⟩=some (.int .i64 n.up):=by
 have hlt:=(List.getElem?_eq_some_iff.1 hk).1;rcases h.row.2 with⟨_,e⟩|⟨g,cap,cur,e1,h0,hg,h1,h2,h3,h4⟩
 ·omega
 ·have hc:∀c u,(gX n (av k) (kv k))[c]?=some u->w.cell? ⟨g,k*5+c,none⟩=some u:=by
   intro c u hu;have h5:=zx av kv l 0 k n c u hk (by rw[aG];exact hu);refine cell_of hg ?_;rw[<-h4,bS]at h5;split at h5
   ·simpa using h5
   ·cases h5
  exact⟨g,cap,e1,by omega,h.nz g (by rw[e1];rfl),hc 0 _ rfl,hc 1 _ rfl,hc 2 _ rfl,hc 3 _ rfl,hc 4 _ rfl⟩
theorem ic.fJ(h:ic tN tA A K w nv l av kv)(rM:∀k,A k->¬K k)(lt:∀k,K k->k<w.heap.size)(rZ:∀k,A k->k<w.heap.size){g cap k j:Nat}{n:Nd}{v':Value}(hv:nv=Z9 g l.length cap)(hk:l[k]?=some n)
  (hg:w.grownBy w1 (kv k).ownBlock) (ho:w1.ownsRow 0 3 1 v' (n.kids.length+1) (fj n.kids++[.int .i64 j])) (hat:v'.ownBlock=(kv k).ownBlock\/v'.ownBlock=some w.heap.size):
  ic tN tA A (fun i=>K i\/i=w.heap.size) (w1.setCell ⟨g,k*5+3,none⟩ v') nv (fJ l k j) av (upd kv k v'):=by
 have hlt:=(List.getElem?_eq_some_iff.1 hk).1;have Jm:K g:=h.nz g (by rw[hv];rfl);have hne:(kv k).ownBlock≠some g:=fun e=>(h.mo k g hlt e).2 (by rw[hv];rfl);have abf:v'.ownBlock≠some g:=by
  rcases hat with e|e<;>rw[e]
  ·exact hne
  ·intro x;cases x;exact absurd (lt _ Jm) (by omega)
 --blocks that are kept
 have keep:∀b,b<w.heap.size->b≠g->(kv k).ownBlock≠some b->(w1.setCell ⟨g,k*5+3,none⟩ v').heap[b]?=w.heap[b]?:=fun b hb h1 h2=>by rw[ak _ _ _ _ h1];exact hg.block b hb (fun e=>h2 e.symm)
 have Vm:w1.ownsRow 0 tN 5 nv l.length (fh av kv 0 l):=dY h.row fun b e=>hg.block b (eu h.row e) (fun x=>by rw[hv]at e;cases e;exact hne x.symm);have N1:∀i m,(Proofs.YtclgfepngpeifaaGreatDoor.K.fJ l k j)[i]?=some m->(i=k/\m=n.kid j)\/(i≠k/\l[i]?=some m):=by
  intro i m hi;rw[mF]at hi;by_cases e:i=k
  ·subst e;rw[if_pos rfl,hk]at hi;simp only[Option.map_some,bL]at hi;exact Or.inl ⟨rfl,hi.symm⟩
  ·rw[if_neg e]at hi;exact Or.inr ⟨e,hi⟩
 refine⟨?_,fun b e=>Or.inl (h.nz b e),?_,fun i b hi e=>h.uS i b (by rwa[fP]at hi) e,?_,?_,?_,?_⟩
 ·rw[fP];have:=wQ av v' j l kv 0 k hlt;rw[aG]at this;rw[<-this,hv];rw[hv]at Vm;exact QP Vm (by omega) v'
 ·intro i m hi;have key:∀m',l[i]?=some m'->m'.attrs=m.attrs->(w1.setCell ⟨g,k*5+3,none⟩ v').ownsRow 0 tA 2 (av i) m.attrs.length (ee m.attrs):=by
   intro m' h' ea;have Ik:=h.attr i m' h';rw[ea]at Ik;refine dY Ik fun b e=>keep b (eu Ik e) ?_ ?_
   ·rintro rfl;exact rM _ (h.uS i _ (List.getElem?_eq_some_iff.1 h').1 e) Jm
   ·intro e2;exact rM _ (h.uS i _ (List.getElem?_eq_some_iff.1 h').1 e) (h.mo k b hlt e2).1
  rcases N1 i m hi with⟨rfl,rfl⟩|⟨_,h'⟩
  ·exact key n hk rfl
  ·exact key m h' rfl
 ·intro i m hi;rcases N1 i m hi with⟨rfl,rfl⟩|⟨hik,h'⟩
  ·rw[upd_same];have e1:(n.kid j).kids=n.kids++[j]:=rfl;have e2:fj (n.kids++[j])=fj n.kids++[.int .i64 j]:=by simp[fj]
   rw[e1,e2,ax];exact dY ho fun b e=>ak _ _ _ _ (fun x=>abf (by rw[e,x]))
  ·rw[fw _ _ hik];have Hm:=(List.getElem?_eq_some_iff.1 h').1;refine dY (h.kid i m h') fun b e=>keep b (eu (h.kid i m h') e) (fun x=>(h.mo i b Hm e).2 (by rw[hv,x];rfl)) (h.apart i k b Hm hlt hik e)
 ·intro i b hi e;rw[fP]at hi;by_cases hik:i=k
  ·subst hik;rw[upd_same]at e;rcases hat with e2|e2
   ·rw[e2]at e;exact⟨Or.inl (h.mo i b hi e).1,(h.mo i b hi e).2⟩
   ·rw[e2]at e;cases e;refine⟨Or.inr rfl,fun x=>?_⟩;rw[hv]at x;have hx:g=w.heap.size:=by simpa [Value.ownBlock]using x
    have:=lt _ Jm;omega
  ·rw[fw _ _ hik]at e;exact⟨Or.inl (h.mo i b hi e).1,(h.mo i b hi e).2⟩
 ·intro i i' b hi GU N7 e;rw[fP]at hi GU;by_cases h1:i=k
  ·subst h1;rw[upd_same]at e;rw[fw _ _ (fun x=>N7 x.symm)];rcases hat with e2|e2
   ·rw[e2]at e;exact h.apart i i' b hi GU N7 e
   ·rw[e2]at e;cases e;intro x;exact absurd (lt _ (h.mo i' _ GU x).1) (by omega)
  ·rw[fw _ _ h1]at e;by_cases h2:i'=k
   ·subst h2;rw[upd_same];rcases hat with e2|e2
    ·rw[e2];exact h.apart i i' b hi GU N7 e
    ·rw[e2];intro x;cases x;exact absurd (lt _ (h.mo i _ hi e).1) (by omega)
   ·rw[fw _ _ h2];exact h.apart i i' b hi GU N7 e
 ·intro i m hi hm;rcases N1 i m hi with⟨rfl,rfl⟩|⟨hik,h'⟩
  ·simp[Nd.kid]at hm
  ·rw[fw _ _ hik];exact h.Un i m h' hm
theorem ic.push(h:ic tN tA A K w nv l av kv)(rM:∀k,A k->¬K k)(lt:∀k,K k->k<w.heap.size)(rZ:∀k,A k->k<w.heap.size){n:Nd}{a v':Value}
  (ha:w.ownsRow 0 tA 2 a n.attrs.length (ee n.attrs)) (mq:∀k,a.ownBlock=some k->A k) (hn:n.kids=[])
  (hg:w.grownBy w1 nv.ownBlock) (ho:w1.ownsRow 0 tN 5 v' (l.length+1) (fh av kv 0 l++gX n a fo)) (hat:v'.ownBlock=nv.ownBlock\/v'.ownBlock=some w.heap.size):
  ic tN tA A (fun i=>K i\/i=w.heap.size) w1 v' (l++[n]) (upd av l.length a) (upd kv l.length fo):=by
 have keep:∀b,b<w.heap.size->nv.ownBlock≠some b->w1.heap[b]?=w.heap[b]?:=fun b hb h2=>hg.block b hb (fun e=>h2 e.symm);have hvK:∀b,v'.ownBlock=some b->(K b\/b=w.heap.size):=fun b e=>by
  rcases hat with e2|e2
  ·rw[e2]at e;exact Or.inl (h.nz b e)
  ·rw[e2]at e;cases e;exact Or.inr rfl
 have hget:∀i m,(l++[n])[i]?=some m->(i<l.length/\l[i]?=some m)\/(i=l.length/\m=n):=by
  intro i m hi;by_cases h1:i<l.length
  ·rw[aU h1]at hi;exact Or.inl ⟨h1,hi⟩
  ·rw[aW (by omega)]at hi;have h2:=(List.getElem?_eq_some_iff.1 hi).1;simp only[aC,aI]at h2;have h3:i-l.length=0:=by omega
   rw[h3]at hi;exact Or.inr ⟨by omega,by simpa using hi.symm⟩
 refine⟨?_,hvK,?_,?_,?_,?_,?_,?_⟩
 ·rw[ax,qL];have e1:fh (upd av l.length a) (upd kv l.length fo) 0 l=fh av kv 0 l:=oh l 0 fun j _ b=>⟨fw _ _ (by omega),fw _ _ (by omega)⟩
  have e2:fh (upd av l.length a) (upd kv l.length fo) (0+l.length) [n]=gX n a fo:=by simp only[fh,aG,upd_same,aP]
  rw[e1,e2];exact ho
 ·intro i m hi;rcases hget i m hi with⟨h1,h2⟩|⟨rfl,rfl⟩
  ·rw[fw _ _ (by omega)];exact dY (h.attr i m h2) fun b e=>keep b (eu (h.attr i m h2) e) fun x=>rM b (h.uS i b h1 e) (h.nz b x)
  ·rw[upd_same];exact dY ha fun b e=>keep b (eu ha e) fun x=>rM b (mq b e) (h.nz b x)
 ·intro i b hi e;by_cases h1:i=l.length
  ·subst h1;rw[upd_same]at e;exact mq b e
  ·rw[fw _ _ h1]at e;exact h.uS i b (by simp only[ax,aC,aI]at hi;omega) e
 ·intro i m hi;rcases hget i m hi with⟨h1,h2⟩|⟨rfl,rfl⟩
  ·rw[fw _ _ (by omega)];exact dY (h.kid i m h2) fun b e=>keep b (eu (h.kid i m h2) e) (h.mo i b h1 e).2
  ·rw[upd_same,hn];exact⟨rfl,Or.inl ⟨rfl,rfl⟩⟩
 ·intro i b hi e;by_cases h1:i=l.length
  ·subst h1;rw[upd_same]at e;cases e
  ·rw[fw _ _ h1]at e;have Hm:i<l.length:=by simp only[ax,aC,aI]at hi;omega
   have hk:=h.mo i b Hm e;refine⟨Or.inl hk.1,?_⟩;rcases hat with e2|e2
   ·rw[e2];exact hk.2
   ·rw[e2];intro x;cases x;exact absurd (lt _ hk.1) (by omega)
 ·intro i j b hi hj Y9 e;simp only[ax,aC,aI]at hi hj;by_cases h1:i=l.length
  ·subst h1;rw[upd_same]at e;cases e
  ·rw[fw _ _ h1]at e;by_cases h2:j=l.length
   ·subst h2;rw[upd_same];intro x;cases x
   ·rw[fw _ _ h2];exact h.apart i j b (by omega) (by omega) Y9 e
 ·intro i m hi hm;rcases hget i m hi with⟨h1,h2⟩|⟨rfl,rfl⟩
  ·rw[fw _ _ (by omega)];exact h.Un i m h2 hm
  ·rw[upd_same]
end
section
variable{A K K':Nat->Prop}{w w' w1:World}{nv:Value}{av kv:Nat->Value}{g:Gr}{X:Nat}{sv rv:Value}
structure jF(A K:Nat->Prop)(X:Nat)(w:World)(g:Gr)(nv:Value)(av kv:Nat->Value)(sv rv:Value):Prop where
 blk:w.heap[X]?=some (.cells #[sv,rv,nv,.int .i64 (iI g.stack)] 54 (0,0))
 nodes:ic 40 42 A K w nv g.nodes av kv
 nA:¬A X
 nK:¬K X
 rM:∀k,A k->¬K k
 lt:∀k,K k->k<w.heap.size
 rZ:∀k,A k->k<w.heap.size
theorem jF.cell(h:jF A K X w g nv av kv sv rv)(i:Nat){u:Value}(e:#[sv,rv,nv,.int .i64 (iI g.stack)][i]?=some u):w.cell? ⟨X,i,none⟩=some u:=cell_of h.blk e
theorem QQ:(prog.info? 40).map (fun i=>(i.zero,i.size,i.bytes))=some (some (.agg #[.string ⟨#[]⟩,.slice none 0 0,.string ⟨#[]⟩,.slice none 0 0,.int .i64 0]),5,88):=by kernel_rfl
theorem wu:(prog.info? 3).map (fun i=>(i.zero,i.size,i.bytes))=some (some (.int .i64 0),1,8):=by kernel_rfl
theorem xI(w:World)(n:Nd)(a k:Value)(t:TypeId):∀j u,(gX n a k)[j]?=some u->(w.alloc (.cells (gX n a k).toArray t)).cell? ((⟨w.heap.size,0,none⟩:Addr).add j)=some u:=by
 intro j u hu;rw[dg,aG,cell_of (bf w _) (v:=u)];rw[cw];exact hu
theorem DL(n:Nd)(a k:Value)(ha:a.oneCell'=true)(hk:k.oneCell'=true):∀u∈gX n a k,u.oneCell'=true:=by
 intro u hu;simp only[gX,bN,bC,cq]at hu;rcases hu with rfl|rfl|rfl|rfl|rfl
 ·rfl
 ·exact ha
 ·rfl
 ·exact hk
 ·rfl
theorem zy{u0 w2:World}{K1:Nat->Prop}{l1:List Nd}{n:Nd}{a v':Value}{d:Value}(hX:u0.heap[X]?=some (.cells #[sv,rv,nv,d] 54 (0,0)))(hn:ic 40 42 A K1 u0 nv l1 av kv)(rM:∀k,A k->¬K1 k)(lt:∀k,K1 k->k<u0.heap.size)(rZ:∀k,A k->k<u0.heap.size)(nA:¬A X)(nK:¬K1 X)
  (ha:u0.ownsRow 0 42 2 a n.attrs.length (ee n.attrs)) (mq:∀k,a.ownBlock=some k->A k) (hk:n.kids=[]) (hg:u0.grownBy w2 nv.ownBlock) (ho:w2.ownsRow 0 40 5 v' (l1.length+1) (fh av kv 0 l1++gX n a fo)) (hat:v'.ownBlock=nv.ownBlock\/v'.ownBlock=some u0.heap.size):
  ic 40 42 A (fun i=>K1 i\/i=u0.heap.size) (w2.setCell ⟨X,2,none⟩ v') v' (l1++[n]) (upd av l1.length a) (upd kv l1.length fo)/\(w2.setCell ⟨X,2,none⟩ v').heap[X]?=some (.cells #[sv,rv,v',d] 54 (0,0))/\
  Frame (fun k=>k=X\/K1 k) u0 (w2.setCell ⟨X,2,none⟩ v'):=by
 have qM:X<u0.heap.size:=dS hX;have Sd:nv.ownBlock≠some X:=fun e=>nK (hn.nz X e);have YZ:w2.heap[X]?=some (.cells #[sv,rv,nv,d] 54 (0,0)):=(hg.block X qM (fun e=>Sd e.symm)).trans hX;have hp:=hn.push rM lt rZ ha mq hk hg ho hat;refine⟨hp.frame (fun k _ hA=>ak _ _ _ _ (fun e=>nA (by have e':k=X:=e;rw[<-e'];exact hA))) (fun k hk2 hK=>ak _ _ _ _ ?_) (fun k _ hK=>hK),?_,⟨hg.os,hg.tape,hg.output,?_,?_⟩⟩
 ·rintro rfl;rcases hK with e|e
  ·exact nK e
  ·omega
 ·rw[ej YZ];rfl
 ·have:=hg.size;simpa [World.setCell]using this
 ·intro k hk2 hf;rw[ak _ _ _ _ (fun e=>hf (Or.inl e))];exact hg.block k hk2 (fun e=>hf (Or.inr (hn.nz k e.symm)))
theorem jF.next{g':Gr}{j4:Value}{jh jS:Nat->Value}{Kx:Nat->Prop}(h:jF A K X w g nv av kv sv rv)(fr:Frame (fun k=>k=X\/K k) w w')(hn:ic 40 42 A Kx w' j4 g'.nodes jh jS)(hK:∀k,k<w'.heap.size->Kx k->Grow K w w' k)
  (hb:w'.heap[X]?=some (.cells #[sv,rv,j4,.int .i64 (iI g'.stack)] 54 (0,0))):jF A (Grow K w w') X w' g' j4 jh jS sv rv:=by
 have qM:=dS h.blk;refine⟨hb,hn.frame (fun _ _ _=>rfl) (fun _ _ _=>rfl) hK,h.nA,?_,?_,iA h.lt fr.size,fun k hA=>aq (h.rZ k hA) fr.size⟩
 ·rintro(e|e)
  ·exact h.nK e
  ·omega
 ·rintro k hA (e|e)
  ·exact h.rM k hA e
  ·have:=h.rZ k hA;omega
theorem Frame.trans'{F:Nat->Prop}{a b c:World}(h:Frame F a b)(k:Frame F b c):Frame F a c:=
 ⟨k.os.trans h.os,k.tape.trans h.tape,k.output.trans h.output,aw h.size k.size,fun i hi hf=>(k.block i (aq hi h.size) hf).trans (h.block i hi hf)⟩
theorem Frame.QR{F:Nat->Prop}(w:World)(o:Obj):Frame F w (w.alloc o):=⟨rfl,rfl,rfl,by simp,fun k hk _=>ay _ _ _ hk⟩
theorem Frame.drew'{F:Nat->Prop}(w:World):Frame F w w.drew:=⟨rfl,rfl,rfl,au _,fun _ _ _=>rfl⟩
theorem M5{n:Nd}{a v':Value}{o1 o2:Obj}{w2:World}(h:jF A K X w g nv av kv sv rv)(hs:g.stack=[])(ha:w.ownsRow 0 42 2 a n.attrs.length (ee n.attrs))(mq:∀k,a.ownBlock=some k->A k)(hn:n.kids=[])
  (hg:((w.alloc o1).drew.alloc o2).grownBy w2 nv.ownBlock) (ho:w2.ownsRow 0 40 5 v' (g.nodes.length+1) (fh av kv 0 g.nodes++gX {n with up:= -1} a fo)) (hat:v'.ownBlock=nv.ownBlock\/v'.ownBlock=some ((w.alloc o1).drew.alloc o2).heap.size):
  ∃j4 jh jS,jF A (Grow K w (w2.setCell ⟨X,2,none⟩ v')) X (w2.setCell ⟨X,2,none⟩ v') (g.put n) j4 jh jS sv rv/\Frame (fun k=>k=X\/K k) w (w2.setCell ⟨X,2,none⟩ v'):=by
 have f1:∀F:Nat->Prop,Frame F w ((w.alloc o1).drew.alloc o2):=fun F=>((Frame.QR _ _).trans' (Frame.drew' _)).trans' (Frame.QR _ _);have qM:=dS h.blk;have keep:∀k,k<w.heap.size->((w.alloc o1).drew.alloc o2).heap[k]?=w.heap[k]?:=fun k hk=>(f1 (fun _=>False)).block k hk (fun x=>x);have hsz:=(f1 (fun _=>False)).size;obtain⟨p1,p2,p3⟩:=zy (n:={n with up:= -1}) (a:=a) ((keep X qM).trans h.blk) (h.nodes.frame (K':=K) (fun k hk _=>keep k hk) (fun k hk _=>keep k hk) (fun _ _ x=>x)) h.rM (fun k x=>aq (h.lt k x) hsz) (fun k x=>aq (h.rZ k x) hsz) h.nA h.nK
  (dY ha fun k e=>keep k (eu ha e)) mq hn hg ho hat
 have fr:=(f1 (fun k=>k=X\/K k)).trans' p3;have Jn:g.put n=⟨g.nodes++[{n with up:= -1}],g.stack⟩:=by unfold Gr.put;rw[hs]
 rw[Jn];refine⟨_,_,_,h.next (g':=⟨g.nodes++[{n with up:= -1}],g.stack⟩) fr p1 ?_ p2,fr⟩;rintro k hk (e|e)
 ·exact Or.inl e
 ·exact Or.inr ⟨by omega,hk⟩
theorem QT(h:jF A K X w g nv av kv sv rv)(hs:g.stack=[])(n:Nd)(a:Value)(z:Int)(ha:w.ownsRow 0 42 2 a n.attrs.length (ee n.attrs))(mq:∀k,a.ownBlock=some k->A k)(hn:n.kids=[])(hb:g.nodes.length<=17179869184):
  Z4 39 #[Z8 X,.agg #[.string ⟨n.name.toArray⟩,a,.string ⟨n.text.toArray⟩,.slice none 0 0,.int .i64 z]] w fun e w'=>e=.returned (.int .i64 g.nodes.length)/\∃j4 jh jS,jF A (Grow K w w') X w' (g.put n) j4 jh jS sv rv/\Frame (fun k=>k=X\/K k) w w':=by
 obtain⟨ai,ac,l8⟩:=dU ha;obtain⟨ni,nc,pQ⟩:=dU h.nodes.row;subst l8;subst pQ;have c0:w.cell? ⟨X,2,none⟩=some (.slice ni g.nodes.length nc):=h.cell 2 rfl;have c1:w.cell? ⟨X,3,none⟩=some (.int .i64 (-1)):=by have:=h.cell 3 rfl;rw[hs]at this;exact this
 have c0a:∀o:Obj,(w.alloc o).cell? ⟨X,2,none⟩=some (.slice ni g.nodes.length nc):=fun o=>dX o c0;have c1a:∀o:Obj,(w.alloc o).cell? ⟨X,3,none⟩=some (.int .i64 (-1)):=fun o=>dX o c1;have qM:=dS h.blk;have Sd:(Value.slice ni g.nodes.length nc).ownBlock≠some X:=fun e=>h.nK (h.nodes.nz X e);obtain⟨i0,hi,hz0,hz1,hz2⟩:=aY QQ;have HR:=a_ h.nodes.row;have HA:=a_ ha;have Ha:=a_ mq;have H:=a_ h;clear h ha mq;go_enter func39,ntmps39;go_wp2_with fail;obtain⟨W1,hW1⟩:∃W,w.alloc (.cells #[.string ⟨n.name.toArray⟩,.slice ai (List.length n.attrs) ac,.string ⟨n.text.toArray⟩,.slice none 0 0,.int .i64 (-1)] 40)=W:=⟨_,rfl⟩
 rw[hW1];have eE:W1.heap[w.heap.size]?=some (.cells #[.string ⟨n.name.toArray⟩,.slice ai (List.length n.attrs) ac,.string ⟨n.text.toArray⟩,.slice none 0 0,.int .i64 (-1)] 40):=by rw[<-hW1];exact dT _ _
 have n0:=cell_of (i:=0) eE rfl;have n1:=cell_of (i:=1) eE rfl;have n2:=cell_of (i:=2) eE rfl;have n3:=cell_of (i:=3) eE rfl;have n4:=cell_of (i:=4) eE rfl;have x0:W1.cell? ⟨X,2,none⟩=some (.slice ni g.nodes.length nc):=by rw[<-hW1];exact c0a _
 have x0a:∀o:Obj,(W1.alloc o).cell? ⟨X,2,none⟩=some (.slice ni g.nodes.length nc):=fun o=>dX o x0;have Yo:W1.heap[X]?=some (.cells #[sv,rv,.slice ni g.nodes.length nc,.int .i64 (iI g.stack)] 54 (0,0)):=by rw[<-hW1,ay _ _ _ qM];exact H.out.blk
 have DZ:Hid (W1.ownsRow 0 40 5 (.slice ni g.nodes.length nc) g.nodes.length (fh av kv 0 g.nodes)):=a_ (by rw[<-hW1];exact HR.out.alloc _);have HXB:=a_ Yo;have K_:=a_ hW1;have f0:=d_ (i:=2) Yo;clear hW1 eE c0a c1a c0 c1 Yo;go_region_law
  (first|(
   refine eP rfl (.tmp 45) (.tmp 47) 22 rfl 40 i0 _ 5 88 underlying22 hi hz0 hz1 hz2 rfl (by decide) (.slice ni g.nodes.length nc) g.nodes.length (fh av kv 0 g.nodes) (by simp[Act.eval,Act.put]) (DZ.out.drew.alloc _) ⟨W1.heap.size,0,none⟩ 1 1 (gX {n with up:= -1} (.slice ai (List.length n.attrs) ac) fo) (by simp[Act.eval,Act.put]) rfl (xI _ _ _ _ _) (DL _ _ _ rfl rfl) (by unfold maxLen;omega) (by omega) ?_;intro v' w2 ho hg hat;obtain⟨sA,cap',rfl⟩:=dU ho;have hb1:=fL HXB.out Sd hg;have x0':w2.cell? ⟨X,2,none⟩=some (.slice ni g.nodes.length nc):=cell_of hb1 rfl;have f0':=d_ (i:=2) hb1;have HO:=a_ ho;have HG:=a_ hg;have rT:=a_ hat;clear ho hg hat hb1))
 all_goals
  go_wp2;go_ret;have h3:=K_.out;subst h3;exact⟨rfl,M5 H.out hs HA.out Ha.out hn HG.out HO.out rT.out⟩
end
section
variable{A K K':Nat->Prop}{w w' w1:World}{nv:Value}{av kv:Nat->Value}{g:Gr}{X:Nat}{sv rv:Value}
structure ed(w W:World):Prop where
 os:W.os=w.os
 tape:W.tape=w.tape
 output:W.output=w.output
 size:w.heap.size<=W.heap.size
 keep:∀b,b<w.heap.size->W.heap[b]?=w.heap[b]?
theorem ed.frame{F:Nat->Prop}{W:World}(h:ed w W):Frame F w W:=⟨h.os,h.tape,h.output,h.size,fun b hb _=>h.keep b hb⟩
theorem ed.nodes{W:World}{l:List Nd}(h:ed w W)(hn:ic 40 42 A K w nv l av kv):ic 40 42 A K W nv l av kv:=hn.frame (fun k hk _=>h.keep k hk) (fun k hk _=>h.keep k hk) (fun _ _ x=>x)
theorem ed.alloc{W:World}(h:ed w W)(o:Obj):ed w (W.alloc o):=⟨h.os,h.tape,h.output,by have:=h.size;simp;omega,fun b hb=>(ay _ _ _ (aq hb h.size)).trans (h.keep b hb)⟩
theorem ed.drewN{W:World}(h:ed w W)(n:Nat):ed w (W.drewN n):=⟨h.os,h.tape,h.output,h.size,h.keep⟩
theorem ed.refl(w:World):ed w w:=⟨rfl,rfl,rfl,au _,fun _ _=>rfl⟩
theorem Uo{k:Nat}{st:List Nat}{m:Nd}{W1 w2:World}{o:Obj}{v':Value}{gN nc:Nat}(h:jF A K X w g nv av kv sv rv)(hm:g.nodes[k]?=some m)(pQ:nv=Z9 gN g.nodes.length nc)(hW:ed w W1)
  (hg:(W1.alloc o).grownBy w2 (kv k).ownBlock) (ho:w2.ownsRow 0 3 1 v' (m.kids.length+1) (fj m.kids++[.int .i64 g.nodes.length])) (hat:v'.ownBlock=(kv k).ownBlock\/v'.ownBlock=some (W1.alloc o).heap.size):
  ic 40 42 A (fun i=>K i\/i=(W1.alloc o).heap.size) (w2.setCell ⟨gN,k*5+3,none⟩ v') nv (fJ g.nodes k g.nodes.length) av (upd kv k v')/\
  (∀b,b<(W1.alloc o).heap.size->¬K b->(w2.setCell ⟨gN,k*5+3,none⟩ v').heap[b]?=(W1.alloc o).heap[b]?)/\Frame K w (w2.setCell ⟨gN,k*5+3,none⟩ v')/\(W1.alloc o).heap.size<=(w2.setCell ⟨gN,k*5+3,none⟩ v').heap.size:=by
 have hk:k<g.nodes.length:=(List.getElem?_eq_some_iff.1 hm).1;have Jm:K gN:=h.nodes.nz gN (by rw[pQ];rfl);have hM:=hW.alloc o;have hn:=(hM.nodes h.nodes).fJ (j:=g.nodes.length) h.rM (fun i x=>aq (h.lt i x) hM.size) (fun i x=>aq (h.rZ i x) hM.size) pQ hm hg ho hat;have hb:∀b,b<(W1.alloc o).heap.size->¬K b->(w2.setCell ⟨gN,k*5+3,none⟩ v').heap[b]?=(W1.alloc o).heap[b]?:=by
  intro b hb hK;rw[ak _ _ _ _ (fun e=>hK (by have e':b=gN:=e;rw[e'];exact Jm))];exact hg.block b hb (fun e=>hK (h.nodes.mo k b hk e.symm).1)
 have hz:(W1.alloc o).heap.size<=(w2.setCell ⟨gN,k*5+3,none⟩ v').heap.size:=by
  have:=hg.size;simpa [World.setCell]using this
 exact⟨hn,hb,⟨hg.os.trans hM.os,hg.tape.trans hM.tape,hg.output.trans hM.output,aw hM.size hz,fun i hi hK=>(hb i (aq hi hM.size) hK).trans (hM.keep i hi)⟩,hz⟩
theorem Jo{k:Nat}{st:List Nat}{n:Nd}{a v1 v':Value}{o2:Obj}{W3 w4:World}{Z:Nat}(h:jF A K X w g nv av kv sv rv)(hs:g.stack=k::st)(ha:w.ownsRow 0 42 2 a n.attrs.length (ee n.attrs))(mq:∀k,a.ownBlock=some k->A k)(hn:n.kids=[])
  (hZ:w.heap.size<=Z) (hZ3:Z<=W3.heap.size) (p1:ic 40 42 A (fun i=>K i\/i=Z) W3 nv (fJ g.nodes k g.nodes.length) av (upd kv k v1)) (p3:Frame K w W3) (hX:W3.heap[X]?=some (.cells #[sv,rv,nv,.int .i64 (iI g.stack)] 54 (0,0)))
  (hg:(W3.drew.alloc o2).grownBy w4 nv.ownBlock) (ho:w4.ownsRow 0 40 5 v' (g.nodes.length+1) (fh av (upd kv k v1) 0 (fJ g.nodes k g.nodes.length)++gX {n with up:=k} a fo)) (hat:v'.ownBlock=nv.ownBlock\/v'.ownBlock=some (W3.drew.alloc o2).heap.size):
  ∃j4 jh jS,jF A (Grow K w (w4.setCell ⟨X,2,none⟩ v')) X (w4.setCell ⟨X,2,none⟩ v') (g.put n) j4 jh jS sv rv/\Frame (fun k=>k=X\/K k) w (w4.setCell ⟨X,2,none⟩ v'):=by
 have qM:=dS h.blk;have hM:ed W3 (W3.drew.alloc o2):=((ed.refl W3).drewN 1).alloc o2
 --what lies at all
 let K1:Nat->Prop:=fun i=>(K i\/i=Z)/\i<W3.heap.size
 have p1':ic 40 42 A K1 W3 nv (fJ g.nodes k g.nodes.length) av (upd kv k v1):=p1.frame (fun _ _ _=>rfl) (fun _ _ _=>rfl) (fun i hi x=>⟨x,hi⟩);have q1:∀i,A i->¬K1 i:=fun i hA x=>by
  rcases x.1 with e|e
  ·exact h.rM i hA e
  ·have:=h.rZ i hA;omega
 have q2:∀i,K1 i->i<(W3.drew.alloc o2).heap.size:=fun i x=>aq x.2 hM.size;have q3:∀i,A i->i<(W3.drew.alloc o2).heap.size:=fun i x=>aq (h.rZ i x) (aw p3.size hM.size);have q4:¬K1 X:=fun x=>by
  rcases x.1 with e|e
  ·exact h.nK e
  ·omega
 have hA3:∀i,A i->W3.heap[i]?=w.heap[i]?:=fun i hA=>p3.block i (h.rZ i hA) (fun x=>h.rM i hA x);have ha3:(W3.drew.alloc o2).ownsRow 0 42 2 a n.attrs.length (ee n.attrs):=dY ha fun i e=>(hM.keep i (aq (eu ha e) p3.size)).trans (hA3 i (mq i e));obtain⟨r1,r2,r3⟩:=zy (n:={n with up:=k}) (a:=a) ((hM.keep X (aq qM p3.size)).trans hX) (hM.nodes p1') q1 q2 q3 h.nA q4 ha3 mq hn hg (by rw[fP];exact ho) hat;have fr:Frame (fun k=>k=X\/K k) w (w4.setCell ⟨X,2,none⟩ v'):=by
  refine⟨r3.os.trans (hM.os.trans p3.os),r3.tape.trans (hM.tape.trans p3.tape),r3.output.trans (hM.output.trans p3.output),aw p3.size (aw hM.size r3.size),fun i hi hf=>?_⟩;rw[r3.block i (aq hi (aw p3.size hM.size)) (fun x=>?_),hM.keep i (aq hi p3.size)]
  ·exact p3.block i hi (fun x=>hf (Or.inr x))
  ·rcases x with e|e
   ·exact hf (Or.inl e)
   ·rcases e.1 with e|e
    ·exact hf (Or.inr e)
    ·omega
 have Jn:g.put n=⟨fJ g.nodes k g.nodes.length++[{n with up:=(k:Int)}],g.stack⟩:=by unfold Gr.put;rw[hs]
 rw[Jn];refine⟨_,_,_,h.next (g':=⟨fJ g.nodes k g.nodes.length++[{n with up:=(k:Int)}],g.stack⟩) fr r1 ?_ r2,fr⟩;rintro i hi (e|e)
 ·rcases e.1 with e1|e1
  ·exact Or.inl e1
  ·exact Or.inr ⟨by omega,hi⟩
 ·exact Or.inr ⟨by have:=p3.size;have:=hM.size;omega,hi⟩
theorem QU(h:jF A K X w g nv av kv sv rv)(k:Nat)(st:List Nat)(m:Nd)(hs:g.stack=k::st)(hm:g.nodes[k]?=some m)(n:Nd)(a:Value)(z:Int)(ha:w.ownsRow 0 42 2 a n.attrs.length (ee n.attrs))(mq:∀k,a.ownBlock=some k->A k)(hn:n.kids=[])(hb:g.nodes.length<=17179869184)(hb2:m.kids.length<=17179869184):
  Z4 39 #[Z8 X,.agg #[.string ⟨n.name.toArray⟩,a,.string ⟨n.text.toArray⟩,.slice none 0 0,.int .i64 z]] w fun e w'=>e=.returned (.int .i64 g.nodes.length)/\∃j4 jh jS,jF A (Grow K w w') X w' (g.put n) j4 jh jS sv rv/\Frame (fun k=>k=X\/K k) w w':=by
 obtain⟨ai,ac,l8⟩:=dU ha;obtain⟨gN,nc,pQ,hmx,Jm,m0,m1,m2,m3,m4⟩:=h.nodes.cells k m hm;have vB:k<g.nodes.length:=(List.getElem?_eq_some_iff.1 hm).1;have Ax:=h.nodes.kid k m hm;obtain⟨ki,kc,u_⟩:=dU Ax;rw[u_]at m3 Ax;subst l8;subst pQ;have c0:w.cell? ⟨X,2,none⟩=some (Z9 gN g.nodes.length nc):=h.cell 2 rfl;have c1:w.cell? ⟨X,3,none⟩=some (.int .i64 k):=by have:=h.cell 3 rfl;rw[hs]at this;exact this
 have c0a:∀o:Obj,(w.alloc o).cell? ⟨X,2,none⟩=some (Z9 gN g.nodes.length nc):=fun o=>dX o c0;have c1a:∀o:Obj,(w.alloc o).cell? ⟨X,3,none⟩=some (.int .i64 k):=fun o=>dX o c1;have m3a:∀o:Obj,(w.alloc o).cell? ⟨gN,k*5+3,none⟩=some (.slice ki m.kids.length kc):=fun o=>dX o m3;have qM:=dS h.blk;have hXg:gN≠X:=fun e=>h.nK (e▸Jm);have hkX:(Value.slice ki m.kids.length kc).ownBlock≠some X:=fun e=>h.nK (h.nodes.mo k X vB (by rw[u_];exact e)).1;have hkg:(Value.slice ki m.kids.length kc).ownBlock≠some gN:=fun e=>(h.nodes.mo k gN vB (by rw[u_];exact e)).2 rfl;have hkn:¬((k:Int)= -1):=by omega
 have hne:((k:Int) != -1)=true:=by simp
 have Yp:(k:Int)<g.nodes.length:=by omega
 obtain⟨i0,hi,hz0,hz1,hz2⟩:=aY QQ;obtain⟨j0,hj,RZ,ED,D4⟩:=aY wu;have HR:=a_ h.nodes.row;have aag:=a_ Ax;have HA:=a_ ha;have Ha:=a_ mq;have H:=a_ h;clear h ha mq Ax m0 m1 m2 m4;go_enter func39,ntmps39;go_wp2_with fail;go_quiet(fail);obtain⟨W1,hW1⟩:∃W,(w.alloc (.cells #[.string ⟨n.name.toArray⟩,.slice ai (List.length n.attrs) ac,.string ⟨n.text.toArray⟩,.slice none 0 0,.int .i64 (k:Int)] 40)).drewN nq=W:=⟨_,rfl⟩
 rw[hW1];have hM:ed w W1:=by rw[<-hW1];exact((ed.refl w).alloc _).drewN _
 have eE:W1.heap[w.heap.size]?=some (.cells #[.string ⟨n.name.toArray⟩,.slice ai (List.length n.attrs) ac,.string ⟨n.text.toArray⟩,.slice none 0 0,.int .i64 (k:Int)] 40):=by rw[<-hW1];exact dT w _
 have Yo:W1.heap[X]?=some (.cells #[sv,rv,Z9 gN g.nodes.length nc,.int .i64 (iI g.stack)] 54 (0,0)):=(hM.keep X qM).trans H.out.blk;obtain⟨cur,zS⟩:=fA HR.out (k:=gN) rfl;have rV:gN<w.heap.size:=dS zS;have Vn:W1.heap[gN]?=some (.cells cur 40 (0,0)):=(hM.keep gN rV).trans zS;have k3:W1.cell? ⟨gN,k*5+3,none⟩=some (.slice ki m.kids.length kc):=(ar (hM.keep gN rV)).trans m3;have HK1:Hid (W1.ownsRow 0 3 1 (.slice ki m.kids.length kc) m.kids.length (fj m.kids)):=a_ (dY aag.out fun b e=>hM.keep b (eu aag.out e));have HM:=a_ hM;have vU:=a_ eE;have HXB:=a_ Yo;have Jp:=a_ Vn;have HM3:=a_ m3;clear hW1 eE c0a c1a c0 c1 Yo hM zS Vn m3a m3;go_wp2_with(at_builtin;refine bw _ rfl (.tmp 35) (.tmp 37) 31 rfl 0 3 j0 _ 1 8 underlying31 hj RZ ED D4 rfl (by decide) (.slice ki m.kids.length kc) m.kids.length (fj m.kids) rfl (HK1.out.alloc _) ⟨W1.heap.size,0,none⟩ 1 1 [.int .i64 g.nodes.length] rfl rfl ?c1 ?c2 ?c3 ?c4 (aB _) ?_)
 case c1=>
  intro j u hj
  match j,hj with
  |0,hj=>simp at hj;subst hj;simp[Addr.add]
  |(j+1),hj=>simp at hj
 case c2=>intro u hu;simp at hu;subst hu;rfl
 case c3=>unfold maxLen;omega
 case c4=>omega
 intro v' w2 ho hg _ hat;obtain⟨sA,cap',rfl⟩:=dU ho;have abg:=u_;rw[<-u_]at hg hat;obtain⟨p1,p2,p3,p4⟩:=Uo (st:=st) H.out hm rfl HM.out hg ho (by simpa using hat);have hlW:w.heap.size<=W1.heap.size:=HM.out.size;have hbl:w.heap.size<W1.heap.size:=dS vU.out;have QW:w2.heap[gN]?=some (.cells cur 40 (0,0)):=by rw[hg.block gN (by simp;omega) (by rw[u_];exact fun e=>hkg e.symm),ay _ _ _ (by omega)];exact Jp.out
 have k3':w2.cell? ⟨gN,k*5+3,none⟩=some (.slice ki m.kids.length kc):=by
  rw[ar (w:=w) (a:=⟨gN,k*5+3,none⟩)]
  ·exact HM3.out
  ·rw[QW,<-Jp.out];exact HM.out.keep gN rV
 have f3':=d_ (i:=k*5+3) QW;have P1:=a_ p1;have P2:=a_ p2;have P3:=a_ p3;have P4:=a_ p4;clear p1 p2 p3 p4 hg ho hat QW abg u_;go_wp2_with fail;obtain⟨W3,hW3⟩:∃W,w2.setCell ⟨gN,k*5+3,none⟩ (.slice sA (m.kids.length+1) cap')=W:=⟨_,rfl⟩
 rw[hW3];rw[hW3]at P1 P2 P3 P4;have Up:W3.heap[X]?=some (.cells #[sv,rv,Z9 gN g.nodes.length nc,.int .i64 (iI g.stack)] 54 (0,0)):=by rw[P2.out X (by simp;omega) H.out.nK,ay _ _ _ (by omega)];exact HXB.out
 have B9:W3.heap[w.heap.size]?=some (.cells #[.string ⟨n.name.toArray⟩,.slice ai (List.length n.attrs) ac,.string ⟨n.text.toArray⟩,.slice none 0 0,.int .i64 (k:Int)] 40):=by rw[P2.out w.heap.size (by simp;omega) (fun x=>by have:=H.out.lt _ x;omega),ay _ _ _ hbl];exact vU.out
 have n0:=cell_of (i:=0) B9 rfl;have n1:=cell_of (i:=1) B9 rfl;have n2:=cell_of (i:=2) B9 rfl;have n3:=cell_of (i:=3) B9 rfl;have n4:=cell_of (i:=4) B9 rfl;have x0:W3.cell? ⟨X,2,none⟩=some (Z9 gN g.nodes.length nc):=cell_of Up rfl;have x0a:∀o:Obj,(W3.alloc o).cell? ⟨X,2,none⟩=some (Z9 gN g.nodes.length nc):=fun o=>dX o x0;have hrow3:=P1.out.row;rw[fP]at hrow3;have HR3:=a_ hrow3;have aah:=a_ Up;have Sd:(Z9 gN g.nodes.length nc).ownBlock≠some X:=fun e=>hXg (by cases e;rfl);have f0:=d_ (i:=2) Up;clear hW3 B9 Up hrow3 k3' f3' k3;go_region_law
  (first|(
   refine eP rfl (.tmp 45) (.tmp 47) 22 rfl 40 i0 _ 5 88 underlying22 hi hz0 hz1 hz2 rfl (by decide) (Z9 gN g.nodes.length nc) g.nodes.length (fh av (upd kv k (.slice sA (m.kids.length+1) cap')) 0 (fJ g.nodes k g.nodes.length)) (by simp[Act.eval,Act.put]) (HR3.out.drew.alloc _) ⟨W3.heap.size,0,none⟩ 1 1 (gX {n with up:=k} (.slice ai (List.length n.attrs) ac) fo) (by simp[Act.eval,Act.put]) rfl (xI _ _ _ _ _) (DL _ _ _ rfl rfl) (by unfold maxLen;omega) (by omega) ?_;intro v' w4 ho hg hat;obtain⟨ao4,abU,rfl⟩:=dU ho;have hb1:=fL aah.out Sd hg;have x0':w4.cell? ⟨X,2,none⟩=some (Z9 gN g.nodes.length nc):=cell_of hb1 rfl;have f0':=d_ (i:=2) hb1;have HO:=a_ ho;have HG:=a_ hg;have rT:=a_ hat;clear ho hg hat hb1))
 all_goals
  go_wp2;go_ret;exact⟨rfl,Jo H.out hs HA.out Ha.out hn (by have:=HM.out.size;simp;omega) P4.out P1.out P3.out aah.out HG.out HO.out rT.out⟩
def lA(g:Gr):Prop:=∀(i:Nat) (m:Nd),g.nodes[i]?=some m->m.kids.length<=g.nodes.length
theorem Gk(h:jF A K X w g nv av kv sv rv)(wf:g.Wf)(hk:lA g)(n:Nd)(a:Value)(z:Int)(ha:w.ownsRow 0 42 2 a n.attrs.length (ee n.attrs))(mq:∀k,a.ownBlock=some k->A k)(hn:n.kids=[])(hb:g.nodes.length<=17179869184):
  Z4 39 #[Z8 X,.agg #[.string ⟨n.name.toArray⟩,a,.string ⟨n.text.toArray⟩,.slice none 0 0,.int .i64 z]] w fun e w'=>e=.returned (.int .i64 g.nodes.length)/\∃j4 jh jS,jF A (Grow K w w') X w' (g.put n) j4 jh jS sv rv/\Frame (fun k=>k=X\/K k) w w':=by
 cases hs:g.stack with
 |nil=>exact QT h hs n a z ha mq hn hb
 |cons k st=>
  obtain⟨m,hm,_,_⟩:=wf.top hs;exact QU h k st m hs hm n a z ha mq hn hb (aw (hk k m hm) hb)
end
end K
end Go.Proofs.YtclgfepngpeifaaGreatDoor
namespace Go.Proofs
open Go.Shelf
def Tryz.lays160_ren:Go.Shelf.Ren:=⟨fun|160=>124|232=>167|231=>166|227=>168|234=>170|233=>169|236=>172|235=>171|228=>195|271=>197|151=>196|197=>162|120=>211|152=>210|260=>194|137=>214|119=>215|224=>216|225=>217|217=>222|266=>228|n=>n,fun|9=>9|4=>4|3=>3|5=>5|117=>252|116=>251|0=>0|124=>255|21=>21|105=>231|46=>150|119=>270|139=>273|138=>272|n=>n,fun|3=>3|4=>4|n=>n⟩
theorem Tryz.lays160:Go.Proofs.Lays.n160 Tryz.prog Tryz.lays160_ren:={
 mixed:=by kernel_rfl
 f119:=Tryz.func215.trans (aL some (by kernel_rfl))
 f120:=Tryz.func211.trans (aL some (by kernel_rfl))
 f137:=Tryz.func214.trans (aL some (by kernel_rfl))
 f151:=Tryz.func196.trans (aL some (by kernel_rfl))
 f152:=Tryz.func210.trans (aL some (by kernel_rfl))
 f160:=Tryz.func124.trans (aL some (by kernel_rfl))
 f197:=Tryz.func162.trans (aL some (by kernel_rfl))
 f217:=Tryz.func222.trans (aL some (by kernel_rfl))
 f224:=Tryz.func216.trans (aL some (by kernel_rfl))
 f225:=Tryz.func217.trans (aL some (by kernel_rfl))
 f227:=Tryz.func168.trans (aL some (by kernel_rfl))
 f228:=Tryz.func195.trans (aL some (by kernel_rfl))
 f231:=Tryz.func166.trans (aL some (by kernel_rfl))
 f232:=Tryz.func167.trans (aL some (by kernel_rfl))
 f233:=Tryz.func169.trans (aL some (by kernel_rfl))
 f234:=Tryz.func170.trans (aL some (by kernel_rfl))
 f235:=Tryz.func171.trans (aL some (by kernel_rfl))
 f236:=Tryz.func172.trans (aL some (by kernel_rfl))
 f260:=Tryz.func194.trans (aL some (by kernel_rfl))
 f266:=Tryz.func228.trans (aL some (by kernel_rfl))
 f271:=Tryz.func197.trans (aL some (by kernel_rfl))
 t0:=Tryz.underlying0
 a0:=Tryz.isAgg0
 z0:=Tryz.sizeOf0
 v0:=Tryz.zeroValue0
 t3:=Tryz.underlying3
 a3:=Tryz.isAgg3
 z3:=Tryz.sizeOf3
 v3:=Tryz.zeroValue3
 t4:=Tryz.underlying4
 a4:=Tryz.isAgg4
 z4:=Tryz.sizeOf4
 v4:=Tryz.zeroValue4
 t5:=Tryz.underlying5
 a5:=Tryz.isAgg5
 z5:=Tryz.sizeOf5
 v5:=Tryz.zeroValue5
 t9:=Tryz.underlying9
 a9:=Tryz.isAgg9
 z9:=Tryz.sizeOf9
 v9:=Tryz.zeroValue9
 t21:=Tryz.underlying21
 a21:=Tryz.isAgg21
 z21:=Tryz.sizeOf21
 v21:=Tryz.zeroValue21
 t46:=Tryz.underlying150
 a46:=Tryz.isAgg150
 z46:=Tryz.sizeOf150
 v46:=Tryz.zeroValue150
 t105:=Tryz.underlying231
 a105:=Tryz.isAgg231
 z105:=Tryz.sizeOf231
 v105:=Tryz.zeroValue231
 t116:=Tryz.underlying251
 a116:=Tryz.isAgg251
 z116:=Tryz.sizeOf251
 t117:=Tryz.underlying252
 a117:=Tryz.isAgg252
 z117:=Tryz.sizeOf252
 v117:=Tryz.zeroValue252
 t119:=Tryz.underlying270
 a119:=Tryz.isAgg270
 z119:=Tryz.sizeOf270
 t124:=Tryz.underlying255
 a124:=Tryz.isAgg255
 z124:=Tryz.sizeOf255
 v124:=Tryz.zeroValue255
 t138:=Tryz.underlying272
 a138:=Tryz.isAgg272
 z138:=Tryz.sizeOf272
 v138:=Tryz.zeroValue272
 t139:=Tryz.underlying273
 a139:=Tryz.isAgg273
 z139:=Tryz.sizeOf273
 v139:=Tryz.zeroValue273
 g3:=by kernel_rfl
 g4:=by kernel_rfl}
open Go.RowKit in
theorem Tryz.strings_Trim_blanks(s:ByteArray)(w:World)(hs:s.size<=9223372036854775807):
  Calls Tryz.prog 124 #[.string s,.string ⟨#[9,10,13,32]⟩] w fun e w'=>e=.returned (.string ⟨(Lib.trimS s.data.toList [9,10,13,32]).toArray⟩)/\Below w.heap.size w w':=
 Any.strings_Trim_laid Tryz.lays160 (by kernel_rfl) s ⟨#[9,10,13,32]⟩ w hs (by decide) (ascii_of_all (by decide))
end Go.Proofs
namespace Go.Proofs.YtclgfepngpeifaaGreatDoor
namespace K
open Go.RowKit Go.Maps Go.Lib Tryz
section
variable{S:Nat->Prop}{w w' w1:World}{sv:Value}{X i:Nat}{cs:Array Value}{ty:TypeId}{ns:List (List UInt8)}{r:Bool}
def jf(l:List (List UInt8)):List Value:=l.map eA
structure NS(S:Nat->Prop)(X i:Nat)(w:World)(cs:Array Value)(ty:TypeId)(sv:Value)(ns:List (List UInt8))(r:Bool):Prop where
 blk:w.heap[X]?=some (.cells cs ty (0,0))
 c0:cs[i]?=some sv
 c1:cs[i+1]?=some (.bool r)
 row:w.ownsRow 0 9 1 sv ns.length (jf ns)
 own:∀k,sv.ownBlock=some k->S k
 nX:¬S X
 lt:∀k,S k->k<w.heap.size
def GZ(i:Nat)(cs cs':Array Value):Prop:=cs'.size=cs.size/\∀j,j≠i->j≠i+1->cs'[j]?=cs[j]?
theorem GZ.refl(i:Nat)(cs:Array Value):GZ i cs cs:=⟨rfl,fun _ _ _=>rfl⟩
theorem GZ.set(i:Nat)(cs:Array Value)(v:Value):GZ i cs (cs.setIfInBounds i v):=⟨by simp,fun j h _=>by rw[bj,if_neg (fun e=>h e.symm)]⟩
theorem GZ.abh(i:Nat)(cs:Array Value)(v u:Value):GZ i cs ((cs.setIfInBounds i v).setIfInBounds (i+1) u):=⟨by simp,fun j h h2=>by rw[bj,if_neg (fun e=>h2 e.symm),bj,if_neg (fun e=>h e.symm)]⟩
theorem NS.cell0(h:NS S X i w cs ty sv ns r):w.cell? ⟨X,i,none⟩=some sv:=cell_of h.blk h.c0
theorem NS.cell1(h:NS S X i w cs ty sv ns r):w.cell? ⟨X,i+1,none⟩=some (.bool r):=cell_of h.blk h.c1
theorem aai:(prog.info? 9).map (fun i=>(i.zero,i.size,i.bytes))=some (some (.string ⟨#[]⟩),1,16):=by kernel_rfl
theorem po(h:NS S X i w cs ty sv ns r):Z4 20 #[.pointer (some ⟨X,i,none⟩)] w fun e w'=>e=.returned (.bool (r&&decide (ns.length=0)))/\ed w w':=by
 obtain⟨ai,ac,l8⟩:=dU h.row;subst l8;have c0:=h.cell0;have c1:=h.cell1;clear h;cases r with
 |false=>
  go_enter func20,ntmps20;go_wp2;go_ret;exact⟨by simp,ed.refl w⟩
 |true=>
  by_cases hz:ns.length=0
  ·rw[hz]at c0 ⊢;go_enter func20,ntmps20;go_wp2;go_ret;exact⟨by simp,ed.refl w⟩
  ·have hz1:((ns.length:Int)==0)=false:=by rw[aK];omega
   have hz2:(decide (ns.length=0))=false:=decide_eq_false hz;go_enter func20,ntmps20;go_wp2;go_ret;exact⟨by rw[hz2];rfl,ed.refl w⟩
theorem M7(h:NS S X i w cs ty sv [] true)(name:ByteArray):Z4 69 #[.pointer (some ⟨X,i,none⟩),.string name] w fun e w'=>e=.returned (.int .i64 7)/\ed w w':=by
 have hw:=po h;clear h;go_enter func69,ntmps69;go_wp2_with(go_at_call 20;refine hw.mono ?_;rintro e w1 ⟨rfl,m1⟩);go_ret;exact⟨rfl,m1⟩
theorem NS.keep{W:World}(h:NS S X i w cs ty sv ns r)(hM:ed w W):NS S X i W cs ty sv ns r:=
 ⟨(hM.keep X (dS h.blk)).trans h.blk,h.c0,h.c1,dY h.row fun k e=>hM.keep k (eu h.row e),h.own,h.nX,fun k x=>aq (h.lt k x) hM.size⟩
theorem M8(h:NS S X i w cs ty sv ns r)(hn:ns.length=30)(name:ByteArray):Z4 69 #[.pointer (some ⟨X,i,none⟩),.string name] w fun e w'=>e=.returned (.int .i64 8)/\ed w w':=by
 have hw:Z4 20 #[.pointer (some ⟨X,i,none⟩)] w fun e w'=>e=.returned (.bool false)/\ed w w':=by
  have:=po h;rw[hn]at this;simpa using this
 have hc:∀W,ed w W->∃ai ac,W.cell? ⟨X,i,none⟩=some (.slice ai 30 ac):=fun W hM=>by
  have h2:=h.keep hM;obtain⟨ai,ac,l8⟩:=dU h2.row;exact⟨ai,ac,by rw[h2.cell0,l8,hn]⟩
 have HC:=a_ hc;clear h hn hc;go_enter func69,ntmps69;go_wp2_with(go_at_call 20;refine hw.mono ?_;rintro e w1 ⟨rfl,m1⟩;obtain⟨ai,ac,c0⟩:=HC.out _ m1);go_ret;exact⟨rfl,m1⟩
theorem Jq{cs:Array Value}{ty:TypeId}{v':Value}{name:List UInt8}{w2:World}{o:Obj}(h:NS S X i w cs ty sv ns r)(m1:ed w w1)(hg:(w1.alloc o).grownBy w2 sv.ownBlock)(ho:w2.ownsRow 0 9 1 v' (ns.length+1) (jf ns++[eA name]))(hat:v'.ownBlock=sv.ownBlock\/v'.ownBlock=some (w1.alloc o).heap.size):
  ∃cs' KB,NS (Grow S w ((w2.setCell ⟨X,i,none⟩ v').setCell ⟨X,i+1,none⟩ (.bool true))) X i ((w2.setCell ⟨X,i,none⟩ v').setCell ⟨X,i+1,none⟩ (.bool true)) cs' ty KB (ns++[name]) true/\GZ i cs cs'/\Frame (fun k=>k=X\/S k) w ((w2.setCell ⟨X,i,none⟩ v').setCell ⟨X,i+1,none⟩ (.bool true)):=by
 have hM:=m1.alloc o;have qM:=dS h.blk;have Sd:sv.ownBlock≠some X:=fun e=>h.nX (h.own X e);have YZ:w2.heap[X]?=some (.cells cs ty (0,0)):=(hg.block X (aq qM hM.size) (fun e=>Sd e.symm)).trans ((hM.keep X qM).trans h.blk);have Vi:v'.ownBlock≠some X:=by
  rcases hat with e|e<;>rw[e]
  ·exact Sd
  ·intro x;cases x;exact absurd qM (by have:=hM.size;omega)
 have hX3:=ej (i:=i+1) (ej (i:=i) YZ v') (.bool true);have Sj:i<cs.size:=(Array.getElem?_eq_some_iff.1 h.c0).1;have NI:i+1<cs.size:=(Array.getElem?_eq_some_iff.1 h.c1).1;have hz:w.heap.size<=w2.heap.size:=aw hM.size hg.size;have keep:∀b,b≠X->((w2.setCell ⟨X,i,none⟩ v').setCell ⟨X,i+1,none⟩ (.bool true)).heap[b]?=w2.heap[b]?:=fun b hb=>by rw[ak _ _ _ _ hb,ak _ _ _ _ hb]
 have hs:((w2.setCell ⟨X,i,none⟩ v').setCell ⟨X,i+1,none⟩ (.bool true)).heap.size=w2.heap.size:=by simp[World.setCell]
 refine⟨_,v',⟨hX3,?_,?_,?_,?_,?_,?_⟩,GZ.abh _ _ _ _,hg.os.trans hM.os,hg.tape.trans hM.tape,hg.output.trans hM.output,by rw[hs];exact hz,?_⟩
 ·rw[bj,if_neg (by omega),bj,if_pos rfl,if_pos Sj]
 ·rw[bj,if_pos rfl,if_pos (by simpa using NI)]
 ·have e:jf (ns++[name])=jf ns++[eA name]:=by simp[jf]
  rw[e,ax];exact dY ho fun b e=>keep b (fun x=>Vi (by rw[e,x]))
 ·intro k e;rcases hat with e2|e2
  ·rw[e2]at e;exact Or.inl (h.own k e)
  ·rw[e2]at e;cases e;refine Or.inr ⟨hM.size,?_⟩;rw[hs];have h1:=eu ho e2;exact h1
 ·rintro(e|e)
  ·exact h.nX e
  ·omega
 ·exact iA h.lt (by rw[hs];exact hz)
 ·intro k hk hf;rw[keep k (fun e=>hf (Or.inl e)),hg.block k (aq hk hM.size) (fun e=>hf (Or.inr (h.own k e.symm)))];exact hM.keep k hk
theorem Gm(h:NS S X i w cs ty sv ns r)(hr:ns=[]->r=false)(hn:ns.length<30)(name:List UInt8):Z4 69 #[.pointer (some ⟨X,i,none⟩),.string ⟨name.toArray⟩] w fun e w'=>e=.returned (.int .i64 0)/\∃cs' KB,NS (Grow S w w') X i w' cs' ty KB (ns++[name]) true/\GZ i cs cs'/\Frame (fun k=>k=X\/S k) w w':=by
 have hw:Z4 20 #[.pointer (some ⟨X,i,none⟩)] w fun e w'=>e=.returned (.bool false)/\ed w w':=by
  have:=po h;cases ns with
  |nil=>rw[hr rfl]at this;simpa using this
  |cons a l=>simpa using this
 have hk:∀W,ed w W->NS S X i W cs ty sv ns r:=fun W hM=>h.keep hM;obtain⟨ai,ac,l8⟩:=dU h.row;subst l8;have hz1:((ns.length:Int)==30)=false:=by rw[aK];omega
 obtain⟨i0,hi,hz0,hzz,hz2⟩:=aY aai;have H:=a_ h;have HK:=a_ hk;clear h hk hr;have Sd:(Value.slice ai ns.length ac).ownBlock≠some X:=fun e=>H.out.nX (H.out.own X e);go_enter func69,ntmps69;go_wp2_with(first
  |(go_at_call 20;refine hw.mono ?_;rintro e w1 ⟨rfl,m1⟩;have h1:=HK.out _ m1;have c0:=h1.cell0;have c1:=h1.cell1;have R1:=a_ h1.row;have B1:=a_ h1.blk;have hXl:=dS h1.blk;clear h1)
  |(at_builtin;refine bw _ rfl (.tmp 17) (.tmp 19) 50 rfl 0 9 i0 _ 1 16 underlying50 hi hz0 hzz hz2 rfl (by decide) (.slice ai ns.length ac) ns.length (jf ns) rfl (R1.out.alloc _) ⟨w1.heap.size,0,none⟩ 1 1 [eA name] rfl rfl ?c1 ?c2 ?c3 ?c4 (aB _) ?_))
 case c1=>
  intro j u hj
  match j,hj with
  |0,hj=>simp at hj;subst hj;simp[Addr.add,eA]
  |(j+1),hj=>simp at hj
 case c2=>intro u hu;simp at hu;subst hu;rfl
 case c3=>unfold maxLen;omega
 case c4=>omega
 intro v' w2 ho hg _ hat;obtain⟨sA,cap',rfl⟩:=dU ho;have hb1:w2.heap[X]?=some (.cells cs ty (0,0)):=(hg.block X (by simp;omega) (fun e=>Sd e.symm)).trans ((ay _ _ _ hXl).trans B1.out);have x0:w2.cell? ⟨X,i,none⟩=some (.slice ai ns.length ac):=cell_of hb1 H.out.c0;have x1:∀v,(w2.setCell ⟨X,i,none⟩ v).cell? ⟨X,i+1,none⟩=some (.bool r):=fun v=>cell_of (ej hb1 v) (by rw[bj,if_neg (by omega)];exact H.out.c1);have f0:=d_ (i:=i) hb1;have f1:∀v,(w2.setCell ⟨X,i,none⟩ v).frozen? ⟨X,i+1,none⟩=false:=fun v=>d_ (i:=i+1) (ej hb1 v);have HO:=a_ ho;have HG:=a_ hg;have rT:=a_ hat;have M1:=a_ m1;clear ho hg hat hb1 m1 c0 c1;go_wp2;go_ret;exact⟨rfl,Jq H.out M1.out HG.out HO.out (by simpa using rT.out)⟩
end
section
variable{S:Nat->Prop}{w w' w1:World}{sv:Value}{X i:Nat}{cs:Array Value}{ty:TypeId}{ns:List (List UInt8)}{r:Bool}
theorem M9(h:NS S X i w cs ty sv [] r)(name:ByteArray):Z4 70 #[.pointer (some ⟨X,i,none⟩),.string name] w fun e w'=>e=.returned (.int .i64 6)/\ed w w':=by
 obtain⟨ai,ac,l8⟩:=dU h.row;subst l8;have c0:=h.cell0;clear h;go_enter func70,ntmps70;go_wp2;go_ret;exact⟨rfl,ed.refl w⟩
theorem NS.last{nm:List UInt8}{xs:List (List UInt8)}(h:NS S X i w cs ty sv (xs++[nm]) r):∃g ac,sv=Z9 g (xs.length+1) ac/\w.cell? ⟨g,xs.length,none⟩=some (eA nm)/\xs.length+1<=ac/\ac<=maxLen/\S g:=by
 have ho:=h.row;rw[ax]at ho;rcases ho.2 with⟨_,e⟩|⟨g,cap,cur,e1,h0,hg,h1,h2,h3,h4⟩
 ·simp at e
 ·refine⟨g,cap,e1,cell_of hg ?_,by simpa using h1,h2,h.own g (by rw[e1];rfl)⟩;have h5:(jf (xs++[nm]))[xs.length]?=some (eA nm):=by simp[jf]
  rw[<-h4,bS]at h5;split at h5
  ·simpa using h5
  ·cases h5
theorem M_{e:TypeId}{s g n m cap:Nat}{xs:List Value}(h:w.ownsRow 0 e s (Z9 g n cap) n xs)(hm:m<=n):w.ownsRow 0 e s (Z9 g m cap) m (xs.take (m*s)):=by
 have hms:m*s<=n*s:=Nat.mul_le_mul_right s hm;refine⟨by rw[bJ,h.1];omega,?_⟩;rcases h.2 with⟨e1,_⟩|⟨g',cap',cur,e1,h0,hg,h1,h2,h3,h4⟩
 ·cases e1
 ·cases e1;refine Or.inr ⟨g,cap,cur,rfl,h0,hg,by omega,h2,h3,?_⟩;rw[<-h4,List.take_take,Nat.min_eq_left hms]
theorem QX{nm:List UInt8}{xs:List (List UInt8)}(h:NS S X i w cs ty sv (xs++[nm]) r)(hx:xs.length<=30)(name:List UInt8)(hne:nm≠name):Z4 70 #[.pointer (some ⟨X,i,none⟩),.string ⟨name.toArray⟩] w fun e w'=>e=.returned (.int .i64 6)/\ed w w':=by
 obtain⟨g,ac,l8,k0,X0,_⟩:=h.last;unfold eA at k0;subst l8;have c0:=h.cell0;generalize xs.length=n at*
 have hwr:IntKind.i64.wrap (((n+1:Nat):Int)-1)=(n:Int):=by rw[aM];omega
 have hlt:decide ((n:Int)<0)=false:=by simp
 have ou:(n:Int)<((n+1:Nat):Int):=by omega
 have qR:(nm==name)=false:=by simpa using hne
 clear h hne;go_enter func70,ntmps70;go_wp2;go_ret;exact⟨rfl,ed.refl w⟩
theorem xq{nm:List UInt8}{xs:List (List UInt8)}{g ac:Nat}(h:NS S X i w cs ty (Z9 g (xs.length+1) ac) (xs++[nm]) r)(m1:ed w w1):
  ∃cs' KB,NS (Grow S w (w1.setCell ⟨X,i,none⟩ (Z9 g xs.length ac))) X i (w1.setCell ⟨X,i,none⟩ (Z9 g xs.length ac)) cs' ty KB xs r/\GZ i cs cs'/\Frame (fun k=>k=X\/S k) w (w1.setCell ⟨X,i,none⟩ (Z9 g xs.length ac)):=by
 have qM:=dS h.blk;have hgS:S g:=h.own g rfl;have hgX:g≠X:=fun e=>h.nX (e▸hgS);have h1:=h.keep m1;have keep:∀b,b≠X->(w1.setCell ⟨X,i,none⟩ (Z9 g xs.length ac)).heap[b]?=w1.heap[b]?:=fun b hb=>ak _ _ _ _ hb;have hs:(w1.setCell ⟨X,i,none⟩ (Z9 g xs.length ac)).heap.size=w1.heap.size:=by simp[World.setCell]
 have Sj:i<cs.size:=(Array.getElem?_eq_some_iff.1 h.c0).1;refine⟨_,Z9 g xs.length ac,⟨ej (i:=i) h1.blk _,?_,?_,?_,?_,?_,?_⟩,GZ.set _ _ _,m1.os,m1.tape,m1.output,by rw[hs];exact m1.size,?_⟩
 ·rw[bj,if_pos rfl,if_pos Sj]
 ·rw[bj,if_neg (by omega)];exact h.c1
 ·have hr:=h1.row;rw[ax]at hr;have h2:=M_ (m:=xs.length) hr (by simp);have e:(jf (xs++[nm])).take (xs.length*1)=jf xs:=by simp[jf,List.take_append_of_le_length]
  rw[e]at h2;exact dY h2 fun b e=>keep b (fun x=>by cases e;exact hgX x)
 ·intro k e;cases e;exact Or.inl hgS
 ·rintro(e|e)
  ·exact h.nX e
  ·omega
 ·exact iA h.lt (by rw[hs];exact m1.size)
 ·intro k hk hf;rw[keep k (fun e=>hf (Or.inl e))];exact m1.keep k hk
theorem Na{nm:List UInt8}{xs:List (List UInt8)}(h:NS S X i w cs ty sv (xs++[nm]) r)(hx:xs.length<=30):Z4 70 #[.pointer (some ⟨X,i,none⟩),.string ⟨nm.toArray⟩] w fun e w'=>e=.returned (.int .i64 0)/\∃cs' KB,NS (Grow S w w') X i w' cs' ty KB xs r/\GZ i cs cs'/\Frame (fun k=>k=X\/S k) w w':=by
 obtain⟨g,ac,l8,k0,X0,hmx,_⟩:=h.last;unfold eA at k0;subst l8;have c0:=h.cell0;have f0:=d_ (i:=i) h.blk;have HE:=a_ (xq h (ed.refl w));generalize xs.length=n at*
 have hwr:IntKind.i64.wrap (((n+1:Nat):Int)-1)=(n:Int):=by rw[aM];omega
 have hlt:decide ((n:Int)<0)=false:=by simp
 have ou:(n:Int)<((n+1:Nat):Int):=by omega
 have qR:(nm==nm)=true:=by simp
 have CD:(n:Int)<=(ac:Int):=by omega
 have abz:n<=ac:=by omega
 clear h;go_enter func70,ntmps70;go_wp2;go_ret;exact⟨rfl,HE.out⟩
theorem pM{α:Type}(p:α->Bool):∀l:List α,(l.dropWhile p).dropWhile p=l.dropWhile p
 |[]=>rfl
 |x::l=>by
  by_cases h:p x=true
  ·simp only[dn,h,if_true];exact pM p l
  ·simp[dn,h]
theorem jQ{α:Type}(p:α->Bool):∀l:List α,l.dropWhile p=[]↔l.all p=true
 |[]=>by simp
 |x::l=>by
  by_cases h:p x=true
  ·simp only[dn,h,if_true,List.all_cons,cX];exact jQ p l
  ·simp[dn,h]
theorem Nb(l:List UInt8):Lib.trimS l [9,10,13,32]=[]↔gI l=true:=by
 have hp:∀c:UInt8,([9,10,13,32]:List UInt8).contains c=iT c.toNat:=by
  intro c;rw[bD];simp only[dt,List.contains_nil,bm,bk,aA,cq,iT,<-UInt8.toNat_inj];have e1:(9:UInt8).toNat=9:=rfl;have e2:(10:UInt8).toNat=10:=rfl;have e3:(13:UInt8).toNat=13:=rfl;have e4:(32:UInt8).toNat=32:=rfl;omega
 have e:gI l=l.all (fun c=>([9,10,13,32]:List UInt8).contains c):=by
  unfold gI;congr 1;funext c;exact(hp c).symm
 rw[e];unfold Lib.trimS Lib.trimLeftS Lib.trimRightS;rw[jQ,List.all_reverse];constructor
 ·intro h;have h1:=(jQ _ _).2 h;rw[pM,jQ,List.all_reverse]at h1;exact h1
 ·intro h;have h1:=(jQ (fun c=>([9,10,13,32]:List UInt8).contains c) l.reverse).2 (by rw[List.all_reverse];exact h);rw[h1];rfl
theorem jR{W:World}(b:Below w.heap.size w W):ed w W:=⟨b.os,b.tape,b.output,b.size,fun k hk=>b.block k hk⟩
theorem ed.trans{a b c:World}(h:ed a b)(k:ed b c):ed a c:=⟨k.os.trans h.os,k.tape.trans h.tape,k.output.trans h.output,aw h.size k.size,fun i hi=>(k.keep i (aq hi h.size)).trans (h.keep i hi)⟩
theorem Nc(h:NS S X i w cs ty sv ns r)(hx:ns.length<=30)(t:List UInt8)(hz:t.length<=9223372036854775807):Z4 71 #[.pointer (some ⟨X,i,none⟩),.string ⟨t.toArray⟩] w fun e w'=>e=.returned (.int .i64 (if ns=[]/\gI t=false then 7 else 0))/\ed w w':=by
 obtain⟨ai,ac,l8⟩:=dU h.row;subst l8;have c0:=h.cell0;have htr:∀W,Z4 124 #[.string ⟨t.toArray⟩,.string ⟨#[9,10,13,32]⟩] W fun e w'=>e=.returned (.string ⟨(Lib.trimS t [9,10,13,32]).toArray⟩)/\Below W.heap.size W w':=fun W=>by
  have:=strings_Trim_blanks ⟨t.toArray⟩ W (by simpa [ByteArray.size]using hz);simpa using this
 have hn:=Nb t;generalize Lib.trimS t [9,10,13,32]=R at htr hn;have HT:=a_ htr;clear h htr;cases ns with
 |cons a l=>
  rw[if_neg (fun e=>by cases e.1)];have hz1:(((a::l).length:Int)==0)=false:=by rw[aK];simp only[aC];omega
  generalize (a::l).length=n at*
  clear hn;go_enter func71,ntmps71;go_wp2;go_ret;exact⟨rfl,ed.refl w⟩
 |nil=>
  by_cases hb:gI t=true
  ·rw[if_neg (fun e=>by rw[hb]at e;cases e.2)];have hR:=hn.2 hb;subst hR;clear hn hb;go_enter func71,ntmps71;go_wp2_with(go_at_call 124;refine(HT.out _).mono ?_;rintro e w2 ⟨rfl,b2⟩;have B2:=a_ b2;clear b2);go_ret;exact⟨rfl,jR B2.out⟩
  ·rw[if_pos ⟨rfl,by simpa using hb⟩];have hR:(R==[])=false:=by
    have:R≠[]:=fun e=>hb (hn.1 e);cases R with
    |nil=>exact absurd rfl this
    |cons a l=>rfl
   clear hn hb;go_enter func71,ntmps71;go_wp2_with(go_at_call 124;refine(HT.out _).mono ?_;rintro e w2 ⟨rfl,b2⟩;have B2:=a_ b2;clear b2);go_ret;exact⟨rfl,jR B2.out⟩
end
section
variable{S:Nat->Prop}{w w' w1:World}{sv:Value}{X i:Nat}{cs:Array Value}{ty:TypeId}{ns:List (List UInt8)}{r:Bool}
structure oL where
 names:List (List UInt8)
 fU:Bool
def oL.take(n:oL)(t:fe):Int×oL:=
 if t.kind=1 then
  if n.fU=true/\n.names=[]then(7,n)
  else if 30<=n.names.length then(8,n)
  else(0,⟨n.names++[t.name],true⟩)
 else if t.kind=2 then
  if n.names.getLast?=some t.name then(0,⟨n.names.dropLast,n.fU⟩)else(6,n)
 else if n.names=[]/\gI t.text=false then(7,n)else(0,n)
def nO(S:Nat->Prop)(X i:Nat)(w:World)(cs:Array Value)(ty:TypeId)(x:Int×oL)(e:Ending)(w':World):Prop:=
 e=.returned (.int .i64 x.1)/\∃cs' KB,NS (Grow S w w') X i w' cs' ty KB x.2.names x.2.fU/\GZ i cs cs'/\Frame (fun k=>k=X\/S k) w w'
theorem mJ{n:oL}{x:Int}(h:NS S X i w cs ty sv n.names n.fU)(hM:ed w w'):nO S X i w cs ty (x,n) (.returned (.int .i64 x)) w':=by
 have h1:=h.keep hM;exact⟨rfl,cs,sv,⟨h1.blk,h1.c0,h1.c1,h1.row,fun k e=>Or.inl (h1.own k e),fun e=>by
  rcases e with e|e
  ·exact h.nX e
  ·have:=dS h.blk;omega,iA h.lt hM.size⟩,GZ.refl _ _,hM.frame⟩
theorem DM{n:oL}(h:NS S X i w cs ty sv n.names n.fU)(hn:n.names.length<=30)(hr:n.names≠[]->n.fU=true)(t:fe)(hk:t.kind=1):Z4 69 #[.pointer (some ⟨X,i,none⟩),.string ⟨t.name.toArray⟩] w (nO S X i w cs ty (n.take t)):=by
 unfold oL.take;rw[if_pos hk];by_cases h1:n.fU=true/\n.names=[]
 ·rw[if_pos h1];have h2:=h;rw[h1.1,h1.2]at h2;refine(M7 h2 _).mono ?_;rintro e w' ⟨rfl,m⟩;exact mJ h m
 ·rw[if_neg h1];by_cases h3:30<=n.names.length
  ·rw[if_pos h3];refine(M8 h (by omega) _).mono ?_;rintro e w' ⟨rfl,m⟩;exact mJ h m
  ·rw[if_neg h3];refine(Gm h (fun e=>by cases hrr:n.fU with|false=>rfl|true=>exact absurd ⟨hrr,e⟩ h1) (by omega) t.name).mono ?_;rintro e w' ⟨rfl,hx⟩;exact⟨rfl,hx⟩
theorem DN{n:oL}(h:NS S X i w cs ty sv n.names n.fU)(hn:n.names.length<=30)(t:fe)(h1:t.kind≠1)(hk:t.kind=2):Z4 70 #[.pointer (some ⟨X,i,none⟩),.string ⟨t.name.toArray⟩] w (nO S X i w cs ty (n.take t)):=by
 unfold oL.take;rw[if_neg h1,if_pos hk];rcases List.eq_nil_or_concat n.names with e0|⟨xs,nm,e0⟩
 ·rw[e0,if_neg (by simp)];have h2:=h;rw[e0]at h2;refine(M9 h2 _).mono ?_;rintro e w' ⟨rfl,m⟩;exact mJ h m
 ·have h2:=h;rw[e0]at h2 hn;rw[List.concat_eq_append]at e0 h2 hn;simp only[ax,aC,aI]at hn;by_cases qR:nm=t.name
  ·subst qR;rw[e0,if_pos (by simp)];refine(Na h2 (by omega)).mono ?_;rintro e w' ⟨rfl,hx⟩;rw[List.dropLast_concat];exact⟨rfl,hx⟩
  ·rw[e0,if_neg (by simpa using qR)];refine(QX h2 (by omega) t.name qR).mono ?_;rintro e w' ⟨rfl,m⟩;exact mJ h m
theorem Jr{n:oL}(h:NS S X i w cs ty sv n.names n.fU)(hn:n.names.length<=30)(t:fe)(hz:t.text.length<=9223372036854775807)(h1:t.kind≠1)(h2:t.kind≠2):Z4 71 #[.pointer (some ⟨X,i,none⟩),.string ⟨t.text.toArray⟩] w (nO S X i w cs ty (n.take t)):=by
 unfold oL.take;rw[if_neg h1,if_neg h2];refine(Nc h hn t.text hz).mono ?_;rintro e w' ⟨rfl,m⟩;split
 ·exact mJ h m
 ·exact mJ h m
theorem Nf{n:oL}(h:NS S X i w cs ty sv n.names n.fU)(hn:n.names.length<=30)(hr:n.names≠[]->n.fU=true)(t:fe)(ai:Option Addr)(an ac:Nat)(hz:t.text.length<=9223372036854775807):
  Z4 38 #[.pointer (some ⟨X,i,none⟩),l6 t (.slice ai an ac)] w (nO S X i w cs ty (n.take t)):=by
 have hM:=fun o=>(ed.refl w).alloc o;have k1:=fun hk o=>DM (h.keep (hM o)) hn hr t hk;have k2:=fun h1 hk o=>DN (h.keep (hM o)) hn t h1 hk;have k3:=fun h1 hk o=>Jr (h.keep (hM o)) hn t hz h1 hk;have lift:∀o e w',nO S X i (w.alloc o) cs ty (n.take t) e w'->nO S X i w cs ty (n.take t) e w':=by
  rintro o e w' ⟨rfl,cs',KB,q1,q2,q3⟩;have hs:=(hM o).size;refine⟨rfl,cs',KB,⟨q1.blk,q1.c0,q1.c1,q1.row,fun k e=>?_,fun e=>?_,iA h.lt (aw hs q3.size)⟩,q2,(hM o).frame.trans' q3⟩
  ·rcases q1.own k e with a|a
   ·exact Or.inl a
   ·exact Or.inr ⟨by omega,a.2⟩
  ·rcases e with e|e
   ·exact h.nX e
   ·have:=dS h.blk;omega
 unfold l6 eA;have LI:=a_ lift;clear h hn hr hM lift;generalize n.take t=R at*
 by_cases h1:t.kind=1
 ·have HK:=a_ (k1 h1);rw[h1]at ⊢;clear k1 k2 k3 h1;go_enter func38,ntmps38;go_wp2_with(go_at_call 69;refine(HK.out _).mono ?_;rintro e w1 hx;have hy:=LI.out _ _ _ hx;obtain⟨rfl,hz⟩:=hy;have HZ:=a_ hz;clear hx hz);go_ret;exact⟨rfl,HZ.out⟩
 ·by_cases h2:t.kind=2
  ·have HK:=a_ (k2 h1 h2);rw[h2]at ⊢;clear k1 k2 k3 h1 h2;go_enter func38,ntmps38;go_wp2_with(go_at_call 70;refine(HK.out _).mono ?_;rintro e w1 hx;have hy:=LI.out _ _ _ hx;obtain⟨rfl,hz⟩:=hy;have HZ:=a_ hz;clear hx hz);go_ret;exact⟨rfl,HZ.out⟩
  ·have HK:=a_ (k3 h1 h2);have e1:(t.kind==1)=false:=by simpa using h1
   have e2:(t.kind==2)=false:=by simpa using h2
   clear k1 k2 k3 h1 h2;go_enter func38,ntmps38;go_wp2_with(go_at_call 71;refine(HK.out _).mono ?_;rintro e w1 hx;have hy:=LI.out _ _ _ hx;obtain⟨rfl,hz⟩:=hy;have HZ:=a_ hz;clear hx hz);go_ret;exact⟨rfl,HZ.out⟩
end
end K
end Go.Proofs.YtclgfepngpeifaaGreatDoor
