import Derived.Test.YtjecakcpcnmieaaGreatDoorHA
import Derived.Deep.RegionHeld3
import Derived.Deep.RegionLaw
import Derived.Shelf.Strings.Trim
import Derived.Shelf.Strings.SlTrimAscii
import Derived.Test.YtjecakcpcnmieaaGreatDoorProg
import Derived.Test.YtjecakcpcnmieaaGreatDoorHas
import Derived.Test.YtjecakcpcnmieaaGreatDoorHak
set_option linter.unusedVariables false
set_option linter.unusedSimpArgs false
set_option maxHeartbeats 32000000
set_option maxRecDepth 100000
namespace Go.Proofs.YtjecakcpcnmieaaGreatDoor
namespace K
open Go.RowKit Go.Maps Go.Lib Tryz
section
variable{A K K':Nat->Prop}{w w' w1:World}{nv:Value}{l:List Nd}{av kv:Nat->Value}{tN tA:TypeId}
def fF(l:List Nat):List Value:=l.map fun(k:Nat)=>Value.int .i64 (k:Int)
def iu(n:Nd)(a k:Value):List Value:=[eZ n.name,a,eZ n.text,k,.int .i64 n.up]
def fH(av kv:Nat->Value):Nat->List Nd->List Value
 |_,[]=>[]
 |i,n::l=>iu n (av i) (kv i)++fH av kv (i+1) l
def upd(f:Nat->Value)(k:Nat)(v:Value):Nat->Value:=fun i=>if i=k then v else f i
theorem upd_same(f:Nat->Value)(k:Nat)(v:Value):upd f k v k=v:=by simp[upd]
theorem fQ(f:Nat->Value){k i:Nat}(v:Value)(h:i≠k):upd f k v i=f i:=by simp[upd,h]
theorem Ar(av kv:Nat->Value):∀(l:List Nd) (i0 i:Nat) (n:Nd) (c:Nat) (u:Value),l[i]?=some n->(iu n (av (i0+i)) (kv (i0+i)))[c]?=some u->(fH av kv i0 l)[i*5+c]?=some u
 |[],_,_,_,_,_,h,_=>by simp at h
 |m::l,i0,0,n,c,u,h,hc=>by
  obtain rfl:m=n:=by simpa using h
  have hl:c<(iu m (av i0) (kv i0)).length:=by
   have:=(List.getElem?_eq_some_iff.1 hc).1;simpa using this
  simp only[fH,Nat.zero_mul,ay];rw[aL hl];simpa using hc
 |m::l,i0,i+1,n,c,u,h,hc=>by
  have:=Ar av kv l (i0+1) i n c u (by simpa using h) (by rw[show i0+1+i=i0+(i+1) by omega];exact hc);simp only[fH];have hl:(iu m (av i0) (kv i0)).length=5:=rfl;rw[aQ (by rw[hl];omega),hl,show (i+1)*5+c-5=i*5+c by omega];exact this
theorem rW(av kv:Nat->Value)(l':List Nd):∀(l:List Nd) (i:Nat),fH av kv i (l++l')=fH av kv i l++fH av kv (i+l.length) l'
 |[],i=>by simp[fH]
 |n::l,i=>by
  simp only[aI,fH,aM,rW av kv l' l (i+1),ag];rw[show i+1+l.length=i+(l.length+1) by omega]
theorem mW{av kv j8 kA:Nat->Value}:∀(l:List Nd) (i:Nat),(∀j,i<=j->j<i+l.length->av j=j8 j/\kv j=kA j)->fH av kv i l=fH j8 kA i l
 |[],i,_=>rfl
 |n::l,i,h=>by
  have h0:=h i (ah _) (by simp);simp only[fH,h0.1,h0.2];rw[mW l (i+1) fun j a b=>h j (by omega) (by simp only[ag];omega)]
theorem xP(av:Nat->Value)(v:Value)(j:Nat):∀(l:List Nd) (kv:Nat->Value) (i k:Nat),k<l.length->(fH av kv i l).set (k*5+3) v=fH av (upd kv (i+k) v) i (fy l k j)
 |[],_,_,k,h=>by simp at h
 |n::l,kv,i,0,_=>by
  simp only[fy,fH,bH,upd_same,Nat.zero_mul,ay];rw[mW (av:=av) (kv:=kv) (j8:=av) (kA:=upd kv i v) l (i+1) fun j a b=>⟨rfl,(fQ _ _ (by omega)).symm⟩];rfl
 |n::l,kv,i,k+1,h=>by
  have ih:=xP av v j l kv (i+1) k (by simpa using h);simp only[fy,fH];rw[fQ kv v (show i≠i+(k+1) by omega),show i+(k+1)=i+1+k by omega,<-ih];have hl:(iu n (av i) (kv i)).length=5:=rfl;rw[List.set_append,if_neg (by rw[hl];omega),hl,show (k+1)*5+3-5=k*5+3 by omega]
structure f_(tN tA:TypeId)(A K:Nat->Prop)(w:World)(nv:Value)(l:List Nd)(av kv:Nat->Value):Prop where
 row:w.ownsRow 0 tN 5 nv l.length (fH av kv 0 l)
 nR:∀k,nv.ownBlock=some k->K k
 attr:∀i n,l[i]?=some n->w.ownsRow 0 tA 2 (av i) n.b_.length (eG n.b_)
 qN:∀i k,i<l.length->(av i).ownBlock=some k->A k
 kid:∀i n,l[i]?=some n->w.ownsRow 0 3 1 (kv i) n.kids.length (fF n.kids)
 l7:∀i k,i<l.length->(kv i).ownBlock=some k->K k/\nv.ownBlock≠some k
 apart:∀i j k,i<l.length->j<l.length->i≠j->(kv i).ownBlock=some k->(kv j).ownBlock≠some k
 KG:∀i n,l[i]?=some n->n.kids=[]->kv i=fO
theorem f_.zero:f_ tN tA A K w fO [] (fun _=>fO) (fun _=>fO):=
 ⟨⟨rfl,Or.inl ⟨rfl,rfl⟩⟩,(fun k e=>by cases e),(fun i n h=>by simp at h),(fun i k h=>by simp at h),(fun i n h=>by simp at h),(fun i k h=>by simp at h),(fun i j k h=>by simp at h),(fun i n h=>by simp at h)⟩
theorem f_.frame(h:f_ tN tA A K w nv l av kv)(hA:∀k,k<w.heap.size->A k->w'.heap[k]?=w.heap[k]?)(hK:∀k,k<w.heap.size->K k->w'.heap[k]?=w.heap[k]?)(hK':∀k,k<w'.heap.size->K k->K' k):f_ tN tA A K' w' nv l av kv:=by
 have lt:∀{e s v n xs k},w.ownsRow 0 e s v n xs->v.ownBlock=some k->k<w.heap.size:=fun h e=>eU h e;have row:w'.ownsRow 0 tN 5 nv l.length (fH av kv 0 l):=eI h.row fun k e=>hK k (lt h.row e) (h.nR k e);have kid:∀i n,l[i]?=some n->w'.ownsRow 0 3 1 (kv i) n.kids.length (fF n.kids):=fun i n hi=>eI (h.kid i n hi) fun k e=>hK k (lt (h.kid i n hi) e) (h.l7 i k (List.getElem?_eq_some_iff.1 hi).1 e).1;refine⟨row,fun k e=>hK' k (eU row e) (h.nR k e),fun i n hi=>eI (h.attr i n hi) fun k e=>hA k (lt (h.attr i n hi) e) (h.qN i k (List.getElem?_eq_some_iff.1 hi).1 e),h.qN,
  kid,fun i k hi e=>⟨hK' k (eU (kid i _ (aw hi)) e) (h.l7 i k hi e).1,(h.l7 i k hi e).2⟩,h.apart,h.KG⟩
theorem vW{e:TypeId}{s g n cap i:Nat}{xs:List Value}(h:w.ownsRow 0 e s (Z9 g n cap) n xs)(hi:i<n*s)(u:Value):(w.setCell ⟨g,i,none⟩ u).ownsRow 0 e s (Z9 g n cap) n (xs.set i u):=by
 refine⟨by rw[List.length_set];exact h.1,?_⟩;rcases h.2 with⟨e1,_⟩|⟨g',cap',cur,e1,h0,hg,h1,h2,h3,h4⟩
 ·cases e1
 ·cases e1;refine Or.inr ⟨g,cap,cur.setIfInBounds i u,rfl,h0,eV hg u,h1,h2,by simpa using h3,?_⟩;rw[Array.toList_setIfInBounds,List.take_set,h4]
theorem f_.cells(h:f_ tN tA A K w nv l av kv)(k:Nat)(n:Nd)(hk:l[k]?=some n):∃g cap,nv=Z9 g l.length cap/\l.length<=maxLen/\K g/\
  w.cell? ⟨g,k*5,none⟩=some (eZ n.name)/\w.cell? ⟨g,k*5+1,none⟩=some (av k)/\w.cell? ⟨g,k*5+2,none⟩=some (eZ n.text)/\w.cell? ⟨g,k*5+3,none⟩=some (kv k)/\w.cell? ⟨g,k*5+4,none⟩=some (.int .i64 n.up):=by
 have hlt:=(List.getElem?_eq_some_iff.1 hk).1;rcases h.row.2 with⟨_,e⟩|⟨g,cap,cur,e1,h0,hg,h1,h2,h3,h4⟩
 ·omega
 ·have hc:∀c u,(iu n (av k) (kv k))[c]?=some u->w.cell? ⟨g,k*5+c,none⟩=some u:=by
   intro c u hu;have h5:=Ar av kv l 0 k n c u hk (by rw[ay];exact hu);refine cell_of hg ?_;rw[<-h4,bT]at h5;split at h5
   ·simpa using h5
   ·cases h5
  exact⟨g,cap,e1,by omega,h.nR g (by rw[e1];rfl),hc 0 _ rfl,hc 1 _ rfl,hc 2 _ rfl,hc 3 _ rfl,hc 4 _ rfl⟩
theorem f_.fy(h:f_ tN tA A K w nv l av kv)(sZ:∀k,A k->¬K k)(lt:∀k,K k->k<w.heap.size)(tH:∀k,A k->k<w.heap.size){g cap k j:Nat}{n:Nd}{v':Value}(hv:nv=Z9 g l.length cap)(hk:l[k]?=some n)
  (hg:w.grownBy w1 (kv k).ownBlock) (ho:w1.ownsRow 0 3 1 v' (n.kids.length+1) (fF n.kids++[.int .i64 j])) (hat:v'.ownBlock=(kv k).ownBlock\/v'.ownBlock=some w.heap.size):
  f_ tN tA A (fun i=>K i\/i=w.heap.size) (w1.setCell ⟨g,k*5+3,none⟩ v') nv (fy l k j) av (upd kv k v'):=by
 have hlt:=(List.getElem?_eq_some_iff.1 hk).1;have KH:K g:=h.nR g (by rw[hv];rfl);have hne:(kv k).ownBlock≠some g:=fun e=>(h.l7 k g hlt e).2 (by rw[hv];rfl);have acU:v'.ownBlock≠some g:=by
  rcases hat with e|e<;>rw[e]
  ·exact hne
  ·intro x;cases x;exact absurd (lt _ KH) (by omega)
 --blocks that are kept
 have keep:∀b,b<w.heap.size->b≠g->(kv k).ownBlock≠some b->(w1.setCell ⟨g,k*5+3,none⟩ v').heap[b]?=w.heap[b]?:=fun b hb h1 h2=>by rw[af _ _ _ _ h1];exact hg.block b hb (fun e=>h2 e.symm)
 have YC:w1.ownsRow 0 tN 5 nv l.length (fH av kv 0 l):=eI h.row fun b e=>hg.block b (eU h.row e) (fun x=>by rw[hv]at e;cases e;exact hne x.symm);have Qb:∀i m,(Proofs.YtjecakcpcnmieaaGreatDoor.K.fy l k j)[i]?=some m->(i=k/\m=n.kid j)\/(i≠k/\l[i]?=some m):=by
  intro i m hi;rw[pV]at hi;by_cases e:i=k
  ·subst e;rw[if_pos rfl,hk]at hi;simp only[cq,aJ]at hi;exact Or.inl ⟨rfl,hi.symm⟩
  ·rw[if_neg e]at hi;exact Or.inr ⟨e,hi⟩
 refine⟨?_,fun b e=>Or.inl (h.nR b e),?_,fun i b hi e=>h.qN i b (by rwa[fB]at hi) e,?_,?_,?_,?_⟩
 ·rw[fB];have:=xP av v' j l kv 0 k hlt;rw[ay]at this;rw[<-this,hv];rw[hv]at YC;exact vW YC (by omega) v'
 ·intro i m hi;have key:∀m',l[i]?=some m'->m'.b_=m.b_->(w1.setCell ⟨g,k*5+3,none⟩ v').ownsRow 0 tA 2 (av i) m.b_.length (eG m.b_):=by
   intro m' h' ea;have JL:=h.attr i m' h';rw[ea]at JL;refine eI JL fun b e=>keep b (eU JL e) ?_ ?_
   ·rintro rfl;exact sZ _ (h.qN i _ (List.getElem?_eq_some_iff.1 h').1 e) KH
   ·intro e2;exact sZ _ (h.qN i _ (List.getElem?_eq_some_iff.1 h').1 e) (h.l7 k b hlt e2).1
  rcases Qb i m hi with⟨rfl,rfl⟩|⟨_,h'⟩
  ·exact key n hk rfl
  ·exact key m h' rfl
 ·intro i m hi;rcases Qb i m hi with⟨rfl,rfl⟩|⟨hik,h'⟩
  ·rw[upd_same];have e1:(n.kid j).kids=n.kids++[j]:=rfl;have e2:fF (n.kids++[j])=fF n.kids++[.int .i64 j]:=by simp[fF]
   rw[e1,e2,ae];exact eI ho fun b e=>af _ _ _ _ (fun x=>acU (by rw[e,x]))
  ·rw[fQ _ _ hik];have Fv:=(List.getElem?_eq_some_iff.1 h').1;refine eI (h.kid i m h') fun b e=>keep b (eU (h.kid i m h') e) (fun x=>(h.l7 i b Fv e).2 (by rw[hv,x];rfl)) (h.apart i k b Fv hlt hik e)
 ·intro i b hi e;rw[fB]at hi;by_cases hik:i=k
  ·subst hik;rw[upd_same]at e;rcases hat with e2|e2
   ·rw[e2]at e;exact⟨Or.inl (h.l7 i b hi e).1,(h.l7 i b hi e).2⟩
   ·rw[e2]at e;cases e;refine⟨Or.inr rfl,fun x=>?_⟩;rw[hv]at x;have hx:g=w.heap.size:=by simpa [Value.ownBlock]using x
    have:=lt _ KH;omega
  ·rw[fQ _ _ hik]at e;exact⟨Or.inl (h.l7 i b hi e).1,(h.l7 i b hi e).2⟩
 ·intro i i' b hi AU Ql e;rw[fB]at hi AU;by_cases h1:i=k
  ·subst h1;rw[upd_same]at e;rw[fQ _ _ (fun x=>Ql x.symm)];rcases hat with e2|e2
   ·rw[e2]at e;exact h.apart i i' b hi AU Ql e
   ·rw[e2]at e;cases e;intro x;exact absurd (lt _ (h.l7 i' _ AU x).1) (by omega)
  ·rw[fQ _ _ h1]at e;by_cases h2:i'=k
   ·subst h2;rw[upd_same];rcases hat with e2|e2
    ·rw[e2];exact h.apart i i' b hi AU Ql e
    ·rw[e2];intro x;cases x;exact absurd (lt _ (h.l7 i _ hi e).1) (by omega)
   ·rw[fQ _ _ h2];exact h.apart i i' b hi AU Ql e
 ·intro i m hi hm;rcases Qb i m hi with⟨rfl,rfl⟩|⟨hik,h'⟩
  ·simp[Nd.kid]at hm
  ·rw[fQ _ _ hik];exact h.KG i m h' hm
theorem f_.push(h:f_ tN tA A K w nv l av kv)(sZ:∀k,A k->¬K k)(lt:∀k,K k->k<w.heap.size)(tH:∀k,A k->k<w.heap.size){n:Nd}{a v':Value}
  (ha:w.ownsRow 0 tA 2 a n.b_.length (eG n.b_)) (nS:∀k,a.ownBlock=some k->A k) (hn:n.kids=[])
  (hg:w.grownBy w1 nv.ownBlock) (ho:w1.ownsRow 0 tN 5 v' (l.length+1) (fH av kv 0 l++iu n a fO)) (hat:v'.ownBlock=nv.ownBlock\/v'.ownBlock=some w.heap.size):
  f_ tN tA A (fun i=>K i\/i=w.heap.size) w1 v' (l++[n]) (upd av l.length a) (upd kv l.length fO):=by
 have keep:∀b,b<w.heap.size->nv.ownBlock≠some b->w1.heap[b]?=w.heap[b]?:=fun b hb h2=>hg.block b hb (fun e=>h2 e.symm);have hvK:∀b,v'.ownBlock=some b->(K b\/b=w.heap.size):=fun b e=>by
  rcases hat with e2|e2
  ·rw[e2]at e;exact Or.inl (h.nR b e)
  ·rw[e2]at e;cases e;exact Or.inr rfl
 have hget:∀i m,(l++[n])[i]?=some m->(i<l.length/\l[i]?=some m)\/(i=l.length/\m=n):=by
  intro i m hi;by_cases h1:i<l.length
  ·rw[aL h1]at hi;exact Or.inl ⟨h1,hi⟩
  ·rw[aQ (by omega)]at hi;have h2:=(List.getElem?_eq_some_iff.1 hi).1;simp only[ag,aq]at h2;have h3:i-l.length=0:=by omega
   rw[h3]at hi;exact Or.inr ⟨by omega,by simpa using hi.symm⟩
 refine⟨?_,hvK,?_,?_,?_,?_,?_,?_⟩
 ·rw[ae,rW];have e1:fH (upd av l.length a) (upd kv l.length fO) 0 l=fH av kv 0 l:=mW l 0 fun j _ b=>⟨fQ _ _ (by omega),fQ _ _ (by omega)⟩
  have e2:fH (upd av l.length a) (upd kv l.length fO) (0+l.length) [n]=iu n a fO:=by simp only[fH,ay,upd_same,aO]
  rw[e1,e2];exact ho
 ·intro i m hi;rcases hget i m hi with⟨h1,h2⟩|⟨rfl,rfl⟩
  ·rw[fQ _ _ (by omega)];exact eI (h.attr i m h2) fun b e=>keep b (eU (h.attr i m h2) e) fun x=>sZ b (h.qN i b h1 e) (h.nR b x)
  ·rw[upd_same];exact eI ha fun b e=>keep b (eU ha e) fun x=>sZ b (nS b e) (h.nR b x)
 ·intro i b hi e;by_cases h1:i=l.length
  ·subst h1;rw[upd_same]at e;exact nS b e
  ·rw[fQ _ _ h1]at e;exact h.qN i b (by simp only[ae,ag,aq]at hi;omega) e
 ·intro i m hi;rcases hget i m hi with⟨h1,h2⟩|⟨rfl,rfl⟩
  ·rw[fQ _ _ (by omega)];exact eI (h.kid i m h2) fun b e=>keep b (eU (h.kid i m h2) e) (h.l7 i b h1 e).2
  ·rw[upd_same,hn];exact⟨rfl,Or.inl ⟨rfl,rfl⟩⟩
 ·intro i b hi e;by_cases h1:i=l.length
  ·subst h1;rw[upd_same]at e;cases e
  ·rw[fQ _ _ h1]at e;have Fv:i<l.length:=by simp only[ae,ag,aq]at hi;omega
   have hk:=h.l7 i b Fv e;refine⟨Or.inl hk.1,?_⟩;rcases hat with e2|e2
   ·rw[e2];exact hk.2
   ·rw[e2];intro x;cases x;exact absurd (lt _ hk.1) (by omega)
 ·intro i j b hi hj hij e;simp only[ae,ag,aq]at hi hj;by_cases h1:i=l.length
  ·subst h1;rw[upd_same]at e;cases e
  ·rw[fQ _ _ h1]at e;by_cases h2:j=l.length
   ·subst h2;rw[upd_same];intro x;cases x
   ·rw[fQ _ _ h2];exact h.apart i j b (by omega) (by omega) hij e
 ·intro i m hi hm;rcases hget i m hi with⟨h1,h2⟩|⟨rfl,rfl⟩
  ·rw[fQ _ _ (by omega)];exact h.KG i m h2 hm
  ·rw[upd_same]
end
section
variable{A K K':Nat->Prop}{w w' w1:World}{nv:Value}{av kv:Nat->Value}{g:Gr}{X:Nat}{sv rv:Value}
structure kg(A K:Nat->Prop)(X:Nat)(w:World)(g:Gr)(nv:Value)(av kv:Nat->Value)(sv rv:Value):Prop where
 blk:w.heap[X]?=some (.cells #[sv,rv,nv,.int .i64 (jl g.stack)] 93 (0,0))
 nodes:f_ 108 143 A K w nv g.nodes av kv
 nA:¬A X
 nK:¬K X
 sZ:∀k,A k->¬K k
 lt:∀k,K k->k<w.heap.size
 tH:∀k,A k->k<w.heap.size
theorem kg.cell(h:kg A K X w g nv av kv sv rv)(i:Nat){u:Value}(e:#[sv,rv,nv,.int .i64 (jl g.stack)][i]?=some u):w.cell? ⟨X,i,none⟩=some u:=cell_of h.blk e
theorem TK:(prog.info? 108).map (fun i=>(i.zero,i.size,i.bytes))=some (some (.agg #[.string ⟨#[]⟩,.slice none 0 0,.string ⟨#[]⟩,.slice none 0 0,.int .i64 0]),5,88):=by kernel_rfl
theorem zn:(prog.info? 3).map (fun i=>(i.zero,i.size,i.bytes))=some (some (.int .i64 0),1,8):=by kernel_rfl
theorem yI(w:World)(n:Nd)(a k:Value)(t:TypeId):∀j u,(iu n a k)[j]?=some u->(w.alloc (.cells (iu n a k).toArray t)).cell? ((⟨w.heap.size,0,none⟩:Addr).add j)=some u:=by
 intro j u hu;rw[dH,ay,cell_of (bu w _) (v:=u)];rw[cz];exact hu
theorem ED(n:Nd)(a k:Value)(ha:a.oneCell'=true)(hk:k.oneCell'=true):∀u∈iu n a k,u.oneCell'=true:=by
 intro u hu;simp only[iu,cE,cn,cK]at hu;rcases hu with rfl|rfl|rfl|rfl|rfl
 ·rfl
 ·exact ha
 ·rfl
 ·exact hk
 ·rfl
theorem Au{u0 w2:World}{K1:Nat->Prop}{l1:List Nd}{n:Nd}{a v':Value}{d:Value}(hX:u0.heap[X]?=some (.cells #[sv,rv,nv,d] 93 (0,0)))(hn:f_ 108 143 A K1 u0 nv l1 av kv)(sZ:∀k,A k->¬K1 k)(lt:∀k,K1 k->k<u0.heap.size)(tH:∀k,A k->k<u0.heap.size)(nA:¬A X)(nK:¬K1 X)
  (ha:u0.ownsRow 0 143 2 a n.b_.length (eG n.b_)) (nS:∀k,a.ownBlock=some k->A k) (hk:n.kids=[]) (hg:u0.grownBy w2 nv.ownBlock) (ho:w2.ownsRow 0 108 5 v' (l1.length+1) (fH av kv 0 l1++iu n a fO)) (hat:v'.ownBlock=nv.ownBlock\/v'.ownBlock=some u0.heap.size):
  f_ 108 143 A (fun i=>K1 i\/i=u0.heap.size) (w2.setCell ⟨X,2,none⟩ v') v' (l1++[n]) (upd av l1.length a) (upd kv l1.length fO)/\(w2.setCell ⟨X,2,none⟩ v').heap[X]?=some (.cells #[sv,rv,v',d] 93 (0,0))/\
  Frame (fun k=>k=X\/K1 k) u0 (w2.setCell ⟨X,2,none⟩ v'):=by
 have rX:X<u0.heap.size:=eO hX;have Va:nv.ownBlock≠some X:=fun e=>nK (hn.nR X e);have Dh:w2.heap[X]?=some (.cells #[sv,rv,nv,d] 93 (0,0)):=(hg.block X rX (fun e=>Va e.symm)).trans hX;have hp:=hn.push sZ lt tH ha nS hk hg ho hat;refine⟨hp.frame (fun k _ hA=>af _ _ _ _ (fun e=>nA (by have e':k=X:=e;rw[<-e'];exact hA))) (fun k hk2 hK=>af _ _ _ _ ?_) (fun k _ hK=>hK),?_,⟨hg.os,hg.tape,hg.output,?_,?_⟩⟩
 ·rintro rfl;rcases hK with e|e
  ·exact nK e
  ·omega
 ·rw[eV Dh];rfl
 ·have:=hg.size;simpa [World.setCell]using this
 ·intro k hk2 hf;rw[af _ _ _ _ (fun e=>hf (Or.inl e))];exact hg.block k hk2 (fun e=>hf (Or.inr (hn.nR k e.symm)))
theorem kg.next{g':Gr}{kh:Value}{j8 kA:Nat->Value}{Kx:Nat->Prop}(h:kg A K X w g nv av kv sv rv)(fr:Frame (fun k=>k=X\/K k) w w')(hn:f_ 108 143 A Kx w' kh g'.nodes j8 kA)(hK:∀k,k<w'.heap.size->Kx k->Grow K w w' k)
  (hb:w'.heap[X]?=some (.cells #[sv,rv,kh,.int .i64 (jl g'.stack)] 93 (0,0))):kg A (Grow K w w') X w' g' kh j8 kA sv rv:=by
 have rX:=eO h.blk;refine⟨hb,hn.frame (fun _ _ _=>rfl) (fun _ _ _=>rfl) hK,h.nA,?_,?_,i_ h.lt fr.size,fun k hA=>ak (h.tH k hA) fr.size⟩
 ·rintro(e|e)
  ·exact h.nK e
  ·omega
 ·rintro k hA (e|e)
  ·exact h.sZ k hA e
  ·have:=h.tH k hA;omega
theorem Frame.trans'{F:Nat->Prop}{a b c:World}(h:Frame F a b)(k:Frame F b c):Frame F a c:=
 ⟨k.os.trans h.os,k.tape.trans h.tape,k.output.trans h.output,ar h.size k.size,fun i hi hf=>(k.block i (ak hi h.size) hf).trans (h.block i hi hf)⟩
theorem Frame.TL{F:Nat->Prop}(w:World)(o:Obj):Frame F w (w.alloc o):=⟨rfl,rfl,rfl,by simp,fun k hk _=>ap _ _ _ hk⟩
theorem Frame.drew'{F:Nat->Prop}(w:World):Frame F w w.drew:=⟨rfl,rfl,rfl,ah _,fun _ _ _=>rfl⟩
theorem OV{n:Nd}{a v':Value}{o1 o2:Obj}{w2:World}(h:kg A K X w g nv av kv sv rv)(hs:g.stack=[])(ha:w.ownsRow 0 143 2 a n.b_.length (eG n.b_))(nS:∀k,a.ownBlock=some k->A k)(hn:n.kids=[])
  (hg:((w.alloc o1).drew.alloc o2).grownBy w2 nv.ownBlock) (ho:w2.ownsRow 0 108 5 v' (g.nodes.length+1) (fH av kv 0 g.nodes++iu {n with up:= -1} a fO)) (hat:v'.ownBlock=nv.ownBlock\/v'.ownBlock=some ((w.alloc o1).drew.alloc o2).heap.size):
  ∃kh j8 kA,kg A (Grow K w (w2.setCell ⟨X,2,none⟩ v')) X (w2.setCell ⟨X,2,none⟩ v') (g.put n) kh j8 kA sv rv/\Frame (fun k=>k=X\/K k) w (w2.setCell ⟨X,2,none⟩ v'):=by
 have f1:∀F:Nat->Prop,Frame F w ((w.alloc o1).drew.alloc o2):=fun F=>((Frame.TL _ _).trans' (Frame.drew' _)).trans' (Frame.TL _ _);have rX:=eO h.blk;have keep:∀k,k<w.heap.size->((w.alloc o1).drew.alloc o2).heap[k]?=w.heap[k]?:=fun k hk=>(f1 (fun _=>False)).block k hk (fun x=>x);have hsz:=(f1 (fun _=>False)).size;obtain⟨p1,p2,p3⟩:=Au (n:={n with up:= -1}) (a:=a) ((keep X rX).trans h.blk) (h.nodes.frame (K':=K) (fun k hk _=>keep k hk) (fun k hk _=>keep k hk) (fun _ _ x=>x)) h.sZ (fun k x=>ak (h.lt k x) hsz) (fun k x=>ak (h.tH k x) hsz) h.nA h.nK
  (eI ha fun k e=>keep k (eU ha e)) nS hn hg ho hat
 have fr:=(f1 (fun k=>k=X\/K k)).trans' p3;have KI:g.put n=⟨g.nodes++[{n with up:= -1}],g.stack⟩:=by unfold Gr.put;rw[hs]
 rw[KI];refine⟨_,_,_,h.next (g':=⟨g.nodes++[{n with up:= -1}],g.stack⟩) fr p1 ?_ p2,fr⟩;rintro k hk (e|e)
 ·exact Or.inl e
 ·exact Or.inr ⟨by omega,hk⟩
theorem TM(h:kg A K X w g nv av kv sv rv)(hs:g.stack=[])(n:Nd)(a:Value)(z:Int)(ha:w.ownsRow 0 143 2 a n.b_.length (eG n.b_))(nS:∀k,a.ownBlock=some k->A k)(hn:n.kids=[])(hb:g.nodes.length<=17179869184):
  Z4 54 #[Z8 X,.agg #[.string ⟨n.name.toArray⟩,a,.string ⟨n.text.toArray⟩,.slice none 0 0,.int .i64 z]] w fun e w'=>e=.returned (.int .i64 g.nodes.length)/\∃kh j8 kA,kg A (Grow K w w') X w' (g.put n) kh j8 kA sv rv/\Frame (fun k=>k=X\/K k) w w':=by
 obtain⟨ai,ac,oF⟩:=eE ha;obtain⟨ni,nc,qO⟩:=eE h.nodes.row;subst oF;subst qO;have c0:w.cell? ⟨X,2,none⟩=some (.slice ni g.nodes.length nc):=h.cell 2 rfl;have c1:w.cell? ⟨X,3,none⟩=some (.int .i64 (-1)):=by have:=h.cell 3 rfl;rw[hs]at this;exact this
 have c0a:∀o:Obj,(w.alloc o).cell? ⟨X,2,none⟩=some (.slice ni g.nodes.length nc):=fun o=>eF o c0;have c1a:∀o:Obj,(w.alloc o).cell? ⟨X,3,none⟩=some (.int .i64 (-1)):=fun o=>eF o c1;have rX:=eO h.blk;have Va:(Value.slice ni g.nodes.length nc).ownBlock≠some X:=fun e=>h.nK (h.nodes.nR X e);obtain⟨i0,hi,hz0,hz1,hz2⟩:=bk TK;have HR:=a_ h.nodes.row;have HA:=a_ ha;have TN:=a_ nS;have H:=a_ h;clear h ha nS;go_enter func54,ntmps54;go_wp2_with fail;obtain⟨W1,hW1⟩:∃W,w.alloc (.cells #[.string ⟨n.name.toArray⟩,.slice ai (List.length n.b_) ac,.string ⟨n.text.toArray⟩,.slice none 0 0,.int .i64 (-1)] 108)=W:=⟨_,rfl⟩
 rw[hW1];have fj:W1.heap[w.heap.size]?=some (.cells #[.string ⟨n.name.toArray⟩,.slice ai (List.length n.b_) ac,.string ⟨n.text.toArray⟩,.slice none 0 0,.int .i64 (-1)] 108):=by rw[<-hW1];exact eL _ _
 have n0:=cell_of (i:=0) fj rfl;have n1:=cell_of (i:=1) fj rfl;have n2:=cell_of (i:=2) fj rfl;have n3:=cell_of (i:=3) fj rfl;have n4:=cell_of (i:=4) fj rfl;have x0:W1.cell? ⟨X,2,none⟩=some (.slice ni g.nodes.length nc):=by rw[<-hW1];exact c0a _
 have Yb:∀o:Obj,(W1.alloc o).cell? ⟨X,2,none⟩=some (.slice ni g.nodes.length nc):=fun o=>eF o x0;have hXb:W1.heap[X]?=some (.cells #[sv,rv,.slice ni g.nodes.length nc,.int .i64 (jl g.stack)] 93 (0,0)):=by rw[<-hW1,ap _ _ _ rX];exact H.out.blk
 have HR1:Hid (W1.ownsRow 0 108 5 (.slice ni g.nodes.length nc) g.nodes.length (fH av kv 0 g.nodes)):=a_ (by rw[<-hW1];exact HR.out.alloc _);have HXB:=a_ hXb;have HW1:=a_ hW1;have f0:=eP (i:=2) hXb;clear hW1 fj c0a c1a c0 c1 hXb;go_region_law
  (first|(
   refine fJ rfl (.tmp 45) (.tmp 47) 42 rfl 108 i0 _ 5 88 underlying42 hi hz0 hz1 hz2 rfl (by decide) (.slice ni g.nodes.length nc) g.nodes.length (fH av kv 0 g.nodes) (by simp[Act.eval,Act.put]) (HR1.out.drew.alloc _) ⟨W1.heap.size,0,none⟩ 1 1 (iu {n with up:= -1} (.slice ai (List.length n.b_) ac) fO) (by simp[Act.eval,Act.put]) rfl (yI _ _ _ _ _) (ED _ _ _ rfl rfl) (by unfold maxLen;omega) (by omega) ?_;intro v' w2 ho hg hat;obtain⟨uw,cap',rfl⟩:=eE ho;have hb1:=gm HXB.out Va hg;have x0':w2.cell? ⟨X,2,none⟩=some (.slice ni g.nodes.length nc):=cell_of hb1 rfl;have f0':=eP (i:=2) hb1;have HO:=a_ ho;have HG:=a_ hg;have tY:=a_ hat;clear ho hg hat hb1))
 all_goals
  go_wp2;go_ret;have h3:=HW1.out;subst h3;exact⟨rfl,OV H.out hs HA.out TN.out hn HG.out HO.out tY.out⟩
end
section
variable{A K K':Nat->Prop}{w w' w1:World}{nv:Value}{av kv:Nat->Value}{g:Gr}{X:Nat}{sv rv:Value}
structure eN(w W:World):Prop where
 os:W.os=w.os
 tape:W.tape=w.tape
 output:W.output=w.output
 size:w.heap.size<=W.heap.size
 keep:∀b,b<w.heap.size->W.heap[b]?=w.heap[b]?
theorem eN.frame{F:Nat->Prop}{W:World}(h:eN w W):Frame F w W:=⟨h.os,h.tape,h.output,h.size,fun b hb _=>h.keep b hb⟩
theorem eN.nodes{W:World}{l:List Nd}(h:eN w W)(hn:f_ 108 143 A K w nv l av kv):f_ 108 143 A K W nv l av kv:=hn.frame (fun k hk _=>h.keep k hk) (fun k hk _=>h.keep k hk) (fun _ _ x=>x)
theorem eN.alloc{W:World}(h:eN w W)(o:Obj):eN w (W.alloc o):=⟨h.os,h.tape,h.output,by have:=h.size;simp;omega,fun b hb=>(ap _ _ _ (ak hb h.size)).trans (h.keep b hb)⟩
theorem eN.drewN{W:World}(h:eN w W)(n:Nat):eN w (W.drewN n):=⟨h.os,h.tape,h.output,h.size,h.keep⟩
theorem eN.refl(w:World):eN w w:=⟨rfl,rfl,rfl,ah _,fun _ _=>rfl⟩
theorem Xr{k:Nat}{st:List Nat}{m:Nd}{W1 w2:World}{o:Obj}{v':Value}{gN nc:Nat}(h:kg A K X w g nv av kv sv rv)(hm:g.nodes[k]?=some m)(qO:nv=Z9 gN g.nodes.length nc)(hW:eN w W1)
  (hg:(W1.alloc o).grownBy w2 (kv k).ownBlock) (ho:w2.ownsRow 0 3 1 v' (m.kids.length+1) (fF m.kids++[.int .i64 g.nodes.length])) (hat:v'.ownBlock=(kv k).ownBlock\/v'.ownBlock=some (W1.alloc o).heap.size):
  f_ 108 143 A (fun i=>K i\/i=(W1.alloc o).heap.size) (w2.setCell ⟨gN,k*5+3,none⟩ v') nv (fy g.nodes k g.nodes.length) av (upd kv k v')/\
  (∀b,b<(W1.alloc o).heap.size->¬K b->(w2.setCell ⟨gN,k*5+3,none⟩ v').heap[b]?=(W1.alloc o).heap[b]?)/\Frame K w (w2.setCell ⟨gN,k*5+3,none⟩ v')/\(W1.alloc o).heap.size<=(w2.setCell ⟨gN,k*5+3,none⟩ v').heap.size:=by
 have hk:k<g.nodes.length:=(List.getElem?_eq_some_iff.1 hm).1;have KH:K gN:=h.nodes.nR gN (by rw[qO];rfl);have hM:=hW.alloc o;have hn:=(hM.nodes h.nodes).fy (j:=g.nodes.length) h.sZ (fun i x=>ak (h.lt i x) hM.size) (fun i x=>ak (h.tH i x) hM.size) qO hm hg ho hat;have hb:∀b,b<(W1.alloc o).heap.size->¬K b->(w2.setCell ⟨gN,k*5+3,none⟩ v').heap[b]?=(W1.alloc o).heap[b]?:=by
  intro b hb hK;rw[af _ _ _ _ (fun e=>hK (by have e':b=gN:=e;rw[e'];exact KH))];exact hg.block b hb (fun e=>hK (h.nodes.l7 k b hk e.symm).1)
 have hz:(W1.alloc o).heap.size<=(w2.setCell ⟨gN,k*5+3,none⟩ v').heap.size:=by
  have:=hg.size;simpa [World.setCell]using this
 exact⟨hn,hb,⟨hg.os.trans hM.os,hg.tape.trans hM.tape,hg.output.trans hM.output,ar hM.size hz,fun i hi hK=>(hb i (ak hi hM.size) hK).trans (hM.keep i hi)⟩,hz⟩
theorem KJ{k:Nat}{st:List Nat}{n:Nd}{a v1 v':Value}{o2:Obj}{W3 w4:World}{Z:Nat}(h:kg A K X w g nv av kv sv rv)(hs:g.stack=k::st)(ha:w.ownsRow 0 143 2 a n.b_.length (eG n.b_))(nS:∀k,a.ownBlock=some k->A k)(hn:n.kids=[])
  (hZ:w.heap.size<=Z) (hZ3:Z<=W3.heap.size) (p1:f_ 108 143 A (fun i=>K i\/i=Z) W3 nv (fy g.nodes k g.nodes.length) av (upd kv k v1)) (p3:Frame K w W3) (hX:W3.heap[X]?=some (.cells #[sv,rv,nv,.int .i64 (jl g.stack)] 93 (0,0)))
  (hg:(W3.drew.alloc o2).grownBy w4 nv.ownBlock) (ho:w4.ownsRow 0 108 5 v' (g.nodes.length+1) (fH av (upd kv k v1) 0 (fy g.nodes k g.nodes.length)++iu {n with up:=k} a fO)) (hat:v'.ownBlock=nv.ownBlock\/v'.ownBlock=some (W3.drew.alloc o2).heap.size):
  ∃kh j8 kA,kg A (Grow K w (w4.setCell ⟨X,2,none⟩ v')) X (w4.setCell ⟨X,2,none⟩ v') (g.put n) kh j8 kA sv rv/\Frame (fun k=>k=X\/K k) w (w4.setCell ⟨X,2,none⟩ v'):=by
 have rX:=eO h.blk;have hM:eN W3 (W3.drew.alloc o2):=((eN.refl W3).drewN 1).alloc o2
 --what lies at all
 let K1:Nat->Prop:=fun i=>(K i\/i=Z)/\i<W3.heap.size
 have Zj:f_ 108 143 A K1 W3 nv (fy g.nodes k g.nodes.length) av (upd kv k v1):=p1.frame (fun _ _ _=>rfl) (fun _ _ _=>rfl) (fun i hi x=>⟨x,hi⟩);have q1:∀i,A i->¬K1 i:=fun i hA x=>by
  rcases x.1 with e|e
  ·exact h.sZ i hA e
  ·have:=h.tH i hA;omega
 have q2:∀i,K1 i->i<(W3.drew.alloc o2).heap.size:=fun i x=>ak x.2 hM.size;have q3:∀i,A i->i<(W3.drew.alloc o2).heap.size:=fun i x=>ak (h.tH i x) (ar p3.size hM.size);have q4:¬K1 X:=fun x=>by
  rcases x.1 with e|e
  ·exact h.nK e
  ·omega
 have hA3:∀i,A i->W3.heap[i]?=w.heap[i]?:=fun i hA=>p3.block i (h.tH i hA) (fun x=>h.sZ i hA x);have ha3:(W3.drew.alloc o2).ownsRow 0 143 2 a n.b_.length (eG n.b_):=eI ha fun i e=>(hM.keep i (ak (eU ha e) p3.size)).trans (hA3 i (nS i e));obtain⟨r1,r2,r3⟩:=Au (n:={n with up:=k}) (a:=a) ((hM.keep X (ak rX p3.size)).trans hX) (hM.nodes Zj) q1 q2 q3 h.nA q4 ha3 nS hn hg (by rw[fB];exact ho) hat;have fr:Frame (fun k=>k=X\/K k) w (w4.setCell ⟨X,2,none⟩ v'):=by
  refine⟨r3.os.trans (hM.os.trans p3.os),r3.tape.trans (hM.tape.trans p3.tape),r3.output.trans (hM.output.trans p3.output),ar p3.size (ar hM.size r3.size),fun i hi hf=>?_⟩;rw[r3.block i (ak hi (ar p3.size hM.size)) (fun x=>?_),hM.keep i (ak hi p3.size)]
  ·exact p3.block i hi (fun x=>hf (Or.inr x))
  ·rcases x with e|e
   ·exact hf (Or.inl e)
   ·rcases e.1 with e|e
    ·exact hf (Or.inr e)
    ·omega
 have KI:g.put n=⟨fy g.nodes k g.nodes.length++[{n with up:=(k:Int)}],g.stack⟩:=by unfold Gr.put;rw[hs]
 rw[KI];refine⟨_,_,_,h.next (g':=⟨fy g.nodes k g.nodes.length++[{n with up:=(k:Int)}],g.stack⟩) fr r1 ?_ r2,fr⟩;rintro i hi (e|e)
 ·rcases e.1 with e1|e1
  ·exact Or.inl e1
  ·exact Or.inr ⟨by omega,hi⟩
 ·exact Or.inr ⟨by have:=p3.size;have:=hM.size;omega,hi⟩
theorem TP(h:kg A K X w g nv av kv sv rv)(k:Nat)(st:List Nat)(m:Nd)(hs:g.stack=k::st)(hm:g.nodes[k]?=some m)(n:Nd)(a:Value)(z:Int)(ha:w.ownsRow 0 143 2 a n.b_.length (eG n.b_))(nS:∀k,a.ownBlock=some k->A k)(hn:n.kids=[])(hb:g.nodes.length<=17179869184)(hb2:m.kids.length<=17179869184):
  Z4 54 #[Z8 X,.agg #[.string ⟨n.name.toArray⟩,a,.string ⟨n.text.toArray⟩,.slice none 0 0,.int .i64 z]] w fun e w'=>e=.returned (.int .i64 g.nodes.length)/\∃kh j8 kA,kg A (Grow K w w') X w' (g.put n) kh j8 kA sv rv/\Frame (fun k=>k=X\/K k) w w':=by
 obtain⟨ai,ac,oF⟩:=eE ha;obtain⟨gN,nc,qO,hmx,KH,m0,m1,m2,m3,m4⟩:=h.nodes.cells k m hm;have qU:k<g.nodes.length:=(List.getElem?_eq_some_iff.1 hm).1;have tI:=h.nodes.kid k m hm;obtain⟨ki,kc,yi⟩:=eE tI;rw[yi]at m3 tI;subst oF;subst qO;have c0:w.cell? ⟨X,2,none⟩=some (Z9 gN g.nodes.length nc):=h.cell 2 rfl;have c1:w.cell? ⟨X,3,none⟩=some (.int .i64 k):=by have:=h.cell 3 rfl;rw[hs]at this;exact this
 have c0a:∀o:Obj,(w.alloc o).cell? ⟨X,2,none⟩=some (Z9 gN g.nodes.length nc):=fun o=>eF o c0;have c1a:∀o:Obj,(w.alloc o).cell? ⟨X,3,none⟩=some (.int .i64 k):=fun o=>eF o c1;have m3a:∀o:Obj,(w.alloc o).cell? ⟨gN,k*5+3,none⟩=some (.slice ki m.kids.length kc):=fun o=>eF o m3;have rX:=eO h.blk;have hXg:gN≠X:=fun e=>h.nK (e▸KH);have hkX:(Value.slice ki m.kids.length kc).ownBlock≠some X:=fun e=>h.nK (h.nodes.l7 k X qU (by rw[yi];exact e)).1;have hkg:(Value.slice ki m.kids.length kc).ownBlock≠some gN:=fun e=>(h.nodes.l7 k gN qU (by rw[yi];exact e)).2 rfl;have hkn:¬((k:Int)= -1):=by omega
 have hne:((k:Int) != -1)=true:=by simp
 have Hl:(k:Int)<g.nodes.length:=by omega
 obtain⟨i0,hi,hz0,hz1,hz2⟩:=bk TK;obtain⟨j0,hj,YD,YE,IA⟩:=bk zn;have HR:=a_ h.nodes.row;have abE:=a_ tI;have HA:=a_ ha;have TN:=a_ nS;have H:=a_ h;clear h ha nS tI m0 m1 m2 m4;go_enter func54,ntmps54;go_wp2_with fail;go_quiet(fail);obtain⟨W1,hW1⟩:∃W,(w.alloc (.cells #[.string ⟨n.name.toArray⟩,.slice ai (List.length n.b_) ac,.string ⟨n.text.toArray⟩,.slice none 0 0,.int .i64 (k:Int)] 108)).drewN nq=W:=⟨_,rfl⟩
 rw[hW1];have hM:eN w W1:=by rw[<-hW1];exact((eN.refl w).alloc _).drewN _
 have fj:W1.heap[w.heap.size]?=some (.cells #[.string ⟨n.name.toArray⟩,.slice ai (List.length n.b_) ac,.string ⟨n.text.toArray⟩,.slice none 0 0,.int .i64 (k:Int)] 108):=by rw[<-hW1];exact eL w _
 have hXb:W1.heap[X]?=some (.cells #[sv,rv,Z9 gN g.nodes.length nc,.int .i64 (jl g.stack)] 93 (0,0)):=(hM.keep X rX).trans H.out.blk;obtain⟨cur,OW⟩:=fX HR.out (k:=gN) rfl;have Iz:gN<w.heap.size:=eO OW;have YF:W1.heap[gN]?=some (.cells cur 108 (0,0)):=(hM.keep gN Iz).trans OW;have k3:W1.cell? ⟨gN,k*5+3,none⟩=some (.slice ki m.kids.length kc):=(aj (hM.keep gN Iz)).trans m3;have HK1:Hid (W1.ownsRow 0 3 1 (.slice ki m.kids.length kc) m.kids.length (fF m.kids)):=a_ (eI abE.out fun b e=>hM.keep b (eU abE.out e));have HM:=a_ hM;have xe:=a_ fj;have HXB:=a_ hXb;have KL:=a_ YF;have HM3:=a_ m3;clear hW1 fj c0a c1a c0 c1 hXb hM OW YF m3a m3;go_wp2_with(at_builtin;refine bj _ rfl (.tmp 35) (.tmp 37) 34 rfl 0 3 j0 _ 1 8 underlying34 hj YD YE IA rfl (by decide) (.slice ki m.kids.length kc) m.kids.length (fF m.kids) rfl (HK1.out.alloc _) ⟨W1.heap.size,0,none⟩ 1 1 [.int .i64 g.nodes.length] rfl rfl ?c1 ?c2 ?c3 ?c4 (ax _) ?_)
 case c1=>
  intro j u hj
  match j,hj with
  |0,hj=>simp at hj;subst hj;simp[Addr.add]
  |(j+1),hj=>simp at hj
 case c2=>intro u hu;simp at hu;subst hu;rfl
 case c3=>unfold maxLen;omega
 case c4=>omega
 intro v' w2 ho hg _ hat;obtain⟨uw,cap',rfl⟩:=eE ho;have acV:=yi;rw[<-yi]at hg hat;obtain⟨p1,p2,p3,p4⟩:=Xr (st:=st) H.out hm rfl HM.out hg ho (by simpa using hat);have hlW:w.heap.size<=W1.heap.size:=HM.out.size;have hbl:w.heap.size<W1.heap.size:=eO xe.out;have TQ:w2.heap[gN]?=some (.cells cur 108 (0,0)):=by rw[hg.block gN (by simp;omega) (by rw[yi];exact fun e=>hkg e.symm),ap _ _ _ (by omega)];exact KL.out
 have k3':w2.cell? ⟨gN,k*5+3,none⟩=some (.slice ki m.kids.length kc):=by
  rw[aj (w:=w) (a:=⟨gN,k*5+3,none⟩)]
  ·exact HM3.out
  ·rw[TQ,<-KL.out];exact HM.out.keep gN Iz
 have f3':=eP (i:=k*5+3) TQ;have P1:=a_ p1;have P2:=a_ p2;have P3:=a_ p3;have P4:=a_ p4;clear p1 p2 p3 p4 hg ho hat TQ acV yi;go_wp2_with fail;obtain⟨W3,hW3⟩:∃W,w2.setCell ⟨gN,k*5+3,none⟩ (.slice uw (m.kids.length+1) cap')=W:=⟨_,rfl⟩
 rw[hW3];rw[hW3]at P1 P2 P3 P4;have Xt:W3.heap[X]?=some (.cells #[sv,rv,Z9 gN g.nodes.length nc,.int .i64 (jl g.stack)] 93 (0,0)):=by rw[P2.out X (by simp;omega) H.out.nK,ap _ _ _ (by omega)];exact HXB.out
 have CH:W3.heap[w.heap.size]?=some (.cells #[.string ⟨n.name.toArray⟩,.slice ai (List.length n.b_) ac,.string ⟨n.text.toArray⟩,.slice none 0 0,.int .i64 (k:Int)] 108):=by rw[P2.out w.heap.size (by simp;omega) (fun x=>by have:=H.out.lt _ x;omega),ap _ _ _ hbl];exact xe.out
 have n0:=cell_of (i:=0) CH rfl;have n1:=cell_of (i:=1) CH rfl;have n2:=cell_of (i:=2) CH rfl;have n3:=cell_of (i:=3) CH rfl;have n4:=cell_of (i:=4) CH rfl;have x0:W3.cell? ⟨X,2,none⟩=some (Z9 gN g.nodes.length nc):=cell_of Xt rfl;have Yb:∀o:Obj,(W3.alloc o).cell? ⟨X,2,none⟩=some (Z9 gN g.nodes.length nc):=fun o=>eF o x0;have hrow3:=P1.out.row;rw[fB]at hrow3;have HR3:=a_ hrow3;have abF:=a_ Xt;have Va:(Z9 gN g.nodes.length nc).ownBlock≠some X:=fun e=>hXg (by cases e;rfl);have f0:=eP (i:=2) Xt;clear hW3 CH Xt hrow3 k3' f3' k3;go_region_law
  (first|(
   refine fJ rfl (.tmp 45) (.tmp 47) 42 rfl 108 i0 _ 5 88 underlying42 hi hz0 hz1 hz2 rfl (by decide) (Z9 gN g.nodes.length nc) g.nodes.length (fH av (upd kv k (.slice uw (m.kids.length+1) cap')) 0 (fy g.nodes k g.nodes.length)) (by simp[Act.eval,Act.put]) (HR3.out.drew.alloc _) ⟨W3.heap.size,0,none⟩ 1 1 (iu {n with up:=k} (.slice ai (List.length n.b_) ac) fO) (by simp[Act.eval,Act.put]) rfl (yI _ _ _ _ _) (ED _ _ _ rfl rfl) (by unfold maxLen;omega) (by omega) ?_;intro v' w4 ho hg hat;obtain⟨ao4,adL,rfl⟩:=eE ho;have hb1:=gm abF.out Va hg;have x0':w4.cell? ⟨X,2,none⟩=some (Z9 gN g.nodes.length nc):=cell_of hb1 rfl;have f0':=eP (i:=2) hb1;have HO:=a_ ho;have HG:=a_ hg;have tY:=a_ hat;clear ho hg hat hb1))
 all_goals
  go_wp2;go_ret;exact⟨rfl,KJ H.out hs HA.out TN.out hn (by have:=HM.out.size;simp;omega) P4.out P1.out P3.out abF.out HG.out HO.out tY.out⟩
def mF(g:Gr):Prop:=∀(i:Nat) (m:Nd),g.nodes[i]?=some m->m.kids.length<=g.nodes.length
theorem Hm(h:kg A K X w g nv av kv sv rv)(wf:g.Wf)(hk:mF g)(n:Nd)(a:Value)(z:Int)(ha:w.ownsRow 0 143 2 a n.b_.length (eG n.b_))(nS:∀k,a.ownBlock=some k->A k)(hn:n.kids=[])(hb:g.nodes.length<=17179869184):
  Z4 54 #[Z8 X,.agg #[.string ⟨n.name.toArray⟩,a,.string ⟨n.text.toArray⟩,.slice none 0 0,.int .i64 z]] w fun e w'=>e=.returned (.int .i64 g.nodes.length)/\∃kh j8 kA,kg A (Grow K w w') X w' (g.put n) kh j8 kA sv rv/\Frame (fun k=>k=X\/K k) w w':=by
 cases hs:g.stack with
 |nil=>exact TM h hs n a z ha nS hn hb
 |cons k st=>
  obtain⟨m,hm,_,_⟩:=wf.top hs;exact TP h k st m hs hm n a z ha nS hn hb (ar (hk k m hm) hb)
end
end K
end Go.Proofs.YtjecakcpcnmieaaGreatDoor
namespace Go.Proofs
open Go.Shelf
def Tryz.lays160_ren:Go.Shelf.Ren:=⟨fun|160=>131|232=>171|231=>170|227=>172|234=>174|233=>173|236=>176|235=>175|228=>201|271=>203|151=>202|197=>166|120=>230|152=>229|260=>200|137=>243|119=>244|224=>245|225=>246|217=>254|266=>263|n=>n,fun|9=>9|4=>4|3=>3|5=>5|117=>271|116=>270|0=>0|124=>274|21=>21|105=>249|46=>280|119=>290|139=>293|138=>292|n=>n,fun|3=>3|4=>4|n=>n⟩
theorem Tryz.lays160:Go.Proofs.Lays.n160 Tryz.prog Tryz.lays160_ren:={
 mixed:=by kernel_rfl
 f119:=Tryz.func244.trans (aC some (by kernel_rfl))
 f120:=Tryz.func230.trans (aC some (by kernel_rfl))
 f137:=Tryz.func243.trans (aC some (by kernel_rfl))
 f151:=Tryz.func202.trans (aC some (by kernel_rfl))
 f152:=Tryz.func229.trans (aC some (by kernel_rfl))
 f160:=Tryz.func131.trans (aC some (by kernel_rfl))
 f197:=Tryz.func166.trans (aC some (by kernel_rfl))
 f217:=Tryz.func254.trans (aC some (by kernel_rfl))
 f224:=Tryz.func245.trans (aC some (by kernel_rfl))
 f225:=Tryz.func246.trans (aC some (by kernel_rfl))
 f227:=Tryz.func172.trans (aC some (by kernel_rfl))
 f228:=Tryz.func201.trans (aC some (by kernel_rfl))
 f231:=Tryz.func170.trans (aC some (by kernel_rfl))
 f232:=Tryz.func171.trans (aC some (by kernel_rfl))
 f233:=Tryz.func173.trans (aC some (by kernel_rfl))
 f234:=Tryz.func174.trans (aC some (by kernel_rfl))
 f235:=Tryz.func175.trans (aC some (by kernel_rfl))
 f236:=Tryz.func176.trans (aC some (by kernel_rfl))
 f260:=Tryz.func200.trans (aC some (by kernel_rfl))
 f266:=Tryz.func263.trans (aC some (by kernel_rfl))
 f271:=Tryz.func203.trans (aC some (by kernel_rfl))
 t0:=Tryz.underlying0
 a0:=Tryz.isAgg0
 z0:=Tryz.sizeOf0
 v0:=Tryz.zeroValue0
 t3:=Tryz.underlying3
 a3:=Tryz.isAgg3
 z3:=Tryz.sizeOf3
 v3:=Tryz.zeroValue3
 t4:=Tryz.underlying4
 a4:=Tryz.isAgg4
 z4:=Tryz.sizeOf4
 v4:=Tryz.zeroValue4
 t5:=Tryz.underlying5
 a5:=Tryz.isAgg5
 z5:=Tryz.sizeOf5
 v5:=Tryz.zeroValue5
 t9:=Tryz.underlying9
 a9:=Tryz.isAgg9
 z9:=Tryz.sizeOf9
 v9:=Tryz.zeroValue9
 t21:=Tryz.underlying21
 a21:=Tryz.isAgg21
 z21:=Tryz.sizeOf21
 v21:=Tryz.zeroValue21
 t46:=Tryz.underlying280
 a46:=Tryz.isAgg280
 z46:=Tryz.sizeOf280
 v46:=Tryz.zeroValue280
 t105:=Tryz.underlying249
 a105:=Tryz.isAgg249
 z105:=Tryz.sizeOf249
 v105:=Tryz.zeroValue249
 t116:=Tryz.underlying270
 a116:=Tryz.isAgg270
 z116:=Tryz.sizeOf270
 t117:=Tryz.underlying271
 a117:=Tryz.isAgg271
 z117:=Tryz.sizeOf271
 v117:=Tryz.zeroValue271
 t119:=Tryz.underlying290
 a119:=Tryz.isAgg290
 z119:=Tryz.sizeOf290
 t124:=Tryz.underlying274
 a124:=Tryz.isAgg274
 z124:=Tryz.sizeOf274
 v124:=Tryz.zeroValue274
 t138:=Tryz.underlying292
 a138:=Tryz.isAgg292
 z138:=Tryz.sizeOf292
 v138:=Tryz.zeroValue292
 t139:=Tryz.underlying293
 a139:=Tryz.isAgg293
 z139:=Tryz.sizeOf293
 v139:=Tryz.zeroValue293
 g3:=by kernel_rfl
 g4:=by kernel_rfl}
open Go.RowKit in
theorem Tryz.strings_Trim_blanks(s:ByteArray)(w:World)(hs:s.size<=9223372036854775807):
  Calls Tryz.prog 131 #[.string s,.string ⟨#[9,10,13,32]⟩] w fun e w'=>e=.returned (.string ⟨(Lib.trimS s.data.toList [9,10,13,32]).toArray⟩)/\Below w.heap.size w w':=
 Any.strings_Trim_laid Tryz.lays160 (by kernel_rfl) s ⟨#[9,10,13,32]⟩ w hs (by decide) (ascii_of_all (by decide))
end Go.Proofs
namespace Go.Proofs.YtjecakcpcnmieaaGreatDoor
namespace K
open Go.RowKit Go.Maps Go.Lib Tryz
section
variable{S:Nat->Prop}{w w' w1:World}{sv:Value}{X i:Nat}{cs:Array Value}{ty:TypeId}{ns:List (List UInt8)}{r:Bool}
def jG(l:List (List UInt8)):List Value:=l.map eZ
structure NS(S:Nat->Prop)(X i:Nat)(w:World)(cs:Array Value)(ty:TypeId)(sv:Value)(ns:List (List UInt8))(r:Bool):Prop where
 blk:w.heap[X]?=some (.cells cs ty (0,0))
 c0:cs[i]?=some sv
 c1:cs[i+1]?=some (.bool r)
 row:w.ownsRow 0 9 1 sv ns.length (jG ns)
 own:∀k,sv.ownBlock=some k->S k
 nX:¬S X
 lt:∀k,S k->k<w.heap.size
def IE(i:Nat)(cs cs':Array Value):Prop:=cs'.size=cs.size/\∀j,j≠i->j≠i+1->cs'[j]?=cs[j]?
theorem IE.refl(i:Nat)(cs:Array Value):IE i cs cs:=⟨rfl,fun _ _ _=>rfl⟩
theorem IE.set(i:Nat)(cs:Array Value)(v:Value):IE i cs (cs.setIfInBounds i v):=⟨by simp,fun j h _=>by rw[bC,if_neg (fun e=>h e.symm)]⟩
theorem IE.acW(i:Nat)(cs:Array Value)(v u:Value):IE i cs ((cs.setIfInBounds i v).setIfInBounds (i+1) u):=⟨by simp,fun j h h2=>by rw[bC,if_neg (fun e=>h2 e.symm),bC,if_neg (fun e=>h e.symm)]⟩
theorem NS.cell0(h:NS S X i w cs ty sv ns r):w.cell? ⟨X,i,none⟩=some sv:=cell_of h.blk h.c0
theorem NS.cell1(h:NS S X i w cs ty sv ns r):w.cell? ⟨X,i+1,none⟩=some (.bool r):=cell_of h.blk h.c1
theorem abG:(prog.info? 9).map (fun i=>(i.zero,i.size,i.bytes))=some (some (.string ⟨#[]⟩),1,16):=by kernel_rfl
theorem qx(h:NS S X i w cs ty sv ns r):Z4 29 #[.pointer (some ⟨X,i,none⟩)] w fun e w'=>e=.returned (.bool (r&&decide (ns.length=0)))/\eN w w':=by
 obtain⟨ai,ac,oF⟩:=eE h.row;subst oF;have c0:=h.cell0;have c1:=h.cell1;clear h;cases r with
 |false=>
  go_enter func29,ntmps29;go_wp2;go_ret;exact⟨by simp,eN.refl w⟩
 |true=>
  by_cases hz:ns.length=0
  ·rw[hz]at c0 ⊢;go_enter func29,ntmps29;go_wp2;go_ret;exact⟨by simp,eN.refl w⟩
  ·have hz1:((ns.length:Int)==0)=false:=by rw[aF];omega
   have hz2:(decide (ns.length=0))=false:=decide_eq_false hz;go_enter func29,ntmps29;go_wp2;go_ret;exact⟨by rw[hz2];rfl,eN.refl w⟩
theorem OX(h:NS S X i w cs ty sv [] true)(name:ByteArray):Z4 91 #[.pointer (some ⟨X,i,none⟩),.string name] w fun e w'=>e=.returned (.int .i64 7)/\eN w w':=by
 have hw:=qx h;clear h;go_enter func91,ntmps91;go_wp2_with(go_at_call 29;refine hw.mono ?_;rintro e w1 ⟨rfl,m1⟩);go_ret;exact⟨rfl,m1⟩
theorem NS.keep{W:World}(h:NS S X i w cs ty sv ns r)(hM:eN w W):NS S X i W cs ty sv ns r:=
 ⟨(hM.keep X (eO h.blk)).trans h.blk,h.c0,h.c1,eI h.row fun k e=>hM.keep k (eU h.row e),h.own,h.nX,fun k x=>ak (h.lt k x) hM.size⟩
theorem OY(h:NS S X i w cs ty sv ns r)(hn:ns.length=30)(name:ByteArray):Z4 91 #[.pointer (some ⟨X,i,none⟩),.string name] w fun e w'=>e=.returned (.int .i64 8)/\eN w w':=by
 have hw:Z4 29 #[.pointer (some ⟨X,i,none⟩)] w fun e w'=>e=.returned (.bool false)/\eN w w':=by
  have:=qx h;rw[hn]at this;simpa using this
 have hc:∀W,eN w W->∃ai ac,W.cell? ⟨X,i,none⟩=some (.slice ai 30 ac):=fun W hM=>by
  have h2:=h.keep hM;obtain⟨ai,ac,oF⟩:=eE h2.row;exact⟨ai,ac,by rw[h2.cell0,oF,hn]⟩
 have HC:=a_ hc;clear h hn hc;go_enter func91,ntmps91;go_wp2_with(go_at_call 29;refine hw.mono ?_;rintro e w1 ⟨rfl,m1⟩;obtain⟨ai,ac,c0⟩:=HC.out _ m1);go_ret;exact⟨rfl,m1⟩
theorem KM{cs:Array Value}{ty:TypeId}{v':Value}{name:List UInt8}{w2:World}{o:Obj}(h:NS S X i w cs ty sv ns r)(m1:eN w w1)(hg:(w1.alloc o).grownBy w2 sv.ownBlock)(ho:w2.ownsRow 0 9 1 v' (ns.length+1) (jG ns++[eZ name]))(hat:v'.ownBlock=sv.ownBlock\/v'.ownBlock=some (w1.alloc o).heap.size):
  ∃cs' Mn,NS (Grow S w ((w2.setCell ⟨X,i,none⟩ v').setCell ⟨X,i+1,none⟩ (.bool true))) X i ((w2.setCell ⟨X,i,none⟩ v').setCell ⟨X,i+1,none⟩ (.bool true)) cs' ty Mn (ns++[name]) true/\IE i cs cs'/\Frame (fun k=>k=X\/S k) w ((w2.setCell ⟨X,i,none⟩ v').setCell ⟨X,i+1,none⟩ (.bool true)):=by
 have hM:=m1.alloc o;have rX:=eO h.blk;have Va:sv.ownBlock≠some X:=fun e=>h.nX (h.own X e);have Dh:w2.heap[X]?=some (.cells cs ty (0,0)):=(hg.block X (ak rX hM.size) (fun e=>Va e.symm)).trans ((hM.keep X rX).trans h.blk);have MZ:v'.ownBlock≠some X:=by
  rcases hat with e|e<;>rw[e]
  ·exact Va
  ·intro x;cases x;exact absurd rX (by have:=hM.size;omega)
 have TR:=eV (i:=i+1) (eV (i:=i) Dh v') (.bool true);have x_:i<cs.size:=(Array.getElem?_eq_some_iff.1 h.c0).1;have EZ:i+1<cs.size:=(Array.getElem?_eq_some_iff.1 h.c1).1;have hz:w.heap.size<=w2.heap.size:=ar hM.size hg.size;have keep:∀b,b≠X->((w2.setCell ⟨X,i,none⟩ v').setCell ⟨X,i+1,none⟩ (.bool true)).heap[b]?=w2.heap[b]?:=fun b hb=>by rw[af _ _ _ _ hb,af _ _ _ _ hb]
 have hs:((w2.setCell ⟨X,i,none⟩ v').setCell ⟨X,i+1,none⟩ (.bool true)).heap.size=w2.heap.size:=by simp[World.setCell]
 refine⟨_,v',⟨TR,?_,?_,?_,?_,?_,?_⟩,IE.acW _ _ _ _,hg.os.trans hM.os,hg.tape.trans hM.tape,hg.output.trans hM.output,by rw[hs];exact hz,?_⟩
 ·rw[bC,if_neg (by omega),bC,if_pos rfl,if_pos x_]
 ·rw[bC,if_pos rfl,if_pos (by simpa using EZ)]
 ·have e:jG (ns++[name])=jG ns++[eZ name]:=by simp[jG]
  rw[e,ae];exact eI ho fun b e=>keep b (fun x=>MZ (by rw[e,x]))
 ·intro k e;rcases hat with e2|e2
  ·rw[e2]at e;exact Or.inl (h.own k e)
  ·rw[e2]at e;cases e;refine Or.inr ⟨hM.size,?_⟩;rw[hs];have h1:=eU ho e2;exact h1
 ·rintro(e|e)
  ·exact h.nX e
  ·omega
 ·exact i_ h.lt (by rw[hs];exact hz)
 ·intro k hk hf;rw[keep k (fun e=>hf (Or.inl e)),hg.block k (ak hk hM.size) (fun e=>hf (Or.inr (h.own k e.symm)))];exact hM.keep k hk
theorem Hn(h:NS S X i w cs ty sv ns r)(hr:ns=[]->r=false)(hn:ns.length<30)(name:List UInt8):Z4 91 #[.pointer (some ⟨X,i,none⟩),.string ⟨name.toArray⟩] w fun e w'=>e=.returned (.int .i64 0)/\∃cs' Mn,NS (Grow S w w') X i w' cs' ty Mn (ns++[name]) true/\IE i cs cs'/\Frame (fun k=>k=X\/S k) w w':=by
 have hw:Z4 29 #[.pointer (some ⟨X,i,none⟩)] w fun e w'=>e=.returned (.bool false)/\eN w w':=by
  have:=qx h;cases ns with
  |nil=>rw[hr rfl]at this;simpa using this
  |cons a l=>simpa using this
 have hk:∀W,eN w W->NS S X i W cs ty sv ns r:=fun W hM=>h.keep hM;obtain⟨ai,ac,oF⟩:=eE h.row;subst oF;have hz1:((ns.length:Int)==30)=false:=by rw[aF];omega
 obtain⟨i0,hi,hz0,hzz,hz2⟩:=bk abG;have H:=a_ h;have HK:=a_ hk;clear h hk hr;have Va:(Value.slice ai ns.length ac).ownBlock≠some X:=fun e=>H.out.nX (H.out.own X e);go_enter func91,ntmps91;go_wp2_with(first
  |(go_at_call 29;refine hw.mono ?_;rintro e w1 ⟨rfl,m1⟩;have h1:=HK.out _ m1;have c0:=h1.cell0;have c1:=h1.cell1;have R1:=a_ h1.row;have B1:=a_ h1.blk;have hXl:=eO h1.blk;clear h1)
  |(at_builtin;refine bj _ rfl (.tmp 17) (.tmp 19) 25 rfl 0 9 i0 _ 1 16 underlying25 hi hz0 hzz hz2 rfl (by decide) (.slice ai ns.length ac) ns.length (jG ns) rfl (R1.out.alloc _) ⟨w1.heap.size,0,none⟩ 1 1 [eZ name] rfl rfl ?c1 ?c2 ?c3 ?c4 (ax _) ?_))
 case c1=>
  intro j u hj
  match j,hj with
  |0,hj=>simp at hj;subst hj;simp[Addr.add,eZ]
  |(j+1),hj=>simp at hj
 case c2=>intro u hu;simp at hu;subst hu;rfl
 case c3=>unfold maxLen;omega
 case c4=>omega
 intro v' w2 ho hg _ hat;obtain⟨uw,cap',rfl⟩:=eE ho;have hb1:w2.heap[X]?=some (.cells cs ty (0,0)):=(hg.block X (by simp;omega) (fun e=>Va e.symm)).trans ((ap _ _ _ hXl).trans B1.out);have x0:w2.cell? ⟨X,i,none⟩=some (.slice ai ns.length ac):=cell_of hb1 H.out.c0;have x1:∀v,(w2.setCell ⟨X,i,none⟩ v).cell? ⟨X,i+1,none⟩=some (.bool r):=fun v=>cell_of (eV hb1 v) (by rw[bC,if_neg (by omega)];exact H.out.c1);have f0:=eP (i:=i) hb1;have f1:∀v,(w2.setCell ⟨X,i,none⟩ v).frozen? ⟨X,i+1,none⟩=false:=fun v=>eP (i:=i+1) (eV hb1 v);have HO:=a_ ho;have HG:=a_ hg;have tY:=a_ hat;have M1:=a_ m1;clear ho hg hat hb1 m1 c0 c1;go_wp2;go_ret;exact⟨rfl,KM H.out M1.out HG.out HO.out (by simpa using tY.out)⟩
end
section
variable{S:Nat->Prop}{w w' w1:World}{sv:Value}{X i:Nat}{cs:Array Value}{ty:TypeId}{ns:List (List UInt8)}{r:Bool}
theorem OZ(h:NS S X i w cs ty sv [] r)(name:ByteArray):Z4 92 #[.pointer (some ⟨X,i,none⟩),.string name] w fun e w'=>e=.returned (.int .i64 6)/\eN w w':=by
 obtain⟨ai,ac,oF⟩:=eE h.row;subst oF;have c0:=h.cell0;clear h;go_enter func92,ntmps92;go_wp2;go_ret;exact⟨rfl,eN.refl w⟩
theorem NS.last{nm:List UInt8}{xs:List (List UInt8)}(h:NS S X i w cs ty sv (xs++[nm]) r):∃g ac,sv=Z9 g (xs.length+1) ac/\w.cell? ⟨g,xs.length,none⟩=some (eZ nm)/\xs.length+1<=ac/\ac<=maxLen/\S g:=by
 have ho:=h.row;rw[ae]at ho;rcases ho.2 with⟨_,e⟩|⟨g,cap,cur,e1,h0,hg,h1,h2,h3,h4⟩
 ·simp at e
 ·refine⟨g,cap,e1,cell_of hg ?_,by simpa using h1,h2,h.own g (by rw[e1];rfl)⟩;have h5:(jG (xs++[nm]))[xs.length]?=some (eZ nm):=by simp[jG]
  rw[<-h4,bT]at h5;split at h5
  ·simpa using h5
  ·cases h5
theorem CI{e:TypeId}{s g n m cap:Nat}{xs:List Value}(h:w.ownsRow 0 e s (Z9 g n cap) n xs)(hm:m<=n):w.ownsRow 0 e s (Z9 g m cap) m (xs.take (m*s)):=by
 have hms:m*s<=n*s:=Nat.mul_le_mul_right s hm;refine⟨by rw[bP,h.1];omega,?_⟩;rcases h.2 with⟨e1,_⟩|⟨g',cap',cur,e1,h0,hg,h1,h2,h3,h4⟩
 ·cases e1
 ·cases e1;refine Or.inr ⟨g,cap,cur,rfl,h0,hg,by omega,h2,h3,?_⟩;rw[<-h4,eh,Nat.min_eq_left hms]
theorem TS{nm:List UInt8}{xs:List (List UInt8)}(h:NS S X i w cs ty sv (xs++[nm]) r)(hx:xs.length<=30)(name:List UInt8)(hne:nm≠name):Z4 92 #[.pointer (some ⟨X,i,none⟩),.string ⟨name.toArray⟩] w fun e w'=>e=.returned (.int .i64 6)/\eN w w':=by
 obtain⟨g,ac,oF,k0,hac,_⟩:=h.last;unfold eZ at k0;subst oF;have c0:=h.cell0;generalize xs.length=n at*
 have hwr:IntKind.i64.wrap (((n+1:Nat):Int)-1)=(n:Int):=by rw[aD];omega
 have hlt:decide ((n:Int)<0)=false:=by simp
 have uO:(n:Int)<((n+1:Nat):Int):=by omega
 have qC:(nm==name)=false:=by simpa using hne
 clear h hne;go_enter func92,ntmps92;go_wp2;go_ret;exact⟨rfl,eN.refl w⟩
theorem yq{nm:List UInt8}{xs:List (List UInt8)}{g ac:Nat}(h:NS S X i w cs ty (Z9 g (xs.length+1) ac) (xs++[nm]) r)(m1:eN w w1):
  ∃cs' Mn,NS (Grow S w (w1.setCell ⟨X,i,none⟩ (Z9 g xs.length ac))) X i (w1.setCell ⟨X,i,none⟩ (Z9 g xs.length ac)) cs' ty Mn xs r/\IE i cs cs'/\Frame (fun k=>k=X\/S k) w (w1.setCell ⟨X,i,none⟩ (Z9 g xs.length ac)):=by
 have rX:=eO h.blk;have hgS:S g:=h.own g rfl;have hgX:g≠X:=fun e=>h.nX (e▸hgS);have h1:=h.keep m1;have keep:∀b,b≠X->(w1.setCell ⟨X,i,none⟩ (Z9 g xs.length ac)).heap[b]?=w1.heap[b]?:=fun b hb=>af _ _ _ _ hb;have hs:(w1.setCell ⟨X,i,none⟩ (Z9 g xs.length ac)).heap.size=w1.heap.size:=by simp[World.setCell]
 have x_:i<cs.size:=(Array.getElem?_eq_some_iff.1 h.c0).1;refine⟨_,Z9 g xs.length ac,⟨eV (i:=i) h1.blk _,?_,?_,?_,?_,?_,?_⟩,IE.set _ _ _,m1.os,m1.tape,m1.output,by rw[hs];exact m1.size,?_⟩
 ·rw[bC,if_pos rfl,if_pos x_]
 ·rw[bC,if_neg (by omega)];exact h.c1
 ·have hr:=h1.row;rw[ae]at hr;have h2:=CI (m:=xs.length) hr (by simp);have e:(jG (xs++[nm])).take (xs.length*1)=jG xs:=by simp[jG,dy]
  rw[e]at h2;exact eI h2 fun b e=>keep b (fun x=>by cases e;exact hgX x)
 ·intro k e;cases e;exact Or.inl hgS
 ·rintro(e|e)
  ·exact h.nX e
  ·omega
 ·exact i_ h.lt (by rw[hs];exact m1.size)
 ·intro k hk hf;rw[keep k (fun e=>hf (Or.inl e))];exact m1.keep k hk
theorem O0{nm:List UInt8}{xs:List (List UInt8)}(h:NS S X i w cs ty sv (xs++[nm]) r)(hx:xs.length<=30):Z4 92 #[.pointer (some ⟨X,i,none⟩),.string ⟨nm.toArray⟩] w fun e w'=>e=.returned (.int .i64 0)/\∃cs' Mn,NS (Grow S w w') X i w' cs' ty Mn xs r/\IE i cs cs'/\Frame (fun k=>k=X\/S k) w w':=by
 obtain⟨g,ac,oF,k0,hac,hmx,_⟩:=h.last;unfold eZ at k0;subst oF;have c0:=h.cell0;have f0:=eP (i:=i) h.blk;have HE:=a_ (yq h (eN.refl w));generalize xs.length=n at*
 have hwr:IntKind.i64.wrap (((n+1:Nat):Int)-1)=(n:Int):=by rw[aD];omega
 have hlt:decide ((n:Int)<0)=false:=by simp
 have uO:(n:Int)<((n+1:Nat):Int):=by omega
 have qC:(nm==nm)=true:=by simp
 have Jo:(n:Int)<=(ac:Int):=by omega
 have adj:n<=ac:=by omega
 clear h;go_enter func92,ntmps92;go_wp2;go_ret;exact⟨rfl,HE.out⟩
theorem qP{α:Type}(p:α->Bool):∀l:List α,(l.dropWhile p).dropWhile p=l.dropWhile p
 |[]=>rfl
 |x::l=>by
  by_cases h:p x=true
  ·simp only[dE,h,if_true];exact qP p l
  ·simp[dE,h]
theorem kC{α:Type}(p:α->Bool):∀l:List α,l.dropWhile p=[]↔l.all p=true
 |[]=>by simp
 |x::l=>by
  by_cases h:p x=true
  ·simp only[dE,h,if_true,List.all_cons,cN];exact kC p l
  ·simp[dE,h]
theorem O1(l:List UInt8):Lib.trimS l [9,10,13,32]=[]↔gG l=true:=by
 have hp:∀c:UInt8,([9,10,13,32]:List UInt8).contains c=jw c.toNat:=by
  intro c;rw[bL];simp only[List.contains_cons,List.contains_nil,bw,bA,aA,cK,jw,<-UInt8.toNat_inj];have e1:(9:UInt8).toNat=9:=rfl;have e2:(10:UInt8).toNat=10:=rfl;have e3:(13:UInt8).toNat=13:=rfl;have e4:(32:UInt8).toNat=32:=rfl;omega
 have e:gG l=l.all (fun c=>([9,10,13,32]:List UInt8).contains c):=by
  unfold gG;congr 1;funext c;exact(hp c).symm
 rw[e];unfold Lib.trimS Lib.trimLeftS Lib.trimRightS;rw[kC,List.all_reverse];constructor
 ·intro h;have h1:=(kC _ _).2 h;rw[qP,kC,List.all_reverse]at h1;exact h1
 ·intro h;have h1:=(kC (fun c=>([9,10,13,32]:List UInt8).contains c) l.reverse).2 (by rw[List.all_reverse];exact h);rw[h1];rfl
theorem kD{W:World}(b:Z5 w W):eN w W:=⟨b.os,b.tape,b.output,b.size,fun k hk=>b.block k hk⟩
theorem eN.trans{a b c:World}(h:eN a b)(k:eN b c):eN a c:=⟨k.os.trans h.os,k.tape.trans h.tape,k.output.trans h.output,ar h.size k.size,fun i hi=>(k.keep i (ak hi h.size)).trans (h.keep i hi)⟩
theorem O2(h:NS S X i w cs ty sv ns r)(hx:ns.length<=30)(t:List UInt8)(hz:t.length<=9223372036854775807):Z4 93 #[.pointer (some ⟨X,i,none⟩),.string ⟨t.toArray⟩] w fun e w'=>e=.returned (.int .i64 (if ns=[]/\gG t=false then 7 else 0))/\eN w w':=by
 obtain⟨ai,ac,oF⟩:=eE h.row;subst oF;have c0:=h.cell0;have htr:∀W,Z4 131 #[.string ⟨t.toArray⟩,.string ⟨#[9,10,13,32]⟩] W (Z7 (.string ⟨(Lib.trimS t [9,10,13,32]).toArray⟩) W):=fun W=>by
  have:=strings_Trim_blanks ⟨t.toArray⟩ W (by simpa [ByteArray.size]using hz);simpa using this
 have hn:=O1 t;generalize Lib.trimS t [9,10,13,32]=R at htr hn;have HT:=a_ htr;clear h htr;cases ns with
 |cons a l=>
  rw[if_neg (fun e=>by cases e.1)];have hz1:(((a::l).length:Int)==0)=false:=by rw[aF];simp only[ag];omega
  generalize (a::l).length=n at*
  clear hn;go_enter func93,ntmps93;go_wp2;go_ret;exact⟨rfl,eN.refl w⟩
 |nil=>
  by_cases hb:gG t=true
  ·rw[if_neg (fun e=>by rw[hb]at e;cases e.2)];have hR:=hn.2 hb;subst hR;clear hn hb;go_enter func93,ntmps93;go_wp2_with(go_at_call 131;refine(HT.out _).mono ?_;rintro e w2 ⟨rfl,b2⟩;have B2:=a_ b2;clear b2);go_ret;exact⟨rfl,kD B2.out⟩
  ·rw[if_pos ⟨rfl,by simpa using hb⟩];have hR:(R==[])=false:=by
    have:R≠[]:=fun e=>hb (hn.1 e);cases R with
    |nil=>exact absurd rfl this
    |cons a l=>rfl
   clear hn hb;go_enter func93,ntmps93;go_wp2_with(go_at_call 131;refine(HT.out _).mono ?_;rintro e w2 ⟨rfl,b2⟩;have B2:=a_ b2;clear b2);go_ret;exact⟨rfl,kD B2.out⟩
end
section
variable{S:Nat->Prop}{w w' w1:World}{sv:Value}{X i:Nat}{cs:Array Value}{ty:TypeId}{ns:List (List UInt8)}{r:Bool}
structure pX where
 names:List (List UInt8)
 gC:Bool
def pX.take(n:pX)(t:Tok):Int×pX:=
 if t.kind=1 then
  if n.gC=true/\n.names=[]then(7,n)
  else if 30<=n.names.length then(8,n)
  else(0,⟨n.names++[t.name],true⟩)
 else if t.kind=2 then
  if n.names.getLast?=some t.name then(0,⟨n.names.dropLast,n.gC⟩)else(6,n)
 else if n.names=[]/\gG t.text=false then(7,n)else(0,n)
def o7(S:Nat->Prop)(X i:Nat)(w:World)(cs:Array Value)(ty:TypeId)(x:Int×pX)(e:Ending)(w':World):Prop:=
 e=.returned (.int .i64 x.1)/\∃cs' Mn,NS (Grow S w w') X i w' cs' ty Mn x.2.names x.2.gC/\IE i cs cs'/\Frame (fun k=>k=X\/S k) w w'
theorem oh{n:pX}{x:Int}(h:NS S X i w cs ty sv n.names n.gC)(hM:eN w w'):o7 S X i w cs ty (x,n) (.returned (.int .i64 x)) w':=by
 have h1:=h.keep hM;exact⟨rfl,cs,sv,⟨h1.blk,h1.c0,h1.c1,h1.row,fun k e=>Or.inl (h1.own k e),fun e=>by
  rcases e with e|e
  ·exact h.nX e
  ·have:=eO h.blk;omega,i_ h.lt hM.size⟩,IE.refl _ _,hM.frame⟩
theorem EE{n:pX}(h:NS S X i w cs ty sv n.names n.gC)(hn:n.names.length<=30)(hr:n.names≠[]->n.gC=true)(t:Tok)(hk:t.kind=1):Z4 91 #[.pointer (some ⟨X,i,none⟩),.string ⟨t.name.toArray⟩] w (o7 S X i w cs ty (n.take t)):=by
 unfold pX.take;rw[if_pos hk];by_cases h1:n.gC=true/\n.names=[]
 ·rw[if_pos h1];have h2:=h;rw[h1.1,h1.2]at h2;refine(OX h2 _).mono ?_;rintro e w' ⟨rfl,m⟩;exact oh h m
 ·rw[if_neg h1];by_cases h3:30<=n.names.length
  ·rw[if_pos h3];refine(OY h (by omega) _).mono ?_;rintro e w' ⟨rfl,m⟩;exact oh h m
  ·rw[if_neg h3];refine(Hn h (fun e=>by cases hrr:n.gC with|false=>rfl|true=>exact absurd ⟨hrr,e⟩ h1) (by omega) t.name).mono ?_;rintro e w' ⟨rfl,hx⟩;exact⟨rfl,hx⟩
theorem EF{n:pX}(h:NS S X i w cs ty sv n.names n.gC)(hn:n.names.length<=30)(t:Tok)(h1:t.kind≠1)(hk:t.kind=2):Z4 92 #[.pointer (some ⟨X,i,none⟩),.string ⟨t.name.toArray⟩] w (o7 S X i w cs ty (n.take t)):=by
 unfold pX.take;rw[if_neg h1,if_pos hk];rcases b9 n.names with e0|⟨xs,nm,e0⟩
 ·rw[e0,if_neg (by simp)];have h2:=h;rw[e0]at h2;refine(OZ h2 _).mono ?_;rintro e w' ⟨rfl,m⟩;exact oh h m
 ·have h2:=h;rw[e0]at h2 hn;rw[cd]at e0 h2 hn;simp only[ae,ag,aq]at hn;by_cases qC:nm=t.name
  ·subst qC;rw[e0,if_pos (by simp)];refine(O0 h2 (by omega)).mono ?_;rintro e w' ⟨rfl,hx⟩;rw[List.dropLast_concat];exact⟨rfl,hx⟩
  ·rw[e0,if_neg (by simpa using qC)];refine(TS h2 (by omega) t.name qC).mono ?_;rintro e w' ⟨rfl,m⟩;exact oh h m
theorem KN{n:pX}(h:NS S X i w cs ty sv n.names n.gC)(hn:n.names.length<=30)(t:Tok)(hz:t.text.length<=9223372036854775807)(h1:t.kind≠1)(h2:t.kind≠2):Z4 93 #[.pointer (some ⟨X,i,none⟩),.string ⟨t.text.toArray⟩] w (o7 S X i w cs ty (n.take t)):=by
 unfold pX.take;rw[if_neg h1,if_neg h2];refine(O2 h hn t.text hz).mono ?_;rintro e w' ⟨rfl,m⟩;split
 ·exact oh h m
 ·exact oh h m
theorem O3{n:pX}(h:NS S X i w cs ty sv n.names n.gC)(hn:n.names.length<=30)(hr:n.names≠[]->n.gC=true)(t:Tok)(ai:Option Addr)(an ac:Nat)(hz:t.text.length<=9223372036854775807):
  Z4 53 #[.pointer (some ⟨X,i,none⟩),nC t (.slice ai an ac)] w (o7 S X i w cs ty (n.take t)):=by
 have hM:=fun o=>(eN.refl w).alloc o;have k1:=fun hk o=>EE (h.keep (hM o)) hn hr t hk;have k2:=fun h1 hk o=>EF (h.keep (hM o)) hn t h1 hk;have k3:=fun h1 hk o=>KN (h.keep (hM o)) hn t hz h1 hk;have lift:∀o e w',o7 S X i (w.alloc o) cs ty (n.take t) e w'->o7 S X i w cs ty (n.take t) e w':=by
  rintro o e w' ⟨rfl,cs',Mn,q1,q2,q3⟩;have hs:=(hM o).size;refine⟨rfl,cs',Mn,⟨q1.blk,q1.c0,q1.c1,q1.row,fun k e=>?_,fun e=>?_,i_ h.lt (ar hs q3.size)⟩,q2,(hM o).frame.trans' q3⟩
  ·rcases q1.own k e with a|a
   ·exact Or.inl a
   ·exact Or.inr ⟨by omega,a.2⟩
  ·rcases e with e|e
   ·exact h.nX e
   ·have:=eO h.blk;omega
 unfold nC eZ;have LI:=a_ lift;clear h hn hr hM lift;generalize n.take t=R at*
 by_cases h1:t.kind=1
 ·have HK:=a_ (k1 h1);rw[h1]at ⊢;clear k1 k2 k3 h1;go_enter func53,ntmps53;go_wp2_with(go_at_call 91;refine(HK.out _).mono ?_;rintro e w1 hx;have hy:=LI.out _ _ _ hx;obtain⟨rfl,hz⟩:=hy;have HZ:=a_ hz;clear hx hz);go_ret;exact⟨rfl,HZ.out⟩
 ·by_cases h2:t.kind=2
  ·have HK:=a_ (k2 h1 h2);rw[h2]at ⊢;clear k1 k2 k3 h1 h2;go_enter func53,ntmps53;go_wp2_with(go_at_call 92;refine(HK.out _).mono ?_;rintro e w1 hx;have hy:=LI.out _ _ _ hx;obtain⟨rfl,hz⟩:=hy;have HZ:=a_ hz;clear hx hz);go_ret;exact⟨rfl,HZ.out⟩
  ·have HK:=a_ (k3 h1 h2);have e1:(t.kind==1)=false:=by simpa using h1
   have e2:(t.kind==2)=false:=by simpa using h2
   clear k1 k2 k3 h1 h2;go_enter func53,ntmps53;go_wp2_with(go_at_call 93;refine(HK.out _).mono ?_;rintro e w1 hx;have hy:=LI.out _ _ _ hx;obtain⟨rfl,hz⟩:=hy;have HZ:=a_ hz;clear hx hz);go_ret;exact⟨rfl,HZ.out⟩
end
end K
end Go.Proofs.YtjecakcpcnmieaaGreatDoor
