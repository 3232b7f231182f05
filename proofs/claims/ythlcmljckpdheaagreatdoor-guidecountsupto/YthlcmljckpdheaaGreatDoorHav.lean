import Derived.Test.YthlcmljckpdheaaGreatDoorHA
import Derived.Deep.RegionHeld3
import Derived.Deep.RegionLaw
import Derived.Shelf.Strings.Trim
import Derived.Shelf.Strings.SlTrimAscii
import Derived.Test.YthlcmljckpdheaaGreatDoorProg
import Derived.Test.YthlcmljckpdheaaGreatDoorHas
import Derived.Test.YthlcmljckpdheaaGreatDoorHak
set_option linter.unusedVariables false
set_option linter.unusedSimpArgs false
set_option maxHeartbeats 32000000
set_option maxRecDepth 100000
namespace Go.Proofs.YthlcmljckpdheaaGreatDoor
namespace K
open Go.RowKit Go.Maps Go.Lib Tryz
section
variable{A K K':Nat->Prop}{w w' w1:World}{nv:Value}{l:List Nd}{av kv:Nat->Value}{tN tA:TypeId}
def fL(l:List Nat):List Value:=l.map fun(k:Nat)=>Value.int .i64 (k:Int)
def iA(n:Nd)(a k:Value):List Value:=[e8 n.name,a,e8 n.text,k,.int .i64 n.up]
def fH(av kv:Nat->Value):Nat->List Nd->List Value
 |_,[]=>[]
 |i,n::l=>iA n (av i) (kv i)++fH av kv (i+1) l
def upd(f:Nat->Value)(k:Nat)(v:Value):Nat->Value:=fun i=>if i=k then v else f i
theorem upd_same(f:Nat->Value)(k:Nat)(v:Value):upd f k v k=v:=by simp[upd]
theorem fM(f:Nat->Value){k i:Nat}(v:Value)(h:i≠k):upd f k v i=f i:=by simp[upd,h]
theorem zn(av kv:Nat->Value):∀(l:List Nd) (i0 i:Nat) (n:Nd) (c:Nat) (u:Value),l[i]?=some n->(iA n (av (i0+i)) (kv (i0+i)))[c]?=some u->(fH av kv i0 l)[i*5+c]?=some u
 |[],_,_,_,_,_,h,_=>by simp at h
 |m::l,i0,0,n,c,u,h,hc=>by
  obtain rfl:m=n:=by simpa using h
  have hl:c<(iA m (av i0) (kv i0)).length:=by
   have:=(List.getElem?_eq_some_iff.1 hc).1;simpa using this
  simp only[fH,Nat.zero_mul,ax];rw[aL hl];simpa using hc
 |m::l,i0,i+1,n,c,u,h,hc=>by
  have:=zn av kv l (i0+1) i n c u (by simpa using h) (by rw[show i0+1+i=i0+(i+1) by omega];exact hc);simp only[fH];have hl:(iA m (av i0) (kv i0)).length=5:=rfl;rw[aP (by rw[hl];omega),hl,show (i+1)*5+c-5=i*5+c by omega];exact this
theorem ru(av kv:Nat->Value)(l':List Nd):∀(l:List Nd) (i:Nat),fH av kv i (l++l')=fH av kv i l++fH av kv (i+l.length) l'
 |[],i=>by simp[fH]
 |n::l,i=>by
  simp only[bI,fH,bt,ru av kv l' l (i+1),au];rw[show i+1+l.length=i+(l.length+1) by omega]
theorem o8{av kv jS j9:Nat->Value}:∀(l:List Nd) (i:Nat),(∀j,i<=j->j<i+l.length->av j=jS j/\kv j=j9 j)->fH av kv i l=fH jS j9 i l
 |[],i,_=>rfl
 |n::l,i,h=>by
  have h0:=h i (aj _) (by simp);simp only[fH,h0.1,h0.2];rw[o8 l (i+1) fun j a b=>h j (by omega) (by simp only[au];omega)]
theorem wS(av:Nat->Value)(v:Value)(j:Nat):∀(l:List Nd) (kv:Nat->Value) (i k:Nat),k<l.length->(fH av kv i l).set (k*5+3) v=fH av (upd kv (i+k) v) i (fU l k j)
 |[],_,_,k,h=>by simp at h
 |n::l,kv,i,0,_=>by
  simp only[fU,fH,bN,upd_same,Nat.zero_mul,ax];rw[o8 (av:=av) (kv:=kv) (jS:=av) (j9:=upd kv i v) l (i+1) fun j a b=>⟨rfl,(fM _ _ (by omega)).symm⟩];rfl
 |n::l,kv,i,k+1,h=>by
  have ih:=wS av v j l kv (i+1) k (by simpa using h);simp only[fU,fH];rw[fM kv v (show i≠i+(k+1) by omega),show i+(k+1)=i+1+k by omega,<-ih];have hl:(iA n (av i) (kv i)).length=5:=rfl;rw[List.set_append,if_neg (by rw[hl];omega),hl,show (k+1)*5+3-5=k*5+3 by omega]
structure ic(tN tA:TypeId)(A K:Nat->Prop)(w:World)(nv:Value)(l:List Nd)(av kv:Nat->Value):Prop where
 row:w.ownsRow 0 tN 5 nv l.length (fH av kv 0 l)
 ou:∀k,nv.ownBlock=some k->K k
 attr:∀i n,l[i]?=some n->w.ownsRow 0 tA 2 (av i) n.d_.length (eQ n.d_)
 vd:∀i k,i<l.length->(av i).ownBlock=some k->A k
 kid:∀i n,l[i]?=some n->w.ownsRow 0 3 1 (kv i) n.kids.length (fL n.kids)
 nt:∀i k,i<l.length->(kv i).ownBlock=some k->K k/\nv.ownBlock≠some k
 apart:∀i j k,i<l.length->j<l.length->i≠j->(kv i).ownBlock=some k->(kv j).ownBlock≠some k
 UW:∀i n,l[i]?=some n->n.kids=[]->kv i=fK
theorem ic.zero:ic tN tA A K w fK [] (fun _=>fK) (fun _=>fK):=
 ⟨⟨rfl,Or.inl ⟨rfl,rfl⟩⟩,(fun k e=>by cases e),(fun i n h=>by simp at h),(fun i k h=>by simp at h),(fun i n h=>by simp at h),(fun i k h=>by simp at h),(fun i j k h=>by simp at h),(fun i n h=>by simp at h)⟩
theorem ic.frame(h:ic tN tA A K w nv l av kv)(hA:∀k,k<w.heap.size->A k->w'.heap[k]?=w.heap[k]?)(hK:∀k,k<w.heap.size->K k->w'.heap[k]?=w.heap[k]?)(hK':∀k,k<w'.heap.size->K k->K' k):ic tN tA A K' w' nv l av kv:=by
 have lt:∀{e s v n xs k},w.ownsRow 0 e s v n xs->v.ownBlock=some k->k<w.heap.size:=fun h e=>eW h e;have row:w'.ownsRow 0 tN 5 nv l.length (fH av kv 0 l):=eH h.row fun k e=>hK k (lt h.row e) (h.ou k e);have kid:∀i n,l[i]?=some n->w'.ownsRow 0 3 1 (kv i) n.kids.length (fL n.kids):=fun i n hi=>eH (h.kid i n hi) fun k e=>hK k (lt (h.kid i n hi) e) (h.nt i k (List.getElem?_eq_some_iff.1 hi).1 e).1;refine⟨row,fun k e=>hK' k (eW row e) (h.ou k e),fun i n hi=>eH (h.attr i n hi) fun k e=>hA k (lt (h.attr i n hi) e) (h.vd i k (List.getElem?_eq_some_iff.1 hi).1 e),h.vd,
  kid,fun i k hi e=>⟨hK' k (eW (kid i _ (ap hi)) e) (h.nt i k hi e).1,(h.nt i k hi e).2⟩,h.apart,h.UW⟩
theorem QU{e:TypeId}{s g n cap i:Nat}{xs:List Value}(h:w.ownsRow 0 e s (Z9 g n cap) n xs)(hi:i<n*s)(u:Value):(w.setCell ⟨g,i,none⟩ u).ownsRow 0 e s (Z9 g n cap) n (xs.set i u):=by
 refine⟨by rw[List.length_set];exact h.1,?_⟩;rcases h.2 with⟨e1,_⟩|⟨g',cap',cur,e1,h0,hg,h1,h2,h3,h4⟩
 ·cases e1
 ·cases e1;refine Or.inr ⟨g,cap,cur.setIfInBounds i u,rfl,h0,fe hg u,h1,h2,by simpa using h3,?_⟩;rw[Array.toList_setIfInBounds,List.take_set,h4]
theorem ic.cells(h:ic tN tA A K w nv l av kv)(k:Nat)(n:Nd)(hk:l[k]?=some n):∃g cap,nv=Z9 g l.length cap/\l.length<=maxLen/\K g/\
  w.cell? ⟨g,k*5,none⟩=some (e8 n.name)/\w.cell? ⟨g,k*5+1,none⟩=some (av k)/\w.cell? ⟨g,k*5+2,none⟩=some (e8 n.text)/\w.cell? ⟨g,k*5+3,none⟩=some (kv k)/\w.cell? ⟨g,k*5+4,none⟩=some (.int .i64 n.up):=by
 have hlt:=(List.getElem?_eq_some_iff.1 hk).1;rcases h.row.2 with⟨_,e⟩|⟨g,cap,cur,e1,h0,hg,h1,h2,h3,h4⟩
 ·omega
 ·have hc:∀c u,(iA n (av k) (kv k))[c]?=some u->w.cell? ⟨g,k*5+c,none⟩=some u:=by
   intro c u hu;have h5:=zn av kv l 0 k n c u hk (by rw[ax];exact hu);refine cell_of hg ?_;rw[<-h4,bW]at h5;split at h5
   ·simpa using h5
   ·cases h5
  exact⟨g,cap,e1,by omega,h.ou g (by rw[e1];rfl),hc 0 _ rfl,hc 1 _ rfl,hc 2 _ rfl,hc 3 _ rfl,hc 4 _ rfl⟩
theorem ic.fU(h:ic tN tA A K w nv l av kv)(sq:∀k,A k->¬K k)(lt:∀k,K k->k<w.heap.size)(sH:∀k,A k->k<w.heap.size){g cap k j:Nat}{n:Nd}{v':Value}(hv:nv=Z9 g l.length cap)(hk:l[k]?=some n)
  (hg:w.grownBy w1 (kv k).ownBlock) (ho:w1.ownsRow 0 3 1 v' (n.kids.length+1) (fL n.kids++[.int .i64 j])) (hat:v'.ownBlock=(kv k).ownBlock\/v'.ownBlock=some w.heap.size):
  ic tN tA A (fun i=>K i\/i=w.heap.size) (w1.setCell ⟨g,k*5+3,none⟩ v') nv (fU l k j) av (upd kv k v'):=by
 have hlt:=(List.getElem?_eq_some_iff.1 hk).1;have I4:K g:=h.ou g (by rw[hv];rfl);have hne:(kv k).ownBlock≠some g:=fun e=>(h.nt k g hlt e).2 (by rw[hv];rfl);have abz:v'.ownBlock≠some g:=by
  rcases hat with e|e<;>rw[e]
  ·exact hne
  ·intro x;cases x;exact absurd (lt _ I4) (by omega)
 --blocks that are kept
 have keep:∀b,b<w.heap.size->b≠g->(kv k).ownBlock≠some b->(w1.setCell ⟨g,k*5+3,none⟩ v').heap[b]?=w.heap[b]?:=fun b hb h1 h2=>by rw[ae _ _ _ _ h1];exact hg.block b hb (fun e=>h2 e.symm)
 have VR:w1.ownsRow 0 tN 5 nv l.length (fH av kv 0 l):=eH h.row fun b e=>hg.block b (eW h.row e) (fun x=>by rw[hv]at e;cases e;exact hne x.symm);have NQ:∀i m,(Proofs.YthlcmljckpdheaaGreatDoor.K.fU l k j)[i]?=some m->(i=k/\m=n.kid j)\/(i≠k/\l[i]?=some m):=by
  intro i m hi;rw[nG]at hi;by_cases e:i=k
  ·subst e;rw[if_pos rfl,hk]at hi;simp only[cy,aX]at hi;exact Or.inl ⟨rfl,hi.symm⟩
  ·rw[if_neg e]at hi;exact Or.inr ⟨e,hi⟩
 refine⟨?_,fun b e=>Or.inl (h.ou b e),?_,fun i b hi e=>h.vd i b (by rwa[gi]at hi) e,?_,?_,?_,?_⟩
 ·rw[gi];have:=wS av v' j l kv 0 k hlt;rw[ax]at this;rw[<-this,hv];rw[hv]at VR;exact QU VR (by omega) v'
 ·intro i m hi;have key:∀m',l[i]?=some m'->m'.d_=m.d_->(w1.setCell ⟨g,k*5+3,none⟩ v').ownsRow 0 tA 2 (av i) m.d_.length (eQ m.d_):=by
   intro m' h' ea;have Ht:=h.attr i m' h';rw[ea]at Ht;refine eH Ht fun b e=>keep b (eW Ht e) ?_ ?_
   ·rintro rfl;exact sq _ (h.vd i _ (List.getElem?_eq_some_iff.1 h').1 e) I4
   ·intro e2;exact sq _ (h.vd i _ (List.getElem?_eq_some_iff.1 h').1 e) (h.nt k b hlt e2).1
  rcases NQ i m hi with⟨rfl,rfl⟩|⟨_,h'⟩
  ·exact key n hk rfl
  ·exact key m h' rfl
 ·intro i m hi;rcases NQ i m hi with⟨rfl,rfl⟩|⟨hik,h'⟩
  ·rw[upd_same];have e1:(n.kid j).kids=n.kids++[j]:=rfl;have e2:fL (n.kids++[j])=fL n.kids++[.int .i64 j]:=by simp[fL]
   rw[e1,e2,af];exact eH ho fun b e=>ae _ _ _ _ (fun x=>abz (by rw[e,x]))
  ·rw[fM _ _ hik];have qM:=(List.getElem?_eq_some_iff.1 h').1;refine eH (h.kid i m h') fun b e=>keep b (eW (h.kid i m h') e) (fun x=>(h.nt i b qM e).2 (by rw[hv,x];rfl)) (h.apart i k b qM hlt hik e)
 ·intro i b hi e;rw[gi]at hi;by_cases hik:i=k
  ·subst hik;rw[upd_same]at e;rcases hat with e2|e2
   ·rw[e2]at e;exact⟨Or.inl (h.nt i b hi e).1,(h.nt i b hi e).2⟩
   ·rw[e2]at e;cases e;refine⟨Or.inr rfl,fun x=>?_⟩;rw[hv]at x;have hx:g=w.heap.size:=by simpa [Value.ownBlock]using x
    have:=lt _ I4;omega
  ·rw[fM _ _ hik]at e;exact⟨Or.inl (h.nt i b hi e).1,(h.nt i b hi e).2⟩
 ·intro i i' b hi zH KE e;rw[gi]at hi zH;by_cases h1:i=k
  ·subst h1;rw[upd_same]at e;rw[fM _ _ (fun x=>KE x.symm)];rcases hat with e2|e2
   ·rw[e2]at e;exact h.apart i i' b hi zH KE e
   ·rw[e2]at e;cases e;intro x;exact absurd (lt _ (h.nt i' _ zH x).1) (by omega)
  ·rw[fM _ _ h1]at e;by_cases h2:i'=k
   ·subst h2;rw[upd_same];rcases hat with e2|e2
    ·rw[e2];exact h.apart i i' b hi zH KE e
    ·rw[e2];intro x;cases x;exact absurd (lt _ (h.nt i _ hi e).1) (by omega)
   ·rw[fM _ _ h2];exact h.apart i i' b hi zH KE e
 ·intro i m hi hm;rcases NQ i m hi with⟨rfl,rfl⟩|⟨hik,h'⟩
  ·simp[Nd.kid]at hm
  ·rw[fM _ _ hik];exact h.UW i m h' hm
theorem ic.push(h:ic tN tA A K w nv l av kv)(sq:∀k,A k->¬K k)(lt:∀k,K k->k<w.heap.size)(sH:∀k,A k->k<w.heap.size){n:Nd}{a v':Value}
  (ha:w.ownsRow 0 tA 2 a n.d_.length (eQ n.d_)) (nu:∀k,a.ownBlock=some k->A k) (hn:n.kids=[])
  (hg:w.grownBy w1 nv.ownBlock) (ho:w1.ownsRow 0 tN 5 v' (l.length+1) (fH av kv 0 l++iA n a fK)) (hat:v'.ownBlock=nv.ownBlock\/v'.ownBlock=some w.heap.size):
  ic tN tA A (fun i=>K i\/i=w.heap.size) w1 v' (l++[n]) (upd av l.length a) (upd kv l.length fK):=by
 have keep:∀b,b<w.heap.size->nv.ownBlock≠some b->w1.heap[b]?=w.heap[b]?:=fun b hb h2=>hg.block b hb (fun e=>h2 e.symm);have hvK:∀b,v'.ownBlock=some b->(K b\/b=w.heap.size):=fun b e=>by
  rcases hat with e2|e2
  ·rw[e2]at e;exact Or.inl (h.ou b e)
  ·rw[e2]at e;cases e;exact Or.inr rfl
 have hget:∀i m,(l++[n])[i]?=some m->(i<l.length/\l[i]?=some m)\/(i=l.length/\m=n):=by
  intro i m hi;by_cases h1:i<l.length
  ·rw[aL h1]at hi;exact Or.inl ⟨h1,hi⟩
  ·rw[aP (by omega)]at hi;have h2:=(List.getElem?_eq_some_iff.1 hi).1;simp only[au,aF]at h2;have h3:i-l.length=0:=by omega
   rw[h3]at hi;exact Or.inr ⟨by omega,by simpa using hi.symm⟩
 refine⟨?_,hvK,?_,?_,?_,?_,?_,?_⟩
 ·rw[af,ru];have e1:fH (upd av l.length a) (upd kv l.length fK) 0 l=fH av kv 0 l:=o8 l 0 fun j _ b=>⟨fM _ _ (by omega),fM _ _ (by omega)⟩
  have e2:fH (upd av l.length a) (upd kv l.length fK) (0+l.length) [n]=iA n a fK:=by simp only[fH,ax,upd_same,aM]
  rw[e1,e2];exact ho
 ·intro i m hi;rcases hget i m hi with⟨h1,h2⟩|⟨rfl,rfl⟩
  ·rw[fM _ _ (by omega)];exact eH (h.attr i m h2) fun b e=>keep b (eW (h.attr i m h2) e) fun x=>sq b (h.vd i b h1 e) (h.ou b x)
  ·rw[upd_same];exact eH ha fun b e=>keep b (eW ha e) fun x=>sq b (nu b e) (h.ou b x)
 ·intro i b hi e;by_cases h1:i=l.length
  ·subst h1;rw[upd_same]at e;exact nu b e
  ·rw[fM _ _ h1]at e;exact h.vd i b (by simp only[af,au,aF]at hi;omega) e
 ·intro i m hi;rcases hget i m hi with⟨h1,h2⟩|⟨rfl,rfl⟩
  ·rw[fM _ _ (by omega)];exact eH (h.kid i m h2) fun b e=>keep b (eW (h.kid i m h2) e) (h.nt i b h1 e).2
  ·rw[upd_same,hn];exact⟨rfl,Or.inl ⟨rfl,rfl⟩⟩
 ·intro i b hi e;by_cases h1:i=l.length
  ·subst h1;rw[upd_same]at e;cases e
  ·rw[fM _ _ h1]at e;have qM:i<l.length:=by simp only[af,au,aF]at hi;omega
   have hk:=h.nt i b qM e;refine⟨Or.inl hk.1,?_⟩;rcases hat with e2|e2
   ·rw[e2];exact hk.2
   ·rw[e2];intro x;cases x;exact absurd (lt _ hk.1) (by omega)
 ·intro i j b hi hj hij e;simp only[af,au,aF]at hi hj;by_cases h1:i=l.length
  ·subst h1;rw[upd_same]at e;cases e
  ·rw[fM _ _ h1]at e;by_cases h2:j=l.length
   ·subst h2;rw[upd_same];intro x;cases x
   ·rw[fM _ _ h2];exact h.apart i j b (by omega) (by omega) hij e
 ·intro i m hi hm;rcases hget i m hi with⟨h1,h2⟩|⟨rfl,rfl⟩
  ·rw[fM _ _ (by omega)];exact h.UW i m h2 hm
  ·rw[upd_same]
end
section
variable{A K K':Nat->Prop}{w w' w1:World}{nv:Value}{av kv:Nat->Value}{g:Gr}{X:Nat}{sv rv:Value}
structure jU(A K:Nat->Prop)(X:Nat)(w:World)(g:Gr)(nv:Value)(av kv:Nat->Value)(sv rv:Value):Prop where
 blk:w.heap[X]?=some (.cells #[sv,rv,nv,.int .i64 (je g.stack)] 65 (0,0))
 nodes:ic 44 326 A K w nv g.nodes av kv
 nA:¬A X
 nK:¬K X
 sq:∀k,A k->¬K k
 lt:∀k,K k->k<w.heap.size
 sH:∀k,A k->k<w.heap.size
theorem jU.cell(h:jU A K X w g nv av kv sv rv)(i:Nat){u:Value}(e:#[sv,rv,nv,.int .i64 (je g.stack)][i]?=some u):w.cell? ⟨X,i,none⟩=some u:=cell_of h.blk e
theorem QW:(prog.info? 44).map (fun i=>(i.zero,i.size,i.bytes))=some (some (.agg #[.string ⟨#[]⟩,.slice none 0 0,.string ⟨#[]⟩,.slice none 0 0,.int .i64 0]),5,88):=by kernel_rfl
theorem uv:(prog.info? 3).map (fun i=>(i.zero,i.size,i.bytes))=some (some (.int .i64 0),1,8):=by kernel_rfl
theorem xF(w:World)(n:Nd)(a k:Value)(t:TypeId):∀j u,(iA n a k)[j]?=some u->(w.alloc (.cells (iA n a k).toArray t)).cell? ((⟨w.heap.size,0,none⟩:Addr).add j)=some u:=by
 intro j u hu;rw[dv,ax,cell_of (bD w _) (v:=u)];rw[cd];exact hu
theorem Dl(n:Nd)(a k:Value)(ha:a.oneCell'=true)(hk:k.oneCell'=true):∀u∈iA n a k,u.oneCell'=true:=by
 intro u hu;simp only[iA,cM,cn,cS]at hu;rcases hu with rfl|rfl|rfl|rfl|rfl
 ·rfl
 ·exact ha
 ·rfl
 ·exact hk
 ·rfl
theorem zo{u0 w2:World}{K1:Nat->Prop}{l1:List Nd}{n:Nd}{a v':Value}{d:Value}(hX:u0.heap[X]?=some (.cells #[sv,rv,nv,d] 65 (0,0)))(hn:ic 44 326 A K1 u0 nv l1 av kv)(sq:∀k,A k->¬K1 k)(lt:∀k,K1 k->k<u0.heap.size)(sH:∀k,A k->k<u0.heap.size)(nA:¬A X)(nK:¬K1 X)
  (ha:u0.ownsRow 0 326 2 a n.d_.length (eQ n.d_)) (nu:∀k,a.ownBlock=some k->A k) (hk:n.kids=[]) (hg:u0.grownBy w2 nv.ownBlock) (ho:w2.ownsRow 0 44 5 v' (l1.length+1) (fH av kv 0 l1++iA n a fK)) (hat:v'.ownBlock=nv.ownBlock\/v'.ownBlock=some u0.heap.size):
  ic 44 326 A (fun i=>K1 i\/i=u0.heap.size) (w2.setCell ⟨X,2,none⟩ v') v' (l1++[n]) (upd av l1.length a) (upd kv l1.length fK)/\(w2.setCell ⟨X,2,none⟩ v').heap[X]?=some (.cells #[sv,rv,v',d] 65 (0,0))/\
  Frame (fun k=>k=X\/K1 k) u0 (w2.setCell ⟨X,2,none⟩ v'):=by
 have ry:X<u0.heap.size:=eO hX;have Ss:nv.ownBlock≠some X:=fun e=>nK (hn.ou X e);have SU:w2.heap[X]?=some (.cells #[sv,rv,nv,d] 65 (0,0)):=(hg.block X ry (fun e=>Ss e.symm)).trans hX;have hp:=hn.push sq lt sH ha nu hk hg ho hat;refine⟨hp.frame (fun k _ hA=>ae _ _ _ _ (fun e=>nA (by have e':k=X:=e;rw[<-e'];exact hA))) (fun k hk2 hK=>ae _ _ _ _ ?_) (fun k _ hK=>hK),?_,⟨hg.os,hg.tape,hg.output,?_,?_⟩⟩
 ·rintro rfl;rcases hK with e|e
  ·exact nK e
  ·omega
 ·rw[fe SU];rfl
 ·have:=hg.size;simpa [World.setCell]using this
 ·intro k hk2 hf;rw[ae _ _ _ _ (fun e=>hf (Or.inl e))];exact hg.block k hk2 (fun e=>hf (Or.inr (hn.ou k e.symm)))
theorem jU.next{g':Gr}{kq:Value}{jS j9:Nat->Value}{Kx:Nat->Prop}(h:jU A K X w g nv av kv sv rv)(fr:Frame (fun k=>k=X\/K k) w w')(hn:ic 44 326 A Kx w' kq g'.nodes jS j9)(hK:∀k,k<w'.heap.size->Kx k->Grow K w w' k)
  (hb:w'.heap[X]?=some (.cells #[sv,rv,kq,.int .i64 (je g'.stack)] 65 (0,0))):jU A (Grow K w w') X w' g' kq jS j9 sv rv:=by
 have ry:=eO h.blk;refine⟨hb,hn.frame (fun _ _ _=>rfl) (fun _ _ _=>rfl) hK,h.nA,?_,?_,iX h.lt fr.size,fun k hA=>ah (h.sH k hA) fr.size⟩
 ·rintro(e|e)
  ·exact h.nK e
  ·omega
 ·rintro k hA (e|e)
  ·exact h.sq k hA e
  ·have:=h.sH k hA;omega
theorem Frame.trans'{F:Nat->Prop}{a b c:World}(h:Frame F a b)(k:Frame F b c):Frame F a c:=
 ⟨k.os.trans h.os,k.tape.trans h.tape,k.output.trans h.output,aw h.size k.size,fun i hi hf=>(k.block i (ah hi h.size) hf).trans (h.block i hi hf)⟩
theorem Frame.QX{F:Nat->Prop}(w:World)(o:Obj):Frame F w (w.alloc o):=⟨rfl,rfl,rfl,by simp,fun k hk _=>ak _ _ _ hk⟩
theorem Frame.drew'{F:Nat->Prop}(w:World):Frame F w w.drew:=⟨rfl,rfl,rfl,aj _,fun _ _ _=>rfl⟩
theorem MP{n:Nd}{a v':Value}{o1 o2:Obj}{w2:World}(h:jU A K X w g nv av kv sv rv)(hs:g.stack=[])(ha:w.ownsRow 0 326 2 a n.d_.length (eQ n.d_))(nu:∀k,a.ownBlock=some k->A k)(hn:n.kids=[])
  (hg:((w.alloc o1).drew.alloc o2).grownBy w2 nv.ownBlock) (ho:w2.ownsRow 0 44 5 v' (g.nodes.length+1) (fH av kv 0 g.nodes++iA {n with up:= -1} a fK)) (hat:v'.ownBlock=nv.ownBlock\/v'.ownBlock=some ((w.alloc o1).drew.alloc o2).heap.size):
  ∃kq jS j9,jU A (Grow K w (w2.setCell ⟨X,2,none⟩ v')) X (w2.setCell ⟨X,2,none⟩ v') (g.put n) kq jS j9 sv rv/\Frame (fun k=>k=X\/K k) w (w2.setCell ⟨X,2,none⟩ v'):=by
 have f1:∀F:Nat->Prop,Frame F w ((w.alloc o1).drew.alloc o2):=fun F=>((Frame.QX _ _).trans' (Frame.drew' _)).trans' (Frame.QX _ _);have ry:=eO h.blk;have keep:∀k,k<w.heap.size->((w.alloc o1).drew.alloc o2).heap[k]?=w.heap[k]?:=fun k hk=>(f1 (fun _=>False)).block k hk (fun x=>x);have hsz:=(f1 (fun _=>False)).size;obtain⟨p1,p2,p3⟩:=zo (n:={n with up:= -1}) (a:=a) ((keep X ry).trans h.blk) (h.nodes.frame (K':=K) (fun k hk _=>keep k hk) (fun k hk _=>keep k hk) (fun _ _ x=>x)) h.sq (fun k x=>ah (h.lt k x) hsz) (fun k x=>ah (h.sH k x) hsz) h.nA h.nK
  (eH ha fun k e=>keep k (eW ha e)) nu hn hg ho hat
 have fr:=(f1 (fun k=>k=X\/K k)).trans' p3;have I5:g.put n=⟨g.nodes++[{n with up:= -1}],g.stack⟩:=by unfold Gr.put;rw[hs]
 rw[I5];refine⟨_,_,_,h.next (g':=⟨g.nodes++[{n with up:= -1}],g.stack⟩) fr p1 ?_ p2,fr⟩;rintro k hk (e|e)
 ·exact Or.inl e
 ·exact Or.inr ⟨by omega,hk⟩
theorem QY(h:jU A K X w g nv av kv sv rv)(hs:g.stack=[])(n:Nd)(a:Value)(z:Int)(ha:w.ownsRow 0 326 2 a n.d_.length (eQ n.d_))(nu:∀k,a.ownBlock=some k->A k)(hn:n.kids=[])(hb:g.nodes.length<=17179869184):
  Z4 33 #[Z8 X,.agg #[.string ⟨n.name.toArray⟩,a,.string ⟨n.text.toArray⟩,.slice none 0 0,.int .i64 z]] w fun e w'=>e=.returned (.int .i64 g.nodes.length)/\∃kq jS j9,jU A (Grow K w w') X w' (g.put n) kq jS j9 sv rv/\Frame (fun k=>k=X\/K k) w w':=by
 obtain⟨ai,ac,ng⟩:=eF ha;obtain⟨ni,nc,qy⟩:=eF h.nodes.row;subst ng;subst qy;have c0:w.cell? ⟨X,2,none⟩=some (.slice ni g.nodes.length nc):=h.cell 2 rfl;have c1:w.cell? ⟨X,3,none⟩=some (.int .i64 (-1)):=by have:=h.cell 3 rfl;rw[hs]at this;exact this
 have c0a:∀o:Obj,(w.alloc o).cell? ⟨X,2,none⟩=some (.slice ni g.nodes.length nc):=fun o=>eG o c0;have c1a:∀o:Obj,(w.alloc o).cell? ⟨X,3,none⟩=some (.int .i64 (-1)):=fun o=>eG o c1;have ry:=eO h.blk;have Ss:(Value.slice ni g.nodes.length nc).ownBlock≠some X:=fun e=>h.nK (h.nodes.ou X e);obtain⟨i0,hi,hz0,hz1,hz2⟩:=aZ QW;have HR:=a_ h.nodes.row;have HA:=a_ ha;have QZ:=a_ nu;have H:=a_ h;clear h ha nu;go_enter func33,ntmps33;go_wp2_with fail;obtain⟨W1,hW1⟩:∃W,w.alloc (.cells #[.string ⟨n.name.toArray⟩,.slice ai (List.length n.d_) ac,.string ⟨n.text.toArray⟩,.slice none 0 0,.int .i64 (-1)] 44)=W:=⟨_,rfl⟩
 rw[hW1];have fw:W1.heap[w.heap.size]?=some (.cells #[.string ⟨n.name.toArray⟩,.slice ai (List.length n.d_) ac,.string ⟨n.text.toArray⟩,.slice none 0 0,.int .i64 (-1)] 44):=by rw[<-hW1];exact eL _ _
 have n0:=cell_of (i:=0) fw rfl;have n1:=cell_of (i:=1) fw rfl;have n2:=cell_of (i:=2) fw rfl;have n3:=cell_of (i:=3) fw rfl;have n4:=cell_of (i:=4) fw rfl;have x0:W1.cell? ⟨X,2,none⟩=some (.slice ni g.nodes.length nc):=by rw[<-hW1];exact c0a _
 have Vr:∀o:Obj,(W1.alloc o).cell? ⟨X,2,none⟩=some (.slice ni g.nodes.length nc):=fun o=>eG o x0;have YZ:W1.heap[X]?=some (.cells #[sv,rv,.slice ni g.nodes.length nc,.int .i64 (je g.stack)] 65 (0,0)):=by rw[<-hW1,ak _ _ _ ry];exact H.out.blk
 have HR1:Hid (W1.ownsRow 0 44 5 (.slice ni g.nodes.length nc) g.nodes.length (fH av kv 0 g.nodes)):=a_ (by rw[<-hW1];exact HR.out.alloc _);have HXB:=a_ YZ;have HW1:=a_ hW1;have f0:=eR (i:=2) YZ;clear hW1 fw c0a c1a c0 c1 YZ;go_region_law
  (first|(
   refine fA rfl (.tmp 45) (.tmp 47) 35 rfl 44 i0 _ 5 88 underlying35 hi hz0 hz1 hz2 rfl (by decide) (.slice ni g.nodes.length nc) g.nodes.length (fH av kv 0 g.nodes) (by simp[Act.eval,Act.put]) (HR1.out.drew.alloc _) ⟨W1.heap.size,0,none⟩ 1 1 (iA {n with up:= -1} (.slice ai (List.length n.d_) ac) fK) (by simp[Act.eval,Act.put]) rfl (xF _ _ _ _ _) (Dl _ _ _ rfl rfl) (by unfold maxLen;omega) (by omega) ?_;intro v' w2 ho hg hat;obtain⟨tC,cap',rfl⟩:=eF ho;have hb1:=f_ HXB.out Ss hg;have x0':w2.cell? ⟨X,2,none⟩=some (.slice ni g.nodes.length nc):=cell_of hb1 rfl;have f0':=eR (i:=2) hb1;have HO:=a_ ho;have HG:=a_ hg;have sQ:=a_ hat;clear ho hg hat hb1))
 all_goals
  go_wp2;go_ret;have h3:=HW1.out;subst h3;exact⟨rfl,MP H.out hs HA.out QZ.out hn HG.out HO.out sQ.out⟩
end
section
variable{A K K':Nat->Prop}{w w' w1:World}{nv:Value}{av kv:Nat->Value}{g:Gr}{X:Nat}{sv rv:Value}
structure eN(w W:World):Prop where
 os:W.os=w.os
 tape:W.tape=w.tape
 output:W.output=w.output
 size:w.heap.size<=W.heap.size
 keep:∀b,b<w.heap.size->W.heap[b]?=w.heap[b]?
theorem eN.frame{F:Nat->Prop}{W:World}(h:eN w W):Frame F w W:=⟨h.os,h.tape,h.output,h.size,fun b hb _=>h.keep b hb⟩
theorem eN.nodes{W:World}{l:List Nd}(h:eN w W)(hn:ic 44 326 A K w nv l av kv):ic 44 326 A K W nv l av kv:=hn.frame (fun k hk _=>h.keep k hk) (fun k hk _=>h.keep k hk) (fun _ _ x=>x)
theorem eN.alloc{W:World}(h:eN w W)(o:Obj):eN w (W.alloc o):=⟨h.os,h.tape,h.output,by have:=h.size;simp;omega,fun b hb=>(ak _ _ _ (ah hb h.size)).trans (h.keep b hb)⟩
theorem eN.drewN{W:World}(h:eN w W)(n:Nat):eN w (W.drewN n):=⟨h.os,h.tape,h.output,h.size,h.keep⟩
theorem eN.refl(w:World):eN w w:=⟨rfl,rfl,rfl,aj _,fun _ _=>rfl⟩
theorem UX{k:Nat}{st:List Nat}{m:Nd}{W1 w2:World}{o:Obj}{v':Value}{gN nc:Nat}(h:jU A K X w g nv av kv sv rv)(hm:g.nodes[k]?=some m)(qy:nv=Z9 gN g.nodes.length nc)(hW:eN w W1)
  (hg:(W1.alloc o).grownBy w2 (kv k).ownBlock) (ho:w2.ownsRow 0 3 1 v' (m.kids.length+1) (fL m.kids++[.int .i64 g.nodes.length])) (hat:v'.ownBlock=(kv k).ownBlock\/v'.ownBlock=some (W1.alloc o).heap.size):
  ic 44 326 A (fun i=>K i\/i=(W1.alloc o).heap.size) (w2.setCell ⟨gN,k*5+3,none⟩ v') nv (fU g.nodes k g.nodes.length) av (upd kv k v')/\
  (∀b,b<(W1.alloc o).heap.size->¬K b->(w2.setCell ⟨gN,k*5+3,none⟩ v').heap[b]?=(W1.alloc o).heap[b]?)/\Frame K w (w2.setCell ⟨gN,k*5+3,none⟩ v')/\(W1.alloc o).heap.size<=(w2.setCell ⟨gN,k*5+3,none⟩ v').heap.size:=by
 have hk:k<g.nodes.length:=(List.getElem?_eq_some_iff.1 hm).1;have I4:K gN:=h.nodes.ou gN (by rw[qy];rfl);have hM:=hW.alloc o;have hn:=(hM.nodes h.nodes).fU (j:=g.nodes.length) h.sq (fun i x=>ah (h.lt i x) hM.size) (fun i x=>ah (h.sH i x) hM.size) qy hm hg ho hat;have hb:∀b,b<(W1.alloc o).heap.size->¬K b->(w2.setCell ⟨gN,k*5+3,none⟩ v').heap[b]?=(W1.alloc o).heap[b]?:=by
  intro b hb hK;rw[ae _ _ _ _ (fun e=>hK (by have e':b=gN:=e;rw[e'];exact I4))];exact hg.block b hb (fun e=>hK (h.nodes.nt k b hk e.symm).1)
 have hz:(W1.alloc o).heap.size<=(w2.setCell ⟨gN,k*5+3,none⟩ v').heap.size:=by
  have:=hg.size;simpa [World.setCell]using this
 exact⟨hn,hb,⟨hg.os.trans hM.os,hg.tape.trans hM.tape,hg.output.trans hM.output,aw hM.size hz,fun i hi hK=>(hb i (ah hi hM.size) hK).trans (hM.keep i hi)⟩,hz⟩
theorem I6{k:Nat}{st:List Nat}{n:Nd}{a v1 v':Value}{o2:Obj}{W3 w4:World}{Z:Nat}(h:jU A K X w g nv av kv sv rv)(hs:g.stack=k::st)(ha:w.ownsRow 0 326 2 a n.d_.length (eQ n.d_))(nu:∀k,a.ownBlock=some k->A k)(hn:n.kids=[])
  (hZ:w.heap.size<=Z) (hZ3:Z<=W3.heap.size) (p1:ic 44 326 A (fun i=>K i\/i=Z) W3 nv (fU g.nodes k g.nodes.length) av (upd kv k v1)) (p3:Frame K w W3) (hX:W3.heap[X]?=some (.cells #[sv,rv,nv,.int .i64 (je g.stack)] 65 (0,0)))
  (hg:(W3.drew.alloc o2).grownBy w4 nv.ownBlock) (ho:w4.ownsRow 0 44 5 v' (g.nodes.length+1) (fH av (upd kv k v1) 0 (fU g.nodes k g.nodes.length)++iA {n with up:=k} a fK)) (hat:v'.ownBlock=nv.ownBlock\/v'.ownBlock=some (W3.drew.alloc o2).heap.size):
  ∃kq jS j9,jU A (Grow K w (w4.setCell ⟨X,2,none⟩ v')) X (w4.setCell ⟨X,2,none⟩ v') (g.put n) kq jS j9 sv rv/\Frame (fun k=>k=X\/K k) w (w4.setCell ⟨X,2,none⟩ v'):=by
 have ry:=eO h.blk;have hM:eN W3 (W3.drew.alloc o2):=((eN.refl W3).drewN 1).alloc o2
 --what lies at all
 let K1:Nat->Prop:=fun i=>(K i\/i=Z)/\i<W3.heap.size
 have WC:ic 44 326 A K1 W3 nv (fU g.nodes k g.nodes.length) av (upd kv k v1):=p1.frame (fun _ _ _=>rfl) (fun _ _ _=>rfl) (fun i hi x=>⟨x,hi⟩);have q1:∀i,A i->¬K1 i:=fun i hA x=>by
  rcases x.1 with e|e
  ·exact h.sq i hA e
  ·have:=h.sH i hA;omega
 have q2:∀i,K1 i->i<(W3.drew.alloc o2).heap.size:=fun i x=>ah x.2 hM.size;have q3:∀i,A i->i<(W3.drew.alloc o2).heap.size:=fun i x=>ah (h.sH i x) (aw p3.size hM.size);have q4:¬K1 X:=fun x=>by
  rcases x.1 with e|e
  ·exact h.nK e
  ·omega
 have hA3:∀i,A i->W3.heap[i]?=w.heap[i]?:=fun i hA=>p3.block i (h.sH i hA) (fun x=>h.sq i hA x);have ha3:(W3.drew.alloc o2).ownsRow 0 326 2 a n.d_.length (eQ n.d_):=eH ha fun i e=>(hM.keep i (ah (eW ha e) p3.size)).trans (hA3 i (nu i e));obtain⟨r1,r2,r3⟩:=zo (n:={n with up:=k}) (a:=a) ((hM.keep X (ah ry p3.size)).trans hX) (hM.nodes WC) q1 q2 q3 h.nA q4 ha3 nu hn hg (by rw[gi];exact ho) hat;have fr:Frame (fun k=>k=X\/K k) w (w4.setCell ⟨X,2,none⟩ v'):=by
  refine⟨r3.os.trans (hM.os.trans p3.os),r3.tape.trans (hM.tape.trans p3.tape),r3.output.trans (hM.output.trans p3.output),aw p3.size (aw hM.size r3.size),fun i hi hf=>?_⟩;rw[r3.block i (ah hi (aw p3.size hM.size)) (fun x=>?_),hM.keep i (ah hi p3.size)]
  ·exact p3.block i hi (fun x=>hf (Or.inr x))
  ·rcases x with e|e
   ·exact hf (Or.inl e)
   ·rcases e.1 with e|e
    ·exact hf (Or.inr e)
    ·omega
 have I5:g.put n=⟨fU g.nodes k g.nodes.length++[{n with up:=(k:Int)}],g.stack⟩:=by unfold Gr.put;rw[hs]
 rw[I5];refine⟨_,_,_,h.next (g':=⟨fU g.nodes k g.nodes.length++[{n with up:=(k:Int)}],g.stack⟩) fr r1 ?_ r2,fr⟩;rintro i hi (e|e)
 ·rcases e.1 with e1|e1
  ·exact Or.inl e1
  ·exact Or.inr ⟨by omega,hi⟩
 ·exact Or.inr ⟨by have:=p3.size;have:=hM.size;omega,hi⟩
theorem Q0(h:jU A K X w g nv av kv sv rv)(k:Nat)(st:List Nat)(m:Nd)(hs:g.stack=k::st)(hm:g.nodes[k]?=some m)(n:Nd)(a:Value)(z:Int)(ha:w.ownsRow 0 326 2 a n.d_.length (eQ n.d_))(nu:∀k,a.ownBlock=some k->A k)(hn:n.kids=[])(hb:g.nodes.length<=17179869184)(hb2:m.kids.length<=17179869184):
  Z4 33 #[Z8 X,.agg #[.string ⟨n.name.toArray⟩,a,.string ⟨n.text.toArray⟩,.slice none 0 0,.int .i64 z]] w fun e w'=>e=.returned (.int .i64 g.nodes.length)/\∃kq jS j9,jU A (Grow K w w') X w' (g.put n) kq jS j9 sv rv/\Frame (fun k=>k=X\/K k) w w':=by
 obtain⟨ai,ac,ng⟩:=eF ha;obtain⟨gN,nc,qy,hmx,I4,m0,m1,m2,m3,m4⟩:=h.nodes.cells k m hm;have mN:k<g.nodes.length:=(List.getElem?_eq_some_iff.1 hm).1;have Af:=h.nodes.kid k m hm;obtain⟨ki,kc,vw⟩:=eF Af;rw[vw]at m3 Af;subst ng;subst qy;have c0:w.cell? ⟨X,2,none⟩=some (Z9 gN g.nodes.length nc):=h.cell 2 rfl;have c1:w.cell? ⟨X,3,none⟩=some (.int .i64 k):=by have:=h.cell 3 rfl;rw[hs]at this;exact this
 have c0a:∀o:Obj,(w.alloc o).cell? ⟨X,2,none⟩=some (Z9 gN g.nodes.length nc):=fun o=>eG o c0;have c1a:∀o:Obj,(w.alloc o).cell? ⟨X,3,none⟩=some (.int .i64 k):=fun o=>eG o c1;have m3a:∀o:Obj,(w.alloc o).cell? ⟨gN,k*5+3,none⟩=some (.slice ki m.kids.length kc):=fun o=>eG o m3;have ry:=eO h.blk;have hXg:gN≠X:=fun e=>h.nK (e▸I4);have hkX:(Value.slice ki m.kids.length kc).ownBlock≠some X:=fun e=>h.nK (h.nodes.nt k X mN (by rw[vw];exact e)).1;have hkg:(Value.slice ki m.kids.length kc).ownBlock≠some gN:=fun e=>(h.nodes.nt k gN mN (by rw[vw];exact e)).2 rfl;have hkn:¬((k:Int)= -1):=by omega
 have hne:((k:Int) != -1)=true:=by simp
 have UY:(k:Int)<g.nodes.length:=by omega
 obtain⟨i0,hi,hz0,hz1,hz2⟩:=aZ QW;obtain⟨j0,hj,Gn,Gp,xu⟩:=aZ uv;have HR:=a_ h.nodes.row;have aar:=a_ Af;have HA:=a_ ha;have QZ:=a_ nu;have H:=a_ h;clear h ha nu Af m0 m1 m2 m4;go_enter func33,ntmps33;go_wp2_with fail;go_quiet(fail);obtain⟨W1,hW1⟩:∃W,(w.alloc (.cells #[.string ⟨n.name.toArray⟩,.slice ai (List.length n.d_) ac,.string ⟨n.text.toArray⟩,.slice none 0 0,.int .i64 (k:Int)] 44)).drewN nq=W:=⟨_,rfl⟩
 rw[hW1];have hM:eN w W1:=by rw[<-hW1];exact((eN.refl w).alloc _).drewN _
 have fw:W1.heap[w.heap.size]?=some (.cells #[.string ⟨n.name.toArray⟩,.slice ai (List.length n.d_) ac,.string ⟨n.text.toArray⟩,.slice none 0 0,.int .i64 (k:Int)] 44):=by rw[<-hW1];exact eL w _
 have YZ:W1.heap[X]?=some (.cells #[sv,rv,Z9 gN g.nodes.length nc,.int .i64 (je g.stack)] 65 (0,0)):=(hM.keep X ry).trans H.out.blk;obtain⟨cur,MQ⟩:=fW HR.out (k:=gN) rfl;have Gj:gN<w.heap.size:=eO MQ;have VT:W1.heap[gN]?=some (.cells cur 44 (0,0)):=(hM.keep gN Gj).trans MQ;have k3:W1.cell? ⟨gN,k*5+3,none⟩=some (.slice ki m.kids.length kc):=(ag (hM.keep gN Gj)).trans m3;have HK1:Hid (W1.ownsRow 0 3 1 (.slice ki m.kids.length kc) m.kids.length (fL m.kids)):=a_ (eH aar.out fun b e=>hM.keep b (eW aar.out e));have HM:=a_ hM;have wk:=a_ fw;have HXB:=a_ YZ;have I7:=a_ VT;have YM:=a_ m3;clear hW1 fw c0a c1a c0 c1 YZ hM MQ VT m3a m3;go_wp2_with(at_builtin;refine aK _ rfl (.tmp 35) (.tmp 37) 39 rfl 0 3 j0 _ 1 8 underlying39 hj Gn Gp xu rfl (by decide) (.slice ki m.kids.length kc) m.kids.length (fL m.kids) rfl (HK1.out.alloc _) ⟨W1.heap.size,0,none⟩ 1 1 [.int .i64 g.nodes.length] rfl rfl ?c1 ?c2 ?c3 ?c4 (aq _) ?_)
 case c1=>
  intro j u hj
  match j,hj with
  |0,hj=>simp at hj;subst hj;simp[Addr.add]
  |(j+1),hj=>simp at hj
 case c2=>intro u hu;simp at hu;subst hu;rfl
 case c3=>unfold maxLen;omega
 case c4=>omega
 intro v' w2 ho hg _ hat;obtain⟨tC,cap',rfl⟩:=eF ho;have abA:=vw;rw[<-vw]at hg hat;obtain⟨p1,p2,p3,p4⟩:=UX (st:=st) H.out hm rfl HM.out hg ho (by simpa using hat);have hlW:w.heap.size<=W1.heap.size:=HM.out.size;have hbl:w.heap.size<W1.heap.size:=eO wk.out;have Q5:w2.heap[gN]?=some (.cells cur 44 (0,0)):=by rw[hg.block gN (by simp;omega) (by rw[vw];exact fun e=>hkg e.symm),ak _ _ _ (by omega)];exact I7.out
 have k3':w2.cell? ⟨gN,k*5+3,none⟩=some (.slice ki m.kids.length kc):=by
  rw[ag (w:=w) (a:=⟨gN,k*5+3,none⟩)]
  ·exact YM.out
  ·rw[Q5,<-I7.out];exact HM.out.keep gN Gj
 have f3':=eR (i:=k*5+3) Q5;have P1:=a_ p1;have P2:=a_ p2;have P3:=a_ p3;have P4:=a_ p4;clear p1 p2 p3 p4 hg ho hat Q5 abA vw;go_wp2_with fail;obtain⟨W3,hW3⟩:∃W,w2.setCell ⟨gN,k*5+3,none⟩ (.slice tC (m.kids.length+1) cap')=W:=⟨_,rfl⟩
 rw[hW3];rw[hW3]at P1 P2 P3 P4;have UZ:W3.heap[X]?=some (.cells #[sv,rv,Z9 gN g.nodes.length nc,.int .i64 (je g.stack)] 65 (0,0)):=by rw[P2.out X (by simp;omega) H.out.nK,ak _ _ _ (by omega)];exact HXB.out
 have Bq:W3.heap[w.heap.size]?=some (.cells #[.string ⟨n.name.toArray⟩,.slice ai (List.length n.d_) ac,.string ⟨n.text.toArray⟩,.slice none 0 0,.int .i64 (k:Int)] 44):=by rw[P2.out w.heap.size (by simp;omega) (fun x=>by have:=H.out.lt _ x;omega),ak _ _ _ hbl];exact wk.out
 have n0:=cell_of (i:=0) Bq rfl;have n1:=cell_of (i:=1) Bq rfl;have n2:=cell_of (i:=2) Bq rfl;have n3:=cell_of (i:=3) Bq rfl;have n4:=cell_of (i:=4) Bq rfl;have x0:W3.cell? ⟨X,2,none⟩=some (Z9 gN g.nodes.length nc):=cell_of UZ rfl;have Vr:∀o:Obj,(W3.alloc o).cell? ⟨X,2,none⟩=some (Z9 gN g.nodes.length nc):=fun o=>eG o x0;have hrow3:=P1.out.row;rw[gi]at hrow3;have HR3:=a_ hrow3;have aas:=a_ UZ;have Ss:(Z9 gN g.nodes.length nc).ownBlock≠some X:=fun e=>hXg (by cases e;rfl);have f0:=eR (i:=2) UZ;clear hW3 Bq UZ hrow3 k3' f3' k3;go_region_law
  (first|(
   refine fA rfl (.tmp 45) (.tmp 47) 35 rfl 44 i0 _ 5 88 underlying35 hi hz0 hz1 hz2 rfl (by decide) (Z9 gN g.nodes.length nc) g.nodes.length (fH av (upd kv k (.slice tC (m.kids.length+1) cap')) 0 (fU g.nodes k g.nodes.length)) (by simp[Act.eval,Act.put]) (HR3.out.drew.alloc _) ⟨W3.heap.size,0,none⟩ 1 1 (iA {n with up:=k} (.slice ai (List.length n.d_) ac) fK) (by simp[Act.eval,Act.put]) rfl (xF _ _ _ _ _) (Dl _ _ _ rfl rfl) (by unfold maxLen;omega) (by omega) ?_;intro v' w4 ho hg hat;obtain⟨ao4,acr,rfl⟩:=eF ho;have hb1:=f_ aas.out Ss hg;have x0':w4.cell? ⟨X,2,none⟩=some (Z9 gN g.nodes.length nc):=cell_of hb1 rfl;have f0':=eR (i:=2) hb1;have HO:=a_ ho;have HG:=a_ hg;have sQ:=a_ hat;clear ho hg hat hb1))
 all_goals
  go_wp2;go_ret;exact⟨rfl,I6 H.out hs HA.out QZ.out hn (by have:=HM.out.size;simp;omega) P4.out P1.out P3.out aas.out HG.out HO.out sQ.out⟩
def l5(g:Gr):Prop:=∀(i:Nat) (m:Nd),g.nodes[i]?=some m->m.kids.length<=g.nodes.length
theorem FQ(h:jU A K X w g nv av kv sv rv)(wf:g.Wf)(hk:l5 g)(n:Nd)(a:Value)(z:Int)(ha:w.ownsRow 0 326 2 a n.d_.length (eQ n.d_))(nu:∀k,a.ownBlock=some k->A k)(hn:n.kids=[])(hb:g.nodes.length<=17179869184):
  Z4 33 #[Z8 X,.agg #[.string ⟨n.name.toArray⟩,a,.string ⟨n.text.toArray⟩,.slice none 0 0,.int .i64 z]] w fun e w'=>e=.returned (.int .i64 g.nodes.length)/\∃kq jS j9,jU A (Grow K w w') X w' (g.put n) kq jS j9 sv rv/\Frame (fun k=>k=X\/K k) w w':=by
 cases hs:g.stack with
 |nil=>exact QY h hs n a z ha nu hn hb
 |cons k st=>
  obtain⟨m,hm,_,_⟩:=wf.top hs;exact Q0 h k st m hs hm n a z ha nu hn hb (aw (hk k m hm) hb)
end
end K
end Go.Proofs.YthlcmljckpdheaaGreatDoor
namespace Go.Proofs
open Go.Shelf
def Tryz.lays160_ren:Go.Shelf.Ren:=⟨fun|160=>112|232=>164|231=>163|227=>165|234=>167|233=>166|236=>169|235=>168|228=>199|271=>201|151=>200|197=>159|120=>226|152=>225|260=>198|137=>236|119=>237|224=>185|225=>184|217=>183|266=>208|n=>n,fun|9=>9|4=>4|3=>3|5=>5|117=>265|116=>264|0=>0|124=>268|21=>21|105=>243|46=>278|119=>285|139=>288|138=>287|n=>n,fun|3=>4|4=>5|n=>n⟩
theorem Tryz.lays160:Go.Proofs.Lays.n160 Tryz.prog Tryz.lays160_ren:={
 mixed:=by kernel_rfl
 f119:=Tryz.func237.trans (aA some (by kernel_rfl))
 f120:=Tryz.func226.trans (aA some (by kernel_rfl))
 f137:=Tryz.func236.trans (aA some (by kernel_rfl))
 f151:=Tryz.func200.trans (aA some (by kernel_rfl))
 f152:=Tryz.func225.trans (aA some (by kernel_rfl))
 f160:=Tryz.func112.trans (aA some (by kernel_rfl))
 f197:=Tryz.func159.trans (aA some (by kernel_rfl))
 f217:=Tryz.func183.trans (aA some (by kernel_rfl))
 f224:=Tryz.func185.trans (aA some (by kernel_rfl))
 f225:=Tryz.func184.trans (aA some (by kernel_rfl))
 f227:=Tryz.func165.trans (aA some (by kernel_rfl))
 f228:=Tryz.func199.trans (aA some (by kernel_rfl))
 f231:=Tryz.func163.trans (aA some (by kernel_rfl))
 f232:=Tryz.func164.trans (aA some (by kernel_rfl))
 f233:=Tryz.func166.trans (aA some (by kernel_rfl))
 f234:=Tryz.func167.trans (aA some (by kernel_rfl))
 f235:=Tryz.func168.trans (aA some (by kernel_rfl))
 f236:=Tryz.func169.trans (aA some (by kernel_rfl))
 f260:=Tryz.func198.trans (aA some (by kernel_rfl))
 f266:=Tryz.func208.trans (aA some (by kernel_rfl))
 f271:=Tryz.func201.trans (aA some (by kernel_rfl))
 t0:=Tryz.underlying0
 a0:=Tryz.isAgg0
 z0:=Tryz.sizeOf0
 v0:=Tryz.zeroValue0
 t3:=Tryz.underlying3
 a3:=Tryz.isAgg3
 z3:=Tryz.sizeOf3
 v3:=Tryz.zeroValue3
 t4:=Tryz.underlying4
 a4:=Tryz.isAgg4
 z4:=Tryz.sizeOf4
 v4:=Tryz.zeroValue4
 t5:=Tryz.underlying5
 a5:=Tryz.isAgg5
 z5:=Tryz.sizeOf5
 v5:=Tryz.zeroValue5
 t9:=Tryz.underlying9
 a9:=Tryz.isAgg9
 z9:=Tryz.sizeOf9
 v9:=Tryz.zeroValue9
 t21:=Tryz.underlying21
 a21:=Tryz.isAgg21
 z21:=Tryz.sizeOf21
 v21:=Tryz.zeroValue21
 t46:=Tryz.underlying278
 a46:=Tryz.isAgg278
 z46:=Tryz.sizeOf278
 v46:=Tryz.zeroValue278
 t105:=Tryz.underlying243
 a105:=Tryz.isAgg243
 z105:=Tryz.sizeOf243
 v105:=Tryz.zeroValue243
 t116:=Tryz.underlying264
 a116:=Tryz.isAgg264
 z116:=Tryz.sizeOf264
 t117:=Tryz.underlying265
 a117:=Tryz.isAgg265
 z117:=Tryz.sizeOf265
 v117:=Tryz.zeroValue265
 t119:=Tryz.underlying285
 a119:=Tryz.isAgg285
 z119:=Tryz.sizeOf285
 t124:=Tryz.underlying268
 a124:=Tryz.isAgg268
 z124:=Tryz.sizeOf268
 v124:=Tryz.zeroValue268
 t138:=Tryz.underlying287
 a138:=Tryz.isAgg287
 z138:=Tryz.sizeOf287
 v138:=Tryz.zeroValue287
 t139:=Tryz.underlying288
 a139:=Tryz.isAgg288
 z139:=Tryz.sizeOf288
 v139:=Tryz.zeroValue288
 g3:=by kernel_rfl
 g4:=by kernel_rfl}
open Go.RowKit in
theorem Tryz.strings_Trim_blanks(s:ByteArray)(w:World)(hs:s.size<=9223372036854775807):
  Calls Tryz.prog 112 #[.string s,.string ⟨#[9,10,13,32]⟩] w fun e w'=>e=.returned (.string ⟨(Lib.trimS s.data.toList [9,10,13,32]).toArray⟩)/\Below w.heap.size w w':=
 Any.strings_Trim_laid Tryz.lays160 (by kernel_rfl) s ⟨#[9,10,13,32]⟩ w hs (by decide) (ascii_of_all (by decide))
end Go.Proofs
namespace Go.Proofs.YthlcmljckpdheaaGreatDoor
namespace K
open Go.RowKit Go.Maps Go.Lib Tryz
section
variable{S:Nat->Prop}{w w' w1:World}{sv:Value}{X i:Nat}{cs:Array Value}{ty:TypeId}{ns:List (List UInt8)}{r:Bool}
def jC(l:List (List UInt8)):List Value:=l.map e8
structure NS(S:Nat->Prop)(X i:Nat)(w:World)(cs:Array Value)(ty:TypeId)(sv:Value)(ns:List (List UInt8))(r:Bool):Prop where
 blk:w.heap[X]?=some (.cells cs ty (0,0))
 c0:cs[i]?=some sv
 c1:cs[i+1]?=some (.bool r)
 row:w.ownsRow 0 9 1 sv ns.length (jC ns)
 own:∀k,sv.ownBlock=some k->S k
 nX:¬S X
 lt:∀k,S k->k<w.heap.size
def Gq(i:Nat)(cs cs':Array Value):Prop:=cs'.size=cs.size/\∀j,j≠i->j≠i+1->cs'[j]?=cs[j]?
theorem Gq.refl(i:Nat)(cs:Array Value):Gq i cs cs:=⟨rfl,fun _ _ _=>rfl⟩
theorem Gq.set(i:Nat)(cs:Array Value)(v:Value):Gq i cs (cs.setIfInBounds i v):=⟨by simp,fun j h _=>by rw[bF,if_neg (fun e=>h e.symm)]⟩
theorem Gq.abB(i:Nat)(cs:Array Value)(v u:Value):Gq i cs ((cs.setIfInBounds i v).setIfInBounds (i+1) u):=⟨by simp,fun j h h2=>by rw[bF,if_neg (fun e=>h2 e.symm),bF,if_neg (fun e=>h e.symm)]⟩
theorem NS.cell0(h:NS S X i w cs ty sv ns r):w.cell? ⟨X,i,none⟩=some sv:=cell_of h.blk h.c0
theorem NS.cell1(h:NS S X i w cs ty sv ns r):w.cell? ⟨X,i+1,none⟩=some (.bool r):=cell_of h.blk h.c1
theorem Kf:(prog.info? 9).map (fun i=>(i.zero,i.size,i.bytes))=some (some (.string ⟨#[]⟩),1,16):=by kernel_rfl
theorem p8(h:NS S X i w cs ty sv ns r):Z4 19 #[.pointer (some ⟨X,i,none⟩)] w fun e w'=>e=.returned (.bool (r&&decide (ns.length=0)))/\eN w w':=by
 obtain⟨ai,ac,ng⟩:=eF h.row;subst ng;have c0:=h.cell0;have c1:=h.cell1;clear h;cases r with
 |false=>
  go_enter func19,ntmps19;go_wp2;go_ret;exact⟨by simp,eN.refl w⟩
 |true=>
  by_cases hz:ns.length=0
  ·rw[hz]at c0 ⊢;go_enter func19,ntmps19;go_wp2;go_ret;exact⟨by simp,eN.refl w⟩
  ·have hz1:((ns.length:Int)==0)=false:=by rw[aB];omega
   have hz2:(decide (ns.length=0))=false:=decide_eq_false hz;go_enter func19,ntmps19;go_wp2;go_ret;exact⟨by rw[hz2];rfl,eN.refl w⟩
theorem MR(h:NS S X i w cs ty sv [] true)(name:ByteArray):Z4 65 #[.pointer (some ⟨X,i,none⟩),.string name] w fun e w'=>e=.returned (.int .i64 7)/\eN w w':=by
 have hw:=p8 h;clear h;go_enter func65,ntmps65;go_wp2_with(go_at_call 19;refine hw.mono ?_;rintro e w1 ⟨rfl,m1⟩);go_ret;exact⟨rfl,m1⟩
theorem NS.keep{W:World}(h:NS S X i w cs ty sv ns r)(hM:eN w W):NS S X i W cs ty sv ns r:=
 ⟨(hM.keep X (eO h.blk)).trans h.blk,h.c0,h.c1,eH h.row fun k e=>hM.keep k (eW h.row e),h.own,h.nX,fun k x=>ah (h.lt k x) hM.size⟩
theorem MS(h:NS S X i w cs ty sv ns r)(hn:ns.length=30)(name:ByteArray):Z4 65 #[.pointer (some ⟨X,i,none⟩),.string name] w fun e w'=>e=.returned (.int .i64 8)/\eN w w':=by
 have hw:Z4 19 #[.pointer (some ⟨X,i,none⟩)] w fun e w'=>e=.returned (.bool false)/\eN w w':=by
  have:=p8 h;rw[hn]at this;simpa using this
 have hc:∀W,eN w W->∃ai ac,W.cell? ⟨X,i,none⟩=some (.slice ai 30 ac):=fun W hM=>by
  have h2:=h.keep hM;obtain⟨ai,ac,ng⟩:=eF h2.row;exact⟨ai,ac,by rw[h2.cell0,ng,hn]⟩
 have HC:=a_ hc;clear h hn hc;go_enter func65,ntmps65;go_wp2_with(go_at_call 19;refine hw.mono ?_;rintro e w1 ⟨rfl,m1⟩;obtain⟨ai,ac,c0⟩:=HC.out _ m1);go_ret;exact⟨rfl,m1⟩
theorem I8{cs:Array Value}{ty:TypeId}{v':Value}{name:List UInt8}{w2:World}{o:Obj}(h:NS S X i w cs ty sv ns r)(m1:eN w w1)(hg:(w1.alloc o).grownBy w2 sv.ownBlock)(ho:w2.ownsRow 0 9 1 v' (ns.length+1) (jC ns++[e8 name]))(hat:v'.ownBlock=sv.ownBlock\/v'.ownBlock=some (w1.alloc o).heap.size):
  ∃cs' Kh,NS (Grow S w ((w2.setCell ⟨X,i,none⟩ v').setCell ⟨X,i+1,none⟩ (.bool true))) X i ((w2.setCell ⟨X,i,none⟩ v').setCell ⟨X,i+1,none⟩ (.bool true)) cs' ty Kh (ns++[name]) true/\Gq i cs cs'/\Frame (fun k=>k=X\/S k) w ((w2.setCell ⟨X,i,none⟩ v').setCell ⟨X,i+1,none⟩ (.bool true)):=by
 have hM:=m1.alloc o;have ry:=eO h.blk;have Ss:sv.ownBlock≠some X:=fun e=>h.nX (h.own X e);have SU:w2.heap[X]?=some (.cells cs ty (0,0)):=(hg.block X (ah ry hM.size) (fun e=>Ss e.symm)).trans ((hM.keep X ry).trans h.blk);have K8:v'.ownBlock≠some X:=by
  rcases hat with e|e<;>rw[e]
  ·exact Ss
  ·intro x;cases x;exact absurd ry (by have:=hM.size;omega)
 have hX3:=fe (i:=i+1) (fe (i:=i) SU v') (.bool true);have qA:i<cs.size:=(Array.getElem?_eq_some_iff.1 h.c0).1;have DM:i+1<cs.size:=(Array.getElem?_eq_some_iff.1 h.c1).1;have hz:w.heap.size<=w2.heap.size:=aw hM.size hg.size;have keep:∀b,b≠X->((w2.setCell ⟨X,i,none⟩ v').setCell ⟨X,i+1,none⟩ (.bool true)).heap[b]?=w2.heap[b]?:=fun b hb=>by rw[ae _ _ _ _ hb,ae _ _ _ _ hb]
 have hs:((w2.setCell ⟨X,i,none⟩ v').setCell ⟨X,i+1,none⟩ (.bool true)).heap.size=w2.heap.size:=by simp[World.setCell]
 refine⟨_,v',⟨hX3,?_,?_,?_,?_,?_,?_⟩,Gq.abB _ _ _ _,hg.os.trans hM.os,hg.tape.trans hM.tape,hg.output.trans hM.output,by rw[hs];exact hz,?_⟩
 ·rw[bF,if_neg (by omega),bF,if_pos rfl,if_pos qA]
 ·rw[bF,if_pos rfl,if_pos (by simpa using DM)]
 ·have e:jC (ns++[name])=jC ns++[e8 name]:=by simp[jC]
  rw[e,af];exact eH ho fun b e=>keep b (fun x=>K8 (by rw[e,x]))
 ·intro k e;rcases hat with e2|e2
  ·rw[e2]at e;exact Or.inl (h.own k e)
  ·rw[e2]at e;cases e;refine Or.inr ⟨hM.size,?_⟩;rw[hs];have h1:=eW ho e2;exact h1
 ·rintro(e|e)
  ·exact h.nX e
  ·omega
 ·exact iX h.lt (by rw[hs];exact hz)
 ·intro k hk hf;rw[keep k (fun e=>hf (Or.inl e)),hg.block k (ah hk hM.size) (fun e=>hf (Or.inr (h.own k e.symm)))];exact hM.keep k hk
theorem FR(h:NS S X i w cs ty sv ns r)(hr:ns=[]->r=false)(hn:ns.length<30)(name:List UInt8):Z4 65 #[.pointer (some ⟨X,i,none⟩),.string ⟨name.toArray⟩] w fun e w'=>e=.returned (.int .i64 0)/\∃cs' Kh,NS (Grow S w w') X i w' cs' ty Kh (ns++[name]) true/\Gq i cs cs'/\Frame (fun k=>k=X\/S k) w w':=by
 have hw:Z4 19 #[.pointer (some ⟨X,i,none⟩)] w fun e w'=>e=.returned (.bool false)/\eN w w':=by
  have:=p8 h;cases ns with
  |nil=>rw[hr rfl]at this;simpa using this
  |cons a l=>simpa using this
 have hk:∀W,eN w W->NS S X i W cs ty sv ns r:=fun W hM=>h.keep hM;obtain⟨ai,ac,ng⟩:=eF h.row;subst ng;have hz1:((ns.length:Int)==30)=false:=by rw[aB];omega
 obtain⟨i0,hi,hz0,hzz,hz2⟩:=aZ Kf;have H:=a_ h;have HK:=a_ hk;clear h hk hr;have Ss:(Value.slice ai ns.length ac).ownBlock≠some X:=fun e=>H.out.nX (H.out.own X e);go_enter func65,ntmps65;go_wp2_with(first
  |(go_at_call 19;refine hw.mono ?_;rintro e w1 ⟨rfl,m1⟩;have h1:=HK.out _ m1;have c0:=h1.cell0;have c1:=h1.cell1;have R1:=a_ h1.row;have B1:=a_ h1.blk;have hXl:=eO h1.blk;clear h1)
  |(at_builtin;refine aK _ rfl (.tmp 17) (.tmp 19) 49 rfl 0 9 i0 _ 1 16 underlying49 hi hz0 hzz hz2 rfl (by decide) (.slice ai ns.length ac) ns.length (jC ns) rfl (R1.out.alloc _) ⟨w1.heap.size,0,none⟩ 1 1 [e8 name] rfl rfl ?c1 ?c2 ?c3 ?c4 (aq _) ?_))
 case c1=>
  intro j u hj
  match j,hj with
  |0,hj=>simp at hj;subst hj;simp[Addr.add,e8]
  |(j+1),hj=>simp at hj
 case c2=>intro u hu;simp at hu;subst hu;rfl
 case c3=>unfold maxLen;omega
 case c4=>omega
 intro v' w2 ho hg _ hat;obtain⟨tC,cap',rfl⟩:=eF ho;have hb1:w2.heap[X]?=some (.cells cs ty (0,0)):=(hg.block X (by simp;omega) (fun e=>Ss e.symm)).trans ((ak _ _ _ hXl).trans B1.out);have x0:w2.cell? ⟨X,i,none⟩=some (.slice ai ns.length ac):=cell_of hb1 H.out.c0;have x1:∀v,(w2.setCell ⟨X,i,none⟩ v).cell? ⟨X,i+1,none⟩=some (.bool r):=fun v=>cell_of (fe hb1 v) (by rw[bF,if_neg (by omega)];exact H.out.c1);have f0:=eR (i:=i) hb1;have f1:∀v,(w2.setCell ⟨X,i,none⟩ v).frozen? ⟨X,i+1,none⟩=false:=fun v=>eR (i:=i+1) (fe hb1 v);have HO:=a_ ho;have HG:=a_ hg;have sQ:=a_ hat;have M1:=a_ m1;clear ho hg hat hb1 m1 c0 c1;go_wp2;go_ret;exact⟨rfl,I8 H.out M1.out HG.out HO.out (by simpa using sQ.out)⟩
end
section
variable{S:Nat->Prop}{w w' w1:World}{sv:Value}{X i:Nat}{cs:Array Value}{ty:TypeId}{ns:List (List UInt8)}{r:Bool}
theorem MT(h:NS S X i w cs ty sv [] r)(name:ByteArray):Z4 66 #[.pointer (some ⟨X,i,none⟩),.string name] w fun e w'=>e=.returned (.int .i64 6)/\eN w w':=by
 obtain⟨ai,ac,ng⟩:=eF h.row;subst ng;have c0:=h.cell0;clear h;go_enter func66,ntmps66;go_wp2;go_ret;exact⟨rfl,eN.refl w⟩
theorem NS.last{nm:List UInt8}{xs:List (List UInt8)}(h:NS S X i w cs ty sv (xs++[nm]) r):∃g ac,sv=Z9 g (xs.length+1) ac/\w.cell? ⟨g,xs.length,none⟩=some (e8 nm)/\xs.length+1<=ac/\ac<=maxLen/\S g:=by
 have ho:=h.row;rw[af]at ho;rcases ho.2 with⟨_,e⟩|⟨g,cap,cur,e1,h0,hg,h1,h2,h3,h4⟩
 ·simp at e
 ·refine⟨g,cap,e1,cell_of hg ?_,by simpa using h1,h2,h.own g (by rw[e1];rfl)⟩;have h5:(jC (xs++[nm]))[xs.length]?=some (e8 nm):=by simp[jC]
  rw[<-h4,bW]at h5;split at h5
  ·simpa using h5
  ·cases h5
theorem MU{e:TypeId}{s g n m cap:Nat}{xs:List Value}(h:w.ownsRow 0 e s (Z9 g n cap) n xs)(hm:m<=n):w.ownsRow 0 e s (Z9 g m cap) m (xs.take (m*s)):=by
 have hms:m*s<=n*s:=Nat.mul_le_mul_right s hm;refine⟨by rw[bM,h.1];omega,?_⟩;rcases h.2 with⟨e1,_⟩|⟨g',cap',cur,e1,h0,hg,h1,h2,h3,h4⟩
 ·cases e1
 ·cases e1;refine Or.inr ⟨g,cap,cur,rfl,h0,hg,by omega,h2,h3,?_⟩;rw[<-h4,dK,Nat.min_eq_left hms]
theorem Q6{nm:List UInt8}{xs:List (List UInt8)}(h:NS S X i w cs ty sv (xs++[nm]) r)(hx:xs.length<=30)(name:List UInt8)(hne:nm≠name):Z4 66 #[.pointer (some ⟨X,i,none⟩),.string ⟨name.toArray⟩] w fun e w'=>e=.returned (.int .i64 6)/\eN w w':=by
 obtain⟨g,ac,ng,k0,hac,_⟩:=h.last;unfold e8 at k0;subst ng;have c0:=h.cell0;generalize xs.length=n at*
 have hwr:IntKind.i64.wrap (((n+1:Nat):Int)-1)=(n:Int):=by rw[aI];omega
 have hlt:decide ((n:Int)<0)=false:=by simp
 have vv:(n:Int)<((n+1:Nat):Int):=by omega
 have qF:(nm==name)=false:=by simpa using hne
 clear h hne;go_enter func66,ntmps66;go_wp2;go_ret;exact⟨rfl,eN.refl w⟩
theorem xl{nm:List UInt8}{xs:List (List UInt8)}{g ac:Nat}(h:NS S X i w cs ty (Z9 g (xs.length+1) ac) (xs++[nm]) r)(m1:eN w w1):
  ∃cs' Kh,NS (Grow S w (w1.setCell ⟨X,i,none⟩ (Z9 g xs.length ac))) X i (w1.setCell ⟨X,i,none⟩ (Z9 g xs.length ac)) cs' ty Kh xs r/\Gq i cs cs'/\Frame (fun k=>k=X\/S k) w (w1.setCell ⟨X,i,none⟩ (Z9 g xs.length ac)):=by
 have ry:=eO h.blk;have hgS:S g:=h.own g rfl;have hgX:g≠X:=fun e=>h.nX (e▸hgS);have h1:=h.keep m1;have keep:∀b,b≠X->(w1.setCell ⟨X,i,none⟩ (Z9 g xs.length ac)).heap[b]?=w1.heap[b]?:=fun b hb=>ae _ _ _ _ hb;have hs:(w1.setCell ⟨X,i,none⟩ (Z9 g xs.length ac)).heap.size=w1.heap.size:=by simp[World.setCell]
 have qA:i<cs.size:=(Array.getElem?_eq_some_iff.1 h.c0).1;refine⟨_,Z9 g xs.length ac,⟨fe (i:=i) h1.blk _,?_,?_,?_,?_,?_,?_⟩,Gq.set _ _ _,m1.os,m1.tape,m1.output,by rw[hs];exact m1.size,?_⟩
 ·rw[bF,if_pos rfl,if_pos qA]
 ·rw[bF,if_neg (by omega)];exact h.c1
 ·have hr:=h1.row;rw[af]at hr;have h2:=MU (m:=xs.length) hr (by simp);have e:(jC (xs++[nm])).take (xs.length*1)=jC xs:=by simp[jC,List.take_append_of_le_length]
  rw[e]at h2;exact eH h2 fun b e=>keep b (fun x=>by cases e;exact hgX x)
 ·intro k e;cases e;exact Or.inl hgS
 ·rintro(e|e)
  ·exact h.nX e
  ·omega
 ·exact iX h.lt (by rw[hs];exact m1.size)
 ·intro k hk hf;rw[keep k (fun e=>hf (Or.inl e))];exact m1.keep k hk
theorem MV{nm:List UInt8}{xs:List (List UInt8)}(h:NS S X i w cs ty sv (xs++[nm]) r)(hx:xs.length<=30):Z4 66 #[.pointer (some ⟨X,i,none⟩),.string ⟨nm.toArray⟩] w fun e w'=>e=.returned (.int .i64 0)/\∃cs' Kh,NS (Grow S w w') X i w' cs' ty Kh xs r/\Gq i cs cs'/\Frame (fun k=>k=X\/S k) w w':=by
 obtain⟨g,ac,ng,k0,hac,hmx,_⟩:=h.last;unfold e8 at k0;subst ng;have c0:=h.cell0;have f0:=eR (i:=i) h.blk;have HE:=a_ (xl h (eN.refl w));generalize xs.length=n at*
 have hwr:IntKind.i64.wrap (((n+1:Nat):Int)-1)=(n:Int):=by rw[aI];omega
 have hlt:decide ((n:Int)<0)=false:=by simp
 have vv:(n:Int)<((n+1:Nat):Int):=by omega
 have qF:(nm==nm)=true:=by simp
 have Lb:(n:Int)<=(ac:Int):=by omega
 have abW:n<=ac:=by omega
 clear h;go_enter func66,ntmps66;go_wp2;go_ret;exact⟨rfl,HE.out⟩
theorem qp{α:Type}(p:α->Bool):∀l:List α,(l.dropWhile p).dropWhile p=l.dropWhile p
 |[]=>rfl
 |x::l=>by
  by_cases h:p x=true
  ·simp only[dD,h,if_true];exact qp p l
  ·simp[dD,h]
theorem j7{α:Type}(p:α->Bool):∀l:List α,l.dropWhile p=[]↔l.all p=true
 |[]=>by simp
 |x::l=>by
  by_cases h:p x=true
  ·simp only[dD,h,if_true,List.all_cons,cP];exact j7 p l
  ·simp[dD,h]
theorem MW(l:List UInt8):Lib.trimS l [9,10,13,32]=[]↔ia l=true:=by
 have hp:∀c:UInt8,([9,10,13,32]:List UInt8).contains c=js c.toNat:=by
  intro c;rw[bK];simp only[List.contains_cons,List.contains_nil,bE,bG,ay,cS,js,<-UInt8.toNat_inj];have e1:(9:UInt8).toNat=9:=rfl;have e2:(10:UInt8).toNat=10:=rfl;have e3:(13:UInt8).toNat=13:=rfl;have e4:(32:UInt8).toNat=32:=rfl;omega
 have e:ia l=l.all (fun c=>([9,10,13,32]:List UInt8).contains c):=by
  unfold ia;congr 1;funext c;exact(hp c).symm
 rw[e];unfold Lib.trimS Lib.trimLeftS Lib.trimRightS;rw[j7,List.all_reverse];constructor
 ·intro h;have h1:=(j7 _ _).2 h;rw[qp,j7,List.all_reverse]at h1;exact h1
 ·intro h;have h1:=(j7 (fun c=>([9,10,13,32]:List UInt8).contains c) l.reverse).2 (by rw[List.all_reverse];exact h);rw[h1];rfl
theorem j8{W:World}(b:Z5 w W):eN w W:=⟨b.os,b.tape,b.output,b.size,fun k hk=>b.block k hk⟩
theorem eN.trans{a b c:World}(h:eN a b)(k:eN b c):eN a c:=⟨k.os.trans h.os,k.tape.trans h.tape,k.output.trans h.output,aw h.size k.size,fun i hi=>(k.keep i (ah hi h.size)).trans (h.keep i hi)⟩
theorem MX(h:NS S X i w cs ty sv ns r)(hx:ns.length<=30)(t:List UInt8)(hz:t.length<=9223372036854775807):Z4 67 #[.pointer (some ⟨X,i,none⟩),.string ⟨t.toArray⟩] w fun e w'=>e=.returned (.int .i64 (if ns=[]/\ia t=false then 7 else 0))/\eN w w':=by
 obtain⟨ai,ac,ng⟩:=eF h.row;subst ng;have c0:=h.cell0;have htr:∀W,Z4 112 #[.string ⟨t.toArray⟩,.string ⟨#[9,10,13,32]⟩] W (Z7 (.string ⟨(Lib.trimS t [9,10,13,32]).toArray⟩) W):=fun W=>by
  have:=strings_Trim_blanks ⟨t.toArray⟩ W (by simpa [ByteArray.size]using hz);simpa using this
 have hn:=MW t;generalize Lib.trimS t [9,10,13,32]=R at htr hn;have HT:=a_ htr;clear h htr;cases ns with
 |cons a l=>
  rw[if_neg (fun e=>by cases e.1)];have hz1:(((a::l).length:Int)==0)=false:=by rw[aB];simp only[au];omega
  generalize (a::l).length=n at*
  clear hn;go_enter func67,ntmps67;go_wp2;go_ret;exact⟨rfl,eN.refl w⟩
 |nil=>
  by_cases hb:ia t=true
  ·rw[if_neg (fun e=>by rw[hb]at e;cases e.2)];have hR:=hn.2 hb;subst hR;clear hn hb;go_enter func67,ntmps67;go_wp2_with(go_at_call 112;refine(HT.out _).mono ?_;rintro e w2 ⟨rfl,b2⟩;have B2:=a_ b2;clear b2);go_ret;exact⟨rfl,j8 B2.out⟩
  ·rw[if_pos ⟨rfl,by simpa using hb⟩];have hR:(R==[])=false:=by
    have:R≠[]:=fun e=>hb (hn.1 e);cases R with
    |nil=>exact absurd rfl this
    |cons a l=>rfl
   clear hn hb;go_enter func67,ntmps67;go_wp2_with(go_at_call 112;refine(HT.out _).mono ?_;rintro e w2 ⟨rfl,b2⟩;have B2:=a_ b2;clear b2);go_ret;exact⟨rfl,j8 B2.out⟩
end
section
variable{S:Nat->Prop}{w w' w1:World}{sv:Value}{X i:Nat}{cs:Array Value}{ty:TypeId}{ns:List (List UInt8)}{r:Bool}
structure pE where
 names:List (List UInt8)
 gw:Bool
def pE.take(n:pE)(t:Tok):Int×pE:=
 if t.kind=1 then
  if n.gw=true/\n.names=[]then(7,n)
  else if 30<=n.names.length then(8,n)
  else(0,⟨n.names++[t.name],true⟩)
 else if t.kind=2 then
  if n.names.getLast?=some t.name then(0,⟨n.names.dropLast,n.gw⟩)else(6,n)
 else if n.names=[]/\ia t.text=false then(7,n)else(0,n)
def oF(S:Nat->Prop)(X i:Nat)(w:World)(cs:Array Value)(ty:TypeId)(x:Int×pE)(e:Ending)(w':World):Prop:=
 e=.returned (.int .i64 x.1)/\∃cs' Kh,NS (Grow S w w') X i w' cs' ty Kh x.2.names x.2.gw/\Gq i cs cs'/\Frame (fun k=>k=X\/S k) w w'
theorem nJ{n:pE}{x:Int}(h:NS S X i w cs ty sv n.names n.gw)(hM:eN w w'):oF S X i w cs ty (x,n) (.returned (.int .i64 x)) w':=by
 have h1:=h.keep hM;exact⟨rfl,cs,sv,⟨h1.blk,h1.c0,h1.c1,h1.row,fun k e=>Or.inl (h1.own k e),fun e=>by
  rcases e with e|e
  ·exact h.nX e
  ·have:=eO h.blk;omega,iX h.lt hM.size⟩,Gq.refl _ _,hM.frame⟩
theorem Dm{n:pE}(h:NS S X i w cs ty sv n.names n.gw)(hn:n.names.length<=30)(hr:n.names≠[]->n.gw=true)(t:Tok)(hk:t.kind=1):Z4 65 #[.pointer (some ⟨X,i,none⟩),.string ⟨t.name.toArray⟩] w (oF S X i w cs ty (n.take t)):=by
 unfold pE.take;rw[if_pos hk];by_cases h1:n.gw=true/\n.names=[]
 ·rw[if_pos h1];have h2:=h;rw[h1.1,h1.2]at h2;refine(MR h2 _).mono ?_;rintro e w' ⟨rfl,m⟩;exact nJ h m
 ·rw[if_neg h1];by_cases h3:30<=n.names.length
  ·rw[if_pos h3];refine(MS h (by omega) _).mono ?_;rintro e w' ⟨rfl,m⟩;exact nJ h m
  ·rw[if_neg h3];refine(FR h (fun e=>by cases hrr:n.gw with|false=>rfl|true=>exact absurd ⟨hrr,e⟩ h1) (by omega) t.name).mono ?_;rintro e w' ⟨rfl,hx⟩;exact⟨rfl,hx⟩
theorem Dn{n:pE}(h:NS S X i w cs ty sv n.names n.gw)(hn:n.names.length<=30)(t:Tok)(h1:t.kind≠1)(hk:t.kind=2):Z4 66 #[.pointer (some ⟨X,i,none⟩),.string ⟨t.name.toArray⟩] w (oF S X i w cs ty (n.take t)):=by
 unfold pE.take;rw[if_neg h1,if_pos hk];rcases List.eq_nil_or_concat n.names with e0|⟨xs,nm,e0⟩
 ·rw[e0,if_neg (by simp)];have h2:=h;rw[e0]at h2;refine(MT h2 _).mono ?_;rintro e w' ⟨rfl,m⟩;exact nJ h m
 ·have h2:=h;rw[e0]at h2 hn;rw[List.concat_eq_append]at e0 h2 hn;simp only[af,au,aF]at hn;by_cases qF:nm=t.name
  ·subst qF;rw[e0,if_pos (by simp)];refine(MV h2 (by omega)).mono ?_;rintro e w' ⟨rfl,hx⟩;rw[List.dropLast_concat];exact⟨rfl,hx⟩
  ·rw[e0,if_neg (by simpa using qF)];refine(Q6 h2 (by omega) t.name qF).mono ?_;rintro e w' ⟨rfl,m⟩;exact nJ h m
theorem I9{n:pE}(h:NS S X i w cs ty sv n.names n.gw)(hn:n.names.length<=30)(t:Tok)(hz:t.text.length<=9223372036854775807)(h1:t.kind≠1)(h2:t.kind≠2):Z4 67 #[.pointer (some ⟨X,i,none⟩),.string ⟨t.text.toArray⟩] w (oF S X i w cs ty (n.take t)):=by
 unfold pE.take;rw[if_neg h1,if_neg h2];refine(MX h hn t.text hz).mono ?_;rintro e w' ⟨rfl,m⟩;split
 ·exact nJ h m
 ·exact nJ h m
theorem MY{n:pE}(h:NS S X i w cs ty sv n.names n.gw)(hn:n.names.length<=30)(hr:n.names≠[]->n.gw=true)(t:Tok)(ai:Option Addr)(an ac:Nat)(hz:t.text.length<=9223372036854775807):
  Z4 32 #[.pointer (some ⟨X,i,none⟩),mU t (.slice ai an ac)] w (oF S X i w cs ty (n.take t)):=by
 have hM:=fun o=>(eN.refl w).alloc o;have k1:=fun hk o=>Dm (h.keep (hM o)) hn hr t hk;have k2:=fun h1 hk o=>Dn (h.keep (hM o)) hn t h1 hk;have k3:=fun h1 hk o=>I9 (h.keep (hM o)) hn t hz h1 hk;have lift:∀o e w',oF S X i (w.alloc o) cs ty (n.take t) e w'->oF S X i w cs ty (n.take t) e w':=by
  rintro o e w' ⟨rfl,cs',Kh,q1,q2,q3⟩;have hs:=(hM o).size;refine⟨rfl,cs',Kh,⟨q1.blk,q1.c0,q1.c1,q1.row,fun k e=>?_,fun e=>?_,iX h.lt (aw hs q3.size)⟩,q2,(hM o).frame.trans' q3⟩
  ·rcases q1.own k e with a|a
   ·exact Or.inl a
   ·exact Or.inr ⟨by omega,a.2⟩
  ·rcases e with e|e
   ·exact h.nX e
   ·have:=eO h.blk;omega
 unfold mU e8;have LI:=a_ lift;clear h hn hr hM lift;generalize n.take t=R at*
 by_cases h1:t.kind=1
 ·have HK:=a_ (k1 h1);rw[h1]at ⊢;clear k1 k2 k3 h1;go_enter func32,ntmps32;go_wp2_with(go_at_call 65;refine(HK.out _).mono ?_;rintro e w1 hx;have hy:=LI.out _ _ _ hx;obtain⟨rfl,hz⟩:=hy;have HZ:=a_ hz;clear hx hz);go_ret;exact⟨rfl,HZ.out⟩
 ·by_cases h2:t.kind=2
  ·have HK:=a_ (k2 h1 h2);rw[h2]at ⊢;clear k1 k2 k3 h1 h2;go_enter func32,ntmps32;go_wp2_with(go_at_call 66;refine(HK.out _).mono ?_;rintro e w1 hx;have hy:=LI.out _ _ _ hx;obtain⟨rfl,hz⟩:=hy;have HZ:=a_ hz;clear hx hz);go_ret;exact⟨rfl,HZ.out⟩
  ·have HK:=a_ (k3 h1 h2);have e1:(t.kind==1)=false:=by simpa using h1
   have e2:(t.kind==2)=false:=by simpa using h2
   clear k1 k2 k3 h1 h2;go_enter func32,ntmps32;go_wp2_with(go_at_call 67;refine(HK.out _).mono ?_;rintro e w1 hx;have hy:=LI.out _ _ _ hx;obtain⟨rfl,hz⟩:=hy;have HZ:=a_ hz;clear hx hz);go_ret;exact⟨rfl,HZ.out⟩
end
end K
end Go.Proofs.YthlcmljckpdheaaGreatDoor
