import Derived.Test.YthlcmljckpdheaaGreatDoorHA
import Derived.Test.YthlcmljckpdheaaGreatDoorHbb
import Derived.Test.YthlcmljckpdheaaGreatDoorHba
import Derived.Test.YthlcmljckpdheaaGreatDoorHaw
import Derived.Test.YthlcmljckpdheaaGreatDoorHav
import Derived.Test.YthlcmljckpdheaaGreatDoorHay
import Derived.Test.YthlcmljckpdheaaGreatDoorHah
import Derived.Test.YthlcmljckpdheaaGreatDoorHaf
import Derived.Test.YthlcmljckpdheaaGreatDoorHad
import Derived.Test.YthlcmljckpdheaaGreatDoorHae
import Derived.Test.YthlcmljckpdheaaGreatDoorHas
set_option linter.unusedVariables false
set_option linter.unusedSimpArgs false
set_option maxHeartbeats 32000000
set_option maxRecDepth 100000
namespace Go.Proofs.YthlcmljckpdheaaGreatDoor
open Go.RowKit Go.Maps Go.Lib Tryz
section
variable{w w':World}{X mb lo:Nat}{lv ov:Value}{c:Cn}{l:List K.Nd}{i B:Nat}{n:K.Nd}
theorem RO(I:CI l i c)(b:CB i B c)(T:K.mJ l)(hn:l[i]?=some n)(hi:i<=1000000000000)(hB:B<=1000000000000)(hp:(ol c.labels (c.ahead n)++47::iT n).length<=B)(h:CM lo X mb lv ov c w)(ox:lo<=w.heap.size)(av kv:Value):
  Z4 9 #[Z8 X,.agg #[K.e8 n.name,av,K.e8 n.text,kv,.int .i64 n.up]] w fun e w'=>e=.returned (.tuple #[])/\TkP w lo X mb (c.take n) w':=by
 have hS:((bs n.name).toList.isEmpty=true/\bs (iT n)=⟨#[35]⟩)\/((bs n.name).toList.isEmpty=false/\bs (iT n)=bs n.name):=by
  unfold iT;cases qF:n.name with
  |nil=>exact Or.inl ⟨by rw[gP];rfl,by simp;rfl⟩
  |cons x r=>exact Or.inr ⟨by rw[gP];rfl,by simp⟩
 have l8:(n.up<0/\c.ahead n= -1/\ol c.labels (c.ahead n)=[])\/(0<=n.up/\∃a x,c.of[n.up.toNat]?=some a/\c.labels[a]?=some x/\c.ahead n=(a:Nat)/\ol c.labels (c.ahead n)=x.1):=by
  by_cases hu:0<=n.up
  ·refine Or.inr ⟨hu,?_⟩;have hlt:n.up.toNat<i:=by
    cases i with
    |zero=>have:=(T.zero _ hn).1;omega
    |succ i=>
     obtain⟨u,h1,h2,-⟩:=T.up i _ hn;omega
   obtain⟨k,h1,h2⟩:=I.num _ hlt;rw[aH]at h2;obtain⟨x,hx,-⟩:=Option.map_eq_some_iff.1 h2;have e:c.ahead n=(k:Nat):=by unfold Cn.ahead Cn.num;rw[if_pos hu,h1];rfl
   refine⟨k,x,h1,hx,e,?_⟩;rw[e];unfold ol;rw[if_pos (by omega),aG,hx];rfl
  ·have e:c.ahead n= -1:=by unfold Cn.ahead;rw[if_neg hu]
   exact Or.inl ⟨by omega,e,by rw[e];rfl⟩
 have hA:=(I.ahead T hn).1;have Yp:=b.V4;have hpl:(ol c.labels (c.ahead n)).length+1+(iT n).length<=B:=by
  rw[af,au]at hp;omega
 have iM:zz (c.ahead n,iT n):=by
  refine⟨?_,by show (iT n).length<=_;omega⟩;show-1<=c.ahead n/\c.ahead n<=1000000000000;rcases hA with e|⟨k,e,hk⟩
  ·omega
  ·have:c.P.length=c.labels.length:=by simp[Cn.P]
   omega
 have NH:=I.aaC b hi hB;have hof:c.of.length<=1000000000000:=by rw[I.len];exact hi
 unfold Cn.take;cases hk:pG c.keys (c.ahead n,iT n)with
 |some k=>
  have hm:((c.ahead n,iT n),k)∈c.keys:=by
   unfold pG at hk;obtain⟨y,hy,e⟩:=Option.map_eq_some_iff.1 hk;have he:y.1=(c.ahead n,iT n):=by simpa using dV hy
   have:=cR hy;obtain⟨y1,y2⟩:=y;cases he;cases e;exact this
  have mN:=(NH _ hm).2;have hx:=ap mN;exact RA av kv (bs n.text) (bs n.name) h ox hS l8 hk hx iM (fun y hy=>(NH y hy).1) (aw (b.cnt _ (aO hx)) hi) hof
 |none=>
  exact Nr av kv (bs n.text) (bs n.name) h ox hS l8 hk iM (fun y hy=>(NH y hy).1) (by omega) (by omega) (aw b.key hi) hof
end
end Go.Proofs.YthlcmljckpdheaaGreatDoor
namespace Go.Proofs.YthlcmljckpdheaaGreatDoor
namespace K
open Go.RowKit Go.Lib Tryz
section
variable{g:Gr}{t:Tok}
theorem Vc{s:ByteArray}{i k:Nat}(h:i<s.size)(iM:Ch.gW s i=true)(hk:k<(Utf8.decode s i).2):k=0\/128<=Ch.bz s (i+k):=by
 have bad:Utf8.decode s i≠(65533,1):=fun e=>by rw[Ch.t_ e]at iM;cases iM
 have h0:0<=Ch.bz s i:=by unfold Ch.bz;rw[if_pos h];omega
 have k4:∀{m},k<m->k=0\/(k=1/\1<m)\/(k=2/\2<m)\/(k=3/\3<m)\/4<=k:=by omega
 have hw:∀{a:Prop} [Decidable a] {x y:Nat×Nat},Utf8.decode s i=(if a then x else y)->y=(65533,1)->k<x.2:=fun{a _ x y} e ey=>by
  by_cases ha:a
  ·rw[if_pos ha]at e;rw[<-e];exact hk
  ·rw[if_neg ha,ey]at e;exact absurd e bad
 by_cases a1:Ch.bz s i<128
 ·rw[Ch.gM h0 a1]at hk;simp only at hk;omega
 by_cases a2:Ch.bz s i<192
 ·exact absurd (Ch.fN (Or.inl ⟨by omega,a2⟩)) bad
 by_cases a3:Ch.bz s i<224
 ·by_cases c1:Ch.cont s (i+1)
  ·have:=hw (Ch.iN (by omega) a3 c1) rfl;simp only at this;unfold Ch.cont at c1;rcases k4 this with e|⟨e,_⟩|e|e|e
   ·exact Or.inl e
   ·rw[e];exact Or.inr c1.1
   all_goals omega
  ·exact absurd (Ch.ie (by omega) a3 c1) bad
 by_cases a4:Ch.bz s i<240
 ·by_cases c:Ch.cont s (i+1)/\Ch.cont s (i+2)
  ·have:=hw (Ch.gJ (by omega) a4 c.1 c.2) rfl;simp only at this;unfold Ch.cont at c;rcases k4 this with e|⟨e,_⟩|⟨e,_⟩|e|e
   ·exact Or.inl e
   ·rw[e];exact Or.inr c.1.1
   ·rw[e];exact Or.inr c.2.1
   all_goals omega
  ·exact absurd (Ch.fE (by omega) a4 (by by_cases b1:Ch.cont s (i+1)<;>simp_all)) bad
 by_cases a5:Ch.bz s i<248
 ·by_cases c:Ch.cont s (i+1)/\Ch.cont s (i+2)/\Ch.cont s (i+3)
  ·have:=hw (Ch.il (by omega) a5 c.1 c.2.1 c.2.2) rfl;simp only at this;unfold Ch.cont at c;rcases k4 this with e|⟨e,_⟩|⟨e,_⟩|⟨e,_⟩|e
   ·exact Or.inl e
   ·rw[e];exact Or.inr c.1.1
   ·rw[e];exact Or.inr c.2.1.1
   ·rw[e];exact Or.inr c.2.2.1
   all_goals omega
  ·exact absurd (Ch.fq (by omega) a5 (by by_cases b1:Ch.cont s (i+1)<;>by_cases b2:Ch.cont s (i+2)<;>simp_all)) bad
 ·exact absurd (Ch.fN (Or.inr (by omega))) bad
theorem Ko{s:ByteArray}:∀(m i:Nat),s.size-i<m->∀j,i<=j->j<jr s i->Ch.bz s j≠47
 |0,i,h,_,_,_=>by omega
 |m+1,i,h,j,h1,h2=>by
  by_cases hi:vx (cur s i)=true
  ·obtain⟨p1,p2,p3,p4,p5⟩:=fp (mj hi);by_cases hj:j<i+wid s i
   ·obtain⟨k,rfl⟩:∃k,j=i+k:=⟨j-i,by omega⟩
    rcases Vc p1 p2 (k:=k) (by unfold wid at hj;omega)with e|e
    ·subst e;rcases Ch.mv s i p1 with⟨q1,q2,q3⟩|⟨q1,q2⟩
     ·rw[bN];intro e;rw[p3,q3,e]at hi;exact absurd hi (by decide)
     ·rw[bN];omega
    ·omega
   ·rw[j4 hi]at h2;exact Ko m (i+wid s i) (by omega) j (by omega) h2
  ·rw[pT hi]at h2;omega
theorem Vd{n:List UInt8}(h:kU n):(47:UInt8)∉n:=by
 obtain⟨s,q,h1,rfl⟩:=h;have hi:vx (cur s q)=true:=by unfold vx;rw[h1];rfl
 have hq:=fp (mj hi);have hle:=nh (s:=s) (i:=q) (by omega);have Ct:=pU s q;have hl:=vZ s q (jr s q-q) (by omega);intro hm;obtain⟨k,hk⟩:=dZ hm;have mN:=(List.getElem?_eq_some_iff.1 hk).1;have:=E7 s q (jr s q-q) k (by omega) (by omega);rw[Ch.tB,hk]at this;exact Ko (s.size+1) q (by omega) (q+k) (by omega) (by omega) this.symm
abbrev s7(l:List Nd):List (List UInt8):=l.map (·.name)
theorem zB:∀(l:List Nd) (k j:Nat),s7 (fU l k j)=s7 l
 |[],_,_=>rfl
 |n::l,0,j=>rfl
 |n::l,k+1,j=>by simp only[fU,s7,bC];rw[show List.map (·.name) (fU l k j)=s7 (fU l k j)from rfl,zB l k j]
theorem Ve(g:Gr)(n:Nd):s7 (g.put n).nodes=s7 g.nodes++[n.name]:=by
 unfold Gr.put;split
 ·simp[s7]
 ·simp only[s7,aR];rw[show List.map (·.name) (fU g.nodes _ g.nodes.length)=s7 (fU g.nodes _ g.nodes.length)from rfl,zB];rfl
def rD(l:List (List UInt8)):Nat:=(l.map fun n=>2+n.length).sum
theorem zC(a b:List Nd):rD (s7 (a++b))=rD (s7 a)+rD (s7 b):=by unfold rD s7;rw[aR,aR,dT]
structure xo(l:List (List UInt8))(c:Nat):Prop where
 nm:∀n∈l,n=[]\/kU n
 sum:rD l<=2*c
theorem xo.more{l:List (List UInt8)}{c c':Nat}(h:xo l c)(hc:c<=c'):xo l c':=⟨h.nm,by have:=h.sum;omega⟩
theorem RP{c:Nat}(h:xo (s7 g.nodes) c)(ht:FA t):xo (s7 (g.take t).2.nodes) (c+(jG t).length):=by
 have stay:xo (s7 g.nodes) (c+(jG t).length):=h.more (by omega);have put:∀n:Nd,(n.name=[]\/kU n.name)->2+n.name.length<=2*(jG t).length->xo (s7 (g.put n).nodes) (c+(jG t).length):=fun n h1 h2=>by
  rw[Ve];refine⟨fun a ha=>?_,?_⟩
  ·rcases List.mem_append.1 ha with ha|ha
   ·exact h.nm a ha
   ·rw[aJ]at ha;rw[ha];exact h1
  ·have:=h.sum;have e:rD (s7 g.nodes++[n.name])=rD (s7 g.nodes)+(2+n.name.length):=by simp[rD]
   omega
 have hp:=FU t;unfold Gr.take;split
 ·rename_i hk;split
  ·exact stay
  ·split
   ·exact stay
   ·have hn:kU t.name:=by
     rcases ht with⟨_,a,_⟩|⟨e,_⟩|⟨e,_⟩
     ·exact a
     ·omega
     ·omega
    refine put (elemOf t) (Or.inr hn) ?_;unfold jG;rw[if_pos hk];simp only[elemOf,au,af,aF];omega
 ·split
  ·split
   ·exact stay
   ·split<;>exact stay
  ·split
   ·split<;>exact stay
   ·exact put (jo t) (Or.inl rfl) (by simp only[jo,aF];omega)
theorem F_:∀(l:List Tok) (g:Gr) (b:Bool) (c:Nat),pD b l->xo (s7 g.nodes) c->xo (s7 (grow g l).2.2.nodes) (c+cost l)
 |[],g,b,c,_,h=>by simpa [grow,cost]using h
 |t::l,g,b,c,hc,h=>by
  have e:cost (t::l)=(jG t).length+cost l:=by simp[cost]
  rw[e];simp only[grow];split
  ·exact h.more (by omega)
  ·exact(F_ l (g.take t).2 _ _ hc.2.2 (RP h hc.1)).more (by omega)
theorem sr(s:ByteArray):xo (s7 (fj s).1) (64*s.size):=by
 have h0:∀c,xo [] c:=fun c=>⟨fun n h=>(by cases h),aq _⟩
 unfold fj;split
 ·exact h0 _
 ·split
  ·exact h0 _
  ·split
   ·exact h0 _
   ·exact(F_ _ Gr.zero _ 0 (Bt s) (h0 0)).more (by have:=tR s;omega)
end
end K
theorem Kp{l:List K.Nd}{c:Nat}(h:K.xo (K.s7 l) c):U9 l:=by
 intro n hn;unfold iT;split
 ·decide
 ·next hne=>
  rcases h.nm n.name (cD hn)with e|e
  ·exact absurd e hne
  ·exact K.Vd e
theorem Kq{l:List K.Nd}(T:K.mJ l):∀(m k:Nat),k<m->k<l.length->(sI l k).length<=K.rD (K.s7 (l.take (k+1)))
 |0,k,h,_=>by omega
 |m+1,k,h,hk=>by
  have hn:l[k]?=some l[k]:=ap hk;rw[Jn T hn,cL,hn];have e:K.rD (K.s7 (l.take k++[l[k]]))=K.rD (K.s7 (l.take k))+(2+l[k].name.length):=by rw[K.zC];rfl
  have hp:(iT l[k]).length<=1+l[k].name.length:=by unfold iT;split<;>simp
  have:(if 0<=l[k].up then sI l l[k].up.toNat else []).length<=K.rD (K.s7 (l.take k)):=by
   split
   ·next hu=>
    cases k with
    |zero=>have:=(T.zero _ hn).1;omega
    |succ k=>
     obtain⟨u,h1,h2,-⟩:=T.up k _ hn;rw[h1,aG];have ih:=Kq T m u (by omega) (by omega);refine aw ih ?_;have e2:l.take (k+1)=l.take (u+1)++(l.take (k+1)).drop (u+1):=by
      conv=>lhs;rw[<-dm (u+1) (l.take (k+1))]
      rw[dK,Nat.min_eq_left (by omega)]
     rw[e2,K.zC];exact cj _ _
   ·exact aq _
  show ((if 0<=l[k].up then sI l l[k].up.toNat else [])++47::iT l[k]).length<=K.rD (K.s7 (l.take k++[l[k]]));rw[e,af,au];omega
theorem BK{s:ByteArray}(h:(K.fj s).2.1=0){k:Nat}(hk:k<(K.fj s).1.length):(sI (K.fj s).1 k).length<=128*s.size:=by
 have T:=(K.xE h).1;have h1:=Kq T (k+1) k (by omega) hk;have h2:=(K.sr s).sum;have h3:K.rD (K.s7 ((K.fj s).1.take (k+1)))<=K.rD (K.s7 (K.fj s).1):=by
  conv=>rhs;rw[<-dm (k+1) (K.fj s).1]
  rw[K.zC];exact cj _ _
 omega
theorem wo(s:ByteArray):(K.fj s).1.length<=128*s.size:=by
 have h2:=(K.sr s).sum;have h3:∀l:List K.Nd,l.length<=K.rD (K.s7 l):=fun l=>by
  induction l with
  |nil=>simp
  |cons n l ih=>simp only[K.rD,K.s7,bC,List.sum_cons,au]at ih ⊢;omega
 have:=h3 (K.fj s).1;omega
end Go.Proofs.YthlcmljckpdheaaGreatDoor
namespace Go.Proofs.YthlcmljckpdheaaGreatDoor
open Go.RowKit Go.Maps Go.Lib Tryz
section
variable{w w' w1 w2 wr:World}{X mb lo:Nat}{lv ov:Value}{c:Cn}{l:List K.Nd}{i B:Nat}{n:K.Nd}{s:ByteArray}{a:Addr}
def Yq(lo:Nat)(w:World)(v:Value)(ls:List (L×Nat)):Prop:=w.ownsRow 0 31 2 v ls.length (k9 ls)/\∀k,v.ownBlock=some k->lo<=k
def kV(s:ByteArray):List (L×Nat):=if(K.fj s).2.1=0 then(aaB (K.fj s).1).labels else []
def Kr(w:World)(s:ByteArray)(e:Ending)(w':World):Prop:=∃v,e=.returned (.tuple #[v,.int .i64 (K.fj s).2.1,.int .i64 (K.fj s).2.2])/\Yq w.heap.size w' v (kV s)/\Z5 w w'/\((K.fj s).2.1≠0->v=K.fK)
theorem Ga(h:(K.fj s).2.1=0):(K.fj s).2.2=0:=by
 unfold K.fj at h ⊢;split
 ·rename_i h1;rw[if_pos h1]at h;exact absurd h h1
 ·rename_i h1;rw[if_neg h1]at h;split
  ·rename_i h2;rw[if_pos h2]at h;exact absurd h h2
  ·rename_i h2;rw[if_neg h2]at h;split
   ·rename_i h3;rw[if_pos h3]at h;simp at h
   ·rfl
structure OI(w1:World)(l:List K.Nd)(B X mb:Nat)(i:Nat)(wr:World):Prop where
 ex:∃lv ov c,CM w1.heap.size X mb lv ov c wr/\c=(l.take i).foldl Cn.take Cn.zero/\CI l i c/\CB i B c
 b:Z5 w1 wr
theorem OI.start(w1:World)(l:List K.Nd)(B:Nat):OI w1 l B (w1.heap.size+1) w1.heap.size 0 ((w1.alloc (.map #[] 0)).alloc (.cells #[.slice none 0 0,.map (some w1.heap.size),.slice none 0 0] 41)):=by
 have h1:=eL (w1.alloc (.map #[] 0)) (.cells #[.slice none 0 0,.map (some w1.heap.size),.slice none 0 0] 41);rw[bA]at h1;refine⟨⟨_,_,Cn.zero,⟨h1,bp _ _ _ _,(jb.new w1 73).of (ak _ _ _ (by simp)),bp _ _ _ _,by omega,aj _,fun k e=>(by cases e),fun k e=>(by cases e)⟩,rfl,CI.zero l,CB.zero B⟩,((Below.refl _ _).alloc (aj _) _).alloc (by simp) _⟩
theorem OI.alloc(h:OI w1 l B X mb i wr)(o:Obj):OI w1 l B X mb i (wr.alloc o):=by
 obtain⟨⟨lv,ov,c,hc,r⟩,hb⟩:=h;have hs:∀k,k<wr.heap.size->(wr.alloc o).heap[k]?=wr.heap[k]?:=fun k hk=>ak _ _ _ hk;exact⟨⟨lv,ov,c,⟨(hs _ (eO hc.blk)).trans hc.blk,eH hc.kr fun k e=>hs k (eW hc.kr e),hc.map.of (hs _ hc.map.lt),eH hc.kI fun k e=>hs k (eW hc.kI e),hc.new⟩,r⟩,hb.alloc hb.size o⟩
theorem OI.call(h:OI w1 l B X mb i wr)(T:K.mJ l)(S:U9 l)(hn:l[i]?=some n)(hi:i<=1000000000000)(hB:B<=1000000000000)(hp:(sI l i).length<=B)(av kv:Value):
  Z4 9 #[Z8 X,.agg #[K.e8 n.name,av,K.e8 n.text,kv,.int .i64 n.up]] wr fun e w'=>e=.returned (.tuple #[])/\OI w1 l B X mb (i+1) w':=by
 obtain⟨⟨lv,ov,c,hc,e,I,b⟩,hb⟩:=h;have Ww:(ol c.labels (c.ahead n)++47::iT n).length<=B:=by
  rw[BH,(I.ahead T hn).2];exact hp
 refine(RO I b T hn hi hB Ww hc hb.size av kv).mono ?_;rintro x w' ⟨rfl,lv',tU,hc',hb'⟩;refine⟨rfl,⟨lv',tU,_,hc',?_,(I.take T S hn).1,b.take Ww⟩,hb.trans hb'⟩;rw[e,cL,hn,cB];rfl
theorem RQ(gl:K.Gl w a)(hs:s.size<=268435456)(h0:(K.fj s).2.1=0):Z4 4 #[.string s] w (Kr w s):=by
 have HP:=a_ (K.qJ s w gl hs);have DS:=Cg;have T:=(K.xE h0).1;have S:=Kp (K.sr s);have hpb:∀k,k<(K.fj s).1.length->(sI (K.fj s).1 k).length<=128*s.size:=fun k hk=>BK h0 hk;have Nz:=wo s;have hat:=Ga h0;have DK:kV s=(aaB (K.fj s).1).labels:=by unfold kV;rw[if_pos h0]
 have Za:=a_ DK;have SS:=a_ h0;have sQ:=a_ hat;have HT:=a_ T;have HS:=a_ S;have HPB:=a_ hpb;have V6:=a_ Nz;clear T S hpb Nz DK gl;go_enter func4,ntmps4;go_wp2_with(go_at_call 8;refine HP.out.mono ?_;rintro e w1 ⟨v,rfl,hN,qL,-⟩;rw[h0,hat];have wq:=a_ qL;obtain⟨A,Kk,av,kv,hN,-⟩:=hN;obtain⟨ni,nc,hv⟩:=eF hN.row;subst hv;have HN:=a_ hN;clear qL hN hat h0;have HO:=a_ (OI.start w1 (K.fj s).1 (128*s.size));generalize (K.fj s).1=l at*);go_loopw [10,25] (fun _ iv wr=>∃k:Nat,iv=.int .i64 k/\k<=l.length/\OI w1 l (128*s.size) (w1.heap.size+1) w1.heap.size k wr) (fun _ iv _=>l.length-(RowKit.intOf iv).toNat)
 case atStart=>exact⟨0,rfl,aq _,HO.out⟩
 case round=>
  obtain⟨k,rfl,hk,hoi⟩:=hrel;by_cases mN:k<l.length
  ·have hdec:decide ((k:Int)<l.length)=true:=by simp;omega
   have zv:decide (k<l.length)=true:=by simp;omega
   have UY:(k:Int)<l.length:=by omega
   have hn:l[k]?=some l[k]:=ap mN;obtain⟨g,cap,eT,hmx,-,x0,x1,x2,x3,x4⟩:=HN.out.cells k _ hn;have UO:(l.length:Int)<=9223372036854775807:=by have:maxLen=9223372036854775807:=rfl;omega
   cases eT;have hlt:g<w1.heap.size:=aU w1 _ x0;have fy:=fun o=>(hoi.alloc o).call HT.out HS.out hn (by have:=V6.out;omega) (by omega) (HPB.out k mN) (av k) (kv k);obtain⟨ai,ac,ng⟩:=eF (HN.out.attr k _ hn);obtain⟨ki,kc,vw⟩:=eF (HN.out.kid k _ hn);rw[ng]at x1;rw[vw]at x3;rw[ng,vw]at fy;have y:∀j,wr.cell? ⟨g,j,none⟩=w1.cell? ⟨g,j,none⟩:=fun j=>ag (hoi.b.block g hlt);have y0:=(y _).trans x0;have y1:=(y _).trans x1;have y2:=(y _).trans x2;have y3:=(y _).trans x3;have y4:=(y _).trans x4;unfold K.e8 at y0 y2 fy;have HC:=a_ fy;clear fy hoi x0 x1 x2 x3 x4 y hn ng vw;generalize l[k]=n at*
   go_wp2_with(go_at_call 9;refine(HC.out _).mono ?_;rintro e w5 ⟨rfl,hoi⟩;have HOI:=a_ hoi;clear hoi);exact⟨⟨k+1,by simp,by omega,HOI.out⟩,by simp only[RowKit.intOf];omega⟩
  ·have hdec:decide ((k:Int)<l.length)=false:=by simp;omega
   have zv:decide (k<l.length)=false:=by simp;omega
   have he:k=l.length:=by omega
   subst he;obtain⟨⟨lv,ov,c,hc,e,I,b⟩,hb⟩:=hoi;have Yp:c.labels=kV s:=by rw[Za.out,e,bH];rfl
   have x0:wr.cell? ⟨w1.heap.size+1,0,none⟩=some lv:=cell_of hc.blk rfl;have HE:=a_ (show Yq w.heap.size wr lv (kV s)/\Z5 w wr from⟨by
    rw[<-Yp];exact⟨hc.kr,fun k e=>aw wq.out.size (hc.new.2.2.1 k e)⟩,wq.out.trans (hb.mono wq.out.size)⟩)
   clear hc I b hb e Yp;go_wp2_with fail
   go_ret3
   refine⟨lv,?_,HE.out.1,HE.out.2,fun h=>absurd SS.out h⟩;rw[SS.out,sQ.out];rfl
theorem Vf(gl:K.Gl w a)(hs:s.size<=268435456)(h0:(K.fj s).2.1≠0):Z4 4 #[.string s] w (Kr w s):=by
 have HP:=a_ (K.qJ s w gl hs);have DK:kV s=[]:=by unfold kV;rw[if_neg h0]
 have hne:((K.fj s).2.1 !=0)=true:=by simpa using h0
 have H0:=a_ h0;clear gl h0;go_enter func4,ntmps4;go_wp2_with(go_at_call 8;refine HP.out.mono ?_;rintro e w1 ⟨v,rfl,-,qL,hv⟩;obtain rfl:=hv H0.out;have wq:=a_ qL;clear qL hv)
 go_ret3
 exact⟨_,rfl,⟨by rw[DK];exact bp _ _ _ _,fun k e=>(by cases e)⟩,wq.out,fun _=>rfl⟩
theorem Jq(gl:K.Gl w a)(hs:s.size<=268435456):Z4 4 #[.string s] w (Kr w s):=by
 by_cases h0:(K.fj s).2.1=0
 ·exact RQ gl hs h0
 ·exact Vf gl hs h0
end
section
variable{w w' w1 w2 wr:World}{v u:Value}{l:List K.Nd}{n:K.Nd}{k:Nat}
def mW(l:List L):List Value:=l.map fun x=> .string (bs x)
def Dx(l:List K.Nd):Nat->Int->List L
 |0,_=>[]
 |f+1,u=>if u<0 then []else match l[u.toNat]? with
  |some n=>Dx l f n.up++(if n.name=[]then []else [n.name])
  |none=>[]
def xp(l:List K.Nd)(k:Nat):List L:=Dx l (k+1) k
theorem Ns(T:K.mJ l):∀(k f:Nat),k<f->k<l.length->Dx l f k=xp l k:=by
 intro k;induction k using Nat.strongRecOn with
 |_ k ih=>
  intro f hf hk;obtain⟨f,rfl⟩:∃g,f=g+1:=⟨f-1,by omega⟩
  have hn:l[k]?=some l[k]:=ap hk;unfold xp;rw[Dx,Dx,if_neg (by omega),if_neg (by omega),aG,hn];simp only;congr 1;cases k with
  |zero=>
   rw[(T.zero _ hn).1];cases f with
   |zero=>rfl
   |succ f=>simp[Dx]
  |succ k=>
   obtain⟨u,h1,h2,-⟩:=T.up k _ hn;rw[h1];have hu:=ih u (by omega);rw[hu f (by omega) (by omega),hu (k+1) (by omega) (by omega)]
theorem xJ(T:K.mJ l)(h:l[k]?=some n):xp l k=(if 0<=n.up then xp l n.up.toNat else [])++(if n.name=[]then []else [n.name]):=by
 have hk:=(List.getElem?_eq_some_iff.1 h).1;have e:xp l k=Dx l k n.up++(if n.name=[]then []else [n.name]):=by
  show Dx l (k+1) k=_;rw[Dx,if_neg (by omega),aG,h]
 rw[e];congr 1;cases k with
 |zero=>
  rw[(T.zero _ h).1];rfl
 |succ k=>
  obtain⟨u,h1,h2,-⟩:=T.up k _ h;rw[h1,if_pos (by omega),aG];exact Ns T u (k+1) (by omega) (by omega)
def iJ(r:List L):L:=r.flatMap fun x=>47::x
theorem su(a b:List L):iJ (a++b)=iJ a++iJ b:=cr
theorem Ks(T:K.mJ l):∀(m k:Nat) (n:K.Nd),k<m->l[k]?=some n->iJ (xp l k)++(if n.name=[]then [47,35]else [])=sI l k
 |0,k,n,h,_=>by omega
 |m+1,k,n,h,hn=>by
  have hk:=(List.getElem?_eq_some_iff.1 hn).1;rw[xJ T hn,Jn T hn,su];have l8:iJ (if 0<=n.up then xp l n.up.toNat else [])=(if 0<=n.up then sI l n.up.toNat else []):=by
   split
   ·next hu=>
    cases k with
    |zero=>have:=(T.zero _ hn).1;omega
    |succ k=>
     obtain⟨u,h1,h2,m2,h3,h4⟩:=T.up k _ hn;rw[h1,aG];have:=Ks T m u m2 (by omega) h3;rw[if_neg h4,aM]at this;exact this
   ·rfl
  rw[l8,bt];congr 1;unfold iT;split
  ·simp[iJ]
  ·simp[iJ]
theorem Kt(T:K.mJ l):∀(m k:Nat),k<m->k<l.length->(xp l k).length<=k+1
 |0,k,h,_=>by omega
 |m+1,k,h,hk=>by
  have hn:l[k]?=some l[k]:=ap hk;rw[xJ T hn,af];have h1:(if l[k].name=[]then([]:List L)else [l[k].name]).length<=1:=by split<;>simp
  have h2:(if 0<=l[k].up then xp l l[k].up.toNat else []).length<=k:=by
   split
   ·next hu=>
    cases k with
    |zero=>have:=(T.zero _ hn).1;omega
    |succ k=>
     obtain⟨u,e,h2,-⟩:=T.up k _ hn;rw[e,aG];have:=Kt T m u (by omega) (by omega);omega
   ·simp
  omega
def Yr(lo:Nat)(w:World)(v:Value)(r:List L):Prop:=w.ownsRow 0 9 1 v r.length (mW r)/\∀k,v.ownBlock=some k->lo<=k
theorem Nt{l r:List L}(hown:w.ownsRow 0 9 1 v l.length (mW l))(h:w.ownsRow 0 9 1 u r.length (mW r))(hl:l.length+r.length<=1000000000000):
  ∃va vn vc w',(Builtin.append_ #[49,49] 49 #[v,u]).run prog w=.ok (.slice va vn vc) w'/\w'.ownsRow 0 9 1 (.slice va vn vc) (l++r).length (mW (l++r))/\w.grownBy w' v.ownBlock/\((Value.slice va vn vc).ownBlock=v.ownBlock\/(Value.slice va vn vc).ownBlock=some w.heap.size):=by
 obtain⟨i0,hi,hz0,hz1,hz2⟩:=aZ K.Kf;have es:mW (l++r)=mW l++mW r:=by unfold mW;rw[aR]
 rw[es,af];rcases id h.2 with⟨rfl,h0⟩|⟨g,cap,cur,rfl,_⟩
 ·have h0:r=[]:=List.length_eq_zero_iff.1 h0;subst h0;obtain⟨va,vn,vc,rfl⟩:=eX hown;refine⟨va,vn,vc,w,?_,by simpa [mW]using hown,⟨rfl,rfl,rfl,aj _,fun _ _ _=>rfl⟩,Or.inl rfl⟩;rcases hown.2 with⟨e1,e2⟩|⟨g,cap',cur,e1,_,_,vr,_⟩
  ·cases e1;simp[Builtin.append_,ed underlying49,sizeOf,typeInfo,hi,Builtin.lenOf,Builtin.firstCells]
  ·cases e1;simp[Builtin.append_,ed underlying49,sizeOf,typeInfo,hi,Builtin.lenOf,Builtin.firstCells,vr,storeCells]
 ·have h1c:∀u∈mW r,u.oneCell'=true:=by
   intro u hu;unfold mW at hu;obtain⟨x,hx,rfl⟩:=List.mem_map.1 hu;rfl
  have hcell:∀j u,(mW r)[j]?=some u->w.cell? ((⟨g,0,none⟩:Addr).add j)=some u:=fun j u hj=>by
   rw[dv,ax];have hjl:=(List.getElem?_eq_some_iff.1 hj).1;have:=h.1;exact(h.cellAt j (by omega)).trans hj
  obtain⟨v',w',q,q1,q2,_,q3⟩:=cJ (P:=prog) w 0 49 49 9 i0 _ 1 16 underlying49 hi hz0 hz1 hz2 rfl (by decide) v l.length (mW l) hown ⟨g,0,none⟩ r.length cap (mW r) (by simp[mW]) hcell h1c (by unfold maxLen;omega) (by omega) (aq _);obtain⟨va,vn,vc,rfl⟩:=eX q1;exact⟨va,vn,vc,w',q,q1,q2,q3⟩
def Nu(w:World)(r:List L)(e:Ending)(w':World):Prop:=∃va vn vc,e=.returned (.slice va vn vc)/\Yr w.heap.size w' (.slice va vn vc) r/\Z5 w w'
theorem Vg(ai:Option Addr)(m c:Nat)(w:World):Z4 11 #[.slice ai m c,.int .i64 (-1)] w (Nu w []):=by
 go_enter func11,ntmps11;go_wp2;go_ret;exact⟨none,0,0,rfl,⟨bp _ _ _ _,fun k e=>(by cases e)⟩,Below.refl _ _⟩
theorem Vh{r:List L}{x:L}{ra:Option Addr}{rc:Nat}{o:Obj}(h1:w.heap.size<=w1.heap.size)(hb:Z5 w w2)(h3:(Value.slice ra r.length rc).ownBlock=(Value.slice none 0 0).ownBlock\/(Value.slice ra r.length rc).ownBlock=some w1.heap.size):∀v' w',w'.ownsRow 0 9 1 v' (r.length+1) (mW r++[.string (bs x)])->(w2.alloc o).grownBy w' (Value.slice ra r.length rc).ownBlock->(v'.ownBlock=(Value.slice ra r.length rc).ownBlock\/v'.ownBlock=some (w2.alloc o).heap.size)->Nu w (r++[x]) (.returned v') w':=by
 intro v' w' ho hg hat;have hn:∀k,(Value.slice ra r.length rc).ownBlock=some k->w.heap.size<=k:=fun k e=>by
  rcases h3 with h|h
  ·rw[h]at e;cases e
  ·rw[h]at e;cases e;exact h1
 have hz:w.heap.size<=(w2.alloc o).heap.size:=by rw[bA];exact dl hb.size
 have Eo:Z5 w w':=(hb.alloc hb.size o).grown hg hz fun k e=>hn k e;obtain⟨a,n,c,rfl⟩:=eX ho;refine⟨a,n,c,rfl,⟨?_,fun k e=>?_⟩,Eo⟩
 ·have es:mW (r++[x])=mW r++[.string (bs x)]:=by unfold mW;rw[aR];rfl
  rw[es,af];exact ho
 ·rcases hat with h|h
  ·exact hn k (by rw[<-h,e])
  ·rw[h]at e;cases e;exact hz
variable{A Kk:Nat->Prop}{av kv:Nat->Value}
theorem RT(hn:l[k]?=some n)(hl:l.length<=1000000000000)(N:K.ic 53 219 A Kk w v l av kv){r:List L}(hr:r.length+1<=1000000000000)(hc:Z4 11 #[v,.int .i64 n.up] w (Nu w r)):Z4 11 #[v,.int .i64 k] w (Nu w (r++(if n.name=[]then []else [n.name]))):=by
 have mN:=(List.getElem?_eq_some_iff.1 hn).1;obtain⟨g,cap,rfl,hmx,-,x0,-,-,-,x4⟩:=N.cells k _ hn;have hlt:g<w.heap.size:=aU w _ x0;have Sk:¬((k:Int)<0):=by omega
 have UY:(k:Int)<l.length:=by omega
 have HC:=a_ hc;have HX:Hid (∀W,Z5 w W->W.cell? ⟨g,k*5,none⟩=some (.string (bs n.name))):=fun W hb=>(ag (hb.block g hlt)).trans x0;clear hc N x0;generalize l.length=m at*
 by_cases he:n.name=[]
 ·rw[if_pos he,aM];have NZ:(bs n.name).toList.isEmpty=true:=by rw[he,gP];rfl
  clear he;generalize bs n.name=S at*
  go_enter func11,ntmps11;go_wp2_with(go_at_call 11;refine HC.out.mono ?_;rintro e w1 ⟨va,vn,vc,rfl,h1,h2⟩;have x1:=HX.out _ h2;have H1:=a_ h1;have H2:=a_ h2;clear h1 h2);go_ret;exact⟨va,vn,vc,rfl,H1.out,H2.out⟩
 ·rw[if_neg he];have NZ:(bs n.name).toList.isEmpty=false:=by rw[gP];cases h:n.name with|nil=>exact absurd h he|cons x y=>rfl
  obtain⟨i0,qA,hz0,hz1,hz2⟩:=aZ K.Kf;have HSM:Hid (∀x:L,mW (r++[x])=mW r++[.string (bs x)]):=fun x=>by unfold mW;rw[aR];rfl
  clear he;go_enter func11,ntmps11;go_wp2_with(first
   |(go_at_call 11;refine HC.out.mono ?_;rintro e w1 ⟨va,vn,vc,rfl,h1,h2⟩;have x1:=HX.out _ h2;obtain⟨ra,rn,rc,w2,q,q1,q2,q3⟩:=Nt (l:=[]) (bp w1 0 9 1) h1.1 (by simp;omega);rw[bV]at q1;obtain⟨ra',rc',e'⟩:=eF q1;cases e';have hb2:Z5 w w2:=h2.grown q2 h2.size (fun j e=>by cases e);have x2:=HX.out _ hb2;have HO:=a_ (eH (w':=w2.alloc (.cells #[.string (bs n.name)] 9)) q1 fun k e=>ak _ _ _ (eW q1 e));have HN:=a_ (b8 w2 (.string (bs n.name)) 9);have HE:=a_ (Vh (x:=n.name) (o:=.cells #[.string (bs n.name)] 9) h2.size hb2 q3);clear h1 q1 q2 q3 hb2 h2)
   |(at_builtin;refine Lib.wpList_append_run _ rfl _ _ _ _ rfl _ _ rfl rfl _ _ q ?_;clear q)
   |(at_builtin;refine aK (w:=_) rfl _ _ 49 rfl 0 9 i0 _ 1 16 underlying49 qA hz0 hz1 hz2 rfl (by decide) (.slice ra r.length rc) r.length (mW r) rfl HO.out ⟨w2.heap.size,0,none⟩ 1 1 [.string (bs n.name)] rfl rfl HN.out (by simp[Value.oneCell']) (by unfold maxLen;omega) (by omega) (aq _) ?_;intro v7 w7 jg ku _ gK;have HE:=a_ (HE.out _ _ jg ku gK);obtain⟨a7,n7,c7,rfl⟩:=eX jg;clear jg ku gK))
  go_ret;exact HE.out
theorem RU(T:K.mJ l)(hl:l.length<=100000000000)(N:K.ic 53 219 A Kk w v l av kv):∀(m k:Nat),k<m->k<l.length->Z4 11 #[v,.int .i64 k] w (Nu w (xp l k))
 |0,k,h,_=>by omega
 |m+1,k,h,hk=>by
  have hn:l[k]?=some l[k]:=ap hk;rw[xJ T hn];refine RT hn (by omega) N ?_ ?_
  ·have:=Kt T (k+1) k (by omega) hk;rw[xJ T hn,af]at this;omega
  ·cases k with
   |zero=>
    obtain⟨ai,c,rfl⟩:=eF N.row;rw[(T.zero _ hn).1];exact Vg _ _ _ _
   |succ k=>
    obtain⟨u,h1,h2,-⟩:=T.up k _ hn;rw[h1,if_pos (by omega),aG];exact RU T hl N m u (by omega) (by omega)
end
section
variable{w w' w1 w2 wr:World}{v u:Value}{lo k:Nat}{ls:List (L×Nat)}{s:L}
def Nv(lo:Nat)(w:World)(v:Value)(ls:List (L×Nat)):Prop:=w.ownsRow 0 32 2 v ls.length (k9 ls)/\∀k,v.ownBlock=some k->lo<=k
def RV(lo:Nat)(w:World)(ls:List (L×Nat))(e:Ending)(w':World):Prop:=∃a n c,e=.returned (.slice a n c)/\Nv lo w' (.slice a n c) ls/\Below lo w w'
theorem aaD:(prog.info? 32).map (fun i=>(i.zero,i.size,i.bytes))=some (some (.agg #[.string ⟨#[]⟩,.int .i64 0]),2,24):=by kernel_rfl
theorem tX{t:TypeId}{x:L×Nat}(h:w.ownsRow 0 t 2 v ls.length (k9 ls))(hx:ls[k]?=some x):∃g cap,v=Z9 g ls.length cap/\w.cell? ⟨g,k*2,none⟩=some (.string (bs x.1))/\w.cell? ⟨g,k*2+1,none⟩=some (.int .i64 (x.2:Nat))/\w.frozen? ⟨g,k*2+1,none⟩=false/\w.frozen? ⟨g,k*2,none⟩=false:=by
 have hk:=(List.getElem?_eq_some_iff.1 hx).1;have ll:(k9 ls).length=ls.length*2:=h.1;obtain⟨a1,a2⟩:=Dv _ _ _ hx;rcases h.2 with⟨_,hz⟩|⟨g,cap,cur,rfl,_⟩
 ·omega
 ·exact⟨g,cap,rfl,(h.cellAt _ (by omega)).trans a1,(h.cellAt _ (by omega)).trans a2,h.frozenAt _,h.frozenAt _⟩
theorem Nv.drewN(h:Nv lo w v ls)(m:Nat):Nv lo (w.drewN m) v ls:=⟨eH h.1 fun _ _=>rfl,h.2⟩
theorem Vi{ai:Option Addr}{ac:Nat}{o:Obj}(hb:∀k,(Value.slice ai ls.length ac).ownBlock=some k->lo<=k)(ox:lo<=w.heap.size):∀v' w',w'.ownsRow 0 32 2 v' (ls.length+1) (k9 ls++[.string (bs s),.int .i64 1])->(w.alloc o).grownBy w' (Value.slice ai ls.length ac).ownBlock->(v'.ownBlock=(Value.slice ai ls.length ac).ownBlock\/v'.ownBlock=some (w.alloc o).heap.size)->RV lo w (ls++[(s,1)]) (.returned v') w':=by
 intro v' w' ho hg hat;have hz:lo<=(w.alloc o).heap.size:=by rw[bA];omega
 obtain⟨a,n,c,rfl⟩:=eX ho;refine⟨a,n,c,rfl,⟨?_,fun k e=>?_⟩,((Below.refl _ _).alloc ox o).grown hg hz hb⟩
 ·rw[F8,af];exact ho
 ·rcases hat with h|h
  ·exact hb k (by rw[<-h,e])
  ·rw[h]at e;cases e;exact hz
theorem count_hit(h:Nv lo w v ls)(ox:lo<=w.heap.size)(hl:ls.length<=1000000000000)(hc:∀x∈ls,x.2<=1000000000000)(hk:(ls.findIdx? fun x=>x.1==s)=some k):Z4 12 #[v,.string (bs s)] w (RV lo w (ls.modify k fun x=>(x.1,x.2+1))):=by
 obtain⟨ai,ac,rfl⟩:=eF h.1;obtain⟨mN,Om,hkn⟩:=List.findIdx?_eq_some_iff_getElem.1 hk;have HL:=a_ h;clear h hk;go_enter func12,ntmps12;go_wp2_with fail;go_loopw [5] (fun iv wr=>∃i:Nat,iv=.int .i64 i/\i<=k/\w=wr) (fun iv _=>ls.length-(RowKit.intOf iv).toNat)
 case atStart=>exact⟨0,rfl,aq _,rfl⟩
 case round=>
  obtain⟨i,rfl,hi,rfl⟩:=hrel;have qM:i<ls.length:=by omega
  have hdec:decide ((i:Int)<ls.length)=true:=by simp;omega
  have B8:(i:Int)<ls.length:=by omega
  have hx:ls[i]?=some ls[i]:=ap qM;obtain⟨g,cap,e,c0,c1,f1,-⟩:=tX HL.out.1 hx;cases e;by_cases hik:i<k
  ·have hq:((bs ls[i].1).toList==(bs s).toList)=false:=by
    rw[gP,gP];exact Bool.eq_false_iff.2 (hkn i hik)
   clear Om hkn hx f1 c1 hc;generalize bs ls[i].1=S1 at*
   go_wp2_with fail;exact⟨⟨i+1,by simp,by omega,by simp⟩,by simp only[RowKit.intOf];omega⟩
  ·obtain rfl:i=k:=by omega
   have hq:((bs ls[i].1).toList==(bs s).toList)=true:=by
    rw[gP,gP];exact Om
   have hx2:=hc _ (bR qM);have hwr:IntKind.i64.wrap ((ls[i].2:Nat)+1:Int)=((ls[i].2:Nat)+1:Int):=by rw[aI];omega
   have HE:=a_ (show RV lo w (ls.modify i fun x=>(x.1,x.2+1)) (.returned (Z9 g ls.length ac)) (w.setCell ⟨g,i*2+1,none⟩ (.int .i64 (((ls[i].2:Nat):Int)+1)))from by
    obtain⟨s1,s2⟩:=HL.out.1.stored (i*2+1) (.int .i64 ((ls[i].2+1:Nat):Int));rw[zA _ _ _ hx]at s1;refine⟨_,_,_,rfl,⟨?_,HL.out.2⟩,(Below.refl _ _).setCell (HL.out.2 g rfl) _⟩;rw[bn];exact s1)
   clear Om hkn hx hc hx2;generalize bs ls[i].1=S1 at*
   generalize ls[i].2=x2 at*
   go_wp2_with fail;go_ret;exact HE.out
theorem count_miss(h:Nv lo w v ls)(ox:lo<=w.heap.size)(hl:ls.length<=1000000000000)(hk:(ls.findIdx? fun x=>x.1==s)=none):Z4 12 #[v,.string (bs s)] w (RV lo w (ls++[(s,1)])):=by
 obtain⟨ai,ac,rfl⟩:=eF h.1;have hkn:=List.findIdx?_eq_none_iff.1 hk;obtain⟨i0,qA,hz0,hz1,hz2⟩:=aZ aaD;have HO:=a_ (eH (w':=w.alloc (.cells #[.string (bs s),.int .i64 1] 32)) h.1 fun k e=>ak _ _ _ (eW h.1 e));have HN:=a_ (pN [.string (bs s),.int .i64 1] 32 w);have HE:=a_ (Vi (o:=.cells #[.string (bs s),.int .i64 1] 32) (s:=s) h.2 ox);have HL:=a_ h;clear h hk;go_enter func12,ntmps12;go_wp2_with fail;go_loopw [5] (fun iv wr=>∃i:Nat,iv=.int .i64 i/\i<=ls.length/\w=wr) (fun iv _=>ls.length-(RowKit.intOf iv).toNat)
 case atStart=>exact⟨0,rfl,aq _,rfl⟩
 case round=>
  obtain⟨i,rfl,hi,rfl⟩:=hrel;by_cases qM:i<ls.length
  ·have hdec:decide ((i:Int)<ls.length)=true:=by simp;omega
   have B8:(i:Int)<ls.length:=by omega
   have hx:ls[i]?=some ls[i]:=ap qM;obtain⟨g,cap,e,c0,c1,f1,-⟩:=tX HL.out.1 hx;cases e;have hq:((bs ls[i].1).toList==(bs s).toList)=false:=by
    rw[gP,gP];exact hkn _ (bR qM)
   clear hkn hx f1 c1;generalize bs ls[i].1=S1 at*
   go_wp2_with fail;exact⟨⟨i+1,by simp,by omega,by simp⟩,by simp only[RowKit.intOf];omega⟩
  ·have hdec:decide ((i:Int)<ls.length)=false:=by simp;omega
   clear hkn;go_wp2_with(at_builtin;refine aK (w:=_) rfl _ _ 26 rfl 0 32 i0 _ 2 24 underlying26 qA hz0 hz1 hz2 rfl (by decide) (.slice ai ls.length ac) ls.length (k9 ls) rfl HO.out ⟨w.heap.size,0,none⟩ 1 1 [.string (bs s),.int .i64 1] rfl rfl HN.out (by simp[Value.oneCell']) (by unfold maxLen;omega) (by omega) (aq _) ?_;intro v7 w7 jg ku _ gK;have HE:=a_ (HE.out _ _ jg ku gK);obtain⟨a7,n7,c7,rfl⟩:=eX jg;clear jg ku gK);go_ret;exact HE.out
theorem RX(h:Nv lo w v ls)(ox:lo<=w.heap.size)(hl:ls.length<=1000000000000)(hc:∀x∈ls,x.2<=1000000000000):Z4 12 #[v,.string (bs s)] w (RV lo w (tW ls s)):=by
 unfold tW;cases hk:ls.findIdx? fun x=>x.1==s with
 |some k=>exact count_hit h ox hl hc hk
 |none=>exact count_miss h ox hl hk
end
section
variable{w w' w1 w2 w3 wr:World}{v u:Value}{lo k:Nat}{ls:List (L×Nat)}{s:ByteArray}{l:List K.Nd}{A Kk:Nat->Prop}{av kv:Nat->Value}
def wY(s:ByteArray):List (L×Nat):=if(K.fj s).2.1=0 then s6 (K.fj s).1 (K.fj s).1.length else []
theorem Nw(s:ByteArray):kV s=wY s:=by
 unfold kV wY;split
 ·next h=>
  have:=(Km (K.xE h).1 (Kp (K.sr s)) _ (aj _)).2;rw[bH]at this;exact this
 ·rfl
theorem zD(l:List K.Nd)(k:Nat):s6 l (k+1)=tW (s6 l k) (sI l k):=by
 unfold s6;rw[List.range_succ,cB];rfl
theorem wu(l:List K.Nd):∀k,(s6 l k).length<=k/\∀x∈s6 l k,x.2<=k
 |0=>⟨aj _,fun x h=>(by cases h)⟩
 |k+1=>by
  obtain⟨h1,h2⟩:=wu l k;rw[zD];unfold tW;split
  ·refine⟨by rw[bn];omega,fun x hx=>?_⟩;obtain⟨y,hy,e1,e2⟩:=rC hx;have:=h2 y hy;omega
  ·refine⟨by rw[af];simp;omega,fun x hx=>?_⟩;rcases List.mem_append.1 hx with hx|hx
   ·have:=h2 x hx;omega
   ·rw[aJ]at hx;rw[hx];simp
theorem Nv.below(h:Nv lo w v ls)(hb:Z5 w w'):Nv lo w' v ls:=⟨eH h.1 fun k e=>hb.block k (eW h.1 e),h.2⟩
structure RI(w1:World)(l:List K.Nd)(k:Nat)(out:Value)(wr:World):Prop where
 ex:∃a m c,out=.slice a m c
 V4:Nv w1.heap.size wr out (s6 l k)
 b:Z5 w1 wr
theorem RI.start(w1:World)(l:List K.Nd):RI w1 l 0 (.slice none 0 0) w1:=⟨⟨_,_,_,rfl⟩,⟨bp _ _ _ _,fun k e=>(by cases e)⟩,Below.refl _ _⟩
theorem RI.row(h:RI w1 l k v wr)(T:K.mJ l)(hl:l.length<=100000000000)(N:K.ic 53 219 A Kk w1 u l av kv)(hk:k<l.length):Z4 11 #[u,.int .i64 k] wr (Nu wr (xp l k)):=
 RU T hl (N.frame (fun j hj _=>h.b.block j hj) (fun j hj _=>h.b.block j hj) (fun j _ x=>x)) (k+1) k (by omega) hk
theorem RI.count(h:RI w1 l k v wr)(hl:l.length<=100000000000)(hk:k<l.length)(hb:Z5 wr w3):Z4 12 #[v,.string (bs (sI l k))] w3 fun e w'=>∃a m c,e=.returned (.slice a m c)/\RI w1 l (k+1) (.slice a m c) w':=by
 obtain⟨h1,h2⟩:=wu l k;have hb3:Z5 w1 w3:=h.b.trans (hb.mono h.b.size);refine(RX (s:=sI l k) (h.V4.below hb) hb3.size (by omega) (fun x hx=>by have:=h2 x hx;omega)).mono ?_;rintro e w' ⟨a,m,c,rfl,q1,q2⟩;exact⟨a,m,c,rfl,⟨_,_,_,rfl⟩,by rw[zD];exact q1,hb3.trans q2⟩
theorem Jr(r:List L)(i:Nat):(iJ (r.take i)).length<=(iJ r).length:=by
 conv=>rhs;rw[<-dm i r,su,af]
 omega
theorem BL:∀r:List L,r.length<=(iJ r).length
 |[]=>aj _
 |x::r=>by
  have:=BL r;have e:iJ (x::r)=47::x++iJ r:=rfl;rw[e,af,au,au];omega
theorem abN(a:L):bs a++⟨#[47,35]⟩=bs (a++[47,35]):=by apply cq;apply dX;simp[bs]
theorem Js{r:List L}{i:Nat}{x:L}(h:r[i]?=some x):bs (iJ (r.take i)++[47])++bs x=bs (iJ (r.take (i+1))):=by
 rw[RM,cL,h,su];simp[iJ]
theorem Yr.at{r:List L}{i:Nat}{x:L}(h:Yr lo w v r)(hx:r[i]?=some x):∃g cap,v=Z9 g r.length cap/\w.cell? ⟨g,i,none⟩=some (.string (bs x)):=by
 have hi:=(List.getElem?_eq_some_iff.1 hx).1;have ll:(mW r).length=r.length*1:=h.1.1;rcases h.1.2 with⟨_,hz⟩|⟨g,cap,cur,rfl,_⟩
 ·omega
 ·refine⟨g,cap,rfl,(h.1.cellAt _ (by omega)).trans ?_⟩;unfold mW;rw[aH,hx];rfl
def ROf(w:World)(s:ByteArray)(e:Ending)(w':World):Prop:=∃v,e=.returned (.tuple #[v,.int .i64 (K.fj s).2.1,.int .i64 (K.fj s).2.2])/\Nv w.heap.size w' v (wY s)/\Z5 w w'
theorem RY(hs:s.size<=268435456)(h0:(K.fj s).2.1=0):Z4 5 #[.string s] w (ROf w s):=by
 have HP:=a_ (K.BF s w hs);have T:=(K.xE h0).1;have hpb:∀k,k<(K.fj s).1.length->(sI (K.fj s).1 k).length<=128*s.size:=fun k hk=>BK h0 hk;have Nz:=wo s;have hat:=Ga h0;have DK:wY s=s6 (K.fj s).1 (K.fj s).1.length:=by unfold wY;rw[if_pos h0]
 have Za:=a_ DK;have SS:=a_ h0;have sQ:=a_ hat;have HT:=a_ T;have HPB:=a_ hpb;have V6:=a_ Nz;clear T hpb Nz DK;go_enter func5,ntmps5;go_wp2_with(go_at_call 10;refine HP.out.mono ?_;rintro e w1 ⟨v,rfl,hN,qL⟩;rw[h0,hat];have wq:=a_ qL;obtain⟨A,Kk,av,kv,hN⟩:=hN;obtain⟨ni,nc,hv⟩:=eF hN.row;subst hv;have HN:=a_ hN;clear qL hN hat h0;generalize (K.fj s).1=l at*);go_loopw [8,9,10,11,12] (fun out nv _ _ _ wr=>∃k:Nat,nv=.int .i64 k/\k<=l.length/\RI w1 l k out wr) (fun _ nv _ _ _ _=>l.length-(RowKit.intOf nv).toNat)
 case atStart=>exact⟨0,rfl,aq _,RI.start w1 l⟩
 case round=>
  obtain⟨k,rfl,hk,V7⟩:=hrel;obtain⟨oa,om,oc,rfl⟩:=V7.ex;by_cases mN:k<l.length
  ·have hdec:decide ((k:Int)<l.length)=true:=by simp;omega
   have UY:(k:Int)<l.length:=by omega
   have hn:l[k]?=some l[k]:=ap mN;have hrow:=V7.row HT.out (by have:=V6.out;omega) HN.out mN;have aaE:=fun W (hb:Z5 wr W)=>V7.count (by have:=V6.out;omega) mN hb;have z7:=Ks HT.out (k+1) k _ (by omega) hn;have hpl:=HPB.out k mN;rw[<-z7]at hpl;rw[af]at hpl;obtain⟨g,cap,eT,hmx,-,x0,-⟩:=HN.out.cells k _ hn;cases eT;have hlt:g<w1.heap.size:=aU w1 _ x0;have HX:Hid (∀W,Z5 wr W->W.cell? ⟨g,k*5,none⟩=some (.string (bs l[k].name))):=fun W hb=>(ag ((V7.b.trans (hb.mono V7.b.size)).block g hlt)).trans x0;have HR:=a_ hrow;have HC:=a_ aaE;have YC:=a_ z7;clear V7 hrow aaE hn x0 z7;generalize xp l k=r at*
   have VG:=BL r;have UO:(r.length:Int)<=9223372036854775807:=by omega
   have UR:(l.length:Int)<=9223372036854775807:=by have:maxLen=9223372036854775807:=rfl;omega
   generalize l[k].name=nm at*
   go_wp2_with(go_at_call 11;refine HR.out.mono ?_;rintro e w3 ⟨ra,rn,rc,rfl,hS,hB3⟩;obtain⟨ra',rc',e'⟩:=eF hS.1;cases e';have HS:=a_ hS;have Zj:=a_ hB3;clear hS hB3);go_loopw [10,12] (fun sv iv W=>∃i:Nat,iv=.int .i64 i/\i<=r.length/\sv=.string (bs (iJ (r.take i)))/\w3=W) (fun _ iv _=>r.length-(RowKit.intOf iv).toNat)
   case atStart=>exact⟨0,rfl,aq _,by simp[iJ];rfl,rfl⟩
   case round=>
    obtain⟨i,rfl,hi,rfl,rfl⟩:=hrel;by_cases qM:i<r.length
    ·have aaF:decide ((i:Int)<r.length)=true:=by simp;omega
     have B8:(i:Int)<r.length:=by omega
     have hx:r[i]?=some r[i]:=ap qM;obtain⟨g2,aba,e2,c0⟩:=HS.out.at hx;cases e2;have hj:=Js hx;have hjl:=Jr r (i+1);have abO:(iJ (r.take (i+1))).length=(iJ (r.take i)).length+1+r[i].length:=by
      rw[cL,hx,su,af];simp[iJ];omega
     have hz3:¬(9223372036854775807<(bs (iJ (r.take i))).size+1):=by rw[fB];omega
     have Uv:¬(9223372036854775807<(bs (iJ (r.take i)++[47])).size+(bs r[i]).size):=by rw[fB,fB,af];simp;omega
     have hc0:=RJ (iJ (r.take i));clear hx hjl abO;have Vx:=a_ (show ∃x:L,bs (iJ (r.take (i+1)))=bs x/\x=iJ (r.take (i+1))from⟨_,rfl,rfl⟩);obtain⟨y,hy,hye⟩:=Vx.out;have HY:=a_ hye;rw[hy]at hj;clear hy Vx hye;generalize bs (iJ (r.take i)++[47])=S2 at*
     generalize bs (iJ (r.take i))=S3 at*
     generalize bs r[i]=S4 at*
     go_wp2_with fail;exact⟨⟨i+1,by simp,by omega,by rw[HY.out],trivial⟩,by simp only[RowKit.intOf];omega⟩
    ·have aaF:decide ((i:Int)<r.length)=false:=by simp;omega
     have ei:i=r.length:=by omega
     subst ei;rw[bH];have x1:=HX.out w3 Zj.out;have hc:=HC.out w3 Zj.out;rw[<-YC.out]at hc;by_cases he:nm=[]
     ·rw[if_pos he]at hc;have NZ:(bs nm).toList.isEmpty=true:=by rw[he,gP];rfl
      have hc2:=abN (iJ r);have hz3:¬(9223372036854775807<(bs (iJ r)).size+2):=by rw[fB];omega
      have Wi:=a_ hc;clear hc he HX;generalize bs nm=S5 at*
      generalize bs (iJ r++[47,35])=S6 at*
      generalize bs (iJ r)=S7 at*
      go_wp2_with(go_at_call 12;refine Wi.out.mono ?_;rintro e w5 ⟨a5,m5,c5,rfl,h5⟩;have HR5:=a_ h5;clear h5);exact⟨⟨k+1,by simp,by omega,HR5.out⟩,by simp only[RowKit.intOf];omega⟩
     ·rw[if_neg he,aM]at hc;have NZ:(bs nm).toList.isEmpty=false:=by rw[gP];cases h:nm with|nil=>exact absurd h he|cons x y=>rfl
      have Wi:=a_ hc;clear hc he HX;generalize bs nm=S5 at*
      generalize bs (iJ r)=S7 at*
      go_wp2_with(go_at_call 12;refine Wi.out.mono ?_;rintro e w5 ⟨a5,m5,c5,rfl,h5⟩;have HR5:=a_ h5;clear h5);exact⟨⟨k+1,by simp,by omega,HR5.out⟩,by simp only[RowKit.intOf];omega⟩
  ·have hdec:decide ((k:Int)<l.length)=false:=by simp;omega
   obtain rfl:k=l.length:=by omega
   have HRI:=a_ V7;clear V7;go_wp2_with fail
   go_ret3
   refine⟨.slice oa om oc,?_,?_,?_⟩
   ·rw[SS.out,sQ.out];rfl
   ·rw[Za.out];exact⟨HRI.out.V4.1,fun k e=>aw wq.out.size (HRI.out.V4.2 k e)⟩
   ·exact wq.out.trans (HRI.out.b.mono wq.out.size)
theorem Ys(hs:s.size<=268435456):Z4 5 #[.string s] w (ROf w s):=by
 by_cases h0:(K.fj s).2.1=0
 ·exact RY hs h0
 have HP:=a_ (K.BF s w hs);have DK:wY s=[]:=by unfold wY;rw[if_neg h0]
 have hne:((K.fj s).2.1 !=0)=true:=by simpa using h0
 clear h0;go_enter func5,ntmps5;go_wp2_with(go_at_call 10;refine HP.out.mono ?_;rintro e w1 ⟨v,rfl,-,qL⟩;have wq:=a_ qL;clear qL)
 go_ret3
 exact⟨.slice none 0 0,rfl,⟨by rw[DK];exact bp _ _ _ _,fun k e=>(by cases e)⟩,wq.out⟩
end
section
variable{w w' W W' w0 w1 w3 w5 wr:World}{v vs:Value}{xs:List (Br×Nat)}{b:i_}{F:Nat->Prop}{X lo:Nat}{S S1:List kZ}{ys:List (kZ×Value)}
theorem GI.spI{mn:Nat}{r:List Np}(h:GI X (.slice none 0 0) (.map (some mn)) F r w)(hm:jb w 9 mn [])(hmF:¬F mn)(abP:∀k,F k->lo<=k)(hlm:lo<=mn)(hl:r.length<=2200000000):uz X lo (fun k=>F k\/k=mn) (gV oO r) [] w:=by
 obtain⟨v,xs,p1,p2,p3,p4⟩:=h.br.ex;refine⟨⟨v,.slice none 0 0,mn,xs,[],⟨p1,p2,bp _ _ _ _,fun y hy=>by simp at hy,hm,fun hb=>hmF ((p4 mn).2 (Or.inr hb))⟩,p3,rfl,fun k=>?_⟩,fun k hk=>?_,⟨h.wf,ye r Ti,yh r JG Tm,h.br.short,h.br.few,?_⟩,fun s hs=>by simp at hs⟩
 ·unfold OY;rw[p4 k];simp only[Value.ownBlock,cn,false_and,exists_const,cS];constructor
  ·rintro((h|h)|h)
   ·exact Or.inl h
   ·exact Or.inr (Or.inl h)
   ·exact Or.inr (Or.inr (Or.inr (Or.inl h)))
  ·rintro(h|h|h|h|⟨y,h⟩)
   ·exact Or.inl (Or.inl h)
   ·exact Or.inl (Or.inr h)
   ·cases h
   ·exact Or.inr h
   ·exact h.elim
 ·rcases hk with hk|rfl
  ·exact abP k hk
  ·exact hlm
 ·have:=h.len;omega
theorem JM.ok{qs:List L}{e:Ending}{r:List Np}(h:JM W qs e w')(hr:needed 0 qs=.ok r)(hl:r.length<=2200000000):∃X F,e=.returned (.tuple #[Z8 X,.int .i64 0,.int .i64 0,.int .i64 0])/\uz X W.heap.size F (gV oO r) [] w'/\Z5 W w':=by
 obtain⟨hb,h⟩:=h;rw[hr]at h;obtain⟨X,mn,F,rfl,h1,h2,h3,h4,h5⟩:=h;exact⟨X,_,rfl,h1.spI h2 h3 h5 h4 hl,hb⟩
theorem uz.lower{lo':Nat}(h:uz X lo' F b S w)(hl:lo<=lo'):uz X lo F b S w:=⟨h.ex,fun k hk=>aw hl (h.low k hk),h.pl,h.ZB⟩
theorem uz.cells{st:Nat}{s:kZ}(h:uz X lo F b S w)(hs:S[st]?=some s):∃g n cap da dc,w.cell? ⟨X,1,none⟩=some (Z9 g n cap)/\st<n/\w.cell? ⟨g,st*4,none⟩=some (.slice da s.due.length dc)/\w.cell? ⟨g,st*4+1,none⟩=some (.bool s.nd)/\w.cell? ⟨g,st*4+2,none⟩=some (.bool s.wh)/\w.cell? ⟨g,st*4+3,none⟩=some (.bool s.tx):=by
 obtain⟨v,vs,mn,xs,ys,m,e1,e2,e3⟩:=h.ex;have hyx:∃y,ys[st]?=some y/\y.1=s:=by
  rw[<-e2,aH]at hs;obtain⟨y,hy,rfl⟩:=Option.map_eq_some_iff.1 hs;exact⟨y,hy,rfl⟩
 obtain⟨y,hy,rfl⟩:=hyx;obtain⟨g,cap,da,dn,dc,rfl,-,a0,a1,a2,a3,hrow⟩:=m.state hy;have hdn:dn=y.1.due.length:=by
  rcases hrow.2 with⟨e,h0⟩|⟨_,_,_,e,_⟩
  ·cases e;omega
  ·cases e;rfl
 subst hdn;exact⟨g,_,cap,da,dc,cell_of m.box rfl,(List.getElem?_eq_some_iff.1 hy).1,a0,a1,a2,a3⟩
theorem uz.keep{st:Nat}{s:kZ}(h:uz X lo F b S w)(hs:S[st]?=some s):Z4 55 #[Z8 X,.int .i64 (st:Nat)] w fun e w'=>e=.returned (.tuple #[.bool s.nd,.bool s.wh])/\∃m,w'=w.drewN m:=by
 obtain⟨g,n,cap,da,dc,c1,hl,a0,a1,a2,a3⟩:=h.cells hs;exact Oq c1 hl a1 a2
theorem uz.drewN(h:uz X lo F b S w)(m:Nat):uz X lo F b S (w.drewN m):=h.below (kP (Below.refl _ _) m)
theorem aaG(h:Fr F w w')(hl:∀k,F k->lo<=k)(ox:lo<=w.heap.size):Below lo w w':=
 ⟨h.os,h.tape,h.output,h.size,fun k hk=>h.block k (ah hk ox) fun hf=>by have:=hl k hf;omega⟩
structure wZ(X lo:Nat)(b:i_)(n:Nat)(W:World)(S:List kZ):Prop where
 sp:∃F,uz X lo F b S W
 few:S.length<=n
 tab:Cr lo W
 big:lo<=W.heap.size
 max:2<lo/\∃m,W.cell? ⟨2,0,none⟩=some (.int .i64 m)
theorem wZ.below{n:Nat}(h:wZ X lo b n W S)(hb:Z5 W W'):wZ X lo b n W' S:=by
 obtain⟨F,hF⟩:=h.sp;obtain⟨h2,m,hm⟩:=h.max;exact⟨⟨F,hF.below hb⟩,h.few,h.tab.on (hb.mono h.big),aw h.big hb.size,h2,m,(ag (hb.block 2 (ah h2 h.big))).trans hm⟩
theorem wZ.ans{n:Nat}{x:kZ}{e:Ending}(h:wZ X lo b n W S)(hF:uz X lo F b S W)(ha:Ln X lo F b S x W e w'):∃(k:Nat) (S':List kZ),e=.returned (.int .i64 (k:Nat))/\S'[k]?=some x/\wZ X lo b (n+1) w' S'/\Below lo W w':=by
 obtain⟨k,S',rfl,h1,h2,F',hI,hf,-⟩:=ha;have hu:=aaG hf hF.low h.big;obtain⟨JJ,m,hm⟩:=h.max;refine⟨k,S',rfl,h1,⟨⟨F',hI⟩,?_,h.tab.on hu,aw h.big hu.size,JJ,m,(ag (hu.block 2 JJ)).trans hm⟩,hu⟩;have:=h.few;rcases h2 with rfl|⟨rfl,-⟩
 ·omega
 ·simp;omega
theorem wZ.start{n:Nat}(h:wZ X lo b n W S)(hn:n<=1000000):Z4 51 #[Z8 X] W fun e w'=>∃(k:Nat) (S':List kZ),e=.returned (.int .i64 (k:Nat))/\S'[k]?=some (jJ b)/\wZ X lo b (n+1) w' S'/\Below lo W w':=by
 obtain⟨F,hF⟩:=h.sp;exact(Hf hF h.tab h.big (by have:=h.few;omega)).mono fun e w' ha=>h.ans hF ha
theorem wZ.next{n st:Nat}{s:kZ}(h:wZ X lo b n W S)(hs:S[st]?=some s)(hn:n<=1000000)(name:L):Z4 54 #[Z8 X,.int .i64 (st:Nat),.string (bs name)] W fun e w'=>∃(k:Nat) (S':List kZ),e=.returned (.int .i64 (k:Nat))/\S'[k]?=some (iF b s name)/\wZ X lo b (n+1) w' S'/\Below lo W w':=by
 obtain⟨F,hF⟩:=h.sp;exact(Lp hF hs name h.tab h.big (by have:=h.few;omega)).mono fun e w' ha=>h.ans hF ha
structure RZ(l:L)(ns:List L)(rs:Nat->L):Prop where
 first:Lib.trimPrefix l [47]=rs 0/\Lib.hasPrefix l [47]=true
 pos:0<ns.length/\ns.length<=1000
 cut:∀i x,ns[i]?=some x->Lib.cut (rs i) [47]=(x,rs (i+1),decide (i+1<ns.length))/\(x==[35])=false/\(rs i).length<=1000/\(rs (i+1)).length<(rs i).length
variable{l:L}{ns:List L}{rs:Nat->L}
theorem Ku(l:L):(bs l).data.toList=l:=by simp[bs]
theorem RZ.call(h:RZ l ns rs){n:Nat}(hs:wZ X lo b n W S){i:Nat}{x:L}(hx:ns[i]?=some x):Z4 52 #[.string (bs (rs i)),.string ⟨#[47]⟩] W fun e w'=>e=.returned (.tuple #[.string (bs x),.string (bs (rs (i+1))),.bool (decide (i+1<ns.length))])/\wZ X lo b n w' S/\Below lo W w':=by
 obtain⟨h1,h2,h3,h4⟩:=h.cut i x hx;obtain⟨-,m,hm⟩:=hs.max;have hc:=strings_Cut (bs (rs i)) ⟨#[47]⟩ m W (by rw[fB];omega) hm;rw[Ku,show (⟨#[47]⟩:ByteArray).data.toList=[47]from rfl,h1]at hc;refine hc.mono ?_;rintro e w' ⟨rfl,k,rfl⟩;exact⟨rfl,hs.below (kP (Below.refl _ _) k),kP (Below.refl _ _) k⟩
def Gb(b:i_)(ns:List L):kZ:=ns.foldl (iF b) (jJ b)
theorem Gc(h:RZ l ns rs){n:Nat}(hs:wZ X lo b n W S)(hn:n<=1000):Z4 27 #[Z8 X,.string (bs l)] W fun e w'=>e=.returned (.bool (Gb b ns).nd)/\∃S',wZ X lo b (n+1+ns.length) w' S'/\Below lo W w':=by
 have HCP:=a_ (strings_CutPrefix (bs l) ⟨#[47]⟩ W);rw[Ku,show (⟨#[47]⟩:ByteArray).data.toList=[47]from rfl,h.first.1,h.first.2]at HCP;have HS:=a_ (hs.start (by omega));have HH:=a_ h;have hlen:=h.pos;clear h hs;go_enter func27,ntmps27;go_wp2_with(first
  |(go_at_call 50;refine HCP.out.mono ?_;rintro e w1 ⟨rfl,hw⟩;have hw':=hw.symm;clear hw;subst hw';clear HCP)
  |(go_at_call 51;refine HS.out.mono ?_;rintro e w1 ⟨k0,S0,rfl,h0,h1,h2⟩;have HK:=a_ h0;have Vx:=a_ h1;have wq:=a_ h2;clear h0 h1 h2 HS))
 go_loopw [5,6,7,8] (fun rest more st _ wr=>∃(i k:Nat) (S':List kZ),i<=ns.length/\rest=.string (bs (rs i))/\more=.bool (decide (i<ns.length))/\st=.int .i64 (k:Nat)/\S'[k]?=some (Gb b (ns.take i))/\wZ X lo b (n+1+i) wr S'/\Below lo W wr) (fun rest _ _ _ _=>match rest with| .string s=>s.size|_=>0)
 case atStart=>exact⟨0,k0,S0,aq _,rfl,by rw[decide_eq_true hlen.1],rfl,HK.out,Vx.out,wq.out⟩
 case round=>
  obtain⟨i,k,S',hi,rfl,rfl,rfl,hk,hsp,hbl⟩:=hrel;by_cases qM:i<ns.length
  ·have hx:ns[i]?=some ns[i]:=ap qM;have HC:=a_ (HH.out.call hsp hx);obtain⟨-,hne,Gh,hl2⟩:=HH.out.cut i _ hx;have KE:((bs ns[i]).toList==[35])=false:=by rw[gP];exact hne
   have hst:iF b (Gb b (ns.take i)) ns[i]=Gb b (ns.take (i+1)):=by rw[cL,hx];unfold Gb;rw[cB];rfl
   have HN:Hid (∀W':World,wZ X lo b (n+1+i) W' S'->Z4 54 #[Z8 X,.int .i64 (k:Nat),.string (bs ns[i])] W' fun e w'=>∃(k:Nat) (S':List kZ),e=.returned (.int .i64 (k:Nat))/\S'[k]?=some (Gb b (ns.take (i+1)))/\wZ X lo b (n+1+i+1) w' S'/\Below lo W' w'):=fun W' h'=>by rw[<-hst];exact h'.next hk (by omega) ns[i]
   have hsz:(bs (rs (i+1))).size<(bs (rs i)).size:=by rw[fB,fB];exact hl2
   have Qx:=a_ hbl;have HIL:=a_ qM;clear hsp hk hx hne Gh hl2 hst hbl;rw[decide_eq_true qM]at*
   generalize bs ns[i]=nmS at*
   have HD:Hid (∃d:Bool,d=decide (i+1<ns.length)):=⟨_,rfl⟩
   obtain⟨d,hd⟩:=HD.out;rw[<-hd]at HC;have HDD:=a_ hd;clear hd;go_wp2_with(first
    |(go_at_call 52;refine HC.out.mono ?_;rintro e w3 ⟨rfl,h3,h4⟩;have H3:=a_ h3;have H4:=a_ h4;clear h3 h4 HC)
    |(go_at_call 54;refine(HN.out _ H3.out).mono ?_;rintro e w4 ⟨k4,S4,rfl,q1,q2,q3⟩;have Q1:=a_ q1;have Q2:=a_ q2;have Q3:=a_ q3;clear q1 q2 q3 HN))
   exact⟨⟨i+1,k4,S4,HIL.out,rfl,by rw[HDD.out],rfl,Q1.out,Q2.out,Qx.out.trans (H4.out.trans Q3.out)⟩,hsz⟩
  ·obtain rfl:i=ns.length:=by omega
   rw[bH]at hk;have HE:=a_ (show ∃S',wZ X lo b (n+1+ns.length) wr S'/\Below lo W wr from⟨S',hsp,hbl⟩);obtain⟨F,hF⟩:=hsp.sp;have HKp:=a_ (hF.keep hk);clear hsp hk hF hbl;rw[decide_eq_false qM]at*
   go_wp2_with(go_at_call 55;refine HKp.out.mono ?_;rintro e w4 ⟨rfl,m4,hw4⟩;have HW4:=a_ hw4;clear hw4 HKp);go_ret;obtain⟨S',q1,q2⟩:=HE.out;rw[HW4.out];exact⟨rfl,S',q1.below (kP (Below.refl _ _) m4),kP q2 m4⟩
end
section
variable{w w' W W' w0 w1 w3 w5 wr:World}{v vs:Value}{X lo:Nat}{S:List kZ}
def qB:L:=[47,47,98]
def pB:List jf:=[⟨true,[98],.nil⟩]
def mB:List Mk:=[(true,[98])]
theorem Kv:parse qB=.ok [pB]:=by kernel_rfl
theorem R_:gL mB=qB:=by kernel_rfl
def rB:List Np:=(match needed 0 [qB]with| .ok r=>r| .error _=>[])
theorem Sb:needed 0 [qB]=.ok rB:=by kernel_rfl
theorem aaH:QOK qB:=⟨by decide,[pB],Kv,bY (by kernel_rfl),fun p hp=>by
 rw[aJ]at hp;subst hp;exact⟨by decide,bY (by kernel_rfl),fun x hx=>by
  unfold pB at hx;rw[aJ]at hx;rw[hx]⟩⟩
theorem Yt:rB.length<=2200000000:=bY (by kernel_rfl)
def bB:i_:=gV oO rB
theorem aaI:(Gb bB [[97]]).nd=false:=by kernel_rfl
theorem aaJ:(Gb bB [[97],[98]]).nd=true:=by kernel_rfl
def rs0:Nat->L
 |0=>[97]
 |_=>[]
def rs1:Nat->L
 |0=>[97,47,98]
 |1=>[98]
 |_=>[]
theorem Yu:RZ [47,97] [[97]] rs0:=⟨⟨by kernel_rfl,by kernel_rfl⟩,by decide,fun i x h=>by
 match i,h with
 |0,h=>
  obtain rfl:[97]=x:=by simpa using h
  exact⟨by kernel_rfl,by decide,by decide,by decide⟩
 |i+1,h=>simp at h⟩
theorem Yv:RZ [47,97,47,98] [[97],[98]] rs1:=⟨⟨by kernel_rfl,by kernel_rfl⟩,by decide,fun i x h=>by
 match i,h with
 |0,h=>
  obtain rfl:[97]=x:=by simpa using h
  exact⟨by kernel_rfl,by decide,by decide,by decide⟩
 |1,h=>
  obtain rfl:[98]=x:=by simpa using h
  exact⟨by kernel_rfl,by decide,by decide,by decide⟩
 |i+2,h=>simp at h⟩
def Sy:List (L×Nat):=[([47,97],1),([47,97,47,98],2),([47,97,47,35],1)]
theorem Sd{n i:Nat}(hi:i<2)(hs:wZ X lo bB n W S)(hn:n<=1000):∃x,Sy[i]?=some x/\Z4 27 #[Z8 X,.string (bs x.1)] W fun e w'=>e=.returned (.bool (decide (i=1)))/\∃S',wZ X lo bB (n+3) w' S'/\Below lo W w':=by
 match i,hi with
 |0,_=>
  refine⟨_,rfl,(Gc Yu hs hn).mono ?_⟩;rintro e w' ⟨rfl,S',h1,h2⟩;rw[aaI];exact⟨rfl,S',⟨h1.sp,by have:=h1.few;simp at this;omega,h1.tab,h1.big,h1.max⟩,h2⟩
 |1,_=>
  refine⟨_,rfl,(Gc Yv hs hn).mono ?_⟩;rintro e w' ⟨rfl,S',h1,h2⟩;rw[aaJ];exact⟨rfl,S',⟨h1.sp,by have:=h1.few;simp at this;omega,h1.tab,h1.big,h1.max⟩,h2⟩
theorem Yw{A:Nat->Prop}(h:QV A w v [pB]):∃g c ai cp,v=Z9 g 1 c/\g<w.heap.size/\w.cell? ⟨g,0,none⟩=some (.slice ai 1 cp)/\qK w (.slice ai 1 cp) mB:=by
 rcases h with⟨h,_⟩|⟨g,cap,cur,rfl,-,hb,-,-,hr⟩
 ·cases h
 ·obtain⟨u,h1,h2⟩:=hr 0 pB rfl;obtain⟨ai,cp,rfl⟩:=h2.shape;have h3:=h2.mkr (i:=1) (aj _);exact⟨g,cap,ai,cp,rfl,(Array.getElem?_eq_some_iff.1 hb).1,h1,h3⟩
theorem Se{o:Obj}(hb1:Z5 W w1)(hb:Z5 w1 w3):∀v' w',w'.ownsRow 0 9 1 v' (0+1) ([]++[.string (bs qB)])->(w3.alloc o).grownBy w' (Value.slice none 0 0).ownBlock->(v'.ownBlock=(Value.slice none 0 0).ownBlock\/v'.ownBlock=some (w3.alloc o).heap.size)->(∃a c,v'=.slice a 1 c)/\Yr W.heap.size w' v' [qB]/\Z5 w1 w':=by
 intro v' w' ho hg hat;obtain⟨a,c,rfl⟩:=eF ho;have hz:w1.heap.size<=(w3.alloc o).heap.size:=by rw[bA];exact dl hb.size
 refine⟨⟨a,c,rfl⟩,⟨ho,fun k e=>?_⟩,(hb.alloc hb.size o).grown hg hz (fun k e=>by cases e)⟩;rcases hat with h|h
 ·rw[h]at e;cases e
 ·rw[h]at e;cases e;exact aw hb1.size hz
def PbI(W w1:World)(bv iv:Value)(wr:World):Prop:=(iv=.int .i64 0/\bv=.slice none 0 0/\w1=wr)\/(iv=.int .i64 1/\∃a c,bv=.slice a 1 c/\Yr W.heap.size wr (.slice a 1 c) [qB]/\Z5 w1 wr)
theorem Yr.str{a:Option Addr}{n c:Nat}{r:List L}(h:Yr lo w (.slice a n c) r)(hl:r.length<=1000000000000):S9 w (.slice a n c) r:=by
 obtain⟨a',c',e⟩:=eF h.1;cases e;have hc:r.length<=c:=by
  rcases h.1.2 with⟨e,h0⟩|⟨g,cap,cur,e,-,-,h1,-⟩
  ·omega
  ·cases e;exact h1
 refine⟨a,c,rfl,⟨hl,hc⟩,fun i x hx=>?_⟩;obtain⟨g,cap,e,h0⟩:=h.at hx;cases e;exact⟨g,0,rfl,aU _ _ h0,by rw[ax];exact h0⟩
theorem Yx{F:Nat->Prop}(hT:Cr W.heap.size W)(hm:2<W.heap.size/\∃m,W.cell? ⟨2,0,none⟩=some (.int .i64 m))(hb:Z5 W w5)(hI:uz X lo F (gV oO rB) [] w5)(hl:W.heap.size<=lo):wZ X W.heap.size bB 0 w5 []:=by
 obtain⟨h2,m,hm⟩:=hm;exact⟨⟨F,hI.lower hl⟩,aj _,hT.on hb,hb.size,h2,m,(ag (hb.block 2 h2)).trans hm⟩
theorem Yy(h:W.ownsRow 0 31 2 v Sy.length (k9 Sy))(hT:Cr W.heap.size W)(hm:2<W.heap.size/\∃m,W.cell? ⟨2,0,none⟩=some (.int .i64 m)):Z4 13 #[v,.string (bs qB)] W (Z7 (.tuple #[.bool true,.int .i64 0,.int .i64 0]) W):=by
 obtain⟨ai,ac,rfl⟩:=eF h;have HP:=a_ (qJ qB W (by decide));have HL:=a_ h;have HT:=a_ hT;have HM:=a_ hm;clear h hT hm;go_enter func13,ntmps13;go_wp2_with(go_at_call 24;refine HP.out.mono ?_;rintro e w1 ⟨hb1,hpe⟩;rw[Kv]at hpe;obtain⟨v1,rfl,hq⟩:=hpe;obtain⟨g,c,pi,pc,rfl,hg,c0,UR⟩:=Yw hq;have wq:=a_ hb1;have HMK:=a_ UR;clear hb1 hq UR HP);obtain⟨i0,qA,hz0,hz1,hz2⟩:=aZ K.Kf;have HBr:=a_ (SY mB _ w1 HMK.out (by rw[R_];decide));rw[R_]at HBr;go_loopw [10,12,31] (fun bv _ iv wr=>PbI W w1 bv iv wr) (fun _ _ iv _=>1-(RowKit.intOf iv).toNat)
 case atStart=>exact Or.inl ⟨rfl,rfl,rfl⟩
 case round=>
  rcases hrel with⟨rfl,rfl,rfl⟩|⟨rfl,a,c2,rfl,hst,k8⟩
  ·go_wp2_with(first
    |(go_at_call 25;refine HBr.out.mono ?_;rintro e w3 ⟨rfl,h3⟩;have HO:=a_ (bp (w3.alloc (.cells #[.string (bs qB)] 9)) 0 9 1);have HN:=a_ (b8 w3 (.string (bs qB)) 9);have HE:=a_ (Se (o:=.cells #[.string (bs qB)] 9) wq.out h3);clear h3)
    |(at_builtin;refine aK (w:=_) rfl _ _ 49 rfl 0 9 i0 _ 1 16 underlying49 qA hz0 hz1 hz2 rfl (by decide) (.slice none 0 0) 0 [] rfl HO.out ⟨w3.heap.size,0,none⟩ 1 1 [.string (bs qB)] rfl rfl HN.out (by simp[Value.oneCell']) (by unfold maxLen;omega) (by omega) (aq _) ?_;intro v7 w7 jg ku _ gK;have HE2:=HE.out _ _ jg ku gK;obtain⟨⟨a7,c7,rfl⟩,HE3⟩:=HE2;have HE:=a_ HE3;clear jg ku gK HE3))
   exact⟨Or.inr ⟨rfl,a7,c7,rfl,HE.out.1,HE.out.2⟩,by simp[RowKit.intOf]⟩
  ·have HN:=a_ (G_ [qB] (fun q hq=>by rw[aJ]at hq;rw[hq];exact aaH) _ wr (hst.str (by decide)) (by decide) (fun k e=>eW hst.1 e));have ZA:=a_ (wq.out.trans (k8.mono wq.out.size));clear hst k8;go_wp2_with(go_at_call 26;refine HN.out.mono ?_;intro e w5 hnp;obtain⟨X,F,rfl,hI,zG⟩:=hnp.ok Sb Yt;have WT:=a_ (show Z5 W w5 from ZA.out.trans (zG.mono ZA.out.size));have HSp:=a_ (show wZ X W.heap.size bB 0 w5 []from Yx HT.out HM.out WT.out hI ZA.out.size);clear hnp hI zG);have Sl:(Sy.length:Int)=3:=rfl;go_loopw [18,50] (fun _ iv W2=>∃i:Nat,i<2/\iv=.int .i64 i/\∃S,wZ X W.heap.size bB (3*i) W2 S/\Z5 W W2) (fun _ iv _=>2-(RowKit.intOf iv).toNat)
   case atStart=>exact⟨0,by omega,rfl,[],HSp.out,WT.out⟩
   case round=>
    obtain⟨i,hi,rfl,S,hs,hb⟩:=hrel;obtain⟨x,hx,-⟩:=Sd hi hs (by omega);have HLd:Hid (∀o,Z4 27 #[Z8 X,.string (bs x.1)] (wr.alloc o) fun e w'=>e=.returned (.bool (decide (i=1)))/\∃S',wZ X W.heap.size bB (3*i+3) w' S'/\Below W.heap.size (wr.alloc o) w'):=fun o=>by
     obtain⟨y,hy,h⟩:=Sd hi (hs.below ((Below.refl _ wr).alloc (aj _) o)) (by omega);rw[hx]at hy;cases hy;exact h
    obtain⟨g2,cap,e,a0,a1,-⟩:=tX HL.out hx;cases e;have hlt:g2<W.heap.size:=aU W _ a0;have y0:=(ag (a:=⟨g2,i*2,none⟩) (hb.block g2 hlt)).trans a0;have y1:=(ag (a:=⟨g2,i*2+1,none⟩) (hb.block g2 hlt)).trans a1;have hdec:decide ((i:Int)<(Sy.length:Int))=true:=by rw[Sl];simp;omega
    have B8:(i:Int)<(Sy.length:Int):=by rw[Sl];omega
    have Sp:Hid (∀o,Z5 W (wr.alloc o)):=fun o=>hb.alloc hb.size o;have HHi:=a_ hi;clear hs hb a0 a1 hx hi Sl;generalize Sy.length=m at*
    generalize bs x.1=S1 at*
    generalize x.2=x2 at*
    by_cases h1:i=1
    ·subst h1;go_wp2_with(go_at_call 27;refine(HLd.out _).mono ?_;rintro e w6 ⟨rfl,S6,q1,q2⟩;have HE:=a_ ((Sp.out _).trans q2);clear q1 q2 HLd)
     go_ret3
     exact⟨rfl,HE.out⟩
    ·have h0:i=0:=by have:=HHi.out;omega
     subst h0;go_wp2_with(go_at_call 27;refine(HLd.out _).mono ?_;rintro e w6 ⟨rfl,S6,q1,q2⟩;have HE:=a_ ((Sp.out _).trans q2);have HQ:=a_ q1;clear q1 q2 HLd);exact⟨⟨1,by omega,rfl,S6,HQ.out,HE.out⟩,by simp[RowKit.intOf]⟩
end
section
variable{w w' W W' w1:World}{a:Addr}{s:ByteArray}
def Dy:ByteArray:=⟨#[60,97,62,60,98,47,62,120,60,98,47,62,60,47,97,62]⟩
def ndG:List K.Nd:=[⟨[97],[],[],[1,2,3],-1⟩,⟨[98],[],[],[],0⟩,⟨[],[],[120],[],0⟩,⟨[98],[],[],[],0⟩]
theorem Gd:K.mS Dy=([⟨1,[97],[],[],0⟩,⟨1,[98],[],[],3⟩,⟨2,[98],[],[],3⟩,⟨3,[],[],[120],7⟩,⟨1,[98],[],[],8⟩,⟨2,[98],[],[],8⟩,⟨2,[97],[],[],12⟩],0,0):=by rw[<-K.UA];kernel_rfl
theorem zE:K.fj Dy=(ndG,0,0):=by
 have h:(K.eV Dy).err=0/\(K.eV Dy).l++(K.eV Dy).last=(K.mS Dy).1:=by
  have h:=Gd;unfold K.mS at h ⊢;by_cases he:(K.eV Dy).err=0
  ·rw[if_neg (by simpa using he)];exact⟨he,rfl⟩
  ·rw[if_pos he]at h;exact absurd (aA (fun x=>x.2.1) h) he
 unfold K.fj;rw[h.2,h.1,Gd];rfl
theorem Nx:kV Dy=Sy:=by
 unfold kV;rw[zE];kernel_rfl
structure GA(W:World)(a:Addr):Prop where
 gl:K.Gl W a
 tab:Cr W.heap.size W
 max:2<W.heap.size/\∃m,W.cell? ⟨2,0,none⟩=some (.int .i64 m)
theorem GA.below{lo:Nat}(h:GA W a)(hl:5<lo)(ht:Cr lo W)(hb:Below lo W W'):GA W' a:=by
 obtain⟨h2,m,hm⟩:=h.max;refine⟨h.gl.frame (F:=fun k=>lo<=k) ⟨hb.os,hb.tape,hb.output,hb.size,fun k _ hf=>hb.block k (by omega)⟩ (fun k hk x=>by omega),tabBelow_of_tabIs (ht.on hb).here,ah h2 hb.size,m,(ag (hb.block 2 (by omega))).trans hm⟩
theorem Kw(n:Int)(w:World):Z4 6 #[.int .i64 n] w (Z6 (.int .i64 n) w):=by
 go_enter func6,ntmps6;go_wp2;go_ret;exact⟨rfl,rfl⟩
theorem Vj{v:Value}(h:W.ownsRow 0 31 2 v Sy.length (k9 Sy)):∃g c,v=Z9 g 3 c/\g<W.heap.size/\W.cell? ⟨g,2,none⟩=some (.string ⟨#[47,97,47,98]⟩)/\W.cell? ⟨g,3,none⟩=some (.int .i64 2):=by
 obtain⟨g,c,e,h1,h2,-⟩:=tX (k:=1) h rfl;exact⟨g,c,e,aU _ _ h1,h1,h2⟩
theorem Sf(h:GA W a):Z4 7 #[] W (Z7 (.bool true) W):=by
 have HO:=a_ (Jq (s:=Dy) h.gl (by decide));have HM:=a_ Kw;have HG:=a_ h;clear h;go_enter func7,ntmps7;go_wp2_with(first
  |(go_at_call 4;refine HO.out.mono ?_;rintro e w1 ⟨v,rfl,hL,qL,-⟩;rw[zE];rw[Nx]at hL;have vB:=Yy hL.1 (HG.out.below HG.out.gl.size HG.out.tab qL).tab (HG.out.below HG.out.gl.size HG.out.tab qL).max;obtain⟨g,c,rfl,hg,c2,c3⟩:=Vj hL.1;have aaK:=a_ vB;have wq:=a_ qL;clear hL qL vB HO)
  |(go_at_call 13;refine aaK.out.mono ?_;rintro e w2 ⟨rfl,hb2⟩;have y2:=(ag (a:=⟨g,2,none⟩) (hb2.block g hg)).trans c2;have y3:=(ag (a:=⟨g,3,none⟩) (hb2.block g hg)).trans c3;have Wl:=a_ (wq.out.trans (hb2.mono wq.out.size));clear hb2 aaK)
  |(go_at_call 6;refine(HM.out _ _).mono ?_;rintro e w3 ⟨rfl,hw⟩;have hw':=hw.symm;clear hw;subst hw'))
 go_ret;exact⟨rfl,Wl.out⟩
end
section
variable{w w' W W' w1 w2 w3 wr:World}{a:Addr}{s:ByteArray}{v u:Value}{ls:List (L×Nat)}{i k:Nat}{x:L×Nat}
def Yz:L:=[115,112,111,105,108,116]
def V8(ls:List (L×Nat)):Nat->List (L×Nat)
 |0=>ls
 |i+1=>(V8 ls i).modify i fun x=>(Yz,x.2)
theorem Dz:∀i,(V8 ls i).length=ls.length
 |0=>rfl
 |i+1=>by rw[V8,bn,Dz i]
theorem Jt:∀(i k:Nat),(V8 ls i)[k]?=if k<i then(ls[k]?).map fun x=>(Yz,x.2)else ls[k]?
 |0,k=>by simp[V8]
 |i+1,k=>by
  rw[V8,bj,Jt i k];by_cases h1:k<i
  ·rw[if_pos h1,if_pos (by omega)];have hik:i≠k:=by omega
   cases ls[k]?<;>simp[hik]
  ·rw[if_neg h1];by_cases h2:k=i
   ·subst h2;rw[if_pos (by omega)];simp
   ·rw[if_neg (by omega)];have hik:i≠k:=by omega
    cases ls[k]?<;>simp[hik]
theorem Ge(t:L):∀(ls:List (L×Nat)) (k:Nat) (x:L×Nat),ls[k]?=some x->(k9 ls).set (k*2) (.string (bs t))=k9 (ls.modify k fun x=>(t,x.2))
 |[],k,x,h=>by simp at h
 |y::ls,0,x,h=>by
  obtain rfl:y=x:=by simpa using h
  rfl
 |y::ls,k+1,x,h=>by
  have h2:=Ge t ls k x (by simpa using h);have e1:(k+1)*2=k*2+1+1:=by omega
  rw[e1];show _::_::(k9 ls).set (k*2) _=_;rw[h2];rfl
structure Ny(W:World)(v u:Value)(ls:List (L×Nat))(i:Nat)(wr:World):Prop where
 l:wr.ownsRow 0 31 2 v ls.length (k9 (V8 ls i))
 m:wr.ownsRow 0 32 2 u ls.length (k9 ls)
 lW:∀k,v.ownBlock=some k->W.heap.size<=k
 b:Z5 W wr
theorem Ny.start(h1:Yq W.heap.size w1 v ls)(b1:Z5 W w1)(h2:Nv w1.heap.size w2 u ls)(b2:Z5 w1 w2):Ny W v u ls 0 w2:=
 ⟨eH h1.1 fun k e=>b2.block k (eW h1.1 e),h2.1,h1.2,b1.trans (b2.mono b1.size)⟩
theorem Ny.below(h:Ny W v u ls i wr)(hb:Z5 wr w'):Ny W v u ls i w':=
 ⟨eH h.l fun k e=>hb.block k (eW h.l e),eH h.m fun k e=>hb.block k (eW h.m e),h.lW,h.b.trans (hb.mono h.b.size)⟩
theorem Ny.cells(h:Ny W v u ls i wr)(hx:ls[k]?=some x):∃g c g2 c2,v=Z9 g ls.length c/\u=Z9 g2 ls.length c2/\wr.cell? ⟨g,k*2,none⟩=some (.string (bs (if k<i then Yz else x.1)))/\wr.cell? ⟨g,k*2+1,none⟩=some (.int .i64 (x.2:Nat))/\wr.frozen? ⟨g,k*2,none⟩=false/\wr.cell? ⟨g2,k*2,none⟩=some (.string (bs x.1))/\wr.cell? ⟨g2,k*2+1,none⟩=some (.int .i64 (x.2:Nat)):=by
 have h1:=h.l;rw[<-Dz i]at h1;obtain⟨g,c,e1,a1,a2,-,a3⟩:=tX (x:=(if k<i then Yz else x.1,x.2)) h1 (k:=k) (by rw[Jt,hx];split<;>rfl);obtain⟨g2,c2,e2,b1,b2,-⟩:=tX h.m hx;rw[Dz]at e1;exact⟨g,c,g2,c2,e1,e2,a1,a2,a3,b1,b2⟩
theorem Ny.aaL{g c:Nat}(h:Ny W (Z9 g ls.length c) u ls i wr)(hx:ls[i]?=some x):Ny W (Z9 g ls.length c) u ls (i+1) (wr.setCell ⟨g,i*2,none⟩ (.string (bs Yz))):=by
 obtain⟨s1,s2⟩:=h.l.stored (i*2) (.string (bs Yz));have hx2:(V8 ls i)[i]?=some x:=by rw[Jt,if_neg (by omega)];exact hx
 rw[Ge Yz _ _ _ hx2]at s1;have hne:u.ownBlock≠some g:=by
  rcases h.l.2 with⟨e,_⟩|⟨g',c',cur,e,_,hg,_⟩
  ·cases e
  ·cases e;exact fG h.m hg (by decide)
 exact⟨s1,eH h.m fun k e=>ae _ _ _ _ fun e'=>hne (by rw[e,e']),h.lW,h.b.setCell (h.lW g rfl) _⟩
theorem abQ(h:GA W a)(hs:s.size<=268435456):Z4 3 #[.string s] W (Z7 (.bool true) W):=by
 have HO:=a_ (Jq (s:=s) h.gl hs);have HM:=a_ Kw;have HG:=a_ h;have DK:=Nw s;have Nz:(kV s).length<=1000000000000:=by
  rw[DK];unfold wY;split
  ·have:=(wu (K.fj s).1 (K.fj s).1.length).1;have:=wo s;omega
  ·simp
 have V6:=a_ Nz;have HR:Hid (∀w,Z4 5 #[.string s] w (ROf w s)):=fun w=>Ys hs;have HO2:Hid (∀wr,Z5 W wr->Z4 4 #[.string s] wr (Kr wr s)):=fun wr hb=>Jq (h.below h.gl.size h.tab hb).gl hs;have HAl:Hid (∀wr,Z5 W wr->Z4 7 #[] wr (Z7 (.bool true) wr)):=fun wr hb=>Sf (h.below h.gl.size h.tab hb);have HL2:=a_ DK;clear h Nz DK;by_cases h0:(K.fj s).2.1=0
 ·go_enter func3,ntmps3;go_wp2_with(first
   |(go_at_call 4;refine HO.out.mono ?_;rintro e w1 ⟨v,rfl,hL,qL,hnil⟩;rw[h0];clear hnil;have HL:=a_ hL;have wq:=a_ qL;clear hL qL HO)
   |(go_at_call 5;refine(HR.out w1).mono ?_;rintro e w2 ⟨u,rfl,hM,Sm⟩;rw[h0];rw[<-HL2.out]at hM;have HLI:=a_ (Ny.start HL.out wq.out hM Sm);obtain⟨va,vc,hv⟩:=eF HLI.out.l;subst hv;obtain⟨ua,uc,hu⟩:=eF hM.1;subst hu;clear hM Sm HL wq HL2;obtain⟨ls,DK⟩:∃ls,kV s=ls:=⟨_,rfl⟩;have HLs:=a_ DK;rw[DK]at HLI V6;rw[DK];clear DK)
   |(go_at_call 6;refine(HM.out _ _).mono ?_;rintro e w3 ⟨rfl,hw⟩;have hw':=hw.symm;clear hw;subst hw'))
  go_loopw [9] (fun iv wr=>∃i:Nat,iv=.int .i64 i/\i<=ls.length/\Ny W (.slice va ls.length vc) (.slice ua ls.length uc) ls i wr) (fun iv _=>ls.length-(RowKit.intOf iv).toNat)
  case atStart=>exact⟨0,rfl,aq _,HLI.out⟩
  case round=>
   obtain⟨i,rfl,hi,JN⟩:=hrel;by_cases qM:i<ls.length
   ·have hdec:decide ((i:Int)<ls.length)=true:=by simp;omega
    have B8:(i:Int)<ls.length:=by omega
    have UO:(ls.length:Int)<=9223372036854775807:=by have:=V6.out;omega
    have hx:ls[i]?=some ls[i]:=ap qM;obtain⟨g,c,g2,c2,e1,e2,a1,a2,a3,b1,b2⟩:=JN.cells hx;rw[if_neg (by omega)]at a1;cases e1;cases e2;have HSp:Hid (∀m,Ny W (Z9 g ls.length vc) (Z9 g2 ls.length uc) ls (i+1) ((wr.drewN m).setCell ⟨g,i*2,none⟩ (.string ⟨#[115,112,111,105,108,116]⟩))):=fun m=>(JN.below (kP (Below.refl _ _) m)).aaL hx;have hne:((bs ls[i].1).toList !=(bs ls[i].1).toList)=false:=by simp
    clear JN hx HLI;generalize bs ls[i].1=S1 at*
    generalize ls[i].2=x2 at*
    go_wp2_with fail;go_quiet(fail);have HSq:=a_ (HSp.out nq);have a1':(wr.drewN nq).cell? ⟨g,i*2,none⟩=some (.string S1):=a1;have a3':(wr.drewN nq).frozen? ⟨g,i*2,none⟩=false:=a3;clear HSp a1 a2 a3 b1 b2;generalize wr.drewN nq=W5 at*
    go_wp2_with fail;exact⟨⟨i+1,by simp,by omega,HSq.out⟩,by simp only[RowKit.intOf];omega⟩
   ·have hdec:decide ((i:Int)<ls.length)=false:=by simp;omega
    obtain rfl:i=ls.length:=by omega
    have HK:=a_ (HO2.out wr JN.b);have HLi:=a_ JN;clear JN HO2 HLI;go_wp2_with(go_at_call 4;refine HK.out.mono ?_;rintro e w4 ⟨kv,rfl,hk,hb4,-⟩;rw[HLs.out]at hk;obtain⟨ka,kc,vw⟩:=eF hk.1;subst vw;have HKr:=a_ hk.1;have HL4:=a_ (HLi.out.below hb4);clear hk hb4 HK HLi);go_loopw [13] (fun iv W6=>∃i:Nat,iv=.int .i64 i/\i<=ls.length/\∃m,w4.drewN m=W6) (fun iv _=>ls.length-(RowKit.intOf iv).toNat)
    case atStart=>exact⟨0,rfl,aq _,0,rfl⟩
    case round=>
     obtain⟨i,rfl,hi,m,rfl⟩:=hrel;by_cases qM:i<ls.length
     ·have hdec:decide ((i:Int)<ls.length)=true:=by simp;omega
      have B8:(i:Int)<ls.length:=by omega
      have UO:(ls.length:Int)<=9223372036854775807:=by have:=V6.out;omega
      have hx:ls[i]?=some ls[i]:=ap qM;obtain⟨g,c,g2,c2,e1,e2,a1,a2,a3,b1,b2⟩:=HL4.out.cells hx;obtain⟨g3,c3,e3,d1,d2,-⟩:=tX HKr.out hx;rw[if_pos qM]at a1;cases e1;cases e2;cases e3;have a1':(w4.drewN m).cell? ⟨g,i*2,none⟩=some (.string ⟨#[115,112,111,105,108,116]⟩):=a1;have b1':(w4.drewN m).cell? ⟨g2,i*2,none⟩=some (.string (bs ls[i].1)):=b1;have d1':(w4.drewN m).cell? ⟨g3,i*2,none⟩=some (.string (bs ls[i].1)):=d1;have hne:((bs ls[i].1).toList !=(bs ls[i].1).toList)=false:=by simp
      have HW:Hid (∀k,∃m',w4.drewN m'=(w4.drewN m).drewN k):=fun k=>⟨m+k,by rw[World.drewN_drewN]⟩
      clear HL4 hx a1 a2 a3 b1 b2 d1 d2 HKr;generalize bs ls[i].1=S1 at*
      generalize w4.drewN m=W6 at*
      go_wp2_with fail;go_quiet(fail);have HWq:=a_ (HW.out nq);clear HW a1' b1' d1';generalize W6.drewN nq=W7 at*
      go_wp2_with fail;exact⟨⟨i+1,by simp,by omega,HWq.out⟩,by simp only[RowKit.intOf];omega⟩
     ·have hdec:decide ((i:Int)<ls.length)=false:=by simp;omega
      have HB6:=a_ (kP HL4.out.b m);have HA:=a_ (HAl.out (w4.drewN m) HB6.out);clear HAl HL4 HKr;generalize w4.drewN m=W6 at*
      go_wp2_with(go_at_call 7;refine HA.out.mono ?_;rintro e w7 ⟨rfl,Gg⟩;have HB7:=a_ (HB6.out.trans (Gg.mono HB6.out.size));clear Gg HA);go_ret;exact⟨rfl,HB7.out⟩
 ·have NZ:kV s=[]:=by unfold kV;rw[if_neg h0]
  have hne:((K.fj s).2.1 !=0)=true:=by simpa using h0
  have HN0:=a_ h0;have HEm:=a_ NZ;clear h0 NZ;go_enter func3,ntmps3;go_wp2_with(first
   |(go_at_call 4;refine HO.out.mono ?_;rintro e w1 ⟨v,rfl,-,qL,hnil⟩;obtain rfl:=hnil HN0.out;have wq:=a_ qL;clear qL HO hnil)
   |(go_at_call 5;refine(HR.out w1).mono ?_;rintro e w2 ⟨u,rfl,hM,Sm⟩;rw[<-HL2.out,HEm.out]at hM;obtain⟨ua,uc,hu⟩:=eF hM.1;subst hu;have Wl:=a_ (wq.out.trans (Sm.mono wq.out.size));clear hM Sm wq HL2;generalize (K.fj s).2.1=er at*;generalize (K.fj s).2.2=ea at*)
   |(go_at_call 6;refine(HM.out _ _).mono ?_;rintro e w3 ⟨rfl,hw⟩;have hw':=hw.symm;clear hw;subst hw'))
  go_loopw [9] (fun iv wr=>iv=.int .i64 0/\w2=wr) (fun _ _=>0)
  case atStart=>exact⟨rfl,rfl⟩
  case round=>
   obtain⟨rfl,rfl⟩:=hrel;have HK:=a_ (HO2.out w2 Wl.out);go_wp2_with(go_at_call 4;refine HK.out.mono ?_;rintro e w4 ⟨kv,rfl,hk,hb4,-⟩;have HB4:=a_ (Wl.out.trans (hb4.mono Wl.out.size));clear hk hb4 HK);go_loopw [13] (fun iv W6=>iv=.int .i64 0/\w4=W6) (fun _ _=>0)
   case atStart=>exact⟨rfl,rfl⟩
   case round=>
    obtain⟨rfl,rfl⟩:=hrel;have HA:=a_ (HAl.out w4 HB4.out);go_wp2_with(go_at_call 7;refine HA.out.mono ?_;rintro e w7 ⟨rfl,Gg⟩;have HB7:=a_ (HB4.out.trans (Gg.mono HB4.out.size));clear Gg HA);go_ret;exact⟨rfl,HB7.out⟩
end
end Go.Proofs.YthlcmljckpdheaaGreatDoor
