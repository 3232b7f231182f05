import Derived.Test.YthlcmljckpdheaaGreatDoorHA
import Derived.Test.YthlcmljckpdheaaGreatDoorHaf
import Derived.Test.YthlcmljckpdheaaGreatDoorHau
set_option linter.unusedVariables false
set_option linter.unusedSimpArgs false
set_option maxHeartbeats 32000000
set_option maxRecDepth 100000
namespace Go.Proofs.YthlcmljckpdheaaGreatDoor
open Go.RowKit Go.Maps Go.Lib Tryz
abbrev Pk:=Int×L
theorem V3:(73:TypeId)<prog.types.size:=bY (by kernel_rfl)
theorem Yl:(match prog.underlying 73 with|some (.array _ _)|some (.struct _)=>true|_=>false)=true:=by rw[underlying73]
theorem vq:Keyed prog 73:=Keyed.of_law (deep_law_laid laidOut (m:=2) (by omega) V3 (by kernel_rfl) Yl)
def tV(m:Pk):Lit:=.string (keyBytes [.int .i64 m.1,.string m.2])
theorem Nk:prog.keyType 73=true:=by kernel_rfl
theorem Kj:prog.cellsOf 73=2:=by kernel_rfl
theorem U8:prog.cellsOf 3=1:=by kernel_rfl
theorem Rw(a b:Value):(Value.agg #[a,b]).formed prog 73=true:=by simp[Value.formed,underlying73,Kj]
def zz(m:Pk):Prop:=(-1<=m.1/\m.1<=1000000000000)/\m.2.length<=1000000000000
theorem Rx(m:Pk)(h:zz m):keyOf prog 73 (.agg #[.int .i64 m.1,.string (bs m.2)])=some (tV m):=by
 have e:(bs m.2).size=m.2.length:=fB m.2;have hm:(bs m.2).size<=maxLen:=by rw[e];have:=h.2;unfold maxLen;omega
 have hw:(Lit.int .i64 m.1).wf=true:=by
  have e1:IntKind.i64.min= -9223372036854775808:=by decide
  have e2:IntKind.i64.max=9223372036854775807:=by decide
  have:=h.1;simp[Lit.wf,e1,e2];omega
 obtain⟨n,hn⟩:∃n,prog.types.size+1=n+1+1:=by
  have h:73<prog.types.size:=V3;generalize prog.types.size=s at h ⊢;exact⟨s-1,by omega⟩
 unfold keyOf;rw[underlying73];simp only[Nk,Rw,dQ,if_true];rw[hn];simp[Program.keyLits,underlying73,Kj,U8,x_,underlying3,underlying9,hm,hw,Value.cells,tV];simp[bs]
theorem Ry{m m':Pk}(h:zz m)(h':zz m')(e:tV m=tV m'):m=m':=by
 have e1:=Rx m h;have e2:=Rx m' h';rw[e]at e1;have e3:=vq.inj e1 e2;have f0:=aA (fun v:Value=>match v with| .agg a=>a[0]?|_=>none) e3;have f1:=aA (fun v:Value=>match v with| .agg a=>a[1]?|_=>none) e3;simp only[cd,dh,cE,aX,Value.int.injEq,dG,Value.string.injEq]at f0 f1;exact Prod.ext f0 (OB f1)
def oI(ks:List (Pk×Nat)):List (Lit×Nat):=ks.map fun y=>(tV y.1,y.2)
def pG(ks:List (Pk×Nat))(m:Pk):Option Nat:=(ks.find? fun y=>y.1==m).map (·.2)
theorem Kl{ks:List (Pk×Nat)}{m:Pk}(hm:zz m)(hx:∀y∈ks,zz y.1):nB (oI ks) (tV m)=pG ks m:=by
 unfold nB oI pG;induction ks with
 |nil=>rfl
 |cons y l ih=>
  have ih':=ih fun z hz=>hx z (bP _ hz);rw[bC,cC,cC];by_cases e:y.1=m
  ·have e1:(tV y.1).sameKey (tV m)=true:=by rw[e];exact bZ (vq.key (Rx m hm))
   rw[e1,e];simp
  ·have e1:(tV y.1).sameKey (tV m)=false:=dC fun h=>e (Ry (hx y bO) hm h);have e2:(y.1==m)=false:=by simpa using e
   rw[e1,e2];exact ih'
end Go.Proofs.YthlcmljckpdheaaGreatDoor
namespace Go.Proofs.YthlcmljckpdheaaGreatDoor
open Go.RowKit Go.Lib Tryz
def iT(n:K.Nd):L:=if n.name=[]then [35]else n.name
structure Cn where
 labels:List (L×Nat)
 keys:List (Pk×Nat)
 of:List Nat
def Cn.num(c:Cn)(u:Int):Nat:=(c.of[u.toNat]?).getD 0
def Cn.ahead(c:Cn)(n:K.Nd):Int:=if 0<=n.up then(c.num n.up:Int)else-1
def ol(ls:List (L×Nat))(a:Int):L:=if 0<=a then((ls[a.toNat]?).map (·.1)).getD []else []
def Cn.take(c:Cn)(n:K.Nd):Cn:=match pG c.keys (c.ahead n,iT n)with
 |some k=>⟨c.labels.modify k fun x=>(x.1,x.2+1),c.keys,c.of++[k]⟩
 |none=>⟨c.labels++[(ol c.labels (c.ahead n)++47::iT n,1)],c.keys++[((c.ahead n,iT n),c.labels.length)],c.of++[c.labels.length]⟩
def Cn.zero:Cn:=⟨[],[],[]⟩
def aaB(l:List K.Nd):Cn:=l.foldl Cn.take Cn.zero
def tW(ls:List (L×Nat))(s:L):List (L×Nat):=match ls.findIdx? fun x=>x.1==s with
 |some k=>ls.modify k fun x=>(x.1,x.2+1)
 |none=>ls++[(s,1)]
def Du(l:List K.Nd):Nat->Int->L
 |0,_=>[]
 |f+1,u=>if u<0 then []else match l[u.toNat]? with
  |some n=>Du l f n.up++47::iT n
  |none=>[]
def sI(l:List K.Nd)(k:Nat):L:=Du l (k+1) k
theorem Nl{l:List K.Nd}(T:K.mJ l):∀(k f:Nat),k<f->k<l.length->Du l f k=sI l k:=by
 intro k;induction k using Nat.strongRecOn with
 |_ k ih=>
  intro f hf hk;obtain⟨f,rfl⟩:∃g,f=g+1:=⟨f-1,by omega⟩
  have hn:l[k]?=some l[k]:=ap hk;unfold sI;rw[Du,Du,if_neg (by omega),if_neg (by omega),aG,hn];simp only;congr 1;cases k with
  |zero=>
   have:=(T.zero _ hn).1;rw[this];cases f with
   |zero=>rfl
   |succ f=>simp[Du]
  |succ k=>
   obtain⟨u,h1,h2,-⟩:=T.up k _ hn;rw[h1];have hu:=ih u (by omega);rw[hu f (by omega) (by omega),hu (k+1) (by omega) (by omega)]
theorem Jn{l:List K.Nd}(T:K.mJ l){k:Nat}{n:K.Nd}(h:l[k]?=some n):sI l k=(if 0<=n.up then sI l n.up.toNat else [])++47::iT n:=by
 have hk:=(List.getElem?_eq_some_iff.1 h).1;have e:sI l k=Du l k n.up++47::iT n:=by
  show Du l (k+1) k=_;rw[Du,if_neg (by omega),aG,h]
 rw[e];congr 1;cases k with
 |zero=>
  have:=(T.zero _ h).1;rw[this];rfl
 |succ k=>
  obtain⟨u,h1,h2,-⟩:=T.up k _ h;rw[h1,if_pos (by omega),aG];exact Nl T u (k+1) (by omega) (by omega)
def U9(l:List K.Nd):Prop:=∀n∈l,(47:UInt8)∉iT n
theorem Jo{a b p q:L}(hp:(47:UInt8)∉p)(hq:(47:UInt8)∉q)(h:a++47::p=b++47::q):a=b/\p=q:=by
 have key:∀{a b p q:L},(47:UInt8)∉p->(47:UInt8)∉q->a++47::p=b++47::q->a.length<=b.length->a=b/\p=q:=by
  intro a b p q hp hq h hl;obtain⟨c,rfl⟩:∃c,b=a++c:=by
   have h1:a<+:b++47::q:=⟨_,h⟩
   have h2:b<+:b++47::q:=List.prefix_append _ _;obtain⟨c,hc⟩:=List.prefix_of_prefix_length_le h1 h2 hl;exact⟨c,hc.symm⟩
  rw[bt]at h;have h3:=List.append_cancel_left h;cases c with
  |nil=>
   rw[bV,cu]at h3;exact⟨by simp,h3.2⟩
  |cons x c=>
   rw[bI,cu]at h3;exact absurd (by rw[h3.2];simp) hp
 rcases Nat.le_total a.length b.length with hl|hl
 ·exact key hp hq h hl
 ·obtain⟨h1,h2⟩:=key hq hp h.symm hl;exact⟨h1.symm,h2.symm⟩
abbrev Cn.P(c:Cn):List L:=c.labels.map (·.1)
def oJ(P:List L)(a:Int):L:=if 0<=a then(P[a.toNat]?).getD []else []
theorem BH(ls:List (L×Nat))(a:Int):ol ls a=oJ (ls.map (·.1)) a:=by
 unfold ol oJ;rw[aH]
def Ym(P:List L)(a:Int):Prop:=a= -1\/∃b:Nat,a=b/\b<P.length
structure CI(l:List K.Nd)(i:Nat)(c:Cn):Prop where
 len:c.of.length=i
 nod:c.P.Nodup
 num:∀j,j<i->∃k,c.of[j]?=some k/\c.P[k]?=some (sI l j)
 key:∀a p k,((a,p),k)∈c.keys->(47:UInt8)∉p/\Ym c.P a/\c.P[k]?=some (oJ c.P a++47::p)
 all:∀k,k<c.P.length->∃a p,((a,p),k)∈c.keys
theorem CI.zero(l:List K.Nd):CI l 0 Cn.zero:=⟨rfl,List.Pairwise.nil,fun j h=>by omega,fun a p k h=>(by cases h),fun k h=>(by simp[Cn.P,Cn.zero]at h)⟩
theorem F5{P:List L}(h:P.Nodup){i j:Nat}{x:L}(hi:P[i]?=some x)(hj:P[j]?=some x):i=j:=by
 obtain⟨h1,e1⟩:=List.getElem?_eq_some_iff.1 hi;obtain⟨h2,e2⟩:=List.getElem?_eq_some_iff.1 hj;rcases ew i j with hl|hl|hl
 ·exact absurd (e1.trans e2.symm) (List.pairwise_iff_getElem.1 h i j h1 h2 hl)
 ·exact hl
 ·exact absurd (e2.trans e1.symm) (List.pairwise_iff_getElem.1 h j i h2 h1 hl)
theorem Rz{P:List L}{a:Int}(h:Ym P a):(a= -1/\oJ P a=[])\/∃b:Nat,a=b/\P[b]?=some (oJ P a):=by
 rcases h with rfl|⟨b,rfl,hb⟩
 ·exact Or.inl ⟨rfl,rfl⟩
 ·refine Or.inr ⟨b,rfl,?_⟩;unfold oJ;rw[if_pos (by omega),aG,ap hb];rfl
theorem Yn{P:List (L×Nat)}{s:L}{k:Nat}(hn:(P.map (·.1)).Nodup)(h:(P.map (·.1))[k]?=some s):(P.findIdx? fun x=>x.1==s)=some k:=by
 rw[aH]at h;obtain⟨y,hy,e⟩:=Option.map_eq_some_iff.1 h;obtain⟨hk,ey⟩:=List.getElem?_eq_some_iff.1 hy;rw[List.findIdx?_eq_some_iff_getElem];refine⟨hk,by rw[ey,e];simp,fun j hj=>?_⟩;intro hh;have hjl:j<P.length:=by omega
 have e2:(P.map (·.1))[j]?=some s:=by
  rw[aH,ap hjl];simpa using hh
 have:=F5 hn e2 (by rw[aH,hy];simp[e]);omega
theorem CI.found{l:List K.Nd}{i:Nat}{c:Cn}(h:CI l i c){a:Int}{p:L}(ha:Ym c.P a)(hp:(47:UInt8)∉p):pG c.keys (a,p)=c.labels.findIdx? fun x=>x.1==oJ c.P a++47::p:=by
 cases hk:pG c.keys (a,p)with
 |some k=>
  unfold pG at hk;obtain⟨y,hy,e⟩:=Option.map_eq_some_iff.1 hk;have hm:=cR hy;have he:=dV hy;have he:y.1=(a,p):=by simpa using he
  obtain⟨⟨a',p'⟩,k'⟩:=y;cases he;cases e;exact(Yn h.nod (h.key _ _ _ hm).2.2).symm
 |none=>
  symm;rw[List.findIdx?_eq_none_iff];intro x hx;cases hb:(x.1==oJ c.P a++47::p)with
  |false=>rfl
  |true=>
   exfalso;have hxe:x.1=oJ c.P a++47::p:=by simpa using hb
   obtain⟨k,hkx⟩:=dZ hx;have hpk:c.P[k]?=some x.1:=by rw[aH,hkx];rfl
   obtain⟨a',p',hm⟩:=h.all k (List.getElem?_eq_some_iff.1 hpk).1;obtain⟨q1,q2,q3⟩:=h.key _ _ _ hm;rw[hpk,hxe]at q3;obtain⟨e1,e2⟩:=Jo hp q1 (bu q3);have ne:∀b:Nat,c.P[b]?≠some []:=fun b hb=>by
    obtain⟨a2,p2,Kz⟩:=h.all b (List.getElem?_eq_some_iff.1 hb).1;have:=(h.key _ _ _ Kz).2.2;rw[hb]at this;simpa using bu this
   have ea:a'=a:=by
    rcases Rz q2 with⟨r1,r2⟩|⟨b,r1,r2⟩<;>rcases Rz ha with⟨s1,s2⟩|⟨d,s1,s2⟩
    ·rw[r1,s1]
    ·exact absurd (s2.trans (by rw[e1,r2])) (ne d)
    ·exact absurd (r2.trans (by rw[<-e1,s2])) (ne b)
    ·rw[<-e1]at r2;rw[r1,s1,F5 h.nod r2 s2]
   unfold pG at hk;rw[Option.map_eq_none_iff,List.find?_eq_none]at hk;have:=hk _ hm;rw[ea,<-e2]at this;simp at this
section
variable{l:List K.Nd}{i:Nat}{c:Cn}{n:K.Nd}
theorem Jp(ls:List (L×Nat))(k:Nat):(ls.modify k fun x=>(x.1,x.2+1)).map (·.1)=ls.map (·.1):=by
 apply cN;intro j;rw[aH,aH,bj];cases ls[j]? with
 |none=>rfl
 |some x=>by_cases e:k=j<;>simp[e]
theorem BJ{P:List L}{s:L}{a:Int}(h:Ym P a):oJ (P++[s]) a=oJ P a:=by
 unfold oJ;rcases h with rfl|⟨b,rfl,hb⟩
 ·rfl
 ·rw[if_pos (by omega),if_pos (by omega),aG,aL hb]
theorem CI.ahead(h:CI l i c)(T:K.mJ l)(hn:l[i]?=some n):Ym c.P (c.ahead n)/\oJ c.P (c.ahead n)++47::iT n=sI l i:=by
 rw[Jn T hn];unfold Cn.ahead;by_cases hu:0<=n.up
 ·rw[if_pos hu,if_pos hu];have hlt:n.up.toNat<i:=by
   cases i with
   |zero=>have:=(T.zero _ hn).1;omega
   |succ i=>
    obtain⟨u,h1,h2,-⟩:=T.up i _ hn;omega
  obtain⟨k,h1,h2⟩:=h.num _ hlt;have e:c.num n.up=k:=by unfold Cn.num;rw[h1];rfl
  have hk:=(List.getElem?_eq_some_iff.1 h2).1;rw[e];refine⟨Or.inr ⟨k,rfl,hk⟩,?_⟩;unfold oJ;rw[if_pos (by omega),aG,h2];rfl
 ·rw[if_neg hu,if_neg hu];exact⟨Or.inl rfl,rfl⟩
theorem CI.take(h:CI l i c)(T:K.mJ l)(S:U9 l)(hn:l[i]?=some n):CI l (i+1) (c.take n)/\(c.take n).labels=tW c.labels (sI l i):=by
 obtain⟨ha,hp⟩:=h.ahead T hn;have hs:=S n (aO hn);have hf:=h.found ha hs;rw[hp]at hf;have hat:ol c.labels (c.ahead n)++47::iT n=sI l i:=by rw[BH];exact hp
 unfold Cn.take tW;rw[<-hf];cases hk:pG c.keys (c.ahead n,iT n)with
 |some k=>
  refine⟨?_,rfl⟩;have hm:((c.ahead n,iT n),k)∈c.keys:=by
   unfold pG at hk;obtain⟨y,hy,e⟩:=Option.map_eq_some_iff.1 hk;have hm:=cR hy;have he:y.1=(c.ahead n,iT n):=by simpa using dV hy
   obtain⟨y1,y2⟩:=y;cases he;cases e;exact hm
  have hpk:=(h.key _ _ _ hm).2.2;rw[hp]at hpk;have eP:(Cn.P ⟨c.labels.modify k fun x=>(x.1,x.2+1),c.keys,c.of++[k]⟩)=c.P:=Jp _ _;refine⟨by simp[h.len],by rw[eP];exact h.nod,fun j hj=>?_,?_,?_⟩
  ·rw[eP];by_cases e:j=i
   ·subst e;refine⟨k,?_,hpk⟩;show (c.of++[k])[j]?=some k;rw[aP (by rw[h.len];exact aj _),h.len];simp
   ·obtain⟨m,h1,h2⟩:=h.num j (by omega);refine⟨m,?_,h2⟩;show (c.of++[k])[j]?=some m;rw[aL (by rw[h.len];omega)];exact h1
  ·rw[eP];exact h.key
  ·rw[eP];exact h.all
 |none=>
  simp only[hat];refine⟨?_,trivial⟩;have eP:(Cn.P ⟨c.labels++[(sI l i,1)],c.keys++[((c.ahead n,iT n),c.labels.length)],c.of++[c.labels.length]⟩)=c.P++[sI l i]:=by simp[Cn.P]
  have el:c.P.length=c.labels.length:=by simp[Cn.P]
  have OG:sI l i∉c.P:=fun hm=>by
   rw[hk]at hf;have:=List.findIdx?_eq_none_iff.1 hf.symm;obtain⟨x,hx,e⟩:=List.mem_map.1 hm;have:=this x hx;rw[e]at this;simp at this
  have up:∀{k:Nat} {x:L},c.P[k]?=some x->(c.P++[sI l i])[k]?=some x:=fun{k x} hk=>by
   rw[aL (List.getElem?_eq_some_iff.1 hk).1];exact hk
  have okU:∀{a:Int},Ym c.P a->Ym (c.P++[sI l i]) a:=fun{a} h=>by
   rcases h with h|⟨b,h1,h2⟩
   ·exact Or.inl h
   ·exact Or.inr ⟨b,h1,by rw[af];omega⟩
  have last:(c.P++[sI l i])[c.labels.length]?=some (sI l i):=by
   rw[aP (by omega),el];simp
  refine⟨by simp[h.len],?_,fun j hj=>?_,fun a p k hm=>?_,fun k hk=>?_⟩
  ·rw[eP];exact List.nodup_append.2 ⟨h.nod,by simp,fun x hx y hy e=>by
    rw[aJ]at hy;exact OG (by rw[<-hy,<-e];exact hx)⟩
  ·rw[eP];by_cases e:j=i
   ·subst e;refine⟨c.labels.length,?_,last⟩;show (c.of++[c.labels.length])[j]?=some c.labels.length;rw[aP (by rw[h.len];exact aj _),h.len];simp
   ·obtain⟨m,h1,h2⟩:=h.num j (by omega);refine⟨m,?_,up h2⟩;show (c.of++[c.labels.length])[j]?=some m;rw[aL (by rw[h.len];omega)];exact h1
  ·rw[eP];rcases List.mem_append.1 hm with hm|hm
   ·obtain⟨q1,q2,q3⟩:=h.key _ _ _ hm;exact⟨q1,okU q2,by rw[BJ q2];exact up q3⟩
   ·rw[aJ]at hm;cases hm;exact⟨hs,okU ha,by rw[BJ ha,hp];exact last⟩
  ·rw[eP,af]at hk;by_cases e:k<c.P.length
   ·obtain⟨a,p,hm⟩:=h.all k e;exact⟨a,p,dA _ hm⟩
   ·refine⟨c.ahead n,iT n,List.mem_append_right _ ?_⟩;have:k=c.labels.length:=by
     simp at hk;omega
    rw[this];simp
def s6(l:List K.Nd)(i:Nat):List (L×Nat):=(List.range i).foldl (fun ls k=>tW ls (sI l k)) []
theorem Km(T:K.mJ l)(S:U9 l):∀i,i<=l.length->CI l i ((l.take i).foldl Cn.take Cn.zero)/\((l.take i).foldl Cn.take Cn.zero).labels=s6 l i
 |0,_=>⟨by simpa using CI.zero l,rfl⟩
 |i+1,h=>by
  obtain⟨h1,h2⟩:=Km T S i (by omega);have hn:l[i]?=some l[i]:=ap (by omega);obtain⟨q1,q2⟩:=h1.take T S hn;have e:(l.take (i+1)).foldl Cn.take Cn.zero=((l.take i).foldl Cn.take Cn.zero).take l[i]:=by
   rw[cL,hn,cB];rfl
  rw[e];refine⟨q1,?_⟩;rw[q2,h2];unfold s6;rw[List.range_succ,cB];rfl
end
end Go.Proofs.YthlcmljckpdheaaGreatDoor
namespace Go.Proofs.YthlcmljckpdheaaGreatDoor
open Go.RowKit Go.Maps Go.Lib Tryz
section
variable{w w' w1 w2 W W':World}{X mb lo:Nat}{lv ov:Value}{c:Cn}{l:List K.Nd}{i:Nat}{n:K.Nd}
structure CB(i B:Nat)(c:Cn):Prop where
 V4:c.labels.length<=i
 key:c.keys.length<=i
 cnt:∀x∈c.labels,x.2<=i
 sI:∀x∈c.labels,x.1.length<=B
theorem CB.zero(B:Nat):CB 0 B Cn.zero:=⟨aj _,aj _,fun x h=>(by cases h),fun x h=>(by cases h)⟩
theorem rC{ls:List (L×Nat)}{k:Nat}{x:L×Nat}(h:x∈ls.modify k fun x=>(x.1,x.2+1)):∃y∈ls,x.1=y.1/\x.2<=y.2+1:=by
 obtain⟨j,hj⟩:=dZ h;rw[bj]at hj;obtain⟨y,hy,e⟩:=Option.map_eq_some_iff.1 hj;refine⟨y,aO hy,?_⟩;rw[<-e];split<;>exact⟨rfl,by simp⟩
theorem CB.take{B:Nat}(h:CB i B c)(hB:(ol c.labels (c.ahead n)++47::iT n).length<=B):CB (i+1) B (c.take n):=by
 unfold Cn.take;split
 ·refine⟨?_,dl h.key,fun x hx=>?_,fun x hx=>?_⟩
  ·show (c.labels.modify _ _).length<=_;rw[bn];exact dl h.V4
  ·obtain⟨y,hy,e1,e2⟩:=rC hx;have:=h.cnt y hy;omega
  ·obtain⟨y,hy,e1,e2⟩:=rC hx;rw[e1];exact h.sI y hy
 ·refine⟨?_,?_,fun x hx=>?_,fun x hx=>?_⟩
  ·show (c.labels++_).length<=_;have:=h.V4;simp;omega
  ·show (c.keys++_).length<=_;have:=h.key;simp;omega
  ·rcases List.mem_append.1 hx with hx|hx
   ·exact dl (h.cnt x hx)
   ·rw[aJ]at hx;rw[hx];exact Nat.le_add_left 1 i
  ·rcases List.mem_append.1 hx with hx|hx
   ·exact h.sI x hx
   ·rw[aJ]at hx;rw[hx];exact hB
theorem CI.aaC{B:Nat}(h:CI l i c)(b:CB i B c)(hi:i<=1000000000000)(hB:B<=1000000000000):∀y∈c.keys,zz y.1/\y.2<c.labels.length:=by
 rintro⟨⟨a,p⟩,k⟩ hy;obtain⟨h1,h2,h3⟩:=h.key _ _ _ hy;have e:c.P.length=c.labels.length:=by simp[Cn.P]
 have hl:=b.V4;obtain⟨hk,ek⟩:=List.getElem?_eq_some_iff.1 h3;refine⟨⟨?_,?_⟩,by rw[<-e];exact hk⟩
 ·show-1<=a/\a<=1000000000000;rcases h2 with rfl|⟨b,rfl,hb⟩<;>omega
 ·obtain⟨x,hx,ex⟩:=List.mem_map.1 (aO h3);have:=b.sI x hx;rw[ex]at this;simp at this;show p.length<=_;omega
def k9(ls:List (L×Nat)):List Value:=ls.flatMap fun x=>[.string (bs x.1),.int .i64 (x.2:Nat)]
def lM(l:List Nat):List Value:=l.map fun k=> .int .i64 (k:Nat)
theorem Dv:∀(ls:List (L×Nat)) (k:Nat) (x:L×Nat),ls[k]?=some x->(k9 ls)[k*2]?=some (.string (bs x.1))/\(k9 ls)[k*2+1]?=some (.int .i64 (x.2:Nat))
 |[],k,x,h=>by simp at h
 |y::ls,0,x,h=>by
  obtain rfl:y=x:=by simpa using h
  exact⟨rfl,rfl⟩
 |y::ls,k+1,x,h=>by
  have h2:=Dv ls k x (by simpa using h);have e1:(k+1)*2=k*2+1+1:=by omega
  rw[e1];exact h2
theorem zA:∀(ls:List (L×Nat)) (k:Nat) (x:L×Nat),ls[k]?=some x->(k9 ls).set (k*2+1) (.int .i64 ((x.2+1:Nat):Int))=k9 (ls.modify k fun x=>(x.1,x.2+1))
 |[],k,x,h=>by simp at h
 |y::ls,0,x,h=>by
  obtain rfl:y=x:=by simpa using h
  rfl
 |y::ls,k+1,x,h=>by
  have h2:=zA ls k x (by simpa using h);have e1:(k+1)*2=k*2+1+1:=by omega
  rw[e1];show _::_::(k9 ls).set (k*2+1) _=_;rw[h2];rfl
theorem F8(ls:List (L×Nat))(x:L×Nat):k9 (ls++[x])=k9 ls++[.string (bs x.1),.int .i64 (x.2:Nat)]:=by
 unfold k9;rw[cr];rfl
structure CM(lo X mb:Nat)(lv ov:Value)(c:Cn)(w:World):Prop where
 blk:w.heap[X]?=some (.cells #[lv,.map (some mb),ov] 41 (0,0))
 kr:w.ownsRow 0 31 2 lv c.labels.length (k9 c.labels)
 map:jb w 73 mb (oI c.keys)
 kI:w.ownsRow 0 3 1 ov c.of.length (lM c.of)
 new:lo<=X/\lo<=mb/\(∀k,lv.ownBlock=some k->lo<=k)/\∀k,ov.ownBlock=some k->lo<=k
structure TW(w:World)(nd:Array Value)(lo X mb:Nat)(A:Int)(S:ByteArray)(lv ov:Value)(c:Cn)(W:World):Prop where
 cm:CM lo X mb lv ov c W
 node:W.heap[w.heap.size]?=some (.cells nd 44 (0,0))
 prt:W.heap[w.heap.size+1]?=some (.cells #[.int .i64 A,.string S] 73 (0,0))
 b:Below lo w W
 lo:lo<=w.heap.size
variable{nd:Array Value}{A:Int}{S:ByteArray}
theorem TW.keep(h:TW w nd lo X mb A S lv ov c W)(hs:∀k,k<W.heap.size->W'.heap[k]?=W.heap[k]?)(hb:Below lo W W'):TW w nd lo X mb A S lv ov c W':=
 ⟨⟨(hs _ (eO h.cm.blk)).trans h.cm.blk,eH h.cm.kr fun k e=>hs k (eW h.cm.kr e),h.cm.map.of (hs _ h.cm.map.lt),eH h.cm.kI fun k e=>hs k (eW h.cm.kI e),h.cm.new⟩,(hs _ (eO h.node)).trans h.node,(hs _ (eO h.prt)).trans h.prt,h.b.trans hb,h.lo⟩
theorem TW.drew(h:TW w nd lo X mb A S lv ov c W):TW w nd lo X mb A S lv ov c W.drew:=h.keep (fun _ _=>rfl) (Below.refl _ _).drew
theorem TW.big(h:TW w nd lo X mb A S lv ov c W):lo<=W.heap.size:=aw h.lo (dH (eO h.node))
theorem TW.alloc(h:TW w nd lo X mb A S lv ov c W)(o:Obj):TW w nd lo X mb A S lv ov c (W.alloc o):=h.keep (fun k hk=>ak _ _ _ hk) ((Below.refl _ _).alloc h.big o)
theorem TW.Nn(h:TW w nd lo X mb A S lv ov c W)(j:Nat)(u:Value)(A':Int)(S':ByteArray)(e:(#[.int .i64 A,.string S]:Array Value).setIfInBounds j u=#[.int .i64 A',.string S']):TW w nd lo X mb A' S' lv ov c (W.setCell ⟨w.heap.size+1,j,none⟩ u):=by
 have hX:X≠w.heap.size+1:=fun e=>by have:=h.prt;rw[<-e,h.cm.blk]at this;cases this
 have hm:mb≠w.heap.size+1:=fun e=>by
  obtain⟨es,ck,hb⟩:=h.cm.map.isMap;rw[e,h.prt]at hb;cases hb
 have h1:=fG h.cm.kr h.prt (by decide);have h2:=fG h.cm.kI h.prt (by decide);have hs:=fe (i:=j) h.prt u;rw[e]at hs;have ox:=h.lo;exact⟨⟨(ae _ _ _ _ hX).trans h.cm.blk,eH h.cm.kr fun k e=>ae _ _ _ _ fun e'=>h1 (by rw[e,e']),h.cm.map.of (ae _ _ _ _ hm),eH h.cm.kI fun k e=>ae _ _ _ _ fun e'=>h2 (by rw[e,e']),h.cm.new⟩,(ae _ _ _ _ (by simp)).trans h.node,hs,h.b.setCell (by show lo<=w.heap.size+1;omega) _,h.lo⟩
theorem TW.put{m:Pk}{k:Nat}(h:TW w nd lo X mb A S lv ov c W)(hm:jb w' 73 mb (oI c.keys++[(tV m,k)]))(hg:W.grownBy w' (some mb)):TW w nd lo X mb A S lv ov ⟨c.labels,c.keys++[(m,k)],c.of⟩ w':=by
 obtain⟨es,ck,hb⟩:=h.cm.map.isMap;have ne:∀{j:Nat} {cs:Array Value} {t:TypeId},W.heap[j]?=some (.cells cs t (0,0))->w'.heap[j]?=some (.cells cs t (0,0)):=fun{j cs t} hj=>
  (hg.block j (eO hj) fun e=>by cases e;rw[hb]at hj;cases hj).trans hj
 have h1:=kJ h.cm.kr hb;have h2:=kJ h.cm.kI hb;refine⟨⟨ne h.cm.blk,eH h.cm.kr fun k e=>hg.block k (eW h.cm.kr e) fun e'=>h1 (by rw[e,e']),?_,eH h.cm.kI fun k e=>hg.block k (eW h.cm.kI e) fun e'=>h2 (by rw[e,e']),h.cm.new⟩,ne h.node,ne h.prt,h.b.grown hg h.big fun k e=>by cases e;exact h.cm.new.2.1,h.lo⟩;show jb w' 73 mb (oI (c.keys++[(m,k)]));unfold oI;rw[aR];exact hm
theorem TW.U_{v':Value}{x:L×Nat}(h:TW w nd lo X mb A S lv ov c W)(ho:w'.ownsRow 0 31 2 v' (c.labels.length+1) (k9 c.labels++[.string (bs x.1),.int .i64 (x.2:Nat)]))(hg:W.grownBy w' lv.ownBlock)(hat:v'.ownBlock=lv.ownBlock\/v'.ownBlock=some W.heap.size):
  w'.cell? ⟨X,0,none⟩=some lv/\w'.frozen? ⟨X,0,none⟩=false/\TW w nd lo X mb A S v' ov ⟨c.labels++[x],c.keys,c.of⟩ (w'.setCell ⟨X,0,none⟩ v'):=by
 obtain⟨es,ck,hb⟩:=h.cm.map.isMap;have hX:=fG h.cm.kr h.cm.blk (by decide);have hN:=fG h.cm.kr h.node (by decide);have hP:=fG h.cm.kr h.prt (by decide);have hM:=kJ h.cm.kr hb;have hO:∀k,ov.ownBlock=some k->lv.ownBlock≠some k:=fun k e e'=>by
  rcases h.cm.kI.2 with⟨h0,_⟩|⟨g,cap,cur,h0,_,hg,_⟩
  ·rw[h0]at e;cases e
  ·rw[h0]at e;have:g=k:=by simpa [Value.ownBlock]using e
   subst this;exact fG h.cm.kr hg (by decide) e'
 have bX:=(hg.block _ (eO h.cm.blk) fun e=>hX e.symm).trans h.cm.blk;have sX:=fe (i:=0) bX v';have bm:=hg.block _ h.cm.map.lt fun e=>hM e.symm;have vX:v'.ownBlock≠some X:=fG ho bX (by decide);have oX:=fG h.cm.kI h.cm.blk (by decide);have XN:w.heap.size≠X:=fun e=>by have:=h.node;rw[e,h.cm.blk]at this;cases this
 have XP:w.heap.size+1≠X:=fun e=>by have:=h.prt;rw[e,h.cm.blk]at this;cases this
 have Xm:mb≠X:=fun e=>by have:=h.cm.blk;rw[<-e,hb]at this;cases this
 refine⟨cell_of bX rfl,eR bX,⟨⟨sX,?_,?_,?_,h.cm.new.1,h.cm.new.2.1,?_,h.cm.new.2.2.2⟩,?_,?_,?_,h.lo⟩⟩
 ·show World.ownsRow _ 0 31 2 v' (c.labels++[x]).length (k9 (c.labels++[x]));rw[F8,af];exact eH ho fun k e=>ae _ _ _ _ fun e'=>vX (by rw[e,e'])
 ·exact h.cm.map.of ((ae _ _ _ _ Xm).trans bm)
 ·exact eH h.cm.kI fun k e=>(ae _ _ _ _ fun e'=>oX (by rw[e,e'])).trans (hg.block k (eW h.cm.kI e) fun e'=>hO k e e'.symm)
 ·intro k e;rcases hat with h1|h1
  ·exact h.cm.new.2.2.1 k (by rw[<-h1,e])
  ·rw[h1]at e;cases e;exact h.big
 ·exact(ae _ _ _ _ XN).trans ((hg.block _ (eO h.node) fun e=>hN e.symm).trans h.node)
 ·exact(ae _ _ _ _ XP).trans ((hg.block _ (eO h.prt) fun e=>hP e.symm).trans h.prt)
 ·exact(h.b.grown hg h.big fun k e=>h.cm.new.2.2.1 k e).setCell h.cm.new.1 _
theorem TW.F9{v':Value}{k0:Nat}(h:TW w nd lo X mb A S lv ov c W)(ho:w'.ownsRow 0 3 1 v' (c.of.length+1) (lM c.of++[.int .i64 (k0:Nat)]))(hg:W.grownBy w' ov.ownBlock)(hat:v'.ownBlock=ov.ownBlock\/v'.ownBlock=some W.heap.size):
  w'.cell? ⟨X,2,none⟩=some ov/\w'.frozen? ⟨X,2,none⟩=false/\CM lo X mb lv v' ⟨c.labels,c.keys,c.of++[k0]⟩ (w'.setCell ⟨X,2,none⟩ v')/\Below lo w (w'.setCell ⟨X,2,none⟩ v'):=by
 obtain⟨es,ck,hb⟩:=h.cm.map.isMap;have hX:=fG h.cm.kI h.cm.blk (by decide);have hM:=kJ h.cm.kI hb;have hO:∀k,lv.ownBlock=some k->ov.ownBlock≠some k:=fun k e e'=>by
  rcases h.cm.kr.2 with⟨h0,_⟩|⟨g,cap,cur,h0,_,hg,_⟩
  ·rw[h0]at e;cases e
  ·rw[h0]at e;have:g=k:=by simpa [Value.ownBlock]using e
   subst this;exact fG h.cm.kI hg (by decide) e'
 have bX:=(hg.block _ (eO h.cm.blk) fun e=>hX e.symm).trans h.cm.blk;have sX:=fe (i:=2) bX v';have bm:=hg.block _ h.cm.map.lt fun e=>hM e.symm;have vX:v'.ownBlock≠some X:=fG ho bX (by decide);have oX:=fG h.cm.kr h.cm.blk (by decide);have Xm:mb≠X:=fun e=>by have:=h.cm.blk;rw[<-e,hb]at this;cases this
 refine⟨cell_of bX rfl,eR bX,⟨sX,?_,?_,?_,h.cm.new.1,h.cm.new.2.1,h.cm.new.2.2.1,?_⟩,?_⟩
 ·exact eH h.cm.kr fun k e=>(ae _ _ _ _ fun e'=>oX (by rw[e,e'])).trans (hg.block k (eW h.cm.kr e) fun e'=>hO k e e'.symm)
 ·exact h.cm.map.of ((ae _ _ _ _ Xm).trans bm)
 ·show World.ownsRow _ 0 3 1 v' (c.of++[k0]).length (lM (c.of++[k0]));have e:lM (c.of++[k0])=lM c.of++[.int .i64 (k0:Nat)]:=by unfold lM;rw[aR];rfl
  rw[e,af];exact eH ho fun k e=>ae _ _ _ _ fun e'=>vX (by rw[e,e'])
 ·intro k e;rcases hat with h1|h1
  ·exact h.cm.new.2.2.2 k (by rw[<-h1,e])
  ·rw[h1]at e;cases e;exact h.big
 ·exact(h.b.grown hg h.big fun k e=>h.cm.new.2.2.2 k e).setCell h.cm.new.1 _
theorem TW.abM{x:L×Nat}{k:Nat}(h:TW w nd lo X mb A S lv ov c W)(hx:c.labels[k]?=some x):∃g cap,lv=Z9 g c.labels.length cap/\W.cell? ⟨g,k*2+1,none⟩=some (.int .i64 (x.2:Nat))/\W.cell? ⟨g,k*2,none⟩=some (.string (bs x.1))/\W.frozen? ⟨g,k*2+1,none⟩=false/\TW w nd lo X mb A S lv ov ⟨c.labels.modify k fun x=>(x.1,x.2+1),c.keys,c.of⟩ (W.setCell ⟨g,k*2+1,none⟩ (.int .i64 ((x.2+1:Nat):Int))):=by
 have hk:=(List.getElem?_eq_some_iff.1 hx).1;have ll:(k9 c.labels).length=c.labels.length*2:=h.cm.kr.1;obtain⟨a1,a2⟩:=Dv _ _ _ hx;have hr:=h.cm.kr;obtain⟨es,ck,hb⟩:=h.cm.map.isMap;have hX:=fG h.cm.kr h.cm.blk (by decide);have hN:=fG h.cm.kr h.node (by decide);have hP:=fG h.cm.kr h.prt (by decide);have hM:=kJ h.cm.kr hb;have hO:∀k,ov.ownBlock=some k->lv.ownBlock≠some k:=fun k e e'=>by
  rcases h.cm.kI.2 with⟨h0,_⟩|⟨g,cap,cur,h0,_,hg,_⟩
  ·rw[h0]at e;cases e
  ·rw[h0]at e;have:g=k:=by simpa [Value.ownBlock]using e
   subst this;exact fG h.cm.kr hg (by decide) e'
 rcases hr.2 with⟨_,hz⟩|⟨g,cap,cur,rfl,_⟩
 ·omega
 have own:(Z9 g c.labels.length cap).ownBlock=some g:=rfl;rw[own]at hX hN hP hM hO;obtain⟨s1,s2⟩:=hr.stored (k*2+1) (.int .i64 ((x.2+1:Nat):Int));rw[zA _ _ _ hx]at s1;have bk:∀j,j<W.heap.size->j≠g->(W.setCell ⟨g,k*2+1,none⟩ (.int .i64 ((x.2+1:Nat):Int))).heap[j]?=W.heap[j]?:=fun j _ hj=>ae _ _ _ _ hj;refine⟨g,cap,rfl,(hr.cellAt _ (by omega)).trans a2,(hr.cellAt _ (by omega)).trans a1,hr.frozenAt _,⟨⟨?_,?_,?_,?_,h.cm.new⟩,?_,?_,?_,h.lo⟩⟩
 ·exact(bk _ (eO h.cm.blk) fun e=>hX (by rw[e])).trans h.cm.blk
 ·show World.ownsRow _ 0 31 2 _ (c.labels.modify k _).length (k9 (c.labels.modify k _));rw[bn];exact s1
 ·exact h.cm.map.of (bk _ h.cm.map.lt fun e=>hM (by rw[e]))
 ·exact eH h.cm.kI fun k e=>bk _ (eW h.cm.kI e) fun e'=>hO k e (by rw[e'])
 ·exact(bk _ (eO h.node) fun e=>hN (by rw[e])).trans h.node
 ·exact(bk _ (eO h.prt) fun e=>hP (by rw[e])).trans h.prt
 ·exact h.b.setCell (h.cm.new.2.2.1 g rfl) _
theorem TW.inc{x:L×Nat}{k:Nat}(h:TW w nd lo X mb A S lv ov c W)(hx:c.labels[k]?=some x):∃g cap,lv=Z9 g c.labels.length cap/\W.cell? ⟨g,k*2+1,none⟩=some (.int .i64 (x.2:Nat))/\W.cell? ⟨g,k*2,none⟩=some (.string (bs x.1))/\W.frozen? ⟨g,k*2+1,none⟩=false/\TW w nd lo X mb A S lv ov ⟨c.labels.modify k fun x=>(x.1,x.2+1),c.keys,c.of⟩ (W.setCell ⟨g,k*2+1,none⟩ (.int .i64 (((x.2:Nat):Int)+1))):=h.abM hx
end
end Go.Proofs.YthlcmljckpdheaaGreatDoor
