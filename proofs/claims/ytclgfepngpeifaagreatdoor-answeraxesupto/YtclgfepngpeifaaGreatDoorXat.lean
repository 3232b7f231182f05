import Derived.Test.YtclgfepngpeifaaGreatDoorXA
import Derived.Test.YtclgfepngpeifaaGreatDoorXap
import Derived.Test.YtclgfepngpeifaaGreatDoorXas
set_option linter.unusedVariables false
set_option linter.unusedSimpArgs false
set_option maxHeartbeats 32000000
set_option maxRecDepth 100000
namespace Go.Proofs.YtclgfepngpeifaaGreatDoor
namespace K
open Go.RowKit Go.Lib Tryz
section
def vM(cs:List Int):List UInt8:=cs.flatMap Lib.encodeRune
variable{s:ByteArray}{p:Nat}{c:Int}{x:Sc}{q:Bool}
end
section
def nj(n:List UInt8):Prop:=∃(s0:ByteArray) (q:Nat),Ch.eI (cur s0 q)=true/\n=Ch.bytes s0 q (jq s0 q-q)
def fR(t:List UInt8):Prop:=∃cs:List Int,(∀c∈cs,Ch.may c=true)/\t=vM cs
variable{s:ByteArray}{p:Nat}{c:Int}{x:Sc}{q:Bool}
theorem BW(s:ByteArray)(i n:Nat)(h:i+n<=s.size):(Ch.bytes s i n).length=n:=by
 unfold Ch.bytes;have hz:s.data.toList.length=s.size:=by simp
 rw[bI,b9];omega
end
section
variable{s:ByteArray}{p:Nat}{c:Int}{x:Sc}{q:Bool}
def kt(a:List UInt8×List UInt8):List UInt8:=10::(a.1++([32,61,32,34]++(Ch.sA true a.2++[34])))
end
section
variable{s:ByteArray}{p:Nat}{c:Int}{x:Sc}{q:Bool}
def uX:mn->mn->Prop
 |_,[]=>True
 |l,a::ats=>l.any (fun b=>b.1==a.1)=false/\uX (l++[a]) ats
end
section
variable{s:ByteArray}{p:Nat}{c:Int}{x y z:Sc}{q:Bool}
def ZA:List UInt8:=[60,33,45,45,32,114,32,45,45,62]
def ZB:List UInt8:=[60,63,111,63,62]
def ZC:List UInt8:=[60,33,91,67,68,65,84,65,91,93,93,62]
def Goes(s:ByteArray)(x y:Sc):Prop:=∃n,x.i+n<=y.i/\∀f,il s (f+n) x=il s f y
theorem Goes.refl(x:Sc):Goes s x x:=⟨0,by omega,fun f=>rfl⟩
theorem Goes.trans(h:Goes s x y)(k:Goes s y z):Goes s x z:=by
 obtain⟨n,h1,h2⟩:=h;obtain⟨m,k1,k2⟩:=k;refine⟨m+n,by omega,fun f=>?_⟩;rw[<-cM,h2,k2]
theorem Goes.j4(he:x.err=0)(sB:cur s x.i=60)(hi:x.i+1<=(x.j4 s).i):Goes s x (x.j4 s):=by
 have hp:=(jI (s:=s) (i:=x.i) (c:=60) (by omega)).1 sB;refine⟨1,hi,fun f=>?_⟩
 conv=>lhs;unfold il
 rw[if_pos ⟨hp.1,he⟩];unfold Sc.piece;rw[if_pos hp.2]
theorem Goes.over(h:Goes s Sc.zero y)(hi:y.i=s.size):ee s=y:=by
 obtain⟨n,h1,h2⟩:=h;have h0:(Sc.zero).i=0:=rfl;unfold ee;obtain⟨f,hf⟩:∃f,s.size+1=f+n:=⟨s.size+1-n,by omega⟩
 rw[hf,h2];cases f with
 |zero=>rfl
 |succ f=>simp only[il];rw[if_neg (fun e=>by omega)]
def marks:List UInt8:=ZA++(ZB++ZC)
end
section
variable{s:ByteArray}{p:Nat}{c:Int}{x y z:Sc}{q:Bool}
def jh(t:eX):List UInt8:=if t.kind=1 then 60::(t.name++(t.attrs.flatMap kt++[32,62]))else if t.kind=2 then [60,47]++t.name++[62]else Ch.sA false t.text++marks
def BZ(t:eX):Prop:=
 (t.kind=1/\nj t.name/\(∀a∈t.attrs,nj a.1/\fR a.2)/\uX [] t.attrs/\t.text=[])\/(t.kind=2/\nj t.name/\t.attrs=[]/\t.text=[])\/
 (t.kind=3/\t.name=[]/\t.attrs=[]/\fR t.text/\t.text≠[])
def lX:Bool->List eX->Prop
 |_,[]=>True
 |b,t::l=>BZ t/\(t.kind=3->b=false)/\lX (t.kind==3) l
def ends:Bool->List eX->Bool
 |b,[]=>b
 |_,t::l=>ends (t.kind==3) l
def bare(t:eX):eX:={t with at_:=0}
theorem pj:∀(l l':List eX) (b:Bool),lX b (l++l')↔lX b l/\lX (ends b l) l':=by
 intro l;induction l with
 |nil=>intro l' b;simp[lX,ends]
 |cons t l ih=>intro l' b;simp only[aZ,lX,ends,ih,and_assoc]
theorem wZ:∀(l l':List eX) (b:Bool),ends b (l++l')=ends (ends b l) l':=by
 intro l;induction l with
 |nil=>intro l' b;rfl
 |cons t l ih=>intro l' b;simp only[aZ,ends,ih]
end
end K
end Go.Proofs.YtclgfepngpeifaaGreatDoor
namespace Go.Proofs.YtclgfepngpeifaaGreatDoor
namespace K
open Go.RowKit Go.Maps Go.Lib Tryz
section
variable{X:Nat}{w w' w'' wr:World}{s t:ByteArray}{lv:Value}{x x':Sc}
structure AI(X:Nat)(w:World)(s:ByteArray)(lv:Value)(y:Sc×mn)(wr:World)(x:Sc)(l:mn)(v:Value)(f:Nat):Prop where
 se:SE X w s lv x wr
 row:wr.ownsRow 0 212 2 v l.length (d_ l)
 own:∀k,v.ownBlock=some k->w.heap.size<=k
 le:x.err=0->x.i<=s.size
 eq:ew s f x l=y
 fuel:x.err=0->s.size+1<x.i+f
 len:l.length<=s.size+1/\(x.err=0->l.length<=x.i)
theorem gL{l:mn}{v:Value}{w1 w2:World}(h:w1.ownsRow 0 212 2 v l.length (d_ l))(hX:v.ownBlock≠some X)(b:S3 X w1 w2):w2.ownsRow 0 212 2 v l.length (d_ l):=
 dW h fun k e=>b.block k (ej h e) (fun e2=>hX (by rw[e,e2]))
theorem FY{l:mn}{g cap:Nat}(h:w.ownsRow 0 212 2 (Z9 g l.length cap) l.length (d_ l))(i:Nat)(hi:i<l.length):
  w.cell? ⟨g,i*2,none⟩=some (eu (l[i]).1)/\w.cell? ⟨g,i*2+1,none⟩=some (eu (l[i]).2):=by
 have hc:=h.cells (g:=g) rfl;have key:∀(l:mn) (i:Nat) (hi:i<l.length),(d_ l)[i*2]?=some (eu (l[i]).1)/\(d_ l)[i*2+1]?=some (eu (l[i]).2):=by
  intro l;induction l with
  |nil=>intro i hi;cases hi
  |cons x l ih=>
   intro i hi;cases i with
   |zero=>exact⟨rfl,rfl⟩
   |succ i=>
    have:=ih i (by simpa using hi);have e1:(i+1)*2=i*2+2:=by omega
    rw[e1];simpa [d_]using this
 obtain⟨k1,k2⟩:=key l i hi;have h1:=hc _ _ k1;have h2:=hc _ _ k2;rw[Addr.add_mid,aG]at h1 h2;exact⟨h1,h2⟩
theorem Qf{l:mn}{ai:Option Addr}{ac:Nat}(h:w.ownsRow 0 212 2 (.slice ai l.length ac) l.length (d_ l))(i:Nat)(hi:i<l.length):
  ∃g,ai=some ⟨g,0,none⟩/\w.cell? ⟨g,i*2,none⟩=some (.string ⟨(l[i]).1.toArray⟩):=by
 have h':=h;rcases h'.2 with⟨e,e0⟩|⟨ga,ca',cur,e,_⟩
 ·omega
 cases e;exact⟨ga,rfl,(FY h i hi).1⟩
theorem Qg(h:j3 X w s lv x)(he:x.err≠0)(t:ByteArray)(ht:0<t.size):Z4 73 #[Z8 X,.string t] w fun en w'=>en=.returned (.tuple #[])/\SE X w s lv x w':=by
 have c5:w.cell? ⟨X,5,none⟩=some (.int .i64 x.err):=h.cell 5 rfl;have e0:(x.err==0)=false:=by simpa using he
 have hd:decide ((0:Int)<t.size)=true:=by simp;omega
 have H:=a_ (SE.refl h);clear h he;go_enter func73,ntmps73;go_wp2_with fail;refine dr 1 ?_;rw[dJ];go_wp2_with fail
 go_end0
 exact⟨rfl,H.out⟩
theorem FZ(h:j3 X w s lv x)(hs:s.size<=1125899906842624)(hi:x.err=0->x.i<=s.size)(t:ByteArray)(h0:0<t.size)(ht:t.size<=1024):Z4 73 #[Z8 X,.string t] w fun en w'=>en=.returned (.tuple #[])/\SE X w s lv (Sc.eo s (LA t 0) x) w':=by
 by_cases he:x.err=0
 ·exact S5 h hs (hi he) t (by omega)
 ·rw[iA s _ he];exact Qg h he t h0
theorem uY{ops:Array Oper}{rest:List Oper}{o:Oper}{a:Act}{w:World}{Q:Exit->Act->World->Prop}(hgd:o.guard=none)(s x:Operand)(ho:o.op=Op.call {callee:=Callee.builtin Builtin.append,args:=#[s,x],argTypes:=#[70,70]})(hty:o.type=70)
  (v1 v2:Value) (hs:a.eval s=v1) (hx:a.eval x=v2) {v':Value} {w':World} (hr:(Builtin.append_ #[70,70] 70 #[v1,v2]).run prog w=.ok v' w') (h:wpList prog ops Q rest (a.put o.dst v') w'):wpList prog ops Q (o::rest) a w:=by
 refine wpList_plain hgd fun K hK=>?_;unfold Oper.wp execOp;simp only[ho,hty,resolve,invoke,builtin,Sem.run_bind,Sem.run_pure,dN,List.map_toArray,bN,cF,hs,hx,hr];exact hK _ _ h
theorem Qh(x:Sc)(s:ByteArray):(x.ey s).err=x.err:=rfl
theorem F3(h:x.err=0->x.i<=s.size)(l:mn):(x.gv s l).err=0->(x.gv s l).i<=s.size:=by
 intro he;have h0:x.err=0:=by
  by_cases e:x.err=0
  ·exact e
  ·exfalso;have hn:x.name s=(x,⟨#[]⟩):=by unfold Sc.name;rw[if_neg e]
   have:x.gv s l=x:=by
    unfold Sc.gv;rw[hn];simp only;split
    ·unfold Sc.fail;rw[if_neg e]
    ·rfl
   rw[this]at he;exact e he
 by_cases hb:Ch.eI (cur s x.i)=true
 ·obtain⟨n1,n2⟩:=kW h0 hb;unfold Sc.gv;rw[n1];have hle:=nI (s:=s) (h h0);split
  ·rw[yI];exact hle
  ·exact hle
 ·exfalso;have hn:=nJ (s:=s) h0 hb;have oq:=eK x s h0;have:x.gv s l=x.wrong s:=by
   unfold Sc.gv;rw[hn];simp only;split
   ·unfold Sc.fail;rw[if_neg oq]
   ·rfl
  rw[this]at he;exact oq he
theorem mJ(h:x.err=0->x.i<=s.size):(x.ey s).err=0->(x.ey s).i<=s.size:=by
 intro he;rw[Qh]at he;rw[ly he];exact yX (h he)
theorem Kl(h:x.err=0->x.i<=s.size){c:UInt8}(hc:32<=c.toNat/\c.toNat<128):(Sc.eo s [c] x).err=0->(Sc.eo s [c] x).i<=s.size:=by
 by_cases he:x.err=0
 ·rw[qN he hc];split
  ·rename_i hq;have:=eF (s:=s) (i:=x.i) (by omega);intro _;show x.i+1<=_;omega
  ·intro e;exact absurd e (eK x s he)
 ·rw[iA s _ he];exact h
theorem Qi(h:x.err=0->x.i<=s.size)(l:mn):(x.equal s l).err=0->(x.equal s l).i<=s.size:=
 mJ (Kl (mJ (F3 h l)) (by decide))
def Sc.tw(x:Sc)(s:ByteArray)(l:mn)(k:Nat):Sc:=x.gv s (l.take k)
theorem TB(x:Sc)(s:ByteArray)(l:mn):x.tw s l 0=(x.name s).1:=by unfold Sc.tw Sc.gv;simp
theorem WA(x:Sc)(s:ByteArray)(l:mn):x.tw s l l.length=x.gv s l:=by unfold Sc.tw;rw[bZ]
theorem MA(x:Sc)(e a:Int)(he:e≠0):(x.fail e a).fail e a=x.fail e a:=by
 unfold Sc.fail;by_cases h:x.err=0
 ·rw[if_pos h,if_neg (by simpa using he)]
 ·rw[if_neg h,if_neg h]
theorem any_succ(l:mn)(k:Nat)(hk:k<l.length)(p:List UInt8×List UInt8->Bool):(l.take (k+1)).any p=((l.take k).any p||p l[k]):=by rw[dM hk,List.any_append];simp
theorem TC(x:Sc)(s:ByteArray)(l:mn)(k:Nat)(hk:k<l.length)(h:((l[k]).1==(x.name s).2.data.toList)=false):x.tw s l (k+1)=x.tw s l k:=by
 unfold Sc.tw Sc.gv;rw[any_succ l k hk,h,Bool.or_false]
theorem TD(x:Sc)(s:ByteArray)(l:mn)(k:Nat)(hk:k<l.length)(h:((l[k]).1==(x.name s).2.data.toList)=true):x.tw s l (k+1)=(x.tw s l k).fail 5 x.i:=by
 unfold Sc.tw Sc.gv;rw[any_succ l k hk,h,dD,if_pos rfl];split
 ·rw[MA _ _ _ (by decide)]
 ·rfl
end
section
variable{X:Nat}{w w' w'' wr:World}{s t:ByteArray}{lv:Value}{x x':Sc}
theorem I7(w:World)(a b:List UInt8):∀j u,[eu a,eu b][j]?=some u->(w.alloc (.cells #[eu a,eu b] 212)).cell? ((⟨w.heap.size,0,none⟩:Addr).add j)=some u:=by
 intro j u hj;have hb:(w.alloc (.cells #[eu a,eu b] 212)).heap[w.heap.size]?=some (.cells #[eu a,eu b] 212):=dR _ _
 match j,hj with
 |0,hj=>cases hj;exact cell_of hb rfl
 |1,hj=>cases hj;exact cell_of hb rfl
theorem MB(W:World){ai:Option Addr}{ac:Nat}{l:mn}(row:W.ownsRow 0 212 2 (.slice ai l.length ac) l.length (d_ l))(a b:List UInt8)(hl:l.length<=1099511627778):
  ∃v' W',(Builtin.append_ #[70,70] 70 #[.slice ai l.length ac,.slice (some ⟨W.heap.size,0,none⟩) 1 1]).run prog (W.alloc (.cells #[eu a,eu b] 212))=.ok v' W'/\W'.ownsRow 0 212 2 v' (l++[(a,b)]).length (d_ (l++[(a,b)]))/\(W.alloc (.cells #[eu a,eu b] 212)).grownBy W' (Value.slice ai l.length ac).ownBlock/\(v'.ownBlock=(Value.slice ai l.length ac).ownBlock\/v'.ownBlock=some (W.heap.size+1)):=by
 obtain⟨i0,hi,hz0,hz1,hz2⟩:=aY VY;obtain⟨v',W',hrun,r1,r2,_,r4⟩:=cW (P:=prog) (W.alloc (.cells #[eu a,eu b] 212)) 0 70 70 212 i0 _ 2 32 underlying70 hi hz0 hz1 hz2 rfl (by decide) (.slice ai l.length ac) l.length (d_ l) (row.alloc _) ⟨W.heap.size,0,none⟩ 1 1 [eu a,eu b] rfl (I7 W a b) (E8 a b) (by unfold maxLen;omega) (by omega) (aB _);refine⟨v',W',hrun,?_,r2,by simpa using r4⟩;have e1:(l++[(a,b)]).length=l.length+1:=by simp
 have e2:d_ (l++[(a,b)])=d_ l++[eu a,eu b]:=by simp[d_]
 rw[e1,e2];exact r1
theorem TE{l:mn}(he:x.err=0)(hi:x.i<=s.size)(hbl:¬Tk.blank (cur s x.i)=true)(B6:x.is s 47=false)(NK:x.is s 62=false):(x.attr s l).1.err=0->x.i<(x.attr s l).1.i/\(x.attr s l).1.i<=s.size:=by
 have BF:¬cur s x.i=47:=fun e=>by rw[(jJ he (c:=47) (by omega)).2 e]at B6;cases B6
 have D6:¬cur s x.i=62:=fun e=>by rw[(jJ he (c:=62) (by omega)).2 e]at NK;cases NK
 have hA:Df x ⟨fun j=>if j=.text then x.more else [],fun _=>x.fD,0,l,l.map Prod.fst,0,x.l⟩ l [] 0:=⟨⟨rfl,rfl,fun _=>rfl⟩,rfl,rfl,rfl,rfl,rfl⟩
 rcases BB (g:=fun _=>[]) he hi hA hbl BF D6 with⟨_,h2,h3,_⟩|⟨h1,_⟩
 ·exact fun _=>⟨h2,h3⟩
 ·exact fun e=>absurd e h1
theorem TF{w9 W':World}{o:Obj}{ro:Option Nat}(h:SE X w s lv x w9)(g:(w9.alloc o).grownBy W' ro)(hlt:X<w.heap.size)(hr:∀k,ro=some k->w.heap.size<=k):SE X w s lv x W':=by
 have hz:=h.2.size;have hb:∀k,k<w.heap.size->W'.heap[k]?=w9.heap[k]?:=fun k hk=>by
  rw[g.block k (by simp;omega) (fun e=>by have:=hr k e.symm;omega)];exact ay _ _ k (by omega)
 refine⟨(hb X hlt).trans h.1,⟨g.os.trans h.2.os,g.tape.trans h.2.tape,g.output.trans h.2.output,?_,fun k hk hX=>(hb k hk).trans (h.2.block k hk hX)⟩⟩;have:=g.size;simp at this;omega
theorem AI.next{y:Sc×mn}{l:mn}{ai:Option Addr}{ac f:Nat}{B:Sc}{w9 W':World}{o:Obj}{v':Value}(hlt:X<w.heap.size)(U:AI X w s lv y wr x l (.slice ai l.length ac) (f+1))(he:x.err=0)(hB:x.ey s=B)(hBi:x.i<B.i)
  (B6:B.is s 47=false) (NK:B.is s 62=false) (heq:ew s f (B.attr s l).1 (l++[(B.attr s l).2])=y) (R9:SE X w s lv (B.attr s l).1 w9) (row:W'.ownsRow 0 212 2 v' (l++[(B.attr s l).2]).length (d_ (l++[(B.attr s l).2])))
  (g:(w9.alloc o).grownBy W' (Value.slice ai l.length ac).ownBlock) (hat:v'.ownBlock=(Value.slice ai l.length ac).ownBlock\/v'.ownBlock=some (w9.heap.size+1)):
  AI X w s lv y W' (B.attr s l).1 (l++[(B.attr s l).2]) v' f/\left X s.size W'<left X s.size wr:=by
 have hle:=U.le he;have LB:=U.fuel he;have hln:=U.len.2 he;have Qj:B.err=0:=by rw[<-hB];exact he
 have hBl:B.i<=s.size:=by rw[<-hB]at Qj ⊢;exact mJ U.le Qj
 have hbl:¬Tk.blank (cur s B.i)=true:=by rw[<-hB,ly he];exact rO s x.i
 have ha:=TE (l:=l) Qj hBl hbl B6 NK;have se:=TF R9 g hlt U.own;have hz:=R9.2.size;have hlen:(l++[(B.attr s l).2]).length=l.length+1:=by simp
 refine⟨⟨se,row,?_,fun e=>(ha e).2,heq,fun e=>by have:=ha e;omega,⟨by omega,fun e=>by have:=ha e;omega⟩⟩,?_⟩
 ·intro k e;rcases hat with h|h
  ·exact U.own k (h.symm.trans e)
  ·rw[h]at e;cases e;omega
 ·rw[left_eq se.1 s.size,left_eq U.se.1 s.size,if_pos he];split
  ·rename_i e;have:=ha e;omega
  ·omega
theorem Qk(h:j3 X w s lv x)(hs:s.size<=1125899906842624)(hsz:s.size<=1099511627776)(hi:x.err=0->x.i<=s.size):
  Z4 78 #[Z8 X] w fun en w'=>∃v,en=.returned v/\SE X w s lv (x.attrs s).1 w'/\w'.ownsRow 0 212 2 v (x.attrs s).2.length (d_ (x.attrs s).2)/\(∀k,v.ownBlock=some k->w.heap.size<=k):=by
 have hlt:=h.lt;have h0:AI X w s lv (x.attrs s) w x [] (.slice none 0 0) (s.size+2):=⟨SE.refl h,bA _ _ _ _,by intro k e;simp[Value.ownBlock]at e,hi,rfl,fun _=>by omega,⟨by simp,fun _=>by simp⟩⟩
 generalize x.attrs s=y at*
 have H0:=a_ h0;have hbl:=fun W x' (b:j3 X W s lv x') (hi:x'.err=0->x'.i<=s.size)=>Bh b hs hi;have UU:=fun W x' (b:j3 X W s lv x') c (hc:c<256)=>Bg b c hc;have ri:=fun W x' (b:j3 X W s lv x') (hi:x'.err=0->x'.i<=s.size)=>J8 b hs hi;have rz:=fun W x' (b:j3 X W s lv x') (e a:Int)=>rJ b e a;have LZ:=fun W x' (b:j3 X W s lv x') (hi:x'.err=0->x'.i<=s.size)=>FZ b hs hi ⟨#[61]⟩ (by decide) (by decide);have ZD:=fun W x' (b:j3 X W s lv x') (hi:x'.i<=s.size)=>Pf b hs hi;have TH:=a_ hbl;have HIS:=a_ UU;have El:=a_ ri;have ZE:=a_ rz;have XP:=a_ LZ;have HVL:=a_ ZD;clear h h0 hi hbl UU ri rz LZ ZD;go_enter func78,ntmps78;go_wp2_with fail;go_loopw [3,4,5,6,7,8] (fun v _ _ _ _ _ wr=>∃x' l' f,AI X w s lv y wr x' l' v f) (fun _ _ _ _ _ _ wr=>left X s.size wr)
 case atStart=>exact⟨_,_,_,H0.out⟩
 case round=>
  obtain⟨x',l',f,u⟩:=hrel;obtain⟨ai,ac,rfl⟩:=dS u.row;have l_:=left_eq u.se.1 s.size;have hbl:=TH.out wr x' u.se.1 u.le;by_cases hsk:x'.skip s=0
  ·rw[hsk]at hbl;have hy:y=(x'.ey s,l'):=by
    have:=u.eq;cases f with
    |zero=>
     by_cases he:x'.err=0
     ·have:=u.fuel he;have:=u.le he;omega
     ·rw[jL he]at this;rw[jK he];exact this.symm
    |succ f=>simp only[ew]at this;rw[if_pos (Or.inl hsk)]at this;exact this.symm
   subst hy;have U:=a_ u;clear u l_ hsk;go_wp2_with fail;refine hbl.mono ?_;rintro e w1 ⟨rfl,r1⟩;have R1:=a_ r1;clear r1;go_wp2;go_ret;refine⟨_,rfl,U.out.se.on R1.out,gL U.out.row ?_ R1.out.2,U.out.own⟩;intro e;have:=U.out.own X e;omega
  ·have he:x'.err=0:=by
    by_cases he:x'.err=0
    ·exact he
    ·exact absurd (by unfold Sc.skip;rw[if_neg he]) hsk
   have UO:((x'.skip s:Int)==0)=false:=by simpa using hsk
   have hB:=mJ u.le;have Qj:(x'.ey s).err=0:=he;have hBi:x'.i<(x'.ey s).i:=by show x'.i<x'.i+x'.skip s;omega
   have hBl:=hB Qj;have hb0:((x'.ey s).err !=0)=false:=by rw[Qj];rfl
   have LB:=u.fuel he;have hxl:=u.le he;rw[if_pos he]at l_;obtain⟨f,rfl⟩:∃g,f=g+1:=⟨f-1,by omega⟩
   have heq:=u.eq;simp only[ew]at heq;have hlen:=u.len.2 he;have hX:(Value.slice ai (List.length l') ac).ownBlock≠some X:=by
    intro e;have:=u.own X e;omega
   have U:=a_ u;clear u;generalize sO:x'.ey s=B at*
   have i47:=fun W (b:j3 X W s lv B)=>HIS.out W B b 47 (by decide);have i62:=fun W (b:j3 X W s lv B)=>HIS.out W B b 62 (by decide);cases B6:B.is s 47
   ·cases NK:B.is s 62
    ·rw[if_neg (by rw[B6,NK];simp[hsk,Qj])]at heq;rw[B6]at i47;rw[NK]at i62;have D5:=a_ heq;have HE:=a_ he;have HBE:=a_ Qj;have HBN:=a_ sO;have I1:=a_ i47;have I2:=a_ i62;have abu:=a_ l_;have Q1:=a_ B6;have Q2:=a_ NK;clear heq he Qj sO i47 i62 hsk B6 NK l_;go_wp2_with fail;refine hbl.mono ?_;rintro e w1 ⟨rfl,r1⟩;have R1:=a_ (U.out.se.on r1);have F4:=a_ (gL U.out.row hX r1.2);have c15:w1.cell? ⟨X,5,none⟩=some (.int .i64 B.err):=r1.1.cell 5 rfl;clear r1 hbl;go_wp2_with fail;refine(I1.out _ R1.out.1).mono ?_;rintro e w2 ⟨rfl,b2⟩;have R2:=a_ (R1.out.below hlt b2);have I8:=a_ (dW F4.out fun k e=>b2.block k (ej F4.out e));clear b2;go_wp2_with fail;refine(I2.out _ R2.out.1).mono ?_;rintro e w3 ⟨rfl,b3⟩;have R3:=a_ (R2.out.below hlt b3);have WB:=a_ (dW I8.out fun k e=>b3.block k (ej I8.out e));have c31:w3.cell? ⟨X,1,none⟩=some (.int .i64 B.i):=R3.out.1.cell 1 rfl;clear b3 I1 I2;go_wp2_with fail;refine(El.out _ B R3.out.1 (fun _=>hBl)).mono ?_;rintro e w4 ⟨rfl,r4⟩;have R4:=a_ (R3.out.on r4);have aa5:=a_ (gL WB.out hX r4.2);clear r4;go_wp2_with fail;go_loopw [7] (fun iv wr2=>∃k:Nat,iv=.int .i64 k/\k<=l'.length/\SE X w s lv (B.tw s l' k) wr2/\wr2.ownsRow 0 212 2 (.slice ai l'.length ac) l'.length (d_ l')) (fun iv _=>l'.length-(RowKit.intOf iv).toNat)
     case atStart=>exact⟨0,rfl,aB _,by rw[TB];exact R4.out,aa5.out⟩
     case round=>
      obtain⟨k,rfl,hk,TI,tU⟩:=hrel;by_cases WC:k<l'.length
      ·have hdec:decide ((k:Int)<(l'.length:Int))=true:=by simp;omega
       have hwk:IntKind.i64.wrap ((k:Int)+1)=(k:Int)+1:=by rw[aM];omega
       obtain⟨g,hai,cg⟩:=Qf tU k WC;have xk:(B.name s).2.toList=(B.name s).2.data.toList:=Lib.toList_data _;have vS:(⟨(l'[k]).1.toArray⟩:ByteArray).toList=(l'[k]).1:=by rw[Lib.toList_data]
       cases hq:((l'[k]).1==(B.name s).2.data.toList)
       ·have G1:=TC B s l' k WC hq;have ZF:=a_ TI;have Dx:=a_ tU;have hq2:((⟨(l'[k]).1.toArray⟩:ByteArray).toList==(B.name s).2.toList)=false:=by rw[xk,vS];exact hq
        clear TI tU hq xk vS;generalize (⟨(l'[k]).1.toArray⟩:ByteArray)=nk at*
        generalize (B.name s).2=NB at*
        subst hai;go_wp2_with fail;refine⟨⟨k+1,by simp,by omega,by rw[G1];exact ZF.out,Dx.out⟩,by simp only[RowKit.intOf];omega⟩
       ·have G1:=TD B s l' k WC hq;have rz:=ZE.out _ _ TI.1 5 B.i;have ZF:=a_ TI;have Dx:=a_ tU;have hq2:((⟨(l'[k]).1.toArray⟩:ByteArray).toList==(B.name s).2.toList)=true:=by rw[xk,vS];exact hq
        clear TI tU hq xk vS;generalize (⟨(l'[k]).1.toArray⟩:ByteArray)=nk at*
        generalize (B.name s).2=NB at*
        subst hai;go_wp2_with fail;refine rz.mono ?_;rintro e w6 ⟨rfl,r6⟩;have R6:=a_ r6;clear r6 rz;go_wp2;refine⟨⟨k+1,by simp,by omega,by rw[G1];exact ZF.out.on R6.out,gL Dx.out hX R6.out.2⟩,by simp only[RowKit.intOf];omega⟩
      ·have hke:k=l'.length:=by omega
       subst hke;rw[WA]at TI;have htl:=F3 hB l';have ZG:=TH.out _ _ TI.1 htl;have ZF:=a_ TI;have Dx:=a_ tU;have hdec:decide ((l'.length:Int)<(l'.length:Int))=false:=by simp
       clear TI tU;have YV:=Qi hB l';have WD:=mJ htl;have ZH:=Kl WD (c:=61) (by decide);go_wp2_with fail;refine ZG.mono ?_;rintro e w6 ⟨rfl,r6⟩;have R6:=a_ (ZF.out.on r6);have Ql:=a_ (gL Dx.out hX r6.2);clear r6 ZG;go_wp2_with fail;refine(XP.out _ _ R6.out.1 WD).mono ?_;rintro e w7 ⟨rfl,r7⟩;have R7:=a_ (R6.out.on r7);have Qm:=a_ (gL Ql.out hX r7.2);clear r7;go_wp2_with fail;refine(TH.out _ _ R7.out.1 ZH).mono ?_;rintro e w8 ⟨rfl,r8⟩;have R8:Hid (SE X w s lv (B.equal s l') w8):=a_ (R7.out.on r8);have ZI:=a_ (gL Qm.out hX r8.2);have c85:w8.cell? ⟨X,5,none⟩=some (.int .i64 (B.equal s l').err):=R8.out.1.cell 5 rfl;clear r8 WD ZH htl;have yM:=fun(W:World) (row:W.ownsRow 0 212 2 (.slice ai l'.length ac) l'.length (d_ l')) (a b:List UInt8)=>MB W row a b (by omega);have ZJ:=a_ yM;clear yM;by_cases TJ:(B.equal s l').err=0
       ·have e80:((B.equal s l').err==0)=true:=by rw[TJ];rfl
        have hat:B.attr s l'=(((B.equal s l').value s).1,((B.name s).2.data.toList,((B.equal s l').value s).2)):=by unfold Sc.attr;rw[if_pos TJ]
        have ZD:=HVL.out _ _ R8.out.1 (YV TJ);have HEL:=a_ (YV TJ);have HEE:=a_ TJ;have sq:=a_ hat;clear TJ hat YV;go_wp2_with fail;refine ZD.mono ?_;rintro e w9 ⟨rfl,r9⟩;have R9:=a_ (R8.out.on r9);have aa6:=a_ (gL ZI.out hX r9.2);clear r9 ZD;obtain⟨v',W',hrun,F5,gr,EI⟩:=ZJ.out w9 aa6.out (B.name s).2.data.toList ((B.equal s l').value s).2;have hN:eu (B.name s).2.data.toList=.string (B.name s).2:=by unfold eu;simp
        rw[hN]at hrun gr;unfold eu at hrun gr;have Qn:=a_ F5;have GR:=a_ gr;have WE:=a_ EI;clear F5 gr EI;go_wp2_with(at_builtin;refine uY rfl (.tmp 64) (.tmp 68) rfl rfl _ _ rfl rfl hrun ?_);have iT:=AI.next (o:=.cells #[.string (B.name s).2,.string ⟨((B.equal s l').value s).2.toArray⟩] 212) (w9:=w9) (W':=W') (v':=v') hlt U.out HE.out HBN.out hBi Q1.out Q2.out D5.out (by rw[sq.out];exact R9.out) (by rw[sq.out];exact Qn.out) GR.out WE.out;exact⟨⟨_,_,_,iT.1⟩,iT.2⟩
       ·have e80:((B.equal s l').err==0)=false:=by simpa using TJ
        have hat:B.attr s l'=(B.equal s l',((B.name s).2.data.toList,[])):=by unfold Sc.attr;rw[if_neg TJ]
        have sq:=a_ hat;clear TJ hat YV;obtain⟨v',W',hrun,F5,gr,EI⟩:=ZJ.out w8 ZI.out (B.name s).2.data.toList [];have hN:eu (B.name s).2.data.toList=.string (B.name s).2:=by unfold eu;simp
        rw[hN]at hrun gr;unfold eu at hrun gr;have Qn:=a_ F5;have GR:=a_ gr;have WE:=a_ EI;clear F5 gr EI;go_wp2_with(at_builtin;refine uY rfl (.tmp 64) (.tmp 68) rfl rfl _ _ rfl rfl hrun ?_);have iT:=AI.next (o:=.cells #[.string (B.name s).2,.string ⟨([]:List UInt8).toArray⟩] 212) (w9:=w8) (W':=W') (v':=v') hlt U.out HE.out HBN.out hBi Q1.out Q2.out D5.out (by rw[sq.out];exact R8.out) (by rw[sq.out];exact Qn.out) GR.out WE.out;exact⟨⟨_,_,_,iT.1⟩,iT.2⟩
    ·rw[if_pos (Or.inr (Or.inr (Or.inr NK)))]at heq;rw[B6]at i47;rw[NK]at i62;have I1:=a_ i47;have I2:=a_ i62;subst heq;clear he Qj sO i47 i62 hsk B6 NK l_;go_wp2_with fail;refine hbl.mono ?_;rintro e w1 ⟨rfl,r1⟩;have R1:=a_ (U.out.se.on r1);have F4:=a_ (gL U.out.row hX r1.2);have c15:w1.cell? ⟨X,5,none⟩=some (.int .i64 B.err):=r1.1.cell 5 rfl;clear r1 hbl;go_wp2_with fail;refine(I1.out _ R1.out.1).mono ?_;rintro e w2 ⟨rfl,b2⟩;have R2:=a_ (R1.out.below hlt b2);have I8:=a_ (dW F4.out fun k e=>b2.block k (ej F4.out e));clear b2;go_wp2_with fail;refine(I2.out _ R2.out.1).mono ?_;rintro e w3 ⟨rfl,b3⟩;have R3:=a_ (R2.out.below hlt b3);have WB:=a_ (dW I8.out fun k e=>b3.block k (ej I8.out e));clear b3 I1 I2;go_wp2;go_ret;exact⟨_,rfl,R3.out,WB.out,U.out.own⟩
   ·rw[if_pos (Or.inr (Or.inr (Or.inl B6)))]at heq;rw[B6]at i47;have I1:=a_ i47;subst heq;clear he Qj sO i47 i62 hsk B6 l_;go_wp2_with fail;refine hbl.mono ?_;rintro e w1 ⟨rfl,r1⟩;have R1:=a_ (U.out.se.on r1);have F4:=a_ (gL U.out.row hX r1.2);have c15:w1.cell? ⟨X,5,none⟩=some (.int .i64 B.err):=r1.1.cell 5 rfl;clear r1 hbl;go_wp2_with fail;refine(I1.out _ R1.out.1).mono ?_;rintro e w2 ⟨rfl,b2⟩;have R2:=a_ (R1.out.below hlt b2);have I8:=a_ (dW F4.out fun k e=>b2.block k (ej F4.out e));clear b2;go_wp2;go_ret;exact⟨_,rfl,R2.out,I8.out,U.out.own⟩
end
section
variable{X:Nat}{w w' w'' wr:World}{s t:ByteArray}{lv:Value}{x x':Sc}{F:Nat->Prop}{cs:List Value}
def fS(x y:Sc):Prop:=y.l=x.l/\y.more=x.more/\y.fD=x.fD
theorem fS.refl(x:Sc):fS x x:=⟨rfl,rfl,rfl⟩
theorem fS.trans{x y z:Sc}(h:fS x y)(k:fS y z):fS x z:=⟨k.1.trans h.1,k.2.1.trans h.2.1,k.2.2.trans h.2.2⟩
theorem I9(x:Sc)(e a:Int):fS x (x.fail e a):=by unfold Sc.fail;split<;>exact⟨rfl,rfl,rfl⟩
theorem uZ(x:Sc)(s:ByteArray):fS x (x.wrong s):=by
 unfold Sc.wrong;repeat' split
 all_goals exact I9 _ _ _
theorem n_(x:Sc)(j:Nat):fS x {x with i:=j}:=⟨rfl,rfl,rfl⟩
theorem np(x:Sc)(s:ByteArray):fS x (x.ey s):=⟨rfl,rfl,rfl⟩
theorem nr(x:Sc)(s:ByteArray):fS x (x.name s).1:=by
 unfold Sc.name;repeat' split
 all_goals first|exact uZ _ _|exact⟨rfl,rfl,rfl⟩
theorem ia(s:ByteArray):∀(l:List UInt8) (x:Sc),fS x (Sc.eo s l x):=by
 intro l;induction l with
 |nil=>intro x;exact fS.refl x
 |cons c l ih=>
  intro x;simp only[Sc.eo]
  repeat' split
  ·exact(n_ x _).trans (ih _)
  ·exact(uZ x s).trans (ih _)
  ·exact fS.refl x
theorem Qo(s t:ByteArray)(fD:Nat):∀(f:Nat) (x:Sc),fS x (fM s t fD f x).1:=by
 intro f;induction f with
 |zero=>intro x;exact fS.refl x
 |succ f ih=>
  intro x;simp only[fM]
  repeat' split
  ·exact n_ x _
  ·exact(uZ x s).trans (ih _)
  ·exact(n_ x _).trans (ih _)
  ·exact fS.refl x
theorem mv(x:Sc)(s t:ByteArray):fS x (x.until s t).1:=Qo s t x.i _ x
theorem zA(x:Sc)(s:ByteArray)(jU:Nat):fS x (x.char s jU).1:=by
 unfold Sc.char;repeat' split
 all_goals first|exact uZ _ _|exact I9 _ _ _|exact⟨rfl,rfl,rfl⟩
theorem WG(s:ByteArray)(q:Nat):∀(f:Nat) (x:Sc) (t:List UInt8),fS x (iL s q f x t).1:=by
 intro f;induction f with
 |zero=>intro x t;exact fS.refl x
 |succ f ih=>
  intro x t;simp only[iL];split
  ·exact(zA x s q).trans (ih _ _)
  ·exact fS.refl x
theorem TK(x:Sc)(s:ByteArray):fS x (x.value s).1:=by
 unfold Sc.value;split
 ·exact((n_ x _).trans (WG s _ _ _ _)).trans (n_ _ _)
 ·exact uZ x s
theorem TL(x:Sc)(s:ByteArray)(l:mn):fS x (x.gv s l):=by
 unfold Sc.gv;split
 ·exact(nr x s).trans (I9 _ _ _)
 ·exact nr x s
theorem Km(x:Sc)(s:ByteArray)(l:mn):fS x (x.equal s l):=(((TL x s l).trans (np _ s)).trans (ia s _ _)).trans (np _ s)
theorem WH(x:Sc)(s:ByteArray)(l:mn):fS x (x.attr s l).1:=by
 unfold Sc.attr;split
 ·exact(Km x s l).trans (TK _ s)
 ·exact Km x s l
theorem Qp(s:ByteArray):∀(f:Nat) (x:Sc) (l:mn),fS x (ew s f x l).1:=by
 intro f;induction f with
 |zero=>intro x l;exact fS.refl x
 |succ f ih=>
  intro x l;simp only[ew];split
  ·exact np x s
  ·exact((np x s).trans (WH _ s l)).trans (ih _ _)
theorem Dy(x:Sc)(s:ByteArray):fS x (x.attrs s).1:=Qp s _ x []
def Fits(s:ByteArray)(x:Sc):Prop:=x.err=0->x.i<=s.size
theorem Dz(h:Fits s x):Fits s (x.name s).1:=by
 intro he;by_cases h0:x.err=0
 ·by_cases hb:Ch.eI (cur s x.i)=true
  ·rw[(kW h0 hb).1];exact nI (h h0)
  ·rw[nJ (s:=s) h0 hb]at he;exact absurd he (eK x s h0)
 ·have hn:x.name s=(x,⟨#[]⟩):=by unfold Sc.name;rw[if_neg h0]
  rw[hn]at he;exact absurd he h0
theorem Qq(h:Fits s x):Fits s (x.ey s):=mJ h
theorem DA(s:ByteArray):∀(l:List UInt8) (x:Sc),Fits s x->Fits s (Sc.eo s l x):=by
 intro l;induction l with
 |nil=>intro x h;exact h
 |cons c l ih=>
  intro x h;simp only[Sc.eo]
  repeat' split
  ·rename_i h1 h2;refine ih _ fun _=>?_;have:=is_lt h2;show x.i+1<=_;omega
  ·rename_i h1 h2;exact ih _ fun e=>absurd e (eK x s h1)
  ·exact h
theorem TM(t:ByteArray)(hz:t.size≠0)(h:Fits s x):Fits s (x.until s t).1:=by
 have key:∀(f:Nat) (x:Sc) (fD:Nat),Fits s x->Fits s (fM s t fD f x).1:=by
  intro f;induction f with
  |zero=>intro x fD h;exact h
  |succ f ih=>
   intro x fD h;by_cases he:x.err=0
   ·rw[mY _ _ _ _ _ he hz];split
    ·rename_i hh;intro _;have:=Ch.qo hh (by have:t.data.toList.length=t.size:=(by simp);omega)
     have h2:t.data.toList.length=t.size:=by simp
     show x.i+t.size<=_;omega
    ·split
     ·rename_i hc;have:=eF hc;exact ih _ _ fun _=>by show x.i+wid s x.i<=_;omega
     ·exact ih _ _ fun e=>absurd e (eK x s he)
   ·rw[iY _ _ _ _ _ he];exact h
 exact key _ _ _ h
theorem TN(h:Fits s x):Fits s (x.attrs s).1:=by
 by_cases he:x.err=0
 ·have hA:Df x ⟨fun j=>if j=.text then x.more else [],fun _=>x.fD,0,[],[],0,x.l⟩ [] [] 0:=⟨⟨rfl,rfl,fun _=>rfl⟩,rfl,rfl,rfl,rfl,rfl⟩
  rcases zg (g:=fun _=>[]) (s:=s) (s.size+2) x [] _ he (h he) (by omega) hA with⟨_,_,h3,_⟩|⟨h1,_⟩
  ·exact fun _=>h3
  ·exact fun e=>absurd e h1
 ·unfold Sc.attrs;rw[jL he];exact h
structure Kit(X:Nat)(s:ByteArray)(lv:Value):Prop where
 XS:∀W x,j3 X W s lv x->∀c:Nat,c<256->Z4 72 #[Z8 X,.int .u8 c] W fun en w'=>en=.returned (.bool (x.is s c))/\SE X W s lv x w'
 must:∀W x,j3 X W s lv x->Fits s x->∀t:ByteArray,0<t.size->t.size<=1024->Z4 73 #[Z8 X,.string t] W fun en w'=>en=.returned (.tuple #[])/\SE X W s lv (Sc.eo s (LA t 0) x) w'
 DB:∀W x,j3 X W s lv x->Fits s x->∀t:ByteArray,t.size<=1024->Z4 74 #[Z8 X,.string t] W fun en w'=>en=.returned (.string (x.until s t).2)/\SE X W s lv (x.until s t).1 w'
 name:∀W x,j3 X W s lv x->Fits s x->Z4 75 #[Z8 X] W fun en w'=>en=.returned (.string (x.name s).2)/\SE X W s lv (x.name s).1 w'
 ey:∀W x,j3 X W s lv x->Fits s x->Z4 76 #[Z8 X] W fun en w'=>en=.returned (.int .i64 (x.skip s))/\SE X W s lv (x.ey s) w'
 gS:∀W x,j3 X W s lv x->∀(t:ByteArray) (a:Int),x.more.length+t.size<=1125899906842624->Z4 42 #[Z8 X,.string t,.int .i64 a] W fun en w'=>en=.returned (.tuple #[])/\SE X W s lv (x.gS t a) w'
 attrs:∀W x,j3 X W s lv x->Fits s x->Z4 78 #[Z8 X] W fun en w'=>∃v,en=.returned v/\SE X W s lv (x.attrs s).1 w'/\w'.ownsRow 0 212 2 v (x.attrs s).2.length (d_ (x.attrs s).2)/\(∀k,v.ownBlock=some k->W.heap.size<=k)
theorem WI(X:Nat)(s:ByteArray)(lv:Value)(hs:s.size<=1099511627776):Kit X s lv where
 XS:=fun W x b c hc=>(Bg b c hc).mono fun en w' ⟨h1,h2⟩=>⟨h1,SE.rK b h2⟩
 must:=fun W x b hf t h0 h1=>FZ b (by omega) hf t h0 h1
 DB:=fun W x b hf t h1=>Pb b (by omega) hf t h1
 name:=fun W x b hf=>J8 b (by omega) hf
 ey:=fun W x b hf=>Bh b (by omega) hf
 gS:=fun W x b t a h=>Bi b t a h
 attrs:=fun W x b hf=>Qk b (by omega) hs hf
theorem tV(h:RS F X w s lv cs x){w1:World}{y:Sc}(k:SE X w s lv y w1)(hl:fS x y)(t:eX)(v:Value)(ha:w1.ownsRow 0 212 2 v t.attrs.length (d_ t.attrs))(hv:∀k,v.ownBlock=some k->w.heap.size<=k)(hn:y.l.length<=1099511627776):
  Z4 77 #[Z8 X,.agg #[.int .i64 t.kind,eu t.name,v,eu t.text,.int .i64 t.at_]] w1 fun en w'=>en=.returned (.tuple #[])/\qx F X w s (y.told t) w':=by
 obtain⟨UN,GM,ZK,f2⟩:=h.E6 k hl.1;obtain⟨ai,ac,rfl⟩:=dS ha;have hX:X<w.heap.size:=h.lt X h.has;refine(J_ ZK t ai t.attrs.length ac ha (fun k e=>⟨Or.inr ⟨hv k e,ej ha e⟩,fun e2=>by have:=hv k e;omega⟩) hn).mono ?_;rintro en w' ⟨rfl,r⟩;exact⟨rfl,qx.on ⟨UN,GM,ZK,f2⟩ fun _ _ _=>r⟩
theorem MC{w1:World}{y:Sc}(h:qx F X w s y w1)(t:eX)(hat:t.attrs=[])(hn:y.l.length<=1099511627776):
  Z4 77 #[Z8 X,.agg #[.int .i64 t.kind,eu t.name,.slice none 0 0,eu t.text,.int .i64 t.at_]] w1 fun en w'=>en=.returned (.tuple #[])/\qx F X w s (y.told t) w':=by
 obtain⟨UN,GM,ZK,f2⟩:=h;have ha:w1.ownsRow 0 212 2 (.slice none 0 0) t.attrs.length (d_ t.attrs):=by rw[hat];exact bA _ _ _ _
 refine(J_ ZK t none 0 0 ha (by intro k e;simp[Value.ownBlock]at e) hn).mono ?_;rintro en w' ⟨rfl,r⟩;exact⟨rfl,qx.on ⟨UN,GM,ZK,f2⟩ fun _ _ _=>r⟩
theorem rW(b:ByteArray):eu b.data.toList=.string b:=by unfold eu;simp
end
end K
end Go.Proofs.YtclgfepngpeifaaGreatDoor
