import Derived.Test.YtclgfepngpeifaaGreatDoorYA
import Derived.Test.YtclgfepngpeifaaGreatDoorYap
import Derived.Test.YtclgfepngpeifaaGreatDoorYas
set_option linter.unusedVariables false
set_option linter.unusedSimpArgs false
set_option maxHeartbeats 32000000
set_option maxRecDepth 100000
namespace Go.Proofs.YtclgfepngpeifaaGreatDoor
namespace K
open Go.RowKit Go.Lib Tryz
section
def vw(cs:List Int):List UInt8:=cs.flatMap Lib.encodeRune
variable{s:ByteArray}{p:Nat}{c:Int}{x:Sc}{q:Bool}
end
section
def nh(n:List UInt8):Prop:=∃(s0:ByteArray) (q:Nat),Ch.eG (cur s0 q)=true/\n=Ch.bytes s0 q (ju s0 q-q)
def fX(t:List UInt8):Prop:=∃cs:List Int,(∀c∈cs,Ch.may c=true)/\t=vw cs
variable{s:ByteArray}{p:Nat}{c:Int}{x:Sc}{q:Bool}
theorem BU(s:ByteArray)(i n:Nat)(h:i+n<=s.size):(Ch.bytes s i n).length=n:=by
 unfold Ch.bytes;have hz:s.data.toList.length=s.size:=by simp
 rw[bJ,cm];omega
end
section
variable{s:ByteArray}{p:Nat}{c:Int}{x:Sc}{q:Bool}
def kz(a:List UInt8×List UInt8):List UInt8:=10::(a.1++([32,61,32,34]++(Ch.rX true a.2++[34])))
end
section
variable{s:ByteArray}{p:Nat}{c:Int}{x:Sc}{q:Bool}
def qI:lK->lK->Prop
 |_,[]=>True
 |l,a::ats=>l.any (fun b=>b.1==a.1)=false/\qI (l++[a]) ats
end
section
variable{s:ByteArray}{p:Nat}{c:Int}{x y z:Sc}{q:Bool}
def Z1:List UInt8:=[60,33,45,45,32,114,32,45,45,62]
def Z2:List UInt8:=[60,63,111,63,62]
def Z3:List UInt8:=[60,33,91,67,68,65,84,65,91,93,93,62]
def Goes(s:ByteArray)(x y:Sc):Prop:=∃n,x.i+n<=y.i/\∀f,iy s (f+n) x=iy s f y
theorem Goes.refl(x:Sc):Goes s x x:=⟨0,by omega,fun f=>rfl⟩
theorem Goes.trans(h:Goes s x y)(k:Goes s y z):Goes s x z:=by
 obtain⟨n,h1,h2⟩:=h;obtain⟨m,k1,k2⟩:=k;refine⟨m+n,by omega,fun f=>?_⟩;rw[<-cP,h2,k2]
theorem Goes.j8(he:x.err=0)(rY:cur s x.i=60)(hi:x.i+1<=(x.j8 s).i):Goes s x (x.j8 s):=by
 have hp:=(jL (s:=s) (i:=x.i) (c:=60) (by omega)).1 rY;refine⟨1,hi,fun f=>?_⟩
 conv=>lhs;unfold iy
 rw[if_pos ⟨hp.1,he⟩];unfold Sc.piece;rw[if_pos hp.2]
theorem Goes.over(h:Goes s Sc.zero y)(hi:y.i=s.size):ei s=y:=by
 obtain⟨n,h1,h2⟩:=h;have h0:(Sc.zero).i=0:=rfl;unfold ei;obtain⟨f,hf⟩:∃f,s.size+1=f+n:=⟨s.size+1-n,by omega⟩
 rw[hf,h2];cases f with
 |zero=>rfl
 |succ f=>simp only[iy];rw[if_neg (fun e=>by omega)]
def marks:List UInt8:=Z1++(Z2++Z3)
end
section
variable{s:ByteArray}{p:Nat}{c:Int}{x y z:Sc}{q:Bool}
def jl(t:fe):List UInt8:=if t.kind=1 then 60::(t.name++(t.attrs.flatMap kz++[32,62]))else if t.kind=2 then [60,47]++t.name++[62]else Ch.rX false t.text++marks
def zt(t:fe):Prop:=
 (t.kind=1/\nh t.name/\(∀a∈t.attrs,nh a.1/\fX a.2)/\qI [] t.attrs/\t.text=[])\/(t.kind=2/\nh t.name/\t.attrs=[]/\t.text=[])\/
 (t.kind=3/\t.name=[]/\t.attrs=[]/\fX t.text/\t.text≠[])
def nN:Bool->List fe->Prop
 |_,[]=>True
 |b,t::l=>zt t/\(t.kind=3->b=false)/\nN (t.kind==3) l
def ends:Bool->List fe->Bool
 |b,[]=>b
 |_,t::l=>ends (t.kind==3) l
def bare(t:fe):fe:={t with at_:=0}
theorem pk:∀(l l':List fe) (b:Bool),nN b (l++l')↔nN b l/\nN (ends b l) l':=by
 intro l;induction l with
 |nil=>intro l' b;simp[nN,ends]
 |cons t l ih=>intro l' b;simp only[aZ,nN,ends,ih,and_assoc]
theorem wO:∀(l l':List fe) (b:Bool),ends b (l++l')=ends (ends b l) l':=by
 intro l;induction l with
 |nil=>intro l' b;rfl
 |cons t l ih=>intro l' b;simp only[aZ,ends,ih]
end
end K
end Go.Proofs.YtclgfepngpeifaaGreatDoor
namespace Go.Proofs.YtclgfepngpeifaaGreatDoor
namespace K
open Go.RowKit Go.Maps Go.Lib Tryz
section
variable{X:Nat}{w w' w'' wr:World}{s t:ByteArray}{lv:Value}{x x':Sc}
structure AI(X:Nat)(w:World)(s:ByteArray)(lv:Value)(y:Sc×lK)(wr:World)(x:Sc)(l:lK)(v:Value)(f:Nat):Prop where
 se:SE X w s lv x wr
 row:wr.ownsRow 0 212 2 v l.length (ee l)
 own:∀k,v.ownBlock=some k->w.heap.size<=k
 le:x.err=0->x.i<=s.size
 eq:eB s f x l=y
 fuel:x.err=0->s.size+1<x.i+f
 len:l.length<=s.size+1/\(x.err=0->l.length<=x.i)
theorem gW{l:lK}{v:Value}{w1 w2:World}(h:w1.ownsRow 0 212 2 v l.length (ee l))(hX:v.ownBlock≠some X)(b:Tr X w1 w2):w2.ownsRow 0 212 2 v l.length (ee l):=
 dY h fun k e=>b.block k (eu h e) (fun e2=>hX (by rw[e,e2]))
theorem F4{l:lK}{g cap:Nat}(h:w.ownsRow 0 212 2 (Z9 g l.length cap) l.length (ee l))(i:Nat)(hi:i<l.length):
  w.cell? ⟨g,i*2,none⟩=some (eA (l[i]).1)/\w.cell? ⟨g,i*2+1,none⟩=some (eA (l[i]).2):=by
 have hc:=h.cells (g:=g) rfl;have key:∀(l:lK) (i:Nat) (hi:i<l.length),(ee l)[i*2]?=some (eA (l[i]).1)/\(ee l)[i*2+1]?=some (eA (l[i]).2):=by
  intro l;induction l with
  |nil=>intro i hi;cases hi
  |cons x l ih=>
   intro i hi;cases i with
   |zero=>exact⟨rfl,rfl⟩
   |succ i=>
    have:=ih i (by simpa using hi);have e1:(i+1)*2=i*2+2:=by omega
    rw[e1];simpa [ee]using this
 obtain⟨k1,k2⟩:=key l i hi;have h1:=hc _ _ k1;have h2:=hc _ _ k2;rw[Addr.add_mid,aG]at h1 h2;exact⟨h1,h2⟩
theorem Qq{l:lK}{ai:Option Addr}{ac:Nat}(h:w.ownsRow 0 212 2 (.slice ai l.length ac) l.length (ee l))(i:Nat)(hi:i<l.length):
  ∃g,ai=some ⟨g,0,none⟩/\w.cell? ⟨g,i*2,none⟩=some (.string ⟨(l[i]).1.toArray⟩):=by
 have h':=h;rcases h'.2 with⟨e,e0⟩|⟨ga,ca',cur,e,_⟩
 ·omega
 cases e;exact⟨ga,rfl,(F4 h i hi).1⟩
theorem Qr(h:j6 X w s lv x)(he:x.err≠0)(t:ByteArray)(ht:0<t.size):Z4 73 #[Z8 X,.string t] w fun en w'=>en=.returned (.tuple #[])/\SE X w s lv x w':=by
 have c5:w.cell? ⟨X,5,none⟩=some (.int .i64 x.err):=h.cell 5 rfl;have e0:(x.err==0)=false:=by simpa using he
 have hd:decide ((0:Int)<t.size)=true:=by simp;omega
 have H:=a_ (SE.refl h);clear h he;go_enter func73,ntmps73;go_wp2_with fail;refine dv 1 ?_;rw[dL];go_wp2_with fail
 go_end0
 exact⟨rfl,H.out⟩
theorem F5(h:j6 X w s lv x)(hs:s.size<=1125899906842624)(hi:x.err=0->x.i<=s.size)(t:ByteArray)(h0:0<t.size)(ht:t.size<=1024):Z4 73 #[Z8 X,.string t] w fun en w'=>en=.returned (.tuple #[])/\SE X w s lv (Sc.ey s (LN t 0) x) w':=by
 by_cases he:x.err=0
 ·exact Tt h hs (hi he) t (by omega)
 ·rw[iE s _ he];exact Qr h he t h0
theorem uN{ops:Array Oper}{rest:List Oper}{o:Oper}{a:Act}{w:World}{Q:Exit->Act->World->Prop}(hgd:o.guard=none)(s x:Operand)(ho:o.op=Op.call {callee:=Callee.builtin Builtin.append,args:=#[s,x],argTypes:=#[70,70]})(hty:o.type=70)
  (v1 v2:Value) (hs:a.eval s=v1) (hx:a.eval x=v2) {v':Value} {w':World} (hr:(Builtin.append_ #[70,70] 70 #[v1,v2]).run prog w=.ok v' w') (h:wpList prog ops Q rest (a.put o.dst v') w'):wpList prog ops Q (o::rest) a w:=by
 refine wpList_plain hgd fun K hK=>?_;unfold Oper.wp execOp;simp only[ho,hty,resolve,invoke,builtin,Sem.run_bind,Sem.run_pure,dP,List.map_toArray,bO,cH,hs,hx,hr];exact hK _ _ h
theorem Qs(x:Sc)(s:ByteArray):(x.eD s).err=x.err:=rfl
theorem F8(h:x.err=0->x.i<=s.size)(l:lK):(x.gz s l).err=0->(x.gz s l).i<=s.size:=by
 intro he;have h0:x.err=0:=by
  by_cases e:x.err=0
  ·exact e
  ·exfalso;have hn:x.name s=(x,⟨#[]⟩):=by unfold Sc.name;rw[if_neg e]
   have:x.gz s l=x:=by
    unfold Sc.gz;rw[hn];simp only;split
    ·unfold Sc.fail;rw[if_neg e]
    ·rfl
   rw[this]at he;exact e he
 by_cases hb:Ch.eG (cur s x.i)=true
 ·obtain⟨n1,n2⟩:=kV h0 hb;unfold Sc.gz;rw[n1];have hle:=nJ (s:=s) (h h0);split
  ·rw[yC];exact hle
  ·exact hle
 ·exfalso;have hn:=nL (s:=s) h0 hb;have ox:=eO x s h0;have:x.gz s l=x.wrong s:=by
   unfold Sc.gz;rw[hn];simp only;split
   ·unfold Sc.fail;rw[if_neg ox]
   ·rfl
  rw[this]at he;exact ox he
theorem mH(h:x.err=0->x.i<=s.size):(x.eD s).err=0->(x.eD s).i<=s.size:=by
 intro he;rw[Qs]at he;rw[lr he];exact yQ (h he)
theorem Kv(h:x.err=0->x.i<=s.size){c:UInt8}(hc:32<=c.toNat/\c.toNat<128):(Sc.ey s [c] x).err=0->(Sc.ey s [c] x).i<=s.size:=by
 by_cases he:x.err=0
 ·rw[qB he hc];split
  ·rename_i hq;have:=eK (s:=s) (i:=x.i) (by omega);intro _;show x.i+1<=_;omega
  ·intro e;exact absurd e (eO x s he)
 ·rw[iE s _ he];exact h
theorem Qt(h:x.err=0->x.i<=s.size)(l:lK):(x.equal s l).err=0->(x.equal s l).i<=s.size:=
 mH (Kv (mH (F8 h l)) (by decide))
def Sc.tw(x:Sc)(s:ByteArray)(l:lK)(k:Nat):Sc:=x.gz s (l.take k)
theorem T7(x:Sc)(s:ByteArray)(l:lK):x.tw s l 0=(x.name s).1:=by unfold Sc.tw Sc.gz;simp
theorem Xc(x:Sc)(s:ByteArray)(l:lK):x.tw s l l.length=x.gz s l:=by unfold Sc.tw;rw[b9]
theorem ML(x:Sc)(e a:Int)(he:e≠0):(x.fail e a).fail e a=x.fail e a:=by
 unfold Sc.fail;by_cases h:x.err=0
 ·rw[if_pos h,if_neg (by simpa using he)]
 ·rw[if_neg h,if_neg h]
theorem any_succ(l:lK)(k:Nat)(hk:k<l.length)(p:List UInt8×List UInt8->Bool):(l.take (k+1)).any p=((l.take k).any p||p l[k]):=by rw[dO hk,List.any_append];simp
theorem T8(x:Sc)(s:ByteArray)(l:lK)(k:Nat)(hk:k<l.length)(h:((l[k]).1==(x.name s).2.data.toList)=false):x.tw s l (k+1)=x.tw s l k:=by
 unfold Sc.tw Sc.gz;rw[any_succ l k hk,h,Bool.or_false]
theorem T9(x:Sc)(s:ByteArray)(l:lK)(k:Nat)(hk:k<l.length)(h:((l[k]).1==(x.name s).2.data.toList)=true):x.tw s l (k+1)=(x.tw s l k).fail 5 x.i:=by
 unfold Sc.tw Sc.gz;rw[any_succ l k hk,h,dF,if_pos rfl];split
 ·rw[ML _ _ _ (by decide)]
 ·rfl
end
section
variable{X:Nat}{w w' w'' wr:World}{s t:ByteArray}{lv:Value}{x x':Sc}
theorem Jb(w:World)(a b:List UInt8):∀j u,[eA a,eA b][j]?=some u->(w.alloc (.cells #[eA a,eA b] 212)).cell? ((⟨w.heap.size,0,none⟩:Addr).add j)=some u:=by
 intro j u hj;have hb:(w.alloc (.cells #[eA a,eA b] 212)).heap[w.heap.size]?=some (.cells #[eA a,eA b] 212):=dT _ _
 match j,hj with
 |0,hj=>cases hj;exact cell_of hb rfl
 |1,hj=>cases hj;exact cell_of hb rfl
theorem MN(W:World){ai:Option Addr}{ac:Nat}{l:lK}(row:W.ownsRow 0 212 2 (.slice ai l.length ac) l.length (ee l))(a b:List UInt8)(hl:l.length<=1099511627778):
  ∃v' W',(Builtin.append_ #[70,70] 70 #[.slice ai l.length ac,.slice (some ⟨W.heap.size,0,none⟩) 1 1]).run prog (W.alloc (.cells #[eA a,eA b] 212))=.ok v' W'/\W'.ownsRow 0 212 2 v' (l++[(a,b)]).length (ee (l++[(a,b)]))/\(W.alloc (.cells #[eA a,eA b] 212)).grownBy W' (Value.slice ai l.length ac).ownBlock/\(v'.ownBlock=(Value.slice ai l.length ac).ownBlock\/v'.ownBlock=some (W.heap.size+1)):=by
 obtain⟨i0,hi,hz0,hz1,hz2⟩:=aY Ws;obtain⟨v',W',hrun,r1,r2,_,r4⟩:=cY (P:=prog) (W.alloc (.cells #[eA a,eA b] 212)) 0 70 70 212 i0 _ 2 32 underlying70 hi hz0 hz1 hz2 rfl (by decide) (.slice ai l.length ac) l.length (ee l) (row.alloc _) ⟨W.heap.size,0,none⟩ 1 1 [eA a,eA b] rfl (Jb W a b) (Fa a b) (by unfold maxLen;omega) (by omega) (aB _);refine⟨v',W',hrun,?_,r2,by simpa using r4⟩;have e1:(l++[(a,b)]).length=l.length+1:=by simp
 have e2:ee (l++[(a,b)])=ee l++[eA a,eA b]:=by simp[ee]
 rw[e1,e2];exact r1
theorem T_{l:lK}(he:x.err=0)(hi:x.i<=s.size)(hbl:¬Tk.blank (cur s x.i)=true)(BV:x.is s 47=false)(N0:x.is s 62=false):(x.attr s l).1.err=0->x.i<(x.attr s l).1.i/\(x.attr s l).1.i<=s.size:=by
 have BA:¬cur s x.i=47:=fun e=>by rw[(jM he (c:=47) (by omega)).2 e]at BV;cases BV
 have D9:¬cur s x.i=62:=fun e=>by rw[(jM he (c:=62) (by omega)).2 e]at N0;cases N0
 have hA:De x ⟨fun j=>if j=.text then x.more else [],fun _=>x.fI,0,l,l.map Prod.fst,0,x.l⟩ l [] 0:=⟨⟨rfl,rfl,fun _=>rfl⟩,rfl,rfl,rfl,rfl,rfl⟩
 rcases Bz (g:=fun _=>[]) he hi hA hbl BA D9 with⟨_,h2,h3,_⟩|⟨h1,_⟩
 ·exact fun _=>⟨h2,h3⟩
 ·exact fun e=>absurd e h1
theorem Ua{w9 W':World}{o:Obj}{ro:Option Nat}(h:SE X w s lv x w9)(g:(w9.alloc o).grownBy W' ro)(hlt:X<w.heap.size)(hr:∀k,ro=some k->w.heap.size<=k):SE X w s lv x W':=by
 have hz:=h.2.size;have hb:∀k,k<w.heap.size->W'.heap[k]?=w9.heap[k]?:=fun k hk=>by
  rw[g.block k (by simp;omega) (fun e=>by have:=hr k e.symm;omega)];exact ay _ _ k (by omega)
 refine⟨(hb X hlt).trans h.1,⟨g.os.trans h.2.os,g.tape.trans h.2.tape,g.output.trans h.2.output,?_,fun k hk hX=>(hb k hk).trans (h.2.block k hk hX)⟩⟩;have:=g.size;simp at this;omega
theorem AI.next{y:Sc×lK}{l:lK}{ai:Option Addr}{ac f:Nat}{B:Sc}{w9 W':World}{o:Obj}{v':Value}(hlt:X<w.heap.size)(U:AI X w s lv y wr x l (.slice ai l.length ac) (f+1))(he:x.err=0)(hB:x.eD s=B)(hBi:x.i<B.i)
  (BV:B.is s 47=false) (N0:B.is s 62=false) (heq:eB s f (B.attr s l).1 (l++[(B.attr s l).2])=y) (R9:SE X w s lv (B.attr s l).1 w9) (row:W'.ownsRow 0 212 2 v' (l++[(B.attr s l).2]).length (ee (l++[(B.attr s l).2])))
  (g:(w9.alloc o).grownBy W' (Value.slice ai l.length ac).ownBlock) (hat:v'.ownBlock=(Value.slice ai l.length ac).ownBlock\/v'.ownBlock=some (w9.heap.size+1)):
  AI X w s lv y W' (B.attr s l).1 (l++[(B.attr s l).2]) v' f/\left X s.size W'<left X s.size wr:=by
 have hle:=U.le he;have LP:=U.fuel he;have hln:=U.len.2 he;have Qu:B.err=0:=by rw[<-hB];exact he
 have hBl:B.i<=s.size:=by rw[<-hB]at Qu ⊢;exact mH U.le Qu
 have hbl:¬Tk.blank (cur s B.i)=true:=by rw[<-hB,lr he];exact rC s x.i
 have ha:=T_ (l:=l) Qu hBl hbl BV N0;have se:=Ua R9 g hlt U.own;have hz:=R9.2.size;have hlen:(l++[(B.attr s l).2]).length=l.length+1:=by simp
 refine⟨⟨se,row,?_,fun e=>(ha e).2,heq,fun e=>by have:=ha e;omega,⟨by omega,fun e=>by have:=ha e;omega⟩⟩,?_⟩
 ·intro k e;rcases hat with h|h
  ·exact U.own k (h.symm.trans e)
  ·rw[h]at e;cases e;omega
 ·rw[left_eq se.1 s.size,left_eq U.se.1 s.size,if_pos he];split
  ·rename_i e;have:=ha e;omega
  ·omega
theorem Qv(h:j6 X w s lv x)(hs:s.size<=1125899906842624)(hsz:s.size<=1099511627776)(hi:x.err=0->x.i<=s.size):
  Z4 78 #[Z8 X] w fun en w'=>∃v,en=.returned v/\SE X w s lv (x.attrs s).1 w'/\w'.ownsRow 0 212 2 v (x.attrs s).2.length (ee (x.attrs s).2)/\(∀k,v.ownBlock=some k->w.heap.size<=k):=by
 have hlt:=h.lt;have h0:AI X w s lv (x.attrs s) w x [] (.slice none 0 0) (s.size+2):=⟨SE.refl h,bB _ _ _ _,by intro k e;simp[Value.ownBlock]at e,hi,rfl,fun _=>by omega,⟨by simp,fun _=>by simp⟩⟩
 generalize x.attrs s=y at*
 have H0:=a_ h0;have hbl:=fun W x' (b:j6 X W s lv x') (hi:x'.err=0->x'.i<=s.size)=>Be b hs hi;have Ve:=fun W x' (b:j6 X W s lv x') c (hc:c<256)=>Bc b c hc;have qR:=fun W x' (b:j6 X W s lv x') (hi:x'.err=0->x'.i<=s.size)=>Kf b hs hi;have qY:=fun W x' (b:j6 X W s lv x') (e a:Int)=>rq b e a;have Mf:=fun W x' (b:j6 X W s lv x') (hi:x'.err=0->x'.i<=s.size)=>F5 b hs hi ⟨#[61]⟩ (by decide) (by decide);have Z_:=fun W x' (b:j6 X W s lv x') (hi:x'.i<=s.size)=>Pt b hs hi;have Ub:=a_ hbl;have HIS:=a_ Ve;have En:=a_ qR;have HFL:=a_ qY;have Yj:=a_ Mf;have HVL:=a_ Z_;clear h h0 hi hbl Ve qR qY Mf Z_;go_enter func78,ntmps78;go_wp2_with fail;go_loopw [3,4,5,6,7,8] (fun v _ _ _ _ _ wr=>∃x' l' f,AI X w s lv y wr x' l' v f) (fun _ _ _ _ _ _ wr=>left X s.size wr)
 case atStart=>exact⟨_,_,_,H0.out⟩
 case round=>
  obtain⟨x',l',f,u⟩:=hrel;obtain⟨ai,ac,rfl⟩:=dU u.row;have l9:=left_eq u.se.1 s.size;have hbl:=Ub.out wr x' u.se.1 u.le;by_cases hsk:x'.skip s=0
  ·rw[hsk]at hbl;have hy:y=(x'.eD s,l'):=by
    have:=u.eq;cases f with
    |zero=>
     by_cases he:x'.err=0
     ·have:=u.fuel he;have:=u.le he;omega
     ·rw[jO he]at this;rw[jN he];exact this.symm
    |succ f=>simp only[eB]at this;rw[if_pos (Or.inl hsk)]at this;exact this.symm
   subst hy;have U:=a_ u;clear u l9 hsk;go_wp2_with fail;refine hbl.mono ?_;rintro e w1 ⟨rfl,r1⟩;have R1:=a_ r1;clear r1;go_wp2;go_ret;refine⟨_,rfl,U.out.se.on R1.out,gW U.out.row ?_ R1.out.2,U.out.own⟩;intro e;have:=U.out.own X e;omega
  ·have he:x'.err=0:=by
    by_cases he:x'.err=0
    ·exact he
    ·exact absurd (by unfold Sc.skip;rw[if_neg he]) hsk
   have U_:((x'.skip s:Int)==0)=false:=by simpa using hsk
   have hB:=mH u.le;have Qu:(x'.eD s).err=0:=he;have hBi:x'.i<(x'.eD s).i:=by show x'.i<x'.i+x'.skip s;omega
   have hBl:=hB Qu;have hb0:((x'.eD s).err !=0)=false:=by rw[Qu];rfl
   have LP:=u.fuel he;have hxl:=u.le he;rw[if_pos he]at l9;obtain⟨f,rfl⟩:∃g,f=g+1:=⟨f-1,by omega⟩
   have heq:=u.eq;simp only[eB]at heq;have hlen:=u.len.2 he;have hX:(Value.slice ai (List.length l') ac).ownBlock≠some X:=by
    intro e;have:=u.own X e;omega
   have U:=a_ u;clear u;generalize sx:x'.eD s=B at*
   have i47:=fun W (b:j6 X W s lv B)=>HIS.out W B b 47 (by decide);have i62:=fun W (b:j6 X W s lv B)=>HIS.out W B b 62 (by decide);cases BV:B.is s 47
   ·cases N0:B.is s 62
    ·rw[if_neg (by rw[BV,N0];simp[hsk,Qu])]at heq;rw[BV]at i47;rw[N0]at i62;have D8:=a_ heq;have HE:=a_ he;have HBE:=a_ Qu;have HBN:=a_ sx;have I1:=a_ i47;have I2:=a_ i62;have aby:=a_ l9;have Q1:=a_ BV;have Q2:=a_ N0;clear heq he Qu sx i47 i62 hsk BV N0 l9;go_wp2_with fail;refine hbl.mono ?_;rintro e w1 ⟨rfl,r1⟩;have R1:=a_ (U.out.se.on r1);have F9:=a_ (gW U.out.row hX r1.2);have c15:w1.cell? ⟨X,5,none⟩=some (.int .i64 B.err):=r1.1.cell 5 rfl;clear r1 hbl;go_wp2_with fail;refine(I1.out _ R1.out.1).mono ?_;rintro e w2 ⟨rfl,b2⟩;have R2:=a_ (R1.out.below hlt b2);have Jc:=a_ (dY F9.out fun k e=>b2.block k (eu F9.out e));clear b2;go_wp2_with fail;refine(I2.out _ R2.out.1).mono ?_;rintro e w3 ⟨rfl,b3⟩;have R3:=a_ (R2.out.below hlt b3);have Xd:=a_ (dY Jc.out fun k e=>b3.block k (eu Jc.out e));have c31:w3.cell? ⟨X,1,none⟩=some (.int .i64 B.i):=R3.out.1.cell 1 rfl;clear b3 I1 I2;go_wp2_with fail;refine(En.out _ B R3.out.1 (fun _=>hBl)).mono ?_;rintro e w4 ⟨rfl,r4⟩;have R4:=a_ (R3.out.on r4);have abd:=a_ (gW Xd.out hX r4.2);clear r4;go_wp2_with fail;go_loopw [7] (fun iv wr2=>∃k:Nat,iv=.int .i64 k/\k<=l'.length/\SE X w s lv (B.tw s l' k) wr2/\wr2.ownsRow 0 212 2 (.slice ai l'.length ac) l'.length (ee l')) (fun iv _=>l'.length-(RowKit.intOf iv).toNat)
     case atStart=>exact⟨0,rfl,aB _,by rw[T7];exact R4.out,abd.out⟩
     case round=>
      obtain⟨k,rfl,hk,Uc,tE⟩:=hrel;by_cases Xe:k<l'.length
      ·have hdec:decide ((k:Int)<(l'.length:Int))=true:=by simp;omega
       have hwk:IntKind.i64.wrap ((k:Int)+1)=(k:Int)+1:=by rw[aM];omega
       obtain⟨g,hai,cg⟩:=Qq tE k Xe;have w_:(B.name s).2.toList=(B.name s).2.data.toList:=Lib.toList_data _;have vB:(⟨(l'[k]).1.toArray⟩:ByteArray).toList=(l'[k]).1:=by rw[Lib.toList_data]
       cases hq:((l'[k]).1==(B.name s).2.data.toList)
       ·have G3:=T8 B s l' k Xe hq;have SE5:=a_ Uc;have Dw:=a_ tE;have hq2:((⟨(l'[k]).1.toArray⟩:ByteArray).toList==(B.name s).2.toList)=false:=by rw[w_,vB];exact hq
        clear Uc tE hq w_ vB;generalize (⟨(l'[k]).1.toArray⟩:ByteArray)=nk at*
        generalize (B.name s).2=NB at*
        subst hai;go_wp2_with fail;refine⟨⟨k+1,by simp,by omega,by rw[G3];exact SE5.out,Dw.out⟩,by simp only[RowKit.intOf];omega⟩
       ·have G3:=T9 B s l' k Xe hq;have qY:=HFL.out _ _ Uc.1 5 B.i;have SE5:=a_ Uc;have Dw:=a_ tE;have hq2:((⟨(l'[k]).1.toArray⟩:ByteArray).toList==(B.name s).2.toList)=true:=by rw[w_,vB];exact hq
        clear Uc tE hq w_ vB;generalize (⟨(l'[k]).1.toArray⟩:ByteArray)=nk at*
        generalize (B.name s).2=NB at*
        subst hai;go_wp2_with fail;refine qY.mono ?_;rintro e w6 ⟨rfl,r6⟩;have R6:=a_ r6;clear r6 qY;go_wp2;refine⟨⟨k+1,by simp,by omega,by rw[G3];exact SE5.out.on R6.out,gW Dw.out hX R6.out.2⟩,by simp only[RowKit.intOf];omega⟩
      ·have hke:k=l'.length:=by omega
       subst hke;rw[Xc]at Uc;have htl:=F8 hB l';have aaa:=Ub.out _ _ Uc.1 htl;have SE5:=a_ Uc;have Dw:=a_ tE;have hdec:decide ((l'.length:Int)<(l'.length:Int))=false:=by simp
       clear Uc tE;have Zm:=Qt hB l';have Xf:=mH htl;have aab:=Kv Xf (c:=61) (by decide);go_wp2_with fail;refine aaa.mono ?_;rintro e w6 ⟨rfl,r6⟩;have R6:=a_ (SE5.out.on r6);have Qw:=a_ (gW Dw.out hX r6.2);clear r6 aaa;go_wp2_with fail;refine(Yj.out _ _ R6.out.1 Xf).mono ?_;rintro e w7 ⟨rfl,r7⟩;have R7:=a_ (R6.out.on r7);have Qx:=a_ (gW Qw.out hX r7.2);clear r7;go_wp2_with fail;refine(Ub.out _ _ R7.out.1 aab).mono ?_;rintro e w8 ⟨rfl,r8⟩;have R8:Hid (SE X w s lv (B.equal s l') w8):=a_ (R7.out.on r8);have aac:=a_ (gW Qx.out hX r8.2);have c85:w8.cell? ⟨X,5,none⟩=some (.int .i64 (B.equal s l').err):=R8.out.1.cell 5 rfl;clear r8 Xf aab htl;have yG:=fun(W:World) (row:W.ownsRow 0 212 2 (.slice ai l'.length ac) l'.length (ee l')) (a b:List UInt8)=>MN W row a b (by omega);have aad:=a_ yG;clear yG;by_cases Ud:(B.equal s l').err=0
       ·have e80:((B.equal s l').err==0)=true:=by rw[Ud];rfl
        have hat:B.attr s l'=(((B.equal s l').value s).1,((B.name s).2.data.toList,((B.equal s l').value s).2)):=by unfold Sc.attr;rw[if_pos Ud]
        have Z_:=HVL.out _ _ R8.out.1 (Zm Ud);have HEL:=a_ (Zm Ud);have HEE:=a_ Ud;have rT:=a_ hat;clear Ud hat Zm;go_wp2_with fail;refine Z_.mono ?_;rintro e w9 ⟨rfl,r9⟩;have R9:=a_ (R8.out.on r9);have abe:=a_ (gW aac.out hX r9.2);clear r9 Z_;obtain⟨v',W',hrun,F_,gr,EI⟩:=aad.out w9 abe.out (B.name s).2.data.toList ((B.equal s l').value s).2;have hN:eA (B.name s).2.data.toList=.string (B.name s).2:=by unfold eA;simp
        rw[hN]at hrun gr;unfold eA at hrun gr;have Qy:=a_ F_;have GR:=a_ gr;have Xg:=a_ EI;clear F_ gr EI;go_wp2_with(at_builtin;refine uN rfl (.tmp 64) (.tmp 68) rfl rfl _ _ rfl rfl hrun ?_);have iW:=AI.next (o:=.cells #[.string (B.name s).2,.string ⟨((B.equal s l').value s).2.toArray⟩] 212) (w9:=w9) (W':=W') (v':=v') hlt U.out HE.out HBN.out hBi Q1.out Q2.out D8.out (by rw[rT.out];exact R9.out) (by rw[rT.out];exact Qy.out) GR.out Xg.out;exact⟨⟨_,_,_,iW.1⟩,iW.2⟩
       ·have e80:((B.equal s l').err==0)=false:=by simpa using Ud
        have hat:B.attr s l'=(B.equal s l',((B.name s).2.data.toList,[])):=by unfold Sc.attr;rw[if_neg Ud]
        have rT:=a_ hat;clear Ud hat Zm;obtain⟨v',W',hrun,F_,gr,EI⟩:=aad.out w8 aac.out (B.name s).2.data.toList [];have hN:eA (B.name s).2.data.toList=.string (B.name s).2:=by unfold eA;simp
        rw[hN]at hrun gr;unfold eA at hrun gr;have Qy:=a_ F_;have GR:=a_ gr;have Xg:=a_ EI;clear F_ gr EI;go_wp2_with(at_builtin;refine uN rfl (.tmp 64) (.tmp 68) rfl rfl _ _ rfl rfl hrun ?_);have iW:=AI.next (o:=.cells #[.string (B.name s).2,.string ⟨([]:List UInt8).toArray⟩] 212) (w9:=w8) (W':=W') (v':=v') hlt U.out HE.out HBN.out hBi Q1.out Q2.out D8.out (by rw[rT.out];exact R8.out) (by rw[rT.out];exact Qy.out) GR.out Xg.out;exact⟨⟨_,_,_,iW.1⟩,iW.2⟩
    ·rw[if_pos (Or.inr (Or.inr (Or.inr N0)))]at heq;rw[BV]at i47;rw[N0]at i62;have I1:=a_ i47;have I2:=a_ i62;subst heq;clear he Qu sx i47 i62 hsk BV N0 l9;go_wp2_with fail;refine hbl.mono ?_;rintro e w1 ⟨rfl,r1⟩;have R1:=a_ (U.out.se.on r1);have F9:=a_ (gW U.out.row hX r1.2);have c15:w1.cell? ⟨X,5,none⟩=some (.int .i64 B.err):=r1.1.cell 5 rfl;clear r1 hbl;go_wp2_with fail;refine(I1.out _ R1.out.1).mono ?_;rintro e w2 ⟨rfl,b2⟩;have R2:=a_ (R1.out.below hlt b2);have Jc:=a_ (dY F9.out fun k e=>b2.block k (eu F9.out e));clear b2;go_wp2_with fail;refine(I2.out _ R2.out.1).mono ?_;rintro e w3 ⟨rfl,b3⟩;have R3:=a_ (R2.out.below hlt b3);have Xd:=a_ (dY Jc.out fun k e=>b3.block k (eu Jc.out e));clear b3 I1 I2;go_wp2;go_ret;exact⟨_,rfl,R3.out,Xd.out,U.out.own⟩
   ·rw[if_pos (Or.inr (Or.inr (Or.inl BV)))]at heq;rw[BV]at i47;have I1:=a_ i47;subst heq;clear he Qu sx i47 i62 hsk BV l9;go_wp2_with fail;refine hbl.mono ?_;rintro e w1 ⟨rfl,r1⟩;have R1:=a_ (U.out.se.on r1);have F9:=a_ (gW U.out.row hX r1.2);have c15:w1.cell? ⟨X,5,none⟩=some (.int .i64 B.err):=r1.1.cell 5 rfl;clear r1 hbl;go_wp2_with fail;refine(I1.out _ R1.out.1).mono ?_;rintro e w2 ⟨rfl,b2⟩;have R2:=a_ (R1.out.below hlt b2);have Jc:=a_ (dY F9.out fun k e=>b2.block k (eu F9.out e));clear b2;go_wp2;go_ret;exact⟨_,rfl,R2.out,Jc.out,U.out.own⟩
end
section
variable{X:Nat}{w w' w'' wr:World}{s t:ByteArray}{lv:Value}{x x':Sc}{F:Nat->Prop}{cs:List Value}
def fY(x y:Sc):Prop:=y.l=x.l/\y.more=x.more/\y.fI=x.fI
theorem fY.refl(x:Sc):fY x x:=⟨rfl,rfl,rfl⟩
theorem fY.trans{x y z:Sc}(h:fY x y)(k:fY y z):fY x z:=⟨k.1.trans h.1,k.2.1.trans h.2.1,k.2.2.trans h.2.2⟩
theorem Jd(x:Sc)(e a:Int):fY x (x.fail e a):=by unfold Sc.fail;split<;>exact⟨rfl,rfl,rfl⟩
theorem uO(x:Sc)(s:ByteArray):fY x (x.wrong s):=by
 unfold Sc.wrong;repeat' split
 all_goals exact Jd _ _ _
theorem og(x:Sc)(j:Nat):fY x {x with i:=j}:=⟨rfl,rfl,rfl⟩
theorem nj(x:Sc)(s:ByteArray):fY x (x.eD s):=⟨rfl,rfl,rfl⟩
theorem np(x:Sc)(s:ByteArray):fY x (x.name s).1:=by
 unfold Sc.name;repeat' split
 all_goals first|exact uO _ _|exact⟨rfl,rfl,rfl⟩
theorem ij(s:ByteArray):∀(l:List UInt8) (x:Sc),fY x (Sc.ey s l x):=by
 intro l;induction l with
 |nil=>intro x;exact fY.refl x
 |cons c l ih=>
  intro x;simp only[Sc.ey]
  repeat' split
  ·exact(og x _).trans (ih _)
  ·exact(uO x s).trans (ih _)
  ·exact fY.refl x
theorem Qz(s t:ByteArray)(fI:Nat):∀(f:Nat) (x:Sc),fY x (fS s t fI f x).1:=by
 intro f;induction f with
 |zero=>intro x;exact fY.refl x
 |succ f ih=>
  intro x;simp only[fS]
  repeat' split
  ·exact og x _
  ·exact(uO x s).trans (ih _)
  ·exact(og x _).trans (ih _)
  ·exact fY.refl x
theorem mn(x:Sc)(s t:ByteArray):fY x (x.until s t).1:=Qz s t x.i _ x
theorem zu(x:Sc)(s:ByteArray)(jY:Nat):fY x (x.char s jY).1:=by
 unfold Sc.char;repeat' split
 all_goals first|exact uO _ _|exact Jd _ _ _|exact⟨rfl,rfl,rfl⟩
theorem Xh(s:ByteArray)(q:Nat):∀(f:Nat) (x:Sc) (t:List UInt8),fY x (iO s q f x t).1:=by
 intro f;induction f with
 |zero=>intro x t;exact fY.refl x
 |succ f ih=>
  intro x t;simp only[iO];split
  ·exact(zu x s q).trans (ih _ _)
  ·exact fY.refl x
theorem Ue(x:Sc)(s:ByteArray):fY x (x.value s).1:=by
 unfold Sc.value;split
 ·exact((og x _).trans (Xh s _ _ _ _)).trans (og _ _)
 ·exact uO x s
theorem Uf(x:Sc)(s:ByteArray)(l:lK):fY x (x.gz s l):=by
 unfold Sc.gz;split
 ·exact(np x s).trans (Jd _ _ _)
 ·exact np x s
theorem Kw(x:Sc)(s:ByteArray)(l:lK):fY x (x.equal s l):=(((Uf x s l).trans (nj _ s)).trans (ij s _ _)).trans (nj _ s)
theorem Xi(x:Sc)(s:ByteArray)(l:lK):fY x (x.attr s l).1:=by
 unfold Sc.attr;split
 ·exact(Kw x s l).trans (Ue _ s)
 ·exact Kw x s l
theorem QA(s:ByteArray):∀(f:Nat) (x:Sc) (l:lK),fY x (eB s f x l).1:=by
 intro f;induction f with
 |zero=>intro x l;exact fY.refl x
 |succ f ih=>
  intro x l;simp only[eB];split
  ·exact nj x s
  ·exact((nj x s).trans (Xi _ s l)).trans (ih _ _)
theorem Dx(x:Sc)(s:ByteArray):fY x (x.attrs s).1:=QA s _ x []
def Fits(s:ByteArray)(x:Sc):Prop:=x.err=0->x.i<=s.size
theorem Dy(h:Fits s x):Fits s (x.name s).1:=by
 intro he;by_cases h0:x.err=0
 ·by_cases hb:Ch.eG (cur s x.i)=true
  ·rw[(kV h0 hb).1];exact nJ (h h0)
  ·rw[nL (s:=s) h0 hb]at he;exact absurd he (eO x s h0)
 ·have hn:x.name s=(x,⟨#[]⟩):=by unfold Sc.name;rw[if_neg h0]
  rw[hn]at he;exact absurd he h0
theorem QB(h:Fits s x):Fits s (x.eD s):=mH h
theorem Dz(s:ByteArray):∀(l:List UInt8) (x:Sc),Fits s x->Fits s (Sc.ey s l x):=by
 intro l;induction l with
 |nil=>intro x h;exact h
 |cons c l ih=>
  intro x h;simp only[Sc.ey]
  repeat' split
  ·rename_i h1 h2;refine ih _ fun _=>?_;have:=is_lt h2;show x.i+1<=_;omega
  ·rename_i h1 h2;exact ih _ fun e=>absurd e (eO x s h1)
  ·exact h
theorem Ug(t:ByteArray)(hz:t.size≠0)(h:Fits s x):Fits s (x.until s t).1:=by
 have key:∀(f:Nat) (x:Sc) (fI:Nat),Fits s x->Fits s (fS s t fI f x).1:=by
  intro f;induction f with
  |zero=>intro x fI h;exact h
  |succ f ih=>
   intro x fI h;by_cases he:x.err=0
   ·rw[mX _ _ _ _ _ he hz];split
    ·rename_i hh;intro _;have:=Ch.qi hh (by have:t.data.toList.length=t.size:=(by simp);omega)
     have h2:t.data.toList.length=t.size:=by simp
     show x.i+t.size<=_;omega
    ·split
     ·rename_i hc;have:=eK hc;exact ih _ _ fun _=>by show x.i+wid s x.i<=_;omega
     ·exact ih _ _ fun e=>absurd e (eO x s he)
   ·rw[ja _ _ _ _ _ he];exact h
 exact key _ _ _ h
theorem Uh(h:Fits s x):Fits s (x.attrs s).1:=by
 by_cases he:x.err=0
 ·have hA:De x ⟨fun j=>if j=.text then x.more else [],fun _=>x.fI,0,[],[],0,x.l⟩ [] [] 0:=⟨⟨rfl,rfl,fun _=>rfl⟩,rfl,rfl,rfl,rfl,rfl⟩
  rcases yX (g:=fun _=>[]) (s:=s) (s.size+2) x [] _ he (h he) (by omega) hA with⟨_,_,h3,_⟩|⟨h1,_⟩
  ·exact fun _=>h3
  ·exact fun e=>absurd e h1
 ·unfold Sc.attrs;rw[jO he];exact h
structure Kit(X:Nat)(s:ByteArray)(lv:Value):Prop where
 Ym:∀W x,j6 X W s lv x->∀c:Nat,c<256->Z4 72 #[Z8 X,.int .u8 c] W fun en w'=>en=.returned (.bool (x.is s c))/\SE X W s lv x w'
 must:∀W x,j6 X W s lv x->Fits s x->∀t:ByteArray,0<t.size->t.size<=1024->Z4 73 #[Z8 X,.string t] W fun en w'=>en=.returned (.tuple #[])/\SE X W s lv (Sc.ey s (LN t 0) x) w'
 DA:∀W x,j6 X W s lv x->Fits s x->∀t:ByteArray,t.size<=1024->Z4 74 #[Z8 X,.string t] W fun en w'=>en=.returned (.string (x.until s t).2)/\SE X W s lv (x.until s t).1 w'
 name:∀W x,j6 X W s lv x->Fits s x->Z4 75 #[Z8 X] W fun en w'=>en=.returned (.string (x.name s).2)/\SE X W s lv (x.name s).1 w'
 eD:∀W x,j6 X W s lv x->Fits s x->Z4 76 #[Z8 X] W fun en w'=>en=.returned (.int .i64 (x.skip s))/\SE X W s lv (x.eD s) w'
 g_:∀W x,j6 X W s lv x->∀(t:ByteArray) (a:Int),x.more.length+t.size<=1125899906842624->Z4 42 #[Z8 X,.string t,.int .i64 a] W fun en w'=>en=.returned (.tuple #[])/\SE X W s lv (x.g_ t a) w'
 attrs:∀W x,j6 X W s lv x->Fits s x->Z4 78 #[Z8 X] W fun en w'=>∃v,en=.returned v/\SE X W s lv (x.attrs s).1 w'/\w'.ownsRow 0 212 2 v (x.attrs s).2.length (ee (x.attrs s).2)/\(∀k,v.ownBlock=some k->W.heap.size<=k)
theorem Xj(X:Nat)(s:ByteArray)(lv:Value)(hs:s.size<=1099511627776):Kit X s lv where
 Ym:=fun W x b c hc=>(Bc b c hc).mono fun en w' ⟨h1,h2⟩=>⟨h1,SE.ru b h2⟩
 must:=fun W x b hf t h0 h1=>F5 b (by omega) hf t h0 h1
 DA:=fun W x b hf t h1=>Pr b (by omega) hf t h1
 name:=fun W x b hf=>Kf b (by omega) hf
 eD:=fun W x b hf=>Be b (by omega) hf
 g_:=fun W x b t a h=>Bg b t a h
 attrs:=fun W x b hf=>Qv b (by omega) hs hf
theorem tF(h:RS F X w s lv cs x){w1:World}{y:Sc}(k:SE X w s lv y w1)(hl:fY x y)(t:fe)(v:Value)(ha:w1.ownsRow 0 212 2 v t.attrs.length (ee t.attrs))(hv:∀k,v.ownBlock=some k->w.heap.size<=k)(hn:y.l.length<=1099511627776):
  Z4 77 #[Z8 X,.agg #[.int .i64 t.kind,eA t.name,v,eA t.text,.int .i64 t.at_]] w1 fun en w'=>en=.returned (.tuple #[])/\qp F X w s (y.told t) w':=by
 obtain⟨U9,GY,rs2,f2⟩:=h.E9 k hl.1;obtain⟨ai,ac,rfl⟩:=dU ha;have hX:X<w.heap.size:=h.lt X h.has;refine(Ki rs2 t ai t.attrs.length ac ha (fun k e=>⟨Or.inr ⟨hv k e,eu ha e⟩,fun e2=>by have:=hv k e;omega⟩) hn).mono ?_;rintro en w' ⟨rfl,r⟩;exact⟨rfl,qp.on ⟨U9,GY,rs2,f2⟩ fun _ _ _=>r⟩
theorem MO{w1:World}{y:Sc}(h:qp F X w s y w1)(t:fe)(hat:t.attrs=[])(hn:y.l.length<=1099511627776):
  Z4 77 #[Z8 X,.agg #[.int .i64 t.kind,eA t.name,.slice none 0 0,eA t.text,.int .i64 t.at_]] w1 fun en w'=>en=.returned (.tuple #[])/\qp F X w s (y.told t) w':=by
 obtain⟨U9,GY,rs2,f2⟩:=h;have ha:w1.ownsRow 0 212 2 (.slice none 0 0) t.attrs.length (ee t.attrs):=by rw[hat];exact bB _ _ _ _
 refine(Ki rs2 t none 0 0 ha (by intro k e;simp[Value.ownBlock]at e) hn).mono ?_;rintro en w' ⟨rfl,r⟩;exact⟨rfl,qp.on ⟨U9,GY,rs2,f2⟩ fun _ _ _=>r⟩
theorem rK(b:ByteArray):eA b.data.toList=.string b:=by unfold eA;simp
end
end K
end Go.Proofs.YtclgfepngpeifaaGreatDoor
