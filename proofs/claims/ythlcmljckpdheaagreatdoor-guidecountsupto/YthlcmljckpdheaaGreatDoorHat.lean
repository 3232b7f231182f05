import Derived.Test.YthlcmljckpdheaaGreatDoorHA
import Derived.Test.YthlcmljckpdheaaGreatDoorHap
import Derived.Test.YthlcmljckpdheaaGreatDoorHas
set_option linter.unusedVariables false
set_option linter.unusedSimpArgs false
set_option maxHeartbeats 32000000
set_option maxRecDepth 100000
namespace Go.Proofs.YthlcmljckpdheaaGreatDoor
namespace K
open Go.RowKit Go.Lib Tryz
section
def XL(cs:List Int):List UInt8:=cs.flatMap Lib.encodeRune
variable{s:ByteArray}{p:Nat}{c:Int}{x:Sc}{q:Bool}
end
section
def kU(n:List UInt8):Prop:=∃(s0:ByteArray) (q:Nat),Ch.ft (cur s0 q)=true/\n=Ch.bytes s0 q (jr s0 q-q)
def gB(t:List UInt8):Prop:=∃cs:List Int,(∀c∈cs,Ch.may c=true)/\t=XL cs
variable{s:ByteArray}{p:Nat}{c:Int}{x:Sc}{q:Bool}
theorem vZ(s:ByteArray)(i n:Nat)(h:i+n<=s.size):(Ch.bytes s i n).length=n:=by
 unfold Ch.bytes;have hz:s.data.toList.length=s.size:=by simp
 rw[bM,cU];omega
end
section
variable{s:ByteArray}{p:Nat}{c:Int}{x:Sc}{q:Bool}
def lY(a:List UInt8×List UInt8):List UInt8:=10::(a.1++([32,61,32,34]++(Ch.tu true a.2++[34])))
end
section
variable{s:ByteArray}{p:Nat}{c:Int}{x:Sc}{q:Bool}
def uV:nE->nE->Prop
 |_,[]=>True
 |l,a::ats=>l.any (fun b=>b.1==a.1)=false/\uV (l++[a]) ats
end
section
variable{s:ByteArray}{p:Nat}{c:Int}{x y z:Sc}{q:Bool}
def aai:List UInt8:=[60,33,45,45,32,114,32,45,45,62]
def aaj:List UInt8:=[60,63,111,63,62]
def aak:List UInt8:=[60,33,91,67,68,65,84,65,91,93,93,62]
def Goes(s:ByteArray)(x y:Sc):Prop:=∃n,x.i+n<=y.i/\∀f,iQ s (f+n) x=iQ s f y
theorem Goes.refl(x:Sc):Goes s x x:=⟨0,by omega,fun f=>rfl⟩
theorem Goes.trans(h:Goes s x y)(k:Goes s y z):Goes s x z:=by
 obtain⟨n,h1,h2⟩:=h;obtain⟨m,k1,k2⟩:=k;refine⟨m+n,by omega,fun f=>?_⟩;rw[<-cK,h2,k2]
theorem Goes.kA(he:x.err=0)(sG:cur s x.i=60)(hi:x.i+1<=(x.kA s).i):Goes s x (x.kA s):=by
 have hp:=(jY (s:=s) (i:=x.i) (c:=60) (by omega)).1 sG;refine⟨1,hi,fun f=>?_⟩
 conv=>lhs;unfold iQ
 rw[if_pos ⟨hp.1,he⟩];unfold Sc.piece;rw[if_pos hp.2]
theorem Goes.over(h:Goes s Sc.zero y)(hi:y.i=s.size):eV s=y:=by
 obtain⟨n,h1,h2⟩:=h;have h0:(Sc.zero).i=0:=rfl;unfold eV;obtain⟨f,hf⟩:∃f,s.size+1=f+n:=⟨s.size+1-n,by omega⟩
 rw[hf,h2];cases f with
 |zero=>rfl
 |succ f=>simp only[iQ];rw[if_neg (fun e=>by omega)]
def marks:List UInt8:=aai++(aaj++aak)
end
section
variable{s:ByteArray}{p:Nat}{c:Int}{x y z:Sc}{q:Bool}
def jG(t:Tok):List UInt8:=if t.kind=1 then 60::(t.name++(t.d_.flatMap lY++[32,62]))else if t.kind=2 then [60,47]++t.name++[62]else Ch.tu false t.text++marks
def FA(t:Tok):Prop:=
 (t.kind=1/\kU t.name/\(∀a∈t.d_,kU a.1/\gB a.2)/\uV [] t.d_/\t.text=[])\/(t.kind=2/\kU t.name/\t.d_=[]/\t.text=[])\/
 (t.kind=3/\t.name=[]/\t.d_=[]/\gB t.text/\t.text≠[])
def pD:Bool->List Tok->Prop
 |_,[]=>True
 |b,t::l=>FA t/\(t.kind=3->b=false)/\pD (t.kind==3) l
def ends:Bool->List Tok->Bool
 |b,[]=>b
 |_,t::l=>ends (t.kind==3) l
def bare(t:Tok):Tok:={t with at_:=0}
theorem p7:∀(l l':List Tok) (b:Bool),pD b (l++l')↔pD b l/\pD (ends b l) l':=by
 intro l;induction l with
 |nil=>intro l' b;simp[pD,ends]
 |cons t l ih=>intro l' b;simp only[bI,pD,ends,ih,and_assoc]
theorem wQ:∀(l l':List Tok) (b:Bool),ends b (l++l')=ends (ends b l) l':=by
 intro l;induction l with
 |nil=>intro l' b;rfl
 |cons t l ih=>intro l' b;simp only[bI,ends,ih]
end
end K
end Go.Proofs.YthlcmljckpdheaaGreatDoor
namespace Go.Proofs.YthlcmljckpdheaaGreatDoor
namespace K
open Go.RowKit Go.Maps Go.Lib Tryz
section
variable{X:Nat}{w w' w'' wr:World}{s t:ByteArray}{lv:Value}{x x':Sc}
structure AI(X:Nat)(w:World)(s:ByteArray)(lv:Value)(y:Sc×nE)(wr:World)(x:Sc)(l:nE)(v:Value)(f:Nat):Prop where
 se:SE X w s lv x wr
 row:wr.ownsRow 0 219 2 v l.length (eQ l)
 own:∀k,v.ownBlock=some k->w.heap.size<=k
 le:x.err=0->x.i<=s.size
 eq:fg s f x l=y
 fuel:x.err=0->s.size+1<x.i+f
 len:l.length<=s.size+1/\(x.err=0->l.length<=x.i)
theorem iz{l:nE}{v:Value}{w1 w2:World}(h:w1.ownsRow 0 219 2 v l.length (eQ l))(hX:v.ownBlock≠some X)(b:T7 X w1 w2):w2.ownsRow 0 219 2 v l.length (eQ l):=
 eH h fun k e=>b.block k (eW h e) (fun e2=>hX (by rw[e,e2]))
theorem FB{l:nE}{g cap:Nat}(h:w.ownsRow 0 219 2 (Z9 g l.length cap) l.length (eQ l))(i:Nat)(hi:i<l.length):
  w.cell? ⟨g,i*2,none⟩=some (e8 (l[i]).1)/\w.cell? ⟨g,i*2+1,none⟩=some (e8 (l[i]).2):=by
 have hc:=h.cells (g:=g) rfl;have key:∀(l:nE) (i:Nat) (hi:i<l.length),(eQ l)[i*2]?=some (e8 (l[i]).1)/\(eQ l)[i*2+1]?=some (e8 (l[i]).2):=by
  intro l;induction l with
  |nil=>intro i hi;cases hi
  |cons x l ih=>
   intro i hi;cases i with
   |zero=>exact⟨rfl,rfl⟩
   |succ i=>
    have:=ih i (by simpa using hi);have e1:(i+1)*2=i*2+2:=by omega
    rw[e1];simpa [eQ]using this
 obtain⟨k1,k2⟩:=key l i hi;have h1:=hc _ _ k1;have h2:=hc _ _ k2;rw[Addr.add_mid,ax]at h1 h2;exact⟨h1,h2⟩
theorem Qr{l:nE}{ai:Option Addr}{ac:Nat}(h:w.ownsRow 0 219 2 (.slice ai l.length ac) l.length (eQ l))(i:Nat)(hi:i<l.length):
  ∃g,ai=some ⟨g,0,none⟩/\w.cell? ⟨g,i*2,none⟩=some (.string ⟨(l[i]).1.toArray⟩):=by
 have h':=h;rcases h'.2 with⟨e,e0⟩|⟨ga,ca',cur,e,_⟩
 ·omega
 cases e;exact⟨ga,rfl,(FB h i hi).1⟩
theorem Qs(h:ky X w s lv x)(he:x.err≠0)(t:ByteArray)(ht:0<t.size):Z4 69 #[Z8 X,.string t] w fun en w'=>en=.returned (.tuple #[])/\SE X w s lv x w':=by
 have c5:w.cell? ⟨X,5,none⟩=some (.int .i64 x.err):=h.cell 5 rfl;have e0:(x.err==0)=false:=by simpa using he
 have hd:decide ((0:Int)<t.size)=true:=by simp;omega
 have H:=a_ (SE.refl h);clear h he;go_enter func69,ntmps69;go_wp2_with fail;refine dI 1 ?_;rw[ej];go_wp2_with fail
 go_end0
 exact⟨rfl,H.out⟩
theorem FC(h:ky X w s lv x)(hs:s.size<=1125899906842624)(hi:x.err=0->x.i<=s.size)(t:ByteArray)(h0:0<t.size)(ht:t.size<=1024):Z4 69 #[Z8 X,.string t] w fun en w'=>en=.returned (.tuple #[])/\SE X w s lv (Sc.eZ s (LH t 0) x) w':=by
 by_cases he:x.err=0
 ·exact T9 h hs (hi he) t (by omega)
 ·rw[ja s _ he];exact Qs h he t h0
theorem uW{ops:Array Oper}{rest:List Oper}{o:Oper}{a:Act}{w:World}{Q:Exit->Act->World->Prop}(hgd:o.guard=none)(s x:Operand)(ho:o.op=Op.call {callee:=Callee.builtin Builtin.append,args:=#[s,x],argTypes:=#[51,51]})(hty:o.type=51)
  (v1 v2:Value) (hs:a.eval s=v1) (hx:a.eval x=v2) {v':Value} {w':World} (hr:(Builtin.append_ #[51,51] 51 #[v1,v2]).run prog w=.ok v' w') (h:wpList prog ops Q rest (a.put o.dst v') w'):wpList prog ops Q (o::rest) a w:=by
 refine wpList_plain hgd fun K hK=>?_;unfold Oper.wp execOp;simp only[ho,hty,resolve,invoke,builtin,Sem.run_bind,Sem.run_pure,eu,List.map_toArray,bC,b9,hs,hx,hr];exact hK _ _ h
theorem Qt(x:Sc)(s:ByteArray):(x.fh s).err=x.err:=rfl
theorem FD(h:x.err=0->x.i<=s.size)(l:nE):(x.gY s l).err=0->(x.gY s l).i<=s.size:=by
 intro he;have h0:x.err=0:=by
  by_cases e:x.err=0
  ·exact e
  ·exfalso;have hn:x.name s=(x,⟨#[]⟩):=by unfold Sc.name;rw[if_neg e]
   have:x.gY s l=x:=by
    unfold Sc.gY;rw[hn];simp only;split
    ·unfold Sc.fail;rw[if_neg e]
    ·rfl
   rw[this]at he;exact e he
 by_cases hb:Ch.ft (cur s x.i)=true
 ·obtain⟨n1,n2⟩:=lB h0 hb;unfold Sc.gY;rw[n1];have hle:=nh (s:=s) (h h0);split
  ·rw[yy];exact hle
  ·exact hle
 ·exfalso;have hn:=oC (s:=s) h0 hb;have o9:=fx x s h0;have:x.gY s l=x.wrong s:=by
   unfold Sc.gY;rw[hn];simp only;split
   ·unfold Sc.fail;rw[if_neg o9]
   ·rfl
  rw[this]at he;exact o9 he
theorem nI(h:x.err=0->x.i<=s.size):(x.fh s).err=0->(x.fh s).i<=s.size:=by
 intro he;rw[Qt]at he;rw[lU he];exact yM (h he)
theorem Ka(h:x.err=0->x.i<=s.size){c:UInt8}(hc:32<=c.toNat/\c.toNat<128):(Sc.eZ s [c] x).err=0->(Sc.eZ s [c] x).i<=s.size:=by
 by_cases he:x.err=0
 ·rw[q9 he hc];split
  ·rename_i hq;have:=fp (s:=s) (i:=x.i) (by omega);intro _;show x.i+1<=_;omega
  ·intro e;exact absurd e (fx x s he)
 ·rw[ja s _ he];exact h
theorem Qu(h:x.err=0->x.i<=s.size)(l:nE):(x.equal s l).err=0->(x.equal s l).i<=s.size:=
 nI (Ka (nI (FD h l)) (by decide))
def Sc.tw(x:Sc)(s:ByteArray)(l:nE)(k:Nat):Sc:=x.gY s (l.take k)
theorem UB(x:Sc)(s:ByteArray)(l:nE):x.tw s l 0=(x.name s).1:=by unfold Sc.tw Sc.gY;simp
theorem XM(x:Sc)(s:ByteArray)(l:nE):x.tw s l l.length=x.gY s l:=by unfold Sc.tw;rw[bH]
theorem Mz(x:Sc)(e a:Int)(he:e≠0):(x.fail e a).fail e a=x.fail e a:=by
 unfold Sc.fail;by_cases h:x.err=0
 ·rw[if_pos h,if_neg (by simpa using he)]
 ·rw[if_neg h,if_neg h]
theorem any_succ(l:nE)(k:Nat)(hk:k<l.length)(p:List UInt8×List UInt8->Bool):(l.take (k+1)).any p=((l.take k).any p||p l[k]):=by rw[bw hk,dE];simp
theorem UC(x:Sc)(s:ByteArray)(l:nE)(k:Nat)(hk:k<l.length)(h:((l[k]).1==(x.name s).2.data.toList)=false):x.tw s l (k+1)=x.tw s l k:=by
 unfold Sc.tw Sc.gY;rw[any_succ l k hk,h,di]
theorem UD(x:Sc)(s:ByteArray)(l:nE)(k:Nat)(hk:k<l.length)(h:((l[k]).1==(x.name s).2.data.toList)=true):x.tw s l (k+1)=(x.tw s l k).fail 5 x.i:=by
 unfold Sc.tw Sc.gY;rw[any_succ l k hk,h,dW,if_pos rfl];split
 ·rw[Mz _ _ _ (by decide)]
 ·rfl
end
section
variable{X:Nat}{w w' w'' wr:World}{s t:ByteArray}{lv:Value}{x x':Sc}
theorem IP(w:World)(a b:List UInt8):∀j u,[e8 a,e8 b][j]?=some u->(w.alloc (.cells #[e8 a,e8 b] 219)).cell? ((⟨w.heap.size,0,none⟩:Addr).add j)=some u:=by
 intro j u hj;have hb:(w.alloc (.cells #[e8 a,e8 b] 219)).heap[w.heap.size]?=some (.cells #[e8 a,e8 b] 219):=eL _ _
 match j,hj with
 |0,hj=>cases hj;exact cell_of hb rfl
 |1,hj=>cases hj;exact cell_of hb rfl
theorem MA(W:World){ai:Option Addr}{ac:Nat}{l:nE}(row:W.ownsRow 0 219 2 (.slice ai l.length ac) l.length (eQ l))(a b:List UInt8)(hl:l.length<=1099511627778):
  ∃v' W',(Builtin.append_ #[51,51] 51 #[.slice ai l.length ac,.slice (some ⟨W.heap.size,0,none⟩) 1 1]).run prog (W.alloc (.cells #[e8 a,e8 b] 219))=.ok v' W'/\W'.ownsRow 0 219 2 v' (l++[(a,b)]).length (eQ (l++[(a,b)]))/\(W.alloc (.cells #[e8 a,e8 b] 219)).grownBy W' (Value.slice ai l.length ac).ownBlock/\(v'.ownBlock=(Value.slice ai l.length ac).ownBlock\/v'.ownBlock=some (W.heap.size+1)):=by
 obtain⟨i0,hi,hz0,hz1,hz2⟩:=aZ Xg;obtain⟨v',W',hrun,r1,r2,_,r4⟩:=cJ (P:=prog) (W.alloc (.cells #[e8 a,e8 b] 219)) 0 51 51 219 i0 _ 2 32 underlying51 hi hz0 hz1 hz2 rfl (by decide) (.slice ai l.length ac) l.length (eQ l) (row.alloc _) ⟨W.heap.size,0,none⟩ 1 1 [e8 a,e8 b] rfl (IP W a b) (EK a b) (by unfold maxLen;omega) (by omega) (aq _);refine⟨v',W',hrun,?_,r2,by simpa using r4⟩;have e1:(l++[(a,b)]).length=l.length+1:=by simp
 have e2:eQ (l++[(a,b)])=eQ l++[e8 a,e8 b]:=by simp[eQ]
 rw[e1,e2];exact r1
theorem UE{l:nE}(he:x.err=0)(hi:x.i<=s.size)(hbl:¬Tk.blank (cur s x.i)=true)(Bj:x.is s 47=false)(NP:x.is s 62=false):(x.attr s l).1.err=0->x.i<(x.attr s l).1.i/\(x.attr s l).1.i<=s.size:=by
 have A3:¬cur s x.i=47:=fun e=>by rw[(jZ he (c:=47) (by omega)).2 e]at Bj;cases Bj
 have DJ:¬cur s x.i=62:=fun e=>by rw[(jZ he (c:=62) (by omega)).2 e]at NP;cases NP
 have hA:CU x ⟨fun j=>if j=.text then x.more else [],fun _=>x.fY,0,l,l.map Prod.fst,0,x.l⟩ l [] 0:=⟨⟨rfl,rfl,fun _=>rfl⟩,rfl,rfl,rfl,rfl,rfl⟩
 rcases AZ (g:=fun _=>[]) he hi hA hbl A3 DJ with⟨_,h2,h3,_⟩|⟨h1,_⟩
 ·exact fun _=>⟨h2,h3⟩
 ·exact fun e=>absurd e h1
theorem UF{w9 W':World}{o:Obj}{ro:Option Nat}(h:SE X w s lv x w9)(g:(w9.alloc o).grownBy W' ro)(hlt:X<w.heap.size)(hr:∀k,ro=some k->w.heap.size<=k):SE X w s lv x W':=by
 have hz:=h.2.size;have hb:∀k,k<w.heap.size->W'.heap[k]?=w9.heap[k]?:=fun k hk=>by
  rw[g.block k (by simp;omega) (fun e=>by have:=hr k e.symm;omega)];exact ak _ _ k (by omega)
 refine⟨(hb X hlt).trans h.1,⟨g.os.trans h.2.os,g.tape.trans h.2.tape,g.output.trans h.2.output,?_,fun k hk hX=>(hb k hk).trans (h.2.block k hk hX)⟩⟩;have:=g.size;simp at this;omega
theorem AI.next{y:Sc×nE}{l:nE}{ai:Option Addr}{ac f:Nat}{B:Sc}{w9 W':World}{o:Obj}{v':Value}(hlt:X<w.heap.size)(U:AI X w s lv y wr x l (.slice ai l.length ac) (f+1))(he:x.err=0)(hB:x.fh s=B)(hBi:x.i<B.i)
  (Bj:B.is s 47=false) (NP:B.is s 62=false) (heq:fg s f (B.attr s l).1 (l++[(B.attr s l).2])=y) (R9:SE X w s lv (B.attr s l).1 w9) (row:W'.ownsRow 0 219 2 v' (l++[(B.attr s l).2]).length (eQ (l++[(B.attr s l).2])))
  (g:(w9.alloc o).grownBy W' (Value.slice ai l.length ac).ownBlock) (hat:v'.ownBlock=(Value.slice ai l.length ac).ownBlock\/v'.ownBlock=some (w9.heap.size+1)):
  AI X w s lv y W' (B.attr s l).1 (l++[(B.attr s l).2]) v' f/\left X s.size W'<left X s.size wr:=by
 have hle:=U.le he;have LJ:=U.fuel he;have hln:=U.len.2 he;have Qv:B.err=0:=by rw[<-hB];exact he
 have hBl:B.i<=s.size:=by rw[<-hB]at Qv ⊢;exact nI U.le Qv
 have hbl:¬Tk.blank (cur s B.i)=true:=by rw[<-hB,lU he];exact rV s x.i
 have ha:=UE (l:=l) Qv hBl hbl Bj NP;have se:=UF R9 g hlt U.own;have hz:=R9.2.size;have hlen:(l++[(B.attr s l).2]).length=l.length+1:=by simp
 refine⟨⟨se,row,?_,fun e=>(ha e).2,heq,fun e=>by have:=ha e;omega,⟨by omega,fun e=>by have:=ha e;omega⟩⟩,?_⟩
 ·intro k e;rcases hat with h|h
  ·exact U.own k (h.symm.trans e)
  ·rw[h]at e;cases e;omega
 ·rw[left_eq se.1 s.size,left_eq U.se.1 s.size,if_pos he];split
  ·rename_i e;have:=ha e;omega
  ·omega
theorem Qw(h:ky X w s lv x)(hs:s.size<=1125899906842624)(hsz:s.size<=1099511627776)(hi:x.err=0->x.i<=s.size):
  Z4 74 #[Z8 X] w fun en w'=>∃v,en=.returned v/\SE X w s lv (x.d_ s).1 w'/\w'.ownsRow 0 219 2 v (x.d_ s).2.length (eQ (x.d_ s).2)/\(∀k,v.ownBlock=some k->w.heap.size<=k):=by
 have hlt:=h.lt;have h0:AI X w s lv (x.d_ s) w x [] (.slice none 0 0) (s.size+2):=⟨SE.refl h,bp _ _ _ _,by intro k e;simp[Value.ownBlock]at e,hi,rfl,fun _=>by omega,⟨by simp,fun _=>by simp⟩⟩
 generalize x.d_ s=y at*
 have H0:=a_ h0;have hbl:=fun W x' (b:ky X W s lv x') (hi:x'.err=0->x'.i<=s.size)=>AH b hs hi;have VL:=fun W x' (b:ky X W s lv x') c (hc:c<256)=>AG b c hc;have qF:=fun W x' (b:ky X W s lv x') (hi:x'.err=0->x'.i<=s.size)=>JY b hs hi;have zI:=fun W x' (b:ky X W s lv x') (e a:Int)=>rQ b e a;have L6:=fun W x' (b:ky X W s lv x') (hi:x'.err=0->x'.i<=s.size)=>FC b hs hi ⟨#[61]⟩ (by decide) (by decide);have hvl:=fun W x' (b:ky X W s lv x') (hi:x'.i<=s.size)=>Pz b hs hi;have Qx:=a_ hbl;have HIS:=a_ VL;have D6:=a_ qF;have HFL:=a_ zI;have YT:=a_ L6;have HVL:=a_ hvl;clear h h0 hi hbl VL qF zI L6 hvl;go_enter func74,ntmps74;go_wp2_with fail;go_loopw [3,4,5,6,7,8] (fun v _ _ _ _ _ wr=>∃x' l' f,AI X w s lv y wr x' l' v f) (fun _ _ _ _ _ _ wr=>left X s.size wr)
 case atStart=>exact⟨_,_,_,H0.out⟩
 case round=>
  obtain⟨x',l',f,u⟩:=hrel;obtain⟨ai,ac,rfl⟩:=eF u.row;have mX:=left_eq u.se.1 s.size;have hbl:=Qx.out wr x' u.se.1 u.le;by_cases hsk:x'.skip s=0
  ·rw[hsk]at hbl;have hy:y=(x'.fh s,l'):=by
    have:=u.eq;cases f with
    |zero=>
     by_cases he:x'.err=0
     ·have:=u.fuel he;have:=u.le he;omega
     ·rw[j5 he]at this;rw[j3 he];exact this.symm
    |succ f=>simp only[fg]at this;rw[if_pos (Or.inl hsk)]at this;exact this.symm
   subst hy;have U:=a_ u;clear u mX hsk;go_wp2_with fail;refine hbl.mono ?_;rintro e w1 ⟨rfl,r1⟩;have R1:=a_ r1;clear r1;go_wp2;go_ret;refine⟨_,rfl,U.out.se.on R1.out,iz U.out.row ?_ R1.out.2,U.out.own⟩;intro e;have:=U.out.own X e;omega
  ·have he:x'.err=0:=by
    by_cases he:x'.err=0
    ·exact he
    ·exact absurd (by unfold Sc.skip;rw[if_neg he]) hsk
   have Sk:((x'.skip s:Int)==0)=false:=by simpa using hsk
   have hB:=nI u.le;have Qv:(x'.fh s).err=0:=he;have hBi:x'.i<(x'.fh s).i:=by show x'.i<x'.i+x'.skip s;omega
   have hBl:=hB Qv;have hb0:((x'.fh s).err !=0)=false:=by rw[Qv];rfl
   have LJ:=u.fuel he;have GY:=u.le he;rw[if_pos he]at mX;obtain⟨f,rfl⟩:∃g,f=g+1:=⟨f-1,by omega⟩
   have heq:=u.eq;simp only[fg]at heq;have hlen:=u.len.2 he;have hX:(Value.slice ai (List.length l') ac).ownBlock≠some X:=by
    intro e;have:=u.own X e;omega
   have U:=a_ u;clear u;generalize Eo:x'.fh s=B at*
   have i47:=fun W (b:ky X W s lv B)=>HIS.out W B b 47 (by decide);have i62:=fun W (b:ky X W s lv B)=>HIS.out W B b 62 (by decide);cases Bj:B.is s 47
   ·cases NP:B.is s 62
    ·rw[if_neg (by rw[Bj,NP];simp[hsk,Qv])]at heq;rw[Bj]at i47;rw[NP]at i62;have DI:=a_ heq;have HE:=a_ he;have HBE:=a_ Qv;have HBN:=a_ Eo;have I1:=a_ i47;have I2:=a_ i62;have abV:=a_ mX;have Q1:=a_ Bj;have Q2:=a_ NP;clear heq he Qv Eo i47 i62 hsk Bj NP mX;go_wp2_with fail;refine hbl.mono ?_;rintro e w1 ⟨rfl,r1⟩;have R1:=a_ (U.out.se.on r1);have FE:=a_ (iz U.out.row hX r1.2);have c15:w1.cell? ⟨X,5,none⟩=some (.int .i64 B.err):=r1.1.cell 5 rfl;clear r1 hbl;go_wp2_with fail;refine(I1.out _ R1.out.1).mono ?_;rintro e w2 ⟨rfl,b2⟩;have R2:=a_ (R1.out.below hlt b2);have IQ:=a_ (eH FE.out fun k e=>b2.block k (eW FE.out e));clear b2;go_wp2_with fail;refine(I2.out _ R2.out.1).mono ?_;rintro e w3 ⟨rfl,b3⟩;have R3:=a_ (R2.out.below hlt b3);have XO:=a_ (eH IQ.out fun k e=>b3.block k (eW IQ.out e));have c31:w3.cell? ⟨X,1,none⟩=some (.int .i64 B.i):=R3.out.1.cell 1 rfl;clear b3 I1 I2;go_wp2_with fail;refine(D6.out _ B R3.out.1 (fun _=>hBl)).mono ?_;rintro e w4 ⟨rfl,r4⟩;have R4:=a_ (R3.out.on r4);have abx:=a_ (iz XO.out hX r4.2);clear r4;go_wp2_with fail;go_loopw [7] (fun iv wr2=>∃k:Nat,iv=.int .i64 k/\k<=l'.length/\SE X w s lv (B.tw s l' k) wr2/\wr2.ownsRow 0 219 2 (.slice ai l'.length ac) l'.length (eQ l')) (fun iv _=>l'.length-(RowKit.intOf iv).toNat)
     case atStart=>exact⟨0,rfl,aq _,by rw[UB];exact R4.out,abx.out⟩
     case round=>
      obtain⟨k,rfl,hk,UG,tM⟩:=hrel;by_cases XQ:k<l'.length
      ·have hdec:decide ((k:Int)<(l'.length:Int))=true:=by simp;omega
       have hwk:IntKind.i64.wrap ((k:Int)+1)=(k:Int)+1:=by rw[aI];omega
       obtain⟨g,hai,cg⟩:=Qr tM k XQ;have DA:(B.name s).2.toList=(B.name s).2.data.toList:=Lib.toList_data _;have mN:(⟨(l'[k]).1.toArray⟩:ByteArray).toList=(l'[k]).1:=by rw[Lib.toList_data]
       cases hq:((l'[k]).1==(B.name s).2.data.toList)
       ·have Gz:=UC B s l' k XQ hq;have SE5:=a_ UG;have Da:=a_ tM;have hq2:((⟨(l'[k]).1.toArray⟩:ByteArray).toList==(B.name s).2.toList)=false:=by rw[DA,mN];exact hq
        clear UG tM hq DA mN;generalize (⟨(l'[k]).1.toArray⟩:ByteArray)=nk at*
        generalize (B.name s).2=NB at*
        subst hai;go_wp2_with fail;refine⟨⟨k+1,by simp,by omega,by rw[Gz];exact SE5.out,Da.out⟩,by simp only[RowKit.intOf];omega⟩
       ·have Gz:=UD B s l' k XQ hq;have zI:=HFL.out _ _ UG.1 5 B.i;have SE5:=a_ UG;have Da:=a_ tM;have hq2:((⟨(l'[k]).1.toArray⟩:ByteArray).toList==(B.name s).2.toList)=true:=by rw[DA,mN];exact hq
        clear UG tM hq DA mN;generalize (⟨(l'[k]).1.toArray⟩:ByteArray)=nk at*
        generalize (B.name s).2=NB at*
        subst hai;go_wp2_with fail;refine zI.mono ?_;rintro e w6 ⟨rfl,r6⟩;have R6:=a_ r6;clear r6 zI;go_wp2;refine⟨⟨k+1,by simp,by omega,by rw[Gz];exact SE5.out.on R6.out,iz Da.out hX R6.out.2⟩,by simp only[RowKit.intOf];omega⟩
      ·have Om:k=l'.length:=by omega
       subst Om;rw[XM]at UG;have htl:=FD hB l';have aal:=Qx.out _ _ UG.1 htl;have SE5:=a_ UG;have Da:=a_ tM;have hdec:decide ((l'.length:Int)<(l'.length:Int))=false:=by simp
       clear UG tM;have ZF:=Qu hB l';have XR:=nI htl;have aam:=Ka XR (c:=61) (by decide);go_wp2_with fail;refine aal.mono ?_;rintro e w6 ⟨rfl,r6⟩;have R6:=a_ (SE5.out.on r6);have Qy:=a_ (iz Da.out hX r6.2);clear r6 aal;go_wp2_with fail;refine(YT.out _ _ R6.out.1 XR).mono ?_;rintro e w7 ⟨rfl,r7⟩;have R7:=a_ (R6.out.on r7);have Qz:=a_ (iz Qy.out hX r7.2);clear r7;go_wp2_with fail;refine(Qx.out _ _ R7.out.1 aam).mono ?_;rintro e w8 ⟨rfl,r8⟩;have R8:Hid (SE X w s lv (B.equal s l') w8):=a_ (R7.out.on r8);have aan:=a_ (iz Qz.out hX r8.2);have c85:w8.cell? ⟨X,5,none⟩=some (.int .i64 (B.equal s l').err):=R8.out.1.cell 5 rfl;clear r8 XR aam htl;have yC:=fun(W:World) (row:W.ownsRow 0 219 2 (.slice ai l'.length ac) l'.length (eQ l')) (a b:List UInt8)=>MA W row a b (by omega);have aao:=a_ yC;clear yC;by_cases UH:(B.equal s l').err=0
       ·have e80:((B.equal s l').err==0)=true:=by rw[UH];rfl
        have hat:B.attr s l'=(((B.equal s l').value s).1,((B.name s).2.data.toList,((B.equal s l').value s).2)):=by unfold Sc.attr;rw[if_pos UH]
        have hvl:=HVL.out _ _ R8.out.1 (ZF UH);have HEL:=a_ (ZF UH);have HEE:=a_ UH;have sQ:=a_ hat;clear UH hat ZF;go_wp2_with fail;refine hvl.mono ?_;rintro e w9 ⟨rfl,r9⟩;have R9:=a_ (R8.out.on r9);have aby:=a_ (iz aan.out hX r9.2);clear r9 hvl;obtain⟨v',W',hrun,FF,gr,QA⟩:=aao.out w9 aby.out (B.name s).2.data.toList ((B.equal s l').value s).2;have hN:e8 (B.name s).2.data.toList=.string (B.name s).2:=by unfold e8;simp
        rw[hN]at hrun gr;unfold e8 at hrun gr;have QB:=a_ FF;have GR:=a_ gr;have XS:=a_ QA;clear FF gr QA;go_wp2_with(at_builtin;refine uW rfl (.tmp 64) (.tmp 68) rfl rfl _ _ rfl rfl hrun ?_);have kh:=AI.next (o:=.cells #[.string (B.name s).2,.string ⟨((B.equal s l').value s).2.toArray⟩] 219) (w9:=w9) (W':=W') (v':=v') hlt U.out HE.out HBN.out hBi Q1.out Q2.out DI.out (by rw[sQ.out];exact R9.out) (by rw[sQ.out];exact QB.out) GR.out XS.out;exact⟨⟨_,_,_,kh.1⟩,kh.2⟩
       ·have e80:((B.equal s l').err==0)=false:=by simpa using UH
        have hat:B.attr s l'=(B.equal s l',((B.name s).2.data.toList,[])):=by unfold Sc.attr;rw[if_neg UH]
        have sQ:=a_ hat;clear UH hat ZF;obtain⟨v',W',hrun,FF,gr,QA⟩:=aao.out w8 aan.out (B.name s).2.data.toList [];have hN:e8 (B.name s).2.data.toList=.string (B.name s).2:=by unfold e8;simp
        rw[hN]at hrun gr;unfold e8 at hrun gr;have QB:=a_ FF;have GR:=a_ gr;have XS:=a_ QA;clear FF gr QA;go_wp2_with(at_builtin;refine uW rfl (.tmp 64) (.tmp 68) rfl rfl _ _ rfl rfl hrun ?_);have kh:=AI.next (o:=.cells #[.string (B.name s).2,.string ⟨([]:List UInt8).toArray⟩] 219) (w9:=w8) (W':=W') (v':=v') hlt U.out HE.out HBN.out hBi Q1.out Q2.out DI.out (by rw[sQ.out];exact R8.out) (by rw[sQ.out];exact QB.out) GR.out XS.out;exact⟨⟨_,_,_,kh.1⟩,kh.2⟩
    ·rw[if_pos (Or.inr (Or.inr (Or.inr NP)))]at heq;rw[Bj]at i47;rw[NP]at i62;have I1:=a_ i47;have I2:=a_ i62;subst heq;clear he Qv Eo i47 i62 hsk Bj NP mX;go_wp2_with fail;refine hbl.mono ?_;rintro e w1 ⟨rfl,r1⟩;have R1:=a_ (U.out.se.on r1);have FE:=a_ (iz U.out.row hX r1.2);have c15:w1.cell? ⟨X,5,none⟩=some (.int .i64 B.err):=r1.1.cell 5 rfl;clear r1 hbl;go_wp2_with fail;refine(I1.out _ R1.out.1).mono ?_;rintro e w2 ⟨rfl,b2⟩;have R2:=a_ (R1.out.below hlt b2);have IQ:=a_ (eH FE.out fun k e=>b2.block k (eW FE.out e));clear b2;go_wp2_with fail;refine(I2.out _ R2.out.1).mono ?_;rintro e w3 ⟨rfl,b3⟩;have R3:=a_ (R2.out.below hlt b3);have XO:=a_ (eH IQ.out fun k e=>b3.block k (eW IQ.out e));clear b3 I1 I2;go_wp2;go_ret;exact⟨_,rfl,R3.out,XO.out,U.out.own⟩
   ·rw[if_pos (Or.inr (Or.inr (Or.inl Bj)))]at heq;rw[Bj]at i47;have I1:=a_ i47;subst heq;clear he Qv Eo i47 i62 hsk Bj mX;go_wp2_with fail;refine hbl.mono ?_;rintro e w1 ⟨rfl,r1⟩;have R1:=a_ (U.out.se.on r1);have FE:=a_ (iz U.out.row hX r1.2);have c15:w1.cell? ⟨X,5,none⟩=some (.int .i64 B.err):=r1.1.cell 5 rfl;clear r1 hbl;go_wp2_with fail;refine(I1.out _ R1.out.1).mono ?_;rintro e w2 ⟨rfl,b2⟩;have R2:=a_ (R1.out.below hlt b2);have IQ:=a_ (eH FE.out fun k e=>b2.block k (eW FE.out e));clear b2;go_wp2;go_ret;exact⟨_,rfl,R2.out,IQ.out,U.out.own⟩
end
section
variable{X:Nat}{w w' w'' wr:World}{s t:ByteArray}{lv:Value}{x x':Sc}{F:Nat->Prop}{cs:List Value}
def gC(x y:Sc):Prop:=y.l=x.l/\y.more=x.more/\y.fY=x.fY
theorem gC.refl(x:Sc):gC x x:=⟨rfl,rfl,rfl⟩
theorem gC.trans{x y z:Sc}(h:gC x y)(k:gC y z):gC x z:=⟨k.1.trans h.1,k.2.1.trans h.2.1,k.2.2.trans h.2.2⟩
theorem IR(x:Sc)(e a:Int):gC x (x.fail e a):=by unfold Sc.fail;split<;>exact⟨rfl,rfl,rfl⟩
theorem uX(x:Sc)(s:ByteArray):gC x (x.wrong s):=by
 unfold Sc.wrong;repeat' split
 all_goals exact IR _ _ _
theorem o7(x:Sc)(j:Nat):gC x {x with i:=j}:=⟨rfl,rfl,rfl⟩
theorem od(x:Sc)(s:ByteArray):gC x (x.fh s):=⟨rfl,rfl,rfl⟩
theorem og(x:Sc)(s:ByteArray):gC x (x.name s).1:=by
 unfold Sc.name;repeat' split
 all_goals first|exact uX _ _|exact⟨rfl,rfl,rfl⟩
theorem iI(s:ByteArray):∀(l:List UInt8) (x:Sc),gC x (Sc.eZ s l x):=by
 intro l;induction l with
 |nil=>intro x;exact gC.refl x
 |cons c l ih=>
  intro x;simp only[Sc.eZ]
  repeat' split
  ·exact(o7 x _).trans (ih _)
  ·exact(uX x s).trans (ih _)
  ·exact gC.refl x
theorem QC(s t:ByteArray)(fY:Nat):∀(f:Nat) (x:Sc),gC x (gu s t fY f x).1:=by
 intro f;induction f with
 |zero=>intro x;exact gC.refl x
 |succ f ih=>
  intro x;simp only[gu]
  repeat' split
  ·exact o7 x _
  ·exact(uX x s).trans (ih _)
  ·exact(o7 x _).trans (ih _)
  ·exact gC.refl x
theorem nr(x:Sc)(s t:ByteArray):gC x (x.until s t).1:=QC s t x.i _ x
theorem zk(x:Sc)(s:ByteArray)(km:Nat):gC x (x.char s km).1:=by
 unfold Sc.char;repeat' split
 all_goals first|exact uX _ _|exact IR _ _ _|exact⟨rfl,rfl,rfl⟩
theorem XT(s:ByteArray)(q:Nat):∀(f:Nat) (x:Sc) (t:List UInt8),gC x (jm s q f x t).1:=by
 intro f;induction f with
 |zero=>intro x t;exact gC.refl x
 |succ f ih=>
  intro x t;simp only[jm];split
  ·exact(zk x s q).trans (ih _ _)
  ·exact gC.refl x
theorem UJ(x:Sc)(s:ByteArray):gC x (x.value s).1:=by
 unfold Sc.value;split
 ·exact((o7 x _).trans (XT s _ _ _ _)).trans (o7 _ _)
 ·exact uX x s
theorem UK(x:Sc)(s:ByteArray)(l:nE):gC x (x.gY s l):=by
 unfold Sc.gY;split
 ·exact(og x s).trans (IR _ _ _)
 ·exact og x s
theorem Kb(x:Sc)(s:ByteArray)(l:nE):gC x (x.equal s l):=(((UK x s l).trans (od _ s)).trans (iI s _ _)).trans (od _ s)
theorem XU(x:Sc)(s:ByteArray)(l:nE):gC x (x.attr s l).1:=by
 unfold Sc.attr;split
 ·exact(Kb x s l).trans (UJ _ s)
 ·exact Kb x s l
theorem QD(s:ByteArray):∀(f:Nat) (x:Sc) (l:nE),gC x (fg s f x l).1:=by
 intro f;induction f with
 |zero=>intro x l;exact gC.refl x
 |succ f ih=>
  intro x l;simp only[fg];split
  ·exact od x s
  ·exact((od x s).trans (XU _ s l)).trans (ih _ _)
theorem Db(x:Sc)(s:ByteArray):gC x (x.d_ s).1:=QD s _ x []
def Fits(s:ByteArray)(x:Sc):Prop:=x.err=0->x.i<=s.size
theorem Dc(h:Fits s x):Fits s (x.name s).1:=by
 intro he;by_cases h0:x.err=0
 ·by_cases hb:Ch.ft (cur s x.i)=true
  ·rw[(lB h0 hb).1];exact nh (h h0)
  ·rw[oC (s:=s) h0 hb]at he;exact absurd he (fx x s h0)
 ·have hn:x.name s=(x,⟨#[]⟩):=by unfold Sc.name;rw[if_neg h0]
  rw[hn]at he;exact absurd he h0
theorem QE(h:Fits s x):Fits s (x.fh s):=nI h
theorem Dd(s:ByteArray):∀(l:List UInt8) (x:Sc),Fits s x->Fits s (Sc.eZ s l x):=by
 intro l;induction l with
 |nil=>intro x h;exact h
 |cons c l ih=>
  intro x h;simp only[Sc.eZ]
  repeat' split
  ·rename_i h1 h2;refine ih _ fun _=>?_;have:=is_lt h2;show x.i+1<=_;omega
  ·rename_i h1 h2;exact ih _ fun e=>absurd e (fx x s h1)
  ·exact h
theorem UL(t:ByteArray)(hz:t.size≠0)(h:Fits s x):Fits s (x.until s t).1:=by
 have key:∀(f:Nat) (x:Sc) (fY:Nat),Fits s x->Fits s (gu s t fY f x).1:=by
  intro f;induction f with
  |zero=>intro x fY h;exact h
  |succ f ih=>
   intro x fY h;by_cases he:x.err=0
   ·rw[nW _ _ _ _ _ he hz];split
    ·rename_i hh;intro _;have:=Ch.qO hh (by have:t.data.toList.length=t.size:=(by simp);omega)
     have h2:t.data.toList.length=t.size:=by simp
     show x.i+t.size<=_;omega
    ·split
     ·rename_i hc;have:=fp hc;exact ih _ _ fun _=>by show x.i+wid s x.i<=_;omega
     ·exact ih _ _ fun e=>absurd e (fx x s he)
   ·rw[jy _ _ _ _ _ he];exact h
 exact key _ _ _ h
theorem UM(h:Fits s x):Fits s (x.d_ s).1:=by
 by_cases he:x.err=0
 ·have hA:CU x ⟨fun j=>if j=.text then x.more else [],fun _=>x.fY,0,[],[],0,x.l⟩ [] [] 0:=⟨⟨rfl,rfl,fun _=>rfl⟩,rfl,rfl,rfl,rfl,rfl⟩
  rcases yS (g:=fun _=>[]) (s:=s) (s.size+2) x [] _ he (h he) (by omega) hA with⟨_,_,h3,_⟩|⟨h1,_⟩
  ·exact fun _=>h3
  ·exact fun e=>absurd e h1
 ·unfold Sc.d_;rw[j5 he];exact h
structure Kit(X:Nat)(s:ByteArray)(lv:Value):Prop where
 YX:∀W x,ky X W s lv x->∀c:Nat,c<256->Z4 68 #[Z8 X,.int .u8 c] W fun en w'=>en=.returned (.bool (x.is s c))/\SE X W s lv x w'
 must:∀W x,ky X W s lv x->Fits s x->∀t:ByteArray,0<t.size->t.size<=1024->Z4 69 #[Z8 X,.string t] W fun en w'=>en=.returned (.tuple #[])/\SE X W s lv (Sc.eZ s (LH t 0) x) w'
 De:∀W x,ky X W s lv x->Fits s x->∀t:ByteArray,t.size<=1024->Z4 70 #[Z8 X,.string t] W fun en w'=>en=.returned (.string (x.until s t).2)/\SE X W s lv (x.until s t).1 w'
 name:∀W x,ky X W s lv x->Fits s x->Z4 71 #[Z8 X] W fun en w'=>en=.returned (.string (x.name s).2)/\SE X W s lv (x.name s).1 w'
 fh:∀W x,ky X W s lv x->Fits s x->Z4 72 #[Z8 X] W fun en w'=>en=.returned (.int .i64 (x.skip s))/\SE X W s lv (x.fh s) w'
 iC:∀W x,ky X W s lv x->∀(t:ByteArray) (a:Int),x.more.length+t.size<=1125899906842624->Z4 36 #[Z8 X,.string t,.int .i64 a] W fun en w'=>en=.returned (.tuple #[])/\SE X W s lv (x.iC t a) w'
 d_:∀W x,ky X W s lv x->Fits s x->Z4 74 #[Z8 X] W fun en w'=>∃v,en=.returned v/\SE X W s lv (x.d_ s).1 w'/\w'.ownsRow 0 219 2 v (x.d_ s).2.length (eQ (x.d_ s).2)/\(∀k,v.ownBlock=some k->W.heap.size<=k)
theorem XV(X:Nat)(s:ByteArray)(lv:Value)(hs:s.size<=1099511627776):Kit X s lv where
 YX:=fun W x b c hc=>(AG b c hc).mono fun en w' ⟨h1,h2⟩=>⟨h1,SE.rR b h2⟩
 must:=fun W x b hf t h0 h1=>FC b (by omega) hf t h0 h1
 De:=fun W x b hf t h1=>Px b (by omega) hf t h1
 name:=fun W x b hf=>JY b (by omega) hf
 fh:=fun W x b hf=>AH b (by omega) hf
 iC:=fun W x b t a h=>AJ b t a h
 d_:=fun W x b hf=>Qw b (by omega) hs hf
theorem tO(h:RS F X w s lv cs x){w1:World}{y:Sc}(k:SE X w s lv y w1)(hl:gC x y)(t:Tok)(v:Value)(ha:w1.ownsRow 0 219 2 v t.d_.length (eQ t.d_))(hv:∀k,v.ownBlock=some k->w.heap.size<=k)(hn:y.l.length<=1099511627776):
  Z4 73 #[Z8 X,.agg #[.int .i64 t.kind,e8 t.name,v,e8 t.text,.int .i64 t.at_]] w1 fun en w'=>en=.returned (.tuple #[])/\qU F X w s (y.told t) w':=by
 obtain⟨VC,Gm,rs2,f2⟩:=h.EI k hl.1;obtain⟨ai,ac,rfl⟩:=eF ha;have hX:X<w.heap.size:=h.lt X h.has;refine(J0 rs2 t ai t.d_.length ac ha (fun k e=>⟨Or.inr ⟨hv k e,eW ha e⟩,fun e2=>by have:=hv k e;omega⟩) hn).mono ?_;rintro en w' ⟨rfl,r⟩;exact⟨rfl,qU.on ⟨VC,Gm,rs2,f2⟩ fun _ _ _=>r⟩
theorem MB{w1:World}{y:Sc}(h:qU F X w s y w1)(t:Tok)(hat:t.d_=[])(hn:y.l.length<=1099511627776):
  Z4 73 #[Z8 X,.agg #[.int .i64 t.kind,e8 t.name,.slice none 0 0,e8 t.text,.int .i64 t.at_]] w1 fun en w'=>en=.returned (.tuple #[])/\qU F X w s (y.told t) w':=by
 obtain⟨VC,Gm,rs2,f2⟩:=h;have ha:w1.ownsRow 0 219 2 (.slice none 0 0) t.d_.length (eQ t.d_):=by rw[hat];exact bp _ _ _ _
 refine(J0 rs2 t none 0 0 ha (by intro k e;simp[Value.ownBlock]at e) hn).mono ?_;rintro en w' ⟨rfl,r⟩;exact⟨rfl,qU.on ⟨VC,Gm,rs2,f2⟩ fun _ _ _=>r⟩
theorem sf(b:ByteArray):e8 b.data.toList=.string b:=by unfold e8;simp
end
end K
end Go.Proofs.YthlcmljckpdheaaGreatDoor
