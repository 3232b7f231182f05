import Derived.Test.YtjecakcpcnmieaaGreatDoorHA
import Derived.Test.YtjecakcpcnmieaaGreatDoorHap
import Derived.Test.YtjecakcpcnmieaaGreatDoorHas
set_option linter.unusedVariables false
set_option linter.unusedSimpArgs false
set_option maxHeartbeats 32000000
set_option maxRecDepth 100000
namespace Go.Proofs.YtjecakcpcnmieaaGreatDoor
namespace K
open Go.RowKit Go.Maps Go.Lib Tryz
section
variable{X:Nat}{w w' w'' wr:World}{s t:ByteArray}{lv:Value}{x x':Sc}
structure AI(X:Nat)(w:World)(s:ByteArray)(lv:Value)(y:Sc×jY)(wr:World)(x:Sc)(l:jY)(v:Value)(f:Nat):Prop where
 se:SE X w s lv x wr
 row:wr.ownsRow 0 79 2 v l.length (eG l)
 own:∀k,v.ownBlock=some k->w.heap.size<=k
 le:x.err=0->x.i<=s.size
 eq:fe s f x l=y
 fuel:x.err=0->s.size+1<x.i+f
 len:l.length<=s.size+1/\(x.err=0->l.length<=x.i)
theorem iF{l:jY}{v:Value}{w1 w2:World}(h:w1.ownsRow 0 79 2 v l.length (eG l))(hX:v.ownBlock≠some X)(b:Wj X w1 w2):w2.ownsRow 0 79 2 v l.length (eG l):=
 eI h fun k e=>b.block k (eU h e) (fun e2=>hX (by rw[e,e2]))
theorem G8{l:jY}{g cap:Nat}(h:w.ownsRow 0 79 2 (Z9 g l.length cap) l.length (eG l))(i:Nat)(hi:i<l.length):
  w.cell? ⟨g,i*2,none⟩=some (eZ (l[i]).1)/\w.cell? ⟨g,i*2+1,none⟩=some (eZ (l[i]).2):=by
 have hc:=h.cells (g:=g) rfl;have key:∀(l:jY) (i:Nat) (hi:i<l.length),(eG l)[i*2]?=some (eZ (l[i]).1)/\(eG l)[i*2+1]?=some (eZ (l[i]).2):=by
  intro l;induction l with
  |nil=>intro i hi;cases hi
  |cons x l ih=>
   intro i hi;cases i with
   |zero=>exact⟨rfl,rfl⟩
   |succ i=>
    have:=ih i (by simpa using hi);have e1:(i+1)*2=i*2+2:=by omega
    rw[e1];simpa [eG]using this
 obtain⟨k1,k2⟩:=key l i hi;have h1:=hc _ _ k1;have h2:=hc _ _ k2;rw[Addr.add_mid,ay]at h1 h2;exact⟨h1,h2⟩
theorem S9{l:jY}{ai:Option Addr}{ac:Nat}(h:w.ownsRow 0 79 2 (.slice ai l.length ac) l.length (eG l))(i:Nat)(hi:i<l.length):
  ∃g,ai=some ⟨g,0,none⟩/\w.cell? ⟨g,i*2,none⟩=some (.string ⟨(l[i]).1.toArray⟩):=by
 have h':=h;rcases h'.2 with⟨e,e0⟩|⟨ga,ca',cur,e,_⟩
 ·omega
 cases e;exact⟨ga,rfl,(G8 h i hi).1⟩
theorem S_(h:kQ X w s lv x)(he:x.err≠0)(t:ByteArray)(ht:0<t.size):Z4 67 #[Z8 X,.string t] w fun en w'=>en=.returned (.tuple #[])/\SE X w s lv x w':=by
 have c5:w.cell? ⟨X,5,none⟩=some (.int .i64 x.err):=h.cell 5 rfl;have e0:(x.err==0)=false:=by simpa using he
 have hd:decide ((0:Int)<t.size)=true:=by simp;omega
 have H:=a_ (SE.refl h);clear h he;go_enter func67,ntmps67;go_wp2_with fail;refine dI 1 ?_;rw[ej];go_wp2_with fail
 go_end0
 exact⟨rfl,H.out⟩
theorem G9(h:kQ X w s lv x)(hs:s.size<=1125899906842624)(hi:x.err=0->x.i<=s.size)(t:ByteArray)(h0:0<t.size)(ht:t.size<=1024):Z4 67 #[Z8 X,.string t] w fun en w'=>en=.returned (.tuple #[])/\SE X w s lv (Sc.eW s (NG t 0) x) w':=by
 by_cases he:x.err=0
 ·exact Wl h hs (hi he) t (by omega)
 ·rw[je s _ he];exact S_ h he t h0
theorem vP{ops:Array Oper}{rest:List Oper}{o:Oper}{a:Act}{w:World}{Q:Exit->Act->World->Prop}(hgd:o.guard=none)(s x:Operand)(ho:o.op=Op.call {callee:=Callee.builtin Builtin.append,args:=#[s,x],argTypes:=#[33,33]})(hty:o.type=33)
  (v1 v2:Value) (hs:a.eval s=v1) (hx:a.eval x=v2) {v':Value} {w':World} (hr:(Builtin.append_ #[33,33] 33 #[v1,v2]).run prog w=.ok v' w') (h:wpList prog ops Q rest (a.put o.dst v') w'):wpList prog ops Q (o::rest) a w:=by
 refine wpList_plain hgd fun K hK=>?_;unfold Oper.wp execOp;simp only[ho,hty,resolve,invoke,builtin,dW,Sem.run_pure,dL,dT,bB,bZ,hs,hx,hr];exact hK _ _ h
theorem Ta(x:Sc)(s:ByteArray):(x.eY s).err=x.err:=rfl
theorem G_(h:x.err=0->x.i<=s.size)(l:jY):(x.gW s l).err=0->(x.gW s l).i<=s.size:=by
 intro he;have h0:x.err=0:=by
  by_cases e:x.err=0
  ·exact e
  ·exfalso;have hn:x.name s=(x,⟨#[]⟩):=by unfold Sc.name;rw[if_neg e]
   have:x.gW s l=x:=by
    unfold Sc.gW;rw[hn];simp only;split
    ·unfold Sc.fail;rw[if_neg e]
    ·rfl
   rw[this]at he;exact e he
 by_cases hb:Ch.fw (cur s x.i)=true
 ·obtain⟨n1,n2⟩:=lY h0 hb;unfold Sc.gW;rw[n1];have hle:=oZ (s:=s) (h h0);split
  ·rw[zC];exact hle
  ·exact hle
 ·exfalso;have hn:=o0 (s:=s) h0 hb;have nZ:=fx x s h0;have:x.gW s l=x.wrong s:=by
   unfold Sc.gW;rw[hn];simp only;split
   ·unfold Sc.fail;rw[if_neg nZ]
   ·rfl
  rw[this]at he;exact nZ he
theorem og(h:x.err=0->x.i<=s.size):(x.eY s).err=0->(x.eY s).i<=s.size:=by
 intro he;rw[Ta]at he;rw[lx he];exact zQ (h he)
theorem Mf(h:x.err=0->x.i<=s.size){c:UInt8}(hc:32<=c.toNat/\c.toNat<128):(Sc.eW s [c] x).err=0->(Sc.eW s [c] x).i<=s.size:=by
 by_cases he:x.err=0
 ·rw[rK he hc];split
  ·rename_i hq;have:=fl (s:=s) (i:=x.i) (by omega);intro _;show x.i+1<=_;omega
  ·intro e;exact absurd e (fx x s he)
 ·rw[je s _ he];exact h
theorem Tb(h:x.err=0->x.i<=s.size)(l:jY):(x.equal s l).err=0->(x.equal s l).i<=s.size:=
 og (Mf (og (G_ h l)) (by decide))
def Sc.tw(x:Sc)(s:ByteArray)(l:jY)(k:Nat):Sc:=x.gW s (l.take k)
theorem WX(x:Sc)(s:ByteArray)(l:jY):x.tw s l 0=(x.name s).1:=by unfold Sc.tw Sc.gW;simp
theorem aag(x:Sc)(s:ByteArray)(l:jY):x.tw s l l.length=x.gW s l:=by unfold Sc.tw;rw[bt]
theorem OA(x:Sc)(e a:Int)(he:e≠0):(x.fail e a).fail e a=x.fail e a:=by
 unfold Sc.fail;by_cases h:x.err=0
 ·rw[if_pos h,if_neg (by simpa using he)]
 ·rw[if_neg h,if_neg h]
theorem any_succ(l:jY)(k:Nat)(hk:k<l.length)(p:List UInt8×List UInt8->Bool):(l.take (k+1)).any p=((l.take k).any p||p l[k]):=by rw[aN hk,dF];simp
theorem WY(x:Sc)(s:ByteArray)(l:jY)(k:Nat)(hk:k<l.length)(h:((l[k]).1==(x.name s).2.data.toList)=false):x.tw s l (k+1)=x.tw s l k:=by
 unfold Sc.tw Sc.gW;rw[any_succ l k hk,h,dh]
theorem WZ(x:Sc)(s:ByteArray)(l:jY)(k:Nat)(hk:k<l.length)(h:((l[k]).1==(x.name s).2.data.toList)=true):x.tw s l (k+1)=(x.tw s l k).fail 5 x.i:=by
 unfold Sc.tw Sc.gW;rw[any_succ l k hk,h,dY,if_pos rfl];split
 ·rw[OA _ _ _ (by decide)]
 ·rfl
end
section
variable{X:Nat}{w w' w'' wr:World}{s t:ByteArray}{lv:Value}{x x':Sc}
theorem Ko(w:World)(a b:List UInt8):∀j u,[eZ a,eZ b][j]?=some u->(w.alloc (.cells #[eZ a,eZ b] 79)).cell? ((⟨w.heap.size,0,none⟩:Addr).add j)=some u:=by
 intro j u hj;have hb:(w.alloc (.cells #[eZ a,eZ b] 79)).heap[w.heap.size]?=some (.cells #[eZ a,eZ b] 79):=eL _ _
 match j,hj with
 |0,hj=>cases hj;exact cell_of hb rfl
 |1,hj=>cases hj;exact cell_of hb rfl
theorem OB(W:World){ai:Option Addr}{ac:Nat}{l:jY}(row:W.ownsRow 0 79 2 (.slice ai l.length ac) l.length (eG l))(a b:List UInt8)(hl:l.length<=1099511627778):
  ∃v' W',(Builtin.append_ #[33,33] 33 #[.slice ai l.length ac,.slice (some ⟨W.heap.size,0,none⟩) 1 1]).run prog (W.alloc (.cells #[eZ a,eZ b] 79))=.ok v' W'/\W'.ownsRow 0 79 2 v' (l++[(a,b)]).length (eG (l++[(a,b)]))/\(W.alloc (.cells #[eZ a,eZ b] 79)).grownBy W' (Value.slice ai l.length ac).ownBlock/\(v'.ownBlock=(Value.slice ai l.length ac).ownBlock\/v'.ownBlock=some (W.heap.size+1)):=by
 obtain⟨i0,hi,hz0,hz1,hz2⟩:=bk ZJ;obtain⟨v',W',hrun,r1,r2,_,r4⟩:=dm (P:=prog) (W.alloc (.cells #[eZ a,eZ b] 79)) 0 33 33 79 i0 _ 2 32 underlying33 hi hz0 hz1 hz2 rfl (by decide) (.slice ai l.length ac) l.length (eG l) (row.alloc _) ⟨W.heap.size,0,none⟩ 1 1 [eZ a,eZ b] rfl (Ko W a b) (F_ a b) (by unfold maxLen;omega) (by omega) (ax _);refine⟨v',W',hrun,?_,r2,by simpa using r4⟩;have e1:(l++[(a,b)]).length=l.length+1:=by simp
 have e2:eG (l++[(a,b)])=eG l++[eZ a,eZ b]:=by simp[eG]
 rw[e1,e2];exact r1
theorem W_{l:jY}(he:x.err=0)(hi:x.i<=s.size)(hbl:¬Tk.blank (cur s x.i)=true)(CA:x.is s 47=false)(P_:x.is s 62=false):(x.attr s l).1.err=0->x.i<(x.attr s l).1.i/\(x.attr s l).1.i<=s.size:=by
 have ww:¬cur s x.i=47:=fun e=>by rw[(jT he (c:=47) (by omega)).2 e]at CA;cases CA
 have AW:¬cur s x.i=62:=fun e=>by rw[(jT he (c:=62) (by omega)).2 e]at P_;cases P_
 have hA:Cj x ⟨fun j=>if j=.text then x.more else [],fun _=>x.fV,0,l,l.map Prod.fst,0,x.l⟩ l [] 0:=⟨⟨rfl,rfl,fun _=>rfl⟩,rfl,rfl,rfl,rfl,rfl⟩
 rcases wV (g:=fun _=>[]) he hi hA hbl ww AW with⟨_,h2,h3,_⟩|⟨h1,_⟩
 ·exact fun _=>⟨h2,h3⟩
 ·exact fun e=>absurd e h1
theorem Xa{w9 W':World}{o:Obj}{ro:Option Nat}(h:SE X w s lv x w9)(g:(w9.alloc o).grownBy W' ro)(hlt:X<w.heap.size)(hr:∀k,ro=some k->w.heap.size<=k):SE X w s lv x W':=by
 have hz:=h.2.size;have hb:∀k,k<w.heap.size->W'.heap[k]?=w9.heap[k]?:=fun k hk=>by
  rw[g.block k (by simp;omega) (fun e=>by have:=hr k e.symm;omega)];exact ap _ _ k (by omega)
 refine⟨(hb X hlt).trans h.1,⟨g.os.trans h.2.os,g.tape.trans h.2.tape,g.output.trans h.2.output,?_,fun k hk hX=>(hb k hk).trans (h.2.block k hk hX)⟩⟩;have:=g.size;simp at this;omega
theorem AI.next{y:Sc×jY}{l:jY}{ai:Option Addr}{ac f:Nat}{B:Sc}{w9 W':World}{o:Obj}{v':Value}(hlt:X<w.heap.size)(U:AI X w s lv y wr x l (.slice ai l.length ac) (f+1))(he:x.err=0)(hB:x.eY s=B)(hBi:x.i<B.i)
  (CA:B.is s 47=false) (P_:B.is s 62=false) (heq:fe s f (B.attr s l).1 (l++[(B.attr s l).2])=y) (R9:SE X w s lv (B.attr s l).1 w9) (row:W'.ownsRow 0 79 2 v' (l++[(B.attr s l).2]).length (eG (l++[(B.attr s l).2])))
  (g:(w9.alloc o).grownBy W' (Value.slice ai l.length ac).ownBlock) (hat:v'.ownBlock=(Value.slice ai l.length ac).ownBlock\/v'.ownBlock=some (w9.heap.size+1)):
  AI X w s lv y W' (B.attr s l).1 (l++[(B.attr s l).2]) v' f/\left X s.size W'<left X s.size wr:=by
 have hle:=U.le he;have NI:=U.fuel he;have VO:=U.len.2 he;have Tc:B.err=0:=by rw[<-hB];exact he
 have hBl:B.i<=s.size:=by rw[<-hB]at Tc ⊢;exact og U.le Tc
 have hbl:¬Tk.blank (cur s B.i)=true:=by rw[<-hB,lx he];exact qi s x.i
 have ha:=W_ (l:=l) Tc hBl hbl CA P_;have se:=Xa R9 g hlt U.own;have hz:=R9.2.size;have hlen:(l++[(B.attr s l).2]).length=l.length+1:=by simp
 refine⟨⟨se,row,?_,fun e=>(ha e).2,heq,fun e=>by have:=ha e;omega,⟨by omega,fun e=>by have:=ha e;omega⟩⟩,?_⟩
 ·intro k e;rcases hat with h|h
  ·exact U.own k (h.symm.trans e)
  ·rw[h]at e;cases e;omega
 ·rw[left_eq se.1 s.size,left_eq U.se.1 s.size,if_pos he];split
  ·rename_i e;have:=ha e;omega
  ·omega
theorem Td(h:kQ X w s lv x)(hs:s.size<=1125899906842624)(hsz:s.size<=1099511627776)(hi:x.err=0->x.i<=s.size):
  Z4 72 #[Z8 X] w fun en w'=>∃v,en=.returned v/\SE X w s lv (x.b_ s).1 w'/\w'.ownsRow 0 79 2 v (x.b_ s).2.length (eG (x.b_ s).2)/\(∀k,v.ownBlock=some k->w.heap.size<=k):=by
 have hlt:=h.lt;have h0:AI X w s lv (x.b_ s) w x [] (.slice none 0 0) (s.size+2):=⟨SE.refl h,bG _ _ _ _,by intro k e;simp[Value.ownBlock]at e,hi,rfl,fun _=>by omega,⟨by simp,fun _=>by simp⟩⟩
 generalize x.b_ s=y at*
 have H0:=a_ h0;have hbl:=fun W x' (b:kQ X W s lv x') (hi:x'.err=0->x'.i<=s.size)=>B0 b hs hi;have Yv:=fun W x' (b:kQ X W s lv x') c (hc:c<256)=>BZ b c hc;have qC:=fun W x' (b:kQ X W s lv x') (hi:x'.err=0->x'.i<=s.size)=>L2 b hs hi;have AX:=fun W x' (b:kQ X W s lv x') (e a:Int)=>sI b e a;have N7:=fun W x' (b:kQ X W s lv x') (hi:x'.err=0->x'.i<=s.size)=>G9 b hs hi ⟨#[61]⟩ (by decide) (by decide);have hvl:=fun W x' (b:kQ X W s lv x') (hi:x'.i<=s.size)=>Sb b hs hi;have Kp:=a_ hbl;have HIS:=a_ Yv;have Ff:=a_ qC;have HFL:=a_ AX;have HMU:=a_ N7;have HVL:=a_ hvl;clear h h0 hi hbl Yv qC AX N7 hvl;go_enter func72,ntmps72;go_wp2_with fail;go_loopw [3,4,5,6,7,8] (fun v _ _ _ _ _ wr=>∃x' l' f,AI X w s lv y wr x' l' v f) (fun _ _ _ _ _ _ wr=>left X s.size wr)
 case atStart=>exact⟨_,_,_,H0.out⟩
 case round=>
  obtain⟨x',l',f,u⟩:=hrel;obtain⟨ai,ac,rfl⟩:=eE u.row;have nG:=left_eq u.se.1 s.size;have hbl:=Kp.out wr x' u.se.1 u.le;by_cases hsk:x'.skip s=0
  ·rw[hsk]at hbl;have hy:y=(x'.eY s,l'):=by
    have:=u.eq;cases f with
    |zero=>
     by_cases he:x'.err=0
     ·have:=u.fuel he;have:=u.le he;omega
     ·rw[kx he]at this;rw[ku he];exact this.symm
    |succ f=>simp only[fe]at this;rw[if_pos (Or.inl hsk)]at this;exact this.symm
   subst hy;have U:=a_ u;clear u nG hsk;go_wp2_with fail;refine hbl.mono ?_;rintro e w1 ⟨rfl,r1⟩;have R1:=a_ r1;clear r1;go_wp2;go_ret;refine⟨_,rfl,U.out.se.on R1.out,iF U.out.row ?_ R1.out.2,U.out.own⟩;intro e;have:=U.out.own X e;omega
  ·have he:x'.err=0:=by
    by_cases he:x'.err=0
    ·exact he
    ·exact absurd (by unfold Sc.skip;rw[if_neg he]) hsk
   have xv:((x'.skip s:Int)==0)=false:=by simpa using hsk
   have hB:=og u.le;have Tc:(x'.eY s).err=0:=he;have hBi:x'.i<(x'.eY s).i:=by show x'.i<x'.i+x'.skip s;omega
   have hBl:=hB Tc;have hb0:((x'.eY s).err !=0)=false:=by rw[Tc];rfl
   have NI:=u.fuel he;have Fu:=u.le he;rw[if_pos he]at nG;obtain⟨f,rfl⟩:∃g,f=g+1:=⟨f-1,by omega⟩
   have heq:=u.eq;simp only[fe]at heq;have hlen:=u.len.2 he;have hX:(Value.slice ai (List.length l') ac).ownBlock≠some X:=by
    intro e;have:=u.own X e;omega
   have U:=a_ u;clear u;generalize EV:x'.eY s=B at*
   have i47:=fun W (b:kQ X W s lv B)=>HIS.out W B b 47 (by decide);have i62:=fun W (b:kQ X W s lv B)=>HIS.out W B b 62 (by decide);cases CA:B.is s 47
   ·cases P_:B.is s 62
    ·rw[if_neg (by rw[CA,P_];simp[hsk,Tc])]at heq;rw[CA]at i47;rw[P_]at i62;have EX:=a_ heq;have HE:=a_ he;have HBE:=a_ Tc;have HBN:=a_ EV;have I1:=a_ i47;have I2:=a_ i62;have adi:=a_ nG;have Q1:=a_ CA;have Q2:=a_ P_;clear heq he Tc EV i47 i62 hsk CA P_ nG;go_wp2_with fail;refine hbl.mono ?_;rintro e w1 ⟨rfl,r1⟩;have R1:=a_ (U.out.se.on r1);have Ha:=a_ (iF U.out.row hX r1.2);have c15:w1.cell? ⟨X,5,none⟩=some (.int .i64 B.err):=r1.1.cell 5 rfl;clear r1 hbl;go_wp2_with fail;refine(I1.out _ R1.out.1).mono ?_;rintro e w2 ⟨rfl,b2⟩;have R2:=a_ (R1.out.below hlt b2);have Kq:=a_ (eI Ha.out fun k e=>b2.block k (eU Ha.out e));clear b2;go_wp2_with fail;refine(I2.out _ R2.out.1).mono ?_;rintro e w3 ⟨rfl,b3⟩;have R3:=a_ (R2.out.below hlt b3);have aah:=a_ (eI Kq.out fun k e=>b3.block k (eU Kq.out e));have c31:w3.cell? ⟨X,1,none⟩=some (.int .i64 B.i):=R3.out.1.cell 1 rfl;clear b3 I1 I2;go_wp2_with fail;refine(Ff.out _ B R3.out.1 (fun _=>hBl)).mono ?_;rintro e w4 ⟨rfl,r4⟩;have R4:=a_ (R3.out.on r4);have acS:=a_ (iF aah.out hX r4.2);clear r4;go_wp2_with fail;go_loopw [7] (fun iv wr2=>∃k:Nat,iv=.int .i64 k/\k<=l'.length/\SE X w s lv (B.tw s l' k) wr2/\wr2.ownsRow 0 79 2 (.slice ai l'.length ac) l'.length (eG l')) (fun iv _=>l'.length-(RowKit.intOf iv).toNat)
     case atStart=>exact⟨0,rfl,ax _,by rw[WX];exact R4.out,acS.out⟩
     case round=>
      obtain⟨k,rfl,hk,Xb,uH⟩:=hrel;by_cases Kr:k<l'.length
      ·have hdec:decide ((k:Int)<(l'.length:Int))=true:=by simp;omega
       have hwk:IntKind.i64.wrap ((k:Int)+1)=(k:Int)+1:=by rw[aD];omega
       obtain⟨g,hai,cg⟩:=S9 uH k Kr;have C6:(B.name s).2.toList=(B.name s).2.data.toList:=Lib.toList_data _;have qU:(⟨(l'[k]).1.toArray⟩:ByteArray).toList=(l'[k]).1:=by rw[Lib.toList_data]
       cases hq:((l'[k]).1==(B.name s).2.data.toList)
       ·have IV:=WY B s l' k Kr hq;have SE5:=a_ Xb;have Es:=a_ uH;have hq2:((⟨(l'[k]).1.toArray⟩:ByteArray).toList==(B.name s).2.toList)=false:=by rw[C6,qU];exact hq
        clear Xb uH hq C6 qU;generalize (⟨(l'[k]).1.toArray⟩:ByteArray)=nk at*
        generalize (B.name s).2=NB at*
        subst hai;go_wp2_with fail;refine⟨⟨k+1,by simp,by omega,by rw[IV];exact SE5.out,Es.out⟩,by simp only[RowKit.intOf];omega⟩
       ·have IV:=WZ B s l' k Kr hq;have AX:=HFL.out _ _ Xb.1 5 B.i;have SE5:=a_ Xb;have Es:=a_ uH;have hq2:((⟨(l'[k]).1.toArray⟩:ByteArray).toList==(B.name s).2.toList)=true:=by rw[C6,qU];exact hq
        clear Xb uH hq C6 qU;generalize (⟨(l'[k]).1.toArray⟩:ByteArray)=nk at*
        generalize (B.name s).2=NB at*
        subst hai;go_wp2_with fail;refine AX.mono ?_;rintro e w6 ⟨rfl,r6⟩;have R6:=a_ r6;clear r6 AX;go_wp2;refine⟨⟨k+1,by simp,by omega,by rw[IV];exact SE5.out.on R6.out,iF Es.out hX R6.out.2⟩,by simp only[RowKit.intOf];omega⟩
      ·have Y_:k=l'.length:=by omega
       subst Y_;rw[aag]at Xb;have htl:=G_ hB l';have Te:=Kp.out _ _ Xb.1 htl;have SE5:=a_ Xb;have Es:=a_ uH;have hdec:decide ((l'.length:Int)<(l'.length:Int))=false:=by simp
       clear Xb uH;have hel:=Tb hB l';have aai:=og htl;have abv:=Mf aai (c:=61) (by decide);go_wp2_with fail;refine Te.mono ?_;rintro e w6 ⟨rfl,r6⟩;have R6:=a_ (SE5.out.on r6);have Tf:=a_ (iF Es.out hX r6.2);clear r6 Te;go_wp2_with fail;refine(HMU.out _ _ R6.out.1 aai).mono ?_;rintro e w7 ⟨rfl,r7⟩;have R7:=a_ (R6.out.on r7);have Tg:=a_ (iF Tf.out hX r7.2);clear r7;go_wp2_with fail;refine(Kp.out _ _ R7.out.1 abv).mono ?_;rintro e w8 ⟨rfl,r8⟩;have R8:Hid (SE X w s lv (B.equal s l') w8):=a_ (R7.out.on r8);have abw:=a_ (iF Tg.out hX r8.2);have c85:w8.cell? ⟨X,5,none⟩=some (.int .i64 (B.equal s l').err):=R8.out.1.cell 5 rfl;clear r8 aai abv htl;have zG:=fun(W:World) (row:W.ownsRow 0 79 2 (.slice ai l'.length ac) l'.length (eG l')) (a b:List UInt8)=>OB W row a b (by omega);have abx:=a_ zG;clear zG;by_cases Xc:(B.equal s l').err=0
       ·have e80:((B.equal s l').err==0)=true:=by rw[Xc];rfl
        have hat:B.attr s l'=(((B.equal s l').value s).1,((B.name s).2.data.toList,((B.equal s l').value s).2)):=by unfold Sc.attr;rw[if_pos Xc]
        have hvl:=HVL.out _ _ R8.out.1 (hel Xc);have HEL:=a_ (hel Xc);have HEE:=a_ Xc;have tY:=a_ hat;clear Xc hat hel;go_wp2_with fail;refine hvl.mono ?_;rintro e w9 ⟨rfl,r9⟩;have R9:=a_ (R8.out.on r9);have acT:=a_ (iF abw.out hX r9.2);clear r9 hvl;obtain⟨v',W',hrun,Hb,gr,Ti⟩:=abx.out w9 acT.out (B.name s).2.data.toList ((B.equal s l').value s).2;have hN:eZ (B.name s).2.data.toList=.string (B.name s).2:=by unfold eZ;simp
        rw[hN]at hrun gr;unfold eZ at hrun gr;have Tj:=a_ Hb;have GR:=a_ gr;have aaj:=a_ Ti;clear Hb gr Ti;go_wp2_with(at_builtin;refine vP rfl (.tmp 64) (.tmp 68) rfl rfl _ _ rfl rfl hrun ?_);have kI:=AI.next (o:=.cells #[.string (B.name s).2,.string ⟨((B.equal s l').value s).2.toArray⟩] 79) (w9:=w9) (W':=W') (v':=v') hlt U.out HE.out HBN.out hBi Q1.out Q2.out EX.out (by rw[tY.out];exact R9.out) (by rw[tY.out];exact Tj.out) GR.out aaj.out;exact⟨⟨_,_,_,kI.1⟩,kI.2⟩
       ·have e80:((B.equal s l').err==0)=false:=by simpa using Xc
        have hat:B.attr s l'=(B.equal s l',((B.name s).2.data.toList,[])):=by unfold Sc.attr;rw[if_neg Xc]
        have tY:=a_ hat;clear Xc hat hel;obtain⟨v',W',hrun,Hb,gr,Ti⟩:=abx.out w8 abw.out (B.name s).2.data.toList [];have hN:eZ (B.name s).2.data.toList=.string (B.name s).2:=by unfold eZ;simp
        rw[hN]at hrun gr;unfold eZ at hrun gr;have Tj:=a_ Hb;have GR:=a_ gr;have aaj:=a_ Ti;clear Hb gr Ti;go_wp2_with(at_builtin;refine vP rfl (.tmp 64) (.tmp 68) rfl rfl _ _ rfl rfl hrun ?_);have kI:=AI.next (o:=.cells #[.string (B.name s).2,.string ⟨([]:List UInt8).toArray⟩] 79) (w9:=w8) (W':=W') (v':=v') hlt U.out HE.out HBN.out hBi Q1.out Q2.out EX.out (by rw[tY.out];exact R8.out) (by rw[tY.out];exact Tj.out) GR.out aaj.out;exact⟨⟨_,_,_,kI.1⟩,kI.2⟩
    ·rw[if_pos (Or.inr (Or.inr (Or.inr P_)))]at heq;rw[CA]at i47;rw[P_]at i62;have I1:=a_ i47;have I2:=a_ i62;subst heq;clear he Tc EV i47 i62 hsk CA P_ nG;go_wp2_with fail;refine hbl.mono ?_;rintro e w1 ⟨rfl,r1⟩;have R1:=a_ (U.out.se.on r1);have Ha:=a_ (iF U.out.row hX r1.2);have c15:w1.cell? ⟨X,5,none⟩=some (.int .i64 B.err):=r1.1.cell 5 rfl;clear r1 hbl;go_wp2_with fail;refine(I1.out _ R1.out.1).mono ?_;rintro e w2 ⟨rfl,b2⟩;have R2:=a_ (R1.out.below hlt b2);have Kq:=a_ (eI Ha.out fun k e=>b2.block k (eU Ha.out e));clear b2;go_wp2_with fail;refine(I2.out _ R2.out.1).mono ?_;rintro e w3 ⟨rfl,b3⟩;have R3:=a_ (R2.out.below hlt b3);have aah:=a_ (eI Kq.out fun k e=>b3.block k (eU Kq.out e));clear b3 I1 I2;go_wp2;go_ret;exact⟨_,rfl,R3.out,aah.out,U.out.own⟩
   ·rw[if_pos (Or.inr (Or.inr (Or.inl CA)))]at heq;rw[CA]at i47;have I1:=a_ i47;subst heq;clear he Tc EV i47 i62 hsk CA nG;go_wp2_with fail;refine hbl.mono ?_;rintro e w1 ⟨rfl,r1⟩;have R1:=a_ (U.out.se.on r1);have Ha:=a_ (iF U.out.row hX r1.2);have c15:w1.cell? ⟨X,5,none⟩=some (.int .i64 B.err):=r1.1.cell 5 rfl;clear r1 hbl;go_wp2_with fail;refine(I1.out _ R1.out.1).mono ?_;rintro e w2 ⟨rfl,b2⟩;have R2:=a_ (R1.out.below hlt b2);have Kq:=a_ (eI Ha.out fun k e=>b2.block k (eU Ha.out e));clear b2;go_wp2;go_ret;exact⟨_,rfl,R2.out,Kq.out,U.out.own⟩
end
section
variable{X:Nat}{w w' w'' wr:World}{s t:ByteArray}{lv:Value}{x x':Sc}{F:Nat->Prop}{cs:List Value}
def gH(x y:Sc):Prop:=y.l=x.l/\y.more=x.more/\y.fV=x.fV
theorem gH.refl(x:Sc):gH x x:=⟨rfl,rfl,rfl⟩
theorem gH.trans{x y z:Sc}(h:gH x y)(k:gH y z):gH x z:=⟨k.1.trans h.1,k.2.1.trans h.2.1,k.2.2.trans h.2.2⟩
theorem Ks(x:Sc)(e a:Int):gH x (x.fail e a):=by unfold Sc.fail;split<;>exact⟨rfl,rfl,rfl⟩
theorem vQ(x:Sc)(s:ByteArray):gH x (x.wrong s):=by
 unfold Sc.wrong;repeat' split
 all_goals exact Ks _ _ _
theorem nQ(x:Sc)(j:Nat):gH x {x with i:=j}:=⟨rfl,rfl,rfl⟩
theorem np(x:Sc)(s:ByteArray):gH x (x.eY s):=⟨rfl,rfl,rfl⟩
theorem l6(x:Sc)(s:ByteArray):gH x (x.name s).1:=by
 unfold Sc.name;repeat' split
 all_goals first|exact vQ _ _|exact⟨rfl,rfl,rfl⟩
theorem gQ(s:ByteArray):∀(l:List UInt8) (x:Sc),gH x (Sc.eW s l x):=by
 intro l;induction l with
 |nil=>intro x;exact gH.refl x
 |cons c l ih=>
  intro x;simp only[Sc.eW]
  repeat' split
  ·exact(nQ x _).trans (ih _)
  ·exact(vQ x s).trans (ih _)
  ·exact gH.refl x
theorem Tl(s t:ByteArray)(fV:Nat):∀(f:Nat) (x:Sc),gH x (gw s t fV f x).1:=by
 intro f;induction f with
 |zero=>intro x;exact gH.refl x
 |succ f ih=>
  intro x;simp only[gw]
  repeat' split
  ·exact nQ x _
  ·exact(vQ x s).trans (ih _)
  ·exact(nQ x _).trans (ih _)
  ·exact gH.refl x
theorem lj(x:Sc)(s t:ByteArray):gH x (x.until s t).1:=Tl s t x.i _ x
theorem xb(x:Sc)(s:ByteArray)(j6:Nat):gH x (x.char s j6).1:=by
 unfold Sc.char;repeat' split
 all_goals first|exact vQ _ _|exact Ks _ _ _|exact⟨rfl,rfl,rfl⟩
theorem aak(s:ByteArray)(q:Nat):∀(f:Nat) (x:Sc) (t:List UInt8),gH x (jb s q f x t).1:=by
 intro f;induction f with
 |zero=>intro x t;exact gH.refl x
 |succ f ih=>
  intro x t;simp only[jb];split
  ·exact(xb x s q).trans (ih _ _)
  ·exact gH.refl x
theorem Xd(x:Sc)(s:ByteArray):gH x (x.value s).1:=by
 unfold Sc.value;split
 ·exact((nQ x _).trans (aak s _ _ _ _)).trans (nQ _ _)
 ·exact vQ x s
theorem Xe(x:Sc)(s:ByteArray)(l:jY):gH x (x.gW s l):=by
 unfold Sc.gW;split
 ·exact(l6 x s).trans (Ks _ _ _)
 ·exact l6 x s
theorem Mg(x:Sc)(s:ByteArray)(l:jY):gH x (x.equal s l):=(((Xe x s l).trans (np _ s)).trans (gQ s _ _)).trans (np _ s)
theorem aal(x:Sc)(s:ByteArray)(l:jY):gH x (x.attr s l).1:=by
 unfold Sc.attr;split
 ·exact(Mg x s l).trans (Xd _ s)
 ·exact Mg x s l
theorem Tm(s:ByteArray):∀(f:Nat) (x:Sc) (l:jY),gH x (fe s f x l).1:=by
 intro f;induction f with
 |zero=>intro x l;exact gH.refl x
 |succ f ih=>
  intro x l;simp only[fe];split
  ·exact np x s
  ·exact((np x s).trans (aal _ s l)).trans (ih _ _)
theorem yG(x:Sc)(s:ByteArray):gH x (x.b_ s).1:=Tm s _ x []
def Fits(s:ByteArray)(x:Sc):Prop:=x.err=0->x.i<=s.size
theorem rQ(h:Fits s x):Fits s (x.name s).1:=by
 intro he;by_cases h0:x.err=0
 ·by_cases hb:Ch.fw (cur s x.i)=true
  ·rw[(lY h0 hb).1];exact oZ (h h0)
  ·rw[o0 (s:=s) h0 hb]at he;exact absurd he (fx x s h0)
 ·have hn:x.name s=(x,⟨#[]⟩):=by unfold Sc.name;rw[if_neg h0]
  rw[hn]at he;exact absurd he h0
theorem oL(h:Fits s x):Fits s (x.eY s):=og h
theorem sW(s:ByteArray):∀(l:List UInt8) (x:Sc),Fits s x->Fits s (Sc.eW s l x):=by
 intro l;induction l with
 |nil=>intro x h;exact h
 |cons c l ih=>
  intro x h;simp only[Sc.eW]
  repeat' split
  ·rename_i h1 h2;refine ih _ fun _=>?_;have:=is_lt h2;show x.i+1<=_;omega
  ·rename_i h1 h2;exact ih _ fun e=>absurd e (fx x s h1)
  ·exact h
theorem Mh(t:ByteArray)(hz:t.size≠0)(h:Fits s x):Fits s (x.until s t).1:=by
 have key:∀(f:Nat) (x:Sc) (fV:Nat),Fits s x->Fits s (gw s t fV f x).1:=by
  intro f;induction f with
  |zero=>intro x fV h;exact h
  |succ f ih=>
   intro x fV h;by_cases he:x.err=0
   ·rw[my _ _ _ _ _ he hz];split
    ·rename_i hh;intro _;have:=Ch.rk hh (by have:t.data.toList.length=t.size:=(by simp);omega)
     have h2:t.data.toList.length=t.size:=by simp
     show x.i+t.size<=_;omega
    ·split
     ·rename_i hc;have:=fl hc;exact ih _ _ fun _=>by show x.i+wid s x.i<=_;omega
     ·exact ih _ _ fun e=>absurd e (fx x s he)
   ·rw[iQ _ _ _ _ _ he];exact h
 exact key _ _ _ h
theorem Mi(h:Fits s x):Fits s (x.b_ s).1:=by
 by_cases he:x.err=0
 ·have hA:Cj x ⟨fun j=>if j=.text then x.more else [],fun _=>x.fV,0,[],[],0,x.l⟩ [] [] 0:=⟨⟨rfl,rfl,fun _=>rfl⟩,rfl,rfl,rfl,rfl,rfl⟩
  rcases zW (g:=fun _=>[]) (s:=s) (s.size+2) x [] _ he (h he) (by omega) hA with⟨_,_,h3,_⟩|⟨h1,_⟩
  ·exact fun _=>h3
  ·exact fun e=>absurd e h1
 ·unfold Sc.b_;rw[kx he];exact h
structure Kit(X:Nat)(s:ByteArray)(lv:Value):Prop where
 is_:∀W x,kQ X W s lv x->∀c:Nat,c<256->Z4 66 #[Z8 X,.int .u8 c] W fun en w'=>en=.returned (.bool (x.is s c))/\SE X W s lv x w'
 must:∀W x,kQ X W s lv x->Fits s x->∀t:ByteArray,0<t.size->t.size<=1024->Z4 67 #[Z8 X,.string t] W fun en w'=>en=.returned (.tuple #[])/\SE X W s lv (Sc.eW s (NG t 0) x) w'
 Et:∀W x,kQ X W s lv x->Fits s x->∀t:ByteArray,t.size<=1024->Z4 68 #[Z8 X,.string t] W fun en w'=>en=.returned (.string (x.until s t).2)/\SE X W s lv (x.until s t).1 w'
 name:∀W x,kQ X W s lv x->Fits s x->Z4 69 #[Z8 X] W fun en w'=>en=.returned (.string (x.name s).2)/\SE X W s lv (x.name s).1 w'
 eY:∀W x,kQ X W s lv x->Fits s x->Z4 70 #[Z8 X] W fun en w'=>en=.returned (.int .i64 (x.skip s))/\SE X W s lv (x.eY s) w'
 ic:∀W x,kQ X W s lv x->∀(t:ByteArray) (a:Int),x.more.length+t.size<=1125899906842624->Z4 42 #[Z8 X,.string t,.int .i64 a] W fun en w'=>en=.returned (.tuple #[])/\SE X W s lv (x.ic t a) w'
 b_:∀W x,kQ X W s lv x->Fits s x->Z4 72 #[Z8 X] W fun en w'=>∃v,en=.returned v/\SE X W s lv (x.b_ s).1 w'/\w'.ownsRow 0 79 2 v (x.b_ s).2.length (eG (x.b_ s).2)/\(∀k,v.ownBlock=some k->W.heap.size<=k)
theorem aam(X:Nat)(s:ByteArray)(lv:Value)(hs:s.size<=1099511627776):Kit X s lv where
 is_:=fun W x b c hc=>(BZ b c hc).mono fun en w' ⟨h1,h2⟩=>⟨h1,SE.sJ b h2⟩
 must:=fun W x b hf t h0 h1=>G9 b (by omega) hf t h0 h1
 Et:=fun W x b hf t h1=>RZ b (by omega) hf t h1
 name:=fun W x b hf=>L2 b (by omega) hf
 eY:=fun W x b hf=>B0 b (by omega) hf
 ic:=fun W x b t a h=>B6 b t a h
 b_:=fun W x b hf=>Td b (by omega) hs hf
theorem uI(h:RS F X w s lv cs x){w1:World}{y:Sc}(k:SE X w s lv y w1)(hl:gH x y)(t:Tok)(v:Value)(ha:w1.ownsRow 0 79 2 v t.b_.length (eG t.b_))(hv:∀k,v.ownBlock=some k->w.heap.size<=k)(hn:y.l.length<=1099511627776):
  Z4 71 #[Z8 X,.agg #[.int .i64 t.kind,eZ t.name,v,eZ t.text,.int .i64 t.at_]] w1 fun en w'=>en=.returned (.tuple #[])/\tZ F X w s (y.told t) w':=by
 obtain⟨Ym,IC,rs2,f2⟩:=h.F4 k hl.1;obtain⟨ai,ac,rfl⟩:=eE ha;have hX:X<w.heap.size:=h.lt X h.has;refine(L4 rs2 t ai t.b_.length ac ha (fun k e=>⟨Or.inr ⟨hv k e,eU ha e⟩,fun e2=>by have:=hv k e;omega⟩) hn).mono ?_;rintro en w' ⟨rfl,r⟩;exact⟨rfl,tZ.on ⟨Ym,IC,rs2,f2⟩ fun _ _ _=>r⟩
theorem OC{w1:World}{y:Sc}(h:tZ F X w s y w1)(t:Tok)(hat:t.b_=[])(hn:y.l.length<=1099511627776):
  Z4 71 #[Z8 X,.agg #[.int .i64 t.kind,eZ t.name,.slice none 0 0,eZ t.text,.int .i64 t.at_]] w1 fun en w'=>en=.returned (.tuple #[])/\tZ F X w s (y.told t) w':=by
 obtain⟨Ym,IC,rs2,f2⟩:=h;have ha:w1.ownsRow 0 79 2 (.slice none 0 0) t.b_.length (eG t.b_):=by rw[hat];exact bG _ _ _ _
 refine(L4 rs2 t none 0 0 ha (by intro k e;simp[Value.ownBlock]at e) hn).mono ?_;rintro en w' ⟨rfl,r⟩;exact⟨rfl,tZ.on ⟨Ym,IC,rs2,f2⟩ fun _ _ _=>r⟩
theorem sX(b:ByteArray):eZ b.data.toList=.string b:=by unfold eZ;simp
end
end K
end Go.Proofs.YtjecakcpcnmieaaGreatDoor
namespace Go.Proofs.YtjecakcpcnmieaaGreatDoor
namespace K
open Go.RowKit Go.Lib Tryz
section
def aan(cs:List Int):List UInt8:=cs.flatMap Lib.encodeRune
variable{s:ByteArray}{p:Nat}{c:Int}{x:Sc}{q:Bool}
end
section
def nD(n:List UInt8):Prop:=∃(s0:ByteArray) (q:Nat),Ch.fw (cur s0 q)=true/\n=Ch.bytes s0 q (jK s0 q-q)
def gy(t:List UInt8):Prop:=∃cs:List Int,(∀c∈cs,Ch.may c=true)/\t=aan cs
variable{s:ByteArray}{p:Nat}{c:Int}{x:Sc}{q:Bool}
theorem CB(s:ByteArray)(i n:Nat)(h:i+n<=s.size):(Ch.bytes s i n).length=n:=by
 unfold Ch.bytes;have hz:s.data.toList.length=s.size:=by simp
 rw[bP,cQ];omega
end
section
variable{s:ByteArray}{p:Nat}{c:Int}{x:Sc}{q:Bool}
def kZ(a:List UInt8×List UInt8):List UInt8:=10::(a.1++([32,61,32,34]++(Ch.h_ true a.2++[34])))
end
section
variable{s:ByteArray}{p:Nat}{c:Int}{x:Sc}{q:Bool}
def yo:jY->jY->Prop
 |_,[]=>True
 |l,a::ats=>l.any (fun b=>b.1==a.1)=false/\yo (l++[a]) ats
end
section
variable{s:ByteArray}{p:Nat}{c:Int}{x y z:Sc}{q:Bool}
def aby:List UInt8:=[60,33,45,45,32,114,32,45,45,62]
def abz:List UInt8:=[60,63,111,63,62]
def abA:List UInt8:=[60,33,91,67,68,65,84,65,91,93,93,62]
def marks:List UInt8:=aby++(abz++abA)
end
section
variable{s:ByteArray}{p:Nat}{c:Int}{x y z:Sc}{q:Bool}
def jm(t:Tok):List UInt8:=if t.kind=1 then 60::(t.name++(t.b_.flatMap kZ++[32,62]))else if t.kind=2 then [60,47]++t.name++[62]else Ch.h_ false t.text++marks
def CC(t:Tok):Prop:=
 (t.kind=1/\nD t.name/\(∀a∈t.b_,nD a.1/\gy a.2)/\yo [] t.b_/\t.text=[])\/(t.kind=2/\nD t.name/\t.b_=[]/\t.text=[])\/
 (t.kind=3/\t.name=[]/\t.b_=[]/\gy t.text/\t.text≠[])
def pW:Bool->List Tok->Prop
 |_,[]=>True
 |b,t::l=>CC t/\(t.kind=3->b=false)/\pW (t.kind==3) l
def ends:Bool->List Tok->Bool
 |b,[]=>b
 |_,t::l=>ends (t.kind==3) l
def bare(t:Tok):Tok:={t with at_:=0}
theorem kN:∀(l l':List Tok) (b:Bool),pW b (l++l')↔pW b l/\pW (ends b l) l':=by
 intro l;induction l with
 |nil=>intro l' b;simp[pW,ends]
 |cons t l ih=>intro l' b;simp only[aI,pW,ends,ih,and_assoc]
theorem xL:∀(l l':List Tok) (b:Bool),ends b (l++l')=ends (ends b l) l':=by
 intro l;induction l with
 |nil=>intro l' b;rfl
 |cons t l ih=>intro l' b;simp only[aI,ends,ih]
end
end K
end Go.Proofs.YtjecakcpcnmieaaGreatDoor
