import Derived.Test.YtclgfepngpeifaaGreatDoorXA
import Derived.Test.YtclgfepngpeifaaGreatDoorXak
import Derived.Test.YtclgfepngpeifaaGreatDoorXao
set_option linter.unusedVariables false
set_option linter.unusedSimpArgs false
set_option maxHeartbeats 32000000
set_option maxRecDepth 100000
namespace Go.Proofs.YtclgfepngpeifaaGreatDoor
namespace K
open Go.RowKit Go.Lib Tryz
section
def cur(s:ByteArray)(i:Nat):Int:=if i<s.size then(if Ch.gb s i=true then((Utf8.decode s i).1:Int)else-2)else-1
def wid(s:ByteArray)(i:Nat):Nat:=(Utf8.decode s i).2
def uM(g:St->List eX)(s:ByteArray):Nat->Nat->Part->St->List eX×Int×Int
 |0,_,_,st=>(st.told,0,0)
 |f+1,i,pt,st=>
  match (b_ pt i st (cur s i)).res with
  | .go jC=>if 0<=cur s i then uM g s f (i+wid s i) jC (b_ pt i st (cur s i)).st else(st.told,0,0)
  | .stop=>(g st,0,0)
  | .fail no q=>((b_ pt i st (cur s i)).st.told,no,q)
def runs(g:St->List eX)(s:ByteArray)(i:Nat)(pt:Part)(st:St):List eX×Int×Int:=uM g s (s.size-i+1) i pt st
variable{g:St->List eX}{s:ByteArray}{i:Nat}{pt jC:Part}{st gV:St}{no q c:Int}
theorem eF(h:0<=cur s i):i<s.size/\Ch.gb s i=true/\cur s i=((Utf8.decode s i).1:Int)/\1<=wid s i/\i+wid s i<=s.size:=by
 unfold cur at h ⊢;split at h
 ·rename_i h1;split at h
  ·rename_i h2;have:=Ch.eE s i h1;rw[if_pos h1,if_pos h2];exact⟨h1,h2,rfl,this.2.1,this.1⟩
  ·omega
 ·omega
theorem rN(h:¬0<=cur s i):(i<s.size/\cur s i= -2)\/(¬i<s.size/\cur s i= -1):=by
 unfold cur at h ⊢;split
 ·rename_i h1;rw[if_pos h1]at h;split
  ·rename_i h2;rw[if_pos h2]at h;omega
  ·exact Or.inl ⟨h1,rfl⟩
 ·rename_i h1;exact Or.inr ⟨h1,rfl⟩
theorem Il:∀(f f' i:Nat) (pt:Part) (st:St),s.size-i<f->s.size-i<f'->uM g s f i pt st=uM g s f' i pt st:=by
 intro f;induction f with
 |zero=>intro f' i pt st h;omega
 |succ f ih=>
  intro f' i pt st h h';obtain⟨f',rfl⟩:∃k,f'=k+1:=⟨f'-1,by omega⟩
  simp only[uM];split
  ·split
   ·rename_i h0;have:=eF h0;exact ih _ _ _ _ (by omega) (by omega)
   ·rfl
  ·rfl
  ·rfl
theorem eN(e:b_ pt i st (cur s i)=⟨gV,.go jC⟩)(h:0<=cur s i):runs g s i pt st=runs g s (i+wid s i) jC gV:=by
 have hc:=eF h;unfold runs
 conv=>lhs;unfold uM
 rw[e];simp only[h,if_true];exact Il _ _ _ _ _ (by omega) (by omega)
theorem fG(e:b_ pt i st (cur s i)=⟨gV,.fail no q⟩):runs g s i pt st=(gV.told,no,q):=by unfold runs uM;rw[e]
theorem v_(e:b_ pt i st (cur s i)=⟨gV,.stop⟩):runs g s i pt st=(g st,0,0):=by unfold runs uM;rw[e]
theorem mF(e:b_ pt i st (cur s i)=b_ jC i gV (cur s i))(ht:st.told=gV.told)(hg:(∃o,b_ pt i st (cur s i)=⟨o,.stop⟩)->g st=g gV):runs g s i pt st=runs g s i jC gV:=by
 unfold runs uM;rw[e]at hg ⊢;rw[ht];generalize b_ jC i gV (cur s i)=o at*
 obtain⟨o,r⟩:=o;cases r with
 |go abL=>rfl
 |stop=>simp only;rw[hg ⟨o,rfl⟩]
 |fail no q=>rfl
theorem Bu{k:Pl}{o:St}(h:step k q st c=⟨o,.stop⟩):k=.between:=by
 cases k<;>first|rfl|(exfalso;simp only[step,jo,fC,jH,gW,iC,fw,fx]at h;repeat' split at h
                      all_goals cases h)
theorem tI{k:Pl}{o:St}(h:b_ (.plain k) q st c=⟨o,.stop⟩):k=.between:=by
 have h':step k q st c=⟨o,.stop⟩:=by simpa only[b_]using h
 exact Bu h'
theorem jI{c:Nat}(hc:c=9\/c=10\/c=13\/(32<=c/\c<128)):cur s i=(c:Int)↔i<s.size/\(s.get! i).toNat=c:=by
 unfold cur;by_cases h:i<s.size
 ·rw[if_pos h];have hb:Ch.bz s i=((s.get! i).toNat:Int):=by simp[Ch.bz,h]
  rcases Ch.nC s i h with⟨h0,h1,hd⟩|⟨h0,h1⟩
  ·have iH:Ch.gb s i=Ch.may (Ch.bz s i):=by
    have e1:(((Ch.bz s i).toNat:Nat):Int)=Ch.bz s i:=by omega
    have e2:((Ch.bz s i).toNat !=65533)=true:=by simp;omega
    simp[Ch.gb,hd,e1];intro _;omega
   rw[iH,hd];by_cases hm:Ch.may (Ch.bz s i)=true
   ·rw[if_pos hm];simp only[h,dw];omega
   ·rw[if_neg hm];have tY:=mt (Ch.lG (Ch.bz s i)).2 hm;simp only[h,dw];constructor
    ·intro e;omega
    ·intro e;exfalso;apply tY;omega
  ·constructor
   ·intro e;split at e
    ·omega
    ·omega
   ·rintro⟨_,e⟩;omega
 ·rw[if_neg h];simp[h]
theorem fo(h:0<=cur s i)(h1:cur s i<128):wid s i=1:=by
 have hc:=eF h;rcases Ch.nC s i hc.1 with⟨_,_,hd⟩|⟨_,h2⟩
 ·unfold wid;rw[hd]
 ·omega
variable{x:Sc}
theorem jJ(he:x.err=0){c:Nat}(hc:c=9\/c=10\/c=13\/(32<=c/\c<128)):x.is s c=true↔cur s x.i=(c:Int):=by rw[jI hc];simp[Sc.is,he]
theorem Da(he:x.err=0){c:Nat}(hc:c=9\/c=10\/c=13\/(32<=c/\c<128)):x.is s c=decide (cur s x.i=(c:Int)):=by
 have:=jJ (s:=s) he hc;cases h:x.is s c<;>simp_all
theorem PC(he:x.err≠0)(c:Nat):x.is s c=false:=by simp[Sc.is,he]
theorem Db(s:ByteArray)(i:Nat):Ch.mM s i=if 0<=cur s i then(cur s i,(wid s i:Int))else(0,0):=by
 unfold Ch.mM;by_cases h:0<=cur s i
 ·have:=eF h;rw[if_pos h,if_pos ⟨this.1,this.2.1⟩,this.2.2.1];rfl
 ·rw[if_neg h];rcases rN h with⟨h1,h2⟩|⟨h1,h2⟩
  ·have:¬Ch.gb s i=true:=by intro e;unfold cur at h2;rw[if_pos h1,if_pos e]at h2;omega
   rw[if_neg (fun e=>this e.2)]
  ·rw[if_neg (fun e=>h1 e.1)]
theorem qJ(s:ByteArray)(i:Nat):(Ch.mM s i).2=0↔¬0<=cur s i:=by
 rw[Db];split
 ·rename_i h;have:=eF h;simp only[];constructor
  ·intro e;omega
  ·intro e;exact absurd h e
 ·rename_i h;simp[h]
theorem gB(he:x.err=0):x.wrong s={x with err:=Tk.why (cur s x.i),at_:=x.i}:=by
 unfold Sc.wrong Sc.fail;simp only[he,if_true,qJ];by_cases h:0<=cur s x.i
 ·have:=eF h;rw[if_pos this.1,if_neg (by simpa using h)];have e:Tk.why (cur s x.i)=3:=by unfold Tk.why;rw[if_neg (by omega)]
  rw[e]
 ·rcases rN h with⟨h1,h2⟩|⟨h1,h2⟩
  ·rw[if_pos h1,if_pos h,h2];rfl
  ·rw[if_neg h1,h2];rfl
theorem lN(h:0<=cur s i):Lib.encodeRune (cur s i)=Ch.bytes s i (wid s i):=by
 have hc:=eF h;rw[hc.2.2.1];exact Ch.sR hc.1 hc.2.1
theorem oD(s:ByteArray)(i a b:Nat):Ch.bytes s i a++Ch.bytes s (i+a) b=Ch.bytes s i (a+b):=by
 unfold Ch.bytes;rw[<-List.drop_drop,List.take_add]
theorem gG(s:ByteArray)(a b:Nat):(s.extract a b).data.toList=Ch.bytes s a (b-a):=by
 unfold Ch.bytes;simp[ByteArray.data_extract,List.extract_eq_take_drop]
end
section
variable{g:St->List eX}{s:ByteArray}{i:Nat}{pt jC:Part}{st gV:St}{no q c:Int}{x:Sc}
theorem mX(s:ByteArray)(i:Nat):(i<s.size/\iQ (s.get! i).toNat=true)↔Tk.blank (cur s i)=true:=by
 have h:=fun c hc=>jI (s:=s) (i:=i) (c:=c) hc;have h32:=h 32 (by omega);have h9:=h 9 (by omega);have h10:=h 10 (by omega);have h13:=h 13 (by omega);simp only[iQ,Tk.blank,bm,bk];constructor
 ·rintro⟨h0,((e|e)|e)|e⟩
  ·exact Or.inl (Or.inl (Or.inl (h32.2 ⟨h0,e⟩)))
  ·exact Or.inl (Or.inl (Or.inr (h9.2 ⟨h0,e⟩)))
  ·exact Or.inl (Or.inr (h10.2 ⟨h0,e⟩))
  ·exact Or.inr (h13.2 ⟨h0,e⟩)
 ·rintro(((e|e)|e)|e)
  ·exact⟨(h32.1 e).1,Or.inl (Or.inl (Or.inl (h32.1 e).2))⟩
  ·exact⟨(h9.1 e).1,Or.inl (Or.inl (Or.inr (h9.1 e).2))⟩
  ·exact⟨(h10.1 e).1,Or.inl (Or.inr (h10.1 e).2)⟩
  ·exact⟨(h13.1 e).1,Or.inr (h13.1 e).2⟩
theorem yV{c:Int}(h:Tk.blank c=true):c=32\/c=9\/c=10\/c=13:=by simp only[Tk.blank,bm,bk]at h;omega
def gap(s:ByteArray)(i:Nat):Nat:=skip s (s.size+1) i
theorem LP:∀(f f' i:Nat),i<=s.size->s.size<i+f->s.size<i+f'->skip s f i=skip s f' i:=by
 intro f;induction f with
 |zero=>intro f' i h h1;omega
 |succ f ih=>
  intro f' i h h1 h2;obtain⟨f',rfl⟩:∃k,f'=k+1:=⟨f'-1,by omega⟩
  simp only[skip];split
  ·rename_i hc;rw[ih f' (i+1) (by omega) (by omega) (by omega)]
  ·rfl
theorem xH(h:Tk.blank (cur s i)=true):gap s i=gap s (i+1)+1:=by
 have hb:=(mX s i).2 h;unfold gap
 conv=>lhs;unfold skip
 rw[if_pos hb];rw[LP s.size (s.size+1) (i+1) (by omega) (by omega) (by omega)]
theorem Dc(h:¬Tk.blank (cur s i)=true):gap s i=0:=by unfold gap skip;rw[if_neg (fun e=>h ((mX s i).1 e))]
theorem Kb(s:ByteArray)(i:Nat)(h:i<=s.size):i+gap s i<=s.size:=by
 by_cases hb:Tk.blank (cur s i)=true
 ·have:=((mX s i).2 hb).1;rw[xH hb];have:=Kb s (i+1) (by omega);omega
 ·rw[Dc hb];exact h
termination_by s.size-i
theorem yX(h:i<=s.size):i+gap s i<=s.size:=Kb s i h
theorem rO(s:ByteArray)(i:Nat):¬Tk.blank (cur s (i+gap s i))=true:=by
 by_cases hb:Tk.blank (cur s i)=true
 ·have:=((mX s i).2 hb).1;rw[xH hb];have:=rO s (i+1);rwa[show i+(gap s (i+1)+1)=i+1+gap s (i+1) by omega]
 ·rw[Dc hb];exact hb
termination_by s.size-i
theorem qK(h:∀i c,Tk.blank c=true->b_ pt i st c=⟨st,.go pt⟩)(i:Nat):runs g s i pt st=runs g s (i+gap s i) pt st:=by
 by_cases hb:Tk.blank (cur s i)=true
 ·have hi:=((mX s i).2 hb).1;have hv:=yV hb;rw[eN (h _ _ hb) (by omega),fo (by omega) (by omega),qK h (i+1),xH hb];congr 1;omega
 ·rw[Dc hb];rfl
termination_by s.size-i
theorem Fq(he:x.err=0):x.skip s=gap s x.i:=by unfold Sc.skip;rw[if_pos he];rfl
theorem ly(he:x.err=0):x.ey s={x with i:=x.i+gap s x.i}:=by unfold Sc.ey;rw[Fq he]
theorem jK(he:x.err≠0):x.ey s=x:=by unfold Sc.ey Sc.skip;rw[if_neg he];rfl
theorem uN(s:ByteArray)(k j:Nat):cur (Ch.tail s k) j=cur s (k+j):=by
 unfold cur;by_cases h:k+j<s.size
 ·have h1:j<(Ch.tail s k).size:=by rw[Ch.iU];omega
  have hd:Utf8.decode (Ch.tail s k) j=Utf8.decode s (k+j):=Ch.oX h (fun m=>by rw[Ch.uD,cM]);rw[if_pos h,if_pos h1];have:Ch.gb (Ch.tail s k) j=Ch.gb s (k+j):=by unfold Ch.gb;rw[hd]
  rw[this,hd]
 ·have h1:¬j<(Ch.tail s k).size:=by rw[Ch.iU];omega
  rw[if_neg h,if_neg h1]
theorem yY{s:ByteArray}{k j:Nat}(h:k+j<s.size):wid (Ch.tail s k) j=wid s (k+j):=by
 unfold wid;rw[Ch.oX h (fun m=>by rw[Ch.uD,cM])]
def xt(c:Int):Bool:=Ch.eI c||Ch.fy c
theorem nH{c:Int}(h:xt c=true):0<=c:=by
 unfold xt at h;rw[bm]at h;rcases h with h|h
 ·have:=(Ch.fA c).1 h;omega
 ·have:=(Ch.iG c).1 h;omega
theorem tJ(s:ByteArray)(p:Nat)(h:p<s.size):Ch.jk s p=if p=0 then Ch.eI (cur s p)else xt (cur s p):=by
 unfold Ch.jk cur xt;rw[if_pos h];by_cases ho:Ch.gb s p=true
 ·rw[ho,if_pos rfl];by_cases h0:p=0
  ·subst h0;simp
  ·have:decide (0<p)=true:=by simp;omega
   simp[this,h0]
 ·have NF:Ch.gb s p=false:=by simpa using ho
  rw[NF];have h1:Ch.eI (-2)=false:=by decide
  have h2:Ch.fy (-2)=false:=by decide
  simp[h1,h2]
def jq(s:ByteArray)(i:Nat):Nat:=
 if h:xt (cur s i)=true then jq s (i+wid s i)else i
termination_by s.size-i
decreasing_by have:=eF (nH h);omega
theorem j9(h:xt (cur s i)=true):jq s i=jq s (i+wid s i):=by
 conv=>lhs;unfold jq
 rw[dif_pos h]
theorem rP(h:¬xt (cur s i)=true):jq s i=i:=by unfold jq;rw[dif_neg h]
theorem rQ(s:ByteArray)(i:Nat):i<=jq s i:=by
 by_cases h:xt (cur s i)=true
 ·have:=eF (nH h);have:=rQ s (i+wid s i);rw[j9 h];omega
 ·rw[rP h];omega
termination_by s.size-i
theorem Fs(s:ByteArray)(i:Nat)(h0:i<=s.size):jq s i<=s.size:=by
 by_cases h:xt (cur s i)=true
 ·have:=eF (nH h);have:=Fs s (i+wid s i) (by omega);rw[j9 h];omega
 ·rw[rP h];omega
termination_by s.size-i
theorem nI(h:i<=s.size):jq s i<=s.size:=Fs s i h
theorem Aq(s:ByteArray)(k:Nat):∀f p,0<p->k+p<=s.size->s.size<k+p+f->Ch.fp (Ch.tail s k) f p+k=jq s (k+p):=by
 intro f;induction f with
 |zero=>intro p h h1 h2;omega
 |succ f ih=>
  intro p h h1 h2;have hz:=Ch.iU s k;simp only[Ch.fp];by_cases hp:k+p<s.size
  ·have nB:Ch.jk (Ch.tail s k) p=xt (cur s (k+p)):=by rw[tJ _ _ (by omega),if_neg (by omega),uN]
   rw[if_pos (by omega),nB];by_cases hn:xt (cur s (k+p))=true
   ·have hc:=eF (nH hn);have hw:(Utf8.decode (Ch.tail s k) p).2=wid s (k+p):=yY hp;rw[if_pos hn,hw,j9 hn,ih (p+wid s (k+p)) (by omega) (by omega) (by omega)];congr 1;omega
   ·rw[if_neg hn,rP hn];omega
  ·have e:k+p=s.size:=by omega
   rw[if_neg (by omega),rP (by unfold cur;rw[if_neg (by omega)];decide)];omega
theorem Tf(hb:¬Ch.eI (cur s x.i)=true):x.vY s=0:=by
 unfold Sc.vY Ch.name;rw[Ch.jT];simp only[Ch.fp];split
 ·rename_i h;have nB:Ch.jk (Ch.tail s x.i) 0=Ch.eI (cur s x.i):=by rw[tJ _ _ h,if_pos rfl,uN,bG]
  rw[nB,if_neg hb]
 ·omega
theorem qL(hb:Ch.eI (cur s x.i)=true):x.vY s=jq s x.i-x.i/\x.i<jq s x.i:=by
 have hp:0<=cur s x.i:=by have:=(Ch.fA _).1 hb;omega
 have hc:=eF hp;have hz:=Ch.iU s x.i;have hn:xt (cur s x.i)=true:=by unfold xt;rw[hb];rfl
 have hg:=rQ s (x.i+wid s x.i);have hw:(Utf8.decode (Ch.tail s x.i) 0).2=wid s x.i:=yY (by omega);unfold Sc.vY Ch.name;rw[Ch.jT];simp only[Ch.fp];have nB:Ch.jk (Ch.tail s x.i) 0=Ch.eI (cur s x.i):=by rw[tJ _ _ (by omega),if_pos rfl,uN,bG]
 rw[if_pos (by omega),nB,if_pos hb,aG,hw];have:=Aq s x.i (Ch.tail s x.i).size (wid s x.i) (by omega) (by omega) (by omega);rw[j9 hn];omega
theorem Bw(j:Rn)(k:Pl)(i:Nat)(st:St)(h0:st.run j≠[]):runs g s i (.name j k) st=runs g s (jq s i) (.plain k) (st.dT j (st.run j++Ch.bytes s i (jq s i-i)) (st.eP j)):=by
 have hl:¬(st.run j).length=0:=by simpa using h0
 by_cases h:xt (cur s i)=true
 ·have hp:=nH h;have hc:=eF hp;have e:b_ (.name j k) i st (cur s i)=⟨st.put j (cur s i) i,.go (.name j k)⟩:=by simp only[b_,stName];unfold xt at h;rw[if_neg hl,if_pos h]
  rw[eN e hp];have ep:st.put j (cur s i) i=st.dT j (st.run j++Ch.bytes s i (wid s i)) (st.eP j):=by unfold St.put;rw[if_neg hl,lN hp]
  have hg:=rQ s (i+wid s i);rw[Bw j k (i+wid s i) _ (by rw[ep];simp[St.dT,h0]),j9 h,ep];congr 1;simp only[St.dT,if_true];rw[aV,oD,show wid s i+(jq s (i+wid s i)-(i+wid s i))=jq s (i+wid s i)-i by omega];congr 1
  ·funext m;split<;>rfl
  ·funext m;split<;>rfl
 ·rw[rP h];have e0:st.dT j (st.run j++Ch.bytes s i (i-i)) (st.eP j)=st:=by
   have:Ch.bytes s i (i-i)=[]:=by unfold Ch.bytes;simp
   rw[this,aP];unfold St.dT;congr 1
   ·funext m;split
    ·rename_i e;rw[e]
    ·rfl
   ·funext m;split
    ·rename_i e;rw[e]
    ·rfl
  rw[e0];refine mF ?_ rfl (fun _=>rfl);simp only[b_,stName];rw[if_neg hl];unfold xt at h;rw[if_neg h]
termination_by s.size-i
end
section
variable{g:St->List eX}{s:ByteArray}{i:Nat}{pt jC:Part}{st gV:St}{no q c:Int}{x y:Sc}
def Alike(s:ByteArray)(x y:Sc)(A:List eX×Int×Int)(B:Nat->List eX×Int×Int):Prop:=
 (y.err=0/\x.i<=y.i/\y.i<=s.size/\y={x with i:=y.i}/\A=B y.i)\/(y.err≠0/\y.l=x.l/\A=(x.l,y.err,y.at_))
theorem Alike.wrong(he:x.err=0){A:List eX×Int×Int}{B:Nat->List eX×Int×Int}(h:A=(x.l,Tk.why (cur s x.i),(x.i:Int))):Alike s x (x.wrong s) A B:=by
 rw[gB he];refine Or.inr ⟨?_,rfl,h⟩;show Tk.why _≠0;unfold Tk.why;split<;>omega
def Plain(l:List UInt8):Prop:=∀c∈l,32<=c.toNat/\c.toNat<128
instance (l:List UInt8):Decidable (Plain l):=by unfold Plain;infer_instance
theorem Kc{l:List UInt8}(hl:Plain l):∀i,Ch.has s i l=true↔∀k (h:k<l.length),cur s (i+k)=((l[k]).toNat:Int):=by
 induction l with
 |nil=>intro i;simp[Ch.has]
 |cons c l ih=>
  intro i;have hc:=hl c (by simp);have ih':=ih (fun d hd=>hl d (by simp[hd]));simp only[Ch.has,aT,bk];rw[ih'];have hb:Ch.bz s i=(c.toNat:Int)↔cur s i=(c.toNat:Int):=by
   rw[jI (Or.inr (Or.inr (Or.inr hc)))];unfold Ch.bz;split
   ·rename_i h;simp only[h,dw];omega
   ·rename_i h;simp only[h,false_and,iff_false];omega
  rw[hb];constructor
  ·rintro⟨h1,h2⟩ k hk;cases k with
   |zero=>simpa using h1
   |succ k=>
    have:=h2 k (by simpa using hk);simpa [cM,Nat.add_comm 1 k]using this
  ·intro h;refine⟨h 0 (by simp),fun k hk=>?_⟩;have:=h (k+1) (by simpa using hk);simpa [cM,Nat.add_comm 1 k]using this
theorem Im(x:Sc)(s t:ByteArray)(h0:t.size≠0):x.stands s t=Ch.has s x.i t.data.toList:=by
 rw[<-Ch.oL,bC,List.isPrefixOf_iff_prefix,List.prefix_iff_eq_take];unfold Sc.stands;simp only[aT,aR,bk];rw[Lib.toList_data,Lib.toList_data,gG];unfold Ch.bytes;have hz:t.data.toList.length=t.size:=by simp
 rw[show x.i+t.size-x.i=t.size by omega,hz];constructor
 ·rintro⟨_,h⟩;exact h.symm
 ·intro h;refine⟨?_,h.symm⟩;have:=aL List.length h;rw[hz,bI,b9]at this;have h2:s.data.toList.length=s.size:=by simp
  omega
theorem wg(k:Pl):∀(l:List UInt8) (x:Sc),l≠[]->Plain l->x.err=0->x.i<=s.size->st.told=x.l->Alike s x (Sc.eo s l x) (runs g s x.i (.word l k) st) (fun j=>runs g s j (.plain k) st):=by
 intro l;induction l with
 |nil=>intro x h;exact absurd rfl h
 |cons c l ih=>
  intro x _ hl he hi ht;have hc:=hl c (by simp);simp only[Sc.eo];rw[if_pos he];by_cases hq:cur s x.i=(c.toNat:Int)
  ·have h0:0<=cur s x.i:=by omega
   have hp:=eF h0;have hw:=fo h0 (by omega);rw[if_pos ((jJ he (Or.inr (Or.inr (Or.inr hc)))).2 hq)];by_cases hn:l=[]
   ·subst hn;have e:b_ (.word [c] k) x.i st (cur s x.i)=⟨st,.go (.plain k)⟩:=by simp[b_,lx,hq]
    rw[eN e h0,hw];exact Or.inl ⟨he,Nat.le_succ _,by show x.i+1<=_;omega,rfl,rfl⟩
   ·have e:b_ (.word (c::l) k) x.i st (cur s x.i)=⟨st,.go (.word l k)⟩:=by simp[b_,lx,hq,hn]
    rw[eN e h0,hw];rcases ih {x with i:=x.i+1} hn (fun d hd=>hl d (by simp[hd])) he (by show x.i+1<=_;omega) ht with⟨h1,h2,h3,h4,h5⟩|⟨h1,h2,h3⟩
    ·refine Or.inl ⟨h1,?_,h3,?_,h5⟩
     ·have UA:x.i+1<=_:=h2;omega
     ·rw[h4]
    ·exact Or.inr ⟨h1,h2,h3⟩
  ·have hf:x.is s c.toNat=false:=by
    have:=mt (jJ (s:=s) he (Or.inr (Or.inr (Or.inr hc)))).1 hq;simpa using this
   rw[if_neg (by rw[hf];simp),iA s l (eK x s he)];refine Alike.wrong he ?_;have e:b_ (.word (c::l) k) x.i st (cur s x.i)=⟨st,.fail (Tk.why (cur s x.i)) x.i⟩:=by simp[b_,lx,hq]
   rw[fG e,ht]
theorem mY(s t:ByteArray)(fD f:Nat)(x:Sc)(he:x.err=0)(hz:t.size≠0):fM s t fD (f+1) x=if Ch.has s x.i t.data.toList=true then({x with i:=x.i+t.size},s.extract fD x.i)else if 0<=cur s x.i then fM s t fD f {x with i:=x.i+wid s x.i}else fM s t fD f (x.wrong s):=by
 simp only[fM];rw[if_pos he,Im _ _ _ hz];split
 ·rfl
 ·by_cases h:0<=cur s x.i
  ·rw[if_neg (by rw[qJ];simpa using h),if_pos h,Db,if_pos h];simp
  ·rw[if_pos ((qJ s x.i).2 h),if_neg h]
theorem iY(s t:ByteArray)(fD f:Nat)(x:Sc)(he:x.err≠0):fM s t fD f x=(x,⟨#[]⟩):=by
 cases f with
 |zero=>rfl
 |succ f=>simp only[fM];rw[if_neg he]
theorem Tg{a b:UInt8}(hp:Plain [a,b])(i:Nat):Ch.has s i [a,b]=true↔cur s i=(a.toNat:Int)/\cur s (i+1)=(b.toNat:Int):=by
 rw[Kc hp];constructor
 ·intro h;exact⟨h 0 (by simp),h 1 (by simp)⟩
 ·rintro⟨h1,h2⟩ k hk
  match k,hk with
  |0,_=>exact h1
  |1,_=>exact h2
theorem Alike.on{A:List eX×Int×Int}{B:Nat->List eX×Int×Int}{j:Nat}(h:Alike s {x with i:=j} y A B)(hj:x.i<=j):Alike s x y A B:=by
 rcases h with⟨h1,h2,h3,h4,h5⟩|⟨h1,h2,h3⟩
 ·refine Or.inl ⟨h1,aw hj h2,h3,?_,h5⟩;rw[h4]
 ·exact Or.inr ⟨h1,h2,h3⟩
theorem Fu(a b:UInt8)(A B:Pl)(K:Part)(hp:Plain [a,b])(hA:∀q c,step A q st c=if c=(a.toNat:Int)then⟨st,.go (.plain B)⟩else if c<0 then⟨st,.fail (Tk.why c) q⟩else⟨st,.go (.plain A)⟩)
  (hB:∀q c,step B q st c=if c=(b.toNat:Int)then⟨st,.go K⟩else step A q st c) (fD:Nat):∀(f:Nat) (x:Sc),x.err=0->x.i<=s.size->s.size+1<x.i+f->st.told=x.l->
  Alike s x (fM s ⟨#[a,b]⟩ fD f x).1 (runs g s x.i (.plain A) st) (fun j=>runs g s j K st):=by
 have ha:=hp a (by simp);have hb:=hp b (by simp);intro f;induction f with
 |zero=>intro x he hi hf;omega
 |succ f ih=>
  intro x he hi hf ht;rw[mY _ _ _ _ _ he (by show 2≠0;decide)];have hh:=Tg (s:=s) hp x.i;by_cases h0:0<=cur s x.i
  ·have hp:=eF h0;by_cases h45:cur s x.i=(a.toNat:Int)
   ·have hw:=fo h0 (by omega);have e:b_ (.plain A) x.i st (cur s x.i)=⟨st,.go (.plain B)⟩:=by simp only[b_];rw[hA,if_pos h45]
    rw[eN e h0,hw];by_cases Ti:cur s (x.i+1)=(b.toNat:Int)
    ·have Zj:=eF (s:=s) (i:=x.i+1) (by omega);have hw':=fo (s:=s) (i:=x.i+1) (by omega) (by omega);have e2:b_ (.plain B) ((x.i+1:Nat):Int) st (cur s (x.i+1))=⟨st,.go K⟩:=by simp only[b_];rw[hB,if_pos Ti]
     rw[if_pos (hh.2 ⟨h45,Ti⟩),eN e2 (by omega),hw'];exact Or.inl ⟨he,by show x.i<=x.i+2;omega,by show x.i+2<=_;omega,rfl,rfl⟩
    ·rw[if_neg (fun h=>Ti (hh.1 h).2),if_pos h0];have e2:runs g s (x.i+1) (.plain B) st=runs g s (x.i+1) (.plain A) st:=mF (by simp only[b_];rw[hB,if_neg Ti]) rfl (fun _=>rfl);rw[e2];exact(ih {x with i:=x.i+1} he (by show x.i+1<=_;omega) (by show _<x.i+1+f;omega) ht).on (by omega)
   ·rw[if_neg (fun h=>h45 (hh.1 h).1),if_pos h0];have e:b_ (.plain A) x.i st (cur s x.i)=⟨st,.go (.plain A)⟩:=by simp only[b_];rw[hA,if_neg h45,if_neg (by omega)]
    rw[eN e h0];exact(ih {x with i:=x.i+wid s x.i} he (by show x.i+wid s x.i<=_;omega) (by show _<x.i+wid s x.i+f;omega) ht).on (by omega)
  ·rw[if_neg (fun h=>by have:=(hh.1 h).1;omega),if_neg h0,iY _ _ _ _ _ (eK x s he)];refine Alike.wrong he ?_;have e:b_ (.plain A) x.i st (cur s x.i)=⟨st,.fail (Tk.why (cur s x.i)) x.i⟩:=by simp only[b_];rw[hA,if_neg (by omega),if_pos (by omega)]
   rw[fG e,ht]
theorem Fv(fD f:Nat)(x:Sc)(he:x.err=0)(hi:x.i<=s.size)(hf:s.size+1<x.i+f)(ht:st.told=x.l):
  Alike s x (fM s ⟨#[45,45]⟩ fD f x).1 (runs g s x.i (.plain .remark) st) (fun j=>runs g s j (.word [62] .between) st):=
 Fu 45 45 .remark .dash _ (by decide) (fun _ _=>rfl) (fun _ _=>rfl) fD f x he hi hf ht
theorem Io(fD f:Nat)(x:Sc)(he:x.err=0)(hi:x.i<=s.size)(hf:s.size+1<x.i+f)(ht:st.told=x.l):
  Alike s x (fM s ⟨#[63,62]⟩ fD f x).1 (runs g s x.i (.plain .order) st) (fun j=>runs g s j (.plain .between) st):=
 Fu 63 62 .order .mark _ (by decide) (fun _ _=>rfl) (fun _ _=>rfl) fD f x he hi hf ht
end
section
variable{g:St->List eX}{s:ByteArray}{i:Nat}{pt jC:Part}{st gV:St}{no q c:Int}{x y:Sc}
theorem qM(st:St)(j:Rn):st.dT j (st.run j) (st.eP j)=st:=by
 unfold St.dT;congr 1
 ·funext m;split
  ·rename_i e;rw[e]
  ·rfl
 ·funext m;split
  ·rename_i e;rw[e]
  ·rfl
theorem jV(st:St)(j:Rn)(l l':List UInt8)(a a':Int):(st.dT j l a).dT j l' a'=st.dT j l' a':=by
 unfold St.dT;congr 1
 ·funext m;simp only[];split<;>rfl
 ·funext m;simp only[];split<;>rfl
def St.upto(st:St)(s:ByteArray)(j:Rn)(fD k:Nat):St:=st.dT j (st.run j++Ch.bytes s fD (k-fD)) (if st.run j=[]/\fD<k then(fD:Int)else st.eP j)
theorem Bx(st:St)(s:ByteArray)(j:Rn)(fD:Nat):st.upto s j fD fD=st:=by
 unfold St.upto;rw[if_neg (by omega)];have:Ch.bytes s fD (fD-fD)=[]:=by unfold Ch.bytes;simp
 rw[this,aP,qM]
theorem uO(s:ByteArray){i n:Nat}(h:i+n<=s.size)(hn:1<=n):Ch.bytes s i n≠[]:=by
 intro e;have:=aL List.length e;unfold Ch.bytes at this;have hz:s.data.toList.length=s.size:=by simp
 rw[bI,b9,hz]at this;simp at this;omega
theorem Fw(st:St)(s:ByteArray)(j:Rn)(fD k:Nat)(hk:fD<=k)(h:0<=cur s k):(st.upto s j fD k).put j (cur s k) k=st.upto s j fD (k+wid s k):=by
 have hc:=eF h;unfold St.put;rw[lN h];unfold St.upto;rw[jV];simp only[St.dT,if_true];rw[aV];have hb:Ch.bytes s fD (k-fD)++Ch.bytes s k (wid s k)=Ch.bytes s fD (k+wid s k-fD):=by
  have:=oD s fD (k-fD) (wid s k);rw[show fD+(k-fD)=k by omega]at this;rw[this];congr 1;omega
 rw[hb];congr 1;funext m;split
 ·by_cases h0:st.run j=[]
  ·rw[h0];by_cases hf:fD<k
   ·have hne:=uO s (i:=fD) (n:=k-fD) (by omega) (by omega);rw[if_neg (by simpa using hne),if_pos ⟨rfl,hf⟩,if_pos ⟨rfl,by omega⟩]
   ·have e:fD=k:=by omega
    subst e;have:Ch.bytes s fD (fD-fD)=[]:=by unfold Ch.bytes;simp
    rw[this,if_pos (by simp),if_pos ⟨rfl,by omega⟩]
  ·rw[if_neg (by simp[h0]),if_neg (fun e=>h0 e.1),if_neg (fun e=>h0 e.1)]
 ·rfl
theorem LQ(st:St)(s:ByteArray)(j:Rn)(fD k:Nat):(st.upto s j fD k).told=st.told:=rfl
theorem LR{a b d:UInt8}(hp:Plain [a,b,d])(i:Nat):Ch.has s i [a,b,d]=true↔cur s i=(a.toNat:Int)/\cur s (i+1)=(b.toNat:Int)/\cur s (i+2)=(d.toNat:Int):=by
 rw[Kc hp];constructor
 ·intro h;exact⟨h 0 (by simp),h 1 (by simp),h 2 (by simp)⟩
 ·rintro⟨h1,h2,h3⟩ k hk
  match k,hk with
  |0,_=>exact h1
  |1,_=>exact h2
  |2,_=>exact h3
theorem Dd(fD:Nat):∀(f:Nat) (x:Sc),x.err=0->x.i<=s.size->fD<=x.i->s.size+1<x.i+f->st.told=x.l->
  Alike s x (fM s ⟨#[93,93,62]⟩ fD f x).1 (runs g s x.i (.plain .gH) (st.upto s .text fD x.i)) (fun j=>runs g s j (.plain .between) (st.upto s .text fD (j-3))):=by
 intro f;induction f with
 |zero=>intro x he hi hg hf;omega
 |succ f ih=>
  intro x he hi hg hf ht;rw[mY _ _ _ _ _ he (by show 3≠0;decide)];have hh:Ch.has s x.i [93,93,62]=true↔cur s x.i=93/\cur s (x.i+1)=93/\cur s (x.i+2)=62:=LR (s:=s) (by decide) x.i;by_cases h0:0<=cur s x.i
  ·have hp:=eF h0;by_cases h1:cur s x.i=93
   ·have hw:=fo h0 (by omega);have e:b_ (.plain .gH) x.i (st.upto s .text fD x.i) (cur s x.i)=⟨st.upto s .text fD x.i,.go (.plain .bracket)⟩:=by simp only[b_,step,fw];rw[if_pos h1]
    have hput:=Fw st s .text fD x.i hg h0;rw[hw,h1]at hput;rw[eN e h0];have key:¬(cur s (x.i+1)=93/\cur s (x.i+2)=62)->runs g s (x.i+wid s x.i) (.plain .bracket) (st.upto s .text fD x.i)=runs g s (x.i+1) (.plain .gH) (st.upto s .text fD (x.i+1)):=by
     intro hno;rw[hw];by_cases h2:cur s (x.i+1)=93
     ·have hw2:=fo (s:=s) (i:=x.i+1) (by omega) (by omega);have e2:b_ (.plain .bracket) ((x.i+1:Nat):Int) (st.upto s .text fD x.i) (cur s (x.i+1))=⟨st.upto s .text fD x.i,.go (.plain .brackets)⟩:=by simp only[b_,step,fx];rw[if_pos h2]
      have e3:b_ (.plain .gH) ((x.i+1:Nat):Int) (st.upto s .text fD (x.i+1)) (cur s (x.i+1))=⟨st.upto s .text fD (x.i+1),.go (.plain .bracket)⟩:=by simp only[b_,step,fw];rw[if_pos h2]
      rw[eN e2 (by omega),eN e3 (by omega),hw2];have h3:¬cur s (x.i+2)=62:=fun e=>hno ⟨h2,e⟩;refine mF ?_ rfl (fun⟨o,h⟩=>by cases tI h);simp only[b_,step];rw[show x.i+1+1=x.i+2 by omega,if_neg h3,show ((x.i+2:Nat):Int)-2=(x.i:Int) by omega,hput]
     ·refine mF ?_ rfl (fun⟨o,h⟩=>by cases tI h);simp only[b_,step,fx];rw[if_neg h2,show ((x.i+1:Nat):Int)-1=(x.i:Int) by omega,hput]
    by_cases hs:cur s (x.i+1)=93/\cur s (x.i+2)=62
    ·rw[if_pos (hh.2 ⟨h1,hs⟩)];have hw2:=fo (s:=s) (i:=x.i+1) (by omega) (by omega);have hw3:=fo (s:=s) (i:=x.i+2) (by omega) (by omega);have XI:=eF (s:=s) (i:=x.i+2) (by omega);have e2:b_ (.plain .bracket) ((x.i+1:Nat):Int) (st.upto s .text fD x.i) (cur s (x.i+1))=⟨st.upto s .text fD x.i,.go (.plain .brackets)⟩:=by simp only[b_,step,fx];rw[if_pos hs.1]
     have e3:b_ (.plain .brackets) ((x.i+1+1:Nat):Int) (st.upto s .text fD x.i) (cur s (x.i+1+1))=⟨st.upto s .text fD x.i,.go (.plain .between)⟩:=by simp only[b_,step];rw[if_pos hs.2]
     rw[hw,eN e2 (by omega),hw2,eN e3 (by show 0<=cur s (x.i+2);omega)];refine Or.inl ⟨he,by show x.i<=x.i+3;omega,by show x.i+3<=_;omega,rfl,?_⟩;show _=runs g s (x.i+3) _ (st.upto s .text fD (x.i+3-3));rw[show x.i+3-3=x.i by omega,show x.i+1+1+wid s (x.i+1+1)=x.i+3 by have:wid s (x.i+1+1)=wid s (x.i+2):=rfl;omega]
    ·rw[if_neg (fun h=>hs (hh.1 h).2),if_pos h0,key hs,hw];exact(ih {x with i:=x.i+1} he (by show x.i+1<=_;omega) (by show fD<=x.i+1;omega) (by show _<x.i+1+f;omega) ht).on (by omega)
   ·rw[if_neg (fun h=>h1 (hh.1 h).1),if_pos h0];have e:b_ (.plain .gH) x.i (st.upto s .text fD x.i) (cur s x.i)=⟨st.upto s .text fD (x.i+wid s x.i),.go (.plain .gH)⟩:=by simp only[b_,step,fw];rw[if_neg h1,if_neg (by omega),Fw st s .text fD x.i hg h0]
    rw[eN e h0];exact(ih {x with i:=x.i+wid s x.i} he (by show x.i+wid s x.i<=_;omega) (by show fD<=x.i+wid s x.i;omega) (by show _<x.i+wid s x.i+f;omega) ht).on (by omega)
  ·rw[if_neg (fun h=>by have:=(hh.1 h).1;omega),if_neg h0,iY _ _ _ _ _ (eK x s he)];refine Alike.wrong he ?_;have e:b_ (.plain .gH) x.i (st.upto s .text fD x.i) (cur s x.i)=⟨st.upto s .text fD x.i,.fail (Tk.why (cur s x.i)) x.i⟩:=by simp only[b_,step,fw];rw[if_neg (by omega),if_pos (by omega)]
   rw[fG e,LQ,ht]
theorem yZ(s t:ByteArray)(hz:t.size≠0)(fD:Nat):∀(f:Nat) (x:Sc),x.err=0->(fM s t fD f x).1.err=0->s.size+1<x.i+f->x.i<=s.size->(fM s t fD f x).2=s.extract fD ((fM s t fD f x).1.i-t.size)/\x.i+t.size<=(fM s t fD f x).1.i:=by
 intro f;induction f with
 |zero=>intro x he h1 h2;omega
 |succ f ih=>
  intro x he h1 h2 hi;rw[mY _ _ _ _ _ he hz]at h1 ⊢;split
  ·simp
  ·rename_i hn;rw[if_neg hn]at h1;split
   ·rename_i h0;rw[if_pos h0]at h1;have hp:=eF h0;have:=ih {x with i:=x.i+wid s x.i} he h1 (by show _<x.i+wid s x.i+f;omega) (by show x.i+wid s x.i<=_;omega);refine⟨this.1,?_⟩;have h3:x.i+wid s x.i+t.size<=_:=this.2;omega
   ·rename_i h0;rw[if_neg h0,iY _ _ _ _ _ (eK x s he)]at h1;exact absurd h1 (eK x s he)
end
section
def inside(c:Int):Prop:=Tk.pN c=true/\c≠59
instance (c:Int):Decidable (inside c):=by unfold inside;infer_instance
namespace Ch
open Go.Proofs.YtclgfepngpeifaaGreatDoor.Ch
theorem Ip{b r:Int}(hb:b<=16)(h:¬b<=lY 16 r):inside r:=by
 have hd:(48<=r/\r<=57)\/(97<=r/\r<=102)\/(65<=r/\r<=70):=by
  unfold lY at h;split at h
  ·left;assumption
  ·split at h
   ·right;left;assumption
   ·split at h
    ·right;right;assumption
    ·omega
 refine⟨?_,by omega⟩;unfold Tk.pN;simp only[bm,aT,bk,aR,fA,iG];omega
theorem LU(u:ByteArray)(b:Int)(hb:b<=16):∀f pos n,(ek u b f pos n).2≠0->
  ∃e:Nat,(ek u b f pos n).2=(e:Int)+1/\pos<=e/\bz u e=59/\∀j,pos<=j->j<e->inside (bz u j):=by
 intro f;induction f with
 |zero=>intro pos n h;exact absurd rfl h
 |succ f ih=>
  intro pos n;rw[ek.eq_2];split
  ·rename_i mP;split
   ·intro _;exact⟨pos,rfl,au _,mP,fun j h1 h2=>by omega⟩
   ·intro h;exact absurd rfl h
  ·split
   ·intro h;exact absurd rfl h
   ·rename_i hd;intro h;obtain⟨e,h1,h2,h3,h4⟩:=ih (pos+1) _ h;refine⟨e,h1,by omega,h3,fun j XH Rk=>?_⟩;by_cases e:j=pos
    ·subst e;exact Ip hb hd
    ·exact h4 j (by omega) Rk
theorem PD(u v:ByteArray)(b:Int)(hb:b<=16):∀(f g pos:Nat) (n:Int),(ek u b f pos n).2≠0->(∀j:Nat,pos<=j->(j:Int)<(ek u b f pos n).2->bz v j=bz u j)->v.size<pos+g->
  ek v b g pos n=ek u b f pos n:=by
 intro f;induction f with
 |zero=>intro g pos n h;exact absurd rfl h
 |succ f ih=>
  intro g pos n h hs hg;have hlt:(pos:Int)<(ek u b (f+1) pos n).2:=by
   rcases qm u b (f+1) pos n with e|⟨_,h1,_⟩
   ·rw[e]at h;exact absurd rfl h
   ·omega
  have h0:bz v pos=bz u pos:=hs pos (au _) hlt;rw[ek.eq_2]at h hs ⊢;have Yl:g≠0:=by
   intro e;subst e;have:bz v pos= -1:=by unfold bz;rw[if_neg (by omega)]
   rw[this]at h0;have hx:lY 16 (bz u pos)=16:=J0 _ (by omega);rw[if_neg (by omega),if_pos (by omega)]at h;exact absurd rfl h
  obtain⟨g,rfl⟩:∃k,g=k+1:=⟨g-1,by omega⟩
  rw[ek.eq_2 v,h0];split
  ·rfl
  ·rename_i mP;rw[if_neg mP]at h hs;split
   ·rfl
   ·rename_i hx;rw[if_neg hx]at h hs;exact ih g (pos+1) _ h (fun j h1 h2=>hs j (by omega) h2) (by omega)
theorem y_(u v:ByteArray)(p:Nat)(b:Int)(hb:b<=16)(h:(fE u p b).2≠0)(hs:∀j:Nat,p<=j->(j:Int)<p+(fE u p b).2->bz v j=bz u j):fE v p b=fE u p b:=by
 unfold fE at h hs ⊢;split at h
 ·exact absurd rfl h
 ·rename_i hz;rw[if_neg hz]at hs ⊢;have e:=PD u v b hb _ (v.size-p+1) p 0 hz (fun j h1 h2=>hs j h1 (by simp only;omega)) (by omega);rw[e,if_neg hz]
theorem Fx{s:ByteArray}{p:Nat}{b:Int}(hb:b<=16)(h:(fE s p b).2≠0):∃e:Nat,(p:Int)+(fE s p b).2=(e:Int)+1/\p<=e/\bz s e=59/\∀j,p<=j->j<e->inside (bz s j):=by
 unfold fE at*
 split at h
 ·exact absurd rfl h
 ·rename_i hz;rw[if_neg hz];obtain⟨e,h1,h2⟩:=LU s b hb _ _ _ hz;exact⟨e,by simp only;omega,h2⟩
theorem wV{s:ByteArray}{i:Nat}(h:(ed s i).2≠0):∃e:Nat,(i:Int)+(ed s i).2=(e:Int)+1/\i<e/\bz s e=59/\∀j,i<j->j<e->inside (bz s j):=by
 have key:∀(l:List UInt8) (m:Nat),l.length=m+1->has s i l=true->1<=m->l[m]?=some 59->(∀k,1<=k->k<m->∀c,l[k]?=some c->inside (c.toNat:Int))->∃e:Nat,(i:Int)+(l.length:Int)=(e:Int)+1/\i<e/\bz s e=59/\∀j,i<j->j<e->inside (bz s j):=by
  intro l m hl hh hm mP nB;have hb:=mQ s l i hh;refine⟨i+m,by omega,by omega,?_,?_⟩
  ·have:=hb m (by omega);rw[aF (by omega)]at mP;cases abM:l[m];simp_all
  ·intro j h1 h2;have:=hb (j-i) (by omega);rw[show i+(j-i)=j by omega]at this;rw[this];exact nB (j-i) (by omega) (by omega) _ (aF (by omega))
 have Zk:∀(k:Nat) (b:Int) (l:List UInt8),2<=k->b<=16->l.length=k->has s i l=true->(∀j,1<=j->j<k->∀c,l[j]?=some c->inside (c.toNat:Int))->(fE s (i+k) b).2≠0->∃e:Nat,(i:Int)+((k:Int)+(fE s (i+k) b).2)=(e:Int)+1/\i<e/\bz s e=59/\∀j,i<j->j<e->inside (bz s j):=by
  intro k b l hk hb hl hh nB hn;obtain⟨e,h1,h2,h3,h4⟩:=Fx hb hn;have hz:=mQ s l i hh;refine⟨e,by omega,by omega,h3,fun j XH Rk=>?_⟩;by_cases hj:i+k<=j
  ·exact h4 j hj Rk
  ·have:=hz (j-i) (by omega);rw[show i+(j-i)=j by omega]at this;rw[this];exact nB (j-i) (by omega) (by omega) _ (aF (by omega))
 unfold ed at h ⊢;split
 ·rename_i hh;exact key _ 3 rfl hh (by decide) rfl (by intro k h1 h2 c hc;have:k=1\/k=2:=(by omega);rcases this with rfl|rfl<;>(simp at hc;subst hc;decide))
 rename_i n1;rw[if_neg n1]at h;split
 ·rename_i hh;exact key _ 3 rfl hh (by decide) rfl (by intro k h1 h2 c hc;have:k=1\/k=2:=(by omega);rcases this with rfl|rfl<;>(simp at hc;subst hc;decide))
 rename_i n2;rw[if_neg n2]at h;split
 ·rename_i hh;exact key _ 4 rfl hh (by decide) rfl (by intro k h1 h2 c hc;have:k=1\/k=2\/k=3:=(by omega);rcases this with rfl|rfl|rfl<;>(simp at hc;subst hc;decide))
 rename_i n3;rw[if_neg n3]at h;split
 ·rename_i hh;exact key _ 5 rfl hh (by decide) rfl (by intro k h1 h2 c hc;have:k=1\/k=2\/k=3\/k=4:=(by omega);rcases this with rfl|rfl|rfl|rfl<;>(simp at hc;subst hc;decide))
 rename_i n4;rw[if_neg n4]at h;split
 ·rename_i hh;exact key _ 5 rfl hh (by decide) rfl (by intro k h1 h2 c hc;have:k=1\/k=2\/k=3\/k=4:=(by omega);rcases this with rfl|rfl|rfl|rfl<;>(simp at hc;subst hc;decide))
 rename_i n5;rw[if_neg n5]at h;split
 ·rename_i hh;rw[if_pos hh]at h;split at h
  ·exact absurd rfl h
  ·rename_i hn;rw[if_neg hn];exact Zk 3 16 _ (by decide) (by decide) rfl hh (by intro k h1 h2 c hc;have:k=1\/k=2:=(by omega);rcases this with rfl|rfl<;>(simp at hc;subst hc;decide)) hn
 rename_i n6;rw[if_neg n6]at h;split
 ·rename_i hh;rw[if_pos hh]at h;split at h
  ·exact absurd rfl h
  ·rename_i hn;rw[if_neg hn];exact Zk 2 10 _ (by decide) (by decide) rfl hh (by intro k h1 h2 c hc;have:k=1:=(by omega);subst this;simp at hc;subst hc;decide) hn
 ·rename_i n7;rw[if_neg n7]at h;exact absurd rfl h
theorem PF{s:ByteArray}{l:List UInt8}{i:Nat}:has s i l=true↔∀k (h:k<l.length),bz s (i+k)=((l[k]).toNat:Int):=by
 refine⟨mQ s l i,?_⟩;induction l generalizing i with
 |nil=>intro _;rfl
 |cons c l ih=>
  intro h;simp only[has,aT,bk];refine⟨h 0 (by simp),ih fun k hk=>?_⟩;have:=h (k+1) (by simpa using hk);simpa [cM,Nat.add_comm 1 k]using this
theorem uP{u v:ByteArray}{l:List UInt8}{n:Nat}(hl:l.length<=n)(hs:∀j:Nat,j<n->bz v j=bz u j):has v 0 l=has u 0 l:=by
 rw[bC,PF,PF];constructor
 ·intro h k hk;rw[<-hs (0+k) (by omega)];exact h k hk
 ·intro h k hk;rw[hs (0+k) (by omega)];exact h k hk
theorem Kd{s:ByteArray}{i:Nat}{l:List UInt8}(k:Nat)(hk:k<l.length)(h:bz s (i+k)≠((l[k]).toNat:Int)):¬has s i l=true:=fun e=>h (mQ s l i e k hk)
theorem ze{u v:ByteArray}(h:(ed u 0).2≠0)(hs:∀j:Nat,(j:Int)<(ed u 0).2->bz v j=bz u j):ed v 0=ed u 0:=by
 have h4:=(iK h).2.1;have s0:=hs 0 (by omega);have s1:=hs 1 (by omega);have s2:=hs 2 (by omega);have s3:=hs 3 (by omega);have q:∀l:List UInt8,l.length<=4->has v 0 l=has u 0 l:=fun l hl=>uP (n:=4) hl (fun j hj=>hs j (by omega));have hq1:=q [38,108,116,59] (by decide);have hq2:=q [38,103,116,59] (by decide);have hq6:=q [38,35,120] (by decide);have hq7:=q [38,35] (by decide);unfold ed at h hs ⊢;rw[hq1,hq2,hq6,hq7];by_cases n1:has u 0 [38,108,116,59]=true
 ·rw[if_pos n1,if_pos n1]
 rw[if_neg n1]at h hs ⊢;rw[if_neg n1];by_cases n2:has u 0 [38,103,116,59]=true
 ·rw[if_pos n2,if_pos n2]
 rw[if_neg n2]at h hs ⊢;rw[if_neg n2];have other:∀(l:List UInt8) (c:UInt8),l[1]?=some c->bz u 1≠(c.toNat:Int)->¬has v 0 l=true:=by
  intro l c hc hne;have hk:1<l.length:=by
   by_cases hk:1<l.length
   ·exact hk
   ·rw[cK (by omega)]at hc;cases hc
  refine Kd 1 hk ?_;rw[aF hk]at hc;cases hc;rw[aG,s1];exact hne
 by_cases n3:has u 0 [38,97,109,112,59]=true
 ·rw[if_pos n3]at hs ⊢;have e3:has v 0 [38,97,109,112,59]=true:=(uP (n:=5) (by decide) (fun j hj=>hs j (by simp only;omega))).trans n3;rw[if_pos e3]
 rw[if_neg n3]at h hs ⊢;by_cases n4:has u 0 [38,113,117,111,116,59]=true
 ·have hb:=mQ u _ 0 n4 1 (by decide);rw[if_pos n4]at hs ⊢;have e4:has v 0 [38,113,117,111,116,59]=true:=(uP (n:=6) (by decide) (fun j hj=>hs j (by simp only;omega))).trans n4;rw[if_neg (other _ 97 rfl (by rw[aG]at hb;rw[hb];decide)),if_pos e4]
 rw[if_neg n4]at h hs ⊢;by_cases n5:has u 0 [38,97,112,111,115,59]=true
 ·have hb:=mQ u _ 0 n5 1 (by decide);have hb2:=mQ u _ 0 n5 2 (by decide);rw[if_pos n5]at hs ⊢;have e5:has v 0 [38,97,112,111,115,59]=true:=(uP (n:=6) (by decide) (fun j hj=>hs j (by simp only;omega))).trans n5;have x3:¬has v 0 [38,97,109,112,59]=true:=Kd 2 (by decide) (by rw[aG,s2];rw[aG]at hb2;rw[hb2];decide);rw[if_neg x3,if_neg (other _ 113 rfl (by rw[aG]at hb;rw[hb];decide)),if_pos e5]
 rw[if_neg n5]at h hs ⊢;by_cases n6:has u 0 [38,35,120]=true
 ·have hb:=mQ u _ 0 n6 1 (by decide);rw[aG]at hb;have hb':bz u 1=35:=hb;rw[if_pos n6]at h hs ⊢;rw[if_neg (other _ 97 rfl (by rw[hb'];decide)),if_neg (other _ 113 rfl (by rw[hb'];decide)),if_neg (other _ 97 rfl (by rw[hb'];decide)),if_pos n6];by_cases hz:(fE u (0+3) 16).2=0
  ·rw[if_pos hz]at h;exact absurd rfl h
  ·rw[if_neg hz]at hs;rw[y_ u v (0+3) 16 (by decide) hz (fun j h1 h2=>hs j (by simp only;omega))]
 rw[if_neg n6]at h hs ⊢;by_cases n7:has u 0 [38,35]=true
 ·have hb:=mQ u _ 0 n7 1 (by decide);rw[aG]at hb;have hb':bz u 1=35:=hb;rw[if_pos n7]at h hs ⊢;rw[if_neg (other _ 97 rfl (by rw[hb'];decide)),if_neg (other _ 113 rfl (by rw[hb'];decide)),if_neg (other _ 97 rfl (by rw[hb'];decide)),if_neg n6,if_pos n7];by_cases hz:(fE u (0+2) 10).2=0
  ·rw[if_pos hz]at h;exact absurd rfl h
  ·rw[if_neg hz]at hs;rw[y_ u v (0+2) 10 (by decide) hz (fun j h1 h2=>hs j (by simp only;omega))]
 ·rw[if_neg n7]at h;exact absurd rfl h
end Ch
end
section
variable{g:St->List eX}{s:ByteArray}{i:Nat}{pt jC:Part}{st gV:St}{no q c:Int}{x y:Sc}
theorem uQ{c:Int}(h:inside c):35<=c/\c<128:=by
 obtain⟨h,_⟩:=h;have:=rM h;simp only[Tk.pN,bm,aT,bk,aR,Ch.fA,Ch.iG]at h;omega
theorem zf{c:Int}(h0:32<=c)(h1:c<128):cur s i=c↔Ch.bz s i=c:=by
 have:=jI (s:=s) (i:=i) (c:=c.toNat) (by omega);rw[show ((c.toNat:Nat):Int)=c by omega]at this;rw[this];unfold Ch.bz;split
 ·rename_i h;simp only[h,dw];omega
 ·rename_i h;simp only[h,false_and,false_iff];omega
theorem PG(s:ByteArray)(i n k:Nat)(h:i+n<=s.size)(hk:k<n):Ch.bz (Ch.txt (Ch.bytes s i n)) k=Ch.bz s (i+k):=by
 rw[Ch.vX];unfold Ch.bytes;rw[List.getElem?_take_of_lt hk,List.getElem?_drop];have hz:s.data.toList.length=s.size:=by simp
 rw[aF (by omega)];unfold Ch.bz;rw[if_pos (by omega)];have hd:i+k<s.data.size:=by have:s.data.size=s.size:=rfl;omega
 have hg:s.get! (i+k)=s.data[i+k]:=getElem!_pos s.data (i+k) hd;rw[hg];simp
theorem Iq(s:ByteArray)(i n:Nat)(h:i+n<=s.size):(Ch.txt (Ch.bytes s i n)).size=n:=by
 rw[Ch.lT];unfold Ch.bytes;have hz:s.data.toList.length=s.size:=by simp
 rw[bI,b9];omega
theorem Fy(s:ByteArray)(i p:Nat)(nD:Ch.bz s i=38)(hp:i<p)(mP:Ch.bz s p=59)(JR:p<s.size)(nB:∀m,i<m->m<p->inside (Ch.bz s m)):
  ((Ch.ed s i).2≠0->(Ch.ed s i).2=(p+1-i:Nat)/\Ch.jZ (Ch.txt (Ch.bytes s i (p+1-i)))=(Lib.encodeRune (Ch.ed s i).1,0,0))/\((Ch.ed s i).2=0->(Ch.jZ (Ch.txt (Ch.bytes s i (p+1-i)))).2.1≠0):=by
 have hsz:=Iq s i (p+1-i) (by omega);have On:=fun k hk=>PG s i (p+1-i) k (by omega) hk;generalize hv:Ch.txt (Ch.bytes s i (p+1-i))=v at*
 have ht:∀k,k<p+1-i->Ch.bz (Ch.tail s i) k=Ch.bz v k:=fun k hk=>by rw[Ch.uD,On k hk]
 have v38:Ch.bz v 0=38:=by rw[On 0 (by omega)];exact nD
 have iH:Ch.gb v 0=true:=by
  have hd:=Ch.gi (s:=v) (i:=0) (by omega) (by omega);unfold Ch.gb;rw[hd,v38];decide
 constructor
 ·intro hn;obtain⟨e,h1,h2,h3,h4⟩:=Ch.wV hn;have he:e=p:=by
   rcases Nat.lt_trichotomy e p with hlt|rfl|NG
   ·exact absurd h3 (nB e h2 hlt).2
   ·rfl
   ·exact absurd mP (h4 p hp NG).2
  subst he;have hlen:(Ch.ed s i).2=(e+1-i:Nat):=by omega
  refine⟨hlen,?_⟩;have hr:Ch.ed v 0=Ch.ed s i:=by
   have h5:Ch.ed (Ch.tail s i) 0=Ch.ed s i:=Ch.tE s i;rw[<-h5];rw[<-h5]at hn hlen;exact Ch.ze hn (fun j hj=>(ht j (by omega)).symm)
  unfold Ch.jZ;have hstep:=Ch.A7 (s:=v) (f:=v.size) (pos:=0) (acc:=[]) (by omega) iH v38 (by rw[hr];exact hn) rfl;rw[<-hstep,hr,hlen];rw[hsz];obtain⟨g,hg⟩:∃g,e+1-i=g+1:=⟨e-i,by omega⟩
  rw[hg];have hend:=Ch.A6 (s:=v) (f:=g) (pos:=0+((g+1:Nat):Int).toNat) (acc:=[]++Lib.encodeRune (Ch.ed s i).1) (by rw[hsz];simp;omega) rfl;rw[hend];simp
 ·intro hn;have hr:(Ch.ed v 0).2=0:=by
   by_cases h5:(Ch.ed v 0).2=0
   ·exact h5
   ·exfalso;have hsp:=Ch.iK h5;have:=Ch.ze (u:=v) (v:=Ch.tail s i) h5 (fun j hj=>ht j (by omega));rw[Ch.tE]at this;rw[this]at hn;exact h5 hn
  unfold Ch.jZ;have:=Ch.wP (s:=v) (f:=v.size) (pos:=0) (acc:=[]) (by omega) iH v38 hr rfl;rw[this];simp
theorem Ir(st:St)(j:Rn)(q:Int)(hm:Ch.may c=true):st.nV j ⟨(Lib.encodeRune c).toArray⟩ q=st.put j c q:=by
 have hv:=Ch.gD hm;have hd:=Ch.xF hv [];rw[aP]at hd;have hz:(⟨(Lib.encodeRune c).toArray⟩:ByteArray).size=(Lib.encodeRune c).length:=Ch.lT _;have hp:=Ch.CO c;have hd':Utf8.decode ⟨(Lib.encodeRune c).toArray⟩ 0=(c.toNat,(Lib.encodeRune c).length):=hd;have h0:0<=c:=by have:=(Ch.lG c).1 hm;omega
 unfold St.nV;obtain⟨g,hg⟩:∃g,(⟨(Lib.encodeRune c).toArray⟩:ByteArray).size=g+1:=⟨_,(by omega:_=((⟨(Lib.encodeRune c).toArray⟩:ByteArray).size-1)+1)⟩
 rw[hg];simp only[fN,hd',hg];rw[if_pos (by omega),if_neg (by omega),show ((c.toNat:Nat):Int)=c by omega]
def Bz(g:St->List eX)(s:ByteArray)(i:Nat)(j:Rn)(k:Pl)(st:St):List eX×Int×Int:=
 if(Ch.ed s i).2=0 then(st.told,4,(i:Int))else runs g s (i+(Ch.ed s i).2.toNat) (.plain k) ((st.dT .ref (Ch.bytes s i (Ch.ed s i).2.toNat) i).put j (Ch.ed s i).1 i)
theorem LV(j:Rn)(k:Pl)(i:Nat)(st:St)(nD:Ch.bz s i=38):∀(n p:Nat),s.size-p<n->i<p->p<=s.size->(∀m,i<m->m<p->inside (Ch.bz s m))->
  runs g s p (.ref j k) (st.dT .ref (Ch.bytes s i (p-i)) i)=Bz g s i j k st:=by
 intro n;induction n with
 |zero=>intro p h;omega
 |succ n ih=>
  intro p hn hp JR nB;have hne:=uO s (i:=i) (n:=p-i) (by omega) (by omega);have put:∀c:Int,0<=cur s p->cur s p=c->c<128->(st.dT .ref (Ch.bytes s i (p-i)) i).put .ref c p=st.dT .ref (Ch.bytes s i (p+1-i)) i:=by
   intro c h0 hc h1;subst hc;have hw:=fo h0 h1;unfold St.put;rw[lN h0,hw,jV];simp only[St.dT,if_true];rw[if_neg (by simpa using hne)];have:=oD s i (p-i) 1;rw[show i+(p-i)=p by omega,show p-i+1=p+1-i by omega]at this;rw[this]
  by_cases hi:inside (cur s p)
  ·have hr:=uQ hi;have hc:=eF (s:=s) (i:=p) (by omega);have hw:=fo (s:=s) (i:=p) (by omega) hr.2;have e:b_ (.ref j k) p (st.dT .ref (Ch.bytes s i (p-i)) i) (cur s p)=⟨st.dT .ref (Ch.bytes s i (p+1-i)) i,.go (.ref j k)⟩:=by simp only[b_,nG];rw[if_pos hi.1,if_neg hi.2,put _ (by omega) rfl hr.2]
   rw[eN e (by omega),hw];refine ih (p+1) (by omega) (by omega) (by omega) fun m h1 h2=>?_;by_cases hm:m=p
   ·subst hm;rw[(zf (by omega) hr.2).1 rfl];exact hi
   ·exact nB m h1 (by omega)
  ·by_cases mP:cur s p=59
   ·have b59:=(zf (by omega) (by omega)).1 mP;have hc:=eF (s:=s) (i:=p) (by omega);have hw:=fo (s:=s) (i:=p) (by omega) (by omega);obtain⟨u1,u2⟩:=Fy s i p nD hp b59 hc.1 nB;have hrun:(st.dT .ref (Ch.bytes s i (p+1-i)) i).run .ref=Ch.bytes s i (p+1-i):=by simp[St.dT]
    have hat:(st.dT .ref (Ch.bytes s i (p+1-i)) i).eP .ref=(i:Int):=by simp[St.dT]
    unfold Bz;by_cases hz:(Ch.ed s i).2=0
    ·rw[if_pos hz];have e:b_ (.ref j k) p (st.dT .ref (Ch.bytes s i (p-i)) i) (cur s p)=⟨st.dT .ref (Ch.bytes s i (p+1-i)) i,.fail 4 i⟩:=by
      simp only[b_,nG];rw[if_pos (by rw[mP];decide),if_pos mP,put 59 (by omega) mP (by omega)];unfold ju;rw[hrun,hat];have u2':¬(Ch.jZ ⟨(Ch.bytes s i (p+1-i)).toArray⟩).2.1=0:=u2 hz;rw[if_neg u2']
     rw[fG e];rfl
    ·rw[if_neg hz];obtain⟨v1,v2⟩:=u1 hz;have hm:=(Ch.iK hz).1;have e:b_ (.ref j k) p (st.dT .ref (Ch.bytes s i (p-i)) i) (cur s p)=⟨(st.dT .ref (Ch.bytes s i (p+1-i)) i).put j (Ch.ed s i).1 i,.go (.plain k)⟩:=by
      simp only[b_,nG];rw[if_pos (by rw[mP];decide),if_pos mP,put 59 (by omega) mP (by omega)];unfold ju;rw[hrun,hat];have v2':Ch.jZ ⟨(Ch.bytes s i (p+1-i)).toArray⟩=(Lib.encodeRune (Ch.ed s i).1,0,0):=v2;rw[v2',if_pos rfl,Ir _ _ _ hm]
     rw[eN e (by omega),hw,v1];congr 1;simp;omega
   ·have hno:¬Tk.pN (cur s p)=true:=fun e=>hi ⟨e,mP⟩;have e:b_ (.ref j k) p (st.dT .ref (Ch.bytes s i (p-i)) i) (cur s p)=⟨st.dT .ref (Ch.bytes s i (p-i)) i,.fail 4 i⟩:=by simp only[b_,nG];rw[if_neg hno];simp[St.dT]
    have hz:(Ch.ed s i).2=0:=by
     by_cases hz:(Ch.ed s i).2=0
     ·exact hz
     ·exfalso;obtain⟨e,h1,h2,h3,h4⟩:=Ch.wV hz;rcases Nat.lt_trichotomy e p with hlt|rfl|NG
      ·exact absurd h3 (nB e h2 hlt).2
      ·exact mP ((zf (by omega) (by omega)).2 h3)
      ·have hb:=h4 p hp NG;have hr:=uQ hb;rw[(zf (c:=Ch.bz s p) (by omega) hr.2).2 rfl]at hno;exact hno hb.1
    unfold Bz;rw[fG e,if_pos hz];rfl
theorem Fz(j:Rn)(k:Pl)(i:Nat)(st:St)(nD:cur s i=38):runs g s (i+wid s i) (.ref j k) ((st.clear .ref).put .ref 38 i)=Bz g s i j k st:=by
 have hc:=eF (s:=s) (i:=i) (by omega);have hw:=fo (s:=s) (i:=i) (by omega) (by omega);have e:(st.clear .ref).put .ref 38 i=st.dT .ref (Ch.bytes s i (i+1-i)) i:=by
  have h1:=lN (s:=s) (i:=i) (by omega);rw[hw,nD]at h1;unfold St.put St.clear;rw[jV];simp only[St.dT,if_true];rw[h1,show i+1-i=1 by omega];simp
 rw[e,hw];exact LV j k i st ((zf (by omega) (by omega)).1 nD) (s.size+1) (i+1) (by omega) (by omega) (by omega) (fun m h1 h2=>by omega)
theorem uR(he:x.err=0)(jU:Nat)(hb:32<=jU/\jU<128):x.char s jU=
  if cur s x.i<0\/cur s x.i=60\/cur s x.i=(jU:Int)then(x.wrong s,⟨#[]⟩)
  else if cur s x.i=38 then(if(Ch.ed s x.i).2=0 then(x.fail 4 x.i,⟨#[]⟩)else({x with i:=x.i+(Ch.ed s x.i).2.toNat},⟨(Lib.encodeRune (Ch.ed s x.i).1).toArray⟩))
  else({x with i:=x.i+wid s x.i},s.extract x.i (x.i+wid s x.i)):=by
 have XM:cur s x.i=60↔x.i<s.size/\(s.get! x.i).toNat=60:=jI (s:=s) (i:=x.i) (c:=60) (by omega);have b38:cur s x.i=38↔x.i<s.size/\(s.get! x.i).toNat=38:=jI (s:=s) (i:=x.i) (c:=38) (by omega);have bb:=jI (s:=s) (i:=x.i) (c:=jU) (by omega);unfold Sc.char;by_cases hi:x.i<s.size
 ·simp only[hi,dw]at XM b38 bb;rw[if_pos hi];by_cases Oh:(s.get! x.i).toNat=60\/(s.get! x.i).toNat=jU
  ·rw[if_pos Oh,if_pos (Or.inr (Oh.imp XM.2 bb.2))]
  ·have h1:¬(cur s x.i=60\/cur s x.i=(jU:Int)):=fun h=>Oh (h.imp XM.1 bb.1);rw[if_neg Oh];by_cases h2:(s.get! x.i).toNat=38
   ·have UA:cur s x.i=38:=b38.2 h2;have De:¬(cur s x.i<0\/cur s x.i=60\/cur s x.i=(jU:Int)):=by rintro(h|h);omega;exact h1 h
    rw[if_pos h2,if_neg De,if_pos UA];unfold js;by_cases hz:(Ch.ed s x.i).2=0
    ·rw[if_pos hz,if_pos hz];rfl
    ·have hsp:=Ch.iK hz;rw[if_neg hz,if_neg hz];rw[if_neg (by simp only;omega)];congr 2;simp only;omega
   ·have UA:¬cur s x.i=38:=fun h=>h2 (b38.1 h);rw[if_neg h2];by_cases h0:0<=cur s x.i
    ·have De:¬(cur s x.i<0\/cur s x.i=60\/cur s x.i=(jU:Int)):=by rintro(h|h);omega;exact h1 h
     rw[if_neg (by rw[qJ];simpa using h0),if_neg De,if_neg UA,Db,if_pos h0];simp
    ·rw[if_pos ((qJ _ _).2 h0),if_pos (Or.inl (by omega))];rcases rN h0 with⟨_,h5⟩|⟨h5,_⟩
     ·rw[gB he,h5];unfold Sc.fail;rw[if_pos he];rfl
     ·exact absurd hi h5
 ·rw[if_neg hi,if_pos (Or.inl (by unfold cur;rw[if_neg hi];decide))]
end
section
variable{g:St->List eX}{s:ByteArray}{i:Nat}{pt jC:Part}{st gV:St}{no q c:Int}{x y:Sc}
structure BA(x:Sc)(st:St):Prop where
 told:st.told=x.l
 text:st.run .text=x.more
 from_:x.more≠[]->st.eP .text=x.fD
theorem BA.same(h:BA x st)(h1:gV.told=st.told)(h2:gV.run .text=st.run .text)(h3:gV.eP .text=st.eP .text)(h4:y.l=x.l)(h5:y.more=x.more)(h6:y.fD=x.fD):BA y gV:=
 ⟨by rw[h1,h4];exact h.told,by rw[h2,h5];exact h.text,by rw[h3,h5,h6];exact h.from_⟩
theorem Iu(st:St)(l r:List UInt8)(a b a' b':Int)(l':List UInt8):(((st.dT .value l a).dT .ref r b).dT .value l' b')=(st.dT .ref r b).dT .value l' b':=by
 unfold St.dT;congr 1<;>(funext m;cases m<;>simp)
theorem LW(st:St)(l r r':List UInt8)(a b a' b' c:Int)(l':List UInt8):((((st.dT .ref r' c).dT .value l a).dT .ref r b).dT .value l' b')=(st.dT .ref r b).dT .value l' b':=by
 unfold St.dT;congr 1<;>(funext m;cases m<;>simp)
theorem Iv(Q:Nat)(hQ:32<=Q/\Q<128)(hne:Q≠60/\Q≠38):∀(f:Nat) (x:Sc) (t:List UInt8) (st:St),x.err=0->x.i<=s.size->s.size+1<x.i+f->st.told=x.l->st.quote=(Q:Int)->st.run .value=t->
  ((iL s Q f x t).1.err=0/\x.i<=(iL s Q f x t).1.i/\(iL s Q f x t).1.i+1<=s.size/\(iL s Q f x t).1={x with i:=(iL s Q f x t).1.i}/\
   ∃r a b,runs g s x.i (.plain .ik) st=runs g s ((iL s Q f x t).1.i+1) (.plain .part) ((st.dT .ref r a).dT .value (iL s Q f x t).2 b).addAttr)\/
  ((iL s Q f x t).1.err≠0/\(iL s Q f x t).1.l=x.l/\runs g s x.i (.plain .ik) st=(x.l,(iL s Q f x t).1.err,(iL s Q f x t).1.at_)):=by
 intro f;induction f with
 |zero=>intro x t st he hi hf;omega
 |succ f ih=>
  intro x t st he hi hf ht hq hv;have iq:x.is s Q=decide (cur s x.i=(Q:Int)):=Da he (by omega);simp only[iL,iq];by_cases hc:cur s x.i=(Q:Int)
  ·rw[if_neg (by simp[hc])];have h0:0<=cur s x.i:=by omega
   have hp:=eF h0;have hw:=fo h0 (by omega);have e:b_ (.plain .ik) x.i st (cur s x.i)=⟨st.addAttr,.go (.plain .part)⟩:=by simp only[b_,step];rw[hq,if_pos hc]
   refine Or.inl ⟨he,au _,by show x.i+1<=_;omega,rfl,st.run .ref,st.eP .ref,st.eP .value,?_⟩;rw[eN e h0,hw,qM];show _=runs g s (x.i+1) _ (st.dT .value t (st.eP .value)).addAttr;rw[<-hv,qM]
  ·rw[if_pos ⟨he,by simp[hc]⟩,uR he Q (by omega)];by_cases nR:cur s x.i<0\/cur s x.i=60\/cur s x.i=(Q:Int)
   ·rw[if_pos nR];have hnz:=eK x s he;have hval:iL s Q f (x.wrong s) (t++(⟨#[]⟩:ByteArray).data.toList)=(x.wrong s,t):=by
     cases f with
     |zero=>simp[iL]
     |succ f=>simp only[iL];rw[if_neg (fun h=>hnz h.1)];simp
    rw[hval];refine Or.inr ⟨hnz,by rw[gB he],?_⟩;have e:b_ (.plain .ik) x.i st (cur s x.i)=⟨st,.fail (Tk.why (cur s x.i)) x.i⟩:=by simp only[b_,step];rw[hq,if_neg hc,if_neg (by omega),if_pos (by omega)]
    rw[fG e,gB he,ht]
   ·rw[if_neg nR];have h0:0<=cur s x.i:=by omega
    have hp:=eF h0;by_cases nD:cur s x.i=38
    ·rw[if_pos nD];have e:b_ (.plain .ik) x.i st (cur s x.i)=⟨(st.clear .ref).put .ref 38 x.i,.go (.ref .value .ik)⟩:=by simp only[b_,step];rw[hq,if_neg hc,if_pos nD]
     rw[eN e h0,Fz .value .ik x.i st nD];unfold Bz;by_cases hz:(Ch.ed s x.i).2=0
     ·rw[if_pos hz,if_pos hz];have hnz:=mV x 4 x.i he (by decide);have hval:iL s Q f (x.fail 4 x.i) (t++(⟨#[]⟩:ByteArray).data.toList)=(x.fail 4 x.i,t):=by
       cases f with
       |zero=>simp[iL]
       |succ f=>simp only[iL];rw[if_neg (fun h=>hnz h.1)];simp
      rw[hval];refine Or.inr ⟨hnz,?_,?_⟩
      ·unfold Sc.fail;rw[if_pos he]
      ·unfold Sc.fail;rw[if_pos he,ht]
     ·rw[if_neg hz,if_neg hz];have hsp:=Ch.iK hz;have:=ih {x with i:=x.i+(Ch.ed s x.i).2.toNat} (t++Lib.encodeRune (Ch.ed s x.i).1) ((st.dT .ref (Ch.bytes s x.i (Ch.ed s x.i).2.toNat) x.i).put .value (Ch.ed s x.i).1 x.i) he (by show x.i+(Ch.ed s x.i).2.toNat<=_;omega) (by show _<x.i+(Ch.ed s x.i).2.toNat+f;omega) ht hq (by simp[St.put,St.dT,hv]);simp only[]at this ⊢;rcases this with⟨h1,h2,h3,h4,r,a,b,h5⟩|⟨h1,h2,h3⟩
      ·refine Or.inl ⟨h1,by omega,h3,by rw[h4],r,a,b,?_⟩;rw[h5];congr 2;unfold St.put;exact LW st _ r _ _ a a b _ _
      ·exact Or.inr ⟨h1,h2,h3⟩
    ·rw[if_neg nD];have e:b_ (.plain .ik) x.i st (cur s x.i)=⟨st.put .value (cur s x.i) x.i,.go (.plain .ik)⟩:=by simp only[b_,step];rw[hq,if_neg hc,if_neg nD,if_neg (by omega)]
     rw[eN e h0];have hb:=gG s x.i (x.i+wid s x.i);rw[show x.i+wid s x.i-x.i=wid s x.i by omega,<-lN h0]at hb;have:=ih {x with i:=x.i+wid s x.i} (t++(s.extract x.i (x.i+wid s x.i)).data.toList) (st.put .value (cur s x.i) x.i) he (by show x.i+wid s x.i<=_;omega) (by show _<x.i+wid s x.i+f;omega) ht hq (by rw[hb];simp[St.put,St.dT,hv]);simp only[]at this ⊢;rcases this with⟨h1,h2,h3,h4,r,a,b,h5⟩|⟨h1,h2,h3⟩
     ·refine Or.inl ⟨h1,by omega,h3,by rw[h4],r,a,b,?_⟩;rw[h5];congr 2;unfold St.put;exact Iu st _ r _ a a b _
     ·exact Or.inr ⟨h1,h2,h3⟩
end
section
variable{g:St->List eX}{s:ByteArray}{i:Nat}{pt jC:Part}{st gV:St}{no q c:Int}{x y:Sc}
abbrev mn:=List (List UInt8×List UInt8)
def Sc.gv(x:Sc)(s:ByteArray)(l:mn):Sc:=if l.any (fun a=>a.1==(x.name s).2.data.toList)=true then(x.name s).1.fail 5 x.i else(x.name s).1
def Sc.equal(x:Sc)(s:ByteArray)(l:mn):Sc:=(Sc.eo s [61] ((x.gv s l).ey s)).ey s
def Sc.attr(x:Sc)(s:ByteArray)(l:mn):Sc×(List UInt8×List UInt8):=
 if(x.equal s l).err=0 then(((x.equal s l).value s).1,((x.name s).2.data.toList,((x.equal s l).value s).2))else(x.equal s l,((x.name s).2.data.toList,[]))
def ew(s:ByteArray):Nat->Sc->mn->Sc×mn
 |0,x,l=>(x,l)
 |f+1,x,l=>if x.skip s=0\/(x.ey s).err≠0\/(x.ey s).is s 47=true\/(x.ey s).is s 62=true then(x.ey s,l)else ew s f ((x.ey s).attr s l).1 (l++[((x.ey s).attr s l).2])
def Sc.attrs(x:Sc)(s:ByteArray):Sc×mn:=ew s (s.size+2) x []
theorem jL(he:x.err≠0)(f:Nat)(l:mn):ew s f x l=(x,l):=by
 cases f with
 |zero=>rfl
 |succ f=>simp only[ew];rw[jK he,if_pos (Or.inr (Or.inl he))]
structure Df(x:Sc)(st:St)(l:mn)(nm:List UInt8)(tg:Int):Prop where
 tag:BA x st
 attrs:st.attrs=l
 names:st.names=l.map Prod.fst
 value:st.run .value=[]
 name:st.run .name=nm
 at_:st.fP=tg
theorem LX(l:mn)(n:List UInt8):(l.map Prod.fst).contains n=l.any (fun a=>a.1==n):=by
 induction l with
 |nil=>rfl
 |cons a l ih=>
  simp only[bN,dp,List.any_cons,ih];congr 1;rw[bC,bk,bk];exact eq_comm
theorem LY(st:St)(i:Int)(c:Int)(h:Tk.blank c=true):b_ (.plain .qu) i st c=⟨st,.go (.plain .qu)⟩:=by simp only[b_,step,jH];rw[if_pos h]
theorem Iw(st:St)(i:Int)(c:Int)(h:Tk.blank c=true):b_ (.plain .kQ) i st c=⟨st,.go (.plain .kQ)⟩:=by simp only[b_,step];rw[if_pos h]
theorem Dg{c:Int}(h:Tk.blank c=true):¬Ch.eI c=true:=by
 have:=yV h;rw[Ch.fA];omega
theorem Iy(st:St)(i:Int)(c:Int)(h:Tk.blank c=true):b_ (.plain .ey) i st c=⟨st,.go (.plain .ey)⟩:=by simp only[b_,step,jo];rw[if_neg (Dg h),if_pos h]
theorem FA(st:St)(i:Int)(c:Int)(h:Tk.blank c=true):b_ (.plain .closing) i st c=⟨st,.go (.plain .closing)⟩:=by simp only[b_,step];rw[if_pos h]
theorem kW(he:x.err=0)(hb:Ch.eI (cur s x.i)=true):(x.name s).1={x with i:=jq s x.i}/\(x.name s).2.data.toList=Ch.bytes s x.i (jq s x.i-x.i):=by
 obtain⟨h1,h2⟩:=qL (s:=s) hb;unfold Sc.name;rw[if_pos he,if_neg (by omega),h1];refine⟨by simp only[Sc.mk.injEq,and_true];omega,?_⟩;simp only;rw[gG];congr 1;omega
theorem nJ(he:x.err=0)(hb:¬Ch.eI (cur s x.i)=true):x.name s=(x.wrong s,⟨#[]⟩):=by unfold Sc.name;rw[if_pos he,if_pos (Tf hb)]
theorem tK(j:Rn)(k:Pl)(p:Nat)(st:St)(hb:Ch.eI (cur s p)=true):runs g s (p+wid s p) (.name j k) ((st.clear j).put j (cur s p) p)=runs g s (jq s p) (.plain k) (st.dT j (Ch.bytes s p (jq s p-p)) p):=by
 have h0:0<=cur s p:=by have:=(Ch.fA _).1 hb;omega
 have hc:=eF h0;have hn:xt (cur s p)=true:=by unfold xt;rw[hb];rfl
 have hg:=rQ s (p+wid s p);have e:(st.clear j).put j (cur s p) p=st.dT j (Ch.bytes s p (wid s p)) p:=by
  unfold St.put St.clear;rw[jV];simp only[St.dT,if_true];rw[lN h0];simp
 rw[e,Bw _ _ _ _ (by simp only[St.dT,if_true];exact uO s (by omega) hc.2.2.2.1),jV,j9 hn];simp only[St.dT,if_true];rw[oD,show wid s p+(jq s (p+wid s p)-(p+wid s p))=jq s (p+wid s p)-p by omega]
theorem qN(he:x.err=0){c:UInt8}(hc:32<=c.toNat/\c.toNat<128):Sc.eo s [c] x=if cur s x.i=(c.toNat:Int)then{x with i:=x.i+1}else x.wrong s:=by
 simp only[Sc.eo];rw[if_pos he];by_cases h:cur s x.i=(c.toNat:Int)
 ·rw[if_pos ((jJ he (by omega)).2 h),if_pos h]
 ·have:¬x.is s c.toNat=true:=fun e=>h ((jJ he (by omega)).1 e);rw[if_neg this,if_neg h]
theorem qO(he:x.err=0):x.value s=if cur s x.i=34\/cur s x.i=39 then
  ({ (iL s (cur s x.i).toNat (s.size+2) {x with i:=x.i+1} []).1 with i:=(iL s (cur s x.i).toNat (s.size+2) {x with i:=x.i+1} []).1.i+1},(iL s (cur s x.i).toNat (s.size+2) {x with i:=x.i+1} []).2)else(x.wrong s,[]):=by
 have i34:x.is s 34=true↔cur s x.i=34:=jJ he (by omega);have i39:x.is s 39=true↔cur s x.i=39:=jJ he (by omega);unfold Sc.value;by_cases h:cur s x.i=34\/cur s x.i=39
 ·have hb:(s.get! x.i).toNat=(cur s x.i).toNat:=by
   rcases h with h|h
   ·have:=((jI (s:=s) (i:=x.i) (c:=34) (by omega)).1 h).2;rw[h,this];rfl
   ·have:=((jI (s:=s) (i:=x.i) (c:=39) (by omega)).1 h).2;rw[h,this];rfl
  rw[if_pos h,if_pos (h.imp i34.2 i39.2),hb]
 ·rw[if_neg h,if_neg (fun e=>h (e.imp i34.1 i39.1))]
theorem BB{l:mn}{nm:List UInt8}{tg:Int}(he:x.err=0)(hi:x.i<=s.size)(hA:Df x st l nm tg)(hbl:¬Tk.blank (cur s x.i)=true)(BF:¬cur s x.i=47)(D6:¬cur s x.i=62):
  ((x.attr s l).1.err=0/\x.i<(x.attr s l).1.i/\(x.attr s l).1.i<=s.size/\(x.attr s l).1={x with i:=(x.attr s l).1.i}/\∃gV,Df (x.attr s l).1 gV (l++[(x.attr s l).2]) nm tg/\runs g s x.i (.plain .ey) st=runs g s (x.attr s l).1.i (.plain .part) gV)\/
  ((x.attr s l).1.err≠0/\(x.attr s l).1.l=x.l/\runs g s x.i (.plain .ey) st=(x.l,(x.attr s l).1.err,(x.attr s l).1.at_)):=by
 by_cases hb:Ch.eI (cur s x.i)=true
 ·obtain⟨rZ,pX⟩:=kW he hb;have h0:0<=cur s x.i:=by have:=(Ch.fA _).1 hb;omega
  have hlt:=(qL (s:=s) hb).2;have hle:=nI hi;generalize hE:jq s x.i=E at*
  generalize hN:Ch.bytes s x.i (E-x.i)=N at*
  have e1:b_ (.plain .ey) x.i st (cur s x.i)=⟨(st.clear .attr).put .attr (cur s x.i) x.i,.go (.name .attr .jn)⟩:=by simp only[b_,step,fC];rw[if_pos hb,if_pos hb]
  rw[eN e1 h0,tK .attr .jn x.i st hb,hE,hN];have hc:st.names.contains N=l.any (fun a=>a.1==N):=by rw[hA.names,LX]
  by_cases ht:l.any (fun a=>a.1==N)=true
  ·have G1:x.gv s l={x with i:=E,err:=5,at_:=x.i}:=by unfold Sc.gv;rw[pX,if_pos ht,rZ];unfold Sc.fail;rw[if_pos he]
   have h5:(x.gv s l).err≠0:=by rw[G1];simp
   have heq:x.equal s l=x.gv s l:=by unfold Sc.equal;rw[jK h5,iA s _ h5,jK h5]
   have hat:x.attr s l=(x.gv s l,(N,[])):=by unfold Sc.attr;rw[heq,if_neg h5,pX]
   rw[hat];refine Or.inr ⟨h5,by rw[G1],?_⟩;have e2:b_ (.plain .jn) E (st.dT .attr N x.i) (cur s E)=⟨st.dT .attr N x.i,.fail 5 x.i⟩:=by
    simp only[b_,step];rw[if_pos (by simpa [St.dT]using hc.trans ht)];simp[St.dT]
   rw[fG e2,G1,<-hA.tag.told];rfl
  ·have G1:x.gv s l={x with i:=E}:=by unfold Sc.gv;rw[pX,if_neg ht,rZ]
   have he1:(x.gv s l).err=0:=by rw[G1];exact he
   generalize wj:({st.dT .attr N x.i with names:=st.names++[N]}:St)=qz;have e2:runs g s E (.plain .jn) (st.dT .attr N x.i)=runs g s E (.plain .qu) qz:=by
    refine mF ?_ (by rw[<-wj]) (fun⟨o,h⟩=>by cases tI h);simp only[b_,step];rw[if_neg (by simpa [St.dT]using fun h=>ht (hc.symm.trans h)),<-wj];simp[St.dT]
   rw[e2,qK (LY qz)];have Yl:=yX hle;have Zl:=rO s E;generalize hE1:E+gap s E=E1 at*
   have sJ:(x.gv s l).ey s={x with i:=E1}:=by rw[ly he1,G1];simp only;rw[hE1]
   have LZ:=qN (s:=s) (x:={x with i:=E1}) he (c:=61) (by decide);by_cases h61:cur s E1=61
   ·have hw1:=fo (s:=s) (i:=E1) (by omega) (by omega);have hp1:=eF (s:=s) (i:=E1) (by omega);have e3:b_ (.plain .qu) E1 qz (cur s E1)=⟨qz,.go (.plain .kQ)⟩:=by simp only[b_,step,jH];rw[if_neg Zl,if_pos h61]
    rw[eN e3 (by omega),hw1,qK (Iw qz)];have hg2:=yX (s:=s) (i:=E1+1) (by omega);have Zm:=rO s (E1+1);generalize hE2:E1+1+gap s (E1+1)=E2 at*
    have Wh:Sc.eo s [61] {x with i:=E1}={x with i:=E1+1}:=by rw[LZ];exact if_pos h61
    have heq:x.equal s l={x with i:=E2}:=by unfold Sc.equal;rw[sJ,Wh,ly (x:={x with i:=E1+1}) he];simp only;rw[hE2]
    have Zn:=qO (s:=s) (x:={x with i:=E2}) he;simp only at Zn;have hat:x.attr s l=((Sc.value {x with i:=E2} s).1,(N,(Sc.value {x with i:=E2} s).2)):=by unfold Sc.attr;rw[heq,if_pos he,pX]
    by_cases hq:cur s E2=34\/cur s E2=39
    ·have hw2:=fo (s:=s) (i:=E2) (by omega) (by omega);have GH:=eF (s:=s) (i:=E2) (by omega);have e4:b_ (.plain .kQ) E2 qz (cur s E2)=⟨{qz with quote:=cur s E2},.go (.plain .ik)⟩:=by simp only[b_,step];rw[if_neg Zm,if_pos hq]
     rw[if_pos hq]at Zn;rw[eN e4 (by omega),hw2];have aaW:({qz with quote:=cur s E2}:St).run .value=[]:=by rw[<-wj];simpa [St.dT]using hA.value
     have Zo:({qz with quote:=cur s E2}:St).told=x.l:=by rw[<-wj];exact hA.tag.told
     have hval:=Iv (g:=g) (s:=s) (cur s E2).toNat (by omega) (by omega) (s.size+2) {x with i:=E2+1} [] {qz with quote:=cur s E2} he (by show E2+1<=_;omega) (by show _<E2+1+_;omega) Zo (by simp only;omega) aaW;simp only at hval;rw[hat,Zn];generalize hvf:iL s (cur s E2).toNat (s.size+2) {x with i:=E2+1} []=V at*
     rcases hval with⟨v1,v2,v3,v4,r,a,b,v5⟩|⟨v1,v2,v3⟩
     ·refine Or.inl ⟨v1,by show x.i<V.1.i+1;omega,v3,by simp only;rw[v4],_,?_,v5⟩;constructor
      ·refine hA.tag.same ?_ ?_ ?_ ?_ ?_ ?_
       ·rw[<-wj];rfl
       ·rw[<-wj];simp[St.addAttr,St.clear,St.dT]
       ·rw[<-wj];simp[St.addAttr,St.clear,St.dT]
       ·simp only;rw[v4]
       ·simp only;rw[v4]
       ·simp only;rw[v4]
      ·rw[<-wj];simp[St.addAttr,St.clear,St.dT,hA.attrs]
      ·rw[<-wj];simp[St.addAttr,St.clear,St.dT,hA.names]
      ·simp[St.addAttr,St.clear,St.dT]
      ·rw[<-wj];simpa [St.addAttr,St.clear,St.dT]using hA.name
      ·rw[<-wj];exact hA.at_
     ·exact Or.inr ⟨v1,v2,v3⟩
    ·rw[if_neg hq]at Zn;rw[hat,Zn,gB (x:={x with i:=E2}) he];refine Or.inr ⟨?_,rfl,?_⟩
     ·show Tk.why _≠0;unfold Tk.why;split<;>omega
     ·have e4:b_ (.plain .kQ) E2 qz (cur s E2)=⟨qz,.fail (Tk.why (cur s E2)) E2⟩:=by simp only[b_,step];rw[if_neg Zm,if_neg hq]
      rw[fG e4,<-wj];simp only;rw[show (st.dT .attr N x.i).told=x.l from hA.tag.told]
   ·have Wh:Sc.eo s [61] {x with i:=E1}=Sc.wrong {x with i:=E1} s:=by rw[LZ];exact if_neg h61
    have oq:=eK {x with i:=E1} s he;have heq:x.equal s l=Sc.wrong {x with i:=E1} s:=by unfold Sc.equal;rw[sJ,Wh,jK oq]
    have hat:x.attr s l=(Sc.wrong {x with i:=E1} s,(N,[])):=by unfold Sc.attr;rw[heq,if_neg oq,pX]
    rw[hat,gB (x:={x with i:=E1}) he];refine Or.inr ⟨?_,rfl,?_⟩
    ·show Tk.why _≠0;unfold Tk.why;split<;>omega
    ·have e3:b_ (.plain .qu) E1 qz (cur s E1)=⟨qz,.fail (Tk.why (cur s E1)) E1⟩:=by simp only[b_,step,jH];rw[if_neg Zl,if_neg h61]
     rw[fG e3,<-wj];simp only;rw[show (st.dT .attr N x.i).told=x.l from hA.tag.told]
 ·have hn:=nJ (s:=s) he hb;have oq:=eK x s he;have G1:x.gv s l=x.wrong s:=by
   unfold Sc.gv;rw[hn];simp only;split
   ·unfold Sc.fail;rw[if_neg oq]
   ·rfl
  have heq:x.equal s l=x.wrong s:=by unfold Sc.equal;rw[G1,jK oq,iA s _ oq,jK oq]
  have hat:(x.attr s l).1=x.wrong s:=by unfold Sc.attr;rw[heq,if_neg oq]
  rw[hat];refine Or.inr ⟨oq,by rw[gB he],?_⟩;have e:b_ (.plain .ey) x.i st (cur s x.i)=⟨st,.fail (Tk.why (cur s x.i)) x.i⟩:=by simp only[b_,step,jo];rw[if_neg hb,if_neg hbl,if_neg BF,if_neg D6]
  rw[fG e,gB he,hA.tag.told]
end
section
variable{g:St->List eX}{s:ByteArray}{i:Nat}{pt jC:Part}{st gV:St}{no q c:Int}{x y:Sc}
theorem zg{nm:List UInt8}{tg:Int}:∀(f:Nat) (x:Sc) (l:mn) (st:St),x.err=0->x.i<=s.size->s.size+1<x.i+f->Df x st l nm tg->
  ((ew s f x l).1.err=0/\x.i<=(ew s f x l).1.i/\(ew s f x l).1.i<=s.size/\(ew s f x l).1={x with i:=(ew s f x l).1.i}/\¬Tk.blank (cur s (ew s f x l).1.i)=true/\∃gV,Df (ew s f x l).1 gV (ew s f x l).2 nm tg/\runs g s x.i (.plain .part) st=runs g s (ew s f x l).1.i (.plain .part) gV)\/
  ((ew s f x l).1.err≠0/\(ew s f x l).1.l=x.l/\runs g s x.i (.plain .part) st=(x.l,(ew s f x l).1.err,(ew s f x l).1.at_)):=by
 intro f;induction f with
 |zero=>intro x l st he hi hf;omega
 |succ f ih=>
  intro x l st he hi hf hA;simp only[ew];rw[ly he,Fq he];have hg:=yX hi;have CA:=rO s x.i;by_cases h0:gap s x.i=0
  ·rw[if_pos (Or.inl h0)];rw[h0]at CA;simp only[h0,bG]at CA ⊢;exact Or.inl ⟨he,au _,hi,trivial,CA,st,hA,rfl⟩
  ·have hb:Tk.blank (cur s x.i)=true:=by
    by_cases hb:Tk.blank (cur s x.i)=true
    ·exact hb
    ·exact absurd (Dc hb) h0
   have hv:=yV hb;have hw:=fo (s:=s) (i:=x.i) (by omega) (by omega);have e1:b_ (.plain .part) x.i st (cur s x.i)=⟨st,.go (.plain .ey)⟩:=by simp only[b_,step,jo];rw[if_pos hb]
   have hrun:runs g s x.i (.plain .part) st=runs g s (x.i+gap s x.i) (.plain .ey) st:=by
    rw[eN e1 (by omega),hw,qK (Iy st),xH hb];congr 1;omega
   have i47:=Da (s:=s) (x:={x with i:=x.i+gap s x.i}) he (c:=47) (by omega);have i62:=Da (s:=s) (x:={x with i:=x.i+gap s x.i}) he (c:=62) (by omega);simp only at i47 i62;rw[i47,i62,hrun];generalize hp:x.i+gap s x.i=p at*
   by_cases hs:cur s p=47\/cur s p=62
   ·rw[if_pos (Or.inr (Or.inr (by simpa using hs)))];refine Or.inl ⟨he,by show x.i<=p;omega,hg,rfl,CA,st,?_,?_⟩
    ·exact⟨⟨hA.tag.told,hA.tag.text,hA.tag.from_⟩,hA.attrs,hA.names,hA.value,hA.name,hA.at_⟩
    ·refine mF ?_ rfl (fun _=>rfl);have Ut:¬Ch.eI (cur s p)=true:=by rw[Ch.fA];omega
     simp only[b_,step];rw[if_neg Ut]
   ·rw[if_neg (by simp only[aR];rintro(h|h|h|h);exact h0 h;exact h he;exact hs (Or.inl h);exact hs (Or.inr h))];have Wi:Df {x with i:=p} st l nm tg:=⟨⟨hA.tag.told,hA.tag.text,hA.tag.from_⟩,hA.attrs,hA.names,hA.value,hA.name,hA.at_⟩
    have Zp:=BB (g:=g) (s:=s) (x:={x with i:=p}) (l:=l) he hg Wi CA (fun h=>hs (Or.inl h)) (fun h=>hs (Or.inr h));simp only at Zp;generalize Sc.attr {x with i:=p} s l=A at*
    rcases Zp with⟨a1,a2,a3,a4,gV,a5,a6⟩|⟨a1,a2,a3⟩
    ·rw[a6];have hih:=ih A.1 (l++[A.2]) gV a1 a3 (by omega) a5;generalize ew s f A.1 (l++[A.2])=B at*
     have hl:A.1.l=x.l:=by rw[a4]
     rcases hih with⟨b1,b2,b3,b4,b5,aaX,b6,b7⟩|⟨b1,b2,b3⟩
     ·refine Or.inl ⟨b1,by omega,b3,?_,b5,aaX,b6,b7⟩;rw[b4,a4]
     ·exact Or.inr ⟨b1,by rw[b2,hl],by rw[b3,hl]⟩
    ·rw[jL a1];exact Or.inr ⟨a1,a2,a3⟩
structure Rel(x:Sc)(st:St):Prop where
 tag:BA x st
 attrs:st.attrs=[]
 names:st.names=[]
 value:st.run .value=[]
theorem o7(st:St)(j:Rn)(h:j≠ .text):st.dX.run j=st.run j:=by
 unfold St.dX;split
 ·rfl
 ·simp[St.clear,St.dT,h]
theorem sV(st:St):st.dX.run .text=[]:=by
 unfold St.dX;split
 ·rename_i h;simpa using h
 ·simp[St.clear,St.dT]
theorem pO(st:St):st.dX.attrs=st.attrs/\st.dX.names=st.names/\st.dX.quote=st.quote/\st.dX.fP=st.fP:=by unfold St.dX;split<;>exact⟨rfl,rfl,rfl,rfl⟩
theorem o8(h:BA x st):st.dX.told=if x.more=[]then x.l else x.l++[fY x]:=by
 unfold St.dX;rw[h.text];by_cases hm:x.more=[]
 ·rw[if_pos (by simp[hm]),if_pos hm];exact h.told
 ·rw[if_neg (by simpa using hm),if_neg hm];show st.told++[_]=_;rw[h.told];have:=h.from_ hm;simp only[fY,this]
theorem Dh(he:x.err=0)(t:eX):x.told t={x with l:=(if x.more=[]then x.l else x.l++[fY x])++[t],more:=[]}:=by
 unfold Sc.told;rw[if_neg (by simpa using he)];congr 1;split<;>simp
theorem BG{l:mn}{nm:List UInt8}{tg:Int}(he:x.err=0)(h:Df x st l nm tg):Df (x.told ⟨1,nm,l,[],tg⟩) st.eD [] nm tg:=by
 have hf:=pO st;rw[Dh he];refine⟨⟨?_,?_,fun e=>absurd rfl e⟩,rfl,rfl,?_,?_,?_⟩
 ·show st.dX.told++[_]=_;rw[o8 h.tag,h.name,h.attrs,h.at_]
 ·exact sV st
 ·show st.dX.run .value=[];rw[o7 _ _ (by decide)];exact h.value
 ·show st.dX.run .name=nm;rw[o7 _ _ (by decide)];exact h.name
 ·show st.dX.fP=tg;rw[hf.2.2.2];exact h.at_
theorem zh{nm:List UInt8}{tg:Int}(he:x.err=0)(h:Df x st [] nm tg):Rel (x.told ⟨2,nm,[],[],tg⟩) st.fI:=by
 have hf:=pO st;rw[Dh he];refine⟨⟨?_,?_,fun e=>absurd rfl e⟩,?_,?_,?_⟩
 ·show st.dX.told++[_]=_;rw[o8 h.tag,h.name,h.at_]
 ·exact sV st
 ·show st.dX.attrs=[];rw[hf.1];exact h.attrs
 ·show st.dX.names=[];rw[hf.2.1,h.names];rfl
 ·show st.dX.run .value=[];rw[o7 _ _ (by decide)];exact h.value
theorem Df.rel{nm:List UInt8}{tg:Int}(h:Df x st [] nm tg):Rel x st:=⟨h.tag,h.attrs,by rw[h.names];rfl,h.value⟩
theorem Rel.at(h:Rel x st)(j:Nat):Rel {x with i:=j} st:=⟨⟨h.tag.told,h.tag.text,h.tag.from_⟩,h.attrs,h.names,h.value⟩
def Sc.iZ(x:Sc)(s:ByteArray)(nm:List UInt8)(l:mn)(tg:Int):Sc:=
 if x.is s 47=true then((Sc.eo s [62] {x with i:=x.i+1}).told ⟨1,nm,l,[],tg⟩).told ⟨2,nm,[],[],tg⟩else(Sc.eo s [62] x).told ⟨1,nm,l,[],tg⟩
def Sc.kg(x:Sc)(s:ByteArray)(tg:Int):Sc:=((x.name s).1.attrs s).1.iZ s (x.name s).2.data.toList ((x.name s).1.attrs s).2 tg
def Sc.jw(x:Sc)(s:ByteArray)(tg:Int):Sc:=(Sc.eo s [62] ((x.name s).1.ey s)).told ⟨2,(x.name s).2.data.toList,[],[],tg⟩
def Sc.order(x:Sc)(s:ByteArray):Sc:=((x.name s).1.until s ⟨#[63,62]⟩).1
def Sc.remark(x:Sc)(s:ByteArray):Sc:=Sc.eo s [62] ((Sc.eo s [45,45] x).until s ⟨#[45,45]⟩).1
def Sc.sW(x:Sc)(s:ByteArray):Sc:=
 if((Sc.eo s [91,67,68,65,84,65,91] x).until s ⟨#[93,93,62]⟩).1.err=0/\((Sc.eo s [91,67,68,65,84,65,91] x).until s ⟨#[93,93,62]⟩).2.data.toList≠[]
 then((Sc.eo s [91,67,68,65,84,65,91] x).until s ⟨#[93,93,62]⟩).1.gS ((Sc.eo s [91,67,68,65,84,65,91] x).until s ⟨#[93,93,62]⟩).2 (Sc.eo s [91,67,68,65,84,65,91] x).i
 else((Sc.eo s [91,67,68,65,84,65,91] x).until s ⟨#[93,93,62]⟩).1
def Sc.nU(x:Sc)(s:ByteArray):Sc:=if x.is s 91=true then x.sW s else x.remark s
def Sc.behind(x:Sc)(s:ByteArray)(tg:Int):Sc:=
 if x.is s 33=true then Sc.nU {x with i:=x.i+1} s
 else if x.is s 63=true then Sc.order {x with i:=x.i+1} s
 else if x.is s 47=true then Sc.jw {x with i:=x.i+1} s tg
 else x.kg s tg
def Sc.j4(x:Sc)(s:ByteArray):Sc:=Sc.behind {x with i:=x.i+1} s x.i
def Grown(x y:Sc):Prop:=y.at_=x.at_/\y.more.length+x.i<=x.more.length+y.i/\y.l.length<=x.l.length+3
def Done(g:St->List eX)(s:ByteArray)(x y:Sc)(A:List eX×Int×Int):Prop:=
 (y.err=0/\x.i<y.i/\y.i<=s.size/\Grown x y/\∃gV,Rel y gV/\A=runs g s y.i (.plain .between) gV)\/(y.err≠0/\y.l=x.l/\A=(x.l,y.err,y.at_))
theorem jW(he:x.err≠0)(t:eX):x.told t=x:=by unfold Sc.told;rw[if_pos he]
theorem i_(x:Sc)(t:eX):(x.told t).i=x.i:=by unfold Sc.told;split<;>rfl
theorem wk(x:Sc)(t:eX):(x.told t).more.length<=x.more.length:=by unfold Sc.told;split<;>simp
theorem L5(x:Sc)(he:x.err=0)(t:eX):(x.told t).more=[]:=by unfold Sc.told;rw[if_neg (by simpa using he)]
theorem uS(x:Sc)(t:eX):(x.told t).l.length<=x.l.length+2:=by
 unfold Sc.told;split
 ·omega
 ·simp only[ax];split<;>simp
theorem L6(x:Sc)(t:eX)(h:x.more=[]):(x.told t).l.length<=x.l.length+1:=by
 unfold Sc.told;split
 ·omega
 ·simp[ax,h]
theorem Di(x:Sc)(t:eX):(x.told t).at_=x.at_:=by unfold Sc.told;split<;>rfl
theorem nW(x:Sc)(t:eX):(x.told t).err=x.err:=by unfold Sc.told;split<;>rfl
theorem Iz{nm:List UInt8}{tg:Int}(he:x.err=0)(hi:x.i<=s.size)(hA:Df x st [] nm tg):Done g s x ((Sc.eo s [62] (x.ey s)).told ⟨2,nm,[],[],tg⟩) (runs g s x.i (.plain .closing) st):=by
 rw[qK (FA st),ly he];have hg:=yX hi;have CA:=rO s x.i;generalize hp:x.i+gap s x.i=p at*
 have hm:=qN (s:=s) (x:={x with i:=p}) he (c:=62) (by decide);by_cases D6:cur s p=62
 ·have tY:Sc.eo s [62] {x with i:=p}={x with i:=p+1}:=by rw[hm];exact if_pos D6
  rw[tY];have hw:=fo (s:=s) (i:=p) (by omega) (by omega);have hc:=eF (s:=s) (i:=p) (by omega);have e:b_ (.plain .closing) p st (cur s p)=⟨st.fI,.go (.plain .between)⟩:=by simp only[b_,step];rw[if_neg CA,if_pos D6]
  have Wi:Df {x with i:=p+1} st [] nm tg:=⟨⟨hA.tag.told,hA.tag.text,hA.tag.from_⟩,hA.attrs,hA.names,hA.value,hA.name,hA.at_⟩
  refine Or.inl ⟨by rw[nW];exact he,by rw[i_];show x.i<p+1;omega,by rw[i_];show p+1<=_;omega,?_,_,zh (x:={x with i:=p+1}) he Wi,?_⟩
  ·have t1:=wk {x with i:=p+1} ⟨2,nm,[],[],tg⟩;have t2:=uS {x with i:=p+1} ⟨2,nm,[],[],tg⟩;simp only at t1 t2;refine⟨by rw[Di],?_,by omega⟩;rw[i_];simp only;omega
  rw[eN e (by omega),hw,i_]
 ·have tY:Sc.eo s [62] {x with i:=p}=Sc.wrong {x with i:=p} s:=by rw[hm];exact if_neg D6
  have oq:=eK {x with i:=p} s he;rw[tY,jW oq];have e:b_ (.plain .closing) p st (cur s p)=⟨st,.fail (Tk.why (cur s p)) p⟩:=by simp only[b_,step];rw[if_neg CA,if_neg D6]
  refine Or.inr ⟨oq,by rw[gB (x:={x with i:=p}) he],?_⟩;rw[fG e,gB (x:={x with i:=p}) he,hA.tag.told]
theorem L8{nm:List UInt8}{l:mn}{tg:Int}(he:x.err=0)(hi:x.i<=s.size)(hA:Df x st l nm tg)(hbl:¬Tk.blank (cur s x.i)=true):Done g s x (x.iZ s nm l tg) (runs g s x.i (.plain .part) st):=by
 unfold Sc.iZ;have i47:x.is s 47=true↔cur s x.i=47:=jJ he (by omega);by_cases BF:cur s x.i=47
 ·rw[if_pos (i47.2 BF)];have hw:=fo (s:=s) (i:=x.i) (by omega) (by omega);have hc:=eF (s:=s) (i:=x.i) (by omega);have e:b_ (.plain .part) x.i st (cur s x.i)=⟨st,.go (.plain .iy)⟩:=by simp only[b_,step,jo];rw[if_neg hbl,if_pos BF]
  rw[eN e (by omega),hw];have hm:=qN (s:=s) (x:={x with i:=x.i+1}) he (c:=62) (by decide);by_cases D6:cur s (x.i+1)=62
  ·have tY:Sc.eo s [62] {x with i:=x.i+1}={x with i:=x.i+1+1}:=by rw[hm];exact if_pos D6
   have hw2:=fo (s:=s) (i:=x.i+1) (by omega) (by omega);have hc2:=eF (s:=s) (i:=x.i+1) (by omega);have e2:b_ (.plain .iy) ((x.i+1:Nat):Int) st (cur s (x.i+1))=⟨st.eD.fI,.go (.plain .between)⟩:=by simp only[b_,step];rw[if_pos D6]
   rw[tY,eN e2 (by omega),hw2];have Wi:Df {x with i:=x.i+1+1} st l nm tg:=⟨⟨hA.tag.told,hA.tag.text,hA.tag.from_⟩,hA.attrs,hA.names,hA.value,hA.name,hA.at_⟩
   have h1:=BG (x:={x with i:=x.i+1+1}) he Wi;refine Or.inl ⟨by rw[nW,nW];exact he,by rw[i_,i_];show x.i<x.i+1+1;omega,by rw[i_,i_];show x.i+1+1<=_;omega,?_,_,zh (by rw[nW];exact he) h1,?_⟩
   ·have t1:=L5 {x with i:=x.i+1+1} he ⟨1,nm,l,[],tg⟩;have t2:=uS {x with i:=x.i+1+1} ⟨1,nm,l,[],tg⟩;have t3:=L6 _ ⟨2,nm,[],[],tg⟩ t1;have t4:=wk (Sc.told {x with i:=x.i+1+1} ⟨1,nm,l,[],tg⟩) ⟨2,nm,[],[],tg⟩;rw[t1]at t4;simp only at t2 t3 t4;refine⟨by rw[Di,Di],?_,by omega⟩;rw[i_,i_];simp only[aI]at t4 ⊢;omega
   rw[i_,i_]
  ·have tY:Sc.eo s [62] {x with i:=x.i+1}=Sc.wrong {x with i:=x.i+1} s:=by rw[hm];exact if_neg D6
   have oq:=eK {x with i:=x.i+1} s he;rw[tY,jW oq,jW oq];have e2:b_ (.plain .iy) ((x.i+1:Nat):Int) st (cur s (x.i+1))=⟨st,.fail (Tk.why (cur s (x.i+1))) ((x.i+1:Nat):Int)⟩:=by simp only[b_,step];rw[if_neg D6]
   refine Or.inr ⟨oq,by rw[gB (x:={x with i:=x.i+1}) he],?_⟩;rw[fG e2,gB (x:={x with i:=x.i+1}) he,hA.tag.told]
 ·rw[if_neg (fun h=>BF (i47.1 h))];have hm:=qN (s:=s) (x:=x) he (c:=62) (by decide);by_cases D6:cur s x.i=62
  ·have tY:Sc.eo s [62] x={x with i:=x.i+1}:=by rw[hm];exact if_pos D6
   have hw:=fo (s:=s) (i:=x.i) (by omega) (by omega);have hc:=eF (s:=s) (i:=x.i) (by omega);have e:b_ (.plain .part) x.i st (cur s x.i)=⟨st.eD,.go (.plain .between)⟩:=by simp only[b_,step,jo];rw[if_neg hbl,if_neg BF,if_pos D6]
   rw[tY,eN e (by omega),hw];have Wi:Df {x with i:=x.i+1} st l nm tg:=⟨⟨hA.tag.told,hA.tag.text,hA.tag.from_⟩,hA.attrs,hA.names,hA.value,hA.name,hA.at_⟩
   refine Or.inl ⟨by rw[nW];exact he,by rw[i_];show x.i<x.i+1;omega,by rw[i_];show x.i+1<=_;omega,?_,_,(BG (x:={x with i:=x.i+1}) he Wi).rel,?_⟩
   ·have t1:=wk {x with i:=x.i+1} ⟨1,nm,l,[],tg⟩;have t2:=uS {x with i:=x.i+1} ⟨1,nm,l,[],tg⟩;simp only at t1 t2;refine⟨by rw[Di],?_,by omega⟩;rw[i_];simp only;omega
   rw[i_]
  ·have tY:Sc.eo s [62] x=Sc.wrong x s:=by rw[hm];exact if_neg D6
   have oq:=eK x s he;rw[tY,jW oq];have e:b_ (.plain .part) x.i st (cur s x.i)=⟨st,.fail (Tk.why (cur s x.i)) x.i⟩:=by simp only[b_,step,jo];rw[if_neg hbl,if_neg BF,if_neg D6]
   refine Or.inr ⟨oq,by rw[gB he],?_⟩;rw[fG e,gB he,hA.tag.told]
end
section
variable{g:St->List eX}{s:ByteArray}{i:Nat}{pt jC:Part}{st gV:St}{no q c:Int}{x y:Sc}
theorem Done.on{A:List eX×Int×Int}{j:Nat}(h:Done g s {x with i:=j} y A)(hj:x.i<=j):Done g s x y A:=by
 rcases h with⟨h1,h2,h3,h4⟩|⟨h1,h2,h3⟩
 ·have UA:j<y.i:=h2;exact Or.inl ⟨h1,by omega,h3,⟨h4.1.1,by have:=h4.1.2.1;simp only at this;omega,h4.1.2.2⟩,h4.2⟩
 ·exact Or.inr ⟨h1,h2,h3⟩
theorem zi(h1:y.at_=x.at_)(h2:y.more=x.more)(h3:y.l=x.l)(h4:x.i<=y.i):Grown x y:=⟨h1,by rw[h2];omega,by rw[h3];omega⟩
theorem Done.wrong(he:x.err=0){A:List eX×Int×Int}(h:A=(x.l,Tk.why (cur s x.i),(x.i:Int))):Done g s x (x.wrong s) A:=by
 rw[gB he];refine Or.inr ⟨?_,rfl,h⟩;show Tk.why _≠0;unfold Tk.why;split<;>omega
theorem L9(he:x.err=0)(hi:x.i<=s.size)(h:Rel x st)(BF:¬cur s x.i=47)(h63:¬cur s x.i=63)(XN:¬cur s x.i=33):Done g s x (x.kg s st.fP) (runs g s x.i (.plain .less) st):=by
 by_cases hb:Ch.eI (cur s x.i)=true
 ·have h0:0<=cur s x.i:=by have:=(Ch.fA _).1 hb;omega
  obtain⟨n1,n2⟩:=kW he hb;have hlt:=(qL (s:=s) hb).2;have hle:=nI hi;have e:b_ (.plain .less) x.i st (cur s x.i)=⟨(st.clear .name).put .name (cur s x.i) x.i,.go (.name .name .part)⟩:=by simp only[b_,step,fC];rw[if_neg BF,if_neg h63,if_neg XN,if_pos hb]
  rw[eN e h0,tK .name .part x.i st hb];unfold Sc.kg;rw[n1,n2];generalize hE:jq s x.i=E at*
  generalize hN:Ch.bytes s x.i (E-x.i)=N at*
  have hA:Df {x with i:=E} (st.dT .name N x.i) [] N st.fP:=
   ⟨⟨h.tag.told,by simpa [St.dT]using h.tag.text,by simpa [St.dT]using h.tag.from_⟩,h.attrs,by rw[show (st.dT .name N x.i).names=st.names from rfl,h.names];rfl,by simpa [St.dT]using h.value,by simp[St.dT],rfl⟩
  have hat:=zg (g:=g) (s:=s) (s.size+2) {x with i:=E} [] _ he hle (by show _<E+_;omega) hA;unfold Sc.attrs;generalize ew s (s.size+2) {x with i:=E} []=B at*
  rcases hat with⟨b1,b2,b3,b4,b5,gV,b6,b7⟩|⟨b1,b2,b3⟩
  ·simp only at b7 b2;rw[b7];have hd:=L8 (g:=g) b1 b3 b6 b5;rcases hd with⟨d1,d2,d3,d4⟩|⟨d1,d2,d3⟩
   ·have h6:B.1.more=x.more:=by rw[b4]
    have h7:B.1.l=x.l:=by rw[b4]
    have h8:B.1.at_=x.at_:=by rw[b4]
    obtain⟨⟨g1,g2,g3⟩,g4⟩:=d4;rw[h6]at g2;rw[h7]at g3;exact Or.inl ⟨d1,by omega,d3,⟨by rw[g1,h8],by omega,g3⟩,g4⟩
   ·have hl:B.1.l=x.l:=by rw[b4]
    exact Or.inr ⟨d1,by rw[d2,hl],by rw[d3,hl]⟩
  ·have Tj:B.1.iZ s N B.2 st.fP=B.1:=by
    unfold Sc.iZ;rw[if_neg (by rw[PC b1];simp),iA s _ b1,jW b1]
   rw[Tj];exact Or.inr ⟨b1,b2,b3⟩
 ·have hn:=nJ (s:=s) he hb;have oq:=eK x s he;have e:b_ (.plain .less) x.i st (cur s x.i)=⟨st.clear .name,.fail (Tk.why (cur s x.i)) x.i⟩:=by simp only[b_,step,fC];rw[if_neg BF,if_neg h63,if_neg XN,if_neg hb]
  have Tj:x.kg s st.fP=x.wrong s:=by
   unfold Sc.kg Sc.attrs;rw[hn];simp only;rw[jL oq];unfold Sc.iZ;rw[if_neg (by rw[PC oq];simp),iA s _ oq,jW oq]
  rw[Tj];refine Done.wrong he ?_;rw[fG e,<-h.tag.told];rfl
theorem Ar(he:x.err=0)(hi:x.i<=s.size)(h:Rel x st)(D4:st.run .name=[]):Done g s x (x.jw s st.fP) (runs g s x.i (.name .name .closing) st):=by
 by_cases hb:Ch.eI (cur s x.i)=true
 ·have h0:0<=cur s x.i:=by have:=(Ch.fA _).1 hb;omega
  obtain⟨n1,n2⟩:=kW he hb;have hlt:=(qL (s:=s) hb).2;have hle:=nI hi;have zS:st.clear .name=st.dT .name (st.run .name) 0:=by unfold St.clear;rw[D4]
  have e:b_ (.name .name .closing) x.i st (cur s x.i)=⟨(st.clear .name).put .name (cur s x.i) x.i,.go (.name .name .closing)⟩:=by
   simp only[b_,stName,fC];rw[if_pos (by rw[D4];rfl),if_pos hb];congr 1;unfold St.put;rw[zS,jV];simp only[St.dT,if_true];rw[D4];simp
  rw[eN e h0,tK .name .closing x.i st hb];unfold Sc.jw;rw[n1,n2];generalize hE:jq s x.i=E at*
  generalize hN:Ch.bytes s x.i (E-x.i)=N at*
  have hA:Df {x with i:=E} (st.dT .name N x.i) [] N st.fP:=
   ⟨⟨h.tag.told,by simpa [St.dT]using h.tag.text,by simpa [St.dT]using h.tag.from_⟩,h.attrs,by rw[show (st.dT .name N x.i).names=st.names from rfl,h.names];rfl,by simpa [St.dT]using h.value,by simp[St.dT],rfl⟩
  exact(Iz (x:={x with i:=E}) he hle hA).on (by omega)
 ·have hn:=nJ (s:=s) he hb;have oq:=eK x s he;have e:b_ (.name .name .closing) x.i st (cur s x.i)=⟨st,.fail (Tk.why (cur s x.i)) x.i⟩:=by simp only[b_,stName,fC];rw[if_pos (by rw[D4];rfl),if_neg hb]
  have Tj:x.jw s st.fP=x.wrong s:=by
   unfold Sc.jw;rw[hn];simp only;rw[jK oq,iA s _ oq,jW oq]
  rw[Tj];refine Done.wrong he ?_;rw[fG e,<-h.tag.told]
theorem Alike.done{A:List eX×Int×Int}(h:Alike s x y A (fun j=>runs g s j (.plain .between) st))(hr:Rel x st)(hlt:y.err=0->x.i<y.i):Done g s x y A:=by
 rcases h with⟨h1,h2,h3,h4,h5⟩|⟨h1,h2,h3⟩
 ·refine Or.inl ⟨h1,hlt h1,h3,⟨by rw[h4],by rw[h4];simp only;omega,by rw[h4];simp only;omega⟩,st,?_,h5⟩;rw[h4];exact hr.at _
 ·exact Or.inr ⟨h1,h2,h3⟩
theorem pP(st:St)(i:Nat):runs g s i (.plain .order) st=runs g s (jq s i) (.plain .order) st:=by
 by_cases h:xt (cur s i)=true
 ·have h0:=nH h;have hc:=eF h0;have hne:¬cur s i=63:=by
   intro e;rw[e]at h;exact absurd h (by decide)
  have e:b_ (.plain .order) i st (cur s i)=⟨st,.go (.plain .order)⟩:=by simp only[b_,step,iC];rw[if_neg hne,if_neg (by omega)]
  rw[eN e h0,pP st (i+wid s i),j9 h]
 ·rw[rP h]
termination_by s.size-i
theorem IA(he:x.err=0)(hi:x.i<=s.size)(h:Rel x st):Done g s x (x.order s) (runs g s x.i (.plain .ie) st):=by
 by_cases hb:Ch.eI (cur s x.i)=true
 ·have h0:0<=cur s x.i:=by have:=(Ch.fA _).1 hb;omega
  have nB:xt (cur s x.i)=true:=by unfold xt;rw[hb];rfl
  obtain⟨n1,n2⟩:=kW he hb;have hlt:=(qL (s:=s) hb).2;have hle:=nI hi;have e:b_ (.plain .ie) x.i st (cur s x.i)=⟨st,.go (.plain .order)⟩:=by simp only[b_,step];rw[if_pos hb]
  rw[eN e h0,pP st,<-j9 nB];unfold Sc.order Sc.until;rw[n1];refine Done.on (j:=jq s x.i) ?_ (by omega);refine(Io (s:=s) (jq s x.i) (s.size+2) {x with i:=jq s x.i} he hle (by show _<jq s x.i+_;omega) h.tag.told).done (h.at _) ?_;intro h1;have:=(yZ s ⟨#[63,62]⟩ (by decide) (jq s x.i) (s.size+2) {x with i:=jq s x.i} he h1 (by show _<jq s x.i+_;omega) hle).2;have h2:jq s x.i+2<=_:=this;show jq s x.i<_;omega
 ·have hn:=nJ (s:=s) he hb;have oq:=eK x s he;have e:b_ (.plain .ie) x.i st (cur s x.i)=⟨st,.fail (Tk.why (cur s x.i)) x.i⟩:=by simp only[b_,step];rw[if_neg hb]
  have Tj:x.order s=x.wrong s:=by
   unfold Sc.order Sc.until;rw[hn];simp only;rw[iY _ _ _ _ _ oq]
  rw[Tj];refine Done.wrong he ?_;rw[fG e,<-h.tag.told]
theorem FB(he:x.err=0)(hi:x.i<=s.size)(h:Rel x st)(XO:¬cur s x.i=91):Done g s x (x.remark s) (runs g s x.i (.plain .nU) st):=by
 by_cases h45:cur s x.i=45
 ·have hw:=fo (s:=s) (i:=x.i) (by omega) (by omega);have hc:=eF (s:=s) (i:=x.i) (by omega);have e:b_ (.plain .nU) x.i st (cur s x.i)=⟨st,.go (.word [45] .remark)⟩:=by simp only[b_,step];rw[if_pos h45]
  rw[eN e (by omega),hw];have hm:Sc.eo s [45,45] x=Sc.eo s [45] {x with i:=x.i+1}:=by
   have:x.is s (45:UInt8).toNat=true:=(jJ he (by decide)).2 h45
   conv=>lhs;rw[Sc.eo]
   rw[if_pos he,if_pos this]
  unfold Sc.remark;rw[hm];have hwd:=wg (g:=g) (s:=s) (st:=st) .remark [45] {x with i:=x.i+1} (by decide) (by decide) he (by show x.i+1<=_;omega) h.tag.told;generalize Sc.eo s [45] {x with i:=x.i+1}=y at*
  rcases hwd with⟨y1,y2,y3,y4,y5⟩|⟨y1,y2,y3⟩
  ·have y2':x.i+1<=y.i:=y2;simp only at y5;rw[y5];have hl:y.l=x.l:=by rw[y4]
   have hry:Rel y st:=by rw[y4];exact h.at _
   have hu:=Fv (g:=g) (s:=s) (st:=st) y.i (s.size+2) y y1 y3 (by omega) (by rw[hl];exact h.tag.told);unfold Sc.until;generalize (fM s ⟨#[45,45]⟩ y.i (s.size+2) y).1=u at*
   rcases hu with⟨u1,u2,u3,u4,u5⟩|⟨u1,u2,u3⟩
   ·have hl':u.l=x.l:=by rw[u4,<-hl]
    have OS:Rel u st:=by rw[u4];exact hry.at _
    simp only at u5;rw[u5];have hw2:=wg (g:=g) (s:=s) (st:=st) .between [62] u (by decide) (by decide) u1 u3 (by rw[hl'];exact h.tag.told);generalize Sc.eo s [62] u=v at*
    rcases hw2 with⟨v1,v2,v3,v4,v5⟩|⟨v1,v2,v3⟩
    ·exact Or.inl ⟨v1,by omega,v3,zi (by rw[v4,u4,y4]) (by rw[v4,u4,y4]) (by rw[v4,u4,y4]) (by omega),st,by rw[v4];exact OS.at _,v5⟩
    ·exact Or.inr ⟨v1,by rw[v2,hl'],by rw[v3,hl']⟩
   ·rw[iA s _ u1];exact Or.inr ⟨u1,by rw[u2,hl],by rw[u3,hl]⟩
  ·unfold Sc.until;rw[iY _ _ _ _ _ y1,iA s _ y1];exact Or.inr ⟨y1,y2,y3⟩
 ·have oq:=eK x s he;have Tj:x.remark s=x.wrong s:=by
   have aaY:¬x.is s (45:UInt8).toNat=true:=fun e=>h45 ((jJ he (by decide)).1 e);unfold Sc.remark Sc.until;have:Sc.eo s [45,45] x=x.wrong s:=by
    conv=>lhs;rw[Sc.eo]
    rw[if_pos he,if_neg aaY,iA s _ oq]
   rw[this,iY _ _ _ _ _ oq,iA s _ oq]
  rw[Tj];refine Done.wrong he ?_;have e:b_ (.plain .nU) x.i st (cur s x.i)=⟨st,.fail (Tk.why (cur s x.i)) x.i⟩:=by simp only[b_,step];rw[if_neg h45,if_neg XO]
  rw[fG e,<-h.tag.told]
theorem IB(he:x.err=0)(hi:x.i<=s.size)(h:Rel x st)(XO:cur s x.i=91):Done g s x (x.sW s) (runs g s x.i (.plain .nU) st):=by
 have hw:=fo (s:=s) (i:=x.i) (by omega) (by omega);have hc:=eF (s:=s) (i:=x.i) (by omega);have e:b_ (.plain .nU) x.i st (cur s x.i)=⟨st,.go (.word [67,68,65,84,65,91] .gH)⟩:=by simp only[b_,step];rw[if_neg (by omega),if_pos XO]
 rw[eN e (by omega),hw];have hm:Sc.eo s [91,67,68,65,84,65,91] x=Sc.eo s [67,68,65,84,65,91] {x with i:=x.i+1}:=by
  have:x.is s (91:UInt8).toNat=true:=(jJ he (by decide)).2 XO
  conv=>lhs;rw[Sc.eo]
  rw[if_pos he,if_pos this]
 unfold Sc.sW;rw[hm];have hwd:=wg (g:=g) (s:=s) (st:=st) .gH [67,68,65,84,65,91] {x with i:=x.i+1} (by decide) (by decide) he (by show x.i+1<=_;omega) h.tag.told;generalize Sc.eo s [67,68,65,84,65,91] {x with i:=x.i+1}=y at*
 rcases hwd with⟨y1,y2,y3,y4,y5⟩|⟨y1,y2,y3⟩
 ·have y2':x.i+1<=y.i:=y2;simp only at y5;rw[y5];have hl:y.l=x.l:=by rw[y4]
  have hry:Rel y st:=by rw[y4];exact h.at _
  have hu:=Dd (g:=g) (s:=s) (st:=st) y.i (s.size+2) y y1 y3 (au _) (by omega) (by rw[hl];exact h.tag.told);rw[Bx]at hu;have hut:=fun h1=>yZ s ⟨#[93,93,62]⟩ (by decide) y.i (s.size+2) y y1 h1 (by omega) y3;unfold Sc.until;generalize fM s ⟨#[93,93,62]⟩ y.i (s.size+2) y=u at*
  rcases hu with⟨u1,u2,u3,u4,u5⟩|⟨u1,u2,u3⟩
  ·obtain⟨t1,t2⟩:=hut u1;have t2':y.i+3<=u.1.i:=t2;have hsz:(⟨#[93,93,62]⟩:ByteArray).size=3:=rfl;have hb:u.2.data.toList=Ch.bytes s y.i (u.1.i-3-y.i):=by rw[t1,gG,hsz]
   have OS:Rel u.1 st:=by rw[u4];exact hry.at _
   rw[u5];by_cases hne:u.2.data.toList≠[]
   ·rw[if_pos ⟨u1,hne⟩];have hlt:y.i<u.1.i-3:=by
     by_cases hlt:y.i<u.1.i-3
     ·exact hlt
     ·exfalso;apply hne;rw[hb,show u.1.i-3-y.i=0 by omega];unfold Ch.bytes;simp
    refine Or.inl ⟨u1,by show x.i<u.1.i;omega,u3,⟨by show u.1.at_=x.at_;rw[u4,y4],?_,by show u.1.l.length<=_;rw[u4,y4];simp only;omega⟩,_,?_,rfl⟩
    ·have h6:u.1.more=x.more:=by rw[u4,y4]
     show (u.1.more++u.2.data.toList).length+x.i<=x.more.length+u.1.i;rw[h6,ax,hb];have h7:(Ch.bytes s y.i (u.1.i-3-y.i)).length<=u.1.i-3-y.i:=by unfold Ch.bytes;rw[bI];omega
     omega
    refine⟨⟨OS.tag.told,?_,?_⟩,OS.attrs,OS.names,?_⟩
    ·simp only[St.upto,St.dT,if_true,Sc.gS];rw[hb,OS.tag.text]
    ·intro _;simp only[St.upto,St.dT,if_true,Sc.gS];rw[OS.tag.text];by_cases XA:u.1.more=[]
     ·rw[if_pos ⟨XA,hlt⟩,if_pos XA]
     ·rw[if_neg (fun e=>XA e.1),if_neg XA];exact OS.tag.from_ XA
    ·simpa [St.upto,St.dT]using OS.value
   ·rw[if_neg (fun e=>hne e.2)];have hz:u.1.i-3=y.i:=by
     by_cases hlt:y.i<u.1.i-3
     ·exact absurd (by rw[hb];exact uO s (by omega) (by omega)) hne
     ·omega
    refine Or.inl ⟨u1,by omega,u3,zi (by rw[u4,y4]) (by rw[u4,y4]) (by rw[u4,y4]) (by omega),st,OS,?_⟩;show runs g s u.1.i _ (st.upto s .text y.i (u.1.i-3))=_;rw[hz,Bx]
  ·rw[if_neg (fun e=>u1 e.1)];exact Or.inr ⟨u1,by rw[u2,hl],by rw[u3,hl]⟩
 ·unfold Sc.until;rw[iY _ _ _ _ _ y1];rw[if_neg (fun e=>y1 e.1)];exact Or.inr ⟨y1,y2,y3⟩
theorem FC(he:x.err=0)(h:Rel x st)(sB:cur s x.i=60):Done g s x (x.j4 s) (runs g s x.i (.plain .between) st):=by
 have hw:=fo (s:=s) (i:=x.i) (by omega) (by omega);have hc:=eF (s:=s) (i:=x.i) (by omega);have e:b_ (.plain .between) x.i st (cur s x.i)=⟨{st with fP:=x.i},.go (.plain .less)⟩:=by simp only[b_,step];rw[if_pos sB]
 rw[eN e (by omega),hw];have hr:Rel {x with i:=x.i+1} {st with fP:=(x.i:Int)}:=⟨⟨h.tag.told,h.tag.text,h.tag.from_⟩,h.attrs,h.names,h.value⟩
 unfold Sc.j4;refine Done.on (j:=x.i+1) ?_ (by omega);have hle:x.i+1<=s.size:=by omega
 have hx:({x with i:=x.i+1}:Sc).err=0:=he;have htg:({st with fP:=(x.i:Int)}:St).fP=x.i:=rfl;have GI:({x with i:=x.i+1}:Sc).i=x.i+1:=rfl;rw[<-GI]at hle ⊢;rw[<-htg];generalize ({x with i:=x.i+1}:Sc)=X at*
 generalize ({st with fP:=(x.i:Int)}:St)=S at*
 clear htg GI e sB hw hc h he;unfold Sc.behind;have i33:X.is s 33=true↔cur s X.i=33:=jJ hx (by omega);have i63:X.is s 63=true↔cur s X.i=63:=jJ hx (by omega);have i47:X.is s 47=true↔cur s X.i=47:=jJ hx (by omega);by_cases c33:cur s X.i=33
 ·rw[if_pos (i33.2 c33)];have hw:=fo (s:=s) (i:=X.i) (by omega) (by omega);have hc:=eF (s:=s) (i:=X.i) (by omega);have e:b_ (.plain .less) X.i S (cur s X.i)=⟨S,.go (.plain .nU)⟩:=by simp only[b_,step];rw[if_neg (by omega),if_neg (by omega),if_pos c33]
  rw[eN e (by omega),hw];refine Done.on (j:=X.i+1) ?_ (by omega);unfold Sc.nU;have i91:=jJ (s:=s) (x:={X with i:=X.i+1}) hx (c:=91) (by omega);by_cases c91:cur s (X.i+1)=91
  ·rw[if_pos (i91.2 c91)];exact IB (x:={X with i:=X.i+1}) hx (by show X.i+1<=_;omega) (hr.at _) c91
  ·rw[if_neg (fun h=>c91 (i91.1 h))];exact FB (x:={X with i:=X.i+1}) hx (by show X.i+1<=_;omega) (hr.at _) c91
 ·rw[if_neg (fun h=>c33 (i33.1 h))];by_cases c63:cur s X.i=63
  ·rw[if_pos (i63.2 c63)];have hw:=fo (s:=s) (i:=X.i) (by omega) (by omega);have hc:=eF (s:=s) (i:=X.i) (by omega);have e:b_ (.plain .less) X.i S (cur s X.i)=⟨S,.go (.plain .ie)⟩:=by simp only[b_,step];rw[if_neg (by omega),if_pos c63]
   rw[eN e (by omega),hw];exact(IA (x:={X with i:=X.i+1}) hx (by show X.i+1<=_;omega) (hr.at _)).on (by omega)
  ·rw[if_neg (fun h=>c63 (i63.1 h))];by_cases c47:cur s X.i=47
   ·rw[if_pos (i47.2 c47)];have hw:=fo (s:=s) (i:=X.i) (by omega) (by omega);have hc:=eF (s:=s) (i:=X.i) (by omega);have e:b_ (.plain .less) X.i S (cur s X.i)=⟨S.clear .name,.go (.name .name .closing)⟩:=by simp only[b_,step];rw[if_pos c47]
    rw[eN e (by omega),hw];have Xm:Rel {X with i:=X.i+1} (S.clear .name):=⟨⟨hr.tag.told,by simpa [St.clear,St.dT]using hr.tag.text,by simpa [St.clear,St.dT]using hr.tag.from_⟩,hr.attrs,hr.names,by simpa [St.clear,St.dT]using hr.value⟩
    exact(Ar (x:={X with i:=X.i+1}) hx (by show X.i+1<=_;omega) Xm (by simp[St.clear,St.dT])).on (by omega)
   ·rw[if_neg (fun h=>c47 (i47.1 h))];exact L9 hx hle hr c47 c63 c33
end
section
variable{g:St->List eX}{s:ByteArray}{i:Nat}{pt jC:Part}{st gV:St}{no q c:Int}{x y:Sc}
def Sc.piece(x:Sc)(s:ByteArray):Sc:=
 if(s.get! x.i).toNat=60 then x.j4 s else if(x.char s 60).1.err=0 then(x.char s 60).1.gS (x.char s 60).2 x.i else(x.char s 60).1
def il(s:ByteArray):Nat->Sc->Sc
 |0,x=>x
 |f+1,x=>if x.i<s.size/\x.err=0 then il s f (x.piece s)else x
def Sc.zero:Sc:=⟨0,[],[],0,0,0⟩
def ee(s:ByteArray):Sc:=il s (s.size+1) Sc.zero
def Sc.last(x:Sc):List eX:=if x.err≠0\/x.more=[]then []else [fY x]
def Sc.fin(x:Sc)(G:Sc->List eX):List eX×Int×Int:=if x.err=0 then(G x,0,0)else(x.l,x.err,x.at_)
theorem L_(he:x.err=0)(hi:x.i<s.size)(h:Rel x st)(sB:¬cur s x.i=60):
  Done g s x (if(x.char s 60).1.err=0 then(x.char s 60).1.gS (x.char s 60).2 x.i else(x.char s 60).1) (runs g s x.i (.plain .between) st):=by
 have hch:=uR (s:=s) he 60 (by omega);have aaZ:¬cur s x.i=((60:Nat):Int):=sB;by_cases h0:0<=cur s x.i
 ·have hc:=eF h0;have De:¬(cur s x.i<0\/cur s x.i=60\/cur s x.i=((60:Nat):Int)):=by rintro(h|h|h);omega;exact sB h;exact aaZ h
  rw[if_neg De]at hch;by_cases nD:cur s x.i=38
  ·rw[if_pos nD]at hch;have e:b_ (.plain .between) x.i st (cur s x.i)=⟨(st.clear .ref).put .ref 38 x.i,.go (.ref .text .between)⟩:=by simp only[b_,step];rw[if_neg sB,if_pos nD]
   rw[eN e h0,Fz .text .between x.i st nD];unfold Bz;by_cases hz:(Ch.ed s x.i).2=0
   ·rw[if_pos hz]at hch ⊢;have hf:=mV x 4 x.i he (by decide);rw[hch];simp only;rw[if_neg hf];refine Or.inr ⟨hf,?_,?_⟩
    ·unfold Sc.fail;rw[if_pos he]
    ·unfold Sc.fail;rw[if_pos he,h.tag.told]
   ·rw[if_neg hz]at hch ⊢;have hsp:=Ch.iK hz;rw[hch];simp only;rw[if_pos he];refine Or.inl ⟨he,by show x.i<x.i+_;omega,by show x.i+(Ch.ed s x.i).2.toNat<=_;omega,⟨rfl,?_,by show x.l.length<=_;omega⟩,_,?_,rfl⟩
    ·show (x.more++Lib.encodeRune (Ch.ed s x.i).1).length+x.i<=x.more.length+(x.i+(Ch.ed s x.i).2.toNat);have:=Ch.rC (Ch.ed s x.i).1;rw[ax];omega
    refine⟨⟨h.tag.told,?_,?_⟩,h.attrs,h.names,?_⟩
    ·simp[St.put,St.dT,Sc.gS,h.tag.text]
    ·intro _;simp only[St.put,St.dT,Sc.gS,if_true];by_cases hm:x.more=[]
     ·rw[if_pos hm];simp[h.tag.text,hm]
     ·rw[if_neg hm];simp[h.tag.text,hm];exact h.tag.from_ hm
    ·simpa [St.put,St.dT]using h.value
  ·rw[if_neg nD]at hch;have e:b_ (.plain .between) x.i st (cur s x.i)=⟨st.put .text (cur s x.i) x.i,.go (.plain .between)⟩:=by simp only[b_,step];rw[if_neg sB,if_neg nD,if_neg (by omega),if_neg (by omega)]
   have hb:=gG s x.i (x.i+wid s x.i);rw[show x.i+wid s x.i-x.i=wid s x.i by omega,<-lN h0]at hb;rw[eN e h0,hch];simp only;rw[if_pos he];refine Or.inl ⟨he,by show x.i<x.i+wid s x.i;omega,by show x.i+wid s x.i<=_;omega,⟨rfl,?_,by show x.l.length<=_;omega⟩,_,?_,rfl⟩
   ·show (x.more++(s.extract x.i (x.i+wid s x.i)).data.toList).length+x.i<=x.more.length+(x.i+wid s x.i);have h7:(Ch.bytes s x.i (wid s x.i)).length<=wid s x.i:=by unfold Ch.bytes;rw[bI];omega
    rw[ax,hb,lN h0];omega
   refine⟨⟨h.tag.told,?_,?_⟩,h.attrs,h.names,?_⟩
   ·simp only[St.put,St.dT,Sc.gS,if_true];rw[hb,h.tag.text]
   ·intro _;simp only[St.put,St.dT,Sc.gS,if_true];by_cases hm:x.more=[]
    ·rw[if_pos hm];simp[h.tag.text,hm]
    ·rw[if_neg hm];simp[h.tag.text,hm];exact h.tag.from_ hm
   ·simpa [St.put,St.dT]using h.value
 ·rw[if_pos (Or.inl (by omega))]at hch;have oq:=eK x s he;rw[hch];simp only;rw[if_neg oq];refine Done.wrong he ?_;rcases rN h0 with⟨_,h2⟩|⟨h2,_⟩
  ·have e:b_ (.plain .between) x.i st (cur s x.i)=⟨st,.fail 2 x.i⟩:=by simp only[b_,step,h2];rfl
   rw[fG e,h2,h.tag.told];rfl
  ·exact absurd hi h2
theorem mZ(he:x.err=0)(hi:x.i<s.size)(h:Rel x st):Done g s x (x.piece s) (runs g s x.i (.plain .between) st):=by
 unfold Sc.piece;have XM:=jI (s:=s) (i:=x.i) (c:=60) (by omega);by_cases sB:cur s x.i=60
 ·rw[if_pos (XM.1 sB).2];exact FC he h sB
 ·rw[if_neg (fun e=>sB (XM.2 ⟨hi,e⟩))];exact L_ he hi h sB
theorem rR(he:x.err≠0)(f:Nat):il s f x=x:=by
 cases f with
 |zero=>rfl
 |succ f=>simp only[il];rw[if_neg (fun e=>he e.2)]
theorem BH(G:Sc->List eX)(hG:∀(x:Sc) (st:St),x.err=0->Rel x st->g st=G x):∀(f:Nat) (x:Sc) (st:St),x.err=0->x.i<=s.size->s.size<x.i+f->Rel x st->runs g s x.i (.plain .between) st=(il s f x).fin G:=by
 intro f;induction f with
 |zero=>intro x st he hi hf;omega
 |succ f ih=>
  intro x st he hi hf h;simp only[il];by_cases hlt:x.i<s.size
  ·rw[if_pos ⟨hlt,he⟩];rcases mZ he hlt h with⟨h1,h2,h3,ha,gV,h4,h5⟩|⟨h1,h2,h3⟩
   ·rw[h5];exact ih _ _ h1 h3 (by omega) h4
   ·rw[rR h1,h3];unfold Sc.fin;rw[if_neg h1,h2]
  ·rw[if_neg (fun e=>hlt e.1)];have hc:cur s x.i= -1:=by unfold cur;rw[if_neg hlt]
   have e:b_ (.plain .between) x.i st (cur s x.i)=⟨st.dX,.stop⟩:=by simp only[b_,step,hc];rfl
   rw[v_ e,hG x st he h];unfold Sc.fin;rw[if_pos he]
theorem tL(g:St->List eX):∀(f:Nat) (x:Sc) (st:St),x.err=0->x.i<=s.size->s.size<x.i+f->Rel x st->(il s f x).err=0->(il s f x).i=s.size/\(il s f x).at_=x.at_:=by
 intro f;induction f with
 |zero=>intro x st he hi hf;omega
 |succ f ih=>
  intro x st he hi hf h;simp only[il];by_cases hlt:x.i<s.size
  ·rw[if_pos ⟨hlt,he⟩];rcases mZ (g:=g) he hlt h with⟨h1,h2,h3,ha,gV,h4,h5⟩|⟨h1,h2,h3⟩
   ·intro e;have:=ih _ _ h1 h3 (by omega) h4 e;exact⟨this.1,this.2.trans ha.1⟩
   ·rw[rR h1];intro e;exact absurd e h1
  ·rw[if_neg (fun e=>hlt e.1)];intro _;exact⟨by omega,rfl⟩
theorem Ma(x:Sc)(st:St)(he:x.err=0)(h:Rel x st):st.dX.told=x.l++x.last:=by
 rw[o8 h.tag];unfold Sc.last;by_cases hm:x.more=[]
 ·rw[if_pos hm,if_pos (Or.inr hm),aP]
 ·rw[if_neg hm,if_neg (by rintro(h|h);exact h he;exact hm h)]
end
end K
end Go.Proofs.YtclgfepngpeifaaGreatDoor
