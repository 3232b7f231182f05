import Derived.Test.YtclgfepngpeifaaGreatDoorYA
import Derived.Test.YtclgfepngpeifaaGreatDoorYak
import Derived.Test.YtclgfepngpeifaaGreatDoorYao
set_option linter.unusedVariables false
set_option linter.unusedSimpArgs false
set_option maxHeartbeats 32000000
set_option maxRecDepth 100000
namespace Go.Proofs.YtclgfepngpeifaaGreatDoor
namespace K
open Go.RowKit Go.Lib Tryz
section
def cur(s:ByteArray)(i:Nat):Int:=if i<s.size then(if Ch.fQ s i=true then((Utf8.decode s i).1:Int)else-2)else-1
def wid(s:ByteArray)(i:Nat):Nat:=(Utf8.decode s i).2
def uC(g:St->List fe)(s:ByteArray):Nat->Nat->Part->St->List fe×Int×Int
 |0,_,_,st=>(st.told,0,0)
 |f+1,i,pt,st=>
  match (b_ pt i st (cur s i)).res with
  | .go jE=>if 0<=cur s i then uC g s f (i+wid s i) jE (b_ pt i st (cur s i)).st else(st.told,0,0)
  | .stop=>(g st,0,0)
  | .fail no q=>((b_ pt i st (cur s i)).st.told,no,q)
def runs(g:St->List fe)(s:ByteArray)(i:Nat)(pt:Part)(st:St):List fe×Int×Int:=uC g s (s.size-i+1) i pt st
variable{g:St->List fe}{s:ByteArray}{i:Nat}{pt jE:Part}{st ia:St}{no q c:Int}
theorem eK(h:0<=cur s i):i<s.size/\Ch.fQ s i=true/\cur s i=((Utf8.decode s i).1:Int)/\1<=wid s i/\i+wid s i<=s.size:=by
 unfold cur at h ⊢;split at h
 ·rename_i h1;split at h
  ·rename_i h2;have:=Ch.ek s i h1;rw[if_pos h1,if_pos h2];exact⟨h1,h2,rfl,this.2.1,this.1⟩
  ·omega
 ·omega
theorem rB(h:¬0<=cur s i):(i<s.size/\cur s i= -2)\/(¬i<s.size/\cur s i= -1):=by
 unfold cur at h ⊢;split
 ·rename_i h1;rw[if_pos h1]at h;split
  ·rename_i h2;rw[if_pos h2]at h;omega
  ·exact Or.inl ⟨h1,rfl⟩
 ·rename_i h1;exact Or.inr ⟨h1,rfl⟩
theorem Ir:∀(f f' i:Nat) (pt:Part) (st:St),s.size-i<f->s.size-i<f'->uC g s f i pt st=uC g s f' i pt st:=by
 intro f;induction f with
 |zero=>intro f' i pt st h;omega
 |succ f ih=>
  intro f' i pt st h h';obtain⟨f',rfl⟩:∃k,f'=k+1:=⟨f'-1,by omega⟩
  simp only[uC];split
  ·split
   ·rename_i h0;have:=eK h0;exact ih _ _ _ _ (by omega) (by omega)
   ·rfl
  ·rfl
  ·rfl
theorem eR(e:b_ pt i st (cur s i)=⟨ia,.go jE⟩)(h:0<=cur s i):runs g s i pt st=runs g s (i+wid s i) jE ia:=by
 have hc:=eK h;unfold runs
 conv=>lhs;unfold uC
 rw[e];simp only[h,if_true];exact Ir _ _ _ _ _ (by omega) (by omega)
theorem fM(e:b_ pt i st (cur s i)=⟨ia,.fail no q⟩):runs g s i pt st=(ia.told,no,q):=by unfold runs uC;rw[e]
theorem vI(e:b_ pt i st (cur s i)=⟨ia,.stop⟩):runs g s i pt st=(g st,0,0):=by unfold runs uC;rw[e]
theorem mD(e:b_ pt i st (cur s i)=b_ jE i ia (cur s i))(ht:st.told=ia.told)(hg:(∃o,b_ pt i st (cur s i)=⟨o,.stop⟩)->g st=g ia):runs g s i pt st=runs g s i jE ia:=by
 unfold runs uC;rw[e]at hg ⊢;rw[ht];generalize b_ jE i ia (cur s i)=o at*
 obtain⟨o,r⟩:=o;cases r with
 |go abP=>rfl
 |stop=>simp only;rw[hg ⟨o,rfl⟩]
 |fail no q=>rfl
theorem Bq{k:Pl}{o:St}(h:step k q st c=⟨o,.stop⟩):k=.between:=by
 cases k<;>first|rfl|(exfalso;simp only[step,jt,fH,jK,ib,iH,fB,fC]at h;repeat' split at h
                      all_goals cases h)
theorem tj{k:Pl}{o:St}(h:b_ (.plain k) q st c=⟨o,.stop⟩):k=.between:=by
 have h':step k q st c=⟨o,.stop⟩:=by simpa only[b_]using h
 exact Bq h'
theorem jL{c:Nat}(hc:c=9\/c=10\/c=13\/(32<=c/\c<128)):cur s i=(c:Int)↔i<s.size/\(s.get! i).toNat=c:=by
 unfold cur;by_cases h:i<s.size
 ·rw[if_pos h];have hb:Ch.bz s i=((s.get! i).toNat:Int):=by simp[Ch.bz,h]
  rcases Ch.nD s i h with⟨h0,h1,hd⟩|⟨h0,h1⟩
  ·have gZ:Ch.fQ s i=Ch.may (Ch.bz s i):=by
    have e1:(((Ch.bz s i).toNat:Nat):Int)=Ch.bz s i:=by omega
    have e2:((Ch.bz s i).toNat !=65533)=true:=by simp;omega
    simp[Ch.fQ,hd,e1];intro _;omega
   rw[gZ,hd];by_cases hm:Ch.may (Ch.bz s i)=true
   ·rw[if_pos hm];simp only[h,dy];omega
   ·rw[if_neg hm];have tK:=mt (Ch.lB (Ch.bz s i)).2 hm;simp only[h,dy];constructor
    ·intro e;omega
    ·intro e;exfalso;apply tK;omega
  ·constructor
   ·intro e;split at e
    ·omega
    ·omega
   ·rintro⟨_,e⟩;omega
 ·rw[if_neg h];simp[h]
theorem fy(h:0<=cur s i)(h1:cur s i<128):wid s i=1:=by
 have hc:=eK h;rcases Ch.nD s i hc.1 with⟨_,_,hd⟩|⟨_,h2⟩
 ·unfold wid;rw[hd]
 ·omega
variable{x:Sc}
theorem jM(he:x.err=0){c:Nat}(hc:c=9\/c=10\/c=13\/(32<=c/\c<128)):x.is s c=true↔cur s x.i=(c:Int):=by rw[jL hc];simp[Sc.is,he]
theorem C_(he:x.err=0){c:Nat}(hc:c=9\/c=10\/c=13\/(32<=c/\c<128)):x.is s c=decide (cur s x.i=(c:Int)):=by
 have:=jM (s:=s) he hc;cases h:x.is s c<;>simp_all
theorem PS(he:x.err≠0)(c:Nat):x.is s c=false:=by simp[Sc.is,he]
theorem Da(s:ByteArray)(i:Nat):Ch.mL s i=if 0<=cur s i then(cur s i,(wid s i:Int))else(0,0):=by
 unfold Ch.mL;by_cases h:0<=cur s i
 ·have:=eK h;rw[if_pos h,if_pos ⟨this.1,this.2.1⟩,this.2.2.1];rfl
 ·rw[if_neg h];rcases rB h with⟨h1,h2⟩|⟨h1,h2⟩
  ·have:¬Ch.fQ s i=true:=by intro e;unfold cur at h2;rw[if_pos h1,if_pos e]at h2;omega
   rw[if_neg (fun e=>this e.2)]
  ·rw[if_neg (fun e=>h1 e.1)]
theorem qx(s:ByteArray)(i:Nat):(Ch.mL s i).2=0↔¬0<=cur s i:=by
 rw[Da];split
 ·rename_i h;have:=eK h;simp only[];constructor
  ·intro e;omega
  ·intro e;exact absurd h e
 ·rename_i h;simp[h]
theorem gH(he:x.err=0):x.wrong s={x with err:=Tk.why (cur s x.i),at_:=x.i}:=by
 unfold Sc.wrong Sc.fail;simp only[he,if_true,qx];by_cases h:0<=cur s x.i
 ·have:=eK h;rw[if_pos this.1,if_neg (by simpa using h)];have e:Tk.why (cur s x.i)=3:=by unfold Tk.why;rw[if_neg (by omega)]
  rw[e]
 ·rcases rB h with⟨h1,h2⟩|⟨h1,h2⟩
  ·rw[if_pos h1,if_pos h,h2];rfl
  ·rw[if_neg h1,h2];rfl
theorem lJ(h:0<=cur s i):Lib.encodeRune (cur s i)=Ch.bytes s i (wid s i):=by
 have hc:=eK h;rw[hc.2.2.1];exact Ch.sD hc.1 hc.2.1
theorem oH(s:ByteArray)(i a b:Nat):Ch.bytes s i a++Ch.bytes s (i+a) b=Ch.bytes s i (a+b):=by
 unfold Ch.bytes;rw[<-List.drop_drop,List.take_add]
theorem gL(s:ByteArray)(a b:Nat):(s.extract a b).data.toList=Ch.bytes s a (b-a):=by
 unfold Ch.bytes;simp[ByteArray.data_extract,List.extract_eq_take_drop]
end
section
variable{g:St->List fe}{s:ByteArray}{i:Nat}{pt jE:Part}{st ia:St}{no q c:Int}{x:Sc}
theorem mW(s:ByteArray)(i:Nat):(i<s.size/\iT (s.get! i).toNat=true)↔Tk.blank (cur s i)=true:=by
 have h:=fun c hc=>jL (s:=s) (i:=i) (c:=c) hc;have h32:=h 32 (by omega);have h9:=h 9 (by omega);have h10:=h 10 (by omega);have h13:=h 13 (by omega);simp only[iT,Tk.blank,bm,bk];constructor
 ·rintro⟨h0,((e|e)|e)|e⟩
  ·exact Or.inl (Or.inl (Or.inl (h32.2 ⟨h0,e⟩)))
  ·exact Or.inl (Or.inl (Or.inr (h9.2 ⟨h0,e⟩)))
  ·exact Or.inl (Or.inr (h10.2 ⟨h0,e⟩))
  ·exact Or.inr (h13.2 ⟨h0,e⟩)
 ·rintro(((e|e)|e)|e)
  ·exact⟨(h32.1 e).1,Or.inl (Or.inl (Or.inl (h32.1 e).2))⟩
  ·exact⟨(h9.1 e).1,Or.inl (Or.inl (Or.inr (h9.1 e).2))⟩
  ·exact⟨(h10.1 e).1,Or.inl (Or.inr (h10.1 e).2)⟩
  ·exact⟨(h13.1 e).1,Or.inr (h13.1 e).2⟩
theorem yP{c:Int}(h:Tk.blank c=true):c=32\/c=9\/c=10\/c=13:=by simp only[Tk.blank,bm,bk]at h;omega
def gap(s:ByteArray)(i:Nat):Nat:=skip s (s.size+1) i
theorem L8:∀(f f' i:Nat),i<=s.size->s.size<i+f->s.size<i+f'->skip s f i=skip s f' i:=by
 intro f;induction f with
 |zero=>intro f' i h h1;omega
 |succ f ih=>
  intro f' i h h1 h2;obtain⟨f',rfl⟩:∃k,f'=k+1:=⟨f'-1,by omega⟩
  simp only[skip];split
  ·rename_i hc;rw[ih f' (i+1) (by omega) (by omega) (by omega)]
  ·rfl
theorem xC(h:Tk.blank (cur s i)=true):gap s i=gap s (i+1)+1:=by
 have hb:=(mW s i).2 h;unfold gap
 conv=>lhs;unfold skip
 rw[if_pos hb];rw[L8 s.size (s.size+1) (i+1) (by omega) (by omega) (by omega)]
theorem Db(h:¬Tk.blank (cur s i)=true):gap s i=0:=by unfold gap skip;rw[if_neg (fun e=>h ((mW s i).1 e))]
theorem Kk(s:ByteArray)(i:Nat)(h:i<=s.size):i+gap s i<=s.size:=by
 by_cases hb:Tk.blank (cur s i)=true
 ·have:=((mW s i).2 hb).1;rw[xC hb];have:=Kk s (i+1) (by omega);omega
 ·rw[Db hb];exact h
termination_by s.size-i
theorem yQ(h:i<=s.size):i+gap s i<=s.size:=Kk s i h
theorem rC(s:ByteArray)(i:Nat):¬Tk.blank (cur s (i+gap s i))=true:=by
 by_cases hb:Tk.blank (cur s i)=true
 ·have:=((mW s i).2 hb).1;rw[xC hb];have:=rC s (i+1);rwa[show i+(gap s (i+1)+1)=i+1+gap s (i+1) by omega]
 ·rw[Db hb];exact hb
termination_by s.size-i
theorem qy(h:∀i c,Tk.blank c=true->b_ pt i st c=⟨st,.go pt⟩)(i:Nat):runs g s i pt st=runs g s (i+gap s i) pt st:=by
 by_cases hb:Tk.blank (cur s i)=true
 ·have hi:=((mW s i).2 hb).1;have hv:=yP hb;rw[eR (h _ _ hb) (by omega),fy (by omega) (by omega),qy h (i+1),xC hb];congr 1;omega
 ·rw[Db hb];rfl
termination_by s.size-i
theorem Fv(he:x.err=0):x.skip s=gap s x.i:=by unfold Sc.skip;rw[if_pos he];rfl
theorem lr(he:x.err=0):x.eD s={x with i:=x.i+gap s x.i}:=by unfold Sc.eD;rw[Fv he]
theorem jN(he:x.err≠0):x.eD s=x:=by unfold Sc.eD Sc.skip;rw[if_neg he];rfl
theorem uD(s:ByteArray)(k j:Nat):cur (Ch.tail s k) j=cur s (k+j):=by
 unfold cur;by_cases h:k+j<s.size
 ·have h1:j<(Ch.tail s k).size:=by rw[Ch.iX];omega
  have hd:Utf8.decode (Ch.tail s k) j=Utf8.decode s (k+j):=Ch.mg h (fun m=>by rw[Ch.ur,cP]);rw[if_pos h,if_pos h1];have:Ch.fQ (Ch.tail s k) j=Ch.fQ s (k+j):=by unfold Ch.fQ;rw[hd]
  rw[this,hd]
 ·have h1:¬j<(Ch.tail s k).size:=by rw[Ch.iX];omega
  rw[if_neg h,if_neg h1]
theorem yR{s:ByteArray}{k j:Nat}(h:k+j<s.size):wid (Ch.tail s k) j=wid s (k+j):=by
 unfold wid;rw[Ch.mg h (fun m=>by rw[Ch.ur,cP])]
def xl(c:Int):Bool:=Ch.eG c||Ch.fk c
theorem nI{c:Int}(h:xl c=true):0<=c:=by
 unfold xl at h;rw[bm]at h;rcases h with h|h
 ·have:=(Ch.fD c).1 h;omega
 ·have:=(Ch.iK c).1 h;omega
theorem tk(s:ByteArray)(p:Nat)(h:p<s.size):Ch.gG s p=if p=0 then Ch.eG (cur s p)else xl (cur s p):=by
 unfold Ch.gG cur xl;rw[if_pos h];by_cases ho:Ch.fQ s p=true
 ·rw[ho,if_pos rfl];by_cases h0:p=0
  ·subst h0;simp
  ·have:decide (0<p)=true:=by simp;omega
   simp[this,h0]
 ·have D7:Ch.fQ s p=false:=by simpa using ho
  rw[D7];have h1:Ch.eG (-2)=false:=by decide
  have h2:Ch.fk (-2)=false:=by decide
  simp[h1,h2]
def ju(s:ByteArray)(i:Nat):Nat:=
 if h:xl (cur s i)=true then ju s (i+wid s i)else i
termination_by s.size-i
decreasing_by have:=eK (nI h);omega
theorem kh(h:xl (cur s i)=true):ju s i=ju s (i+wid s i):=by
 conv=>lhs;unfold ju
 rw[dif_pos h]
theorem rD(h:¬xl (cur s i)=true):ju s i=i:=by unfold ju;rw[dif_neg h]
theorem rE(s:ByteArray)(i:Nat):i<=ju s i:=by
 by_cases h:xl (cur s i)=true
 ·have:=eK (nI h);have:=rE s (i+wid s i);rw[kh h];omega
 ·rw[rD h];omega
termination_by s.size-i
theorem Fw(s:ByteArray)(i:Nat)(h0:i<=s.size):ju s i<=s.size:=by
 by_cases h:xl (cur s i)=true
 ·have:=eK (nI h);have:=Fw s (i+wid s i) (by omega);rw[kh h];omega
 ·rw[rD h];omega
termination_by s.size-i
theorem nJ(h:i<=s.size):ju s i<=s.size:=Fw s i h
theorem Am(s:ByteArray)(k:Nat):∀f p,0<p->k+p<=s.size->s.size<k+p+f->Ch.eN (Ch.tail s k) f p+k=ju s (k+p):=by
 intro f;induction f with
 |zero=>intro p h h1 h2;omega
 |succ f ih=>
  intro p h h1 h2;have hz:=Ch.iX s k;simp only[Ch.eN];by_cases hp:k+p<s.size
  ·have ou:Ch.gG (Ch.tail s k) p=xl (cur s (k+p)):=by rw[tk _ _ (by omega),if_neg (by omega),uD]
   rw[if_pos (by omega),ou];by_cases hn:xl (cur s (k+p))=true
   ·have hc:=eK (nI hn);have hw:(Utf8.decode (Ch.tail s k) p).2=wid s (k+p):=yR hp;rw[if_pos hn,hw,kh hn,ih (p+wid s (k+p)) (by omega) (by omega) (by omega)];congr 1;omega
   ·rw[if_neg hn,rD hn];omega
  ·have e:k+p=s.size:=by omega
   rw[if_neg (by omega),rD (by unfold cur;rw[if_neg (by omega)];decide)];omega
theorem TH(hb:¬Ch.eG (cur s x.i)=true):x.vG s=0:=by
 unfold Sc.vG Ch.name;rw[Ch.jX];simp only[Ch.eN];split
 ·rename_i h;have ou:Ch.gG (Ch.tail s x.i) 0=Ch.eG (cur s x.i):=by rw[tk _ _ h,if_pos rfl,uD,bH]
  rw[ou,if_neg hb]
 ·omega
theorem qz(hb:Ch.eG (cur s x.i)=true):x.vG s=ju s x.i-x.i/\x.i<ju s x.i:=by
 have hp:0<=cur s x.i:=by have:=(Ch.fD _).1 hb;omega
 have hc:=eK hp;have hz:=Ch.iX s x.i;have hn:xl (cur s x.i)=true:=by unfold xl;rw[hb];rfl
 have hg:=rE s (x.i+wid s x.i);have hw:(Utf8.decode (Ch.tail s x.i) 0).2=wid s x.i:=yR (by omega);unfold Sc.vG Ch.name;rw[Ch.jX];simp only[Ch.eN];have ou:Ch.gG (Ch.tail s x.i) 0=Ch.eG (cur s x.i):=by rw[tk _ _ (by omega),if_pos rfl,uD,bH]
 rw[if_pos (by omega),ou,if_pos hb,aG,hw];have:=Am s x.i (Ch.tail s x.i).size (wid s x.i) (by omega) (by omega) (by omega);rw[kh hn];omega
theorem Bt(j:Rn)(k:Pl)(i:Nat)(st:St)(h0:st.run j≠[]):runs g s i (.name j k) st=runs g s (ju s i) (.plain k) (st.dV j (st.run j++Ch.bytes s i (ju s i-i)) (st.eV j)):=by
 have hl:¬(st.run j).length=0:=by simpa using h0
 by_cases h:xl (cur s i)=true
 ·have hp:=nI h;have hc:=eK hp;have e:b_ (.name j k) i st (cur s i)=⟨st.put j (cur s i) i,.go (.name j k)⟩:=by simp only[b_,stName];unfold xl at h;rw[if_neg hl,if_pos h]
  rw[eR e hp];have ep:st.put j (cur s i) i=st.dV j (st.run j++Ch.bytes s i (wid s i)) (st.eV j):=by unfold St.put;rw[if_neg hl,lJ hp]
  have hg:=rE s (i+wid s i);rw[Bt j k (i+wid s i) _ (by rw[ep];simp[St.dV,h0]),kh h,ep];congr 1;simp only[St.dV,if_true];rw[aV,oH,show wid s i+(ju s (i+wid s i)-(i+wid s i))=ju s (i+wid s i)-i by omega];congr 1
  ·funext m;split<;>rfl
  ·funext m;split<;>rfl
 ·rw[rD h];have e0:st.dV j (st.run j++Ch.bytes s i (i-i)) (st.eV j)=st:=by
   have:Ch.bytes s i (i-i)=[]:=by unfold Ch.bytes;simp
   rw[this,aP];unfold St.dV;congr 1
   ·funext m;split
    ·rename_i e;rw[e]
    ·rfl
   ·funext m;split
    ·rename_i e;rw[e]
    ·rfl
  rw[e0];refine mD ?_ rfl (fun _=>rfl);simp only[b_,stName];rw[if_neg hl];unfold xl at h;rw[if_neg h]
termination_by s.size-i
end
section
variable{g:St->List fe}{s:ByteArray}{i:Nat}{pt jE:Part}{st ia:St}{no q c:Int}{x y:Sc}
def Alike(s:ByteArray)(x y:Sc)(A:List fe×Int×Int)(B:Nat->List fe×Int×Int):Prop:=
 (y.err=0/\x.i<=y.i/\y.i<=s.size/\y={x with i:=y.i}/\A=B y.i)\/(y.err≠0/\y.l=x.l/\A=(x.l,y.err,y.at_))
theorem Alike.wrong(he:x.err=0){A:List fe×Int×Int}{B:Nat->List fe×Int×Int}(h:A=(x.l,Tk.why (cur s x.i),(x.i:Int))):Alike s x (x.wrong s) A B:=by
 rw[gH he];refine Or.inr ⟨?_,rfl,h⟩;show Tk.why _≠0;unfold Tk.why;split<;>omega
def Plain(l:List UInt8):Prop:=∀c∈l,32<=c.toNat/\c.toNat<128
instance (l:List UInt8):Decidable (Plain l):=by unfold Plain;infer_instance
theorem Kl{l:List UInt8}(hl:Plain l):∀i,Ch.has s i l=true↔∀k (h:k<l.length),cur s (i+k)=((l[k]).toNat:Int):=by
 induction l with
 |nil=>intro i;simp[Ch.has]
 |cons c l ih=>
  intro i;have hc:=hl c (by simp);have ih':=ih (fun d hd=>hl d (by simp[hd]));simp only[Ch.has,aT,bk];rw[ih'];have hb:Ch.bz s i=(c.toNat:Int)↔cur s i=(c.toNat:Int):=by
   rw[jL (Or.inr (Or.inr (Or.inr hc)))];unfold Ch.bz;split
   ·rename_i h;simp only[h,dy];omega
   ·rename_i h;simp only[h,false_and,iff_false];omega
  rw[hb];constructor
  ·rintro⟨h1,h2⟩ k hk;cases k with
   |zero=>simpa using h1
   |succ k=>
    have:=h2 k (by simpa using hk);simpa [cP,Nat.add_comm 1 k]using this
  ·intro h;refine⟨h 0 (by simp),fun k hk=>?_⟩;have:=h (k+1) (by simpa using hk);simpa [cP,Nat.add_comm 1 k]using this
theorem Iu(x:Sc)(s t:ByteArray)(h0:t.size≠0):x.stands s t=Ch.has s x.i t.data.toList:=by
 rw[<-Ch.oO,bD,List.isPrefixOf_iff_prefix,List.prefix_iff_eq_take];unfold Sc.stands;simp only[aT,aR,bk];rw[Lib.toList_data,Lib.toList_data,gL];unfold Ch.bytes;have hz:t.data.toList.length=t.size:=by simp
 rw[show x.i+t.size-x.i=t.size by omega,hz];constructor
 ·rintro⟨_,h⟩;exact h.symm
 ·intro h;refine⟨?_,h.symm⟩;have:=aL List.length h;rw[hz,bJ,cm]at this;have h2:s.data.toList.length=s.size:=by simp
  omega
theorem vJ(k:Pl):∀(l:List UInt8) (x:Sc),l≠[]->Plain l->x.err=0->x.i<=s.size->st.told=x.l->Alike s x (Sc.ey s l x) (runs g s x.i (.word l k) st) (fun j=>runs g s j (.plain k) st):=by
 intro l;induction l with
 |nil=>intro x h;exact absurd rfl h
 |cons c l ih=>
  intro x _ hl he hi ht;have hc:=hl c (by simp);simp only[Sc.ey];rw[if_pos he];by_cases hq:cur s x.i=(c.toNat:Int)
  ·have h0:0<=cur s x.i:=by omega
   have hp:=eK h0;have hw:=fy h0 (by omega);rw[if_pos ((jM he (Or.inr (Or.inr (Or.inr hc)))).2 hq)];by_cases hn:l=[]
   ·subst hn;have e:b_ (.word [c] k) x.i st (cur s x.i)=⟨st,.go (.plain k)⟩:=by simp[b_,ll,hq]
    rw[eR e h0,hw];exact Or.inl ⟨he,Nat.le_succ _,by show x.i+1<=_;omega,rfl,rfl⟩
   ·have e:b_ (.word (c::l) k) x.i st (cur s x.i)=⟨st,.go (.word l k)⟩:=by simp[b_,ll,hq,hn]
    rw[eR e h0,hw];rcases ih {x with i:=x.i+1} hn (fun d hd=>hl d (by simp[hd])) he (by show x.i+1<=_;omega) ht with⟨h1,h2,h3,h4,h5⟩|⟨h1,h2,h3⟩
    ·refine Or.inl ⟨h1,?_,h3,?_,h5⟩
     ·have UX:x.i+1<=_:=h2;omega
     ·rw[h4]
    ·exact Or.inr ⟨h1,h2,h3⟩
  ·have hf:x.is s c.toNat=false:=by
    have:=mt (jM (s:=s) he (Or.inr (Or.inr (Or.inr hc)))).1 hq;simpa using this
   rw[if_neg (by rw[hf];simp),iE s l (eO x s he)];refine Alike.wrong he ?_;have e:b_ (.word (c::l) k) x.i st (cur s x.i)=⟨st,.fail (Tk.why (cur s x.i)) x.i⟩:=by simp[b_,ll,hq]
   rw[fM e,ht]
theorem mX(s t:ByteArray)(fI f:Nat)(x:Sc)(he:x.err=0)(hz:t.size≠0):fS s t fI (f+1) x=if Ch.has s x.i t.data.toList=true then({x with i:=x.i+t.size},s.extract fI x.i)else if 0<=cur s x.i then fS s t fI f {x with i:=x.i+wid s x.i}else fS s t fI f (x.wrong s):=by
 simp only[fS];rw[if_pos he,Iu _ _ _ hz];split
 ·rfl
 ·by_cases h:0<=cur s x.i
  ·rw[if_neg (by rw[qx];simpa using h),if_pos h,Da,if_pos h];simp
  ·rw[if_pos ((qx s x.i).2 h),if_neg h]
theorem ja(s t:ByteArray)(fI f:Nat)(x:Sc)(he:x.err≠0):fS s t fI f x=(x,⟨#[]⟩):=by
 cases f with
 |zero=>rfl
 |succ f=>simp only[fS];rw[if_neg he]
theorem TI{a b:UInt8}(hp:Plain [a,b])(i:Nat):Ch.has s i [a,b]=true↔cur s i=(a.toNat:Int)/\cur s (i+1)=(b.toNat:Int):=by
 rw[Kl hp];constructor
 ·intro h;exact⟨h 0 (by simp),h 1 (by simp)⟩
 ·rintro⟨h1,h2⟩ k hk
  match k,hk with
  |0,_=>exact h1
  |1,_=>exact h2
theorem Alike.on{A:List fe×Int×Int}{B:Nat->List fe×Int×Int}{j:Nat}(h:Alike s {x with i:=j} y A B)(hj:x.i<=j):Alike s x y A B:=by
 rcases h with⟨h1,h2,h3,h4,h5⟩|⟨h1,h2,h3⟩
 ·refine Or.inl ⟨h1,aw hj h2,h3,?_,h5⟩;rw[h4]
 ·exact Or.inr ⟨h1,h2,h3⟩
theorem Fx(a b:UInt8)(A B:Pl)(K:Part)(hp:Plain [a,b])(hA:∀q c,step A q st c=if c=(a.toNat:Int)then⟨st,.go (.plain B)⟩else if c<0 then⟨st,.fail (Tk.why c) q⟩else⟨st,.go (.plain A)⟩)
  (hB:∀q c,step B q st c=if c=(b.toNat:Int)then⟨st,.go K⟩else step A q st c) (fI:Nat):∀(f:Nat) (x:Sc),x.err=0->x.i<=s.size->s.size+1<x.i+f->st.told=x.l->
  Alike s x (fS s ⟨#[a,b]⟩ fI f x).1 (runs g s x.i (.plain A) st) (fun j=>runs g s j K st):=by
 have ha:=hp a (by simp);have hb:=hp b (by simp);intro f;induction f with
 |zero=>intro x he hi hf;omega
 |succ f ih=>
  intro x he hi hf ht;rw[mX _ _ _ _ _ he (by show 2≠0;decide)];have hh:=TI (s:=s) hp x.i;by_cases h0:0<=cur s x.i
  ·have hp:=eK h0;by_cases h45:cur s x.i=(a.toNat:Int)
   ·have hw:=fy h0 (by omega);have e:b_ (.plain A) x.i st (cur s x.i)=⟨st,.go (.plain B)⟩:=by simp only[b_];rw[hA,if_pos h45]
    rw[eR e h0,hw];by_cases TJ:cur s (x.i+1)=(b.toNat:Int)
    ·have Sb:=eK (s:=s) (i:=x.i+1) (by omega);have hw':=fy (s:=s) (i:=x.i+1) (by omega) (by omega);have e2:b_ (.plain B) ((x.i+1:Nat):Int) st (cur s (x.i+1))=⟨st,.go K⟩:=by simp only[b_];rw[hB,if_pos TJ]
     rw[if_pos (hh.2 ⟨h45,TJ⟩),eR e2 (by omega),hw'];exact Or.inl ⟨he,by show x.i<=x.i+2;omega,by show x.i+2<=_;omega,rfl,rfl⟩
    ·rw[if_neg (fun h=>TJ (hh.1 h).2),if_pos h0];have e2:runs g s (x.i+1) (.plain B) st=runs g s (x.i+1) (.plain A) st:=mD (by simp only[b_];rw[hB,if_neg TJ]) rfl (fun _=>rfl);rw[e2];exact(ih {x with i:=x.i+1} he (by show x.i+1<=_;omega) (by show _<x.i+1+f;omega) ht).on (by omega)
   ·rw[if_neg (fun h=>h45 (hh.1 h).1),if_pos h0];have e:b_ (.plain A) x.i st (cur s x.i)=⟨st,.go (.plain A)⟩:=by simp only[b_];rw[hA,if_neg h45,if_neg (by omega)]
    rw[eR e h0];exact(ih {x with i:=x.i+wid s x.i} he (by show x.i+wid s x.i<=_;omega) (by show _<x.i+wid s x.i+f;omega) ht).on (by omega)
  ·rw[if_neg (fun h=>by have:=(hh.1 h).1;omega),if_neg h0,ja _ _ _ _ _ (eO x s he)];refine Alike.wrong he ?_;have e:b_ (.plain A) x.i st (cur s x.i)=⟨st,.fail (Tk.why (cur s x.i)) x.i⟩:=by simp only[b_];rw[hA,if_neg (by omega),if_pos (by omega)]
   rw[fM e,ht]
theorem Fy(fI f:Nat)(x:Sc)(he:x.err=0)(hi:x.i<=s.size)(hf:s.size+1<x.i+f)(ht:st.told=x.l):
  Alike s x (fS s ⟨#[45,45]⟩ fI f x).1 (runs g s x.i (.plain .remark) st) (fun j=>runs g s j (.word [62] .between) st):=
 Fx 45 45 .remark .dash _ (by decide) (fun _ _=>rfl) (fun _ _=>rfl) fI f x he hi hf ht
theorem Iv(fI f:Nat)(x:Sc)(he:x.err=0)(hi:x.i<=s.size)(hf:s.size+1<x.i+f)(ht:st.told=x.l):
  Alike s x (fS s ⟨#[63,62]⟩ fI f x).1 (runs g s x.i (.plain .order) st) (fun j=>runs g s j (.plain .between) st):=
 Fx 63 62 .order .mark _ (by decide) (fun _ _=>rfl) (fun _ _=>rfl) fI f x he hi hf ht
end
section
variable{g:St->List fe}{s:ByteArray}{i:Nat}{pt jE:Part}{st ia:St}{no q c:Int}{x y:Sc}
theorem qA(st:St)(j:Rn):st.dV j (st.run j) (st.eV j)=st:=by
 unfold St.dV;congr 1
 ·funext m;split
  ·rename_i e;rw[e]
  ·rfl
 ·funext m;split
  ·rename_i e;rw[e]
  ·rfl
theorem jZ(st:St)(j:Rn)(l l':List UInt8)(a a':Int):(st.dV j l a).dV j l' a'=st.dV j l' a':=by
 unfold St.dV;congr 1
 ·funext m;simp only[];split<;>rfl
 ·funext m;simp only[];split<;>rfl
def St.upto(st:St)(s:ByteArray)(j:Rn)(fI k:Nat):St:=st.dV j (st.run j++Ch.bytes s fI (k-fI)) (if st.run j=[]/\fI<k then(fI:Int)else st.eV j)
theorem Bu(st:St)(s:ByteArray)(j:Rn)(fI:Nat):st.upto s j fI fI=st:=by
 unfold St.upto;rw[if_neg (by omega)];have:Ch.bytes s fI (fI-fI)=[]:=by unfold Ch.bytes;simp
 rw[this,aP,qA]
theorem uE(s:ByteArray){i n:Nat}(h:i+n<=s.size)(hn:1<=n):Ch.bytes s i n≠[]:=by
 intro e;have:=aL List.length e;unfold Ch.bytes at this;have hz:s.data.toList.length=s.size:=by simp
 rw[bJ,cm,hz]at this;simp at this;omega
theorem Fz(st:St)(s:ByteArray)(j:Rn)(fI k:Nat)(hk:fI<=k)(h:0<=cur s k):(st.upto s j fI k).put j (cur s k) k=st.upto s j fI (k+wid s k):=by
 have hc:=eK h;unfold St.put;rw[lJ h];unfold St.upto;rw[jZ];simp only[St.dV,if_true];rw[aV];have hb:Ch.bytes s fI (k-fI)++Ch.bytes s k (wid s k)=Ch.bytes s fI (k+wid s k-fI):=by
  have:=oH s fI (k-fI) (wid s k);rw[show fI+(k-fI)=k by omega]at this;rw[this];congr 1;omega
 rw[hb];congr 1;funext m;split
 ·by_cases h0:st.run j=[]
  ·rw[h0];by_cases hf:fI<k
   ·have hne:=uE s (i:=fI) (n:=k-fI) (by omega) (by omega);rw[if_neg (by simpa using hne),if_pos ⟨rfl,hf⟩,if_pos ⟨rfl,by omega⟩]
   ·have e:fI=k:=by omega
    subst e;have:Ch.bytes s fI (fI-fI)=[]:=by unfold Ch.bytes;simp
    rw[this,if_pos (by simp),if_pos ⟨rfl,by omega⟩]
  ·rw[if_neg (by simp[h0]),if_neg (fun e=>h0 e.1),if_neg (fun e=>h0 e.1)]
 ·rfl
theorem L9(st:St)(s:ByteArray)(j:Rn)(fI k:Nat):(st.upto s j fI k).told=st.told:=rfl
theorem L_{a b d:UInt8}(hp:Plain [a,b,d])(i:Nat):Ch.has s i [a,b,d]=true↔cur s i=(a.toNat:Int)/\cur s (i+1)=(b.toNat:Int)/\cur s (i+2)=(d.toNat:Int):=by
 rw[Kl hp];constructor
 ·intro h;exact⟨h 0 (by simp),h 1 (by simp),h 2 (by simp)⟩
 ·rintro⟨h1,h2,h3⟩ k hk
  match k,hk with
  |0,_=>exact h1
  |1,_=>exact h2
  |2,_=>exact h3
theorem Dc(fI:Nat):∀(f:Nat) (x:Sc),x.err=0->x.i<=s.size->fI<=x.i->s.size+1<x.i+f->st.told=x.l->
  Alike s x (fS s ⟨#[93,93,62]⟩ fI f x).1 (runs g s x.i (.plain .gM) (st.upto s .text fI x.i)) (fun j=>runs g s j (.plain .between) (st.upto s .text fI (j-3))):=by
 intro f;induction f with
 |zero=>intro x he hi hg hf;omega
 |succ f ih=>
  intro x he hi hg hf ht;rw[mX _ _ _ _ _ he (by show 3≠0;decide)];have hh:Ch.has s x.i [93,93,62]=true↔cur s x.i=93/\cur s (x.i+1)=93/\cur s (x.i+2)=62:=L_ (s:=s) (by decide) x.i;by_cases h0:0<=cur s x.i
  ·have hp:=eK h0;by_cases h1:cur s x.i=93
   ·have hw:=fy h0 (by omega);have e:b_ (.plain .gM) x.i (st.upto s .text fI x.i) (cur s x.i)=⟨st.upto s .text fI x.i,.go (.plain .bracket)⟩:=by simp only[b_,step,fB];rw[if_pos h1]
    have hput:=Fz st s .text fI x.i hg h0;rw[hw,h1]at hput;rw[eR e h0];have key:¬(cur s (x.i+1)=93/\cur s (x.i+2)=62)->runs g s (x.i+wid s x.i) (.plain .bracket) (st.upto s .text fI x.i)=runs g s (x.i+1) (.plain .gM) (st.upto s .text fI (x.i+1)):=by
     intro hno;rw[hw];by_cases h2:cur s (x.i+1)=93
     ·have hw2:=fy (s:=s) (i:=x.i+1) (by omega) (by omega);have e2:b_ (.plain .bracket) ((x.i+1:Nat):Int) (st.upto s .text fI x.i) (cur s (x.i+1))=⟨st.upto s .text fI x.i,.go (.plain .brackets)⟩:=by simp only[b_,step,fC];rw[if_pos h2]
      have e3:b_ (.plain .gM) ((x.i+1:Nat):Int) (st.upto s .text fI (x.i+1)) (cur s (x.i+1))=⟨st.upto s .text fI (x.i+1),.go (.plain .bracket)⟩:=by simp only[b_,step,fB];rw[if_pos h2]
      rw[eR e2 (by omega),eR e3 (by omega),hw2];have h3:¬cur s (x.i+2)=62:=fun e=>hno ⟨h2,e⟩;refine mD ?_ rfl (fun⟨o,h⟩=>by cases tj h);simp only[b_,step];rw[show x.i+1+1=x.i+2 by omega,if_neg h3,show ((x.i+2:Nat):Int)-2=(x.i:Int) by omega,hput]
     ·refine mD ?_ rfl (fun⟨o,h⟩=>by cases tj h);simp only[b_,step,fC];rw[if_neg h2,show ((x.i+1:Nat):Int)-1=(x.i:Int) by omega,hput]
    by_cases hs:cur s (x.i+1)=93/\cur s (x.i+2)=62
    ·rw[if_pos (hh.2 ⟨h1,hs⟩)];have hw2:=fy (s:=s) (i:=x.i+1) (by omega) (by omega);have hw3:=fy (s:=s) (i:=x.i+2) (by omega) (by omega);have Ye:=eK (s:=s) (i:=x.i+2) (by omega);have e2:b_ (.plain .bracket) ((x.i+1:Nat):Int) (st.upto s .text fI x.i) (cur s (x.i+1))=⟨st.upto s .text fI x.i,.go (.plain .brackets)⟩:=by simp only[b_,step,fC];rw[if_pos hs.1]
     have e3:b_ (.plain .brackets) ((x.i+1+1:Nat):Int) (st.upto s .text fI x.i) (cur s (x.i+1+1))=⟨st.upto s .text fI x.i,.go (.plain .between)⟩:=by simp only[b_,step];rw[if_pos hs.2]
     rw[hw,eR e2 (by omega),hw2,eR e3 (by show 0<=cur s (x.i+2);omega)];refine Or.inl ⟨he,by show x.i<=x.i+3;omega,by show x.i+3<=_;omega,rfl,?_⟩;show _=runs g s (x.i+3) _ (st.upto s .text fI (x.i+3-3));rw[show x.i+3-3=x.i by omega,show x.i+1+1+wid s (x.i+1+1)=x.i+3 by have:wid s (x.i+1+1)=wid s (x.i+2):=rfl;omega]
    ·rw[if_neg (fun h=>hs (hh.1 h).2),if_pos h0,key hs,hw];exact(ih {x with i:=x.i+1} he (by show x.i+1<=_;omega) (by show fI<=x.i+1;omega) (by show _<x.i+1+f;omega) ht).on (by omega)
   ·rw[if_neg (fun h=>h1 (hh.1 h).1),if_pos h0];have e:b_ (.plain .gM) x.i (st.upto s .text fI x.i) (cur s x.i)=⟨st.upto s .text fI (x.i+wid s x.i),.go (.plain .gM)⟩:=by simp only[b_,step,fB];rw[if_neg h1,if_neg (by omega),Fz st s .text fI x.i hg h0]
    rw[eR e h0];exact(ih {x with i:=x.i+wid s x.i} he (by show x.i+wid s x.i<=_;omega) (by show fI<=x.i+wid s x.i;omega) (by show _<x.i+wid s x.i+f;omega) ht).on (by omega)
  ·rw[if_neg (fun h=>by have:=(hh.1 h).1;omega),if_neg h0,ja _ _ _ _ _ (eO x s he)];refine Alike.wrong he ?_;have e:b_ (.plain .gM) x.i (st.upto s .text fI x.i) (cur s x.i)=⟨st.upto s .text fI x.i,.fail (Tk.why (cur s x.i)) x.i⟩:=by simp only[b_,step,fB];rw[if_neg (by omega),if_pos (by omega)]
   rw[fM e,L9,ht]
theorem yS(s t:ByteArray)(hz:t.size≠0)(fI:Nat):∀(f:Nat) (x:Sc),x.err=0->(fS s t fI f x).1.err=0->s.size+1<x.i+f->x.i<=s.size->(fS s t fI f x).2=s.extract fI ((fS s t fI f x).1.i-t.size)/\x.i+t.size<=(fS s t fI f x).1.i:=by
 intro f;induction f with
 |zero=>intro x he h1 h2;omega
 |succ f ih=>
  intro x he h1 h2 hi;rw[mX _ _ _ _ _ he hz]at h1 ⊢;split
  ·simp
  ·rename_i hn;rw[if_neg hn]at h1;split
   ·rename_i h0;rw[if_pos h0]at h1;have hp:=eK h0;have:=ih {x with i:=x.i+wid s x.i} he h1 (by show _<x.i+wid s x.i+f;omega) (by show x.i+wid s x.i<=_;omega);refine⟨this.1,?_⟩;have h3:x.i+wid s x.i+t.size<=_:=this.2;omega
   ·rename_i h0;rw[if_neg h0,ja _ _ _ _ _ (eO x s he)]at h1;exact absurd h1 (eO x s he)
end
section
def inside(c:Int):Prop:=Tk.pH c=true/\c≠59
instance (c:Int):Decidable (inside c):=by unfold inside;infer_instance
namespace Ch
open Go.Proofs.YtclgfepngpeifaaGreatDoor.Ch
theorem Iw{b r:Int}(hb:b<=16)(h:¬b<=lX 16 r):inside r:=by
 have hd:(48<=r/\r<=57)\/(97<=r/\r<=102)\/(65<=r/\r<=70):=by
  unfold lX at h;split at h
  ·left;assumption
  ·split at h
   ·right;left;assumption
   ·split at h
    ·right;right;assumption
    ·omega
 refine⟨?_,by omega⟩;unfold Tk.pH;simp only[bm,aT,bk,aR,fD,iK];omega
theorem Ma(u:ByteArray)(b:Int)(hb:b<=16):∀f pos n,(ew u b f pos n).2≠0->
  ∃e:Nat,(ew u b f pos n).2=(e:Int)+1/\pos<=e/\bz u e=59/\∀j,pos<=j->j<e->inside (bz u j):=by
 intro f;induction f with
 |zero=>intro pos n h;exact absurd rfl h
 |succ f ih=>
  intro pos n;rw[ew.eq_2];split
  ·rename_i mO;split
   ·intro _;exact⟨pos,rfl,au _,mO,fun j h1 h2=>by omega⟩
   ·intro h;exact absurd rfl h
  ·split
   ·intro h;exact absurd rfl h
   ·rename_i hd;intro h;obtain⟨e,h1,h2,h3,h4⟩:=ih (pos+1) _ h;refine⟨e,h1,by omega,h3,fun j Yd RQ=>?_⟩;by_cases e:j=pos
    ·subst e;exact Iw hb hd
    ·exact h4 j (by omega) RQ
theorem PT(u v:ByteArray)(b:Int)(hb:b<=16):∀(f g pos:Nat) (n:Int),(ew u b f pos n).2≠0->(∀j:Nat,pos<=j->(j:Int)<(ew u b f pos n).2->bz v j=bz u j)->v.size<pos+g->
  ew v b g pos n=ew u b f pos n:=by
 intro f;induction f with
 |zero=>intro g pos n h;exact absurd rfl h
 |succ f ih=>
  intro g pos n h hs hg;have hlt:(pos:Int)<(ew u b (f+1) pos n).2:=by
   rcases qh u b (f+1) pos n with e|⟨_,h1,_⟩
   ·rw[e]at h;exact absurd rfl h
   ·omega
  have h0:bz v pos=bz u pos:=hs pos (au _) hlt;rw[ew.eq_2]at h hs ⊢;have YN:g≠0:=by
   intro e;subst e;have:bz v pos= -1:=by unfold bz;rw[if_neg (by omega)]
   rw[this]at h0;have hx:lX 16 (bz u pos)=16:=J8 _ (by omega);rw[if_neg (by omega),if_pos (by omega)]at h;exact absurd rfl h
  obtain⟨g,rfl⟩:∃k,g=k+1:=⟨g-1,by omega⟩
  rw[ew.eq_2 v,h0];split
  ·rfl
  ·rename_i mO;rw[if_neg mO]at h hs;split
   ·rfl
   ·rename_i hx;rw[if_neg hx]at h hs;exact ih g (pos+1) _ h (fun j h1 h2=>hs j (by omega) h2) (by omega)
theorem yT(u v:ByteArray)(p:Nat)(b:Int)(hb:b<=16)(h:(fK u p b).2≠0)(hs:∀j:Nat,p<=j->(j:Int)<p+(fK u p b).2->bz v j=bz u j):fK v p b=fK u p b:=by
 unfold fK at h hs ⊢;split at h
 ·exact absurd rfl h
 ·rename_i hz;rw[if_neg hz]at hs ⊢;have e:=PT u v b hb _ (v.size-p+1) p 0 hz (fun j h1 h2=>hs j h1 (by simp only;omega)) (by omega);rw[e,if_neg hz]
theorem FA{s:ByteArray}{p:Nat}{b:Int}(hb:b<=16)(h:(fK s p b).2≠0):∃e:Nat,(p:Int)+(fK s p b).2=(e:Int)+1/\p<=e/\bz s e=59/\∀j,p<=j->j<e->inside (bz s j):=by
 unfold fK at*
 split at h
 ·exact absurd rfl h
 ·rename_i hz;rw[if_neg hz];obtain⟨e,h1,h2⟩:=Ma s b hb _ _ _ hz;exact⟨e,by simp only;omega,h2⟩
theorem wK{s:ByteArray}{i:Nat}(h:(eh s i).2≠0):∃e:Nat,(i:Int)+(eh s i).2=(e:Int)+1/\i<e/\bz s e=59/\∀j,i<j->j<e->inside (bz s j):=by
 have key:∀(l:List UInt8) (m:Nat),l.length=m+1->has s i l=true->1<=m->l[m]?=some 59->(∀k,1<=k->k<m->∀c,l[k]?=some c->inside (c.toNat:Int))->∃e:Nat,(i:Int)+(l.length:Int)=(e:Int)+1/\i<e/\bz s e=59/\∀j,i<j->j<e->inside (bz s j):=by
  intro l m hl hh hm mO ou;have hb:=mP s l i hh;refine⟨i+m,by omega,by omega,?_,?_⟩
  ·have:=hb m (by omega);rw[aF (by omega)]at mO;cases abQ:l[m];simp_all
  ·intro j h1 h2;have:=hb (j-i) (by omega);rw[show i+(j-i)=j by omega]at this;rw[this];exact ou (j-i) (by omega) (by omega) _ (aF (by omega))
 have ZL:∀(k:Nat) (b:Int) (l:List UInt8),2<=k->b<=16->l.length=k->has s i l=true->(∀j,1<=j->j<k->∀c,l[j]?=some c->inside (c.toNat:Int))->(fK s (i+k) b).2≠0->∃e:Nat,(i:Int)+((k:Int)+(fK s (i+k) b).2)=(e:Int)+1/\i<e/\bz s e=59/\∀j,i<j->j<e->inside (bz s j):=by
  intro k b l hk hb hl hh ou hn;obtain⟨e,h1,h2,h3,h4⟩:=FA hb hn;have hz:=mP s l i hh;refine⟨e,by omega,by omega,h3,fun j Yd RQ=>?_⟩;by_cases hj:i+k<=j
  ·exact h4 j hj RQ
  ·have:=hz (j-i) (by omega);rw[show i+(j-i)=j by omega]at this;rw[this];exact ou (j-i) (by omega) (by omega) _ (aF (by omega))
 unfold eh at h ⊢;split
 ·rename_i hh;exact key _ 3 rfl hh (by decide) rfl (by intro k h1 h2 c hc;have:k=1\/k=2:=(by omega);rcases this with rfl|rfl<;>(simp at hc;subst hc;decide))
 rename_i n1;rw[if_neg n1]at h;split
 ·rename_i hh;exact key _ 3 rfl hh (by decide) rfl (by intro k h1 h2 c hc;have:k=1\/k=2:=(by omega);rcases this with rfl|rfl<;>(simp at hc;subst hc;decide))
 rename_i n2;rw[if_neg n2]at h;split
 ·rename_i hh;exact key _ 4 rfl hh (by decide) rfl (by intro k h1 h2 c hc;have:k=1\/k=2\/k=3:=(by omega);rcases this with rfl|rfl|rfl<;>(simp at hc;subst hc;decide))
 rename_i n3;rw[if_neg n3]at h;split
 ·rename_i hh;exact key _ 5 rfl hh (by decide) rfl (by intro k h1 h2 c hc;have:k=1\/k=2\/k=3\/k=4:=(by omega);rcases this with rfl|rfl|rfl|rfl<;>(simp at hc;subst hc;decide))
 rename_i n4;rw[if_neg n4]at h;split
 ·rename_i hh;exact key _ 5 rfl hh (by decide) rfl (by intro k h1 h2 c hc;have:k=1\/k=2\/k=3\/k=4:=(by omega);rcases this with rfl|rfl|rfl|rfl<;>(simp at hc;subst hc;decide))
 rename_i n5;rw[if_neg n5]at h;split
 ·rename_i hh;rw[if_pos hh]at h;split at h
  ·exact absurd rfl h
  ·rename_i hn;rw[if_neg hn];exact ZL 3 16 _ (by decide) (by decide) rfl hh (by intro k h1 h2 c hc;have:k=1\/k=2:=(by omega);rcases this with rfl|rfl<;>(simp at hc;subst hc;decide)) hn
 rename_i n6;rw[if_neg n6]at h;split
 ·rename_i hh;rw[if_pos hh]at h;split at h
  ·exact absurd rfl h
  ·rename_i hn;rw[if_neg hn];exact ZL 2 10 _ (by decide) (by decide) rfl hh (by intro k h1 h2 c hc;have:k=1:=(by omega);subst this;simp at hc;subst hc;decide) hn
 ·rename_i n7;rw[if_neg n7]at h;exact absurd rfl h
theorem PU{s:ByteArray}{l:List UInt8}{i:Nat}:has s i l=true↔∀k (h:k<l.length),bz s (i+k)=((l[k]).toNat:Int):=by
 refine⟨mP s l i,?_⟩;induction l generalizing i with
 |nil=>intro _;rfl
 |cons c l ih=>
  intro h;simp only[has,aT,bk];refine⟨h 0 (by simp),ih fun k hk=>?_⟩;have:=h (k+1) (by simpa using hk);simpa [cP,Nat.add_comm 1 k]using this
theorem uF{u v:ByteArray}{l:List UInt8}{n:Nat}(hl:l.length<=n)(hs:∀j:Nat,j<n->bz v j=bz u j):has v 0 l=has u 0 l:=by
 rw[bD,PU,PU];constructor
 ·intro h k hk;rw[<-hs (0+k) (by omega)];exact h k hk
 ·intro h k hk;rw[hs (0+k) (by omega)];exact h k hk
theorem Km{s:ByteArray}{i:Nat}{l:List UInt8}(k:Nat)(hk:k<l.length)(h:bz s (i+k)≠((l[k]).toNat:Int)):¬has s i l=true:=fun e=>h (mP s l i e k hk)
theorem yU{u v:ByteArray}(h:(eh u 0).2≠0)(hs:∀j:Nat,(j:Int)<(eh u 0).2->bz v j=bz u j):eh v 0=eh u 0:=by
 have h4:=(iN h).2.1;have s0:=hs 0 (by omega);have s1:=hs 1 (by omega);have s2:=hs 2 (by omega);have s3:=hs 3 (by omega);have q:∀l:List UInt8,l.length<=4->has v 0 l=has u 0 l:=fun l hl=>uF (n:=4) hl (fun j hj=>hs j (by omega));have hq1:=q [38,108,116,59] (by decide);have hq2:=q [38,103,116,59] (by decide);have hq6:=q [38,35,120] (by decide);have hq7:=q [38,35] (by decide);unfold eh at h hs ⊢;rw[hq1,hq2,hq6,hq7];by_cases n1:has u 0 [38,108,116,59]=true
 ·rw[if_pos n1,if_pos n1]
 rw[if_neg n1]at h hs ⊢;rw[if_neg n1];by_cases n2:has u 0 [38,103,116,59]=true
 ·rw[if_pos n2,if_pos n2]
 rw[if_neg n2]at h hs ⊢;rw[if_neg n2];have other:∀(l:List UInt8) (c:UInt8),l[1]?=some c->bz u 1≠(c.toNat:Int)->¬has v 0 l=true:=by
  intro l c hc hne;have hk:1<l.length:=by
   by_cases hk:1<l.length
   ·exact hk
   ·rw[cM (by omega)]at hc;cases hc
  refine Km 1 hk ?_;rw[aF hk]at hc;cases hc;rw[aG,s1];exact hne
 by_cases n3:has u 0 [38,97,109,112,59]=true
 ·rw[if_pos n3]at hs ⊢;have e3:has v 0 [38,97,109,112,59]=true:=(uF (n:=5) (by decide) (fun j hj=>hs j (by simp only;omega))).trans n3;rw[if_pos e3]
 rw[if_neg n3]at h hs ⊢;by_cases n4:has u 0 [38,113,117,111,116,59]=true
 ·have hb:=mP u _ 0 n4 1 (by decide);rw[if_pos n4]at hs ⊢;have e4:has v 0 [38,113,117,111,116,59]=true:=(uF (n:=6) (by decide) (fun j hj=>hs j (by simp only;omega))).trans n4;rw[if_neg (other _ 97 rfl (by rw[aG]at hb;rw[hb];decide)),if_pos e4]
 rw[if_neg n4]at h hs ⊢;by_cases n5:has u 0 [38,97,112,111,115,59]=true
 ·have hb:=mP u _ 0 n5 1 (by decide);have hb2:=mP u _ 0 n5 2 (by decide);rw[if_pos n5]at hs ⊢;have e5:has v 0 [38,97,112,111,115,59]=true:=(uF (n:=6) (by decide) (fun j hj=>hs j (by simp only;omega))).trans n5;have x3:¬has v 0 [38,97,109,112,59]=true:=Km 2 (by decide) (by rw[aG,s2];rw[aG]at hb2;rw[hb2];decide);rw[if_neg x3,if_neg (other _ 113 rfl (by rw[aG]at hb;rw[hb];decide)),if_pos e5]
 rw[if_neg n5]at h hs ⊢;by_cases n6:has u 0 [38,35,120]=true
 ·have hb:=mP u _ 0 n6 1 (by decide);rw[aG]at hb;have hb':bz u 1=35:=hb;rw[if_pos n6]at h hs ⊢;rw[if_neg (other _ 97 rfl (by rw[hb'];decide)),if_neg (other _ 113 rfl (by rw[hb'];decide)),if_neg (other _ 97 rfl (by rw[hb'];decide)),if_pos n6];by_cases hz:(fK u (0+3) 16).2=0
  ·rw[if_pos hz]at h;exact absurd rfl h
  ·rw[if_neg hz]at hs;rw[yT u v (0+3) 16 (by decide) hz (fun j h1 h2=>hs j (by simp only;omega))]
 rw[if_neg n6]at h hs ⊢;by_cases n7:has u 0 [38,35]=true
 ·have hb:=mP u _ 0 n7 1 (by decide);rw[aG]at hb;have hb':bz u 1=35:=hb;rw[if_pos n7]at h hs ⊢;rw[if_neg (other _ 97 rfl (by rw[hb'];decide)),if_neg (other _ 113 rfl (by rw[hb'];decide)),if_neg (other _ 97 rfl (by rw[hb'];decide)),if_neg n6,if_pos n7];by_cases hz:(fK u (0+2) 10).2=0
  ·rw[if_pos hz]at h;exact absurd rfl h
  ·rw[if_neg hz]at hs;rw[yT u v (0+2) 10 (by decide) hz (fun j h1 h2=>hs j (by simp only;omega))]
 ·rw[if_neg n7]at h;exact absurd rfl h
end Ch
end
section
variable{g:St->List fe}{s:ByteArray}{i:Nat}{pt jE:Part}{st ia:St}{no q c:Int}{x y:Sc}
theorem uG{c:Int}(h:inside c):35<=c/\c<128:=by
 obtain⟨h,_⟩:=h;have:=rz h;simp only[Tk.pH,bm,aT,bk,aR,Ch.fD,Ch.iK]at h;omega
theorem yV{c:Int}(h0:32<=c)(h1:c<128):cur s i=c↔Ch.bz s i=c:=by
 have:=jL (s:=s) (i:=i) (c:=c.toNat) (by omega);rw[show ((c.toNat:Nat):Int)=c by omega]at this;rw[this];unfold Ch.bz;split
 ·rename_i h;simp only[h,dy];omega
 ·rename_i h;simp only[h,false_and,false_iff];omega
theorem PW(s:ByteArray)(i n k:Nat)(h:i+n<=s.size)(hk:k<n):Ch.bz (Ch.txt (Ch.bytes s i n)) k=Ch.bz s (i+k):=by
 rw[Ch.nV];unfold Ch.bytes;rw[List.getElem?_take_of_lt hk,List.getElem?_drop];have hz:s.data.toList.length=s.size:=by simp
 rw[aF (by omega)];unfold Ch.bz;rw[if_pos (by omega)];have hd:i+k<s.data.size:=by have:s.data.size=s.size:=rfl;omega
 have hg:s.get! (i+k)=s.data[i+k]:=getElem!_pos s.data (i+k) hd;rw[hg];simp
theorem Iy(s:ByteArray)(i n:Nat)(h:i+n<=s.size):(Ch.txt (Ch.bytes s i n)).size=n:=by
 rw[Ch.lS];unfold Ch.bytes;have hz:s.data.toList.length=s.size:=by simp
 rw[bJ,cm];omega
theorem FB(s:ByteArray)(i p:Nat)(nE:Ch.bz s i=38)(hp:i<p)(mO:Ch.bz s p=59)(JZ:p<s.size)(ou:∀m,i<m->m<p->inside (Ch.bz s m)):
  ((Ch.eh s i).2≠0->(Ch.eh s i).2=(p+1-i:Nat)/\Ch.j5 (Ch.txt (Ch.bytes s i (p+1-i)))=(Lib.encodeRune (Ch.eh s i).1,0,0))/\((Ch.eh s i).2=0->(Ch.j5 (Ch.txt (Ch.bytes s i (p+1-i)))).2.1≠0):=by
 have hsz:=Iy s i (p+1-i) (by omega);have OC:=fun k hk=>PW s i (p+1-i) k (by omega) hk;generalize hv:Ch.txt (Ch.bytes s i (p+1-i))=v at*
 have ht:∀k,k<p+1-i->Ch.bz (Ch.tail s i) k=Ch.bz v k:=fun k hk=>by rw[Ch.ur,OC k hk]
 have v38:Ch.bz v 0=38:=by rw[OC 0 (by omega)];exact nE
 have gZ:Ch.fQ v 0=true:=by
  have hd:=Ch.fN (s:=v) (i:=0) (by omega) (by omega);unfold Ch.fQ;rw[hd,v38];decide
 constructor
 ·intro hn;obtain⟨e,h1,h2,h3,h4⟩:=Ch.wK hn;have he:e=p:=by
   rcases Nat.lt_trichotomy e p with hlt|rfl|NV
   ·exact absurd h3 (ou e h2 hlt).2
   ·rfl
   ·exact absurd mO (h4 p hp NV).2
  subst he;have hlen:(Ch.eh s i).2=(e+1-i:Nat):=by omega
  refine⟨hlen,?_⟩;have hr:Ch.eh v 0=Ch.eh s i:=by
   have h5:Ch.eh (Ch.tail s i) 0=Ch.eh s i:=Ch.s7 s i;rw[<-h5];rw[<-h5]at hn hlen;exact Ch.yU hn (fun j hj=>(ht j (by omega)).symm)
  unfold Ch.j5;have hstep:=Ch.A5 (s:=v) (f:=v.size) (pos:=0) (acc:=[]) (by omega) gZ v38 (by rw[hr];exact hn) rfl;rw[<-hstep,hr,hlen];rw[hsz];obtain⟨g,hg⟩:∃g,e+1-i=g+1:=⟨e-i,by omega⟩
  rw[hg];have hend:=Ch.A3 (s:=v) (f:=g) (pos:=0+((g+1:Nat):Int).toNat) (acc:=[]++Lib.encodeRune (Ch.eh s i).1) (by rw[hsz];simp;omega) rfl;rw[hend];simp
 ·intro hn;have hr:(Ch.eh v 0).2=0:=by
   by_cases h5:(Ch.eh v 0).2=0
   ·exact h5
   ·exfalso;have hsp:=Ch.iN h5;have:=Ch.yU (u:=v) (v:=Ch.tail s i) h5 (fun j hj=>ht j (by omega));rw[Ch.s7]at this;rw[this]at hn;exact h5 hn
  unfold Ch.j5;have:=Ch.wE (s:=v) (f:=v.size) (pos:=0) (acc:=[]) (by omega) gZ v38 hr rfl;rw[this];simp
theorem Iz(st:St)(j:Rn)(q:Int)(hm:Ch.may c=true):st.nY j ⟨(Lib.encodeRune c).toArray⟩ q=st.put j c q:=by
 have hv:=Ch.gK hm;have hd:=Ch.xA hv [];rw[aP]at hd;have hz:(⟨(Lib.encodeRune c).toArray⟩:ByteArray).size=(Lib.encodeRune c).length:=Ch.lS _;have hp:=Ch.CO c;have hd':Utf8.decode ⟨(Lib.encodeRune c).toArray⟩ 0=(c.toNat,(Lib.encodeRune c).length):=hd;have h0:0<=c:=by have:=(Ch.lB c).1 hm;omega
 unfold St.nY;obtain⟨g,hg⟩:∃g,(⟨(Lib.encodeRune c).toArray⟩:ByteArray).size=g+1:=⟨_,(by omega:_=((⟨(Lib.encodeRune c).toArray⟩:ByteArray).size-1)+1)⟩
 rw[hg];simp only[fT,hd',hg];rw[if_pos (by omega),if_neg (by omega),show ((c.toNat:Nat):Int)=c by omega]
def Bw(g:St->List fe)(s:ByteArray)(i:Nat)(j:Rn)(k:Pl)(st:St):List fe×Int×Int:=
 if(Ch.eh s i).2=0 then(st.told,4,(i:Int))else runs g s (i+(Ch.eh s i).2.toNat) (.plain k) ((st.dV .ref (Ch.bytes s i (Ch.eh s i).2.toNat) i).put j (Ch.eh s i).1 i)
theorem Mb(j:Rn)(k:Pl)(i:Nat)(st:St)(nE:Ch.bz s i=38):∀(n p:Nat),s.size-p<n->i<p->p<=s.size->(∀m,i<m->m<p->inside (Ch.bz s m))->
  runs g s p (.ref j k) (st.dV .ref (Ch.bytes s i (p-i)) i)=Bw g s i j k st:=by
 intro n;induction n with
 |zero=>intro p h;omega
 |succ n ih=>
  intro p hn hp JZ ou;have hne:=uE s (i:=i) (n:=p-i) (by omega) (by omega);have put:∀c:Int,0<=cur s p->cur s p=c->c<128->(st.dV .ref (Ch.bytes s i (p-i)) i).put .ref c p=st.dV .ref (Ch.bytes s i (p+1-i)) i:=by
   intro c h0 hc h1;subst hc;have hw:=fy h0 h1;unfold St.put;rw[lJ h0,hw,jZ];simp only[St.dV,if_true];rw[if_neg (by simpa using hne)];have:=oH s i (p-i) 1;rw[show i+(p-i)=p by omega,show p-i+1=p+1-i by omega]at this;rw[this]
  by_cases hi:inside (cur s p)
  ·have hr:=uG hi;have hc:=eK (s:=s) (i:=p) (by omega);have hw:=fy (s:=s) (i:=p) (by omega) hr.2;have e:b_ (.ref j k) p (st.dV .ref (Ch.bytes s i (p-i)) i) (cur s p)=⟨st.dV .ref (Ch.bytes s i (p+1-i)) i,.go (.ref j k)⟩:=by simp only[b_,nH];rw[if_pos hi.1,if_neg hi.2,put _ (by omega) rfl hr.2]
   rw[eR e (by omega),hw];refine ih (p+1) (by omega) (by omega) (by omega) fun m h1 h2=>?_;by_cases hm:m=p
   ·subst hm;rw[(yV (by omega) hr.2).1 rfl];exact hi
   ·exact ou m h1 (by omega)
  ·by_cases mO:cur s p=59
   ·have b59:=(yV (by omega) (by omega)).1 mO;have hc:=eK (s:=s) (i:=p) (by omega);have hw:=fy (s:=s) (i:=p) (by omega) (by omega);obtain⟨u1,u2⟩:=FB s i p nE hp b59 hc.1 ou;have hrun:(st.dV .ref (Ch.bytes s i (p+1-i)) i).run .ref=Ch.bytes s i (p+1-i):=by simp[St.dV]
    have hat:(st.dV .ref (Ch.bytes s i (p+1-i)) i).eV .ref=(i:Int):=by simp[St.dV]
    unfold Bw;by_cases hz:(Ch.eh s i).2=0
    ·rw[if_pos hz];have e:b_ (.ref j k) p (st.dV .ref (Ch.bytes s i (p-i)) i) (cur s p)=⟨st.dV .ref (Ch.bytes s i (p+1-i)) i,.fail 4 i⟩:=by
      simp only[b_,nH];rw[if_pos (by rw[mO];decide),if_pos mO,put 59 (by omega) mO (by omega)];unfold jA;rw[hrun,hat];have u2':¬(Ch.j5 ⟨(Ch.bytes s i (p+1-i)).toArray⟩).2.1=0:=u2 hz;rw[if_neg u2']
     rw[fM e];rfl
    ·rw[if_neg hz];obtain⟨v1,v2⟩:=u1 hz;have hm:=(Ch.iN hz).1;have e:b_ (.ref j k) p (st.dV .ref (Ch.bytes s i (p-i)) i) (cur s p)=⟨(st.dV .ref (Ch.bytes s i (p+1-i)) i).put j (Ch.eh s i).1 i,.go (.plain k)⟩:=by
      simp only[b_,nH];rw[if_pos (by rw[mO];decide),if_pos mO,put 59 (by omega) mO (by omega)];unfold jA;rw[hrun,hat];have v2':Ch.j5 ⟨(Ch.bytes s i (p+1-i)).toArray⟩=(Lib.encodeRune (Ch.eh s i).1,0,0):=v2;rw[v2',if_pos rfl,Iz _ _ _ hm]
     rw[eR e (by omega),hw,v1];congr 1;simp;omega
   ·have hno:¬Tk.pH (cur s p)=true:=fun e=>hi ⟨e,mO⟩;have e:b_ (.ref j k) p (st.dV .ref (Ch.bytes s i (p-i)) i) (cur s p)=⟨st.dV .ref (Ch.bytes s i (p-i)) i,.fail 4 i⟩:=by simp only[b_,nH];rw[if_neg hno];simp[St.dV]
    have hz:(Ch.eh s i).2=0:=by
     by_cases hz:(Ch.eh s i).2=0
     ·exact hz
     ·exfalso;obtain⟨e,h1,h2,h3,h4⟩:=Ch.wK hz;rcases Nat.lt_trichotomy e p with hlt|rfl|NV
      ·exact absurd h3 (ou e h2 hlt).2
      ·exact mO ((yV (by omega) (by omega)).2 h3)
      ·have hb:=h4 p hp NV;have hr:=uG hb;rw[(yV (c:=Ch.bz s p) (by omega) hr.2).2 rfl]at hno;exact hno hb.1
    unfold Bw;rw[fM e,if_pos hz];rfl
theorem FC(j:Rn)(k:Pl)(i:Nat)(st:St)(nE:cur s i=38):runs g s (i+wid s i) (.ref j k) ((st.clear .ref).put .ref 38 i)=Bw g s i j k st:=by
 have hc:=eK (s:=s) (i:=i) (by omega);have hw:=fy (s:=s) (i:=i) (by omega) (by omega);have e:(st.clear .ref).put .ref 38 i=st.dV .ref (Ch.bytes s i (i+1-i)) i:=by
  have h1:=lJ (s:=s) (i:=i) (by omega);rw[hw,nE]at h1;unfold St.put St.clear;rw[jZ];simp only[St.dV,if_true];rw[h1,show i+1-i=1 by omega];simp
 rw[e,hw];exact Mb j k i st ((yV (by omega) (by omega)).1 nE) (s.size+1) (i+1) (by omega) (by omega) (by omega) (fun m h1 h2=>by omega)
theorem uH(he:x.err=0)(jY:Nat)(hb:32<=jY/\jY<128):x.char s jY=
  if cur s x.i<0\/cur s x.i=60\/cur s x.i=(jY:Int)then(x.wrong s,⟨#[]⟩)
  else if cur s x.i=38 then(if(Ch.eh s x.i).2=0 then(x.fail 4 x.i,⟨#[]⟩)else({x with i:=x.i+(Ch.eh s x.i).2.toNat},⟨(Lib.encodeRune (Ch.eh s x.i).1).toArray⟩))
  else({x with i:=x.i+wid s x.i},s.extract x.i (x.i+wid s x.i)):=by
 have Yg:cur s x.i=60↔x.i<s.size/\(s.get! x.i).toNat=60:=jL (s:=s) (i:=x.i) (c:=60) (by omega);have b38:cur s x.i=38↔x.i<s.size/\(s.get! x.i).toNat=38:=jL (s:=s) (i:=x.i) (c:=38) (by omega);have bb:=jL (s:=s) (i:=x.i) (c:=jY) (by omega);unfold Sc.char;by_cases hi:x.i<s.size
 ·simp only[hi,dy]at Yg b38 bb;rw[if_pos hi];by_cases Ox:(s.get! x.i).toNat=60\/(s.get! x.i).toNat=jY
  ·rw[if_pos Ox,if_pos (Or.inr (Ox.imp Yg.2 bb.2))]
  ·have h1:¬(cur s x.i=60\/cur s x.i=(jY:Int)):=fun h=>Ox (h.imp Yg.1 bb.1);rw[if_neg Ox];by_cases h2:(s.get! x.i).toNat=38
   ·have UX:cur s x.i=38:=b38.2 h2;have Dd:¬(cur s x.i<0\/cur s x.i=60\/cur s x.i=(jY:Int)):=by rintro(h|h);omega;exact h1 h
    rw[if_pos h2,if_neg Dd,if_pos UX];unfold jy;by_cases hz:(Ch.eh s x.i).2=0
    ·rw[if_pos hz,if_pos hz];rfl
    ·have hsp:=Ch.iN hz;rw[if_neg hz,if_neg hz];rw[if_neg (by simp only;omega)];congr 2;simp only;omega
   ·have UX:¬cur s x.i=38:=fun h=>h2 (b38.1 h);rw[if_neg h2];by_cases h0:0<=cur s x.i
    ·have Dd:¬(cur s x.i<0\/cur s x.i=60\/cur s x.i=(jY:Int)):=by rintro(h|h);omega;exact h1 h
     rw[if_neg (by rw[qx];simpa using h0),if_neg Dd,if_neg UX,Da,if_pos h0];simp
    ·rw[if_pos ((qx _ _).2 h0),if_pos (Or.inl (by omega))];rcases rB h0 with⟨_,h5⟩|⟨h5,_⟩
     ·rw[gH he,h5];unfold Sc.fail;rw[if_pos he];rfl
     ·exact absurd hi h5
 ·rw[if_neg hi,if_pos (Or.inl (by unfold cur;rw[if_neg hi];decide))]
end
section
variable{g:St->List fe}{s:ByteArray}{i:Nat}{pt jE:Part}{st ia:St}{no q c:Int}{x y:Sc}
structure Bx(x:Sc)(st:St):Prop where
 told:st.told=x.l
 text:st.run .text=x.more
 from_:x.more≠[]->st.eV .text=x.fI
theorem Bx.same(h:Bx x st)(h1:ia.told=st.told)(h2:ia.run .text=st.run .text)(h3:ia.eV .text=st.eV .text)(h4:y.l=x.l)(h5:y.more=x.more)(h6:y.fI=x.fI):Bx y ia:=
 ⟨by rw[h1,h4];exact h.told,by rw[h2,h5];exact h.text,by rw[h3,h5,h6];exact h.from_⟩
theorem IA(st:St)(l r:List UInt8)(a b a' b':Int)(l':List UInt8):(((st.dV .value l a).dV .ref r b).dV .value l' b')=(st.dV .ref r b).dV .value l' b':=by
 unfold St.dV;congr 1<;>(funext m;cases m<;>simp)
theorem Mc(st:St)(l r r':List UInt8)(a b a' b' c:Int)(l':List UInt8):((((st.dV .ref r' c).dV .value l a).dV .ref r b).dV .value l' b')=(st.dV .ref r b).dV .value l' b':=by
 unfold St.dV;congr 1<;>(funext m;cases m<;>simp)
theorem IB(Q:Nat)(hQ:32<=Q/\Q<128)(hne:Q≠60/\Q≠38):∀(f:Nat) (x:Sc) (t:List UInt8) (st:St),x.err=0->x.i<=s.size->s.size+1<x.i+f->st.told=x.l->st.quote=(Q:Int)->st.run .value=t->
  ((iO s Q f x t).1.err=0/\x.i<=(iO s Q f x t).1.i/\(iO s Q f x t).1.i+1<=s.size/\(iO s Q f x t).1={x with i:=(iO s Q f x t).1.i}/\
   ∃r a b,runs g s x.i (.plain .iw) st=runs g s ((iO s Q f x t).1.i+1) (.plain .part) ((st.dV .ref r a).dV .value (iO s Q f x t).2 b).addAttr)\/
  ((iO s Q f x t).1.err≠0/\(iO s Q f x t).1.l=x.l/\runs g s x.i (.plain .iw) st=(x.l,(iO s Q f x t).1.err,(iO s Q f x t).1.at_)):=by
 intro f;induction f with
 |zero=>intro x t st he hi hf;omega
 |succ f ih=>
  intro x t st he hi hf ht hq hv;have iq:x.is s Q=decide (cur s x.i=(Q:Int)):=C_ he (by omega);simp only[iO,iq];by_cases hc:cur s x.i=(Q:Int)
  ·rw[if_neg (by simp[hc])];have h0:0<=cur s x.i:=by omega
   have hp:=eK h0;have hw:=fy h0 (by omega);have e:b_ (.plain .iw) x.i st (cur s x.i)=⟨st.addAttr,.go (.plain .part)⟩:=by simp only[b_,step];rw[hq,if_pos hc]
   refine Or.inl ⟨he,au _,by show x.i+1<=_;omega,rfl,st.run .ref,st.eV .ref,st.eV .value,?_⟩;rw[eR e h0,hw,qA];show _=runs g s (x.i+1) _ (st.dV .value t (st.eV .value)).addAttr;rw[<-hv,qA]
  ·rw[if_pos ⟨he,by simp[hc]⟩,uH he Q (by omega)];by_cases nS:cur s x.i<0\/cur s x.i=60\/cur s x.i=(Q:Int)
   ·rw[if_pos nS];have hnz:=eO x s he;have hval:iO s Q f (x.wrong s) (t++(⟨#[]⟩:ByteArray).data.toList)=(x.wrong s,t):=by
     cases f with
     |zero=>simp[iO]
     |succ f=>simp only[iO];rw[if_neg (fun h=>hnz h.1)];simp
    rw[hval];refine Or.inr ⟨hnz,by rw[gH he],?_⟩;have e:b_ (.plain .iw) x.i st (cur s x.i)=⟨st,.fail (Tk.why (cur s x.i)) x.i⟩:=by simp only[b_,step];rw[hq,if_neg hc,if_neg (by omega),if_pos (by omega)]
    rw[fM e,gH he,ht]
   ·rw[if_neg nS];have h0:0<=cur s x.i:=by omega
    have hp:=eK h0;by_cases nE:cur s x.i=38
    ·rw[if_pos nE];have e:b_ (.plain .iw) x.i st (cur s x.i)=⟨(st.clear .ref).put .ref 38 x.i,.go (.ref .value .iw)⟩:=by simp only[b_,step];rw[hq,if_neg hc,if_pos nE]
     rw[eR e h0,FC .value .iw x.i st nE];unfold Bw;by_cases hz:(Ch.eh s x.i).2=0
     ·rw[if_pos hz,if_pos hz];have hnz:=mU x 4 x.i he (by decide);have hval:iO s Q f (x.fail 4 x.i) (t++(⟨#[]⟩:ByteArray).data.toList)=(x.fail 4 x.i,t):=by
       cases f with
       |zero=>simp[iO]
       |succ f=>simp only[iO];rw[if_neg (fun h=>hnz h.1)];simp
      rw[hval];refine Or.inr ⟨hnz,?_,?_⟩
      ·unfold Sc.fail;rw[if_pos he]
      ·unfold Sc.fail;rw[if_pos he,ht]
     ·rw[if_neg hz,if_neg hz];have hsp:=Ch.iN hz;have:=ih {x with i:=x.i+(Ch.eh s x.i).2.toNat} (t++Lib.encodeRune (Ch.eh s x.i).1) ((st.dV .ref (Ch.bytes s x.i (Ch.eh s x.i).2.toNat) x.i).put .value (Ch.eh s x.i).1 x.i) he (by show x.i+(Ch.eh s x.i).2.toNat<=_;omega) (by show _<x.i+(Ch.eh s x.i).2.toNat+f;omega) ht hq (by simp[St.put,St.dV,hv]);simp only[]at this ⊢;rcases this with⟨h1,h2,h3,h4,r,a,b,h5⟩|⟨h1,h2,h3⟩
      ·refine Or.inl ⟨h1,by omega,h3,by rw[h4],r,a,b,?_⟩;rw[h5];congr 2;unfold St.put;exact Mc st _ r _ _ a a b _ _
      ·exact Or.inr ⟨h1,h2,h3⟩
    ·rw[if_neg nE];have e:b_ (.plain .iw) x.i st (cur s x.i)=⟨st.put .value (cur s x.i) x.i,.go (.plain .iw)⟩:=by simp only[b_,step];rw[hq,if_neg hc,if_neg nE,if_neg (by omega)]
     rw[eR e h0];have hb:=gL s x.i (x.i+wid s x.i);rw[show x.i+wid s x.i-x.i=wid s x.i by omega,<-lJ h0]at hb;have:=ih {x with i:=x.i+wid s x.i} (t++(s.extract x.i (x.i+wid s x.i)).data.toList) (st.put .value (cur s x.i) x.i) he (by show x.i+wid s x.i<=_;omega) (by show _<x.i+wid s x.i+f;omega) ht hq (by rw[hb];simp[St.put,St.dV,hv]);simp only[]at this ⊢;rcases this with⟨h1,h2,h3,h4,r,a,b,h5⟩|⟨h1,h2,h3⟩
     ·refine Or.inl ⟨h1,by omega,h3,by rw[h4],r,a,b,?_⟩;rw[h5];congr 2;unfold St.put;exact IA st _ r _ a a b _
     ·exact Or.inr ⟨h1,h2,h3⟩
end
section
variable{g:St->List fe}{s:ByteArray}{i:Nat}{pt jE:Part}{st ia:St}{no q c:Int}{x y:Sc}
abbrev lK:=List (List UInt8×List UInt8)
def Sc.gz(x:Sc)(s:ByteArray)(l:lK):Sc:=if l.any (fun a=>a.1==(x.name s).2.data.toList)=true then(x.name s).1.fail 5 x.i else(x.name s).1
def Sc.equal(x:Sc)(s:ByteArray)(l:lK):Sc:=(Sc.ey s [61] ((x.gz s l).eD s)).eD s
def Sc.attr(x:Sc)(s:ByteArray)(l:lK):Sc×(List UInt8×List UInt8):=
 if(x.equal s l).err=0 then(((x.equal s l).value s).1,((x.name s).2.data.toList,((x.equal s l).value s).2))else(x.equal s l,((x.name s).2.data.toList,[]))
def eB(s:ByteArray):Nat->Sc->lK->Sc×lK
 |0,x,l=>(x,l)
 |f+1,x,l=>if x.skip s=0\/(x.eD s).err≠0\/(x.eD s).is s 47=true\/(x.eD s).is s 62=true then(x.eD s,l)else eB s f ((x.eD s).attr s l).1 (l++[((x.eD s).attr s l).2])
def Sc.attrs(x:Sc)(s:ByteArray):Sc×lK:=eB s (s.size+2) x []
theorem jO(he:x.err≠0)(f:Nat)(l:lK):eB s f x l=(x,l):=by
 cases f with
 |zero=>rfl
 |succ f=>simp only[eB];rw[jN he,if_pos (Or.inr (Or.inl he))]
structure De(x:Sc)(st:St)(l:lK)(nm:List UInt8)(tg:Int):Prop where
 tag:Bx x st
 attrs:st.attrs=l
 names:st.names=l.map Prod.fst
 value:st.run .value=[]
 name:st.run .name=nm
 at_:st.fV=tg
theorem Md(l:lK)(n:List UInt8):(l.map Prod.fst).contains n=l.any (fun a=>a.1==n):=by
 induction l with
 |nil=>rfl
 |cons a l ih=>
  simp only[bO,dt,List.any_cons,ih];congr 1;rw[bD,bk,bk];exact eq_comm
theorem Me(st:St)(i:Int)(c:Int)(h:Tk.blank c=true):b_ (.plain .qm) i st c=⟨st,.go (.plain .qm)⟩:=by simp only[b_,step,jK];rw[if_pos h]
theorem IC(st:St)(i:Int)(c:Int)(h:Tk.blank c=true):b_ (.plain .kP) i st c=⟨st,.go (.plain .kP)⟩:=by simp only[b_,step];rw[if_pos h]
theorem Df{c:Int}(h:Tk.blank c=true):¬Ch.eG c=true:=by
 have:=yP h;rw[Ch.fD];omega
theorem ID(st:St)(i:Int)(c:Int)(h:Tk.blank c=true):b_ (.plain .eD) i st c=⟨st,.go (.plain .eD)⟩:=by simp only[b_,step,jt];rw[if_neg (Df h),if_pos h]
theorem FD(st:St)(i:Int)(c:Int)(h:Tk.blank c=true):b_ (.plain .closing) i st c=⟨st,.go (.plain .closing)⟩:=by simp only[b_,step];rw[if_pos h]
theorem kV(he:x.err=0)(hb:Ch.eG (cur s x.i)=true):(x.name s).1={x with i:=ju s x.i}/\(x.name s).2.data.toList=Ch.bytes s x.i (ju s x.i-x.i):=by
 obtain⟨h1,h2⟩:=qz (s:=s) hb;unfold Sc.name;rw[if_pos he,if_neg (by omega),h1];refine⟨by simp only[Sc.mk.injEq,and_true];omega,?_⟩;simp only;rw[gL];congr 1;omega
theorem nL(he:x.err=0)(hb:¬Ch.eG (cur s x.i)=true):x.name s=(x.wrong s,⟨#[]⟩):=by unfold Sc.name;rw[if_pos he,if_pos (TH hb)]
theorem tq(j:Rn)(k:Pl)(p:Nat)(st:St)(hb:Ch.eG (cur s p)=true):runs g s (p+wid s p) (.name j k) ((st.clear j).put j (cur s p) p)=runs g s (ju s p) (.plain k) (st.dV j (Ch.bytes s p (ju s p-p)) p):=by
 have h0:0<=cur s p:=by have:=(Ch.fD _).1 hb;omega
 have hc:=eK h0;have hn:xl (cur s p)=true:=by unfold xl;rw[hb];rfl
 have hg:=rE s (p+wid s p);have e:(st.clear j).put j (cur s p) p=st.dV j (Ch.bytes s p (wid s p)) p:=by
  unfold St.put St.clear;rw[jZ];simp only[St.dV,if_true];rw[lJ h0];simp
 rw[e,Bt _ _ _ _ (by simp only[St.dV,if_true];exact uE s (by omega) hc.2.2.2.1),jZ,kh hn];simp only[St.dV,if_true];rw[oH,show wid s p+(ju s (p+wid s p)-(p+wid s p))=ju s (p+wid s p)-p by omega]
theorem qB(he:x.err=0){c:UInt8}(hc:32<=c.toNat/\c.toNat<128):Sc.ey s [c] x=if cur s x.i=(c.toNat:Int)then{x with i:=x.i+1}else x.wrong s:=by
 simp only[Sc.ey];rw[if_pos he];by_cases h:cur s x.i=(c.toNat:Int)
 ·rw[if_pos ((jM he (by omega)).2 h),if_pos h]
 ·have:¬x.is s c.toNat=true:=fun e=>h ((jM he (by omega)).1 e);rw[if_neg this,if_neg h]
theorem qC(he:x.err=0):x.value s=if cur s x.i=34\/cur s x.i=39 then
  ({ (iO s (cur s x.i).toNat (s.size+2) {x with i:=x.i+1} []).1 with i:=(iO s (cur s x.i).toNat (s.size+2) {x with i:=x.i+1} []).1.i+1},(iO s (cur s x.i).toNat (s.size+2) {x with i:=x.i+1} []).2)else(x.wrong s,[]):=by
 have i34:x.is s 34=true↔cur s x.i=34:=jM he (by omega);have i39:x.is s 39=true↔cur s x.i=39:=jM he (by omega);unfold Sc.value;by_cases h:cur s x.i=34\/cur s x.i=39
 ·have hb:(s.get! x.i).toNat=(cur s x.i).toNat:=by
   rcases h with h|h
   ·have:=((jL (s:=s) (i:=x.i) (c:=34) (by omega)).1 h).2;rw[h,this];rfl
   ·have:=((jL (s:=s) (i:=x.i) (c:=39) (by omega)).1 h).2;rw[h,this];rfl
  rw[if_pos h,if_pos (h.imp i34.2 i39.2),hb]
 ·rw[if_neg h,if_neg (fun e=>h (e.imp i34.1 i39.1))]
theorem Bz{l:lK}{nm:List UInt8}{tg:Int}(he:x.err=0)(hi:x.i<=s.size)(hA:De x st l nm tg)(hbl:¬Tk.blank (cur s x.i)=true)(BA:¬cur s x.i=47)(D9:¬cur s x.i=62):
  ((x.attr s l).1.err=0/\x.i<(x.attr s l).1.i/\(x.attr s l).1.i<=s.size/\(x.attr s l).1={x with i:=(x.attr s l).1.i}/\∃ia,De (x.attr s l).1 ia (l++[(x.attr s l).2]) nm tg/\runs g s x.i (.plain .eD) st=runs g s (x.attr s l).1.i (.plain .part) ia)\/
  ((x.attr s l).1.err≠0/\(x.attr s l).1.l=x.l/\runs g s x.i (.plain .eD) st=(x.l,(x.attr s l).1.err,(x.attr s l).1.at_)):=by
 by_cases hb:Ch.eG (cur s x.i)=true
 ·obtain⟨rP,pS⟩:=kV he hb;have h0:0<=cur s x.i:=by have:=(Ch.fD _).1 hb;omega
  have hlt:=(qz (s:=s) hb).2;have hle:=nJ hi;generalize hE:ju s x.i=E at*
  generalize hN:Ch.bytes s x.i (E-x.i)=N at*
  have e1:b_ (.plain .eD) x.i st (cur s x.i)=⟨(st.clear .attr).put .attr (cur s x.i) x.i,.go (.name .attr .js)⟩:=by simp only[b_,step,fH];rw[if_pos hb,if_pos hb]
  rw[eR e1 h0,tq .attr .js x.i st hb,hE,hN];have hc:st.names.contains N=l.any (fun a=>a.1==N):=by rw[hA.names,Md]
  by_cases ht:l.any (fun a=>a.1==N)=true
  ·have G3:x.gz s l={x with i:=E,err:=5,at_:=x.i}:=by unfold Sc.gz;rw[pS,if_pos ht,rP];unfold Sc.fail;rw[if_pos he]
   have h5:(x.gz s l).err≠0:=by rw[G3];simp
   have heq:x.equal s l=x.gz s l:=by unfold Sc.equal;rw[jN h5,iE s _ h5,jN h5]
   have hat:x.attr s l=(x.gz s l,(N,[])):=by unfold Sc.attr;rw[heq,if_neg h5,pS]
   rw[hat];refine Or.inr ⟨h5,by rw[G3],?_⟩;have e2:b_ (.plain .js) E (st.dV .attr N x.i) (cur s E)=⟨st.dV .attr N x.i,.fail 5 x.i⟩:=by
    simp only[b_,step];rw[if_pos (by simpa [St.dV]using hc.trans ht)];simp[St.dV]
   rw[fM e2,G3,<-hA.tag.told];rfl
  ·have G3:x.gz s l={x with i:=E}:=by unfold Sc.gz;rw[pS,if_neg ht,rP]
   have he1:(x.gz s l).err=0:=by rw[G3];exact he
   generalize vK:({st.dV .attr N x.i with names:=st.names++[N]}:St)=qu;have e2:runs g s E (.plain .js) (st.dV .attr N x.i)=runs g s E (.plain .qm) qu:=by
    refine mD ?_ (by rw[<-vK]) (fun⟨o,h⟩=>by cases tj h);simp only[b_,step];rw[if_neg (by simpa [St.dV]using fun h=>ht (hc.symm.trans h)),<-vK];simp[St.dV]
   rw[e2,qy (Me qu)];have YN:=yQ hle;have ZM:=rC s E;generalize hE1:E+gap s E=E1 at*
   have sj:(x.gz s l).eD s={x with i:=E1}:=by rw[lr he1,G3];simp only;rw[hE1]
   have Mf:=qB (s:=s) (x:={x with i:=E1}) he (c:=61) (by decide);by_cases h61:cur s E1=61
   ·have hw1:=fy (s:=s) (i:=E1) (by omega) (by omega);have hp1:=eK (s:=s) (i:=E1) (by omega);have e3:b_ (.plain .qm) E1 qu (cur s E1)=⟨qu,.go (.plain .kP)⟩:=by simp only[b_,step,jK];rw[if_neg ZM,if_pos h61]
    rw[eR e3 (by omega),hw1,qy (IC qu)];have hg2:=yQ (s:=s) (i:=E1+1) (by omega);have ZN:=rC s (E1+1);generalize hE2:E1+1+gap s (E1+1)=E2 at*
    have WH:Sc.ey s [61] {x with i:=E1}={x with i:=E1+1}:=by rw[Mf];exact if_pos h61
    have heq:x.equal s l={x with i:=E2}:=by unfold Sc.equal;rw[sj,WH,lr (x:={x with i:=E1+1}) he];simp only;rw[hE2]
    have ZO:=qC (s:=s) (x:={x with i:=E2}) he;simp only at ZO;have hat:x.attr s l=((Sc.value {x with i:=E2} s).1,(N,(Sc.value {x with i:=E2} s).2)):=by unfold Sc.attr;rw[heq,if_pos he,pS]
    by_cases hq:cur s E2=34\/cur s E2=39
    ·have hw2:=fy (s:=s) (i:=E2) (by omega) (by omega);have GO:=eK (s:=s) (i:=E2) (by omega);have e4:b_ (.plain .kP) E2 qu (cur s E2)=⟨{qu with quote:=cur s E2},.go (.plain .iw)⟩:=by simp only[b_,step];rw[if_neg ZN,if_pos hq]
     rw[if_pos hq]at ZO;rw[eR e4 (by omega),hw2];have aa5:({qu with quote:=cur s E2}:St).run .value=[]:=by rw[<-vK];simpa [St.dV]using hA.value
     have ZP:({qu with quote:=cur s E2}:St).told=x.l:=by rw[<-vK];exact hA.tag.told
     have hval:=IB (g:=g) (s:=s) (cur s E2).toNat (by omega) (by omega) (s.size+2) {x with i:=E2+1} [] {qu with quote:=cur s E2} he (by show E2+1<=_;omega) (by show _<E2+1+_;omega) ZP (by simp only;omega) aa5;simp only at hval;rw[hat,ZO];generalize hvf:iO s (cur s E2).toNat (s.size+2) {x with i:=E2+1} []=V at*
     rcases hval with⟨v1,v2,v3,v4,r,a,b,v5⟩|⟨v1,v2,v3⟩
     ·refine Or.inl ⟨v1,by show x.i<V.1.i+1;omega,v3,by simp only;rw[v4],_,?_,v5⟩;constructor
      ·refine hA.tag.same ?_ ?_ ?_ ?_ ?_ ?_
       ·rw[<-vK];rfl
       ·rw[<-vK];simp[St.addAttr,St.clear,St.dV]
       ·rw[<-vK];simp[St.addAttr,St.clear,St.dV]
       ·simp only;rw[v4]
       ·simp only;rw[v4]
       ·simp only;rw[v4]
      ·rw[<-vK];simp[St.addAttr,St.clear,St.dV,hA.attrs]
      ·rw[<-vK];simp[St.addAttr,St.clear,St.dV,hA.names]
      ·simp[St.addAttr,St.clear,St.dV]
      ·rw[<-vK];simpa [St.addAttr,St.clear,St.dV]using hA.name
      ·rw[<-vK];exact hA.at_
     ·exact Or.inr ⟨v1,v2,v3⟩
    ·rw[if_neg hq]at ZO;rw[hat,ZO,gH (x:={x with i:=E2}) he];refine Or.inr ⟨?_,rfl,?_⟩
     ·show Tk.why _≠0;unfold Tk.why;split<;>omega
     ·have e4:b_ (.plain .kP) E2 qu (cur s E2)=⟨qu,.fail (Tk.why (cur s E2)) E2⟩:=by simp only[b_,step];rw[if_neg ZN,if_neg hq]
      rw[fM e4,<-vK];simp only;rw[show (st.dV .attr N x.i).told=x.l from hA.tag.told]
   ·have WH:Sc.ey s [61] {x with i:=E1}=Sc.wrong {x with i:=E1} s:=by rw[Mf];exact if_neg h61
    have ox:=eO {x with i:=E1} s he;have heq:x.equal s l=Sc.wrong {x with i:=E1} s:=by unfold Sc.equal;rw[sj,WH,jN ox]
    have hat:x.attr s l=(Sc.wrong {x with i:=E1} s,(N,[])):=by unfold Sc.attr;rw[heq,if_neg ox,pS]
    rw[hat,gH (x:={x with i:=E1}) he];refine Or.inr ⟨?_,rfl,?_⟩
    ·show Tk.why _≠0;unfold Tk.why;split<;>omega
    ·have e3:b_ (.plain .qm) E1 qu (cur s E1)=⟨qu,.fail (Tk.why (cur s E1)) E1⟩:=by simp only[b_,step,jK];rw[if_neg ZM,if_neg h61]
     rw[fM e3,<-vK];simp only;rw[show (st.dV .attr N x.i).told=x.l from hA.tag.told]
 ·have hn:=nL (s:=s) he hb;have ox:=eO x s he;have G3:x.gz s l=x.wrong s:=by
   unfold Sc.gz;rw[hn];simp only;split
   ·unfold Sc.fail;rw[if_neg ox]
   ·rfl
  have heq:x.equal s l=x.wrong s:=by unfold Sc.equal;rw[G3,jN ox,iE s _ ox,jN ox]
  have hat:(x.attr s l).1=x.wrong s:=by unfold Sc.attr;rw[heq,if_neg ox]
  rw[hat];refine Or.inr ⟨ox,by rw[gH he],?_⟩;have e:b_ (.plain .eD) x.i st (cur s x.i)=⟨st,.fail (Tk.why (cur s x.i)) x.i⟩:=by simp only[b_,step,jt];rw[if_neg hb,if_neg hbl,if_neg BA,if_neg D9]
  rw[fM e,gH he,hA.tag.told]
end
section
variable{g:St->List fe}{s:ByteArray}{i:Nat}{pt jE:Part}{st ia:St}{no q c:Int}{x y:Sc}
theorem yX{nm:List UInt8}{tg:Int}:∀(f:Nat) (x:Sc) (l:lK) (st:St),x.err=0->x.i<=s.size->s.size+1<x.i+f->De x st l nm tg->
  ((eB s f x l).1.err=0/\x.i<=(eB s f x l).1.i/\(eB s f x l).1.i<=s.size/\(eB s f x l).1={x with i:=(eB s f x l).1.i}/\¬Tk.blank (cur s (eB s f x l).1.i)=true/\∃ia,De (eB s f x l).1 ia (eB s f x l).2 nm tg/\runs g s x.i (.plain .part) st=runs g s (eB s f x l).1.i (.plain .part) ia)\/
  ((eB s f x l).1.err≠0/\(eB s f x l).1.l=x.l/\runs g s x.i (.plain .part) st=(x.l,(eB s f x l).1.err,(eB s f x l).1.at_)):=by
 intro f;induction f with
 |zero=>intro x l st he hi hf;omega
 |succ f ih=>
  intro x l st he hi hf hA;simp only[eB];rw[lr he,Fv he];have hg:=yQ hi;have Cw:=rC s x.i;by_cases h0:gap s x.i=0
  ·rw[if_pos (Or.inl h0)];rw[h0]at Cw;simp only[h0,bH]at Cw ⊢;exact Or.inl ⟨he,au _,hi,trivial,Cw,st,hA,rfl⟩
  ·have hb:Tk.blank (cur s x.i)=true:=by
    by_cases hb:Tk.blank (cur s x.i)=true
    ·exact hb
    ·exact absurd (Db hb) h0
   have hv:=yP hb;have hw:=fy (s:=s) (i:=x.i) (by omega) (by omega);have e1:b_ (.plain .part) x.i st (cur s x.i)=⟨st,.go (.plain .eD)⟩:=by simp only[b_,step,jt];rw[if_pos hb]
   have hrun:runs g s x.i (.plain .part) st=runs g s (x.i+gap s x.i) (.plain .eD) st:=by
    rw[eR e1 (by omega),hw,qy (ID st),xC hb];congr 1;omega
   have i47:=C_ (s:=s) (x:={x with i:=x.i+gap s x.i}) he (c:=47) (by omega);have i62:=C_ (s:=s) (x:={x with i:=x.i+gap s x.i}) he (c:=62) (by omega);simp only at i47 i62;rw[i47,i62,hrun];generalize hp:x.i+gap s x.i=p at*
   by_cases hs:cur s p=47\/cur s p=62
   ·rw[if_pos (Or.inr (Or.inr (by simpa using hs)))];refine Or.inl ⟨he,by show x.i<=p;omega,hg,rfl,Cw,st,?_,?_⟩
    ·exact⟨⟨hA.tag.told,hA.tag.text,hA.tag.from_⟩,hA.attrs,hA.names,hA.value,hA.name,hA.at_⟩
    ·refine mD ?_ rfl (fun _=>rfl);have UO:¬Ch.eG (cur s p)=true:=by rw[Ch.fD];omega
     simp only[b_,step];rw[if_neg UO]
   ·rw[if_neg (by simp only[aR];rintro(h|h|h|h);exact h0 h;exact h he;exact hs (Or.inl h);exact hs (Or.inr h))];have WI:De {x with i:=p} st l nm tg:=⟨⟨hA.tag.told,hA.tag.text,hA.tag.from_⟩,hA.attrs,hA.names,hA.value,hA.name,hA.at_⟩
    have ZQ:=Bz (g:=g) (s:=s) (x:={x with i:=p}) (l:=l) he hg WI Cw (fun h=>hs (Or.inl h)) (fun h=>hs (Or.inr h));simp only at ZQ;generalize Sc.attr {x with i:=p} s l=A at*
    rcases ZQ with⟨a1,a2,a3,a4,ia,a5,a6⟩|⟨a1,a2,a3⟩
    ·rw[a6];have hih:=ih A.1 (l++[A.2]) ia a1 a3 (by omega) a5;generalize eB s f A.1 (l++[A.2])=B at*
     have hl:A.1.l=x.l:=by rw[a4]
     rcases hih with⟨b1,b2,b3,b4,b5,aa6,b6,b7⟩|⟨b1,b2,b3⟩
     ·refine Or.inl ⟨b1,by omega,b3,?_,b5,aa6,b6,b7⟩;rw[b4,a4]
     ·exact Or.inr ⟨b1,by rw[b2,hl],by rw[b3,hl]⟩
    ·rw[jO a1];exact Or.inr ⟨a1,a2,a3⟩
structure Rel(x:Sc)(st:St):Prop where
 tag:Bx x st
 attrs:st.attrs=[]
 names:st.names=[]
 value:st.run .value=[]
theorem o8(st:St)(j:Rn)(h:j≠ .text):st.dZ.run j=st.run j:=by
 unfold St.dZ;split
 ·rfl
 ·simp[St.clear,St.dV,h]
theorem sJ(st:St):st.dZ.run .text=[]:=by
 unfold St.dZ;split
 ·rename_i h;simpa using h
 ·simp[St.clear,St.dV]
theorem pI(st:St):st.dZ.attrs=st.attrs/\st.dZ.names=st.names/\st.dZ.quote=st.quote/\st.dZ.fV=st.fV:=by unfold St.dZ;split<;>exact⟨rfl,rfl,rfl,rfl⟩
theorem o9(h:Bx x st):st.dZ.told=if x.more=[]then x.l else x.l++[gi x]:=by
 unfold St.dZ;rw[h.text];by_cases hm:x.more=[]
 ·rw[if_pos (by simp[hm]),if_pos hm];exact h.told
 ·rw[if_neg (by simpa using hm),if_neg hm];show st.told++[_]=_;rw[h.told];have:=h.from_ hm;simp only[gi,this]
theorem Dg(he:x.err=0)(t:fe):x.told t={x with l:=(if x.more=[]then x.l else x.l++[gi x])++[t],more:=[]}:=by
 unfold Sc.told;rw[if_neg (by simpa using he)];congr 1;split<;>simp
theorem BB{l:lK}{nm:List UInt8}{tg:Int}(he:x.err=0)(h:De x st l nm tg):De (x.told ⟨1,nm,l,[],tg⟩) st.eI [] nm tg:=by
 have hf:=pI st;rw[Dg he];refine⟨⟨?_,?_,fun e=>absurd rfl e⟩,rfl,rfl,?_,?_,?_⟩
 ·show st.dZ.told++[_]=_;rw[o9 h.tag,h.name,h.attrs,h.at_]
 ·exact sJ st
 ·show st.dZ.run .value=[];rw[o8 _ _ (by decide)];exact h.value
 ·show st.dZ.run .name=nm;rw[o8 _ _ (by decide)];exact h.name
 ·show st.dZ.fV=tg;rw[hf.2.2.2];exact h.at_
theorem yY{nm:List UInt8}{tg:Int}(he:x.err=0)(h:De x st [] nm tg):Rel (x.told ⟨2,nm,[],[],tg⟩) st.fO:=by
 have hf:=pI st;rw[Dg he];refine⟨⟨?_,?_,fun e=>absurd rfl e⟩,?_,?_,?_⟩
 ·show st.dZ.told++[_]=_;rw[o9 h.tag,h.name,h.at_]
 ·exact sJ st
 ·show st.dZ.attrs=[];rw[hf.1];exact h.attrs
 ·show st.dZ.names=[];rw[hf.2.1,h.names];rfl
 ·show st.dZ.run .value=[];rw[o8 _ _ (by decide)];exact h.value
theorem De.rel{nm:List UInt8}{tg:Int}(h:De x st [] nm tg):Rel x st:=⟨h.tag,h.attrs,by rw[h.names];rfl,h.value⟩
theorem Rel.at(h:Rel x st)(j:Nat):Rel {x with i:=j} st:=⟨⟨h.tag.told,h.tag.text,h.tag.from_⟩,h.attrs,h.names,h.value⟩
def Sc.jb(x:Sc)(s:ByteArray)(nm:List UInt8)(l:lK)(tg:Int):Sc:=
 if x.is s 47=true then((Sc.ey s [62] {x with i:=x.i+1}).told ⟨1,nm,l,[],tg⟩).told ⟨2,nm,[],[],tg⟩else(Sc.ey s [62] x).told ⟨1,nm,l,[],tg⟩
def Sc.ko(x:Sc)(s:ByteArray)(tg:Int):Sc:=((x.name s).1.attrs s).1.jb s (x.name s).2.data.toList ((x.name s).1.attrs s).2 tg
def Sc.jB(x:Sc)(s:ByteArray)(tg:Int):Sc:=(Sc.ey s [62] ((x.name s).1.eD s)).told ⟨2,(x.name s).2.data.toList,[],[],tg⟩
def Sc.order(x:Sc)(s:ByteArray):Sc:=((x.name s).1.until s ⟨#[63,62]⟩).1
def Sc.remark(x:Sc)(s:ByteArray):Sc:=Sc.ey s [62] ((Sc.ey s [45,45] x).until s ⟨#[45,45]⟩).1
def Sc.sL(x:Sc)(s:ByteArray):Sc:=
 if((Sc.ey s [91,67,68,65,84,65,91] x).until s ⟨#[93,93,62]⟩).1.err=0/\((Sc.ey s [91,67,68,65,84,65,91] x).until s ⟨#[93,93,62]⟩).2.data.toList≠[]
 then((Sc.ey s [91,67,68,65,84,65,91] x).until s ⟨#[93,93,62]⟩).1.g_ ((Sc.ey s [91,67,68,65,84,65,91] x).until s ⟨#[93,93,62]⟩).2 (Sc.ey s [91,67,68,65,84,65,91] x).i
 else((Sc.ey s [91,67,68,65,84,65,91] x).until s ⟨#[93,93,62]⟩).1
def Sc.nW(x:Sc)(s:ByteArray):Sc:=if x.is s 91=true then x.sL s else x.remark s
def Sc.behind(x:Sc)(s:ByteArray)(tg:Int):Sc:=
 if x.is s 33=true then Sc.nW {x with i:=x.i+1} s
 else if x.is s 63=true then Sc.order {x with i:=x.i+1} s
 else if x.is s 47=true then Sc.jB {x with i:=x.i+1} s tg
 else x.ko s tg
def Sc.j8(x:Sc)(s:ByteArray):Sc:=Sc.behind {x with i:=x.i+1} s x.i
def Grown(x y:Sc):Prop:=y.at_=x.at_/\y.more.length+x.i<=x.more.length+y.i/\y.l.length<=x.l.length+3
def Done(g:St->List fe)(s:ByteArray)(x y:Sc)(A:List fe×Int×Int):Prop:=
 (y.err=0/\x.i<y.i/\y.i<=s.size/\Grown x y/\∃ia,Rel y ia/\A=runs g s y.i (.plain .between) ia)\/(y.err≠0/\y.l=x.l/\A=(x.l,y.err,y.at_))
theorem j3(he:x.err≠0)(t:fe):x.told t=x:=by unfold Sc.told;rw[if_pos he]
theorem jc(x:Sc)(t:fe):(x.told t).i=x.i:=by unfold Sc.told;split<;>rfl
theorem vL(x:Sc)(t:fe):(x.told t).more.length<=x.more.length:=by unfold Sc.told;split<;>simp
theorem Mg(x:Sc)(he:x.err=0)(t:fe):(x.told t).more=[]:=by unfold Sc.told;rw[if_neg (by simpa using he)]
theorem uI(x:Sc)(t:fe):(x.told t).l.length<=x.l.length+2:=by
 unfold Sc.told;split
 ·omega
 ·simp only[ax];split<;>simp
theorem Mh(x:Sc)(t:fe)(h:x.more=[]):(x.told t).l.length<=x.l.length+1:=by
 unfold Sc.told;split
 ·omega
 ·simp[ax,h]
theorem Dh(x:Sc)(t:fe):(x.told t).at_=x.at_:=by unfold Sc.told;split<;>rfl
theorem nZ(x:Sc)(t:fe):(x.told t).err=x.err:=by unfold Sc.told;split<;>rfl
theorem IE{nm:List UInt8}{tg:Int}(he:x.err=0)(hi:x.i<=s.size)(hA:De x st [] nm tg):Done g s x ((Sc.ey s [62] (x.eD s)).told ⟨2,nm,[],[],tg⟩) (runs g s x.i (.plain .closing) st):=by
 rw[qy (FD st),lr he];have hg:=yQ hi;have Cw:=rC s x.i;generalize hp:x.i+gap s x.i=p at*
 have hm:=qB (s:=s) (x:={x with i:=p}) he (c:=62) (by decide);by_cases D9:cur s p=62
 ·have tK:Sc.ey s [62] {x with i:=p}={x with i:=p+1}:=by rw[hm];exact if_pos D9
  rw[tK];have hw:=fy (s:=s) (i:=p) (by omega) (by omega);have hc:=eK (s:=s) (i:=p) (by omega);have e:b_ (.plain .closing) p st (cur s p)=⟨st.fO,.go (.plain .between)⟩:=by simp only[b_,step];rw[if_neg Cw,if_pos D9]
  have WI:De {x with i:=p+1} st [] nm tg:=⟨⟨hA.tag.told,hA.tag.text,hA.tag.from_⟩,hA.attrs,hA.names,hA.value,hA.name,hA.at_⟩
  refine Or.inl ⟨by rw[nZ];exact he,by rw[jc];show x.i<p+1;omega,by rw[jc];show p+1<=_;omega,?_,_,yY (x:={x with i:=p+1}) he WI,?_⟩
  ·have t1:=vL {x with i:=p+1} ⟨2,nm,[],[],tg⟩;have t2:=uI {x with i:=p+1} ⟨2,nm,[],[],tg⟩;simp only at t1 t2;refine⟨by rw[Dh],?_,by omega⟩;rw[jc];simp only;omega
  rw[eR e (by omega),hw,jc]
 ·have tK:Sc.ey s [62] {x with i:=p}=Sc.wrong {x with i:=p} s:=by rw[hm];exact if_neg D9
  have ox:=eO {x with i:=p} s he;rw[tK,j3 ox];have e:b_ (.plain .closing) p st (cur s p)=⟨st,.fail (Tk.why (cur s p)) p⟩:=by simp only[b_,step];rw[if_neg Cw,if_neg D9]
  refine Or.inr ⟨ox,by rw[gH (x:={x with i:=p}) he],?_⟩;rw[fM e,gH (x:={x with i:=p}) he,hA.tag.told]
theorem Mi{nm:List UInt8}{l:lK}{tg:Int}(he:x.err=0)(hi:x.i<=s.size)(hA:De x st l nm tg)(hbl:¬Tk.blank (cur s x.i)=true):Done g s x (x.jb s nm l tg) (runs g s x.i (.plain .part) st):=by
 unfold Sc.jb;have i47:x.is s 47=true↔cur s x.i=47:=jM he (by omega);by_cases BA:cur s x.i=47
 ·rw[if_pos (i47.2 BA)];have hw:=fy (s:=s) (i:=x.i) (by omega) (by omega);have hc:=eK (s:=s) (i:=x.i) (by omega);have e:b_ (.plain .part) x.i st (cur s x.i)=⟨st,.go (.plain .im)⟩:=by simp only[b_,step,jt];rw[if_neg hbl,if_pos BA]
  rw[eR e (by omega),hw];have hm:=qB (s:=s) (x:={x with i:=x.i+1}) he (c:=62) (by decide);by_cases D9:cur s (x.i+1)=62
  ·have tK:Sc.ey s [62] {x with i:=x.i+1}={x with i:=x.i+1+1}:=by rw[hm];exact if_pos D9
   have hw2:=fy (s:=s) (i:=x.i+1) (by omega) (by omega);have hc2:=eK (s:=s) (i:=x.i+1) (by omega);have e2:b_ (.plain .im) ((x.i+1:Nat):Int) st (cur s (x.i+1))=⟨st.eI.fO,.go (.plain .between)⟩:=by simp only[b_,step];rw[if_pos D9]
   rw[tK,eR e2 (by omega),hw2];have WI:De {x with i:=x.i+1+1} st l nm tg:=⟨⟨hA.tag.told,hA.tag.text,hA.tag.from_⟩,hA.attrs,hA.names,hA.value,hA.name,hA.at_⟩
   have h1:=BB (x:={x with i:=x.i+1+1}) he WI;refine Or.inl ⟨by rw[nZ,nZ];exact he,by rw[jc,jc];show x.i<x.i+1+1;omega,by rw[jc,jc];show x.i+1+1<=_;omega,?_,_,yY (by rw[nZ];exact he) h1,?_⟩
   ·have t1:=Mg {x with i:=x.i+1+1} he ⟨1,nm,l,[],tg⟩;have t2:=uI {x with i:=x.i+1+1} ⟨1,nm,l,[],tg⟩;have t3:=Mh _ ⟨2,nm,[],[],tg⟩ t1;have t4:=vL (Sc.told {x with i:=x.i+1+1} ⟨1,nm,l,[],tg⟩) ⟨2,nm,[],[],tg⟩;rw[t1]at t4;simp only at t2 t3 t4;refine⟨by rw[Dh,Dh],?_,by omega⟩;rw[jc,jc];simp only[aI]at t4 ⊢;omega
   rw[jc,jc]
  ·have tK:Sc.ey s [62] {x with i:=x.i+1}=Sc.wrong {x with i:=x.i+1} s:=by rw[hm];exact if_neg D9
   have ox:=eO {x with i:=x.i+1} s he;rw[tK,j3 ox,j3 ox];have e2:b_ (.plain .im) ((x.i+1:Nat):Int) st (cur s (x.i+1))=⟨st,.fail (Tk.why (cur s (x.i+1))) ((x.i+1:Nat):Int)⟩:=by simp only[b_,step];rw[if_neg D9]
   refine Or.inr ⟨ox,by rw[gH (x:={x with i:=x.i+1}) he],?_⟩;rw[fM e2,gH (x:={x with i:=x.i+1}) he,hA.tag.told]
 ·rw[if_neg (fun h=>BA (i47.1 h))];have hm:=qB (s:=s) (x:=x) he (c:=62) (by decide);by_cases D9:cur s x.i=62
  ·have tK:Sc.ey s [62] x={x with i:=x.i+1}:=by rw[hm];exact if_pos D9
   have hw:=fy (s:=s) (i:=x.i) (by omega) (by omega);have hc:=eK (s:=s) (i:=x.i) (by omega);have e:b_ (.plain .part) x.i st (cur s x.i)=⟨st.eI,.go (.plain .between)⟩:=by simp only[b_,step,jt];rw[if_neg hbl,if_neg BA,if_pos D9]
   rw[tK,eR e (by omega),hw];have WI:De {x with i:=x.i+1} st l nm tg:=⟨⟨hA.tag.told,hA.tag.text,hA.tag.from_⟩,hA.attrs,hA.names,hA.value,hA.name,hA.at_⟩
   refine Or.inl ⟨by rw[nZ];exact he,by rw[jc];show x.i<x.i+1;omega,by rw[jc];show x.i+1<=_;omega,?_,_,(BB (x:={x with i:=x.i+1}) he WI).rel,?_⟩
   ·have t1:=vL {x with i:=x.i+1} ⟨1,nm,l,[],tg⟩;have t2:=uI {x with i:=x.i+1} ⟨1,nm,l,[],tg⟩;simp only at t1 t2;refine⟨by rw[Dh],?_,by omega⟩;rw[jc];simp only;omega
   rw[jc]
  ·have tK:Sc.ey s [62] x=Sc.wrong x s:=by rw[hm];exact if_neg D9
   have ox:=eO x s he;rw[tK,j3 ox];have e:b_ (.plain .part) x.i st (cur s x.i)=⟨st,.fail (Tk.why (cur s x.i)) x.i⟩:=by simp only[b_,step,jt];rw[if_neg hbl,if_neg BA,if_neg D9]
   refine Or.inr ⟨ox,by rw[gH he],?_⟩;rw[fM e,gH he,hA.tag.told]
end
section
variable{g:St->List fe}{s:ByteArray}{i:Nat}{pt jE:Part}{st ia:St}{no q c:Int}{x y:Sc}
theorem Done.on{A:List fe×Int×Int}{j:Nat}(h:Done g s {x with i:=j} y A)(hj:x.i<=j):Done g s x y A:=by
 rcases h with⟨h1,h2,h3,h4⟩|⟨h1,h2,h3⟩
 ·have UX:j<y.i:=h2;exact Or.inl ⟨h1,by omega,h3,⟨h4.1.1,by have:=h4.1.2.1;simp only at this;omega,h4.1.2.2⟩,h4.2⟩
 ·exact Or.inr ⟨h1,h2,h3⟩
theorem yZ(h1:y.at_=x.at_)(h2:y.more=x.more)(h3:y.l=x.l)(h4:x.i<=y.i):Grown x y:=⟨h1,by rw[h2];omega,by rw[h3];omega⟩
theorem Done.wrong(he:x.err=0){A:List fe×Int×Int}(h:A=(x.l,Tk.why (cur s x.i),(x.i:Int))):Done g s x (x.wrong s) A:=by
 rw[gH he];refine Or.inr ⟨?_,rfl,h⟩;show Tk.why _≠0;unfold Tk.why;split<;>omega
theorem Mj(he:x.err=0)(hi:x.i<=s.size)(h:Rel x st)(BA:¬cur s x.i=47)(h63:¬cur s x.i=63)(Yh:¬cur s x.i=33):Done g s x (x.ko s st.fV) (runs g s x.i (.plain .less) st):=by
 by_cases hb:Ch.eG (cur s x.i)=true
 ·have h0:0<=cur s x.i:=by have:=(Ch.fD _).1 hb;omega
  obtain⟨n1,n2⟩:=kV he hb;have hlt:=(qz (s:=s) hb).2;have hle:=nJ hi;have e:b_ (.plain .less) x.i st (cur s x.i)=⟨(st.clear .name).put .name (cur s x.i) x.i,.go (.name .name .part)⟩:=by simp only[b_,step,fH];rw[if_neg BA,if_neg h63,if_neg Yh,if_pos hb]
  rw[eR e h0,tq .name .part x.i st hb];unfold Sc.ko;rw[n1,n2];generalize hE:ju s x.i=E at*
  generalize hN:Ch.bytes s x.i (E-x.i)=N at*
  have hA:De {x with i:=E} (st.dV .name N x.i) [] N st.fV:=
   ⟨⟨h.tag.told,by simpa [St.dV]using h.tag.text,by simpa [St.dV]using h.tag.from_⟩,h.attrs,by rw[show (st.dV .name N x.i).names=st.names from rfl,h.names];rfl,by simpa [St.dV]using h.value,by simp[St.dV],rfl⟩
  have hat:=yX (g:=g) (s:=s) (s.size+2) {x with i:=E} [] _ he hle (by show _<E+_;omega) hA;unfold Sc.attrs;generalize eB s (s.size+2) {x with i:=E} []=B at*
  rcases hat with⟨b1,b2,b3,b4,b5,ia,b6,b7⟩|⟨b1,b2,b3⟩
  ·simp only at b7 b2;rw[b7];have hd:=Mi (g:=g) b1 b3 b6 b5;rcases hd with⟨d1,d2,d3,d4⟩|⟨d1,d2,d3⟩
   ·have h6:B.1.more=x.more:=by rw[b4]
    have h7:B.1.l=x.l:=by rw[b4]
    have h8:B.1.at_=x.at_:=by rw[b4]
    obtain⟨⟨g1,g2,g3⟩,g4⟩:=d4;rw[h6]at g2;rw[h7]at g3;exact Or.inl ⟨d1,by omega,d3,⟨by rw[g1,h8],by omega,g3⟩,g4⟩
   ·have hl:B.1.l=x.l:=by rw[b4]
    exact Or.inr ⟨d1,by rw[d2,hl],by rw[d3,hl]⟩
  ·have TK:B.1.jb s N B.2 st.fV=B.1:=by
    unfold Sc.jb;rw[if_neg (by rw[PS b1];simp),iE s _ b1,j3 b1]
   rw[TK];exact Or.inr ⟨b1,b2,b3⟩
 ·have hn:=nL (s:=s) he hb;have ox:=eO x s he;have e:b_ (.plain .less) x.i st (cur s x.i)=⟨st.clear .name,.fail (Tk.why (cur s x.i)) x.i⟩:=by simp only[b_,step,fH];rw[if_neg BA,if_neg h63,if_neg Yh,if_neg hb]
  have TK:x.ko s st.fV=x.wrong s:=by
   unfold Sc.ko Sc.attrs;rw[hn];simp only;rw[jO ox];unfold Sc.jb;rw[if_neg (by rw[PS ox];simp),iE s _ ox,j3 ox]
  rw[TK];refine Done.wrong he ?_;rw[fM e,<-h.tag.told];rfl
theorem Ao(he:x.err=0)(hi:x.i<=s.size)(h:Rel x st)(D5:st.run .name=[]):Done g s x (x.jB s st.fV) (runs g s x.i (.name .name .closing) st):=by
 by_cases hb:Ch.eG (cur s x.i)=true
 ·have h0:0<=cur s x.i:=by have:=(Ch.fD _).1 hb;omega
  obtain⟨n1,n2⟩:=kV he hb;have hlt:=(qz (s:=s) hb).2;have hle:=nJ hi;have zN:st.clear .name=st.dV .name (st.run .name) 0:=by unfold St.clear;rw[D5]
  have e:b_ (.name .name .closing) x.i st (cur s x.i)=⟨(st.clear .name).put .name (cur s x.i) x.i,.go (.name .name .closing)⟩:=by
   simp only[b_,stName,fH];rw[if_pos (by rw[D5];rfl),if_pos hb];congr 1;unfold St.put;rw[zN,jZ];simp only[St.dV,if_true];rw[D5];simp
  rw[eR e h0,tq .name .closing x.i st hb];unfold Sc.jB;rw[n1,n2];generalize hE:ju s x.i=E at*
  generalize hN:Ch.bytes s x.i (E-x.i)=N at*
  have hA:De {x with i:=E} (st.dV .name N x.i) [] N st.fV:=
   ⟨⟨h.tag.told,by simpa [St.dV]using h.tag.text,by simpa [St.dV]using h.tag.from_⟩,h.attrs,by rw[show (st.dV .name N x.i).names=st.names from rfl,h.names];rfl,by simpa [St.dV]using h.value,by simp[St.dV],rfl⟩
  exact(IE (x:={x with i:=E}) he hle hA).on (by omega)
 ·have hn:=nL (s:=s) he hb;have ox:=eO x s he;have e:b_ (.name .name .closing) x.i st (cur s x.i)=⟨st,.fail (Tk.why (cur s x.i)) x.i⟩:=by simp only[b_,stName,fH];rw[if_pos (by rw[D5];rfl),if_neg hb]
  have TK:x.jB s st.fV=x.wrong s:=by
   unfold Sc.jB;rw[hn];simp only;rw[jN ox,iE s _ ox,j3 ox]
  rw[TK];refine Done.wrong he ?_;rw[fM e,<-h.tag.told]
theorem Alike.done{A:List fe×Int×Int}(h:Alike s x y A (fun j=>runs g s j (.plain .between) st))(hr:Rel x st)(hlt:y.err=0->x.i<y.i):Done g s x y A:=by
 rcases h with⟨h1,h2,h3,h4,h5⟩|⟨h1,h2,h3⟩
 ·refine Or.inl ⟨h1,hlt h1,h3,⟨by rw[h4],by rw[h4];simp only;omega,by rw[h4];simp only;omega⟩,st,?_,h5⟩;rw[h4];exact hr.at _
 ·exact Or.inr ⟨h1,h2,h3⟩
theorem pJ(st:St)(i:Nat):runs g s i (.plain .order) st=runs g s (ju s i) (.plain .order) st:=by
 by_cases h:xl (cur s i)=true
 ·have h0:=nI h;have hc:=eK h0;have hne:¬cur s i=63:=by
   intro e;rw[e]at h;exact absurd h (by decide)
  have e:b_ (.plain .order) i st (cur s i)=⟨st,.go (.plain .order)⟩:=by simp only[b_,step,iH];rw[if_neg hne,if_neg (by omega)]
  rw[eR e h0,pJ st (i+wid s i),kh h]
 ·rw[rD h]
termination_by s.size-i
theorem IG(he:x.err=0)(hi:x.i<=s.size)(h:Rel x st):Done g s x (x.order s) (runs g s x.i (.plain .ik) st):=by
 by_cases hb:Ch.eG (cur s x.i)=true
 ·have h0:0<=cur s x.i:=by have:=(Ch.fD _).1 hb;omega
  have ou:xl (cur s x.i)=true:=by unfold xl;rw[hb];rfl
  obtain⟨n1,n2⟩:=kV he hb;have hlt:=(qz (s:=s) hb).2;have hle:=nJ hi;have e:b_ (.plain .ik) x.i st (cur s x.i)=⟨st,.go (.plain .order)⟩:=by simp only[b_,step];rw[if_pos hb]
  rw[eR e h0,pJ st,<-kh ou];unfold Sc.order Sc.until;rw[n1];refine Done.on (j:=ju s x.i) ?_ (by omega);refine(Iv (s:=s) (ju s x.i) (s.size+2) {x with i:=ju s x.i} he hle (by show _<ju s x.i+_;omega) h.tag.told).done (h.at _) ?_;intro h1;have:=(yS s ⟨#[63,62]⟩ (by decide) (ju s x.i) (s.size+2) {x with i:=ju s x.i} he h1 (by show _<ju s x.i+_;omega) hle).2;have h2:ju s x.i+2<=_:=this;show ju s x.i<_;omega
 ·have hn:=nL (s:=s) he hb;have ox:=eO x s he;have e:b_ (.plain .ik) x.i st (cur s x.i)=⟨st,.fail (Tk.why (cur s x.i)) x.i⟩:=by simp only[b_,step];rw[if_neg hb]
  have TK:x.order s=x.wrong s:=by
   unfold Sc.order Sc.until;rw[hn];simp only;rw[ja _ _ _ _ _ ox]
  rw[TK];refine Done.wrong he ?_;rw[fM e,<-h.tag.told]
theorem FE(he:x.err=0)(hi:x.i<=s.size)(h:Rel x st)(Yi:¬cur s x.i=91):Done g s x (x.remark s) (runs g s x.i (.plain .nW) st):=by
 by_cases h45:cur s x.i=45
 ·have hw:=fy (s:=s) (i:=x.i) (by omega) (by omega);have hc:=eK (s:=s) (i:=x.i) (by omega);have e:b_ (.plain .nW) x.i st (cur s x.i)=⟨st,.go (.word [45] .remark)⟩:=by simp only[b_,step];rw[if_pos h45]
  rw[eR e (by omega),hw];have hm:Sc.ey s [45,45] x=Sc.ey s [45] {x with i:=x.i+1}:=by
   have:x.is s (45:UInt8).toNat=true:=(jM he (by decide)).2 h45
   conv=>lhs;rw[Sc.ey]
   rw[if_pos he,if_pos this]
  unfold Sc.remark;rw[hm];have hwd:=vJ (g:=g) (s:=s) (st:=st) .remark [45] {x with i:=x.i+1} (by decide) (by decide) he (by show x.i+1<=_;omega) h.tag.told;generalize Sc.ey s [45] {x with i:=x.i+1}=y at*
  rcases hwd with⟨y1,y2,y3,y4,y5⟩|⟨y1,y2,y3⟩
  ·have y2':x.i+1<=y.i:=y2;simp only at y5;rw[y5];have hl:y.l=x.l:=by rw[y4]
   have hry:Rel y st:=by rw[y4];exact h.at _
   have hu:=Fy (g:=g) (s:=s) (st:=st) y.i (s.size+2) y y1 y3 (by omega) (by rw[hl];exact h.tag.told);unfold Sc.until;generalize (fS s ⟨#[45,45]⟩ y.i (s.size+2) y).1=u at*
   rcases hu with⟨u1,u2,u3,u4,u5⟩|⟨u1,u2,u3⟩
   ·have hl':u.l=x.l:=by rw[u4,<-hl]
    have O6:Rel u st:=by rw[u4];exact hry.at _
    simp only at u5;rw[u5];have hw2:=vJ (g:=g) (s:=s) (st:=st) .between [62] u (by decide) (by decide) u1 u3 (by rw[hl'];exact h.tag.told);generalize Sc.ey s [62] u=v at*
    rcases hw2 with⟨v1,v2,v3,v4,v5⟩|⟨v1,v2,v3⟩
    ·exact Or.inl ⟨v1,by omega,v3,yZ (by rw[v4,u4,y4]) (by rw[v4,u4,y4]) (by rw[v4,u4,y4]) (by omega),st,by rw[v4];exact O6.at _,v5⟩
    ·exact Or.inr ⟨v1,by rw[v2,hl'],by rw[v3,hl']⟩
   ·rw[iE s _ u1];exact Or.inr ⟨u1,by rw[u2,hl],by rw[u3,hl]⟩
  ·unfold Sc.until;rw[ja _ _ _ _ _ y1,iE s _ y1];exact Or.inr ⟨y1,y2,y3⟩
 ·have ox:=eO x s he;have TK:x.remark s=x.wrong s:=by
   have aa7:¬x.is s (45:UInt8).toNat=true:=fun e=>h45 ((jM he (by decide)).1 e);unfold Sc.remark Sc.until;have:Sc.ey s [45,45] x=x.wrong s:=by
    conv=>lhs;rw[Sc.ey]
    rw[if_pos he,if_neg aa7,iE s _ ox]
   rw[this,ja _ _ _ _ _ ox,iE s _ ox]
  rw[TK];refine Done.wrong he ?_;have e:b_ (.plain .nW) x.i st (cur s x.i)=⟨st,.fail (Tk.why (cur s x.i)) x.i⟩:=by simp only[b_,step];rw[if_neg h45,if_neg Yi]
  rw[fM e,<-h.tag.told]
theorem II(he:x.err=0)(hi:x.i<=s.size)(h:Rel x st)(Yi:cur s x.i=91):Done g s x (x.sL s) (runs g s x.i (.plain .nW) st):=by
 have hw:=fy (s:=s) (i:=x.i) (by omega) (by omega);have hc:=eK (s:=s) (i:=x.i) (by omega);have e:b_ (.plain .nW) x.i st (cur s x.i)=⟨st,.go (.word [67,68,65,84,65,91] .gM)⟩:=by simp only[b_,step];rw[if_neg (by omega),if_pos Yi]
 rw[eR e (by omega),hw];have hm:Sc.ey s [91,67,68,65,84,65,91] x=Sc.ey s [67,68,65,84,65,91] {x with i:=x.i+1}:=by
  have:x.is s (91:UInt8).toNat=true:=(jM he (by decide)).2 Yi
  conv=>lhs;rw[Sc.ey]
  rw[if_pos he,if_pos this]
 unfold Sc.sL;rw[hm];have hwd:=vJ (g:=g) (s:=s) (st:=st) .gM [67,68,65,84,65,91] {x with i:=x.i+1} (by decide) (by decide) he (by show x.i+1<=_;omega) h.tag.told;generalize Sc.ey s [67,68,65,84,65,91] {x with i:=x.i+1}=y at*
 rcases hwd with⟨y1,y2,y3,y4,y5⟩|⟨y1,y2,y3⟩
 ·have y2':x.i+1<=y.i:=y2;simp only at y5;rw[y5];have hl:y.l=x.l:=by rw[y4]
  have hry:Rel y st:=by rw[y4];exact h.at _
  have hu:=Dc (g:=g) (s:=s) (st:=st) y.i (s.size+2) y y1 y3 (au _) (by omega) (by rw[hl];exact h.tag.told);rw[Bu]at hu;have hut:=fun h1=>yS s ⟨#[93,93,62]⟩ (by decide) y.i (s.size+2) y y1 h1 (by omega) y3;unfold Sc.until;generalize fS s ⟨#[93,93,62]⟩ y.i (s.size+2) y=u at*
  rcases hu with⟨u1,u2,u3,u4,u5⟩|⟨u1,u2,u3⟩
  ·obtain⟨t1,t2⟩:=hut u1;have t2':y.i+3<=u.1.i:=t2;have hsz:(⟨#[93,93,62]⟩:ByteArray).size=3:=rfl;have hb:u.2.data.toList=Ch.bytes s y.i (u.1.i-3-y.i):=by rw[t1,gL,hsz]
   have O6:Rel u.1 st:=by rw[u4];exact hry.at _
   rw[u5];by_cases hne:u.2.data.toList≠[]
   ·rw[if_pos ⟨u1,hne⟩];have hlt:y.i<u.1.i-3:=by
     by_cases hlt:y.i<u.1.i-3
     ·exact hlt
     ·exfalso;apply hne;rw[hb,show u.1.i-3-y.i=0 by omega];unfold Ch.bytes;simp
    refine Or.inl ⟨u1,by show x.i<u.1.i;omega,u3,⟨by show u.1.at_=x.at_;rw[u4,y4],?_,by show u.1.l.length<=_;rw[u4,y4];simp only;omega⟩,_,?_,rfl⟩
    ·have h6:u.1.more=x.more:=by rw[u4,y4]
     show (u.1.more++u.2.data.toList).length+x.i<=x.more.length+u.1.i;rw[h6,ax,hb];have h7:(Ch.bytes s y.i (u.1.i-3-y.i)).length<=u.1.i-3-y.i:=by unfold Ch.bytes;rw[bJ];omega
     omega
    refine⟨⟨O6.tag.told,?_,?_⟩,O6.attrs,O6.names,?_⟩
    ·simp only[St.upto,St.dV,if_true,Sc.g_];rw[hb,O6.tag.text]
    ·intro _;simp only[St.upto,St.dV,if_true,Sc.g_];rw[O6.tag.text];by_cases X7:u.1.more=[]
     ·rw[if_pos ⟨X7,hlt⟩,if_pos X7]
     ·rw[if_neg (fun e=>X7 e.1),if_neg X7];exact O6.tag.from_ X7
    ·simpa [St.upto,St.dV]using O6.value
   ·rw[if_neg (fun e=>hne e.2)];have hz:u.1.i-3=y.i:=by
     by_cases hlt:y.i<u.1.i-3
     ·exact absurd (by rw[hb];exact uE s (by omega) (by omega)) hne
     ·omega
    refine Or.inl ⟨u1,by omega,u3,yZ (by rw[u4,y4]) (by rw[u4,y4]) (by rw[u4,y4]) (by omega),st,O6,?_⟩;show runs g s u.1.i _ (st.upto s .text y.i (u.1.i-3))=_;rw[hz,Bu]
  ·rw[if_neg (fun e=>u1 e.1)];exact Or.inr ⟨u1,by rw[u2,hl],by rw[u3,hl]⟩
 ·unfold Sc.until;rw[ja _ _ _ _ _ y1];rw[if_neg (fun e=>y1 e.1)];exact Or.inr ⟨y1,y2,y3⟩
theorem FF(he:x.err=0)(h:Rel x st)(rY:cur s x.i=60):Done g s x (x.j8 s) (runs g s x.i (.plain .between) st):=by
 have hw:=fy (s:=s) (i:=x.i) (by omega) (by omega);have hc:=eK (s:=s) (i:=x.i) (by omega);have e:b_ (.plain .between) x.i st (cur s x.i)=⟨{st with fV:=x.i},.go (.plain .less)⟩:=by simp only[b_,step];rw[if_pos rY]
 rw[eR e (by omega),hw];have hr:Rel {x with i:=x.i+1} {st with fV:=(x.i:Int)}:=⟨⟨h.tag.told,h.tag.text,h.tag.from_⟩,h.attrs,h.names,h.value⟩
 unfold Sc.j8;refine Done.on (j:=x.i+1) ?_ (by omega);have hle:x.i+1<=s.size:=by omega
 have hx:({x with i:=x.i+1}:Sc).err=0:=he;have htg:({st with fV:=(x.i:Int)}:St).fV=x.i:=rfl;have GU:({x with i:=x.i+1}:Sc).i=x.i+1:=rfl;rw[<-GU]at hle ⊢;rw[<-htg];generalize ({x with i:=x.i+1}:Sc)=X at*
 generalize ({st with fV:=(x.i:Int)}:St)=S at*
 clear htg GU e rY hw hc h he;unfold Sc.behind;have i33:X.is s 33=true↔cur s X.i=33:=jM hx (by omega);have i63:X.is s 63=true↔cur s X.i=63:=jM hx (by omega);have i47:X.is s 47=true↔cur s X.i=47:=jM hx (by omega);by_cases c33:cur s X.i=33
 ·rw[if_pos (i33.2 c33)];have hw:=fy (s:=s) (i:=X.i) (by omega) (by omega);have hc:=eK (s:=s) (i:=X.i) (by omega);have e:b_ (.plain .less) X.i S (cur s X.i)=⟨S,.go (.plain .nW)⟩:=by simp only[b_,step];rw[if_neg (by omega),if_neg (by omega),if_pos c33]
  rw[eR e (by omega),hw];refine Done.on (j:=X.i+1) ?_ (by omega);unfold Sc.nW;have i91:=jM (s:=s) (x:={X with i:=X.i+1}) hx (c:=91) (by omega);by_cases c91:cur s (X.i+1)=91
  ·rw[if_pos (i91.2 c91)];exact II (x:={X with i:=X.i+1}) hx (by show X.i+1<=_;omega) (hr.at _) c91
  ·rw[if_neg (fun h=>c91 (i91.1 h))];exact FE (x:={X with i:=X.i+1}) hx (by show X.i+1<=_;omega) (hr.at _) c91
 ·rw[if_neg (fun h=>c33 (i33.1 h))];by_cases c63:cur s X.i=63
  ·rw[if_pos (i63.2 c63)];have hw:=fy (s:=s) (i:=X.i) (by omega) (by omega);have hc:=eK (s:=s) (i:=X.i) (by omega);have e:b_ (.plain .less) X.i S (cur s X.i)=⟨S,.go (.plain .ik)⟩:=by simp only[b_,step];rw[if_neg (by omega),if_pos c63]
   rw[eR e (by omega),hw];exact(IG (x:={X with i:=X.i+1}) hx (by show X.i+1<=_;omega) (hr.at _)).on (by omega)
  ·rw[if_neg (fun h=>c63 (i63.1 h))];by_cases c47:cur s X.i=47
   ·rw[if_pos (i47.2 c47)];have hw:=fy (s:=s) (i:=X.i) (by omega) (by omega);have hc:=eK (s:=s) (i:=X.i) (by omega);have e:b_ (.plain .less) X.i S (cur s X.i)=⟨S.clear .name,.go (.name .name .closing)⟩:=by simp only[b_,step];rw[if_pos c47]
    rw[eR e (by omega),hw];have XR:Rel {X with i:=X.i+1} (S.clear .name):=⟨⟨hr.tag.told,by simpa [St.clear,St.dV]using hr.tag.text,by simpa [St.clear,St.dV]using hr.tag.from_⟩,hr.attrs,hr.names,by simpa [St.clear,St.dV]using hr.value⟩
    exact(Ao (x:={X with i:=X.i+1}) hx (by show X.i+1<=_;omega) XR (by simp[St.clear,St.dV])).on (by omega)
   ·rw[if_neg (fun h=>c47 (i47.1 h))];exact Mj hx hle hr c47 c63 c33
end
section
variable{g:St->List fe}{s:ByteArray}{i:Nat}{pt jE:Part}{st ia:St}{no q c:Int}{x y:Sc}
def Sc.piece(x:Sc)(s:ByteArray):Sc:=
 if(s.get! x.i).toNat=60 then x.j8 s else if(x.char s 60).1.err=0 then(x.char s 60).1.g_ (x.char s 60).2 x.i else(x.char s 60).1
def iy(s:ByteArray):Nat->Sc->Sc
 |0,x=>x
 |f+1,x=>if x.i<s.size/\x.err=0 then iy s f (x.piece s)else x
def Sc.zero:Sc:=⟨0,[],[],0,0,0⟩
def ei(s:ByteArray):Sc:=iy s (s.size+1) Sc.zero
def Sc.last(x:Sc):List fe:=if x.err≠0\/x.more=[]then []else [gi x]
def Sc.fin(x:Sc)(G:Sc->List fe):List fe×Int×Int:=if x.err=0 then(G x,0,0)else(x.l,x.err,x.at_)
theorem Mk(he:x.err=0)(hi:x.i<s.size)(h:Rel x st)(rY:¬cur s x.i=60):
  Done g s x (if(x.char s 60).1.err=0 then(x.char s 60).1.g_ (x.char s 60).2 x.i else(x.char s 60).1) (runs g s x.i (.plain .between) st):=by
 have hch:=uH (s:=s) he 60 (by omega);have aa8:¬cur s x.i=((60:Nat):Int):=rY;by_cases h0:0<=cur s x.i
 ·have hc:=eK h0;have Dd:¬(cur s x.i<0\/cur s x.i=60\/cur s x.i=((60:Nat):Int)):=by rintro(h|h|h);omega;exact rY h;exact aa8 h
  rw[if_neg Dd]at hch;by_cases nE:cur s x.i=38
  ·rw[if_pos nE]at hch;have e:b_ (.plain .between) x.i st (cur s x.i)=⟨(st.clear .ref).put .ref 38 x.i,.go (.ref .text .between)⟩:=by simp only[b_,step];rw[if_neg rY,if_pos nE]
   rw[eR e h0,FC .text .between x.i st nE];unfold Bw;by_cases hz:(Ch.eh s x.i).2=0
   ·rw[if_pos hz]at hch ⊢;have hf:=mU x 4 x.i he (by decide);rw[hch];simp only;rw[if_neg hf];refine Or.inr ⟨hf,?_,?_⟩
    ·unfold Sc.fail;rw[if_pos he]
    ·unfold Sc.fail;rw[if_pos he,h.tag.told]
   ·rw[if_neg hz]at hch ⊢;have hsp:=Ch.iN hz;rw[hch];simp only;rw[if_pos he];refine Or.inl ⟨he,by show x.i<x.i+_;omega,by show x.i+(Ch.eh s x.i).2.toNat<=_;omega,⟨rfl,?_,by show x.l.length<=_;omega⟩,_,?_,rfl⟩
    ·show (x.more++Lib.encodeRune (Ch.eh s x.i).1).length+x.i<=x.more.length+(x.i+(Ch.eh s x.i).2.toNat);have:=Ch.q9 (Ch.eh s x.i).1;rw[ax];omega
    refine⟨⟨h.tag.told,?_,?_⟩,h.attrs,h.names,?_⟩
    ·simp[St.put,St.dV,Sc.g_,h.tag.text]
    ·intro _;simp only[St.put,St.dV,Sc.g_,if_true];by_cases hm:x.more=[]
     ·rw[if_pos hm];simp[h.tag.text,hm]
     ·rw[if_neg hm];simp[h.tag.text,hm];exact h.tag.from_ hm
    ·simpa [St.put,St.dV]using h.value
  ·rw[if_neg nE]at hch;have e:b_ (.plain .between) x.i st (cur s x.i)=⟨st.put .text (cur s x.i) x.i,.go (.plain .between)⟩:=by simp only[b_,step];rw[if_neg rY,if_neg nE,if_neg (by omega),if_neg (by omega)]
   have hb:=gL s x.i (x.i+wid s x.i);rw[show x.i+wid s x.i-x.i=wid s x.i by omega,<-lJ h0]at hb;rw[eR e h0,hch];simp only;rw[if_pos he];refine Or.inl ⟨he,by show x.i<x.i+wid s x.i;omega,by show x.i+wid s x.i<=_;omega,⟨rfl,?_,by show x.l.length<=_;omega⟩,_,?_,rfl⟩
   ·show (x.more++(s.extract x.i (x.i+wid s x.i)).data.toList).length+x.i<=x.more.length+(x.i+wid s x.i);have h7:(Ch.bytes s x.i (wid s x.i)).length<=wid s x.i:=by unfold Ch.bytes;rw[bJ];omega
    rw[ax,hb,lJ h0];omega
   refine⟨⟨h.tag.told,?_,?_⟩,h.attrs,h.names,?_⟩
   ·simp only[St.put,St.dV,Sc.g_,if_true];rw[hb,h.tag.text]
   ·intro _;simp only[St.put,St.dV,Sc.g_,if_true];by_cases hm:x.more=[]
    ·rw[if_pos hm];simp[h.tag.text,hm]
    ·rw[if_neg hm];simp[h.tag.text,hm];exact h.tag.from_ hm
   ·simpa [St.put,St.dV]using h.value
 ·rw[if_pos (Or.inl (by omega))]at hch;have ox:=eO x s he;rw[hch];simp only;rw[if_neg ox];refine Done.wrong he ?_;rcases rB h0 with⟨_,h2⟩|⟨h2,_⟩
  ·have e:b_ (.plain .between) x.i st (cur s x.i)=⟨st,.fail 2 x.i⟩:=by simp only[b_,step,h2];rfl
   rw[fM e,h2,h.tag.told];rfl
  ·exact absurd hi h2
theorem mY(he:x.err=0)(hi:x.i<s.size)(h:Rel x st):Done g s x (x.piece s) (runs g s x.i (.plain .between) st):=by
 unfold Sc.piece;have Yg:=jL (s:=s) (i:=x.i) (c:=60) (by omega);by_cases rY:cur s x.i=60
 ·rw[if_pos (Yg.1 rY).2];exact FF he h rY
 ·rw[if_neg (fun e=>rY (Yg.2 ⟨hi,e⟩))];exact Mk he hi h rY
theorem rF(he:x.err≠0)(f:Nat):iy s f x=x:=by
 cases f with
 |zero=>rfl
 |succ f=>simp only[iy];rw[if_neg (fun e=>he e.2)]
theorem BF(G:Sc->List fe)(hG:∀(x:Sc) (st:St),x.err=0->Rel x st->g st=G x):∀(f:Nat) (x:Sc) (st:St),x.err=0->x.i<=s.size->s.size<x.i+f->Rel x st->runs g s x.i (.plain .between) st=(iy s f x).fin G:=by
 intro f;induction f with
 |zero=>intro x st he hi hf;omega
 |succ f ih=>
  intro x st he hi hf h;simp only[iy];by_cases hlt:x.i<s.size
  ·rw[if_pos ⟨hlt,he⟩];rcases mY he hlt h with⟨h1,h2,h3,ha,ia,h4,h5⟩|⟨h1,h2,h3⟩
   ·rw[h5];exact ih _ _ h1 h3 (by omega) h4
   ·rw[rF h1,h3];unfold Sc.fin;rw[if_neg h1,h2]
  ·rw[if_neg (fun e=>hlt e.1)];have hc:cur s x.i= -1:=by unfold cur;rw[if_neg hlt]
   have e:b_ (.plain .between) x.i st (cur s x.i)=⟨st.dZ,.stop⟩:=by simp only[b_,step,hc];rfl
   rw[vI e,hG x st he h];unfold Sc.fin;rw[if_pos he]
theorem tu(g:St->List fe):∀(f:Nat) (x:Sc) (st:St),x.err=0->x.i<=s.size->s.size<x.i+f->Rel x st->(iy s f x).err=0->(iy s f x).i=s.size/\(iy s f x).at_=x.at_:=by
 intro f;induction f with
 |zero=>intro x st he hi hf;omega
 |succ f ih=>
  intro x st he hi hf h;simp only[iy];by_cases hlt:x.i<s.size
  ·rw[if_pos ⟨hlt,he⟩];rcases mY (g:=g) he hlt h with⟨h1,h2,h3,ha,ia,h4,h5⟩|⟨h1,h2,h3⟩
   ·intro e;have:=ih _ _ h1 h3 (by omega) h4 e;exact⟨this.1,this.2.trans ha.1⟩
   ·rw[rF h1];intro e;exact absurd e h1
  ·rw[if_neg (fun e=>hlt e.1)];intro _;exact⟨by omega,rfl⟩
theorem Ml(x:Sc)(st:St)(he:x.err=0)(h:Rel x st):st.dZ.told=x.l++x.last:=by
 rw[o9 h.tag];unfold Sc.last;by_cases hm:x.more=[]
 ·rw[if_pos hm,if_pos (Or.inr hm),aP]
 ·rw[if_neg hm,if_neg (by rintro(h|h);exact h he;exact hm h)]
end
end K
end Go.Proofs.YtclgfepngpeifaaGreatDoor
