import Derived.Test.YtjecakcpcnmieaaGreatDoorHA
import Derived.Test.YtjecakcpcnmieaaGreatDoorHak
import Derived.Test.YtjecakcpcnmieaaGreatDoorHao
set_option linter.unusedVariables false
set_option linter.unusedSimpArgs false
set_option maxHeartbeats 32000000
set_option maxRecDepth 100000
namespace Go.Proofs.YtjecakcpcnmieaaGreatDoor
namespace K
open Go.RowKit Go.Lib Tryz
section
def cur(s:ByteArray)(i:Nat):Int:=if i<s.size then(if Ch.gY s i=true then((Utf8.decode s i).1:Int)else-2)else-1
def wid(s:ByteArray)(i:Nat):Nat:=(Utf8.decode s i).2
def vF(g:St->List Tok)(s:ByteArray):Nat->Nat->Part->St->List Tok×Int×Int
 |0,_,_,st=>(st.told,0,0)
 |f+1,i,pt,st=>
  match (d_ pt i st (cur s i)).res with
  | .go j_=>if 0<=cur s i then vF g s f (i+wid s i) j_ (d_ pt i st (cur s i)).st else(st.told,0,0)
  | .stop=>(g st,0,0)
  | .fail no q=>((d_ pt i st (cur s i)).st.told,no,q)
def runs(g:St->List Tok)(s:ByteArray)(i:Nat)(pt:Part)(st:St):List Tok×Int×Int:=vF g s (s.size-i+1) i pt st
variable{g:St->List Tok}{s:ByteArray}{i:Nat}{pt j_:Part}{st iJ:St}{no q c:Int}
theorem fl(h:0<=cur s i):i<s.size/\Ch.gY s i=true/\cur s i=((Utf8.decode s i).1:Int)/\1<=wid s i/\i+wid s i<=s.size:=by
 unfold cur at h ⊢;split at h
 ·rename_i h1;split at h
  ·rename_i h2;have:=Ch.fk s i h1;rw[if_pos h1,if_pos h2];exact⟨h1,h2,rfl,this.2.1,this.1⟩
  ·omega
 ·omega
theorem sO(h:¬0<=cur s i):(i<s.size/\cur s i= -2)\/(¬i<s.size/\cur s i= -1):=by
 unfold cur at h ⊢;split
 ·rename_i h1;rw[if_pos h1]at h;split
  ·rename_i h2;rw[if_pos h2]at h;omega
  ·exact Or.inl ⟨h1,rfl⟩
 ·rename_i h1;exact Or.inr ⟨h1,rfl⟩
theorem JR:∀(f f' i:Nat) (pt:Part) (st:St),s.size-i<f->s.size-i<f'->vF g s f i pt st=vF g s f' i pt st:=by
 intro f;induction f with
 |zero=>intro f' i pt st h;omega
 |succ f ih=>
  intro f' i pt st h h';obtain⟨f',rfl⟩:∃k,f'=k+1:=⟨f'-1,by omega⟩
  simp only[vF];split
  ·split
   ·rename_i h0;have:=fl h0;exact ih _ _ _ _ (by omega) (by omega)
   ·rfl
  ·rfl
  ·rfl
theorem fC(e:d_ pt i st (cur s i)=⟨iJ,.go j_⟩)(h:0<=cur s i):runs g s i pt st=runs g s (i+wid s i) j_ iJ:=by
 have hc:=fl h;unfold runs
 conv=>lhs;unfold vF
 rw[e];simp only[h,if_true];exact JR _ _ _ _ _ (by omega) (by omega)
theorem gu(e:d_ pt i st (cur s i)=⟨iJ,.fail no q⟩):runs g s i pt st=(iJ.told,no,q):=by unfold runs vF;rw[e]
theorem wT(e:d_ pt i st (cur s i)=⟨iJ,.stop⟩):runs g s i pt st=(g st,0,0):=by unfold runs vF;rw[e]
theorem n_(e:d_ pt i st (cur s i)=d_ j_ i iJ (cur s i))(ht:st.told=iJ.told)(hg:(∃o,d_ pt i st (cur s i)=⟨o,.stop⟩)->g st=g iJ):runs g s i pt st=runs g s i j_ iJ:=by
 unfold runs vF;rw[e]at hg ⊢;rw[ht];generalize d_ j_ i iJ (cur s i)=o at*
 obtain⟨o,r⟩:=o;cases r with
 |go adG=>rfl
 |stop=>simp only;rw[hg ⟨o,rfl⟩]
 |fail no q=>rfl
theorem Cc{k:Pl}{o:St}(h:step k q st c=⟨o,.stop⟩):k=.between:=by
 cases k<;>first|rfl|(exfalso;simp only[step,jS,gh,kq,iL,jg,fY,fZ]at h;repeat' split at h
                      all_goals cases h)
theorem uz{k:Pl}{o:St}(h:d_ (.plain k) q st c=⟨o,.stop⟩):k=.between:=by
 have h':step k q st c=⟨o,.stop⟩:=by simpa only[d_]using h
 exact Cc h'
theorem kr{c:Nat}(hc:c=9\/c=10\/c=13\/(32<=c/\c<128)):cur s i=(c:Int)↔i<s.size/\(s.get! i).toNat=c:=by
 unfold cur;by_cases h:i<s.size
 ·rw[if_pos h];have hb:Ch.bz s i=((s.get! i).toNat:Int):=by simp[Ch.bz,h]
  rcases Ch.kp s i h with⟨h0,h1,hd⟩|⟨h0,h1⟩
  ·have jO:Ch.gY s i=Ch.may (Ch.bz s i):=by
    have e1:(((Ch.bz s i).toNat:Nat):Int)=Ch.bz s i:=by omega
    have e2:((Ch.bz s i).toNat !=65533)=true:=by simp;omega
    simp[Ch.gY,hd,e1];intro _;omega
   rw[jO,hd];by_cases hm:Ch.may (Ch.bz s i)=true
   ·rw[if_pos hm];simp only[h,dN];omega
   ·rw[if_neg hm];have tD:=mt (Ch.mJ (Ch.bz s i)).2 hm;simp only[h,dN];constructor
    ·intro e;omega
    ·intro e;exfalso;apply tD;omega
  ·constructor
   ·intro e;split at e
    ·omega
    ·omega
   ·rintro⟨_,e⟩;omega
 ·rw[if_neg h];simp[h]
theorem fP(h:0<=cur s i)(h1:cur s i<128):wid s i=1:=by
 have hc:=fl h;rcases Ch.kp s i hc.1 with⟨_,_,hd⟩|⟨_,h2⟩
 ·unfold wid;rw[hd]
 ·omega
variable{x:Sc}
theorem jT(he:x.err=0){c:Nat}(hc:c=9\/c=10\/c=13\/(32<=c/\c<128)):x.is s c=true↔cur s x.i=(c:Int):=by rw[kr hc];simp[Sc.is,he]
theorem D5(he:x.err=0){c:Nat}(hc:c=9\/c=10\/c=13\/(32<=c/\c<128)):x.is s c=decide (cur s x.i=(c:Int)):=by
 have:=jT (s:=s) he hc;cases h:x.is s c<;>simp_all
theorem Sx(he:x.err≠0)(c:Nat):x.is s c=false:=by simp[Sc.is,he]
theorem D6(s:ByteArray)(i:Nat):Ch.om s i=if 0<=cur s i then(cur s i,(wid s i:Int))else(0,0):=by
 unfold Ch.om;by_cases h:0<=cur s i
 ·have:=fl h;rw[if_pos h,if_pos ⟨this.1,this.2.1⟩,this.2.2.1];rfl
 ·rw[if_neg h];rcases sO h with⟨h1,h2⟩|⟨h1,h2⟩
  ·have:¬Ch.gY s i=true:=by intro e;unfold cur at h2;rw[if_pos h1,if_pos e]at h2;omega
   rw[if_neg (fun e=>this e.2)]
  ·rw[if_neg (fun e=>h1 e.1)]
theorem rF(s:ByteArray)(i:Nat):(Ch.om s i).2=0↔¬0<=cur s i:=by
 rw[D6];split
 ·rename_i h;have:=fl h;simp only[];constructor
  ·intro e;omega
  ·intro e;exact absurd h e
 ·rename_i h;simp[h]
theorem ig(he:x.err=0):x.wrong s={x with err:=Tk.why (cur s x.i),at_:=x.i}:=by
 unfold Sc.wrong Sc.fail;simp only[he,if_true,rF];by_cases h:0<=cur s x.i
 ·have:=fl h;rw[if_pos this.1,if_neg (by simpa using h)];have e:Tk.why (cur s x.i)=3:=by unfold Tk.why;rw[if_neg (by omega)]
  rw[e]
 ·rcases sO h with⟨h1,h2⟩|⟨h1,h2⟩
  ·rw[if_pos h1,if_pos h,h2];rfl
  ·rw[if_neg h1,h2];rfl
theorem mU(h:0<=cur s i):Lib.encodeRune (cur s i)=Ch.bytes s i (wid s i):=by
 have hc:=fl h;rw[hc.2.2.1];exact Ch.encode_decode hc.1 hc.2.1
theorem pP(s:ByteArray)(i a b:Nat):Ch.bytes s i a++Ch.bytes s (i+a) b=Ch.bytes s i (a+b):=by
 unfold Ch.bytes;rw[<-List.drop_drop,List.take_add]
theorem im(s:ByteArray)(a b:Nat):(s.extract a b).data.toList=Ch.bytes s a (b-a):=by
 unfold Ch.bytes;simp[ByteArray.data_extract,List.extract_eq_take_drop]
end
section
variable{g:St->List Tok}{s:ByteArray}{i:Nat}{pt j_:Part}{st iJ:St}{no q c:Int}{x:Sc}
theorem oG(s:ByteArray)(i:Nat):(i<s.size/\jw (s.get! i).toNat=true)↔Tk.blank (cur s i)=true:=by
 have h:=fun c hc=>kr (s:=s) (i:=i) (c:=c) hc;have h32:=h 32 (by omega);have h9:=h 9 (by omega);have h10:=h 10 (by omega);have h13:=h 13 (by omega);simp only[jw,Tk.blank,bw,bA];constructor
 ·rintro⟨h0,((e|e)|e)|e⟩
  ·exact Or.inl (Or.inl (Or.inl (h32.2 ⟨h0,e⟩)))
  ·exact Or.inl (Or.inl (Or.inr (h9.2 ⟨h0,e⟩)))
  ·exact Or.inl (Or.inr (h10.2 ⟨h0,e⟩))
  ·exact Or.inr (h13.2 ⟨h0,e⟩)
 ·rintro(((e|e)|e)|e)
  ·exact⟨(h32.1 e).1,Or.inl (Or.inl (Or.inl (h32.1 e).2))⟩
  ·exact⟨(h9.1 e).1,Or.inl (Or.inl (Or.inr (h9.1 e).2))⟩
  ·exact⟨(h10.1 e).1,Or.inl (Or.inr (h10.1 e).2)⟩
  ·exact⟨(h13.1 e).1,Or.inr (h13.1 e).2⟩
theorem zP{c:Int}(h:Tk.blank c=true):c=32\/c=9\/c=10\/c=13:=by simp only[Tk.blank,bw,bA]at h;omega
def gap(s:ByteArray)(i:Nat):Nat:=skip s (s.size+1) i
theorem NY:∀(f f' i:Nat),i<=s.size->s.size<i+f->s.size<i+f'->skip s f i=skip s f' i:=by
 intro f;induction f with
 |zero=>intro f' i h h1;omega
 |succ f ih=>
  intro f' i h h1 h2;obtain⟨f',rfl⟩:∃k,f'=k+1:=⟨f'-1,by omega⟩
  simp only[skip];split
  ·rename_i hc;rw[ih f' (i+1) (by omega) (by omega) (by omega)]
  ·rfl
theorem yB(h:Tk.blank (cur s i)=true):gap s i=gap s (i+1)+1:=by
 have hb:=(oG s i).2 h;unfold gap
 conv=>lhs;unfold skip
 rw[if_pos hb];rw[NY s.size (s.size+1) (i+1) (by omega) (by omega) (by omega)]
theorem D7(h:¬Tk.blank (cur s i)=true):gap s i=0:=by unfold gap skip;rw[if_neg (fun e=>h ((oG s i).1 e))]
theorem L6(s:ByteArray)(i:Nat)(h:i<=s.size):i+gap s i<=s.size:=by
 by_cases hb:Tk.blank (cur s i)=true
 ·have:=((oG s i).2 hb).1;rw[yB hb];have:=L6 s (i+1) (by omega);omega
 ·rw[D7 hb];exact h
termination_by s.size-i
theorem zQ(h:i<=s.size):i+gap s i<=s.size:=L6 s i h
theorem qi(s:ByteArray)(i:Nat):¬Tk.blank (cur s (i+gap s i))=true:=by
 by_cases hb:Tk.blank (cur s i)=true
 ·have:=((oG s i).2 hb).1;rw[yB hb];have:=qi s (i+1);rwa[show i+(gap s (i+1)+1)=i+1+gap s (i+1) by omega]
 ·rw[D7 hb];exact hb
termination_by s.size-i
theorem rG(h:∀i c,Tk.blank c=true->d_ pt i st c=⟨st,.go pt⟩)(i:Nat):runs g s i pt st=runs g s (i+gap s i) pt st:=by
 by_cases hb:Tk.blank (cur s i)=true
 ·have hi:=((oG s i).2 hb).1;have hv:=zP hb;rw[fC (h _ _ hb) (by omega),fP (by omega) (by omega),rG h (i+1),yB hb];congr 1;omega
 ·rw[D7 hb];rfl
termination_by s.size-i
theorem Gq(he:x.err=0):x.skip s=gap s x.i:=by unfold Sc.skip;rw[if_pos he];rfl
theorem lx(he:x.err=0):x.eY s={x with i:=x.i+gap s x.i}:=by unfold Sc.eY;rw[Gq he]
theorem ku(he:x.err≠0):x.eY s=x:=by unfold Sc.eY Sc.skip;rw[if_neg he];rfl
theorem vG(s:ByteArray)(k j:Nat):cur (Ch.tail s k) j=cur s (k+j):=by
 unfold cur;by_cases h:k+j<s.size
 ·have h1:j<(Ch.tail s k).size:=by rw[Ch.jy];omega
  have hd:Utf8.decode (Ch.tail s k) j=Utf8.decode s (k+j):=Ch.qd h (fun m=>by rw[Ch.vw,cL]);rw[if_pos h,if_pos h1];have:Ch.gY (Ch.tail s k) j=Ch.gY s (k+j):=by unfold Ch.gY;rw[hd]
  rw[this,hd]
 ·have h1:¬j<(Ch.tail s k).size:=by rw[Ch.jy];omega
  rw[if_neg h,if_neg h1]
theorem zR{s:ByteArray}{k j:Nat}(h:k+j<s.size):wid (Ch.tail s k) j=wid s (k+j):=by
 unfold wid;rw[Ch.qd h (fun m=>by rw[Ch.vw,cL])]
def yj(c:Int):Bool:=Ch.fw c||Ch.gz c
theorem qj{c:Int}(h:yj c=true):0<=c:=by
 unfold yj at h;rw[bw]at h;rcases h with h|h
 ·have:=(Ch.fT c).1 h;omega
 ·have:=(Ch.jq c).1 h;omega
theorem uA(s:ByteArray)(p:Nat)(h:p<s.size):Ch.jN s p=if p=0 then Ch.fw (cur s p)else yj (cur s p):=by
 unfold Ch.jN cur yj;rw[if_pos h];by_cases ho:Ch.gY s p=true
 ·rw[ho,if_pos rfl];by_cases h0:p=0
  ·subst h0;simp
  ·have:decide (0<p)=true:=by simp;omega
   simp[this,h0]
 ·have PZ:Ch.gY s p=false:=by simpa using ho
  rw[PZ];have h1:Ch.fw (-2)=false:=by decide
  have h2:Ch.gz (-2)=false:=by decide
  simp[h1,h2]
def jK(s:ByteArray)(i:Nat):Nat:=
 if h:yj (cur s i)=true then jK s (i+wid s i)else i
termination_by s.size-i
decreasing_by have:=fl (qj h);omega
theorem ld(h:yj (cur s i)=true):jK s i=jK s (i+wid s i):=by
 conv=>lhs;unfold jK
 rw[dif_pos h]
theorem sP(h:¬yj (cur s i)=true):jK s i=i:=by unfold jK;rw[dif_neg h]
theorem sQ(s:ByteArray)(i:Nat):i<=jK s i:=by
 by_cases h:yj (cur s i)=true
 ·have:=fl (qj h);have:=sQ s (i+wid s i);rw[ld h];omega
 ·rw[sP h];omega
termination_by s.size-i
theorem Gs(s:ByteArray)(i:Nat)(h0:i<=s.size):jK s i<=s.size:=by
 by_cases h:yj (cur s i)=true
 ·have:=fl (qj h);have:=Gs s (i+wid s i) (by omega);rw[ld h];omega
 ·rw[sP h];omega
termination_by s.size-i
theorem oZ(h:i<=s.size):jK s i<=s.size:=Gs s i h
theorem Bi(s:ByteArray)(k:Nat):∀f p,0<p->k+p<=s.size->s.size<k+p+f->Ch.fW (Ch.tail s k) f p+k=jK s (k+p):=by
 intro f;induction f with
 |zero=>intro p h h1 h2;omega
 |succ f ih=>
  intro p h h1 h2;have hz:=Ch.jy s k;simp only[Ch.fW];by_cases hp:k+p<s.size
  ·have uO:Ch.jN (Ch.tail s k) p=yj (cur s (k+p)):=by rw[uA _ _ (by omega),if_neg (by omega),vG]
   rw[if_pos (by omega),uO];by_cases hn:yj (cur s (k+p))=true
   ·have hc:=fl (qj hn);have hw:(Utf8.decode (Ch.tail s k) p).2=wid s (k+p):=zR hp;rw[if_pos hn,hw,ld hn,ih (p+wid s (k+p)) (by omega) (by omega) (by omega)];congr 1;omega
   ·rw[if_neg hn,sP hn];omega
  ·have e:k+p=s.size:=by omega
   rw[if_neg (by omega),sP (by unfold cur;rw[if_neg (by omega)];decide)];omega
theorem Wy(hb:¬Ch.fw (cur s x.i)=true):x.wR s=0:=by
 unfold Sc.wR Ch.name;rw[Ch.kJ];simp only[Ch.fW];split
 ·rename_i h;have uO:Ch.jN (Ch.tail s x.i) 0=Ch.fw (cur s x.i):=by rw[uA _ _ h,if_pos rfl,vG,bH]
  rw[uO,if_neg hb]
 ·omega
theorem rH(hb:Ch.fw (cur s x.i)=true):x.wR s=jK s x.i-x.i/\x.i<jK s x.i:=by
 have hp:0<=cur s x.i:=by have:=(Ch.fT _).1 hb;omega
 have hc:=fl hp;have hz:=Ch.jy s x.i;have hn:yj (cur s x.i)=true:=by unfold yj;rw[hb];rfl
 have hg:=sQ s (x.i+wid s x.i);have hw:(Utf8.decode (Ch.tail s x.i) 0).2=wid s x.i:=zR (by omega);unfold Sc.wR Ch.name;rw[Ch.kJ];simp only[Ch.fW];have uO:Ch.jN (Ch.tail s x.i) 0=Ch.fw (cur s x.i):=by rw[uA _ _ (by omega),if_pos rfl,vG,bH]
 rw[if_pos (by omega),uO,if_pos hb,ay,hw];have:=Bi s x.i (Ch.tail s x.i).size (wid s x.i) (by omega) (by omega) (by omega);rw[ld hn];omega
theorem Ce(j:Rn)(k:Pl)(i:Nat)(st:St)(h0:st.run j≠[]):runs g s i (.name j k) st=runs g s (jK s i) (.plain k) (st.eH j (st.run j++Ch.bytes s i (jK s i-i)) (st.fD j)):=by
 have hl:¬(st.run j).length=0:=by simpa using h0
 by_cases h:yj (cur s i)=true
 ·have hp:=qj h;have hc:=fl hp;have e:d_ (.name j k) i st (cur s i)=⟨st.put j (cur s i) i,.go (.name j k)⟩:=by simp only[d_,stName];unfold yj at h;rw[if_neg hl,if_pos h]
  rw[fC e hp];have ep:st.put j (cur s i) i=st.eH j (st.run j++Ch.bytes s i (wid s i)) (st.fD j):=by unfold St.put;rw[if_neg hl,mU hp]
  have hg:=sQ s (i+wid s i);rw[Ce j k (i+wid s i) _ (by rw[ep];simp[St.eH,h0]),ld h,ep];congr 1;simp only[St.eH,if_true];rw[aM,pP,show wid s i+(jK s (i+wid s i)-(i+wid s i))=jK s (i+wid s i)-i by omega];congr 1
  ·funext m;split<;>rfl
  ·funext m;split<;>rfl
 ·rw[sP h];have e0:st.eH j (st.run j++Ch.bytes s i (i-i)) (st.fD j)=st:=by
   have:Ch.bytes s i (i-i)=[]:=by unfold Ch.bytes;simp
   rw[this,aO];unfold St.eH;congr 1
   ·funext m;split
    ·rename_i e;rw[e]
    ·rfl
   ·funext m;split
    ·rename_i e;rw[e]
    ·rfl
  rw[e0];refine n_ ?_ rfl (fun _=>rfl);simp only[d_,stName];rw[if_neg hl];unfold yj at h;rw[if_neg h]
termination_by s.size-i
end
section
variable{g:St->List Tok}{s:ByteArray}{i:Nat}{pt j_:Part}{st iJ:St}{no q c:Int}{x y:Sc}
def Alike(s:ByteArray)(x y:Sc)(A:List Tok×Int×Int)(B:Nat->List Tok×Int×Int):Prop:=
 (y.err=0/\x.i<=y.i/\y.i<=s.size/\y={x with i:=y.i}/\A=B y.i)\/(y.err≠0/\y.l=x.l/\A=(x.l,y.err,y.at_))
theorem Alike.wrong(he:x.err=0){A:List Tok×Int×Int}{B:Nat->List Tok×Int×Int}(h:A=(x.l,Tk.why (cur s x.i),(x.i:Int))):Alike s x (x.wrong s) A B:=by
 rw[ig he];refine Or.inr ⟨?_,rfl,h⟩;show Tk.why _≠0;unfold Tk.why;split<;>omega
def Plain(l:List UInt8):Prop:=∀c∈l,32<=c.toNat/\c.toNat<128
instance (l:List UInt8):Decidable (Plain l):=by unfold Plain;infer_instance
theorem L8{l:List UInt8}(hl:Plain l):∀i,Ch.has s i l=true↔∀k (h:k<l.length),cur s (i+k)=((l[k]).toNat:Int):=by
 induction l with
 |nil=>intro i;simp[Ch.has]
 |cons c l ih=>
  intro i;have hc:=hl c (by simp);have ih':=ih (fun d hd=>hl d (by simp[hd]));simp only[Ch.has,aY,bA];rw[ih'];have hb:Ch.bz s i=(c.toNat:Int)↔cur s i=(c.toNat:Int):=by
   rw[kr (Or.inr (Or.inr (Or.inr hc)))];unfold Ch.bz;split
   ·rename_i h;simp only[h,dN];omega
   ·rename_i h;simp only[h,false_and,iff_false];omega
  rw[hb];constructor
  ·rintro⟨h1,h2⟩ k hk;cases k with
   |zero=>simpa using h1
   |succ k=>
    have:=h2 k (by simpa using hk);simpa [cL,Nat.add_comm 1 k]using this
  ·intro h;refine⟨h 0 (by simp),fun k hk=>?_⟩;have:=h (k+1) (by simpa using hk);simpa [cL,Nat.add_comm 1 k]using this
theorem JS(x:Sc)(s t:ByteArray)(h0:t.size≠0):x.stands s t=Ch.has s x.i t.data.toList:=by
 rw[<-Ch.p7,bL,List.isPrefixOf_iff_prefix,List.prefix_iff_eq_take];unfold Sc.stands;simp only[aY,ba,bA];rw[Lib.toList_data,Lib.toList_data,im];unfold Ch.bytes;have hz:t.data.toList.length=t.size:=by simp
 rw[show x.i+t.size-x.i=t.size by omega,hz];constructor
 ·rintro⟨_,h⟩;exact h.symm
 ·intro h;refine⟨?_,h.symm⟩;have:=aC List.length h;rw[hz,bP,cQ]at this;have h2:s.data.toList.length=s.size:=by simp
  omega
theorem wU(k:Pl):∀(l:List UInt8) (x:Sc),l≠[]->Plain l->x.err=0->x.i<=s.size->st.told=x.l->Alike s x (Sc.eW s l x) (runs g s x.i (.word l k) st) (fun j=>runs g s j (.plain k) st):=by
 intro l;induction l with
 |nil=>intro x h;exact absurd rfl h
 |cons c l ih=>
  intro x _ hl he hi ht;have hc:=hl c (by simp);simp only[Sc.eW];rw[if_pos he];by_cases hq:cur s x.i=(c.toNat:Int)
  ·have h0:0<=cur s x.i:=by omega
   have hp:=fl h0;have hw:=fP h0 (by omega);rw[if_pos ((jT he (Or.inr (Or.inr (Or.inr hc)))).2 hq)];by_cases hn:l=[]
   ·subst hn;have e:d_ (.word [c] k) x.i st (cur s x.i)=⟨st,.go (.plain k)⟩:=by simp[d_,mv,hq]
    rw[fC e h0,hw];exact Or.inl ⟨he,Nat.le_succ _,by show x.i+1<=_;omega,rfl,rfl⟩
   ·have e:d_ (.word (c::l) k) x.i st (cur s x.i)=⟨st,.go (.word l k)⟩:=by simp[d_,mv,hq,hn]
    rw[fC e h0,hw];rcases ih {x with i:=x.i+1} hn (fun d hd=>hl d (by simp[hd])) he (by show x.i+1<=_;omega) ht with⟨h1,h2,h3,h4,h5⟩|⟨h1,h2,h3⟩
    ·refine Or.inl ⟨h1,?_,h3,?_,h5⟩
     ·have QC:x.i+1<=_:=h2;omega
     ·rw[h4]
    ·exact Or.inr ⟨h1,h2,h3⟩
  ·have hf:x.is s c.toNat=false:=by
    have:=mt (jT (s:=s) he (Or.inr (Or.inr (Or.inr hc)))).1 hq;simpa using this
   rw[if_neg (by rw[hf];simp),je s l (fx x s he)];refine Alike.wrong he ?_;have e:d_ (.word (c::l) k) x.i st (cur s x.i)=⟨st,.fail (Tk.why (cur s x.i)) x.i⟩:=by simp[d_,mv,hq]
   rw[gu e,ht]
theorem my(s t:ByteArray)(fV f:Nat)(x:Sc)(he:x.err=0)(hz:t.size≠0):gw s t fV (f+1) x=if Ch.has s x.i t.data.toList=true then({x with i:=x.i+t.size},s.extract fV x.i)else if 0<=cur s x.i then gw s t fV f {x with i:=x.i+wid s x.i}else gw s t fV f (x.wrong s):=by
 simp only[gw];rw[if_pos he,JS _ _ _ hz];split
 ·rfl
 ·by_cases h:0<=cur s x.i
  ·rw[if_neg (by rw[rF];simpa using h),if_pos h,D6,if_pos h];simp
  ·rw[if_pos ((rF s x.i).2 h),if_neg h]
theorem iQ(s t:ByteArray)(fV f:Nat)(x:Sc)(he:x.err≠0):gw s t fV f x=(x,⟨#[]⟩):=by
 cases f with
 |zero=>rfl
 |succ f=>simp only[gw];rw[if_neg he]
theorem Wz{a b:UInt8}(hp:Plain [a,b])(i:Nat):Ch.has s i [a,b]=true↔cur s i=(a.toNat:Int)/\cur s (i+1)=(b.toNat:Int):=by
 rw[L8 hp];constructor
 ·intro h;exact⟨h 0 (by simp),h 1 (by simp)⟩
 ·rintro⟨h1,h2⟩ k hk
  match k,hk with
  |0,_=>exact h1
  |1,_=>exact h2
theorem Alike.on{A:List Tok×Int×Int}{B:Nat->List Tok×Int×Int}{j:Nat}(h:Alike s {x with i:=j} y A B)(hj:x.i<=j):Alike s x y A B:=by
 rcases h with⟨h1,h2,h3,h4,h5⟩|⟨h1,h2,h3⟩
 ·refine Or.inl ⟨h1,ar hj h2,h3,?_,h5⟩;rw[h4]
 ·exact Or.inr ⟨h1,h2,h3⟩
theorem Gt(a b:UInt8)(A B:Pl)(K:Part)(hp:Plain [a,b])(hA:∀q c,step A q st c=if c=(a.toNat:Int)then⟨st,.go (.plain B)⟩else if c<0 then⟨st,.fail (Tk.why c) q⟩else⟨st,.go (.plain A)⟩)
  (hB:∀q c,step B q st c=if c=(b.toNat:Int)then⟨st,.go K⟩else step A q st c) (fV:Nat):∀(f:Nat) (x:Sc),x.err=0->x.i<=s.size->s.size+1<x.i+f->st.told=x.l->
  Alike s x (gw s ⟨#[a,b]⟩ fV f x).1 (runs g s x.i (.plain A) st) (fun j=>runs g s j K st):=by
 have ha:=hp a (by simp);have hb:=hp b (by simp);intro f;induction f with
 |zero=>intro x he hi hf;omega
 |succ f ih=>
  intro x he hi hf ht;rw[my _ _ _ _ _ he (by show 2≠0;decide)];have hh:=Wz (s:=s) hp x.i;by_cases h0:0<=cur s x.i
  ·have hp:=fl h0;by_cases h45:cur s x.i=(a.toNat:Int)
   ·have hw:=fP h0 (by omega);have e:d_ (.plain A) x.i st (cur s x.i)=⟨st,.go (.plain B)⟩:=by simp only[d_];rw[hA,if_pos h45]
    rw[fC e h0,hw];by_cases WA:cur s (x.i+1)=(b.toNat:Int)
    ·have hp':=fl (s:=s) (i:=x.i+1) (by omega);have hw':=fP (s:=s) (i:=x.i+1) (by omega) (by omega);have e2:d_ (.plain B) ((x.i+1:Nat):Int) st (cur s (x.i+1))=⟨st,.go K⟩:=by simp only[d_];rw[hB,if_pos WA]
     rw[if_pos (hh.2 ⟨h45,WA⟩),fC e2 (by omega),hw'];exact Or.inl ⟨he,by show x.i<=x.i+2;omega,by show x.i+2<=_;omega,rfl,rfl⟩
    ·rw[if_neg (fun h=>WA (hh.1 h).2),if_pos h0];have e2:runs g s (x.i+1) (.plain B) st=runs g s (x.i+1) (.plain A) st:=n_ (by simp only[d_];rw[hB,if_neg WA]) rfl (fun _=>rfl);rw[e2];exact(ih {x with i:=x.i+1} he (by show x.i+1<=_;omega) (by show _<x.i+1+f;omega) ht).on (by omega)
   ·rw[if_neg (fun h=>h45 (hh.1 h).1),if_pos h0];have e:d_ (.plain A) x.i st (cur s x.i)=⟨st,.go (.plain A)⟩:=by simp only[d_];rw[hA,if_neg h45,if_neg (by omega)]
    rw[fC e h0];exact(ih {x with i:=x.i+wid s x.i} he (by show x.i+wid s x.i<=_;omega) (by show _<x.i+wid s x.i+f;omega) ht).on (by omega)
  ·rw[if_neg (fun h=>by have:=(hh.1 h).1;omega),if_neg h0,iQ _ _ _ _ _ (fx x s he)];refine Alike.wrong he ?_;have e:d_ (.plain A) x.i st (cur s x.i)=⟨st,.fail (Tk.why (cur s x.i)) x.i⟩:=by simp only[d_];rw[hA,if_neg (by omega),if_pos (by omega)]
   rw[gu e,ht]
theorem Gu(fV f:Nat)(x:Sc)(he:x.err=0)(hi:x.i<=s.size)(hf:s.size+1<x.i+f)(ht:st.told=x.l):
  Alike s x (gw s ⟨#[45,45]⟩ fV f x).1 (runs g s x.i (.plain .remark) st) (fun j=>runs g s j (.word [62] .between) st):=
 Gt 45 45 .remark .DN _ (by decide) (fun _ _=>rfl) (fun _ _=>rfl) fV f x he hi hf ht
theorem JT(fV f:Nat)(x:Sc)(he:x.err=0)(hi:x.i<=s.size)(hf:s.size+1<x.i+f)(ht:st.told=x.l):
  Alike s x (gw s ⟨#[63,62]⟩ fV f x).1 (runs g s x.i (.plain .order) st) (fun j=>runs g s j (.plain .between) st):=
 Gt 63 62 .order .mark _ (by decide) (fun _ _=>rfl) (fun _ _=>rfl) fV f x he hi hf ht
end
section
variable{g:St->List Tok}{s:ByteArray}{i:Nat}{pt j_:Part}{st iJ:St}{no q c:Int}{x y:Sc}
theorem rI(st:St)(j:Rn):st.eH j (st.run j) (st.fD j)=st:=by
 unfold St.eH;congr 1
 ·funext m;split
  ·rename_i e;rw[e]
  ·rfl
 ·funext m;split
  ·rename_i e;rw[e]
  ·rfl
theorem kK(st:St)(j:Rn)(l l':List UInt8)(a a':Int):(st.eH j l a).eH j l' a'=st.eH j l' a':=by
 unfold St.eH;congr 1
 ·funext m;simp only[];split<;>rfl
 ·funext m;simp only[];split<;>rfl
def St.upto(st:St)(s:ByteArray)(j:Rn)(fV k:Nat):St:=st.eH j (st.run j++Ch.bytes s fV (k-fV)) (if st.run j=[]/\fV<k then(fV:Int)else st.fD j)
theorem Cf(st:St)(s:ByteArray)(j:Rn)(fV:Nat):st.upto s j fV fV=st:=by
 unfold St.upto;rw[if_neg (by omega)];have:Ch.bytes s fV (fV-fV)=[]:=by unfold Ch.bytes;simp
 rw[this,aO,rI]
theorem vH(s:ByteArray){i n:Nat}(h:i+n<=s.size)(hn:1<=n):Ch.bytes s i n≠[]:=by
 intro e;have:=aC List.length e;unfold Ch.bytes at this;have hz:s.data.toList.length=s.size:=by simp
 rw[bP,cQ,hz]at this;simp at this;omega
theorem Gv(st:St)(s:ByteArray)(j:Rn)(fV k:Nat)(hk:fV<=k)(h:0<=cur s k):(st.upto s j fV k).put j (cur s k) k=st.upto s j fV (k+wid s k):=by
 have hc:=fl h;unfold St.put;rw[mU h];unfold St.upto;rw[kK];simp only[St.eH,if_true];rw[aM];have hb:Ch.bytes s fV (k-fV)++Ch.bytes s k (wid s k)=Ch.bytes s fV (k+wid s k-fV):=by
  have:=pP s fV (k-fV) (wid s k);rw[show fV+(k-fV)=k by omega]at this;rw[this];congr 1;omega
 rw[hb];congr 1;funext m;split
 ·by_cases h0:st.run j=[]
  ·rw[h0];by_cases hf:fV<k
   ·have hne:=vH s (i:=fV) (n:=k-fV) (by omega) (by omega);rw[if_neg (by simpa using hne),if_pos ⟨rfl,hf⟩,if_pos ⟨rfl,by omega⟩]
   ·have e:fV=k:=by omega
    subst e;have:Ch.bytes s fV (fV-fV)=[]:=by unfold Ch.bytes;simp
    rw[this,if_pos (by simp),if_pos ⟨rfl,by omega⟩]
  ·rw[if_neg (by simp[h0]),if_neg (fun e=>h0 e.1),if_neg (fun e=>h0 e.1)]
 ·rfl
theorem NZ(st:St)(s:ByteArray)(j:Rn)(fV k:Nat):(st.upto s j fV k).told=st.told:=rfl
theorem N0{a b d:UInt8}(hp:Plain [a,b,d])(i:Nat):Ch.has s i [a,b,d]=true↔cur s i=(a.toNat:Int)/\cur s (i+1)=(b.toNat:Int)/\cur s (i+2)=(d.toNat:Int):=by
 rw[L8 hp];constructor
 ·intro h;exact⟨h 0 (by simp),h 1 (by simp),h 2 (by simp)⟩
 ·rintro⟨h1,h2,h3⟩ k hk
  match k,hk with
  |0,_=>exact h1
  |1,_=>exact h2
  |2,_=>exact h3
theorem D8(fV:Nat):∀(f:Nat) (x:Sc),x.err=0->x.i<=s.size->fV<=x.i->s.size+1<x.i+f->st.told=x.l->
  Alike s x (gw s ⟨#[93,93,62]⟩ fV f x).1 (runs g s x.i (.plain .iB) (st.upto s .text fV x.i)) (fun j=>runs g s j (.plain .between) (st.upto s .text fV (j-3))):=by
 intro f;induction f with
 |zero=>intro x he hi hg hf;omega
 |succ f ih=>
  intro x he hi hg hf ht;rw[my _ _ _ _ _ he (by show 3≠0;decide)];have hh:Ch.has s x.i [93,93,62]=true↔cur s x.i=93/\cur s (x.i+1)=93/\cur s (x.i+2)=62:=N0 (s:=s) (by decide) x.i;by_cases h0:0<=cur s x.i
  ·have hp:=fl h0;by_cases h1:cur s x.i=93
   ·have hw:=fP h0 (by omega);have e:d_ (.plain .iB) x.i (st.upto s .text fV x.i) (cur s x.i)=⟨st.upto s .text fV x.i,.go (.plain .bracket)⟩:=by simp only[d_,step,fY];rw[if_pos h1]
    have hput:=Gv st s .text fV x.i hg h0;rw[hw,h1]at hput;rw[fC e h0];have key:¬(cur s (x.i+1)=93/\cur s (x.i+2)=62)->runs g s (x.i+wid s x.i) (.plain .bracket) (st.upto s .text fV x.i)=runs g s (x.i+1) (.plain .iB) (st.upto s .text fV (x.i+1)):=by
     intro hno;rw[hw];by_cases h2:cur s (x.i+1)=93
     ·have hw2:=fP (s:=s) (i:=x.i+1) (by omega) (by omega);have e2:d_ (.plain .bracket) ((x.i+1:Nat):Int) (st.upto s .text fV x.i) (cur s (x.i+1))=⟨st.upto s .text fV x.i,.go (.plain .brackets)⟩:=by simp only[d_,step,fZ];rw[if_pos h2]
      have e3:d_ (.plain .iB) ((x.i+1:Nat):Int) (st.upto s .text fV (x.i+1)) (cur s (x.i+1))=⟨st.upto s .text fV (x.i+1),.go (.plain .bracket)⟩:=by simp only[d_,step,fY];rw[if_pos h2]
      rw[fC e2 (by omega),fC e3 (by omega),hw2];have h3:¬cur s (x.i+2)=62:=fun e=>hno ⟨h2,e⟩;refine n_ ?_ rfl (fun⟨o,h⟩=>by cases uz h);simp only[d_,step];rw[show x.i+1+1=x.i+2 by omega,if_neg h3,show ((x.i+2:Nat):Int)-2=(x.i:Int) by omega,hput]
     ·refine n_ ?_ rfl (fun⟨o,h⟩=>by cases uz h);simp only[d_,step,fZ];rw[if_neg h2,show ((x.i+1:Nat):Int)-1=(x.i:Int) by omega,hput]
    by_cases hs:cur s (x.i+1)=93/\cur s (x.i+2)=62
    ·rw[if_pos (hh.2 ⟨h1,hs⟩)];have hw2:=fP (s:=s) (i:=x.i+1) (by omega) (by omega);have hw3:=fP (s:=s) (i:=x.i+2) (by omega) (by omega);have X_:=fl (s:=s) (i:=x.i+2) (by omega);have e2:d_ (.plain .bracket) ((x.i+1:Nat):Int) (st.upto s .text fV x.i) (cur s (x.i+1))=⟨st.upto s .text fV x.i,.go (.plain .brackets)⟩:=by simp only[d_,step,fZ];rw[if_pos hs.1]
     have e3:d_ (.plain .brackets) ((x.i+1+1:Nat):Int) (st.upto s .text fV x.i) (cur s (x.i+1+1))=⟨st.upto s .text fV x.i,.go (.plain .between)⟩:=by simp only[d_,step];rw[if_pos hs.2]
     rw[hw,fC e2 (by omega),hw2,fC e3 (by show 0<=cur s (x.i+2);omega)];refine Or.inl ⟨he,by show x.i<=x.i+3;omega,by show x.i+3<=_;omega,rfl,?_⟩;show _=runs g s (x.i+3) _ (st.upto s .text fV (x.i+3-3));rw[show x.i+3-3=x.i by omega,show x.i+1+1+wid s (x.i+1+1)=x.i+3 by have:wid s (x.i+1+1)=wid s (x.i+2):=rfl;omega]
    ·rw[if_neg (fun h=>hs (hh.1 h).2),if_pos h0,key hs,hw];exact(ih {x with i:=x.i+1} he (by show x.i+1<=_;omega) (by show fV<=x.i+1;omega) (by show _<x.i+1+f;omega) ht).on (by omega)
   ·rw[if_neg (fun h=>h1 (hh.1 h).1),if_pos h0];have e:d_ (.plain .iB) x.i (st.upto s .text fV x.i) (cur s x.i)=⟨st.upto s .text fV (x.i+wid s x.i),.go (.plain .iB)⟩:=by simp only[d_,step,fY];rw[if_neg h1,if_neg (by omega),Gv st s .text fV x.i hg h0]
    rw[fC e h0];exact(ih {x with i:=x.i+wid s x.i} he (by show x.i+wid s x.i<=_;omega) (by show fV<=x.i+wid s x.i;omega) (by show _<x.i+wid s x.i+f;omega) ht).on (by omega)
  ·rw[if_neg (fun h=>by have:=(hh.1 h).1;omega),if_neg h0,iQ _ _ _ _ _ (fx x s he)];refine Alike.wrong he ?_;have e:d_ (.plain .iB) x.i (st.upto s .text fV x.i) (cur s x.i)=⟨st.upto s .text fV x.i,.fail (Tk.why (cur s x.i)) x.i⟩:=by simp only[d_,step,fY];rw[if_neg (by omega),if_pos (by omega)]
   rw[gu e,NZ,ht]
theorem zS(s t:ByteArray)(hz:t.size≠0)(fV:Nat):∀(f:Nat) (x:Sc),x.err=0->(gw s t fV f x).1.err=0->s.size+1<x.i+f->x.i<=s.size->(gw s t fV f x).2=s.extract fV ((gw s t fV f x).1.i-t.size)/\x.i+t.size<=(gw s t fV f x).1.i:=by
 intro f;induction f with
 |zero=>intro x he h1 h2;omega
 |succ f ih=>
  intro x he h1 h2 hi;rw[my _ _ _ _ _ he hz]at h1 ⊢;split
  ·simp
  ·rename_i hn;rw[if_neg hn]at h1;split
   ·rename_i h0;rw[if_pos h0]at h1;have hp:=fl h0;have:=ih {x with i:=x.i+wid s x.i} he h1 (by show _<x.i+wid s x.i+f;omega) (by show x.i+wid s x.i<=_;omega);refine⟨this.1,?_⟩;have h3:x.i+wid s x.i+t.size<=_:=this.2;omega
   ·rename_i h0;rw[if_neg h0,iQ _ _ _ _ _ (fx x s he)]at h1;exact absurd h1 (fx x s he)
end
section
def inside(c:Int):Prop:=Tk.qI c=true/\c≠59
instance (c:Int):Decidable (inside c):=by unfold inside;infer_instance
namespace Ch
open Go.Proofs.YtjecakcpcnmieaaGreatDoor.Ch
theorem JU{b r:Int}(hb:b<=16)(h:¬b<=nt 16 r):inside r:=by
 have hd:(48<=r/\r<=57)\/(97<=r/\r<=102)\/(65<=r/\r<=70):=by
  unfold nt at h;split at h
  ·left;assumption
  ·split at h
   ·right;left;assumption
   ·split at h
    ·right;right;assumption
    ·omega
 refine⟨?_,by omega⟩;unfold Tk.qI;simp only[bw,aY,bA,ba,fT,jq];omega
theorem N1(u:ByteArray)(b:Int)(hb:b<=16):∀f pos n,(eX u b f pos n).2≠0->
  ∃e:Nat,(eX u b f pos n).2=(e:Int)+1/\pos<=e/\bz u e=59/\∀j,pos<=j->j<e->inside (bz u j):=by
 intro f;induction f with
 |zero=>intro pos n h;exact absurd rfl h
 |succ f ih=>
  intro pos n;rw[eX.eq_2];split
  ·rename_i oy;split
   ·intro _;exact⟨pos,rfl,ah _,oy,fun j h1 h2=>by omega⟩
   ·intro h;exact absurd rfl h
  ·split
   ·intro h;exact absurd rfl h
   ·rename_i hd;intro h;obtain⟨e,h1,h2,h3,h4⟩:=ih (pos+1) _ h;refine⟨e,h1,by omega,h3,fun j hj1 Yi=>?_⟩;by_cases e:j=pos
    ·subst e;exact JU hb hd
    ·exact h4 j (by omega) Yi
theorem Sy(u v:ByteArray)(b:Int)(hb:b<=16):∀(f g pos:Nat) (n:Int),(eX u b f pos n).2≠0->(∀j:Nat,pos<=j->(j:Int)<(eX u b f pos n).2->bz v j=bz u j)->v.size<pos+g->
  eX v b g pos n=eX u b f pos n:=by
 intro f;induction f with
 |zero=>intro g pos n h;exact absurd rfl h
 |succ f ih=>
  intro g pos n h hs hg;have hlt:(pos:Int)<(eX u b (f+1) pos n).2:=by
   rcases rj u b (f+1) pos n with e|⟨_,h1,_⟩
   ·rw[e]at h;exact absurd rfl h
   ·omega
  have h0:bz v pos=bz u pos:=hs pos (ah _) hlt;rw[eX.eq_2]at h hs ⊢;have Dt:g≠0:=by
   intro e;subst e;have:bz v pos= -1:=by unfold bz;rw[if_neg (by omega)]
   rw[this]at h0;have hx:nt 16 (bz u pos)=16:=LV _ (by omega);rw[if_neg (by omega),if_pos (by omega)]at h;exact absurd rfl h
  obtain⟨g,rfl⟩:∃k,g=k+1:=⟨g-1,by omega⟩
  rw[eX.eq_2 v,h0];split
  ·rfl
  ·rename_i oy;rw[if_neg oy]at h hs;split
   ·rfl
   ·rename_i hx;rw[if_neg hx]at h hs;exact ih g (pos+1) _ h (fun j h1 h2=>hs j (by omega) h2) (by omega)
theorem zT(u v:ByteArray)(p:Nat)(b:Int)(hb:b<=16)(h:(gj u p b).2≠0)(hs:∀j:Nat,p<=j->(j:Int)<p+(gj u p b).2->bz v j=bz u j):gj v p b=gj u p b:=by
 unfold gj at h hs ⊢;split at h
 ·exact absurd rfl h
 ·rename_i hz;rw[if_neg hz]at hs ⊢;have e:=Sy u v b hb _ (v.size-p+1) p 0 hz (fun j h1 h2=>hs j h1 (by simp only;omega)) (by omega);rw[e,if_neg hz]
theorem Gw{s:ByteArray}{p:Nat}{b:Int}(hb:b<=16)(h:(gj s p b).2≠0):∃e:Nat,(p:Int)+(gj s p b).2=(e:Int)+1/\p<=e/\bz s e=59/\∀j,p<=j->j<e->inside (bz s j):=by
 unfold gj at*
 split at h
 ·exact absurd rfl h
 ·rename_i hz;rw[if_neg hz];obtain⟨e,h1,h2⟩:=N1 s b hb _ _ _ hz;exact⟨e,by simp only;omega,h2⟩
theorem xH{s:ByteArray}{i:Nat}(h:(eR s i).2≠0):∃e:Nat,(i:Int)+(eR s i).2=(e:Int)+1/\i<e/\bz s e=59/\∀j,i<j->j<e->inside (bz s j):=by
 have key:∀(l:List UInt8) (m:Nat),l.length=m+1->has s i l=true->1<=m->l[m]?=some 59->(∀k,1<=k->k<m->∀c,l[k]?=some c->inside (c.toNat:Int))->∃e:Nat,(i:Int)+(l.length:Int)=(e:Int)+1/\i<e/\bz s e=59/\∀j,i<j->j<e->inside (bz s j):=by
  intro l m hl hh hm oy uO;have hb:=oz s l i hh;refine⟨i+m,by omega,by omega,?_,?_⟩
  ·have:=hb m (by omega);rw[aw (by omega)]at oy;cases adH:l[m];simp_all
  ·intro j h1 h2;have:=hb (j-i) (by omega);rw[show i+(j-i)=j by omega]at this;rw[this];exact uO (j-i) (by omega) (by omega) _ (aw (by omega))
 have abh:∀(k:Nat) (b:Int) (l:List UInt8),2<=k->b<=16->l.length=k->has s i l=true->(∀j,1<=j->j<k->∀c,l[j]?=some c->inside (c.toNat:Int))->(gj s (i+k) b).2≠0->∃e:Nat,(i:Int)+((k:Int)+(gj s (i+k) b).2)=(e:Int)+1/\i<e/\bz s e=59/\∀j,i<j->j<e->inside (bz s j):=by
  intro k b l hk hb hl hh uO hn;obtain⟨e,h1,h2,h3,h4⟩:=Gw hb hn;have hz:=oz s l i hh;refine⟨e,by omega,by omega,h3,fun j hj1 Yi=>?_⟩;by_cases hj:i+k<=j
  ·exact h4 j hj Yi
  ·have:=hz (j-i) (by omega);rw[show i+(j-i)=j by omega]at this;rw[this];exact uO (j-i) (by omega) (by omega) _ (aw (by omega))
 unfold eR at h ⊢;split
 ·rename_i hh;exact key _ 3 rfl hh (by decide) rfl (by intro k h1 h2 c hc;have:k=1\/k=2:=(by omega);rcases this with rfl|rfl<;>(simp at hc;subst hc;decide))
 rename_i n1;rw[if_neg n1]at h;split
 ·rename_i hh;exact key _ 3 rfl hh (by decide) rfl (by intro k h1 h2 c hc;have:k=1\/k=2:=(by omega);rcases this with rfl|rfl<;>(simp at hc;subst hc;decide))
 rename_i n2;rw[if_neg n2]at h;split
 ·rename_i hh;exact key _ 4 rfl hh (by decide) rfl (by intro k h1 h2 c hc;have:k=1\/k=2\/k=3:=(by omega);rcases this with rfl|rfl|rfl<;>(simp at hc;subst hc;decide))
 rename_i n3;rw[if_neg n3]at h;split
 ·rename_i hh;exact key _ 5 rfl hh (by decide) rfl (by intro k h1 h2 c hc;have:k=1\/k=2\/k=3\/k=4:=(by omega);rcases this with rfl|rfl|rfl|rfl<;>(simp at hc;subst hc;decide))
 rename_i n4;rw[if_neg n4]at h;split
 ·rename_i hh;exact key _ 5 rfl hh (by decide) rfl (by intro k h1 h2 c hc;have:k=1\/k=2\/k=3\/k=4:=(by omega);rcases this with rfl|rfl|rfl|rfl<;>(simp at hc;subst hc;decide))
 rename_i n5;rw[if_neg n5]at h;split
 ·rename_i hh;rw[if_pos hh]at h;split at h
  ·exact absurd rfl h
  ·rename_i hn;rw[if_neg hn];exact abh 3 16 _ (by decide) (by decide) rfl hh (by intro k h1 h2 c hc;have:k=1\/k=2:=(by omega);rcases this with rfl|rfl<;>(simp at hc;subst hc;decide)) hn
 rename_i n6;rw[if_neg n6]at h;split
 ·rename_i hh;rw[if_pos hh]at h;split at h
  ·exact absurd rfl h
  ·rename_i hn;rw[if_neg hn];exact abh 2 10 _ (by decide) (by decide) rfl hh (by intro k h1 h2 c hc;have:k=1:=(by omega);subst this;simp at hc;subst hc;decide) hn
 ·rename_i n7;rw[if_neg n7]at h;exact absurd rfl h
theorem Sz{s:ByteArray}{l:List UInt8}{i:Nat}:has s i l=true↔∀k (h:k<l.length),bz s (i+k)=((l[k]).toNat:Int):=by
 refine⟨oz s l i,?_⟩;induction l generalizing i with
 |nil=>intro _;rfl
 |cons c l ih=>
  intro h;simp only[has,aY,bA];refine⟨h 0 (by simp),ih fun k hk=>?_⟩;have:=h (k+1) (by simpa using hk);simpa [cL,Nat.add_comm 1 k]using this
theorem vI{u v:ByteArray}{l:List UInt8}{n:Nat}(hl:l.length<=n)(hs:∀j:Nat,j<n->bz v j=bz u j):has v 0 l=has u 0 l:=by
 rw[bL,Sz,Sz];constructor
 ·intro h k hk;rw[<-hs (0+k) (by omega)];exact h k hk
 ·intro h k hk;rw[hs (0+k) (by omega)];exact h k hk
theorem L9{s:ByteArray}{i:Nat}{l:List UInt8}(k:Nat)(hk:k<l.length)(h:bz s (i+k)≠((l[k]).toNat:Int)):¬has s i l=true:=fun e=>h (oz s l i e k hk)
theorem zU{u v:ByteArray}(h:(eR u 0).2≠0)(hs:∀j:Nat,(j:Int)<(eR u 0).2->bz v j=bz u j):eR v 0=eR u 0:=by
 have h4:=(iV h).2.1;have s0:=hs 0 (by omega);have s1:=hs 1 (by omega);have s2:=hs 2 (by omega);have s3:=hs 3 (by omega);have q:∀l:List UInt8,l.length<=4->has v 0 l=has u 0 l:=fun l hl=>vI (n:=4) hl (fun j hj=>hs j (by omega));have hq1:=q [38,108,116,59] (by decide);have hq2:=q [38,103,116,59] (by decide);have hq6:=q [38,35,120] (by decide);have hq7:=q [38,35] (by decide);unfold eR at h hs ⊢;rw[hq1,hq2,hq6,hq7];by_cases n1:has u 0 [38,108,116,59]=true
 ·rw[if_pos n1,if_pos n1]
 rw[if_neg n1]at h hs ⊢;rw[if_neg n1];by_cases n2:has u 0 [38,103,116,59]=true
 ·rw[if_pos n2,if_pos n2]
 rw[if_neg n2]at h hs ⊢;rw[if_neg n2];have other:∀(l:List UInt8) (c:UInt8),l[1]?=some c->bz u 1≠(c.toNat:Int)->¬has v 0 l=true:=by
  intro l c hc hne;have hk:1<l.length:=by
   by_cases hk:1<l.length
   ·exact hk
   ·rw[List.getElem?_eq_none (by omega)]at hc;cases hc
  refine L9 1 hk ?_;rw[aw hk]at hc;cases hc;rw[ay,s1];exact hne
 by_cases n3:has u 0 [38,97,109,112,59]=true
 ·rw[if_pos n3]at hs ⊢;have e3:has v 0 [38,97,109,112,59]=true:=(vI (n:=5) (by decide) (fun j hj=>hs j (by simp only;omega))).trans n3;rw[if_pos e3]
 rw[if_neg n3]at h hs ⊢;by_cases n4:has u 0 [38,113,117,111,116,59]=true
 ·have hb:=oz u _ 0 n4 1 (by decide);rw[if_pos n4]at hs ⊢;have e4:has v 0 [38,113,117,111,116,59]=true:=(vI (n:=6) (by decide) (fun j hj=>hs j (by simp only;omega))).trans n4;rw[if_neg (other _ 97 rfl (by rw[ay]at hb;rw[hb];decide)),if_pos e4]
 rw[if_neg n4]at h hs ⊢;by_cases n5:has u 0 [38,97,112,111,115,59]=true
 ·have hb:=oz u _ 0 n5 1 (by decide);have hb2:=oz u _ 0 n5 2 (by decide);rw[if_pos n5]at hs ⊢;have e5:has v 0 [38,97,112,111,115,59]=true:=(vI (n:=6) (by decide) (fun j hj=>hs j (by simp only;omega))).trans n5;have x3:¬has v 0 [38,97,109,112,59]=true:=L9 2 (by decide) (by rw[ay,s2];rw[ay]at hb2;rw[hb2];decide);rw[if_neg x3,if_neg (other _ 113 rfl (by rw[ay]at hb;rw[hb];decide)),if_pos e5]
 rw[if_neg n5]at h hs ⊢;by_cases n6:has u 0 [38,35,120]=true
 ·have hb:=oz u _ 0 n6 1 (by decide);rw[ay]at hb;have hb':bz u 1=35:=hb;rw[if_pos n6]at h hs ⊢;rw[if_neg (other _ 97 rfl (by rw[hb'];decide)),if_neg (other _ 113 rfl (by rw[hb'];decide)),if_neg (other _ 97 rfl (by rw[hb'];decide)),if_pos n6];by_cases hz:(gj u (0+3) 16).2=0
  ·rw[if_pos hz]at h;exact absurd rfl h
  ·rw[if_neg hz]at hs;rw[zT u v (0+3) 16 (by decide) hz (fun j h1 h2=>hs j (by simp only;omega))]
 rw[if_neg n6]at h hs ⊢;by_cases n7:has u 0 [38,35]=true
 ·have hb:=oz u _ 0 n7 1 (by decide);rw[ay]at hb;have hb':bz u 1=35:=hb;rw[if_pos n7]at h hs ⊢;rw[if_neg (other _ 97 rfl (by rw[hb'];decide)),if_neg (other _ 113 rfl (by rw[hb'];decide)),if_neg (other _ 97 rfl (by rw[hb'];decide)),if_neg n6,if_pos n7];by_cases hz:(gj u (0+2) 10).2=0
  ·rw[if_pos hz]at h;exact absurd rfl h
  ·rw[if_neg hz]at hs;rw[zT u v (0+2) 10 (by decide) hz (fun j h1 h2=>hs j (by simp only;omega))]
 ·rw[if_neg n7]at h;exact absurd rfl h
end Ch
end
section
variable{g:St->List Tok}{s:ByteArray}{i:Nat}{pt j_:Part}{st iJ:St}{no q c:Int}{x y:Sc}
theorem vJ{c:Int}(h:inside c):35<=c/\c<128:=by
 obtain⟨h,_⟩:=h;have:=sN h;simp only[Tk.qI,bw,aY,bA,ba,Ch.fT,Ch.jq]at h;omega
theorem zV{c:Int}(h0:32<=c)(h1:c<128):cur s i=c↔Ch.bz s i=c:=by
 have:=kr (s:=s) (i:=i) (c:=c.toNat) (by omega);rw[show ((c.toNat:Nat):Int)=c by omega]at this;rw[this];unfold Ch.bz;split
 ·rename_i h;simp only[h,dN];omega
 ·rename_i h;simp only[h,false_and,false_iff];omega
theorem SA(s:ByteArray)(i n k:Nat)(h:i+n<=s.size)(hk:k<n):Ch.bz (Ch.txt (Ch.bytes s i n)) k=Ch.bz s (i+k):=by
 rw[Ch.wP];unfold Ch.bytes;rw[List.getElem?_take_of_lt hk,List.getElem?_drop];have hz:s.data.toList.length=s.size:=by simp
 rw[aw (by omega)];unfold Ch.bz;rw[if_pos (by omega)];have hd:i+k<s.data.size:=by have:s.data.size=s.size:=rfl;omega
 have hg:s.get! (i+k)=s.data[i+k]:=getElem!_pos s.data (i+k) hd;rw[hg];simp
theorem JV(s:ByteArray)(i n:Nat)(h:i+n<=s.size):(Ch.txt (Ch.bytes s i n)).size=n:=by
 rw[Ch.ng];unfold Ch.bytes;have hz:s.data.toList.length=s.size:=by simp
 rw[bP,cQ];omega
theorem Gx(s:ByteArray)(i p:Nat)(oV:Ch.bz s i=38)(hp:i<p)(oy:Ch.bz s p=59)(Yj:p<s.size)(uO:∀m,i<m->m<p->inside (Ch.bz s m)):
  ((Ch.eR s i).2≠0->(Ch.eR s i).2=(p+1-i:Nat)/\Ch.kP (Ch.txt (Ch.bytes s i (p+1-i)))=(Lib.encodeRune (Ch.eR s i).1,0,0))/\((Ch.eR s i).2=0->(Ch.kP (Ch.txt (Ch.bytes s i (p+1-i)))).2.1≠0):=by
 have hsz:=JV s i (p+1-i) (by omega);have hbz:=fun k hk=>SA s i (p+1-i) k (by omega) hk;generalize hv:Ch.txt (Ch.bytes s i (p+1-i))=v at*
 have ht:∀k,k<p+1-i->Ch.bz (Ch.tail s i) k=Ch.bz v k:=fun k hk=>by rw[Ch.vw,hbz k hk]
 have v38:Ch.bz v 0=38:=by rw[hbz 0 (by omega)];exact oV
 have jO:Ch.gY v 0=true:=by
  have hd:=Ch.g_ (s:=v) (i:=0) (by omega) (by omega);unfold Ch.gY;rw[hd,v38];decide
 constructor
 ·intro hn;obtain⟨e,h1,h2,h3,h4⟩:=Ch.xH hn;have he:e=p:=by
   rcases Nat.lt_trichotomy e p with hlt|rfl|NH
   ·exact absurd h3 (uO e h2 hlt).2
   ·rfl
   ·exact absurd oy (h4 p hp NH).2
  subst he;have hlen:(Ch.eR s i).2=(e+1-i:Nat):=by omega
  refine⟨hlen,?_⟩;have hr:Ch.eR v 0=Ch.eR s i:=by
   have h5:Ch.eR (Ch.tail s i) 0=Ch.eR s i:=Ch.ur s i;rw[<-h5];rw[<-h5]at hn hlen;exact Ch.zU hn (fun j hj=>(ht j (by omega)).symm)
  unfold Ch.kP;have hstep:=Ch.BQ (s:=v) (f:=v.size) (pos:=0) (acc:=[]) (by omega) jO v38 (by rw[hr];exact hn) rfl;rw[<-hstep,hr,hlen];rw[hsz];obtain⟨g,hg⟩:∃g,e+1-i=g+1:=⟨e-i,by omega⟩
  rw[hg];have hend:=Ch.BP (s:=v) (f:=g) (pos:=0+((g+1:Nat):Int).toNat) (acc:=[]++Lib.encodeRune (Ch.eR s i).1) (by rw[hsz];simp;omega) rfl;rw[hend];simp
 ·intro hn;have hr:(Ch.eR v 0).2=0:=by
   by_cases h5:(Ch.eR v 0).2=0
   ·exact h5
   ·exfalso;have hsp:=Ch.iV h5;have:=Ch.zU (u:=v) (v:=Ch.tail s i) h5 (fun j hj=>ht j (by omega));rw[Ch.ur]at this;rw[this]at hn;exact h5 hn
  unfold Ch.kP;have:=Ch.xD (s:=v) (f:=v.size) (pos:=0) (acc:=[]) (by omega) jO v38 hr rfl;rw[this];simp
theorem JW(st:St)(j:Rn)(q:Int)(hm:Ch.may c=true):st.pj j ⟨(Lib.encodeRune c).toArray⟩ q=st.put j c q:=by
 have hv:=Ch.il hm;have hd:=Ch.yz hv [];rw[aO]at hd;have hz:(⟨(Lib.encodeRune c).toArray⟩:ByteArray).size=(Lib.encodeRune c).length:=Ch.ng _;have hp:=Ch.DI c;have hd':Utf8.decode ⟨(Lib.encodeRune c).toArray⟩ 0=(c.toNat,(Lib.encodeRune c).length):=hd;have h0:0<=c:=by have:=(Ch.mJ c).1 hm;omega
 unfold St.pj;obtain⟨g,hg⟩:∃g,(⟨(Lib.encodeRune c).toArray⟩:ByteArray).size=g+1:=⟨_,(by omega:_=((⟨(Lib.encodeRune c).toArray⟩:ByteArray).size-1)+1)⟩
 rw[hg];simp only[gB,hd',hg];rw[if_pos (by omega),if_neg (by omega),show ((c.toNat:Nat):Int)=c by omega]
def Cg(g:St->List Tok)(s:ByteArray)(i:Nat)(j:Rn)(k:Pl)(st:St):List Tok×Int×Int:=
 if(Ch.eR s i).2=0 then(st.told,4,(i:Int))else runs g s (i+(Ch.eR s i).2.toNat) (.plain k) ((st.eH .ref (Ch.bytes s i (Ch.eR s i).2.toNat) i).put j (Ch.eR s i).1 i)
theorem N3(j:Rn)(k:Pl)(i:Nat)(st:St)(oV:Ch.bz s i=38):∀(n p:Nat),s.size-p<n->i<p->p<=s.size->(∀m,i<m->m<p->inside (Ch.bz s m))->
  runs g s p (.ref j k) (st.eH .ref (Ch.bytes s i (p-i)) i)=Cg g s i j k st:=by
 intro n;induction n with
 |zero=>intro p h;omega
 |succ n ih=>
  intro p hn hp Yj uO;have hne:=vH s (i:=i) (n:=p-i) (by omega) (by omega);have put:∀c:Int,0<=cur s p->cur s p=c->c<128->(st.eH .ref (Ch.bytes s i (p-i)) i).put .ref c p=st.eH .ref (Ch.bytes s i (p+1-i)) i:=by
   intro c h0 hc h1;subst hc;have hw:=fP h0 h1;unfold St.put;rw[mU h0,hw,kK];simp only[St.eH,if_true];rw[if_neg (by simpa using hne)];have:=pP s i (p-i) 1;rw[show i+(p-i)=p by omega,show p-i+1=p+1-i by omega]at this;rw[this]
  by_cases hi:inside (cur s p)
  ·have hr:=vJ hi;have hc:=fl (s:=s) (i:=p) (by omega);have hw:=fP (s:=s) (i:=p) (by omega) hr.2;have e:d_ (.ref j k) p (st.eH .ref (Ch.bytes s i (p-i)) i) (cur s p)=⟨st.eH .ref (Ch.bytes s i (p+1-i)) i,.go (.ref j k)⟩:=by simp only[d_,oY];rw[if_pos hi.1,if_neg hi.2,put _ (by omega) rfl hr.2]
   rw[fC e (by omega),hw];refine ih (p+1) (by omega) (by omega) (by omega) fun m h1 h2=>?_;by_cases hm:m=p
   ·subst hm;rw[(zV (by omega) hr.2).1 rfl];exact hi
   ·exact uO m h1 (by omega)
  ·by_cases oy:cur s p=59
   ·have b59:=(zV (by omega) (by omega)).1 oy;have hc:=fl (s:=s) (i:=p) (by omega);have hw:=fP (s:=s) (i:=p) (by omega) (by omega);obtain⟨u1,u2⟩:=Gx s i p oV hp b59 hc.1 uO;have hrun:(st.eH .ref (Ch.bytes s i (p+1-i)) i).run .ref=Ch.bytes s i (p+1-i):=by simp[St.eH]
    have hat:(st.eH .ref (Ch.bytes s i (p+1-i)) i).fD .ref=(i:Int):=by simp[St.eH]
    unfold Cg;by_cases hz:(Ch.eR s i).2=0
    ·rw[if_pos hz];have e:d_ (.ref j k) p (st.eH .ref (Ch.bytes s i (p-i)) i) (cur s p)=⟨st.eH .ref (Ch.bytes s i (p+1-i)) i,.fail 4 i⟩:=by
      simp only[d_,oY];rw[if_pos (by rw[oy];decide),if_pos oy,put 59 (by omega) oy (by omega)];unfold jX;rw[hrun,hat];have u2':¬(Ch.kP ⟨(Ch.bytes s i (p+1-i)).toArray⟩).2.1=0:=u2 hz;rw[if_neg u2']
     rw[gu e];rfl
    ·rw[if_neg hz];obtain⟨v1,v2⟩:=u1 hz;have hm:=(Ch.iV hz).1;have e:d_ (.ref j k) p (st.eH .ref (Ch.bytes s i (p-i)) i) (cur s p)=⟨(st.eH .ref (Ch.bytes s i (p+1-i)) i).put j (Ch.eR s i).1 i,.go (.plain k)⟩:=by
      simp only[d_,oY];rw[if_pos (by rw[oy];decide),if_pos oy,put 59 (by omega) oy (by omega)];unfold jX;rw[hrun,hat];have v2':Ch.kP ⟨(Ch.bytes s i (p+1-i)).toArray⟩=(Lib.encodeRune (Ch.eR s i).1,0,0):=v2;rw[v2',if_pos rfl,JW _ _ _ hm]
     rw[fC e (by omega),hw,v1];congr 1;simp;omega
   ·have hno:¬Tk.qI (cur s p)=true:=fun e=>hi ⟨e,oy⟩;have e:d_ (.ref j k) p (st.eH .ref (Ch.bytes s i (p-i)) i) (cur s p)=⟨st.eH .ref (Ch.bytes s i (p-i)) i,.fail 4 i⟩:=by simp only[d_,oY];rw[if_neg hno];simp[St.eH]
    have hz:(Ch.eR s i).2=0:=by
     by_cases hz:(Ch.eR s i).2=0
     ·exact hz
     ·exfalso;obtain⟨e,h1,h2,h3,h4⟩:=Ch.xH hz;rcases Nat.lt_trichotomy e p with hlt|rfl|NH
      ·exact absurd h3 (uO e h2 hlt).2
      ·exact oy ((zV (by omega) (by omega)).2 h3)
      ·have hb:=h4 p hp NH;have hr:=vJ hb;rw[(zV (c:=Ch.bz s p) (by omega) hr.2).2 rfl]at hno;exact hno hb.1
    unfold Cg;rw[gu e,if_pos hz];rfl
theorem Gy(j:Rn)(k:Pl)(i:Nat)(st:St)(oV:cur s i=38):runs g s (i+wid s i) (.ref j k) ((st.clear .ref).put .ref 38 i)=Cg g s i j k st:=by
 have hc:=fl (s:=s) (i:=i) (by omega);have hw:=fP (s:=s) (i:=i) (by omega) (by omega);have e:(st.clear .ref).put .ref 38 i=st.eH .ref (Ch.bytes s i (i+1-i)) i:=by
  have h1:=mU (s:=s) (i:=i) (by omega);rw[hw,oV]at h1;unfold St.put St.clear;rw[kK];simp only[St.eH,if_true];rw[h1,show i+1-i=1 by omega];simp
 rw[e,hw];exact N3 j k i st ((zV (by omega) (by omega)).1 oV) (s.size+1) (i+1) (by omega) (by omega) (by omega) (fun m h1 h2=>by omega)
theorem rJ(he:x.err=0)(j6:Nat)(hb:32<=j6/\j6<128):x.char s j6=
  if cur s x.i<0\/cur s x.i=60\/cur s x.i=(j6:Int)then(x.wrong s,⟨#[]⟩)
  else if cur s x.i=38 then(if(Ch.eR s x.i).2=0 then(x.fail 4 x.i,⟨#[]⟩)else({x with i:=x.i+(Ch.eR s x.i).2.toNat},⟨(Lib.encodeRune (Ch.eR s x.i).1).toArray⟩))
  else({x with i:=x.i+wid s x.i},s.extract x.i (x.i+wid s x.i)):=by
 have Yq:cur s x.i=60↔x.i<s.size/\(s.get! x.i).toNat=60:=kr (s:=s) (i:=x.i) (c:=60) (by omega);have b38:cur s x.i=38↔x.i<s.size/\(s.get! x.i).toNat=38:=kr (s:=s) (i:=x.i) (c:=38) (by omega);have bb:=kr (s:=s) (i:=x.i) (c:=j6) (by omega);unfold Sc.char;by_cases hi:x.i<s.size
 ·simp only[hi,dN]at Yq b38 bb;rw[if_pos hi];by_cases QB:(s.get! x.i).toNat=60\/(s.get! x.i).toNat=j6
  ·rw[if_pos QB,if_pos (Or.inr (QB.imp Yq.2 bb.2))]
  ·have h1:¬(cur s x.i=60\/cur s x.i=(j6:Int)):=fun h=>QB (h.imp Yq.1 bb.1);rw[if_neg QB];by_cases h2:(s.get! x.i).toNat=38
   ·have QC:cur s x.i=38:=b38.2 h2;have A7:¬(cur s x.i<0\/cur s x.i=60\/cur s x.i=(j6:Int)):=by rintro(h|h);omega;exact h1 h
    rw[if_pos h2,if_neg A7,if_pos QC];unfold jW;by_cases hz:(Ch.eR s x.i).2=0
    ·rw[if_pos hz,if_pos hz];rfl
    ·have hsp:=Ch.iV hz;rw[if_neg hz,if_neg hz];rw[if_neg (by simp only;omega)];congr 2;simp only;omega
   ·have QC:¬cur s x.i=38:=fun h=>h2 (b38.1 h);rw[if_neg h2];by_cases h0:0<=cur s x.i
    ·have A7:¬(cur s x.i<0\/cur s x.i=60\/cur s x.i=(j6:Int)):=by rintro(h|h);omega;exact h1 h
     rw[if_neg (by rw[rF];simpa using h0),if_neg A7,if_neg QC,D6,if_pos h0];simp
    ·rw[if_pos ((rF _ _).2 h0),if_pos (Or.inl (by omega))];rcases sO h0 with⟨_,h5⟩|⟨h5,_⟩
     ·rw[ig he,h5];unfold Sc.fail;rw[if_pos he];rfl
     ·exact absurd hi h5
 ·rw[if_neg hi,if_pos (Or.inl (by unfold cur;rw[if_neg hi];decide))]
end
section
variable{g:St->List Tok}{s:ByteArray}{i:Nat}{pt j_:Part}{st iJ:St}{no q c:Int}{x y:Sc}
structure Ci(x:Sc)(st:St):Prop where
 told:st.told=x.l
 text:st.run .text=x.more
 from_:x.more≠[]->st.fD .text=x.fV
theorem Ci.same(h:Ci x st)(h1:iJ.told=st.told)(h2:iJ.run .text=st.run .text)(h3:iJ.fD .text=st.fD .text)(h4:y.l=x.l)(h5:y.more=x.more)(h6:y.fV=x.fV):Ci y iJ:=
 ⟨by rw[h1,h4];exact h.told,by rw[h2,h5];exact h.text,by rw[h3,h5,h6];exact h.from_⟩
theorem JX(st:St)(l r:List UInt8)(a b a' b':Int)(l':List UInt8):(((st.eH .value l a).eH .ref r b).eH .value l' b')=(st.eH .ref r b).eH .value l' b':=by
 unfold St.eH;congr 1<;>(funext m;cases m<;>simp)
theorem N4(st:St)(l r r':List UInt8)(a b a' b' c:Int)(l':List UInt8):((((st.eH .ref r' c).eH .value l a).eH .ref r b).eH .value l' b')=(st.eH .ref r b).eH .value l' b':=by
 unfold St.eH;congr 1<;>(funext m;cases m<;>simp)
theorem JY(Q:Nat)(hQ:32<=Q/\Q<128)(hne:Q≠60/\Q≠38):∀(f:Nat) (x:Sc) (t:List UInt8) (st:St),x.err=0->x.i<=s.size->s.size+1<x.i+f->st.told=x.l->st.quote=(Q:Int)->st.run .value=t->
  ((jb s Q f x t).1.err=0/\x.i<=(jb s Q f x t).1.i/\(jb s Q f x t).1.i+1<=s.size/\(jb s Q f x t).1={x with i:=(jb s Q f x t).1.i}/\
   ∃r a b,runs g s x.i (.plain .iW) st=runs g s ((jb s Q f x t).1.i+1) (.plain .part) ((st.eH .ref r a).eH .value (jb s Q f x t).2 b).addAttr)\/
  ((jb s Q f x t).1.err≠0/\(jb s Q f x t).1.l=x.l/\runs g s x.i (.plain .iW) st=(x.l,(jb s Q f x t).1.err,(jb s Q f x t).1.at_)):=by
 intro f;induction f with
 |zero=>intro x t st he hi hf;omega
 |succ f ih=>
  intro x t st he hi hf ht hq hv;have iq:x.is s Q=decide (cur s x.i=(Q:Int)):=D5 he (by omega);simp only[jb,iq];by_cases hc:cur s x.i=(Q:Int)
  ·rw[if_neg (by simp[hc])];have h0:0<=cur s x.i:=by omega
   have hp:=fl h0;have hw:=fP h0 (by omega);have e:d_ (.plain .iW) x.i st (cur s x.i)=⟨st.addAttr,.go (.plain .part)⟩:=by simp only[d_,step];rw[hq,if_pos hc]
   refine Or.inl ⟨he,ah _,by show x.i+1<=_;omega,rfl,st.run .ref,st.fD .ref,st.fD .value,?_⟩;rw[fC e h0,hw,rI];show _=runs g s (x.i+1) _ (st.eH .value t (st.fD .value)).addAttr;rw[<-hv,rI]
  ·rw[if_pos ⟨he,by simp[hc]⟩,rJ he Q (by omega)];by_cases nH:cur s x.i<0\/cur s x.i=60\/cur s x.i=(Q:Int)
   ·rw[if_pos nH];have hnz:=fx x s he;have hval:jb s Q f (x.wrong s) (t++(⟨#[]⟩:ByteArray).data.toList)=(x.wrong s,t):=by
     cases f with
     |zero=>simp[jb]
     |succ f=>simp only[jb];rw[if_neg (fun h=>hnz h.1)];simp
    rw[hval];refine Or.inr ⟨hnz,by rw[ig he],?_⟩;have e:d_ (.plain .iW) x.i st (cur s x.i)=⟨st,.fail (Tk.why (cur s x.i)) x.i⟩:=by simp only[d_,step];rw[hq,if_neg hc,if_neg (by omega),if_pos (by omega)]
    rw[gu e,ig he,ht]
   ·rw[if_neg nH];have h0:0<=cur s x.i:=by omega
    have hp:=fl h0;by_cases oV:cur s x.i=38
    ·rw[if_pos oV];have e:d_ (.plain .iW) x.i st (cur s x.i)=⟨(st.clear .ref).put .ref 38 x.i,.go (.ref .value .iW)⟩:=by simp only[d_,step];rw[hq,if_neg hc,if_pos oV]
     rw[fC e h0,Gy .value .iW x.i st oV];unfold Cg;by_cases hz:(Ch.eR s x.i).2=0
     ·rw[if_pos hz,if_pos hz];have hnz:=lW x 4 x.i he (by decide);have hval:jb s Q f (x.fail 4 x.i) (t++(⟨#[]⟩:ByteArray).data.toList)=(x.fail 4 x.i,t):=by
       cases f with
       |zero=>simp[jb]
       |succ f=>simp only[jb];rw[if_neg (fun h=>hnz h.1)];simp
      rw[hval];refine Or.inr ⟨hnz,?_,?_⟩
      ·unfold Sc.fail;rw[if_pos he]
      ·unfold Sc.fail;rw[if_pos he,ht]
     ·rw[if_neg hz,if_neg hz];have hsp:=Ch.iV hz;have:=ih {x with i:=x.i+(Ch.eR s x.i).2.toNat} (t++Lib.encodeRune (Ch.eR s x.i).1) ((st.eH .ref (Ch.bytes s x.i (Ch.eR s x.i).2.toNat) x.i).put .value (Ch.eR s x.i).1 x.i) he (by show x.i+(Ch.eR s x.i).2.toNat<=_;omega) (by show _<x.i+(Ch.eR s x.i).2.toNat+f;omega) ht hq (by simp[St.put,St.eH,hv]);simp only[]at this ⊢;rcases this with⟨h1,h2,h3,h4,r,a,b,h5⟩|⟨h1,h2,h3⟩
      ·refine Or.inl ⟨h1,by omega,h3,by rw[h4],r,a,b,?_⟩;rw[h5];congr 2;unfold St.put;exact N4 st _ r _ _ a a b _ _
      ·exact Or.inr ⟨h1,h2,h3⟩
    ·rw[if_neg oV];have e:d_ (.plain .iW) x.i st (cur s x.i)=⟨st.put .value (cur s x.i) x.i,.go (.plain .iW)⟩:=by simp only[d_,step];rw[hq,if_neg hc,if_neg oV,if_neg (by omega)]
     rw[fC e h0];have hb:=im s x.i (x.i+wid s x.i);rw[show x.i+wid s x.i-x.i=wid s x.i by omega,<-mU h0]at hb;have:=ih {x with i:=x.i+wid s x.i} (t++(s.extract x.i (x.i+wid s x.i)).data.toList) (st.put .value (cur s x.i) x.i) he (by show x.i+wid s x.i<=_;omega) (by show _<x.i+wid s x.i+f;omega) ht hq (by rw[hb];simp[St.put,St.eH,hv]);simp only[]at this ⊢;rcases this with⟨h1,h2,h3,h4,r,a,b,h5⟩|⟨h1,h2,h3⟩
     ·refine Or.inl ⟨h1,by omega,h3,by rw[h4],r,a,b,?_⟩;rw[h5];congr 2;unfold St.put;exact JX st _ r _ a a b _
     ·exact Or.inr ⟨h1,h2,h3⟩
end
section
variable{g:St->List Tok}{s:ByteArray}{i:Nat}{pt j_:Part}{st iJ:St}{no q c:Int}{x y:Sc}
abbrev jY:=List (List UInt8×List UInt8)
def Sc.gW(x:Sc)(s:ByteArray)(l:jY):Sc:=if l.any (fun a=>a.1==(x.name s).2.data.toList)=true then(x.name s).1.fail 5 x.i else(x.name s).1
def Sc.equal(x:Sc)(s:ByteArray)(l:jY):Sc:=(Sc.eW s [61] ((x.gW s l).eY s)).eY s
def Sc.attr(x:Sc)(s:ByteArray)(l:jY):Sc×(List UInt8×List UInt8):=
 if(x.equal s l).err=0 then(((x.equal s l).value s).1,((x.name s).2.data.toList,((x.equal s l).value s).2))else(x.equal s l,((x.name s).2.data.toList,[]))
def fe(s:ByteArray):Nat->Sc->jY->Sc×jY
 |0,x,l=>(x,l)
 |f+1,x,l=>if x.skip s=0\/(x.eY s).err≠0\/(x.eY s).is s 47=true\/(x.eY s).is s 62=true then(x.eY s,l)else fe s f ((x.eY s).attr s l).1 (l++[((x.eY s).attr s l).2])
def Sc.b_(x:Sc)(s:ByteArray):Sc×jY:=fe s (s.size+2) x []
theorem kx(he:x.err≠0)(f:Nat)(l:jY):fe s f x l=(x,l):=by
 cases f with
 |zero=>rfl
 |succ f=>simp only[fe];rw[ku he,if_pos (Or.inr (Or.inl he))]
structure Cj(x:Sc)(st:St)(l:jY)(nm:List UInt8)(tg:Int):Prop where
 tag:Ci x st
 b_:st.b_=l
 names:st.names=l.map Prod.fst
 value:st.run .value=[]
 name:st.run .name=nm
 at_:st.gD=tg
theorem N5(l:jY)(n:List UInt8):(l.map Prod.fst).contains n=l.any (fun a=>a.1==n):=by
 induction l with
 |nil=>rfl
 |cons a l ih=>
  simp only[bB,List.contains_cons,dR,ih];congr 1;rw[bL,bA,bA];exact eq_comm
theorem N6(st:St)(i:Int)(c:Int)(h:Tk.blank c=true):d_ (.plain .rz) i st c=⟨st,.go (.plain .rz)⟩:=by simp only[d_,step,kq];rw[if_pos h]
theorem JZ(st:St)(i:Int)(c:Int)(h:Tk.blank c=true):d_ (.plain .lU) i st c=⟨st,.go (.plain .lU)⟩:=by simp only[d_,step];rw[if_pos h]
theorem D9{c:Int}(h:Tk.blank c=true):¬Ch.fw c=true:=by
 have:=zP h;rw[Ch.fT];omega
theorem J0(st:St)(i:Int)(c:Int)(h:Tk.blank c=true):d_ (.plain .eY) i st c=⟨st,.go (.plain .eY)⟩:=by simp only[d_,step,jS];rw[if_neg (D9 h),if_pos h]
theorem Gz(st:St)(i:Int)(c:Int)(h:Tk.blank c=true):d_ (.plain .closing) i st c=⟨st,.go (.plain .closing)⟩:=by simp only[d_,step];rw[if_pos h]
theorem lY(he:x.err=0)(hb:Ch.fw (cur s x.i)=true):(x.name s).1={x with i:=jK s x.i}/\(x.name s).2.data.toList=Ch.bytes s x.i (jK s x.i-x.i):=by
 obtain⟨h1,h2⟩:=rH (s:=s) hb;unfold Sc.name;rw[if_pos he,if_neg (by omega),h1];refine⟨by simp only[Sc.mk.injEq,and_true];omega,?_⟩;simp only;rw[im];congr 1;omega
theorem o0(he:x.err=0)(hb:¬Ch.fw (cur s x.i)=true):x.name s=(x.wrong s,⟨#[]⟩):=by unfold Sc.name;rw[if_pos he,if_pos (Wy hb)]
theorem uB(j:Rn)(k:Pl)(p:Nat)(st:St)(hb:Ch.fw (cur s p)=true):runs g s (p+wid s p) (.name j k) ((st.clear j).put j (cur s p) p)=runs g s (jK s p) (.plain k) (st.eH j (Ch.bytes s p (jK s p-p)) p):=by
 have h0:0<=cur s p:=by have:=(Ch.fT _).1 hb;omega
 have hc:=fl h0;have hn:yj (cur s p)=true:=by unfold yj;rw[hb];rfl
 have hg:=sQ s (p+wid s p);have e:(st.clear j).put j (cur s p) p=st.eH j (Ch.bytes s p (wid s p)) p:=by
  unfold St.put St.clear;rw[kK];simp only[St.eH,if_true];rw[mU h0];simp
 rw[e,Ce _ _ _ _ (by simp only[St.eH,if_true];exact vH s (by omega) hc.2.2.2.1),kK,ld hn];simp only[St.eH,if_true];rw[pP,show wid s p+(jK s (p+wid s p)-(p+wid s p))=jK s (p+wid s p)-p by omega]
theorem rK(he:x.err=0){c:UInt8}(hc:32<=c.toNat/\c.toNat<128):Sc.eW s [c] x=if cur s x.i=(c.toNat:Int)then{x with i:=x.i+1}else x.wrong s:=by
 simp only[Sc.eW];rw[if_pos he];by_cases h:cur s x.i=(c.toNat:Int)
 ·rw[if_pos ((jT he (by omega)).2 h),if_pos h]
 ·have:¬x.is s c.toNat=true:=fun e=>h ((jT he (by omega)).1 e);rw[if_neg this,if_neg h]
theorem o6(he:x.err=0):x.value s=if cur s x.i=34\/cur s x.i=39 then
  ({ (jb s (cur s x.i).toNat (s.size+2) {x with i:=x.i+1} []).1 with i:=(jb s (cur s x.i).toNat (s.size+2) {x with i:=x.i+1} []).1.i+1},(jb s (cur s x.i).toNat (s.size+2) {x with i:=x.i+1} []).2)else(x.wrong s,[]):=by
 have i34:x.is s 34=true↔cur s x.i=34:=jT he (by omega);have i39:x.is s 39=true↔cur s x.i=39:=jT he (by omega);unfold Sc.value;by_cases h:cur s x.i=34\/cur s x.i=39
 ·have hb:(s.get! x.i).toNat=(cur s x.i).toNat:=by
   rcases h with h|h
   ·have:=((kr (s:=s) (i:=x.i) (c:=34) (by omega)).1 h).2;rw[h,this];rfl
   ·have:=((kr (s:=s) (i:=x.i) (c:=39) (by omega)).1 h).2;rw[h,this];rfl
  rw[if_pos h,if_pos (h.imp i34.2 i39.2),hb]
 ·rw[if_neg h,if_neg (fun e=>h (e.imp i34.1 i39.1))]
theorem wV{l:jY}{nm:List UInt8}{tg:Int}(he:x.err=0)(hi:x.i<=s.size)(hA:Cj x st l nm tg)(hbl:¬Tk.blank (cur s x.i)=true)(ww:¬cur s x.i=47)(AW:¬cur s x.i=62):
  ((x.attr s l).1.err=0/\x.i<(x.attr s l).1.i/\(x.attr s l).1.i<=s.size/\(x.attr s l).1={x with i:=(x.attr s l).1.i}/\∃iJ,Cj (x.attr s l).1 iJ (l++[(x.attr s l).2]) nm tg/\runs g s x.i (.plain .eY) st=runs g s (x.attr s l).1.i (.plain .part) iJ)\/
  ((x.attr s l).1.err≠0/\(x.attr s l).1.l=x.l/\runs g s x.i (.plain .eY) st=(x.l,(x.attr s l).1.err,(x.attr s l).1.at_)):=by
 by_cases hb:Ch.fw (cur s x.i)=true
 ·obtain⟨x9,tK⟩:=lY he hb;have h0:0<=cur s x.i:=by have:=(Ch.fT _).1 hb;omega
  have hlt:=(rH (s:=s) hb).2;have hle:=oZ hi;generalize hE:jK s x.i=E at*
  generalize hN:Ch.bytes s x.i (E-x.i)=N at*
  have e1:d_ (.plain .eY) x.i st (cur s x.i)=⟨(st.clear .attr).put .attr (cur s x.i) x.i,.go (.name .attr .jR)⟩:=by simp only[d_,step,gh];rw[if_pos hb,if_pos hb]
  rw[fC e1 h0,uB .attr .jR x.i st hb,hE,hN];have hc:st.names.contains N=l.any (fun a=>a.1==N):=by rw[hA.names,N5]
  by_cases ht:l.any (fun a=>a.1==N)=true
  ·have IV:x.gW s l={x with i:=E,err:=5,at_:=x.i}:=by unfold Sc.gW;rw[tK,if_pos ht,x9];unfold Sc.fail;rw[if_pos he]
   have h5:(x.gW s l).err≠0:=by rw[IV];simp
   have heq:x.equal s l=x.gW s l:=by unfold Sc.equal;rw[ku h5,je s _ h5,ku h5]
   have hat:x.attr s l=(x.gW s l,(N,[])):=by unfold Sc.attr;rw[heq,if_neg h5,tK]
   rw[hat];refine Or.inr ⟨h5,by rw[IV],?_⟩;have e2:d_ (.plain .jR) E (st.eH .attr N x.i) (cur s E)=⟨st.eH .attr N x.i,.fail 5 x.i⟩:=by
    simp only[d_,step];rw[if_pos (by simpa [St.eH]using hc.trans ht)];simp[St.eH]
   rw[gu e2,IV,<-hA.tag.told];rfl
  ·have IV:x.gW s l={x with i:=E}:=by unfold Sc.gW;rw[tK,if_neg ht,x9]
   have he1:(x.gW s l).err=0:=by rw[IV];exact he
   generalize tG:({st.eH .attr N x.i with names:=st.names++[N]}:St)=rD;have e2:runs g s E (.plain .jR) (st.eH .attr N x.i)=runs g s E (.plain .rz) rD:=by
    refine n_ ?_ (by rw[<-tG]) (fun⟨o,h⟩=>by cases uz h);simp only[d_,step];rw[if_neg (by simpa [St.eH]using fun h=>ht (hc.symm.trans h)),<-tG];simp[St.eH]
   rw[e2,rG (N6 rD)];have Dt:=zQ hle;have abj:=qi s E;generalize hE1:E+gap s E=E1 at*
   have jI:(x.gW s l).eY s={x with i:=E1}:=by rw[lx he1,IV];simp only;rw[hE1]
   have N7:=rK (s:=s) (x:={x with i:=E1}) he (c:=61) (by decide);by_cases h61:cur s E1=61
   ·have hw1:=fP (s:=s) (i:=E1) (by omega) (by omega);have X9:=fl (s:=s) (i:=E1) (by omega);have e3:d_ (.plain .rz) E1 rD (cur s E1)=⟨rD,.go (.plain .lU)⟩:=by simp only[d_,step,kq];rw[if_neg abj,if_pos h61]
    rw[fC e3 (by omega),hw1,rG (JZ rD)];have hg2:=zQ (s:=s) (i:=E1+1) (by omega);have abk:=qi s (E1+1);generalize hE2:E1+1+gap s (E1+1)=E2 at*
    have ZV:Sc.eW s [61] {x with i:=E1}={x with i:=E1+1}:=by rw[N7];exact if_pos h61
    have heq:x.equal s l={x with i:=E2}:=by unfold Sc.equal;rw[jI,ZV,lx (x:={x with i:=E1+1}) he];simp only;rw[hE2]
    have hvc:=o6 (s:=s) (x:={x with i:=E2}) he;simp only at hvc;have hat:x.attr s l=((Sc.value {x with i:=E2} s).1,(N,(Sc.value {x with i:=E2} s).2)):=by unfold Sc.attr;rw[heq,if_pos he,tK]
    by_cases hq:cur s E2=34\/cur s E2=39
    ·have hw2:=fP (s:=s) (i:=E2) (by omega) (by omega);have hp2:=fl (s:=s) (i:=E2) (by omega);have e4:d_ (.plain .lU) E2 rD (cur s E2)=⟨{rD with quote:=cur s E2},.go (.plain .iW)⟩:=by simp only[d_,step];rw[if_neg abk,if_pos hq]
     rw[if_pos hq]at hvc;rw[fC e4 (by omega),hw2];have acJ:({rD with quote:=cur s E2}:St).run .value=[]:=by rw[<-tG];simpa [St.eH]using hA.value
     have abl:({rD with quote:=cur s E2}:St).told=x.l:=by rw[<-tG];exact hA.tag.told
     have hval:=JY (g:=g) (s:=s) (cur s E2).toNat (by omega) (by omega) (s.size+2) {x with i:=E2+1} [] {rD with quote:=cur s E2} he (by show E2+1<=_;omega) (by show _<E2+1+_;omega) abl (by simp only;omega) acJ;simp only at hval;rw[hat,hvc];generalize hvf:jb s (cur s E2).toNat (s.size+2) {x with i:=E2+1} []=V at*
     rcases hval with⟨v1,v2,v3,v4,r,a,b,v5⟩|⟨v1,v2,v3⟩
     ·refine Or.inl ⟨v1,by show x.i<V.1.i+1;omega,v3,by simp only;rw[v4],_,?_,v5⟩;constructor
      ·refine hA.tag.same ?_ ?_ ?_ ?_ ?_ ?_
       ·rw[<-tG];rfl
       ·rw[<-tG];simp[St.addAttr,St.clear,St.eH]
       ·rw[<-tG];simp[St.addAttr,St.clear,St.eH]
       ·simp only;rw[v4]
       ·simp only;rw[v4]
       ·simp only;rw[v4]
      ·rw[<-tG];simp[St.addAttr,St.clear,St.eH,hA.b_]
      ·rw[<-tG];simp[St.addAttr,St.clear,St.eH,hA.names]
      ·simp[St.addAttr,St.clear,St.eH]
      ·rw[<-tG];simpa [St.addAttr,St.clear,St.eH]using hA.name
      ·rw[<-tG];exact hA.at_
     ·exact Or.inr ⟨v1,v2,v3⟩
    ·rw[if_neg hq]at hvc;rw[hat,hvc,ig (x:={x with i:=E2}) he];refine Or.inr ⟨?_,rfl,?_⟩
     ·show Tk.why _≠0;unfold Tk.why;split<;>omega
     ·have e4:d_ (.plain .lU) E2 rD (cur s E2)=⟨rD,.fail (Tk.why (cur s E2)) E2⟩:=by simp only[d_,step];rw[if_neg abk,if_neg hq]
      rw[gu e4,<-tG];simp only;rw[show (st.eH .attr N x.i).told=x.l from hA.tag.told]
   ·have ZV:Sc.eW s [61] {x with i:=E1}=Sc.wrong {x with i:=E1} s:=by rw[N7];exact if_neg h61
    have nZ:=fx {x with i:=E1} s he;have heq:x.equal s l=Sc.wrong {x with i:=E1} s:=by unfold Sc.equal;rw[jI,ZV,ku nZ]
    have hat:x.attr s l=(Sc.wrong {x with i:=E1} s,(N,[])):=by unfold Sc.attr;rw[heq,if_neg nZ,tK]
    rw[hat,ig (x:={x with i:=E1}) he];refine Or.inr ⟨?_,rfl,?_⟩
    ·show Tk.why _≠0;unfold Tk.why;split<;>omega
    ·have e3:d_ (.plain .rz) E1 rD (cur s E1)=⟨rD,.fail (Tk.why (cur s E1)) E1⟩:=by simp only[d_,step,kq];rw[if_neg abj,if_neg h61]
     rw[gu e3,<-tG];simp only;rw[show (st.eH .attr N x.i).told=x.l from hA.tag.told]
 ·have hn:=o0 (s:=s) he hb;have nZ:=fx x s he;have IV:x.gW s l=x.wrong s:=by
   unfold Sc.gW;rw[hn];simp only;split
   ·unfold Sc.fail;rw[if_neg nZ]
   ·rfl
  have heq:x.equal s l=x.wrong s:=by unfold Sc.equal;rw[IV,ku nZ,je s _ nZ,ku nZ]
  have hat:(x.attr s l).1=x.wrong s:=by unfold Sc.attr;rw[heq,if_neg nZ]
  rw[hat];refine Or.inr ⟨nZ,by rw[ig he],?_⟩;have e:d_ (.plain .eY) x.i st (cur s x.i)=⟨st,.fail (Tk.why (cur s x.i)) x.i⟩:=by simp only[d_,step,jS];rw[if_neg hb,if_neg hbl,if_neg ww,if_neg AW]
  rw[gu e,ig he,hA.tag.told]
end
section
variable{g:St->List Tok}{s:ByteArray}{i:Nat}{pt j_:Part}{st iJ:St}{no q c:Int}{x y:Sc}
theorem zW{nm:List UInt8}{tg:Int}:∀(f:Nat) (x:Sc) (l:jY) (st:St),x.err=0->x.i<=s.size->s.size+1<x.i+f->Cj x st l nm tg->
  ((fe s f x l).1.err=0/\x.i<=(fe s f x l).1.i/\(fe s f x l).1.i<=s.size/\(fe s f x l).1={x with i:=(fe s f x l).1.i}/\¬Tk.blank (cur s (fe s f x l).1.i)=true/\∃iJ,Cj (fe s f x l).1 iJ (fe s f x l).2 nm tg/\runs g s x.i (.plain .part) st=runs g s (fe s f x l).1.i (.plain .part) iJ)\/
  ((fe s f x l).1.err≠0/\(fe s f x l).1.l=x.l/\runs g s x.i (.plain .part) st=(x.l,(fe s f x l).1.err,(fe s f x l).1.at_)):=by
 intro f;induction f with
 |zero=>intro x l st he hi hf;omega
 |succ f ih=>
  intro x l st he hi hf hA;simp only[fe];rw[lx he,Gq he];have hg:=zQ hi;have yy:=qi s x.i;by_cases h0:gap s x.i=0
  ·rw[if_pos (Or.inl h0)];rw[h0]at yy;simp only[h0,bH]at yy ⊢;exact Or.inl ⟨he,ah _,hi,trivial,yy,st,hA,rfl⟩
  ·have hb:Tk.blank (cur s x.i)=true:=by
    by_cases hb:Tk.blank (cur s x.i)=true
    ·exact hb
    ·exact absurd (D7 hb) h0
   have hv:=zP hb;have hw:=fP (s:=s) (i:=x.i) (by omega) (by omega);have e1:d_ (.plain .part) x.i st (cur s x.i)=⟨st,.go (.plain .eY)⟩:=by simp only[d_,step,jS];rw[if_pos hb]
   have hrun:runs g s x.i (.plain .part) st=runs g s (x.i+gap s x.i) (.plain .eY) st:=by
    rw[fC e1 (by omega),hw,rG (J0 st),yB hb];congr 1;omega
   have i47:=D5 (s:=s) (x:={x with i:=x.i+gap s x.i}) he (c:=47) (by omega);have i62:=D5 (s:=s) (x:={x with i:=x.i+gap s x.i}) he (c:=62) (by omega);simp only at i47 i62;rw[i47,i62,hrun];generalize hp:x.i+gap s x.i=p at*
   by_cases hs:cur s p=47\/cur s p=62
   ·rw[if_pos (Or.inr (Or.inr (by simpa using hs)))];refine Or.inl ⟨he,by show x.i<=p;omega,hg,rfl,yy,st,?_,?_⟩
    ·exact⟨⟨hA.tag.told,hA.tag.text,hA.tag.from_⟩,hA.b_,hA.names,hA.value,hA.name,hA.at_⟩
    ·refine n_ ?_ rfl (fun _=>rfl);have hnb:¬Ch.fw (cur s p)=true:=by rw[Ch.fT];omega
     simp only[d_,step];rw[if_neg hnb]
   ·rw[if_neg (by simp only[ba];rintro(h|h|h|h);exact h0 h;exact h he;exact hs (Or.inl h);exact hs (Or.inr h))];have WB:Cj {x with i:=p} st l nm tg:=⟨⟨hA.tag.told,hA.tag.text,hA.tag.from_⟩,hA.b_,hA.names,hA.value,hA.name,hA.at_⟩
    have abm:=wV (g:=g) (s:=s) (x:={x with i:=p}) (l:=l) he hg WB yy (fun h=>hs (Or.inl h)) (fun h=>hs (Or.inr h));simp only at abm;generalize Sc.attr {x with i:=p} s l=A at*
    rcases abm with⟨a1,a2,a3,a4,iJ,a5,a6⟩|⟨a1,a2,a3⟩
    ·rw[a6];have hih:=ih A.1 (l++[A.2]) iJ a1 a3 (by omega) a5;generalize fe s f A.1 (l++[A.2])=B at*
     have hl:A.1.l=x.l:=by rw[a4]
     rcases hih with⟨b1,b2,b3,b4,b5,acK,b6,b7⟩|⟨b1,b2,b3⟩
     ·refine Or.inl ⟨b1,by omega,b3,?_,b5,acK,b6,b7⟩;rw[b4,a4]
     ·exact Or.inr ⟨b1,by rw[b2,hl],by rw[b3,hl]⟩
    ·rw[kx a1];exact Or.inr ⟨a1,a2,a3⟩
structure Rel(x:Sc)(st:St):Prop where
 tag:Ci x st
 b_:st.b_=[]
 names:st.names=[]
 value:st.run .value=[]
theorem ql(st:St)(j:Rn)(h:j≠ .text):st.eK.run j=st.run j:=by
 unfold St.eK;split
 ·rfl
 ·simp[St.clear,St.eH,h]
theorem ua(st:St):st.eK.run .text=[]:=by
 unfold St.eK;split
 ·rename_i h;simpa using h
 ·simp[St.clear,St.eH]
theorem qJ(st:St):st.eK.b_=st.b_/\st.eK.names=st.names/\st.eK.quote=st.quote/\st.eK.gD=st.gD:=by unfold St.eK;split<;>exact⟨rfl,rfl,rfl,rfl⟩
theorem qm(h:Ci x st):st.eK.told=if x.more=[]then x.l else x.l++[gU x]:=by
 unfold St.eK;rw[h.text];by_cases hm:x.more=[]
 ·rw[if_pos (by simp[hm]),if_pos hm];exact h.told
 ·rw[if_neg (by simpa using hm),if_neg hm];show st.told++[_]=_;rw[h.told];have:=h.from_ hm;simp only[gU,this]
theorem D_(he:x.err=0)(t:Tok):x.told t={x with l:=(if x.more=[]then x.l else x.l++[gU x])++[t],more:=[]}:=by
 unfold Sc.told;rw[if_neg (by simpa using he)];congr 1;split<;>simp
theorem Ck{l:jY}{nm:List UInt8}{tg:Int}(he:x.err=0)(h:Cj x st l nm tg):Cj (x.told ⟨1,nm,l,[],tg⟩) st.fo [] nm tg:=by
 have hf:=qJ st;rw[D_ he];refine⟨⟨?_,?_,fun e=>absurd rfl e⟩,rfl,rfl,?_,?_,?_⟩
 ·show st.eK.told++[_]=_;rw[qm h.tag,h.name,h.b_,h.at_]
 ·exact ua st
 ·show st.eK.run .value=[];rw[ql _ _ (by decide)];exact h.value
 ·show st.eK.run .name=nm;rw[ql _ _ (by decide)];exact h.name
 ·show st.eK.gD=tg;rw[hf.2.2.2];exact h.at_
theorem zX{nm:List UInt8}{tg:Int}(he:x.err=0)(h:Cj x st [] nm tg):Rel (x.told ⟨2,nm,[],[],tg⟩) st.gv:=by
 have hf:=qJ st;rw[D_ he];refine⟨⟨?_,?_,fun e=>absurd rfl e⟩,?_,?_,?_⟩
 ·show st.eK.told++[_]=_;rw[qm h.tag,h.name,h.at_]
 ·exact ua st
 ·show st.eK.b_=[];rw[hf.1];exact h.b_
 ·show st.eK.names=[];rw[hf.2.1,h.names];rfl
 ·show st.eK.run .value=[];rw[ql _ _ (by decide)];exact h.value
theorem Cj.rel{nm:List UInt8}{tg:Int}(h:Cj x st [] nm tg):Rel x st:=⟨h.tag,h.b_,by rw[h.names];rfl,h.value⟩
theorem Rel.at(h:Rel x st)(j:Nat):Rel {x with i:=j} st:=⟨⟨h.tag.told,h.tag.text,h.tag.from_⟩,h.b_,h.names,h.value⟩
def Sc.jh(x:Sc)(s:ByteArray)(nm:List UInt8)(l:jY)(tg:Int):Sc:=
 if x.is s 47=true then((Sc.eW s [62] {x with i:=x.i+1}).told ⟨1,nm,l,[],tg⟩).told ⟨2,nm,[],[],tg⟩else(Sc.eW s [62] x).told ⟨1,nm,l,[],tg⟩
def Sc.j9(x:Sc)(s:ByteArray)(tg:Int):Sc:=((x.name s).1.b_ s).1.jh s (x.name s).2.data.toList ((x.name s).1.b_ s).2 tg
def Sc.ji(x:Sc)(s:ByteArray)(tg:Int):Sc:=(Sc.eW s [62] ((x.name s).1.eY s)).told ⟨2,(x.name s).2.data.toList,[],[],tg⟩
def Sc.order(x:Sc)(s:ByteArray):Sc:=((x.name s).1.until s ⟨#[63,62]⟩).1
def Sc.remark(x:Sc)(s:ByteArray):Sc:=Sc.eW s [62] ((Sc.eW s [45,45] x).until s ⟨#[45,45]⟩).1
def Sc.qK(x:Sc)(s:ByteArray):Sc:=
 if((Sc.eW s [91,67,68,65,84,65,91] x).until s ⟨#[93,93,62]⟩).1.err=0/\((Sc.eW s [91,67,68,65,84,65,91] x).until s ⟨#[93,93,62]⟩).2.data.toList≠[]
 then((Sc.eW s [91,67,68,65,84,65,91] x).until s ⟨#[93,93,62]⟩).1.ic ((Sc.eW s [91,67,68,65,84,65,91] x).until s ⟨#[93,93,62]⟩).2 (Sc.eW s [91,67,68,65,84,65,91] x).i
 else((Sc.eW s [91,67,68,65,84,65,91] x).until s ⟨#[93,93,62]⟩).1
def Sc.oT(x:Sc)(s:ByteArray):Sc:=if x.is s 91=true then x.qK s else x.remark s
def Sc.behind(x:Sc)(s:ByteArray)(tg:Int):Sc:=
 if x.is s 33=true then Sc.oT {x with i:=x.i+1} s
 else if x.is s 63=true then Sc.order {x with i:=x.i+1} s
 else if x.is s 47=true then Sc.ji {x with i:=x.i+1} s tg
 else x.j9 s tg
def Sc.ly(x:Sc)(s:ByteArray):Sc:=Sc.behind {x with i:=x.i+1} s x.i
def Grown(x y:Sc):Prop:=y.at_=x.at_/\y.more.length+x.i<=x.more.length+y.i/\y.l.length<=x.l.length+3
def Done(g:St->List Tok)(s:ByteArray)(x y:Sc)(A:List Tok×Int×Int):Prop:=
 (y.err=0/\x.i<y.i/\y.i<=s.size/\Grown x y/\∃iJ,Rel y iJ/\A=runs g s y.i (.plain .between) iJ)\/(y.err≠0/\y.l=x.l/\A=(x.l,y.err,y.at_))
theorem kM(he:x.err≠0)(t:Tok):x.told t=x:=by unfold Sc.told;rw[if_pos he]
theorem jC(x:Sc)(t:Tok):(x.told t).i=x.i:=by unfold Sc.told;split<;>rfl
theorem wW(x:Sc)(t:Tok):(x.told t).more.length<=x.more.length:=by unfold Sc.told;split<;>simp
theorem told_none(x:Sc)(he:x.err=0)(t:Tok):(x.told t).more=[]:=by unfold Sc.told;rw[if_neg (by simpa using he)]
theorem vK(x:Sc)(t:Tok):(x.told t).l.length<=x.l.length+2:=by
 unfold Sc.told;split
 ·omega
 ·simp only[ae];split<;>simp
theorem N8(x:Sc)(t:Tok)(h:x.more=[]):(x.told t).l.length<=x.l.length+1:=by
 unfold Sc.told;split
 ·omega
 ·simp[ae,h]
theorem Ea(x:Sc)(t:Tok):(x.told t).at_=x.at_:=by unfold Sc.told;split<;>rfl
theorem pk(x:Sc)(t:Tok):(x.told t).err=x.err:=by unfold Sc.told;split<;>rfl
theorem J1{nm:List UInt8}{tg:Int}(he:x.err=0)(hi:x.i<=s.size)(hA:Cj x st [] nm tg):Done g s x ((Sc.eW s [62] (x.eY s)).told ⟨2,nm,[],[],tg⟩) (runs g s x.i (.plain .closing) st):=by
 rw[rG (Gz st),lx he];have hg:=zQ hi;have yy:=qi s x.i;generalize hp:x.i+gap s x.i=p at*
 have hm:=rK (s:=s) (x:={x with i:=p}) he (c:=62) (by decide);by_cases AW:cur s p=62
 ·have tD:Sc.eW s [62] {x with i:=p}={x with i:=p+1}:=by rw[hm];exact if_pos AW
  rw[tD];have hw:=fP (s:=s) (i:=p) (by omega) (by omega);have hc:=fl (s:=s) (i:=p) (by omega);have e:d_ (.plain .closing) p st (cur s p)=⟨st.gv,.go (.plain .between)⟩:=by simp only[d_,step];rw[if_neg yy,if_pos AW]
  have WB:Cj {x with i:=p+1} st [] nm tg:=⟨⟨hA.tag.told,hA.tag.text,hA.tag.from_⟩,hA.b_,hA.names,hA.value,hA.name,hA.at_⟩
  refine Or.inl ⟨by rw[pk];exact he,by rw[jC];show x.i<p+1;omega,by rw[jC];show p+1<=_;omega,?_,_,zX (x:={x with i:=p+1}) he WB,?_⟩
  ·have t1:=wW {x with i:=p+1} ⟨2,nm,[],[],tg⟩;have t2:=vK {x with i:=p+1} ⟨2,nm,[],[],tg⟩;simp only at t1 t2;refine⟨by rw[Ea],?_,by omega⟩;rw[jC];simp only;omega
  rw[fC e (by omega),hw,jC]
 ·have tD:Sc.eW s [62] {x with i:=p}=Sc.wrong {x with i:=p} s:=by rw[hm];exact if_neg AW
  have nZ:=fx {x with i:=p} s he;rw[tD,kM nZ];have e:d_ (.plain .closing) p st (cur s p)=⟨st,.fail (Tk.why (cur s p)) p⟩:=by simp only[d_,step];rw[if_neg yy,if_neg AW]
  refine Or.inr ⟨nZ,by rw[ig (x:={x with i:=p}) he],?_⟩;rw[gu e,ig (x:={x with i:=p}) he,hA.tag.told]
theorem N9{nm:List UInt8}{l:jY}{tg:Int}(he:x.err=0)(hi:x.i<=s.size)(hA:Cj x st l nm tg)(hbl:¬Tk.blank (cur s x.i)=true):Done g s x (x.jh s nm l tg) (runs g s x.i (.plain .part) st):=by
 unfold Sc.jh;have i47:x.is s 47=true↔cur s x.i=47:=jT he (by omega);by_cases ww:cur s x.i=47
 ·rw[if_pos (i47.2 ww)];have hw:=fP (s:=s) (i:=x.i) (by omega) (by omega);have hc:=fl (s:=s) (i:=x.i) (by omega);have e:d_ (.plain .part) x.i st (cur s x.i)=⟨st,.go (.plain .jL)⟩:=by simp only[d_,step,jS];rw[if_neg hbl,if_pos ww]
  rw[fC e (by omega),hw];have hm:=rK (s:=s) (x:={x with i:=x.i+1}) he (c:=62) (by decide);by_cases AW:cur s (x.i+1)=62
  ·have tD:Sc.eW s [62] {x with i:=x.i+1}={x with i:=x.i+1+1}:=by rw[hm];exact if_pos AW
   have hw2:=fP (s:=s) (i:=x.i+1) (by omega) (by omega);have hc2:=fl (s:=s) (i:=x.i+1) (by omega);have e2:d_ (.plain .jL) ((x.i+1:Nat):Int) st (cur s (x.i+1))=⟨st.fo.gv,.go (.plain .between)⟩:=by simp only[d_,step];rw[if_pos AW]
   rw[tD,fC e2 (by omega),hw2];have WB:Cj {x with i:=x.i+1+1} st l nm tg:=⟨⟨hA.tag.told,hA.tag.text,hA.tag.from_⟩,hA.b_,hA.names,hA.value,hA.name,hA.at_⟩
   have h1:=Ck (x:={x with i:=x.i+1+1}) he WB;refine Or.inl ⟨by rw[pk,pk];exact he,by rw[jC,jC];show x.i<x.i+1+1;omega,by rw[jC,jC];show x.i+1+1<=_;omega,?_,_,zX (by rw[pk];exact he) h1,?_⟩
   ·have t1:=told_none {x with i:=x.i+1+1} he ⟨1,nm,l,[],tg⟩;have t2:=vK {x with i:=x.i+1+1} ⟨1,nm,l,[],tg⟩;have t3:=N8 _ ⟨2,nm,[],[],tg⟩ t1;have t4:=wW (Sc.told {x with i:=x.i+1+1} ⟨1,nm,l,[],tg⟩) ⟨2,nm,[],[],tg⟩;rw[t1]at t4;simp only at t2 t3 t4;refine⟨by rw[Ea,Ea],?_,by omega⟩;rw[jC,jC];simp only[aq]at t4 ⊢;omega
   rw[jC,jC]
  ·have tD:Sc.eW s [62] {x with i:=x.i+1}=Sc.wrong {x with i:=x.i+1} s:=by rw[hm];exact if_neg AW
   have nZ:=fx {x with i:=x.i+1} s he;rw[tD,kM nZ,kM nZ];have e2:d_ (.plain .jL) ((x.i+1:Nat):Int) st (cur s (x.i+1))=⟨st,.fail (Tk.why (cur s (x.i+1))) ((x.i+1:Nat):Int)⟩:=by simp only[d_,step];rw[if_neg AW]
   refine Or.inr ⟨nZ,by rw[ig (x:={x with i:=x.i+1}) he],?_⟩;rw[gu e2,ig (x:={x with i:=x.i+1}) he,hA.tag.told]
 ·rw[if_neg (fun h=>ww (i47.1 h))];have hm:=rK (s:=s) (x:=x) he (c:=62) (by decide);by_cases AW:cur s x.i=62
  ·have tD:Sc.eW s [62] x={x with i:=x.i+1}:=by rw[hm];exact if_pos AW
   have hw:=fP (s:=s) (i:=x.i) (by omega) (by omega);have hc:=fl (s:=s) (i:=x.i) (by omega);have e:d_ (.plain .part) x.i st (cur s x.i)=⟨st.fo,.go (.plain .between)⟩:=by simp only[d_,step,jS];rw[if_neg hbl,if_neg ww,if_pos AW]
   rw[tD,fC e (by omega),hw];have WB:Cj {x with i:=x.i+1} st l nm tg:=⟨⟨hA.tag.told,hA.tag.text,hA.tag.from_⟩,hA.b_,hA.names,hA.value,hA.name,hA.at_⟩
   refine Or.inl ⟨by rw[pk];exact he,by rw[jC];show x.i<x.i+1;omega,by rw[jC];show x.i+1<=_;omega,?_,_,(Ck (x:={x with i:=x.i+1}) he WB).rel,?_⟩
   ·have t1:=wW {x with i:=x.i+1} ⟨1,nm,l,[],tg⟩;have t2:=vK {x with i:=x.i+1} ⟨1,nm,l,[],tg⟩;simp only at t1 t2;refine⟨by rw[Ea],?_,by omega⟩;rw[jC];simp only;omega
   rw[jC]
  ·have tD:Sc.eW s [62] x=Sc.wrong x s:=by rw[hm];exact if_neg AW
   have nZ:=fx x s he;rw[tD,kM nZ];have e:d_ (.plain .part) x.i st (cur s x.i)=⟨st,.fail (Tk.why (cur s x.i)) x.i⟩:=by simp only[d_,step,jS];rw[if_neg hbl,if_neg ww,if_neg AW]
   refine Or.inr ⟨nZ,by rw[ig he],?_⟩;rw[gu e,ig he,hA.tag.told]
end
section
variable{g:St->List Tok}{s:ByteArray}{i:Nat}{pt j_:Part}{st iJ:St}{no q c:Int}{x y:Sc}
theorem Done.on{A:List Tok×Int×Int}{j:Nat}(h:Done g s {x with i:=j} y A)(hj:x.i<=j):Done g s x y A:=by
 rcases h with⟨h1,h2,h3,h4⟩|⟨h1,h2,h3⟩
 ·have QC:j<y.i:=h2;exact Or.inl ⟨h1,by omega,h3,⟨h4.1.1,by have:=h4.1.2.1;simp only at this;omega,h4.1.2.2⟩,h4.2⟩
 ·exact Or.inr ⟨h1,h2,h3⟩
theorem zY(h1:y.at_=x.at_)(h2:y.more=x.more)(h3:y.l=x.l)(h4:x.i<=y.i):Grown x y:=⟨h1,by rw[h2];omega,by rw[h3];omega⟩
theorem Done.wrong(he:x.err=0){A:List Tok×Int×Int}(h:A=(x.l,Tk.why (cur s x.i),(x.i:Int))):Done g s x (x.wrong s) A:=by
 rw[ig he];refine Or.inr ⟨?_,rfl,h⟩;show Tk.why _≠0;unfold Tk.why;split<;>omega
theorem N_(he:x.err=0)(hi:x.i<=s.size)(h:Rel x st)(ww:¬cur s x.i=47)(h63:¬cur s x.i=63)(Yr:¬cur s x.i=33):Done g s x (x.j9 s st.gD) (runs g s x.i (.plain .less) st):=by
 by_cases hb:Ch.fw (cur s x.i)=true
 ·have h0:0<=cur s x.i:=by have:=(Ch.fT _).1 hb;omega
  obtain⟨n1,n2⟩:=lY he hb;have hlt:=(rH (s:=s) hb).2;have hle:=oZ hi;have e:d_ (.plain .less) x.i st (cur s x.i)=⟨(st.clear .name).put .name (cur s x.i) x.i,.go (.name .name .part)⟩:=by simp only[d_,step,gh];rw[if_neg ww,if_neg h63,if_neg Yr,if_pos hb]
  rw[fC e h0,uB .name .part x.i st hb];unfold Sc.j9;rw[n1,n2];generalize hE:jK s x.i=E at*
  generalize hN:Ch.bytes s x.i (E-x.i)=N at*
  have hA:Cj {x with i:=E} (st.eH .name N x.i) [] N st.gD:=
   ⟨⟨h.tag.told,by simpa [St.eH]using h.tag.text,by simpa [St.eH]using h.tag.from_⟩,h.b_,by rw[show (st.eH .name N x.i).names=st.names from rfl,h.names];rfl,by simpa [St.eH]using h.value,by simp[St.eH],rfl⟩
  have hat:=zW (g:=g) (s:=s) (s.size+2) {x with i:=E} [] _ he hle (by show _<E+_;omega) hA;unfold Sc.b_;generalize fe s (s.size+2) {x with i:=E} []=B at*
  rcases hat with⟨b1,b2,b3,b4,b5,iJ,b6,b7⟩|⟨b1,b2,b3⟩
  ·simp only at b7 b2;rw[b7];have hd:=N9 (g:=g) b1 b3 b6 b5;rcases hd with⟨d1,d2,d3,d4⟩|⟨d1,d2,d3⟩
   ·have h6:B.1.more=x.more:=by rw[b4]
    have h7:B.1.l=x.l:=by rw[b4]
    have h8:B.1.at_=x.at_:=by rw[b4]
    obtain⟨⟨g1,g2,g3⟩,g4⟩:=d4;rw[h6]at g2;rw[h7]at g3;exact Or.inl ⟨d1,by omega,d3,⟨by rw[g1,h8],by omega,g3⟩,g4⟩
   ·have hl:B.1.l=x.l:=by rw[b4]
    exact Or.inr ⟨d1,by rw[d2,hl],by rw[d3,hl]⟩
  ·have WC:B.1.jh s N B.2 st.gD=B.1:=by
    unfold Sc.jh;rw[if_neg (by rw[Sx b1];simp),je s _ b1,kM b1]
   rw[WC];exact Or.inr ⟨b1,b2,b3⟩
 ·have hn:=o0 (s:=s) he hb;have nZ:=fx x s he;have e:d_ (.plain .less) x.i st (cur s x.i)=⟨st.clear .name,.fail (Tk.why (cur s x.i)) x.i⟩:=by simp only[d_,step,gh];rw[if_neg ww,if_neg h63,if_neg Yr,if_neg hb]
  have WC:x.j9 s st.gD=x.wrong s:=by
   unfold Sc.j9 Sc.b_;rw[hn];simp only;rw[kx nZ];unfold Sc.jh;rw[if_neg (by rw[Sx nZ];simp),je s _ nZ,kM nZ]
  rw[WC];refine Done.wrong he ?_;rw[gu e,<-h.tag.told];rfl
theorem Bj(he:x.err=0)(hi:x.i<=s.size)(h:Rel x st)(AV:st.run .name=[]):Done g s x (x.ji s st.gD) (runs g s x.i (.name .name .closing) st):=by
 by_cases hb:Ch.fw (cur s x.i)=true
 ·have h0:0<=cur s x.i:=by have:=(Ch.fT _).1 hb;omega
  obtain⟨n1,n2⟩:=lY he hb;have hlt:=(rH (s:=s) hb).2;have hle:=oZ hi;have qQ:st.clear .name=st.eH .name (st.run .name) 0:=by unfold St.clear;rw[AV]
  have e:d_ (.name .name .closing) x.i st (cur s x.i)=⟨(st.clear .name).put .name (cur s x.i) x.i,.go (.name .name .closing)⟩:=by
   simp only[d_,stName,gh];rw[if_pos (by rw[AV];rfl),if_pos hb];congr 1;unfold St.put;rw[qQ,kK];simp only[St.eH,if_true];rw[AV];simp
  rw[fC e h0,uB .name .closing x.i st hb];unfold Sc.ji;rw[n1,n2];generalize hE:jK s x.i=E at*
  generalize hN:Ch.bytes s x.i (E-x.i)=N at*
  have hA:Cj {x with i:=E} (st.eH .name N x.i) [] N st.gD:=
   ⟨⟨h.tag.told,by simpa [St.eH]using h.tag.text,by simpa [St.eH]using h.tag.from_⟩,h.b_,by rw[show (st.eH .name N x.i).names=st.names from rfl,h.names];rfl,by simpa [St.eH]using h.value,by simp[St.eH],rfl⟩
  exact(J1 (x:={x with i:=E}) he hle hA).on (by omega)
 ·have hn:=o0 (s:=s) he hb;have nZ:=fx x s he;have e:d_ (.name .name .closing) x.i st (cur s x.i)=⟨st,.fail (Tk.why (cur s x.i)) x.i⟩:=by simp only[d_,stName,gh];rw[if_pos (by rw[AV];rfl),if_neg hb]
  have WC:x.ji s st.gD=x.wrong s:=by
   unfold Sc.ji;rw[hn];simp only;rw[ku nZ,je s _ nZ,kM nZ]
  rw[WC];refine Done.wrong he ?_;rw[gu e,<-h.tag.told]
theorem Alike.done{A:List Tok×Int×Int}(h:Alike s x y A (fun j=>runs g s j (.plain .between) st))(hr:Rel x st)(hlt:y.err=0->x.i<y.i):Done g s x y A:=by
 rcases h with⟨h1,h2,h3,h4,h5⟩|⟨h1,h2,h3⟩
 ·refine Or.inl ⟨h1,hlt h1,h3,⟨by rw[h4],by rw[h4];simp only;omega,by rw[h4];simp only;omega⟩,st,?_,h5⟩;rw[h4];exact hr.at _
 ·exact Or.inr ⟨h1,h2,h3⟩
theorem qL(st:St)(i:Nat):runs g s i (.plain .order) st=runs g s (jK s i) (.plain .order) st:=by
 by_cases h:yj (cur s i)=true
 ·have h0:=qj h;have hc:=fl h0;have hne:¬cur s i=63:=by
   intro e;rw[e]at h;exact absurd h (by decide)
  have e:d_ (.plain .order) i st (cur s i)=⟨st,.go (.plain .order)⟩:=by simp only[d_,step,jg];rw[if_neg hne,if_neg (by omega)]
  rw[fC e h0,qL st (i+wid s i),ld h]
 ·rw[sP h]
termination_by s.size-i
theorem J3(he:x.err=0)(hi:x.i<=s.size)(h:Rel x st):Done g s x (x.order s) (runs g s x.i (.plain .iP) st):=by
 by_cases hb:Ch.fw (cur s x.i)=true
 ·have h0:0<=cur s x.i:=by have:=(Ch.fT _).1 hb;omega
  have uO:yj (cur s x.i)=true:=by unfold yj;rw[hb];rfl
  obtain⟨n1,n2⟩:=lY he hb;have hlt:=(rH (s:=s) hb).2;have hle:=oZ hi;have e:d_ (.plain .iP) x.i st (cur s x.i)=⟨st,.go (.plain .order)⟩:=by simp only[d_,step];rw[if_pos hb]
  rw[fC e h0,qL st,<-ld uO];unfold Sc.order Sc.until;rw[n1];refine Done.on (j:=jK s x.i) ?_ (by omega);refine(JT (s:=s) (jK s x.i) (s.size+2) {x with i:=jK s x.i} he hle (by show _<jK s x.i+_;omega) h.tag.told).done (h.at _) ?_;intro h1;have:=(zS s ⟨#[63,62]⟩ (by decide) (jK s x.i) (s.size+2) {x with i:=jK s x.i} he h1 (by show _<jK s x.i+_;omega) hle).2;have h2:jK s x.i+2<=_:=this;show jK s x.i<_;omega
 ·have hn:=o0 (s:=s) he hb;have nZ:=fx x s he;have e:d_ (.plain .iP) x.i st (cur s x.i)=⟨st,.fail (Tk.why (cur s x.i)) x.i⟩:=by simp only[d_,step];rw[if_neg hb]
  have WC:x.order s=x.wrong s:=by
   unfold Sc.order Sc.until;rw[hn];simp only;rw[iQ _ _ _ _ _ nZ]
  rw[WC];refine Done.wrong he ?_;rw[gu e,<-h.tag.told]
theorem GB(he:x.err=0)(hi:x.i<=s.size)(h:Rel x st)(Fq:¬cur s x.i=91):Done g s x (x.remark s) (runs g s x.i (.plain .oT) st):=by
 by_cases h45:cur s x.i=45
 ·have hw:=fP (s:=s) (i:=x.i) (by omega) (by omega);have hc:=fl (s:=s) (i:=x.i) (by omega);have e:d_ (.plain .oT) x.i st (cur s x.i)=⟨st,.go (.word [45] .remark)⟩:=by simp only[d_,step];rw[if_pos h45]
  rw[fC e (by omega),hw];have hm:Sc.eW s [45,45] x=Sc.eW s [45] {x with i:=x.i+1}:=by
   have:x.is s (45:UInt8).toNat=true:=(jT he (by decide)).2 h45
   conv=>lhs;rw[Sc.eW]
   rw[if_pos he,if_pos this]
  unfold Sc.remark;rw[hm];have hwd:=wU (g:=g) (s:=s) (st:=st) .remark [45] {x with i:=x.i+1} (by decide) (by decide) he (by show x.i+1<=_;omega) h.tag.told;generalize Sc.eW s [45] {x with i:=x.i+1}=y at*
  rcases hwd with⟨y1,y2,y3,y4,y5⟩|⟨y1,y2,y3⟩
  ·have y2':x.i+1<=y.i:=y2;simp only at y5;rw[y5];have hl:y.l=x.l:=by rw[y4]
   have hry:Rel y st:=by rw[y4];exact h.at _
   have hu:=Gu (g:=g) (s:=s) (st:=st) y.i (s.size+2) y y1 y3 (by omega) (by rw[hl];exact h.tag.told);unfold Sc.until;generalize (gw s ⟨#[45,45]⟩ y.i (s.size+2) y).1=u at*
   rcases hu with⟨u1,u2,u3,u4,u5⟩|⟨u1,u2,u3⟩
   ·have hl':u.l=x.l:=by rw[u4,<-hl]
    have U9:Rel u st:=by rw[u4];exact hry.at _
    simp only at u5;rw[u5];have hw2:=wU (g:=g) (s:=s) (st:=st) .between [62] u (by decide) (by decide) u1 u3 (by rw[hl'];exact h.tag.told);generalize Sc.eW s [62] u=v at*
    rcases hw2 with⟨v1,v2,v3,v4,v5⟩|⟨v1,v2,v3⟩
    ·exact Or.inl ⟨v1,by omega,v3,zY (by rw[v4,u4,y4]) (by rw[v4,u4,y4]) (by rw[v4,u4,y4]) (by omega),st,by rw[v4];exact U9.at _,v5⟩
    ·exact Or.inr ⟨v1,by rw[v2,hl'],by rw[v3,hl']⟩
   ·rw[je s _ u1];exact Or.inr ⟨u1,by rw[u2,hl],by rw[u3,hl]⟩
  ·unfold Sc.until;rw[iQ _ _ _ _ _ y1,je s _ y1];exact Or.inr ⟨y1,y2,y3⟩
 ·have nZ:=fx x s he;have WC:x.remark s=x.wrong s:=by
   have acL:¬x.is s (45:UInt8).toNat=true:=fun e=>h45 ((jT he (by decide)).1 e);unfold Sc.remark Sc.until;have:Sc.eW s [45,45] x=x.wrong s:=by
    conv=>lhs;rw[Sc.eW]
    rw[if_pos he,if_neg acL,je s _ nZ]
   rw[this,iQ _ _ _ _ _ nZ,je s _ nZ]
  rw[WC];refine Done.wrong he ?_;have e:d_ (.plain .oT) x.i st (cur s x.i)=⟨st,.fail (Tk.why (cur s x.i)) x.i⟩:=by simp only[d_,step];rw[if_neg h45,if_neg Fq]
  rw[gu e,<-h.tag.told]
theorem J4(he:x.err=0)(hi:x.i<=s.size)(h:Rel x st)(Fq:cur s x.i=91):Done g s x (x.qK s) (runs g s x.i (.plain .oT) st):=by
 have hw:=fP (s:=s) (i:=x.i) (by omega) (by omega);have hc:=fl (s:=s) (i:=x.i) (by omega);have e:d_ (.plain .oT) x.i st (cur s x.i)=⟨st,.go (.word [67,68,65,84,65,91] .iB)⟩:=by simp only[d_,step];rw[if_neg (by omega),if_pos Fq]
 rw[fC e (by omega),hw];have hm:Sc.eW s [91,67,68,65,84,65,91] x=Sc.eW s [67,68,65,84,65,91] {x with i:=x.i+1}:=by
  have:x.is s (91:UInt8).toNat=true:=(jT he (by decide)).2 Fq
  conv=>lhs;rw[Sc.eW]
  rw[if_pos he,if_pos this]
 unfold Sc.qK;rw[hm];have hwd:=wU (g:=g) (s:=s) (st:=st) .iB [67,68,65,84,65,91] {x with i:=x.i+1} (by decide) (by decide) he (by show x.i+1<=_;omega) h.tag.told;generalize Sc.eW s [67,68,65,84,65,91] {x with i:=x.i+1}=y at*
 rcases hwd with⟨y1,y2,y3,y4,y5⟩|⟨y1,y2,y3⟩
 ·have y2':x.i+1<=y.i:=y2;simp only at y5;rw[y5];have hl:y.l=x.l:=by rw[y4]
  have hry:Rel y st:=by rw[y4];exact h.at _
  have hu:=D8 (g:=g) (s:=s) (st:=st) y.i (s.size+2) y y1 y3 (ah _) (by omega) (by rw[hl];exact h.tag.told);rw[Cf]at hu;have hut:=fun h1=>zS s ⟨#[93,93,62]⟩ (by decide) y.i (s.size+2) y y1 h1 (by omega) y3;unfold Sc.until;generalize gw s ⟨#[93,93,62]⟩ y.i (s.size+2) y=u at*
  rcases hu with⟨u1,u2,u3,u4,u5⟩|⟨u1,u2,u3⟩
  ·obtain⟨t1,t2⟩:=hut u1;have t2':y.i+3<=u.1.i:=t2;have hsz:(⟨#[93,93,62]⟩:ByteArray).size=3:=rfl;have hb:u.2.data.toList=Ch.bytes s y.i (u.1.i-3-y.i):=by rw[t1,im,hsz]
   have U9:Rel u.1 st:=by rw[u4];exact hry.at _
   rw[u5];by_cases hne:u.2.data.toList≠[]
   ·rw[if_pos ⟨u1,hne⟩];have hlt:y.i<u.1.i-3:=by
     by_cases hlt:y.i<u.1.i-3
     ·exact hlt
     ·exfalso;apply hne;rw[hb,show u.1.i-3-y.i=0 by omega];unfold Ch.bytes;simp
    refine Or.inl ⟨u1,by show x.i<u.1.i;omega,u3,⟨by show u.1.at_=x.at_;rw[u4,y4],?_,by show u.1.l.length<=_;rw[u4,y4];simp only;omega⟩,_,?_,rfl⟩
    ·have h6:u.1.more=x.more:=by rw[u4,y4]
     show (u.1.more++u.2.data.toList).length+x.i<=x.more.length+u.1.i;rw[h6,ae,hb];have h7:(Ch.bytes s y.i (u.1.i-3-y.i)).length<=u.1.i-3-y.i:=by unfold Ch.bytes;rw[bP];omega
     omega
    refine⟨⟨U9.tag.told,?_,?_⟩,U9.b_,U9.names,?_⟩
    ·simp only[St.upto,St.eH,if_true,Sc.ic];rw[hb,U9.tag.text]
    ·intro _;simp only[St.upto,St.eH,if_true,Sc.ic];rw[U9.tag.text];by_cases hm0:u.1.more=[]
     ·rw[if_pos ⟨hm0,hlt⟩,if_pos hm0]
     ·rw[if_neg (fun e=>hm0 e.1),if_neg hm0];exact U9.tag.from_ hm0
    ·simpa [St.upto,St.eH]using U9.value
   ·rw[if_neg (fun e=>hne e.2)];have hz:u.1.i-3=y.i:=by
     by_cases hlt:y.i<u.1.i-3
     ·exact absurd (by rw[hb];exact vH s (by omega) (by omega)) hne
     ·omega
    refine Or.inl ⟨u1,by omega,u3,zY (by rw[u4,y4]) (by rw[u4,y4]) (by rw[u4,y4]) (by omega),st,U9,?_⟩;show runs g s u.1.i _ (st.upto s .text y.i (u.1.i-3))=_;rw[hz,Cf]
  ·rw[if_neg (fun e=>u1 e.1)];exact Or.inr ⟨u1,by rw[u2,hl],by rw[u3,hl]⟩
 ·unfold Sc.until;rw[iQ _ _ _ _ _ y1];rw[if_neg (fun e=>y1 e.1)];exact Or.inr ⟨y1,y2,y3⟩
theorem GC(he:x.err=0)(h:Rel x st)(sL:cur s x.i=60):Done g s x (x.ly s) (runs g s x.i (.plain .between) st):=by
 have hw:=fP (s:=s) (i:=x.i) (by omega) (by omega);have hc:=fl (s:=s) (i:=x.i) (by omega);have e:d_ (.plain .between) x.i st (cur s x.i)=⟨{st with gD:=x.i},.go (.plain .less)⟩:=by simp only[d_,step];rw[if_pos sL]
 rw[fC e (by omega),hw];have hr:Rel {x with i:=x.i+1} {st with gD:=(x.i:Int)}:=⟨⟨h.tag.told,h.tag.text,h.tag.from_⟩,h.b_,h.names,h.value⟩
 unfold Sc.ly;refine Done.on (j:=x.i+1) ?_ (by omega);have hle:x.i+1<=s.size:=by omega
 have hx:({x with i:=x.i+1}:Sc).err=0:=he;have htg:({st with gD:=(x.i:Int)}:St).gD=x.i:=rfl;have AU:({x with i:=x.i+1}:Sc).i=x.i+1:=rfl;rw[<-AU]at hle ⊢;rw[<-htg];generalize ({x with i:=x.i+1}:Sc)=X at*
 generalize ({st with gD:=(x.i:Int)}:St)=S at*
 clear htg AU e sL hw hc h he;unfold Sc.behind;have i33:X.is s 33=true↔cur s X.i=33:=jT hx (by omega);have i63:X.is s 63=true↔cur s X.i=63:=jT hx (by omega);have i47:X.is s 47=true↔cur s X.i=47:=jT hx (by omega);by_cases c33:cur s X.i=33
 ·rw[if_pos (i33.2 c33)];have hw:=fP (s:=s) (i:=X.i) (by omega) (by omega);have hc:=fl (s:=s) (i:=X.i) (by omega);have e:d_ (.plain .less) X.i S (cur s X.i)=⟨S,.go (.plain .oT)⟩:=by simp only[d_,step];rw[if_neg (by omega),if_neg (by omega),if_pos c33]
  rw[fC e (by omega),hw];refine Done.on (j:=X.i+1) ?_ (by omega);unfold Sc.oT;have i91:=jT (s:=s) (x:={X with i:=X.i+1}) hx (c:=91) (by omega);by_cases c91:cur s (X.i+1)=91
  ·rw[if_pos (i91.2 c91)];exact J4 (x:={X with i:=X.i+1}) hx (by show X.i+1<=_;omega) (hr.at _) c91
  ·rw[if_neg (fun h=>c91 (i91.1 h))];exact GB (x:={X with i:=X.i+1}) hx (by show X.i+1<=_;omega) (hr.at _) c91
 ·rw[if_neg (fun h=>c33 (i33.1 h))];by_cases c63:cur s X.i=63
  ·rw[if_pos (i63.2 c63)];have hw:=fP (s:=s) (i:=X.i) (by omega) (by omega);have hc:=fl (s:=s) (i:=X.i) (by omega);have e:d_ (.plain .less) X.i S (cur s X.i)=⟨S,.go (.plain .iP)⟩:=by simp only[d_,step];rw[if_neg (by omega),if_pos c63]
   rw[fC e (by omega),hw];exact(J3 (x:={X with i:=X.i+1}) hx (by show X.i+1<=_;omega) (hr.at _)).on (by omega)
  ·rw[if_neg (fun h=>c63 (i63.1 h))];by_cases c47:cur s X.i=47
   ·rw[if_pos (i47.2 c47)];have hw:=fP (s:=s) (i:=X.i) (by omega) (by omega);have hc:=fl (s:=s) (i:=X.i) (by omega);have e:d_ (.plain .less) X.i S (cur s X.i)=⟨S.clear .name,.go (.name .name .closing)⟩:=by simp only[d_,step];rw[if_pos c47]
    rw[fC e (by omega),hw];have hr':Rel {X with i:=X.i+1} (S.clear .name):=⟨⟨hr.tag.told,by simpa [St.clear,St.eH]using hr.tag.text,by simpa [St.clear,St.eH]using hr.tag.from_⟩,hr.b_,hr.names,by simpa [St.clear,St.eH]using hr.value⟩
    exact(Bj (x:={X with i:=X.i+1}) hx (by show X.i+1<=_;omega) hr' (by simp[St.clear,St.eH])).on (by omega)
   ·rw[if_neg (fun h=>c47 (i47.1 h))];exact N_ hx hle hr c47 c63 c33
end
section
variable{g:St->List Tok}{s:ByteArray}{i:Nat}{pt j_:Part}{st iJ:St}{no q c:Int}{x y:Sc}
def Sc.piece(x:Sc)(s:ByteArray):Sc:=
 if(s.get! x.i).toNat=60 then x.ly s else if(x.char s 60).1.err=0 then(x.char s 60).1.ic (x.char s 60).2 x.i else(x.char s 60).1
def jk(s:ByteArray):Nat->Sc->Sc
 |0,x=>x
 |f+1,x=>if x.i<s.size/\x.err=0 then jk s f (x.piece s)else x
def Sc.zero:Sc:=⟨0,[],[],0,0,0⟩
def eQ(s:ByteArray):Sc:=jk s (s.size+1) Sc.zero
def Sc.last(x:Sc):List Tok:=if x.err≠0\/x.more=[]then []else [gU x]
def Sc.fin(x:Sc)(G:Sc->List Tok):List Tok×Int×Int:=if x.err=0 then(G x,0,0)else(x.l,x.err,x.at_)
theorem Oa(he:x.err=0)(hi:x.i<s.size)(h:Rel x st)(sL:¬cur s x.i=60):
  Done g s x (if(x.char s 60).1.err=0 then(x.char s 60).1.ic (x.char s 60).2 x.i else(x.char s 60).1) (runs g s x.i (.plain .between) st):=by
 have hch:=rJ (s:=s) he 60 (by omega);have acM:¬cur s x.i=((60:Nat):Int):=sL;by_cases h0:0<=cur s x.i
 ·have hc:=fl h0;have A7:¬(cur s x.i<0\/cur s x.i=60\/cur s x.i=((60:Nat):Int)):=by rintro(h|h|h);omega;exact sL h;exact acM h
  rw[if_neg A7]at hch;by_cases oV:cur s x.i=38
  ·rw[if_pos oV]at hch;have e:d_ (.plain .between) x.i st (cur s x.i)=⟨(st.clear .ref).put .ref 38 x.i,.go (.ref .text .between)⟩:=by simp only[d_,step];rw[if_neg sL,if_pos oV]
   rw[fC e h0,Gy .text .between x.i st oV];unfold Cg;by_cases hz:(Ch.eR s x.i).2=0
   ·rw[if_pos hz]at hch ⊢;have hf:=lW x 4 x.i he (by decide);rw[hch];simp only;rw[if_neg hf];refine Or.inr ⟨hf,?_,?_⟩
    ·unfold Sc.fail;rw[if_pos he]
    ·unfold Sc.fail;rw[if_pos he,h.tag.told]
   ·rw[if_neg hz]at hch ⊢;have hsp:=Ch.iV hz;rw[hch];simp only;rw[if_pos he];refine Or.inl ⟨he,by show x.i<x.i+_;omega,by show x.i+(Ch.eR s x.i).2.toNat<=_;omega,⟨rfl,?_,by show x.l.length<=_;omega⟩,_,?_,rfl⟩
    ·show (x.more++Lib.encodeRune (Ch.eR s x.i).1).length+x.i<=x.more.length+(x.i+(Ch.eR s x.i).2.toNat);have:=Ch.sx (Ch.eR s x.i).1;rw[ae];omega
    refine⟨⟨h.tag.told,?_,?_⟩,h.b_,h.names,?_⟩
    ·simp[St.put,St.eH,Sc.ic,h.tag.text]
    ·intro _;simp only[St.put,St.eH,Sc.ic,if_true];by_cases hm:x.more=[]
     ·rw[if_pos hm];simp[h.tag.text,hm]
     ·rw[if_neg hm];simp[h.tag.text,hm];exact h.tag.from_ hm
    ·simpa [St.put,St.eH]using h.value
  ·rw[if_neg oV]at hch;have e:d_ (.plain .between) x.i st (cur s x.i)=⟨st.put .text (cur s x.i) x.i,.go (.plain .between)⟩:=by simp only[d_,step];rw[if_neg sL,if_neg oV,if_neg (by omega),if_neg (by omega)]
   have hb:=im s x.i (x.i+wid s x.i);rw[show x.i+wid s x.i-x.i=wid s x.i by omega,<-mU h0]at hb;rw[fC e h0,hch];simp only;rw[if_pos he];refine Or.inl ⟨he,by show x.i<x.i+wid s x.i;omega,by show x.i+wid s x.i<=_;omega,⟨rfl,?_,by show x.l.length<=_;omega⟩,_,?_,rfl⟩
   ·show (x.more++(s.extract x.i (x.i+wid s x.i)).data.toList).length+x.i<=x.more.length+(x.i+wid s x.i);have h7:(Ch.bytes s x.i (wid s x.i)).length<=wid s x.i:=by unfold Ch.bytes;rw[bP];omega
    rw[ae,hb,mU h0];omega
   refine⟨⟨h.tag.told,?_,?_⟩,h.b_,h.names,?_⟩
   ·simp only[St.put,St.eH,Sc.ic,if_true];rw[hb,h.tag.text]
   ·intro _;simp only[St.put,St.eH,Sc.ic,if_true];by_cases hm:x.more=[]
    ·rw[if_pos hm];simp[h.tag.text,hm]
    ·rw[if_neg hm];simp[h.tag.text,hm];exact h.tag.from_ hm
   ·simpa [St.put,St.eH]using h.value
 ·rw[if_pos (Or.inl (by omega))]at hch;have nZ:=fx x s he;rw[hch];simp only;rw[if_neg nZ];refine Done.wrong he ?_;rcases sO h0 with⟨_,h2⟩|⟨h2,_⟩
  ·have e:d_ (.plain .between) x.i st (cur s x.i)=⟨st,.fail 2 x.i⟩:=by simp only[d_,step,h2];rfl
   rw[gu e,h2,h.tag.told];rfl
  ·exact absurd hi h2
theorem oH(he:x.err=0)(hi:x.i<s.size)(h:Rel x st):Done g s x (x.piece s) (runs g s x.i (.plain .between) st):=by
 unfold Sc.piece;have Yq:=kr (s:=s) (i:=x.i) (c:=60) (by omega);by_cases sL:cur s x.i=60
 ·rw[if_pos (Yq.1 sL).2];exact GC he h sL
 ·rw[if_neg (fun e=>sL (Yq.2 ⟨hi,e⟩))];exact Oa he hi h sL
theorem sR(he:x.err≠0)(f:Nat):jk s f x=x:=by
 cases f with
 |zero=>rfl
 |succ f=>simp only[jk];rw[if_neg (fun e=>he e.2)]
theorem Cl(G:Sc->List Tok)(hG:∀(x:Sc) (st:St),x.err=0->Rel x st->g st=G x):∀(f:Nat) (x:Sc) (st:St),x.err=0->x.i<=s.size->s.size<x.i+f->Rel x st->runs g s x.i (.plain .between) st=(jk s f x).fin G:=by
 intro f;induction f with
 |zero=>intro x st he hi hf;omega
 |succ f ih=>
  intro x st he hi hf h;simp only[jk];by_cases hlt:x.i<s.size
  ·rw[if_pos ⟨hlt,he⟩];rcases oH he hlt h with⟨h1,h2,h3,ha,iJ,h4,h5⟩|⟨h1,h2,h3⟩
   ·rw[h5];exact ih _ _ h1 h3 (by omega) h4
   ·rw[sR h1,h3];unfold Sc.fin;rw[if_neg h1,h2]
  ·rw[if_neg (fun e=>hlt e.1)];have hc:cur s x.i= -1:=by unfold cur;rw[if_neg hlt]
   have e:d_ (.plain .between) x.i st (cur s x.i)=⟨st.eK,.stop⟩:=by simp only[d_,step,hc];rfl
   rw[wT e,hG x st he h];unfold Sc.fin;rw[if_pos he]
theorem uC(g:St->List Tok):∀(f:Nat) (x:Sc) (st:St),x.err=0->x.i<=s.size->s.size<x.i+f->Rel x st->(jk s f x).err=0->(jk s f x).i=s.size/\(jk s f x).at_=x.at_:=by
 intro f;induction f with
 |zero=>intro x st he hi hf;omega
 |succ f ih=>
  intro x st he hi hf h;simp only[jk];by_cases hlt:x.i<s.size
  ·rw[if_pos ⟨hlt,he⟩];rcases oH (g:=g) he hlt h with⟨h1,h2,h3,ha,iJ,h4,h5⟩|⟨h1,h2,h3⟩
   ·intro e;have:=ih _ _ h1 h3 (by omega) h4 e;exact⟨this.1,this.2.trans ha.1⟩
   ·rw[sR h1];intro e;exact absurd e h1
  ·rw[if_neg (fun e=>hlt e.1)];intro _;exact⟨by omega,rfl⟩
theorem Ob(x:Sc)(st:St)(he:x.err=0)(h:Rel x st):st.eK.told=x.l++x.last:=by
 rw[qm h.tag];unfold Sc.last;by_cases hm:x.more=[]
 ·rw[if_pos hm,if_pos (Or.inr hm),aO]
 ·rw[if_neg hm,if_neg (by rintro(h|h);exact h he;exact hm h)]
end
end K
end Go.Proofs.YtjecakcpcnmieaaGreatDoor
