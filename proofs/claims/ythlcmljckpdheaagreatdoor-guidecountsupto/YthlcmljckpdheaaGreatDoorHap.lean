import Derived.Test.YthlcmljckpdheaaGreatDoorHA
import Derived.Test.YthlcmljckpdheaaGreatDoorHak
import Derived.Test.YthlcmljckpdheaaGreatDoorHao
set_option linter.unusedVariables false
set_option linter.unusedSimpArgs false
set_option maxHeartbeats 32000000
set_option maxRecDepth 100000
namespace Go.Proofs.YthlcmljckpdheaaGreatDoor
namespace K
open Go.RowKit Go.Lib Tryz
section
def cur(s:ByteArray)(i:Nat):Int:=if i<s.size then(if Ch.gW s i=true then((Utf8.decode s i).1:Int)else-2)else-1
def wid(s:ByteArray)(i:Nat):Nat:=(Utf8.decode s i).2
def uK(g:St->List Tok)(s:ByteArray):Nat->Nat->Part->St->List Tok×Int×Int
 |0,_,_,st=>(st.told,0,0)
 |f+1,i,pt,st=>
  match (b_ pt i st (cur s i)).res with
  | .go jT=>if 0<=cur s i then uK g s f (i+wid s i) jT (b_ pt i st (cur s i)).st else(st.told,0,0)
  | .stop=>(g st,0,0)
  | .fail no q=>((b_ pt i st (cur s i)).st.told,no,q)
def runs(g:St->List Tok)(s:ByteArray)(i:Nat)(pt:Part)(st:St):List Tok×Int×Int:=uK g s (s.size-i+1) i pt st
variable{g:St->List Tok}{s:ByteArray}{i:Nat}{pt jT:Part}{st iG:St}{no q c:Int}
theorem fp(h:0<=cur s i):i<s.size/\Ch.gW s i=true/\cur s i=((Utf8.decode s i).1:Int)/\1<=wid s i/\i+wid s i<=s.size:=by
 unfold cur at h ⊢;split at h
 ·rename_i h1;split at h
  ·rename_i h2;have:=Ch.fo s i h1;rw[if_pos h1,if_pos h2];exact⟨h1,h2,rfl,this.2.1,this.1⟩
  ·omega
 ·omega
theorem rU(h:¬0<=cur s i):(i<s.size/\cur s i= -2)\/(¬i<s.size/\cur s i= -1):=by
 unfold cur at h ⊢;split
 ·rename_i h1;rw[if_pos h1]at h;split
  ·rename_i h2;rw[if_pos h2]at h;omega
  ·exact Or.inl ⟨h1,rfl⟩
 ·rename_i h1;exact Or.inr ⟨h1,rfl⟩
theorem Hz:∀(f f' i:Nat) (pt:Part) (st:St),s.size-i<f->s.size-i<f'->uK g s f i pt st=uK g s f' i pt st:=by
 intro f;induction f with
 |zero=>intro f' i pt st h;omega
 |succ f ih=>
  intro f' i pt st h h';obtain⟨f',rfl⟩:∃k,f'=k+1:=⟨f'-1,by omega⟩
  simp only[uK];split
  ·split
   ·rename_i h0;have:=fp h0;exact ih _ _ _ _ (by omega) (by omega)
   ·rfl
  ·rfl
  ·rfl
theorem fC(e:b_ pt i st (cur s i)=⟨iG,.go jT⟩)(h:0<=cur s i):runs g s i pt st=runs g s (i+wid s i) jT iG:=by
 have hc:=fp h;unfold runs
 conv=>lhs;unfold uK
 rw[e];simp only[h,if_true];exact Hz _ _ _ _ _ (by omega) (by omega)
theorem gb(e:b_ pt i st (cur s i)=⟨iG,.fail no q⟩):runs g s i pt st=(iG.told,no,q):=by unfold runs uK;rw[e]
theorem vQ(e:b_ pt i st (cur s i)=⟨iG,.stop⟩):runs g s i pt st=(g st,0,0):=by unfold runs uK;rw[e]
theorem nD(e:b_ pt i st (cur s i)=b_ jT i iG (cur s i))(ht:st.told=iG.told)(hg:(∃o,b_ pt i st (cur s i)=⟨o,.stop⟩)->g st=g iG):runs g s i pt st=runs g s i jT iG:=by
 unfold runs uK;rw[e]at hg ⊢;rw[ht];generalize b_ jT i iG (cur s i)=o at*
 obtain⟨o,r⟩:=o;cases r with
 |go ack=>rfl
 |stop=>simp only;rw[hg ⟨o,rfl⟩]
 |fail no q=>rfl
theorem AU{k:Pl}{o:St}(h:step k q st c=⟨o,.stop⟩):k=.between:=by
 cases k<;>first|rfl|(exfalso;simp only[step,jM,fX,jX,iH,jd,fR,fS]at h;repeat' split at h
                      all_goals cases h)
theorem tF{k:Pl}{o:St}(h:b_ (.plain k) q st c=⟨o,.stop⟩):k=.between:=by
 have h':step k q st c=⟨o,.stop⟩:=by simpa only[b_]using h
 exact AU h'
theorem jY{c:Nat}(hc:c=9\/c=10\/c=13\/(32<=c/\c<128)):cur s i=(c:Int)↔i<s.size/\(s.get! i).toNat=c:=by
 unfold cur;by_cases h:i<s.size
 ·rw[if_pos h];have hb:Ch.bz s i=((s.get! i).toNat:Int):=by simp[Ch.bz,h]
  rcases Ch.mv s i h with⟨h0,h1,hd⟩|⟨h0,h1⟩
  ·have iM:Ch.gW s i=Ch.may (Ch.bz s i):=by
    have e1:(((Ch.bz s i).toNat:Nat):Int)=Ch.bz s i:=by omega
    have e2:((Ch.bz s i).toNat !=65533)=true:=by simp;omega
    simp[Ch.gW,hd,e1];intro _;omega
   rw[iM,hd];by_cases hm:Ch.may (Ch.bz s i)=true
   ·rw[if_pos hm];simp only[h,dG];omega
   ·rw[if_neg hm];have sD:=mt (Ch.l7 (Ch.bz s i)).2 hm;simp only[h,dG];constructor
    ·intro e;omega
    ·intro e;exfalso;apply sD;omega
  ·constructor
   ·intro e;split at e
    ·omega
    ·omega
   ·rintro⟨_,e⟩;omega
 ·rw[if_neg h];simp[h]
theorem fO(h:0<=cur s i)(h1:cur s i<128):wid s i=1:=by
 have hc:=fp h;rcases Ch.mv s i hc.1 with⟨_,_,hd⟩|⟨_,h2⟩
 ·unfold wid;rw[hd]
 ·omega
variable{x:Sc}
theorem jZ(he:x.err=0){c:Nat}(hc:c=9\/c=10\/c=13\/(32<=c/\c<128)):x.is s c=true↔cur s x.i=(c:Int):=by rw[jY hc];simp[Sc.is,he]
theorem CQ(he:x.err=0){c:Nat}(hc:c=9\/c=10\/c=13\/(32<=c/\c<128)):x.is s c=decide (cur s x.i=(c:Int)):=by
 have:=jZ (s:=s) he hc;cases h:x.is s c<;>simp_all
theorem PV(he:x.err≠0)(c:Nat):x.is s c=false:=by simp[Sc.is,he]
theorem CR(s:ByteArray)(i:Nat):Ch.nL s i=if 0<=cur s i then(cur s i,(wid s i:Int))else(0,0):=by
 unfold Ch.nL;by_cases h:0<=cur s i
 ·have:=fp h;rw[if_pos h,if_pos ⟨this.1,this.2.1⟩,this.2.2.1];rfl
 ·rw[if_neg h];rcases rU h with⟨h1,h2⟩|⟨h1,h2⟩
  ·have:¬Ch.gW s i=true:=by intro e;unfold cur at h2;rw[if_pos h1,if_pos e]at h2;omega
   rw[if_neg (fun e=>this e.2)]
  ·rw[if_neg (fun e=>h1 e.1)]
theorem qY(s:ByteArray)(i:Nat):(Ch.nL s i).2=0↔¬0<=cur s i:=by
 rw[CR];split
 ·rename_i h;have:=fp h;simp only[];constructor
  ·intro e;omega
  ·intro e;exact absurd h e
 ·rename_i h;simp[h]
theorem h_(he:x.err=0):x.wrong s={x with err:=Tk.why (cur s x.i),at_:=x.i}:=by
 unfold Sc.wrong Sc.fail;simp only[he,if_true,qY];by_cases h:0<=cur s x.i
 ·have:=fp h;rw[if_pos this.1,if_neg (by simpa using h)];have e:Tk.why (cur s x.i)=3:=by unfold Tk.why;rw[if_neg (by omega)]
  rw[e]
 ·rcases rU h with⟨h1,h2⟩|⟨h1,h2⟩
  ·rw[if_pos h1,if_pos h,h2];rfl
  ·rw[if_neg h1,h2];rfl
theorem mh(h:0<=cur s i):Lib.encodeRune (cur s i)=Ch.bytes s i (wid s i):=by
 have hc:=fp h;rw[hc.2.2.1];exact Ch.encode_decode hc.1 hc.2.1
theorem px(s:ByteArray)(i a b:Nat):Ch.bytes s i a++Ch.bytes s (i+a) b=Ch.bytes s i (a+b):=by
 unfold Ch.bytes;rw[<-List.drop_drop,List.take_add]
theorem ij(s:ByteArray)(a b:Nat):(s.extract a b).data.toList=Ch.bytes s a (b-a):=by
 unfold Ch.bytes;simp[ByteArray.data_extract,List.extract_eq_take_drop]
end
section
variable{g:St->List Tok}{s:ByteArray}{i:Nat}{pt jT:Part}{st iG:St}{no q c:Int}{x:Sc}
theorem nV(s:ByteArray)(i:Nat):(i<s.size/\js (s.get! i).toNat=true)↔Tk.blank (cur s i)=true:=by
 have h:=fun c hc=>jY (s:=s) (i:=i) (c:=c) hc;have h32:=h 32 (by omega);have h9:=h 9 (by omega);have h10:=h 10 (by omega);have h13:=h 13 (by omega);simp only[js,Tk.blank,bE,bG];constructor
 ·rintro⟨h0,((e|e)|e)|e⟩
  ·exact Or.inl (Or.inl (Or.inl (h32.2 ⟨h0,e⟩)))
  ·exact Or.inl (Or.inl (Or.inr (h9.2 ⟨h0,e⟩)))
  ·exact Or.inl (Or.inr (h10.2 ⟨h0,e⟩))
  ·exact Or.inr (h13.2 ⟨h0,e⟩)
 ·rintro(((e|e)|e)|e)
  ·exact⟨(h32.1 e).1,Or.inl (Or.inl (Or.inl (h32.1 e).2))⟩
  ·exact⟨(h9.1 e).1,Or.inl (Or.inl (Or.inr (h9.1 e).2))⟩
  ·exact⟨(h10.1 e).1,Or.inl (Or.inr (h10.1 e).2)⟩
  ·exact⟨(h13.1 e).1,Or.inr (h13.1 e).2⟩
theorem yL{c:Int}(h:Tk.blank c=true):c=32\/c=9\/c=10\/c=13:=by simp only[Tk.blank,bE,bG]at h;omega
def gap(s:ByteArray)(i:Nat):Nat:=skip s (s.size+1) i
theorem LX:∀(f f' i:Nat),i<=s.size->s.size<i+f->s.size<i+f'->skip s f i=skip s f' i:=by
 intro f;induction f with
 |zero=>intro f' i h h1;omega
 |succ f ih=>
  intro f' i h h1 h2;obtain⟨f',rfl⟩:∃k,f'=k+1:=⟨f'-1,by omega⟩
  simp only[skip];split
  ·rename_i hc;rw[ih f' (i+1) (by omega) (by omega) (by omega)]
  ·rfl
theorem xy(h:Tk.blank (cur s i)=true):gap s i=gap s (i+1)+1:=by
 have hb:=(nV s i).2 h;unfold gap
 conv=>lhs;unfold skip
 rw[if_pos hb];rw[LX s.size (s.size+1) (i+1) (by omega) (by omega) (by omega)]
theorem CS(h:¬Tk.blank (cur s i)=true):gap s i=0:=by unfold gap skip;rw[if_neg (fun e=>h ((nV s i).1 e))]
theorem J3(s:ByteArray)(i:Nat)(h:i<=s.size):i+gap s i<=s.size:=by
 by_cases hb:Tk.blank (cur s i)=true
 ·have:=((nV s i).2 hb).1;rw[xy hb];have:=J3 s (i+1) (by omega);omega
 ·rw[CS hb];exact h
termination_by s.size-i
theorem yM(h:i<=s.size):i+gap s i<=s.size:=J3 s i h
theorem rV(s:ByteArray)(i:Nat):¬Tk.blank (cur s (i+gap s i))=true:=by
 by_cases hb:Tk.blank (cur s i)=true
 ·have:=((nV s i).2 hb).1;rw[xy hb];have:=rV s (i+1);rwa[show i+(gap s (i+1)+1)=i+1+gap s (i+1) by omega]
 ·rw[CS hb];exact hb
termination_by s.size-i
theorem qZ(h:∀i c,Tk.blank c=true->b_ pt i st c=⟨st,.go pt⟩)(i:Nat):runs g s i pt st=runs g s (i+gap s i) pt st:=by
 by_cases hb:Tk.blank (cur s i)=true
 ·have hi:=((nV s i).2 hb).1;have hv:=yL hb;rw[fC (h _ _ hb) (by omega),fO (by omega) (by omega),qZ h (i+1),xy hb];congr 1;omega
 ·rw[CS hb];rfl
termination_by s.size-i
theorem EY(he:x.err=0):x.skip s=gap s x.i:=by unfold Sc.skip;rw[if_pos he];rfl
theorem lU(he:x.err=0):x.fh s={x with i:=x.i+gap s x.i}:=by unfold Sc.fh;rw[EY he]
theorem j3(he:x.err≠0):x.fh s=x:=by unfold Sc.fh Sc.skip;rw[if_neg he];rfl
theorem uL(s:ByteArray)(k j:Nat):cur (Ch.tail s k) j=cur s (k+j):=by
 unfold cur;by_cases h:k+j<s.size
 ·have h1:j<(Ch.tail s k).size:=by rw[Ch.ju];omega
  have hd:Utf8.decode (Ch.tail s k) j=Utf8.decode s (k+j):=Ch.pP h (fun m=>by rw[Ch.uC,cK]);rw[if_pos h,if_pos h1];have:Ch.gW (Ch.tail s k) j=Ch.gW s (k+j):=by unfold Ch.gW;rw[hd]
  rw[this,hd]
 ·have h1:¬j<(Ch.tail s k).size:=by rw[Ch.ju];omega
  rw[if_neg h,if_neg h1]
theorem yN{s:ByteArray}{k j:Nat}(h:k+j<s.size):wid (Ch.tail s k) j=wid s (k+j):=by
 unfold wid;rw[Ch.pP h (fun m=>by rw[Ch.uC,cK])]
def vx(c:Int):Bool:=Ch.ft c||Ch.gj c
theorem mj{c:Int}(h:vx c=true):0<=c:=by
 unfold vx at h;rw[bE]at h;rcases h with h|h
 ·have:=(Ch.fT c).1 h;omega
 ·have:=(Ch.jh c).1 h;omega
theorem tG(s:ByteArray)(p:Nat)(h:p<s.size):Ch.jI s p=if p=0 then Ch.ft (cur s p)else vx (cur s p):=by
 unfold Ch.jI cur vx;rw[if_pos h];by_cases ho:Ch.gW s p=true
 ·rw[ho,if_pos rfl];by_cases h0:p=0
  ·subst h0;simp
  ·have:decide (0<p)=true:=by simp;omega
   simp[this,h0]
 ·have NI:Ch.gW s p=false:=by simpa using ho
  rw[NI];have h1:Ch.ft (-2)=false:=by decide
  have h2:Ch.gj (-2)=false:=by decide
  simp[h1,h2]
def jr(s:ByteArray)(i:Nat):Nat:=
 if h:vx (cur s i)=true then jr s (i+wid s i)else i
termination_by s.size-i
decreasing_by have:=fp (mj h);omega
theorem j4(h:vx (cur s i)=true):jr s i=jr s (i+wid s i):=by
 conv=>lhs;unfold jr
 rw[dif_pos h]
theorem pT(h:¬vx (cur s i)=true):jr s i=i:=by unfold jr;rw[dif_neg h]
theorem pU(s:ByteArray)(i:Nat):i<=jr s i:=by
 by_cases h:vx (cur s i)=true
 ·have:=fp (mj h);have:=pU s (i+wid s i);rw[j4 h];omega
 ·rw[pT h];omega
termination_by s.size-i
theorem EZ(s:ByteArray)(i:Nat)(h0:i<=s.size):jr s i<=s.size:=by
 by_cases h:vx (cur s i)=true
 ·have:=fp (mj h);have:=EZ s (i+wid s i) (by omega);rw[j4 h];omega
 ·rw[pT h];omega
termination_by s.size-i
theorem nh(h:i<=s.size):jr s i<=s.size:=EZ s i h
theorem z8(s:ByteArray)(k:Nat):∀f p,0<p->k+p<=s.size->s.size<k+p+f->Ch.fQ (Ch.tail s k) f p+k=jr s (k+p):=by
 intro f;induction f with
 |zero=>intro p h h1 h2;omega
 |succ f ih=>
  intro p h h1 h2;have hz:=Ch.ju s k;simp only[Ch.fQ];by_cases hp:k+p<s.size
  ·have vv:Ch.jI (Ch.tail s k) p=vx (cur s (k+p)):=by rw[tG _ _ (by omega),if_neg (by omega),uL]
   rw[if_pos (by omega),vv];by_cases hn:vx (cur s (k+p))=true
   ·have hc:=fp (mj hn);have hw:(Utf8.decode (Ch.tail s k) p).2=wid s (k+p):=yN hp;rw[if_pos hn,hw,j4 hn,ih (p+wid s (k+p)) (by omega) (by omega) (by omega)];congr 1;omega
   ·rw[if_neg hn,pT hn];omega
  ·have e:k+p=s.size:=by omega
   rw[if_neg (by omega),pT (by unfold cur;rw[if_neg (by omega)];decide)];omega
theorem Uj(hb:¬Ch.ft (cur s x.i)=true):x.vO s=0:=by
 unfold Sc.vO Ch.name;rw[Ch.kj];simp only[Ch.fQ];split
 ·rename_i h;have vv:Ch.jI (Ch.tail s x.i) 0=Ch.ft (cur s x.i):=by rw[tG _ _ h,if_pos rfl,uL,bN]
  rw[vv,if_neg hb]
 ·omega
theorem q7(hb:Ch.ft (cur s x.i)=true):x.vO s=jr s x.i-x.i/\x.i<jr s x.i:=by
 have hp:0<=cur s x.i:=by have:=(Ch.fT _).1 hb;omega
 have hc:=fp hp;have hz:=Ch.ju s x.i;have hn:vx (cur s x.i)=true:=by unfold vx;rw[hb];rfl
 have hg:=pU s (x.i+wid s x.i);have hw:(Utf8.decode (Ch.tail s x.i) 0).2=wid s x.i:=yN (by omega);unfold Sc.vO Ch.name;rw[Ch.kj];simp only[Ch.fQ];have vv:Ch.jI (Ch.tail s x.i) 0=Ch.ft (cur s x.i):=by rw[tG _ _ (by omega),if_pos rfl,uL,bN]
 rw[if_pos (by omega),vv,if_pos hb,ax,hw];have:=z8 s x.i (Ch.tail s x.i).size (wid s x.i) (by omega) (by omega) (by omega);rw[j4 hn];omega
theorem AV(j:Rn)(k:Pl)(i:Nat)(st:St)(h0:st.run j≠[]):runs g s i (.name j k) st=runs g s (jr s i) (.plain k) (st.eI j (st.run j++Ch.bytes s i (jr s i-i)) (st.fD j)):=by
 have hl:¬(st.run j).length=0:=by simpa using h0
 by_cases h:vx (cur s i)=true
 ·have hp:=mj h;have hc:=fp hp;have e:b_ (.name j k) i st (cur s i)=⟨st.put j (cur s i) i,.go (.name j k)⟩:=by simp only[b_,stName];unfold vx at h;rw[if_neg hl,if_pos h]
  rw[fC e hp];have ep:st.put j (cur s i) i=st.eI j (st.run j++Ch.bytes s i (wid s i)) (st.fD j):=by unfold St.put;rw[if_neg hl,mh hp]
  have hg:=pU s (i+wid s i);rw[AV j k (i+wid s i) _ (by rw[ep];simp[St.eI,h0]),j4 h,ep];congr 1;simp only[St.eI,if_true];rw[bt,px,show wid s i+(jr s (i+wid s i)-(i+wid s i))=jr s (i+wid s i)-i by omega];congr 1
  ·funext m;split<;>rfl
  ·funext m;split<;>rfl
 ·rw[pT h];have e0:st.eI j (st.run j++Ch.bytes s i (i-i)) (st.fD j)=st:=by
   have:Ch.bytes s i (i-i)=[]:=by unfold Ch.bytes;simp
   rw[this,aM];unfold St.eI;congr 1
   ·funext m;split
    ·rename_i e;rw[e]
    ·rfl
   ·funext m;split
    ·rename_i e;rw[e]
    ·rfl
  rw[e0];refine nD ?_ rfl (fun _=>rfl);simp only[b_,stName];rw[if_neg hl];unfold vx at h;rw[if_neg h]
termination_by s.size-i
end
section
variable{g:St->List Tok}{s:ByteArray}{i:Nat}{pt jT:Part}{st iG:St}{no q c:Int}{x y:Sc}
def Alike(s:ByteArray)(x y:Sc)(A:List Tok×Int×Int)(B:Nat->List Tok×Int×Int):Prop:=
 (y.err=0/\x.i<=y.i/\y.i<=s.size/\y={x with i:=y.i}/\A=B y.i)\/(y.err≠0/\y.l=x.l/\A=(x.l,y.err,y.at_))
theorem Alike.wrong(he:x.err=0){A:List Tok×Int×Int}{B:Nat->List Tok×Int×Int}(h:A=(x.l,Tk.why (cur s x.i),(x.i:Int))):Alike s x (x.wrong s) A B:=by
 rw[h_ he];refine Or.inr ⟨?_,rfl,h⟩;show Tk.why _≠0;unfold Tk.why;split<;>omega
def Plain(l:List UInt8):Prop:=∀c∈l,32<=c.toNat/\c.toNat<128
instance (l:List UInt8):Decidable (Plain l):=by unfold Plain;infer_instance
theorem J4{l:List UInt8}(hl:Plain l):∀i,Ch.has s i l=true↔∀k (h:k<l.length),cur s (i+k)=((l[k]).toNat:Int):=by
 induction l with
 |nil=>intro i;simp[Ch.has]
 |cons c l ih=>
  intro i;have hc:=hl c (by simp);have ih':=ih (fun d hd=>hl d (by simp[hd]));simp only[Ch.has,aV,bG];rw[ih'];have hb:Ch.bz s i=(c.toNat:Int)↔cur s i=(c.toNat:Int):=by
   rw[jY (Or.inr (Or.inr (Or.inr hc)))];unfold Ch.bz;split
   ·rename_i h;simp only[h,dG];omega
   ·rename_i h;simp only[h,false_and,iff_false];omega
  rw[hb];constructor
  ·rintro⟨h1,h2⟩ k hk;cases k with
   |zero=>simpa using h1
   |succ k=>
    have:=h2 k (by simpa using hk);simpa [cK,Nat.add_comm 1 k]using this
  ·intro h;refine⟨h 0 (by simp),fun k hk=>?_⟩;have:=h (k+1) (by simpa using hk);simpa [cK,Nat.add_comm 1 k]using this
theorem H9(x:Sc)(s t:ByteArray)(h0:t.size≠0):x.stands s t=Ch.has s x.i t.data.toList:=by
 rw[<-Ch.pJ,bK,List.isPrefixOf_iff_prefix,List.prefix_iff_eq_take];unfold Sc.stands;simp only[aV,aW,bG];rw[Lib.toList_data,Lib.toList_data,ij];unfold Ch.bytes;have hz:t.data.toList.length=t.size:=by simp
 rw[show x.i+t.size-x.i=t.size by omega,hz];constructor
 ·rintro⟨_,h⟩;exact h.symm
 ·intro h;refine⟨?_,h.symm⟩;have:=aA List.length h;rw[hz,bM,cU]at this;have h2:s.data.toList.length=s.size:=by simp
  omega
theorem vR(k:Pl):∀(l:List UInt8) (x:Sc),l≠[]->Plain l->x.err=0->x.i<=s.size->st.told=x.l->Alike s x (Sc.eZ s l x) (runs g s x.i (.word l k) st) (fun j=>runs g s j (.plain k) st):=by
 intro l;induction l with
 |nil=>intro x h;exact absurd rfl h
 |cons c l ih=>
  intro x _ hl he hi ht;have hc:=hl c (by simp);simp only[Sc.eZ];rw[if_pos he];by_cases hq:cur s x.i=(c.toNat:Int)
  ·have h0:0<=cur s x.i:=by omega
   have hp:=fp h0;have hw:=fO h0 (by omega);rw[if_pos ((jZ he (Or.inr (Or.inr (Or.inr hc)))).2 hq)];by_cases hn:l=[]
   ·subst hn;have e:b_ (.word [c] k) x.i st (cur s x.i)=⟨st,.go (.plain k)⟩:=by simp[b_,lT,hq]
    rw[fC e h0,hw];exact Or.inl ⟨he,Nat.le_succ _,by show x.i+1<=_;omega,rfl,rfl⟩
   ·have e:b_ (.word (c::l) k) x.i st (cur s x.i)=⟨st,.go (.word l k)⟩:=by simp[b_,lT,hq,hn]
    rw[fC e h0,hw];rcases ih {x with i:=x.i+1} hn (fun d hd=>hl d (by simp[hd])) he (by show x.i+1<=_;omega) ht with⟨h1,h2,h3,h4,h5⟩|⟨h1,h2,h3⟩
    ·refine Or.inl ⟨h1,?_,h3,?_,h5⟩
     ·have JJ:x.i+1<=_:=h2;omega
     ·rw[h4]
    ·exact Or.inr ⟨h1,h2,h3⟩
  ·have hf:x.is s c.toNat=false:=by
    have:=mt (jZ (s:=s) he (Or.inr (Or.inr (Or.inr hc)))).1 hq;simpa using this
   rw[if_neg (by rw[hf];simp),ja s l (fx x s he)];refine Alike.wrong he ?_;have e:b_ (.word (c::l) k) x.i st (cur s x.i)=⟨st,.fail (Tk.why (cur s x.i)) x.i⟩:=by simp[b_,lT,hq]
   rw[gb e,ht]
theorem nW(s t:ByteArray)(fY f:Nat)(x:Sc)(he:x.err=0)(hz:t.size≠0):gu s t fY (f+1) x=if Ch.has s x.i t.data.toList=true then({x with i:=x.i+t.size},s.extract fY x.i)else if 0<=cur s x.i then gu s t fY f {x with i:=x.i+wid s x.i}else gu s t fY f (x.wrong s):=by
 simp only[gu];rw[if_pos he,H9 _ _ _ hz];split
 ·rfl
 ·by_cases h:0<=cur s x.i
  ·rw[if_neg (by rw[qY];simpa using h),if_pos h,CR,if_pos h];simp
  ·rw[if_pos ((qY s x.i).2 h),if_neg h]
theorem jy(s t:ByteArray)(fY f:Nat)(x:Sc)(he:x.err≠0):gu s t fY f x=(x,⟨#[]⟩):=by
 cases f with
 |zero=>rfl
 |succ f=>simp only[gu];rw[if_neg he]
theorem Uk{a b:UInt8}(hp:Plain [a,b])(i:Nat):Ch.has s i [a,b]=true↔cur s i=(a.toNat:Int)/\cur s (i+1)=(b.toNat:Int):=by
 rw[J4 hp];constructor
 ·intro h;exact⟨h 0 (by simp),h 1 (by simp)⟩
 ·rintro⟨h1,h2⟩ k hk
  match k,hk with
  |0,_=>exact h1
  |1,_=>exact h2
theorem Alike.on{A:List Tok×Int×Int}{B:Nat->List Tok×Int×Int}{j:Nat}(h:Alike s {x with i:=j} y A B)(hj:x.i<=j):Alike s x y A B:=by
 rcases h with⟨h1,h2,h3,h4,h5⟩|⟨h1,h2,h3⟩
 ·refine Or.inl ⟨h1,aw hj h2,h3,?_,h5⟩;rw[h4]
 ·exact Or.inr ⟨h1,h2,h3⟩
theorem E0(a b:UInt8)(A B:Pl)(K:Part)(hp:Plain [a,b])(hA:∀q c,step A q st c=if c=(a.toNat:Int)then⟨st,.go (.plain B)⟩else if c<0 then⟨st,.fail (Tk.why c) q⟩else⟨st,.go (.plain A)⟩)
  (hB:∀q c,step B q st c=if c=(b.toNat:Int)then⟨st,.go K⟩else step A q st c) (fY:Nat):∀(f:Nat) (x:Sc),x.err=0->x.i<=s.size->s.size+1<x.i+f->st.told=x.l->
  Alike s x (gu s ⟨#[a,b]⟩ fY f x).1 (runs g s x.i (.plain A) st) (fun j=>runs g s j K st):=by
 have ha:=hp a (by simp);have hb:=hp b (by simp);intro f;induction f with
 |zero=>intro x he hi hf;omega
 |succ f ih=>
  intro x he hi hf ht;rw[nW _ _ _ _ _ he (by show 2≠0;decide)];have hh:=Uk (s:=s) hp x.i;by_cases h0:0<=cur s x.i
  ·have hp:=fp h0;by_cases h45:cur s x.i=(a.toNat:Int)
   ·have hw:=fO h0 (by omega);have e:b_ (.plain A) x.i st (cur s x.i)=⟨st,.go (.plain B)⟩:=by simp only[b_];rw[hA,if_pos h45]
    rw[fC e h0,hw];by_cases Ul:cur s (x.i+1)=(b.toNat:Int)
    ·have ZY:=fp (s:=s) (i:=x.i+1) (by omega);have hw':=fO (s:=s) (i:=x.i+1) (by omega) (by omega);have e2:b_ (.plain B) ((x.i+1:Nat):Int) st (cur s (x.i+1))=⟨st,.go K⟩:=by simp only[b_];rw[hB,if_pos Ul]
     rw[if_pos (hh.2 ⟨h45,Ul⟩),fC e2 (by omega),hw'];exact Or.inl ⟨he,by show x.i<=x.i+2;omega,by show x.i+2<=_;omega,rfl,rfl⟩
    ·rw[if_neg (fun h=>Ul (hh.1 h).2),if_pos h0];have e2:runs g s (x.i+1) (.plain B) st=runs g s (x.i+1) (.plain A) st:=nD (by simp only[b_];rw[hB,if_neg Ul]) rfl (fun _=>rfl);rw[e2];exact(ih {x with i:=x.i+1} he (by show x.i+1<=_;omega) (by show _<x.i+1+f;omega) ht).on (by omega)
   ·rw[if_neg (fun h=>h45 (hh.1 h).1),if_pos h0];have e:b_ (.plain A) x.i st (cur s x.i)=⟨st,.go (.plain A)⟩:=by simp only[b_];rw[hA,if_neg h45,if_neg (by omega)]
    rw[fC e h0];exact(ih {x with i:=x.i+wid s x.i} he (by show x.i+wid s x.i<=_;omega) (by show _<x.i+wid s x.i+f;omega) ht).on (by omega)
  ·rw[if_neg (fun h=>by have:=(hh.1 h).1;omega),if_neg h0,jy _ _ _ _ _ (fx x s he)];refine Alike.wrong he ?_;have e:b_ (.plain A) x.i st (cur s x.i)=⟨st,.fail (Tk.why (cur s x.i)) x.i⟩:=by simp only[b_];rw[hA,if_neg (by omega),if_pos (by omega)]
   rw[gb e,ht]
theorem E3(fY f:Nat)(x:Sc)(he:x.err=0)(hi:x.i<=s.size)(hf:s.size+1<x.i+f)(ht:st.told=x.l):
  Alike s x (gu s ⟨#[45,45]⟩ fY f x).1 (runs g s x.i (.plain .remark) st) (fun j=>runs g s j (.word [62] .between) st):=
 E0 45 45 .remark .CC _ (by decide) (fun _ _=>rfl) (fun _ _=>rfl) fY f x he hi hf ht
theorem H_(fY f:Nat)(x:Sc)(he:x.err=0)(hi:x.i<=s.size)(hf:s.size+1<x.i+f)(ht:st.told=x.l):
  Alike s x (gu s ⟨#[63,62]⟩ fY f x).1 (runs g s x.i (.plain .order) st) (fun j=>runs g s j (.plain .between) st):=
 E0 63 62 .order .mark _ (by decide) (fun _ _=>rfl) (fun _ _=>rfl) fY f x he hi hf ht
end
section
variable{g:St->List Tok}{s:ByteArray}{i:Nat}{pt jT:Part}{st iG:St}{no q c:Int}{x y:Sc}
theorem q8(st:St)(j:Rn):st.eI j (st.run j) (st.fD j)=st:=by
 unfold St.eI;congr 1
 ·funext m;split
  ·rename_i e;rw[e]
  ·rfl
 ·funext m;split
  ·rename_i e;rw[e]
  ·rfl
theorem ko(st:St)(j:Rn)(l l':List UInt8)(a a':Int):(st.eI j l a).eI j l' a'=st.eI j l' a':=by
 unfold St.eI;congr 1
 ·funext m;simp only[];split<;>rfl
 ·funext m;simp only[];split<;>rfl
def St.upto(st:St)(s:ByteArray)(j:Rn)(fY k:Nat):St:=st.eI j (st.run j++Ch.bytes s fY (k-fY)) (if st.run j=[]/\fY<k then(fY:Int)else st.fD j)
theorem AW(st:St)(s:ByteArray)(j:Rn)(fY:Nat):st.upto s j fY fY=st:=by
 unfold St.upto;rw[if_neg (by omega)];have:Ch.bytes s fY (fY-fY)=[]:=by unfold Ch.bytes;simp
 rw[this,aM,q8]
theorem uM(s:ByteArray){i n:Nat}(h:i+n<=s.size)(hn:1<=n):Ch.bytes s i n≠[]:=by
 intro e;have:=aA List.length e;unfold Ch.bytes at this;have hz:s.data.toList.length=s.size:=by simp
 rw[bM,cU,hz]at this;simp at this;omega
theorem E5(st:St)(s:ByteArray)(j:Rn)(fY k:Nat)(hk:fY<=k)(h:0<=cur s k):(st.upto s j fY k).put j (cur s k) k=st.upto s j fY (k+wid s k):=by
 have hc:=fp h;unfold St.put;rw[mh h];unfold St.upto;rw[ko];simp only[St.eI,if_true];rw[bt];have hb:Ch.bytes s fY (k-fY)++Ch.bytes s k (wid s k)=Ch.bytes s fY (k+wid s k-fY):=by
  have:=px s fY (k-fY) (wid s k);rw[show fY+(k-fY)=k by omega]at this;rw[this];congr 1;omega
 rw[hb];congr 1;funext m;split
 ·by_cases h0:st.run j=[]
  ·rw[h0];by_cases hf:fY<k
   ·have hne:=uM s (i:=fY) (n:=k-fY) (by omega) (by omega);rw[if_neg (by simpa using hne),if_pos ⟨rfl,hf⟩,if_pos ⟨rfl,by omega⟩]
   ·have e:fY=k:=by omega
    subst e;have:Ch.bytes s fY (fY-fY)=[]:=by unfold Ch.bytes;simp
    rw[this,if_pos (by simp),if_pos ⟨rfl,by omega⟩]
  ·rw[if_neg (by simp[h0]),if_neg (fun e=>h0 e.1),if_neg (fun e=>h0 e.1)]
 ·rfl
theorem LY(st:St)(s:ByteArray)(j:Rn)(fY k:Nat):(st.upto s j fY k).told=st.told:=rfl
theorem LZ{a b d:UInt8}(hp:Plain [a,b,d])(i:Nat):Ch.has s i [a,b,d]=true↔cur s i=(a.toNat:Int)/\cur s (i+1)=(b.toNat:Int)/\cur s (i+2)=(d.toNat:Int):=by
 rw[J4 hp];constructor
 ·intro h;exact⟨h 0 (by simp),h 1 (by simp),h 2 (by simp)⟩
 ·rintro⟨h1,h2,h3⟩ k hk
  match k,hk with
  |0,_=>exact h1
  |1,_=>exact h2
  |2,_=>exact h3
theorem CT(fY:Nat):∀(f:Nat) (x:Sc),x.err=0->x.i<=s.size->fY<=x.i->s.size+1<x.i+f->st.told=x.l->
  Alike s x (gu s ⟨#[93,93,62]⟩ fY f x).1 (runs g s x.i (.plain .iu) (st.upto s .text fY x.i)) (fun j=>runs g s j (.plain .between) (st.upto s .text fY (j-3))):=by
 intro f;induction f with
 |zero=>intro x he hi hg hf;omega
 |succ f ih=>
  intro x he hi hg hf ht;rw[nW _ _ _ _ _ he (by show 3≠0;decide)];have hh:Ch.has s x.i [93,93,62]=true↔cur s x.i=93/\cur s (x.i+1)=93/\cur s (x.i+2)=62:=LZ (s:=s) (by decide) x.i;by_cases h0:0<=cur s x.i
  ·have hp:=fp h0;by_cases h1:cur s x.i=93
   ·have hw:=fO h0 (by omega);have e:b_ (.plain .iu) x.i (st.upto s .text fY x.i) (cur s x.i)=⟨st.upto s .text fY x.i,.go (.plain .bracket)⟩:=by simp only[b_,step,fR];rw[if_pos h1]
    have hput:=E5 st s .text fY x.i hg h0;rw[hw,h1]at hput;rw[fC e h0];have key:¬(cur s (x.i+1)=93/\cur s (x.i+2)=62)->runs g s (x.i+wid s x.i) (.plain .bracket) (st.upto s .text fY x.i)=runs g s (x.i+1) (.plain .iu) (st.upto s .text fY (x.i+1)):=by
     intro hno;rw[hw];by_cases h2:cur s (x.i+1)=93
     ·have hw2:=fO (s:=s) (i:=x.i+1) (by omega) (by omega);have e2:b_ (.plain .bracket) ((x.i+1:Nat):Int) (st.upto s .text fY x.i) (cur s (x.i+1))=⟨st.upto s .text fY x.i,.go (.plain .brackets)⟩:=by simp only[b_,step,fS];rw[if_pos h2]
      have e3:b_ (.plain .iu) ((x.i+1:Nat):Int) (st.upto s .text fY (x.i+1)) (cur s (x.i+1))=⟨st.upto s .text fY (x.i+1),.go (.plain .bracket)⟩:=by simp only[b_,step,fR];rw[if_pos h2]
      rw[fC e2 (by omega),fC e3 (by omega),hw2];have h3:¬cur s (x.i+2)=62:=fun e=>hno ⟨h2,e⟩;refine nD ?_ rfl (fun⟨o,h⟩=>by cases tF h);simp only[b_,step];rw[show x.i+1+1=x.i+2 by omega,if_neg h3,show ((x.i+2:Nat):Int)-2=(x.i:Int) by omega,hput]
     ·refine nD ?_ rfl (fun⟨o,h⟩=>by cases tF h);simp only[b_,step,fS];rw[if_neg h2,show ((x.i+1:Nat):Int)-1=(x.i:Int) by omega,hput]
    by_cases hs:cur s (x.i+1)=93/\cur s (x.i+2)=62
    ·rw[if_pos (hh.2 ⟨h1,hs⟩)];have hw2:=fO (s:=s) (i:=x.i+1) (by omega) (by omega);have hw3:=fO (s:=s) (i:=x.i+2) (by omega) (by omega);have Vp:=fp (s:=s) (i:=x.i+2) (by omega);have e2:b_ (.plain .bracket) ((x.i+1:Nat):Int) (st.upto s .text fY x.i) (cur s (x.i+1))=⟨st.upto s .text fY x.i,.go (.plain .brackets)⟩:=by simp only[b_,step,fS];rw[if_pos hs.1]
     have e3:b_ (.plain .brackets) ((x.i+1+1:Nat):Int) (st.upto s .text fY x.i) (cur s (x.i+1+1))=⟨st.upto s .text fY x.i,.go (.plain .between)⟩:=by simp only[b_,step];rw[if_pos hs.2]
     rw[hw,fC e2 (by omega),hw2,fC e3 (by show 0<=cur s (x.i+2);omega)];refine Or.inl ⟨he,by show x.i<=x.i+3;omega,by show x.i+3<=_;omega,rfl,?_⟩;show _=runs g s (x.i+3) _ (st.upto s .text fY (x.i+3-3));rw[show x.i+3-3=x.i by omega,show x.i+1+1+wid s (x.i+1+1)=x.i+3 by have:wid s (x.i+1+1)=wid s (x.i+2):=rfl;omega]
    ·rw[if_neg (fun h=>hs (hh.1 h).2),if_pos h0,key hs,hw];exact(ih {x with i:=x.i+1} he (by show x.i+1<=_;omega) (by show fY<=x.i+1;omega) (by show _<x.i+1+f;omega) ht).on (by omega)
   ·rw[if_neg (fun h=>h1 (hh.1 h).1),if_pos h0];have e:b_ (.plain .iu) x.i (st.upto s .text fY x.i) (cur s x.i)=⟨st.upto s .text fY (x.i+wid s x.i),.go (.plain .iu)⟩:=by simp only[b_,step,fR];rw[if_neg h1,if_neg (by omega),E5 st s .text fY x.i hg h0]
    rw[fC e h0];exact(ih {x with i:=x.i+wid s x.i} he (by show x.i+wid s x.i<=_;omega) (by show fY<=x.i+wid s x.i;omega) (by show _<x.i+wid s x.i+f;omega) ht).on (by omega)
  ·rw[if_neg (fun h=>by have:=(hh.1 h).1;omega),if_neg h0,jy _ _ _ _ _ (fx x s he)];refine Alike.wrong he ?_;have e:b_ (.plain .iu) x.i (st.upto s .text fY x.i) (cur s x.i)=⟨st.upto s .text fY x.i,.fail (Tk.why (cur s x.i)) x.i⟩:=by simp only[b_,step,fR];rw[if_neg (by omega),if_pos (by omega)]
   rw[gb e,LY,ht]
theorem yO(s t:ByteArray)(hz:t.size≠0)(fY:Nat):∀(f:Nat) (x:Sc),x.err=0->(gu s t fY f x).1.err=0->s.size+1<x.i+f->x.i<=s.size->(gu s t fY f x).2=s.extract fY ((gu s t fY f x).1.i-t.size)/\x.i+t.size<=(gu s t fY f x).1.i:=by
 intro f;induction f with
 |zero=>intro x he h1 h2;omega
 |succ f ih=>
  intro x he h1 h2 hi;rw[nW _ _ _ _ _ he hz]at h1 ⊢;split
  ·simp
  ·rename_i hn;rw[if_neg hn]at h1;split
   ·rename_i h0;rw[if_pos h0]at h1;have hp:=fp h0;have:=ih {x with i:=x.i+wid s x.i} he h1 (by show _<x.i+wid s x.i+f;omega) (by show x.i+wid s x.i<=_;omega);refine⟨this.1,?_⟩;have h3:x.i+wid s x.i+t.size<=_:=this.2;omega
   ·rename_i h0;rw[if_neg h0,jy _ _ _ _ _ (fx x s he)]at h1;exact absurd h1 (fx x s he)
end
section
def inside(c:Int):Prop:=Tk.qj c=true/\c≠59
instance (c:Int):Decidable (inside c):=by unfold inside;infer_instance
namespace Ch
open Go.Proofs.YthlcmljckpdheaaGreatDoor.Ch
theorem Ia{b r:Int}(hb:b<=16)(h:¬b<=mM 16 r):inside r:=by
 have hd:(48<=r/\r<=57)\/(97<=r/\r<=102)\/(65<=r/\r<=70):=by
  unfold mM at h;split at h
  ·left;assumption
  ·split at h
   ·right;left;assumption
   ·split at h
    ·right;right;assumption
    ·omega
 refine⟨?_,by omega⟩;unfold Tk.qj;simp only[bE,aV,bG,aW,fT,jh];omega
theorem L0(u:ByteArray)(b:Int)(hb:b<=16):∀f pos n,(eY u b f pos n).2≠0->
  ∃e:Nat,(eY u b f pos n).2=(e:Int)+1/\pos<=e/\bz u e=59/\∀j,pos<=j->j<e->inside (bz u j):=by
 intro f;induction f with
 |zero=>intro pos n h;exact absurd rfl h
 |succ f ih=>
  intro pos n;rw[eY.eq_2];split
  ·rename_i nQ;split
   ·intro _;exact⟨pos,rfl,aj _,nQ,fun j h1 h2=>by omega⟩
   ·intro h;exact absurd rfl h
  ·split
   ·intro h;exact absurd rfl h
   ·rename_i hd;intro h;obtain⟨e,h1,h2,h3,h4⟩:=ih (pos+1) _ h;refine⟨e,h1,by omega,h3,fun j YP Vy=>?_⟩;by_cases e:j=pos
    ·subst e;exact Ia hb hd
    ·exact h4 j (by omega) Vy
theorem PW(u v:ByteArray)(b:Int)(hb:b<=16):∀(f g pos:Nat) (n:Int),(eY u b f pos n).2≠0->(∀j:Nat,pos<=j->(j:Int)<(eY u b f pos n).2->bz v j=bz u j)->v.size<pos+g->
  eY v b g pos n=eY u b f pos n:=by
 intro f;induction f with
 |zero=>intro g pos n h;exact absurd rfl h
 |succ f ih=>
  intro g pos n h hs hg;have hlt:(pos:Int)<(eY u b (f+1) pos n).2:=by
   rcases qN u b (f+1) pos n with e|⟨_,h1,_⟩
   ·rw[e]at h;exact absurd rfl h
   ·omega
  have h0:bz v pos=bz u pos:=hs pos (aj _) hlt;rw[eY.eq_2]at h hs ⊢;have Ck:g≠0:=by
   intro e;subst e;have:bz v pos= -1:=by unfold bz;rw[if_neg (by omega)]
   rw[this]at h0;have hx:mM 16 (bz u pos)=16:=JS _ (by omega);rw[if_neg (by omega),if_pos (by omega)]at h;exact absurd rfl h
  obtain⟨g,rfl⟩:∃k,g=k+1:=⟨g-1,by omega⟩
  rw[eY.eq_2 v,h0];split
  ·rfl
  ·rename_i nQ;rw[if_neg nQ]at h hs;split
   ·rfl
   ·rename_i hx;rw[if_neg hx]at h hs;exact ih g (pos+1) _ h (fun j h1 h2=>hs j (by omega) h2) (by omega)
theorem yP(u v:ByteArray)(p:Nat)(b:Int)(hb:b<=16)(h:(fZ u p b).2≠0)(hs:∀j:Nat,p<=j->(j:Int)<p+(fZ u p b).2->bz v j=bz u j):fZ v p b=fZ u p b:=by
 unfold fZ at h hs ⊢;split at h
 ·exact absurd rfl h
 ·rename_i hz;rw[if_neg hz]at hs ⊢;have e:=PW u v b hb _ (v.size-p+1) p 0 hz (fun j h1 h2=>hs j h1 (by simp only;omega)) (by omega);rw[e,if_neg hz]
theorem E6{s:ByteArray}{p:Nat}{b:Int}(hb:b<=16)(h:(fZ s p b).2≠0):∃e:Nat,(p:Int)+(fZ s p b).2=(e:Int)+1/\p<=e/\bz s e=59/\∀j,p<=j->j<e->inside (bz s j):=by
 unfold fZ at*
 split at h
 ·exact absurd rfl h
 ·rename_i hz;rw[if_neg hz];obtain⟨e,h1,h2⟩:=L0 s b hb _ _ _ hz;exact⟨e,by simp only;omega,h2⟩
theorem wM{s:ByteArray}{i:Nat}(h:(eU s i).2≠0):∃e:Nat,(i:Int)+(eU s i).2=(e:Int)+1/\i<e/\bz s e=59/\∀j,i<j->j<e->inside (bz s j):=by
 have key:∀(l:List UInt8) (m:Nat),l.length=m+1->has s i l=true->1<=m->l[m]?=some 59->(∀k,1<=k->k<m->∀c,l[k]?=some c->inside (c.toNat:Int))->∃e:Nat,(i:Int)+(l.length:Int)=(e:Int)+1/\i<e/\bz s e=59/\∀j,i<j->j<e->inside (bz s j):=by
  intro l m hl hh hm nQ vv;have hb:=nR s l i hh;refine⟨i+m,by omega,by omega,?_,?_⟩
  ·have:=hb m (by omega);rw[ap (by omega)]at nQ;cases acm:l[m];simp_all
  ·intro j h1 h2;have:=hb (j-i) (by omega);rw[show i+(j-i)=j by omega]at this;rw[this];exact vv (j-i) (by omega) (by omega) _ (ap (by omega))
 have ZZ:∀(k:Nat) (b:Int) (l:List UInt8),2<=k->b<=16->l.length=k->has s i l=true->(∀j,1<=j->j<k->∀c,l[j]?=some c->inside (c.toNat:Int))->(fZ s (i+k) b).2≠0->∃e:Nat,(i:Int)+((k:Int)+(fZ s (i+k) b).2)=(e:Int)+1/\i<e/\bz s e=59/\∀j,i<j->j<e->inside (bz s j):=by
  intro k b l hk hb hl hh vv hn;obtain⟨e,h1,h2,h3,h4⟩:=E6 hb hn;have hz:=nR s l i hh;refine⟨e,by omega,by omega,h3,fun j YP Vy=>?_⟩;by_cases hj:i+k<=j
  ·exact h4 j hj Vy
  ·have:=hz (j-i) (by omega);rw[show i+(j-i)=j by omega]at this;rw[this];exact vv (j-i) (by omega) (by omega) _ (ap (by omega))
 unfold eU at h ⊢;split
 ·rename_i hh;exact key _ 3 rfl hh (by decide) rfl (by intro k h1 h2 c hc;have:k=1\/k=2:=(by omega);rcases this with rfl|rfl<;>(simp at hc;subst hc;decide))
 rename_i n1;rw[if_neg n1]at h;split
 ·rename_i hh;exact key _ 3 rfl hh (by decide) rfl (by intro k h1 h2 c hc;have:k=1\/k=2:=(by omega);rcases this with rfl|rfl<;>(simp at hc;subst hc;decide))
 rename_i n2;rw[if_neg n2]at h;split
 ·rename_i hh;exact key _ 4 rfl hh (by decide) rfl (by intro k h1 h2 c hc;have:k=1\/k=2\/k=3:=(by omega);rcases this with rfl|rfl|rfl<;>(simp at hc;subst hc;decide))
 rename_i n3;rw[if_neg n3]at h;split
 ·rename_i hh;exact key _ 5 rfl hh (by decide) rfl (by intro k h1 h2 c hc;have:k=1\/k=2\/k=3\/k=4:=(by omega);rcases this with rfl|rfl|rfl|rfl<;>(simp at hc;subst hc;decide))
 rename_i n4;rw[if_neg n4]at h;split
 ·rename_i hh;exact key _ 5 rfl hh (by decide) rfl (by intro k h1 h2 c hc;have:k=1\/k=2\/k=3\/k=4:=(by omega);rcases this with rfl|rfl|rfl|rfl<;>(simp at hc;subst hc;decide))
 rename_i n5;rw[if_neg n5]at h;split
 ·rename_i hh;rw[if_pos hh]at h;split at h
  ·exact absurd rfl h
  ·rename_i hn;rw[if_neg hn];exact ZZ 3 16 _ (by decide) (by decide) rfl hh (by intro k h1 h2 c hc;have:k=1\/k=2:=(by omega);rcases this with rfl|rfl<;>(simp at hc;subst hc;decide)) hn
 rename_i n6;rw[if_neg n6]at h;split
 ·rename_i hh;rw[if_pos hh]at h;split at h
  ·exact absurd rfl h
  ·rename_i hn;rw[if_neg hn];exact ZZ 2 10 _ (by decide) (by decide) rfl hh (by intro k h1 h2 c hc;have:k=1:=(by omega);subst this;simp at hc;subst hc;decide) hn
 ·rename_i n7;rw[if_neg n7]at h;exact absurd rfl h
theorem PX{s:ByteArray}{l:List UInt8}{i:Nat}:has s i l=true↔∀k (h:k<l.length),bz s (i+k)=((l[k]).toNat:Int):=by
 refine⟨nR s l i,?_⟩;induction l generalizing i with
 |nil=>intro _;rfl
 |cons c l ih=>
  intro h;simp only[has,aV,bG];refine⟨h 0 (by simp),ih fun k hk=>?_⟩;have:=h (k+1) (by simpa using hk);simpa [cK,Nat.add_comm 1 k]using this
theorem uN{u v:ByteArray}{l:List UInt8}{n:Nat}(hl:l.length<=n)(hs:∀j:Nat,j<n->bz v j=bz u j):has v 0 l=has u 0 l:=by
 rw[bK,PX,PX];constructor
 ·intro h k hk;rw[<-hs (0+k) (by omega)];exact h k hk
 ·intro h k hk;rw[hs (0+k) (by omega)];exact h k hk
theorem J5{s:ByteArray}{i:Nat}{l:List UInt8}(k:Nat)(hk:k<l.length)(h:bz s (i+k)≠((l[k]).toNat:Int)):¬has s i l=true:=fun e=>h (nR s l i e k hk)
theorem yQ{u v:ByteArray}(h:(eU u 0).2≠0)(hs:∀j:Nat,(j:Int)<(eU u 0).2->bz v j=bz u j):eU v 0=eU u 0:=by
 have h4:=(jk h).2.1;have s0:=hs 0 (by omega);have s1:=hs 1 (by omega);have s2:=hs 2 (by omega);have s3:=hs 3 (by omega);have q:∀l:List UInt8,l.length<=4->has v 0 l=has u 0 l:=fun l hl=>uN (n:=4) hl (fun j hj=>hs j (by omega));have hq1:=q [38,108,116,59] (by decide);have hq2:=q [38,103,116,59] (by decide);have hq6:=q [38,35,120] (by decide);have hq7:=q [38,35] (by decide);unfold eU at h hs ⊢;rw[hq1,hq2,hq6,hq7];by_cases n1:has u 0 [38,108,116,59]=true
 ·rw[if_pos n1,if_pos n1]
 rw[if_neg n1]at h hs ⊢;rw[if_neg n1];by_cases n2:has u 0 [38,103,116,59]=true
 ·rw[if_pos n2,if_pos n2]
 rw[if_neg n2]at h hs ⊢;rw[if_neg n2];have other:∀(l:List UInt8) (c:UInt8),l[1]?=some c->bz u 1≠(c.toNat:Int)->¬has v 0 l=true:=by
  intro l c hc hne;have hk:1<l.length:=by
   by_cases hk:1<l.length
   ·exact hk
   ·rw[List.getElem?_eq_none (by omega)]at hc;cases hc
  refine J5 1 hk ?_;rw[ap hk]at hc;cases hc;rw[ax,s1];exact hne
 by_cases n3:has u 0 [38,97,109,112,59]=true
 ·rw[if_pos n3]at hs ⊢;have e3:has v 0 [38,97,109,112,59]=true:=(uN (n:=5) (by decide) (fun j hj=>hs j (by simp only;omega))).trans n3;rw[if_pos e3]
 rw[if_neg n3]at h hs ⊢;by_cases n4:has u 0 [38,113,117,111,116,59]=true
 ·have hb:=nR u _ 0 n4 1 (by decide);rw[if_pos n4]at hs ⊢;have e4:has v 0 [38,113,117,111,116,59]=true:=(uN (n:=6) (by decide) (fun j hj=>hs j (by simp only;omega))).trans n4;rw[if_neg (other _ 97 rfl (by rw[ax]at hb;rw[hb];decide)),if_pos e4]
 rw[if_neg n4]at h hs ⊢;by_cases n5:has u 0 [38,97,112,111,115,59]=true
 ·have hb:=nR u _ 0 n5 1 (by decide);have hb2:=nR u _ 0 n5 2 (by decide);rw[if_pos n5]at hs ⊢;have e5:has v 0 [38,97,112,111,115,59]=true:=(uN (n:=6) (by decide) (fun j hj=>hs j (by simp only;omega))).trans n5;have x3:¬has v 0 [38,97,109,112,59]=true:=J5 2 (by decide) (by rw[ax,s2];rw[ax]at hb2;rw[hb2];decide);rw[if_neg x3,if_neg (other _ 113 rfl (by rw[ax]at hb;rw[hb];decide)),if_pos e5]
 rw[if_neg n5]at h hs ⊢;by_cases n6:has u 0 [38,35,120]=true
 ·have hb:=nR u _ 0 n6 1 (by decide);rw[ax]at hb;have hb':bz u 1=35:=hb;rw[if_pos n6]at h hs ⊢;rw[if_neg (other _ 97 rfl (by rw[hb'];decide)),if_neg (other _ 113 rfl (by rw[hb'];decide)),if_neg (other _ 97 rfl (by rw[hb'];decide)),if_pos n6];by_cases hz:(fZ u (0+3) 16).2=0
  ·rw[if_pos hz]at h;exact absurd rfl h
  ·rw[if_neg hz]at hs;rw[yP u v (0+3) 16 (by decide) hz (fun j h1 h2=>hs j (by simp only;omega))]
 rw[if_neg n6]at h hs ⊢;by_cases n7:has u 0 [38,35]=true
 ·have hb:=nR u _ 0 n7 1 (by decide);rw[ax]at hb;have hb':bz u 1=35:=hb;rw[if_pos n7]at h hs ⊢;rw[if_neg (other _ 97 rfl (by rw[hb'];decide)),if_neg (other _ 113 rfl (by rw[hb'];decide)),if_neg (other _ 97 rfl (by rw[hb'];decide)),if_neg n6,if_pos n7];by_cases hz:(fZ u (0+2) 10).2=0
  ·rw[if_pos hz]at h;exact absurd rfl h
  ·rw[if_neg hz]at hs;rw[yP u v (0+2) 10 (by decide) hz (fun j h1 h2=>hs j (by simp only;omega))]
 ·rw[if_neg n7]at h;exact absurd rfl h
end Ch
end
section
variable{g:St->List Tok}{s:ByteArray}{i:Nat}{pt jT:Part}{st iG:St}{no q c:Int}{x y:Sc}
theorem uO{c:Int}(h:inside c):35<=c/\c<128:=by
 obtain⟨h,_⟩:=h;have:=rT h;simp only[Tk.qj,bE,aV,bG,aW,Ch.fT,Ch.jh]at h;omega
theorem yR{c:Int}(h0:32<=c)(h1:c<128):cur s i=c↔Ch.bz s i=c:=by
 have:=jY (s:=s) (i:=i) (c:=c.toNat) (by omega);rw[show ((c.toNat:Nat):Int)=c by omega]at this;rw[this];unfold Ch.bz;split
 ·rename_i h;simp only[h,dG];omega
 ·rename_i h;simp only[h,false_and,false_iff];omega
theorem E7(s:ByteArray)(i n k:Nat)(h:i+n<=s.size)(hk:k<n):Ch.bz (Ch.txt (Ch.bytes s i n)) k=Ch.bz s (i+k):=by
 rw[Ch.tB];unfold Ch.bytes;rw[List.getElem?_take_of_lt hk,List.getElem?_drop];have hz:s.data.toList.length=s.size:=by simp
 rw[ap (by omega)];unfold Ch.bz;rw[if_pos (by omega)];have hd:i+k<s.data.size:=by have:s.data.size=s.size:=rfl;omega
 have hg:s.get! (i+k)=s.data[i+k]:=getElem!_pos s.data (i+k) hd;rw[hg];simp
theorem Ib(s:ByteArray)(i n:Nat)(h:i+n<=s.size):(Ch.txt (Ch.bytes s i n)).size=n:=by
 rw[Ch.mD];unfold Ch.bytes;have hz:s.data.toList.length=s.size:=by simp
 rw[bM,cU];omega
theorem E8(s:ByteArray)(i p:Nat)(oy:Ch.bz s i=38)(hp:i<p)(nQ:Ch.bz s p=59)(Vz:p<s.size)(vv:∀m,i<m->m<p->inside (Ch.bz s m)):
  ((Ch.eU s i).2≠0->(Ch.eU s i).2=(p+1-i:Nat)/\Ch.kx (Ch.txt (Ch.bytes s i (p+1-i)))=(Lib.encodeRune (Ch.eU s i).1,0,0))/\((Ch.eU s i).2=0->(Ch.kx (Ch.txt (Ch.bytes s i (p+1-i)))).2.1≠0):=by
 have hsz:=Ib s i (p+1-i) (by omega);have YG:=fun k hk=>E7 s i (p+1-i) k (by omega) hk;generalize hv:Ch.txt (Ch.bytes s i (p+1-i))=v at*
 have ht:∀k,k<p+1-i->Ch.bz (Ch.tail s i) k=Ch.bz v k:=fun k hk=>by rw[Ch.uC,YG k hk]
 have v38:Ch.bz v 0=38:=by rw[YG 0 (by omega)];exact oy
 have iM:Ch.gW v 0=true:=by
  have hd:=Ch.gM (s:=v) (i:=0) (by omega) (by omega);unfold Ch.gW;rw[hd,v38];decide
 constructor
 ·intro hn;obtain⟨e,h1,h2,h3,h4⟩:=Ch.wM hn;have he:e=p:=by
   rcases ew e p with hlt|rfl|NJ
   ·exact absurd h3 (vv e h2 hlt).2
   ·rfl
   ·exact absurd nQ (h4 p hp NJ).2
  subst he;have hlen:(Ch.eU s i).2=(e+1-i:Nat):=by omega
  refine⟨hlen,?_⟩;have hr:Ch.eU v 0=Ch.eU s i:=by
   have h5:Ch.eU (Ch.tail s i) 0=Ch.eU s i:=Ch.tk s i;rw[<-h5];rw[<-h5]at hn hlen;exact Ch.yQ hn (fun j hj=>(ht j (by omega)).symm)
  unfold Ch.kx;have hstep:=Ch.Az (s:=v) (f:=v.size) (pos:=0) (acc:=[]) (by omega) iM v38 (by rw[hr];exact hn) rfl;rw[<-hstep,hr,hlen];rw[hsz];obtain⟨g,hg⟩:∃g,e+1-i=g+1:=⟨e-i,by omega⟩
  rw[hg];have hend:=Ch.Ay (s:=v) (f:=g) (pos:=0+((g+1:Nat):Int).toNat) (acc:=[]++Lib.encodeRune (Ch.eU s i).1) (by rw[hsz];simp;omega) rfl;rw[hend];simp
 ·intro hn;have hr:(Ch.eU v 0).2=0:=by
   by_cases h5:(Ch.eU v 0).2=0
   ·exact h5
   ·exfalso;have hsp:=Ch.jk h5;have:=Ch.yQ (u:=v) (v:=Ch.tail s i) h5 (fun j hj=>ht j (by omega));rw[Ch.tk]at this;rw[this]at hn;exact h5 hn
  unfold Ch.kx;have:=Ch.wI (s:=v) (f:=v.size) (pos:=0) (acc:=[]) (by omega) iM v38 hr rfl;rw[this];simp
theorem Ic(st:St)(j:Rn)(q:Int)(hm:Ch.may c=true):st.oW j ⟨(Lib.encodeRune c).toArray⟩ q=st.put j c q:=by
 have hv:=Ch.ig hm;have hd:=Ch.xw hv [];rw[aM]at hd;have hz:(⟨(Lib.encodeRune c).toArray⟩:ByteArray).size=(Lib.encodeRune c).length:=Ch.mD _;have hp:=Ch.Cw c;have hd':Utf8.decode ⟨(Lib.encodeRune c).toArray⟩ 0=(c.toNat,(Lib.encodeRune c).length):=hd;have h0:0<=c:=by have:=(Ch.l7 c).1 hm;omega
 unfold St.oW;obtain⟨g,hg⟩:∃g,(⟨(Lib.encodeRune c).toArray⟩:ByteArray).size=g+1:=⟨_,(by omega:_=((⟨(Lib.encodeRune c).toArray⟩:ByteArray).size-1)+1)⟩
 rw[hg];simp only[gv,hd',hg];rw[if_pos (by omega),if_neg (by omega),show ((c.toNat:Nat):Int)=c by omega]
def AX(g:St->List Tok)(s:ByteArray)(i:Nat)(j:Rn)(k:Pl)(st:St):List Tok×Int×Int:=
 if(Ch.eU s i).2=0 then(st.told,4,(i:Int))else runs g s (i+(Ch.eU s i).2.toNat) (.plain k) ((st.eI .ref (Ch.bytes s i (Ch.eU s i).2.toNat) i).put j (Ch.eU s i).1 i)
theorem L2(j:Rn)(k:Pl)(i:Nat)(st:St)(oy:Ch.bz s i=38):∀(n p:Nat),s.size-p<n->i<p->p<=s.size->(∀m,i<m->m<p->inside (Ch.bz s m))->
  runs g s p (.ref j k) (st.eI .ref (Ch.bytes s i (p-i)) i)=AX g s i j k st:=by
 intro n;induction n with
 |zero=>intro p h;omega
 |succ n ih=>
  intro p hn hp Vz vv;have hne:=uM s (i:=i) (n:=p-i) (by omega) (by omega);have put:∀c:Int,0<=cur s p->cur s p=c->c<128->(st.eI .ref (Ch.bytes s i (p-i)) i).put .ref c p=st.eI .ref (Ch.bytes s i (p+1-i)) i:=by
   intro c h0 hc h1;subst hc;have hw:=fO h0 h1;unfold St.put;rw[mh h0,hw,ko];simp only[St.eI,if_true];rw[if_neg (by simpa using hne)];have:=px s i (p-i) 1;rw[show i+(p-i)=p by omega,show p-i+1=p+1-i by omega]at this;rw[this]
  by_cases hi:inside (cur s p)
  ·have hr:=uO hi;have hc:=fp (s:=s) (i:=p) (by omega);have hw:=fO (s:=s) (i:=p) (by omega) hr.2;have e:b_ (.ref j k) p (st.eI .ref (Ch.bytes s i (p-i)) i) (cur s p)=⟨st.eI .ref (Ch.bytes s i (p+1-i)) i,.go (.ref j k)⟩:=by simp only[b_,oB];rw[if_pos hi.1,if_neg hi.2,put _ (by omega) rfl hr.2]
   rw[fC e (by omega),hw];refine ih (p+1) (by omega) (by omega) (by omega) fun m h1 h2=>?_;by_cases hm:m=p
   ·subst hm;rw[(yR (by omega) hr.2).1 rfl];exact hi
   ·exact vv m h1 (by omega)
  ·by_cases nQ:cur s p=59
   ·have b59:=(yR (by omega) (by omega)).1 nQ;have hc:=fp (s:=s) (i:=p) (by omega);have hw:=fO (s:=s) (i:=p) (by omega) (by omega);obtain⟨u1,u2⟩:=E8 s i p oy hp b59 hc.1 vv;have hrun:(st.eI .ref (Ch.bytes s i (p+1-i)) i).run .ref=Ch.bytes s i (p+1-i):=by simp[St.eI]
    have hat:(st.eI .ref (Ch.bytes s i (p+1-i)) i).fD .ref=(i:Int):=by simp[St.eI]
    unfold AX;by_cases hz:(Ch.eU s i).2=0
    ·rw[if_pos hz];have e:b_ (.ref j k) p (st.eI .ref (Ch.bytes s i (p-i)) i) (cur s p)=⟨st.eI .ref (Ch.bytes s i (p+1-i)) i,.fail 4 i⟩:=by
      simp only[b_,oB];rw[if_pos (by rw[nQ];decide),if_pos nQ,put 59 (by omega) nQ (by omega)];unfold jQ;rw[hrun,hat];have u2':¬(Ch.kx ⟨(Ch.bytes s i (p+1-i)).toArray⟩).2.1=0:=u2 hz;rw[if_neg u2']
     rw[gb e];rfl
    ·rw[if_neg hz];obtain⟨v1,v2⟩:=u1 hz;have hm:=(Ch.jk hz).1;have e:b_ (.ref j k) p (st.eI .ref (Ch.bytes s i (p-i)) i) (cur s p)=⟨(st.eI .ref (Ch.bytes s i (p+1-i)) i).put j (Ch.eU s i).1 i,.go (.plain k)⟩:=by
      simp only[b_,oB];rw[if_pos (by rw[nQ];decide),if_pos nQ,put 59 (by omega) nQ (by omega)];unfold jQ;rw[hrun,hat];have v2':Ch.kx ⟨(Ch.bytes s i (p+1-i)).toArray⟩=(Lib.encodeRune (Ch.eU s i).1,0,0):=v2;rw[v2',if_pos rfl,Ic _ _ _ hm]
     rw[fC e (by omega),hw,v1];congr 1;simp;omega
   ·have hno:¬Tk.qj (cur s p)=true:=fun e=>hi ⟨e,nQ⟩;have e:b_ (.ref j k) p (st.eI .ref (Ch.bytes s i (p-i)) i) (cur s p)=⟨st.eI .ref (Ch.bytes s i (p-i)) i,.fail 4 i⟩:=by simp only[b_,oB];rw[if_neg hno];simp[St.eI]
    have hz:(Ch.eU s i).2=0:=by
     by_cases hz:(Ch.eU s i).2=0
     ·exact hz
     ·exfalso;obtain⟨e,h1,h2,h3,h4⟩:=Ch.wM hz;rcases ew e p with hlt|rfl|NJ
      ·exact absurd h3 (vv e h2 hlt).2
      ·exact nQ ((yR (by omega) (by omega)).2 h3)
      ·have hb:=h4 p hp NJ;have hr:=uO hb;rw[(yR (c:=Ch.bz s p) (by omega) hr.2).2 rfl]at hno;exact hno hb.1
    unfold AX;rw[gb e,if_pos hz];rfl
theorem E9(j:Rn)(k:Pl)(i:Nat)(st:St)(oy:cur s i=38):runs g s (i+wid s i) (.ref j k) ((st.clear .ref).put .ref 38 i)=AX g s i j k st:=by
 have hc:=fp (s:=s) (i:=i) (by omega);have hw:=fO (s:=s) (i:=i) (by omega) (by omega);have e:(st.clear .ref).put .ref 38 i=st.eI .ref (Ch.bytes s i (i+1-i)) i:=by
  have h1:=mh (s:=s) (i:=i) (by omega);rw[hw,oy]at h1;unfold St.put St.clear;rw[ko];simp only[St.eI,if_true];rw[h1,show i+1-i=1 by omega];simp
 rw[e,hw];exact L2 j k i st ((yR (by omega) (by omega)).1 oy) (s.size+1) (i+1) (by omega) (by omega) (by omega) (fun m h1 h2=>by omega)
theorem uP(he:x.err=0)(km:Nat)(hb:32<=km/\km<128):x.char s km=
  if cur s x.i<0\/cur s x.i=60\/cur s x.i=(km:Int)then(x.wrong s,⟨#[]⟩)
  else if cur s x.i=38 then(if(Ch.eU s x.i).2=0 then(x.fail 4 x.i,⟨#[]⟩)else({x with i:=x.i+(Ch.eU s x.i).2.toNat},⟨(Lib.encodeRune (Ch.eU s x.i).1).toArray⟩))
  else({x with i:=x.i+wid s x.i},s.extract x.i (x.i+wid s x.i)):=by
 have YQ:cur s x.i=60↔x.i<s.size/\(s.get! x.i).toNat=60:=jY (s:=s) (i:=x.i) (c:=60) (by omega);have b38:cur s x.i=38↔x.i<s.size/\(s.get! x.i).toNat=38:=jY (s:=s) (i:=x.i) (c:=38) (by omega);have bb:=jY (s:=s) (i:=x.i) (c:=km) (by omega);unfold Sc.char;by_cases hi:x.i<s.size
 ·simp only[hi,dG]at YQ b38 bb;rw[if_pos hi];by_cases Oe:(s.get! x.i).toNat=60\/(s.get! x.i).toNat=km
  ·rw[if_pos Oe,if_pos (Or.inr (Oe.imp YQ.2 bb.2))]
  ·have h1:¬(cur s x.i=60\/cur s x.i=(km:Int)):=fun h=>Oe (h.imp YQ.1 bb.1);rw[if_neg Oe];by_cases h2:(s.get! x.i).toNat=38
   ·have JJ:cur s x.i=38:=b38.2 h2;have zO:¬(cur s x.i<0\/cur s x.i=60\/cur s x.i=(km:Int)):=by rintro(h|h);omega;exact h1 h
    rw[if_pos h2,if_neg zO,if_pos JJ];unfold jO;by_cases hz:(Ch.eU s x.i).2=0
    ·rw[if_pos hz,if_pos hz];rfl
    ·have hsp:=Ch.jk hz;rw[if_neg hz,if_neg hz];rw[if_neg (by simp only;omega)];congr 2;simp only;omega
   ·have JJ:¬cur s x.i=38:=fun h=>h2 (b38.1 h);rw[if_neg h2];by_cases h0:0<=cur s x.i
    ·have zO:¬(cur s x.i<0\/cur s x.i=60\/cur s x.i=(km:Int)):=by rintro(h|h);omega;exact h1 h
     rw[if_neg (by rw[qY];simpa using h0),if_neg zO,if_neg JJ,CR,if_pos h0];simp
    ·rw[if_pos ((qY _ _).2 h0),if_pos (Or.inl (by omega))];rcases rU h0 with⟨_,h5⟩|⟨h5,_⟩
     ·rw[h_ he,h5];unfold Sc.fail;rw[if_pos he];rfl
     ·exact absurd hi h5
 ·rw[if_neg hi,if_pos (Or.inl (by unfold cur;rw[if_neg hi];decide))]
end
section
variable{g:St->List Tok}{s:ByteArray}{i:Nat}{pt jT:Part}{st iG:St}{no q c:Int}{x y:Sc}
structure AY(x:Sc)(st:St):Prop where
 told:st.told=x.l
 text:st.run .text=x.more
 from_:x.more≠[]->st.fD .text=x.fY
theorem AY.same(h:AY x st)(h1:iG.told=st.told)(h2:iG.run .text=st.run .text)(h3:iG.fD .text=st.fD .text)(h4:y.l=x.l)(h5:y.more=x.more)(h6:y.fY=x.fY):AY y iG:=
 ⟨by rw[h1,h4];exact h.told,by rw[h2,h5];exact h.text,by rw[h3,h5,h6];exact h.from_⟩
theorem Ie(st:St)(l r:List UInt8)(a b a' b':Int)(l':List UInt8):(((st.eI .value l a).eI .ref r b).eI .value l' b')=(st.eI .ref r b).eI .value l' b':=by
 unfold St.eI;congr 1<;>(funext m;cases m<;>simp)
theorem L3(st:St)(l r r':List UInt8)(a b a' b' c:Int)(l':List UInt8):((((st.eI .ref r' c).eI .value l a).eI .ref r b).eI .value l' b')=(st.eI .ref r b).eI .value l' b':=by
 unfold St.eI;congr 1<;>(funext m;cases m<;>simp)
theorem Ig(Q:Nat)(hQ:32<=Q/\Q<128)(hne:Q≠60/\Q≠38):∀(f:Nat) (x:Sc) (t:List UInt8) (st:St),x.err=0->x.i<=s.size->s.size+1<x.i+f->st.told=x.l->st.quote=(Q:Int)->st.run .value=t->
  ((jm s Q f x t).1.err=0/\x.i<=(jm s Q f x t).1.i/\(jm s Q f x t).1.i+1<=s.size/\(jm s Q f x t).1={x with i:=(jm s Q f x t).1.i}/\
   ∃r a b,runs g s x.i (.plain .iP) st=runs g s ((jm s Q f x t).1.i+1) (.plain .part) ((st.eI .ref r a).eI .value (jm s Q f x t).2 b).iW)\/
  ((jm s Q f x t).1.err≠0/\(jm s Q f x t).1.l=x.l/\runs g s x.i (.plain .iP) st=(x.l,(jm s Q f x t).1.err,(jm s Q f x t).1.at_)):=by
 intro f;induction f with
 |zero=>intro x t st he hi hf;omega
 |succ f ih=>
  intro x t st he hi hf ht hq hv;have iq:x.is s Q=decide (cur s x.i=(Q:Int)):=CQ he (by omega);simp only[jm,iq];by_cases hc:cur s x.i=(Q:Int)
  ·rw[if_neg (by simp[hc])];have h0:0<=cur s x.i:=by omega
   have hp:=fp h0;have hw:=fO h0 (by omega);have e:b_ (.plain .iP) x.i st (cur s x.i)=⟨st.iW,.go (.plain .part)⟩:=by simp only[b_,step];rw[hq,if_pos hc]
   refine Or.inl ⟨he,aj _,by show x.i+1<=_;omega,rfl,st.run .ref,st.fD .ref,st.fD .value,?_⟩;rw[fC e h0,hw,q8];show _=runs g s (x.i+1) _ (st.eI .value t (st.fD .value)).iW;rw[<-hv,q8]
  ·rw[if_pos ⟨he,by simp[hc]⟩,uP he Q (by omega)];by_cases oM:cur s x.i<0\/cur s x.i=60\/cur s x.i=(Q:Int)
   ·rw[if_pos oM];have hnz:=fx x s he;have hval:jm s Q f (x.wrong s) (t++(⟨#[]⟩:ByteArray).data.toList)=(x.wrong s,t):=by
     cases f with
     |zero=>simp[jm]
     |succ f=>simp only[jm];rw[if_neg (fun h=>hnz h.1)];simp
    rw[hval];refine Or.inr ⟨hnz,by rw[h_ he],?_⟩;have e:b_ (.plain .iP) x.i st (cur s x.i)=⟨st,.fail (Tk.why (cur s x.i)) x.i⟩:=by simp only[b_,step];rw[hq,if_neg hc,if_neg (by omega),if_pos (by omega)]
    rw[gb e,h_ he,ht]
   ·rw[if_neg oM];have h0:0<=cur s x.i:=by omega
    have hp:=fp h0;by_cases oy:cur s x.i=38
    ·rw[if_pos oy];have e:b_ (.plain .iP) x.i st (cur s x.i)=⟨(st.clear .ref).put .ref 38 x.i,.go (.ref .value .iP)⟩:=by simp only[b_,step];rw[hq,if_neg hc,if_pos oy]
     rw[fC e h0,E9 .value .iP x.i st oy];unfold AX;by_cases hz:(Ch.eU s x.i).2=0
     ·rw[if_pos hz,if_pos hz];have hnz:=nU x 4 x.i he (by decide);have hval:jm s Q f (x.fail 4 x.i) (t++(⟨#[]⟩:ByteArray).data.toList)=(x.fail 4 x.i,t):=by
       cases f with
       |zero=>simp[jm]
       |succ f=>simp only[jm];rw[if_neg (fun h=>hnz h.1)];simp
      rw[hval];refine Or.inr ⟨hnz,?_,?_⟩
      ·unfold Sc.fail;rw[if_pos he]
      ·unfold Sc.fail;rw[if_pos he,ht]
     ·rw[if_neg hz,if_neg hz];have hsp:=Ch.jk hz;have:=ih {x with i:=x.i+(Ch.eU s x.i).2.toNat} (t++Lib.encodeRune (Ch.eU s x.i).1) ((st.eI .ref (Ch.bytes s x.i (Ch.eU s x.i).2.toNat) x.i).put .value (Ch.eU s x.i).1 x.i) he (by show x.i+(Ch.eU s x.i).2.toNat<=_;omega) (by show _<x.i+(Ch.eU s x.i).2.toNat+f;omega) ht hq (by simp[St.put,St.eI,hv]);simp only[]at this ⊢;rcases this with⟨h1,h2,h3,h4,r,a,b,h5⟩|⟨h1,h2,h3⟩
      ·refine Or.inl ⟨h1,by omega,h3,by rw[h4],r,a,b,?_⟩;rw[h5];congr 2;unfold St.put;exact L3 st _ r _ _ a a b _ _
      ·exact Or.inr ⟨h1,h2,h3⟩
    ·rw[if_neg oy];have e:b_ (.plain .iP) x.i st (cur s x.i)=⟨st.put .value (cur s x.i) x.i,.go (.plain .iP)⟩:=by simp only[b_,step];rw[hq,if_neg hc,if_neg oy,if_neg (by omega)]
     rw[fC e h0];have hb:=ij s x.i (x.i+wid s x.i);rw[show x.i+wid s x.i-x.i=wid s x.i by omega,<-mh h0]at hb;have:=ih {x with i:=x.i+wid s x.i} (t++(s.extract x.i (x.i+wid s x.i)).data.toList) (st.put .value (cur s x.i) x.i) he (by show x.i+wid s x.i<=_;omega) (by show _<x.i+wid s x.i+f;omega) ht hq (by rw[hb];simp[St.put,St.eI,hv]);simp only[]at this ⊢;rcases this with⟨h1,h2,h3,h4,r,a,b,h5⟩|⟨h1,h2,h3⟩
     ·refine Or.inl ⟨h1,by omega,h3,by rw[h4],r,a,b,?_⟩;rw[h5];congr 2;unfold St.put;exact Ie st _ r _ a a b _
     ·exact Or.inr ⟨h1,h2,h3⟩
end
section
variable{g:St->List Tok}{s:ByteArray}{i:Nat}{pt jT:Part}{st iG:St}{no q c:Int}{x y:Sc}
abbrev nE:=List (List UInt8×List UInt8)
def Sc.gY(x:Sc)(s:ByteArray)(l:nE):Sc:=if l.any (fun a=>a.1==(x.name s).2.data.toList)=true then(x.name s).1.fail 5 x.i else(x.name s).1
def Sc.equal(x:Sc)(s:ByteArray)(l:nE):Sc:=(Sc.eZ s [61] ((x.gY s l).fh s)).fh s
def Sc.attr(x:Sc)(s:ByteArray)(l:nE):Sc×(List UInt8×List UInt8):=
 if(x.equal s l).err=0 then(((x.equal s l).value s).1,((x.name s).2.data.toList,((x.equal s l).value s).2))else(x.equal s l,((x.name s).2.data.toList,[]))
def fg(s:ByteArray):Nat->Sc->nE->Sc×nE
 |0,x,l=>(x,l)
 |f+1,x,l=>if x.skip s=0\/(x.fh s).err≠0\/(x.fh s).is s 47=true\/(x.fh s).is s 62=true then(x.fh s,l)else fg s f ((x.fh s).attr s l).1 (l++[((x.fh s).attr s l).2])
def Sc.d_(x:Sc)(s:ByteArray):Sc×nE:=fg s (s.size+2) x []
theorem j5(he:x.err≠0)(f:Nat)(l:nE):fg s f x l=(x,l):=by
 cases f with
 |zero=>rfl
 |succ f=>simp only[fg];rw[j3 he,if_pos (Or.inr (Or.inl he))]
structure CU(x:Sc)(st:St)(l:nE)(nm:List UInt8)(tg:Int):Prop where
 tag:AY x st
 d_:st.d_=l
 names:st.names=l.map Prod.fst
 value:st.run .value=[]
 name:st.run .name=nm
 at_:st.gy=tg
theorem L4(l:nE)(n:List UInt8):(l.map Prod.fst).contains n=l.any (fun a=>a.1==n):=by
 induction l with
 |nil=>rfl
 |cons a l ih=>
  simp only[bC,List.contains_cons,dO,ih];congr 1;rw[bK,bG,bG];exact eq_comm
theorem L5(st:St)(i:Int)(c:Int)(h:Tk.blank c=true):b_ (.plain .qR) i st c=⟨st,.go (.plain .qR)⟩:=by simp only[b_,step,jX];rw[if_pos h]
theorem Ih(st:St)(i:Int)(c:Int)(h:Tk.blank c=true):b_ (.plain .lx) i st c=⟨st,.go (.plain .lx)⟩:=by simp only[b_,step];rw[if_pos h]
theorem CV{c:Int}(h:Tk.blank c=true):¬Ch.ft c=true:=by
 have:=yL h;rw[Ch.fT];omega
theorem Ii(st:St)(i:Int)(c:Int)(h:Tk.blank c=true):b_ (.plain .fh) i st c=⟨st,.go (.plain .fh)⟩:=by simp only[b_,step,jM];rw[if_neg (CV h),if_pos h]
theorem E_(st:St)(i:Int)(c:Int)(h:Tk.blank c=true):b_ (.plain .closing) i st c=⟨st,.go (.plain .closing)⟩:=by simp only[b_,step];rw[if_pos h]
theorem lB(he:x.err=0)(hb:Ch.ft (cur s x.i)=true):(x.name s).1={x with i:=jr s x.i}/\(x.name s).2.data.toList=Ch.bytes s x.i (jr s x.i-x.i):=by
 obtain⟨h1,h2⟩:=q7 (s:=s) hb;unfold Sc.name;rw[if_pos he,if_neg (by omega),h1];refine⟨by simp only[Sc.mk.injEq,and_true];omega,?_⟩;simp only;rw[ij];congr 1;omega
theorem oC(he:x.err=0)(hb:¬Ch.ft (cur s x.i)=true):x.name s=(x.wrong s,⟨#[]⟩):=by unfold Sc.name;rw[if_pos he,if_pos (Uj hb)]
theorem tH(j:Rn)(k:Pl)(p:Nat)(st:St)(hb:Ch.ft (cur s p)=true):runs g s (p+wid s p) (.name j k) ((st.clear j).put j (cur s p) p)=runs g s (jr s p) (.plain k) (st.eI j (Ch.bytes s p (jr s p-p)) p):=by
 have h0:0<=cur s p:=by have:=(Ch.fT _).1 hb;omega
 have hc:=fp h0;have hn:vx (cur s p)=true:=by unfold vx;rw[hb];rfl
 have hg:=pU s (p+wid s p);have e:(st.clear j).put j (cur s p) p=st.eI j (Ch.bytes s p (wid s p)) p:=by
  unfold St.put St.clear;rw[ko];simp only[St.eI,if_true];rw[mh h0];simp
 rw[e,AV _ _ _ _ (by simp only[St.eI,if_true];exact uM s (by omega) hc.2.2.2.1),ko,j4 hn];simp only[St.eI,if_true];rw[px,show wid s p+(jr s (p+wid s p)-(p+wid s p))=jr s (p+wid s p)-p by omega]
theorem q9(he:x.err=0){c:UInt8}(hc:32<=c.toNat/\c.toNat<128):Sc.eZ s [c] x=if cur s x.i=(c.toNat:Int)then{x with i:=x.i+1}else x.wrong s:=by
 simp only[Sc.eZ];rw[if_pos he];by_cases h:cur s x.i=(c.toNat:Int)
 ·rw[if_pos ((jZ he (by omega)).2 h),if_pos h]
 ·have:¬x.is s c.toNat=true:=fun e=>h ((jZ he (by omega)).1 e);rw[if_neg this,if_neg h]
theorem q_(he:x.err=0):x.value s=if cur s x.i=34\/cur s x.i=39 then
  ({ (jm s (cur s x.i).toNat (s.size+2) {x with i:=x.i+1} []).1 with i:=(jm s (cur s x.i).toNat (s.size+2) {x with i:=x.i+1} []).1.i+1},(jm s (cur s x.i).toNat (s.size+2) {x with i:=x.i+1} []).2)else(x.wrong s,[]):=by
 have i34:x.is s 34=true↔cur s x.i=34:=jZ he (by omega);have i39:x.is s 39=true↔cur s x.i=39:=jZ he (by omega);unfold Sc.value;by_cases h:cur s x.i=34\/cur s x.i=39
 ·have hb:(s.get! x.i).toNat=(cur s x.i).toNat:=by
   rcases h with h|h
   ·have:=((jY (s:=s) (i:=x.i) (c:=34) (by omega)).1 h).2;rw[h,this];rfl
   ·have:=((jY (s:=s) (i:=x.i) (c:=39) (by omega)).1 h).2;rw[h,this];rfl
  rw[if_pos h,if_pos (h.imp i34.2 i39.2),hb]
 ·rw[if_neg h,if_neg (fun e=>h (e.imp i34.1 i39.1))]
theorem AZ{l:nE}{nm:List UInt8}{tg:Int}(he:x.err=0)(hi:x.i<=s.size)(hA:CU x st l nm tg)(hbl:¬Tk.blank (cur s x.i)=true)(A3:¬cur s x.i=47)(DJ:¬cur s x.i=62):
  ((x.attr s l).1.err=0/\x.i<(x.attr s l).1.i/\(x.attr s l).1.i<=s.size/\(x.attr s l).1={x with i:=(x.attr s l).1.i}/\∃iG,CU (x.attr s l).1 iG (l++[(x.attr s l).2]) nm tg/\runs g s x.i (.plain .fh) st=runs g s (x.attr s l).1.i (.plain .part) iG)\/
  ((x.attr s l).1.err≠0/\(x.attr s l).1.l=x.l/\runs g s x.i (.plain .fh) st=(x.l,(x.attr s l).1.err,(x.attr s l).1.at_)):=by
 by_cases hb:Ch.ft (cur s x.i)=true
 ·obtain⟨Ai,ww⟩:=lB he hb;have h0:0<=cur s x.i:=by have:=(Ch.fT _).1 hb;omega
  have hlt:=(q7 (s:=s) hb).2;have hle:=nh hi;generalize hE:jr s x.i=E at*
  generalize hN:Ch.bytes s x.i (E-x.i)=N at*
  have e1:b_ (.plain .fh) x.i st (cur s x.i)=⟨(st.clear .attr).put .attr (cur s x.i) x.i,.go (.name .attr .jL)⟩:=by simp only[b_,step,fX];rw[if_pos hb,if_pos hb]
  rw[fC e1 h0,tH .attr .jL x.i st hb,hE,hN];have hc:st.names.contains N=l.any (fun a=>a.1==N):=by rw[hA.names,L4]
  by_cases ht:l.any (fun a=>a.1==N)=true
  ·have Gz:x.gY s l={x with i:=E,err:=5,at_:=x.i}:=by unfold Sc.gY;rw[ww,if_pos ht,Ai];unfold Sc.fail;rw[if_pos he]
   have h5:(x.gY s l).err≠0:=by rw[Gz];simp
   have heq:x.equal s l=x.gY s l:=by unfold Sc.equal;rw[j3 h5,ja s _ h5,j3 h5]
   have hat:x.attr s l=(x.gY s l,(N,[])):=by unfold Sc.attr;rw[heq,if_neg h5,ww]
   rw[hat];refine Or.inr ⟨h5,by rw[Gz],?_⟩;have e2:b_ (.plain .jL) E (st.eI .attr N x.i) (cur s E)=⟨st.eI .attr N x.i,.fail 5 x.i⟩:=by
    simp only[b_,step];rw[if_pos (by simpa [St.eI]using hc.trans ht)];simp[St.eI]
   rw[gb e2,Gz,<-hA.tag.told];rfl
  ·have Gz:x.gY s l={x with i:=E}:=by unfold Sc.gY;rw[ww,if_neg ht,Ai]
   have he1:(x.gY s l).err=0:=by rw[Gz];exact he
   generalize vS:({st.eI .attr N x.i with names:=st.names++[N]}:St)=qW;have e2:runs g s E (.plain .jL) (st.eI .attr N x.i)=runs g s E (.plain .qR) qW:=by
    refine nD ?_ (by rw[<-vS]) (fun⟨o,h⟩=>by cases tF h);simp only[b_,step];rw[if_neg (by simpa [St.eI]using fun h=>ht (hc.symm.trans h)),<-vS];simp[St.eI]
   rw[e2,qZ (L5 qW)];have Ck:=yM hle;have Z0:=rV s E;generalize hE1:E+gap s E=E1 at*
   have sx:(x.gY s l).fh s={x with i:=E1}:=by rw[lU he1,Gz];simp only;rw[hE1]
   have L6:=q9 (s:=s) (x:={x with i:=E1}) he (c:=61) (by decide);by_cases h61:cur s E1=61
   ·have hw1:=fO (s:=s) (i:=E1) (by omega) (by omega);have Zs:=fp (s:=s) (i:=E1) (by omega);have e3:b_ (.plain .qR) E1 qW (cur s E1)=⟨qW,.go (.plain .lx)⟩:=by simp only[b_,step,jX];rw[if_neg Z0,if_pos h61]
    rw[fC e3 (by omega),hw1,qZ (Ih qW)];have hg2:=yM (s:=s) (i:=E1+1) (by omega);have Z1:=rV s (E1+1);generalize hE2:E1+1+gap s (E1+1)=E2 at*
    have Xt:Sc.eZ s [61] {x with i:=E1}={x with i:=E1+1}:=by rw[L6];exact if_pos h61
    have heq:x.equal s l={x with i:=E2}:=by unfold Sc.equal;rw[sx,Xt,lU (x:={x with i:=E1+1}) he];simp only;rw[hE2]
    have Z2:=q_ (s:=s) (x:={x with i:=E2}) he;simp only at Z2;have hat:x.attr s l=((Sc.value {x with i:=E2} s).1,(N,(Sc.value {x with i:=E2} s).2)):=by unfold Sc.attr;rw[heq,if_pos he,ww]
    by_cases hq:cur s E2=34\/cur s E2=39
    ·have hw2:=fO (s:=s) (i:=E2) (by omega) (by omega);have Ww:=fp (s:=s) (i:=E2) (by omega);have e4:b_ (.plain .lx) E2 qW (cur s E2)=⟨{qW with quote:=cur s E2},.go (.plain .iP)⟩:=by simp only[b_,step];rw[if_neg Z1,if_pos hq]
     rw[if_pos hq]at Z2;rw[fC e4 (by omega),hw2];have abn:({qW with quote:=cur s E2}:St).run .value=[]:=by rw[<-vS];simpa [St.eI]using hA.value
     have Z3:({qW with quote:=cur s E2}:St).told=x.l:=by rw[<-vS];exact hA.tag.told
     have hval:=Ig (g:=g) (s:=s) (cur s E2).toNat (by omega) (by omega) (s.size+2) {x with i:=E2+1} [] {qW with quote:=cur s E2} he (by show E2+1<=_;omega) (by show _<E2+1+_;omega) Z3 (by simp only;omega) abn;simp only at hval;rw[hat,Z2];generalize hvf:jm s (cur s E2).toNat (s.size+2) {x with i:=E2+1} []=V at*
     rcases hval with⟨v1,v2,v3,v4,r,a,b,v5⟩|⟨v1,v2,v3⟩
     ·refine Or.inl ⟨v1,by show x.i<V.1.i+1;omega,v3,by simp only;rw[v4],_,?_,v5⟩;constructor
      ·refine hA.tag.same ?_ ?_ ?_ ?_ ?_ ?_
       ·rw[<-vS];rfl
       ·rw[<-vS];simp[St.iW,St.clear,St.eI]
       ·rw[<-vS];simp[St.iW,St.clear,St.eI]
       ·simp only;rw[v4]
       ·simp only;rw[v4]
       ·simp only;rw[v4]
      ·rw[<-vS];simp[St.iW,St.clear,St.eI,hA.d_]
      ·rw[<-vS];simp[St.iW,St.clear,St.eI,hA.names]
      ·simp[St.iW,St.clear,St.eI]
      ·rw[<-vS];simpa [St.iW,St.clear,St.eI]using hA.name
      ·rw[<-vS];exact hA.at_
     ·exact Or.inr ⟨v1,v2,v3⟩
    ·rw[if_neg hq]at Z2;rw[hat,Z2,h_ (x:={x with i:=E2}) he];refine Or.inr ⟨?_,rfl,?_⟩
     ·show Tk.why _≠0;unfold Tk.why;split<;>omega
     ·have e4:b_ (.plain .lx) E2 qW (cur s E2)=⟨qW,.fail (Tk.why (cur s E2)) E2⟩:=by simp only[b_,step];rw[if_neg Z1,if_neg hq]
      rw[gb e4,<-vS];simp only;rw[show (st.eI .attr N x.i).told=x.l from hA.tag.told]
   ·have Xt:Sc.eZ s [61] {x with i:=E1}=Sc.wrong {x with i:=E1} s:=by rw[L6];exact if_neg h61
    have o9:=fx {x with i:=E1} s he;have heq:x.equal s l=Sc.wrong {x with i:=E1} s:=by unfold Sc.equal;rw[sx,Xt,j3 o9]
    have hat:x.attr s l=(Sc.wrong {x with i:=E1} s,(N,[])):=by unfold Sc.attr;rw[heq,if_neg o9,ww]
    rw[hat,h_ (x:={x with i:=E1}) he];refine Or.inr ⟨?_,rfl,?_⟩
    ·show Tk.why _≠0;unfold Tk.why;split<;>omega
    ·have e3:b_ (.plain .qR) E1 qW (cur s E1)=⟨qW,.fail (Tk.why (cur s E1)) E1⟩:=by simp only[b_,step,jX];rw[if_neg Z0,if_neg h61]
     rw[gb e3,<-vS];simp only;rw[show (st.eI .attr N x.i).told=x.l from hA.tag.told]
 ·have hn:=oC (s:=s) he hb;have o9:=fx x s he;have Gz:x.gY s l=x.wrong s:=by
   unfold Sc.gY;rw[hn];simp only;split
   ·unfold Sc.fail;rw[if_neg o9]
   ·rfl
  have heq:x.equal s l=x.wrong s:=by unfold Sc.equal;rw[Gz,j3 o9,ja s _ o9,j3 o9]
  have hat:(x.attr s l).1=x.wrong s:=by unfold Sc.attr;rw[heq,if_neg o9]
  rw[hat];refine Or.inr ⟨o9,by rw[h_ he],?_⟩;have e:b_ (.plain .fh) x.i st (cur s x.i)=⟨st,.fail (Tk.why (cur s x.i)) x.i⟩:=by simp only[b_,step,jM];rw[if_neg hb,if_neg hbl,if_neg A3,if_neg DJ]
  rw[gb e,h_ he,hA.tag.told]
end
section
variable{g:St->List Tok}{s:ByteArray}{i:Nat}{pt jT:Part}{st iG:St}{no q c:Int}{x y:Sc}
theorem yS{nm:List UInt8}{tg:Int}:∀(f:Nat) (x:Sc) (l:nE) (st:St),x.err=0->x.i<=s.size->s.size+1<x.i+f->CU x st l nm tg->
  ((fg s f x l).1.err=0/\x.i<=(fg s f x l).1.i/\(fg s f x l).1.i<=s.size/\(fg s f x l).1={x with i:=(fg s f x l).1.i}/\¬Tk.blank (cur s (fg s f x l).1.i)=true/\∃iG,CU (fg s f x l).1 iG (fg s f x l).2 nm tg/\runs g s x.i (.plain .part) st=runs g s (fg s f x l).1.i (.plain .part) iG)\/
  ((fg s f x l).1.err≠0/\(fg s f x l).1.l=x.l/\runs g s x.i (.plain .part) st=(x.l,(fg s f x l).1.err,(fg s f x l).1.at_)):=by
 intro f;induction f with
 |zero=>intro x l st he hi hf;omega
 |succ f ih=>
  intro x l st he hi hf hA;simp only[fg];rw[lU he,EY he];have hg:=yM hi;have Ct:=rV s x.i;by_cases h0:gap s x.i=0
  ·rw[if_pos (Or.inl h0)];rw[h0]at Ct;simp only[h0,bN]at Ct ⊢;exact Or.inl ⟨he,aj _,hi,trivial,Ct,st,hA,rfl⟩
  ·have hb:Tk.blank (cur s x.i)=true:=by
    by_cases hb:Tk.blank (cur s x.i)=true
    ·exact hb
    ·exact absurd (CS hb) h0
   have hv:=yL hb;have hw:=fO (s:=s) (i:=x.i) (by omega) (by omega);have e1:b_ (.plain .part) x.i st (cur s x.i)=⟨st,.go (.plain .fh)⟩:=by simp only[b_,step,jM];rw[if_pos hb]
   have hrun:runs g s x.i (.plain .part) st=runs g s (x.i+gap s x.i) (.plain .fh) st:=by
    rw[fC e1 (by omega),hw,qZ (Ii st),xy hb];congr 1;omega
   have i47:=CQ (s:=s) (x:={x with i:=x.i+gap s x.i}) he (c:=47) (by omega);have i62:=CQ (s:=s) (x:={x with i:=x.i+gap s x.i}) he (c:=62) (by omega);simp only at i47 i62;rw[i47,i62,hrun];generalize hp:x.i+gap s x.i=p at*
   by_cases hs:cur s p=47\/cur s p=62
   ·rw[if_pos (Or.inr (Or.inr (by simpa using hs)))];refine Or.inl ⟨he,by show x.i<=p;omega,hg,rfl,Ct,st,?_,?_⟩
    ·exact⟨⟨hA.tag.told,hA.tag.text,hA.tag.from_⟩,hA.d_,hA.names,hA.value,hA.name,hA.at_⟩
    ·refine nD ?_ rfl (fun _=>rfl);have hnb:¬Ch.ft (cur s p)=true:=by rw[Ch.fT];omega
     simp only[b_,step];rw[if_neg hnb]
   ·rw[if_neg (by simp only[aW];rintro(h|h|h|h);exact h0 h;exact h he;exact hs (Or.inl h);exact hs (Or.inr h))];have Xu:CU {x with i:=p} st l nm tg:=⟨⟨hA.tag.told,hA.tag.text,hA.tag.from_⟩,hA.d_,hA.names,hA.value,hA.name,hA.at_⟩
    have Z_:=AZ (g:=g) (s:=s) (x:={x with i:=p}) (l:=l) he hg Xu Ct (fun h=>hs (Or.inl h)) (fun h=>hs (Or.inr h));simp only at Z_;generalize Sc.attr {x with i:=p} s l=A at*
    rcases Z_ with⟨a1,a2,a3,a4,iG,a5,a6⟩|⟨a1,a2,a3⟩
    ·rw[a6];have hih:=ih A.1 (l++[A.2]) iG a1 a3 (by omega) a5;generalize fg s f A.1 (l++[A.2])=B at*
     have hl:A.1.l=x.l:=by rw[a4]
     rcases hih with⟨b1,b2,b3,b4,b5,abo,b6,b7⟩|⟨b1,b2,b3⟩
     ·refine Or.inl ⟨b1,by omega,b3,?_,b5,abo,b6,b7⟩;rw[b4,a4]
     ·exact Or.inr ⟨b1,by rw[b2,hl],by rw[b3,hl]⟩
    ·rw[j5 a1];exact Or.inr ⟨a1,a2,a3⟩
structure Rel(x:Sc)(st:St):Prop where
 tag:AY x st
 d_:st.d_=[]
 names:st.names=[]
 value:st.run .value=[]
theorem pV(st:St)(j:Rn)(h:j≠ .text):st.eK.run j=st.run j:=by
 unfold St.eK;split
 ·rfl
 ·simp[St.clear,St.eI,h]
theorem sS(st:St):st.eK.run .text=[]:=by
 unfold St.eK;split
 ·rename_i h;simpa using h
 ·simp[St.clear,St.eI]
theorem ql(st:St):st.eK.d_=st.d_/\st.eK.names=st.names/\st.eK.quote=st.quote/\st.eK.gy=st.gy:=by unfold St.eK;split<;>exact⟨rfl,rfl,rfl,rfl⟩
theorem pW(h:AY x st):st.eK.told=if x.more=[]then x.l else x.l++[gS x]:=by
 unfold St.eK;rw[h.text];by_cases hm:x.more=[]
 ·rw[if_pos (by simp[hm]),if_pos hm];exact h.told
 ·rw[if_neg (by simpa using hm),if_neg hm];show st.told++[_]=_;rw[h.told];have:=h.from_ hm;simp only[gS,this]
theorem CW(he:x.err=0)(t:Tok):x.told t={x with l:=(if x.more=[]then x.l else x.l++[gS x])++[t],more:=[]}:=by
 unfold Sc.told;rw[if_neg (by simpa using he)];congr 1;split<;>simp
theorem A5{l:nE}{nm:List UInt8}{tg:Int}(he:x.err=0)(h:CU x st l nm tg):CU (x.told ⟨1,nm,l,[],tg⟩) st.fl [] nm tg:=by
 have hf:=ql st;rw[CW he];refine⟨⟨?_,?_,fun e=>absurd rfl e⟩,rfl,rfl,?_,?_,?_⟩
 ·show st.eK.told++[_]=_;rw[pW h.tag,h.name,h.d_,h.at_]
 ·exact sS st
 ·show st.eK.run .value=[];rw[pV _ _ (by decide)];exact h.value
 ·show st.eK.run .name=nm;rw[pV _ _ (by decide)];exact h.name
 ·show st.eK.gy=tg;rw[hf.2.2.2];exact h.at_
theorem yT{nm:List UInt8}{tg:Int}(he:x.err=0)(h:CU x st [] nm tg):Rel (x.told ⟨2,nm,[],[],tg⟩) st.gh:=by
 have hf:=ql st;rw[CW he];refine⟨⟨?_,?_,fun e=>absurd rfl e⟩,?_,?_,?_⟩
 ·show st.eK.told++[_]=_;rw[pW h.tag,h.name,h.at_]
 ·exact sS st
 ·show st.eK.d_=[];rw[hf.1];exact h.d_
 ·show st.eK.names=[];rw[hf.2.1,h.names];rfl
 ·show st.eK.run .value=[];rw[pV _ _ (by decide)];exact h.value
theorem CU.rel{nm:List UInt8}{tg:Int}(h:CU x st [] nm tg):Rel x st:=⟨h.tag,h.d_,by rw[h.names];rfl,h.value⟩
theorem Rel.at(h:Rel x st)(j:Nat):Rel {x with i:=j} st:=⟨⟨h.tag.told,h.tag.text,h.tag.from_⟩,h.d_,h.names,h.value⟩
def Sc.jz(x:Sc)(s:ByteArray)(nm:List UInt8)(l:nE)(tg:Int):Sc:=
 if x.is s 47=true then((Sc.eZ s [62] {x with i:=x.i+1}).told ⟨1,nm,l,[],tg⟩).told ⟨2,nm,[],[],tg⟩else(Sc.eZ s [62] x).told ⟨1,nm,l,[],tg⟩
def Sc.kK(x:Sc)(s:ByteArray)(tg:Int):Sc:=((x.name s).1.d_ s).1.jz s (x.name s).2.data.toList ((x.name s).1.d_ s).2 tg
def Sc.jR(x:Sc)(s:ByteArray)(tg:Int):Sc:=(Sc.eZ s [62] ((x.name s).1.fh s)).told ⟨2,(x.name s).2.data.toList,[],[],tg⟩
def Sc.order(x:Sc)(s:ByteArray):Sc:=((x.name s).1.until s ⟨#[63,62]⟩).1
def Sc.remark(x:Sc)(s:ByteArray):Sc:=Sc.eZ s [62] ((Sc.eZ s [45,45] x).until s ⟨#[45,45]⟩).1
def Sc.sT(x:Sc)(s:ByteArray):Sc:=
 if((Sc.eZ s [91,67,68,65,84,65,91] x).until s ⟨#[93,93,62]⟩).1.err=0/\((Sc.eZ s [91,67,68,65,84,65,91] x).until s ⟨#[93,93,62]⟩).2.data.toList≠[]
 then((Sc.eZ s [91,67,68,65,84,65,91] x).until s ⟨#[93,93,62]⟩).1.iC ((Sc.eZ s [91,67,68,65,84,65,91] x).until s ⟨#[93,93,62]⟩).2 (Sc.eZ s [91,67,68,65,84,65,91] x).i
 else((Sc.eZ s [91,67,68,65,84,65,91] x).until s ⟨#[93,93,62]⟩).1
def Sc.oV(x:Sc)(s:ByteArray):Sc:=if x.is s 91=true then x.sT s else x.remark s
def Sc.behind(x:Sc)(s:ByteArray)(tg:Int):Sc:=
 if x.is s 33=true then Sc.oV {x with i:=x.i+1} s
 else if x.is s 63=true then Sc.order {x with i:=x.i+1} s
 else if x.is s 47=true then Sc.jR {x with i:=x.i+1} s tg
 else x.kK s tg
def Sc.kA(x:Sc)(s:ByteArray):Sc:=Sc.behind {x with i:=x.i+1} s x.i
def Grown(x y:Sc):Prop:=y.at_=x.at_/\y.more.length+x.i<=x.more.length+y.i/\y.l.length<=x.l.length+3
def Done(g:St->List Tok)(s:ByteArray)(x y:Sc)(A:List Tok×Int×Int):Prop:=
 (y.err=0/\x.i<y.i/\y.i<=s.size/\Grown x y/\∃iG,Rel y iG/\A=runs g s y.i (.plain .between) iG)\/(y.err≠0/\y.l=x.l/\A=(x.l,y.err,y.at_))
theorem kp(he:x.err≠0)(t:Tok):x.told t=x:=by unfold Sc.told;rw[if_pos he]
theorem jA(x:Sc)(t:Tok):(x.told t).i=x.i:=by unfold Sc.told;split<;>rfl
theorem vT(x:Sc)(t:Tok):(x.told t).more.length<=x.more.length:=by unfold Sc.told;split<;>simp
theorem told_none(x:Sc)(he:x.err=0)(t:Tok):(x.told t).more=[]:=by unfold Sc.told;rw[if_neg (by simpa using he)]
theorem uQ(x:Sc)(t:Tok):(x.told t).l.length<=x.l.length+2:=by
 unfold Sc.told;split
 ·omega
 ·simp only[af];split<;>simp
theorem L8(x:Sc)(t:Tok)(h:x.more=[]):(x.told t).l.length<=x.l.length+1:=by
 unfold Sc.told;split
 ·omega
 ·simp[af,h]
theorem CX(x:Sc)(t:Tok):(x.told t).at_=x.at_:=by unfold Sc.told;split<;>rfl
theorem oY(x:Sc)(t:Tok):(x.told t).err=x.err:=by unfold Sc.told;split<;>rfl
theorem Ij{nm:List UInt8}{tg:Int}(he:x.err=0)(hi:x.i<=s.size)(hA:CU x st [] nm tg):Done g s x ((Sc.eZ s [62] (x.fh s)).told ⟨2,nm,[],[],tg⟩) (runs g s x.i (.plain .closing) st):=by
 rw[qZ (E_ st),lU he];have hg:=yM hi;have Ct:=rV s x.i;generalize hp:x.i+gap s x.i=p at*
 have hm:=q9 (s:=s) (x:={x with i:=p}) he (c:=62) (by decide);by_cases DJ:cur s p=62
 ·have sD:Sc.eZ s [62] {x with i:=p}={x with i:=p+1}:=by rw[hm];exact if_pos DJ
  rw[sD];have hw:=fO (s:=s) (i:=p) (by omega) (by omega);have hc:=fp (s:=s) (i:=p) (by omega);have e:b_ (.plain .closing) p st (cur s p)=⟨st.gh,.go (.plain .between)⟩:=by simp only[b_,step];rw[if_neg Ct,if_pos DJ]
  have Xu:CU {x with i:=p+1} st [] nm tg:=⟨⟨hA.tag.told,hA.tag.text,hA.tag.from_⟩,hA.d_,hA.names,hA.value,hA.name,hA.at_⟩
  refine Or.inl ⟨by rw[oY];exact he,by rw[jA];show x.i<p+1;omega,by rw[jA];show p+1<=_;omega,?_,_,yT (x:={x with i:=p+1}) he Xu,?_⟩
  ·have t1:=vT {x with i:=p+1} ⟨2,nm,[],[],tg⟩;have t2:=uQ {x with i:=p+1} ⟨2,nm,[],[],tg⟩;simp only at t1 t2;refine⟨by rw[CX],?_,by omega⟩;rw[jA];simp only;omega
  rw[fC e (by omega),hw,jA]
 ·have sD:Sc.eZ s [62] {x with i:=p}=Sc.wrong {x with i:=p} s:=by rw[hm];exact if_neg DJ
  have o9:=fx {x with i:=p} s he;rw[sD,kp o9];have e:b_ (.plain .closing) p st (cur s p)=⟨st,.fail (Tk.why (cur s p)) p⟩:=by simp only[b_,step];rw[if_neg Ct,if_neg DJ]
  refine Or.inr ⟨o9,by rw[h_ (x:={x with i:=p}) he],?_⟩;rw[gb e,h_ (x:={x with i:=p}) he,hA.tag.told]
theorem L9{nm:List UInt8}{l:nE}{tg:Int}(he:x.err=0)(hi:x.i<=s.size)(hA:CU x st l nm tg)(hbl:¬Tk.blank (cur s x.i)=true):Done g s x (x.jz s nm l tg) (runs g s x.i (.plain .part) st):=by
 unfold Sc.jz;have i47:x.is s 47=true↔cur s x.i=47:=jZ he (by omega);by_cases A3:cur s x.i=47
 ·rw[if_pos (i47.2 A3)];have hw:=fO (s:=s) (i:=x.i) (by omega) (by omega);have hc:=fp (s:=s) (i:=x.i) (by omega);have e:b_ (.plain .part) x.i st (cur s x.i)=⟨st,.go (.plain .jF)⟩:=by simp only[b_,step,jM];rw[if_neg hbl,if_pos A3]
  rw[fC e (by omega),hw];have hm:=q9 (s:=s) (x:={x with i:=x.i+1}) he (c:=62) (by decide);by_cases DJ:cur s (x.i+1)=62
  ·have sD:Sc.eZ s [62] {x with i:=x.i+1}={x with i:=x.i+1+1}:=by rw[hm];exact if_pos DJ
   have hw2:=fO (s:=s) (i:=x.i+1) (by omega) (by omega);have hc2:=fp (s:=s) (i:=x.i+1) (by omega);have e2:b_ (.plain .jF) ((x.i+1:Nat):Int) st (cur s (x.i+1))=⟨st.fl.gh,.go (.plain .between)⟩:=by simp only[b_,step];rw[if_pos DJ]
   rw[sD,fC e2 (by omega),hw2];have Xu:CU {x with i:=x.i+1+1} st l nm tg:=⟨⟨hA.tag.told,hA.tag.text,hA.tag.from_⟩,hA.d_,hA.names,hA.value,hA.name,hA.at_⟩
   have h1:=A5 (x:={x with i:=x.i+1+1}) he Xu;refine Or.inl ⟨by rw[oY,oY];exact he,by rw[jA,jA];show x.i<x.i+1+1;omega,by rw[jA,jA];show x.i+1+1<=_;omega,?_,_,yT (by rw[oY];exact he) h1,?_⟩
   ·have t1:=told_none {x with i:=x.i+1+1} he ⟨1,nm,l,[],tg⟩;have t2:=uQ {x with i:=x.i+1+1} ⟨1,nm,l,[],tg⟩;have t3:=L8 _ ⟨2,nm,[],[],tg⟩ t1;have t4:=vT (Sc.told {x with i:=x.i+1+1} ⟨1,nm,l,[],tg⟩) ⟨2,nm,[],[],tg⟩;rw[t1]at t4;simp only at t2 t3 t4;refine⟨by rw[CX,CX],?_,by omega⟩;rw[jA,jA];simp only[aF]at t4 ⊢;omega
   rw[jA,jA]
  ·have sD:Sc.eZ s [62] {x with i:=x.i+1}=Sc.wrong {x with i:=x.i+1} s:=by rw[hm];exact if_neg DJ
   have o9:=fx {x with i:=x.i+1} s he;rw[sD,kp o9,kp o9];have e2:b_ (.plain .jF) ((x.i+1:Nat):Int) st (cur s (x.i+1))=⟨st,.fail (Tk.why (cur s (x.i+1))) ((x.i+1:Nat):Int)⟩:=by simp only[b_,step];rw[if_neg DJ]
   refine Or.inr ⟨o9,by rw[h_ (x:={x with i:=x.i+1}) he],?_⟩;rw[gb e2,h_ (x:={x with i:=x.i+1}) he,hA.tag.told]
 ·rw[if_neg (fun h=>A3 (i47.1 h))];have hm:=q9 (s:=s) (x:=x) he (c:=62) (by decide);by_cases DJ:cur s x.i=62
  ·have sD:Sc.eZ s [62] x={x with i:=x.i+1}:=by rw[hm];exact if_pos DJ
   have hw:=fO (s:=s) (i:=x.i) (by omega) (by omega);have hc:=fp (s:=s) (i:=x.i) (by omega);have e:b_ (.plain .part) x.i st (cur s x.i)=⟨st.fl,.go (.plain .between)⟩:=by simp only[b_,step,jM];rw[if_neg hbl,if_neg A3,if_pos DJ]
   rw[sD,fC e (by omega),hw];have Xu:CU {x with i:=x.i+1} st l nm tg:=⟨⟨hA.tag.told,hA.tag.text,hA.tag.from_⟩,hA.d_,hA.names,hA.value,hA.name,hA.at_⟩
   refine Or.inl ⟨by rw[oY];exact he,by rw[jA];show x.i<x.i+1;omega,by rw[jA];show x.i+1<=_;omega,?_,_,(A5 (x:={x with i:=x.i+1}) he Xu).rel,?_⟩
   ·have t1:=vT {x with i:=x.i+1} ⟨1,nm,l,[],tg⟩;have t2:=uQ {x with i:=x.i+1} ⟨1,nm,l,[],tg⟩;simp only at t1 t2;refine⟨by rw[CX],?_,by omega⟩;rw[jA];simp only;omega
   rw[jA]
  ·have sD:Sc.eZ s [62] x=Sc.wrong x s:=by rw[hm];exact if_neg DJ
   have o9:=fx x s he;rw[sD,kp o9];have e:b_ (.plain .part) x.i st (cur s x.i)=⟨st,.fail (Tk.why (cur s x.i)) x.i⟩:=by simp only[b_,step,jM];rw[if_neg hbl,if_neg A3,if_neg DJ]
   refine Or.inr ⟨o9,by rw[h_ he],?_⟩;rw[gb e,h_ he,hA.tag.told]
end
section
variable{g:St->List Tok}{s:ByteArray}{i:Nat}{pt jT:Part}{st iG:St}{no q c:Int}{x y:Sc}
theorem Done.on{A:List Tok×Int×Int}{j:Nat}(h:Done g s {x with i:=j} y A)(hj:x.i<=j):Done g s x y A:=by
 rcases h with⟨h1,h2,h3,h4⟩|⟨h1,h2,h3⟩
 ·have JJ:j<y.i:=h2;exact Or.inl ⟨h1,by omega,h3,⟨h4.1.1,by have:=h4.1.2.1;simp only at this;omega,h4.1.2.2⟩,h4.2⟩
 ·exact Or.inr ⟨h1,h2,h3⟩
theorem yU(h1:y.at_=x.at_)(h2:y.more=x.more)(h3:y.l=x.l)(h4:x.i<=y.i):Grown x y:=⟨h1,by rw[h2];omega,by rw[h3];omega⟩
theorem Done.wrong(he:x.err=0){A:List Tok×Int×Int}(h:A=(x.l,Tk.why (cur s x.i),(x.i:Int))):Done g s x (x.wrong s) A:=by
 rw[h_ he];refine Or.inr ⟨?_,rfl,h⟩;show Tk.why _≠0;unfold Tk.why;split<;>omega
theorem L_(he:x.err=0)(hi:x.i<=s.size)(h:Rel x st)(A3:¬cur s x.i=47)(h63:¬cur s x.i=63)(YR:¬cur s x.i=33):Done g s x (x.kK s st.gy) (runs g s x.i (.plain .less) st):=by
 by_cases hb:Ch.ft (cur s x.i)=true
 ·have h0:0<=cur s x.i:=by have:=(Ch.fT _).1 hb;omega
  obtain⟨n1,n2⟩:=lB he hb;have hlt:=(q7 (s:=s) hb).2;have hle:=nh hi;have e:b_ (.plain .less) x.i st (cur s x.i)=⟨(st.clear .name).put .name (cur s x.i) x.i,.go (.name .name .part)⟩:=by simp only[b_,step,fX];rw[if_neg A3,if_neg h63,if_neg YR,if_pos hb]
  rw[fC e h0,tH .name .part x.i st hb];unfold Sc.kK;rw[n1,n2];generalize hE:jr s x.i=E at*
  generalize hN:Ch.bytes s x.i (E-x.i)=N at*
  have hA:CU {x with i:=E} (st.eI .name N x.i) [] N st.gy:=
   ⟨⟨h.tag.told,by simpa [St.eI]using h.tag.text,by simpa [St.eI]using h.tag.from_⟩,h.d_,by rw[show (st.eI .name N x.i).names=st.names from rfl,h.names];rfl,by simpa [St.eI]using h.value,by simp[St.eI],rfl⟩
  have hat:=yS (g:=g) (s:=s) (s.size+2) {x with i:=E} [] _ he hle (by show _<E+_;omega) hA;unfold Sc.d_;generalize fg s (s.size+2) {x with i:=E} []=B at*
  rcases hat with⟨b1,b2,b3,b4,b5,iG,b6,b7⟩|⟨b1,b2,b3⟩
  ·simp only at b7 b2;rw[b7];have hd:=L9 (g:=g) b1 b3 b6 b5;rcases hd with⟨d1,d2,d3,d4⟩|⟨d1,d2,d3⟩
   ·have h6:B.1.more=x.more:=by rw[b4]
    have h7:B.1.l=x.l:=by rw[b4]
    have h8:B.1.at_=x.at_:=by rw[b4]
    obtain⟨⟨g1,g2,g3⟩,g4⟩:=d4;rw[h6]at g2;rw[h7]at g3;exact Or.inl ⟨d1,by omega,d3,⟨by rw[g1,h8],by omega,g3⟩,g4⟩
   ·have hl:B.1.l=x.l:=by rw[b4]
    exact Or.inr ⟨d1,by rw[d2,hl],by rw[d3,hl]⟩
  ·have Um:B.1.jz s N B.2 st.gy=B.1:=by
    unfold Sc.jz;rw[if_neg (by rw[PV b1];simp),ja s _ b1,kp b1]
   rw[Um];exact Or.inr ⟨b1,b2,b3⟩
 ·have hn:=oC (s:=s) he hb;have o9:=fx x s he;have e:b_ (.plain .less) x.i st (cur s x.i)=⟨st.clear .name,.fail (Tk.why (cur s x.i)) x.i⟩:=by simp only[b_,step,fX];rw[if_neg A3,if_neg h63,if_neg YR,if_neg hb]
  have Um:x.kK s st.gy=x.wrong s:=by
   unfold Sc.kK Sc.d_;rw[hn];simp only;rw[j5 o9];unfold Sc.jz;rw[if_neg (by rw[PV o9];simp),ja s _ o9,kp o9]
  rw[Um];refine Done.wrong he ?_;rw[gb e,<-h.tag.told];rfl
theorem z_(he:x.err=0)(hi:x.i<=s.size)(h:Rel x st)(zP:st.run .name=[]):Done g s x (x.jR s st.gy) (runs g s x.i (.name .name .closing) st):=by
 by_cases hb:Ch.ft (cur s x.i)=true
 ·have h0:0<=cur s x.i:=by have:=(Ch.fT _).1 hb;omega
  obtain⟨n1,n2⟩:=lB he hb;have hlt:=(q7 (s:=s) hb).2;have hle:=nh hi;have Ap:st.clear .name=st.eI .name (st.run .name) 0:=by unfold St.clear;rw[zP]
  have e:b_ (.name .name .closing) x.i st (cur s x.i)=⟨(st.clear .name).put .name (cur s x.i) x.i,.go (.name .name .closing)⟩:=by
   simp only[b_,stName,fX];rw[if_pos (by rw[zP];rfl),if_pos hb];congr 1;unfold St.put;rw[Ap,ko];simp only[St.eI,if_true];rw[zP];simp
  rw[fC e h0,tH .name .closing x.i st hb];unfold Sc.jR;rw[n1,n2];generalize hE:jr s x.i=E at*
  generalize hN:Ch.bytes s x.i (E-x.i)=N at*
  have hA:CU {x with i:=E} (st.eI .name N x.i) [] N st.gy:=
   ⟨⟨h.tag.told,by simpa [St.eI]using h.tag.text,by simpa [St.eI]using h.tag.from_⟩,h.d_,by rw[show (st.eI .name N x.i).names=st.names from rfl,h.names];rfl,by simpa [St.eI]using h.value,by simp[St.eI],rfl⟩
  exact(Ij (x:={x with i:=E}) he hle hA).on (by omega)
 ·have hn:=oC (s:=s) he hb;have o9:=fx x s he;have e:b_ (.name .name .closing) x.i st (cur s x.i)=⟨st,.fail (Tk.why (cur s x.i)) x.i⟩:=by simp only[b_,stName,fX];rw[if_pos (by rw[zP];rfl),if_neg hb]
  have Um:x.jR s st.gy=x.wrong s:=by
   unfold Sc.jR;rw[hn];simp only;rw[j3 o9,ja s _ o9,kp o9]
  rw[Um];refine Done.wrong he ?_;rw[gb e,<-h.tag.told]
theorem Alike.done{A:List Tok×Int×Int}(h:Alike s x y A (fun j=>runs g s j (.plain .between) st))(hr:Rel x st)(hlt:y.err=0->x.i<y.i):Done g s x y A:=by
 rcases h with⟨h1,h2,h3,h4,h5⟩|⟨h1,h2,h3⟩
 ·refine Or.inl ⟨h1,hlt h1,h3,⟨by rw[h4],by rw[h4];simp only;omega,by rw[h4];simp only;omega⟩,st,?_,h5⟩;rw[h4];exact hr.at _
 ·exact Or.inr ⟨h1,h2,h3⟩
theorem qm(st:St)(i:Nat):runs g s i (.plain .order) st=runs g s (jr s i) (.plain .order) st:=by
 by_cases h:vx (cur s i)=true
 ·have h0:=mj h;have hc:=fp h0;have hne:¬cur s i=63:=by
   intro e;rw[e]at h;exact absurd h (by decide)
  have e:b_ (.plain .order) i st (cur s i)=⟨st,.go (.plain .order)⟩:=by simp only[b_,step,jd];rw[if_neg hne,if_neg (by omega)]
  rw[fC e h0,qm st (i+wid s i),j4 h]
 ·rw[pT h]
termination_by s.size-i
theorem Ik(he:x.err=0)(hi:x.i<=s.size)(h:Rel x st):Done g s x (x.order s) (runs g s x.i (.plain .iK) st):=by
 by_cases hb:Ch.ft (cur s x.i)=true
 ·have h0:0<=cur s x.i:=by have:=(Ch.fT _).1 hb;omega
  have vv:vx (cur s x.i)=true:=by unfold vx;rw[hb];rfl
  obtain⟨n1,n2⟩:=lB he hb;have hlt:=(q7 (s:=s) hb).2;have hle:=nh hi;have e:b_ (.plain .iK) x.i st (cur s x.i)=⟨st,.go (.plain .order)⟩:=by simp only[b_,step];rw[if_pos hb]
  rw[fC e h0,qm st,<-j4 vv];unfold Sc.order Sc.until;rw[n1];refine Done.on (j:=jr s x.i) ?_ (by omega);refine(H_ (s:=s) (jr s x.i) (s.size+2) {x with i:=jr s x.i} he hle (by show _<jr s x.i+_;omega) h.tag.told).done (h.at _) ?_;intro h1;have:=(yO s ⟨#[63,62]⟩ (by decide) (jr s x.i) (s.size+2) {x with i:=jr s x.i} he h1 (by show _<jr s x.i+_;omega) hle).2;have h2:jr s x.i+2<=_:=this;show jr s x.i<_;omega
 ·have hn:=oC (s:=s) he hb;have o9:=fx x s he;have e:b_ (.plain .iK) x.i st (cur s x.i)=⟨st,.fail (Tk.why (cur s x.i)) x.i⟩:=by simp only[b_,step];rw[if_neg hb]
  have Um:x.order s=x.wrong s:=by
   unfold Sc.order Sc.until;rw[hn];simp only;rw[jy _ _ _ _ _ o9]
  rw[Um];refine Done.wrong he ?_;rw[gb e,<-h.tag.told]
theorem Fa(he:x.err=0)(hi:x.i<=s.size)(h:Rel x st)(Eb:¬cur s x.i=91):Done g s x (x.remark s) (runs g s x.i (.plain .oV) st):=by
 by_cases h45:cur s x.i=45
 ·have hw:=fO (s:=s) (i:=x.i) (by omega) (by omega);have hc:=fp (s:=s) (i:=x.i) (by omega);have e:b_ (.plain .oV) x.i st (cur s x.i)=⟨st,.go (.word [45] .remark)⟩:=by simp only[b_,step];rw[if_pos h45]
  rw[fC e (by omega),hw];have hm:Sc.eZ s [45,45] x=Sc.eZ s [45] {x with i:=x.i+1}:=by
   have:x.is s (45:UInt8).toNat=true:=(jZ he (by decide)).2 h45
   conv=>lhs;rw[Sc.eZ]
   rw[if_pos he,if_pos this]
  unfold Sc.remark;rw[hm];have hwd:=vR (g:=g) (s:=s) (st:=st) .remark [45] {x with i:=x.i+1} (by decide) (by decide) he (by show x.i+1<=_;omega) h.tag.told;generalize Sc.eZ s [45] {x with i:=x.i+1}=y at*
  rcases hwd with⟨y1,y2,y3,y4,y5⟩|⟨y1,y2,y3⟩
  ·have y2':x.i+1<=y.i:=y2;simp only at y5;rw[y5];have hl:y.l=x.l:=by rw[y4]
   have hry:Rel y st:=by rw[y4];exact h.at _
   have hu:=E3 (g:=g) (s:=s) (st:=st) y.i (s.size+2) y y1 y3 (by omega) (by rw[hl];exact h.tag.told);unfold Sc.until;generalize (gu s ⟨#[45,45]⟩ y.i (s.size+2) y).1=u at*
   rcases hu with⟨u1,u2,u3,u4,u5⟩|⟨u1,u2,u3⟩
   ·have hl':u.l=x.l:=by rw[u4,<-hl]
    have Sr:Rel u st:=by rw[u4];exact hry.at _
    simp only at u5;rw[u5];have hw2:=vR (g:=g) (s:=s) (st:=st) .between [62] u (by decide) (by decide) u1 u3 (by rw[hl'];exact h.tag.told);generalize Sc.eZ s [62] u=v at*
    rcases hw2 with⟨v1,v2,v3,v4,v5⟩|⟨v1,v2,v3⟩
    ·exact Or.inl ⟨v1,by omega,v3,yU (by rw[v4,u4,y4]) (by rw[v4,u4,y4]) (by rw[v4,u4,y4]) (by omega),st,by rw[v4];exact Sr.at _,v5⟩
    ·exact Or.inr ⟨v1,by rw[v2,hl'],by rw[v3,hl']⟩
   ·rw[ja s _ u1];exact Or.inr ⟨u1,by rw[u2,hl],by rw[u3,hl]⟩
  ·unfold Sc.until;rw[jy _ _ _ _ _ y1,ja s _ y1];exact Or.inr ⟨y1,y2,y3⟩
 ·have o9:=fx x s he;have Um:x.remark s=x.wrong s:=by
   have abp:¬x.is s (45:UInt8).toNat=true:=fun e=>h45 ((jZ he (by decide)).1 e);unfold Sc.remark Sc.until;have:Sc.eZ s [45,45] x=x.wrong s:=by
    conv=>lhs;rw[Sc.eZ]
    rw[if_pos he,if_neg abp,ja s _ o9]
   rw[this,jy _ _ _ _ _ o9,ja s _ o9]
  rw[Um];refine Done.wrong he ?_;have e:b_ (.plain .oV) x.i st (cur s x.i)=⟨st,.fail (Tk.why (cur s x.i)) x.i⟩:=by simp only[b_,step];rw[if_neg h45,if_neg Eb]
  rw[gb e,<-h.tag.told]
theorem Il(he:x.err=0)(hi:x.i<=s.size)(h:Rel x st)(Eb:cur s x.i=91):Done g s x (x.sT s) (runs g s x.i (.plain .oV) st):=by
 have hw:=fO (s:=s) (i:=x.i) (by omega) (by omega);have hc:=fp (s:=s) (i:=x.i) (by omega);have e:b_ (.plain .oV) x.i st (cur s x.i)=⟨st,.go (.word [67,68,65,84,65,91] .iu)⟩:=by simp only[b_,step];rw[if_neg (by omega),if_pos Eb]
 rw[fC e (by omega),hw];have hm:Sc.eZ s [91,67,68,65,84,65,91] x=Sc.eZ s [67,68,65,84,65,91] {x with i:=x.i+1}:=by
  have:x.is s (91:UInt8).toNat=true:=(jZ he (by decide)).2 Eb
  conv=>lhs;rw[Sc.eZ]
  rw[if_pos he,if_pos this]
 unfold Sc.sT;rw[hm];have hwd:=vR (g:=g) (s:=s) (st:=st) .iu [67,68,65,84,65,91] {x with i:=x.i+1} (by decide) (by decide) he (by show x.i+1<=_;omega) h.tag.told;generalize Sc.eZ s [67,68,65,84,65,91] {x with i:=x.i+1}=y at*
 rcases hwd with⟨y1,y2,y3,y4,y5⟩|⟨y1,y2,y3⟩
 ·have y2':x.i+1<=y.i:=y2;simp only at y5;rw[y5];have hl:y.l=x.l:=by rw[y4]
  have hry:Rel y st:=by rw[y4];exact h.at _
  have hu:=CT (g:=g) (s:=s) (st:=st) y.i (s.size+2) y y1 y3 (aj _) (by omega) (by rw[hl];exact h.tag.told);rw[AW]at hu;have hut:=fun h1=>yO s ⟨#[93,93,62]⟩ (by decide) y.i (s.size+2) y y1 h1 (by omega) y3;unfold Sc.until;generalize gu s ⟨#[93,93,62]⟩ y.i (s.size+2) y=u at*
  rcases hu with⟨u1,u2,u3,u4,u5⟩|⟨u1,u2,u3⟩
  ·obtain⟨t1,t2⟩:=hut u1;have t2':y.i+3<=u.1.i:=t2;have hsz:(⟨#[93,93,62]⟩:ByteArray).size=3:=rfl;have hb:u.2.data.toList=Ch.bytes s y.i (u.1.i-3-y.i):=by rw[t1,ij,hsz]
   have Sr:Rel u.1 st:=by rw[u4];exact hry.at _
   rw[u5];by_cases hne:u.2.data.toList≠[]
   ·rw[if_pos ⟨u1,hne⟩];have hlt:y.i<u.1.i-3:=by
     by_cases hlt:y.i<u.1.i-3
     ·exact hlt
     ·exfalso;apply hne;rw[hb,show u.1.i-3-y.i=0 by omega];unfold Ch.bytes;simp
    refine Or.inl ⟨u1,by show x.i<u.1.i;omega,u3,⟨by show u.1.at_=x.at_;rw[u4,y4],?_,by show u.1.l.length<=_;rw[u4,y4];simp only;omega⟩,_,?_,rfl⟩
    ·have h6:u.1.more=x.more:=by rw[u4,y4]
     show (u.1.more++u.2.data.toList).length+x.i<=x.more.length+u.1.i;rw[h6,af,hb];have h7:(Ch.bytes s y.i (u.1.i-3-y.i)).length<=u.1.i-3-y.i:=by unfold Ch.bytes;rw[bM];omega
     omega
    refine⟨⟨Sr.tag.told,?_,?_⟩,Sr.d_,Sr.names,?_⟩
    ·simp only[St.upto,St.eI,if_true,Sc.iC];rw[hb,Sr.tag.text]
    ·intro _;simp only[St.upto,St.eI,if_true,Sc.iC];rw[Sr.tag.text];by_cases YI:u.1.more=[]
     ·rw[if_pos ⟨YI,hlt⟩,if_pos YI]
     ·rw[if_neg (fun e=>YI e.1),if_neg YI];exact Sr.tag.from_ YI
    ·simpa [St.upto,St.eI]using Sr.value
   ·rw[if_neg (fun e=>hne e.2)];have hz:u.1.i-3=y.i:=by
     by_cases hlt:y.i<u.1.i-3
     ·exact absurd (by rw[hb];exact uM s (by omega) (by omega)) hne
     ·omega
    refine Or.inl ⟨u1,by omega,u3,yU (by rw[u4,y4]) (by rw[u4,y4]) (by rw[u4,y4]) (by omega),st,Sr,?_⟩;show runs g s u.1.i _ (st.upto s .text y.i (u.1.i-3))=_;rw[hz,AW]
  ·rw[if_neg (fun e=>u1 e.1)];exact Or.inr ⟨u1,by rw[u2,hl],by rw[u3,hl]⟩
 ·unfold Sc.until;rw[jy _ _ _ _ _ y1];rw[if_neg (fun e=>y1 e.1)];exact Or.inr ⟨y1,y2,y3⟩
theorem Fb(he:x.err=0)(h:Rel x st)(sG:cur s x.i=60):Done g s x (x.kA s) (runs g s x.i (.plain .between) st):=by
 have hw:=fO (s:=s) (i:=x.i) (by omega) (by omega);have hc:=fp (s:=s) (i:=x.i) (by omega);have e:b_ (.plain .between) x.i st (cur s x.i)=⟨{st with gy:=x.i},.go (.plain .less)⟩:=by simp only[b_,step];rw[if_pos sG]
 rw[fC e (by omega),hw];have hr:Rel {x with i:=x.i+1} {st with gy:=(x.i:Int)}:=⟨⟨h.tag.told,h.tag.text,h.tag.from_⟩,h.d_,h.names,h.value⟩
 unfold Sc.kA;refine Done.on (j:=x.i+1) ?_ (by omega);have hle:x.i+1<=s.size:=by omega
 have hx:({x with i:=x.i+1}:Sc).err=0:=he;have htg:({st with gy:=(x.i:Int)}:St).gy=x.i:=rfl;have zH:({x with i:=x.i+1}:Sc).i=x.i+1:=rfl;rw[<-zH]at hle ⊢;rw[<-htg];generalize ({x with i:=x.i+1}:Sc)=X at*
 generalize ({st with gy:=(x.i:Int)}:St)=S at*
 clear htg zH e sG hw hc h he;unfold Sc.behind;have i33:X.is s 33=true↔cur s X.i=33:=jZ hx (by omega);have i63:X.is s 63=true↔cur s X.i=63:=jZ hx (by omega);have i47:X.is s 47=true↔cur s X.i=47:=jZ hx (by omega);by_cases c33:cur s X.i=33
 ·rw[if_pos (i33.2 c33)];have hw:=fO (s:=s) (i:=X.i) (by omega) (by omega);have hc:=fp (s:=s) (i:=X.i) (by omega);have e:b_ (.plain .less) X.i S (cur s X.i)=⟨S,.go (.plain .oV)⟩:=by simp only[b_,step];rw[if_neg (by omega),if_neg (by omega),if_pos c33]
  rw[fC e (by omega),hw];refine Done.on (j:=X.i+1) ?_ (by omega);unfold Sc.oV;have i91:=jZ (s:=s) (x:={X with i:=X.i+1}) hx (c:=91) (by omega);by_cases c91:cur s (X.i+1)=91
  ·rw[if_pos (i91.2 c91)];exact Il (x:={X with i:=X.i+1}) hx (by show X.i+1<=_;omega) (hr.at _) c91
  ·rw[if_neg (fun h=>c91 (i91.1 h))];exact Fa (x:={X with i:=X.i+1}) hx (by show X.i+1<=_;omega) (hr.at _) c91
 ·rw[if_neg (fun h=>c33 (i33.1 h))];by_cases c63:cur s X.i=63
  ·rw[if_pos (i63.2 c63)];have hw:=fO (s:=s) (i:=X.i) (by omega) (by omega);have hc:=fp (s:=s) (i:=X.i) (by omega);have e:b_ (.plain .less) X.i S (cur s X.i)=⟨S,.go (.plain .iK)⟩:=by simp only[b_,step];rw[if_neg (by omega),if_pos c63]
   rw[fC e (by omega),hw];exact(Ik (x:={X with i:=X.i+1}) hx (by show X.i+1<=_;omega) (hr.at _)).on (by omega)
  ·rw[if_neg (fun h=>c63 (i63.1 h))];by_cases c47:cur s X.i=47
   ·rw[if_pos (i47.2 c47)];have hw:=fO (s:=s) (i:=X.i) (by omega) (by omega);have hc:=fp (s:=s) (i:=X.i) (by omega);have e:b_ (.plain .less) X.i S (cur s X.i)=⟨S.clear .name,.go (.name .name .closing)⟩:=by simp only[b_,step];rw[if_pos c47]
    rw[fC e (by omega),hw];have hr':Rel {X with i:=X.i+1} (S.clear .name):=⟨⟨hr.tag.told,by simpa [St.clear,St.eI]using hr.tag.text,by simpa [St.clear,St.eI]using hr.tag.from_⟩,hr.d_,hr.names,by simpa [St.clear,St.eI]using hr.value⟩
    exact(z_ (x:={X with i:=X.i+1}) hx (by show X.i+1<=_;omega) hr' (by simp[St.clear,St.eI])).on (by omega)
   ·rw[if_neg (fun h=>c47 (i47.1 h))];exact L_ hx hle hr c47 c63 c33
end
section
variable{g:St->List Tok}{s:ByteArray}{i:Nat}{pt jT:Part}{st iG:St}{no q c:Int}{x y:Sc}
def Sc.piece(x:Sc)(s:ByteArray):Sc:=
 if(s.get! x.i).toNat=60 then x.kA s else if(x.char s 60).1.err=0 then(x.char s 60).1.iC (x.char s 60).2 x.i else(x.char s 60).1
def iQ(s:ByteArray):Nat->Sc->Sc
 |0,x=>x
 |f+1,x=>if x.i<s.size/\x.err=0 then iQ s f (x.piece s)else x
def Sc.zero:Sc:=⟨0,[],[],0,0,0⟩
def eV(s:ByteArray):Sc:=iQ s (s.size+1) Sc.zero
def Sc.last(x:Sc):List Tok:=if x.err≠0\/x.more=[]then []else [gS x]
def Sc.fin(x:Sc)(G:Sc->List Tok):List Tok×Int×Int:=if x.err=0 then(G x,0,0)else(x.l,x.err,x.at_)
theorem Ma(he:x.err=0)(hi:x.i<s.size)(h:Rel x st)(sG:¬cur s x.i=60):
  Done g s x (if(x.char s 60).1.err=0 then(x.char s 60).1.iC (x.char s 60).2 x.i else(x.char s 60).1) (runs g s x.i (.plain .between) st):=by
 have hch:=uP (s:=s) he 60 (by omega);have abq:¬cur s x.i=((60:Nat):Int):=sG;by_cases h0:0<=cur s x.i
 ·have hc:=fp h0;have zO:¬(cur s x.i<0\/cur s x.i=60\/cur s x.i=((60:Nat):Int)):=by rintro(h|h|h);omega;exact sG h;exact abq h
  rw[if_neg zO]at hch;by_cases oy:cur s x.i=38
  ·rw[if_pos oy]at hch;have e:b_ (.plain .between) x.i st (cur s x.i)=⟨(st.clear .ref).put .ref 38 x.i,.go (.ref .text .between)⟩:=by simp only[b_,step];rw[if_neg sG,if_pos oy]
   rw[fC e h0,E9 .text .between x.i st oy];unfold AX;by_cases hz:(Ch.eU s x.i).2=0
   ·rw[if_pos hz]at hch ⊢;have hf:=nU x 4 x.i he (by decide);rw[hch];simp only;rw[if_neg hf];refine Or.inr ⟨hf,?_,?_⟩
    ·unfold Sc.fail;rw[if_pos he]
    ·unfold Sc.fail;rw[if_pos he,h.tag.told]
   ·rw[if_neg hz]at hch ⊢;have hsp:=Ch.jk hz;rw[hch];simp only;rw[if_pos he];refine Or.inl ⟨he,by show x.i<x.i+_;omega,by show x.i+(Ch.eU s x.i).2.toNat<=_;omega,⟨rfl,?_,by show x.l.length<=_;omega⟩,_,?_,rfl⟩
    ·show (x.more++Lib.encodeRune (Ch.eU s x.i).1).length+x.i<=x.more.length+(x.i+(Ch.eU s x.i).2.toNat);have:=Ch.rL (Ch.eU s x.i).1;rw[af];omega
    refine⟨⟨h.tag.told,?_,?_⟩,h.d_,h.names,?_⟩
    ·simp[St.put,St.eI,Sc.iC,h.tag.text]
    ·intro _;simp only[St.put,St.eI,Sc.iC,if_true];by_cases hm:x.more=[]
     ·rw[if_pos hm];simp[h.tag.text,hm]
     ·rw[if_neg hm];simp[h.tag.text,hm];exact h.tag.from_ hm
    ·simpa [St.put,St.eI]using h.value
  ·rw[if_neg oy]at hch;have e:b_ (.plain .between) x.i st (cur s x.i)=⟨st.put .text (cur s x.i) x.i,.go (.plain .between)⟩:=by simp only[b_,step];rw[if_neg sG,if_neg oy,if_neg (by omega),if_neg (by omega)]
   have hb:=ij s x.i (x.i+wid s x.i);rw[show x.i+wid s x.i-x.i=wid s x.i by omega,<-mh h0]at hb;rw[fC e h0,hch];simp only;rw[if_pos he];refine Or.inl ⟨he,by show x.i<x.i+wid s x.i;omega,by show x.i+wid s x.i<=_;omega,⟨rfl,?_,by show x.l.length<=_;omega⟩,_,?_,rfl⟩
   ·show (x.more++(s.extract x.i (x.i+wid s x.i)).data.toList).length+x.i<=x.more.length+(x.i+wid s x.i);have h7:(Ch.bytes s x.i (wid s x.i)).length<=wid s x.i:=by unfold Ch.bytes;rw[bM];omega
    rw[af,hb,mh h0];omega
   refine⟨⟨h.tag.told,?_,?_⟩,h.d_,h.names,?_⟩
   ·simp only[St.put,St.eI,Sc.iC,if_true];rw[hb,h.tag.text]
   ·intro _;simp only[St.put,St.eI,Sc.iC,if_true];by_cases hm:x.more=[]
    ·rw[if_pos hm];simp[h.tag.text,hm]
    ·rw[if_neg hm];simp[h.tag.text,hm];exact h.tag.from_ hm
   ·simpa [St.put,St.eI]using h.value
 ·rw[if_pos (Or.inl (by omega))]at hch;have o9:=fx x s he;rw[hch];simp only;rw[if_neg o9];refine Done.wrong he ?_;rcases rU h0 with⟨_,h2⟩|⟨h2,_⟩
  ·have e:b_ (.plain .between) x.i st (cur s x.i)=⟨st,.fail 2 x.i⟩:=by simp only[b_,step,h2];rfl
   rw[gb e,h2,h.tag.told];rfl
  ·exact absurd hi h2
theorem nY(he:x.err=0)(hi:x.i<s.size)(h:Rel x st):Done g s x (x.piece s) (runs g s x.i (.plain .between) st):=by
 unfold Sc.piece;have YQ:=jY (s:=s) (i:=x.i) (c:=60) (by omega);by_cases sG:cur s x.i=60
 ·rw[if_pos (YQ.1 sG).2];exact Fb he h sG
 ·rw[if_neg (fun e=>sG (YQ.2 ⟨hi,e⟩))];exact Ma he hi h sG
theorem rW(he:x.err≠0)(f:Nat):iQ s f x=x:=by
 cases f with
 |zero=>rfl
 |succ f=>simp only[iQ];rw[if_neg (fun e=>he e.2)]
theorem A6(G:Sc->List Tok)(hG:∀(x:Sc) (st:St),x.err=0->Rel x st->g st=G x):∀(f:Nat) (x:Sc) (st:St),x.err=0->x.i<=s.size->s.size<x.i+f->Rel x st->runs g s x.i (.plain .between) st=(iQ s f x).fin G:=by
 intro f;induction f with
 |zero=>intro x st he hi hf;omega
 |succ f ih=>
  intro x st he hi hf h;simp only[iQ];by_cases hlt:x.i<s.size
  ·rw[if_pos ⟨hlt,he⟩];rcases nY he hlt h with⟨h1,h2,h3,ha,iG,h4,h5⟩|⟨h1,h2,h3⟩
   ·rw[h5];exact ih _ _ h1 h3 (by omega) h4
   ·rw[rW h1,h3];unfold Sc.fin;rw[if_neg h1,h2]
  ·rw[if_neg (fun e=>hlt e.1)];have hc:cur s x.i= -1:=by unfold cur;rw[if_neg hlt]
   have e:b_ (.plain .between) x.i st (cur s x.i)=⟨st.eK,.stop⟩:=by simp only[b_,step,hc];rfl
   rw[vQ e,hG x st he h];unfold Sc.fin;rw[if_pos he]
theorem tI(g:St->List Tok):∀(f:Nat) (x:Sc) (st:St),x.err=0->x.i<=s.size->s.size<x.i+f->Rel x st->(iQ s f x).err=0->(iQ s f x).i=s.size/\(iQ s f x).at_=x.at_:=by
 intro f;induction f with
 |zero=>intro x st he hi hf;omega
 |succ f ih=>
  intro x st he hi hf h;simp only[iQ];by_cases hlt:x.i<s.size
  ·rw[if_pos ⟨hlt,he⟩];rcases nY (g:=g) he hlt h with⟨h1,h2,h3,ha,iG,h4,h5⟩|⟨h1,h2,h3⟩
   ·intro e;have:=ih _ _ h1 h3 (by omega) h4 e;exact⟨this.1,this.2.trans ha.1⟩
   ·rw[rW h1];intro e;exact absurd e h1
  ·rw[if_neg (fun e=>hlt e.1)];intro _;exact⟨by omega,rfl⟩
theorem Mb(x:Sc)(st:St)(he:x.err=0)(h:Rel x st):st.eK.told=x.l++x.last:=by
 rw[pW h.tag];unfold Sc.last;by_cases hm:x.more=[]
 ·rw[if_pos hm,if_pos (Or.inr hm),aM]
 ·rw[if_neg hm,if_neg (by rintro(h|h);exact h he;exact hm h)]
end
end K
end Go.Proofs.YthlcmljckpdheaaGreatDoor
