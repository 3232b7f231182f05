import Derived.Test.YtjecakcpcnmieaaGreatDoorHA
import Derived.BigQuiet
import Derived.Deep.QuietTactic
import Derived.Deep.RegionHeld3
import Derived.Deep.RegionLaw
import Derived.Test.YtjecakcpcnmieaaGreatDoorHaj
set_option linter.unusedVariables false
set_option linter.unusedSimpArgs false
set_option maxHeartbeats 32000000
set_option maxRecDepth 100000
namespace Go.Proofs.YtjecakcpcnmieaaGreatDoor
namespace K
open Go.RowKit Go.Maps Go.Lib Tryz
section
structure Sc where
 i:Nat
 l:List Tok
 more:List UInt8
 fV:Int
 err:Int
 at_:Int
def fN(s:ByteArray)(lv:Value)(x:Sc):Array Value:=#[.string s,.int .i64 x.i,lv,eZ x.more,.int .i64 x.fV,.int .i64 x.err,.int .i64 x.at_]
def kQ(X:Nat)(w:World)(s:ByteArray)(lv:Value)(x:Sc):Prop:=w.heap[X]?=some (.cells (fN s lv x) 69 (0,0))
structure Wj(X:Nat)(w w':World):Prop where
 os:w'.os=w.os
 tape:w'.tape=w.tape
 output:w'.output=w.output
 size:w.heap.size<=w'.heap.size
 block:∀k,k<w.heap.size->k≠X->w'.heap[k]?=w.heap[k]?
theorem Wj.refl(X:Nat)(w:World):Wj X w w:=⟨rfl,rfl,rfl,ah _,fun _ _ _=>rfl⟩
theorem Wj.trans{X:Nat}{a b c:World}(h:Wj X a b)(k:Wj X b c):Wj X a c:=
 ⟨k.os.trans h.os,k.tape.trans h.tape,k.output.trans h.output,ar h.size k.size,fun i hi hX=>(k.block i (ak hi h.size) hX).trans (h.block i hi hX)⟩
def SE(X:Nat)(w:World)(s:ByteArray)(lv:Value)(x:Sc)(w':World):Prop:=kQ X w' s lv x/\Wj X w w'
variable{X:Nat}{w w' w'':World}{s:ByteArray}{lv:Value}{x x':Sc}
theorem SE.refl(h:kQ X w s lv x):SE X w s lv x w:=⟨h,Wj.refl _ _⟩
theorem SE.on(h:SE X w s lv x w')(k:SE X w' s lv x' w''):SE X w s lv x' w'':=⟨k.1,h.2.trans k.2⟩
theorem SE.below(h:SE X w s lv x w')(hX:X<w.heap.size)(b:Z5 w' w''):SE X w s lv x w'':=
 ⟨(b.block X (ak hX h.2.size)).trans h.1,h.2.trans ⟨b.os,b.tape,b.output,b.size,fun k hk _=>b.block k hk⟩⟩
theorem SE.set(h:SE X w s lv x w')(i:Nat)(v:Value)(hc:(fN s lv x).setIfInBounds i v=fN s lv x'):SE X w s lv x' (w'.setCell ⟨X,i,none⟩ v):=by
 refine⟨?_,h.2.trans ⟨rfl,rfl,rfl,by simp[World.setCell],fun k _ hX=>af _ _ _ _ hX⟩⟩;have:=eV (i:=i) h.1 v;rw[hc]at this;exact this
theorem kQ.cell(h:kQ X w s lv x)(i:Nat){v:Value}(hi:(fN s lv x)[i]?=some v):w.cell? ⟨X,i,none⟩=some v:=cell_of h hi
theorem kQ.free(h:kQ X w s lv x)(i:Nat):w.frozen? ⟨X,i,none⟩=false:=eP h
theorem kQ.lt(h:kQ X w s lv x):X<w.heap.size:=(Array.getElem?_eq_some_iff.1 h).1
def Sc.fail(x:Sc)(e a:Int):Sc:=if x.err=0 then{x with err:=e,at_:=a}else x
theorem sI(h:kQ X w s lv x)(e a:Int):Z4 75 #[Z8 X,.int .i64 e,.int .i64 a] w fun en w'=>en=.returned (.tuple #[])/\SE X w s lv (x.fail e a) w':=by
 have c5:w.cell? ⟨X,5,none⟩=some (.int .i64 x.err):=h.cell 5 rfl;have c6:w.cell? ⟨X,6,none⟩=some (.int .i64 x.at_):=h.cell 6 rfl;have f5:=h.free 5;have f6:=h.free 6;unfold Sc.fail;by_cases h0:x.err=0
 ·have e0:(x.err==0)=true:=by simpa using h0
  rw[if_pos h0];have H:=a_ (((SE.refl h).set (x':={x with err:=e}) 5 (.int .i64 e) rfl).set (x':={x with err:=e,at_:=a}) 6 (.int .i64 a) rfl);clear h h0;go_enter func75,ntmps75;go_wp2
  go_end0
  exact⟨rfl,H.out⟩
 ·have e0:(x.err==0)=false:=by simpa using h0
  rw[if_neg h0];have H:=a_ (SE.refl h);clear h h0;go_enter func75,ntmps75;go_wp2
  go_end0
  exact⟨rfl,H.out⟩
def Sc.wrong(x:Sc)(s:ByteArray):Sc:=if x.i<s.size then(if(Ch.om s x.i).2=0 then x.fail 2 x.i else x.fail 3 x.i)else x.fail 3 x.i
end
section
variable{X:Nat}{w w' w'':World}{s:ByteArray}{lv:Value}{x x':Sc}
theorem SE.drewN(h:SE X w s lv x w')(n:Nat):SE X w s lv x (w'.drewN n):=⟨h.1,⟨h.2.os,h.2.tape,h.2.output,h.2.size,h.2.block⟩⟩
theorem kQ.drewN(h:kQ X w s lv x)(n:Nat):kQ X (w.drewN n) s lv x:=h
theorem rB(h:kQ X w s lv x)(hs:s.size<=1125899906842624):Z4 73 #[Z8 X] w fun en w'=>en=.returned (.tuple #[])/\SE X w s lv (x.wrong s) w':=by
 have c0:w.cell? ⟨X,0,none⟩=some (.string s):=h.cell 0 rfl;have c1:w.cell? ⟨X,1,none⟩=some (.int .i64 x.i):=h.cell 1 rfl;unfold Sc.wrong;by_cases hi:x.i<s.size
 ·have hat:=fun w=>wC s x.i w hs (by omega);rw[if_pos hi];by_cases hz:(Ch.om s x.i).2=0
  ·have e0:((Ch.om s x.i).2==0)=true:=by simpa using hz
   rw[if_pos hz];have hf:=fun W (b:SE X w s lv x W)=>sI b.1 2 x.i;have HF:=a_ hf;have H:=a_ (SE.refl h);clear h hz hf;generalize (Ch.om s x.i).1=a1 at*
   generalize (Ch.om s x.i).2=a2 at*
   go_enter func73,ntmps73;go_wp2_with fail;go_quiet(fail);have d0:(w.drewN nq).cell? ⟨X,0,none⟩=some (.string s):=c0;have d1:(w.drewN nq).cell? ⟨X,1,none⟩=some (.int .i64 x.i):=c1;go_wp2_with fail;go_region_held3 (fun W=>W.cell? ⟨X,0,none⟩=some (.string s)/\W.cell? ⟨X,1,none⟩=some (.int .i64 x.i))
    (first|exact⟨d0,d1⟩)
    (first|(go_at_call 76;refine(hat _).mono ?_;rintro e w3 ⟨rfl,hw3⟩;have hw4:=hw3.symm;clear hw3;subst hw4))
   all_goals
    go_wp2_with fail;refine(HF.out _ ((H.out.drewN nq).drewN 1)).mono ?_;rintro e w3 ⟨rfl,r3⟩;go_wp2;first|go_end0|refine aV (aK rfl _ _ _) rfl ?_
    exact⟨rfl,((H.out.drewN nq).drewN 1).on r3⟩
  ·have e0:((Ch.om s x.i).2==0)=false:=by simpa using hz
   rw[if_neg hz];have hf:=fun W (b:SE X w s lv x W)=>sI b.1 3 x.i;have HF:=a_ hf;have H:=a_ (SE.refl h);clear h hz hf;generalize (Ch.om s x.i).1=a1 at*
   generalize (Ch.om s x.i).2=a2 at*
   go_enter func73,ntmps73;go_wp2_with fail;go_quiet(fail);have d0:(w.drewN nq).cell? ⟨X,0,none⟩=some (.string s):=c0;have d1:(w.drewN nq).cell? ⟨X,1,none⟩=some (.int .i64 x.i):=c1;go_wp2_with fail;go_region_held3 (fun W=>W.cell? ⟨X,0,none⟩=some (.string s)/\W.cell? ⟨X,1,none⟩=some (.int .i64 x.i))
    (first|exact⟨d0,d1⟩)
    (first|(go_at_call 76;refine(hat _).mono ?_;rintro e w3 ⟨rfl,hw3⟩;have hw4:=hw3.symm;clear hw3;subst hw4))
   all_goals
    go_wp2_with fail;refine(HF.out _ ((H.out.drewN nq).drewN 1)).mono ?_;rintro e w3 ⟨rfl,r3⟩;go_wp2;first|go_end0|refine aV (aK rfl _ _ _) rfl ?_
    exact⟨rfl,((H.out.drewN nq).drewN 1).on r3⟩
 ·rw[if_neg hi];have hf:=fun W (b:SE X w s lv x W)=>sI b.1 3 x.i;have HF:=a_ hf;have H:=a_ (SE.refl h);clear h hf;go_enter func73,ntmps73;go_wp2_with fail;go_quiet(fail);go_wp2_with fail;refine(HF.out _ (H.out.drewN _)).mono ?_;rintro e w3 ⟨rfl,r3⟩;go_wp2
  go_end0
  exact⟨rfl,(H.out.drewN _).on r3⟩
def Sc.is(x:Sc)(s:ByteArray)(c:Nat):Bool:=x.err==0&&(decide (x.i<s.size)&&(s.get! x.i).toNat==c)
theorem BZ(h:kQ X w s lv x)(c:Nat)(hc:c<256):Z4 66 #[Z8 X,.int .u8 c] w (Z7 (.bool (x.is s c)) w):=by
 have c0:w.cell? ⟨X,0,none⟩=some (.string s):=h.cell 0 rfl;have c1:w.cell? ⟨X,1,none⟩=some (.int .i64 x.i):=h.cell 1 rfl;have c5:w.cell? ⟨X,5,none⟩=some (.int .i64 x.err):=h.cell 5 rfl;unfold Sc.is;clear h;by_cases h0:x.err=0
 ·have e0:(x.err==0)=true:=by simpa using h0
  by_cases hi:x.i<s.size
  ·have hx:(decide (x.i<s.size))=true:=by simpa using hi
   rw[e0,hx,cN,cN];clear h0;go_enter func66,ntmps66;go_wp2_with fail;go_quiet(fail);go_wp2;go_ret;refine⟨?_,below_drewN (Below.refl _ _) _⟩;show Ending.returned (.bool ((s[x.i].toNat:Int)==(c:Int)))=_;have e:s[x.i]=s.get! x.i:=(Utf8W.get!_of_lt s x.i hi).symm;have e2:((s[x.i].toNat:Int)==(c:Int))=((s.get! x.i).toNat==c):=by rw[e,bL];simp only[bA];omega
   rw[e2]
  ·have hx:(decide (x.i<s.size))=false:=by simpa using hi
   rw[e0,hx,cN,cG];clear h0;go_enter func66,ntmps66;go_wp2_with fail;go_quiet(fail);go_wp2;go_ret;exact⟨rfl,below_drewN (Below.refl _ _) _⟩
 ·have e0:(x.err==0)=false:=by simpa using h0
  rw[e0,cG];clear h0;go_enter func66,ntmps66;go_wp2_with fail;go_quiet(fail);go_wp2;go_ret;exact⟨rfl,below_drewN (Below.refl _ _) _⟩
end
section
variable{X:Nat}{w w' w'' wr:World}{s t:ByteArray}{lv:Value}{x x':Sc}
def Sc.eW(s:ByteArray):List UInt8->Sc->Sc
 |[],x=>x
 |c::l,x=>if x.err=0 then(if x.is s c.toNat=true then Sc.eW s l {x with i:=x.i+1}else Sc.eW s l (x.wrong s))else x
theorem je(s:ByteArray)(l:List UInt8)(h:x.err≠0):Sc.eW s l x=x:=by
 cases l with
 |nil=>rfl
 |cons c l=>simp[Sc.eW,h]
theorem SE.sJ(h:kQ X w s lv x)(b:Z5 w w'):SE X w s lv x w':=(SE.refl h).below h.lt b
def NG(t:ByteArray)(k:Nat):List UInt8:=t.data.toList.drop k
theorem RU(t:ByteArray)(k:Nat)(h:k<t.size):NG t k=t.get! k::NG t (k+1):=by
 unfold NG;have h':k<t.data.toList.length:=by simpa using h
 rw[bX h'];congr 1;show t.data.toList[k]=t.data[k]!;rw[getElem!_pos t.data k h,Array.getElem_toList]
theorem Wk(t:ByteArray)(k:Nat)(h:¬k<t.size):NG t k=[]:=by
 unfold NG;exact List.drop_eq_nil_of_le (by simpa using h)
theorem zC(x:Sc)(e a:Int):(x.fail e a).i=x.i:=by unfold Sc.fail;split<;>rfl
theorem lV(x:Sc)(s:ByteArray):(x.wrong s).i=x.i:=by
 unfold Sc.wrong
 repeat' split
 all_goals exact zC _ _ _
theorem is_lt{c:Nat}(h:x.is s c=true):x.i<s.size:=by simp[Sc.is]at h;exact h.2.1
theorem Wl(h:kQ X w s lv x)(hs:s.size<=1125899906842624)(hi:x.i<=s.size)(t:ByteArray)(ht:t.size<=1125899906842624):Z4 67 #[Z8 X,.string t] w fun en w'=>en=.returned (.tuple #[])/\SE X w s lv (Sc.eW s (NG t 0) x) w':=by
 have h0:∃(k:Nat) (x':Sc),(Value.int .i64 0)=.int .i64 k/\k<=t.size/\x'.i<=s.size/\SE X w s lv x' w/\Sc.eW s (NG t k) x'=Sc.eW s (NG t 0) x:=⟨0,x,rfl,ax _,hi,SE.refl h,rfl⟩
 generalize Sc.eW s (NG t 0) x=y at*
 have H0:=a_ h0;clear h h0 hi;go_enter func67,ntmps67;go_wp2_with fail;go_loopw [4] (fun iv wr=>∃(k:Nat) (x':Sc),iv=.int .i64 k/\k<=t.size/\x'.i<=s.size/\SE X w s lv x' wr/\Sc.eW s (NG t k) x'=y) (fun iv _=>t.size-(RowKit.intOf iv).toNat)
 case atStart=>exact H0.out
 case round=>
  obtain⟨k,x',rfl,hk,AU,se,heq⟩:=hrel;have c1:wr.cell? ⟨X,1,none⟩=some (.int .i64 x'.i):=se.1.cell 1 rfl;have c5:wr.cell? ⟨X,5,none⟩=some (.int .i64 x'.err):=se.1.cell 5 rfl;by_cases hlt:k<t.size
  ·rw[RU t k hlt]at heq;by_cases he:x'.err=0
   ·have e0:(x'.err==0)=true:=by simpa using he
    have Wm:=heq;unfold Sc.eW at Wm;rw[if_pos he]at Wm;clear heq;have heq:=Wm;clear Wm;have fg:=BZ se.1 (t.get! k).toNat (bN _);have NH:t[k]=t.get! k:=(Utf8W.get!_of_lt t k hlt).symm;have adu:=se.1.lt;cases hb:x'.is s (t.get! k).toNat
    ·rw[hb]at heq fg;simp only[aA,bf]at heq;have JH:=a_ se;have EX:=a_ heq;have hwr:=fun W (b:Z5 wr W)=>rB (SE.sJ se.1 b).1 hs;have Yk:=a_ hwr;clear se heq hwr hb;go_wp2_with(first|(go_at_call 66;refine fg.mono ?_;rintro e w1 ⟨rfl,b1⟩)|(go_at_call 73;refine(Yk.out _ b1).mono ?_;rintro e w2 ⟨rfl,r2⟩))
     go_roundw
     case rel=>exact⟨k+1,_,by simp,by omega,by rw[lV];exact AU,(JH.out.on (SE.sJ JH.out.1 b1)).on r2,EX.out⟩
     case measure=>simp only[RowKit.intOf];omega
    ·have Fv:=is_lt hb;rw[hb]at heq fg;simp only[if_true]at heq;have JH:=a_ se;have EX:=a_ heq;have hwr:IntKind.i64.wrap ((x'.i:Int)+1)=(x'.i:Int)+1:=by rw[aD];omega
     clear se heq hb;go_wp2_with(first|(go_at_call 66;refine fg.mono ?_;rintro e w1 ⟨rfl,b1⟩;have R1:=a_ (JH.out.on (SE.sJ JH.out.1 b1));have d1:w1.cell? ⟨X,1,none⟩=some (.int .i64 x'.i):=R1.out.1.cell 1 rfl;have g1:=R1.out.1.free 1))
     go_roundw
     case rel=>exact⟨k+1,{x' with i:=x'.i+1},by simp,by omega,by show x'.i+1<=s.size;omega,R1.out.set 1 _ rfl,EX.out⟩
     case measure=>simp only[RowKit.intOf];omega
   ·have e0:(x'.err==0)=false:=by simpa using he
    have hy:y=x':=by rw[<-heq];simp[Sc.eW,he]
    subst hy;have JH:=a_ se;clear se heq he;go_wp2
    go_end0
    exact⟨rfl,JH.out⟩
  ·rw[Wk t k hlt]at heq;have hy:x'=y:=heq;subst hy;have JH:=a_ se;clear se heq;go_wp2
   go_end0
   exact⟨rfl,JH.out⟩
end
section
variable{X:Nat}{w w' w'' wr:World}{s t:ByteArray}{lv:Value}{x x':Sc}
def jw(c:Nat):Bool:=c==32||c==9||c==10||c==13
theorem zD(c:Nat)(hc:c<256)(w:World):Z4 77 #[.int .u8 c] w (Z6 (.bool (jw c)) w):=by
 unfold jw;by_cases h1:c=32
 ·subst h1;go_enter func77,ntmps77;go_wp2;go_ret;exact⟨rfl,rfl⟩
 by_cases h2:c=9
 ·subst h2;go_enter func77,ntmps77;go_wp2;go_ret;exact⟨rfl,rfl⟩
 by_cases h3:c=10
 ·subst h3;go_enter func77,ntmps77;go_wp2;go_ret;exact⟨rfl,rfl⟩
 by_cases h4:c=13
 ·subst h4;go_enter func77,ntmps77;go_wp2;go_ret;exact⟨rfl,rfl⟩
 ·have e1:((c:Int)==32)=false:=by simp only[aF,ne_eq];omega
  have e2:((c:Int)==9)=false:=by simp only[aF,ne_eq];omega
  have e3:((c:Int)==10)=false:=by simp only[aF,ne_eq];omega
  have e4:((c:Int)==13)=false:=by simp only[aF,ne_eq];omega
  have e5:(c==32||c==9||c==10||c==13)=false:=by simp[h1,h2,h3,h4]
  rw[e5];go_enter func77,ntmps77;go_wp2;go_ret;exact⟨rfl,rfl⟩
def skip(s:ByteArray):Nat->Nat->Nat
 |0,_=>0
 |f+1,i=>if i<s.size/\jw (s.get! i).toNat=true then skip s f (i+1)+1 else 0
def Sc.skip(x:Sc)(s:ByteArray):Nat:=if x.err=0 then Go.Proofs.YtjecakcpcnmieaaGreatDoor.K.skip s (s.size+1) x.i else 0
def Sc.eY(x:Sc)(s:ByteArray):Sc:={x with i:=x.i+x.skip s}
theorem B0(h:kQ X w s lv x)(hs:s.size<=1125899906842624)(hi:x.err=0->x.i<=s.size):Z4 70 #[Z8 X] w fun en w'=>en=.returned (.int .i64 (x.skip s))/\SE X w s lv (x.eY s) w':=by
 by_cases he:x.err=0
 ·have AU:=hi he;have hsk:x.skip s=skip s (s.size+1) x.i:=by unfold Sc.skip;rw[if_pos he]
  unfold Sc.eY;rw[hsk];have h0:∃(k f:Nat),(Value.int .i64 0)=.int .i64 k/\x.i+k<=s.size/\SE X w s lv {x with i:=x.i+k} w/\k+skip s f (x.i+k)=skip s (s.size+1) x.i/\s.size<x.i+k+f:=⟨0,s.size+1,rfl,AU,SE.refl h,by simp,by omega⟩
  have H0:=a_ h0;have e0:(x.err==0)=true:=by simpa using he
  have hbl:=zD;clear h h0 hi hsk;generalize hm:skip s (s.size+1) x.i=m at*
  go_enter func70,ntmps70;go_wp2_with fail;go_loopw [3] (fun nv wr=>∃(k f:Nat),nv=.int .i64 k/\x.i+k<=s.size/\SE X w s lv {x with i:=x.i+k} wr/\k+skip s f (x.i+k)=m/\s.size<x.i+k+f) (fun nv _=>s.size+1-(RowKit.intOf nv).toNat)
  case atStart=>exact H0.out
  case round=>
   obtain⟨k,f,rfl,hk,se,heq,hf⟩:=hrel;have c0:wr.cell? ⟨X,0,none⟩=some (.string s):=se.1.cell 0 rfl;have c1:wr.cell? ⟨X,1,none⟩=some (.int .i64 ((x.i+k:Nat):Int)):=se.1.cell 1 rfl;have c5:wr.cell? ⟨X,5,none⟩=some (.int .i64 x.err):=se.1.cell 5 rfl;generalize hj:x.i+k=j at*
   obtain⟨f,rfl⟩:∃g,f=g+1:=⟨f-1,by omega⟩
   unfold skip at heq;by_cases hlt:j<s.size
   ·have NH:s[j]=s.get! j:=(Utf8W.get!_of_lt s j hlt).symm;cases hb:jw (s.get! j).toNat
    ·rw[if_neg (by rw[hb];simp)]at heq;have tD:m=k:=by omega
     subst tD;have fg:=fun w=>hbl (s.get! j).toNat (bN _) w;rw[hb]at fg;have JH:=a_ se;clear se heq hbl;go_wp2_with fail;go_quiet(first|(go_at_call 77;refine Calls.quiet_of_same (fg _)));go_wp2;go_ret;refine⟨rfl,?_⟩;rw[hj];exact JH.out.drewN _
    ·rw[if_pos ⟨hlt,hb⟩]at heq;have fg:=fun w=>hbl (s.get! j).toNat (bN _) w;rw[hb]at fg;have hwr:IntKind.i64.wrap ((j:Int)+1)=(j:Int)+1:=by rw[aD];omega
     have hwk:IntKind.i64.wrap ((k:Int)+1)=(k:Int)+1:=by rw[aD];omega
     have f1:=se.1.free 1;have JH:=a_ se;have EX:=a_ heq;clear se heq hbl;go_wp2_with fail;go_quiet(first|(go_at_call 77;refine Calls.quiet_of_same (fg _)));go_wp2
     go_roundw
     case rel=>
      have e1:x.i+(k+1)=j+1:=by omega
      refine⟨k+1,f,by simp,by omega,?_,by rw[e1];have:=EX.out;omega,by omega⟩;rw[e1];have:=(JH.out.drewN nq).set (x':={x with i:=j+1}) 1 (.int .i64 ((j+1:Nat):Int)) rfl;simpa using this
     case measure=>simp only[RowKit.intOf];omega
   ·rw[if_neg (by simp[hlt])]at heq;have tD:m=k:=by omega
    subst tD;have JH:=a_ se;clear se heq hbl;go_wp2_with fail;go_quiet(fail);go_wp2;go_ret;refine⟨rfl,?_⟩;rw[hj];exact JH.out.drewN _
 ·have hsk:x.skip s=0:=by unfold Sc.skip;rw[if_neg he]
  unfold Sc.eY;rw[hsk];have e0:(x.err==0)=false:=by simpa using he
  have c5:w.cell? ⟨X,5,none⟩=some (.int .i64 x.err):=h.cell 5 rfl;have H:=a_ (SE.refl h);clear h hi hsk he;go_enter func70,ntmps70;go_wp2_with fail;refine dI 1 ?_;rw[ej];go_wp2_with fail;go_quiet(fail);go_wp2;go_ret;exact⟨rfl,H.out.drewN _⟩
end
section
variable{X:Nat}{w w' w'' wr:World}{s t:ByteArray}{lv:Value}{x x':Sc}
def Sc.wR(x:Sc)(s:ByteArray):Nat:=Ch.name (s.extract x.i s.size)
def Sc.name(x:Sc)(s:ByteArray):Sc×ByteArray:=
 if x.err=0 then(if x.wR s=0 then(x.wrong s,⟨#[]⟩)else({x with i:=x.i+x.wR s},s.extract x.i (x.i+x.wR s)))else(x,⟨#[]⟩)
theorem L2(h:kQ X w s lv x)(hs:s.size<=1125899906842624)(hi:x.err=0->x.i<=s.size):Z4 69 #[Z8 X] w fun en w'=>en=.returned (.string (x.name s).2)/\SE X w s lv (x.name s).1 w':=by
 have c0:w.cell? ⟨X,0,none⟩=some (.string s):=h.cell 0 rfl;have c1:w.cell? ⟨X,1,none⟩=some (.int .i64 x.i):=h.cell 1 rfl;have c5:w.cell? ⟨X,5,none⟩=some (.int .i64 x.err):=h.cell 5 rfl;have f1:=h.free 1;unfold Sc.name;by_cases he:x.err=0
 ·have AU:=hi he;rw[if_pos he];have e0:(x.err !=0)=false:=by simpa using he
  have qC:=fun w=>MD (s.extract x.i s.size) w (by simp;omega);have hle:x.wR s<=s.size-x.i:=by
   have:Ch.name (s.extract x.i s.size)<=(s.extract x.i s.size).size:=Ch.q_ _ _ 0 (ax _);unfold Sc.wR;simp at this;omega
  have hd:Ch.name (s.extract x.i s.size)=x.wR s:=rfl;rw[hd]at qC;clear hi;by_cases hn:x.wR s=0
  ·rw[if_pos hn];rw[hn]at qC;have hwr:=fun W (b:SE X w s lv x W)=>rB b.1 hs;have H:=a_ (SE.refl h);have HW:=a_ hwr;clear h hwr hd hle hn;go_enter func69,ntmps69;go_wp2_with fail;go_quiet(first|(go_at_call 100;refine Calls.quiet_of_same (qC _)));go_wp2_with fail;refine(HW.out _ (H.out.drewN _)).mono ?_;rintro e w3 ⟨rfl,r3⟩;go_wp2;go_ret;exact⟨rfl,(H.out.drewN _).on r3⟩
  ·rw[if_neg hn];have e1:((x.wR s:Int)==0)=false:=by simp only[aF,ne_eq];omega
   generalize x.wR s=n at*
   have hwr:IntKind.i64.wrap ((x.i:Int)+n)=(x.i:Int)+n:=by rw[aD];omega
   have H:=a_ (SE.refl h);clear h hd;go_enter func69,ntmps69;go_wp2_with fail;go_quiet(first|(go_at_call 100;refine Calls.quiet_of_same (qC _)));have R8:=a_ ((H.out.drewN nq).set (x':={x with i:=x.i+n}) 1 (.int .i64 ((x.i:Int)+n)) (by show _=fN s lv {x with i:=x.i+n};simp[fN]));have d0:((w.drewN nq).setCell ⟨X,1,none⟩ (.int .i64 ((x.i:Int)+n))).cell? ⟨X,0,none⟩=some (.string s):=R8.out.1.cell 0 rfl;have d1:((w.drewN nq).setCell ⟨X,1,none⟩ (.int .i64 ((x.i:Int)+n))).cell? ⟨X,1,none⟩=some (.int .i64 ((x.i:Int)+n)):=by
    have h9:((w.drewN nq).setCell ⟨X,1,none⟩ (.int .i64 ((x.i:Int)+n))).cell? ⟨X,1,none⟩=some (.int .i64 ((x.i+n:Nat):Int)):=R8.out.1.cell 1 rfl;rw[Int.natCast_add]at h9;exact h9
   go_wp2_with fail;go_quiet(fail);go_wp2;go_ret;exact⟨rfl,R8.out.drewN _⟩
 ·rw[if_neg he];have e0:(x.err !=0)=true:=by simpa using he
  have H:=a_ (SE.refl h);clear h hi;go_enter func69,ntmps69;go_wp2;go_ret;exact⟨rfl,H.out⟩
end
section
variable{X:Nat}{w w' w'' wr:World}{s t:ByteArray}{lv:Value}{x x':Sc}
def Sc.char(x:Sc)(s:ByteArray)(j6:Nat):Sc×ByteArray:=
 if x.i<s.size then
  if(s.get! x.i).toNat=60\/(s.get! x.i).toNat=j6 then(x.wrong s,⟨#[]⟩)
  else if(s.get! x.i).toNat=38 then
   (if(jW s x.i).2<0 then(x.fail 4 x.i,⟨#[]⟩)else({x with i:=(jW s x.i).2.toNat},⟨(jW s x.i).1.toArray⟩))
  else if(Ch.om s x.i).2=0 then(x.fail 2 x.i,⟨#[]⟩)
  else({x with i:=x.i+(Ch.om s x.i).2.toNat},s.extract x.i (x.i+(Ch.om s x.i).2.toNat))
 else(x.wrong s,⟨#[]⟩)
theorem F3(h:kQ X w s lv x)(hs:s.size<=1125899906842624)(j6:Nat)(hc:x.i<s.size->(s.get! x.i).toNat=60\/(s.get! x.i).toNat=j6):
  Z4 41 #[Z8 X,.int .u8 j6] w fun en w'=>en=.returned (.string ⟨#[]⟩)/\SE X w s lv (x.wrong s) w':=by
 have c0:w.cell? ⟨X,0,none⟩=some (.string s):=h.cell 0 rfl;have c1:w.cell? ⟨X,1,none⟩=some (.int .i64 x.i):=h.cell 1 rfl;have hwr:=fun W (b:SE X w s lv x W)=>rB b.1 hs;have H:=a_ (SE.refl h);have HW:=a_ hwr;clear h hwr;by_cases hi:x.i<s.size
 ·have NH:s[x.i]=s.get! x.i:=(Utf8W.get!_of_lt s x.i hi).symm;generalize (s.get! x.i)=g at*
  have hlt:=bN g;have yy:¬s.size<=x.i:=by omega
  by_cases sL:g.toNat=60
  ·clear hc;go_enter func41,ntmps41;go_wp2_with fail;go_quiet(fail);go_wp2_with fail;refine(HW.out _ (H.out.drewN _)).mono ?_;rintro e w3 ⟨rfl,r3⟩;go_wp2;go_ret;exact⟨rfl,(H.out.drewN _).on r3⟩
  ·have zE:g.toNat=j6:=(hc hi).resolve_left sL;have e1:((g.toNat:Int)==60)=false:=by simp only[aF,ne_eq];omega
   have e2:((g.toNat:Int)==(j6:Int))=true:=by simp only[bA];omega
   clear hc zE;go_enter func41,ntmps41;go_wp2_with fail;go_quiet(fail);go_wp2_with fail;refine(HW.out _ (H.out.drewN _)).mono ?_;rintro e w3 ⟨rfl,r3⟩;go_wp2;go_ret;exact⟨rfl,(H.out.drewN _).on r3⟩
 ·have yy:s.size<=x.i:=by omega
  clear hc;go_enter func41,ntmps41;go_wp2_with fail;go_quiet(fail);go_wp2_with fail;refine(HW.out _ (H.out.drewN _)).mono ?_;rintro e w3 ⟨rfl,r3⟩;go_wp2;go_ret;exact⟨rfl,(H.out.drewN _).on r3⟩
theorem RV(h:kQ X w s lv x)(hs:s.size<=1125899906842624)(j6:Nat)(hi:x.i<s.size)(sL:(s.get! x.i).toNat≠60)(zE:(s.get! x.i).toNat≠j6)(oV:(s.get! x.i).toNat≠38)(jO:(Ch.om s x.i).2≠0):
  Z4 41 #[Z8 X,.int .u8 j6] w fun en w'=>en=.returned (.string (s.extract x.i (x.i+(Ch.om s x.i).2.toNat)))/\SE X w s lv {x with i:=x.i+(Ch.om s x.i).2.toNat} w':=by
 have c0:w.cell? ⟨X,0,none⟩=some (.string s):=h.cell 0 rfl;have c1:w.cell? ⟨X,1,none⟩=some (.int .i64 x.i):=h.cell 1 rfl;have f1:=h.free 1;have H:=a_ (SE.refl h);have hat:=fun w=>wC s x.i w hs (by omega);have NH:s[x.i]=s.get! x.i:=(Utf8W.get!_of_lt s x.i hi).symm;have yy:¬s.size<=x.i:=by omega
 have hn:∃n:Nat,(Ch.om s x.i).2=n/\0<n/\x.i+n<=s.size:=by
  unfold Ch.om at jO ⊢;have hw:=Ch.fk s x.i hi;split
  ·exact⟨_,rfl,by omega,hw.1⟩
  ·rename_i hh;rw[if_neg hh]at jO;exact absurd rfl jO
 obtain⟨n,en,AV,C6⟩:=hn;rw[en,bm];rw[en]at hat;generalize (s.get! x.i)=g at*
 have e1:((g.toNat:Int)==60)=false:=by simp only[aF,ne_eq];omega
 have e2:((g.toNat:Int)==(j6:Int))=false:=by simp only[aF,ne_eq];omega
 have e3:((g.toNat:Int)==38)=false:=by simp only[aF,ne_eq];omega
 have e4:((n:Int)==0)=false:=by simp only[aF,ne_eq];omega
 have hwr:IntKind.i64.wrap ((x.i:Int)+n)=(x.i:Int)+n:=by rw[aD];omega
 generalize (Ch.om s x.i).1=a1 at*
 have R8:=a_ (fun m=>(H.out.drewN m).set (x':={x with i:=x.i+n}) 1 (.int .i64 ((x.i:Int)+n)) (by show _=fN s lv {x with i:=x.i+n};simp[fN]));have d0:∀m,((w.drewN m).setCell ⟨X,1,none⟩ (.int .i64 ((x.i:Int)+n))).cell? ⟨X,0,none⟩=some (.string s):=fun m=>(R8.out m).1.cell 0 rfl;have d1:∀m,((w.drewN m).setCell ⟨X,1,none⟩ (.int .i64 ((x.i:Int)+n))).cell? ⟨X,1,none⟩=some (.int .i64 ((x.i:Int)+n)):=fun m=>by
  have h9:((w.drewN m).setCell ⟨X,1,none⟩ (.int .i64 ((x.i:Int)+n))).cell? ⟨X,1,none⟩=some (.int .i64 ((x.i+n:Nat):Int)):=(R8.out m).1.cell 1 rfl;rw[Int.natCast_add]at h9;exact h9
 clear h jO en sL zE oV;go_enter func41,ntmps41;go_wp2_with fail;go_quiet(fail);go_wp2_with fail;go_quiet(fail);go_wp2_with fail;go_region_held3 (fun W=>W.cell? ⟨X,0,none⟩=some (.string s)/\W.cell? ⟨X,1,none⟩=some (.int .i64 x.i))
  (first|exact⟨c0,c1⟩)
  (first|(go_at_call 76;refine(hat _).mono ?_;rintro e w3 ⟨rfl,hw3⟩;have hw4:=hw3.symm;clear hw3;subst hw4))
 all_goals
  go_wp2_with fail;go_quiet(fail);go_wp2;go_ret;exact⟨rfl,(R8.out _).drewN _⟩
end
section
variable{X:Nat}{w w' w'' wr:World}{s t:ByteArray}{lv:Value}{x x':Sc}
theorem RX(h:kQ X w s lv x)(hs:s.size<=1125899906842624)(j6:Nat)(hi:x.i<s.size)(sL:(s.get! x.i).toNat≠60)(zE:(s.get! x.i).toNat≠j6)(oV:(s.get! x.i).toNat≠38)(jO:(Ch.om s x.i).2=0):
  Z4 41 #[Z8 X,.int .u8 j6] w fun en w'=>en=.returned (.string ⟨#[]⟩)/\SE X w s lv (x.fail 2 x.i) w':=by
 have c0:w.cell? ⟨X,0,none⟩=some (.string s):=h.cell 0 rfl;have c1:w.cell? ⟨X,1,none⟩=some (.int .i64 x.i):=h.cell 1 rfl;have hf:=fun m=>sI (kQ.drewN h m) 2 x.i;have H:=a_ (SE.refl h);have hat:=fun w=>wC s x.i w hs (by omega);have NH:s[x.i]=s.get! x.i:=(Utf8W.get!_of_lt s x.i hi).symm;have yy:¬s.size<=x.i:=by omega
 rw[jO]at hat;generalize (s.get! x.i)=g at*
 have e1:((g.toNat:Int)==60)=false:=by simp only[aF,ne_eq];omega
 have e2:((g.toNat:Int)==(j6:Int))=false:=by simp only[aF,ne_eq];omega
 have e3:((g.toNat:Int)==38)=false:=by simp only[aF,ne_eq];omega
 generalize (Ch.om s x.i).1=a1 at*
 have HF:=a_ hf;clear h jO sL zE oV hf;go_enter func41,ntmps41;go_wp2_with fail;go_quiet(fail);go_wp2_with fail;go_quiet(fail);go_wp2_with fail;go_region_held3 (fun W=>W.cell? ⟨X,0,none⟩=some (.string s)/\W.cell? ⟨X,1,none⟩=some (.int .i64 x.i))
  (first|exact⟨c0,c1⟩)
  (first|(go_at_call 76;refine(hat _).mono ?_;rintro e w3 ⟨rfl,hw3⟩;have hw4:=hw3.symm;clear hw3;subst hw4))
 all_goals
  go_wp2_with fail;refine(HF.out _).mono ?_;rintro e w4 ⟨rfl,r4⟩;go_wp2;go_ret;exact⟨rfl,(H.out.drewN _).on r4⟩
theorem RY(h:kQ X w s lv x)(hs:s.size<=1125899906842624)(j6:Nat)(hi:x.i<s.size)(zE:(s.get! x.i).toNat≠j6)(oV:(s.get! x.i).toNat=38):
  Z4 41 #[Z8 X,.int .u8 j6] w fun en w'=>en=.returned (.string (x.char s j6).2)/\SE X w s lv (x.char s j6).1 w':=by
 have hch:x.char s j6=if(jW s x.i).2<0 then(x.fail 4 x.i,⟨#[]⟩)else({x with i:=(jW s x.i).2.toNat},⟨(jW s x.i).1.toArray⟩):=by
  unfold Sc.char;rw[if_pos hi,if_neg (by rw[oV];omega),if_pos oV]
 rw[hch];have c0:w.cell? ⟨X,0,none⟩=some (.string s):=h.cell 0 rfl;have c1:w.cell? ⟨X,1,none⟩=some (.int .i64 x.i):=h.cell 1 rfl;have f1:=h.free 1;have hlt:=h.lt;have hrf:=fun w=>V9 s x.i w hs (by omega);have NH:s[x.i]=s.get! x.i:=(Utf8W.get!_of_lt s x.i hi).symm;have yy:¬s.size<=x.i:=by omega
 have H:=a_ (SE.refl h);rw[oV]at zE;generalize hg:(s.get! x.i)=g at*
 have e1:((g.toNat:Int)==60)=false:=by simp only[aF,ne_eq];omega
 have e2:((g.toNat:Int)==(j6:Int))=false:=by simp only[aF,ne_eq];omega
 generalize (jW s x.i).1=rt at*
 by_cases hn:(jW s x.i).2<0
 ·rw[if_pos hn];have hd:decide ((jW s x.i).2<0)=true:=by simpa using hn
  have hf:=fun W (b:SE X w s lv x W)=>sI b.1 4 x.i;have HF:=a_ hf;generalize (jW s x.i).2=en at*
  clear h hch hf;go_enter func41,ntmps41;go_wp2_with fail;go_quiet(fail);go_wp2_with fail;go_quiet(fail);go_wp2_with fail;go_region_held3 (fun W=>W.cell? ⟨X,0,none⟩=some (.string s)/\W.cell? ⟨X,1,none⟩=some (.int .i64 x.i))
   (first|exact⟨c0,c1⟩|exact⟨k0,k1⟩)
   (first|(go_at_call 74;refine(hrf _).mono ?_;rintro e w3 ⟨rfl,b3⟩;have R3:=a_ ((H.out.drewN _).below hlt b3);have k0:w3.cell? ⟨X,0,none⟩=some (.string s):=R3.out.1.cell 0 rfl;have k1:w3.cell? ⟨X,1,none⟩=some (.int .i64 x.i):=R3.out.1.cell 1 rfl))
  all_goals
   go_wp2_with fail;refine(HF.out _ R3.out).mono ?_;rintro e w4 ⟨rfl,r4⟩;go_wp2;go_ret;exact⟨rfl,R3.out.on r4⟩
 ·rw[if_neg hn];have hd:decide ((jW s x.i).2<0)=false:=by simpa using hn
  have hen:(((jW s x.i).2.toNat:Nat):Int)=(jW s x.i).2:=Int.toNat_of_nonneg (by omega);generalize (jW s x.i).2.toNat=en at*
  rw[<-hen]at hrf hd;clear h hch hn hen;go_enter func41,ntmps41;go_wp2_with fail;go_quiet(fail);go_wp2_with fail;go_quiet(fail);go_wp2_with fail;go_region_held3 (fun W=>W.cell? ⟨X,0,none⟩=some (.string s)/\W.cell? ⟨X,1,none⟩=some (.int .i64 x.i))
   (first|exact⟨c0,c1⟩|exact⟨k0,k1⟩)
   (first|(go_at_call 74;refine(hrf _).mono ?_;rintro e w3 ⟨rfl,b3⟩;have R3:=a_ ((H.out.drewN _).below hlt b3);have k0:w3.cell? ⟨X,0,none⟩=some (.string s):=R3.out.1.cell 0 rfl;have k1:w3.cell? ⟨X,1,none⟩=some (.int .i64 x.i):=R3.out.1.cell 1 rfl;have q1:=R3.out.1.free 1))
  all_goals
   go_wp2;go_ret;exact⟨rfl,R3.out.set 1 _ rfl⟩
theorem L3(h:kQ X w s lv x)(hs:s.size<=1125899906842624)(j6:Nat):
  Z4 41 #[Z8 X,.int .u8 j6] w fun en w'=>en=.returned (.string (x.char s j6).2)/\SE X w s lv (x.char s j6).1 w':=by
 by_cases hi:x.i<s.size
 ·by_cases hb:(s.get! x.i).toNat=60\/(s.get! x.i).toNat=j6
  ·have e:x.char s j6=(x.wrong s,⟨#[]⟩):=by unfold Sc.char;rw[if_pos hi,if_pos hb]
   rw[e];exact F3 h hs j6 (fun _=>hb)
  ·have sL:(s.get! x.i).toNat≠60:=fun e=>hb (Or.inl e);have zE:(s.get! x.i).toNat≠j6:=fun e=>hb (Or.inr e);by_cases oV:(s.get! x.i).toNat=38
   ·exact RY h hs j6 hi zE oV
   ·by_cases jO:(Ch.om s x.i).2=0
    ·have e:x.char s j6=(x.fail 2 x.i,⟨#[]⟩):=by unfold Sc.char;rw[if_pos hi,if_neg hb,if_neg oV,if_pos jO]
     rw[e];exact RX h hs j6 hi sL zE oV jO
    ·have e:x.char s j6=({x with i:=x.i+(Ch.om s x.i).2.toNat},s.extract x.i (x.i+(Ch.om s x.i).2.toNat)):=by unfold Sc.char;rw[if_pos hi,if_neg hb,if_neg oV,if_neg jO]
     rw[e];exact RV h hs j6 hi sL zE oV jO
 ·have e:x.char s j6=(x.wrong s,⟨#[]⟩):=by unfold Sc.char;rw[if_neg hi]
  rw[e];exact F3 h hs j6 (fun x=>absurd x hi)
end
section
variable{X:Nat}{w w' w'' wr:World}{s t:ByteArray}{lv:Value}{x x':Sc}
def Sc.stands(x:Sc)(s t:ByteArray):Bool:=decide (x.i+t.size<=s.size)&&((s.extract x.i (x.i+t.size)).toList==t.toList)
def gw(s t:ByteArray)(fV:Nat):Nat->Sc->Sc×ByteArray
 |0,x=>(x,⟨#[]⟩)
 |f+1,x=>if x.err=0 then
   (if x.stands s t=true then({x with i:=x.i+t.size},s.extract fV x.i)
   else if(Ch.om s x.i).2=0 then gw s t fV f (x.wrong s)
   else gw s t fV f {x with i:=x.i+(Ch.om s x.i).2.toNat})
  else(x,⟨#[]⟩)
def Sc.until(x:Sc)(s t:ByteArray):Sc×ByteArray:=gw s t x.i (s.size+2) x
def left(X:Nat)(n:Nat)(w:World):Nat:=
 match w.cell? ⟨X,5,none⟩,w.cell? ⟨X,1,none⟩with
 |some (.int _ e),some (.int _ i)=>if e=0 then n+1-i.toNat else 0
 |_,_=>0
theorem left_eq(h:kQ X w s lv x)(n:Nat):left X n w=if x.err=0 then n+1-x.i else 0:=by
 have c1:w.cell? ⟨X,1,none⟩=some (.int .i64 x.i):=h.cell 1 rfl;have c5:w.cell? ⟨X,5,none⟩=some (.int .i64 x.err):=h.cell 5 rfl;simp only[left,c1,c5,bm]
theorem fx(x:Sc)(s:ByteArray)(h:x.err=0):(x.wrong s).err≠0:=by
 unfold Sc.wrong Sc.fail;rw[if_pos h]
 repeat' split
 all_goals simp
structure UI(X:Nat)(w:World)(s t:ByteArray)(lv:Value)(fV:Nat)(y:Sc×ByteArray)(wr:World)(x:Sc)(f:Nat):Prop where
 se:SE X w s lv x wr
 le:x.err=0->x.i<=s.size
 ge:fV<=x.i
 eq:gw s t fV f x=y
 fuel:x.err=0->s.size+1<x.i+f
theorem RZ(h:kQ X w s lv x)(hs:s.size<=1125899906842624)(hi:x.err=0->x.i<=s.size)(t:ByteArray)(ht:t.size<=1024):
  Z4 68 #[Z8 X,.string t] w fun en w'=>en=.returned (.string (x.until s t).2)/\SE X w s lv (x.until s t).1 w':=by
 have h0:UI X w s t lv x.i (x.until s t) w x (s.size+2):=⟨SE.refl h,hi,ah _,rfl,fun _=>by omega⟩
 have c1:w.cell? ⟨X,1,none⟩=some (.int .i64 x.i):=h.cell 1 rfl;generalize x.until s t=y at*
 have H0:=a_ h0;have hat:=fun i (hi:i<=s.size) w=>wC s i w hs hi;have aa_:=fun W x' (b:kQ X W s lv x')=>rB b hs;have HW:=a_ aa_;have tY:=a_ hat;clear h h0 hi hat aa_;generalize x.i=fV at*
 go_enter func68,ntmps68;go_wp2_with fail;go_loopw [6,7] (fun _ _ wr=>∃x' f,UI X w s t lv fV y wr x' f) (fun _ _ wr=>left X s.size wr)
 case atStart=>exact⟨_,_,H0.out⟩
 case round=>
  obtain⟨x',f,u⟩:=hrel;have c0:wr.cell? ⟨X,0,none⟩=some (.string s):=u.se.1.cell 0 rfl;have d1:wr.cell? ⟨X,1,none⟩=some (.int .i64 x'.i):=u.se.1.cell 1 rfl;have c5:wr.cell? ⟨X,5,none⟩=some (.int .i64 x'.err):=u.se.1.cell 5 rfl;have f1:=u.se.1.free 1;have nG:=left_eq u.se.1 s.size;by_cases he:x'.err=0
  ·have e0:(x'.err==0)=true:=by simpa using he
   have hle:=u.le he;have NI:=u.fuel he;obtain⟨g,rfl⟩:∃g,f=g+1:=⟨f-1,by omega⟩
   have heq:=u.eq;unfold gw at heq;rw[if_pos he]at heq;rw[if_pos he]at nG;have hwr:IntKind.i64.wrap ((x'.i:Int)+t.size)=(x'.i:Int)+t.size:=by rw[aD];omega
   cases hst:x'.stands s t
   ·rw[hst]at heq;simp only[aA,bf]at heq;have Yl:decide ((x'.i:Int)+t.size<=s.size)=false\/(x'.i+t.size<=s.size/\decide ((x'.i:Int)+t.size<=s.size)=true/\((s.extract x'.i (x'.i+t.size)).toList==t.toList)=false):=by
     by_cases uO:x'.i+t.size<=s.size
     ·refine Or.inr ⟨uO,by simp only[ba];omega,?_⟩;simpa [Sc.stands,uO]using hst
     ·exact Or.inl (by simp only[cW];omega)
    have fg:=tY.out x'.i hle;have U:=a_ u;have Wn:∃n:Nat,(Ch.om s x'.i).2=n/\x'.i+n<=s.size:=by
     unfold Ch.om;split
     ·rename_i hh;exact⟨_,rfl,(Ch.fk s x'.i hh.1).1⟩
     ·exact⟨0,rfl,hle⟩
    obtain⟨n,en,C6⟩:=Wn;rw[en]at fg heq;generalize (Ch.om s x'.i).1=a1 at*
    clear u en hst;by_cases hz:n=0
    ·subst hz;have R_:gw s t fV g (x'.wrong s)=y:=by rw[<-heq];simp
     clear heq;have heq:=R_;clear R_;have nZ:=fx x' s he;clear he;have adv:IntKind.i64.wrap ((x'.i:Int)+0)=(x'.i:Int)+0:=by rw[aD];omega
     have EX:=a_ heq;have ZI:=a_ nZ;clear heq nZ;rcases Yl with hA|⟨uO,hA,hB⟩;all_goals
      go_wp2_with fail;go_quiet(fail);go_wp2_with fail;go_region_held3 (fun W=>W.cell? ⟨X,0,none⟩=some (.string s)/\W.cell? ⟨X,1,none⟩=some (.int .i64 x'.i))
       (first|exact⟨c0,d1⟩)
       (first|(go_at_call 76;refine(fg _).mono ?_;rintro e w3 ⟨rfl,hw3⟩;have hw4:=hw3.symm;clear hw3;subst hw4))
      all_goals
       go_wp2_with fail;refine(HW.out _ x' (U.out.se.drewN _).1).mono ?_;rintro e w4 ⟨rfl,r4⟩;have h9:w4.cell? ⟨X,1,none⟩=some (.int .i64 (x'.wrong s).i):=r4.1.cell 1 rfl;rw[lV]at h9;have q1:=r4.1.free 1;have ex:(x'.i:Int)=((x'.wrong s).i:Int):=by rw[lV]
       have R9:=a_ (((U.out.se.drewN _).on r4).set (x':=x'.wrong s) 1 (.int .i64 x'.i) (by rw[ex];rfl));clear r4 ex;go_wp2
       go_roundw
       case rel=>exact⟨x'.wrong s,g,R9.out,fun e=>absurd e ZI.out,by rw[lV];exact U.out.ge,EX.out,fun e=>absurd e ZI.out⟩
       case measure=>
        rw[left_eq R9.out.1 s.size,if_neg ZI.out,nG];omega
    ·have R_:gw s t fV g {x' with i:=x'.i+n}=y:=by rw[<-heq,if_neg (by omega),bm]
     have AV:((n:Int)==0)=false:=by simp only[aF,ne_eq];omega
     have hwrn:IntKind.i64.wrap ((x'.i:Int)+n)=(x'.i:Int)+n:=by rw[aD];omega
     have EX:=a_ R_;have HE:=a_ he;clear heq R_ he;rcases Yl with hA|⟨uO,hA,hB⟩;all_goals
      go_wp2_with fail;go_quiet(fail);go_wp2_with fail;go_region_held3 (fun W=>W.cell? ⟨X,0,none⟩=some (.string s)/\W.cell? ⟨X,1,none⟩=some (.int .i64 x'.i))
       (first|exact⟨c0,d1⟩)
       (first|(go_at_call 76;refine(fg _).mono ?_;rintro e w3 ⟨rfl,hw3⟩;have hw4:=hw3.symm;clear hw3;subst hw4))
      all_goals
       go_wp2
       go_roundw
       case rel=>
        refine⟨{x' with i:=x'.i+n},g,?_,fun _=>C6,by have:=U.out.ge;show fV<=x'.i+n;omega,EX.out,fun _=>by show s.size+1<x'.i+n+g;omega⟩;exact(U.out.se.drewN _).set (x':={x' with i:=x'.i+n}) 1 (.int .i64 ((x'.i:Int)+n)) (by show _=fN s lv {x' with i:=x'.i+n};simp[fN])
       case measure=>
        have R9:=(U.out.se.drewN (nq+1)).set (x':={x' with i:=x'.i+n}) 1 (.int .i64 ((x'.i:Int)+n)) (by show _=fN s lv {x' with i:=x'.i+n};simp[fN]);rw[left_eq R9.1 s.size,if_pos HE.out,nG];show s.size+1-(x'.i+n)<_;omega
   ·rw[hst]at heq;simp only[if_true]at heq;simp only[Sc.stands,aY,ba]at hst;obtain⟨uO,Yd⟩:=hst;have adw:decide ((x'.i:Int)+t.size<=s.size)=true:=by simp only[ba];omega
    have U:=a_ u;clear u;subst heq;have R8:=a_ (fun m=>(U.out.se.drewN m).set (x':={x' with i:=x'.i+t.size}) 1 (.int .i64 ((x'.i:Int)+t.size)) (by show _=fN s lv {x' with i:=x'.i+t.size};simp[fN]));have g0:∀m,((wr.drewN m).setCell ⟨X,1,none⟩ (.int .i64 ((x'.i:Int)+t.size))).cell? ⟨X,0,none⟩=some (.string s):=fun m=>(R8.out m).1.cell 0 rfl;have g1:∀m,((wr.drewN m).setCell ⟨X,1,none⟩ (.int .i64 ((x'.i:Int)+t.size))).cell? ⟨X,1,none⟩=some (.int .i64 ((x'.i:Int)+t.size)):=fun m=>by
     have h9:((wr.drewN m).setCell ⟨X,1,none⟩ (.int .i64 ((x'.i:Int)+t.size))).cell? ⟨X,1,none⟩=some (.int .i64 ((x'.i+t.size:Nat):Int)):=(R8.out m).1.cell 1 rfl;rw[Int.natCast_add]at h9;exact h9
    have LM:=U.out.ge;clear he;go_wp2_with fail;go_quiet(fail);go_wp2_with fail;go_quiet(fail);go_wp2;go_ret;exact⟨rfl,(R8.out _).drewN _⟩
  ·have e0:(x'.err==0)=false:=by simpa using he
   have hy:y=(x',⟨#[]⟩):=by
    rw[<-u.eq];cases f with
    |zero=>rfl
    |succ f=>unfold gw;rw[if_neg he]
   subst hy;have U:=a_ u;clear u;go_wp2;go_ret;exact⟨rfl,U.out.se⟩
end
section
variable{X:Nat}{w w' w'' wr:World}{s t:ByteArray}{lv:Value}{x x':Sc}
def Sc.ic(x:Sc)(t:ByteArray)(a:Int):Sc:={x with more:=x.more++t.data.toList,fV:=if x.more=[]then a else x.fV}
theorem zF(l:List UInt8)(t:ByteArray):(⟨l.toArray⟩:ByteArray)++t=⟨(l++t.data.toList).toArray⟩:=by
 apply cM;apply Array.ext';simp[dx]
theorem B6(h:kQ X w s lv x)(t:ByteArray)(a:Int)(hz:x.more.length+t.size<=1125899906842624):Z4 42 #[Z8 X,.string t,.int .i64 a] w fun en w'=>en=.returned (.tuple #[])/\SE X w s lv (x.ic t a) w':=by
 have c3:w.cell? ⟨X,3,none⟩=some (.string ⟨x.more.toArray⟩):=h.cell 3 rfl;have c4:w.cell? ⟨X,4,none⟩=some (.int .i64 x.fV):=h.cell 4 rfl;have f3:=h.free 3;have f4:=h.free 4;have hsz:(⟨x.more.toArray⟩:ByteArray).size=x.more.length:=by show x.more.toArray.size=_;simp
 have zG:=fun w=>cV (P:=prog) w ⟨x.more.toArray⟩ t (by rw[hsz];omega);simp only[zF]at zG;unfold Sc.ic;by_cases hm:x.more=[]
 ·rw[if_pos hm];have H:=a_ (((SE.refl h).set (x':={x with fV:=a}) 4 (.int .i64 a) rfl).set (x':={x with fV:=a,more:=x.more++t.data.toList}) 3 (.string ⟨(x.more++t.data.toList).toArray⟩) rfl);have he:x.more.isEmpty=true:=by rw[hm];rfl
  clear h hm;go_enter func42,ntmps42;go_wp2
  go_end0
  exact⟨rfl,H.out⟩
 ·rw[if_neg hm];have H:=a_ ((SE.refl h).set (x':={x with more:=x.more++t.data.toList}) 3 (.string ⟨(x.more++t.data.toList).toArray⟩) rfl);have he:x.more.isEmpty=false:=by
   cases hl:x.more with
   |nil=>exact absurd hl hm
   |cons a l=>rfl
  clear h hm;go_enter func42,ntmps42;go_wp2
  go_end0
  exact⟨rfl,H.out⟩
def jb(s:ByteArray)(q:Nat):Nat->Sc->List UInt8->Sc×List UInt8
 |0,x,t=>(x,t)
 |f+1,x,t=>if x.err=0/\x.is s q=false then jb s q f (x.char s q).1 (t++(x.char s q).2.data.toList)else(x,t)
def Sc.value(x:Sc)(s:ByteArray):Sc×List UInt8:=
 if x.is s 34=true\/x.is s 39=true then
  ({ (jb s (s.get! x.i).toNat (s.size+2) {x with i:=x.i+1} []).1 with i:=(jb s (s.get! x.i).toNat (s.size+2) {x with i:=x.i+1} []).1.i+1},(jb s (s.get! x.i).toNat (s.size+2) {x with i:=x.i+1} []).2)
 else(x.wrong s,[])
end
section
variable{X:Nat}{w w' w'' wr:World}{s t:ByteArray}{lv:Value}{x x':Sc}
theorem lW(x:Sc)(e a:Int)(h:x.err=0)(he:e≠0):(x.fail e a).err≠0:=by unfold Sc.fail;rw[if_pos h];exact he
theorem B7(x:Sc)(s:ByteArray)(j6:Nat)(h:x.err=0)(hi:x.i<=s.size):
  ((x.char s j6).1.err=0->x.i<(x.char s j6).1.i/\(x.char s j6).1.i<=s.size/\(x.char s j6).2.size<=(x.char s j6).1.i-x.i)/\((x.char s j6).1.err≠0->(x.char s j6).2.size=0/\(x.char s j6).1.i=x.i):=by
 unfold Sc.char;split
 ·rename_i hlt;split
  ·exact⟨fun e=>absurd e (fx x s h),fun _=>⟨rfl,lV x s⟩⟩
  split
  ·split
   ·exact⟨fun e=>absurd e (lW x _ _ h (by decide)),fun _=>⟨rfl,zC x _ _⟩⟩
   ·rename_i hn;unfold jW at hn ⊢;by_cases hz:(Ch.eR s x.i).2=0
    ·rw[if_pos hz]at hn;simp at hn
    ·rw[if_neg hz]at hn ⊢;have hr:=Ch.iV hz;refine⟨fun _=>?_,fun e=>absurd h e⟩;have:=ry (Ch.eR s x.i).1;have e2:(⟨(Lib.encodeRune (Ch.eR s x.i).1).toArray⟩:ByteArray).size=(Lib.encodeRune (Ch.eR s x.i).1).length:=by show (Lib.encodeRune (Ch.eR s x.i).1).toArray.size=_;simp
     simp only[e2];omega
  ·split
   ·exact⟨fun e=>absurd e (lW x _ _ h (by decide)),fun _=>⟨rfl,zC x _ _⟩⟩
   ·rename_i hn;refine⟨fun _=>?_,fun e=>absurd h e⟩;unfold Ch.om at hn ⊢;have hw:=Ch.fk s x.i hlt;split
    ·simp only[bm,cw];omega
    ·rename_i hh;rw[if_neg hh]at hn;exact absurd rfl hn
 ·exact⟨fun e=>absurd e (fx x s h),fun _=>⟨rfl,lV x s⟩⟩
structure VI(X:Nat)(w:World)(s:ByteArray)(lv:Value)(q i0:Nat)(y:Sc×List UInt8)(wr:World)(x:Sc)(t:List UInt8)(f:Nat):Prop where
 se:SE X w s lv x wr
 le:x.i<=s.size
 ge:i0<=x.i
 len:t.length<=x.i-i0
 eq:jb s q f x t=y
 fuel:x.err=0->s.size+1<x.i+f
theorem Sb(h:kQ X w s lv x)(hs:s.size<=1125899906842624)(hi:x.i<=s.size):
  Z4 101 #[Z8 X] w fun en w'=>en=.returned (.string ⟨(x.value s).2.toArray⟩)/\SE X w s lv (x.value s).1 w':=by
 have c0:w.cell? ⟨X,0,none⟩=some (.string s):=h.cell 0 rfl;have c1:w.cell? ⟨X,1,none⟩=some (.int .i64 x.i):=h.cell 1 rfl;have f1:=h.free 1;have hlt:=h.lt;have i34:=fun W (b:kQ X W s lv x)=>BZ b 34 (by decide);have i39:=fun W (b:kQ X W s lv x)=>BZ b 39 (by decide);have H:=a_ (SE.refl h);unfold Sc.value;by_cases hq:x.is s 34=true\/x.is s 39=true
 ·rw[if_pos hq];have Fv:x.i<s.size:=hq.elim is_lt is_lt;have he0:x.err=0:=by
   rcases hq with hq|hq
   ·simp[Sc.is]at hq;exact hq.1
   ·simp[Sc.is]at hq;exact hq.1
  have NH:s[x.i]=s.get! x.i:=(Utf8W.get!_of_lt s x.i Fv).symm;have acx:=bN (s.get! x.i);generalize hy:jb s (s.get! x.i).toNat (s.size+2) {x with i:=x.i+1} []=y at*
  generalize (s.get! x.i)=qb at*
  have hwr:IntKind.i64.wrap ((x.i:Int)+1)=(x.i:Int)+1:=by rw[aD];omega
  have aba:=fun W x' (b:kQ X W s lv x')=>BZ b qb.toNat acx;have abb:=fun W x' (b:kQ X W s lv x')=>L3 b hs qb.toNat;have jV:=fun x'=>B7 x' s qb.toNat;have HQ:=a_ aba;have HCH:=a_ abb;have HG:=a_ jV;have HY:=a_ hy;have HE0:=a_ he0;have I1:=a_ i34;have I2:=a_ i39;clear aba abb jV hy he0 h i34 i39;cases q1:x.is s 34
  ·have q2:x.is s 39=true:=hq.resolve_left (by rw[q1];simp);rw[q1]at I1;rw[q2]at I2;clear hq q1 q2;go_enter func101,ntmps101;go_wp2_with fail;refine(I1.out _ H.out.1).mono ?_;rintro e w1 ⟨rfl,b1⟩;have R1:=a_ (H.out.below hlt b1);go_wp2_with fail;refine(I2.out _ R1.out.1).mono ?_;rintro e w2 ⟨rfl,b2⟩;have R2:=a_ (R1.out.below hlt b2);have k0:w2.cell? ⟨X,0,none⟩=some (.string s):=R2.out.1.cell 0 rfl;have k1:w2.cell? ⟨X,1,none⟩=some (.int .i64 x.i):=R2.out.1.cell 1 rfl;have kf:=R2.out.1.free 1;clear I1 I2 b1 b2 R1;go_wp2_with fail;go_quiet(fail);go_wp2_with fail;go_loopw [4,5] (fun tv _ wr=>∃x' t' f,tv=.string ⟨t'.toArray⟩/\VI X w s lv qb.toNat (x.i+1) y wr x' t' f) (fun _ _ wr=>left X s.size wr)
   case atStart=>
    refine⟨{x with i:=x.i+1},[],s.size+2,rfl,?_,by show x.i+1<=s.size;omega,ah _,ax _,HY.out,fun _=>by show s.size+1<x.i+1+(s.size+2);omega⟩;exact(R2.out.drewN nq).set (x':={x with i:=x.i+1}) 1 (.int .i64 ((x.i:Int)+1)) (by show _=fN s lv {x with i:=x.i+1};simp[fN])
   case round=>
    obtain⟨x',t',f,rfl,u⟩:=hrel;have d1:wr.cell? ⟨X,1,none⟩=some (.int .i64 x'.i):=u.se.1.cell 1 rfl;have d5:wr.cell? ⟨X,5,none⟩=some (.int .i64 x'.err):=u.se.1.cell 5 rfl;have df:=u.se.1.free 1;have hle:=u.le;have nG:=left_eq u.se.1 s.size;have Sd:IntKind.i64.wrap ((x'.i:Int)+1)=(x'.i:Int)+1:=by rw[aD];omega
    by_cases he:x'.err=0
    ·have e0:(x'.err==0)=true:=by simpa using he
     have NI:=u.fuel he;rw[if_pos he]at nG;obtain⟨g,rfl⟩:∃g,f=g+1:=⟨f-1,by omega⟩
     have heq:=u.eq;unfold jb at heq;have DX:=HQ.out wr x' u.se.1;cases hb:x'.is s qb.toNat
     ·rw[if_pos ⟨he,hb⟩]at heq;rw[hb]at DX;have hg:=HG.out x' he hle;have U:=a_ u;have EX:=a_ heq;have JI:=a_ hg;have HE:=a_ he;have hlen:=u.len;have hsz:(⟨t'.toArray⟩:ByteArray).size=t'.length:=by show t'.toArray.size=_;simp
      have hcs:(x'.char s qb.toNat).2.size<=s.size:=by
       by_cases hce:(x'.char s qb.toNat).1.err=0
       ·have:=hg.1 hce;omega
       ·have:=hg.2 hce;omega
      have zG:=fun w=>cV (P:=prog) w ⟨t'.toArray⟩ (x'.char s qb.toNat).2 (by rw[hsz];omega);simp only[zF]at zG;clear u heq hg he hb;go_wp2_with fail;refine DX.mono ?_;rintro e w5 ⟨rfl,b5⟩;have R5:=a_ (U.out.se.below hlt b5);go_wp2_with fail;refine(HCH.out _ x' R5.out.1).mono ?_;rintro e w6 ⟨rfl,r6⟩;have R6:=a_ (R5.out.on r6);clear r6;go_wp2
      go_roundw
      case rel=>
       by_cases hce:(x'.char s qb.toNat).1.err=0
       ·have hx:=JI.out.1 hce;have:=U.out.ge;refine⟨_,_,g,rfl,R6.out,hx.2.1,by omega,?_,EX.out,fun _=>by omega⟩;simp only[ae];have e9:(x'.char s qb.toNat).2.data.toList.length=(x'.char s qb.toNat).2.size:=by simp
        omega
       ·have hx:=JI.out.2 hce;have:=U.out.ge;refine⟨_,_,g,rfl,R6.out,by omega,by omega,?_,EX.out,fun e=>absurd e hce⟩;simp only[ae];have e9:(x'.char s qb.toNat).2.data.toList.length=(x'.char s qb.toNat).2.size:=by simp
        omega
      case measure=>
       rw[left_eq R6.out.1 s.size,nG];by_cases hce:(x'.char s qb.toNat).1.err=0
       ·rw[if_pos hce];have hx:=JI.out.1 hce;omega
       ·rw[if_neg hce];omega
     ·rw[if_neg (by rw[hb];simp)]at heq;rw[hb]at DX;subst heq;have U:=a_ u;clear u he hb;go_wp2_with fail;refine DX.mono ?_;rintro e w5 ⟨rfl,b5⟩;have R5:=a_ (U.out.se.below hlt b5);have m1:w5.cell? ⟨X,1,none⟩=some (.int .i64 x'.i):=R5.out.1.cell 1 rfl;have mf:=R5.out.1.free 1;go_wp2;go_ret;exact⟨rfl,R5.out.set (x':={x' with i:=x'.i+1}) 1 (.int .i64 ((x'.i:Int)+1)) (by show _=fN s lv {x' with i:=x'.i+1};simp[fN])⟩
    ·have e0:(x'.err==0)=false:=by simpa using he
     have IA:y=(x',t'):=by
      rw[<-u.eq];cases f with
      |zero=>rfl
      |succ f=>unfold jb;rw[if_neg (by simp[he])]
     subst IA;have U:=a_ u;clear u he;go_wp2;go_ret;exact⟨rfl,U.out.se.set (x':={x' with i:=x'.i+1}) 1 (.int .i64 ((x'.i:Int)+1)) (by show _=fN s lv {x' with i:=x'.i+1};simp[fN])⟩
  ·rw[q1]at I1;clear hq q1 I2;go_enter func101,ntmps101;go_wp2_with fail;refine(I1.out _ H.out.1).mono ?_;rintro e w2 ⟨rfl,b1⟩;have R2:=a_ (H.out.below hlt b1);have k0:w2.cell? ⟨X,0,none⟩=some (.string s):=R2.out.1.cell 0 rfl;have k1:w2.cell? ⟨X,1,none⟩=some (.int .i64 x.i):=R2.out.1.cell 1 rfl;have kf:=R2.out.1.free 1;clear I1 b1;go_wp2_with fail;go_quiet(fail);go_wp2_with fail;go_loopw [4,5] (fun tv _ wr=>∃x' t' f,tv=.string ⟨t'.toArray⟩/\VI X w s lv qb.toNat (x.i+1) y wr x' t' f) (fun _ _ wr=>left X s.size wr)
   case atStart=>
    refine⟨{x with i:=x.i+1},[],s.size+2,rfl,?_,by show x.i+1<=s.size;omega,ah _,ax _,HY.out,fun _=>by show s.size+1<x.i+1+(s.size+2);omega⟩;exact(R2.out.drewN nq).set (x':={x with i:=x.i+1}) 1 (.int .i64 ((x.i:Int)+1)) (by show _=fN s lv {x with i:=x.i+1};simp[fN])
   case round=>
    obtain⟨x',t',f,rfl,u⟩:=hrel;have d1:wr.cell? ⟨X,1,none⟩=some (.int .i64 x'.i):=u.se.1.cell 1 rfl;have d5:wr.cell? ⟨X,5,none⟩=some (.int .i64 x'.err):=u.se.1.cell 5 rfl;have df:=u.se.1.free 1;have hle:=u.le;have nG:=left_eq u.se.1 s.size;have Sd:IntKind.i64.wrap ((x'.i:Int)+1)=(x'.i:Int)+1:=by rw[aD];omega
    by_cases he:x'.err=0
    ·have e0:(x'.err==0)=true:=by simpa using he
     have NI:=u.fuel he;rw[if_pos he]at nG;obtain⟨g,rfl⟩:∃g,f=g+1:=⟨f-1,by omega⟩
     have heq:=u.eq;unfold jb at heq;have DX:=HQ.out wr x' u.se.1;cases hb:x'.is s qb.toNat
     ·rw[if_pos ⟨he,hb⟩]at heq;rw[hb]at DX;have hg:=HG.out x' he hle;have U:=a_ u;have EX:=a_ heq;have JI:=a_ hg;have HE:=a_ he;have hlen:=u.len;have hsz:(⟨t'.toArray⟩:ByteArray).size=t'.length:=by show t'.toArray.size=_;simp
      have hcs:(x'.char s qb.toNat).2.size<=s.size:=by
       by_cases hce:(x'.char s qb.toNat).1.err=0
       ·have:=hg.1 hce;omega
       ·have:=hg.2 hce;omega
      have zG:=fun w=>cV (P:=prog) w ⟨t'.toArray⟩ (x'.char s qb.toNat).2 (by rw[hsz];omega);simp only[zF]at zG;clear u heq hg he hb;go_wp2_with fail;refine DX.mono ?_;rintro e w5 ⟨rfl,b5⟩;have R5:=a_ (U.out.se.below hlt b5);go_wp2_with fail;refine(HCH.out _ x' R5.out.1).mono ?_;rintro e w6 ⟨rfl,r6⟩;have R6:=a_ (R5.out.on r6);clear r6;go_wp2
      go_roundw
      case rel=>
       by_cases hce:(x'.char s qb.toNat).1.err=0
       ·have hx:=JI.out.1 hce;have:=U.out.ge;refine⟨_,_,g,rfl,R6.out,hx.2.1,by omega,?_,EX.out,fun _=>by omega⟩;simp only[ae];have e9:(x'.char s qb.toNat).2.data.toList.length=(x'.char s qb.toNat).2.size:=by simp
        omega
       ·have hx:=JI.out.2 hce;have:=U.out.ge;refine⟨_,_,g,rfl,R6.out,by omega,by omega,?_,EX.out,fun e=>absurd e hce⟩;simp only[ae];have e9:(x'.char s qb.toNat).2.data.toList.length=(x'.char s qb.toNat).2.size:=by simp
        omega
      case measure=>
       rw[left_eq R6.out.1 s.size,nG];by_cases hce:(x'.char s qb.toNat).1.err=0
       ·rw[if_pos hce];have hx:=JI.out.1 hce;omega
       ·rw[if_neg hce];omega
     ·rw[if_neg (by rw[hb];simp)]at heq;rw[hb]at DX;subst heq;have U:=a_ u;clear u he hb;go_wp2_with fail;refine DX.mono ?_;rintro e w5 ⟨rfl,b5⟩;have R5:=a_ (U.out.se.below hlt b5);have m1:w5.cell? ⟨X,1,none⟩=some (.int .i64 x'.i):=R5.out.1.cell 1 rfl;have mf:=R5.out.1.free 1;go_wp2;go_ret;exact⟨rfl,R5.out.set (x':={x' with i:=x'.i+1}) 1 (.int .i64 ((x'.i:Int)+1)) (by show _=fN s lv {x' with i:=x'.i+1};simp[fN])⟩
    ·have e0:(x'.err==0)=false:=by simpa using he
     have IA:y=(x',t'):=by
      rw[<-u.eq];cases f with
      |zero=>rfl
      |succ f=>unfold jb;rw[if_neg (by simp[he])]
     subst IA;have U:=a_ u;clear u he;go_wp2;go_ret;exact⟨rfl,U.out.se.set (x':={x' with i:=x'.i+1}) 1 (.int .i64 ((x'.i:Int)+1)) (by show _=fN s lv {x' with i:=x'.i+1};simp[fN])⟩
 ·rw[if_neg hq];have q1:x.is s 34=false:=by simpa using(not_or.1 hq).1
  have q2:x.is s 39=false:=by simpa using(not_or.1 hq).2
  rw[q1]at i34;rw[q2]at i39;have hwr:=fun W (b:SE X w s lv x W)=>rB b.1 hs;have HW:=a_ hwr;have I1:=a_ i34;have I2:=a_ i39;clear h hq q1 q2 hwr i34 i39;go_enter func101,ntmps101;go_wp2_with fail;refine(I1.out _ H.out.1).mono ?_;rintro e w1 ⟨rfl,b1⟩;have R1:=a_ (H.out.below hlt b1);go_wp2_with fail;refine(I2.out _ R1.out.1).mono ?_;rintro e w2 ⟨rfl,b2⟩;have R2:=a_ (R1.out.below hlt b2);go_wp2_with fail;refine(HW.out _ R2.out).mono ?_;rintro e w3 ⟨rfl,r3⟩;go_wp2;go_ret;exact⟨rfl,R2.out.on r3⟩
end
section
variable{X:Nat}{w w' w'' wr:World}{s t:ByteArray}{lv:Value}{x x':Sc}
theorem JJ:(prog.info? 75).map (fun i=>(i.zero,i.size,i.bytes))=some (some (.agg #[.int .i64 0,.string ⟨#[]⟩,.slice none 0 0,.string ⟨#[]⟩,.int .i64 0]),5,72):=by kernel_rfl
theorem ZJ:(prog.info? 79).map (fun i=>(i.zero,i.size,i.bytes))=some (some (.agg #[.string ⟨#[]⟩,.string ⟨#[]⟩]),2,32):=by kernel_rfl
theorem wS(w:World)(t:Tok)(v:Value):∀j u,(fq t v)[j]?=some u->(w.alloc (.cells (fq t v).toArray 75)).cell? ((⟨w.heap.size,0,none⟩:Addr).add j)=some u:=by
 intro j u hu;rw[dH,ay,cell_of (bu w _) (v:=u)];rw[cz];exact hu
theorem Se{cs:List Value}(h:kQ X w s lv x)(hown:w.ownsRow 0 75 5 lv x.l.length cs)(hX:lv.ownBlock≠some X)(t:Tok)(ai:Option Addr)(an ac:Nat)(he:x.err=0)(hm:x.more=[])(hn:x.l.length<=1099511627776):
  Z4 71 #[Z8 X,.agg #[.int .i64 t.kind,eZ t.name,.slice ai an ac,eZ t.text,.int .i64 t.at_]] w fun en w'=>en=.returned (.tuple #[])/\∃v' w1 o1 o2,((w.alloc o1).drew.alloc o2).grownBy w1 lv.ownBlock/\w1.ownsRow 0 75 5 v' (x.l.length+1) (cs++fq t (.slice ai an ac))/\(v'.ownBlock=lv.ownBlock\/v'.ownBlock=some (w.heap.size+1+1))/\w'=w1.setCell ⟨X,2,none⟩ v':=by
 obtain⟨ti,tc,rfl⟩:=eE hown;obtain⟨i0,hi,hz0,hz1,hz2⟩:=bk JJ;have c2:w.cell? ⟨X,2,none⟩=some (.slice ti x.l.length tc):=h.cell 2 rfl;have c3:w.cell? ⟨X,3,none⟩=some (.string ⟨x.more.toArray⟩):=h.cell 3 rfl;have c5:w.cell? ⟨X,5,none⟩=some (.int .i64 x.err):=h.cell 5 rfl;have hlt:=h.lt;have e0:(x.err !=0)=false:=by simpa using he
 have em:x.more.isEmpty=true:=by rw[hm];rfl
 have HO:=a_ hown;have HA:=a_ h;clear hown h he hm;generalize x.l.length=n at*
 have d2:(w.alloc (.cells #[.int .i64 t.kind,eZ t.name,.slice ai an ac,eZ t.text,.int .i64 t.at_] 75)).cell? ⟨X,2,none⟩=some (.slice ti n tc):=eF _ c2;have d3:(w.alloc (.cells #[.int .i64 t.kind,eZ t.name,.slice ai an ac,eZ t.text,.int .i64 t.at_] 75)).cell? ⟨X,3,none⟩=some (.string ⟨x.more.toArray⟩):=eF _ c3;have d5:(w.alloc (.cells #[.int .i64 t.kind,eZ t.name,.slice ai an ac,eZ t.text,.int .i64 t.at_] 75)).cell? ⟨X,5,none⟩=some (.int .i64 x.err):=eF _ c5;go_enter func71,ntmps71;go_wp2_with fail;have hnews:∀j u,(fq t (.slice ai an ac))[j]?=some u->((w.alloc (.cells #[.int .i64 t.kind,eZ t.name,.slice ai an ac,eZ t.text,.int .i64 t.at_] 75)).drew.alloc (.cells (fq t (.slice ai an ac)).toArray 75)).cell? ((⟨w.heap.size+1,0,none⟩:Addr).add j)=some u:=by
  have h9:=wS (w.alloc (.cells #[.int .i64 t.kind,eZ t.name,.slice ai an ac,eZ t.text,.int .i64 t.at_] 75)).drew t (.slice ai an ac);have e9:(w.alloc (.cells #[.int .i64 t.kind,eZ t.name,.slice ai an ac,eZ t.text,.int .i64 t.at_] 75)).drew.heap.size=w.heap.size+1:=by simp[World.drew]
  rw[e9]at h9;exact h9
 have LR:=a_ hnews;clear hnews;go_region_law
  (first|(
   refine fJ rfl (.tmp 39) (.tmp 41) 66 rfl 75 i0 _ 5 72 underlying66 hi hz0 hz1 hz2 rfl (by decide) (.slice ti n tc) n cs (by simp[Act.eval,Act.put]) ((HO.out.alloc _).drew.alloc _) ⟨w.heap.size+1,0,none⟩ 1 1 (fq t (.slice ai an ac)) (by simp[Act.eval,Act.put]) rfl LR.out (qf _ _ rfl) (by unfold maxLen;omega) (by omega) ?_;intro v' w1 ho hg hat;obtain⟨uw,cap',rfl⟩:=eE ho;have hb1:w1.heap[X]?=some (.cells (fN s (.slice ti n tc) x) 69 (0,0)):=by
    rw[hg.block X (by simp;omega) (fun e=>hX e.symm)];exact(ap _ _ X (by simp;omega)).trans ((ap w _ X hlt).trans HA.out)
   have g2:=cell_of hb1 (i:=2) rfl;have gf:=eP (i:=2) hb1;have HOW:=a_ ho;have HG:=a_ hg;have tY:=a_ hat;clear ho hg hat hb1))
 all_goals
  go_wp2
  go_end0
  exact⟨rfl,_,_,_,_,HG.out,HOW.out,by simpa using tY.out,rfl⟩
end
section
variable{X:Nat}{w w' w'' wr:World}{s t:ByteArray}{lv:Value}{x x':Sc}
def gU(x:Sc):Tok:=⟨3,[],[],x.more,x.fV⟩
theorem eU{e:TypeId}{sz n:Nat}{v:Value}{xs:List Value}(h:w.ownsRow 0 e sz v n xs){k:Nat}(hk:v.ownBlock=some k):k<w.heap.size:=by
 obtain⟨cur,hc⟩:=fX h hk;exact(Array.getElem?_eq_some_iff.1 hc).1
theorem Sf{cs:List Value}{w w1 W:World}{s:ByteArray}{x:Sc}{X n:Nat}{ti:Option Addr}{tc:Nat}{t:Tok}{ai:Option Addr}{an ac:Nat}{o2:Obj}{uw:Option Addr}{cap':Nat}(hlt:X<w.heap.size)(hX:(Value.slice ti n tc).ownBlock≠some X)
  (hol:∀k,(Value.slice ti n tc).ownBlock=some k->k<w.heap.size)
  (hb:w1.heap[X]?=some (.cells (fN s (.slice ti n tc) x) 69 (0,0)))
  (ho:w1.ownsRow 0 75 5 (.slice uw (n+1) cap') (n+1) cs)
  (hg:((w.alloc (.cells #[.int .i64 t.kind,eZ t.name,.slice ai an ac,eZ t.text,.int .i64 t.at_] 75)).drew.alloc o2).grownBy w1 (Value.slice ti n tc).ownBlock)
  (hat:(Value.slice uw (n+1) cap').ownBlock=(Value.slice ti n tc).ownBlock\/(Value.slice uw (n+1) cap').ownBlock=some (w.heap.size+1+1))
  (hW:W=(w1.setCell ⟨X,2,none⟩ (.slice uw (n+1) cap')).setCell ⟨X,3,none⟩ (.string ⟨#[]⟩)):
  W.heap[X]?=some (.cells (((fN s (.slice ti n tc) x).setIfInBounds 2 (.slice uw (n+1) cap')).setIfInBounds 3 (.string ⟨#[]⟩)) 69 (0,0))/\
  W.ownsRow 0 75 5 (.slice uw (n+1) cap') (n+1) cs/\W.heap[w.heap.size]?=some (.cells #[.int .i64 t.kind,eZ t.name,.slice ai an ac,eZ t.text,.int .i64 t.at_] 75 (0,0))/\W.heap.size=w1.heap.size/\(X<W.heap.size/\(Value.slice uw (n+1) cap').ownBlock≠some X):=by
 have hne:(Value.slice uw (n+1) cap').ownBlock≠some X:=by
  rcases hat with e|e
  ·rw[e];exact hX
  ·rw[e];intro h9;simp at h9;omega
 have hs:W.heap.size=w1.heap.size:=by rw[hW];simp[World.setCell]
 have hko:∀k,k≠X->W.heap[k]?=w1.heap[k]?:=fun k hk=>by rw[hW,af _ _ _ _ hk,af _ _ _ _ hk]
 refine⟨?_,?_,?_,hs,?_,hne⟩
 ·rw[hW];exact eV (eV hb _) _
 ·exact eI ho (fun k hk=>hko k (fun e=>hne (by rw[hk,e])))
 ·rw[hko _ (by omega),hg.block w.heap.size (by simp[World.drew];omega) (fun e=>by have:=hol _ e.symm;omega)];exact(ap _ _ _ (by simp[World.drew])).trans (bu w _)
 ·rw[hs];exact(Array.getElem?_eq_some_iff.1 hb).1
theorem NJ{cs:List Value}(h:kQ X w s lv x)(hown:w.ownsRow 0 75 5 lv x.l.length cs)(hX:lv.ownBlock≠some X)(t:Tok)(ai:Option Addr)(an ac:Nat)(he:x.err=0)(hm:x.more≠[])(hn:x.l.length<=1099511627776):
  Z4 71 #[Z8 X,.agg #[.int .i64 t.kind,eZ t.name,.slice ai an ac,eZ t.text,.int .i64 t.at_]] w fun en w'=>en=.returned (.tuple #[])/\∃v1 w1 o1 o2 v2 w2 o3,((w.alloc o1).drew.alloc o2).grownBy w1 lv.ownBlock/\(v1.ownBlock=lv.ownBlock\/v1.ownBlock=some (w.heap.size+1+1))/\w1.ownsRow 0 75 5 v1 (x.l.length+1) (cs++fq (gU x) (.slice none 0 0))/\
   ((((w1.setCell ⟨X,2,none⟩ v1).setCell ⟨X,3,none⟩ (.string ⟨#[]⟩)).drew.alloc o3)).grownBy w2 v1.ownBlock/\w2.ownsRow 0 75 5 v2 (x.l.length+1+1) (cs++fq (gU x) (.slice none 0 0)++fq t (.slice ai an ac))/\(v2.ownBlock=v1.ownBlock\/v2.ownBlock=some (w1.heap.size+1))/\w'=w2.setCell ⟨X,2,none⟩ v2:=by
 obtain⟨ti,tc,rfl⟩:=eE hown;obtain⟨i0,hi,hz0,hz1,hz2⟩:=bk JJ;have c2:w.cell? ⟨X,2,none⟩=some (.slice ti x.l.length tc):=h.cell 2 rfl;have c3:w.cell? ⟨X,3,none⟩=some (.string ⟨x.more.toArray⟩):=h.cell 3 rfl;have c4:w.cell? ⟨X,4,none⟩=some (.int .i64 x.fV):=h.cell 4 rfl;have c5:w.cell? ⟨X,5,none⟩=some (.int .i64 x.err):=h.cell 5 rfl;have hlt:=h.lt;have hol:∀k,(Value.slice ti x.l.length tc).ownBlock=some k->k<w.heap.size:=fun k e=>eU hown e;have e0:(x.err !=0)=false:=by simpa using he
 have em:x.more.isEmpty=false:=by
  cases hl:x.more with
  |nil=>exact absurd hl hm
  |cons a l=>rfl
 have HO:=a_ hown;have HA:=a_ h;have HOL:=a_ hol;clear hown h he hm hol;generalize x.l.length=n at*
 have d2:(w.alloc (.cells #[.int .i64 t.kind,eZ t.name,.slice ai an ac,eZ t.text,.int .i64 t.at_] 75)).cell? ⟨X,2,none⟩=some (.slice ti n tc):=eF _ c2;have d3:(w.alloc (.cells #[.int .i64 t.kind,eZ t.name,.slice ai an ac,eZ t.text,.int .i64 t.at_] 75)).cell? ⟨X,3,none⟩=some (.string ⟨x.more.toArray⟩):=eF _ c3;have d4:(w.alloc (.cells #[.int .i64 t.kind,eZ t.name,.slice ai an ac,eZ t.text,.int .i64 t.at_] 75)).cell? ⟨X,4,none⟩=some (.int .i64 x.fV):=eF _ c4;have d5:(w.alloc (.cells #[.int .i64 t.kind,eZ t.name,.slice ai an ac,eZ t.text,.int .i64 t.at_] 75)).cell? ⟨X,5,none⟩=some (.int .i64 x.err):=eF _ c5;have hnews:∀j u,(fq (gU x) (.slice none 0 0))[j]?=some u->((w.alloc (.cells #[.int .i64 t.kind,eZ t.name,.slice ai an ac,eZ t.text,.int .i64 t.at_] 75)).drew.alloc (.cells (fq (gU x) (.slice none 0 0)).toArray 75)).cell? ((⟨w.heap.size+1,0,none⟩:Addr).add j)=some u:=by
  have h9:=wS (w.alloc (.cells #[.int .i64 t.kind,eZ t.name,.slice ai an ac,eZ t.text,.int .i64 t.at_] 75)).drew (gU x) (.slice none 0 0);have e9:(w.alloc (.cells #[.int .i64 t.kind,eZ t.name,.slice ai an ac,eZ t.text,.int .i64 t.at_] 75)).drew.heap.size=w.heap.size+1:=by simp[World.drew]
  rw[e9]at h9;exact h9
 have LR:=a_ hnews;clear hnews;go_enter func71,ntmps71;go_wp2_with fail;go_region_law
  (first|(
   refine fJ rfl (.tmp 18) (.tmp 28) 66 rfl 75 i0 _ 5 72 underlying66 hi hz0 hz1 hz2 rfl (by decide) (.slice ti n tc) n cs (by simp[Act.eval,Act.put]) ((HO.out.alloc _).drew.alloc _) ⟨w.heap.size+1,0,none⟩ 1 1 (fq (gU x) (.slice none 0 0)) (by simp[Act.eval,Act.put]) rfl LR.out (qf _ _ rfl) (by unfold maxLen;omega) (by omega) ?_;intro v' w1 ho hg hat;obtain⟨uw,cap',rfl⟩:=eE ho;have hb1:w1.heap[X]?=some (.cells (fN s (.slice ti n tc) x) 69 (0,0)):=by
    rw[hg.block X (by simp;omega) (fun e=>hX e.symm)];exact(ap _ _ X (by simp;omega)).trans ((ap w _ X hlt).trans HA.out)
   have g2:=cell_of hb1 (i:=2) rfl;have g3:=cell_of hb1 (i:=3) rfl;have gf:=eP (i:=2) hb1;have gf3:=eP (i:=3) hb1;have HB:=a_ hb1;have HOW:=a_ ho;have HG:=a_ hg;have tY:=a_ hat;clear ho hg hat hb1))
 all_goals
  go_wp2_with fail;obtain⟨W,hW⟩:∃W,W=(w1.setCell ⟨X,2,none⟩ (.slice uw (n+1) cap')).setCell ⟨X,3,none⟩ (.string ⟨#[]⟩):=⟨_,rfl⟩
  obtain⟨kX,kO,kB,kS,kL⟩:=Sf (ai:=ai) (an:=an) (ac:=ac) (t:=t) hlt hX HOL.out HB.out HOW.out HG.out (by simpa using tY.out) hW;rw[<-hW];have k2:W.cell? ⟨X,2,none⟩=some (.slice uw (n+1) cap'):=cell_of kX rfl;have q0:W.cell? ⟨w.heap.size,0,none⟩=some (.int .i64 t.kind):=cell_of kB rfl;have q1:W.cell? ⟨w.heap.size,1,none⟩=some (eZ t.name):=cell_of kB rfl;have q2:W.cell? ⟨w.heap.size,2,none⟩=some (.slice ai an ac):=cell_of kB rfl;have q3:W.cell? ⟨w.heap.size,3,none⟩=some (eZ t.text):=cell_of kB rfl;have q4:W.cell? ⟨w.heap.size,4,none⟩=some (.int .i64 t.at_):=cell_of kB rfl;have HN2:=a_ (wS W.drew t (.slice ai an ac));have HKX:=a_ kX;have HKO:=a_ kO;have HW:=a_ hW;have HKS:=a_ kS;clear kX kO kB hW kS g2 g3 gf gf3 c2 c3 c4 c5 d2 d3 d4 d5;go_region_law
   (first|(
    refine fJ rfl (.tmp 39) (.tmp 41) 66 rfl 75 i0 _ 5 72 underlying66 hi hz0 hz1 hz2 rfl (by decide) (.slice uw (n+1) cap') (n+1) (cs++fq (gU x) (.slice none 0 0)) (by simp[Act.eval,Act.put]) (HKO.out.drew.alloc _) ⟨W.heap.size,0,none⟩ 1 1 (fq t (.slice ai an ac)) (by simp[Act.eval,Act.put]) rfl HN2.out (qf _ _ rfl) (by unfold maxLen;omega) (by omega) ?_;intro v' w2 ho hg hat;obtain⟨ao2,adx,rfl⟩:=eE ho;have hb2:w2.heap[X]?=some (.cells (((fN s (.slice ti n tc) x).setIfInBounds 2 (.slice uw (n+1) cap')).setIfInBounds 3 (.string ⟨#[]⟩)) 69 (0,0)):=by
     rw[hg.block X (by simp;omega) (fun e=>kL.2 e.symm)];exact(ap _ _ X kL.1).trans HKX.out
    have r2:=cell_of hb2 (i:=2) rfl;have rf:=eP (i:=2) hb2;have acy:=a_ ho;have NL:=a_ hg;have acz:=a_ hat;clear ho hg hat hb2))
  all_goals
   go_wp2
   go_end0
   have e5:=HW.out;have e6:=NL.out;have e7:=acz.out;rw[e5]at e6;refine⟨rfl,_,_,_,_,_,_,_,HG.out,by simpa using tY.out,HOW.out,e6,acy.out,?_,rfl⟩;simpa [HKS.out]using e7
end
section
variable{X:Nat}{w w' w'' wr:World}{s t:ByteArray}{lv:Value}{x x':Sc}
theorem Sh(h:kQ X w s lv x)(t:Tok)(ai:Option Addr)(an ac:Nat)(he:x.err≠0):
  Z4 71 #[Z8 X,.agg #[.int .i64 t.kind,eZ t.name,.slice ai an ac,eZ t.text,.int .i64 t.at_]] w (Z7 (.tuple #[]) w):=by
 have c5:w.cell? ⟨X,5,none⟩=some (.int .i64 x.err):=h.cell 5 rfl;have e0:(x.err !=0)=true:=by simpa using he
 clear he h;have d5:(w.alloc (.cells #[.int .i64 t.kind,eZ t.name,.slice ai an ac,eZ t.text,.int .i64 t.at_] 75)).cell? ⟨X,5,none⟩=some (.int .i64 x.err):=eF _ c5;go_enter func71,ntmps71;go_wp2;refine aV (aK rfl _ _ _) rfl ?_;exact⟨rfl,(Below.refl _ _).alloc (ah _) _⟩
def oX(F:Nat->Prop)(X:Nat)(w:World):List Tok->List Value->Prop
 |[],cs=>cs=[]
 |t::l,cs=>∃v cs',cs=fq t v++cs'/\w.ownsRow 0 79 2 v t.b_.length (eG t.b_)/\(∀k,v.ownBlock=some k->F k/\k≠X)/\oX F X w l cs'
theorem oX.frame{F F':Nat->Prop}:∀{l:List Tok} {cs:List Value},oX F X w l cs->(∀k n xs v,w.ownsRow 0 79 2 v n xs->v.ownBlock=some k->F k->k≠X->w'.heap[k]?=w.heap[k]?/\F' k)->oX F' X w' l cs
 |[],_,h,_=>h
 |t::l,_,⟨v,cs',e,ho,hf,hl⟩,hk=>⟨v,cs',e,eI ho fun k hv=>(hk k _ _ v ho hv (hf k hv).1 (hf k hv).2).1,fun k hv=>⟨(hk k _ _ v ho hv (hf k hv).1 (hf k hv).2).2,(hf k hv).2⟩,hl.frame hk⟩
theorem oX.app{F:Nat->Prop}:∀{l l':List Tok} {cs cs':List Value},oX F X w l cs->oX F X w l' cs'->oX F X w (l++l') (cs++cs')
 |[],_,_,_,h,h'=>by cases h;exact h'
 |t::l,_,_,_,⟨v,c,e,ho,hf,hl⟩,h'=>⟨v,_,by rw[e,aM],ho,hf,hl.app h'⟩
structure RS(F:Nat->Prop)(X:Nat)(w:World)(s:ByteArray)(lv:Value)(cs:List Value)(x:Sc):Prop where
 sat:kQ X w s lv x
 row:w.ownsRow 0 75 5 lv x.l.length cs
 DY:oX F X w x.l cs
 own:∀k,lv.ownBlock=some k->F k/\k≠X
 has:F X
 lt:∀k,F k->k<w.heap.size
def tZ(F:Nat->Prop)(X:Nat)(w:World)(s:ByteArray)(x:Sc)(w':World):Prop:=∃lv cs,RS (Grow F w w') X w' s lv cs x/\Frame F w w'
theorem RS.ne{F:Nat->Prop}{cs:List Value}(h:RS F X w s lv cs x):lv.ownBlock≠some X:=fun e=>(h.own X e).2 rfl
theorem RS.below{F:Nat->Prop}{cs:List Value}(h:RS F X w s lv cs x)(b:Z5 w w'):tZ F X w s x w':=by
 refine⟨lv,cs,⟨?_,?_,?_,?_,Or.inl h.has,?_⟩,⟨b.os,b.tape,b.output,b.size,fun k hk _=>b.block k hk⟩⟩
 ·exact(b.block X (h.lt X h.has)).trans h.sat
 ·exact eI h.row fun k e=>b.block k (h.lt k (h.own k e).1)
 ·exact h.DY.frame fun k _ _ _ _ _ a _=>⟨b.block k (h.lt k a),Or.inl a⟩
 ·exact fun k e=>⟨Or.inl (h.own k e).1,(h.own k e).2⟩
 ·rintro k (a|a)
  ·exact ak (h.lt k a) b.size
  ·exact a.2
theorem RS.tell{F:Nat->Prop}{cs:List Value}(h:RS F X w s lv cs x){W0 w1:World}(b:Z5 w W0)(hg:W0.grownBy w1 lv.ownBlock)(t:Tok)(v v':Value)
  (ha:w.ownsRow 0 79 2 v t.b_.length (eG t.b_)) (Wo:∀k,v.ownBlock=some k->F k/\k≠X)
  (ho:w1.ownsRow 0 75 5 v' (x.l.length+1) (cs++fq t v)) (hat:v'.ownBlock=lv.ownBlock\/∃k,v'.ownBlock=some k/\w.heap.size<=k):
  RS (Grow F w w1) X (w1.setCell ⟨X,2,none⟩ v') s v' (cs++fq t v) {x with l:=x.l++[t]}/\Frame F w (w1.setCell ⟨X,2,none⟩ v'):=by
 have hs:(w1.setCell ⟨X,2,none⟩ v').heap.size=w1.heap.size:=by simp[World.setCell]
 have hw:w.heap.size<=w1.heap.size:=ar b.size hg.size;have hX:X<w.heap.size:=h.lt X h.has;have hold:∀k,k<w.heap.size->lv.ownBlock≠some k->w1.heap[k]?=w.heap[k]?:=fun k hk hn=>(hg.block k (ak hk b.size) (fun e=>hn e.symm)).trans (b.block k hk);have rC:∀k,k≠X->(w1.setCell ⟨X,2,none⟩ v').heap[k]?=w1.heap[k]?:=fun k hk=>af _ _ _ _ hk;have nz:∀k,v'.ownBlock=some k->Grow F w w1 k/\k≠X:=by
  intro k e;rcases hat with e1|⟨j,e1,hj⟩
  ·rw[e1]at e;exact⟨Or.inl (h.own k e).1,(h.own k e).2⟩
  ·rw[e1]at e;cases e;exact⟨Or.inr ⟨hj,eU ho e1⟩,by omega⟩
 have hrow:∀k n xs u,w.ownsRow 0 79 2 u n xs->u.ownBlock=some k->F k->k≠X->(w1.setCell ⟨X,2,none⟩ v').heap[k]?=w.heap[k]?/\Grow F w w1 k:=fun k n xs u hu e a c=>
  ⟨(rC k c).trans (hold k (h.lt k a) (lu hu h.row (by decide) e)),Or.inl a⟩
 refine⟨⟨?_,?_,?_,nz,Or.inl h.has,?_⟩,⟨hg.os.trans b.os,hg.tape.trans b.tape,hg.output.trans b.output,by rw[hs];exact hw,fun k hk hF=>?_⟩⟩
 ·have:=eV (i:=2) ((hold X hX h.ne).trans h.sat) v';exact this
 ·simp only[ae,ag,aq,ay];exact eI ho fun k e=>rC k (nz k e).2
 ·refine(h.DY.frame hrow).app ⟨v,[],by simp,eI ha fun k e=>(hrow k _ _ v ha e (Wo k e).1 (Wo k e).2).1,fun k e=>⟨Or.inl (Wo k e).1,(Wo k e).2⟩,rfl⟩
 ·rw[hs];rintro k (a|a)
  ·exact ak (h.lt k a) hw
  ·exact a.2
 ·rw[rC k (fun e=>hF (e▸h.has)),hold k hk (fun e=>hF (h.own k e).1)]
end
section
variable{X:Nat}{w w' w'' wr:World}{s t:ByteArray}{lv:Value}{x x':Sc}{F:Nat->Prop}{cs:List Value}
def Sc.told(x:Sc)(t:Tok):Sc:=if x.err≠0 then x else{x with l:=x.l++(if x.more=[]then [t]else [gU x,t]),more:=[]}
theorem grow_grow{w1 w2:World}{k:Nat}(h1:w.heap.size<=w1.heap.size)(h2:w1.heap.size<=w2.heap.size)(h:Grow (Grow F w w1) w1 w2 k):Grow F w w2 k:=by
 rcases h with(h|h)|h
 ·exact Or.inl h
 ·exact Or.inr ⟨h.1,ak h.2 h2⟩
 ·exact Or.inr ⟨ar h1 h.1,h.2⟩
theorem RS.wider{G:Nat->Prop}(h:RS F X w s lv cs x)(hF:∀k,F k->G k)(hl:∀k,G k->k<w.heap.size):RS G X w s lv cs x:=
 ⟨h.sat,h.row,h.DY.frame fun k _ _ _ _ _ a _=>⟨rfl,hF k a⟩,fun k e=>⟨hF k (h.own k e).1,(h.own k e).2⟩,hF X h.has,hl⟩
theorem tZ.on{w1 w2:World}(h:tZ F X w s x w1)(k:∀lv cs,RS (Grow F w w1) X w1 s lv cs x->tZ (Grow F w w1) X w1 s x' w2):tZ F X w s x' w2:=by
 obtain⟨lv,cs,h1,f1⟩:=h;obtain⟨Ym,IC,h2,f2⟩:=k lv cs h1;refine⟨Ym,IC,h2.wider (fun k a=>grow_grow f1.size f2.size a) ?_,⟨f2.os.trans f1.os,f2.tape.trans f1.tape,f2.output.trans f1.output,ar f1.size f2.size,?_⟩⟩
 ·rintro k (a|a)
  ·exact h2.lt k (Or.inl (Or.inl a))
  ·exact a.2
 ·intro k hk hF;rw[f2.block k (ak hk f1.size) (by rintro(a|a);exact hF a;omega),f1.block k hk hF]
theorem RS.set(h:RS F X w s lv cs x)(i:Nat)(v:Value)(hc:(fN s lv x).setIfInBounds i v=fN s lv x')(hl:x'.l=x.l):RS F X (w.setCell ⟨X,i,none⟩ v) s lv cs x':=by
 have hk:∀k,k≠X->(w.setCell ⟨X,i,none⟩ v).heap[k]?=w.heap[k]?:=fun k hk=>af _ _ _ _ hk;refine⟨((SE.refl h.sat).set i v hc).1,?_,?_,h.own,h.has,fun k a=>by simpa [World.setCell]using h.lt k a⟩
 ·rw[hl];exact eI h.row fun k e=>hk k (h.own k e).2
 ·rw[hl];exact h.DY.frame fun k _ _ _ _ _ a b=>⟨hk k b,a⟩
theorem RS.se{w1:World}(h:RS (Grow F w w1) X w' s lv cs x)(hs:w'.heap.size=w1.heap.size)(f:Frame F w w'):tZ F X w s x w':=by
 refine⟨lv,cs,?_,f⟩;have e:Grow F w w'=Grow F w w1:=by funext k;simp[Grow,hs]
 rw[e];exact h
theorem L4(h:RS F X w s lv cs x)(t:Tok)(ai:Option Addr)(an ac:Nat)(ha:w.ownsRow 0 79 2 (.slice ai an ac) t.b_.length (eG t.b_))(Wo:∀k,(Value.slice ai an ac).ownBlock=some k->F k/\k≠X)(hn:x.l.length<=1099511627776):
  Z4 71 #[Z8 X,.agg #[.int .i64 t.kind,eZ t.name,.slice ai an ac,eZ t.text,.int .i64 t.at_]] w fun en w'=>en=.returned (.tuple #[])/\tZ F X w s (x.told t) w':=by
 by_cases he:x.err=0
 ·by_cases hm:x.more=[]
  ·refine(Se h.sat h.row h.ne t ai an ac he hm hn).mono ?_;rintro en w' ⟨rfl,v',w1,o1,o2,hg,ho,hat,rfl⟩;have b:Z5 w ((w.alloc o1).drew.alloc o2):=(((Below.refl _ w).alloc (ah _) o1).drew).alloc (by simp[World.drew]) o2;obtain⟨h1,f1⟩:=h.tell b hg t _ v' ha Wo ho (hat.imp id fun e=>⟨_,e,by omega⟩);refine⟨rfl,?_⟩;have e9:x.told t={x with l:=x.l++[t]}:=by unfold Sc.told;rw[if_neg (by simpa using he),if_pos hm,<-hm]
   rw[e9];exact h1.se (by simp[World.setCell]) f1
  ·refine(NJ h.sat h.row h.ne t ai an ac he hm hn).mono ?_;rintro en w' ⟨rfl,v1,w1,o1,o2,v2,w2,o3,hg,hat,ho,hg2,ho2,nz,rfl⟩;refine⟨rfl,?_⟩;have b:Z5 w ((w.alloc o1).drew.alloc o2):=(((Below.refl _ w).alloc (ah _) o1).drew).alloc (by simp[World.drew]) o2;obtain⟨h1,f1⟩:=h.tell b hg (gU x) (.slice none 0 0) v1 (bG _ _ _ _) (by intro k e;simp[Value.ownBlock]at e) ho (hat.imp id fun e=>⟨_,e,by omega⟩);have h2:=h1.set (x':={x with l:=x.l++[gU x],more:=[]}) 3 (.string ⟨#[]⟩) rfl rfl;have hs:((w1.setCell ⟨X,2,none⟩ v1).setCell ⟨X,3,none⟩ (.string ⟨#[]⟩)).heap.size=w1.heap.size:=by simp[World.setCell]
   have f2:Frame F w ((w1.setCell ⟨X,2,none⟩ v1).setCell ⟨X,3,none⟩ (.string ⟨#[]⟩)):=
    ⟨f1.os,f1.tape,f1.output,by rw[hs];exact ar b.size hg.size,fun k hk hF=>(af _ _ _ _ (fun(e:k=X)=>hF (by rw[e];exact h.has))).trans (f1.block k hk hF)⟩
   have hgr:Grow F w ((w1.setCell ⟨X,2,none⟩ v1).setCell ⟨X,3,none⟩ (.string ⟨#[]⟩))=Grow F w w1:=by funext k;simp[Grow,hs]
   have e9:x.told t={x with l:=x.l++[gU x]++[t],more:=[]}:=by unfold Sc.told;rw[if_neg (by simpa using he),if_neg hm];simp
   rw[e9];refine tZ.on (x:={x with l:=x.l++[gU x],more:=[]}) (h2.se hs f2) ?_;intro lv3 cs3 h3;clear h3;rw[hgr];have ha2:((w1.setCell ⟨X,2,none⟩ v1).setCell ⟨X,3,none⟩ (.string ⟨#[]⟩)).ownsRow 0 79 2 (.slice ai an ac) t.b_.length (eG t.b_):=by
    refine eI ha fun k e=>?_;have hk:=Wo k e;rw[af _ _ _ _ hk.2,af _ _ _ _ hk.2,hg.block k (ak (h.lt k hk.1) b.size) (fun e2=>lu ha h.row (by decide) e e2.symm),b.block k (h.lt k hk.1)]
   have b2:Below ((w1.setCell ⟨X,2,none⟩ v1).setCell ⟨X,3,none⟩ (.string ⟨#[]⟩)).heap.size ((w1.setCell ⟨X,2,none⟩ v1).setCell ⟨X,3,none⟩ (.string ⟨#[]⟩)) (((w1.setCell ⟨X,2,none⟩ v1).setCell ⟨X,3,none⟩ (.string ⟨#[]⟩)).drew.alloc o3):=Below.alloc (Below.drew (Below.refl _ ((w1.setCell ⟨X,2,none⟩ v1).setCell ⟨X,3,none⟩ (.string ⟨#[]⟩)))) (ah _) o3;have hl9:(x.l++[gU x]).length=x.l.length+1:=by simp
   obtain⟨h4,f4⟩:=h2.tell b2 hg2 t _ v2 ha2 (fun k e=>⟨Or.inl (Wo k e).1,(Wo k e).2⟩) (by simp only[hl9];exact ho2) (nz.imp id fun e=>⟨_,e,by rw[hs];omega⟩);exact h4.se (by simp[World.setCell]) f4
 ·refine(Sh h.sat t ai an ac he).mono ?_;rintro en w' ⟨rfl,b⟩;refine⟨rfl,?_⟩;unfold Sc.told;rw[if_pos he];exact h.below b
end
section
variable{X:Nat}{w w' w'' wr:World}{s t:ByteArray}{lv:Value}{x x':Sc}{F:Nat->Prop}{cs:List Value}
theorem RS.F4(h:RS F X w s lv cs x)(k:SE X w s lv x' w')(hl:x'.l=x.l):tZ F X w s x' w':=by
 have hb:∀j,F j->j≠X->w'.heap[j]?=w.heap[j]?:=fun j a b=>k.2.block j (h.lt j a) b;refine⟨lv,cs,⟨k.1,?_,?_,fun j e=>⟨Or.inl (h.own j e).1,(h.own j e).2⟩,Or.inl h.has,?_⟩,⟨k.2.os,k.2.tape,k.2.output,k.2.size,fun j hj hF=>k.2.block j hj (fun e=>hF (by rw[e];exact h.has))⟩⟩
 ·rw[hl];exact eI h.row fun j e=>hb j (h.own j e).1 (h.own j e).2
 ·rw[hl];exact h.DY.frame fun j _ _ _ _ _ a b=>⟨hb j a b,Or.inl a⟩
 ·rintro j (a|a)
  ·exact ak (h.lt j a) k.2.size
  ·exact a.2
theorem RS.first(h:kQ X w s (.slice none 0 0) x)(hl:x.l=[]):RS (fun k=>k=X) X w s (.slice none 0 0) [] x:=
 ⟨h,by rw[hl];exact bG _ _ _ _,by rw[hl];rfl,by intro k e;simp[Value.ownBlock]at e,rfl,by rintro k rfl;exact h.lt⟩
end
end K
end Go.Proofs.YtjecakcpcnmieaaGreatDoor
