import Derived.Test.YtjecakcpcnmieaaGreatDoorHA
import Derived.Maps.AppendAt
import Derived.WalkKit
import Derived.WalkSpells
import Derived.OneCell
import Derived.BigQuiet
import Derived.Deep.QuietTactic
import Derived.Shelf.Unicode.DecodeSlow
import Derived.Maps.OwnSet
import Derived.Maps.Views
import Derived.Maps.Keyed
import Derived.Deep.RegionLaw
import Derived.Deep.RegionHeld3
import Derived.BigRegion
import Derived.Test.YtjecakcpcnmieaaGreatDoorHai
import Derived.Test.YtjecakcpcnmieaaGreatDoorHaa
set_option linter.unusedVariables false
set_option linter.unusedSimpArgs false
set_option maxHeartbeats 32000000
set_option maxRecDepth 100000
namespace Go.Proofs.YtjecakcpcnmieaaGreatDoor
namespace K
open Go.RowKit Tryz
def ZA(B:Nat)(v:Value)(n:Nat)(xs news:List Value)(w:World)(e:Ending)(w':World):Prop:=
 ∃v',e=.returned v'/\w'.ownsRow B 5 1 v' (n+news.length) (xs++news)/\(∃o,(w.alloc o).grownBy w' v.ownBlock)/\(v'.ownBlock=v.ownBlock\/v'.ownBlock=some (w.heap.size+1))
theorem Nz(B:Nat)(v:Value)(n:Nat)(xs:List Value)(r:Int)(h0:0<=r)(h1:r<=127)(w:World)(hown:w.ownsRow B 5 1 v n xs)(hlen:n+4<=140737488355328)(vo:B<=w.heap.size):
  Z4 122 #[v,.int .i32 r] w (ZA B v n xs [.int .u8 (r)] w):=by
 obtain⟨i0,hi,hz0,hz1,hz2⟩:=bk Tryz.Builder_Extra_242.infoByte;go_enter func122,ntmps122;go_wp2_with(at_builtin;refine bj _ rfl _ _ 49 rfl B 5 i0 (.int .u8 0) 1 1 underlying49 hi hz0 hz1 hz2 rfl (by decide) _ _ _ rfl (hown.alloc _) ⟨w.heap.size,0,none⟩ 1 1 [.int .u8 (r)] rfl rfl ?c1 ?c2 ?c3 ?c4 ?c5 ?_)
 case c1=>
  intro j u hj
  match j,hj with
  |0,hj=>simp at hj;subst hj;simp[Addr.add]
  |(j+1),hj=>simp at hj
 case c2=>intro u hu;simp at hu;subst hu;rfl
 case c3=>unfold maxLen;omega
 case c4=>omega
 case c5=>simp;omega
 intro v' w2 hown' jV _ hat;go_wp2;go_ret;exact⟨_,rfl,hown',⟨_,jV⟩,by simpa using hat⟩
theorem V_(B:Nat)(v:Value)(n:Nat)(xs:List Value)(r:Int)(h0:128<=r)(h1:r<=2047)(w:World)(hown:w.ownsRow B 5 1 v n xs)(hlen:n+4<=140737488355328)(vo:B<=w.heap.size):
  Z4 164 #[v,.int .i32 r] w (ZA B v n xs [.int .u8 (192+r/64),.int .u8 (128+r%64)] w):=by
 obtain⟨i0,hi,hz0,hz1,hz2⟩:=bk Tryz.Builder_Extra_242.infoByte;go_enter func164,ntmps164;go_wp2_with(at_builtin;refine bj _ rfl _ _ 49 rfl B 5 i0 (.int .u8 0) 1 1 underlying49 hi hz0 hz1 hz2 rfl (by decide) _ _ _ rfl (hown.alloc _) ⟨w.heap.size,0,none⟩ 2 2 [.int .u8 (192+r/64),.int .u8 (128+r%64)] rfl rfl ?c1 ?c2 ?c3 ?c4 ?c5 ?_)
 case c1=>
  intro j u hj
  match j,hj with
  |0,hj=>simp at hj;subst hj;simp[Addr.add]
  |1,hj=>simp at hj;subst hj;simp[Addr.add]
  |(j+2),hj=>simp at hj
 case c2=>intro u hu;simp at hu;rcases hu with rfl|rfl<;>rfl
 case c3=>unfold maxLen;omega
 case c4=>omega
 case c5=>simp;omega
 intro v' w2 hown' jV _ hat;go_wp2;go_ret;exact⟨_,rfl,hown',⟨_,jV⟩,by simpa using hat⟩
theorem ZB(B:Nat)(v:Value)(n:Nat)(xs:List Value)(r:Int)(h0:2048<=r)(h1:r<55296)(w:World)(hown:w.ownsRow B 5 1 v n xs)(hlen:n+4<=140737488355328)(vo:B<=w.heap.size):
  Z4 164 #[v,.int .i32 r] w (ZA B v n xs [.int .u8 (224+r/4096),.int .u8 (128+r/64%64),.int .u8 (128+r%64)] w):=by
 obtain⟨i0,hi,hz0,hz1,hz2⟩:=bk Tryz.Builder_Extra_242.infoByte;go_enter func164,ntmps164;go_wp2_with(at_builtin;refine bj _ rfl _ _ 49 rfl B 5 i0 (.int .u8 0) 1 1 underlying49 hi hz0 hz1 hz2 rfl (by decide) _ _ _ rfl (hown.alloc _) ⟨w.heap.size,0,none⟩ 3 3 [.int .u8 (224+r/4096),.int .u8 (128+r/64%64),.int .u8 (128+r%64)] rfl rfl ?c1 ?c2 ?c3 ?c4 ?c5 ?_)
 case c1=>
  intro j u hj
  match j,hj with
  |0,hj=>simp at hj;subst hj;simp[Addr.add]
  |1,hj=>simp at hj;subst hj;simp[Addr.add]
  |2,hj=>simp at hj;subst hj;simp[Addr.add]
  |(j+3),hj=>simp at hj
 case c2=>intro u hu;simp at hu;rcases hu with rfl|rfl|rfl<;>rfl
 case c3=>unfold maxLen;omega
 case c4=>omega
 case c5=>simp;omega
 intro v' w2 hown' jV _ hat;go_wp2;go_ret;exact⟨_,rfl,hown',⟨_,jV⟩,by simpa using hat⟩
theorem ZC(B:Nat)(v:Value)(n:Nat)(xs:List Value)(r:Int)(h0:57343<r)(h1:r<=65535)(w:World)(hown:w.ownsRow B 5 1 v n xs)(hlen:n+4<=140737488355328)(vo:B<=w.heap.size):
  Z4 164 #[v,.int .i32 r] w (ZA B v n xs [.int .u8 (224+r/4096),.int .u8 (128+r/64%64),.int .u8 (128+r%64)] w):=by
 obtain⟨i0,hi,hz0,hz1,hz2⟩:=bk Tryz.Builder_Extra_242.infoByte;go_enter func164,ntmps164;go_wp2_with(at_builtin;refine bj _ rfl _ _ 49 rfl B 5 i0 (.int .u8 0) 1 1 underlying49 hi hz0 hz1 hz2 rfl (by decide) _ _ _ rfl (hown.alloc _) ⟨w.heap.size,0,none⟩ 3 3 [.int .u8 (224+r/4096),.int .u8 (128+r/64%64),.int .u8 (128+r%64)] rfl rfl ?c1 ?c2 ?c3 ?c4 ?c5 ?_)
 case c1=>
  intro j u hj
  match j,hj with
  |0,hj=>simp at hj;subst hj;simp[Addr.add]
  |1,hj=>simp at hj;subst hj;simp[Addr.add]
  |2,hj=>simp at hj;subst hj;simp[Addr.add]
  |(j+3),hj=>simp at hj
 case c2=>intro u hu;simp at hu;rcases hu with rfl|rfl|rfl<;>rfl
 case c3=>unfold maxLen;omega
 case c4=>omega
 case c5=>simp;omega
 intro v' w2 hown' jV _ hat;go_wp2;go_ret;exact⟨_,rfl,hown',⟨_,jV⟩,by simpa using hat⟩
theorem RA(B:Nat)(v:Value)(n:Nat)(xs:List Value)(r:Int)(h0:65536<=r)(h1:r<=1114111)(w:World)(hown:w.ownsRow B 5 1 v n xs)(hlen:n+4<=140737488355328)(vo:B<=w.heap.size):
  Z4 164 #[v,.int .i32 r] w (ZA B v n xs [.int .u8 (240+r/262144),.int .u8 (128+r/4096%64),.int .u8 (128+r/64%64),.int .u8 (128+r%64)] w):=by
 obtain⟨i0,hi,hz0,hz1,hz2⟩:=bk Tryz.Builder_Extra_242.infoByte;go_enter func164,ntmps164;go_wp2_with(at_builtin;refine bj _ rfl _ _ 49 rfl B 5 i0 (.int .u8 0) 1 1 underlying49 hi hz0 hz1 hz2 rfl (by decide) _ _ _ rfl (hown.alloc _) ⟨w.heap.size,0,none⟩ 4 4 [.int .u8 (240+r/262144),.int .u8 (128+r/4096%64),.int .u8 (128+r/64%64),.int .u8 (128+r%64)] rfl rfl ?c1 ?c2 ?c3 ?c4 ?c5 ?_)
 case c1=>
  intro j u hj
  match j,hj with
  |0,hj=>simp at hj;subst hj;simp[Addr.add]
  |1,hj=>simp at hj;subst hj;simp[Addr.add]
  |2,hj=>simp at hj;subst hj;simp[Addr.add]
  |3,hj=>simp at hj;subst hj;simp[Addr.add]
  |(j+4),hj=>simp at hj
 case c2=>intro u hu;simp at hu;rcases hu with rfl|rfl|rfl|rfl<;>rfl
 case c3=>unfold maxLen;omega
 case c4=>omega
 case c5=>simp;omega
 intro v' w2 hown' jV _ hat;go_wp2;go_ret;exact⟨_,rfl,hown',⟨_,jV⟩,by simpa using hat⟩
def Scalar(r:Int):Prop:=(0<=r/\r<55296)\/(57343<r/\r<=1114111)
theorem Wa(B:Nat)(v:Value)(n:Nat)(xs:List Value)(r:Int)(hr:Scalar r)(h0:128<=r)(w:World)(hown:w.ownsRow B 5 1 v n xs)(hlen:n+4<=140737488355328)(vo:B<=w.heap.size):
  Z4 164 #[v,.int .i32 r] w (ZA B v n xs (Lib.runeCells r) w):=by
 unfold Scalar at hr;by_cases c1:r<=2047
 ·rw[show Lib.runeCells r=[.int .u8 (192+r/64),.int .u8 (128+r%64)] by simp[Lib.runeCells,Lib.encodeRuneZ_two (by omega) c1]];exact V_ B v n xs r (by omega) c1 w hown hlen vo
 by_cases c2:r<55296
 ·rw[show Lib.runeCells r=[.int .u8 (224+r/4096),.int .u8 (128+r/64%64),.int .u8 (128+r%64)] by simp[Lib.runeCells,Lib.encodeRuneZ_three (Or.inl ⟨by omega,c2⟩)]];exact ZB B v n xs r (by omega) c2 w hown hlen vo
 by_cases c4:r<=65535
 ·rw[show Lib.runeCells r=[.int .u8 (224+r/4096),.int .u8 (128+r/64%64),.int .u8 (128+r%64)] by simp[Lib.runeCells,Lib.encodeRuneZ_three (Or.inr ⟨by omega,c4⟩)]];exact ZC B v n xs r (by omega) c4 w hown hlen vo
 ·rw[show Lib.runeCells r=[.int .u8 (240+r/262144),.int .u8 (128+r/4096%64),.int .u8 (128+r/64%64),.int .u8 (128+r%64)] by simp[Lib.runeCells,Lib.encodeRuneZ_four (show 65536<=r by omega) (show r<=1114111 by omega)]];exact RA B v n xs r (by omega) (by omega) w hown hlen vo
theorem tX(B:Nat)(v:Value)(n:Nat)(xs:List Value)(r:Int)(hr:Scalar r)(w:World)(hown:w.ownsRow B 5 1 v n xs)(hlen:n+4<=140737488355328)(vo:B<=w.heap.size):
  Z4 122 #[v,.int .i32 r] w (ZA B v n xs (Lib.runeCells r) w):=by
 by_cases c:r<=127
 ·have h0:0<=r:=by unfold Scalar at hr;omega
  rw[show Lib.runeCells r=[.int .u8 r] by simp[Lib.runeCells,Lib.encodeRuneZ_one h0 c]];exact Nz B v n xs r h0 c w hown hlen vo
 ·have hc:=Wa B v n xs r hr (by omega) w hown hlen vo;have h1:128<=r:=by omega
  have h2:r<=1114111:=by unfold Scalar at hr;omega
  generalize Lib.runeCells r=news at*
  clear hr c;go_enter func122,ntmps122;go_wp2_with(go_at_call 164;refine hc.mono ?_);rintro e w1 ⟨v',rfl,h1,h2,h3⟩;go_wp2;go_ret;exact⟨_,rfl,h1,h2,h3⟩
structure Kept(R:Nat)(row:Option Nat)(w w':World):Prop where
 os:w'.os=w.os
 tape:w'.tape=w.tape
 output:w'.output=w.output
 size:w.heap.size<=w'.heap.size
 block:∀k,k<w.heap.size->k≠R->some k≠row->w'.heap[k]?=w.heap[k]?
theorem cell_of{w:World}{R i:Nat}{cs:Array Value}{t:TypeId}{v:Value}(h:w.heap[R]?=some (.cells cs t (0,0)))(hi:cs[i]?=some v):w.cell? ⟨R,i,none⟩=some v:=by simp[World.cell?,h,hi]
theorem eP{w:World}{R i:Nat}{cs:Array Value}{t:TypeId}(h:w.heap[R]?=some (.cells cs t (0,0))):w.frozen? ⟨R,i,none⟩=false:=by simp[World.frozen?,h]
theorem eV{w:World}{R i:Nat}{cs:Array Value}{t:TypeId}(h:w.heap[R]?=some (.cells cs t (0,0)))(v:Value):(w.setCell ⟨R,i,none⟩ v).heap[R]?=some (.cells (cs.setIfInBounds i v) t (0,0)):=by
 rw[setCell_eq_setRow w R i cs t (0,0) v h];exact setRow_heap w R cs _ t _ h
theorem jQ{w:World}{B:Nat}{v:Value}{n:Nat}{xs:List Value}(h:w.ownsRow B 5 1 v n xs)(a:Addr)(u:Value)(hne:v.ownBlock≠some a.block):(w.setCell a u).ownsRow B 5 1 v n xs:=by
 refine h.kept (row:=some a.block) ⟨rfl,rfl,rfl,by simp[World.setCell],fun k _ hk=>af _ _ _ _ (fun e=>hk (by rw[e]))⟩ ?_;exact Or.inr hne
theorem DJ{w:World}{B:Nat}{v:Value}{n:Nat}{xs:List Value}(h:w.ownsRow B 5 1 v n xs){R:Nat}{cs:Array Value}{t:TypeId}(hb:w.heap[R]?=some (.cells cs t (0,0)))(ht:t≠5):v.ownBlock≠some R:=by
 intro he;rcases h.2 with⟨rfl,_⟩|⟨g,cap,cur,rfl,_,hg,_⟩
 ·simp[Value.ownBlock]at he
 ·simp[Value.ownBlock]at he;subst he;rw[hb]at hg;simp only[aJ,cY]at hg;exact ht hg.2.1
theorem eE{w:World}{B:Nat}{e:TypeId}{s:Nat}{v:Value}{n:Nat}{xs:List Value}(h:w.ownsRow B e s v n xs):∃ao cap,v=.slice ao n cap:=by
 rcases h.2 with⟨rfl,rfl⟩|⟨g,cap,cur,rfl,_⟩
 ·exact⟨_,_,rfl⟩
 ·exact⟨_,_,rfl⟩
def DK(R i B:Nat)(cs:Array Value)(t:TypeId)(v:Value)(n:Nat)(xs news:List Value)(a p:Int)(w:World)(e:Ending)(w':World):Prop:=
 e=.returned (.tuple #[])/\∃v',w'.ownsRow B 5 1 v' (n+news.length) (xs++news)/\
  w'.heap[R]?=some (.cells ((cs.setIfInBounds (i+1) (.int .i64 (if n=0 then p else a))).setIfInBounds i v') t (0,0))/\
  Kept R v.ownBlock w w'/\(v'.ownBlock=v.ownBlock\/∃k,v'.ownBlock=some k/\w.heap.size<=k)
theorem BW{R i B:Nat}{cs IC:Array Value}{t:TypeId}{v v':Value}{n:Nat}{xs news:List Value}{a p:Int}{w w0 w1:World}
  (hcs:IC=cs.setIfInBounds (i+1) (.int .i64 (if n=0 then p else a)))
  (hb:w0.heap[R]?=some (.cells IC t (0,0))) (ht:t≠5) (hk:Kept R v.ownBlock w w0) (hv:v.ownBlock≠some R) (hsz:w0.heap.size=w.heap.size)
  (ho:w1.ownsRow B 5 1 v' (n+news.length) (xs++news)) (hg:∃o,(w0.alloc o).grownBy w1 v.ownBlock) (hat:v'.ownBlock=v.ownBlock\/v'.ownBlock=some (w0.heap.size+1)):
  w1.heap[R]?=some (.cells IC t (0,0))/\DK R i B cs t v n xs news a p w (.returned (.tuple #[])) (w1.setCell ⟨R,i,none⟩ v'):=by
 obtain⟨o,hg⟩:=hg;have hR:R<w0.heap.size:=(Array.getElem?_eq_some_iff.1 hb).1;have hb1:w1.heap[R]?=some (.cells IC t (0,0)):=by
  rw[hg.block R (by simp;omega) (fun e=>hv e.symm),ap _ _ _ hR];exact hb
 refine⟨hb1,rfl,v',jQ ho _ _ (DJ ho hb1 ht),?_,?_,?_⟩
 ·rw[<-hcs];exact eV hb1 _
 ·have hs1:w0.heap.size<=w1.heap.size:=by have:=hg.size;simp at this;omega
  refine⟨hg.os.trans hk.os,hg.tape.trans hk.tape,hg.output.trans hk.output,?_,?_⟩
  ·simp[World.setCell];omega
  ·intro k h1 h2 h3;rw[af _ _ _ _ h2,hg.block k (by simp;omega) h3,ap _ _ _ (by omega)];exact hk.block k h1 h2 h3
 ·rcases hat with h|h
  ·exact Or.inl h
  ·exact Or.inr ⟨_,h,by omega⟩
theorem NC(R i B:Nat)(cs:Array Value)(t:TypeId)(v:Value)(xs:List Value)(a p c:Int)(w:World)
  (hb:w.heap[R]?=some (.cells cs t (0,0))) (ht:t≠5) (h0:cs[i]?=some v) (h1:cs[i+1]?=some (.int .i64 a)) (hown:w.ownsRow B 5 1 v 0 xs) (hc:Scalar c) (vo:B<=w.heap.size):
  Z4 86 #[.pointer (some ⟨R,i,none⟩),.int .i32 c,.int .i64 p] w (DK R i B cs t v 0 xs (Lib.runeCells c) a p w):=by
 obtain⟨ao,cap,rfl⟩:=eE hown;have c0:=cell_of hb h0;have c1:=cell_of hb h1;have f1:=eP (i:=i+1) hb;have hne:=DJ hown hb ht;have hb0:=eV (i:=i+1) hb (.int .i64 p);have c2:=cell_of (i:=i) (v:=.slice ao 0 cap) hb0 (by rw[eD (by omega)];exact h0);have hap:=tX B _ 0 xs c hc (w.setCell ⟨R,i+1,none⟩ (.int .i64 p)) (jQ hown _ _ hne) (by omega) (by simpa [World.setCell]using vo);have hk:Kept R (Value.ownBlock (.slice ao 0 cap)) w (w.setCell ⟨R,i+1,none⟩ (.int .i64 p)):=⟨rfl,rfl,rfl,by simp[World.setCell],fun k _ h2 _=>af _ _ _ _ h2⟩
 generalize Lib.runeCells c=news at*
 have H0:=a_ h0;clear hb h0 h1 hown hc vo;go_enter func86,ntmps86;go_wp2_with(go_at_call 122;refine hap.mono ?_);rintro e w1 ⟨v',rfl,ho,hg,hat⟩;obtain⟨hb1,kI⟩:=BW (cs:=cs) (a:=a) (p:=p) (i:=i) (by simp) hb0 ht hk hne (by simp[World.setCell]) ho hg hat;obtain⟨uw,cap',rfl⟩:=eE ho;have c3:=cell_of (i:=i) (v:=.slice ao 0 cap) hb1 (by rw[eD (by omega)];exact H0.out);have f3:=eP (i:=i) hb1;clear hap hk hne hb0 hb1 ho hg hat;go_wp2
 go_end0
 rw[ay]at kI;exact kI
theorem RB(R i B:Nat)(cs:Array Value)(t:TypeId)(v:Value)(n:Nat)(xs:List Value)(a p c:Int)(w:World)
  (hb:w.heap[R]?=some (.cells cs t (0,0))) (ht:t≠5) (h0:cs[i]?=some v) (h1:cs[i+1]?=some (.int .i64 a)) (hown:w.ownsRow B 5 1 v n xs) (hc:Scalar c) (vo:B<=w.heap.size) (hn:0<n) (tK:n+4<=140737488355328):
  Z4 86 #[.pointer (some ⟨R,i,none⟩),.int .i32 c,.int .i64 p] w (DK R i B cs t v n xs (Lib.runeCells c) a p w):=by
 obtain⟨ao,cap,rfl⟩:=eE hown;have c0:=cell_of hb h0;have hne:=DJ hown hb ht;have hap:=tX B _ n xs c hc w hown tK vo;have hk:Kept R (Value.ownBlock (.slice ao n cap)) w w:=⟨rfl,rfl,rfl,ah _,fun k _ h2 _=>rfl⟩
 have hcs:cs=cs.setIfInBounds (i+1) (.int .i64 (if n=0 then p else a)):=by
  rw[if_neg (by omega)];apply Array.ext_getElem?;intro j;rw[bC];split
  ·rename_i hj;subst hj;obtain⟨hl,he⟩:=Array.getElem?_eq_some_iff.1 h1;rw[if_pos hl];exact h1
  ·rfl
 have HCS:=a_ hcs;clear hcs;generalize Lib.runeCells c=news at*
 have HB:=a_ hb;have H0:=a_ h0;clear hb h0 h1 hown hc vo tK;have hz:((n:Int)==0)=false:=by
  have:(n:Int)≠0:=by omega
  simpa using this
 go_enter func86,ntmps86;go_wp2_with(go_at_call 122;refine hap.mono ?_);rintro e w1 ⟨v',rfl,ho,hg,hat⟩;obtain⟨hb1,kI⟩:=BW (cs:=cs) (a:=a) (p:=p) (i:=i) HCS.out HB.out ht hk hne rfl ho hg hat;obtain⟨uw,cap',rfl⟩:=eE ho;have c3:=cell_of (i:=i) (v:=.slice ao n cap) hb1 H0.out;have f3:=eP (i:=i) hb1;clear hap hk hne hb1 ho hg hat;go_wp2
 go_end0
 exact kI
theorem Wb(R i B:Nat)(cs:Array Value)(t:TypeId)(v:Value)(n:Nat)(xs:List Value)(a p c:Int)(w:World)
  (hb:w.heap[R]?=some (.cells cs t (0,0))) (ht:t≠5) (h0:cs[i]?=some v) (h1:cs[i+1]?=some (.int .i64 a)) (hown:w.ownsRow B 5 1 v n xs) (hc:Scalar c) (vo:B<=w.heap.size) (tK:n+4<=140737488355328):
  Z4 86 #[.pointer (some ⟨R,i,none⟩),.int .i32 c,.int .i64 p] w (DK R i B cs t v n xs (Lib.runeCells c) a p w):=by
 rcases Nat.eq_zero_or_pos n with rfl|hn
 ·exact NC R i B cs t v xs a p c w hb ht h0 h1 hown hc vo
 ·exact RB R i B cs t v n xs a p c w hb ht h0 h1 hown hc vo hn tK
def ux(c:Int):Prop:=Ch.may c=true\/c= -1\/c= -2
theorem ux.lo{c:Int}(h:ux c): -2<=c/\c<=1114111:=by
 rcases h with h|h|h
 ·have:=(Ch.mJ c).1 h;omega
 ·omega
 ·omega
theorem zz{c:Int}(h:c<0):Ch.fw c=false:=by
 cases e:Ch.fw c
 ·rfl
 ·have:=(Ch.fT c).1 e;omega
theorem RE{c:Int}(h:c<0):Ch.gz c=false:=by
 cases e:Ch.gz c
 ·rfl
 ·have:=(Ch.jq c).1 e;omega
theorem ry(c:Int):(Lib.encodeRune c).length<=4:=Ch.sx c
theorem dec_lt{n:Nat}{b:Bool}(h:0<n↔b=true):(decide (0<n))=b:=by
 cases b
 ·have:¬0<n:=fun x=>by simp at h;omega
  simp;omega
 ·have:=h.2 rfl;simp;omega
theorem Wc{n:Nat}{b:Bool}(h:1<n↔b=true):(decide (1<(n:Int)))=b:=by
 cases b
 ·have:¬1<n:=fun x=>by simp at h;omega
  simp;omega
 ·have:=h.2 rfl;simp;omega
theorem oC(c:Int)(h:ux c)(w:World):
  Z4 151 #[.int .i32 c] w (Z7 (.bool (Ch.fw c)) w):=by
 by_cases hc:c<0
 ·rw[zz hc];go_enter func151,ntmps151;go_wp2;go_ret;exact⟨rfl,Below.refl _ _⟩
 ·have hm:Ch.may c=true:=by rcases h with h|h|h<;>first|exact h|omega
  have hn:=sf (Utf8.encode c) w (by rw[Ch.sB (Ch.il hm),Ch.ng];have:=ry c;omega);have hb:(decide (0<Ch.name (Utf8.encode c)))=Ch.fw c:=by rw[Ch.sB (Ch.il hm)];exact dec_lt (Ch.FY hm)
  have HB:=a_ hb;clear hb h hm;go_enter func151,ntmps151;go_wp2_with(go_at_call 161;refine hn.mono ?_;rintro e w1 ⟨rfl,b1⟩);go_ret;rw[HB.out];exact⟨rfl,b1⟩
theorem ml(c:Int)(h:ux c)(w:World):
  Z4 120 #[.int .i32 c] w (Z7 (.bool (Ch.fw c||Ch.gz c)) w):=by
 by_cases hc:c<0
 ·rw[zz hc,RE hc];go_enter func120,ntmps120;go_wp2;go_ret;exact⟨rfl,Below.refl _ _⟩
 ·have hm:Ch.may c=true:=by rcases h with h|h|h<;>first|exact h|omega
  have he:(⟨#[95]⟩++Utf8.encode c:ByteArray)=Ch.txt (95::Lib.encodeRune c):=by
   rw[Ch.sB (Ch.il hm)];apply cM;simp[Ch.txt]
  have hn:=sf (⟨#[95]⟩++Utf8.encode c) w (by rw[he,Ch.ng];have:=ry c;simp;omega);have hb:(decide (1<((Ch.name (⟨#[95]⟩++Utf8.encode c):Nat):Int)))=(Ch.fw c||Ch.gz c):=by rw[he];exact Wc (Ch.Ny hm)
  have hz:(Utf8.encode c).size<=4:=by rw[Ch.sB (Ch.il hm),Ch.ng];exact ry c
  have HB:=a_ hb;clear hb h hm he;go_enter func120,ntmps120;go_wp2_with(go_at_call 161;refine hn.mono ?_;rintro e w1 ⟨rfl,b1⟩);go_ret;rw[HB.out];exact⟨rfl,b1⟩
def Tk.blank(c:Int):Bool:=c==32||c==9||c==10||c==13
theorem sD(c:Int)(w:World):
  Z4 152 #[.int .i32 c] w (Z6 (.bool (Tk.blank c)) w):=by
 cases h1:(c==32)<;>cases h2:(c==9)<;>cases h3:(c==10)<;>cases h4:(c==13)
 all_goals
  unfold Tk.blank;rw[h1,h2,h3,h4];simp only[dh,dY,cu,cD];go_enter func152,ntmps152;go_wp2;go_ret;exact⟨rfl,rfl⟩
def oD(no p:Int):Value:=.iface 135 (.agg #[.int .i64 no,.int .i64 p])
def Tk.why(c:Int):Int:=if c= -2 then 2 else 3
theorem gS(R:Nat)(c p:Int)(w:World)(hp:w.cell? ⟨R,2,none⟩=some (.int .i64 p)):
  Z4 85 #[Z8 R,.int .i32 c] w (Z6 (oD (Tk.why c) p) w):=by
 by_cases hc:c= -2
 ·subst hc;go_enter func85,ntmps85;go_wp2;go_ret;exact⟨rfl,rfl⟩
 ·have e:Tk.why c=3:=by simp[Tk.why,hc]
  rw[e];have h2:(c== -2)=false:=by simpa using hc
  clear e hc;go_enter func85,ntmps85;go_wp2;go_ret;exact⟨rfl,rfl⟩
end K
end Go.Proofs.YtjecakcpcnmieaaGreatDoor
namespace Go.Proofs.YtjecakcpcnmieaaGreatDoor
namespace K
open Go.RowKit Go.Maps Go.Lib Tryz
def pL(n f b1 b2:Nat):Bool:=decide (f%8<=n)||((decide (1<n)&&(decide (b1<accLo (f/16))||decide (accHi (f/16)<b1)))||(decide (2<n)&&(decide (b2<128)||decide (191<b2))))
theorem below_drewN{B:Nat}{a w:World}(h:Below B a w)(n:Nat):Below B a (w.drewN n):=h.trans ⟨rfl,rfl,rfl,ah _,fun _ _=>rfl⟩
def NE(w:World)(b:Bool)(e:Ending)(w':World):Prop:=e=.returned (.bool b)/\Z5 w w'
theorem RH(s:ByteArray)(f lo hi a:Nat)(hf:(f=2/\a=0)\/(f=19/\a=1)\/(f=3/\a=0)\/(f=35/\a=2)\/(f=52/\a=3)\/(f=4/\a=0)\/(f=68/\a=4))(w:World)(hn:s.size=1)(x0:UInt8)(hs0:s[0]'(by omega)=x0)
  (hc0:w.cell? ⟨3,x0.toNat,none⟩=some (.int .u8 f)) (ha0:w.cell? ⟨4,2*a,none⟩=some (.int .u8 lo)) (ha1:w.cell? ⟨4,2*a+1,none⟩=some (.int .u8 hi)) (h34:4<w.heap.size):
  Z4 165 #[.string s] w (NE w false):=by
 have l0:=x0.toNat_lt;have hz0:(0:Int)<(s.size:Int):=by omega
 rcases hf with⟨rfl,rfl⟩|⟨rfl,rfl⟩|⟨rfl,rfl⟩|⟨rfl,rfl⟩|⟨rfl,rfl⟩|⟨rfl,rfl⟩|⟨rfl,rfl⟩;all_goals
  simp only[Nat.reduceMul,Nat.reduceAdd]at ha0 ha1;go_enter func165,ntmps165;go_wp2_with fail;go_quiet(fail);go_wp2;go_ret;exact⟨rfl,(below_drewN ((Below.refl _ w).alloc (ah _) _) _)⟩
theorem RJ(s:ByteArray)(f lo hi a:Nat)(hf:(f=19/\a=1)\/(f=3/\a=0)\/(f=35/\a=2)\/(f=52/\a=3)\/(f=4/\a=0)\/(f=68/\a=4))(w:World)(hn:s.size=2)(x0 x1:UInt8)(hs0:s[0]'(by omega)=x0)(hs1:s[1]'(by omega)=x1)
  (hc0:w.cell? ⟨3,x0.toNat,none⟩=some (.int .u8 f)) (ha0:w.cell? ⟨4,2*a,none⟩=some (.int .u8 lo)) (ha1:w.cell? ⟨4,2*a+1,none⟩=some (.int .u8 hi)) (h34:4<w.heap.size):
  Z4 165 #[.string s] w (NE w (decide (x1.toNat<lo)||decide (hi<x1.toNat))):=by
 have l0:=x0.toNat_lt;have l1:=x1.toNat_lt;have hz0:(0:Int)<(s.size:Int):=by omega
 have hz1:(1:Int)<(s.size:Int):=by omega
 by_cases hl:x1.toNat<lo
 ·have e1:(x1.toNat:Int)<(lo:Int):=by omega
  rw[show (decide (x1.toNat<lo)||decide (hi<x1.toNat))=true by simp[hl]];rcases hf with⟨rfl,rfl⟩|⟨rfl,rfl⟩|⟨rfl,rfl⟩|⟨rfl,rfl⟩|⟨rfl,rfl⟩|⟨rfl,rfl⟩;all_goals
   simp only[Nat.reduceMul,Nat.reduceAdd]at ha0 ha1;go_enter func165,ntmps165;go_wp2_with fail;go_quiet(fail);go_wp2;go_ret;exact⟨rfl,(below_drewN ((Below.refl _ w).alloc (ah _) _) _)⟩
 ·have e1:¬((x1.toNat:Int)<(lo:Int)):=by omega
  have e1':decide ((x1.toNat:Int)<(lo:Int))=false:=by simpa using e1
  by_cases hh:hi<x1.toNat
  ·have e2:(hi:Int)<(x1.toNat:Int):=by omega
   rw[show (decide (x1.toNat<lo)||decide (hi<x1.toNat))=true by simp[hh]];rcases hf with⟨rfl,rfl⟩|⟨rfl,rfl⟩|⟨rfl,rfl⟩|⟨rfl,rfl⟩|⟨rfl,rfl⟩|⟨rfl,rfl⟩;all_goals
    simp only[Nat.reduceMul,Nat.reduceAdd]at ha0 ha1;go_enter func165,ntmps165;go_wp2_with fail;go_quiet(fail);go_wp2;go_ret;exact⟨rfl,(below_drewN ((Below.refl _ w).alloc (ah _) _) _)⟩
  ·have e2:¬((hi:Int)<(x1.toNat:Int)):=by omega
   have e2':decide ((hi:Int)<(x1.toNat:Int))=false:=by simpa using e2
   rw[show (decide (x1.toNat<lo)||decide (hi<x1.toNat))=false by simp[hl,hh]];rcases hf with⟨rfl,rfl⟩|⟨rfl,rfl⟩|⟨rfl,rfl⟩|⟨rfl,rfl⟩|⟨rfl,rfl⟩|⟨rfl,rfl⟩;all_goals
    simp only[Nat.reduceMul,Nat.reduceAdd]at ha0 ha1;go_enter func165,ntmps165;go_wp2_with fail;go_quiet(fail);go_wp2;go_ret;exact⟨rfl,(below_drewN ((Below.refl _ w).alloc (ah _) _) _)⟩
end K
end Go.Proofs.YtjecakcpcnmieaaGreatDoor
namespace Go.Proofs.YtjecakcpcnmieaaGreatDoor
namespace K
open Go.RowKit Go.Maps Tryz
inductive Rn|text|name|attr|value|ref
deriving DecidableEq
def Rn.off:Rn->Nat
 | .text=>6| .name=>9| .attr=>13| .value=>15| .ref=>18
structure Tok where
 kind:Int
 name:List UInt8
 b_:List (List UInt8×List UInt8)
 text:List UInt8
 at_:Int
structure St where
 run:Rn->List UInt8
 fD:Rn->Int
 gD:Int
 b_:List (List UInt8×List UInt8)
 names:List (List UInt8)
 quote:Int
 told:List Tok
structure Src where
 rest:ByteArray
 next:Int
 at_:Int
 ended:Bool
 now:Value
 no:Int
 yg:Int
 closed:Bool
structure jt where
 told:Value
 run:Rn->Value
 b_:Value
 names:Value
def cellsOf(s:Src)(p:jt)(st:St):Array Value:=
 #[.string s.rest,.int .i64 s.next,.int .i64 s.at_,.bool s.ended,s.now,p.told,p.run .text,.int .i64 (st.fD .text),.int .i64 st.gD,p.run .name,.int .i64 (st.fD .name),p.b_,p.names,p.run .attr,.int .i64 (st.fD .attr),p.run .value,.int .i64 (st.fD .value),.int .i32 st.quote,p.run .ref,.int .i64 (st.fD .ref),.int .i64 s.no,.int .i64 s.yg,.bool s.closed]
def eZ(l:List UInt8):Value:=.string ⟨l.toArray⟩
def eG(l:List (List UInt8×List UInt8)):List Value:=l.flatMap fun a=>[eZ a.1,eZ a.2]
def fq(t:Tok)(v:Value):List Value:=[.int .i64 t.kind,eZ t.name,v,eZ t.text,.int .i64 t.at_]
inductive nh(F:Nat->Prop)(R:Nat)(w:World)(av:Value):List Tok->List Value->Prop
 |nil:nh F R w av [] []
 |cons (t:Tok) (v:Value) (l:List Tok) (cs:List Value) (ho:w.ownsRow 0 143 2 v t.b_.length (eG t.b_)) (hf:∀k,v.ownBlock=some k->F k/\k≠R/\av.ownBlock≠some k) (hl:nh F R w av l cs):nh F R w av (t::l) (fq t v++cs)
def mo(l:List (List UInt8)):DataW Unit:=setOf (.agg []) (l.map Lit.string)
def Names(F:Nat->Prop)(R:Nat)(w:World)(v:Value)(l:List (List UInt8)):Prop:=
 (v=.map none/\l=[])\/∃b,v=.map (some b)/\F b/\b≠R/\w.ownsMap prog 9 unitElem b l.length (mo l)
structure Own(F:Nat->Prop)(R:Nat)(w:World)(p:jt)(st:St):Prop where
 run:∀i,w.ownsRow 0 5 1 (p.run i) (st.run i).length (Lib.byteCells (st.run i))
 jJ:∀i k,(p.run i).ownBlock=some k->F k/\k≠R
 apart:∀i j k,i≠j->(p.run i).ownBlock=some k->(p.run j).ownBlock≠some k
 told:∃cs,w.ownsRow 0 56 5 p.told st.told.length cs/\nh F R w p.b_ st.told cs
 iD:∀k,p.told.ownBlock=some k->F k/\k≠R
 b_:w.ownsRow 0 143 2 p.b_ st.b_.length (eG st.b_)
 fe:∀k,p.b_.ownBlock=some k->F k/\k≠R
 names:Names F R w p.names st.names
structure gb(F:Nat->Prop)(R:Nat)(w:World)(s:Src)(p:jt)(st:St):Prop where
 blk:w.heap[R]?=some (.cells (cellsOf s p st) 137 (0,0))
 j5:F R
 lt:∀k,F k->k<w.heap.size
 own:Own F R w p st
def Grow(F:Nat->Prop)(w w':World)(k:Nat):Prop:=F k\/(w.heap.size<=k/\k<w'.heap.size)
structure Frame(F:Nat->Prop)(w w':World):Prop where
 os:w'.os=w.os
 tape:w'.tape=w.tape
 output:w'.output=w.output
 size:w.heap.size<=w'.heap.size
 block:∀k,k<w.heap.size->¬F k->w'.heap[k]?=w.heap[k]?
theorem Frame.refl(F:Nat->Prop)(w:World):Frame F w w:=⟨rfl,rfl,rfl,ah _,fun _ _ _=>rfl⟩
theorem Frame.trans{F:Nat->Prop}{a b c:World}(h:Frame F a b)(k:Frame (Grow F a b) b c):Frame F a c:=
 ⟨k.os.trans h.os,k.tape.trans h.tape,k.output.trans h.output,ar h.size k.size,fun i hi hf=>
  (k.block i (ak hi h.size) (fun e=>e.elim hf (fun x=>by omega))).trans (h.block i hi hf)⟩
theorem Frame.same{F:Nat->Prop}{a b c:World}(h:Frame F a b)(k:Frame F b c):Frame F a c:=
 ⟨k.os.trans h.os,k.tape.trans h.tape,k.output.trans h.output,ar h.size k.size,fun i hi hf=>
  (k.block i (ak hi h.size) hf).trans (h.block i hi hf)⟩
theorem Grow.trans{F:Nat->Prop}{a b c:World}(h1:a.heap.size<=b.heap.size)(h2:b.heap.size<=c.heap.size)(k:Nat):Grow (Grow F a b) b c k↔Grow F a c k:=by
 unfold Grow;constructor
 ·rintro((h|h)|h)
  ·exact Or.inl h
  ·exact Or.inr (by omega)
  ·exact Or.inr (by omega)
 ·rintro(h|h)
  ·exact Or.inl (Or.inl h)
  ·by_cases hk:k<b.heap.size
   ·exact Or.inl (Or.inr (by omega))
   ·exact Or.inr (by omega)
theorem eI{w w':World}{e:TypeId}{s:Nat}{v:Value}{n:Nat}{xs:List Value}(h:w.ownsRow 0 e s v n xs)(hk:∀k,v.ownBlock=some k->w'.heap[k]?=w.heap[k]?):w'.ownsRow 0 e s v n xs:=by
 refine⟨h.1,?_⟩;rcases h.2 with hn|⟨g,cap,cur,rfl,hb,hg,rest⟩
 ·exact Or.inl hn
 ·exact Or.inr ⟨g,cap,cur,rfl,hb,by rw[hk g rfl];exact hg,rest⟩
theorem fX{w:World}{e:TypeId}{s:Nat}{v:Value}{n:Nat}{xs:List Value}(h:w.ownsRow 0 e s v n xs){k:Nat}(hk:v.ownBlock=some k):∃cur,w.heap[k]?=some (.cells cur e (0,0)):=by
 rcases h.2 with⟨rfl,_⟩|⟨g,cap,cur,rfl,hb,hg,rest⟩
 ·simp[Value.ownBlock]at hk
 ·simp[Value.ownBlock]at hk;subst hk;exact⟨cur,hg⟩
theorem lu{w:World}{e e':TypeId}{s s':Nat}{v v':Value}{n n':Nat}{xs xs':List Value}(h:w.ownsRow 0 e s v n xs)(h':w.ownsRow 0 e' s' v' n' xs')(hne:e≠e'){k:Nat}(hk:v.ownBlock=some k):v'.ownBlock≠some k:=by
 intro U6;obtain⟨c,hc⟩:=fX h hk;obtain⟨c',hc'⟩:=fX h' U6;rw[hc]at hc';simp only[aJ,cY]at hc';exact hne hc'.2.1
theorem DL{w:World}{e:TypeId}{s:Nat}{v:Value}{n:Nat}{xs:List Value}{b m:Nat}{D:DataW Unit}(h:w.ownsRow 0 e s v n xs)(hm:w.ownsMap prog 9 unitElem b m D):v.ownBlock≠some b:=by
 intro hk;obtain⟨c,hc⟩:=fX h hk;obtain⟨es,cl,hb,_⟩:=hm;rw[hc]at hb;cases hb
theorem zA{w w':World}{b m:Nat}{D:DataW Unit}(hm:w.ownsMap prog 9 unitElem b m D)(hk:w'.heap[b]?=w.heap[b]?):w'.ownsMap prog 9 unitElem b m D:=by
 obtain⟨es,cl,hb,h⟩:=hm;exact⟨es,cl,hk.trans hb,h⟩
theorem nh.frame{F F':Nat->Prop}{R:Nat}{w w':World}{av j8:Value}{l:List Tok}{cs:List Value}(h:nh F R w av l cs)
  (hk:∀k n xs v,w.ownsRow 0 143 2 v n xs->v.ownBlock=some k->F k->k≠R->av.ownBlock≠some k->w'.heap[k]?=w.heap[k]?/\F' k/\j8.ownBlock≠some k):nh F' R w' j8 l cs:=by
 induction h with
 |nil=>exact .nil
 |cons t v l cs ho hf hl ih=>
  refine .cons t v l cs (eI ho fun k hv=>(hk k _ _ v ho hv (hf k hv).1 (hf k hv).2.1 (hf k hv).2.2).1) ?_ ih;intro k hv;obtain⟨a,b,c⟩:=hf k hv;obtain⟨d,e,f⟩:=hk k _ _ v ho hv a b c;exact⟨e,b,f⟩
theorem nh.app{F:Nat->Prop}{R:Nat}{w:World}{av:Value}{l l':List Tok}{cs cs':List Value}(h:nh F R w av l cs)(h':nh F R w av l' cs'):nh F R w av (l++l') (cs++cs'):=by
 induction h with
 |nil=>exact h'
 |cons t v l cs ho hf hl ih=>
  rw[aI,aM];exact .cons t v _ _ ho hf ih
theorem Own.frame{F F':Nat->Prop}{R:Nat}{w w':World}{p:jt}{st:St}(h:Own F R w p st)(hk:∀k,F k->k≠R->w'.heap[k]?=w.heap[k]?)(hF:∀k,F k->F' k):Own F' R w' p st:=by
 refine⟨fun i=>eI (h.run i) fun k e=>hk k (h.jJ i k e).1 (h.jJ i k e).2,fun i k e=>⟨hF k (h.jJ i k e).1,(h.jJ i k e).2⟩,h.apart,?_,fun k e=>⟨hF k (h.iD k e).1,(h.iD k e).2⟩,
  eI h.b_ fun k e=>hk k (h.fe k e).1 (h.fe k e).2,fun k e=>⟨hF k (h.fe k e).1,(h.fe k e).2⟩,?_⟩
 ·obtain⟨cs,h1,h2⟩:=h.told;exact⟨cs,eI h1 fun k e=>hk k (h.iD k e).1 (h.iD k e).2,h2.frame fun k n xs v ho hv a b c=>⟨hk k a b,hF k a,c⟩⟩
 ·rcases h.names with hn|⟨b,h1,h2,h3,h4⟩
  ·exact Or.inl hn
  ·exact Or.inr ⟨b,h1,hF b h2,h3,zA h4 (hk b h2 h3)⟩
theorem gb.wQ{F:Nat->Prop}{R:Nat}{w w':World}{s s':Src}{p:jt}{st iJ:St}(h:gb F R w s p st)(hk:∀k,k≠R->w'.heap[k]?=w.heap[k]?)(hs:w'.heap.size=w.heap.size)
  (hb:w'.heap[R]?=some (.cells (cellsOf s' p iJ) 137 (0,0))) (ho:Own F R w' p st->Own F R w' p iJ):gb F R w' s' p iJ:=
 ⟨hb,h.j5,fun k hf=>by rw[hs];exact h.lt k hf,ho (h.own.frame (fun k _ hr=>hk k hr) fun _ x=>x)⟩
def jt.eH(p:jt)(i:Rn)(v:Value):jt:={p with run:=fun j=>if j=i then v else p.run j}
def St.eH(st:St)(i:Rn)(l:List UInt8)(a:Int):St:={st with run:=fun j=>if j=i then l else st.run j,fD:=fun j=>if j=i then a else st.fD j}
theorem DM(s:Src)(p:jt)(st:St)(i:Rn)(v:Value)(l:List UInt8)(a:Int):
  ((cellsOf s p st).setIfInBounds (i.off+1) (.int .i64 a)).setIfInBounds i.off v=cellsOf s (p.eH i v) (st.eH i l a):=by
 cases i<;>rfl
theorem sG(s:Src)(p:jt)(st:St)(i:Rn):(cellsOf s p st)[i.off]?=some (p.run i)/\(cellsOf s p st)[i.off+1]?=some (.int .i64 (st.fD i)):=by cases i<;>exact⟨rfl,rfl⟩
theorem Own.turn{F:Nat->Prop}{R:Nat}{w w':World}{p:jt}{st:St}(h:Own F R w p st)(hlt:∀k,F k->k<w.heap.size)(hR:F R)(i:Rn)(v:Value)(l:List UInt8)(a:Int)
  (hK:Kept R (p.run i).ownBlock w w') (ho:w'.ownsRow 0 5 1 v l.length (Lib.byteCells l)) (hat:v.ownBlock=(p.run i).ownBlock\/∀k,v.ownBlock=some k->w.heap.size<=k):
  Own (Grow F w w') R w' (p.eH i v) (st.eH i l a):=by
 have hvk:∀k,v.ownBlock=some k->k<w'.heap.size:=fun k e=>by
  obtain⟨c,hc⟩:=fX ho e;exact(Array.getElem?_eq_some_iff.1 hc).1
 have keep:∀k,F k->k≠R->(p.run i).ownBlock≠some k->w'.heap[k]?=w.heap[k]?:=fun k a b c=>hK.block k (hlt k a) b (fun e=>c e.symm);refine⟨?_,?_,?_,?_,?_,?_,?_,?_⟩
 ·intro j;simp only[jt.eH,St.eH];by_cases hj:j=i
  ·subst hj;simp only[if_true];exact ho
  ·simp only[hj,bf];exact eI (h.run j) fun k e=>keep k (h.jJ j k e).1 (h.jJ j k e).2 (h.apart j i k hj e)
 ·intro j k e;simp only[jt.eH]at e;by_cases hj:j=i
  ·subst hj;simp only[if_true]at e;rcases hat with e2|e2
   ·rw[e2]at e;exact⟨Or.inl (h.jJ j k e).1,(h.jJ j k e).2⟩
   ·have:=e2 k e;have:=hlt R hR;exact⟨Or.inr ⟨by assumption,hvk k e⟩,by omega⟩
  ·simp only[hj,bf]at e;exact⟨Or.inl (h.jJ j k e).1,(h.jJ j k e).2⟩
 ·intro j j' k hne e;simp only[jt.eH]at e ⊢;by_cases hj:j=i
  ·subst hj;simp only[if_true]at e;have:¬j'=j:=fun x=>hne x.symm;simp only[this,bf];rcases hat with e2|e2
   ·rw[e2]at e;exact h.apart j j' k hne e
   ·intro e3;have:=hlt k (h.jJ j' k e3).1;have:=e2 k e;omega
  ·simp only[hj,bf]at e;by_cases hj':j'=i
   ·subst hj';simp only[if_true];rcases hat with e2|e2
    ·rw[e2];exact h.apart j j' k hne e
    ·intro e3;have:=hlt k (h.jJ j k e).1;have:=e2 k e3;omega
   ·simp only[hj',bf];exact h.apart j j' k hne e
 ·obtain⟨cs,h1,h2⟩:=h.told;refine⟨cs,eI h1 fun k e=>keep k (h.iD k e).1 (h.iD k e).2 (lu h1 (h.run i) (by decide) e),h2.frame ?_⟩;intro k n xs v' PZ hv a b c;exact⟨keep k a b (lu PZ (h.run i) (by decide) hv),Or.inl a,c⟩
 ·exact fun k e=>⟨Or.inl (h.iD k e).1,(h.iD k e).2⟩
 ·exact eI h.b_ fun k e=>keep k (h.fe k e).1 (h.fe k e).2 (lu h.b_ (h.run i) (by decide) e)
 ·exact fun k e=>⟨Or.inl (h.fe k e).1,(h.fe k e).2⟩
 ·rcases h.names with hn|⟨b,h1,h2,h3,h4⟩
  ·exact Or.inl hn
  ·exact Or.inr ⟨b,h1,Or.inl h2,h3,zA h4 (keep b h2 h3 (DL (h.run i) h4))⟩
inductive Pl|between|less|oT|remark|DN|iP|order|mark|iB|bracket|brackets|part|eY|jR|rz|lU|iW|jL|closing
def Pl.fn:Pl->Nat
 | .between=>49| .less=>82| .oT=>117| .remark=>156| .DN=>193| .iP=>116| .order=>154| .mark=>191| .iB=>157| .bracket=>194| .brackets=>224
 | .part=>118| .eY=>158| .jR=>195| .rz=>226| .lU=>242| .iW=>253| .jL=>159| .closing=>115
def fnV(n:Nat):Value:=.func (.func n) #[] #[]
def Pl.val(p:Pl):Value:=fnV p.fn
inductive Part
 |plain (p:Pl)
 |word (l:List UInt8) (p:Pl)
 |name (i:Rn) (p:Pl)
 |ref (i:Rn) (p:Pl)
inductive Res
 |go (p:Part)
 |stop
 |fail (no at_:Int)
structure Out where
 st:St
 res:Res
def St.put(st:St)(i:Rn)(c q:Int):St:=st.eH i (st.run i++Lib.encodeRune c) (if(st.run i).length=0 then q else st.fD i)
def St.clear(st:St)(i:Rn):St:=st.eH i [] 0
def St.eK(st:St):St:=if(st.run .text).length=0 then st else St.clear {st with told:=st.told++[⟨3,[],[],st.run .text,st.fD .text⟩]} .text
def St.fo(st:St):St:={st.eK with told:=st.eK.told++[⟨1,st.run .name,st.b_,[],st.gD⟩],b_:=[],names:=[]}
def St.gv(st:St):St:={st.eK with told:=st.eK.told++[⟨2,st.run .name,[],[],st.gD⟩]}
def St.addAttr(st:St):St:=St.clear {st with b_:=st.b_++[(st.run .attr,st.run .value)]} .value
def jS(q:Int)(st:St)(c:Int):Out:=
 if Tk.blank c=true then⟨st,.go (.plain .eY)⟩else if c=47 then⟨st,.go (.plain .jL)⟩else if c=62 then⟨st.fo,.go (.plain .between)⟩else⟨st,.fail (Tk.why c) q⟩
def gh(i:Rn)(k:Pl)(q:Int)(st:St)(c:Int):Out:=
 if Ch.fw c=true then⟨st.put i c q,.go (.name i k)⟩else⟨st,.fail (Tk.why c) q⟩
def kq(q:Int)(st:St)(c:Int):Out:=
 if Tk.blank c=true then⟨st,.go (.plain .rz)⟩else if c=61 then⟨st,.go (.plain .lU)⟩else⟨st,.fail (Tk.why c) q⟩
def iL(q:Int)(st:St)(c:Int):Out:=
 if c=45 then⟨st,.go (.plain .DN)⟩else if c<0 then⟨st,.fail (Tk.why c) q⟩else⟨st,.go (.plain .remark)⟩
def jg(q:Int)(st:St)(c:Int):Out:=
 if c=63 then⟨st,.go (.plain .mark)⟩else if c<0 then⟨st,.fail (Tk.why c) q⟩else⟨st,.go (.plain .order)⟩
def fY(q:Int)(st:St)(c:Int):Out:=
 if c=93 then⟨st,.go (.plain .bracket)⟩else if c<0 then⟨st,.fail (Tk.why c) q⟩else⟨st.put .text c q,.go (.plain .iB)⟩
def fZ(q:Int)(st:St)(c:Int):Out:=
 if c=93 then⟨st,.go (.plain .brackets)⟩else fY q (st.put .text 93 (q-1)) c
def step(pl:Pl)(q:Int)(st:St)(c:Int):Out:=
 match pl with
 | .between=>if c=60 then⟨{st with gD:=q},.go (.plain .less)⟩else if c=38 then⟨(st.clear .ref).put .ref 38 q,.go (.ref .text .between)⟩else if c= -1 then⟨st.eK,.stop⟩else if c= -2 then⟨st,.fail 2 q⟩else⟨st.put .text c q,.go (.plain .between)⟩
 | .less=>if c=47 then⟨st.clear .name,.go (.name .name .closing)⟩else if c=63 then⟨st,.go (.plain .iP)⟩else if c=33 then⟨st,.go (.plain .oT)⟩else gh .name .part q (st.clear .name) c
 | .oT=>if c=45 then⟨st,.go (.word [45] .remark)⟩else if c=91 then⟨st,.go (.word [67,68,65,84,65,91] .iB)⟩else⟨st,.fail (Tk.why c) q⟩
 | .remark=>iL q st c
 | .DN=>if c=45 then⟨st,.go (.word [62] .between)⟩else iL q st c
 | .iP=>if Ch.fw c=true then⟨st,.go (.plain .order)⟩else⟨st,.fail (Tk.why c) q⟩
 | .order=>jg q st c
 | .mark=>if c=62 then⟨st,.go (.plain .between)⟩else jg q st c
 | .iB=>fY q st c
 | .bracket=>fZ q st c
 | .brackets=>if c=62 then⟨st,.go (.plain .between)⟩else fZ q (st.put .text 93 (q-2)) c
 | .part=>jS q st c
 | .eY=>if Ch.fw c=true then gh .attr .jR q (st.clear .attr) c else jS q st c
 | .jR=>if st.names.contains (st.run .attr)=true then⟨st,.fail 5 (st.fD .attr)⟩else kq q {st with names:=st.names++[st.run .attr]} c
 | .rz=>kq q st c
 | .lU=>if Tk.blank c=true then⟨st,.go (.plain .lU)⟩else if c=34\/c=39 then⟨{st with quote:=c},.go (.plain .iW)⟩else⟨st,.fail (Tk.why c) q⟩
 | .iW=>if c=st.quote then⟨st.addAttr,.go (.plain .part)⟩else if c=38 then⟨(st.clear .ref).put .ref 38 q,.go (.ref .value .iW)⟩else if c=60\/c<0 then⟨st,.fail (Tk.why c) q⟩else⟨st.put .value c q,.go (.plain .iW)⟩
 | .jL=>if c=62 then⟨st.fo.gv,.go (.plain .between)⟩else⟨st,.fail (Tk.why c) q⟩
 | .closing=>if Tk.blank c=true then⟨st,.go (.plain .closing)⟩else if c=62 then⟨st.gv,.go (.plain .between)⟩else⟨st,.fail (Tk.why c) q⟩
def qG(F:Nat->Prop)(R:Nat)(w:World)(b:Nat)(x:Value)(t:TypeId):Prop:=w.heap[b]?=some (.cells #[x] t (0,0))/\F b/\b≠R
def vB(b:Nat):Value:=Z8 b
def gJ(F:Nat->Prop)(R:Nat)(w:World)(v:Value):Part->Prop
 | .plain p=>v=p.val
 | .word l p=>∃b1 b2,v=.func (.func 192) #[] #[vB b1,vB b2]/\qG F R w b1 (eZ l) 9/\qG F R w b2 p.val 128
 | .name i p=>∃b1 b2 b3,v=.func (.func 150) #[] #[vB b1,vB b2,vB b3]/\qG F R w b1 (.pointer (some ⟨R,i.off,none⟩)) 182/\qG F R w b2 p.val 128/\qG F R w b3 v 128
 | .ref i p=>∃b1 b2 b3,v=.func (.func 119) #[] #[vB b1,vB b2,vB b3]/\qG F R w b1 v 128/\qG F R w b2 (.pointer (some ⟨R,i.off,none⟩)) 182/\qG F R w b3 p.val 128
def eJ(F:Nat->Prop)(R:Nat)(w:World)(s:Src)(o:Out)(e:Ending)(w':World):Prop:=
 ∃p',gb (Grow F w w') R w' s p' o.st/\Frame F w w'/\
  match o.res with
  | .go part=>∃v,e=.returned (.tuple #[v,.nilIface])/\gJ (Grow F w w') R w' v part
  | .stop=>e=.returned (.tuple #[.nilFunc,.nilIface])
  | .fail no q=>e=.returned (.tuple #[.nilFunc,oD no q])
theorem gb.RM{F:Nat->Prop}{R:Nat}{w:World}{s:Src}{p:jt}{st:St}(h:gb F R w s p st):gb (Grow F w w) R w s p st:=
 ⟨h.blk,Or.inl h.j5,fun k hk=>hk.elim (h.lt k) (fun x=>x.2),h.own.frame (fun _ _ _=>rfl) (fun _ x=>Or.inl x)⟩
theorem gb.below{F:Nat->Prop}{R:Nat}{w w':World}{s:Src}{p:jt}{st:St}(h:gb F R w s p st)(hb:Z5 w w'):gb (Grow F w w') R w' s p st:=
 ⟨(hb.block R (h.lt R h.j5)).trans h.blk,Or.inl h.j5,fun k hk=>hk.elim (fun x=>ak (h.lt k x) hb.size) (fun x=>x.2),h.own.frame (fun k a _=>hb.block k (h.lt k a)) (fun _ x=>Or.inl x)⟩
theorem Frame.below{F:Nat->Prop}{w w':World}(hb:Z5 w w'):Frame F w w':=⟨hb.os,hb.tape,hb.output,hb.size,fun k h _=>hb.block k h⟩
theorem eJ.iC{F:Nat->Prop}{R:Nat}{w w':World}{s:Src}{p:jt}{st:St}{no q:Int}(h:gb F R w s p st)(hb:Z5 w w'):eJ F R w s ⟨st,.fail no q⟩ (.returned (.tuple #[.nilFunc,oD no q])) w':=
 ⟨p,h.below hb,Frame.below hb,rfl⟩
theorem eJ.pM{F:Nat->Prop}{R:Nat}{w w':World}{s:Src}{p:jt}{st:St}{pl:Pl}(h:gb F R w s p st)(hb:Z5 w w'):eJ F R w s ⟨st,.go (.plain pl)⟩ (.returned (.tuple #[pl.val,.nilIface])) w':=
 ⟨p,h.below hb,Frame.below hb,_,rfl,rfl⟩
theorem gb.cell{F:Nat->Prop}{R:Nat}{w:World}{s:Src}{p:jt}{st:St}(h:gb F R w s p st)(i:Nat){v:Value}(hi:(cellsOf s p st)[i]?=some v):w.cell? ⟨R,i,none⟩=some v:=cell_of h.blk hi
theorem gb.free{F:Nat->Prop}{R:Nat}{w:World}{s:Src}{p:jt}{st:St}(h:gb F R w s p st)(i:Nat):w.frozen? ⟨R,i,none⟩=false:=eP h.blk
theorem NF(l:List UInt8)(c:Int):Lib.byteCells l++Lib.runeCells c=Lib.byteCells (l++Lib.encodeRune c):=by rw[Lib.byteCells_append,Lib.byteCells_encodeRune]
theorem RO(c:Int):(Lib.runeCells c).length=(Lib.encodeRune c).length:=by simp[Lib.runeCells,Lib.encodeRune]
theorem Wd{F:Nat->Prop}{R:Nat}{w:World}{s:Src}{p:jt}{st:St}(h:gb F R w s p st)(i:Rn)(c q:Int)(hc:Scalar c)(hn:(st.run i).length+4<=140737488355328):
  Z4 86 #[.pointer (some ⟨R,i.off,none⟩),.int .i32 c,.int .i64 q] w fun e w'=>e=.returned (.tuple #[])/\∃v,gb (Grow F w w') R w' s (p.eH i v) (st.put i c q)/\Kept R (p.run i).ownBlock w w':=by
 refine(Wb R i.off 0 (cellsOf s p st) 137 (p.run i) (st.run i).length _ (st.fD i) q c w h.blk (by decide) (sG s p st i).1 (sG s p st i).2 (h.own.run i) hc (ax _) hn).mono ?_;rintro e w' ⟨rfl,v,ho,hb,hk,hat⟩;refine⟨rfl,v,⟨?_,Or.inl h.j5,fun k hf=>hf.elim (fun x=>ak (h.lt k x) hk.size) (fun x=>x.2),?_⟩,hk⟩
 ·rw[hb];congr 2;exact DM s p st i v _ _
 ·refine h.own.turn h.lt h.j5 i v _ _ hk ?_ ?_
  ·rw[NF]at ho;rw[ae,<-RO];exact ho
  ·rcases hat with e|⟨k,e,hk⟩
   ·exact Or.inl e
   ·refine Or.inr fun j hj=>?_;rw[e]at hj;cases hj;exact hk
theorem gb.ZD{F:Nat->Prop}{R:Nat}{w w':World}{s:Src}{p:jt}{st:St}(h:gb F R w s p st){i:Rn}(hk:Kept R (p.run i).ownBlock w w'):Frame F w w':=
 ⟨hk.os,hk.tape,hk.output,hk.size,fun k hl hf=>hk.block k hl (fun e=>hf (e▸h.j5)) (fun e=>hf (h.own.jJ i k e.symm).1)⟩
theorem pN{c:Int}(h:ux c)(h0:0<=c):Scalar c:=by
 have hm:Ch.may c=true:=by rcases h with h|h|h<;>first|exact h|omega
 have:=(Ch.mJ c).1 hm;unfold Scalar;omega
section
structure St.Small(st:St):Prop where
 run:∀i,(st.run i).length<=70368744177664
 told:st.told.length<=1099511627776
 b_:st.b_.length<=1099511627776
 names:st.names.length<=1099511627776
variable{F:Nat->Prop}{R:Nat}{w:World}{s:Src}{p:jt}{st:St}{c:Int}
theorem BX(h:gb F R w s p st)(ZE:ux c):
  Z4 156 #[Z8 R,.int .i32 c] w (eJ F R w s (iL s.at_ st c)):=by
 have hat:=h.cell 2 rfl;have H:=a_ h;clear h;by_cases h1:c=45
 ·subst h1;go_enter func156,ntmps156;go_wp2
  go_ret2
  exact eJ.pM H.out (Below.refl _ _)
 ·have e1:(c==45)=false:=by simpa using h1
  by_cases h2:c<0
  ·rw[show iL s.at_ st c=⟨st,.fail (Tk.why c) s.at_⟩ by simp[iL,h1,h2]];go_enter func156,ntmps156;go_wp2_with(go_at_call 85;refine(gS R c s.at_ _ hat).mono ?_;rintro e w1 ⟨rfl,rfl⟩)
   go_ret2
   exact eJ.iC H.out (Below.refl _ _)
  ·rw[show iL s.at_ st c=⟨st,.go (.plain .remark)⟩ by simp[iL,h1,h2]];go_enter func156,ntmps156;go_wp2
   go_ret2
   exact eJ.pM H.out (Below.refl _ _)
theorem FZ(h:gb F R w s p st)(ZE:ux c):
  Z4 154 #[Z8 R,.int .i32 c] w (eJ F R w s (jg s.at_ st c)):=by
 have hat:=h.cell 2 rfl;have H:=a_ h;clear h;by_cases h1:c=63
 ·subst h1;go_enter func154,ntmps154;go_wp2
  go_ret2
  exact eJ.pM H.out (Below.refl _ _)
 ·have e1:(c==63)=false:=by simpa using h1
  by_cases h2:c<0
  ·rw[show jg s.at_ st c=⟨st,.fail (Tk.why c) s.at_⟩ by simp[jg,h1,h2]];go_enter func154,ntmps154;go_wp2_with(go_at_call 85;refine(gS R c s.at_ _ hat).mono ?_;rintro e w1 ⟨rfl,rfl⟩)
   go_ret2
   exact eJ.iC H.out (Below.refl _ _)
  ·rw[show jg s.at_ st c=⟨st,.go (.plain .order)⟩ by simp[jg,h1,h2]];go_enter func154,ntmps154;go_wp2
   go_ret2
   exact eJ.pM H.out (Below.refl _ _)
theorem eJ.two{o:Out}{e:Ending}{w':World}(h:eJ F R w s o e w'):∃v1 v2,e=.returned (.tuple #[v1,v2]):=by
 obtain⟨p',_,_,h⟩:=h;cases hr:o.res with
 |go part=>rw[hr]at h;obtain⟨v,h,_⟩:=h;exact⟨_,_,h⟩
 |stop=>rw[hr]at h;exact⟨_,_,h⟩
 |fail no q=>rw[hr]at h;exact⟨_,_,h⟩
theorem Wh(h:gb F R w s p st)(hc:ux c):
  Z4 191 #[Z8 R,.int .i32 c] w (eJ F R w s (step .mark s.at_ st c)):=by
 have hr:=FZ h hc;have H:=a_ h;clear h;by_cases h1:c=62
 ·subst h1;go_enter func191,ntmps191;go_wp2
  go_ret2
  exact eJ.pM H.out (Below.refl _ _)
 ·have e1:(c==62)=false:=by simpa using h1
  rw[show step .mark s.at_ st c=jg s.at_ st c by simp[step,h1]];generalize jg s.at_ st c=o at*
  clear h1 hc;go_enter func191,ntmps191;go_wp2_with(go_at_call 154;refine hr.mono ?_);intro e w1 hP;obtain⟨v1,v2,rfl⟩:=hP.two;go_wp2
  go_ret2
  exact hP
theorem nM(t:ByteArray)(n:Nat)(w:World)(he:t.toList.isEmpty=false):
  Z4 155 #[.string t,.func (.func n) #[] #[]] w fun e w'=>e=.returned (.func (.func 192) #[] #[vB w.heap.size,vB (w.heap.size+1)])/\w'=(w.alloc (.cells #[.string t] 9)).alloc (.cells #[.func (.func n) #[] #[]] 128):=by
 go_enter func155,ntmps155;go_wp2;go_ret;exact⟨rfl,rfl⟩
theorem DR(t:ByteArray)(n:Nat)(w:World)(he:t.toList.isEmpty=true):
  Z4 155 #[.string t,.func (.func n) #[] #[]] w fun e w'=>e=.returned (.func (.func n) #[] #[])/\w'=(w.alloc (.cells #[.string t] 9)).alloc (.cells #[.func (.func n) #[] #[]] 128):=by
 go_enter func155,ntmps155;go_wp2;go_ret;exact⟨rfl,rfl⟩
theorem sH(w:World)(o o':Obj):Z5 w ((w.alloc o).alloc o'):=((Below.refl _ w).alloc (ah _) o).alloc (by simp) o'
theorem eJ.word{l:List UInt8}{pl:Pl}(h:gb F R w s p st):eJ F R w s ⟨st,.go (.word l pl)⟩ (.returned (.tuple #[.func (.func 192) #[] #[vB w.heap.size,vB (w.heap.size+1)],.nilIface])) ((w.alloc (.cells #[eZ l] 9)).alloc (.cells #[pl.val] 128)):=by
 have hR:=h.lt R h.j5;refine⟨p,h.below (sH w _ _),Frame.below (sH w _ _),_,rfl,w.heap.size,w.heap.size+1,rfl,⟨?_,Or.inr ⟨ah _,by simp;omega⟩,by omega⟩,⟨?_,Or.inr ⟨by omega,by simp⟩,by omega⟩⟩
 ·rw[ap _ _ _ (by simp)];exact bu w _
 ·have:=bu (w.alloc (.cells #[eZ l] 9)) (.cells #[pl.val] 128);simpa using this
theorem Wi(h:gb F R w s p st)(hc:ux c):
  Z4 193 #[Z8 R,.int .i32 c] w (eJ F R w s (step .DN s.at_ st c)):=by
 have hr:=BX h hc;have H:=a_ h;clear h;by_cases h1:c=45
 ·subst h1;go_enter func193,ntmps193;go_wp2_with(go_at_call 155;refine(nM ⟨#[62]⟩ 49 _ (by decide+kernel)).mono ?_;rintro e w1 ⟨rfl,rfl⟩)
  go_ret2
  exact eJ.word (l:=[62]) (pl:=.between) H.out
 ·have e1:(c==45)=false:=by simpa using h1
  rw[show step .DN s.at_ st c=iL s.at_ st c by simp[step,h1]];generalize iL s.at_ st c=o at*
  clear h1 hc;go_enter func193,ntmps193;go_wp2_with(go_at_call 156;refine hr.mono ?_);intro e w1 hP;obtain⟨v1,v2,rfl⟩:=hP.two;go_wp2
  go_ret2
  exact hP
theorem DS(h:gb F R w s p st)(hc:ux c):
  Z4 116 #[Z8 R,.int .i32 c] w (eJ F R w s (step .iP s.at_ st c)):=by
 have hr:=oC c hc;have hat:=h.cell 2 rfl;have hR:=h.lt R h.j5;have hst:step .iP s.at_ st c=if Ch.fw c=true then⟨st,.go (.plain .order)⟩else⟨st,.fail (Tk.why c) s.at_⟩:=rfl;rw[hst];clear hst;have H:=a_ h;have tY:=a_ hat;have HR:=a_ hR;clear h hc hat hR;generalize Ch.fw c=b at*
 cases b
 ·go_enter func116,ntmps116;go_wp2_with(go_at_call 151;refine(hr _).mono ?_;rintro e w1 ⟨rfl,b1⟩);refine(gS R c s.at_ _ ((b1.cell HR.out).trans tY.out)).mono ?_;rintro e w2 ⟨rfl,rfl⟩;go_wp2
  go_ret2
  exact eJ.iC H.out b1
 ·go_enter func116,ntmps116;go_wp2_with(first|(go_at_call 151;refine(hr _).mono ?_;rintro e w1 ⟨rfl,b1⟩))
  go_ret2
  exact eJ.pM H.out b1
end
section
theorem fJ{P:Program}{ops:Array Oper}{o:Oper}{a:Act}{w:World}{K:Act->World->Prop}{Q:Exit->Act->World->Prop}{E:Prop}
  (hg:o.guard=none) (s x:Operand) (t:TypeId) (hop:o.op=Op.call {callee:=Callee.builtin Builtin.append,args:=#[s,x],argTypes:=#[t,t]})
  (e:TypeId) (i:TypeInfo) (z:Value) (size bytes:Nat) (h1:P.underlying t=some (.slice e)) (h2:P.info? e=some i) (h3:i.zero=some z) (h4:i.size=size) (h5:i.bytes=bytes) (h6:z.cells.size=size) (h7:0<size)
  (v:Value) (n:Nat) (xs:List Value) (hs:a.eval s=v) (hown:w.ownsRow 0 e size v n xs)
  (ad:Addr) (m c:Nat) (news:List Value) (hx:a.eval x=.slice (some ad) m c) (hn:news.length=m*size) (hc:∀j u,news[j]?=some u->w.cell? (ad.add j)=some u) (h1c:∀u∈news,u.oneCell'=true)
  (b1:n+m<=maxLen) (b2:(n+m)*bytes<=140737488355328)
  (hK:∀v' w',w'.ownsRow 0 e size v' (n+m) (xs++news)->w.grownBy w' v.ownBlock->(v'.ownBlock=v.ownBlock\/v'.ownBlock=some w.heap.size)->K (a.put o.dst v') w'):
  if Region.wanted o (yielded ops a.tmps)=true then Oper.wp P o a w K Q else E:=by
 have hw:Region.wanted o (yielded ops a.tmps)=true:=by simp[Region.wanted,hg]
 rw[if_pos hw];obtain⟨v',w',hrun,r1,r2,_,r4⟩:=dm (P:=P) w 0 t o.type e i z size bytes h1 h2 h3 h4 h5 h6 h7 v n xs hown ad m c news hn hc h1c b1 b2 (ax _);unfold Oper.wp;simp[execOp,hop,resolve,invoke,builtin,hs,hx,hrun,Result.andThen];exact hK v' w' r1 r2 r4
theorem DT:(prog.info? 56).map (fun i=>(i.zero,i.size,i.bytes))=some (some (.agg #[.int .i64 0,.string ⟨#[]⟩,.slice none 0 0,.string ⟨#[]⟩,.int .i64 0]),5,72):=by kernel_rfl
theorem ZF:(prog.info? 143).map (fun i=>(i.zero,i.size,i.bytes))=some (some (.agg #[.string ⟨#[]⟩,.string ⟨#[]⟩]),2,32):=by kernel_rfl
theorem ko{w:World}{v:Value}{l:List UInt8}(h:w.ownsRow 0 5 1 v l.length (Lib.byteCells l)):(convert 49 9 v).run prog w=.ok (eZ l) w:=by
 rcases h.2 with⟨rfl,hn⟩|⟨g,cap,cur,rfl,_,hg,hc,_,hcs,ht⟩
 ·obtain rfl:l=[]:=aR hn;exact run_convert_bytes_nil w 49 5 underlying49 underlying5 0 0 9 underlying9
 ·have hx:strOfNums (l.map fun b=>(b.toNat:Int))=⟨l.toArray⟩:=by
   unfold strOfNums;congr 2;rw[dw]
   conv=>rhs;rw[<-List.map_id l]
   apply cU;intro b _;simp
  have:=dV (P:=prog) w 49 5 underlying49 underlying5 g 0 l.length cap (l.map fun b=>(b.toNat:Int)) (by simp) ?_ 9 underlying9
  ·rw[this,hx];rfl
  ·intro i hi;rw[ay,cell_of hg (v:=.int .u8 ((l.map fun b=>(b.toNat:Int)).getD i 0)) ?_];rw[<-Array.getElem?_toList];have h1:(cur.toList.take (l.length*1))[i]?=cur.toList[i]?:=by rw[bT,if_pos (by omega)]
   rw[<-h1,ht];simp[Lib.byteCells,hi]
theorem zB(w:World)(t:Tok)(v:Value):∀j u,(fq t v)[j]?=some u->(w.alloc (.cells (fq t v).toArray 56)).cell? ((⟨w.heap.size,0,none⟩:Addr).add j)=some u:=by
 intro j u hu;rw[dH,ay,cell_of (bu w _) (v:=u)];rw[cz];exact hu
theorem qf(t:Tok)(v:Value)(hv:v.oneCell'=true):∀u∈fq t v,u.oneCell'=true:=by
 intro u hu;simp only[fq,cE,cn,cK]at hu;rcases hu with rfl|rfl|rfl|rfl|rfl
 ·rfl
 ·rfl
 ·exact hv
 ·rfl
 ·rfl
theorem gm{w w1:World}{R:Nat}{o ob:Obj}{row:Option Nat}(hb:w.heap[R]?=some ob)(hR:row≠some R)(hg:(w.drew.alloc o).grownBy w1 row):w1.heap[R]?=some ob:=by
 have hlt:R<w.heap.size:=(Array.getElem?_eq_some_iff.1 hb).1;rw[hg.block R (by simp;omega) (fun e=>hR e.symm)];exact(ap w.drew o R hlt).trans hb
variable{F:Nat->Prop}{R:Nat}{w:World}{s:Src}{p:jt}{st:St}{c:Int}
theorem pO{w w1:World}{e:TypeId}{sz:Nat}{v tv:Value}{n m:Nat}{xs ys:List Value}{ty:TypeId}{sy:Nat}(h:w.ownsRow 0 e sz v n xs)(ht:w.ownsRow 0 ty sy tv m ys)(hne:e≠ty)(hg:w.grownBy w1 tv.ownBlock):w1.ownsRow 0 e sz v n xs:=
 eI h fun k hk=>by
  obtain⟨c,hc⟩:=fX h hk;exact hg.block k (Array.getElem?_eq_some_iff.1 hc).1 (fun x=>lu h ht hne hk x.symm)
def TT(R:Nat)(ao:Option Addr)(n cap:Nat)(q:Int)(l:List UInt8)(W:World):Prop:=
 W.cell? ⟨R,6,none⟩=some (.slice ao n cap)/\W.cell? ⟨R,7,none⟩=some (.int .i64 q)/\W.ownsRow 0 5 1 (.slice ao n cap) l.length (Lib.byteCells l)
theorem eF{w:World}{a:Addr}{v:Value}(o:Obj)(h:w.cell? a=some v):(w.alloc o).cell? a=some v:=
 (aj (ap w o a.block (bE w a h))).trans h
theorem mq{w:World}{R i:Nat}{v:Value}(u:Value)(h:w.cell? ⟨R,i,none⟩=some v)(hi:i≠5):(w.setCell ⟨R,5,none⟩ u).cell? ⟨R,i,none⟩=some v:=by
 rw[cP]
 ·exact h
 ·simp[hi]
theorem RP{R:Nat}{ao:Option Addr}{n cap:Nat}{q:Int}{l:List UInt8}{W:World}(_hR:R<W.heap.size)(h:TT R ao n cap q l W)(o:Obj):TT R ao n cap q l (W.alloc o):=
 ⟨eF o h.1,eF o h.2.1,h.2.2.alloc o⟩
theorem ZG{R:Nat}{ao:Option Addr}{n cap:Nat}{q:Int}{l:List UInt8}{W:World}(hR:(Value.slice ao n cap).ownBlock≠some R)(h:TT R ao n cap q l W)(u:Value):TT R ao n cap q l (W.setCell ⟨R,5,none⟩ u):=
 ⟨mq u h.1 (by decide),mq u h.2.1 (by decide),jQ h.2.2 _ _ hR⟩
theorem Bc(R:Nat)(cs:Array Value)(ao:Option Addr)(n cap:Nat)(q:Int)(tv:Value)(m:Nat)(xs:List Value)(l:List UInt8)(w:World)
  (hb:w.heap[R]?=some (.cells cs 137 (0,0))) (h5:cs[5]?=some tv) (h6:cs[6]?=some (.slice ao n cap)) (h7:cs[7]?=some (.int .i64 q))
  (hn:0<n) (hl:w.ownsRow 0 5 1 (.slice ao n cap) l.length (Lib.byteCells l)) (ht:w.ownsRow 0 56 5 tv m xs) (hm:m<=1099511627790) (hR:tv.ownBlock≠some R) (Nf:(Value.slice ao n cap).ownBlock≠some R):
  Z4 84 #[Z8 R] w fun e w'=>e=.returned (.tuple #[])/\∃v' w1 o,(w.drew.alloc o).grownBy w1 tv.ownBlock/\w1.ownsRow 0 56 5 v' (m+1) (xs++fq ⟨3,[],[],l,q⟩ (.slice none 0 0))/\(v'.ownBlock=tv.ownBlock\/v'.ownBlock=some (w.heap.size+1))/\
   w'=((w1.setCell ⟨R,5,none⟩ v').setCell ⟨R,6,none⟩ (.slice none 0 0)).setCell ⟨R,7,none⟩ (.int .i64 0):=by
 obtain⟨ti,tc,rfl⟩:=eE ht;obtain⟨i0,hi,hz0,hz1,hz2⟩:=bk DT;have hcv:∀W:World,W.ownsRow 0 5 1 (.slice ao n cap) l.length (Lib.byteCells l)->(convert 49 9 (.slice ao n cap)).run prog W=.ok (.string ⟨l.toArray⟩) W:=fun W h=>ko h;have c5:=cell_of hb h5;have c6:=cell_of hb h6;have c7:=cell_of hb h7;have hz:((n:Int)==0)=false:=by
  have:(n:Int)≠0:=by omega
  simpa using this
 have hlt:R<w.heap.size:=(Array.getElem?_eq_some_iff.1 hb).1;have HT:=a_ ht;clear ht;have HB:=a_ hb;have H6:=a_ h6;have H5:=a_ h5;have H7:=a_ h7;have HL:=a_ hl;clear hb h5 h6 h7 hl;have T0:Hid (TT R ao n cap q l w.drew):=⟨c6,c7,HL.out.drew⟩
 have T1:Hid (∀o,TT R ao n cap q l (w.drew.alloc o)):=fun o=>RP hlt T0.out o;have ZH:=hcv w.drew HL.out.drew;go_enter func84,ntmps84;go_wp2_with fail;go_region_law
  (first|(
   refine fJ rfl (.tmp 13) (.tmp 26) 45 rfl 56 i0 _ 5 72 underlying45 hi hz0 hz1 hz2 rfl (by decide) (.slice ti m tc) m xs (by simp[Act.eval,Act.put]) (HT.out.drew.alloc _) ⟨w.heap.size,0,none⟩ 1 1 (fq ⟨3,[],[],l,q⟩ (.slice none 0 0)) (by simp[Act.eval,Act.put]) rfl (zB _ _ _) (qf _ _ rfl) (by unfold maxLen;omega) (by omega) ?_;intro v' w1 ho hg hat;obtain⟨uw,cap',rfl⟩:=eE ho;have hb1:=gm HB.out hR hg;have c5':=cell_of hb1 H5.out;have c6':=cell_of hb1 H6.out;have c7':=cell_of hb1 H7.out;have f5':=eP (i:=5) hb1;have f6':=eP (i:=6) hb1;have f7':=eP (i:=7) hb1;have T2:Hid (TT R ao n cap q l w1):=⟨c6',c7',pO (HL.out.drew.alloc _) (HT.out.drew.alloc _) (by decide) hg⟩
   have T3:Hid (∀v,TT R ao n cap q l (w1.setCell ⟨R,5,none⟩ v)):=fun v=>ZG Nf T2.out v;have HO:=a_ ho;have HG:=a_ hg;have HA:=a_ hat;clear ho hg hat hb1))
 all_goals
  go_wp2
  go_end0
  exact⟨rfl,_,w1,_,HG.out,HO.out,by simpa using HA.out,rfl⟩
end
section
variable{F:Nat->Prop}{R:Nat}{w w':World}{s:Src}{p:jt}{st:St}{c:Int}
theorem la(w:World)(e:TypeId)(sz:Nat):w.ownsRow 0 e sz (.slice none 0 0) 0 []:=bG w 0 e sz
theorem iE(k:Nat):(Value.slice none 0 0).ownBlock≠some k:=by simp[Value.ownBlock]
theorem Kept.refl(R:Nat)(row:Option Nat)(w:World):Kept R row w w:=⟨rfl,rfl,rfl,ah _,fun _ _ _ _=>rfl⟩
theorem Grow.base{F:Nat->Prop}{w:World}(k:Nat)(h:Grow F w w k):F k:=h.elim id fun x=>by omega
theorem Own.clear(h:Own F R w p st)(hlt:∀k,F k->k<w.heap.size)(hR:F R)(i:Rn):Own F R w (p.eH i (.slice none 0 0)) (st.clear i):=
 (h.turn hlt hR i (.slice none 0 0) [] 0 (Kept.refl _ _ _) (la w 5 1) (Or.inr fun k e=>absurd e (iE k))).frame (fun _ _ _=>rfl) Grow.base
theorem Own.tell(h:Own F R w p st)(hlt:∀k,F k->k<w.heap.size)(hR:F R){cs:List Value}(hc:w.ownsRow 0 56 5 p.told st.told.length cs)(hT:nh F R w p.b_ st.told cs)
  (hK:Kept R p.told.ownBlock w w') (v:Value) (t:Tok) (ht:t.b_=[]) (ho:w'.ownsRow 0 56 5 v (st.told.length+1) (cs++fq t (.slice none 0 0))) (hat:v.ownBlock=p.told.ownBlock\/∀k,v.ownBlock=some k->w.heap.size<=k):
  Own (Grow F w w') R w' {p with told:=v} {st with told:=st.told++[t]}:=by
 have keep:∀k,F k->k≠R->p.told.ownBlock≠some k->w'.heap[k]?=w.heap[k]?:=fun k a b c=>hK.block k (hlt k a) b (fun e=>c e.symm);refine⟨fun i=>eI (h.run i) fun k e=>keep k (h.jJ i k e).1 (h.jJ i k e).2 (lu (h.run i) hc (by decide) e),fun i k e=>⟨Or.inl (h.jJ i k e).1,(h.jJ i k e).2⟩,h.apart,⟨_,by rw[ae];exact ho,?_⟩,?_,
  eI h.b_ fun k e=>keep k (h.fe k e).1 (h.fe k e).2 (lu h.b_ hc (by decide) e),fun k e=>⟨Or.inl (h.fe k e).1,(h.fe k e).2⟩,?_⟩
 ·refine(hT.frame fun k n xs v' PZ hv a b c=>⟨keep k a b (lu PZ hc (by decide) hv),Or.inl a,c⟩).app ?_;have:=nh.cons (F:=Grow F w w') (R:=R) (w:=w') (av:=p.b_) t (.slice none 0 0) [] [] (by rw[ht];exact la w' 143 2) (fun k e=>absurd e (iE k)) .nil;rw[aO]at this;exact this
 ·intro k e;rcases hat with e2|e2
  ·rw[e2]at e;exact⟨Or.inl (h.iD k e).1,(h.iD k e).2⟩
  ·have h1:=e2 k e;have h2:=hlt R hR;obtain⟨c,hc⟩:=fX ho e;exact⟨Or.inr ⟨h1,(Array.getElem?_eq_some_iff.1 hc).1⟩,by omega⟩
 ·rcases h.names with hn|⟨b,h1,h2,h3,h4⟩
  ·exact Or.inl hn
  ·exact Or.inr ⟨b,h1,Or.inl h2,h3,zA h4 (keep b h2 h3 (DL hc h4))⟩
theorem Own.RQ(h:Own F R w p st)(hlt:∀k,F k->k<w.heap.size)(hR:F R){cs:List Value}(hc:w.ownsRow 0 56 5 p.told st.told.length cs)(hT:nh F R w p.b_ st.told cs)
  (hK:Kept R p.told.ownBlock w w') (v:Value) (t:Tok) (ht:t.b_=st.b_) (ho:w'.ownsRow 0 56 5 v (st.told.length+1) (cs++fq t p.b_)) (hat:v.ownBlock=p.told.ownBlock\/∀k,v.ownBlock=some k->w.heap.size<=k):
  Own (Grow F w w') R w' {p with told:=v,b_:=.slice none 0 0,names:=.map none} {st with told:=st.told++[t],b_:=[],names:=[]}:=by
 have keep:∀k,F k->k≠R->p.told.ownBlock≠some k->w'.heap[k]?=w.heap[k]?:=fun k a b c=>hK.block k (hlt k a) b (fun e=>c e.symm);refine⟨fun i=>eI (h.run i) fun k e=>keep k (h.jJ i k e).1 (h.jJ i k e).2 (lu (h.run i) hc (by decide) e),fun i k e=>⟨Or.inl (h.jJ i k e).1,(h.jJ i k e).2⟩,h.apart,⟨_,by rw[ae];exact ho,?_⟩,?_,
  la w' 143 2,fun k e=>absurd e (iE k),Or.inl ⟨rfl,rfl⟩⟩
 ·refine(hT.frame fun k n xs v' PZ hv a b c=>⟨keep k a b (lu PZ hc (by decide) hv),Or.inl a,iE k⟩).app ?_;have:=nh.cons (F:=Grow F w w') (R:=R) (w:=w') (av:=.slice none 0 0) t p.b_ [] [] (by rw[ht];exact eI h.b_ fun k e=>keep k (h.fe k e).1 (h.fe k e).2 (lu h.b_ hc (by decide) e)) (fun k e=>⟨Or.inl (h.fe k e).1,(h.fe k e).2,iE k⟩) .nil;rw[aO]at this;exact this
 ·intro k e;rcases hat with e2|e2
  ·rw[e2]at e;exact⟨Or.inl (h.iD k e).1,(h.iD k e).2⟩
  ·have h1:=e2 k e;have h2:=hlt R hR;obtain⟨c,hc⟩:=fX ho e;exact⟨Or.inr ⟨h1,(Array.getElem?_eq_some_iff.1 hc).1⟩,by omega⟩
theorem yA{w1:World}{row:Option Nat}{o:Obj}(hg:(w.drew.alloc o).grownBy w1 row)(hs:w'.heap.size=w1.heap.size)(hk:∀k,k≠R->w'.heap[k]?=w1.heap[k]?)(h1:w'.os=w1.os)(h2:w'.tape=w1.tape)(h3:w'.output=w1.output):Kept R row w w':=by
 have hz:=hg.size;simp at hz;refine⟨h1.trans hg.os,h2.trans hg.tape,h3.trans hg.output,by omega,?_⟩;intro k hl hR hr;rw[hk k hR,hg.block k (by simp;omega) hr];exact ap w.drew o k hl
theorem Kept.frame(h:Kept R p.told.ownBlock w w')(ho:Own F R w p st)(hR:F R):Frame F w w':=
 ⟨h.os,h.tape,h.output,h.size,fun k hl hf=>h.block k hl (fun e=>hf (e▸hR)) (fun e=>hf (ho.iD k e.symm).1)⟩
theorem RT(w1:World)(i j k:Nat)(a b c:Value):(∀x,x≠R->(((w1.setCell ⟨R,i,none⟩ a).setCell ⟨R,j,none⟩ b).setCell ⟨R,k,none⟩ c).heap[x]?=w1.heap[x]?)/\(((w1.setCell ⟨R,i,none⟩ a).setCell ⟨R,j,none⟩ b).setCell ⟨R,k,none⟩ c).heap.size=w1.heap.size:=by
 constructor
 ·intro x hx;rw[af _ _ _ _ hx,af _ _ _ _ hx,af _ _ _ _ hx]
 ·simp[World.setCell]
theorem DV(h:Own F R w p st)(hR:R<w.heap.size){v:Value}(hat:v.ownBlock=p.told.ownBlock\/v.ownBlock=some (w.heap.size+1)):∀k,v.ownBlock=some k->k≠R:=by
 intro k e;rcases hat with e2|e2
 ·rw[e2]at e;exact(h.iD k e).2
 ·rw[e2]at e;cases e;omega
theorem DW{v:Value}(hat:v.ownBlock=p.told.ownBlock\/v.ownBlock=some (w.heap.size+1)):v.ownBlock=p.told.ownBlock\/∀k,v.ownBlock=some k->w.heap.size<=k:=by
 rcases hat with e2|e2
 ·exact Or.inl e2
 ·exact Or.inr fun k e=>by rw[e2]at e;cases e;omega
theorem i_(h:∀k,F k->k<w.heap.size)(hs:w.heap.size<=w'.heap.size):∀k,Grow F w w' k->k<w'.heap.size:=fun k hk=>hk.elim (fun x=>ak (h k x) hs) (fun x=>x.2)
theorem qg(h:gb F R w s p st)(hs:st.told.length<=1099511627790):
  Z4 84 #[Z8 R] w fun e w'=>e=.returned (.tuple #[])/\∃p',gb (Grow F w w') R w' s p' st.eK/\Frame F w w'/\p'.run .name=p.run .name/\p'.b_=p.b_:=by
 have hlen:=h.own.run .text;obtain⟨ao,cap,hv⟩:=eE hlen;by_cases hn:(st.run .text).length=0
 ·have hst:st.eK=st:=by simp[St.eK,hn]
  rw[hst];have c6:w.cell? ⟨R,6,none⟩=some (p.run .text):=h.cell 6 rfl;rw[hv,hn]at c6;have H:=a_ h;clear h hlen hst hn hv hs;go_enter func84,ntmps84;go_wp2
  (try simp only[Exit.inBlock,Exit.then])
  refine aV (aK rfl _ _ _) rfl ?_;exact⟨rfl,p,H.out.RM,Frame.refl _ _,rfl,rfl⟩
 ·have hst:st.eK=St.clear {st with told:=st.told++[⟨3,[],[],st.run .text,st.fD .text⟩]} .text:=by simp[St.eK,hn]
  rw[hst];obtain⟨cs,hc,hT⟩:=h.own.told;have hR:=h.lt R h.j5;refine(Bc R (cellsOf s p st) ao (st.run .text).length cap (st.fD .text) p.told st.told.length cs (st.run .text) w h.blk rfl (by rw[<-hv];rfl) rfl (by omega) (by rw[<-hv];exact hlen) hc hs (fun e=>(h.own.iD R e).2 rfl) (by rw[<-hv];exact fun e=>(h.own.jJ .text R e).2 rfl)).mono ?_;rintro e w' ⟨rfl,v',w1,o,hg,ho,hat,rfl⟩;obtain⟨hk,hsz⟩:=RT (R:=R) w1 5 6 7 v' (.slice none 0 0) (.int .i64 0);have hb1:=gm h.blk (fun e=>(h.own.iD R e).2 rfl) hg;have hb:=eV (i:=7) (eV (i:=6) (eV (i:=5) hb1 v') (.slice none 0 0)) (.int .i64 0);have hK:Kept R p.told.ownBlock w _:=yA (R:=R) hg hsz hk rfl rfl rfl;have hne:∀k,v'.ownBlock=some k->k≠R:=DV h.own hR hat;generalize ((w1.setCell ⟨R,5,none⟩ v').setCell ⟨R,6,none⟩ (.slice none 0 0)).setCell ⟨R,7,none⟩ (.int .i64 0)=w' at*
  have o1:=h.own.tell h.lt h.j5 hc hT hK v' ⟨3,[],[],st.run .text,st.fD .text⟩ rfl (eI ho fun k e=>hk k (hne k e)) (DW hat);have tq:∀k,Grow F w w' k->k<w'.heap.size:=i_ h.lt hK.size;refine⟨rfl,_,⟨?_,Or.inl h.j5,tq,o1.clear tq (Or.inl h.j5) .text⟩,hK.frame h.own h.j5,rfl,rfl⟩;rw[hb];rfl
end
end K
end Go.Proofs.YtjecakcpcnmieaaGreatDoor
