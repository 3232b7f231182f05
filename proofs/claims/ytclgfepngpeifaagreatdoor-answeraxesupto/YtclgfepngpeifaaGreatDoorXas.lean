import Derived.Test.YtclgfepngpeifaaGreatDoorXA
import Derived.Deep.MidRow
import Derived.Laws.StructEq
import Derived.BigQuiet
import Derived.Test.YtclgfepngpeifaaGreatDoorXaq
import Derived.Test.YtclgfepngpeifaaGreatDoorXar
import Derived.Test.YtclgfepngpeifaaGreatDoorXap
set_option linter.unusedVariables false
set_option linter.unusedSimpArgs false
set_option maxHeartbeats 32000000
set_option maxRecDepth 100000
namespace Go.Proofs.YtclgfepngpeifaaGreatDoor
namespace K
open Go.RowKit Go.Maps Go.Lib Tryz
section
variable{F F' G:Nat->Prop}{R:Nat}{w w' w'' wr:World}{s s':Src}{p:Ptr}{st:St}{c:Int}{a:Addr}{pt:Part}{v:Value}{m:Rd}{N n:Nat}
abbrev fh:Value:=.slice none 0 0
def Told(G:Nat->Prop)(R:Nat)(w:World)(av:Value)(k:Nat):Prop:=G k/\k≠R/\((∃cur,w.heap[k]?=some (.cells cur 56 (0,0)))\/((∃cur,w.heap[k]?=some (.cells cur 42 (0,0)))/\av.ownBlock≠some k))
def Rest(G:Nat->Prop)(R:Nat)(w:World)(av:Value)(k:Nat):Prop:=G k/\¬Told G R w av k
def BM(A:Nat->Prop)(w:World)(v:Value)(l:List eX):Prop:=∃cs,w.ownsRow 0 56 5 v l.length cs/\k_ A 0 w fh l cs/\∀k,v.ownBlock=some k->A k
theorem zn{k:Nat}{t:TypeId}{cur:Array Value}{av:Value}(h:w.heap[k]?=some (.cells cur t (0,0)))(h1:t≠56)(h2:t=42->av.ownBlock=some k):¬Told G R w av k:=by
 rintro⟨_,_,⟨c,hc⟩|⟨⟨c,hc⟩,hn⟩⟩
 ·rw[h]at hc;simp only[bK,cU]at hc;exact h1 hc.2.1
 ·rw[h]at hc;simp only[bK,cU]at hc;exact hn (h2 hc.2.1)
theorem k_.free{l:List eX}{cs:List Value}{av:Value}(h:k_ G R w av l cs)(lo:Low G)(hk:∀k,k≠R->w'.heap[k]?=w.heap[k]?):k_ (Told G R w av) 0 w' fh l cs:=by
 induction h with
 |nil=>exact .nil
 |cons t v l cs ho hf hl ih=>
  refine .cons t v l cs (dW ho fun k hv=>hk k (hf k hv).2.1) (fun k hv=>?_) ih;obtain⟨cur,hc⟩:=fq ho hv;refine⟨⟨(hf k hv).1,(hf k hv).2.1,Or.inr ⟨⟨cur,hc⟩,(hf k hv).2.2⟩⟩,?_,ig k⟩;intro e;exact lo k (by omega) (hf k hv).1
theorem fB.release(h:fB G R w s p st)(lo:Low G):
  fB (Rest G R w p.attrs) R (w.setCell ⟨R,5,none⟩ fh) s {p with told:=fh} {st with told:=[]}/\BM (Told G R w p.attrs) (w.setCell ⟨R,5,none⟩ fh) p.told st.told:=by
 have hk:∀k,k≠R->(w.setCell ⟨R,5,none⟩ fh).heap[k]?=w.heap[k]?:=fun k hk=>ak _ _ _ _ hk;have hsz:(w.setCell ⟨R,5,none⟩ fh).heap.size=w.heap.size:=by simp[World.setCell]
 have hb:=eh (i:=5) h.blk fh;obtain⟨cs,h1,h2⟩:=h.own.told;refine⟨⟨?_,⟨h.jt,fun x=>x.2.1 rfl⟩,fun k x=>by rw[hsz];exact h.lt k x.1,?_⟩,cs,dW h1 fun k e=>hk k (h.own.gK k e).2,h2.free lo hk,fun k e=>?_⟩
 ·rw[hb];rfl
 ·refine⟨fun i=>dW (h.own.run i) fun k e=>hk k (h.own.jg i k e).2,fun i k e=>?_,h.own.apart,⟨[],kT _ _ _,.nil⟩,fun k e=>absurd e (ig k),dW h.own.attrs fun k e=>hk k (h.own.ew k e).2,fun k e=>?_,?_⟩
  ·obtain⟨cur,hc⟩:=fq (h.own.run i) e;exact⟨⟨(h.own.jg i k e).1,zn hc (by decide) (fun e=>absurd e (by decide))⟩,(h.own.jg i k e).2⟩
  ·obtain⟨cur,hc⟩:=fq h.own.attrs e;exact⟨⟨(h.own.ew k e).1,zn hc (by decide) (fun _=>e)⟩,(h.own.ew k e).2⟩
  ·rcases h.own.names with hn|⟨b,x1,x2,x3,x4⟩
   ·exact Or.inl hn
   ·refine Or.inr ⟨b,x1,⟨x2,?_⟩,x3,yG x4 (hk b x3)⟩;obtain⟨es,cl,hm,_⟩:=x4;rintro⟨_,_,⟨c,hc⟩|⟨⟨c,hc⟩,_⟩⟩
    ·rw[hm]at hc;cases hc
    ·rw[hm]at hc;cases hc
 ·obtain⟨cur,hc⟩:=fq h1 e;exact⟨(h.own.gK k e).1,(h.own.gK k e).2,Or.inl ⟨cur,hc⟩⟩
theorem fU.release(h:fU G R w v pt){av:Value}(hk:∀k,k≠R->w'.heap[k]?=w.heap[k]?):fU (Rest G R w av) R w' v pt:=by
 have bx:∀{b x t},pL G R w b x t->t≠56->t≠42->pL (Rest G R w av) R w' b x t:=fun h h1 h2=>⟨(hk _ h.2.2).trans h.1,⟨h.2.1,zn h.1 h1 (fun e=>absurd e h2)⟩,h.2.2⟩
 cases pt with
 |plain k=>exact h
 |word l k=>obtain⟨b1,b2,e,x1,x2⟩:=h;exact⟨b1,b2,e,bx x1 (by decide) (by decide),bx x2 (by decide) (by decide)⟩
 |name i k=>obtain⟨b1,b2,b3,e,x1,x2,x3⟩:=h;exact⟨b1,b2,b3,e,bx x1 (by decide) (by decide),bx x2 (by decide) (by decide),bx x3 (by decide) (by decide)⟩
 |ref i k=>obtain⟨b1,b2,b3,e,x1,x2,x3⟩:=h;exact⟨b1,b2,b3,e,bx x1 (by decide) (by decide),bx x2 (by decide) (by decide),bx x3 (by decide) (by decide)⟩
def Src.zero(no xq:Int)(closed:Bool):Src:=⟨⟨#[]⟩,0,0,false,.nilFunc,no,xq,closed⟩
def Ptr.zero:Ptr:=⟨fh,fun _=>fh,fh,.map none⟩
def St.zero:St:=⟨fun _=>[],fun _=>0,0,[],[],0,[]⟩
theorem Own.zero(F:Nat->Prop)(R:Nat)(w:World):Own F R w Ptr.zero St.zero:=
 ⟨fun _=>kT w 5 1,fun _ k e=>absurd e (ig k),fun _ _ k _ e=>absurd e (ig k),⟨[],kT w 56 5,.nil⟩,fun k e=>absurd e (ig k),kT w 42 2,fun k e=>absurd e (ig k),Or.inl ⟨rfl,rfl⟩⟩
structure PR where
 s:Src
 pt:Option Part
 st:St
def nL(F:Nat->Prop)(R:Nat)(w:World)(r:PR):Prop:=
 ∃v p,fB F R w {r.s with now:=v} p r.st/\match r.pt with|some pt=>fU F R w v pt|none=>v=.nilFunc
def tells(m:Rd):PR×List eX:=
 match m.ret with
 | .more=>(⟨m.s,some m.pt,{m.st with told:=[]}⟩,m.st.told)
 | .over=>(⟨m.s,none,{m.st with told:=[]}⟩,m.st.told)
 | .fail no q=>(⟨Src.zero no q m.s.closed,none,St.zero⟩,m.st.told)
def iM(F:Nat->Prop)(R:Nat)(w:World)(x:PR×List eX)(e:Ending)(w':World):Prop:=
 ∃(v:Value) (A F':Nat->Prop),e=.returned v/\BM A w' v x.2/\nL F' R w' x.1/\Frame F w w'/\(∀k,A k->Grow F w w' k/\¬F' k)/\(∀k,F' k->Grow F w w' k)
theorem BM.frame{A:Nat->Prop}{l:List eX}(h:BM A w v l)(hk:∀k,A k->w'.heap[k]?=w.heap[k]?):BM A w' v l:=by
 obtain⟨cs,h1,h2,h3⟩:=h;exact⟨cs,dW h1 fun k e=>hk k (h3 k e),h2.frame fun k n xs v ho hv a b c=>⟨hk k a,a,c⟩,h3⟩
theorem Dr{w1 w4:World}{s1:Src}{p1 p':Ptr}{fg:St}{x:PR}{v':Value}(s5:RG F R w s1 p1 fg w1)(lo:Low (Grow F w w1))
  (r4:RG (Rest (Grow F w w1) R w1 p1.attrs) R (w1.setCell ⟨R,5,none⟩ fh) {x.s with now:=v'} p' x.st w4)
  (hx:match x.pt with|some pt=>fU (Grow (Rest (Grow F w w1) R w1 p1.attrs) (w1.setCell ⟨R,5,none⟩ fh) w4) R w4 v' pt|none=>v'=.nilFunc):
  iM F R w (x,fg.told) (.returned p1.told) w4:=by
 have hk:∀k,k≠R->(w1.setCell ⟨R,5,none⟩ fh).heap[k]?=w1.heap[k]?:=fun k hk=>ak _ _ _ _ hk;have hsz:(w1.setCell ⟨R,5,none⟩ fh).heap.size=w1.heap.size:=by simp[World.setCell]
 have hz:=s5.2.size;have hz4:=r4.2.size;obtain⟨rr,an⟩:=s5.1.release lo;refine⟨p1.told,Told (Grow F w w1) R w1 p1.attrs,Grow (Rest (Grow F w w1) R w1 p1.attrs) (w1.setCell ⟨R,5,none⟩ fh) w4,rfl,?_,⟨v',p',r4.1,hx⟩,?_,?_,?_⟩
 ·refine an.frame fun k hA=>r4.2.block k (by rw[hsz];exact s5.1.lt k hA.1) (fun x=>x.2 hA)
 ·refine⟨r4.2.os.trans s5.2.os,r4.2.tape.trans s5.2.tape,r4.2.output.trans s5.2.output,by omega,fun k hl hf=>?_⟩;have hkR:k≠R:=fun e=>by
   subst e;rcases s5.1.jt with x|x
   ·exact hf x
   ·omega
  rw[r4.2.block k (by omega) (fun x=>x.1.elim hf (fun y=>by omega)),hk k hkR];exact s5.2.block k hl hf
 ·intro k hA;refine⟨hA.1.elim Or.inl (fun y=>Or.inr ⟨y.1,by omega⟩),?_⟩;rintro(y|y)
  ·exact y.2 hA
  ·have:=s5.1.lt k hA.1;omega
 ·rintro k (y|y)
  ·exact y.1.elim Or.inl (fun z=>Or.inr ⟨z.1,by omega⟩)
  ·exact Or.inr ⟨by omega,y.2⟩
theorem FL(h:fB F R w s p st)(hz:s.rest.size<=1099511627776):Z4 67 #[Z8 R] w fun e w'=>e=.returned (.tuple #[])/\RF F R w s p st w':=by
 have c0:w.cell? ⟨R,0,none⟩=some (.string s.rest):=h.cell 0 rfl;have hc:=Mj s.rest w (by omega);have H:=a_ (RF.refl h);clear h;go_enter func67,ntmps67;go_wp2_with(go_at_call 119;refine hc.mono ?_;rintro e w1 ⟨rfl,b1⟩;have R1:=a_ (H.out.below b1);have d0:w1.cell? ⟨R,0,none⟩=some (.string s.rest):=R1.out.1.cell 0 rfl;have g0:=R1.out.1.free 0)
 go_end0
 exact⟨rfl,R1.out.set 0 _ rfl⟩
end
section
variable{F F' G:Nat->Prop}{R:Nat}{w w' w'' wr:World}{s s':Src}{p:Ptr}{st:St}{c:Int}{a:Addr}{pt:Part}{v:Value}{m:Rd}{N n:Nat}
theorem mid{w1:World}{s1:Src}{p1:Ptr}{fg:St}(s5:RG F R w s1 p1 fg w1)(gl:Gl w a)(lo:Low F)(o:Obj):
  RF (Rest (Grow F w w1) R w1 p1.attrs) R (w1.setCell ⟨R,5,none⟩ fh) s1 {p1 with told:=fh} {fg with told:=[]} ((w1.setCell ⟨R,5,none⟩ fh).alloc o)/\
  Gl ((w1.setCell ⟨R,5,none⟩ fh).alloc o) a/\Low (Grow F w w1):=by
 have Tm:Low (Grow F w w1):=lo.grow gl.size;have Mi:=gl.frame s5.2 lo;have hb:Below (w1.setCell ⟨R,5,none⟩ fh).heap.size (w1.setCell ⟨R,5,none⟩ fh) ((w1.setCell ⟨R,5,none⟩ fh).alloc o):=(Below.refl _ _).alloc (au _) _;have r3:=(RF.refl (s5.1.release Tm).1).below hb;refine⟨r3,?_,Tm⟩;have f1:Frame (Grow F w w1) w1 (w1.setCell ⟨R,5,none⟩ fh):=⟨rfl,rfl,rfl,by simp[World.setCell],fun k hk hf=>ak _ _ _ _ (fun e=>hf (e▸s5.1.jt))⟩
 have gl2:=Mi.frame f1 Tm;have lo2:Low (Rest (Grow F w w1) R w1 p1.attrs):=fun k hk x=>Tm k hk x.1;exact gl2.frame r3.2.1 lo2
theorem Ds(NJ:Z4 65 #[Z8 R] w (o9 F R w a m))(gl:Gl w a)(lo:Low F)(mq:m.ret=.more)(hz:m.s.rest.size<=1099511627776):
  Z4 36 #[Z8 R] w (iM F R w (tells m)):=by
 have ht:tells m=(⟨m.s,some m.pt,{m.st with told:=[]}⟩,m.st.told):=by unfold tells;rw[mq]
 rw[ht];have PU:Z4 65 #[Z8 R] w fun e w1=>e=.returned (.iface 289 (.pointer (some a)))/\∃v p',RG F R w {m.s with now:=v} p' m.st w1/\fU (Grow F w w1) R w1 v m.pt:=by
  refine NJ.mono ?_;rintro e w1 ⟨v,p',rg,hx⟩;rw[mq]at hx;exact⟨hx.1,v,p',rg,hx.2⟩
 have GL:=a_ gl;have LO:=a_ lo;clear NJ ht mq gl lo;have UU:=Tq a;go_enter func36,ntmps36;go_wp2_with(first|(go_at_call 65;refine PU.mono ?_;rintro e w1 ⟨rfl,v1,p1,s5,pa1⟩;obtain⟨r3,g3,l1⟩:=mid s5 GL.out LO.out (.cells #[.int .i64 0,.int .i64 0] 108);have m0:((w1.setCell ⟨R,5,none⟩ (.slice none 0 0)).alloc (.cells #[.int .i64 0,.int .i64 0] 108)).cell? ⟨0,0,none⟩=some (.iface 289 (.pointer (some a))):=g3.more;have hke:=FL r3.1 hz;have R3:=a_ r3;have L1:=a_ l1;have XQ:=a_ s5;have PA1:=a_ pa1;have c5:w1.cell? ⟨R,5,none⟩=some p1.told:=s5.1.cell 5 rfl;have f5:=s5.1.free 5;clear s5 pa1 r3 g3 l1)|(go_at_call 66;refine(UU _).mono ?_;rintro e wx ⟨rfl,rfl⟩)|(go_at_call 67;refine hke.mono ?_;rintro e w4 ⟨rfl,r4⟩));go_ret;have hsz:(w1.setCell ⟨R,5,none⟩ fh).heap.size=w1.heap.size:=by simp[World.setCell]
 refine Dr (x:=⟨m.s,some m.pt,{m.st with told:=[]}⟩) XQ.out L1.out (R3.out.rg.on r4.rg) ?_;refine(PA1.out.release (w':=w1.setCell ⟨R,5,none⟩ fh) (fun k hk=>ak _ _ _ _ hk)).keep (fun k hk hR=>?_) (fun _ x=>Or.inl x);have hl:k<(w1.setCell ⟨R,5,none⟩ fh).heap.size:=by rw[hsz];exact XQ.out.1.lt k hk.1
 exact(r4.2.2 k (aq hl R3.out.2.1.size) hR).trans (R3.out.2.2 k hl hR)
theorem Dt(NJ:Z4 65 #[Z8 R] w (o9 F R w a m))(gl:Gl w a)(lo:Low F)(mq:m.ret=.over):
  Z4 36 #[Z8 R] w (iM F R w (tells m)):=by
 have ht:tells m=(⟨m.s,none,{m.st with told:=[]}⟩,m.st.told):=by unfold tells;rw[mq]
 rw[ht];have PU:Z4 65 #[Z8 R] w fun e w1=>e=.returned .nilIface/\∃p',RG F R w {m.s with now:=.nilFunc} p' m.st w1:=by
  refine NJ.mono ?_;rintro e w1 ⟨v,p',rg,hx⟩;rw[mq]at hx;obtain⟨rfl,rfl⟩:=hx;exact⟨rfl,p',rg⟩
 have GL:=a_ gl;have LO:=a_ lo;clear NJ ht mq gl lo;have UU:=Wn a;have has:=Wo;go_enter func36,ntmps36;go_wp2_with(first|(go_at_call 65;refine PU.mono ?_;rintro e w1 ⟨rfl,p1,s5⟩;obtain⟨r3,g3,l1⟩:=mid s5 GL.out LO.out (.cells #[.int .i64 0,.int .i64 0] 108);have m0:((w1.setCell ⟨R,5,none⟩ (.slice none 0 0)).alloc (.cells #[.int .i64 0,.int .i64 0] 108)).cell? ⟨0,0,none⟩=some (.iface 289 (.pointer (some a))):=g3.more;have R3:=a_ r3;have L1:=a_ l1;have XQ:=a_ s5;have c5:w1.cell? ⟨R,5,none⟩=some p1.told:=s5.1.cell 5 rfl;have f5:=s5.1.free 5;clear s5 r3 g3 l1)|(go_at_call 66;refine(UU _).mono ?_;rintro e wx ⟨rfl,rfl⟩)|(go_at_call 68;refine(has _ _).mono ?_;rintro e wx ⟨rfl,rfl⟩));go_ret;exact Dr (x:=⟨m.s,none,{m.st with told:=[]}⟩) XQ.out L1.out R3.out.rg rfl
def IP(cur:Array Value):Nat->List Value->Array Value
 |_,[]=>cur
 |o,v::r=>IP (cur.setIfInBounds o v) (o+1) r
theorem o_{t:TypeId}:∀(vs:List Value) (o:Nat) (cur:Array Value) (w:World),w.heap[R]?=some (.cells cur t (0,0))->(w.setCells R o vs).heap[R]?=some (.cells (IP cur o vs) t (0,0))
 |[],_,_,_,h=>h
 |v::r,o,_,_,h=>o_ r (o+1) _ _ (eh h v)
theorem fk:∀(vs:List Value) (o:Nat) (w:World),(∀k,k≠R->(w.setCells R o vs).heap[k]?=w.heap[k]?)/\(w.setCells R o vs).heap.size=w.heap.size/\(w.setCells R o vs).os=w.os/\(w.setCells R o vs).tape=w.tape/\(w.setCells R o vs).output=w.output
 |[],_,_=>⟨fun _ _=>rfl,rfl,rfl,rfl,rfl⟩
 |v::r,o,w=>by
  obtain⟨h1,h2,h3,h4,h5⟩:=fk r (o+1) (w.setCell ⟨R,o,none⟩ v);refine⟨fun k hk=>(h1 k hk).trans (ak _ _ _ _ hk),h2.trans (by simp[World.setCell]),h3,h4,h5⟩
def iR:Array Value:=#[.string ⟨#[]⟩,.int .i64 0,.int .i64 0,.bool false,.nilFunc,fh,fh,.int .i64 0,.int .i64 0,fh,.int .i64 0,fh,.map none,fh,.int .i64 0,fh,.int .i64 0,.int .i32 0,fh,.int .i64 0]
theorem PW:iR.all (·.oneCell')=true:=by kernel_rfl
theorem Ki:(prog.info? 106).map (·.size)=some iR.size:=by kernel_rfl
theorem zo(s:Src)(p:Ptr)(st:St):IP (cellsOf s p st) 0 iR.toList=cellsOf (Src.zero s.no s.xq s.closed) Ptr.zero St.zero:=by kernel_rfl
theorem BN{t:TypeId}{cur:Array Value}(h:w.heap[R]?=some (.cells cur t (0,0)))(hs:20<=cur.size):w.there R 0 iR.size:=by
 intro j hj;have Vr:j<20:=hj;rw[aG];exact⟨by rw[cell_of h (Array.getElem?_eq_getElem (by omega))];rfl,dY h⟩
theorem RG.zero(h:RG F R w s p st w'):RG F R w (Src.zero s.no s.xq s.closed) Ptr.zero St.zero (w'.setCells R 0 iR.toList):=by
 obtain⟨h1,h2,h3,h4,h5⟩:=fk (R:=R) iR.toList 0 w';have hb:=o_ (R:=R) iR.toList 0 _ w' h.1.blk;rw[zo]at hb;generalize w'.setCells R 0 iR.toList=W at*
 refine⟨⟨hb,?_,fun k hk=>?_,Own.zero _ _ _⟩,⟨h3.trans h.2.os,h4.trans h.2.tape,h5.trans h.2.output,by rw[h2];exact h.2.size,fun k hk hf=>?_⟩⟩
 ·have:=h.1.jt;unfold Grow at this ⊢;rw[h2];exact this
 ·unfold Grow at hk;rw[h2]at hk ⊢;exact h.1.lt k hk
 ·refine(h1 k ?_).trans (h.2.block k hk hf);intro e;subst e;rcases h.1.jt with x|x
  ·exact hf x
  ·omega
theorem Wu(w2:World)(no q:Int)(hg:(w2.alloc (.cells #[.int .i64 0,.int .i64 0] 108)).cell? ⟨1,0,none⟩=some (.iface 235 (.agg #[.pointer (some ⟨6,131,none⟩)]))):
  Z4 68 #[.iface 108 (.agg #[.int .i64 no,.int .i64 q]),.iface 161 (.pointer (some ⟨w2.heap.size,0,none⟩))] (w2.alloc (.cells #[.int .i64 0,.int .i64 0] 108)) fun ev w5=>ev=.returned (.bool true)/\Below w2.heap.size w2 w5/\w5.cell? ⟨w2.heap.size,0,none⟩=some (.int .i64 no)/\w5.cell? ⟨w2.heap.size,1,none⟩=some (.int .i64 q):=by
 have hh:(w2.alloc (.cells #[.int .i64 0,.int .i64 0] 108)).heap[w2.heap.size]?=some (.cells #[.int .i64 0,.int .i64 0] 108 (0,0)):=dR _ _;refine(Wt w2.heap.size no q (.int .i64 0) (.int .i64 0) _ hg (cell_of hh rfl) (cell_of hh rfl) (dY hh) (dY hh)).mono ?_;rintro ev w5 ⟨rfl,rfl⟩;have hb:Below w2.heap.size w2 ((((((w2.alloc (.cells #[.int .i64 0,.int .i64 0] 108)).alloc (.cells #[.pointer (some ⟨w2.heap.size,0,none⟩)] 161)).alloc (.cells (UT (w2.alloc (.cells #[.int .i64 0,.int .i64 0] 108)).heap.size) 204)).alloc (.cells (UT (w2.alloc (.cells #[.int .i64 0,.int .i64 0] 108)).heap.size) 204)).alloc (.cells #[.int .i64 no,.int .i64 q] 108))):=
  (((((Below.refl _ _).alloc (au _) _).alloc (by simp) _).alloc (by simp;omega) _).alloc (by simp;omega) _).alloc (by simp;omega) _
 have hx:(((((w2.alloc (.cells #[.int .i64 0,.int .i64 0] 108)).alloc (.cells #[.pointer (some ⟨w2.heap.size,0,none⟩)] 161)).alloc (.cells (UT (w2.alloc (.cells #[.int .i64 0,.int .i64 0] 108)).heap.size) 204)).alloc (.cells (UT (w2.alloc (.cells #[.int .i64 0,.int .i64 0] 108)).heap.size) 204)).alloc (.cells #[.int .i64 no,.int .i64 q] 108)).heap[w2.heap.size]?=some (.cells #[.int .i64 0,.int .i64 0] 108 (0,0)):=by
  rw[ay _ _ _ (by simp;omega),ay _ _ _ (by simp;omega),ay _ _ _ (by simp;omega),ay _ _ _ (by simp)];exact hh
 generalize (((((w2.alloc (.cells #[.int .i64 0,.int .i64 0] 108)).alloc (.cells #[.pointer (some ⟨w2.heap.size,0,none⟩)] 161)).alloc (.cells (UT (w2.alloc (.cells #[.int .i64 0,.int .i64 0] 108)).heap.size) 204)).alloc (.cells (UT (w2.alloc (.cells #[.int .i64 0,.int .i64 0] 108)).heap.size) 204)).alloc (.cells #[.int .i64 no,.int .i64 q] 108))=W at*
 have h1:=eh (i:=0) hx (.int .i64 no);have h2:=eh (i:=1) h1 (.int .i64 q);refine⟨rfl,⟨hb.os,hb.tape,hb.output,?_,fun k hk=>?_⟩,cell_of h2 rfl,cell_of h2 rfl⟩
 ·have:=hb.size;simp[World.setCell];exact this
 ·rw[ak _ _ _ _ (Nat.ne_of_lt hk),ak _ _ _ _ (Nat.ne_of_lt hk)];exact hb.block k hk
theorem Du{no q:Int}(NJ:Z4 65 #[Z8 R] w (o9 F R w a m))(gl:Gl w a)(lo:Low F)(mq:m.ret=.fail no q):
  Z4 36 #[Z8 R] w (iM F R w (tells m)):=by
 have ht:tells m=(⟨Src.zero no q m.s.closed,none,St.zero⟩,m.st.told):=by unfold tells;rw[mq]
 rw[ht];have PU:Z4 65 #[Z8 R] w fun e w1=>e=.returned (.iface 108 (.agg #[.int .i64 no,.int .i64 q]))/\∃p',RG F R w {m.s with now:=.nilFunc} p' m.st w1:=by
  refine NJ.mono ?_;rintro e w1 ⟨v,p',rg,hx⟩;rw[mq]at hx;obtain⟨rfl,rfl⟩:=hx;exact⟨rfl,p',rg⟩
 have GL:=a_ gl;have LO:=a_ lo;clear NJ ht mq gl lo;have UU:=PN no q a;go_enter func36,ntmps36;go_wp2_with(first|(go_at_call 65;refine PU.mono ?_;rintro e w1 ⟨rfl,p1,s5⟩;obtain⟨r3,g3,l1⟩:=mid s5 GL.out LO.out (.cells #[.int .i64 0,.int .i64 0] 108);have m0:((w1.setCell ⟨R,5,none⟩ (.slice none 0 0)).alloc (.cells #[.int .i64 0,.int .i64 0] 108)).cell? ⟨0,0,none⟩=some (.iface 289 (.pointer (some a))):=g3.more;have has:=Wu (w1.setCell ⟨R,5,none⟩ (.slice none 0 0)) no q g3.et;have RR:=a_ (RF.refl (s5.1.release l1).1);have L1:=a_ l1;have XQ:=a_ s5;have c5:w1.cell? ⟨R,5,none⟩=some p1.told:=s5.1.cell 5 rfl;have f5:=s5.1.free 5;clear s5 r3 g3 l1)|(go_at_call 66;refine(UU _).mono ?_;rintro e wx ⟨rfl,rfl⟩));have hsz:(w1.setCell ⟨R,5,none⟩ (.slice none 0 0)).heap.size=w1.heap.size:=by simp[World.setCell]
 rw[hsz]at has;refine has.mono ?_;rintro e w5 ⟨rfl,b5,t0,t1⟩;have R5:=a_ (RR.out.below (by show Below _ _ _;rw[hsz];exact b5));have c20:w5.cell? ⟨R,20,none⟩=some (.int .i64 m.s.no):=R5.out.1.cell 20 rfl;have c21:w5.cell? ⟨R,21,none⟩=some (.int .i64 m.s.xq):=R5.out.1.cell 21 rfl;have f20:=R5.out.1.free 20;have f21:=R5.out.1.free 21;have R6:=a_ ((R5.out.rg.set (s':={m.s with now:=.nilFunc,no:=no}) 20 (.int .i64 no) rfl).set (s':={m.s with now:=.nilFunc,no:=no,xq:=q}) 21 (.int .i64 q) rfl);have RJ:((w5.setCell ⟨R,20,none⟩ (.int .i64 no)).setCell ⟨R,21,none⟩ (.int .i64 q)).there R 0 iR.size:=BN R6.out.1.blk (by show 20<=23;omega);clear has c5 f5 m0 b5;go_wp2_with(refine wpList_store_mid rfl 106 (.tmp 39) (.tmp 37) rfl R 0 iR rfl rfl RJ Ki PW ?_);go_ret;exact Dr (x:=⟨Src.zero no q m.s.closed,none,St.zero⟩) (v':=.nilFunc) XQ.out L1.out R6.out.zero rfl
end
section
variable{F F' G:Nat->Prop}{R:Nat}{w w' w'' wr w1:World}{s s':Src}{p:Ptr}{st:St}{c:Int}{a:Addr}{pt:Part}{v:Value}{m:Rd}{N n:Nat}
theorem IQ(s:Src):s.took.1.rest.size<=s.rest.size:=by
 unfold Src.took;split
 ·exact au _
 ·split
  ·simp only[bY];omega
  ·exact au _
theorem Mn:∀(n:Nat) (s:Src) (pt:Part) (st:St),(lz n s pt st).s.rest.size<=s.rest.size:=by
 intro n;induction n with
 |zero=>intro s pt st;exact au _
 |succ n ih=>
  intro s pt st;have h1:=IQ s;simp only[lz];split
  ·exact au _
  ·split
   ·have:=ih s.took.1;exact aw (this _ _) h1
   ·exact h1
   ·exact h1
theorem zq(h:fB F R w s p st)(Fp:fU F R w s.now pt)(hl:sZ n pt st)(gl:Gl w a)(lo:Low F)(hn:n+s.rest.size<=274877906944)(iH:s.Ok):
  Z4 36 #[Z8 R] w (iM F R w (tells (reads s.bare pt st))):=by
 have NJ:=Tp h Fp hl gl lo hn (au _) iH;cases hr:(reads s.bare pt st).ret with
 |more=>exact Ds NJ gl lo hr (by have:=Mn (s.bare.rest.size+1) s.bare pt st;unfold reads;have e:s.bare.rest.size=s.rest.size:=rfl;omega)
 |over=>exact Dt NJ gl lo hr
 |fail no q=>exact Du NJ gl lo hr
theorem iM.after{x:PR×List eX}{e:Ending}(fr:Frame F w w1)(hF:∀k,G k->Grow F w w1 k)(h:iM G R w1 x e w'):iM F R w x e w':=by
 obtain⟨v,A,F',he,an,al,f2,h1,h2⟩:=h;have hs:=fr.size;have hs2:=f2.size;have up:∀k,Grow G w1 w' k->Grow F w w' k:=by
  rintro k (x|x)
  ·exact(hF k x).elim Or.inl (fun y=>Or.inr ⟨y.1,by omega⟩)
  ·exact Or.inr ⟨by omega,x.2⟩
 refine⟨v,A,F',he,an,al,⟨f2.os.trans fr.os,f2.tape.trans fr.tape,f2.output.trans fr.output,by omega,fun k hk hf=>?_⟩,fun k hk=>⟨up k (h1 k hk).1,(h1 k hk).2⟩,fun k hk=>up k (h2 k hk)⟩;rw[f2.block k (by omega) (fun x=>(hF k x).elim hf (fun y=>by omega))];exact fr.block k hk hf
theorem Wv(h:fB F R w s p st)(b:ByteArray)(hz:s.rest.size+b.size<=1099511627776):Z4 35 #[Z8 R,.string b] w fun e w'=>e=.returned (.tuple #[])/\RF F R w {s with rest:=s.rest++b} p st w':=by
 have c0:w.cell? ⟨R,0,none⟩=some (.string s.rest):=h.cell 0 rfl;have f0:=h.free 0;have hz2:s.rest.size+b.size<=9223372036854775807:=by omega
 have H:=a_ (RF.refl h);have yM:=fun w=>dn (P:=prog) w s.rest b hz2;clear h;go_enter func35,ntmps35;go_wp2
 go_end0
 exact⟨rfl,H.out.set 0 _ rfl⟩
theorem Ww(h:fB F R w s p st):Z4 37 #[Z8 R] w fun e w'=>e=.returned (.tuple #[])/\RF F R w {s with ended:=true} p st w':=by
 have c3:w.cell? ⟨R,3,none⟩=some (.bool s.ended):=h.cell 3 rfl;have f3:=h.free 3;have H:=a_ (RF.refl h);clear h;go_enter func37,ntmps37;go_wp2
 go_end0
 exact⟨rfl,H.out.set 3 _ rfl⟩
theorem RF.part{s1:Src}{p1:Ptr}{fg:St}(h:RF F R w s1 p1 fg w')(hlt:∀k,F k->k<w.heap.size)(Fp:fU F R w v pt):fU (Grow F w w') R w' v pt:=
 Fp.keep (fun k hk hR=>h.2.2 k (hlt k hk) hR) (fun _ x=>Or.inl x)
theorem IU(h:fB F R w s p st)(Fp:fU F R w s.now pt)(hl:sZ n pt st)(gl:Gl w a)(lo:Low F)(b:ByteArray)(hn:n+(s.rest.size+b.size)<=274877906944)(iH:0<=s.next/\s.next+(s.rest.size+b.size:Nat)<=1099511627776)(hc:s.closed=false)(hno:s.no=0):
  Z4 16 #[Z8 R,.string b] w (iM F R w (tells (reads {s with rest:=s.rest++b}.bare pt st))):=by
 have c20:w.cell? ⟨R,20,none⟩=some (.int .i64 s.no):=h.cell 20 rfl;have Kj:w.cell? ⟨R,22,none⟩=some (.bool s.closed):=h.cell 22 rfl;rw[hno]at c20;rw[hc]at Kj;have yM:=Wv h b (by omega);have hsz:(s.rest++b).size=s.rest.size+b.size:=cL;have PX:∀w1,RF F R w {s with rest:=s.rest++b} p st w1->Z4 36 #[Z8 R] w1 (iM (Grow F w w1) R w1 (tells (reads {s with rest:=s.rest++b}.bare pt st))):=fun w1 r=>
  zq r.1 (r.part h.lt Fp) hl (gl.frame r.2.1 lo) (lo.grow gl.size) (by show n+(s.rest++b).size<=_;omega) ⟨iH.1,by show s.next+((s.rest++b).size:Int)<=_;rw[hsz];exact iH.2⟩
 have HA:=a_ PX;clear h Fp hl gl lo PX iH hn;generalize tells (reads {s with rest:=s.rest++b}.bare pt st)=x at*
 go_enter func16,ntmps16;go_wp2_with(first|(go_at_call 35;refine yM.mono ?_;rintro e w1 ⟨rfl,r1⟩)|(go_at_call 36;refine(HA.out _ r1).mono ?_;rintro e w2 ⟨v,A,F',rfl,rest⟩));go_ret;exact iM.after r1.2.1 (fun k hk=>hk) ⟨v,A,F',rfl,rest⟩
theorem FM(x:PR)(hx:nL F R w x):iM F R w (x,[]) (.returned fh) w:=
 ⟨fh,fun _=>False,F,rfl,⟨[],kT _ _ _,.nil,fun k e=>absurd e (ig k)⟩,hx,Frame.refl _ _,fun k hk=>hk.elim,fun k hk=>Or.inl hk⟩
theorem IV(h:fB F R w s p st)(b:ByteArray)(hd:s.closed=true\/s.no≠0):
  Z4 16 #[Z8 R,.string b] w (Z6 fh w):=by
 have c20:w.cell? ⟨R,20,none⟩=some (.int .i64 s.no):=h.cell 20 rfl;have Kj:w.cell? ⟨R,22,none⟩=some (.bool s.closed):=h.cell 22 rfl;clear h;by_cases hc:s.closed=true
 ·rw[hc]at Kj;clear hd;go_enter func16,ntmps16;go_wp2;go_ret;exact⟨rfl,rfl⟩
 ·have hc':s.closed=false:=by simpa using hc
  have hn:(s.no !=0)=true:=by
   have:s.no≠0:=hd.resolve_left hc;simpa using this
  rw[hc']at Kj;clear hd hc;go_enter func16,ntmps16;go_wp2;go_ret;exact⟨rfl,rfl⟩
theorem IW(h:fB F R w s p st)(hd:s.closed=true):
  Z4 17 #[Z8 R] w (Z6 fh w):=by
 have Kj:w.cell? ⟨R,22,none⟩=some (.bool s.closed):=h.cell 22 rfl;rw[hd]at Kj;clear h;go_enter func17,ntmps17;go_wp2;go_ret;exact⟨rfl,rfl⟩
theorem FN(h:fB F R w s p st)(hc:s.closed=false)(hd:s.no≠0):
  Z4 17 #[Z8 R] w fun e w'=>e=.returned fh/\RF F R w {s with closed:=true} p st w':=by
 have Kj:w.cell? ⟨R,22,none⟩=some (.bool s.closed):=h.cell 22 rfl;have c20:w.cell? ⟨R,20,none⟩=some (.int .i64 s.no):=h.cell 20 rfl;have f22:=h.free 22;have hn:(s.no !=0)=true:=by simpa using hd
 rw[hc]at Kj;have H:=a_ ((RF.refl h).set (s':={s with closed:=true}) 22 (.bool true) rfl);have d20:(w.setCell ⟨R,22,none⟩ (.bool true)).cell? ⟨R,20,none⟩=some (.int .i64 s.no):=H.out.1.cell 20 rfl;clear h hd;go_enter func17,ntmps17;go_wp2;go_ret;exact⟨rfl,H.out⟩
theorem PY(h:fB F R w s p st)(hc:s.closed=false):
  Z4 19 #[Z8 R] w (Z6 (.tuple #[.int .i64 0,.int .i64 0]) w):=by
 have Kj:w.cell? ⟨R,22,none⟩=some (.bool s.closed):=h.cell 22 rfl;rw[hc]at Kj;clear h;go_enter func19,ntmps19;go_wp2
 go_ret2
 exact⟨rfl,rfl⟩
theorem PZ(h:fB F R w s p st)(hc:s.closed=true):
  Z4 19 #[Z8 R] w fun e w'=>e=.returned (.tuple #[.int .i64 s.no,.int .i64 s.xq])/\Below w.heap.size w w':=by
 have Kj:w.cell? ⟨R,22,none⟩=some (.bool s.closed):=h.cell 22 rfl;have c20:w.cell? ⟨R,20,none⟩=some (.int .i64 s.no):=h.cell 20 rfl;have c21:w.cell? ⟨R,21,none⟩=some (.int .i64 s.xq):=h.cell 21 rfl;rw[hc]at Kj;clear h;go_enter func19,ntmps19;go_wp2
 go_region
 all_goals
  go_wp2
  go_ret2
  exact⟨rfl,below_drewN (Below.refl _ _) _⟩
def shut(x:PR×List eX):PR×List eX:=(⟨Src.zero x.1.s.no x.1.s.xq x.1.s.closed,none,St.zero⟩,x.2)
theorem iM.zero{x:PR×List eX}(h:iM F R w x (.returned v) w'):w'.there R 0 iR.size/\iM F R w (shut x) (.returned v) (w'.setCells R 0 iR.toList):=by
 obtain⟨v',A,F',he,an,⟨vn,p',r,_⟩,fr,h1,h2⟩:=h;cases he;obtain⟨o1,o2,o3,o4,o5⟩:=fk (R:=R) iR.toList 0 w';have hb:=o_ (R:=R) iR.toList 0 _ w' r.blk;rw[zo]at hb;refine⟨BN r.blk (by show 20<=23;omega),?_⟩;generalize w'.setCells R 0 iR.toList=W at*
 have up:∀k,Grow F w w' k->Grow F w W k:=fun k hk=>by unfold Grow at*;rw[o2];exact hk
 refine⟨v,A,F',rfl,an.frame fun k hA=>o1 k (fun e=>(h1 k hA).2 (e▸r.jt)),⟨.nilFunc,Ptr.zero,⟨hb,r.jt,fun k hk=>by rw[o2];exact r.lt k hk,Own.zero _ _ _⟩,rfl⟩,⟨o3.trans fr.os,o4.trans fr.tape,o5.trans fr.output,by rw[o2];exact fr.size,fun k hk hf=>?_⟩,fun k hk=>⟨up k (h1 k hk).1,(h1 k hk).2⟩,fun k hk=>up k (h2 k hk)⟩;refine(o1 k ?_).trans (fr.block k hk hf);intro e;subst e;rcases h2 k r.jt with x|x
 ·exact hf x
 ·omega
theorem IX(h:fB F R w s p st)(Fp:fU F R w s.now pt)(hl:sZ n pt st)(gl:Gl w a)(lo:Low F)(hn:n+s.rest.size<=274877906944)(iH:s.Ok)(hc:s.closed=false)(hno:s.no=0):
  Z4 17 #[Z8 R] w (iM F R w (shut (tells (reads {s with closed:=true,ended:=true}.bare pt st)))):=by
 have c20:w.cell? ⟨R,20,none⟩=some (.int .i64 s.no):=h.cell 20 rfl;have Kj:w.cell? ⟨R,22,none⟩=some (.bool s.closed):=h.cell 22 rfl;have f22:=h.free 22;rw[hno]at c20;rw[hc]at Kj;have rA:=(RF.refl h).set (s':={s with closed:=true}) 22 (.bool true) rfl;have d20:(w.setCell ⟨R,22,none⟩ (.bool true)).cell? ⟨R,20,none⟩=some (.int .i64 0):=by rw[<-hno];exact rA.1.cell 20 rfl
 have hend:=Ww rA.1;have PX:∀wB,RF (Grow F w (w.setCell ⟨R,22,none⟩ (.bool true))) R (w.setCell ⟨R,22,none⟩ (.bool true)) {s with closed:=true,ended:=true} p st wB->Z4 36 #[Z8 R] wB (iM F R w (tells (reads {s with closed:=true,ended:=true}.bare pt st))):=fun wB r=>by
  have glA:=gl.frame rA.2.1 lo;have loA:Low (Grow F w (w.setCell ⟨R,22,none⟩ (.bool true))):=lo.grow gl.size;have pA:=rA.part h.lt Fp;have pB:=r.part rA.1.lt pA;refine(zq r.1 pB hl (glA.frame r.2.1 loA) (loA.grow glA.size) hn iH).mono ?_;intro e w' hE;exact iM.after (rA.2.1.trans r.2.1) (fun k hk=>(Grow.trans rA.2.1.size r.2.1.size k).1 hk) hE
 have HA:=a_ PX;clear h Fp hl gl lo PX iH hn rA;generalize tells (reads {s with closed:=true,ended:=true}.bare pt st)=x at*
 go_enter func17,ntmps17;go_wp2_with(first|(go_at_call 37;refine hend.mono ?_;rintro e w1 ⟨rfl,r1⟩)|(go_at_call 36;refine(HA.out _ r1).mono ?_;rintro e w2 ⟨v,A,F',rfl,rest⟩;obtain⟨RJ,hz⟩:=iM.zero (F:=F) (R:=R) (w:=w) (x:=x) ⟨v,A,F',rfl,rest⟩;have HZ:=a_ hz;clear hz rest)|(refine wpList_store_mid rfl 106 (.tmp 27) (.tmp 25) rfl R 0 iR rfl rfl RJ Ki PW ?_));go_ret;exact HZ.out
end
def PR.write(r:PR)(b:ByteArray):PR×List eX:=
 if r.s.closed=true\/r.s.no≠0 then(r,[])
 else match r.pt with
  |some pt=>tells (reads {r.s with rest:=r.s.rest++b}.bare pt r.st)
  |none=>(r,[])
def PR.close(r:PR):PR×List eX:=
 if r.s.closed=true then(r,[])
 else if r.s.no≠0 then(⟨{r.s with closed:=true},r.pt,r.st⟩,[])
 else match r.pt with
  |some pt=>shut (tells (reads {r.s with closed:=true,ended:=true}.bare pt r.st))
  |none=>(r,[])
def PR.err(r:PR):Int×Int:=if r.s.closed=true then(r.s.no,r.s.xq)else(0,0)
def PR.new:PR:=⟨Src.zero 0 0 false,some (.plain .between),St.zero⟩
structure Good(r:PR)(N:Nat):Prop where
 live:r.s.closed=false->r.s.no=0->∃pt n,r.pt=some pt/\sZ n pt r.st/\n+r.s.rest.size<=N/\0<=r.s.next/\r.s.next+r.s.rest.size<=(N:Int)/\r.s.ended=false/\r.st.told=[]/\r.s.bare=r.s/\r.s.more=true
 shut:r.s.closed=false->r.s.no≠0->r.pt=none
theorem FO(n:Nat):sZ n (.plain .between) St.zero:=
 ⟨fun _ _=>aB _,aB _,aB _,aB _,aB _,by decide,trivial⟩
theorem zr:Good PR.new 0:=
 ⟨fun _ _=>⟨_,0,rfl,FO 0,au _,by decide,by decide,rfl,rfl,rfl,by decide⟩,fun _ h=>absurd rfl h⟩
def St.pre(T:List eX)(st:St):St:={st with told:=T++st.told}
def Out.pre(T:List eX)(o:Out):Out:=⟨o.st.pre T,o.res⟩
theorem xL(T:List eX)(st:St)(i:Rn)(c q:Int):(st.pre T).put i c q=(st.put i c q).pre T:=rfl
theorem Mp(T:List eX)(st:St)(i:Rn):(st.pre T).clear i=(st.clear i).pre T:=rfl
theorem pd(T:List eX)(st:St):(st.pre T).dX=st.dX.pre T:=by
 unfold St.dX;have e:(st.pre T).run=st.run:=rfl;rw[e];split
 ·rfl
 ·simp[St.pre,St.clear,St.dT]
theorem xw(T:List eX)(st:St):(st.pre T).eD=st.eD.pre T:=by
 unfold St.eD;rw[pd];simp[St.pre]
theorem xx(T:List eX)(st:St):(st.pre T).fI=st.fI.pre T:=by
 unfold St.fI;rw[pd];simp[St.pre]
theorem FP(T:List eX)(k:Pl)(q:Int)(st:St)(c:Int):step k q (st.pre T) c=(step k q st c).pre T:=by cases k<;>simp only[step,jo,fC,jH,gW,iC,fw,fx,xL,Mp,pd,xw,xx,St.addAttr]<;>(repeat' split)<;>first|rfl|(simp_all[St.pre];done)
theorem FR(T:List eX)(i:Rn)(t:ByteArray)(q:Int):∀f pos st,fN i t q f pos (st.pre T)=(fN i t q f pos st).pre T:=by
 intro f;induction f with
 |zero=>intro pos st;rfl
 |succ f ih=>
  intro pos st;unfold fN;split
  ·rw[xL];exact ih _ _
  ·rfl
theorem Dv(T:List eX)(pt:Part)(q:Int)(st:St)(c:Int):b_ pt q (st.pre T) c=(b_ pt q st c).pre T:=by
 cases pt with
 |plain k=>exact FP T k q st c
 |word l k=>
  cases l with
  |nil=>rfl
  |cons x l=>
   simp only[b_,lx]
   repeat' split
   all_goals rfl
 |name i k=>
  simp only[b_,stName,fC,xL,FP];have e:(st.pre T).run=st.run:=rfl;rw[e]
  repeat' split
  all_goals rfl
 |ref i k=>
  simp only[b_,nG,xL];split
  ·split
   ·unfold ju;have e:((st.put .ref 59 q).pre T).run=(st.put .ref 59 q).run:=rfl;have e2:((st.put .ref 59 q).pre T).eP=(st.put .ref 59 q).eP:=rfl;rw[e,e2];split
    ·unfold St.nV;rw[FR];rfl
    ·rfl
   ·rfl
  ·rfl
theorem P0(T:List eX):∀(n:Nat) (s:Src) (pt:Part) (st:St),lz n s pt (st.pre T)={lz n s pt st with st:=(lz n s pt st).st.pre T}:=by
 intro n;induction n with
 |zero=>intro s pt st;rfl
 |succ n ih=>
  intro s pt st;simp only[lz,Dv];split
  ·rfl
  ·have e:((b_ pt s.took.1.at_ st s.took.2).pre T).res=(b_ pt s.took.1.at_ st s.took.2).res:=rfl;rw[e];cases (b_ pt s.took.1.at_ st s.took.2).res with
   |go jC=>exact ih _ _ _
   |stop=>rfl
   |fail no q=>rfl
theorem P7(s:Src)(b:ByteArray)(h:s.more=false)(he:s.ended=false):({s with rest:=s.rest++b}:Src).more=false/\({s with rest:=s.rest++b}:Src).took=({s.took.1 with rest:=s.took.1.rest++b},s.took.2):=by
 simp only[Src.more,he,dH,cV,Bool.not_eq_false']at h;obtain⟨h1,h2⟩:=PJ s.rest b h;have h0:0<s.rest.size:=by
  by_cases e:s.rest.size=0
  ·simp[Tk.full,e]at h
  ·omega
 have hsz:(s.rest++b).size=s.rest.size+b.size:=cL;have hw:=Ch.eE s.rest 0 h0;refine⟨by simp[Src.more,he,h1],?_⟩;have iH:Ch.gb (s.rest++b) 0=Ch.gb s.rest 0:=by unfold Ch.gb;rw[h2]
 have e1:¬(s.rest++b).size=0:=by omega
 have e2:¬s.rest.size=0:=by omega
 simp only[Src.took,e1,e2,aQ,iH,h2];split
 ·have hx:(s.rest++b).extract (Utf8.decode s.rest 0).2 (s.rest++b).size=s.rest.extract (Utf8.decode s.rest 0).2 s.rest.size++b:=by
   rw[hsz];apply cN;apply Array.ext';simp only[ByteArray.data_extract,cY,Array.toList_extract,Array.toList_append,List.extract_eq_take_drop];rw[List.drop_append_of_le_length (by show (Utf8.decode s.rest 0).2<=s.rest.data.toList.length;simpa using hw.1)];rw[bS (by simp;have:s.rest.data.size=s.rest.size:=rfl;have:b.data.size=b.size:=rfl;omega),bS (by simp)]
  rw[hx]
 ·rfl
structure Ends(c:Int)(o:Out):Prop where
 stop:o.res=.stop->c= -1
 fail:∀no q,o.res=.fail no q->no≠0
theorem Wx(c:Int):Tk.why c≠0:=by unfold Tk.why;split<;>omega
theorem Ends.go{c:Int}{st:St}{pt:Part}:Ends c ⟨st,.go pt⟩:=⟨fun e=>(by cases e),fun _ _ e=>(by cases e)⟩
theorem Ends.why{c:Int}{st:St}{q:Int}:Ends c ⟨st,.fail (Tk.why c) q⟩:=⟨fun e=>(by cases e),fun _ _ e=>(by cases e;exact Wx c)⟩
theorem Ends.num{c:Int}{st:St}{no q:Int}(h:no≠0):Ends c ⟨st,.fail no q⟩:=⟨fun e=>(by cases e),fun _ _ e=>(by cases e;exact h)⟩
theorem BO(k:Pl)(q:Int)(st:St)(c:Int):Ends c (step k q st c):=by cases k<;>simp only[step,jo,fC,jH,gW,iC,fw,fx]<;>(repeat' split)<;>first|exact .go|exact .why|exact .num (by decide)|exact⟨fun _=>(by assumption),fun _ _ e=>(by cases e)⟩
theorem s6(pt:Part)(q:Int)(st:St)(c:Int):Ends c (b_ pt q st c):=by
 cases pt with
 |plain k=>exact BO k q st c
 |word l k=>
  cases l with
  |nil=>exact .go
  |cons x l=>
   simp only[b_,lx]
   repeat' split
   all_goals first|exact .go|exact .why
 |name i k=>
  simp only[b_,stName,fC]
  repeat' split
  all_goals first|exact .go|exact .why|exact BO k q st c
 |ref i k=>
  simp only[b_,nG];split
  ·split
   ·unfold ju;split
    ·exact .go
    ·exact .num (by decide)
   ·exact .go
  ·exact .num (by decide)
theorem oG{s:Src}{pt:Part}{st:St}{n:Nat}(hl:sZ n pt st)(h:s.more=false):
  reads s pt st=match (b_ pt s.next st s.took.2).res with
   | .go jC=>reads s.took.1 jC (b_ pt s.next st s.took.2).st
   | .stop=>⟨s.took.1,pt,(b_ pt s.next st s.took.2).st,.over⟩
   | .fail no q=>⟨s.took.1,pt,(b_ pt s.next st s.took.2).st,.fail no q⟩:=by
 have ha:s.took.1.at_=s.next:=xK s
 conv=>lhs;unfold reads
 simp only[lz,h,aA,aQ,ha];generalize he:(b_ pt s.next st s.took.2).res=r;cases r with
 |go jC=>
  have hk:=lA hl.sound hl.quote he;exact BL (s.took.1.rest.size+1) s.rest.size (n+1) s.took.1 _ _ (hl.step he) (Nat.lt_succ_self _) (by omega)
 |stop=>rfl
 |fail no q=>rfl
theorem zt{s:Src}{pt:Part}{st:St}(h:s.more=true):reads s pt st=⟨s,pt,st,.more⟩:=by unfold reads lz;rw[if_pos h]
structure aa3(s:Src)(k:Nat)(m:Rd):Prop where
 Kf:∃n,sZ n m.pt m.st/\n+m.s.rest.size<=k+s.rest.size
 next:m.s.next+m.s.rest.size=s.next+s.rest.size
 lo:s.next<=m.s.next
 more:m.s.more=true
 ended:m.s.ended=s.ended
 no:m.s.no=s.no
 xq:m.s.xq=s.xq
 closed:m.s.closed=s.closed
 now:m.s.now=s.now
structure Cut(s:Src)(k:Nat)(b:ByteArray)(m m2:Rd)(g:Src->Part->St->Rd):Prop where
 more:m.ret=.more->m2=g {m.s with rest:=m.s.rest++b} m.pt m.st/\aa3 s k m
 over:m.ret≠ .over
 fail:∀no q,m.ret=.fail no q->no≠0/\tells m2=tells m/\m.s.closed=s.closed
theorem Mq(s:Src)(h0:s.rest.size≠0)(iH:Ch.gb s.rest 0=true):s.took.1.next+s.took.1.rest.size=s.next+s.rest.size/\s.next<=s.took.1.next/\s.took.1.ended=s.ended/\s.took.1.no=s.no/\s.took.1.xq=s.xq/\s.took.1.closed=s.closed/\s.took.1.now=s.now:=by
 have hw:=Ch.eE s.rest 0 (by omega);simp only[Src.took,h0,iH,aQ,if_true,bY,and_true];omega
theorem nh(s:Src):s.took.1.ended=s.ended/\s.took.1.no=s.no/\s.took.1.xq=s.xq/\s.took.1.closed=s.closed/\s.took.1.now=s.now:=by
 unfold Src.took;repeat' split
 all_goals exact⟨rfl,rfl,rfl,rfl,rfl⟩
theorem BP(b:ByteArray):∀(n:Nat) (s:Src) (pt:Part) (st:St) (k:Nat),s.rest.size<n->sZ k pt st->s.ended=false->Cut s k b (reads s pt st) (reads {s with rest:=s.rest++b} pt st) reads:=by
 intro n;induction n with
 |zero=>intro s pt st k h;omega
 |succ n ih=>
  intro s pt st k hn hl he;by_cases hm:s.more=true
  ·rw[zt hm];exact⟨fun _=>⟨rfl,⟨⟨k,hl,au _⟩,rfl,Int.le_refl _,hm,rfl,rfl,rfl,rfl,rfl⟩⟩,by simp,fun _ _ e=>(by cases e)⟩
  ·have tY:s.more=false:=by simpa using hm
   obtain⟨ha1,ha2⟩:=P7 s b tY he;rw[oG hl tY,oG (s:={s with rest:=s.rest++b}) hl ha1,ha2];have FT:=s6 pt s.next st s.took.2;have rz:=nh s;generalize hr:(b_ pt s.next st s.took.2).res=r;cases r with
   |go jC=>
    have hk:=lA hl.sound hl.quote hr;have hs:=Mq s hk.2.1 hk.2.2;have c:=ih s.took.1 jC (b_ pt s.next st s.took.2).st (k+1) (by omega) (hl.step hr) (rz.1.trans he);refine⟨fun e=>?_,c.over,fun no q e=>⟨(c.fail no q e).1,(c.fail no q e).2.1,(c.fail no q e).2.2.trans rz.2.2.2.1⟩⟩;obtain⟨c1,c2⟩:=c.more e;refine⟨c1,⟨?_,c2.next.trans hs.1,Int.le_trans hs.2.1 c2.lo,c2.more,c2.ended.trans rz.1,c2.no.trans rz.2.1,c2.xq.trans rz.2.2.1,c2.closed.trans rz.2.2.2.1,c2.now.trans rz.2.2.2.2⟩⟩;obtain⟨x,x1,x2⟩:=c2.Kf;refine⟨x,x1,?_⟩;show x+(reads s.took.1 jC (b_ pt s.next st s.took.2).st).s.rest.size<=k+s.rest.size;omega
   |stop=>
    exfalso;have h1:=FT.stop hr;have h0:s.rest.size≠0:=by
     intro e;simp[Src.more,he,Tk.full,e]at tY
    have hlg:=FJ s;rw[h1]at hlg;unfold Src.took at h1;rw[if_neg h0]at h1;split at h1
    ·simp only at h1;omega
    ·simp only at h1;omega
   |fail no q=>
    refine⟨fun e=>(by cases e),by simp,fun no' q' e=>?_⟩;cases e;exact⟨FT.fail _ _ hr,rfl,rz.2.2.2.1⟩
section
variable{F F' G:Nat->Prop}{R:Nat}{w w' w'' wr w1:World}{s s':Src}{p:Ptr}{st:St}{c:Int}{a:Addr}{pt:Part}{v:Value}{m:Rd}{N n:Nat}{r:PR}
theorem sZ.Zu(h:sZ n pt st):sZ n pt {st with told:=[]}:=⟨h.run,h.ref,aB _,h.attrs,h.names,h.quote,h.sound⟩
theorem Tv(h:s.now=.nilFunc):s.bare=s:=by cases s;cases h;rfl
theorem nZ(hc:r.s.closed=false)(hn:r.s.no=0)(hp:r.pt=some pt)(b:ByteArray):r.write b=tells (reads {r.s with rest:=r.s.rest++b}.bare pt r.st):=by unfold PR.write;rw[if_neg (by simp[hc,hn]),hp]
theorem n9(h:r.s.closed=true\/r.s.no≠0)(b:ByteArray):r.write b=(r,[]):=by unfold PR.write;rw[if_pos h]
theorem Good.cut(hg:Good r N)(hc:r.s.closed=false)(hn:r.s.no=0)(b b2:ByteArray):∃pt k,r.pt=some pt/\k+(r.s.rest++b).size<=N+b.size/\0<=r.s.next/\r.s.next+((r.s.rest++b).size:Int)<=(N+b.size:Nat)/\r.s.ended=false/\r.s.now=.nilFunc/\sZ k pt r.st/\
  Cut ({r.s with rest:=r.s.rest++b}:Src).bare k b2 (reads ({r.s with rest:=r.s.rest++b}:Src).bare pt r.st) (reads { ({r.s with rest:=r.s.rest++b}:Src).bare with rest:=({r.s with rest:=r.s.rest++b}:Src).bare.rest++b2} pt r.st) reads:=by
 obtain⟨pt,k,h1,h2,h3,h4,h5,h6,h7,h8,h9⟩:=hg.live hc hn;have hsz:(r.s.rest++b).size=r.s.rest.size+b.size:=cL;refine⟨pt,k,h1,by omega,h4,by omega,h6,?_,h2,BP b2 _ _ pt r.st k (Nat.lt_succ_self _) h2 h6⟩;have:=aL Src.now h8;exact this.symm
theorem IY(hg:Good r N)(b:ByteArray):Good (r.write b).1 (N+b.size):=by
 by_cases hd:r.s.closed=true\/r.s.no≠0
 ·rw[n9 hd];refine⟨fun h1 h2=>?_,hg.shut⟩;rcases hd with h|h
  ·simp only at h1;rw[h]at h1;cases h1
  ·exact absurd h2 h
 ·have hc:r.s.closed=false:=by simpa using(not_or.1 hd).1
  have hn:r.s.no=0:=by simpa using(not_or.1 hd).2
  obtain⟨pt,k,h1,h2,h3,h4,h5,h6,h7,hcut⟩:=hg.cut hc hn b ⟨#[]⟩;rw[nZ hc hn h1];generalize hs:({r.s with rest:=r.s.rest++b}:Src).bare=s1 at*
  have e1:s1.rest=r.s.rest++b:=by rw[<-hs];rfl
  have e2:s1.next=r.s.next:=by rw[<-hs];rfl
  have e3:s1.ended=false:=by rw[<-hs];exact h5
  have e4:s1.no=0:=by rw[<-hs];exact hn
  have e5:s1.closed=false:=by rw[<-hs];exact hc
  have e6:s1.now=.nilFunc:=by rw[<-hs];rfl
  generalize reads s1 pt r.st=m at*
  unfold tells;cases hr:m.ret with
  |more=>
   obtain⟨_,sy⟩:=hcut.more hr;obtain⟨x,x1,x2⟩:=sy.Kf;refine⟨fun _ _=>⟨m.pt,x,rfl,x1.Zu,?_,?_,?_,sy.ended.trans e3,rfl,Tv (sy.now.trans e6),sy.more⟩,fun _ h=>absurd (sy.no.trans e4) h⟩
   ·show x+m.s.rest.size<=_;rw[e1]at x2;omega
   ·show 0<=m.s.next;have:=sy.lo;omega
   ·show m.s.next+(m.s.rest.size:Int)<=_;have:=sy.next;rw[e1,e2]at this;omega
  |over=>exact absurd hr hcut.over
  |fail no q=>
   have:=hcut.fail no q hr;exact⟨fun _ h=>absurd h this.1,fun _ _=>rfl⟩
end
section
variable{F F' G:Nat->Prop}{R:Nat}{w w' w'' wr w1:World}{s s':Src}{p:Ptr}{st:St}{c:Int}{a:Addr}{pt:Part}{v:Value}{m:Rd}{N n:Nat}{r:PR}
theorem P8(Om:nL F R w r)(hg:Good r N)(gl:Gl w a)(lo:Low F)(b:ByteArray)(hN:N+b.size<=274877906944):
  Z4 16 #[Z8 R,.string b] w (iM F R w (r.write b)):=by
 obtain⟨vn,p,lV,hx⟩:=Om;by_cases hd:r.s.closed=true\/r.s.no≠0
 ·rw[n9 hd];refine(IV lV b hd).mono ?_;rintro e w' ⟨rfl,rfl⟩;exact FM r ⟨vn,p,lV,hx⟩
 ·have hc:r.s.closed=false:=by simpa using(not_or.1 hd).1
  have hn:r.s.no=0:=by simpa using(not_or.1 hd).2
  obtain⟨pt,k,h1,h2,h3,h4,h5,h6,h7,h8,h9⟩:=hg.live hc hn;rw[nZ hc hn h1];rw[h1]at hx;exact IU (n:=k) lV hx h2 gl lo b (by show k+(r.s.rest.size+b.size)<=_;omega) ⟨h4,by show r.s.next+((r.s.rest.size+b.size:Nat):Int)<=_;omega⟩ hc hn
theorem P9(Om:nL F R w r)(hg:Good r N)(gl:Gl w a)(lo:Low F)(hN:N<=274877906944):
  Z4 17 #[Z8 R] w (iM F R w r.close):=by
 obtain⟨vn,p,lV,hx⟩:=Om;unfold PR.close;by_cases hc:r.s.closed=true
 ·rw[if_pos hc];refine(IW lV hc).mono ?_;rintro e w' ⟨rfl,rfl⟩;exact FM r ⟨vn,p,lV,hx⟩
 ·have hc':r.s.closed=false:=by simpa using hc
  rw[if_neg hc];by_cases hn:r.s.no≠0
  ·rw[if_pos hn];have hp:=hg.shut hc' hn;rw[hp]at hx;refine(FN lV hc' hn).mono ?_;rintro e w' ⟨rfl,rf⟩;refine⟨fh,fun _=>False,Grow F w w',rfl,⟨[],kT _ _ _,.nil,fun k e=>absurd e (ig k)⟩,⟨vn,p,rf.1,?_⟩,rf.2.1,fun k hk=>hk.elim,fun k hk=>hk⟩;rw[hp];exact hx
  ·have hn':r.s.no=0:=by simpa using hn
   rw[if_neg hn];obtain⟨pt,k,h1,h2,h3,h4,h5,h6,h7,h8,h9⟩:=hg.live hc' hn';rw[h1]at hx ⊢;exact IX (s:={r.s with now:=vn}) (n:=k) lV hx h2 gl lo (by show k+r.s.rest.size<=_;omega) ⟨h4,by show r.s.next+(r.s.rest.size:Int)<=_;omega⟩ hc' hn'
theorem Wy(Om:nL F R w r):Z4 19 #[Z8 R] w fun e w'=>e=.returned (.tuple #[.int .i64 r.err.1,.int .i64 r.err.2])/\Below w.heap.size w w':=by
 obtain⟨vn,p,lV,hx⟩:=Om;unfold PR.err;by_cases hc:r.s.closed=true
 ·rw[if_pos hc];exact PZ (s:={r.s with now:=vn}) lV hc
 ·rw[if_neg hc];refine(PY lV (by simpa using hc)).mono ?_;rintro e w' ⟨rfl,rfl⟩;exact⟨rfl,Below.refl _ _⟩
theorem nL.below(h:nL F R w r)(hb:Below w.heap.size w w'):nL F R w' r:=by
 obtain⟨vn,p,lV,hx⟩:=h;refine⟨vn,p,⟨(hb.block R (lV.lt R lV.jt)).trans lV.blk,lV.jt,fun k hk=>aq (lV.lt k hk) hb.size,lV.own.frame (fun k hk _=>hb.block k (lV.lt k hk)) (fun _ x=>x)⟩,?_⟩;cases hp:r.pt with
 |none=>rw[hp]at hx;exact hx
 |some pt=>
  rw[hp]at hx;exact hx.keep (fun k hk _=>hb.block k (lV.lt k hk)) (fun _ x=>x)
theorem nL.keep(h:nL F R w r)(hk:∀k,F k->w'.heap[k]?=w.heap[k]?)(hs:w.heap.size<=w'.heap.size):nL F R w' r:=by
 obtain⟨vn,p,lV,hx⟩:=h;refine⟨vn,p,⟨(hk R lV.jt).trans lV.blk,lV.jt,fun k hf=>aq (lV.lt k hf) hs,lV.own.frame (fun k hf _=>hk k hf) (fun _ x=>x)⟩,?_⟩;cases hp:r.pt with
 |none=>rw[hp]at hx;exact hx
 |some pt=>
  rw[hp]at hx;exact hx.keep (fun k hf _=>hk k hf) (fun _ x=>x)
def oH:Array Value:=cellsOf {Src.zero 0 0 false with now:=Pl.val .between} Ptr.zero St.zero
theorem Wz(w:World):Z4 15 #[] w fun e w'=>e=.returned (.pointer (some ⟨w.heap.size,0,none⟩))/\w'=w.alloc (.cells oH 110):=by
 go_enter func15,ntmps15;go_wp2;go_ret;exact⟨rfl,rfl⟩
theorem Mr(w:World):nL (fun k=>k=w.heap.size) w.heap.size (w.alloc (.cells oH 110)) PR.new:=
 ⟨Pl.val .between,Ptr.zero,⟨dR _ _,rfl,fun k hk=>by rw[hk];simp,Own.zero _ _ _⟩,rfl⟩
end
section
variable{F F' G A B:Nat->Prop}{R:Nat}{w w' w'' wr w1:World}{s s':Src}{p:Ptr}{st:St}{c:Int}{a:Addr}{pt:Part}{v:Value}{m:Rd}{N n:Nat}{r:PR}{l:List eX}
theorem Ms(pt:Part)(q:Int)(st:St)(c:Int):(b_ pt q st c).st.told.length<=st.told.length+4:=by
 cases pt with
 |plain k=>exact(rU k q st c).told
 |word l k=>
  cases l with
  |nil=>exact cG _ _
  |cons x l=>exact(qT x l k q st c).told
 |name i k=>exact(qR i k q st c).told
 |ref i k=>
  simp only[b_,nG];split
  ·split
   ·unfold ju;split
    ·show (fN _ _ _ _ _ _).told.length<=_;rw[(uV _ _ _ _ _ _).1];exact cG _ _
    ·exact cG _ _
   ·exact cG _ _
  ·exact cG _ _
theorem BQ:∀(n:Nat) (s:Src) (pt:Part) (st:St),(lz n s pt st).st.told.length<=st.told.length+4*n:=by
 intro n;induction n with
 |zero=>intro s pt st;exact au _
 |succ n ih=>
  intro s pt st;have h:=Ms pt s.took.1.at_ st s.took.2;simp only[lz];split
  ·show st.told.length<=_;omega
  ·split
   ·rename_i jC e;have:=ih s.took.1 jC (b_ pt s.took.1.at_ st s.took.2).st;omega
   ·show (b_ pt s.took.1.at_ st s.took.2).st.told.length<=_;omega
   ·show (b_ pt s.took.1.at_ st s.took.2).st.told.length<=_;omega
theorem zu(m:Rd):(tells m).2=m.st.told:=by unfold tells;cases m.ret<;>rfl
theorem IZ(hg:Good r N)(b:ByteArray):(r.write b).2.length<=4*(N+b.size)+4:=by
 by_cases hd:r.s.closed=true\/r.s.no≠0
 ·rw[n9 hd];exact aB _
 ·have hc:r.s.closed=false:=by simpa using(not_or.1 hd).1
  have hn:r.s.no=0:=by simpa using(not_or.1 hd).2
  obtain⟨pt,k,h1,h2,h3,h4,h5,h6,h7,h8,h9⟩:=hg.live hc hn;rw[nZ hc hn h1,zu];have hsz:(r.s.rest++b).size=r.s.rest.size+b.size:=cL;have:=BQ ((r.s.rest++b).size+1) {r.s with rest:=r.s.rest++b}.bare pt r.st;rw[h7]at this;simp only[aI]at this;exact aw this (by omega)
theorem I0(hg:Good r N):r.close.2.length<=4*N+4:=by
 unfold PR.close;split
 ·exact aB _
 ·rename_i hc;split
  ·exact aB _
  ·rename_i hn;obtain⟨pt,k,h1,h2,h3,h4,h5,h6,h7,h8,h9⟩:=hg.live (by simpa using hc) (by simpa using hn);rw[h1];show (shut (tells (reads {r.s with closed:=true,ended:=true}.bare pt r.st))).2.length<=_;unfold shut;rw[zu];have:=BQ (r.s.rest.size+1) {r.s with closed:=true,ended:=true}.bare pt r.st;rw[h7]at this;simp only[aI]at this;exact aw this (by omega)
theorem k_.one{cs:List Value}{av:Value}(h:k_ A R w av l cs):∀u∈cs,u.oneCell'=true:=by
 induction h with
 |nil=>intro u hu;cases hu
 |cons t v l cs ho hf hl ih=>
  intro u hu;rw[List.mem_append]at hu;rcases hu with hu|hu
  ·simp only[eB,bM,bB,cm]at hu;rcases hu with rfl|rfl|rfl|rfl|rfl
   ·rfl
   ·rfl
   ·rcases ho.2 with⟨rfl,_⟩|⟨g,cap,cur,rfl,_⟩
    ·rfl
    ·rfl
   ·rfl
   ·rfl
  ·exact ih u hu
theorem Tw(b:Option Addr)(n c:Nat)(hn:n<=c)(w:World):(Builtin.append_ #[47,47] 47 #[.slice b n c,.slice none 0 0]).run prog w=.ok (.slice b n c) w:=by cases b<;>simp[Builtin.append_,underlying,underlying47,sizeOf56,Builtin.lenOf,Builtin.firstCells,hn,storeCells,Result.andThen]
end
section
variable{F F' G A B:Nat->Prop}{R:Nat}{w w' w'' wr w1:World}{s s':Src}{p:Ptr}{st:St}{c:Int}{a:Addr}{pt:Part}{v v1 v2:Value}{m:Rd}{N n:Nat}{r:PR}{l l1 l2:List eX}
theorem dQ{k:Nat}{o:Obj}(h:w.heap[k]?=some o):k<w.heap.size:=(Array.getElem?_eq_some_iff.1 h).1
theorem BM.old(h:BM A w v l)(hk:∀k,k<w.heap.size->A k->w'.heap[k]?=w.heap[k]?)(hA:∀k,k<w.heap.size->A k->B k):BM B w' v l:=by
 obtain⟨cs,h1,h2,h3⟩:=h;refine⟨cs,dW h1 fun k e=>?_,h2.frame fun k n xs v ho hv a b c=>?_,fun k e=>?_⟩
 ·obtain⟨cur,hc⟩:=fq h1 e;exact hk k (dQ hc) (h3 k e)
 ·obtain⟨cur,hc⟩:=fq ho hv;exact⟨hk k (dQ hc) a,hA k (dQ hc) a,c⟩
 ·obtain⟨cur,hc⟩:=fq h1 e;exact hA k (dQ hc) (h3 k e)
theorem I3(h1:BM A w v1 l1)(h2:BM B w v2 l2)(hb:l1.length+l2.length<=68719476736):
  ∃v' w',(Builtin.append_ #[47,47] 47 #[v1,v2]).run prog w=.ok v' w'/\BM (fun k=>A k\/B k\/k=w.heap.size) w' v' (l1++l2)/\w.grownBy w' v1.ownBlock:=by
 obtain⟨cs1,o1,t1,a1⟩:=h1;obtain⟨GM,o2,t2,a2⟩:=h2;have o2':=o2;rcases o2'.2 with⟨rfl,hn⟩|⟨g,cap,cur,rfl,sO,hg,hc,hm,hcs,vQ⟩
 ·have hl:l2=[]:=bJ hn;subst hl;have hv:∃b n c,v1=.slice b n c/\n<=c:=by
   rcases o1.2 with⟨rfl,hn⟩|⟨g,cap,cur,rfl,sO,hg,hc,hm,hcs,vQ⟩
   ·exact⟨none,0,0,rfl,au _⟩
   ·exact⟨_,_,_,rfl,hc⟩
  obtain⟨b,n,c,rfl,Oo⟩:=hv;refine⟨_,w,Tw b n c Oo w,?_,⟨rfl,rfl,rfl,au _,fun _ _ _=>rfl⟩⟩;rw[aP];exact BM.old ⟨cs1,o1,t1,a1⟩ (fun _ _ _=>rfl) (fun _ _ x=>Or.inl x)
 ·obtain⟨i0,hi,hz0,hz1,hz2⟩:=aY CX;have hcell:∀j u,GM[j]?=some u->w.cell? ((⟨g,0,none⟩:Addr).add j)=some u:=by
   intro j u hj;rw[Addr.add_mid,aG];refine cell_of hg ?_;rw[<-vQ,bR]at hj;split at hj
   ·simpa using hj
   ·cases hj
  obtain⟨v',w',hr,ho,hgr,_,hat⟩:=cW (P:=prog) w 0 47 47 56 i0 _ 5 72 underlying47 hi hz0 hz1 hz2 rfl (by decide) v1 l1.length cs1 o1 ⟨g,0,none⟩ l2.length cap GM o2.1 hcell t2.one (by unfold maxLen;omega) (by omega) (aB _);refine⟨v',w',hr,⟨cs1++GM,?_,?_,?_⟩,hgr⟩
  ·rw[ax];exact ho
  ·have keep:∀{D:Nat->Prop} {l:List eX} {cs:List Value},k_ D 0 w fh l cs->(∀k,D k->(A k\/B k\/k=w.heap.size))->k_ (fun k=>A k\/B k\/k=w.heap.size) 0 w' fh l cs:=by
    intro D l cs h hD;refine h.frame fun k n xs v NF hv a b c=>⟨?_,hD k a,c⟩
    obtain⟨cur',hc'⟩:=fq NF hv;refine hgr.block k (dQ hc') (fun e=>?_);obtain⟨abO,hc1⟩:=fq o1 e.symm;rw[hc']at hc1;simp only[bK,cU]at hc1;exact absurd hc1.2.1 (by decide)
   exact(keep t1 (fun _ x=>Or.inl x)).app (keep t2 (fun _ x=>Or.inr (Or.inl x)))
  ·intro k e;rcases hat with h|h
   ·exact Or.inl (a1 k (h▸e))
   ·rw[e]at h;simp only[bK]at h;exact Or.inr (Or.inr h)
def Zv(b:ByteArray):List eX×Int×Int:=
 if(PR.new.write b).1.close.1.err.1≠0 then([],(PR.new.write b).1.close.1.err.1,(PR.new.write b).1.close.1.err.2)
 else((PR.new.write b).2++(PR.new.write b).1.close.2,0,0)
end
section
variable{F F' G A B:Nat->Prop}{R:Nat}{w w' w'' wr w1:World}{s s':Src}{p:Ptr}{st:St}{c:Int}{a:Addr}{pt:Part}{v v1 v2:Value}{m:Rd}{N n:Nat}{r:PR}{l l1 l2:List eX}
theorem Frame.up{K:Nat}(fr:Frame F w w')(hF:∀k,F k->K<=k)(hK:K<=w.heap.size):Below K w w':=
 ⟨fr.os,fr.tape,fr.output,fr.size,fun k hk=>fr.block k (by omega) (fun x=>by have:=hF k x;omega)⟩
theorem P_{K:Nat}{row:Option Nat}(g:w.grownBy w' row)(hr:∀k,row=some k->K<=k)(hK:K<=w.heap.size):Below K w w':=
 ⟨g.os,g.tape,g.output,g.size,fun k hk=>g.block k (by omega) (fun e=>by have:=hr k e.symm;omega)⟩
theorem eG{K K':Nat}(h:Below K w w')(hK:K'<=K):Below K' w w':=⟨h.os,h.tape,h.output,h.size,fun k hk=>h.block k (by omega)⟩
theorem Qa{x y:PR×List eX}{F1 F2 A1 A2:Nat->Prop}{K:Nat}{w2 w3:World}(hK:K<=w2.heap.size)(an1:BM A1 w2 v1 x.2)(R_:∀k,A1 k->K<=k/\k<w2.heap.size/\¬F1 k)(XR:∀k,F1 k->K<=k)
  (an2:BM A2 w3 v2 y.2) (al2:nL F2 R w3 y.1) (lI:Frame F1 w2 w3) (g1:∀k,A2 k->Grow F1 w2 w3 k/\¬F2 k) (g2:∀k,F2 k->Grow F1 w2 w3 k) (hb:x.2.length+y.2.length<=68719476736):
  ∃v' w4 A,(Builtin.append_ #[47,47] 47 #[v1,v2]).run prog w3=.ok v' w4/\BM A w4 v' (x.2++y.2)/\nL F2 R w4 y.1/\Below K w2 w4/\(∀k,A k->K<=k/\¬F2 k)/\(∀k,F2 k->K<=k):=by
 have Zw:BM A1 w3 v1 x.2:=an1.old (fun k hk hA=>lI.block k hk (R_ k hA).2.2) (fun _ _ x=>x);obtain⟨v',w4,hrun,UW,gr⟩:=I3 Zw an2 hb;have hz:=lI.size;have hF2:∀k,F2 k->K<=k:=fun k hk=>(g2 k hk).elim (XR k) (fun x=>by omega);have hr:∀k,v1.ownBlock=some k->A1 k:=fun k e=>by obtain⟨cs,_,_,h⟩:=Zw;exact h k e
 have Zx:∀k,A1 k->¬F2 k:=fun k hA hF=>(g2 k hF).elim (R_ k hA).2.2 (fun x=>by have:=(R_ k hA).2.1;omega);have hlt:∀k,F2 k->k<w3.heap.size:=fun k hk=>by obtain⟨_,_,lV,_⟩:=al2;exact lV.lt k hk
 refine⟨v',w4,fun k=>A1 k\/A2 k\/k=w3.heap.size,hrun,UW,al2.keep (fun k hk=>gr.block k (hlt k hk) (fun e=>Zx k (hr k e.symm) hk)) gr.size,(lI.up XR hK).trans ((P_ gr (fun k e=>(R_ k (hr k e)).1) (by omega))),?_,hF2⟩;rintro k (h|h|h)
 ·exact⟨(R_ k h).1,Zx k h⟩
 ·exact⟨(g1 k h).1.elim (XR k) (fun x=>by omega),(g1 k h).2⟩
 ·exact⟨by omega,fun x=>by have:=hlt k x;omega⟩
theorem Qb(gl:Gl w a)(o:Obj):Gl (w.alloc o) a:=gl.frame (F:=fun _=>False) (Frame.below ((Below.refl _ _).alloc (au _) _)) (fun _ _ x=>x)
theorem I4{ops:Array Oper}{rest:List Oper}{o:Oper}{a:Act}{w:World}{Q:Exit->Act->World->Prop}(hgd:o.guard=none)(s x:Operand)(ho:o.op=Op.call {callee:=Callee.builtin Builtin.append,args:=#[s,x],argTypes:=#[47,47]})(hty:o.type=47)
  (v1 v2:Value) (hs:a.eval s=v1) (hx:a.eval x=v2) {v':Value} {w':World} (hr:(Builtin.append_ #[47,47] 47 #[v1,v2]).run prog w=.ok v' w') (h:wpList prog ops Q rest (a.put o.dst v') w'):wpList prog ops Q (o::rest) a w:=by
 refine wpList_plain hgd fun K hK=>?_;unfold Oper.wp execOp;simp only[ho,hty,resolve,invoke,builtin,Sem.run_bind,Sem.run_pure,dN,List.map_toArray,bN,cF,hs,hx,hr];exact hK _ _ h
end
section
variable{g:St->List eX}{s:ByteArray}{i:Nat}{pt jC:Part}{st gV:St}{no q c:Int}{S:Src}
theorem zv(h1:S.rest=s.extract i s.size)(hi:i<=s.size):S.took.2=cur s i/\(0<=cur s i->S.took.1.rest=s.extract (i+wid s i) s.size/\S.took.1.next=S.next+wid s i):=by
 have hz:S.rest.size=s.size-i:=by rw[h1];simp[bY]
 rw[Ch.jT]at h1;have hc:=uN s i 0;rw[bG]at hc;unfold Src.took;by_cases h0:i<s.size
 ·have hw:=yY (s:=s) (k:=i) (j:=0) (by omega);rw[bG]at hw;rw[if_neg (by omega),h1];have hz':0<(Ch.tail s i).size:=by rw[Ch.iU];omega
  unfold cur at hc;rw[if_pos hz',if_pos h0]at hc;unfold cur;rw[if_pos h0];by_cases ho:Ch.gb (Ch.tail s i) 0=true
  ·rw[if_pos ho]at hc ⊢;refine⟨hc,fun _=>?_⟩;simp only;have hw':(Utf8.decode (Ch.tail s i) 0).2=wid s i:=hw;rw[hw'];refine⟨?_,rfl⟩;rw[Ch.jT,Ch.Lh,<-Ch.jT]
  ·rw[if_neg ho]at hc ⊢;refine⟨hc,fun h=>?_⟩;rw[<-hc]at h;omega
 ·rw[if_pos (by omega)];unfold cur;rw[if_neg h0];exact⟨rfl,fun h=>by omega⟩
theorem Ax{o:St}(h:b_ pt q st c=⟨o,.stop⟩):o=st.dX:=by
 have key:∀(k:Pl) (st:St),step k q st c=⟨o,.stop⟩->o=st.dX:=by
  intro k st h;have:=Bu h;subst this;simp only[step]at h
  repeat' split at h
  all_goals first|(cases h;done)|(cases h;rfl)
 cases pt with
 |plain k=>exact key k st h
 |word l k=>
  cases l with
  |nil=>simp only[b_]at h;cases h
  |cons x l=>
   simp only[b_,lx]at h
   repeat' split at h
   all_goals cases h
 |name i k=>
  simp only[b_,stName,fC]at h
  repeat' split at h
  all_goals first|(cases h;done)|exact key k st h
 |ref i k=>
  simp only[b_,nG]at h;split at h
  ·split at h
   ·unfold ju at h;split at h<;>cases h
   ·cases h
  ·cases h
theorem zw(g:St->List eX)(s:ByteArray):∀(n i:Nat) (S:Src) (pt:Part) (st:St) (k:Nat),s.size-i<n->i<=s.size->S.rest=s.extract i s.size->S.next=(i:Int)->S.ended=true->sZ k pt st->
  (∃no q,(reads S pt st).ret=.fail no q/\runs g s i pt st=((reads S pt st).st.told,no,q))\/((reads S pt st).ret=.over/\∃gV,runs g s i pt st=(g gV,0,0)/\(reads S pt st).st=gV.dX):=by
 intro n;induction n with
 |zero=>intro i S pt st k h;omega
 |succ n ih=>
  intro i S pt st k hn hi hr hx he hl;obtain⟨h1,h2⟩:=zv hr hi;have hm:S.more=false:=by simp[Src.more,he]
  rw[oG hl hm,h1,hx];generalize hs:b_ pt i st (cur s i)=o;obtain⟨o,r⟩:=o;cases r with
  |go jC=>
   have hres:(b_ pt S.next st S.took.2).res=.go jC:=by rw[h1,hx,hs]
   have hk:=lA hl.sound hl.quote hres;have h0:0<=cur s i:=by
    by_cases h0:0<=cur s i
    ·exact h0
    ·exfalso;have De:cur s i= -1\/cur s i= -2:=by rcases rN h0 with⟨_,h⟩|⟨_,h⟩<;>omega
     exact lO pt i st (cur s i) hl.sound De hl.quote jC (by rw[hs])
   have hc:=eF h0;obtain⟨h3,h4⟩:=h2 h0;rw[eN hs h0];have hst:(b_ pt S.next st S.took.2).st=o:=by rw[h1,hx,hs]
   have hlim:=hl.step hres;rw[hst]at hlim;exact ih (i+wid s i) S.took.1 jC o (k+1) (by omega) (by omega) h3 (by rw[h4,hx];omega) ((nh S).1.trans he) hlim
  |stop=>
   refine Or.inr ⟨rfl,st,v_ hs,?_⟩;exact Ax hs
  |fail no q=>exact Or.inl ⟨no,q,rfl,fG hs⟩
theorem Mu:∀(n:Nat) (S:Src) (pt:Part) (st:St) (k:Nat),S.rest.size<n->sZ k pt st->S.ended=false->
  ((reads S pt st).ret=.more->reads {S with ended:=true} pt st=reads { (reads S pt st).s with ended:=true} (reads S pt st).pt (reads S pt st).st)/\
  (∀no q,(reads S pt st).ret=.fail no q->(reads {S with ended:=true} pt st).ret=.fail no q/\(reads {S with ended:=true} pt st).st=(reads S pt st).st):=by
 intro n;induction n with
 |zero=>intro S pt st k h;omega
 |succ n ih=>
  intro S pt st k hn hl he;by_cases hm:S.more=true
  ·rw[zt hm];exact⟨fun _=>rfl,fun _ _ e=>(by cases e)⟩
  ·have tY:S.more=false:=by simpa using hm
   have NQ:({S with ended:=true}:Src).more=false:=by simp[Src.more]
   have ht:({S with ended:=true}:Src).took=({S.took.1 with ended:=true},S.took.2):=by
    unfold Src.took;repeat' split
    all_goals rfl
   rw[oG hl tY,oG (s:={S with ended:=true}) hl NQ,ht];generalize hr:(b_ pt S.next st S.took.2).res=r;cases r with
   |go jC=>
    have hk:=lA hl.sound hl.quote hr;exact ih S.took.1 jC _ (k+1) (by omega) (hl.step hr) ((nh S).1.trans he)
   |stop=>exact⟨fun e=>(by cases e),fun _ _ e=>(by cases e)⟩
   |fail no q=>exact⟨fun e=>(by cases e),fun _ _ e=>⟨e,rfl⟩⟩
theorem FU(b:Bool):∀(n:Nat) (S:Src) (pt:Part) (st:St),lz n {S with closed:=b} pt st={lz n S pt st with s:={ (lz n S pt st).s with closed:=b}}:=by
 intro n;induction n with
 |zero=>intro S pt st;rfl
 |succ n ih=>
  intro S pt st;have ht:({S with closed:=b}:Src).took=({S.took.1 with closed:=b},S.took.2):=by
   unfold Src.took;repeat' split
   all_goals rfl
  have hm:({S with closed:=b}:Src).more=S.more:=rfl;simp only[lz,ht,hm];split
  ·rfl
  ·cases (b_ pt S.took.1.at_ st S.took.2).res with
   |go jC=>simp only[];exact ih _ _ _
   |stop=>rfl
   |fail no q=>rfl
end
def lB(s:ByteArray):List eX×Int×Int:=if(ee s).err≠0 then([],(ee s).err,(ee s).at_)else((ee s).l++(ee s).last,0,0)
theorem Tx:Rel Sc.zero St.zero:=⟨⟨rfl,rfl,fun h=>absurd rfl h⟩,rfl,rfl,rfl⟩
def kZ(b:ByteArray)(e:Bool):Src:={Src.zero 0 0 false with rest:=b,ended:=e}
theorem BS(b:ByteArray):runs (fun st=>st.told) b 0 (.plain .between) St.zero=((ee b).l,(ee b).err,(ee b).at_):=by
 have h:=BH (g:=fun st=>st.told) (s:=b) (fun x=>x.l) (fun x st he h=>h.tag.told) (b.size+1) Sc.zero St.zero rfl (aB _) (by show b.size<0+_;omega) Tx;have h2:runs (fun st=>st.told) b 0 (.plain .between) St.zero=(il b (b.size+1) Sc.zero).fin fun x=>x.l:=h;rw[h2];unfold Sc.fin ee;split
 ·rename_i he;have:=tL (fun st=>st.told) (s:=b) (b.size+1) Sc.zero St.zero rfl (aB _) (by show b.size<0+_;omega) Tx he;rw[he,this.2];rfl
 ·rfl
theorem Mv(b:ByteArray):runs (fun st=>st.dX.told) b 0 (.plain .between) St.zero=if(ee b).err=0 then((ee b).l++(ee b).last,0,0)else((ee b).l,(ee b).err,(ee b).at_):=
 BH (g:=fun st=>st.dX.told) (s:=b) (fun x=>x.l++x.last) (fun x st he h=>Ma x st he h) (b.size+1) Sc.zero St.zero rfl (aB _) (by show b.size<0+_;omega) Tx
theorem Kk{S:Src}{pt:Part}{st:St}{k:Nat}{no q:Int}(hl:sZ k pt st)(h:(reads S pt st).ret=.fail no q):no≠0:=by
 have key:∀(n:Nat) (S:Src) (pt:Part) (st:St),(lz n S pt st).ret=.fail no q->no≠0:=by
  intro n;induction n with
  |zero=>intro S pt st h;simp only[lz]at h;cases h
  |succ n ih=>
   intro S pt st h;simp only[lz]at h;split at h
   ·cases h
   ·have FT:=s6 pt S.took.1.at_ st S.took.2;cases hr:(b_ pt S.took.1.at_ st S.took.2).res with
    |go pt2=>rw[hr]at h;exact ih _ _ _ h
    |stop=>rw[hr]at h;cases h
    |fail a b=>rw[hr]at h;cases h;exact FT.fail _ _ hr
 exact key _ S pt st h
theorem wY(b:ByteArray):((ee b).err=0->(reads (kZ b true) (.plain .between) St.zero).ret=.over/\(reads (kZ b true) (.plain .between) St.zero).st.told=(ee b).l++(ee b).last)/\
  ((ee b).err≠0->(reads (kZ b true) (.plain .between) St.zero).ret=.fail (ee b).err (ee b).at_/\(reads (kZ b true) (.plain .between) St.zero).st.told=(ee b).l):=by
 have hr:(kZ b true).rest=b.extract 0 b.size:=by show b=_;simp
 have FT:=fun no q (h:(reads (kZ b true) (.plain .between) St.zero).ret=.fail no q)=>h;have h:=zw (fun st=>st.dX.told) b (b.size+1) 0 (kZ b true) (.plain .between) St.zero 0 (by omega) (aB _) hr rfl rfl (FO 0);have h2:=zw (fun st=>st.told) b (b.size+1) 0 (kZ b true) (.plain .between) St.zero 0 (by omega) (aB _) hr rfl rfl (FO 0);rw[Mv]at h;rw[BS]at h2;constructor
 ·intro he;rw[if_pos he]at h;rcases h with⟨no,q,h1,h3⟩|⟨h1,gV,h3,h4⟩
  ·exfalso;rcases h2 with⟨no',q',k1,k3⟩|⟨k1,_⟩
   ·have hno:=Kk (FO 0) k1;simp only[cq]at k3;exact hno (k3.2.1.symm.trans he)
   ·rw[h1]at k1;cases k1
  ·refine⟨h1,?_⟩;rw[h4];exact(aL Prod.fst h3).symm
 ·intro he;rw[if_neg he]at h;rcases h2 with⟨no,q,k1,k3⟩|⟨k1,gV,k3,k4⟩
  ·simp only[cq]at k3;exact⟨by rw[k1,k3.2.1,k3.2.2],k3.1.symm⟩
  ·simp only[cq]at k3;exact absurd k3.2.1 he
theorem Qc(t:ByteArray)(h0:0<t.size)(h:Tk.full t=false):Ch.gb t 0=false:=by
 apply Ch.xU;unfold Tk.full at h;rw[if_neg (by omega)]at h;rw[decode_at,nY _ _ _ _ _ (by omega) (bw _) (bw _) (bw _) (bw _)];simp only[oy,dh,cR]at h;rw[Nat.sub_zero];have h1:=h.1;generalize (t.get! 0).toNat=b0 at*
 unfold wu;by_cases a1:firstT b0=240
 ·rw[a1]at h1;omega
 by_cases a2:firstT b0=241
 ·rw[if_neg a1,if_pos a2]
 rw[if_neg a1,if_neg a2];unfold slowN;rw[if_pos (by omega)]
theorem I5{S:Src}(h:S.more=true):S.took.2= -1\/S.took.2= -2:=by
 simp only[Src.more,aT,Bool.not_eq_true']at h;unfold Src.took;by_cases h0:S.rest.size=0
 ·rw[if_pos h0];exact Or.inl rfl
 ·rw[if_neg h0,if_neg (by rw[Qc _ (by omega) h.2];simp)];exact Or.inr rfl
theorem Mw{pt:Part}{q:Int}{st o:St}{c:Int}{no p:Int}(h:b_ pt q st c=⟨o,.fail no p⟩):o.told=st.told:=by
 have key:∀(k:Pl) (st:St),step k q st c=⟨o,.fail no p⟩->o.told=st.told:=by
  intro k st h;cases k<;>simp only[step,jo,fC,jH,gW,iC,fw,fx]at h<;>(repeat' split at h)<;>first|(cases h;done)|(cases h;rfl)
 cases pt with
 |plain k=>exact key k st h
 |word l k=>
  cases l with
  |nil=>simp only[b_]at h;cases h
  |cons x l=>
   simp only[b_,lx]at h
   repeat' split at h
   all_goals first|(cases h;done)|(cases h;rfl)
 |name i k=>
  simp only[b_,stName,fC]at h
  repeat' split at h
  all_goals first|(cases h;done)|exact key k st h|(cases h;rfl)
 |ref i k=>
  simp only[b_,nG]at h;split at h
  ·split at h
   ·unfold ju at h;split at h<;>cases h
    rfl
   ·cases h
  ·cases h;rfl
theorem I6(g:St->List eX)(s:ByteArray):∀(n i:Nat) (S:Src) (pt:Part) (st:St) (k:Nat),s.size-i<n->i<=s.size->S.rest=s.extract i s.size->S.next=(i:Int)->S.ended=false->sZ k pt st->(reads S pt st).ret=.more->
  ∃j,j<=s.size/\runs g s i pt st=runs g s j (reads S pt st).pt (reads S pt st).st/\(reads S pt st).s.rest=s.extract j s.size:=by
 intro n;induction n with
 |zero=>intro i S pt st k h;omega
 |succ n ih=>
  intro i S pt st k hn hi hr hx he hl mq;by_cases hm:S.more=true
  ·rw[zt hm];exact⟨i,hi,rfl,hr⟩
  ·have tY:S.more=false:=by simpa using hm
   obtain⟨h1,h2⟩:=zv hr hi;rw[oG hl tY,h1,hx]at mq ⊢;generalize hs:b_ pt i st (cur s i)=o at*
   obtain⟨o,r⟩:=o;cases r with
   |go jC=>
    have hres:(b_ pt S.next st S.took.2).res=.go jC:=by rw[h1,hx,hs]
    have h0:0<=cur s i:=by
     by_cases h0:0<=cur s i
     ·exact h0
     ·exfalso;have De:cur s i= -1\/cur s i= -2:=by rcases rN h0 with⟨_,h⟩|⟨_,h⟩<;>omega
      exact lO pt i st (cur s i) hl.sound De hl.quote jC (by rw[hs])
    have hc:=eF h0;obtain⟨h3,h4⟩:=h2 h0;rw[eN hs h0];have hst:(b_ pt S.next st S.took.2).st=o:=by rw[h1,hx,hs]
    have hlim:=hl.step hres;rw[hst]at hlim;exact ih (i+wid s i) S.took.1 jC o (k+1) (by omega) (by omega) h3 (by rw[h4,hx];omega) ((nh S).1.trans he) hlim mq
   |stop=>cases mq
   |fail no q=>cases mq
theorem FV{S:Src}{pt:Part}{st:St}:(reads S pt st).s.no=S.no/\(reads S pt st).s.xq=S.xq:=by
 have key:∀(n:Nat) (S:Src) (pt:Part) (st:St),(lz n S pt st).s.no=S.no/\(lz n S pt st).s.xq=S.xq:=by
  intro n;induction n with
  |zero=>intro S pt st;exact⟨rfl,rfl⟩
  |succ n ih=>
   intro S pt st;have hf:=nh S;simp only[lz];split
   ·exact⟨rfl,rfl⟩
   ·cases (b_ pt S.took.1.at_ st S.took.2).res with
    |go jC=>
     have:=ih S.took.1 jC (b_ pt S.took.1.at_ st S.took.2).st;exact⟨this.1.trans hf.2.1,this.2.trans hf.2.2.1⟩
    |stop=>exact⟨hf.2.1,hf.2.2.1⟩
    |fail no q=>exact⟨hf.2.1,hf.2.2.1⟩
 exact key _ S pt st
def ko(b:ByteArray):Rd:=reads (kZ b false) (.plain .between) St.zero
theorem FW(b:ByteArray):
  ((ko b).ret=.more/\(ko b).st.told=(ee b).l/\reads (kZ b true) (.plain .between) St.zero=reads { (ko b).s with ended:=true} (ko b).pt (ko b).st/\(∃n,sZ n (ko b).pt (ko b).st)/\(ko b).s.more=true/\(ko b).s.no=0/\(ko b).s.xq=0/\(ko b).s.closed=false/\(ko b).s.now=.nilFunc)\/
  ((ko b).ret=.fail (ee b).err (ee b).at_/\(ee b).err≠0/\(ko b).st.told=(ee b).l/\(ko b).s.closed=false):=by
 have hw:=wY b;have hcut:=BP ⟨#[]⟩ (b.size+1) (kZ b false) (.plain .between) St.zero 0 (by show b.size<_;omega) (FO 0) rfl;have hend:=Mu (b.size+1) (kZ b false) (.plain .between) St.zero 0 (by show b.size<_;omega) (FO 0) rfl;have UX:=I6 (fun st=>st.told) b (b.size+1) 0 (kZ b false) (.plain .between) St.zero 0 (by omega) (aB _) (by show b=_;simp) rfl rfl (FO 0);have e1:({kZ b false with ended:=true}:Src)=kZ b true:=rfl;rw[e1]at hend;rw[BS]at UX;have hno:=fun no q=>Kk (S:=kZ b false) (no:=no) (q:=q) (FO 0);unfold ko;generalize reads (kZ b false) (.plain .between) St.zero=m at*
 cases mq:m.ret with
 |more=>
  obtain⟨c1,stay⟩:=hcut.more mq;have e2:=hend.1 mq;obtain⟨n,hl,_⟩:=stay.Kf;obtain⟨j,hj,hr,Zy⟩:=UX mq;refine Or.inl ⟨rfl,?_,e2,⟨n,hl⟩,stay.more,stay.no,stay.xq,stay.closed,stay.now⟩;obtain⟨h1,_⟩:=zv Zy hj;have U9:=I5 stay.more;rw[h1]at U9;generalize hs:b_ m.pt j m.st (cur b j)=o;obtain⟨o,r⟩:=o;cases r with
  |go jC=>exact absurd (by rw[hs]) (lO m.pt j m.st (cur b j) hl.sound U9 hl.quote jC)
  |stop=>
   rw[v_ hs]at hr;exact(aL Prod.fst hr).symm
  |fail no q=>
   rw[fG hs]at hr;rw[<-Mw hs];exact(aL Prod.fst hr).symm
 |over=>exact absurd mq hcut.over
 |fail no q=>
  obtain⟨f1,f2⟩:=hend.2 no q mq;have hn:=hno no q mq;have Qd:(ee b).err≠0:=by
   intro e;have:=(hw.1 e).1;rw[f1]at this;cases this
  obtain⟨w1,w2⟩:=hw.2 Qd;rw[f1]at w1;cases w1;rw[f2]at w2;exact Or.inr ⟨rfl,Qd,w2,(hcut.fail _ _ mq).2.2⟩
theorem Ty(b:ByteArray):({PR.new.s with rest:=PR.new.s.rest++b}:Src).bare=kZ b false:=by
 have h:(⟨#[]⟩:ByteArray)++b=b:=by
  apply cN;simp[cY]
 simp only[PR.new,Src.zero,Src.bare,kZ,h]
theorem BT(b:ByteArray):PR.new.write b=tells (ko b):=by
 unfold PR.write;rw[if_neg (by rintro(h|h);cases h;exact h rfl)];show tells (reads ({PR.new.s with rest:=PR.new.s.rest++b}:Src).bare (.plain .between) St.zero)=_;rw[Ty];rfl
theorem BU(b:ByteArray):(PR.new.write b).2=(ee b).l:=by
 rw[BT];unfold tells;rcases FW b with⟨h1,h2,_⟩|⟨h1,_,h2,_⟩
 ·rw[h1];exact h2
 ·rw[h1];exact h2
theorem Dw(S:Src)(pt:Part)(st:St)(b:Bool):reads {S with closed:=b} pt st={reads S pt st with s:={ (reads S pt st).s with closed:=b}}:=FU b _ S pt st
theorem Mx(T:List eX)(S:Src)(pt:Part)(st:St):reads S pt (st.pre T)={reads S pt st with st:=(reads S pt st).st.pre T}:=P0 T _ S pt st
theorem BV(b:ByteArray):(PR.new.write b).1.close.2=(ee b).last/\(PR.new.write b).1.close.1.err=((ee b).err,(ee b).at_)/\(PR.new.write b).1.close.1.s.closed=true:=by
 have hw:=wY b;rw[BT];rcases FW b with⟨h1,h2,h3,⟨n,hl⟩,hm,hno,aa4,zS,PL⟩|⟨h1,h2,h3,zS⟩
 ·unfold tells;rw[h1];simp only;unfold PR.close;simp only;rw[zS,if_neg (show ¬(false=true) by simp),if_neg (show ¬((ko b).s.no≠0) by rw[hno];simp)];have hb:({ (ko b).s with closed:=true,ended:=true}:Src).bare={ ({ (ko b).s with ended:=true}:Src)with closed:=true}:=by simp only[Src.bare,PL]
  have hst:(ko b).st=({ (ko b).st with told:=[]}:St).pre (ko b).st.told:=by simp[St.pre]
  rw[h3]at hw;rw[hst,Mx]at hw;simp only at hw;rw[hb,Dw];have UY:=FV (S:={ (ko b).s with ended:=true}) (pt:=(ko b).pt) (st:={ (ko b).st with told:=[]});generalize reads { (ko b).s with ended:=true} (ko b).pt { (ko b).st with told:=[]}=m at*
  unfold shut tells;by_cases he:(ee b).err=0
  ·obtain⟨w1,w2⟩:=hw.1 he;simp only[w1];have Zz:(ko b).st.told++m.st.told=(ee b).l++(ee b).last:=w2;rw[h2]at Zz;refine⟨List.append_cancel_left Zz,?_,rfl⟩;have hat:(ee b).at_=0:=by
    have:=tL (fun st=>st.told) (s:=b) (b.size+1) Sc.zero St.zero rfl (aB _) (by show b.size<0+_;omega) Tx he;exact this.2
   unfold PR.err Src.zero;simp only[if_true];rw[UY.1,UY.2,he,hat];simp only[hno,aa4]
  ·obtain⟨w1,w2⟩:=hw.2 he;simp only[w1];have Zz:(ko b).st.told++m.st.told=(ee b).l:=w2;rw[h2]at Zz;have hnil:m.st.told=[]:=by simpa using Zz
   refine⟨?_,rfl,rfl⟩;rw[hnil];unfold Sc.last;rw[if_pos (Or.inl he)]
 ·unfold tells;rw[h1];simp only;unfold PR.close;simp[Src.zero,zS,h2,PR.err,Sc.last]
theorem Tz(b:ByteArray):Zv b=lB b:=by
 obtain⟨h1,h2,_⟩:=BV b;unfold Zv lB;rw[h2,BU,h1]
end K
end Go.Proofs.YtclgfepngpeifaaGreatDoor
namespace Go.Proofs.YtclgfepngpeifaaGreatDoor
namespace K
open Go.RowKit Go.Lib Tryz
structure Nd where
 name:List UInt8
 attrs:mn
 text:List UInt8
 kids:List Nat
 up:Int
def Nd.kid(n:Nd)(j:Nat):Nd:={n with kids:=n.kids++[j]}
def fJ:List Nd->Nat->Nat->List Nd
 |[],_,_=>[]
 |n::l,0,j=>n.kid j::l
 |n::l,k+1,j=>n::fJ l k j
structure Gr where
 nodes:List Nd
 stack:List Nat
def iD:List Nat->Int
 |[]=> -1
 |k::_=>k
def Gr.put(g:Gr)(n:Nd):Gr:=
 match g.stack with
 |[]=>{g with nodes:=g.nodes++[{n with up:= -1}]}
 |k::_=>{g with nodes:=fJ g.nodes k g.nodes.length++[{n with up:=(k:Int)}]}
def elemOf(t:eX):Nd:=⟨t.name,t.attrs,[],[],0⟩
def ja(t:eX):Nd:=⟨[],[],t.text,[],0⟩
def gC(l:List UInt8):Bool:=l.all fun c=>iQ c.toNat
def Gr.named(g:Gr)(k:Nat)(n:List UInt8):Bool:=match g.nodes[k]? with
 |some m=>m.name==n
 |none=>false
def Gr.take(g:Gr)(t:eX):Int×Gr:=
 if t.kind=1 then
  if g.stack=[]/\g.nodes≠[]then(7,g)
  else if 30<=g.stack.length then(8,g)
  else(0,{ (g.put (elemOf t))with stack:=g.nodes.length::g.stack})
 else if t.kind=2 then
  match g.stack with
  |[]=>(6,g)
  |k::st=>if g.named k t.name=true then(0,{g with stack:=st})else(6,g)
 else match g.stack with
  |[]=>if gC t.text=true then(0,g)else(7,g)
  |_::_=>(0,g.put (ja t))
def grow:Gr->List eX->Int×Int×Gr
 |g,[]=>(0,0,g)
 |g,t::l=>if(g.take t).1≠0 then((g.take t).1,t.at_,g)else grow (g.take t).2 l
def Gr.zero:Gr:=⟨[],[]⟩
def eJ(s:ByteArray):List Nd×Int×Int:=
 if(grow Gr.zero ((ee s).l++(ee s).last)).1≠0 then([],(grow Gr.zero ((ee s).l++(ee s).last)).1,(grow Gr.zero ((ee s).l++(ee s).last)).2.1)
 else if(ee s).err≠0 then([],(ee s).err,(ee s).at_)
 else if(grow Gr.zero ((ee s).l++(ee s).last)).2.2.stack≠[]\/(grow Gr.zero ((ee s).l++(ee s).last)).2.2.nodes=[]then([],3,s.size)
 else((grow Gr.zero ((ee s).l++(ee s).last)).2.2.nodes,0,0)
theorem fK:∀(l:List Nd) (k j:Nat),(fJ l k j).length=l.length
 |[],_,_=>rfl
 |n::l,0,j=>rfl
 |n::l,k+1,j=>by simp only[fJ,aC,fK l k j]
theorem mG:∀(l:List Nd) (k j i:Nat),(fJ l k j)[i]?=if i=k then(l[i]?).map (fun n=>n.kid j)else l[i]?
 |[],k,j,i=>by simp[fJ]
 |n::l,0,j,0=>by simp[fJ]
 |n::l,0,j,i+1=>by simp[fJ]
 |n::l,k+1,j,0=>by simp[fJ]
 |n::l,k+1,j,i+1=>by simp only[fJ,List.getElem?_cons_succ,mG l k j i,Nat.add_right_cancel_iff]
def zx(nodes:List Nd):List Nat->Prop
 |[]=>True
 |k::st=>(∃n,nodes[k]?=some n/\n.up=iD st)/\zx nodes st
structure Gr.Wf(g:Gr):Prop where
 Lr:zx g.nodes g.stack
 deep:g.stack.length<=30
theorem Gr.Wf.zero:Gr.zero.Wf:=⟨trivial,aB _⟩
theorem zx.lt{nodes:List Nd}:∀{st:List Nat},zx nodes st->∀k∈st,k<nodes.length
 |[],_,k,hk=>by simp at hk
 |j::st,h,k,hk=>by
  rcases List.mem_cons.1 hk with e|e
  ·obtain⟨⟨n,hn,_⟩,_⟩:=h;rw[e];exact(List.getElem?_eq_some_iff.1 hn).1
  ·exact zx.lt h.2 k e
theorem zx.mono{nodes Qe:List Nd}(hm:∀(k:Nat) n,nodes[k]?=some n->∃n',Qe[k]?=some n'/\n'.up=n.up):∀{st:List Nat},zx nodes st->zx Qe st
 |[],_=>trivial
 |k::st,⟨⟨n,hn,hu⟩,h⟩=>by
  obtain⟨n',hn',hu'⟩:=hm k n hn;exact⟨⟨n',hn',hu'.trans hu⟩,zx.mono hm h⟩
theorem zy(l:List Nd)(n:Nd)(k:Nat)(m:Nd)(h:l[k]?=some m):(l++[n])[k]?=some m:=by
 have:=(List.getElem?_eq_some_iff.1 h).1;rw[aU this];exact h
theorem lW(g:Gr)(n:Nd):(g.put n).nodes.length=g.nodes.length+1:=by unfold Gr.put;split<;>simp[fK]
theorem mH(g:Gr)(n:Nd):(g.put n).stack=g.stack:=by unfold Gr.put;split<;>simp_all
theorem FX(g:Gr)(n:Nd)(k:Nat)(m:Nd)(h:g.nodes[k]?=some m):∃m',(g.put n).nodes[k]?=some m'/\m'.up=m.up/\m'.name=m.name/\m'.attrs=m.attrs/\m'.text=m.text:=by
 unfold Gr.put;split
 ·exact⟨m,zy _ _ _ _ h,rfl,rfl,rfl,rfl⟩
 ·rename_i j st hs;have e:=mG g.nodes j g.nodes.length k;rw[h]at e;by_cases hk:k=j
  ·rw[if_pos hk]at e;exact⟨_,zy _ _ _ _ e,rfl,rfl,rfl,rfl⟩
  ·rw[if_neg hk]at e;exact⟨m,zy _ _ _ _ e,rfl,rfl,rfl,rfl⟩
theorem qU(g:Gr)(n:Nd):(g.put n).nodes[g.nodes.length]?=some {n with up:=iD g.stack}:=by
 unfold Gr.put;split
 ·rename_i hs;rw[hs];simp[iD]
 ·rename_i j st hs;rw[hs];have:=fK g.nodes j g.nodes.length;rw[aW (by omega)];simp[this,iD]
theorem Gr.Wf.put{g:Gr}(h:g.Wf)(n:Nd):zx (g.put n).nodes g.stack:=
 zx.mono (fun k m hm=>by obtain⟨m',a,b,_⟩:=FX g n k m hm;exact⟨m',a,b⟩) h.Lr
theorem Gr.Wf.take{g:Gr}(h:g.Wf)(t:eX):(g.take t).2.Wf:=by
 unfold Gr.take;split
 ·split
  ·exact h
  ·split
   ·exact h
   ·rename_i _ hd;refine⟨⟨⟨_,qU g _,rfl⟩,h.put _⟩,?_⟩;show g.stack.length+1<=30;omega
 ·split
  ·split
   ·exact h
   ·rename_i k st hs;split
    ·have hu:=h.Lr;have hd:=h.deep;rw[hs]at hu hd;exact⟨hu.2,by show st.length<=30;simp only[aC]at hd;omega⟩
    ·exact h
  ·split
   ·split<;>exact h
   ·refine⟨?_,?_⟩
    ·simp only[mH];exact h.put _
    ·simp only[mH];exact h.deep
theorem Gr.Wf.top{g:Gr}(h:g.Wf){k:Nat}{st:List Nat}(hs:g.stack=k::st):∃n,g.nodes[k]?=some n/\n.up=iD st/\k<g.nodes.length:=by
 have hu:=h.Lr;rw[hs]at hu;obtain⟨⟨n,hn,e⟩,_⟩:=hu;exact⟨n,hn,e,(List.getElem?_eq_some_iff.1 hn).1⟩
end K
end Go.Proofs.YtclgfepngpeifaaGreatDoor
namespace Go.Proofs.YtclgfepngpeifaaGreatDoor
namespace K
open Go.RowKit Go.Maps Go.Lib Tryz
section
variable{F F' G A B:Nat->Prop}{R:Nat}{w w' w'' wr w1:World}{a:Addr}{v v1 v2:Value}{N n:Nat}{l l1 l2:List eX}
def l7(t:eX)(v:Value):Value:=.agg #[.int .i64 t.kind,eu t.name,v,eu t.text,.int .i64 t.at_]
end
end K
end Go.Proofs.YtclgfepngpeifaaGreatDoor
