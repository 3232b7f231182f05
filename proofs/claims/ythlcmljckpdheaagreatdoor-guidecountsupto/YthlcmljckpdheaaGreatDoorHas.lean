import Derived.Test.YthlcmljckpdheaaGreatDoorHA
import Derived.Deep.MidRow
import Derived.Laws.StructEq
import Derived.BigQuiet
import Derived.Test.YthlcmljckpdheaaGreatDoorHaq
import Derived.Test.YthlcmljckpdheaaGreatDoorHar
import Derived.Test.YthlcmljckpdheaaGreatDoorHap
set_option linter.unusedVariables false
set_option linter.unusedSimpArgs false
set_option maxHeartbeats 32000000
set_option maxRecDepth 100000
namespace Go.Proofs.YthlcmljckpdheaaGreatDoor
namespace K
open Go.RowKit Go.Maps Go.Lib Tryz
section
variable{F F' G:Nat->Prop}{R:Nat}{w w' w'' wr:World}{s s':Src}{p:jl}{st:St}{c:Int}{a:Addr}{pt:Part}{v:Value}{m:Rd}{N n:Nat}
abbrev fK:Value:=.slice none 0 0
def Told(G:Nat->Prop)(R:Nat)(w:World)(av:Value)(k:Nat):Prop:=G k/\k≠R/\((∃cur,w.heap[k]?=some (.cells cur 67 (0,0)))\/((∃cur,w.heap[k]?=some (.cells cur 326 (0,0)))/\av.ownBlock≠some k))
def Rest(G:Nat->Prop)(R:Nat)(w:World)(av:Value)(k:Nat):Prop:=G k/\¬Told G R w av k
def Ba(A:Nat->Prop)(w:World)(v:Value)(l:List Tok):Prop:=∃cs,w.ownsRow 0 67 5 v l.length cs/\lH A 0 w fK l cs/\∀k,v.ownBlock=some k->A k
theorem y7{k:Nat}{t:TypeId}{cur:Array Value}{av:Value}(h:w.heap[k]?=some (.cells cur t (0,0)))(h1:t≠67)(h2:t=326->av.ownBlock=some k):¬Told G R w av k:=by
 rintro⟨_,_,⟨c,hc⟩|⟨⟨c,hc⟩,hn⟩⟩
 ·rw[h]at hc;simp only[aX,cZ]at hc;exact h1 hc.2.1
 ·rw[h]at hc;simp only[aX,cZ]at hc;exact hn (h2 hc.2.1)
theorem lH.free{l:List Tok}{cs:List Value}{av:Value}(h:lH G R w av l cs)(lo:Low G)(hk:∀k,k≠R->w'.heap[k]?=w.heap[k]?):lH (Told G R w av) 0 w' fK l cs:=by
 induction h with
 |nil=>exact .nil
 |cons t v l cs ho hf hl ih=>
  refine .cons t v l cs (eH ho fun k hv=>hk k (hf k hv).2.1) (fun k hv=>?_) ih;obtain⟨cur,hc⟩:=fW ho hv;refine⟨⟨(hf k hv).1,(hf k hv).2.1,Or.inr ⟨⟨cur,hc⟩,(hf k hv).2.2⟩⟩,?_,iL k⟩;intro e;exact lo k (by omega) (hf k hv).1
theorem fV.release(h:fV G R w s p st)(lo:Low G):
  fV (Rest G R w p.d_) R (w.setCell ⟨R,5,none⟩ fK) s {p with told:=fK} {st with told:=[]}/\Ba (Told G R w p.d_) (w.setCell ⟨R,5,none⟩ fK) p.told st.told:=by
 have hk:∀k,k≠R->(w.setCell ⟨R,5,none⟩ fK).heap[k]?=w.heap[k]?:=fun k hk=>ae _ _ _ _ hk;have hsz:(w.setCell ⟨R,5,none⟩ fK).heap.size=w.heap.size:=by simp[World.setCell]
 have hb:=fe (i:=5) h.blk fK;obtain⟨cs,h1,h2⟩:=h.own.told;refine⟨⟨?_,⟨h.jP,fun x=>x.2.1 rfl⟩,fun k x=>by rw[hsz];exact h.lt k x.1,?_⟩,cs,eH h1 fun k e=>hk k (h.own.iy k e).2,h2.free lo hk,fun k e=>?_⟩
 ·rw[hb];rfl
 ·refine⟨fun i=>eH (h.own.run i) fun k e=>hk k (h.own.jE i k e).2,fun i k e=>?_,h.own.apart,⟨[],ly _ _ _,.nil⟩,fun k e=>absurd e (iL k),eH h.own.d_ fun k e=>hk k (h.own.fg k e).2,fun k e=>?_,?_⟩
  ·obtain⟨cur,hc⟩:=fW (h.own.run i) e;exact⟨⟨(h.own.jE i k e).1,y7 hc (by decide) (fun e=>absurd e (by decide))⟩,(h.own.jE i k e).2⟩
  ·obtain⟨cur,hc⟩:=fW h.own.d_ e;exact⟨⟨(h.own.fg k e).1,y7 hc (by decide) (fun _=>e)⟩,(h.own.fg k e).2⟩
  ·rcases h.own.names with hn|⟨b,x1,x2,x3,x4⟩
   ·exact Or.inl hn
   ·refine Or.inr ⟨b,x1,⟨x2,?_⟩,x3,yw x4 (hk b x3)⟩;obtain⟨es,cl,hm,_⟩:=x4;rintro⟨_,_,⟨c,hc⟩|⟨⟨c,hc⟩,_⟩⟩
    ·rw[hm]at hc;cases hc
    ·rw[hm]at hc;cases hc
 ·obtain⟨cur,hc⟩:=fW h1 e;exact⟨(h.own.iy k e).1,(h.own.iy k e).2,Or.inl ⟨cur,hc⟩⟩
theorem gG.release(h:gG G R w v pt){av:Value}(hk:∀k,k≠R->w'.heap[k]?=w.heap[k]?):gG (Rest G R w av) R w' v pt:=by
 have bx:∀{b x t},qh G R w b x t->t≠67->t≠326->qh (Rest G R w av) R w' b x t:=fun h h1 h2=>⟨(hk _ h.2.2).trans h.1,⟨h.2.1,y7 h.1 h1 (fun e=>absurd e h2)⟩,h.2.2⟩
 cases pt with
 |plain k=>exact h
 |word l k=>obtain⟨b1,b2,e,x1,x2⟩:=h;exact⟨b1,b2,e,bx x1 (by decide) (by decide),bx x2 (by decide) (by decide)⟩
 |name i k=>obtain⟨b1,b2,b3,e,x1,x2,x3⟩:=h;exact⟨b1,b2,b3,e,bx x1 (by decide) (by decide),bx x2 (by decide) (by decide),bx x3 (by decide) (by decide)⟩
 |ref i k=>obtain⟨b1,b2,b3,e,x1,x2,x3⟩:=h;exact⟨b1,b2,b3,e,bx x1 (by decide) (by decide),bx x2 (by decide) (by decide),bx x3 (by decide) (by decide)⟩
def Src.zero(no xe:Int)(closed:Bool):Src:=⟨⟨#[]⟩,0,0,false,.nilFunc,no,xe,closed⟩
def jl.zero:jl:=⟨fK,fun _=>fK,fK,.map none⟩
def St.zero:St:=⟨fun _=>[],fun _=>0,0,[],[],0,[]⟩
theorem Own.zero(F:Nat->Prop)(R:Nat)(w:World):Own F R w jl.zero St.zero:=
 ⟨fun _=>ly w 5 1,fun _ k e=>absurd e (iL k),fun _ _ k _ e=>absurd e (iL k),⟨[],ly w 67 5,.nil⟩,fun k e=>absurd e (iL k),ly w 326 2,fun k e=>absurd e (iL k),Or.inl ⟨rfl,rfl⟩⟩
structure PR where
 s:Src
 pt:Option Part
 st:St
def oD(F:Nat->Prop)(R:Nat)(w:World)(r:PR):Prop:=
 ∃v p,fV F R w {r.s with now:=v} p r.st/\match r.pt with|some pt=>gG F R w v pt|none=>v=.nilFunc
def tells(m:Rd):PR×List Tok:=
 match m.ret with
 | .more=>(⟨m.s,some m.pt,{m.st with told:=[]}⟩,m.st.told)
 | .over=>(⟨m.s,none,{m.st with told:=[]}⟩,m.st.told)
 | .fail no q=>(⟨Src.zero no q m.s.closed,none,St.zero⟩,m.st.told)
def jn(F:Nat->Prop)(R:Nat)(w:World)(x:PR×List Tok)(e:Ending)(w':World):Prop:=
 ∃(v:Value) (A F':Nat->Prop),e=.returned v/\Ba A w' v x.2/\oD F' R w' x.1/\Frame F w w'/\(∀k,A k->Grow F w w' k/\¬F' k)/\(∀k,F' k->Grow F w w' k)
theorem Ba.frame{A:Nat->Prop}{l:List Tok}(h:Ba A w v l)(hk:∀k,A k->w'.heap[k]?=w.heap[k]?):Ba A w' v l:=by
 obtain⟨cs,h1,h2,h3⟩:=h;exact⟨cs,eH h1 fun k e=>hk k (h3 k e),h2.frame fun k n xs v ho hv a b c=>⟨hk k a,a,c⟩,h3⟩
theorem C5{w1 w4:World}{s1:Src}{p1 p':jl}{fI:St}{x:PR}{v':Value}(sY:RG F R w s1 p1 fI w1)(lo:Low (Grow F w w1))
  (r4:RG (Rest (Grow F w w1) R w1 p1.d_) R (w1.setCell ⟨R,5,none⟩ fK) {x.s with now:=v'} p' x.st w4)
  (hx:match x.pt with|some pt=>gG (Grow (Rest (Grow F w w1) R w1 p1.d_) (w1.setCell ⟨R,5,none⟩ fK) w4) R w4 v' pt|none=>v'=.nilFunc):
  jn F R w (x,fI.told) (.returned p1.told) w4:=by
 have hk:∀k,k≠R->(w1.setCell ⟨R,5,none⟩ fK).heap[k]?=w1.heap[k]?:=fun k hk=>ae _ _ _ _ hk;have hsz:(w1.setCell ⟨R,5,none⟩ fK).heap.size=w1.heap.size:=by simp[World.setCell]
 have hz:=sY.2.size;have Uv:=r4.2.size;obtain⟨rr,an⟩:=sY.1.release lo;refine⟨p1.told,Told (Grow F w w1) R w1 p1.d_,Grow (Rest (Grow F w w1) R w1 p1.d_) (w1.setCell ⟨R,5,none⟩ fK) w4,rfl,?_,⟨v',p',r4.1,hx⟩,?_,?_,?_⟩
 ·refine an.frame fun k hA=>r4.2.block k (by rw[hsz];exact sY.1.lt k hA.1) (fun x=>x.2 hA)
 ·refine⟨r4.2.os.trans sY.2.os,r4.2.tape.trans sY.2.tape,r4.2.output.trans sY.2.output,by omega,fun k hl hf=>?_⟩;have hkR:k≠R:=fun e=>by
   subst e;rcases sY.1.jP with x|x
   ·exact hf x
   ·omega
  rw[r4.2.block k (by omega) (fun x=>x.1.elim hf (fun y=>by omega)),hk k hkR];exact sY.2.block k hl hf
 ·intro k hA;refine⟨hA.1.elim Or.inl (fun y=>Or.inr ⟨y.1,by omega⟩),?_⟩;rintro(y|y)
  ·exact y.2 hA
  ·have:=sY.1.lt k hA.1;omega
 ·rintro k (y|y)
  ·exact y.1.elim Or.inl (fun z=>Or.inr ⟨z.1,by omega⟩)
  ·exact Or.inr ⟨by omega,y.2⟩
theorem Fl(h:fV F R w s p st)(hz:s.rest.size<=1099511627776):Z4 63 #[Z8 R] w fun e w'=>e=.returned (.tuple #[])/\RF F R w s p st w':=by
 have c0:w.cell? ⟨R,0,none⟩=some (.string s.rest):=h.cell 0 rfl;have hc:=Ml s.rest w (by omega);have H:=a_ (RF.refl h);clear h;go_enter func63,ntmps63;go_wp2_with(go_at_call 107;refine hc.mono ?_;rintro e w1 ⟨rfl,b1⟩;have R1:=a_ (H.out.below b1);have d0:w1.cell? ⟨R,0,none⟩=some (.string s.rest):=R1.out.1.cell 0 rfl;have g0:=R1.out.1.free 0)
 go_end0
 exact⟨rfl,R1.out.set 0 _ rfl⟩
end
section
variable{F F' G:Nat->Prop}{R:Nat}{w w' w'' wr:World}{s s':Src}{p:jl}{st:St}{c:Int}{a:Addr}{pt:Part}{v:Value}{m:Rd}{N n:Nat}
theorem mid{w1:World}{s1:Src}{p1:jl}{fI:St}(sY:RG F R w s1 p1 fI w1)(gl:Gl w a)(lo:Low F)(o:Obj):
  RF (Rest (Grow F w w1) R w1 p1.d_) R (w1.setCell ⟨R,5,none⟩ fK) s1 {p1 with told:=fK} {fI with told:=[]} ((w1.setCell ⟨R,5,none⟩ fK).alloc o)/\
  Gl ((w1.setCell ⟨R,5,none⟩ fK).alloc o) a/\Low (Grow F w w1):=by
 have Uo:Low (Grow F w w1):=lo.grow gl.size;have Mj:=gl.frame sY.2 lo;have hb:Below (w1.setCell ⟨R,5,none⟩ fK).heap.size (w1.setCell ⟨R,5,none⟩ fK) ((w1.setCell ⟨R,5,none⟩ fK).alloc o):=(Below.refl _ _).alloc (aj _) _;have r3:=(RF.refl (sY.1.release Uo).1).below hb;refine⟨r3,?_,Uo⟩;have f1:Frame (Grow F w w1) w1 (w1.setCell ⟨R,5,none⟩ fK):=⟨rfl,rfl,rfl,by simp[World.setCell],fun k hk hf=>ae _ _ _ _ (fun e=>hf (e▸sY.1.jP))⟩
 have gl2:=Mj.frame f1 Uo;have lo2:Low (Rest (Grow F w w1) R w1 p1.d_):=fun k hk x=>Uo k hk x.1;exact gl2.frame r3.2.1 lo2
theorem C6(NN:Z4 61 #[Z8 R] w (pX F R w a m))(gl:Gl w a)(lo:Low F)(np:m.ret=.more)(hz:m.s.rest.size<=1099511627776):
  Z4 30 #[Z8 R] w (jn F R w (tells m)):=by
 have ht:tells m=(⟨m.s,some m.pt,{m.st with told:=[]}⟩,m.st.told):=by unfold tells;rw[np]
 rw[ht];have Qc:Z4 61 #[Z8 R] w fun e w1=>e=.returned (.iface 329 (.pointer (some a)))/\∃v p',RG F R w {m.s with now:=v} p' m.st w1/\gG (Grow F w w1) R w1 v m.pt:=by
  refine NN.mono ?_;rintro e w1 ⟨v,p',rg,hx⟩;rw[np]at hx;exact⟨hx.1,v,p',rg,hx.2⟩
 have GL:=a_ gl;have LO:=a_ lo;clear NN ht np gl lo;have VL:=Ur a;go_enter func30,ntmps30;go_wp2_with(first|(go_at_call 61;refine Qc.mono ?_;rintro e w1 ⟨rfl,v1,p1,sY,pa1⟩;obtain⟨r3,g3,l1⟩:=mid sY GL.out LO.out (.cells #[.int .i64 0,.int .i64 0] 108);have m0:((w1.setCell ⟨R,5,none⟩ (.slice none 0 0)).alloc (.cells #[.int .i64 0,.int .i64 0] 108)).cell? ⟨0,0,none⟩=some (.iface 329 (.pointer (some a))):=g3.more;have Om:=Fl r3.1 hz;have R3:=a_ r3;have L1:=a_ l1;have YU:=a_ sY;have PA1:=a_ pa1;have c5:w1.cell? ⟨R,5,none⟩=some p1.told:=sY.1.cell 5 rfl;have f5:=sY.1.free 5;clear sY pa1 r3 g3 l1)|(go_at_call 62;refine(VL _).mono ?_;rintro e wx ⟨rfl,rfl⟩)|(go_at_call 63;refine Om.mono ?_;rintro e w4 ⟨rfl,r4⟩));go_ret;have hsz:(w1.setCell ⟨R,5,none⟩ fK).heap.size=w1.heap.size:=by simp[World.setCell]
 refine C5 (x:=⟨m.s,some m.pt,{m.st with told:=[]}⟩) YU.out L1.out (R3.out.rg.on r4.rg) ?_;refine(PA1.out.release (w':=w1.setCell ⟨R,5,none⟩ fK) (fun k hk=>ae _ _ _ _ hk)).keep (fun k hk hR=>?_) (fun _ x=>Or.inl x);have hl:k<(w1.setCell ⟨R,5,none⟩ fK).heap.size:=by rw[hsz];exact YU.out.1.lt k hk.1
 exact(r4.2.2 k (ah hl R3.out.2.1.size) hR).trans (R3.out.2.2 k hl hR)
theorem C7(NN:Z4 61 #[Z8 R] w (pX F R w a m))(gl:Gl w a)(lo:Low F)(np:m.ret=.over):
  Z4 30 #[Z8 R] w (jn F R w (tells m)):=by
 have ht:tells m=(⟨m.s,none,{m.st with told:=[]}⟩,m.st.told):=by unfold tells;rw[np]
 rw[ht];have Qc:Z4 61 #[Z8 R] w fun e w1=>e=.returned .nilIface/\∃p',RG F R w {m.s with now:=.nilFunc} p' m.st w1:=by
  refine NN.mono ?_;rintro e w1 ⟨v,p',rg,hx⟩;rw[np]at hx;obtain⟨rfl,rfl⟩:=hx;exact⟨rfl,p',rg⟩
 have GL:=a_ gl;have LO:=a_ lo;clear NN ht np gl lo;have VL:=Xz a;have has:=XA;go_enter func30,ntmps30;go_wp2_with(first|(go_at_call 61;refine Qc.mono ?_;rintro e w1 ⟨rfl,p1,sY⟩;obtain⟨r3,g3,l1⟩:=mid sY GL.out LO.out (.cells #[.int .i64 0,.int .i64 0] 108);have m0:((w1.setCell ⟨R,5,none⟩ (.slice none 0 0)).alloc (.cells #[.int .i64 0,.int .i64 0] 108)).cell? ⟨0,0,none⟩=some (.iface 329 (.pointer (some a))):=g3.more;have R3:=a_ r3;have L1:=a_ l1;have YU:=a_ sY;have c5:w1.cell? ⟨R,5,none⟩=some p1.told:=sY.1.cell 5 rfl;have f5:=sY.1.free 5;clear sY r3 g3 l1)|(go_at_call 62;refine(VL _).mono ?_;rintro e wx ⟨rfl,rfl⟩)|(go_at_call 64;refine(has _ _).mono ?_;rintro e wx ⟨rfl,rfl⟩));go_ret;exact C5 (x:=⟨m.s,none,{m.st with told:=[]}⟩) YU.out L1.out R3.out.rg rfl
def Ix(cur:Array Value):Nat->List Value->Array Value
 |_,[]=>cur
 |o,v::r=>Ix (cur.setIfInBounds o v) (o+1) r
theorem pY{t:TypeId}:∀(vs:List Value) (o:Nat) (cur:Array Value) (w:World),w.heap[R]?=some (.cells cur t (0,0))->(w.setCells R o vs).heap[R]?=some (.cells (Ix cur o vs) t (0,0))
 |[],_,_,_,h=>h
 |v::r,o,_,_,h=>pY r (o+1) _ _ (fe h v)
theorem gX:∀(vs:List Value) (o:Nat) (w:World),(∀k,k≠R->(w.setCells R o vs).heap[k]?=w.heap[k]?)/\(w.setCells R o vs).heap.size=w.heap.size/\(w.setCells R o vs).os=w.os/\(w.setCells R o vs).tape=w.tape/\(w.setCells R o vs).output=w.output
 |[],_,_=>⟨fun _ _=>rfl,rfl,rfl,rfl,rfl⟩
 |v::r,o,w=>by
  obtain⟨h1,h2,h3,h4,h5⟩:=gX r (o+1) (w.setCell ⟨R,o,none⟩ v);refine⟨fun k hk=>(h1 k hk).trans (ae _ _ _ _ hk),h2.trans (by simp[World.setCell]),h3,h4,h5⟩
def jt:Array Value:=#[.string ⟨#[]⟩,.int .i64 0,.int .i64 0,.bool false,.nilFunc,fK,fK,.int .i64 0,.int .i64 0,fK,.int .i64 0,fK,.map none,fK,.int .i64 0,fK,.int .i64 0,.int .i32 0,fK,.int .i64 0]
theorem Qd:jt.all (·.oneCell')=true:=by kernel_rfl
theorem J8:(prog.info? 106).map (·.size)=some jt.size:=by kernel_rfl
theorem y8(s:Src)(p:jl)(st:St):Ix (cellsOf s p st) 0 jt.toList=cellsOf (Src.zero s.no s.xe s.closed) jl.zero St.zero:=by kernel_rfl
theorem Bb{t:TypeId}{cur:Array Value}(h:w.heap[R]?=some (.cells cur t (0,0)))(hs:20<=cur.size):w.there R 0 jt.size:=by
 intro j hj;have YJ:j<20:=hj;rw[ax];exact⟨by rw[cell_of h (Array.getElem?_eq_getElem (by omega))];rfl,eR h⟩
theorem RG.zero(h:RG F R w s p st w'):RG F R w (Src.zero s.no s.xe s.closed) jl.zero St.zero (w'.setCells R 0 jt.toList):=by
 obtain⟨h1,h2,h3,h4,h5⟩:=gX (R:=R) jt.toList 0 w';have hb:=pY (R:=R) jt.toList 0 _ w' h.1.blk;rw[y8]at hb;generalize w'.setCells R 0 jt.toList=W at*
 refine⟨⟨hb,?_,fun k hk=>?_,Own.zero _ _ _⟩,⟨h3.trans h.2.os,h4.trans h.2.tape,h5.trans h.2.output,by rw[h2];exact h.2.size,fun k hk hf=>?_⟩⟩
 ·have:=h.1.jP;unfold Grow at this ⊢;rw[h2];exact this
 ·unfold Grow at hk;rw[h2]at hk ⊢;exact h.1.lt k hk
 ·refine(h1 k ?_).trans (h.2.block k hk hf);intro e;subst e;rcases h.1.jP with x|x
  ·exact hf x
  ·omega
theorem XG(w2:World)(no q:Int)(hg:(w2.alloc (.cells #[.int .i64 0,.int .i64 0] 108)).cell? ⟨1,0,none⟩=some (.iface 248 (.agg #[.pointer (some ⟨9,133,none⟩)]))):
  Z4 64 #[.iface 108 (.agg #[.int .i64 no,.int .i64 q]),.iface 166 (.pointer (some ⟨w2.heap.size,0,none⟩))] (w2.alloc (.cells #[.int .i64 0,.int .i64 0] 108)) fun ev w5=>ev=.returned (.bool true)/\Z5 w2 w5/\w5.cell? ⟨w2.heap.size,0,none⟩=some (.int .i64 no)/\w5.cell? ⟨w2.heap.size,1,none⟩=some (.int .i64 q):=by
 have hh:(w2.alloc (.cells #[.int .i64 0,.int .i64 0] 108)).heap[w2.heap.size]?=some (.cells #[.int .i64 0,.int .i64 0] 108 (0,0)):=eL _ _;refine(XF w2.heap.size no q (.int .i64 0) (.int .i64 0) _ hg (cell_of hh rfl) (cell_of hh rfl) (eR hh) (eR hh)).mono ?_;rintro ev w5 ⟨rfl,rfl⟩;have hb:Z5 w2 ((((((w2.alloc (.cells #[.int .i64 0,.int .i64 0] 108)).alloc (.cells #[.pointer (some ⟨w2.heap.size,0,none⟩)] 166)).alloc (.cells (VK (w2.alloc (.cells #[.int .i64 0,.int .i64 0] 108)).heap.size) 210)).alloc (.cells (VK (w2.alloc (.cells #[.int .i64 0,.int .i64 0] 108)).heap.size) 210)).alloc (.cells #[.int .i64 no,.int .i64 q] 108))):=
  (((((Below.refl _ _).alloc (aj _) _).alloc (by simp) _).alloc (by simp;omega) _).alloc (by simp;omega) _).alloc (by simp;omega) _
 have hx:(((((w2.alloc (.cells #[.int .i64 0,.int .i64 0] 108)).alloc (.cells #[.pointer (some ⟨w2.heap.size,0,none⟩)] 166)).alloc (.cells (VK (w2.alloc (.cells #[.int .i64 0,.int .i64 0] 108)).heap.size) 210)).alloc (.cells (VK (w2.alloc (.cells #[.int .i64 0,.int .i64 0] 108)).heap.size) 210)).alloc (.cells #[.int .i64 no,.int .i64 q] 108)).heap[w2.heap.size]?=some (.cells #[.int .i64 0,.int .i64 0] 108 (0,0)):=by
  rw[ak _ _ _ (by simp;omega),ak _ _ _ (by simp;omega),ak _ _ _ (by simp;omega),ak _ _ _ (by simp)];exact hh
 generalize (((((w2.alloc (.cells #[.int .i64 0,.int .i64 0] 108)).alloc (.cells #[.pointer (some ⟨w2.heap.size,0,none⟩)] 166)).alloc (.cells (VK (w2.alloc (.cells #[.int .i64 0,.int .i64 0] 108)).heap.size) 210)).alloc (.cells (VK (w2.alloc (.cells #[.int .i64 0,.int .i64 0] 108)).heap.size) 210)).alloc (.cells #[.int .i64 no,.int .i64 q] 108))=W at*
 have h1:=fe (i:=0) hx (.int .i64 no);have h2:=fe (i:=1) h1 (.int .i64 q);refine⟨rfl,⟨hb.os,hb.tape,hb.output,?_,fun k hk=>?_⟩,cell_of h2 rfl,cell_of h2 rfl⟩
 ·have:=hb.size;simp[World.setCell];exact this
 ·rw[ae _ _ _ _ (Nat.ne_of_lt hk),ae _ _ _ _ (Nat.ne_of_lt hk)];exact hb.block k hk
theorem C8{no q:Int}(NN:Z4 61 #[Z8 R] w (pX F R w a m))(gl:Gl w a)(lo:Low F)(np:m.ret=.fail no q):
  Z4 30 #[Z8 R] w (jn F R w (tells m)):=by
 have ht:tells m=(⟨Src.zero no q m.s.closed,none,St.zero⟩,m.st.told):=by unfold tells;rw[np]
 rw[ht];have Qc:Z4 61 #[Z8 R] w fun e w1=>e=.returned (.iface 108 (.agg #[.int .i64 no,.int .i64 q]))/\∃p',RG F R w {m.s with now:=.nilFunc} p' m.st w1:=by
  refine NN.mono ?_;rintro e w1 ⟨v,p',rg,hx⟩;rw[np]at hx;obtain⟨rfl,rfl⟩:=hx;exact⟨rfl,p',rg⟩
 have GL:=a_ gl;have LO:=a_ lo;clear NN ht np gl lo;have VL:=P8 no q a;go_enter func30,ntmps30;go_wp2_with(first|(go_at_call 61;refine Qc.mono ?_;rintro e w1 ⟨rfl,p1,sY⟩;obtain⟨r3,g3,l1⟩:=mid sY GL.out LO.out (.cells #[.int .i64 0,.int .i64 0] 108);have m0:((w1.setCell ⟨R,5,none⟩ (.slice none 0 0)).alloc (.cells #[.int .i64 0,.int .i64 0] 108)).cell? ⟨0,0,none⟩=some (.iface 329 (.pointer (some a))):=g3.more;have has:=XG (w1.setCell ⟨R,5,none⟩ (.slice none 0 0)) no q g3.et;have RR:=a_ (RF.refl (sY.1.release l1).1);have L1:=a_ l1;have YU:=a_ sY;have c5:w1.cell? ⟨R,5,none⟩=some p1.told:=sY.1.cell 5 rfl;have f5:=sY.1.free 5;clear sY r3 g3 l1)|(go_at_call 62;refine(VL _).mono ?_;rintro e wx ⟨rfl,rfl⟩));have hsz:(w1.setCell ⟨R,5,none⟩ (.slice none 0 0)).heap.size=w1.heap.size:=by simp[World.setCell]
 unfold Z5 at has;rw[hsz]at has;refine has.mono ?_;rintro e w5 ⟨rfl,b5,t0,t1⟩;have R5:=a_ (RR.out.below (by unfold Z5;rw[hsz];exact b5));have c20:w5.cell? ⟨R,20,none⟩=some (.int .i64 m.s.no):=R5.out.1.cell 20 rfl;have c21:w5.cell? ⟨R,21,none⟩=some (.int .i64 m.s.xe):=R5.out.1.cell 21 rfl;have f20:=R5.out.1.free 20;have f21:=R5.out.1.free 21;have R6:=a_ ((R5.out.rg.set (s':={m.s with now:=.nilFunc,no:=no}) 20 (.int .i64 no) rfl).set (s':={m.s with now:=.nilFunc,no:=no,xe:=q}) 21 (.int .i64 q) rfl);have SG:((w5.setCell ⟨R,20,none⟩ (.int .i64 no)).setCell ⟨R,21,none⟩ (.int .i64 q)).there R 0 jt.size:=Bb R6.out.1.blk (by show 20<=23;omega);clear has c5 f5 m0 b5;go_wp2_with(refine wpList_store_mid rfl 106 (.tmp 39) (.tmp 37) rfl R 0 jt rfl rfl SG J8 Qd ?_);go_ret;exact C5 (x:=⟨Src.zero no q m.s.closed,none,St.zero⟩) (v':=.nilFunc) YU.out L1.out R6.out.zero rfl
end
section
variable{F F' G:Nat->Prop}{R:Nat}{w w' w'' wr w1:World}{s s':Src}{p:jl}{st:St}{c:Int}{a:Addr}{pt:Part}{v:Value}{m:Rd}{N n:Nat}
theorem Iy(s:Src):s.took.1.rest.size<=s.rest.size:=by
 unfold Src.took;split
 ·exact aj _
 ·split
  ·simp only[cv];omega
  ·exact aj _
theorem Mq:∀(n:Nat) (s:Src) (pt:Part) (st:St),(lV n s pt st).s.rest.size<=s.rest.size:=by
 intro n;induction n with
 |zero=>intro s pt st;exact aj _
 |succ n ih=>
  intro s pt st;have h1:=Iy s;simp only[lV];split
  ·exact aj _
  ·split
   ·have:=ih s.took.1;exact aw (this _ _) h1
   ·exact h1
   ·exact h1
theorem y9(h:fV F R w s p st)(z7:gG F R w s.now pt)(hl:sW n pt st)(gl:Gl w a)(lo:Low F)(hn:n+s.rest.size<=274877906944)(iM:s.Ok):
  Z4 30 #[Z8 R] w (jn F R w (tells (reads s.bare pt st))):=by
 have NN:=Uq h z7 hl gl lo hn (aj _) iM;cases hr:(reads s.bare pt st).ret with
 |more=>exact C6 NN gl lo hr (by have:=Mq (s.bare.rest.size+1) s.bare pt st;unfold reads;have e:s.bare.rest.size=s.rest.size:=rfl;omega)
 |over=>exact C7 NN gl lo hr
 |fail no q=>exact C8 NN gl lo hr
theorem jn.after{x:PR×List Tok}{e:Ending}(fr:Frame F w w1)(hF:∀k,G k->Grow F w w1 k)(h:jn G R w1 x e w'):jn F R w x e w':=by
 obtain⟨v,A,F',he,an,al,f2,h1,h2⟩:=h;have hs:=fr.size;have hs2:=f2.size;have up:∀k,Grow G w1 w' k->Grow F w w' k:=by
  rintro k (x|x)
  ·exact(hF k x).elim Or.inl (fun y=>Or.inr ⟨y.1,by omega⟩)
  ·exact Or.inr ⟨by omega,x.2⟩
 refine⟨v,A,F',he,an,al,⟨f2.os.trans fr.os,f2.tape.trans fr.tape,f2.output.trans fr.output,by omega,fun k hk hf=>?_⟩,fun k hk=>⟨up k (h1 k hk).1,(h1 k hk).2⟩,fun k hk=>up k (h2 k hk)⟩;rw[f2.block k (by omega) (fun x=>(hF k x).elim hf (fun y=>by omega))];exact fr.block k hk hf
theorem XH(h:fV F R w s p st)(b:ByteArray)(hz:s.rest.size+b.size<=1099511627776):Z4 29 #[Z8 R,.string b] w fun e w'=>e=.returned (.tuple #[])/\RF F R w {s with rest:=s.rest++b} p st w':=by
 have c0:w.cell? ⟨R,0,none⟩=some (.string s.rest):=h.cell 0 rfl;have f0:=h.free 0;have hz2:s.rest.size+b.size<=9223372036854775807:=by omega
 have H:=a_ (RF.refl h);have yC:=fun w=>cW (P:=prog) w s.rest b hz2;clear h;go_enter func29,ntmps29;go_wp2
 go_end0
 exact⟨rfl,H.out.set 0 _ rfl⟩
theorem XI(h:fV F R w s p st):Z4 31 #[Z8 R] w fun e w'=>e=.returned (.tuple #[])/\RF F R w {s with ended:=true} p st w':=by
 have c3:w.cell? ⟨R,3,none⟩=some (.bool s.ended):=h.cell 3 rfl;have f3:=h.free 3;have H:=a_ (RF.refl h);clear h;go_enter func31,ntmps31;go_wp2
 go_end0
 exact⟨rfl,H.out.set 3 _ rfl⟩
theorem RF.part{s1:Src}{p1:jl}{fI:St}(h:RF F R w s1 p1 fI w')(hlt:∀k,F k->k<w.heap.size)(z7:gG F R w v pt):gG (Grow F w w') R w' v pt:=
 z7.keep (fun k hk hR=>h.2.2 k (hlt k hk) hR) (fun _ x=>Or.inl x)
theorem Iz(h:fV F R w s p st)(z7:gG F R w s.now pt)(hl:sW n pt st)(gl:Gl w a)(lo:Low F)(b:ByteArray)(hn:n+(s.rest.size+b.size)<=274877906944)(iM:0<=s.next/\s.next+(s.rest.size+b.size:Nat)<=1099511627776)(hc:s.closed=false)(hno:s.no=0):
  Z4 15 #[Z8 R,.string b] w (jn F R w (tells (reads {s with rest:=s.rest++b}.bare pt st))):=by
 have c20:w.cell? ⟨R,20,none⟩=some (.int .i64 s.no):=h.cell 20 rfl;have J9:w.cell? ⟨R,22,none⟩=some (.bool s.closed):=h.cell 22 rfl;rw[hno]at c20;rw[hc]at J9;have yC:=XH h b (by omega);have hsz:(s.rest++b).size=s.rest.size+b.size:=cH;have Qe:∀w1,RF F R w {s with rest:=s.rest++b} p st w1->Z4 30 #[Z8 R] w1 (jn (Grow F w w1) R w1 (tells (reads {s with rest:=s.rest++b}.bare pt st))):=fun w1 r=>
  y9 r.1 (r.part h.lt z7) hl (gl.frame r.2.1 lo) (lo.grow gl.size) (by show n+(s.rest++b).size<=_;omega) ⟨iM.1,by show s.next+((s.rest++b).size:Int)<=_;rw[hsz];exact iM.2⟩
 have HA:=a_ Qe;clear h z7 hl gl lo Qe iM hn;generalize tells (reads {s with rest:=s.rest++b}.bare pt st)=x at*
 go_enter func15,ntmps15;go_wp2_with(first|(go_at_call 29;refine yC.mono ?_;rintro e w1 ⟨rfl,r1⟩)|(go_at_call 30;refine(HA.out _ r1).mono ?_;rintro e w2 ⟨v,A,F',rfl,rest⟩));go_ret;exact jn.after r1.2.1 (fun k hk=>hk) ⟨v,A,F',rfl,rest⟩
theorem Fm(x:PR)(hx:oD F R w x):jn F R w (x,[]) (.returned fK) w:=
 ⟨fK,fun _=>False,F,rfl,⟨[],ly _ _ _,.nil,fun k e=>absurd e (iL k)⟩,hx,Frame.refl _ _,fun k hk=>hk.elim,fun k hk=>Or.inl hk⟩
theorem IA(h:fV F R w s p st)(b:ByteArray)(hd:s.closed=true\/s.no≠0):
  Z4 15 #[Z8 R,.string b] w (Z6 fK w):=by
 have c20:w.cell? ⟨R,20,none⟩=some (.int .i64 s.no):=h.cell 20 rfl;have J9:w.cell? ⟨R,22,none⟩=some (.bool s.closed):=h.cell 22 rfl;clear h;by_cases hc:s.closed=true
 ·rw[hc]at J9;clear hd;go_enter func15,ntmps15;go_wp2;go_ret;exact⟨rfl,rfl⟩
 ·have hc':s.closed=false:=by simpa using hc
  have hn:(s.no !=0)=true:=by
   have:s.no≠0:=hd.resolve_left hc;simpa using this
  rw[hc']at J9;clear hd hc;go_enter func15,ntmps15;go_wp2;go_ret;exact⟨rfl,rfl⟩
theorem IB(h:fV F R w s p st)(hd:s.closed=true):
  Z4 16 #[Z8 R] w (Z6 fK w):=by
 have J9:w.cell? ⟨R,22,none⟩=some (.bool s.closed):=h.cell 22 rfl;rw[hd]at J9;clear h;go_enter func16,ntmps16;go_wp2;go_ret;exact⟨rfl,rfl⟩
theorem Fp(h:fV F R w s p st)(hc:s.closed=false)(hd:s.no≠0):
  Z4 16 #[Z8 R] w fun e w'=>e=.returned fK/\RF F R w {s with closed:=true} p st w':=by
 have J9:w.cell? ⟨R,22,none⟩=some (.bool s.closed):=h.cell 22 rfl;have c20:w.cell? ⟨R,20,none⟩=some (.int .i64 s.no):=h.cell 20 rfl;have f22:=h.free 22;have hn:(s.no !=0)=true:=by simpa using hd
 rw[hc]at J9;have H:=a_ ((RF.refl h).set (s':={s with closed:=true}) 22 (.bool true) rfl);have d20:(w.setCell ⟨R,22,none⟩ (.bool true)).cell? ⟨R,20,none⟩=some (.int .i64 s.no):=H.out.1.cell 20 rfl;clear h hd;go_enter func16,ntmps16;go_wp2;go_ret;exact⟨rfl,H.out⟩
theorem Qf(h:fV F R w s p st)(hc:s.closed=false):
  Z4 18 #[Z8 R] w (Z6 (.tuple #[.int .i64 0,.int .i64 0]) w):=by
 have J9:w.cell? ⟨R,22,none⟩=some (.bool s.closed):=h.cell 22 rfl;rw[hc]at J9;clear h;go_enter func18,ntmps18;go_wp2
 go_ret2
 exact⟨rfl,rfl⟩
theorem Qg(h:fV F R w s p st)(hc:s.closed=true):
  Z4 18 #[Z8 R] w (Z7 (.tuple #[.int .i64 s.no,.int .i64 s.xe]) w):=by
 have J9:w.cell? ⟨R,22,none⟩=some (.bool s.closed):=h.cell 22 rfl;have c20:w.cell? ⟨R,20,none⟩=some (.int .i64 s.no):=h.cell 20 rfl;have c21:w.cell? ⟨R,21,none⟩=some (.int .i64 s.xe):=h.cell 21 rfl;rw[hc]at J9;clear h;go_enter func18,ntmps18;go_wp2
 go_region
 all_goals
  go_wp2
  go_ret2
  exact⟨rfl,below_drewN (Below.refl _ _) _⟩
def shut(x:PR×List Tok):PR×List Tok:=(⟨Src.zero x.1.s.no x.1.s.xe x.1.s.closed,none,St.zero⟩,x.2)
theorem jn.zero{x:PR×List Tok}(h:jn F R w x (.returned v) w'):w'.there R 0 jt.size/\jn F R w (shut x) (.returned v) (w'.setCells R 0 jt.toList):=by
 obtain⟨v',A,F',he,an,⟨vn,p',r,_⟩,fr,h1,h2⟩:=h;cases he;obtain⟨o1,o2,o3,o4,o5⟩:=gX (R:=R) jt.toList 0 w';have hb:=pY (R:=R) jt.toList 0 _ w' r.blk;rw[y8]at hb;refine⟨Bb r.blk (by show 20<=23;omega),?_⟩;generalize w'.setCells R 0 jt.toList=W at*
 have up:∀k,Grow F w w' k->Grow F w W k:=fun k hk=>by unfold Grow at*;rw[o2];exact hk
 refine⟨v,A,F',rfl,an.frame fun k hA=>o1 k (fun e=>(h1 k hA).2 (e▸r.jP)),⟨.nilFunc,jl.zero,⟨hb,r.jP,fun k hk=>by rw[o2];exact r.lt k hk,Own.zero _ _ _⟩,rfl⟩,⟨o3.trans fr.os,o4.trans fr.tape,o5.trans fr.output,by rw[o2];exact fr.size,fun k hk hf=>?_⟩,fun k hk=>⟨up k (h1 k hk).1,(h1 k hk).2⟩,fun k hk=>up k (h2 k hk)⟩;refine(o1 k ?_).trans (fr.block k hk hf);intro e;subst e;rcases h2 k r.jP with x|x
 ·exact hf x
 ·omega
theorem IC(h:fV F R w s p st)(z7:gG F R w s.now pt)(hl:sW n pt st)(gl:Gl w a)(lo:Low F)(hn:n+s.rest.size<=274877906944)(iM:s.Ok)(hc:s.closed=false)(hno:s.no=0):
  Z4 16 #[Z8 R] w (jn F R w (shut (tells (reads {s with closed:=true,ended:=true}.bare pt st)))):=by
 have c20:w.cell? ⟨R,20,none⟩=some (.int .i64 s.no):=h.cell 20 rfl;have J9:w.cell? ⟨R,22,none⟩=some (.bool s.closed):=h.cell 22 rfl;have f22:=h.free 22;rw[hno]at c20;rw[hc]at J9;have rA:=(RF.refl h).set (s':={s with closed:=true}) 22 (.bool true) rfl;have d20:(w.setCell ⟨R,22,none⟩ (.bool true)).cell? ⟨R,20,none⟩=some (.int .i64 0):=by rw[<-hno];exact rA.1.cell 20 rfl
 have hend:=XI rA.1;have Qe:∀wB,RF (Grow F w (w.setCell ⟨R,22,none⟩ (.bool true))) R (w.setCell ⟨R,22,none⟩ (.bool true)) {s with closed:=true,ended:=true} p st wB->Z4 30 #[Z8 R] wB (jn F R w (tells (reads {s with closed:=true,ended:=true}.bare pt st))):=fun wB r=>by
  have glA:=gl.frame rA.2.1 lo;have loA:Low (Grow F w (w.setCell ⟨R,22,none⟩ (.bool true))):=lo.grow gl.size;have pA:=rA.part h.lt z7;have pB:=r.part rA.1.lt pA;refine(y9 r.1 pB hl (glA.frame r.2.1 loA) (loA.grow glA.size) hn iM).mono ?_;intro e w' hE;exact jn.after (rA.2.1.trans r.2.1) (fun k hk=>(Grow.trans rA.2.1.size r.2.1.size k).1 hk) hE
 have HA:=a_ Qe;clear h z7 hl gl lo Qe iM hn rA;generalize tells (reads {s with closed:=true,ended:=true}.bare pt st)=x at*
 go_enter func16,ntmps16;go_wp2_with(first|(go_at_call 31;refine hend.mono ?_;rintro e w1 ⟨rfl,r1⟩)|(go_at_call 30;refine(HA.out _ r1).mono ?_;rintro e w2 ⟨v,A,F',rfl,rest⟩;obtain⟨SG,hz⟩:=jn.zero (F:=F) (R:=R) (w:=w) (x:=x) ⟨v,A,F',rfl,rest⟩;have HZ:=a_ hz;clear hz rest)|(refine wpList_store_mid rfl 106 (.tmp 27) (.tmp 25) rfl R 0 jt rfl rfl SG J8 Qd ?_));go_ret;exact HZ.out
end
def PR.write(r:PR)(b:ByteArray):PR×List Tok:=
 if r.s.closed=true\/r.s.no≠0 then(r,[])
 else match r.pt with
  |some pt=>tells (reads {r.s with rest:=r.s.rest++b}.bare pt r.st)
  |none=>(r,[])
def PR.close(r:PR):PR×List Tok:=
 if r.s.closed=true then(r,[])
 else if r.s.no≠0 then(⟨{r.s with closed:=true},r.pt,r.st⟩,[])
 else match r.pt with
  |some pt=>shut (tells (reads {r.s with closed:=true,ended:=true}.bare pt r.st))
  |none=>(r,[])
def PR.err(r:PR):Int×Int:=if r.s.closed=true then(r.s.no,r.s.xe)else(0,0)
def PR.new:PR:=⟨Src.zero 0 0 false,some (.plain .between),St.zero⟩
structure Good(r:PR)(N:Nat):Prop where
 live:r.s.closed=false->r.s.no=0->∃pt n,r.pt=some pt/\sW n pt r.st/\n+r.s.rest.size<=N/\0<=r.s.next/\r.s.next+r.s.rest.size<=(N:Int)/\r.s.ended=false/\r.st.told=[]/\r.s.bare=r.s/\r.s.more=true
 shut:r.s.closed=false->r.s.no≠0->r.pt=none
theorem Fq(n:Nat):sW n (.plain .between) St.zero:=
 ⟨fun _ _=>aq _,aq _,aq _,aq _,aq _,by decide,trivial⟩
theorem y_:Good PR.new 0:=
 ⟨fun _ _=>⟨_,0,rfl,Fq 0,aj _,by decide,by decide,rfl,rfl,rfl,by decide⟩,fun _ h=>absurd rfl h⟩
def St.pre(T:List Tok)(st:St):St:={st with told:=T++st.told}
def Out.pre(T:List Tok)(o:Out):Out:=⟨o.st.pre T,o.res⟩
theorem xC(T:List Tok)(st:St)(i:Rn)(c q:Int):(st.pre T).put i c q=(st.put i c q).pre T:=rfl
theorem Mr(T:List Tok)(st:St)(i:Rn):(st.pre T).clear i=(st.clear i).pre T:=rfl
theorem pZ(T:List Tok)(st:St):(st.pre T).eK=st.eK.pre T:=by
 unfold St.eK;have e:(st.pre T).run=st.run:=rfl;rw[e];split
 ·rfl
 ·simp[St.pre,St.clear,St.eI]
theorem xh(T:List Tok)(st:St):(st.pre T).fl=st.fl.pre T:=by
 unfold St.fl;rw[pZ];simp[St.pre]
theorem xj(T:List Tok)(st:St):(st.pre T).gh=st.gh.pre T:=by
 unfold St.gh;rw[pZ];simp[St.pre]
theorem Fs(T:List Tok)(k:Pl)(q:Int)(st:St)(c:Int):step k q (st.pre T) c=(step k q st c).pre T:=by cases k<;>simp only[step,jM,fX,jX,iH,jd,fR,fS,xC,Mr,pZ,xh,xj,St.iW]<;>(repeat' split)<;>first|rfl|(simp_all[St.pre];done)
theorem Fu(T:List Tok)(i:Rn)(t:ByteArray)(q:Int):∀f pos st,gv i t q f pos (st.pre T)=(gv i t q f pos st).pre T:=by
 intro f;induction f with
 |zero=>intro pos st;rfl
 |succ f ih=>
  intro pos st;unfold gv;split
  ·rw[xC];exact ih _ _
  ·rfl
theorem C9(T:List Tok)(pt:Part)(q:Int)(st:St)(c:Int):b_ pt q (st.pre T) c=(b_ pt q st c).pre T:=by
 cases pt with
 |plain k=>exact Fs T k q st c
 |word l k=>
  cases l with
  |nil=>rfl
  |cons x l=>
   simp only[b_,lT]
   repeat' split
   all_goals rfl
 |name i k=>
  simp only[b_,stName,fX,xC,Fs];have e:(st.pre T).run=st.run:=rfl;rw[e]
  repeat' split
  all_goals rfl
 |ref i k=>
  simp only[b_,oB,xC];split
  ·split
   ·unfold jQ;have e:((st.put .ref 59 q).pre T).run=(st.put .ref 59 q).run:=rfl;have e2:((st.put .ref 59 q).pre T).fD=(st.put .ref 59 q).fD:=rfl;rw[e,e2];split
    ·unfold St.oW;rw[Fu];rfl
    ·rfl
   ·rfl
  ·rfl
theorem Qh(T:List Tok):∀(n:Nat) (s:Src) (pt:Part) (st:St),lV n s pt (st.pre T)={lV n s pt st with st:=(lV n s pt st).st.pre T}:=by
 intro n;induction n with
 |zero=>intro s pt st;rfl
 |succ n ih=>
  intro s pt st;simp only[lV,C9];split
  ·rfl
  ·have e:((b_ pt s.took.1.at_ st s.took.2).pre T).res=(b_ pt s.took.1.at_ st s.took.2).res:=rfl;rw[e];cases (b_ pt s.took.1.at_ st s.took.2).res with
   |go jT=>exact ih _ _ _
   |stop=>rfl
   |fail no q=>rfl
theorem Qi(s:Src)(b:ByteArray)(h:s.more=false)(he:s.ended=false):({s with rest:=s.rest++b}:Src).more=false/\({s with rest:=s.rest++b}:Src).took=({s.took.1 with rest:=s.took.1.rest++b},s.took.2):=by
 simp only[Src.more,he,eh,cP,Bool.not_eq_false']at h;obtain⟨h1,h2⟩:=PZ s.rest b h;have h0:0<s.rest.size:=by
  by_cases e:s.rest.size=0
  ·simp[Tk.full,e]at h
  ·omega
 have hsz:(s.rest++b).size=s.rest.size+b.size:=cH;have hw:=Ch.fo s.rest 0 h0;refine⟨by simp[Src.more,he,h1],?_⟩;have iM:Ch.gW (s.rest++b) 0=Ch.gW s.rest 0:=by unfold Ch.gW;rw[h2]
 have e1:¬(s.rest++b).size=0:=by omega
 have e2:¬s.rest.size=0:=by omega
 simp only[Src.took,e1,e2,bf,iM,h2];split
 ·have hx:(s.rest++b).extract (Utf8.decode s.rest 0).2 (s.rest++b).size=s.rest.extract (Utf8.decode s.rest 0).2 s.rest.size++b:=by
   rw[hsz];apply cq;apply dX;simp only[ByteArray.data_extract,dt,Array.toList_extract,Array.toList_append,List.extract_eq_take_drop];rw[List.drop_append_of_le_length (by show (Utf8.decode s.rest 0).2<=s.rest.data.toList.length;simpa using hw.1)];rw[bQ (by simp;have:s.rest.data.size=s.rest.size:=rfl;have:b.data.size=b.size:=rfl;omega),bQ (by simp)]
  rw[hx]
 ·rfl
structure Ends(c:Int)(o:Out):Prop where
 stop:o.res=.stop->c= -1
 fail:∀no q,o.res=.fail no q->no≠0
theorem XJ(c:Int):Tk.why c≠0:=by unfold Tk.why;split<;>omega
theorem Ends.go{c:Int}{st:St}{pt:Part}:Ends c ⟨st,.go pt⟩:=⟨fun e=>(by cases e),fun _ _ e=>(by cases e)⟩
theorem Ends.why{c:Int}{st:St}{q:Int}:Ends c ⟨st,.fail (Tk.why c) q⟩:=⟨fun e=>(by cases e),fun _ _ e=>(by cases e;exact XJ c)⟩
theorem Ends.num{c:Int}{st:St}{no q:Int}(h:no≠0):Ends c ⟨st,.fail no q⟩:=⟨fun e=>(by cases e),fun _ _ e=>(by cases e;exact h)⟩
theorem Bc(k:Pl)(q:Int)(st:St)(c:Int):Ends c (step k q st c):=by cases k<;>simp only[step,jM,fX,jX,iH,jd,fR,fS]<;>(repeat' split)<;>first|exact .go|exact .why|exact .num (by decide)|exact⟨fun _=>(by assumption),fun _ _ e=>(by cases e)⟩
theorem sZ(pt:Part)(q:Int)(st:St)(c:Int):Ends c (b_ pt q st c):=by
 cases pt with
 |plain k=>exact Bc k q st c
 |word l k=>
  cases l with
  |nil=>exact .go
  |cons x l=>
   simp only[b_,lT]
   repeat' split
   all_goals first|exact .go|exact .why
 |name i k=>
  simp only[b_,stName,fX]
  repeat' split
  all_goals first|exact .go|exact .why|exact Bc k q st c
 |ref i k=>
  simp only[b_,oB];split
  ·split
   ·unfold jQ;split
    ·exact .go
    ·exact .num (by decide)
   ·exact .go
  ·exact .num (by decide)
theorem pz{s:Src}{pt:Part}{st:St}{n:Nat}(hl:sW n pt st)(h:s.more=false):
  reads s pt st=match (b_ pt s.next st s.took.2).res with
   | .go jT=>reads s.took.1 jT (b_ pt s.next st s.took.2).st
   | .stop=>⟨s.took.1,pt,(b_ pt s.next st s.took.2).st,.over⟩
   | .fail no q=>⟨s.took.1,pt,(b_ pt s.next st s.took.2).st,.fail no q⟩:=by
 have ha:s.took.1.at_=s.next:=xB s
 conv=>lhs;unfold reads
 simp only[lV,h,ay,bf,ha];generalize he:(b_ pt s.next st s.took.2).res=r;cases r with
 |go jT=>
  have hk:=lX hl.sound hl.quote he;exact A_ (s.took.1.rest.size+1) s.rest.size (n+1) s.took.1 _ _ (hl.step he) (Nat.lt_succ_self _) (by omega)
 |stop=>rfl
 |fail no q=>rfl
theorem ze{s:Src}{pt:Part}{st:St}(h:s.more=true):reads s pt st=⟨s,pt,st,.more⟩:=by unfold reads lV;rw[if_pos h]
structure abv(s:Src)(k:Nat)(m:Rd):Prop where
 lim:∃n,sW n m.pt m.st/\n+m.s.rest.size<=k+s.rest.size
 next:m.s.next+m.s.rest.size=s.next+s.rest.size
 lo:s.next<=m.s.next
 more:m.s.more=true
 ended:m.s.ended=s.ended
 no:m.s.no=s.no
 xe:m.s.xe=s.xe
 closed:m.s.closed=s.closed
 now:m.s.now=s.now
structure Cut(s:Src)(k:Nat)(b:ByteArray)(m m2:Rd)(g:Src->Part->St->Rd):Prop where
 more:m.ret=.more->m2=g {m.s with rest:=m.s.rest++b} m.pt m.st/\abv s k m
 over:m.ret≠ .over
 fail:∀no q,m.ret=.fail no q->no≠0/\tells m2=tells m/\m.s.closed=s.closed
theorem Ms(s:Src)(h0:s.rest.size≠0)(iM:Ch.gW s.rest 0=true):s.took.1.next+s.took.1.rest.size=s.next+s.rest.size/\s.next<=s.took.1.next/\s.took.1.ended=s.ended/\s.took.1.no=s.no/\s.took.1.xe=s.xe/\s.took.1.closed=s.closed/\s.took.1.now=s.now:=by
 have hw:=Ch.fo s.rest 0 (by omega);simp only[Src.took,h0,iM,bf,if_true,cv,and_true];omega
theorem n_(s:Src):s.took.1.ended=s.ended/\s.took.1.no=s.no/\s.took.1.xe=s.xe/\s.took.1.closed=s.closed/\s.took.1.now=s.now:=by
 unfold Src.took;repeat' split
 all_goals exact⟨rfl,rfl,rfl,rfl,rfl⟩
theorem Bd(b:ByteArray):∀(n:Nat) (s:Src) (pt:Part) (st:St) (k:Nat),s.rest.size<n->sW k pt st->s.ended=false->Cut s k b (reads s pt st) (reads {s with rest:=s.rest++b} pt st) reads:=by
 intro n;induction n with
 |zero=>intro s pt st k h;omega
 |succ n ih=>
  intro s pt st k hn hl he;by_cases hm:s.more=true
  ·rw[ze hm];exact⟨fun _=>⟨rfl,⟨⟨k,hl,aj _⟩,rfl,Int.le_refl _,hm,rfl,rfl,rfl,rfl,rfl⟩⟩,by simp,fun _ _ e=>(by cases e)⟩
  ·have sD:s.more=false:=by simpa using hm
   obtain⟨ha1,ha2⟩:=Qi s b sD he;rw[pz hl sD,pz (s:={s with rest:=s.rest++b}) hl ha1,ha2];have Fv:=sZ pt s.next st s.took.2;have zI:=n_ s;generalize hr:(b_ pt s.next st s.took.2).res=r;cases r with
   |go jT=>
    have hk:=lX hl.sound hl.quote hr;have hs:=Ms s hk.2.1 hk.2.2;have c:=ih s.took.1 jT (b_ pt s.next st s.took.2).st (k+1) (by omega) (hl.step hr) (zI.1.trans he);refine⟨fun e=>?_,c.over,fun no q e=>⟨(c.fail no q e).1,(c.fail no q e).2.1,(c.fail no q e).2.2.trans zI.2.2.2.1⟩⟩;obtain⟨c1,c2⟩:=c.more e;refine⟨c1,⟨?_,c2.next.trans hs.1,Int.le_trans hs.2.1 c2.lo,c2.more,c2.ended.trans zI.1,c2.no.trans zI.2.1,c2.xe.trans zI.2.2.1,c2.closed.trans zI.2.2.2.1,c2.now.trans zI.2.2.2.2⟩⟩;obtain⟨x,x1,x2⟩:=c2.lim;refine⟨x,x1,?_⟩;show x+(reads s.took.1 jT (b_ pt s.next st s.took.2).st).s.rest.size<=k+s.rest.size;omega
   |stop=>
    exfalso;have h1:=Fv.stop hr;have h0:s.rest.size≠0:=by
     intro e;simp[Src.more,he,Tk.full,e]at sD
    have hlg:=Fj s;rw[h1]at hlg;unfold Src.took at h1;rw[if_neg h0]at h1;split at h1
    ·simp only at h1;omega
    ·simp only at h1;omega
   |fail no q=>
    refine⟨fun e=>(by cases e),by simp,fun no' q' e=>?_⟩;cases e;exact⟨Fv.fail _ _ hr,rfl,zI.2.2.2.1⟩
section
variable{F F' G:Nat->Prop}{R:Nat}{w w' w'' wr w1:World}{s s':Src}{p:jl}{st:St}{c:Int}{a:Addr}{pt:Part}{v:Value}{m:Rd}{N n:Nat}{r:PR}
theorem sW.aad(h:sW n pt st):sW n pt {st with told:=[]}:=⟨h.run,h.ref,aq _,h.d_,h.names,h.quote,h.sound⟩
theorem Uw(h:s.now=.nilFunc):s.bare=s:=by cases s;cases h;rfl
theorem o0(hc:r.s.closed=false)(hn:r.s.no=0)(hp:r.pt=some pt)(b:ByteArray):r.write b=tells (reads {r.s with rest:=r.s.rest++b}.bare pt r.st):=by unfold PR.write;rw[if_neg (by simp[hc,hn]),hp]
theorem o6(h:r.s.closed=true\/r.s.no≠0)(b:ByteArray):r.write b=(r,[]):=by unfold PR.write;rw[if_pos h]
theorem Good.cut(hg:Good r N)(hc:r.s.closed=false)(hn:r.s.no=0)(b b2:ByteArray):∃pt k,r.pt=some pt/\k+(r.s.rest++b).size<=N+b.size/\0<=r.s.next/\r.s.next+((r.s.rest++b).size:Int)<=(N+b.size:Nat)/\r.s.ended=false/\r.s.now=.nilFunc/\sW k pt r.st/\
  Cut ({r.s with rest:=r.s.rest++b}:Src).bare k b2 (reads ({r.s with rest:=r.s.rest++b}:Src).bare pt r.st) (reads { ({r.s with rest:=r.s.rest++b}:Src).bare with rest:=({r.s with rest:=r.s.rest++b}:Src).bare.rest++b2} pt r.st) reads:=by
 obtain⟨pt,k,h1,h2,h3,h4,h5,h6,h7,h8,h9⟩:=hg.live hc hn;have hsz:(r.s.rest++b).size=r.s.rest.size+b.size:=cH;refine⟨pt,k,h1,by omega,h4,by omega,h6,?_,h2,Bd b2 _ _ pt r.st k (Nat.lt_succ_self _) h2 h6⟩;have:=aA Src.now h8;exact this.symm
theorem ID(hg:Good r N)(b:ByteArray):Good (r.write b).1 (N+b.size):=by
 by_cases hd:r.s.closed=true\/r.s.no≠0
 ·rw[o6 hd];refine⟨fun h1 h2=>?_,hg.shut⟩;rcases hd with h|h
  ·simp only at h1;rw[h]at h1;cases h1
  ·exact absurd h2 h
 ·have hc:r.s.closed=false:=by simpa using(not_or.1 hd).1
  have hn:r.s.no=0:=by simpa using(not_or.1 hd).2
  obtain⟨pt,k,h1,h2,h3,h4,h5,h6,h7,hcut⟩:=hg.cut hc hn b ⟨#[]⟩;rw[o0 hc hn h1];generalize hs:({r.s with rest:=r.s.rest++b}:Src).bare=s1 at*
  have e1:s1.rest=r.s.rest++b:=by rw[<-hs];rfl
  have e2:s1.next=r.s.next:=by rw[<-hs];rfl
  have e3:s1.ended=false:=by rw[<-hs];exact h5
  have e4:s1.no=0:=by rw[<-hs];exact hn
  have e5:s1.closed=false:=by rw[<-hs];exact hc
  have e6:s1.now=.nilFunc:=by rw[<-hs];rfl
  generalize reads s1 pt r.st=m at*
  unfold tells;cases hr:m.ret with
  |more=>
   obtain⟨_,sy⟩:=hcut.more hr;obtain⟨x,x1,x2⟩:=sy.lim;refine⟨fun _ _=>⟨m.pt,x,rfl,x1.aad,?_,?_,?_,sy.ended.trans e3,rfl,Uw (sy.now.trans e6),sy.more⟩,fun _ h=>absurd (sy.no.trans e4) h⟩
   ·show x+m.s.rest.size<=_;rw[e1]at x2;omega
   ·show 0<=m.s.next;have:=sy.lo;omega
   ·show m.s.next+(m.s.rest.size:Int)<=_;have:=sy.next;rw[e1,e2]at this;omega
  |over=>exact absurd hr hcut.over
  |fail no q=>
   have:=hcut.fail no q hr;exact⟨fun _ h=>absurd h this.1,fun _ _=>rfl⟩
end
section
variable{F F' G:Nat->Prop}{R:Nat}{w w' w'' wr w1:World}{s s':Src}{p:jl}{st:St}{c:Int}{a:Addr}{pt:Part}{v:Value}{m:Rd}{N n:Nat}{r:PR}
theorem Qj(NF:oD F R w r)(hg:Good r N)(gl:Gl w a)(lo:Low F)(b:ByteArray)(hN:N+b.size<=274877906944):
  Z4 15 #[Z8 R,.string b] w (jn F R w (r.write b)):=by
 obtain⟨vn,p,mG,hx⟩:=NF;by_cases hd:r.s.closed=true\/r.s.no≠0
 ·rw[o6 hd];refine(IA mG b hd).mono ?_;rintro e w' ⟨rfl,rfl⟩;exact Fm r ⟨vn,p,mG,hx⟩
 ·have hc:r.s.closed=false:=by simpa using(not_or.1 hd).1
  have hn:r.s.no=0:=by simpa using(not_or.1 hd).2
  obtain⟨pt,k,h1,h2,h3,h4,h5,h6,h7,h8,h9⟩:=hg.live hc hn;rw[o0 hc hn h1];rw[h1]at hx;exact Iz (n:=k) mG hx h2 gl lo b (by show k+(r.s.rest.size+b.size)<=_;omega) ⟨h4,by show r.s.next+((r.s.rest.size+b.size:Nat):Int)<=_;omega⟩ hc hn
theorem Qk(NF:oD F R w r)(hg:Good r N)(gl:Gl w a)(lo:Low F)(hN:N<=274877906944):
  Z4 16 #[Z8 R] w (jn F R w r.close):=by
 obtain⟨vn,p,mG,hx⟩:=NF;unfold PR.close;by_cases hc:r.s.closed=true
 ·rw[if_pos hc];refine(IB mG hc).mono ?_;rintro e w' ⟨rfl,rfl⟩;exact Fm r ⟨vn,p,mG,hx⟩
 ·have hc':r.s.closed=false:=by simpa using hc
  rw[if_neg hc];by_cases hn:r.s.no≠0
  ·rw[if_pos hn];have hp:=hg.shut hc' hn;rw[hp]at hx;refine(Fp mG hc' hn).mono ?_;rintro e w' ⟨rfl,rf⟩;refine⟨fK,fun _=>False,Grow F w w',rfl,⟨[],ly _ _ _,.nil,fun k e=>absurd e (iL k)⟩,⟨vn,p,rf.1,?_⟩,rf.2.1,fun k hk=>hk.elim,fun k hk=>hk⟩;rw[hp];exact hx
  ·have YE:r.s.no=0:=by simpa using hn
   rw[if_neg hn];obtain⟨pt,k,h1,h2,h3,h4,h5,h6,h7,h8,h9⟩:=hg.live hc' YE;rw[h1]at hx ⊢;exact IC (s:={r.s with now:=vn}) (n:=k) mG hx h2 gl lo (by show k+r.s.rest.size<=_;omega) ⟨h4,by show r.s.next+(r.s.rest.size:Int)<=_;omega⟩ hc' YE
theorem XK(NF:oD F R w r):Z4 18 #[Z8 R] w (Z7 (.tuple #[.int .i64 r.err.1,.int .i64 r.err.2]) w):=by
 obtain⟨vn,p,mG,hx⟩:=NF;unfold PR.err;by_cases hc:r.s.closed=true
 ·rw[if_pos hc];exact Qg (s:={r.s with now:=vn}) mG hc
 ·rw[if_neg hc];refine(Qf mG (by simpa using hc)).mono ?_;rintro e w' ⟨rfl,rfl⟩;exact⟨rfl,Below.refl _ _⟩
theorem oD.below(h:oD F R w r)(hb:Z5 w w'):oD F R w' r:=by
 obtain⟨vn,p,mG,hx⟩:=h;refine⟨vn,p,⟨(hb.block R (mG.lt R mG.jP)).trans mG.blk,mG.jP,fun k hk=>ah (mG.lt k hk) hb.size,mG.own.frame (fun k hk _=>hb.block k (mG.lt k hk)) (fun _ x=>x)⟩,?_⟩;cases hp:r.pt with
 |none=>rw[hp]at hx;exact hx
 |some pt=>
  rw[hp]at hx;exact hx.keep (fun k hk _=>hb.block k (mG.lt k hk)) (fun _ x=>x)
theorem oD.keep(h:oD F R w r)(hk:∀k,F k->w'.heap[k]?=w.heap[k]?)(hs:w.heap.size<=w'.heap.size):oD F R w' r:=by
 obtain⟨vn,p,mG,hx⟩:=h;refine⟨vn,p,⟨(hk R mG.jP).trans mG.blk,mG.jP,fun k hf=>ah (mG.lt k hf) hs,mG.own.frame (fun k hf _=>hk k hf) (fun _ x=>x)⟩,?_⟩;cases hp:r.pt with
 |none=>rw[hp]at hx;exact hx
 |some pt=>
  rw[hp]at hx;exact hx.keep (fun k hf _=>hk k hf) (fun _ x=>x)
def pC:Array Value:=cellsOf {Src.zero 0 0 false with now:=Pl.val .between} jl.zero St.zero
theorem G_(w:World):Z4 14 #[] w fun e w'=>e=.returned (.pointer (some ⟨w.heap.size,0,none⟩))/\w'=w.alloc (.cells pC 110):=by
 go_enter func14,ntmps14;go_wp2;go_ret;exact⟨rfl,rfl⟩
theorem Mt(w:World):oD (fun k=>k=w.heap.size) w.heap.size (w.alloc (.cells pC 110)) PR.new:=
 ⟨Pl.val .between,jl.zero,⟨eL _ _,rfl,fun k hk=>by rw[hk];simp,Own.zero _ _ _⟩,rfl⟩
end
section
variable{F F' G A B:Nat->Prop}{R:Nat}{w w' w'' wr w1:World}{s s':Src}{p:jl}{st:St}{c:Int}{a:Addr}{pt:Part}{v:Value}{m:Rd}{N n:Nat}{r:PR}{l:List Tok}
theorem Mu(pt:Part)(q:Int)(st:St)(c:Int):(b_ pt q st c).st.told.length<=st.told.length+4:=by
 cases pt with
 |plain k=>exact(rZ k q st c).told
 |word l k=>
  cases l with
  |nil=>exact cj _ _
  |cons x l=>exact(rj x l k q st c).told
 |name i k=>exact(ri i k q st c).told
 |ref i k=>
  simp only[b_,oB];split
  ·split
   ·unfold jQ;split
    ·show (gv _ _ _ _ _ _).told.length<=_;rw[(uT _ _ _ _ _ _).1];exact cj _ _
    ·exact cj _ _
   ·exact cj _ _
  ·exact cj _ _
theorem Be:∀(n:Nat) (s:Src) (pt:Part) (st:St),(lV n s pt st).st.told.length<=st.told.length+4*n:=by
 intro n;induction n with
 |zero=>intro s pt st;exact aj _
 |succ n ih=>
  intro s pt st;have h:=Mu pt s.took.1.at_ st s.took.2;simp only[lV];split
  ·show st.told.length<=_;omega
  ·split
   ·rename_i jT e;have:=ih s.took.1 jT (b_ pt s.took.1.at_ st s.took.2).st;omega
   ·show (b_ pt s.took.1.at_ st s.took.2).st.told.length<=_;omega
   ·show (b_ pt s.took.1.at_ st s.took.2).st.told.length<=_;omega
theorem zf(m:Rd):(tells m).2=m.st.told:=by unfold tells;cases m.ret<;>rfl
theorem IE(hg:Good r N)(b:ByteArray):(r.write b).2.length<=4*(N+b.size)+4:=by
 by_cases hd:r.s.closed=true\/r.s.no≠0
 ·rw[o6 hd];exact aq _
 ·have hc:r.s.closed=false:=by simpa using(not_or.1 hd).1
  have hn:r.s.no=0:=by simpa using(not_or.1 hd).2
  obtain⟨pt,k,h1,h2,h3,h4,h5,h6,h7,h8,h9⟩:=hg.live hc hn;rw[o0 hc hn h1,zf];have hsz:(r.s.rest++b).size=r.s.rest.size+b.size:=cH;have:=Be ((r.s.rest++b).size+1) {r.s with rest:=r.s.rest++b}.bare pt r.st;rw[h7]at this;simp only[aF]at this;exact aw this (by omega)
theorem IG(hg:Good r N):r.close.2.length<=4*N+4:=by
 unfold PR.close;split
 ·exact aq _
 ·rename_i hc;split
  ·exact aq _
  ·rename_i hn;obtain⟨pt,k,h1,h2,h3,h4,h5,h6,h7,h8,h9⟩:=hg.live (by simpa using hc) (by simpa using hn);rw[h1];show (shut (tells (reads {r.s with closed:=true,ended:=true}.bare pt r.st))).2.length<=_;unfold shut;rw[zf];have:=Be (r.s.rest.size+1) {r.s with closed:=true,ended:=true}.bare pt r.st;rw[h7]at this;simp only[aF]at this;exact aw this (by omega)
theorem lH.one{cs:List Value}{av:Value}(h:lH A R w av l cs):∀u∈cs,u.oneCell'=true:=by
 induction h with
 |nil=>intro u hu;cases hu
 |cons t v l cs ho hf hl ih=>
  intro u hu;rw[List.mem_append]at hu;rcases hu with hu|hu
  ·simp only[fk,cM,cn,cS]at hu;rcases hu with rfl|rfl|rfl|rfl|rfl
   ·rfl
   ·rfl
   ·rcases ho.2 with⟨rfl,_⟩|⟨g,cap,cur,rfl,_⟩
    ·rfl
    ·rfl
   ·rfl
   ·rfl
  ·exact ih u hu
theorem Ux(b:Option Addr)(n c:Nat)(hn:n<=c)(w:World):(Builtin.append_ #[59,59] 59 #[.slice b n c,.slice none 0 0]).run prog w=.ok (.slice b n c) w:=by cases b<;>simp[Builtin.append_,underlying,underlying59,sizeOf67,Builtin.lenOf,Builtin.firstCells,hn,storeCells,Result.andThen]
end
section
variable{F F' G A B:Nat->Prop}{R:Nat}{w w' w'' wr w1:World}{s s':Src}{p:jl}{st:St}{c:Int}{a:Addr}{pt:Part}{v v1 v2:Value}{m:Rd}{N n:Nat}{r:PR}{l l1 l2:List Tok}
theorem eO{k:Nat}{o:Obj}(h:w.heap[k]?=some o):k<w.heap.size:=(Array.getElem?_eq_some_iff.1 h).1
theorem Ba.old(h:Ba A w v l)(hk:∀k,k<w.heap.size->A k->w'.heap[k]?=w.heap[k]?)(hA:∀k,k<w.heap.size->A k->B k):Ba B w' v l:=by
 obtain⟨cs,h1,h2,h3⟩:=h;refine⟨cs,eH h1 fun k e=>?_,h2.frame fun k n xs v ho hv a b c=>?_,fun k e=>?_⟩
 ·obtain⟨cur,hc⟩:=fW h1 e;exact hk k (eO hc) (h3 k e)
 ·obtain⟨cur,hc⟩:=fW ho hv;exact⟨hk k (eO hc) a,hA k (eO hc) a,c⟩
 ·obtain⟨cur,hc⟩:=fW h1 e;exact hA k (eO hc) (h3 k e)
theorem II(h1:Ba A w v1 l1)(h2:Ba B w v2 l2)(hb:l1.length+l2.length<=68719476736):
  ∃v' w',(Builtin.append_ #[59,59] 59 #[v1,v2]).run prog w=.ok v' w'/\Ba (fun k=>A k\/B k\/k=w.heap.size) w' v' (l1++l2)/\w.grownBy w' v1.ownBlock:=by
 obtain⟨cs1,o1,t1,a1⟩:=h1;obtain⟨Gm,o2,t2,a2⟩:=h2;have o2':=o2;rcases o2'.2 with⟨rfl,hn⟩|⟨g,cap,cur,rfl,Eo,hg,hc,hm,hcs,rH⟩
 ·have hl:l2=[]:=aY hn;subst hl;have hv:∃b n c,v1=.slice b n c/\n<=c:=by
   rcases o1.2 with⟨rfl,hn⟩|⟨g,cap,cur,rfl,Eo,hg,hc,hm,hcs,rH⟩
   ·exact⟨none,0,0,rfl,aj _⟩
   ·exact⟨_,_,_,rfl,hc⟩
  obtain⟨b,n,c,rfl,vr⟩:=hv;refine⟨_,w,Ux b n c vr w,?_,⟨rfl,rfl,rfl,aj _,fun _ _ _=>rfl⟩⟩;rw[aM];exact Ba.old ⟨cs1,o1,t1,a1⟩ (fun _ _ _=>rfl) (fun _ _ x=>Or.inl x)
 ·obtain⟨i0,hi,hz0,hz1,hz2⟩:=aZ CG;have hcell:∀j u,Gm[j]?=some u->w.cell? ((⟨g,0,none⟩:Addr).add j)=some u:=by
   intro j u hj;rw[Addr.add_mid,ax];refine cell_of hg ?_;rw[<-rH,bW]at hj;split at hj
   ·simpa using hj
   ·cases hj
  obtain⟨v',w',hr,ho,hgr,_,hat⟩:=cJ (P:=prog) w 0 59 59 67 i0 _ 5 72 underlying59 hi hz0 hz1 hz2 rfl (by decide) v1 l1.length cs1 o1 ⟨g,0,none⟩ l2.length cap Gm o2.1 hcell t2.one (by unfold maxLen;omega) (by omega) (aq _);refine⟨v',w',hr,⟨cs1++Gm,?_,?_,?_⟩,hgr⟩
  ·rw[af];exact ho
  ·have keep:∀{D:Nat->Prop} {l:List Tok} {cs:List Value},lH D 0 w fK l cs->(∀k,D k->(A k\/B k\/k=w.heap.size))->lH (fun k=>A k\/B k\/k=w.heap.size) 0 w' fK l cs:=by
    intro D l cs h hD;refine h.frame fun k n xs v NI hv a b c=>⟨?_,hD k a,c⟩
    obtain⟨cur',hc'⟩:=fW NI hv;refine hgr.block k (eO hc') (fun e=>?_);obtain⟨aco,hc1⟩:=fW o1 e.symm;rw[hc']at hc1;simp only[aX,cZ]at hc1;exact absurd hc1.2.1 (by decide)
   exact(keep t1 (fun _ x=>Or.inl x)).app (keep t2 (fun _ x=>Or.inr (Or.inl x)))
  ·intro k e;rcases hat with h|h
   ·exact Or.inl (a1 k (h▸e))
   ·rw[e]at h;simp only[aX]at h;exact Or.inr (Or.inr h)
def aae(b:ByteArray):List Tok×Int×Int:=
 if(PR.new.write b).1.close.1.err.1≠0 then([],(PR.new.write b).1.close.1.err.1,(PR.new.write b).1.close.1.err.2)
 else((PR.new.write b).2++(PR.new.write b).1.close.2,0,0)
end
section
variable{F F' G A B:Nat->Prop}{R:Nat}{w w' w'' wr w1:World}{s s':Src}{p:jl}{st:St}{c:Int}{a:Addr}{pt:Part}{v v1 v2:Value}{m:Rd}{N n:Nat}{r:PR}{l l1 l2:List Tok}
theorem Frame.up{K:Nat}(fr:Frame F w w')(hF:∀k,F k->K<=k)(hK:K<=w.heap.size):Below K w w':=
 ⟨fr.os,fr.tape,fr.output,fr.size,fun k hk=>fr.block k (by omega) (fun x=>by have:=hF k x;omega)⟩
theorem Ql{K:Nat}{row:Option Nat}(g:w.grownBy w' row)(hr:∀k,row=some k->K<=k)(hK:K<=w.heap.size):Below K w w':=
 ⟨g.os,g.tape,g.output,g.size,fun k hk=>g.block k (by omega) (fun e=>by have:=hr k e.symm;omega)⟩
theorem gA{K K':Nat}(h:Below K w w')(hK:K'<=K):Below K' w w':=⟨h.os,h.tape,h.output,h.size,fun k hk=>h.block k (by omega)⟩
theorem Qm{x y:PR×List Tok}{F1 F2 A1 A2:Nat->Prop}{K:Nat}{w2 w3:World}(hK:K<=w2.heap.size)(an1:Ba A1 w2 v1 x.2)(hA1:∀k,A1 k->K<=k/\k<w2.heap.size/\¬F1 k)(YV:∀k,F1 k->K<=k)
  (an2:Ba A2 w3 v2 y.2) (al2:oD F2 R w3 y.1) (tY:Frame F1 w2 w3) (g1:∀k,A2 k->Grow F1 w2 w3 k/\¬F2 k) (g2:∀k,F2 k->Grow F1 w2 w3 k) (hb:x.2.length+y.2.length<=68719476736):
  ∃v' w4 A,(Builtin.append_ #[59,59] 59 #[v1,v2]).run prog w3=.ok v' w4/\Ba A w4 v' (x.2++y.2)/\oD F2 R w4 y.1/\Below K w2 w4/\(∀k,A k->K<=k/\¬F2 k)/\(∀k,F2 k->K<=k):=by
 have aaf:Ba A1 w3 v1 x.2:=an1.old (fun k hk hA=>tY.block k hk (hA1 k hA).2.2) (fun _ _ x=>x);obtain⟨v',w4,hrun,VM,gr⟩:=II aaf an2 hb;have hz:=tY.size;have hF2:∀k,F2 k->K<=k:=fun k hk=>(g2 k hk).elim (YV k) (fun x=>by omega);have hr:∀k,v1.ownBlock=some k->A1 k:=fun k e=>by obtain⟨cs,_,_,h⟩:=aaf;exact h k e
 have aag:∀k,A1 k->¬F2 k:=fun k hA hF=>(g2 k hF).elim (hA1 k hA).2.2 (fun x=>by have:=(hA1 k hA).2.1;omega);have hlt:∀k,F2 k->k<w3.heap.size:=fun k hk=>by obtain⟨_,_,mG,_⟩:=al2;exact mG.lt k hk
 refine⟨v',w4,fun k=>A1 k\/A2 k\/k=w3.heap.size,hrun,VM,al2.keep (fun k hk=>gr.block k (hlt k hk) (fun e=>aag k (hr k e.symm) hk)) gr.size,(tY.up YV hK).trans ((Ql gr (fun k e=>(hA1 k (hr k e)).1) (by omega))),?_,hF2⟩;rintro k (h|h|h)
 ·exact⟨(hA1 k h).1,aag k h⟩
 ·exact⟨(g1 k h).1.elim (YV k) (fun x=>by omega),(g1 k h).2⟩
 ·exact⟨by omega,fun x=>by have:=hlt k x;omega⟩
theorem Qn(gl:Gl w a)(o:Obj):Gl (w.alloc o) a:=gl.frame (F:=fun _=>False) (Frame.below ((Below.refl _ _).alloc (aj _) _)) (fun _ _ x=>x)
theorem IJ{ops:Array Oper}{rest:List Oper}{o:Oper}{a:Act}{w:World}{Q:Exit->Act->World->Prop}(hgd:o.guard=none)(s x:Operand)(ho:o.op=Op.call {callee:=Callee.builtin Builtin.append,args:=#[s,x],argTypes:=#[59,59]})(hty:o.type=59)
  (v1 v2:Value) (hs:a.eval s=v1) (hx:a.eval x=v2) {v':Value} {w':World} (hr:(Builtin.append_ #[59,59] 59 #[v1,v2]).run prog w=.ok v' w') (h:wpList prog ops Q rest (a.put o.dst v') w'):wpList prog ops Q (o::rest) a w:=by
 refine wpList_plain hgd fun K hK=>?_;unfold Oper.wp execOp;simp only[ho,hty,resolve,invoke,builtin,Sem.run_bind,Sem.run_pure,eu,List.map_toArray,bC,b9,hs,hx,hr];exact hK _ _ h
end
section
variable{g:St->List Tok}{s:ByteArray}{i:Nat}{pt jT:Part}{st iG:St}{no q c:Int}{S:Src}
theorem zg(h1:S.rest=s.extract i s.size)(hi:i<=s.size):S.took.2=cur s i/\(0<=cur s i->S.took.1.rest=s.extract (i+wid s i) s.size/\S.took.1.next=S.next+wid s i):=by
 have hz:S.rest.size=s.size-i:=by rw[h1];simp[cv]
 rw[Ch.kj]at h1;have hc:=uL s i 0;rw[bN]at hc;unfold Src.took;by_cases h0:i<s.size
 ·have hw:=yN (s:=s) (k:=i) (j:=0) (by omega);rw[bN]at hw;rw[if_neg (by omega),h1];have hz':0<(Ch.tail s i).size:=by rw[Ch.ju];omega
  unfold cur at hc;rw[if_pos hz',if_pos h0]at hc;unfold cur;rw[if_pos h0];by_cases ho:Ch.gW (Ch.tail s i) 0=true
  ·rw[if_pos ho]at hc ⊢;refine⟨hc,fun _=>?_⟩;simp only;have hw':(Utf8.decode (Ch.tail s i) 0).2=wid s i:=hw;rw[hw'];refine⟨?_,rfl⟩;rw[Ch.kj,Ch.Ls,<-Ch.kj]
  ·rw[if_neg ho]at hc ⊢;refine⟨hc,fun h=>?_⟩;rw[<-hc]at h;omega
 ·rw[if_pos (by omega)];unfold cur;rw[if_neg h0];exact⟨rfl,fun h=>by omega⟩
theorem Ac{o:St}(h:b_ pt q st c=⟨o,.stop⟩):o=st.eK:=by
 have key:∀(k:Pl) (st:St),step k q st c=⟨o,.stop⟩->o=st.eK:=by
  intro k st h;have:=AU h;subst this;simp only[step]at h
  repeat' split at h
  all_goals first|(cases h;done)|(cases h;rfl)
 cases pt with
 |plain k=>exact key k st h
 |word l k=>
  cases l with
  |nil=>simp only[b_]at h;cases h
  |cons x l=>
   simp only[b_,lT]at h
   repeat' split at h
   all_goals cases h
 |name i k=>
  simp only[b_,stName,fX]at h
  repeat' split at h
  all_goals first|(cases h;done)|exact key k st h
 |ref i k=>
  simp only[b_,oB]at h;split at h
  ·split at h
   ·unfold jQ at h;split at h<;>cases h
   ·cases h
  ·cases h
theorem zh(g:St->List Tok)(s:ByteArray):∀(n i:Nat) (S:Src) (pt:Part) (st:St) (k:Nat),s.size-i<n->i<=s.size->S.rest=s.extract i s.size->S.next=(i:Int)->S.ended=true->sW k pt st->
  (∃no q,(reads S pt st).ret=.fail no q/\runs g s i pt st=((reads S pt st).st.told,no,q))\/((reads S pt st).ret=.over/\∃iG,runs g s i pt st=(g iG,0,0)/\(reads S pt st).st=iG.eK):=by
 intro n;induction n with
 |zero=>intro i S pt st k h;omega
 |succ n ih=>
  intro i S pt st k hn hi hr hx he hl;obtain⟨h1,h2⟩:=zg hr hi;have hm:S.more=false:=by simp[Src.more,he]
  rw[pz hl hm,h1,hx];generalize hs:b_ pt i st (cur s i)=o;obtain⟨o,r⟩:=o;cases r with
  |go jT=>
   have hres:(b_ pt S.next st S.took.2).res=.go jT:=by rw[h1,hx,hs]
   have hk:=lX hl.sound hl.quote hres;have h0:0<=cur s i:=by
    by_cases h0:0<=cur s i
    ·exact h0
    ·exfalso;have zO:cur s i= -1\/cur s i= -2:=by rcases rU h0 with⟨_,h⟩|⟨_,h⟩<;>omega
     exact ml pt i st (cur s i) hl.sound zO hl.quote jT (by rw[hs])
   have hc:=fp h0;obtain⟨h3,h4⟩:=h2 h0;rw[fC hs h0];have hst:(b_ pt S.next st S.took.2).st=o:=by rw[h1,hx,hs]
   have hlim:=hl.step hres;rw[hst]at hlim;exact ih (i+wid s i) S.took.1 jT o (k+1) (by omega) (by omega) h3 (by rw[h4,hx];omega) ((n_ S).1.trans he) hlim
  |stop=>
   refine Or.inr ⟨rfl,st,vQ hs,?_⟩;exact Ac hs
  |fail no q=>exact Or.inl ⟨no,q,rfl,gb hs⟩
theorem Mv:∀(n:Nat) (S:Src) (pt:Part) (st:St) (k:Nat),S.rest.size<n->sW k pt st->S.ended=false->
  ((reads S pt st).ret=.more->reads {S with ended:=true} pt st=reads { (reads S pt st).s with ended:=true} (reads S pt st).pt (reads S pt st).st)/\
  (∀no q,(reads S pt st).ret=.fail no q->(reads {S with ended:=true} pt st).ret=.fail no q/\(reads {S with ended:=true} pt st).st=(reads S pt st).st):=by
 intro n;induction n with
 |zero=>intro S pt st k h;omega
 |succ n ih=>
  intro S pt st k hn hl he;by_cases hm:S.more=true
  ·rw[ze hm];exact⟨fun _=>rfl,fun _ _ e=>(by cases e)⟩
  ·have sD:S.more=false:=by simpa using hm
   have Kz:({S with ended:=true}:Src).more=false:=by simp[Src.more]
   have ht:({S with ended:=true}:Src).took=({S.took.1 with ended:=true},S.took.2):=by
    unfold Src.took;repeat' split
    all_goals rfl
   rw[pz hl sD,pz (s:={S with ended:=true}) hl Kz,ht];generalize hr:(b_ pt S.next st S.took.2).res=r;cases r with
   |go jT=>
    have hk:=lX hl.sound hl.quote hr;exact ih S.took.1 jT _ (k+1) (by omega) (hl.step hr) ((n_ S).1.trans he)
   |stop=>exact⟨fun e=>(by cases e),fun _ _ e=>(by cases e)⟩
   |fail no q=>exact⟨fun e=>(by cases e),fun _ _ e=>⟨e,rfl⟩⟩
theorem Fw(b:Bool):∀(n:Nat) (S:Src) (pt:Part) (st:St),lV n {S with closed:=b} pt st={lV n S pt st with s:={ (lV n S pt st).s with closed:=b}}:=by
 intro n;induction n with
 |zero=>intro S pt st;rfl
 |succ n ih=>
  intro S pt st;have ht:({S with closed:=b}:Src).took=({S.took.1 with closed:=b},S.took.2):=by
   unfold Src.took;repeat' split
   all_goals rfl
  have hm:({S with closed:=b}:Src).more=S.more:=rfl;simp only[lV,ht,hm];split
  ·rfl
  ·cases (b_ pt S.took.1.at_ st S.took.2).res with
   |go jT=>simp only[];exact ih _ _ _
   |stop=>rfl
   |fail no q=>rfl
end
def mS(s:ByteArray):List Tok×Int×Int:=if(eV s).err≠0 then([],(eV s).err,(eV s).at_)else((eV s).l++(eV s).last,0,0)
theorem Uy:Rel Sc.zero St.zero:=⟨⟨rfl,rfl,fun h=>absurd rfl h⟩,rfl,rfl,rfl⟩
def lD(b:ByteArray)(e:Bool):Src:={Src.zero 0 0 false with rest:=b,ended:=e}
theorem Bf(b:ByteArray):runs (fun st=>st.told) b 0 (.plain .between) St.zero=((eV b).l,(eV b).err,(eV b).at_):=by
 have h:=A6 (g:=fun st=>st.told) (s:=b) (fun x=>x.l) (fun x st he h=>h.tag.told) (b.size+1) Sc.zero St.zero rfl (aq _) (by show b.size<0+_;omega) Uy;have h2:runs (fun st=>st.told) b 0 (.plain .between) St.zero=(iQ b (b.size+1) Sc.zero).fin fun x=>x.l:=h;rw[h2];unfold Sc.fin eV;split
 ·rename_i he;have:=tI (fun st=>st.told) (s:=b) (b.size+1) Sc.zero St.zero rfl (aq _) (by show b.size<0+_;omega) Uy he;rw[he,this.2];rfl
 ·rfl
theorem Mw(b:ByteArray):runs (fun st=>st.eK.told) b 0 (.plain .between) St.zero=if(eV b).err=0 then((eV b).l++(eV b).last,0,0)else((eV b).l,(eV b).err,(eV b).at_):=
 A6 (g:=fun st=>st.eK.told) (s:=b) (fun x=>x.l++x.last) (fun x st he h=>Mb x st he h) (b.size+1) Sc.zero St.zero rfl (aq _) (by show b.size<0+_;omega) Uy
theorem J_{S:Src}{pt:Part}{st:St}{k:Nat}{no q:Int}(hl:sW k pt st)(h:(reads S pt st).ret=.fail no q):no≠0:=by
 have key:∀(n:Nat) (S:Src) (pt:Part) (st:St),(lV n S pt st).ret=.fail no q->no≠0:=by
  intro n;induction n with
  |zero=>intro S pt st h;simp only[lV]at h;cases h
  |succ n ih=>
   intro S pt st h;simp only[lV]at h;split at h
   ·cases h
   ·have Fv:=sZ pt S.took.1.at_ st S.took.2;cases hr:(b_ pt S.took.1.at_ st S.took.2).res with
    |go pt2=>rw[hr]at h;exact ih _ _ _ h
    |stop=>rw[hr]at h;cases h
    |fail a b=>rw[hr]at h;cases h;exact Fv.fail _ _ hr
 exact key _ S pt st h
theorem wP(b:ByteArray):((eV b).err=0->(reads (lD b true) (.plain .between) St.zero).ret=.over/\(reads (lD b true) (.plain .between) St.zero).st.told=(eV b).l++(eV b).last)/\
  ((eV b).err≠0->(reads (lD b true) (.plain .between) St.zero).ret=.fail (eV b).err (eV b).at_/\(reads (lD b true) (.plain .between) St.zero).st.told=(eV b).l):=by
 have hr:(lD b true).rest=b.extract 0 b.size:=by show b=_;simp
 have Fv:=fun no q (h:(reads (lD b true) (.plain .between) St.zero).ret=.fail no q)=>h;have h:=zh (fun st=>st.eK.told) b (b.size+1) 0 (lD b true) (.plain .between) St.zero 0 (by omega) (aq _) hr rfl rfl (Fq 0);have h2:=zh (fun st=>st.told) b (b.size+1) 0 (lD b true) (.plain .between) St.zero 0 (by omega) (aq _) hr rfl rfl (Fq 0);rw[Mw]at h;rw[Bf]at h2;constructor
 ·intro he;rw[if_pos he]at h;rcases h with⟨no,q,h1,h3⟩|⟨h1,iG,h3,h4⟩
  ·exfalso;rcases h2 with⟨no',q',k1,k3⟩|⟨k1,_⟩
   ·have hno:=J_ (Fq 0) k1;simp only[cw]at k3;exact hno (k3.2.1.symm.trans he)
   ·rw[h1]at k1;cases k1
  ·refine⟨h1,?_⟩;rw[h4];exact(aA Prod.fst h3).symm
 ·intro he;rw[if_neg he]at h;rcases h2 with⟨no,q,k1,k3⟩|⟨k1,iG,k3,k4⟩
  ·simp only[cw]at k3;exact⟨by rw[k1,k3.2.1,k3.2.2],k3.1.symm⟩
  ·simp only[cw]at k3;exact absurd k3.2.1 he
theorem Qo(t:ByteArray)(h0:0<t.size)(h:Tk.full t=false):Ch.gW t 0=false:=by
 apply Ch.t_;unfold Tk.full at h;rw[if_neg (by omega)]at h;rw[decode_at,oZ _ _ _ _ _ (by omega) (bL _) (bL _) (bL _) (bL _)];simp only[po,dB,cX]at h;rw[Nat.sub_zero];have h1:=h.1;generalize (t.get! 0).toNat=b0 at*
 unfold vW;by_cases a1:firstT b0=240
 ·rw[a1]at h1;omega
 by_cases a2:firstT b0=241
 ·rw[if_neg a1,if_pos a2]
 rw[if_neg a1,if_neg a2];unfold slowN;rw[if_pos (by omega)]
theorem IK{S:Src}(h:S.more=true):S.took.2= -1\/S.took.2= -2:=by
 simp only[Src.more,aV,Bool.not_eq_true']at h;unfold Src.took;by_cases h0:S.rest.size=0
 ·rw[if_pos h0];exact Or.inl rfl
 ·rw[if_neg h0,if_neg (by rw[Qo _ (by omega) h.2];simp)];exact Or.inr rfl
theorem Mx{pt:Part}{q:Int}{st o:St}{c:Int}{no p:Int}(h:b_ pt q st c=⟨o,.fail no p⟩):o.told=st.told:=by
 have key:∀(k:Pl) (st:St),step k q st c=⟨o,.fail no p⟩->o.told=st.told:=by
  intro k st h;cases k<;>simp only[step,jM,fX,jX,iH,jd,fR,fS]at h<;>(repeat' split at h)<;>first|(cases h;done)|(cases h;rfl)
 cases pt with
 |plain k=>exact key k st h
 |word l k=>
  cases l with
  |nil=>simp only[b_]at h;cases h
  |cons x l=>
   simp only[b_,lT]at h
   repeat' split at h
   all_goals first|(cases h;done)|(cases h;rfl)
 |name i k=>
  simp only[b_,stName,fX]at h
  repeat' split at h
  all_goals first|(cases h;done)|exact key k st h|(cases h;rfl)
 |ref i k=>
  simp only[b_,oB]at h;split at h
  ·split at h
   ·unfold jQ at h;split at h<;>cases h
    rfl
   ·cases h
  ·cases h;rfl
theorem IL(g:St->List Tok)(s:ByteArray):∀(n i:Nat) (S:Src) (pt:Part) (st:St) (k:Nat),s.size-i<n->i<=s.size->S.rest=s.extract i s.size->S.next=(i:Int)->S.ended=false->sW k pt st->(reads S pt st).ret=.more->
  ∃j,j<=s.size/\runs g s i pt st=runs g s j (reads S pt st).pt (reads S pt st).st/\(reads S pt st).s.rest=s.extract j s.size:=by
 intro n;induction n with
 |zero=>intro i S pt st k h;omega
 |succ n ih=>
  intro i S pt st k hn hi hr hx he hl np;by_cases hm:S.more=true
  ·rw[ze hm];exact⟨i,hi,rfl,hr⟩
  ·have sD:S.more=false:=by simpa using hm
   obtain⟨h1,h2⟩:=zg hr hi;rw[pz hl sD,h1,hx]at np ⊢;generalize hs:b_ pt i st (cur s i)=o at*
   obtain⟨o,r⟩:=o;cases r with
   |go jT=>
    have hres:(b_ pt S.next st S.took.2).res=.go jT:=by rw[h1,hx,hs]
    have h0:0<=cur s i:=by
     by_cases h0:0<=cur s i
     ·exact h0
     ·exfalso;have zO:cur s i= -1\/cur s i= -2:=by rcases rU h0 with⟨_,h⟩|⟨_,h⟩<;>omega
      exact ml pt i st (cur s i) hl.sound zO hl.quote jT (by rw[hs])
    have hc:=fp h0;obtain⟨h3,h4⟩:=h2 h0;rw[fC hs h0];have hst:(b_ pt S.next st S.took.2).st=o:=by rw[h1,hx,hs]
    have hlim:=hl.step hres;rw[hst]at hlim;exact ih (i+wid s i) S.took.1 jT o (k+1) (by omega) (by omega) h3 (by rw[h4,hx];omega) ((n_ S).1.trans he) hlim np
   |stop=>cases np
   |fail no q=>cases np
theorem Fx{S:Src}{pt:Part}{st:St}:(reads S pt st).s.no=S.no/\(reads S pt st).s.xe=S.xe:=by
 have key:∀(n:Nat) (S:Src) (pt:Part) (st:St),(lV n S pt st).s.no=S.no/\(lV n S pt st).s.xe=S.xe:=by
  intro n;induction n with
  |zero=>intro S pt st;exact⟨rfl,rfl⟩
  |succ n ih=>
   intro S pt st;have hf:=n_ S;simp only[lV];split
   ·exact⟨rfl,rfl⟩
   ·cases (b_ pt S.took.1.at_ st S.took.2).res with
    |go jT=>
     have:=ih S.took.1 jT (b_ pt S.took.1.at_ st S.took.2).st;exact⟨this.1.trans hf.2.1,this.2.trans hf.2.2.1⟩
    |stop=>exact⟨hf.2.1,hf.2.2.1⟩
    |fail no q=>exact⟨hf.2.1,hf.2.2.1⟩
 exact key _ S pt st
def kT(b:ByteArray):Rd:=reads (lD b false) (.plain .between) St.zero
theorem Fy(b:ByteArray):
  ((kT b).ret=.more/\(kT b).st.told=(eV b).l/\reads (lD b true) (.plain .between) St.zero=reads { (kT b).s with ended:=true} (kT b).pt (kT b).st/\(∃n,sW n (kT b).pt (kT b).st)/\(kT b).s.more=true/\(kT b).s.no=0/\(kT b).s.xe=0/\(kT b).s.closed=false/\(kT b).s.now=.nilFunc)\/
  ((kT b).ret=.fail (eV b).err (eV b).at_/\(eV b).err≠0/\(kT b).st.told=(eV b).l/\(kT b).s.closed=false):=by
 have hw:=wP b;have hcut:=Bd ⟨#[]⟩ (b.size+1) (lD b false) (.plain .between) St.zero 0 (by show b.size<_;omega) (Fq 0) rfl;have hend:=Mv (b.size+1) (lD b false) (.plain .between) St.zero 0 (by show b.size<_;omega) (Fq 0) rfl;have VN:=IL (fun st=>st.told) b (b.size+1) 0 (lD b false) (.plain .between) St.zero 0 (by omega) (aq _) (by show b=_;simp) rfl rfl (Fq 0);have e1:({lD b false with ended:=true}:Src)=lD b true:=rfl;rw[e1]at hend;rw[Bf]at VN;have hno:=fun no q=>J_ (S:=lD b false) (no:=no) (q:=q) (Fq 0);unfold kT;generalize reads (lD b false) (.plain .between) St.zero=m at*
 cases np:m.ret with
 |more=>
  obtain⟨c1,stay⟩:=hcut.more np;have e2:=hend.1 np;obtain⟨n,hl,_⟩:=stay.lim;obtain⟨j,hj,hr,aah⟩:=VN np;refine Or.inl ⟨rfl,?_,e2,⟨n,hl⟩,stay.more,stay.no,stay.xe,stay.closed,stay.now⟩;obtain⟨h1,_⟩:=zg aah hj;have Ju:=IK stay.more;rw[h1]at Ju;generalize hs:b_ m.pt j m.st (cur b j)=o;obtain⟨o,r⟩:=o;cases r with
  |go jT=>exact absurd (by rw[hs]) (ml m.pt j m.st (cur b j) hl.sound Ju hl.quote jT)
  |stop=>
   rw[vQ hs]at hr;exact(aA Prod.fst hr).symm
  |fail no q=>
   rw[gb hs]at hr;rw[<-Mx hs];exact(aA Prod.fst hr).symm
 |over=>exact absurd np hcut.over
 |fail no q=>
  obtain⟨f1,f2⟩:=hend.2 no q np;have hn:=hno no q np;have Qp:(eV b).err≠0:=by
   intro e;have:=(hw.1 e).1;rw[f1]at this;cases this
  obtain⟨w1,w2⟩:=hw.2 Qp;rw[f1]at w1;cases w1;rw[f2]at w2;exact Or.inr ⟨rfl,Qp,w2,(hcut.fail _ _ np).2.2⟩
theorem Uz(b:ByteArray):({PR.new.s with rest:=PR.new.s.rest++b}:Src).bare=lD b false:=by
 have h:(⟨#[]⟩:ByteArray)++b=b:=by
  apply cq;simp[dt]
 simp only[PR.new,Src.zero,Src.bare,lD,h]
theorem Bg(b:ByteArray):PR.new.write b=tells (kT b):=by
 unfold PR.write;rw[if_neg (by rintro(h|h);cases h;exact h rfl)];show tells (reads ({PR.new.s with rest:=PR.new.s.rest++b}:Src).bare (.plain .between) St.zero)=_;rw[Uz];rfl
theorem Bh(b:ByteArray):(PR.new.write b).2=(eV b).l:=by
 rw[Bg];unfold tells;rcases Fy b with⟨h1,h2,_⟩|⟨h1,_,h2,_⟩
 ·rw[h1];exact h2
 ·rw[h1];exact h2
theorem C_(S:Src)(pt:Part)(st:St)(b:Bool):reads {S with closed:=b} pt st={reads S pt st with s:={ (reads S pt st).s with closed:=b}}:=Fw b _ S pt st
theorem My(T:List Tok)(S:Src)(pt:Part)(st:St):reads S pt (st.pre T)={reads S pt st with st:=(reads S pt st).st.pre T}:=Qh T _ S pt st
theorem Bi(b:ByteArray):(PR.new.write b).1.close.2=(eV b).last/\(PR.new.write b).1.close.1.err=((eV b).err,(eV b).at_)/\(PR.new.write b).1.close.1.s.closed=true:=by
 have hw:=wP b;rw[Bg];rcases Fy b with⟨h1,h2,h3,⟨n,hl⟩,hm,hno,abw,Ap,P7⟩|⟨h1,h2,h3,Ap⟩
 ·unfold tells;rw[h1];simp only;unfold PR.close;simp only;rw[Ap,if_neg (show ¬(false=true) by simp),if_neg (show ¬((kT b).s.no≠0) by rw[hno];simp)];have hb:({ (kT b).s with closed:=true,ended:=true}:Src).bare={ ({ (kT b).s with ended:=true}:Src)with closed:=true}:=by simp only[Src.bare,P7]
  have hst:(kT b).st=({ (kT b).st with told:=[]}:St).pre (kT b).st.told:=by simp[St.pre]
  rw[h3]at hw;rw[hst,My]at hw;simp only at hw;rw[hb,C_];have VO:=Fx (S:={ (kT b).s with ended:=true}) (pt:=(kT b).pt) (st:={ (kT b).st with told:=[]});generalize reads { (kT b).s with ended:=true} (kT b).pt { (kT b).st with told:=[]}=m at*
  unfold shut tells;by_cases he:(eV b).err=0
  ·obtain⟨w1,w2⟩:=hw.1 he;simp only[w1];have w2':(kT b).st.told++m.st.told=(eV b).l++(eV b).last:=w2;rw[h2]at w2';refine⟨List.append_cancel_left w2',?_,rfl⟩;have hat:(eV b).at_=0:=by
    have:=tI (fun st=>st.told) (s:=b) (b.size+1) Sc.zero St.zero rfl (aq _) (by show b.size<0+_;omega) Uy he;exact this.2
   unfold PR.err Src.zero;simp only[if_true];rw[VO.1,VO.2,he,hat];simp only[hno,abw]
  ·obtain⟨w1,w2⟩:=hw.2 he;simp only[w1];have w2':(kT b).st.told++m.st.told=(eV b).l:=w2;rw[h2]at w2';have hnil:m.st.told=[]:=by simpa using w2'
   refine⟨?_,rfl,rfl⟩;rw[hnil];unfold Sc.last;rw[if_pos (Or.inl he)]
 ·unfold tells;rw[h1];simp only;unfold PR.close;simp[Src.zero,Ap,h2,PR.err,Sc.last]
theorem UA(b:ByteArray):aae b=mS b:=by
 obtain⟨h1,h2,_⟩:=Bi b;unfold aae mS;rw[h2,Bh,h1]
end K
end Go.Proofs.YthlcmljckpdheaaGreatDoor
namespace Go.Proofs.YthlcmljckpdheaaGreatDoor
namespace K
open Go.RowKit Go.Lib Tryz
structure Nd where
 name:List UInt8
 d_:nE
 text:List UInt8
 kids:List Nat
 up:Int
def Nd.kid(n:Nd)(j:Nat):Nd:={n with kids:=n.kids++[j]}
def fU:List Nd->Nat->Nat->List Nd
 |[],_,_=>[]
 |n::l,0,j=>n.kid j::l
 |n::l,k+1,j=>n::fU l k j
structure Gr where
 nodes:List Nd
 stack:List Nat
def je:List Nat->Int
 |[]=> -1
 |k::_=>k
def Gr.put(g:Gr)(n:Nd):Gr:=
 match g.stack with
 |[]=>{g with nodes:=g.nodes++[{n with up:= -1}]}
 |k::_=>{g with nodes:=fU g.nodes k g.nodes.length++[{n with up:=(k:Int)}]}
def elemOf(t:Tok):Nd:=⟨t.name,t.d_,[],[],0⟩
def jo(t:Tok):Nd:=⟨[],[],t.text,[],0⟩
def ia(l:List UInt8):Bool:=l.all fun c=>js c.toNat
def Gr.named(g:Gr)(k:Nat)(n:List UInt8):Bool:=match g.nodes[k]? with
 |some m=>m.name==n
 |none=>false
def Gr.take(g:Gr)(t:Tok):Int×Gr:=
 if t.kind=1 then
  if g.stack=[]/\g.nodes≠[]then(7,g)
  else if 30<=g.stack.length then(8,g)
  else(0,{ (g.put (elemOf t))with stack:=g.nodes.length::g.stack})
 else if t.kind=2 then
  match g.stack with
  |[]=>(6,g)
  |k::st=>if g.named k t.name=true then(0,{g with stack:=st})else(6,g)
 else match g.stack with
  |[]=>if ia t.text=true then(0,g)else(7,g)
  |_::_=>(0,g.put (jo t))
def grow:Gr->List Tok->Int×Int×Gr
 |g,[]=>(0,0,g)
 |g,t::l=>if(g.take t).1≠0 then((g.take t).1,t.at_,g)else grow (g.take t).2 l
def Gr.zero:Gr:=⟨[],[]⟩
def fj(s:ByteArray):List Nd×Int×Int:=
 if(grow Gr.zero ((eV s).l++(eV s).last)).1≠0 then([],(grow Gr.zero ((eV s).l++(eV s).last)).1,(grow Gr.zero ((eV s).l++(eV s).last)).2.1)
 else if(eV s).err≠0 then([],(eV s).err,(eV s).at_)
 else if(grow Gr.zero ((eV s).l++(eV s).last)).2.2.stack≠[]\/(grow Gr.zero ((eV s).l++(eV s).last)).2.2.nodes=[]then([],3,s.size)
 else((grow Gr.zero ((eV s).l++(eV s).last)).2.2.nodes,0,0)
theorem gi:∀(l:List Nd) (k j:Nat),(fU l k j).length=l.length
 |[],_,_=>rfl
 |n::l,0,j=>rfl
 |n::l,k+1,j=>by simp only[fU,au,gi l k j]
theorem nG:∀(l:List Nd) (k j i:Nat),(fU l k j)[i]?=if i=k then(l[i]?).map (fun n=>n.kid j)else l[i]?
 |[],k,j,i=>by simp[fU]
 |n::l,0,j,0=>by simp[fU]
 |n::l,0,j,i+1=>by simp[fU]
 |n::l,k+1,j,0=>by simp[fU]
 |n::l,k+1,j,i+1=>by simp only[fU,cE,nG l k j i,Nat.add_right_cancel_iff]
def zi(nodes:List Nd):List Nat->Prop
 |[]=>True
 |k::st=>(∃n,nodes[k]?=some n/\n.up=je st)/\zi nodes st
structure Gr.Wf(g:Gr):Prop where
 YW:zi g.nodes g.stack
 deep:g.stack.length<=30
theorem Gr.Wf.zero:Gr.zero.Wf:=⟨trivial,aq _⟩
theorem zi.lt{nodes:List Nd}:∀{st:List Nat},zi nodes st->∀k∈st,k<nodes.length
 |[],_,k,hk=>by simp at hk
 |j::st,h,k,hk=>by
  rcases List.mem_cons.1 hk with e|e
  ·obtain⟨⟨n,hn,_⟩,_⟩:=h;rw[e];exact(List.getElem?_eq_some_iff.1 hn).1
  ·exact zi.lt h.2 k e
theorem zi.mono{nodes Qq:List Nd}(hm:∀(k:Nat) n,nodes[k]?=some n->∃n',Qq[k]?=some n'/\n'.up=n.up):∀{st:List Nat},zi nodes st->zi Qq st
 |[],_=>trivial
 |k::st,⟨⟨n,hn,hu⟩,h⟩=>by
  obtain⟨n',YE,hu'⟩:=hm k n hn;exact⟨⟨n',YE,hu'.trans hu⟩,zi.mono hm h⟩
theorem zj(l:List Nd)(n:Nd)(k:Nat)(m:Nd)(h:l[k]?=some m):(l++[n])[k]?=some m:=by
 have:=(List.getElem?_eq_some_iff.1 h).1;rw[aL this];exact h
theorem mH(g:Gr)(n:Nd):(g.put n).nodes.length=g.nodes.length+1:=by unfold Gr.put;split<;>simp[gi]
theorem nH(g:Gr)(n:Nd):(g.put n).stack=g.stack:=by unfold Gr.put;split<;>simp_all
theorem Fz(g:Gr)(n:Nd)(k:Nat)(m:Nd)(h:g.nodes[k]?=some m):∃m',(g.put n).nodes[k]?=some m'/\m'.up=m.up/\m'.name=m.name/\m'.d_=m.d_/\m'.text=m.text:=by
 unfold Gr.put;split
 ·exact⟨m,zj _ _ _ _ h,rfl,rfl,rfl,rfl⟩
 ·rename_i j st hs;have e:=nG g.nodes j g.nodes.length k;rw[h]at e;by_cases hk:k=j
  ·rw[if_pos hk]at e;exact⟨_,zj _ _ _ _ e,rfl,rfl,rfl,rfl⟩
  ·rw[if_neg hk]at e;exact⟨m,zj _ _ _ _ e,rfl,rfl,rfl,rfl⟩
theorem rk(g:Gr)(n:Nd):(g.put n).nodes[g.nodes.length]?=some {n with up:=je g.stack}:=by
 unfold Gr.put;split
 ·rename_i hs;rw[hs];simp[je]
 ·rename_i j st hs;rw[hs];have:=gi g.nodes j g.nodes.length;rw[aP (by omega)];simp[this,je]
theorem Gr.Wf.put{g:Gr}(h:g.Wf)(n:Nd):zi (g.put n).nodes g.stack:=
 zi.mono (fun k m hm=>by obtain⟨m',a,b,_⟩:=Fz g n k m hm;exact⟨m',a,b⟩) h.YW
theorem Gr.Wf.take{g:Gr}(h:g.Wf)(t:Tok):(g.take t).2.Wf:=by
 unfold Gr.take;split
 ·split
  ·exact h
  ·split
   ·exact h
   ·rename_i _ hd;refine⟨⟨⟨_,rk g _,rfl⟩,h.put _⟩,?_⟩;show g.stack.length+1<=30;omega
 ·split
  ·split
   ·exact h
   ·rename_i k st hs;split
    ·have hu:=h.YW;have hd:=h.deep;rw[hs]at hu hd;exact⟨hu.2,by show st.length<=30;simp only[au]at hd;omega⟩
    ·exact h
  ·split
   ·split<;>exact h
   ·refine⟨?_,?_⟩
    ·simp only[nH];exact h.put _
    ·simp only[nH];exact h.deep
theorem Gr.Wf.top{g:Gr}(h:g.Wf){k:Nat}{st:List Nat}(hs:g.stack=k::st):∃n,g.nodes[k]?=some n/\n.up=je st/\k<g.nodes.length:=by
 have hu:=h.YW;rw[hs]at hu;obtain⟨⟨n,hn,e⟩,_⟩:=hu;exact⟨n,hn,e,(List.getElem?_eq_some_iff.1 hn).1⟩
end K
end Go.Proofs.YthlcmljckpdheaaGreatDoor
namespace Go.Proofs.YthlcmljckpdheaaGreatDoor
namespace K
open Go.RowKit Go.Maps Go.Lib Tryz
section
variable{F F' G A B:Nat->Prop}{R:Nat}{w w' w'' wr w1:World}{a:Addr}{v v1 v2:Value}{N n:Nat}{l l1 l2:List Tok}
def mU(t:Tok)(v:Value):Value:=.agg #[.int .i64 t.kind,e8 t.name,v,e8 t.text,.int .i64 t.at_]
end
end K
end Go.Proofs.YthlcmljckpdheaaGreatDoor
