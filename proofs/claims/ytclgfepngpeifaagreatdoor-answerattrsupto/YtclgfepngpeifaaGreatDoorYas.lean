import Derived.Test.YtclgfepngpeifaaGreatDoorYA
import Derived.Deep.MidRow
import Derived.Laws.StructEq
import Derived.BigQuiet
import Derived.Test.YtclgfepngpeifaaGreatDoorYaq
import Derived.Test.YtclgfepngpeifaaGreatDoorYar
import Derived.Test.YtclgfepngpeifaaGreatDoorYap
set_option linter.unusedVariables false
set_option linter.unusedSimpArgs false
set_option maxHeartbeats 32000000
set_option maxRecDepth 100000
namespace Go.Proofs.YtclgfepngpeifaaGreatDoor
namespace K
open Go.RowKit Go.Maps Go.Lib Tryz
section
variable{F F' G:Nat->Prop}{R:Nat}{w w' w'' wr:World}{s s':Src}{p:Ptr}{st:St}{c:Int}{a:Addr}{pt:Part}{v:Value}{m:Rd}{N n:Nat}
abbrev fo:Value:=.slice none 0 0
def Told(G:Nat->Prop)(R:Nat)(w:World)(av:Value)(k:Nat):Prop:=G k/\k≠R/\((∃cur,w.heap[k]?=some (.cells cur 56 (0,0)))\/((∃cur,w.heap[k]?=some (.cells cur 42 (0,0)))/\av.ownBlock≠some k))
def Rest(G:Nat->Prop)(R:Nat)(w:World)(av:Value)(k:Nat):Prop:=G k/\¬Told G R w av k
def BK(A:Nat->Prop)(w:World)(v:Value)(l:List fe):Prop:=∃cs,w.ownsRow 0 56 5 v l.length cs/\k9 A 0 w fo l cs/\∀k,v.ownBlock=some k->A k
theorem zh{k:Nat}{t:TypeId}{cur:Array Value}{av:Value}(h:w.heap[k]?=some (.cells cur t (0,0)))(h1:t≠56)(h2:t=42->av.ownBlock=some k):¬Told G R w av k:=by
 rintro⟨_,_,⟨c,hc⟩|⟨⟨c,hc⟩,hn⟩⟩
 ·rw[h]at hc;simp only[bL,cW]at hc;exact h1 hc.2.1
 ·rw[h]at hc;simp only[bL,cW]at hc;exact hn (h2 hc.2.1)
theorem k9.free{l:List fe}{cs:List Value}{av:Value}(h:k9 G R w av l cs)(lo:Low G)(hk:∀k,k≠R->w'.heap[k]?=w.heap[k]?):k9 (Told G R w av) 0 w' fo l cs:=by
 induction h with
 |nil=>exact .nil
 |cons t v l cs ho hf hl ih=>
  refine .cons t v l cs (dY ho fun k hv=>hk k (hf k hv).2.1) (fun k hv=>?_) ih;obtain⟨cur,hc⟩:=fA ho hv;refine⟨⟨(hf k hv).1,(hf k hv).2.1,Or.inr ⟨⟨cur,hc⟩,(hf k hv).2.2⟩⟩,?_,il k⟩;intro e;exact lo k (by omega) (hf k hv).1
theorem fF.release(h:fF G R w s p st)(lo:Low G):
  fF (Rest G R w p.attrs) R (w.setCell ⟨R,5,none⟩ fo) s {p with told:=fo} {st with told:=[]}/\BK (Told G R w p.attrs) (w.setCell ⟨R,5,none⟩ fo) p.told st.told:=by
 have hk:∀k,k≠R->(w.setCell ⟨R,5,none⟩ fo).heap[k]?=w.heap[k]?:=fun k hk=>ak _ _ _ _ hk;have hsz:(w.setCell ⟨R,5,none⟩ fo).heap.size=w.heap.size:=by simp[World.setCell]
 have hb:=ej (i:=5) h.blk fo;obtain⟨cs,h1,h2⟩:=h.own.told;refine⟨⟨?_,⟨h.jz,fun x=>x.2.1 rfl⟩,fun k x=>by rw[hsz];exact h.lt k x.1,?_⟩,cs,dY h1 fun k e=>hk k (h.own.gV k e).2,h2.free lo hk,fun k e=>?_⟩
 ·rw[hb];rfl
 ·refine⟨fun i=>dY (h.own.run i) fun k e=>hk k (h.own.jk i k e).2,fun i k e=>?_,h.own.apart,⟨[],kR _ _ _,.nil⟩,fun k e=>absurd e (il k),dY h.own.attrs fun k e=>hk k (h.own.eB k e).2,fun k e=>?_,?_⟩
  ·obtain⟨cur,hc⟩:=fA (h.own.run i) e;exact⟨⟨(h.own.jk i k e).1,zh hc (by decide) (fun e=>absurd e (by decide))⟩,(h.own.jk i k e).2⟩
  ·obtain⟨cur,hc⟩:=fA h.own.attrs e;exact⟨⟨(h.own.eB k e).1,zh hc (by decide) (fun _=>e)⟩,(h.own.eB k e).2⟩
  ·rcases h.own.names with hn|⟨b,x1,x2,x3,x4⟩
   ·exact Or.inl hn
   ·refine Or.inr ⟨b,x1,⟨x2,?_⟩,x3,yA x4 (hk b x3)⟩;obtain⟨es,cl,hm,_⟩:=x4;rintro⟨_,_,⟨c,hc⟩|⟨⟨c,hc⟩,_⟩⟩
    ·rw[hm]at hc;cases hc
    ·rw[hm]at hc;cases hc
 ·obtain⟨cur,hc⟩:=fA h1 e;exact⟨(h.own.gV k e).1,(h.own.gV k e).2,Or.inl ⟨cur,hc⟩⟩
theorem fZ.release(h:fZ G R w v pt){av:Value}(hk:∀k,k≠R->w'.heap[k]?=w.heap[k]?):fZ (Rest G R w av) R w' v pt:=by
 have bx:∀{b x t},pF G R w b x t->t≠56->t≠42->pF (Rest G R w av) R w' b x t:=fun h h1 h2=>⟨(hk _ h.2.2).trans h.1,⟨h.2.1,zh h.1 h1 (fun e=>absurd e h2)⟩,h.2.2⟩
 cases pt with
 |plain k=>exact h
 |word l k=>obtain⟨b1,b2,e,x1,x2⟩:=h;exact⟨b1,b2,e,bx x1 (by decide) (by decide),bx x2 (by decide) (by decide)⟩
 |name i k=>obtain⟨b1,b2,b3,e,x1,x2,x3⟩:=h;exact⟨b1,b2,b3,e,bx x1 (by decide) (by decide),bx x2 (by decide) (by decide),bx x3 (by decide) (by decide)⟩
 |ref i k=>obtain⟨b1,b2,b3,e,x1,x2,x3⟩:=h;exact⟨b1,b2,b3,e,bx x1 (by decide) (by decide),bx x2 (by decide) (by decide),bx x3 (by decide) (by decide)⟩
def Src.zero(no xh:Int)(closed:Bool):Src:=⟨⟨#[]⟩,0,0,false,.nilFunc,no,xh,closed⟩
def Ptr.zero:Ptr:=⟨fo,fun _=>fo,fo,.map none⟩
def St.zero:St:=⟨fun _=>[],fun _=>0,0,[],[],0,[]⟩
theorem Own.zero(F:Nat->Prop)(R:Nat)(w:World):Own F R w Ptr.zero St.zero:=
 ⟨fun _=>kR w 5 1,fun _ k e=>absurd e (il k),fun _ _ k _ e=>absurd e (il k),⟨[],kR w 56 5,.nil⟩,fun k e=>absurd e (il k),kR w 42 2,fun k e=>absurd e (il k),Or.inl ⟨rfl,rfl⟩⟩
structure PR where
 s:Src
 pt:Option Part
 st:St
def nM(F:Nat->Prop)(R:Nat)(w:World)(r:PR):Prop:=
 ∃v p,fF F R w {r.s with now:=v} p r.st/\match r.pt with|some pt=>fZ F R w v pt|none=>v=.nilFunc
def tells(m:Rd):PR×List fe:=
 match m.ret with
 | .more=>(⟨m.s,some m.pt,{m.st with told:=[]}⟩,m.st.told)
 | .over=>(⟨m.s,none,{m.st with told:=[]}⟩,m.st.told)
 | .fail no q=>(⟨Src.zero no q m.s.closed,none,St.zero⟩,m.st.told)
def iP(F:Nat->Prop)(R:Nat)(w:World)(x:PR×List fe)(e:Ending)(w':World):Prop:=
 ∃(v:Value) (A F':Nat->Prop),e=.returned v/\BK A w' v x.2/\nM F' R w' x.1/\Frame F w w'/\(∀k,A k->Grow F w w' k/\¬F' k)/\(∀k,F' k->Grow F w w' k)
theorem BK.frame{A:Nat->Prop}{l:List fe}(h:BK A w v l)(hk:∀k,A k->w'.heap[k]?=w.heap[k]?):BK A w' v l:=by
 obtain⟨cs,h1,h2,h3⟩:=h;exact⟨cs,dY h1 fun k e=>hk k (h3 k e),h2.frame fun k n xs v ho hv a b c=>⟨hk k a,a,c⟩,h3⟩
theorem Dq{w1 w4:World}{s1:Src}{p1 p':Ptr}{fl:St}{x:PR}{v':Value}(sP:RG F R w s1 p1 fl w1)(lo:Low (Grow F w w1))
  (r4:RG (Rest (Grow F w w1) R w1 p1.attrs) R (w1.setCell ⟨R,5,none⟩ fo) {x.s with now:=v'} p' x.st w4)
  (hx:match x.pt with|some pt=>fZ (Grow (Rest (Grow F w w1) R w1 p1.attrs) (w1.setCell ⟨R,5,none⟩ fo) w4) R w4 v' pt|none=>v'=.nilFunc):
  iP F R w (x,fl.told) (.returned p1.told) w4:=by
 have hk:∀k,k≠R->(w1.setCell ⟨R,5,none⟩ fo).heap[k]?=w1.heap[k]?:=fun k hk=>ak _ _ _ _ hk;have hsz:(w1.setCell ⟨R,5,none⟩ fo).heap.size=w1.heap.size:=by simp[World.setCell]
 have hz:=sP.2.size;have hz4:=r4.2.size;obtain⟨rr,an⟩:=sP.1.release lo;refine⟨p1.told,Told (Grow F w w1) R w1 p1.attrs,Grow (Rest (Grow F w w1) R w1 p1.attrs) (w1.setCell ⟨R,5,none⟩ fo) w4,rfl,?_,⟨v',p',r4.1,hx⟩,?_,?_,?_⟩
 ·refine an.frame fun k hA=>r4.2.block k (by rw[hsz];exact sP.1.lt k hA.1) (fun x=>x.2 hA)
 ·refine⟨r4.2.os.trans sP.2.os,r4.2.tape.trans sP.2.tape,r4.2.output.trans sP.2.output,by omega,fun k hl hf=>?_⟩;have hkR:k≠R:=fun e=>by
   subst e;rcases sP.1.jz with x|x
   ·exact hf x
   ·omega
  rw[r4.2.block k (by omega) (fun x=>x.1.elim hf (fun y=>by omega)),hk k hkR];exact sP.2.block k hl hf
 ·intro k hA;refine⟨hA.1.elim Or.inl (fun y=>Or.inr ⟨y.1,by omega⟩),?_⟩;rintro(y|y)
  ·exact y.2 hA
  ·have:=sP.1.lt k hA.1;omega
 ·rintro k (y|y)
  ·exact y.1.elim Or.inl (fun z=>Or.inr ⟨z.1,by omega⟩)
  ·exact Or.inr ⟨by omega,y.2⟩
theorem FO(h:fF F R w s p st)(hz:s.rest.size<=1099511627776):Z4 67 #[Z8 R] w fun e w'=>e=.returned (.tuple #[])/\RF F R w s p st w':=by
 have c0:w.cell? ⟨R,0,none⟩=some (.string s.rest):=h.cell 0 rfl;have hc:=Mw s.rest w (by omega);have H:=a_ (RF.refl h);clear h;go_enter func67,ntmps67;go_wp2_with(go_at_call 119;refine hc.mono ?_;rintro e w1 ⟨rfl,b1⟩;have R1:=a_ (H.out.below b1);have d0:w1.cell? ⟨R,0,none⟩=some (.string s.rest):=R1.out.1.cell 0 rfl;have g0:=R1.out.1.free 0)
 go_end0
 exact⟨rfl,R1.out.set 0 _ rfl⟩
end
section
variable{F F' G:Nat->Prop}{R:Nat}{w w' w'' wr:World}{s s':Src}{p:Ptr}{st:St}{c:Int}{a:Addr}{pt:Part}{v:Value}{m:Rd}{N n:Nat}
theorem mid{w1:World}{s1:Src}{p1:Ptr}{fl:St}(sP:RG F R w s1 p1 fl w1)(gl:Gl w a)(lo:Low F)(o:Obj):
  RF (Rest (Grow F w w1) R w1 p1.attrs) R (w1.setCell ⟨R,5,none⟩ fo) s1 {p1 with told:=fo} {fl with told:=[]} ((w1.setCell ⟨R,5,none⟩ fo).alloc o)/\
  Gl ((w1.setCell ⟨R,5,none⟩ fo).alloc o) a/\Low (Grow F w w1):=by
 have TM:Low (Grow F w w1):=lo.grow gl.size;have Mv:=gl.frame sP.2 lo;have hb:Below (w1.setCell ⟨R,5,none⟩ fo).heap.size (w1.setCell ⟨R,5,none⟩ fo) ((w1.setCell ⟨R,5,none⟩ fo).alloc o):=(Below.refl _ _).alloc (au _) _;have r3:=(RF.refl (sP.1.release TM).1).below hb;refine⟨r3,?_,TM⟩;have f1:Frame (Grow F w w1) w1 (w1.setCell ⟨R,5,none⟩ fo):=⟨rfl,rfl,rfl,by simp[World.setCell],fun k hk hf=>ak _ _ _ _ (fun e=>hf (e▸sP.1.jz))⟩
 have gl2:=Mv.frame f1 TM;have lo2:Low (Rest (Grow F w w1) R w1 p1.attrs):=fun k hk x=>TM k hk x.1;exact gl2.frame r3.2.1 lo2
theorem Dr(NZ:Z4 65 #[Z8 R] w (o_ F R w a m))(gl:Gl w a)(lo:Low F)(ml:m.ret=.more)(hz:m.s.rest.size<=1099511627776):
  Z4 36 #[Z8 R] w (iP F R w (tells m)):=by
 have ht:tells m=(⟨m.s,some m.pt,{m.st with told:=[]}⟩,m.st.told):=by unfold tells;rw[ml]
 rw[ht];have Qb:Z4 65 #[Z8 R] w fun e w1=>e=.returned (.iface 289 (.pointer (some a)))/\∃v p',RG F R w {m.s with now:=v} p' m.st w1/\fZ (Grow F w w1) R w1 v m.pt:=by
  refine NZ.mono ?_;rintro e w1 ⟨v,p',rg,hx⟩;rw[ml]at hx;exact⟨hx.1,v,p',rg,hx.2⟩
 have GL:=a_ gl;have LO:=a_ lo;clear NZ ht ml gl lo;have Ve:=TQ a;go_enter func36,ntmps36;go_wp2_with(first|(go_at_call 65;refine Qb.mono ?_;rintro e w1 ⟨rfl,v1,p1,sP,pa1⟩;obtain⟨r3,g3,l1⟩:=mid sP GL.out LO.out (.cells #[.int .i64 0,.int .i64 0] 108);have m0:((w1.setCell ⟨R,5,none⟩ (.slice none 0 0)).alloc (.cells #[.int .i64 0,.int .i64 0] 108)).cell? ⟨0,0,none⟩=some (.iface 289 (.pointer (some a))):=g3.more;have hke:=FO r3.1 hz;have R3:=a_ r3;have L1:=a_ l1;have Yk:=a_ sP;have PA1:=a_ pa1;have c5:w1.cell? ⟨R,5,none⟩=some p1.told:=sP.1.cell 5 rfl;have f5:=sP.1.free 5;clear sP pa1 r3 g3 l1)|(go_at_call 66;refine(Ve _).mono ?_;rintro e wx ⟨rfl,rfl⟩)|(go_at_call 67;refine hke.mono ?_;rintro e w4 ⟨rfl,r4⟩));go_ret;have hsz:(w1.setCell ⟨R,5,none⟩ fo).heap.size=w1.heap.size:=by simp[World.setCell]
 refine Dq (x:=⟨m.s,some m.pt,{m.st with told:=[]}⟩) Yk.out L1.out (R3.out.rg.on r4.rg) ?_;refine(PA1.out.release (w':=w1.setCell ⟨R,5,none⟩ fo) (fun k hk=>ak _ _ _ _ hk)).keep (fun k hk hR=>?_) (fun _ x=>Or.inl x);have hl:k<(w1.setCell ⟨R,5,none⟩ fo).heap.size:=by rw[hsz];exact Yk.out.1.lt k hk.1
 exact(r4.2.2 k (aq hl R3.out.2.1.size) hR).trans (R3.out.2.2 k hl hR)
theorem Ds(NZ:Z4 65 #[Z8 R] w (o_ F R w a m))(gl:Gl w a)(lo:Low F)(ml:m.ret=.over):
  Z4 36 #[Z8 R] w (iP F R w (tells m)):=by
 have ht:tells m=(⟨m.s,none,{m.st with told:=[]}⟩,m.st.told):=by unfold tells;rw[ml]
 rw[ht];have Qb:Z4 65 #[Z8 R] w fun e w1=>e=.returned .nilIface/\∃p',RG F R w {m.s with now:=.nilFunc} p' m.st w1:=by
  refine NZ.mono ?_;rintro e w1 ⟨v,p',rg,hx⟩;rw[ml]at hx;obtain⟨rfl,rfl⟩:=hx;exact⟨rfl,p',rg⟩
 have GL:=a_ gl;have LO:=a_ lo;clear NZ ht ml gl lo;have Ve:=WQ a;have has:=WR;go_enter func36,ntmps36;go_wp2_with(first|(go_at_call 65;refine Qb.mono ?_;rintro e w1 ⟨rfl,p1,sP⟩;obtain⟨r3,g3,l1⟩:=mid sP GL.out LO.out (.cells #[.int .i64 0,.int .i64 0] 108);have m0:((w1.setCell ⟨R,5,none⟩ (.slice none 0 0)).alloc (.cells #[.int .i64 0,.int .i64 0] 108)).cell? ⟨0,0,none⟩=some (.iface 289 (.pointer (some a))):=g3.more;have R3:=a_ r3;have L1:=a_ l1;have Yk:=a_ sP;have c5:w1.cell? ⟨R,5,none⟩=some p1.told:=sP.1.cell 5 rfl;have f5:=sP.1.free 5;clear sP r3 g3 l1)|(go_at_call 66;refine(Ve _).mono ?_;rintro e wx ⟨rfl,rfl⟩)|(go_at_call 68;refine(has _ _).mono ?_;rintro e wx ⟨rfl,rfl⟩));go_ret;exact Dq (x:=⟨m.s,none,{m.st with told:=[]}⟩) Yk.out L1.out R3.out.rg rfl
def IX(cur:Array Value):Nat->List Value->Array Value
 |_,[]=>cur
 |o,v::r=>IX (cur.setIfInBounds o v) (o+1) r
theorem pd{t:TypeId}:∀(vs:List Value) (o:Nat) (cur:Array Value) (w:World),w.heap[R]?=some (.cells cur t (0,0))->(w.setCells R o vs).heap[R]?=some (.cells (IX cur o vs) t (0,0))
 |[],_,_,_,h=>h
 |v::r,o,_,_,h=>pd r (o+1) _ _ (ej h v)
theorem fq:∀(vs:List Value) (o:Nat) (w:World),(∀k,k≠R->(w.setCells R o vs).heap[k]?=w.heap[k]?)/\(w.setCells R o vs).heap.size=w.heap.size/\(w.setCells R o vs).os=w.os/\(w.setCells R o vs).tape=w.tape/\(w.setCells R o vs).output=w.output
 |[],_,_=>⟨fun _ _=>rfl,rfl,rfl,rfl,rfl⟩
 |v::r,o,w=>by
  obtain⟨h1,h2,h3,h4,h5⟩:=fq r (o+1) (w.setCell ⟨R,o,none⟩ v);refine⟨fun k hk=>(h1 k hk).trans (ak _ _ _ _ hk),h2.trans (by simp[World.setCell]),h3,h4,h5⟩
def iU:Array Value:=#[.string ⟨#[]⟩,.int .i64 0,.int .i64 0,.bool false,.nilFunc,fo,fo,.int .i64 0,.int .i64 0,fo,.int .i64 0,fo,.map none,fo,.int .i64 0,fo,.int .i64 0,.int .i32 0,fo,.int .i64 0]
theorem Qc:iU.all (·.oneCell')=true:=by kernel_rfl
theorem Ks:(prog.info? 106).map (·.size)=some iU.size:=by kernel_rfl
theorem zi(s:Src)(p:Ptr)(st:St):IX (cellsOf s p st) 0 iU.toList=cellsOf (Src.zero s.no s.xh s.closed) Ptr.zero St.zero:=by kernel_rfl
theorem BL{t:TypeId}{cur:Array Value}(h:w.heap[R]?=some (.cells cur t (0,0)))(hs:20<=cur.size):w.there R 0 iU.size:=by
 intro j hj;have VQ:j<20:=hj;rw[aG];exact⟨by rw[cell_of h (Array.getElem?_eq_getElem (by omega))];rfl,d_ h⟩
theorem RG.zero(h:RG F R w s p st w'):RG F R w (Src.zero s.no s.xh s.closed) Ptr.zero St.zero (w'.setCells R 0 iU.toList):=by
 obtain⟨h1,h2,h3,h4,h5⟩:=fq (R:=R) iU.toList 0 w';have hb:=pd (R:=R) iU.toList 0 _ w' h.1.blk;rw[zi]at hb;generalize w'.setCells R 0 iU.toList=W at*
 refine⟨⟨hb,?_,fun k hk=>?_,Own.zero _ _ _⟩,⟨h3.trans h.2.os,h4.trans h.2.tape,h5.trans h.2.output,by rw[h2];exact h.2.size,fun k hk hf=>?_⟩⟩
 ·have:=h.1.jz;unfold Grow at this ⊢;rw[h2];exact this
 ·unfold Grow at hk;rw[h2]at hk ⊢;exact h.1.lt k hk
 ·refine(h1 k ?_).trans (h.2.block k hk hf);intro e;subst e;rcases h.1.jz with x|x
  ·exact hf x
  ·omega
theorem WY(w2:World)(no q:Int)(hg:(w2.alloc (.cells #[.int .i64 0,.int .i64 0] 108)).cell? ⟨1,0,none⟩=some (.iface 235 (.agg #[.pointer (some ⟨6,131,none⟩)]))):
  Z4 68 #[.iface 108 (.agg #[.int .i64 no,.int .i64 q]),.iface 161 (.pointer (some ⟨w2.heap.size,0,none⟩))] (w2.alloc (.cells #[.int .i64 0,.int .i64 0] 108)) fun ev w5=>ev=.returned (.bool true)/\Below w2.heap.size w2 w5/\w5.cell? ⟨w2.heap.size,0,none⟩=some (.int .i64 no)/\w5.cell? ⟨w2.heap.size,1,none⟩=some (.int .i64 q):=by
 have hh:(w2.alloc (.cells #[.int .i64 0,.int .i64 0] 108)).heap[w2.heap.size]?=some (.cells #[.int .i64 0,.int .i64 0] 108 (0,0)):=dT _ _;refine(WX w2.heap.size no q (.int .i64 0) (.int .i64 0) _ hg (cell_of hh rfl) (cell_of hh rfl) (d_ hh) (d_ hh)).mono ?_;rintro ev w5 ⟨rfl,rfl⟩;have hb:Below w2.heap.size w2 ((((((w2.alloc (.cells #[.int .i64 0,.int .i64 0] 108)).alloc (.cells #[.pointer (some ⟨w2.heap.size,0,none⟩)] 161)).alloc (.cells (Vd (w2.alloc (.cells #[.int .i64 0,.int .i64 0] 108)).heap.size) 204)).alloc (.cells (Vd (w2.alloc (.cells #[.int .i64 0,.int .i64 0] 108)).heap.size) 204)).alloc (.cells #[.int .i64 no,.int .i64 q] 108))):=
  (((((Below.refl _ _).alloc (au _) _).alloc (by simp) _).alloc (by simp;omega) _).alloc (by simp;omega) _).alloc (by simp;omega) _
 have hx:(((((w2.alloc (.cells #[.int .i64 0,.int .i64 0] 108)).alloc (.cells #[.pointer (some ⟨w2.heap.size,0,none⟩)] 161)).alloc (.cells (Vd (w2.alloc (.cells #[.int .i64 0,.int .i64 0] 108)).heap.size) 204)).alloc (.cells (Vd (w2.alloc (.cells #[.int .i64 0,.int .i64 0] 108)).heap.size) 204)).alloc (.cells #[.int .i64 no,.int .i64 q] 108)).heap[w2.heap.size]?=some (.cells #[.int .i64 0,.int .i64 0] 108 (0,0)):=by
  rw[ay _ _ _ (by simp;omega),ay _ _ _ (by simp;omega),ay _ _ _ (by simp;omega),ay _ _ _ (by simp)];exact hh
 generalize (((((w2.alloc (.cells #[.int .i64 0,.int .i64 0] 108)).alloc (.cells #[.pointer (some ⟨w2.heap.size,0,none⟩)] 161)).alloc (.cells (Vd (w2.alloc (.cells #[.int .i64 0,.int .i64 0] 108)).heap.size) 204)).alloc (.cells (Vd (w2.alloc (.cells #[.int .i64 0,.int .i64 0] 108)).heap.size) 204)).alloc (.cells #[.int .i64 no,.int .i64 q] 108))=W at*
 have h1:=ej (i:=0) hx (.int .i64 no);have h2:=ej (i:=1) h1 (.int .i64 q);refine⟨rfl,⟨hb.os,hb.tape,hb.output,?_,fun k hk=>?_⟩,cell_of h2 rfl,cell_of h2 rfl⟩
 ·have:=hb.size;simp[World.setCell];exact this
 ·rw[ak _ _ _ _ (Nat.ne_of_lt hk),ak _ _ _ _ (Nat.ne_of_lt hk)];exact hb.block k hk
theorem Dt{no q:Int}(NZ:Z4 65 #[Z8 R] w (o_ F R w a m))(gl:Gl w a)(lo:Low F)(ml:m.ret=.fail no q):
  Z4 36 #[Z8 R] w (iP F R w (tells m)):=by
 have ht:tells m=(⟨Src.zero no q m.s.closed,none,St.zero⟩,m.st.told):=by unfold tells;rw[ml]
 rw[ht];have Qb:Z4 65 #[Z8 R] w fun e w1=>e=.returned (.iface 108 (.agg #[.int .i64 no,.int .i64 q]))/\∃p',RG F R w {m.s with now:=.nilFunc} p' m.st w1:=by
  refine NZ.mono ?_;rintro e w1 ⟨v,p',rg,hx⟩;rw[ml]at hx;obtain⟨rfl,rfl⟩:=hx;exact⟨rfl,p',rg⟩
 have GL:=a_ gl;have LO:=a_ lo;clear NZ ht ml gl lo;have Ve:=P7 no q a;go_enter func36,ntmps36;go_wp2_with(first|(go_at_call 65;refine Qb.mono ?_;rintro e w1 ⟨rfl,p1,sP⟩;obtain⟨r3,g3,l1⟩:=mid sP GL.out LO.out (.cells #[.int .i64 0,.int .i64 0] 108);have m0:((w1.setCell ⟨R,5,none⟩ (.slice none 0 0)).alloc (.cells #[.int .i64 0,.int .i64 0] 108)).cell? ⟨0,0,none⟩=some (.iface 289 (.pointer (some a))):=g3.more;have has:=WY (w1.setCell ⟨R,5,none⟩ (.slice none 0 0)) no q g3.et;have RR:=a_ (RF.refl (sP.1.release l1).1);have L1:=a_ l1;have Yk:=a_ sP;have c5:w1.cell? ⟨R,5,none⟩=some p1.told:=sP.1.cell 5 rfl;have f5:=sP.1.free 5;clear sP r3 g3 l1)|(go_at_call 66;refine(Ve _).mono ?_;rintro e wx ⟨rfl,rfl⟩));have hsz:(w1.setCell ⟨R,5,none⟩ (.slice none 0 0)).heap.size=w1.heap.size:=by simp[World.setCell]
 rw[hsz]at has;refine has.mono ?_;rintro e w5 ⟨rfl,b5,t0,t1⟩;have R5:=a_ (RR.out.below (by show Below _ _ _;rw[hsz];exact b5));have c20:w5.cell? ⟨R,20,none⟩=some (.int .i64 m.s.no):=R5.out.1.cell 20 rfl;have c21:w5.cell? ⟨R,21,none⟩=some (.int .i64 m.s.xh):=R5.out.1.cell 21 rfl;have f20:=R5.out.1.free 20;have f21:=R5.out.1.free 21;have R6:=a_ ((R5.out.rg.set (s':={m.s with now:=.nilFunc,no:=no}) 20 (.int .i64 no) rfl).set (s':={m.s with now:=.nilFunc,no:=no,xh:=q}) 21 (.int .i64 q) rfl);have Sm:((w5.setCell ⟨R,20,none⟩ (.int .i64 no)).setCell ⟨R,21,none⟩ (.int .i64 q)).there R 0 iU.size:=BL R6.out.1.blk (by show 20<=23;omega);clear has c5 f5 m0 b5;go_wp2_with(refine wpList_store_mid rfl 106 (.tmp 39) (.tmp 37) rfl R 0 iU rfl rfl Sm Ks Qc ?_);go_ret;exact Dq (x:=⟨Src.zero no q m.s.closed,none,St.zero⟩) (v':=.nilFunc) Yk.out L1.out R6.out.zero rfl
end
section
variable{F F' G:Nat->Prop}{R:Nat}{w w' w'' wr w1:World}{s s':Src}{p:Ptr}{st:St}{c:Int}{a:Addr}{pt:Part}{v:Value}{m:Rd}{N n:Nat}
theorem IY(s:Src):s.took.1.rest.size<=s.rest.size:=by
 unfold Src.took;split
 ·exact au _
 ·split
  ·simp only[bZ];omega
  ·exact au _
theorem MC:∀(n:Nat) (s:Src) (pt:Part) (st:St),(lu n s pt st).s.rest.size<=s.rest.size:=by
 intro n;induction n with
 |zero=>intro s pt st;exact au _
 |succ n ih=>
  intro s pt st;have h1:=IY s;simp only[lu];split
  ·exact au _
  ·split
   ·have:=ih s.took.1;exact aw (this _ _) h1
   ·exact h1
   ·exact h1
theorem zj(h:fF F R w s p st)(Fu:fZ F R w s.now pt)(hl:sO n pt st)(gl:Gl w a)(lo:Low F)(hn:n+s.rest.size<=274877906944)(gZ:s.Ok):
  Z4 36 #[Z8 R] w (iP F R w (tells (reads s.bare pt st))):=by
 have NZ:=TP h Fu hl gl lo hn (au _) gZ;cases hr:(reads s.bare pt st).ret with
 |more=>exact Dr NZ gl lo hr (by have:=MC (s.bare.rest.size+1) s.bare pt st;unfold reads;have e:s.bare.rest.size=s.rest.size:=rfl;omega)
 |over=>exact Ds NZ gl lo hr
 |fail no q=>exact Dt NZ gl lo hr
theorem iP.after{x:PR×List fe}{e:Ending}(fr:Frame F w w1)(hF:∀k,G k->Grow F w w1 k)(h:iP G R w1 x e w'):iP F R w x e w':=by
 obtain⟨v,A,F',he,an,al,f2,h1,h2⟩:=h;have hs:=fr.size;have hs2:=f2.size;have up:∀k,Grow G w1 w' k->Grow F w w' k:=by
  rintro k (x|x)
  ·exact(hF k x).elim Or.inl (fun y=>Or.inr ⟨y.1,by omega⟩)
  ·exact Or.inr ⟨by omega,x.2⟩
 refine⟨v,A,F',he,an,al,⟨f2.os.trans fr.os,f2.tape.trans fr.tape,f2.output.trans fr.output,by omega,fun k hk hf=>?_⟩,fun k hk=>⟨up k (h1 k hk).1,(h1 k hk).2⟩,fun k hk=>up k (h2 k hk)⟩;rw[f2.block k (by omega) (fun x=>(hF k x).elim hf (fun y=>by omega))];exact fr.block k hk hf
theorem WZ(h:fF F R w s p st)(b:ByteArray)(hz:s.rest.size+b.size<=1099511627776):Z4 35 #[Z8 R,.string b] w fun e w'=>e=.returned (.tuple #[])/\RF F R w {s with rest:=s.rest++b} p st w':=by
 have c0:w.cell? ⟨R,0,none⟩=some (.string s.rest):=h.cell 0 rfl;have f0:=h.free 0;have hz2:s.rest.size+b.size<=9223372036854775807:=by omega
 have H:=a_ (RF.refl h);have yG:=fun w=>dr (P:=prog) w s.rest b hz2;clear h;go_enter func35,ntmps35;go_wp2
 go_end0
 exact⟨rfl,H.out.set 0 _ rfl⟩
theorem W9(h:fF F R w s p st):Z4 37 #[Z8 R] w fun e w'=>e=.returned (.tuple #[])/\RF F R w {s with ended:=true} p st w':=by
 have c3:w.cell? ⟨R,3,none⟩=some (.bool s.ended):=h.cell 3 rfl;have f3:=h.free 3;have H:=a_ (RF.refl h);clear h;go_enter func37,ntmps37;go_wp2
 go_end0
 exact⟨rfl,H.out.set 3 _ rfl⟩
theorem RF.part{s1:Src}{p1:Ptr}{fl:St}(h:RF F R w s1 p1 fl w')(hlt:∀k,F k->k<w.heap.size)(Fu:fZ F R w v pt):fZ (Grow F w w') R w' v pt:=
 Fu.keep (fun k hk hR=>h.2.2 k (hlt k hk) hR) (fun _ x=>Or.inl x)
theorem IZ(h:fF F R w s p st)(Fu:fZ F R w s.now pt)(hl:sO n pt st)(gl:Gl w a)(lo:Low F)(b:ByteArray)(hn:n+(s.rest.size+b.size)<=274877906944)(gZ:0<=s.next/\s.next+(s.rest.size+b.size:Nat)<=1099511627776)(hc:s.closed=false)(hno:s.no=0):
  Z4 16 #[Z8 R,.string b] w (iP F R w (tells (reads {s with rest:=s.rest++b}.bare pt st))):=by
 have c20:w.cell? ⟨R,20,none⟩=some (.int .i64 s.no):=h.cell 20 rfl;have Kt:w.cell? ⟨R,22,none⟩=some (.bool s.closed):=h.cell 22 rfl;rw[hno]at c20;rw[hc]at Kt;have yG:=WZ h b (by omega);have hsz:(s.rest++b).size=s.rest.size+b.size:=cN;have Qd:∀w1,RF F R w {s with rest:=s.rest++b} p st w1->Z4 36 #[Z8 R] w1 (iP (Grow F w w1) R w1 (tells (reads {s with rest:=s.rest++b}.bare pt st))):=fun w1 r=>
  zj r.1 (r.part h.lt Fu) hl (gl.frame r.2.1 lo) (lo.grow gl.size) (by show n+(s.rest++b).size<=_;omega) ⟨gZ.1,by show s.next+((s.rest++b).size:Int)<=_;rw[hsz];exact gZ.2⟩
 have HA:=a_ Qd;clear h Fu hl gl lo Qd gZ hn;generalize tells (reads {s with rest:=s.rest++b}.bare pt st)=x at*
 go_enter func16,ntmps16;go_wp2_with(first|(go_at_call 35;refine yG.mono ?_;rintro e w1 ⟨rfl,r1⟩)|(go_at_call 36;refine(HA.out _ r1).mono ?_;rintro e w2 ⟨v,A,F',rfl,rest⟩));go_ret;exact iP.after r1.2.1 (fun k hk=>hk) ⟨v,A,F',rfl,rest⟩
theorem FP(x:PR)(hx:nM F R w x):iP F R w (x,[]) (.returned fo) w:=
 ⟨fo,fun _=>False,F,rfl,⟨[],kR _ _ _,.nil,fun k e=>absurd e (il k)⟩,hx,Frame.refl _ _,fun k hk=>hk.elim,fun k hk=>Or.inl hk⟩
theorem I0(h:fF F R w s p st)(b:ByteArray)(hd:s.closed=true\/s.no≠0):
  Z4 16 #[Z8 R,.string b] w (Z6 fo w):=by
 have c20:w.cell? ⟨R,20,none⟩=some (.int .i64 s.no):=h.cell 20 rfl;have Kt:w.cell? ⟨R,22,none⟩=some (.bool s.closed):=h.cell 22 rfl;clear h;by_cases hc:s.closed=true
 ·rw[hc]at Kt;clear hd;go_enter func16,ntmps16;go_wp2;go_ret;exact⟨rfl,rfl⟩
 ·have hc':s.closed=false:=by simpa using hc
  have hn:(s.no !=0)=true:=by
   have:s.no≠0:=hd.resolve_left hc;simpa using this
  rw[hc']at Kt;clear hd hc;go_enter func16,ntmps16;go_wp2;go_ret;exact⟨rfl,rfl⟩
theorem I3(h:fF F R w s p st)(hd:s.closed=true):
  Z4 17 #[Z8 R] w (Z6 fo w):=by
 have Kt:w.cell? ⟨R,22,none⟩=some (.bool s.closed):=h.cell 22 rfl;rw[hd]at Kt;clear h;go_enter func17,ntmps17;go_wp2;go_ret;exact⟨rfl,rfl⟩
theorem FR(h:fF F R w s p st)(hc:s.closed=false)(hd:s.no≠0):
  Z4 17 #[Z8 R] w fun e w'=>e=.returned fo/\RF F R w {s with closed:=true} p st w':=by
 have Kt:w.cell? ⟨R,22,none⟩=some (.bool s.closed):=h.cell 22 rfl;have c20:w.cell? ⟨R,20,none⟩=some (.int .i64 s.no):=h.cell 20 rfl;have f22:=h.free 22;have hn:(s.no !=0)=true:=by simpa using hd
 rw[hc]at Kt;have H:=a_ ((RF.refl h).set (s':={s with closed:=true}) 22 (.bool true) rfl);have d20:(w.setCell ⟨R,22,none⟩ (.bool true)).cell? ⟨R,20,none⟩=some (.int .i64 s.no):=H.out.1.cell 20 rfl;clear h hd;go_enter func17,ntmps17;go_wp2;go_ret;exact⟨rfl,H.out⟩
theorem Qe(h:fF F R w s p st)(hc:s.closed=false):
  Z4 19 #[Z8 R] w (Z6 (.tuple #[.int .i64 0,.int .i64 0]) w):=by
 have Kt:w.cell? ⟨R,22,none⟩=some (.bool s.closed):=h.cell 22 rfl;rw[hc]at Kt;clear h;go_enter func19,ntmps19;go_wp2
 go_ret2
 exact⟨rfl,rfl⟩
theorem Qf(h:fF F R w s p st)(hc:s.closed=true):
  Z4 19 #[Z8 R] w fun e w'=>e=.returned (.tuple #[.int .i64 s.no,.int .i64 s.xh])/\Below w.heap.size w w':=by
 have Kt:w.cell? ⟨R,22,none⟩=some (.bool s.closed):=h.cell 22 rfl;have c20:w.cell? ⟨R,20,none⟩=some (.int .i64 s.no):=h.cell 20 rfl;have c21:w.cell? ⟨R,21,none⟩=some (.int .i64 s.xh):=h.cell 21 rfl;rw[hc]at Kt;clear h;go_enter func19,ntmps19;go_wp2
 go_region
 all_goals
  go_wp2
  go_ret2
  exact⟨rfl,below_drewN (Below.refl _ _) _⟩
def shut(x:PR×List fe):PR×List fe:=(⟨Src.zero x.1.s.no x.1.s.xh x.1.s.closed,none,St.zero⟩,x.2)
theorem iP.zero{x:PR×List fe}(h:iP F R w x (.returned v) w'):w'.there R 0 iU.size/\iP F R w (shut x) (.returned v) (w'.setCells R 0 iU.toList):=by
 obtain⟨v',A,F',he,an,⟨vn,p',r,_⟩,fr,h1,h2⟩:=h;cases he;obtain⟨o1,o2,o3,o4,o5⟩:=fq (R:=R) iU.toList 0 w';have hb:=pd (R:=R) iU.toList 0 _ w' r.blk;rw[zi]at hb;refine⟨BL r.blk (by show 20<=23;omega),?_⟩;generalize w'.setCells R 0 iU.toList=W at*
 have up:∀k,Grow F w w' k->Grow F w W k:=fun k hk=>by unfold Grow at*;rw[o2];exact hk
 refine⟨v,A,F',rfl,an.frame fun k hA=>o1 k (fun e=>(h1 k hA).2 (e▸r.jz)),⟨.nilFunc,Ptr.zero,⟨hb,r.jz,fun k hk=>by rw[o2];exact r.lt k hk,Own.zero _ _ _⟩,rfl⟩,⟨o3.trans fr.os,o4.trans fr.tape,o5.trans fr.output,by rw[o2];exact fr.size,fun k hk hf=>?_⟩,fun k hk=>⟨up k (h1 k hk).1,(h1 k hk).2⟩,fun k hk=>up k (h2 k hk)⟩;refine(o1 k ?_).trans (fr.block k hk hf);intro e;subst e;rcases h2 k r.jz with x|x
 ·exact hf x
 ·omega
theorem I4(h:fF F R w s p st)(Fu:fZ F R w s.now pt)(hl:sO n pt st)(gl:Gl w a)(lo:Low F)(hn:n+s.rest.size<=274877906944)(gZ:s.Ok)(hc:s.closed=false)(hno:s.no=0):
  Z4 17 #[Z8 R] w (iP F R w (shut (tells (reads {s with closed:=true,ended:=true}.bare pt st)))):=by
 have c20:w.cell? ⟨R,20,none⟩=some (.int .i64 s.no):=h.cell 20 rfl;have Kt:w.cell? ⟨R,22,none⟩=some (.bool s.closed):=h.cell 22 rfl;have f22:=h.free 22;rw[hno]at c20;rw[hc]at Kt;have rA:=(RF.refl h).set (s':={s with closed:=true}) 22 (.bool true) rfl;have d20:(w.setCell ⟨R,22,none⟩ (.bool true)).cell? ⟨R,20,none⟩=some (.int .i64 0):=by rw[<-hno];exact rA.1.cell 20 rfl
 have hend:=W9 rA.1;have Qd:∀wB,RF (Grow F w (w.setCell ⟨R,22,none⟩ (.bool true))) R (w.setCell ⟨R,22,none⟩ (.bool true)) {s with closed:=true,ended:=true} p st wB->Z4 36 #[Z8 R] wB (iP F R w (tells (reads {s with closed:=true,ended:=true}.bare pt st))):=fun wB r=>by
  have glA:=gl.frame rA.2.1 lo;have loA:Low (Grow F w (w.setCell ⟨R,22,none⟩ (.bool true))):=lo.grow gl.size;have pA:=rA.part h.lt Fu;have pB:=r.part rA.1.lt pA;refine(zj r.1 pB hl (glA.frame r.2.1 loA) (loA.grow glA.size) hn gZ).mono ?_;intro e w' hE;exact iP.after (rA.2.1.trans r.2.1) (fun k hk=>(Grow.trans rA.2.1.size r.2.1.size k).1 hk) hE
 have HA:=a_ Qd;clear h Fu hl gl lo Qd gZ hn rA;generalize tells (reads {s with closed:=true,ended:=true}.bare pt st)=x at*
 go_enter func17,ntmps17;go_wp2_with(first|(go_at_call 37;refine hend.mono ?_;rintro e w1 ⟨rfl,r1⟩)|(go_at_call 36;refine(HA.out _ r1).mono ?_;rintro e w2 ⟨v,A,F',rfl,rest⟩;obtain⟨Sm,hz⟩:=iP.zero (F:=F) (R:=R) (w:=w) (x:=x) ⟨v,A,F',rfl,rest⟩;have HZ:=a_ hz;clear hz rest)|(refine wpList_store_mid rfl 106 (.tmp 27) (.tmp 25) rfl R 0 iU rfl rfl Sm Ks Qc ?_));go_ret;exact HZ.out
end
def PR.write(r:PR)(b:ByteArray):PR×List fe:=
 if r.s.closed=true\/r.s.no≠0 then(r,[])
 else match r.pt with
  |some pt=>tells (reads {r.s with rest:=r.s.rest++b}.bare pt r.st)
  |none=>(r,[])
def PR.close(r:PR):PR×List fe:=
 if r.s.closed=true then(r,[])
 else if r.s.no≠0 then(⟨{r.s with closed:=true},r.pt,r.st⟩,[])
 else match r.pt with
  |some pt=>shut (tells (reads {r.s with closed:=true,ended:=true}.bare pt r.st))
  |none=>(r,[])
def PR.err(r:PR):Int×Int:=if r.s.closed=true then(r.s.no,r.s.xh)else(0,0)
def PR.new:PR:=⟨Src.zero 0 0 false,some (.plain .between),St.zero⟩
structure Good(r:PR)(N:Nat):Prop where
 live:r.s.closed=false->r.s.no=0->∃pt n,r.pt=some pt/\sO n pt r.st/\n+r.s.rest.size<=N/\0<=r.s.next/\r.s.next+r.s.rest.size<=(N:Int)/\r.s.ended=false/\r.st.told=[]/\r.s.bare=r.s/\r.s.more=true
 shut:r.s.closed=false->r.s.no≠0->r.pt=none
theorem FT(n:Nat):sO n (.plain .between) St.zero:=
 ⟨fun _ _=>aB _,aB _,aB _,aB _,aB _,by decide,trivial⟩
theorem zk:Good PR.new 0:=
 ⟨fun _ _=>⟨_,0,rfl,FT 0,au _,by decide,by decide,rfl,rfl,rfl,by decide⟩,fun _ h=>absurd rfl h⟩
def St.pre(T:List fe)(st:St):St:={st with told:=T++st.told}
def Out.pre(T:List fe)(o:Out):Out:=⟨o.st.pre T,o.res⟩
theorem xG(T:List fe)(st:St)(i:Rn)(c q:Int):(st.pre T).put i c q=(st.put i c q).pre T:=rfl
theorem MD(T:List fe)(st:St)(i:Rn):(st.pre T).clear i=(st.clear i).pre T:=rfl
theorem pj(T:List fe)(st:St):(st.pre T).dZ=st.dZ.pre T:=by
 unfold St.dZ;have e:(st.pre T).run=st.run:=rfl;rw[e];split
 ·rfl
 ·simp[St.pre,St.clear,St.dV]
theorem xo(T:List fe)(st:St):(st.pre T).eI=st.eI.pre T:=by
 unfold St.eI;rw[pj];simp[St.pre]
theorem xp(T:List fe)(st:St):(st.pre T).fO=st.fO.pre T:=by
 unfold St.fO;rw[pj];simp[St.pre]
theorem FU(T:List fe)(k:Pl)(q:Int)(st:St)(c:Int):step k q (st.pre T) c=(step k q st c).pre T:=by cases k<;>simp only[step,jt,fH,jK,ib,iH,fB,fC,xG,MD,pj,xo,xp,St.addAttr]<;>(repeat' split)<;>first|rfl|(simp_all[St.pre];done)
theorem FV(T:List fe)(i:Rn)(t:ByteArray)(q:Int):∀f pos st,fT i t q f pos (st.pre T)=(fT i t q f pos st).pre T:=by
 intro f;induction f with
 |zero=>intro pos st;rfl
 |succ f ih=>
  intro pos st;unfold fT;split
  ·rw[xG];exact ih _ _
  ·rfl
theorem Du(T:List fe)(pt:Part)(q:Int)(st:St)(c:Int):b_ pt q (st.pre T) c=(b_ pt q st c).pre T:=by
 cases pt with
 |plain k=>exact FU T k q st c
 |word l k=>
  cases l with
  |nil=>rfl
  |cons x l=>
   simp only[b_,ll]
   repeat' split
   all_goals rfl
 |name i k=>
  simp only[b_,stName,fH,xG,FU];have e:(st.pre T).run=st.run:=rfl;rw[e]
  repeat' split
  all_goals rfl
 |ref i k=>
  simp only[b_,nH,xG];split
  ·split
   ·unfold jA;have e:((st.put .ref 59 q).pre T).run=(st.put .ref 59 q).run:=rfl;have e2:((st.put .ref 59 q).pre T).eV=(st.put .ref 59 q).eV:=rfl;rw[e,e2];split
    ·unfold St.nY;rw[FV];rfl
    ·rfl
   ·rfl
  ·rfl
theorem Qg(T:List fe):∀(n:Nat) (s:Src) (pt:Part) (st:St),lu n s pt (st.pre T)={lu n s pt st with st:=(lu n s pt st).st.pre T}:=by
 intro n;induction n with
 |zero=>intro s pt st;rfl
 |succ n ih=>
  intro s pt st;simp only[lu,Du];split
  ·rfl
  ·have e:((b_ pt s.took.1.at_ st s.took.2).pre T).res=(b_ pt s.took.1.at_ st s.took.2).res:=rfl;rw[e];cases (b_ pt s.took.1.at_ st s.took.2).res with
   |go jE=>exact ih _ _ _
   |stop=>rfl
   |fail no q=>rfl
theorem Qh(s:Src)(b:ByteArray)(h:s.more=false)(he:s.ended=false):({s with rest:=s.rest++b}:Src).more=false/\({s with rest:=s.rest++b}:Src).took=({s.took.1 with rest:=s.took.1.rest++b},s.took.2):=by
 simp only[Src.more,he,dJ,cX,Bool.not_eq_false']at h;obtain⟨h1,h2⟩:=PY s.rest b h;have h0:0<s.rest.size:=by
  by_cases e:s.rest.size=0
  ·simp[Tk.full,e]at h
  ·omega
 have hsz:(s.rest++b).size=s.rest.size+b.size:=cN;have hw:=Ch.ek s.rest 0 h0;refine⟨by simp[Src.more,he,h1],?_⟩;have gZ:Ch.fQ (s.rest++b) 0=Ch.fQ s.rest 0:=by unfold Ch.fQ;rw[h2]
 have e1:¬(s.rest++b).size=0:=by omega
 have e2:¬s.rest.size=0:=by omega
 simp only[Src.took,e1,e2,aQ,gZ,h2];split
 ·have hx:(s.rest++b).extract (Utf8.decode s.rest 0).2 (s.rest++b).size=s.rest.extract (Utf8.decode s.rest 0).2 s.rest.size++b:=by
   rw[hsz];apply cQ;apply Array.ext';simp only[ByteArray.data_extract,dc,Array.toList_extract,Array.toList_append,List.extract_eq_take_drop];rw[List.drop_append_of_le_length (by show (Utf8.decode s.rest 0).2<=s.rest.data.toList.length;simpa using hw.1)];rw[bT (by simp;have:s.rest.data.size=s.rest.size:=rfl;have:b.data.size=b.size:=rfl;omega),bT (by simp)]
  rw[hx]
 ·rfl
structure Ends(c:Int)(o:Out):Prop where
 stop:o.res=.stop->c= -1
 fail:∀no q,o.res=.fail no q->no≠0
theorem W_(c:Int):Tk.why c≠0:=by unfold Tk.why;split<;>omega
theorem Ends.go{c:Int}{st:St}{pt:Part}:Ends c ⟨st,.go pt⟩:=⟨fun e=>(by cases e),fun _ _ e=>(by cases e)⟩
theorem Ends.why{c:Int}{st:St}{q:Int}:Ends c ⟨st,.fail (Tk.why c) q⟩:=⟨fun e=>(by cases e),fun _ _ e=>(by cases e;exact W_ c)⟩
theorem Ends.num{c:Int}{st:St}{no q:Int}(h:no≠0):Ends c ⟨st,.fail no q⟩:=⟨fun e=>(by cases e),fun _ _ e=>(by cases e;exact h)⟩
theorem BM(k:Pl)(q:Int)(st:St)(c:Int):Ends c (step k q st c):=by cases k<;>simp only[step,jt,fH,jK,ib,iH,fB,fC]<;>(repeat' split)<;>first|exact .go|exact .why|exact .num (by decide)|exact⟨fun _=>(by assumption),fun _ _ e=>(by cases e)⟩
theorem sQ(pt:Part)(q:Int)(st:St)(c:Int):Ends c (b_ pt q st c):=by
 cases pt with
 |plain k=>exact BM k q st c
 |word l k=>
  cases l with
  |nil=>exact .go
  |cons x l=>
   simp only[b_,ll]
   repeat' split
   all_goals first|exact .go|exact .why
 |name i k=>
  simp only[b_,stName,fH]
  repeat' split
  all_goals first|exact .go|exact .why|exact BM k q st c
 |ref i k=>
  simp only[b_,nH];split
  ·split
   ·unfold jA;split
    ·exact .go
    ·exact .num (by decide)
   ·exact .go
  ·exact .num (by decide)
theorem oJ{s:Src}{pt:Part}{st:St}{n:Nat}(hl:sO n pt st)(h:s.more=false):
  reads s pt st=match (b_ pt s.next st s.took.2).res with
   | .go jE=>reads s.took.1 jE (b_ pt s.next st s.took.2).st
   | .stop=>⟨s.took.1,pt,(b_ pt s.next st s.took.2).st,.over⟩
   | .fail no q=>⟨s.took.1,pt,(b_ pt s.next st s.took.2).st,.fail no q⟩:=by
 have ha:s.took.1.at_=s.next:=xF s
 conv=>lhs;unfold reads
 simp only[lu,h,aA,aQ,ha];generalize he:(b_ pt s.next st s.took.2).res=r;cases r with
 |go jE=>
  have hk:=lx hl.sound hl.quote he;exact BJ (s.took.1.rest.size+1) s.rest.size (n+1) s.took.1 _ _ (hl.step he) (Nat.lt_succ_self _) (by omega)
 |stop=>rfl
 |fail no q=>rfl
theorem zl{s:Src}{pt:Part}{st:St}(h:s.more=true):reads s pt st=⟨s,pt,st,.more⟩:=by unfold reads lu;rw[if_pos h]
structure abb(s:Src)(k:Nat)(m:Rd):Prop where
 Ko:∃n,sO n m.pt m.st/\n+m.s.rest.size<=k+s.rest.size
 next:m.s.next+m.s.rest.size=s.next+s.rest.size
 lo:s.next<=m.s.next
 more:m.s.more=true
 ended:m.s.ended=s.ended
 no:m.s.no=s.no
 xh:m.s.xh=s.xh
 closed:m.s.closed=s.closed
 now:m.s.now=s.now
structure Cut(s:Src)(k:Nat)(b:ByteArray)(m m2:Rd)(g:Src->Part->St->Rd):Prop where
 more:m.ret=.more->m2=g {m.s with rest:=m.s.rest++b} m.pt m.st/\abb s k m
 over:m.ret≠ .over
 fail:∀no q,m.ret=.fail no q->no≠0/\tells m2=tells m/\m.s.closed=s.closed
theorem ME(s:Src)(h0:s.rest.size≠0)(gZ:Ch.fQ s.rest 0=true):s.took.1.next+s.took.1.rest.size=s.next+s.rest.size/\s.next<=s.took.1.next/\s.took.1.ended=s.ended/\s.took.1.no=s.no/\s.took.1.xh=s.xh/\s.took.1.closed=s.closed/\s.took.1.now=s.now:=by
 have hw:=Ch.ek s.rest 0 (by omega);simp only[Src.took,h0,gZ,aQ,if_true,bZ,and_true];omega
theorem ng(s:Src):s.took.1.ended=s.ended/\s.took.1.no=s.no/\s.took.1.xh=s.xh/\s.took.1.closed=s.closed/\s.took.1.now=s.now:=by
 unfold Src.took;repeat' split
 all_goals exact⟨rfl,rfl,rfl,rfl,rfl⟩
theorem BN(b:ByteArray):∀(n:Nat) (s:Src) (pt:Part) (st:St) (k:Nat),s.rest.size<n->sO k pt st->s.ended=false->Cut s k b (reads s pt st) (reads {s with rest:=s.rest++b} pt st) reads:=by
 intro n;induction n with
 |zero=>intro s pt st k h;omega
 |succ n ih=>
  intro s pt st k hn hl he;by_cases hm:s.more=true
  ·rw[zl hm];exact⟨fun _=>⟨rfl,⟨⟨k,hl,au _⟩,rfl,Int.le_refl _,hm,rfl,rfl,rfl,rfl,rfl⟩⟩,by simp,fun _ _ e=>(by cases e)⟩
  ·have tK:s.more=false:=by simpa using hm
   obtain⟨ha1,ha2⟩:=Qh s b tK he;rw[oJ hl tK,oJ (s:={s with rest:=s.rest++b}) hl ha1,ha2];have FW:=sQ pt s.next st s.took.2;have qY:=ng s;generalize hr:(b_ pt s.next st s.took.2).res=r;cases r with
   |go jE=>
    have hk:=lx hl.sound hl.quote hr;have hs:=ME s hk.2.1 hk.2.2;have c:=ih s.took.1 jE (b_ pt s.next st s.took.2).st (k+1) (by omega) (hl.step hr) (qY.1.trans he);refine⟨fun e=>?_,c.over,fun no q e=>⟨(c.fail no q e).1,(c.fail no q e).2.1,(c.fail no q e).2.2.trans qY.2.2.2.1⟩⟩;obtain⟨c1,c2⟩:=c.more e;refine⟨c1,⟨?_,c2.next.trans hs.1,Int.le_trans hs.2.1 c2.lo,c2.more,c2.ended.trans qY.1,c2.no.trans qY.2.1,c2.xh.trans qY.2.2.1,c2.closed.trans qY.2.2.2.1,c2.now.trans qY.2.2.2.2⟩⟩;obtain⟨x,x1,x2⟩:=c2.Ko;refine⟨x,x1,?_⟩;show x+(reads s.took.1 jE (b_ pt s.next st s.took.2).st).s.rest.size<=k+s.rest.size;omega
   |stop=>
    exfalso;have h1:=FW.stop hr;have h0:s.rest.size≠0:=by
     intro e;simp[Src.more,he,Tk.full,e]at tK
    have hlg:=FM s;rw[h1]at hlg;unfold Src.took at h1;rw[if_neg h0]at h1;split at h1
    ·simp only at h1;omega
    ·simp only at h1;omega
   |fail no q=>
    refine⟨fun e=>(by cases e),by simp,fun no' q' e=>?_⟩;cases e;exact⟨FW.fail _ _ hr,rfl,qY.2.2.2.1⟩
section
variable{F F' G:Nat->Prop}{R:Nat}{w w' w'' wr w1:World}{s s':Src}{p:Ptr}{st:St}{c:Int}{a:Addr}{pt:Part}{v:Value}{m:Rd}{N n:Nat}{r:PR}
theorem sO.ZV(h:sO n pt st):sO n pt {st with told:=[]}:=⟨h.run,h.ref,aB _,h.attrs,h.names,h.quote,h.sound⟩
theorem TV(h:s.now=.nilFunc):s.bare=s:=by cases s;cases h;rfl
theorem n_(hc:r.s.closed=false)(hn:r.s.no=0)(hp:r.pt=some pt)(b:ByteArray):r.write b=tells (reads {r.s with rest:=r.s.rest++b}.bare pt r.st):=by unfold PR.write;rw[if_neg (by simp[hc,hn]),hp]
theorem od(h:r.s.closed=true\/r.s.no≠0)(b:ByteArray):r.write b=(r,[]):=by unfold PR.write;rw[if_pos h]
theorem Good.cut(hg:Good r N)(hc:r.s.closed=false)(hn:r.s.no=0)(b b2:ByteArray):∃pt k,r.pt=some pt/\k+(r.s.rest++b).size<=N+b.size/\0<=r.s.next/\r.s.next+((r.s.rest++b).size:Int)<=(N+b.size:Nat)/\r.s.ended=false/\r.s.now=.nilFunc/\sO k pt r.st/\
  Cut ({r.s with rest:=r.s.rest++b}:Src).bare k b2 (reads ({r.s with rest:=r.s.rest++b}:Src).bare pt r.st) (reads { ({r.s with rest:=r.s.rest++b}:Src).bare with rest:=({r.s with rest:=r.s.rest++b}:Src).bare.rest++b2} pt r.st) reads:=by
 obtain⟨pt,k,h1,h2,h3,h4,h5,h6,h7,h8,h9⟩:=hg.live hc hn;have hsz:(r.s.rest++b).size=r.s.rest.size+b.size:=cN;refine⟨pt,k,h1,by omega,h4,by omega,h6,?_,h2,BN b2 _ _ pt r.st k (Nat.lt_succ_self _) h2 h6⟩;have:=aL Src.now h8;exact this.symm
theorem I5(hg:Good r N)(b:ByteArray):Good (r.write b).1 (N+b.size):=by
 by_cases hd:r.s.closed=true\/r.s.no≠0
 ·rw[od hd];refine⟨fun h1 h2=>?_,hg.shut⟩;rcases hd with h|h
  ·simp only at h1;rw[h]at h1;cases h1
  ·exact absurd h2 h
 ·have hc:r.s.closed=false:=by simpa using(not_or.1 hd).1
  have hn:r.s.no=0:=by simpa using(not_or.1 hd).2
  obtain⟨pt,k,h1,h2,h3,h4,h5,h6,h7,hcut⟩:=hg.cut hc hn b ⟨#[]⟩;rw[n_ hc hn h1];generalize hs:({r.s with rest:=r.s.rest++b}:Src).bare=s1 at*
  have e1:s1.rest=r.s.rest++b:=by rw[<-hs];rfl
  have e2:s1.next=r.s.next:=by rw[<-hs];rfl
  have e3:s1.ended=false:=by rw[<-hs];exact h5
  have e4:s1.no=0:=by rw[<-hs];exact hn
  have e5:s1.closed=false:=by rw[<-hs];exact hc
  have e6:s1.now=.nilFunc:=by rw[<-hs];rfl
  generalize reads s1 pt r.st=m at*
  unfold tells;cases hr:m.ret with
  |more=>
   obtain⟨_,sy⟩:=hcut.more hr;obtain⟨x,x1,x2⟩:=sy.Ko;refine⟨fun _ _=>⟨m.pt,x,rfl,x1.ZV,?_,?_,?_,sy.ended.trans e3,rfl,TV (sy.now.trans e6),sy.more⟩,fun _ h=>absurd (sy.no.trans e4) h⟩
   ·show x+m.s.rest.size<=_;rw[e1]at x2;omega
   ·show 0<=m.s.next;have:=sy.lo;omega
   ·show m.s.next+(m.s.rest.size:Int)<=_;have:=sy.next;rw[e1,e2]at this;omega
  |over=>exact absurd hr hcut.over
  |fail no q=>
   have:=hcut.fail no q hr;exact⟨fun _ h=>absurd h this.1,fun _ _=>rfl⟩
end
section
variable{F F' G:Nat->Prop}{R:Nat}{w w' w'' wr w1:World}{s s':Src}{p:Ptr}{st:St}{c:Int}{a:Addr}{pt:Part}{v:Value}{m:Rd}{N n:Nat}{r:PR}
theorem Qi(OB:nM F R w r)(hg:Good r N)(gl:Gl w a)(lo:Low F)(b:ByteArray)(hN:N+b.size<=274877906944):
  Z4 16 #[Z8 R,.string b] w (iP F R w (r.write b)):=by
 obtain⟨vn,p,lU,hx⟩:=OB;by_cases hd:r.s.closed=true\/r.s.no≠0
 ·rw[od hd];refine(I0 lU b hd).mono ?_;rintro e w' ⟨rfl,rfl⟩;exact FP r ⟨vn,p,lU,hx⟩
 ·have hc:r.s.closed=false:=by simpa using(not_or.1 hd).1
  have hn:r.s.no=0:=by simpa using(not_or.1 hd).2
  obtain⟨pt,k,h1,h2,h3,h4,h5,h6,h7,h8,h9⟩:=hg.live hc hn;rw[n_ hc hn h1];rw[h1]at hx;exact IZ (n:=k) lU hx h2 gl lo b (by show k+(r.s.rest.size+b.size)<=_;omega) ⟨h4,by show r.s.next+((r.s.rest.size+b.size:Nat):Int)<=_;omega⟩ hc hn
theorem Qj(OB:nM F R w r)(hg:Good r N)(gl:Gl w a)(lo:Low F)(hN:N<=274877906944):
  Z4 17 #[Z8 R] w (iP F R w r.close):=by
 obtain⟨vn,p,lU,hx⟩:=OB;unfold PR.close;by_cases hc:r.s.closed=true
 ·rw[if_pos hc];refine(I3 lU hc).mono ?_;rintro e w' ⟨rfl,rfl⟩;exact FP r ⟨vn,p,lU,hx⟩
 ·have hc':r.s.closed=false:=by simpa using hc
  rw[if_neg hc];by_cases hn:r.s.no≠0
  ·rw[if_pos hn];have hp:=hg.shut hc' hn;rw[hp]at hx;refine(FR lU hc' hn).mono ?_;rintro e w' ⟨rfl,rf⟩;refine⟨fo,fun _=>False,Grow F w w',rfl,⟨[],kR _ _ _,.nil,fun k e=>absurd e (il k)⟩,⟨vn,p,rf.1,?_⟩,rf.2.1,fun k hk=>hk.elim,fun k hk=>hk⟩;rw[hp];exact hx
  ·have hn':r.s.no=0:=by simpa using hn
   rw[if_neg hn];obtain⟨pt,k,h1,h2,h3,h4,h5,h6,h7,h8,h9⟩:=hg.live hc' hn';rw[h1]at hx ⊢;exact I4 (s:={r.s with now:=vn}) (n:=k) lU hx h2 gl lo (by show k+r.s.rest.size<=_;omega) ⟨h4,by show r.s.next+(r.s.rest.size:Int)<=_;omega⟩ hc' hn'
theorem Xa(OB:nM F R w r):Z4 19 #[Z8 R] w fun e w'=>e=.returned (.tuple #[.int .i64 r.err.1,.int .i64 r.err.2])/\Below w.heap.size w w':=by
 obtain⟨vn,p,lU,hx⟩:=OB;unfold PR.err;by_cases hc:r.s.closed=true
 ·rw[if_pos hc];exact Qf (s:={r.s with now:=vn}) lU hc
 ·rw[if_neg hc];refine(Qe lU (by simpa using hc)).mono ?_;rintro e w' ⟨rfl,rfl⟩;exact⟨rfl,Below.refl _ _⟩
theorem nM.below(h:nM F R w r)(hb:Below w.heap.size w w'):nM F R w' r:=by
 obtain⟨vn,p,lU,hx⟩:=h;refine⟨vn,p,⟨(hb.block R (lU.lt R lU.jz)).trans lU.blk,lU.jz,fun k hk=>aq (lU.lt k hk) hb.size,lU.own.frame (fun k hk _=>hb.block k (lU.lt k hk)) (fun _ x=>x)⟩,?_⟩;cases hp:r.pt with
 |none=>rw[hp]at hx;exact hx
 |some pt=>
  rw[hp]at hx;exact hx.keep (fun k hk _=>hb.block k (lU.lt k hk)) (fun _ x=>x)
theorem nM.keep(h:nM F R w r)(hk:∀k,F k->w'.heap[k]?=w.heap[k]?)(hs:w.heap.size<=w'.heap.size):nM F R w' r:=by
 obtain⟨vn,p,lU,hx⟩:=h;refine⟨vn,p,⟨(hk R lU.jz).trans lU.blk,lU.jz,fun k hf=>aq (lU.lt k hf) hs,lU.own.frame (fun k hf _=>hk k hf) (fun _ x=>x)⟩,?_⟩;cases hp:r.pt with
 |none=>rw[hp]at hx;exact hx
 |some pt=>
  rw[hp]at hx;exact hx.keep (fun k hf _=>hk k hf) (fun _ x=>x)
def oK:Array Value:=cellsOf {Src.zero 0 0 false with now:=Pl.val .between} Ptr.zero St.zero
theorem Xb(w:World):Z4 15 #[] w fun e w'=>e=.returned (.pointer (some ⟨w.heap.size,0,none⟩))/\w'=w.alloc (.cells oK 110):=by
 go_enter func15,ntmps15;go_wp2;go_ret;exact⟨rfl,rfl⟩
theorem MF(w:World):nM (fun k=>k=w.heap.size) w.heap.size (w.alloc (.cells oK 110)) PR.new:=
 ⟨Pl.val .between,Ptr.zero,⟨dT _ _,rfl,fun k hk=>by rw[hk];simp,Own.zero _ _ _⟩,rfl⟩
end
section
variable{F F' G A B:Nat->Prop}{R:Nat}{w w' w'' wr w1:World}{s s':Src}{p:Ptr}{st:St}{c:Int}{a:Addr}{pt:Part}{v:Value}{m:Rd}{N n:Nat}{r:PR}{l:List fe}
theorem MG(pt:Part)(q:Int)(st:St)(c:Int):(b_ pt q st c).st.told.length<=st.told.length+4:=by
 cases pt with
 |plain k=>exact(rI k q st c).told
 |word l k=>
  cases l with
  |nil=>exact cI _ _
  |cons x l=>exact(qG x l k q st c).told
 |name i k=>exact(qF i k q st c).told
 |ref i k=>
  simp only[b_,nH];split
  ·split
   ·unfold jA;split
    ·show (fT _ _ _ _ _ _).told.length<=_;rw[(uL _ _ _ _ _ _).1];exact cI _ _
    ·exact cI _ _
   ·exact cI _ _
  ·exact cI _ _
theorem BO:∀(n:Nat) (s:Src) (pt:Part) (st:St),(lu n s pt st).st.told.length<=st.told.length+4*n:=by
 intro n;induction n with
 |zero=>intro s pt st;exact au _
 |succ n ih=>
  intro s pt st;have h:=MG pt s.took.1.at_ st s.took.2;simp only[lu];split
  ·show st.told.length<=_;omega
  ·split
   ·rename_i jE e;have:=ih s.took.1 jE (b_ pt s.took.1.at_ st s.took.2).st;omega
   ·show (b_ pt s.took.1.at_ st s.took.2).st.told.length<=_;omega
   ·show (b_ pt s.took.1.at_ st s.took.2).st.told.length<=_;omega
theorem zm(m:Rd):(tells m).2=m.st.told:=by unfold tells;cases m.ret<;>rfl
theorem I6(hg:Good r N)(b:ByteArray):(r.write b).2.length<=4*(N+b.size)+4:=by
 by_cases hd:r.s.closed=true\/r.s.no≠0
 ·rw[od hd];exact aB _
 ·have hc:r.s.closed=false:=by simpa using(not_or.1 hd).1
  have hn:r.s.no=0:=by simpa using(not_or.1 hd).2
  obtain⟨pt,k,h1,h2,h3,h4,h5,h6,h7,h8,h9⟩:=hg.live hc hn;rw[n_ hc hn h1,zm];have hsz:(r.s.rest++b).size=r.s.rest.size+b.size:=cN;have:=BO ((r.s.rest++b).size+1) {r.s with rest:=r.s.rest++b}.bare pt r.st;rw[h7]at this;simp only[aI]at this;exact aw this (by omega)
theorem I7(hg:Good r N):r.close.2.length<=4*N+4:=by
 unfold PR.close;split
 ·exact aB _
 ·rename_i hc;split
  ·exact aB _
  ·rename_i hn;obtain⟨pt,k,h1,h2,h3,h4,h5,h6,h7,h8,h9⟩:=hg.live (by simpa using hc) (by simpa using hn);rw[h1];show (shut (tells (reads {r.s with closed:=true,ended:=true}.bare pt r.st))).2.length<=_;unfold shut;rw[zm];have:=BO (r.s.rest.size+1) {r.s with closed:=true,ended:=true}.bare pt r.st;rw[h7]at this;simp only[aI]at this;exact aw this (by omega)
theorem k9.one{cs:List Value}{av:Value}(h:k9 A R w av l cs):∀u∈cs,u.oneCell'=true:=by
 induction h with
 |nil=>intro u hu;cases hu
 |cons t v l cs ho hf hl ih=>
  intro u hu;rw[List.mem_append]at hu;rcases hu with hu|hu
  ·simp only[eH,bN,bC,cq]at hu;rcases hu with rfl|rfl|rfl|rfl|rfl
   ·rfl
   ·rfl
   ·rcases ho.2 with⟨rfl,_⟩|⟨g,cap,cur,rfl,_⟩
    ·rfl
    ·rfl
   ·rfl
   ·rfl
  ·exact ih u hu
theorem TW(b:Option Addr)(n c:Nat)(hn:n<=c)(w:World):(Builtin.append_ #[47,47] 47 #[.slice b n c,.slice none 0 0]).run prog w=.ok (.slice b n c) w:=by cases b<;>simp[Builtin.append_,underlying,underlying47,sizeOf56,Builtin.lenOf,Builtin.firstCells,hn,storeCells,Result.andThen]
end
section
variable{F F' G A B:Nat->Prop}{R:Nat}{w w' w'' wr w1:World}{s s':Src}{p:Ptr}{st:St}{c:Int}{a:Addr}{pt:Part}{v v1 v2:Value}{m:Rd}{N n:Nat}{r:PR}{l l1 l2:List fe}
theorem dS{k:Nat}{o:Obj}(h:w.heap[k]?=some o):k<w.heap.size:=(Array.getElem?_eq_some_iff.1 h).1
theorem BK.old(h:BK A w v l)(hk:∀k,k<w.heap.size->A k->w'.heap[k]?=w.heap[k]?)(hA:∀k,k<w.heap.size->A k->B k):BK B w' v l:=by
 obtain⟨cs,h1,h2,h3⟩:=h;refine⟨cs,dY h1 fun k e=>?_,h2.frame fun k n xs v ho hv a b c=>?_,fun k e=>?_⟩
 ·obtain⟨cur,hc⟩:=fA h1 e;exact hk k (dS hc) (h3 k e)
 ·obtain⟨cur,hc⟩:=fA ho hv;exact⟨hk k (dS hc) a,hA k (dS hc) a,c⟩
 ·obtain⟨cur,hc⟩:=fA h1 e;exact hA k (dS hc) (h3 k e)
theorem I8(h1:BK A w v1 l1)(h2:BK B w v2 l2)(hb:l1.length+l2.length<=68719476736):
  ∃v' w',(Builtin.append_ #[47,47] 47 #[v1,v2]).run prog w=.ok v' w'/\BK (fun k=>A k\/B k\/k=w.heap.size) w' v' (l1++l2)/\w.grownBy w' v1.ownBlock:=by
 obtain⟨cs1,o1,t1,a1⟩:=h1;obtain⟨GY,o2,t2,a2⟩:=h2;have o2':=o2;rcases o2'.2 with⟨rfl,hn⟩|⟨g,cap,cur,rfl,sx,hg,hc,hm,hcs,vz⟩
 ·have hl:l2=[]:=bK hn;subst hl;have hv:∃b n c,v1=.slice b n c/\n<=c:=by
   rcases o1.2 with⟨rfl,hn⟩|⟨g,cap,cur,rfl,sx,hg,hc,hm,hcs,vz⟩
   ·exact⟨none,0,0,rfl,au _⟩
   ·exact⟨_,_,_,rfl,hc⟩
  obtain⟨b,n,c,rfl,OD⟩:=hv;refine⟨_,w,TW b n c OD w,?_,⟨rfl,rfl,rfl,au _,fun _ _ _=>rfl⟩⟩;rw[aP];exact BK.old ⟨cs1,o1,t1,a1⟩ (fun _ _ _=>rfl) (fun _ _ x=>Or.inl x)
 ·obtain⟨i0,hi,hz0,hz1,hz2⟩:=aY CW;have hcell:∀j u,GY[j]?=some u->w.cell? ((⟨g,0,none⟩:Addr).add j)=some u:=by
   intro j u hj;rw[Addr.add_mid,aG];refine cell_of hg ?_;rw[<-vz,bS]at hj;split at hj
   ·simpa using hj
   ·cases hj
  obtain⟨v',w',hr,ho,hgr,_,hat⟩:=cY (P:=prog) w 0 47 47 56 i0 _ 5 72 underlying47 hi hz0 hz1 hz2 rfl (by decide) v1 l1.length cs1 o1 ⟨g,0,none⟩ l2.length cap GY o2.1 hcell t2.one (by unfold maxLen;omega) (by omega) (aB _);refine⟨v',w',hr,⟨cs1++GY,?_,?_,?_⟩,hgr⟩
  ·rw[ax];exact ho
  ·have keep:∀{D:Nat->Prop} {l:List fe} {cs:List Value},k9 D 0 w fo l cs->(∀k,D k->(A k\/B k\/k=w.heap.size))->k9 (fun k=>A k\/B k\/k=w.heap.size) 0 w' fo l cs:=by
    intro D l cs h hD;refine h.frame fun k n xs v D7 hv a b c=>⟨?_,hD k a,c⟩
    obtain⟨cur',hc'⟩:=fA D7 hv;refine hgr.block k (dS hc') (fun e=>?_);obtain⟨abS,hc1⟩:=fA o1 e.symm;rw[hc']at hc1;simp only[bL,cW]at hc1;exact absurd hc1.2.1 (by decide)
   exact(keep t1 (fun _ x=>Or.inl x)).app (keep t2 (fun _ x=>Or.inr (Or.inl x)))
  ·intro k e;rcases hat with h|h
   ·exact Or.inl (a1 k (h▸e))
   ·rw[e]at h;simp only[bL]at h;exact Or.inr (Or.inr h)
def ZW(b:ByteArray):List fe×Int×Int:=
 if(PR.new.write b).1.close.1.err.1≠0 then([],(PR.new.write b).1.close.1.err.1,(PR.new.write b).1.close.1.err.2)
 else((PR.new.write b).2++(PR.new.write b).1.close.2,0,0)
end
section
variable{F F' G A B:Nat->Prop}{R:Nat}{w w' w'' wr w1:World}{s s':Src}{p:Ptr}{st:St}{c:Int}{a:Addr}{pt:Part}{v v1 v2:Value}{m:Rd}{N n:Nat}{r:PR}{l l1 l2:List fe}
theorem Frame.up{K:Nat}(fr:Frame F w w')(hF:∀k,F k->K<=k)(hK:K<=w.heap.size):Below K w w':=
 ⟨fr.os,fr.tape,fr.output,fr.size,fun k hk=>fr.block k (by omega) (fun x=>by have:=hF k x;omega)⟩
theorem Qk{K:Nat}{row:Option Nat}(g:w.grownBy w' row)(hr:∀k,row=some k->K<=k)(hK:K<=w.heap.size):Below K w w':=
 ⟨g.os,g.tape,g.output,g.size,fun k hk=>g.block k (by omega) (fun e=>by have:=hr k e.symm;omega)⟩
theorem eJ{K K':Nat}(h:Below K w w')(hK:K'<=K):Below K' w w':=⟨h.os,h.tape,h.output,h.size,fun k hk=>h.block k (by omega)⟩
theorem Ql{x y:PR×List fe}{F1 F2 A1 A2:Nat->Prop}{K:Nat}{w2 w3:World}(hK:K<=w2.heap.size)(an1:BK A1 w2 v1 x.2)(SC:∀k,A1 k->K<=k/\k<w2.heap.size/\¬F1 k)(Yl:∀k,F1 k->K<=k)
  (an2:BK A2 w3 v2 y.2) (al2:nM F2 R w3 y.1) (lC:Frame F1 w2 w3) (g1:∀k,A2 k->Grow F1 w2 w3 k/\¬F2 k) (g2:∀k,F2 k->Grow F1 w2 w3 k) (hb:x.2.length+y.2.length<=68719476736):
  ∃v' w4 A,(Builtin.append_ #[47,47] 47 #[v1,v2]).run prog w3=.ok v' w4/\BK A w4 v' (x.2++y.2)/\nM F2 R w4 y.1/\Below K w2 w4/\(∀k,A k->K<=k/\¬F2 k)/\(∀k,F2 k->K<=k):=by
 have ZX:BK A1 w3 v1 x.2:=an1.old (fun k hk hA=>lC.block k hk (SC k hA).2.2) (fun _ _ x=>x);obtain⟨v',w4,hrun,Vf,gr⟩:=I8 ZX an2 hb;have hz:=lC.size;have hF2:∀k,F2 k->K<=k:=fun k hk=>(g2 k hk).elim (Yl k) (fun x=>by omega);have hr:∀k,v1.ownBlock=some k->A1 k:=fun k e=>by obtain⟨cs,_,_,h⟩:=ZX;exact h k e
 have ZY:∀k,A1 k->¬F2 k:=fun k hA hF=>(g2 k hF).elim (SC k hA).2.2 (fun x=>by have:=(SC k hA).2.1;omega);have hlt:∀k,F2 k->k<w3.heap.size:=fun k hk=>by obtain⟨_,_,lU,_⟩:=al2;exact lU.lt k hk
 refine⟨v',w4,fun k=>A1 k\/A2 k\/k=w3.heap.size,hrun,Vf,al2.keep (fun k hk=>gr.block k (hlt k hk) (fun e=>ZY k (hr k e.symm) hk)) gr.size,(lC.up Yl hK).trans ((Qk gr (fun k e=>(SC k (hr k e)).1) (by omega))),?_,hF2⟩;rintro k (h|h|h)
 ·exact⟨(SC k h).1,ZY k h⟩
 ·exact⟨(g1 k h).1.elim (Yl k) (fun x=>by omega),(g1 k h).2⟩
 ·exact⟨by omega,fun x=>by have:=hlt k x;omega⟩
theorem Qm(gl:Gl w a)(o:Obj):Gl (w.alloc o) a:=gl.frame (F:=fun _=>False) (Frame.below ((Below.refl _ _).alloc (au _) _)) (fun _ _ x=>x)
theorem I9{ops:Array Oper}{rest:List Oper}{o:Oper}{a:Act}{w:World}{Q:Exit->Act->World->Prop}(hgd:o.guard=none)(s x:Operand)(ho:o.op=Op.call {callee:=Callee.builtin Builtin.append,args:=#[s,x],argTypes:=#[47,47]})(hty:o.type=47)
  (v1 v2:Value) (hs:a.eval s=v1) (hx:a.eval x=v2) {v':Value} {w':World} (hr:(Builtin.append_ #[47,47] 47 #[v1,v2]).run prog w=.ok v' w') (h:wpList prog ops Q rest (a.put o.dst v') w'):wpList prog ops Q (o::rest) a w:=by
 refine wpList_plain hgd fun K hK=>?_;unfold Oper.wp execOp;simp only[ho,hty,resolve,invoke,builtin,Sem.run_bind,Sem.run_pure,dP,List.map_toArray,bO,cH,hs,hx,hr];exact hK _ _ h
end
section
variable{g:St->List fe}{s:ByteArray}{i:Nat}{pt jE:Part}{st ia:St}{no q c:Int}{S:Src}
theorem zn(h1:S.rest=s.extract i s.size)(hi:i<=s.size):S.took.2=cur s i/\(0<=cur s i->S.took.1.rest=s.extract (i+wid s i) s.size/\S.took.1.next=S.next+wid s i):=by
 have hz:S.rest.size=s.size-i:=by rw[h1];simp[bZ]
 rw[Ch.jX]at h1;have hc:=uD s i 0;rw[bH]at hc;unfold Src.took;by_cases h0:i<s.size
 ·have hw:=yR (s:=s) (k:=i) (j:=0) (by omega);rw[bH]at hw;rw[if_neg (by omega),h1];have hz':0<(Ch.tail s i).size:=by rw[Ch.iX];omega
  unfold cur at hc;rw[if_pos hz',if_pos h0]at hc;unfold cur;rw[if_pos h0];by_cases ho:Ch.fQ (Ch.tail s i) 0=true
  ·rw[if_pos ho]at hc ⊢;refine⟨hc,fun _=>?_⟩;simp only;have hw':(Utf8.decode (Ch.tail s i) 0).2=wid s i:=hw;rw[hw'];refine⟨?_,rfl⟩;rw[Ch.jX,Ch.Lr,<-Ch.jX]
  ·rw[if_neg ho]at hc ⊢;refine⟨hc,fun h=>?_⟩;rw[<-hc]at h;omega
 ·rw[if_pos (by omega)];unfold cur;rw[if_neg h0];exact⟨rfl,fun h=>by omega⟩
theorem Ar{o:St}(h:b_ pt q st c=⟨o,.stop⟩):o=st.dZ:=by
 have key:∀(k:Pl) (st:St),step k q st c=⟨o,.stop⟩->o=st.dZ:=by
  intro k st h;have:=Bq h;subst this;simp only[step]at h
  repeat' split at h
  all_goals first|(cases h;done)|(cases h;rfl)
 cases pt with
 |plain k=>exact key k st h
 |word l k=>
  cases l with
  |nil=>simp only[b_]at h;cases h
  |cons x l=>
   simp only[b_,ll]at h
   repeat' split at h
   all_goals cases h
 |name i k=>
  simp only[b_,stName,fH]at h
  repeat' split at h
  all_goals first|(cases h;done)|exact key k st h
 |ref i k=>
  simp only[b_,nH]at h;split at h
  ·split at h
   ·unfold jA at h;split at h<;>cases h
   ·cases h
  ·cases h
theorem zo(g:St->List fe)(s:ByteArray):∀(n i:Nat) (S:Src) (pt:Part) (st:St) (k:Nat),s.size-i<n->i<=s.size->S.rest=s.extract i s.size->S.next=(i:Int)->S.ended=true->sO k pt st->
  (∃no q,(reads S pt st).ret=.fail no q/\runs g s i pt st=((reads S pt st).st.told,no,q))\/((reads S pt st).ret=.over/\∃ia,runs g s i pt st=(g ia,0,0)/\(reads S pt st).st=ia.dZ):=by
 intro n;induction n with
 |zero=>intro i S pt st k h;omega
 |succ n ih=>
  intro i S pt st k hn hi hr hx he hl;obtain⟨h1,h2⟩:=zn hr hi;have hm:S.more=false:=by simp[Src.more,he]
  rw[oJ hl hm,h1,hx];generalize hs:b_ pt i st (cur s i)=o;obtain⟨o,r⟩:=o;cases r with
  |go jE=>
   have hres:(b_ pt S.next st S.took.2).res=.go jE:=by rw[h1,hx,hs]
   have hk:=lx hl.sound hl.quote hres;have h0:0<=cur s i:=by
    by_cases h0:0<=cur s i
    ·exact h0
    ·exfalso;have Dd:cur s i= -1\/cur s i= -2:=by rcases rB h0 with⟨_,h⟩|⟨_,h⟩<;>omega
     exact lL pt i st (cur s i) hl.sound Dd hl.quote jE (by rw[hs])
   have hc:=eK h0;obtain⟨h3,h4⟩:=h2 h0;rw[eR hs h0];have hst:(b_ pt S.next st S.took.2).st=o:=by rw[h1,hx,hs]
   have hlim:=hl.step hres;rw[hst]at hlim;exact ih (i+wid s i) S.took.1 jE o (k+1) (by omega) (by omega) h3 (by rw[h4,hx];omega) ((ng S).1.trans he) hlim
  |stop=>
   refine Or.inr ⟨rfl,st,vI hs,?_⟩;exact Ar hs
  |fail no q=>exact Or.inl ⟨no,q,rfl,fM hs⟩
theorem MH:∀(n:Nat) (S:Src) (pt:Part) (st:St) (k:Nat),S.rest.size<n->sO k pt st->S.ended=false->
  ((reads S pt st).ret=.more->reads {S with ended:=true} pt st=reads { (reads S pt st).s with ended:=true} (reads S pt st).pt (reads S pt st).st)/\
  (∀no q,(reads S pt st).ret=.fail no q->(reads {S with ended:=true} pt st).ret=.fail no q/\(reads {S with ended:=true} pt st).st=(reads S pt st).st):=by
 intro n;induction n with
 |zero=>intro S pt st k h;omega
 |succ n ih=>
  intro S pt st k hn hl he;by_cases hm:S.more=true
  ·rw[zl hm];exact⟨fun _=>rfl,fun _ _ e=>(by cases e)⟩
  ·have tK:S.more=false:=by simpa using hm
   have N5:({S with ended:=true}:Src).more=false:=by simp[Src.more]
   have ht:({S with ended:=true}:Src).took=({S.took.1 with ended:=true},S.took.2):=by
    unfold Src.took;repeat' split
    all_goals rfl
   rw[oJ hl tK,oJ (s:={S with ended:=true}) hl N5,ht];generalize hr:(b_ pt S.next st S.took.2).res=r;cases r with
   |go jE=>
    have hk:=lx hl.sound hl.quote hr;exact ih S.took.1 jE _ (k+1) (by omega) (hl.step hr) ((ng S).1.trans he)
   |stop=>exact⟨fun e=>(by cases e),fun _ _ e=>(by cases e)⟩
   |fail no q=>exact⟨fun e=>(by cases e),fun _ _ e=>⟨e,rfl⟩⟩
theorem FX(b:Bool):∀(n:Nat) (S:Src) (pt:Part) (st:St),lu n {S with closed:=b} pt st={lu n S pt st with s:={ (lu n S pt st).s with closed:=b}}:=by
 intro n;induction n with
 |zero=>intro S pt st;rfl
 |succ n ih=>
  intro S pt st;have ht:({S with closed:=b}:Src).took=({S.took.1 with closed:=b},S.took.2):=by
   unfold Src.took;repeat' split
   all_goals rfl
  have hm:({S with closed:=b}:Src).more=S.more:=rfl;simp only[lu,ht,hm];split
  ·rfl
  ·cases (b_ pt S.took.1.at_ st S.took.2).res with
   |go jE=>simp only[];exact ih _ _ _
   |stop=>rfl
   |fail no q=>rfl
end
def ly(s:ByteArray):List fe×Int×Int:=if(ei s).err≠0 then([],(ei s).err,(ei s).at_)else((ei s).l++(ei s).last,0,0)
theorem TY:Rel Sc.zero St.zero:=⟨⟨rfl,rfl,fun h=>absurd rfl h⟩,rfl,rfl,rfl⟩
def kY(b:ByteArray)(e:Bool):Src:={Src.zero 0 0 false with rest:=b,ended:=e}
theorem BP(b:ByteArray):runs (fun st=>st.told) b 0 (.plain .between) St.zero=((ei b).l,(ei b).err,(ei b).at_):=by
 have h:=BF (g:=fun st=>st.told) (s:=b) (fun x=>x.l) (fun x st he h=>h.tag.told) (b.size+1) Sc.zero St.zero rfl (aB _) (by show b.size<0+_;omega) TY;have h2:runs (fun st=>st.told) b 0 (.plain .between) St.zero=(iy b (b.size+1) Sc.zero).fin fun x=>x.l:=h;rw[h2];unfold Sc.fin ei;split
 ·rename_i he;have:=tu (fun st=>st.told) (s:=b) (b.size+1) Sc.zero St.zero rfl (aB _) (by show b.size<0+_;omega) TY he;rw[he,this.2];rfl
 ·rfl
theorem MI(b:ByteArray):runs (fun st=>st.dZ.told) b 0 (.plain .between) St.zero=if(ei b).err=0 then((ei b).l++(ei b).last,0,0)else((ei b).l,(ei b).err,(ei b).at_):=
 BF (g:=fun st=>st.dZ.told) (s:=b) (fun x=>x.l++x.last) (fun x st he h=>Ml x st he h) (b.size+1) Sc.zero St.zero rfl (aB _) (by show b.size<0+_;omega) TY
theorem Ku{S:Src}{pt:Part}{st:St}{k:Nat}{no q:Int}(hl:sO k pt st)(h:(reads S pt st).ret=.fail no q):no≠0:=by
 have key:∀(n:Nat) (S:Src) (pt:Part) (st:St),(lu n S pt st).ret=.fail no q->no≠0:=by
  intro n;induction n with
  |zero=>intro S pt st h;simp only[lu]at h;cases h
  |succ n ih=>
   intro S pt st h;simp only[lu]at h;split at h
   ·cases h
   ·have FW:=sQ pt S.took.1.at_ st S.took.2;cases hr:(b_ pt S.took.1.at_ st S.took.2).res with
    |go pt2=>rw[hr]at h;exact ih _ _ _ h
    |stop=>rw[hr]at h;cases h
    |fail a b=>rw[hr]at h;cases h;exact FW.fail _ _ hr
 exact key _ S pt st h
theorem wN(b:ByteArray):((ei b).err=0->(reads (kY b true) (.plain .between) St.zero).ret=.over/\(reads (kY b true) (.plain .between) St.zero).st.told=(ei b).l++(ei b).last)/\
  ((ei b).err≠0->(reads (kY b true) (.plain .between) St.zero).ret=.fail (ei b).err (ei b).at_/\(reads (kY b true) (.plain .between) St.zero).st.told=(ei b).l):=by
 have hr:(kY b true).rest=b.extract 0 b.size:=by show b=_;simp
 have FW:=fun no q (h:(reads (kY b true) (.plain .between) St.zero).ret=.fail no q)=>h;have h:=zo (fun st=>st.dZ.told) b (b.size+1) 0 (kY b true) (.plain .between) St.zero 0 (by omega) (aB _) hr rfl rfl (FT 0);have h2:=zo (fun st=>st.told) b (b.size+1) 0 (kY b true) (.plain .between) St.zero 0 (by omega) (aB _) hr rfl rfl (FT 0);rw[MI]at h;rw[BP]at h2;constructor
 ·intro he;rw[if_pos he]at h;rcases h with⟨no,q,h1,h3⟩|⟨h1,ia,h3,h4⟩
  ·exfalso;rcases h2 with⟨no',q',k1,k3⟩|⟨k1,_⟩
   ·have hno:=Ku (FT 0) k1;simp only[cr]at k3;exact hno (k3.2.1.symm.trans he)
   ·rw[h1]at k1;cases k1
  ·refine⟨h1,?_⟩;rw[h4];exact(aL Prod.fst h3).symm
 ·intro he;rw[if_neg he]at h;rcases h2 with⟨no,q,k1,k3⟩|⟨k1,ia,k3,k4⟩
  ·simp only[cr]at k3;exact⟨by rw[k1,k3.2.1,k3.2.2],k3.1.symm⟩
  ·simp only[cr]at k3;exact absurd k3.2.1 he
theorem Qn(t:ByteArray)(h0:0<t.size)(h:Tk.full t=false):Ch.fQ t 0=false:=by
 apply Ch.tM;unfold Tk.full at h;rw[if_neg (by omega)]at h;rw[decode_at,n9 _ _ _ _ _ (by omega) (bA _) (bA _) (bA _) (bA _)];simp only[oC,dm,cV]at h;rw[Nat.sub_zero];have h1:=h.1;generalize (t.get! 0).toNat=b0 at*
 unfold vO;by_cases a1:firstT b0=240
 ·rw[a1]at h1;omega
 by_cases a2:firstT b0=241
 ·rw[if_neg a1,if_pos a2]
 rw[if_neg a1,if_neg a2];unfold slowN;rw[if_pos (by omega)]
theorem I_{S:Src}(h:S.more=true):S.took.2= -1\/S.took.2= -2:=by
 simp only[Src.more,aT,Bool.not_eq_true']at h;unfold Src.took;by_cases h0:S.rest.size=0
 ·rw[if_pos h0];exact Or.inl rfl
 ·rw[if_neg h0,if_neg (by rw[Qn _ (by omega) h.2];simp)];exact Or.inr rfl
theorem MJ{pt:Part}{q:Int}{st o:St}{c:Int}{no p:Int}(h:b_ pt q st c=⟨o,.fail no p⟩):o.told=st.told:=by
 have key:∀(k:Pl) (st:St),step k q st c=⟨o,.fail no p⟩->o.told=st.told:=by
  intro k st h;cases k<;>simp only[step,jt,fH,jK,ib,iH,fB,fC]at h<;>(repeat' split at h)<;>first|(cases h;done)|(cases h;rfl)
 cases pt with
 |plain k=>exact key k st h
 |word l k=>
  cases l with
  |nil=>simp only[b_]at h;cases h
  |cons x l=>
   simp only[b_,ll]at h
   repeat' split at h
   all_goals first|(cases h;done)|(cases h;rfl)
 |name i k=>
  simp only[b_,stName,fH]at h
  repeat' split at h
  all_goals first|(cases h;done)|exact key k st h|(cases h;rfl)
 |ref i k=>
  simp only[b_,nH]at h;split at h
  ·split at h
   ·unfold jA at h;split at h<;>cases h
    rfl
   ·cases h
  ·cases h;rfl
theorem Ja(g:St->List fe)(s:ByteArray):∀(n i:Nat) (S:Src) (pt:Part) (st:St) (k:Nat),s.size-i<n->i<=s.size->S.rest=s.extract i s.size->S.next=(i:Int)->S.ended=false->sO k pt st->(reads S pt st).ret=.more->
  ∃j,j<=s.size/\runs g s i pt st=runs g s j (reads S pt st).pt (reads S pt st).st/\(reads S pt st).s.rest=s.extract j s.size:=by
 intro n;induction n with
 |zero=>intro i S pt st k h;omega
 |succ n ih=>
  intro i S pt st k hn hi hr hx he hl ml;by_cases hm:S.more=true
  ·rw[zl hm];exact⟨i,hi,rfl,hr⟩
  ·have tK:S.more=false:=by simpa using hm
   obtain⟨h1,h2⟩:=zn hr hi;rw[oJ hl tK,h1,hx]at ml ⊢;generalize hs:b_ pt i st (cur s i)=o at*
   obtain⟨o,r⟩:=o;cases r with
   |go jE=>
    have hres:(b_ pt S.next st S.took.2).res=.go jE:=by rw[h1,hx,hs]
    have h0:0<=cur s i:=by
     by_cases h0:0<=cur s i
     ·exact h0
     ·exfalso;have Dd:cur s i= -1\/cur s i= -2:=by rcases rB h0 with⟨_,h⟩|⟨_,h⟩<;>omega
      exact lL pt i st (cur s i) hl.sound Dd hl.quote jE (by rw[hs])
    have hc:=eK h0;obtain⟨h3,h4⟩:=h2 h0;rw[eR hs h0];have hst:(b_ pt S.next st S.took.2).st=o:=by rw[h1,hx,hs]
    have hlim:=hl.step hres;rw[hst]at hlim;exact ih (i+wid s i) S.took.1 jE o (k+1) (by omega) (by omega) h3 (by rw[h4,hx];omega) ((ng S).1.trans he) hlim ml
   |stop=>cases ml
   |fail no q=>cases ml
theorem FY{S:Src}{pt:Part}{st:St}:(reads S pt st).s.no=S.no/\(reads S pt st).s.xh=S.xh:=by
 have key:∀(n:Nat) (S:Src) (pt:Part) (st:St),(lu n S pt st).s.no=S.no/\(lu n S pt st).s.xh=S.xh:=by
  intro n;induction n with
  |zero=>intro S pt st;exact⟨rfl,rfl⟩
  |succ n ih=>
   intro S pt st;have hf:=ng S;simp only[lu];split
   ·exact⟨rfl,rfl⟩
   ·cases (b_ pt S.took.1.at_ st S.took.2).res with
    |go jE=>
     have:=ih S.took.1 jE (b_ pt S.took.1.at_ st S.took.2).st;exact⟨this.1.trans hf.2.1,this.2.trans hf.2.2.1⟩
    |stop=>exact⟨hf.2.1,hf.2.2.1⟩
    |fail no q=>exact⟨hf.2.1,hf.2.2.1⟩
 exact key _ S pt st
def ky(b:ByteArray):Rd:=reads (kY b false) (.plain .between) St.zero
theorem FZ(b:ByteArray):
  ((ky b).ret=.more/\(ky b).st.told=(ei b).l/\reads (kY b true) (.plain .between) St.zero=reads { (ky b).s with ended:=true} (ky b).pt (ky b).st/\(∃n,sO n (ky b).pt (ky b).st)/\(ky b).s.more=true/\(ky b).s.no=0/\(ky b).s.xh=0/\(ky b).s.closed=false/\(ky b).s.now=.nilFunc)\/
  ((ky b).ret=.fail (ei b).err (ei b).at_/\(ei b).err≠0/\(ky b).st.told=(ei b).l/\(ky b).s.closed=false):=by
 have hw:=wN b;have hcut:=BN ⟨#[]⟩ (b.size+1) (kY b false) (.plain .between) St.zero 0 (by show b.size<_;omega) (FT 0) rfl;have hend:=MH (b.size+1) (kY b false) (.plain .between) St.zero 0 (by show b.size<_;omega) (FT 0) rfl;have Vg:=Ja (fun st=>st.told) b (b.size+1) 0 (kY b false) (.plain .between) St.zero 0 (by omega) (aB _) (by show b=_;simp) rfl rfl (FT 0);have e1:({kY b false with ended:=true}:Src)=kY b true:=rfl;rw[e1]at hend;rw[BP]at Vg;have hno:=fun no q=>Ku (S:=kY b false) (no:=no) (q:=q) (FT 0);unfold ky;generalize reads (kY b false) (.plain .between) St.zero=m at*
 cases ml:m.ret with
 |more=>
  obtain⟨c1,stay⟩:=hcut.more ml;have e2:=hend.1 ml;obtain⟨n,hl,_⟩:=stay.Ko;obtain⟨j,hj,hr,ZZ⟩:=Vg ml;refine Or.inl ⟨rfl,?_,e2,⟨n,hl⟩,stay.more,stay.no,stay.xh,stay.closed,stay.now⟩;obtain⟨h1,_⟩:=zn ZZ hj;have Vu:=I_ stay.more;rw[h1]at Vu;generalize hs:b_ m.pt j m.st (cur b j)=o;obtain⟨o,r⟩:=o;cases r with
  |go jE=>exact absurd (by rw[hs]) (lL m.pt j m.st (cur b j) hl.sound Vu hl.quote jE)
  |stop=>
   rw[vI hs]at hr;exact(aL Prod.fst hr).symm
  |fail no q=>
   rw[fM hs]at hr;rw[<-MJ hs];exact(aL Prod.fst hr).symm
 |over=>exact absurd ml hcut.over
 |fail no q=>
  obtain⟨f1,f2⟩:=hend.2 no q ml;have hn:=hno no q ml;have Qo:(ei b).err≠0:=by
   intro e;have:=(hw.1 e).1;rw[f1]at this;cases this
  obtain⟨w1,w2⟩:=hw.2 Qo;rw[f1]at w1;cases w1;rw[f2]at w2;exact Or.inr ⟨rfl,Qo,w2,(hcut.fail _ _ ml).2.2⟩
theorem T5(b:ByteArray):({PR.new.s with rest:=PR.new.s.rest++b}:Src).bare=kY b false:=by
 have h:(⟨#[]⟩:ByteArray)++b=b:=by
  apply cQ;simp[dc]
 simp only[PR.new,Src.zero,Src.bare,kY,h]
theorem BQ(b:ByteArray):PR.new.write b=tells (ky b):=by
 unfold PR.write;rw[if_neg (by rintro(h|h);cases h;exact h rfl)];show tells (reads ({PR.new.s with rest:=PR.new.s.rest++b}:Src).bare (.plain .between) St.zero)=_;rw[T5];rfl
theorem BS(b:ByteArray):(PR.new.write b).2=(ei b).l:=by
 rw[BQ];unfold tells;rcases FZ b with⟨h1,h2,_⟩|⟨h1,_,h2,_⟩
 ·rw[h1];exact h2
 ·rw[h1];exact h2
theorem Dv(S:Src)(pt:Part)(st:St)(b:Bool):reads {S with closed:=b} pt st={reads S pt st with s:={ (reads S pt st).s with closed:=b}}:=FX b _ S pt st
theorem MK(T:List fe)(S:Src)(pt:Part)(st:St):reads S pt (st.pre T)={reads S pt st with st:=(reads S pt st).st.pre T}:=Qg T _ S pt st
theorem BT(b:ByteArray):(PR.new.write b).1.close.2=(ei b).last/\(PR.new.write b).1.close.1.err=((ei b).err,(ei b).at_)/\(PR.new.write b).1.close.1.s.closed=true:=by
 have hw:=wN b;rw[BQ];rcases FZ b with⟨h1,h2,h3,⟨n,hl⟩,hm,hno,abc,zN,P0⟩|⟨h1,h2,h3,zN⟩
 ·unfold tells;rw[h1];simp only;unfold PR.close;simp only;rw[zN,if_neg (show ¬(false=true) by simp),if_neg (show ¬((ky b).s.no≠0) by rw[hno];simp)];have hb:({ (ky b).s with closed:=true,ended:=true}:Src).bare={ ({ (ky b).s with ended:=true}:Src)with closed:=true}:=by simp only[Src.bare,P0]
  have hst:(ky b).st=({ (ky b).st with told:=[]}:St).pre (ky b).st.told:=by simp[St.pre]
  rw[h3]at hw;rw[hst,MK]at hw;simp only at hw;rw[hb,Dv];have Vh:=FY (S:={ (ky b).s with ended:=true}) (pt:=(ky b).pt) (st:={ (ky b).st with told:=[]});generalize reads { (ky b).s with ended:=true} (ky b).pt { (ky b).st with told:=[]}=m at*
  unfold shut tells;by_cases he:(ei b).err=0
  ·obtain⟨w1,w2⟩:=hw.1 he;simp only[w1];have Z0:(ky b).st.told++m.st.told=(ei b).l++(ei b).last:=w2;rw[h2]at Z0;refine⟨List.append_cancel_left Z0,?_,rfl⟩;have hat:(ei b).at_=0:=by
    have:=tu (fun st=>st.told) (s:=b) (b.size+1) Sc.zero St.zero rfl (aB _) (by show b.size<0+_;omega) TY he;exact this.2
   unfold PR.err Src.zero;simp only[if_true];rw[Vh.1,Vh.2,he,hat];simp only[hno,abc]
  ·obtain⟨w1,w2⟩:=hw.2 he;simp only[w1];have Z0:(ky b).st.told++m.st.told=(ei b).l:=w2;rw[h2]at Z0;have hnil:m.st.told=[]:=by simpa using Z0
   refine⟨?_,rfl,rfl⟩;rw[hnil];unfold Sc.last;rw[if_pos (Or.inl he)]
 ·unfold tells;rw[h1];simp only;unfold PR.close;simp[Src.zero,zN,h2,PR.err,Sc.last]
theorem T6(b:ByteArray):ZW b=ly b:=by
 obtain⟨h1,h2,_⟩:=BT b;unfold ZW ly;rw[h2,BS,h1]
end K
end Go.Proofs.YtclgfepngpeifaaGreatDoor
namespace Go.Proofs.YtclgfepngpeifaaGreatDoor
namespace K
open Go.RowKit Go.Lib Tryz
structure Nd where
 name:List UInt8
 attrs:lK
 text:List UInt8
 kids:List Nat
 up:Int
def Nd.kid(n:Nd)(j:Nat):Nd:={n with kids:=n.kids++[j]}
def fJ:List Nd->Nat->Nat->List Nd
 |[],_,_=>[]
 |n::l,0,j=>n.kid j::l
 |n::l,k+1,j=>n::fJ l k j
structure Gr where
 nodes:List Nd
 stack:List Nat
def iI:List Nat->Int
 |[]=> -1
 |k::_=>k
def Gr.put(g:Gr)(n:Nd):Gr:=
 match g.stack with
 |[]=>{g with nodes:=g.nodes++[{n with up:= -1}]}
 |k::_=>{g with nodes:=fJ g.nodes k g.nodes.length++[{n with up:=(k:Int)}]}
def elemOf(t:fe):Nd:=⟨t.name,t.attrs,[],[],0⟩
def jd(t:fe):Nd:=⟨[],[],t.text,[],0⟩
def gI(l:List UInt8):Bool:=l.all fun c=>iT c.toNat
def Gr.named(g:Gr)(k:Nat)(n:List UInt8):Bool:=match g.nodes[k]? with
 |some m=>m.name==n
 |none=>false
def Gr.take(g:Gr)(t:fe):Int×Gr:=
 if t.kind=1 then
  if g.stack=[]/\g.nodes≠[]then(7,g)
  else if 30<=g.stack.length then(8,g)
  else(0,{ (g.put (elemOf t))with stack:=g.nodes.length::g.stack})
 else if t.kind=2 then
  match g.stack with
  |[]=>(6,g)
  |k::st=>if g.named k t.name=true then(0,{g with stack:=st})else(6,g)
 else match g.stack with
  |[]=>if gI t.text=true then(0,g)else(7,g)
  |_::_=>(0,g.put (jd t))
def grow:Gr->List fe->Int×Int×Gr
 |g,[]=>(0,0,g)
 |g,t::l=>if(g.take t).1≠0 then((g.take t).1,t.at_,g)else grow (g.take t).2 l
def Gr.zero:Gr:=⟨[],[]⟩
def eZ(s:ByteArray):List Nd×Int×Int:=
 if(grow Gr.zero ((ei s).l++(ei s).last)).1≠0 then([],(grow Gr.zero ((ei s).l++(ei s).last)).1,(grow Gr.zero ((ei s).l++(ei s).last)).2.1)
 else if(ei s).err≠0 then([],(ei s).err,(ei s).at_)
 else if(grow Gr.zero ((ei s).l++(ei s).last)).2.2.stack≠[]\/(grow Gr.zero ((ei s).l++(ei s).last)).2.2.nodes=[]then([],3,s.size)
 else((grow Gr.zero ((ei s).l++(ei s).last)).2.2.nodes,0,0)
theorem fP:∀(l:List Nd) (k j:Nat),(fJ l k j).length=l.length
 |[],_,_=>rfl
 |n::l,0,j=>rfl
 |n::l,k+1,j=>by simp only[fJ,aC,fP l k j]
theorem mF:∀(l:List Nd) (k j i:Nat),(fJ l k j)[i]?=if i=k then(l[i]?).map (fun n=>n.kid j)else l[i]?
 |[],k,j,i=>by simp[fJ]
 |n::l,0,j,0=>by simp[fJ]
 |n::l,0,j,i+1=>by simp[fJ]
 |n::l,k+1,j,0=>by simp[fJ]
 |n::l,k+1,j,i+1=>by simp only[fJ,List.getElem?_cons_succ,mF l k j i,Nat.add_right_cancel_iff]
def zq(nodes:List Nd):List Nat->Prop
 |[]=>True
 |k::st=>(∃n,nodes[k]?=some n/\n.up=iI st)/\zq nodes st
structure Gr.Wf(g:Gr):Prop where
 LF:zq g.nodes g.stack
 deep:g.stack.length<=30
theorem Gr.Wf.zero:Gr.zero.Wf:=⟨trivial,aB _⟩
theorem zq.lt{nodes:List Nd}:∀{st:List Nat},zq nodes st->∀k∈st,k<nodes.length
 |[],_,k,hk=>by simp at hk
 |j::st,h,k,hk=>by
  rcases List.mem_cons.1 hk with e|e
  ·obtain⟨⟨n,hn,_⟩,_⟩:=h;rw[e];exact(List.getElem?_eq_some_iff.1 hn).1
  ·exact zq.lt h.2 k e
theorem zq.mono{nodes Qp:List Nd}(hm:∀(k:Nat) n,nodes[k]?=some n->∃n',Qp[k]?=some n'/\n'.up=n.up):∀{st:List Nat},zq nodes st->zq Qp st
 |[],_=>trivial
 |k::st,⟨⟨n,hn,hu⟩,h⟩=>by
  obtain⟨n',hn',hu'⟩:=hm k n hn;exact⟨⟨n',hn',hu'.trans hu⟩,zq.mono hm h⟩
theorem zr(l:List Nd)(n:Nd)(k:Nat)(m:Nd)(h:l[k]?=some m):(l++[n])[k]?=some m:=by
 have:=(List.getElem?_eq_some_iff.1 h).1;rw[aU this];exact h
theorem lV(g:Gr)(n:Nd):(g.put n).nodes.length=g.nodes.length+1:=by unfold Gr.put;split<;>simp[fP]
theorem mG(g:Gr)(n:Nd):(g.put n).stack=g.stack:=by unfold Gr.put;split<;>simp_all
theorem F3(g:Gr)(n:Nd)(k:Nat)(m:Nd)(h:g.nodes[k]?=some m):∃m',(g.put n).nodes[k]?=some m'/\m'.up=m.up/\m'.name=m.name/\m'.attrs=m.attrs/\m'.text=m.text:=by
 unfold Gr.put;split
 ·exact⟨m,zr _ _ _ _ h,rfl,rfl,rfl,rfl⟩
 ·rename_i j st hs;have e:=mF g.nodes j g.nodes.length k;rw[h]at e;by_cases hk:k=j
  ·rw[if_pos hk]at e;exact⟨_,zr _ _ _ _ e,rfl,rfl,rfl,rfl⟩
  ·rw[if_neg hk]at e;exact⟨m,zr _ _ _ _ e,rfl,rfl,rfl,rfl⟩
theorem qH(g:Gr)(n:Nd):(g.put n).nodes[g.nodes.length]?=some {n with up:=iI g.stack}:=by
 unfold Gr.put;split
 ·rename_i hs;rw[hs];simp[iI]
 ·rename_i j st hs;rw[hs];have:=fP g.nodes j g.nodes.length;rw[aW (by omega)];simp[this,iI]
theorem Gr.Wf.put{g:Gr}(h:g.Wf)(n:Nd):zq (g.put n).nodes g.stack:=
 zq.mono (fun k m hm=>by obtain⟨m',a,b,_⟩:=F3 g n k m hm;exact⟨m',a,b⟩) h.LF
theorem Gr.Wf.take{g:Gr}(h:g.Wf)(t:fe):(g.take t).2.Wf:=by
 unfold Gr.take;split
 ·split
  ·exact h
  ·split
   ·exact h
   ·rename_i _ hd;refine⟨⟨⟨_,qH g _,rfl⟩,h.put _⟩,?_⟩;show g.stack.length+1<=30;omega
 ·split
  ·split
   ·exact h
   ·rename_i k st hs;split
    ·have hu:=h.LF;have hd:=h.deep;rw[hs]at hu hd;exact⟨hu.2,by show st.length<=30;simp only[aC]at hd;omega⟩
    ·exact h
  ·split
   ·split<;>exact h
   ·refine⟨?_,?_⟩
    ·simp only[mG];exact h.put _
    ·simp only[mG];exact h.deep
theorem Gr.Wf.top{g:Gr}(h:g.Wf){k:Nat}{st:List Nat}(hs:g.stack=k::st):∃n,g.nodes[k]?=some n/\n.up=iI st/\k<g.nodes.length:=by
 have hu:=h.LF;rw[hs]at hu;obtain⟨⟨n,hn,e⟩,_⟩:=hu;exact⟨n,hn,e,(List.getElem?_eq_some_iff.1 hn).1⟩
end K
end Go.Proofs.YtclgfepngpeifaaGreatDoor
namespace Go.Proofs.YtclgfepngpeifaaGreatDoor
namespace K
open Go.RowKit Go.Maps Go.Lib Tryz
section
variable{F F' G A B:Nat->Prop}{R:Nat}{w w' w'' wr w1:World}{a:Addr}{v v1 v2:Value}{N n:Nat}{l l1 l2:List fe}
def l6(t:fe)(v:Value):Value:=.agg #[.int .i64 t.kind,eA t.name,v,eA t.text,.int .i64 t.at_]
end
end K
end Go.Proofs.YtclgfepngpeifaaGreatDoor
