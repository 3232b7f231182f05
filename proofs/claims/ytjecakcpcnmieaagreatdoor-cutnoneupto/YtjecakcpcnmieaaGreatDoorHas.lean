import Derived.Test.YtjecakcpcnmieaaGreatDoorHA
import Derived.Deep.MidRow
import Derived.Laws.StructEq
import Derived.BigQuiet
import Derived.Test.YtjecakcpcnmieaaGreatDoorHaq
import Derived.Test.YtjecakcpcnmieaaGreatDoorHar
import Derived.Test.YtjecakcpcnmieaaGreatDoorHap
set_option linter.unusedVariables false
set_option linter.unusedSimpArgs false
set_option maxHeartbeats 32000000
set_option maxRecDepth 100000
namespace Go.Proofs.YtjecakcpcnmieaaGreatDoor
namespace K
open Go.RowKit Go.Maps Go.Lib Tryz
section
variable{F F' G:Nat->Prop}{R:Nat}{w w' w'' wr:World}{s s':Src}{p:jt}{st:St}{c:Int}{a:Addr}{pt:Part}{v:Value}{m:Rd}{N n:Nat}
abbrev fO:Value:=.slice none 0 0
def Told(G:Nat->Prop)(R:Nat)(w:World)(av:Value)(k:Nat):Prop:=G k/\k≠R/\((∃cur,w.heap[k]?=some (.cells cur 56 (0,0)))\/((∃cur,w.heap[k]?=some (.cells cur 143 (0,0)))/\av.ownBlock≠some k))
def Rest(G:Nat->Prop)(R:Nat)(w:World)(av:Value)(k:Nat):Prop:=G k/\¬Told G R w av k
def xa(A:Nat->Prop)(w:World)(v:Value)(l:List Tok):Prop:=∃cs,w.ownsRow 0 56 5 v l.length cs/\nh A 0 w fO l cs/\∀k,v.ownBlock=some k->A k
theorem Aa{k:Nat}{t:TypeId}{cur:Array Value}{av:Value}(h:w.heap[k]?=some (.cells cur t (0,0)))(h1:t≠56)(h2:t=143->av.ownBlock=some k):¬Told G R w av k:=by
 rintro⟨_,_,⟨c,hc⟩|⟨⟨c,hc⟩,hn⟩⟩
 ·rw[h]at hc;simp only[aJ,cY]at hc;exact h1 hc.2.1
 ·rw[h]at hc;simp only[aJ,cY]at hc;exact hn (h2 hc.2.1)
theorem nh.free{l:List Tok}{cs:List Value}{av:Value}(h:nh G R w av l cs)(lo:Low G)(hk:∀k,k≠R->w'.heap[k]?=w.heap[k]?):nh (Told G R w av) 0 w' fO l cs:=by
 induction h with
 |nil=>exact .nil
 |cons t v l cs ho hf hl ih=>
  refine .cons t v l cs (eI ho fun k hv=>hk k (hf k hv).2.1) (fun k hv=>?_) ih;obtain⟨cur,hc⟩:=fX ho hv;refine⟨⟨(hf k hv).1,(hf k hv).2.1,Or.inr ⟨⟨cur,hc⟩,(hf k hv).2.2⟩⟩,?_,iE k⟩;intro e;exact lo k (by omega) (hf k hv).1
theorem gb.release(h:gb G R w s p st)(lo:Low G):
  gb (Rest G R w p.b_) R (w.setCell ⟨R,5,none⟩ fO) s {p with told:=fO} {st with told:=[]}/\xa (Told G R w p.b_) (w.setCell ⟨R,5,none⟩ fO) p.told st.told:=by
 have hk:∀k,k≠R->(w.setCell ⟨R,5,none⟩ fO).heap[k]?=w.heap[k]?:=fun k hk=>af _ _ _ _ hk;have hsz:(w.setCell ⟨R,5,none⟩ fO).heap.size=w.heap.size:=by simp[World.setCell]
 have hb:=eV (i:=5) h.blk fO;obtain⟨cs,h1,h2⟩:=h.own.told;refine⟨⟨?_,⟨h.j5,fun x=>x.2.1 rfl⟩,fun k x=>by rw[hsz];exact h.lt k x.1,?_⟩,cs,eI h1 fun k e=>hk k (h.own.iD k e).2,h2.free lo hk,fun k e=>?_⟩
 ·rw[hb];rfl
 ·refine⟨fun i=>eI (h.own.run i) fun k e=>hk k (h.own.jJ i k e).2,fun i k e=>?_,h.own.apart,⟨[],la _ _ _,.nil⟩,fun k e=>absurd e (iE k),eI h.own.b_ fun k e=>hk k (h.own.fe k e).2,fun k e=>?_,?_⟩
  ·obtain⟨cur,hc⟩:=fX (h.own.run i) e;exact⟨⟨(h.own.jJ i k e).1,Aa hc (by decide) (fun e=>absurd e (by decide))⟩,(h.own.jJ i k e).2⟩
  ·obtain⟨cur,hc⟩:=fX h.own.b_ e;exact⟨⟨(h.own.fe k e).1,Aa hc (by decide) (fun _=>e)⟩,(h.own.fe k e).2⟩
  ·rcases h.own.names with hn|⟨b,x1,x2,x3,x4⟩
   ·exact Or.inl hn
   ·refine Or.inr ⟨b,x1,⟨x2,?_⟩,x3,zA x4 (hk b x3)⟩;obtain⟨es,cl,hm,_⟩:=x4;rintro⟨_,_,⟨c,hc⟩|⟨⟨c,hc⟩,_⟩⟩
    ·rw[hm]at hc;cases hc
    ·rw[hm]at hc;cases hc
 ·obtain⟨cur,hc⟩:=fX h1 e;exact⟨(h.own.iD k e).1,(h.own.iD k e).2,Or.inl ⟨cur,hc⟩⟩
theorem gJ.release(h:gJ G R w v pt){av:Value}(hk:∀k,k≠R->w'.heap[k]?=w.heap[k]?):gJ (Rest G R w av) R w' v pt:=by
 have bx:∀{b x t},qG G R w b x t->t≠56->t≠143->qG (Rest G R w av) R w' b x t:=fun h h1 h2=>⟨(hk _ h.2.2).trans h.1,⟨h.2.1,Aa h.1 h1 (fun e=>absurd e h2)⟩,h.2.2⟩
 cases pt with
 |plain k=>exact h
 |word l k=>obtain⟨b1,b2,e,x1,x2⟩:=h;exact⟨b1,b2,e,bx x1 (by decide) (by decide),bx x2 (by decide) (by decide)⟩
 |name i k=>obtain⟨b1,b2,b3,e,x1,x2,x3⟩:=h;exact⟨b1,b2,b3,e,bx x1 (by decide) (by decide),bx x2 (by decide) (by decide),bx x3 (by decide) (by decide)⟩
 |ref i k=>obtain⟨b1,b2,b3,e,x1,x2,x3⟩:=h;exact⟨b1,b2,b3,e,bx x1 (by decide) (by decide),bx x2 (by decide) (by decide),bx x3 (by decide) (by decide)⟩
def Src.zero(no yg:Int)(closed:Bool):Src:=⟨⟨#[]⟩,0,0,false,.nilFunc,no,yg,closed⟩
def jt.zero:jt:=⟨fO,fun _=>fO,fO,.map none⟩
def St.zero:St:=⟨fun _=>[],fun _=>0,0,[],[],0,[]⟩
theorem Own.zero(F:Nat->Prop)(R:Nat)(w:World):Own F R w jt.zero St.zero:=
 ⟨fun _=>la w 5 1,fun _ k e=>absurd e (iE k),fun _ _ k _ e=>absurd e (iE k),⟨[],la w 56 5,.nil⟩,fun k e=>absurd e (iE k),la w 143 2,fun k e=>absurd e (iE k),Or.inl ⟨rfl,rfl⟩⟩
structure PR where
 s:Src
 pt:Option Part
 st:St
def rP(F:Nat->Prop)(R:Nat)(w:World)(r:PR):Prop:=
 ∃v p,gb F R w {r.s with now:=v} p r.st/\match r.pt with|some pt=>gJ F R w v pt|none=>v=.nilFunc
def tells(m:Rd):PR×List Tok:=
 match m.ret with
 | .more=>(⟨m.s,some m.pt,{m.st with told:=[]}⟩,m.st.told)
 | .over=>(⟨m.s,none,{m.st with told:=[]}⟩,m.st.told)
 | .fail no q=>(⟨Src.zero no q m.s.closed,none,St.zero⟩,m.st.told)
def jc(F:Nat->Prop)(R:Nat)(w:World)(x:PR×List Tok)(e:Ending)(w':World):Prop:=
 ∃(v:Value) (A F':Nat->Prop),e=.returned v/\xa A w' v x.2/\rP F' R w' x.1/\Frame F w w'/\(∀k,A k->Grow F w w' k/\¬F' k)/\(∀k,F' k->Grow F w w' k)
theorem xa.frame{A:Nat->Prop}{l:List Tok}(h:xa A w v l)(hk:∀k,A k->w'.heap[k]?=w.heap[k]?):xa A w' v l:=by
 obtain⟨cs,h1,h2,h3⟩:=h;exact⟨cs,eI h1 fun k e=>hk k (h3 k e),h2.frame fun k n xs v ho hv a b c=>⟨hk k a,a,c⟩,h3⟩
theorem Ei{w1 w4:World}{s1:Src}{p1 p':jt}{fM:St}{x:PR}{v':Value}(ug:RG F R w s1 p1 fM w1)(lo:Low (Grow F w w1))
  (r4:RG (Rest (Grow F w w1) R w1 p1.b_) R (w1.setCell ⟨R,5,none⟩ fO) {x.s with now:=v'} p' x.st w4)
  (hx:match x.pt with|some pt=>gJ (Grow (Rest (Grow F w w1) R w1 p1.b_) (w1.setCell ⟨R,5,none⟩ fO) w4) R w4 v' pt|none=>v'=.nilFunc):
  jc F R w (x,fM.told) (.returned p1.told) w4:=by
 have hk:∀k,k≠R->(w1.setCell ⟨R,5,none⟩ fO).heap[k]?=w1.heap[k]?:=fun k hk=>af _ _ _ _ hk;have hsz:(w1.setCell ⟨R,5,none⟩ fO).heap.size=w1.heap.size:=by simp[World.setCell]
 have hz:=ug.2.size;have hz4:=r4.2.size;obtain⟨rr,an⟩:=ug.1.release lo;refine⟨p1.told,Told (Grow F w w1) R w1 p1.b_,Grow (Rest (Grow F w w1) R w1 p1.b_) (w1.setCell ⟨R,5,none⟩ fO) w4,rfl,?_,⟨v',p',r4.1,hx⟩,?_,?_,?_⟩
 ·refine an.frame fun k hA=>r4.2.block k (by rw[hsz];exact ug.1.lt k hA.1) (fun x=>x.2 hA)
 ·refine⟨r4.2.os.trans ug.2.os,r4.2.tape.trans ug.2.tape,r4.2.output.trans ug.2.output,by omega,fun k hl hf=>?_⟩;have hkR:k≠R:=fun e=>by
   subst e;rcases ug.1.j5 with x|x
   ·exact hf x
   ·omega
  rw[r4.2.block k (by omega) (fun x=>x.1.elim hf (fun y=>by omega)),hk k hkR];exact ug.2.block k hl hf
 ·intro k hA;refine⟨hA.1.elim Or.inl (fun y=>Or.inr ⟨y.1,by omega⟩),?_⟩;rintro(y|y)
  ·exact y.2 hA
  ·have:=ug.1.lt k hA.1;omega
 ·rintro k (y|y)
  ·exact y.1.elim Or.inl (fun z=>Or.inr ⟨z.1,by omega⟩)
  ·exact Or.inr ⟨by omega,y.2⟩
theorem GO(h:gb F R w s p st)(hz:s.rest.size<=1099511627776):Z4 89 #[Z8 R] w fun e w'=>e=.returned (.tuple #[])/\RF F R w s p st w':=by
 have c0:w.cell? ⟨R,0,none⟩=some (.string s.rest):=h.cell 0 rfl;have hc:=Ol s.rest w (by omega);have H:=a_ (RF.refl h);clear h;go_enter func89,ntmps89;go_wp2_with(go_at_call 126;refine hc.mono ?_;rintro e w1 ⟨rfl,b1⟩;have R1:=a_ (H.out.below b1);have d0:w1.cell? ⟨R,0,none⟩=some (.string s.rest):=R1.out.1.cell 0 rfl;have g0:=R1.out.1.free 0)
 go_end0
 exact⟨rfl,R1.out.set 0 _ rfl⟩
end
section
variable{F F' G:Nat->Prop}{R:Nat}{w w' w'' wr:World}{s s':Src}{p:jt}{st:St}{c:Int}{a:Addr}{pt:Part}{v:Value}{m:Rd}{N n:Nat}
theorem mid{w1:World}{s1:Src}{p1:jt}{fM:St}(ug:RG F R w s1 p1 fM w1)(gl:Gl w a)(lo:Low F)(o:Obj):
  RF (Rest (Grow F w w1) R w1 p1.b_) R (w1.setCell ⟨R,5,none⟩ fO) s1 {p1 with told:=fO} {fM with told:=[]} ((w1.setCell ⟨R,5,none⟩ fO).alloc o)/\
  Gl ((w1.setCell ⟨R,5,none⟩ fO).alloc o) a/\Low (Grow F w w1):=by
 have SF:Low (Grow F w w1):=lo.grow gl.size;have GM:=gl.frame ug.2 lo;have hb:Below (w1.setCell ⟨R,5,none⟩ fO).heap.size (w1.setCell ⟨R,5,none⟩ fO) ((w1.setCell ⟨R,5,none⟩ fO).alloc o):=(Below.refl _ _).alloc (ah _) _;have r3:=(RF.refl (ug.1.release SF).1).below hb;refine⟨r3,?_,SF⟩;have f1:Frame (Grow F w w1) w1 (w1.setCell ⟨R,5,none⟩ fO):=⟨rfl,rfl,rfl,by simp[World.setCell],fun k hk hf=>af _ _ _ _ (fun e=>hf (e▸ug.1.j5))⟩
 have gl2:=GM.frame f1 SF;have lo2:Low (Rest (Grow F w w1) R w1 p1.b_):=fun k hk x=>SF k hk x.1;exact gl2.frame r3.2.1 lo2
theorem Ej(P8:Z4 87 #[Z8 R] w (qo F R w a m))(gl:Gl w a)(lo:Low F)(nO:m.ret=.more)(hz:m.s.rest.size<=1099511627776):
  Z4 51 #[Z8 R] w (jc F R w (tells m)):=by
 have ht:tells m=(⟨m.s,some m.pt,{m.st with told:=[]}⟩,m.st.told):=by unfold tells;rw[nO]
 rw[ht];have SP:Z4 87 #[Z8 R] w fun e w1=>e=.returned (.iface 339 (.pointer (some a)))/\∃v p',RG F R w {m.s with now:=v} p' m.st w1/\gJ (Grow F w w1) R w1 v m.pt:=by
  refine P8.mono ?_;rintro e w1 ⟨v,p',rg,hx⟩;rw[nO]at hx;exact⟨hx.1,v,p',rg,hx.2⟩
 have GL:=a_ gl;have LO:=a_ lo;clear P8 ht nO gl lo;have Yv:=WH a;go_enter func51,ntmps51;go_wp2_with(first|(go_at_call 87;refine SP.mono ?_;rintro e w1 ⟨rfl,v1,p1,ug,pa1⟩;obtain⟨r3,g3,l1⟩:=mid ug GL.out LO.out (.cells #[.int .i64 0,.int .i64 0] 135);have m0:((w1.setCell ⟨R,5,none⟩ (.slice none 0 0)).alloc (.cells #[.int .i64 0,.int .i64 0] 135)).cell? ⟨0,0,none⟩=some (.iface 339 (.pointer (some a))):=g3.more;have Y_:=GO r3.1 hz;have R3:=a_ r3;have L1:=a_ l1;have RG1:=a_ ug;have PA1:=a_ pa1;have c5:w1.cell? ⟨R,5,none⟩=some p1.told:=ug.1.cell 5 rfl;have f5:=ug.1.free 5;clear ug pa1 r3 g3 l1)|(go_at_call 88;refine(Yv _).mono ?_;rintro e wx ⟨rfl,rfl⟩)|(go_at_call 89;refine Y_.mono ?_;rintro e w4 ⟨rfl,r4⟩));go_ret;have hsz:(w1.setCell ⟨R,5,none⟩ fO).heap.size=w1.heap.size:=by simp[World.setCell]
 refine Ei (x:=⟨m.s,some m.pt,{m.st with told:=[]}⟩) RG1.out L1.out (R3.out.rg.on r4.rg) ?_;refine(PA1.out.release (w':=w1.setCell ⟨R,5,none⟩ fO) (fun k hk=>af _ _ _ _ hk)).keep (fun k hk hR=>?_) (fun _ x=>Or.inl x);have hl:k<(w1.setCell ⟨R,5,none⟩ fO).heap.size:=by rw[hsz];exact RG1.out.1.lt k hk.1
 exact(r4.2.2 k (ak hl R3.out.2.1.size) hR).trans (R3.out.2.2 k hl hR)
theorem Ek(P8:Z4 87 #[Z8 R] w (qo F R w a m))(gl:Gl w a)(lo:Low F)(nO:m.ret=.over):
  Z4 51 #[Z8 R] w (jc F R w (tells m)):=by
 have ht:tells m=(⟨m.s,none,{m.st with told:=[]}⟩,m.st.told):=by unfold tells;rw[nO]
 rw[ht];have SP:Z4 87 #[Z8 R] w fun e w1=>e=.returned .nilIface/\∃p',RG F R w {m.s with now:=.nilFunc} p' m.st w1:=by
  refine P8.mono ?_;rintro e w1 ⟨v,p',rg,hx⟩;rw[nO]at hx;obtain⟨rfl,rfl⟩:=hx;exact⟨rfl,p',rg⟩
 have GL:=a_ gl;have LO:=a_ lo;clear P8 ht nO gl lo;have Yv:=Z0 a;have has:=Z1;go_enter func51,ntmps51;go_wp2_with(first|(go_at_call 87;refine SP.mono ?_;rintro e w1 ⟨rfl,p1,ug⟩;obtain⟨r3,g3,l1⟩:=mid ug GL.out LO.out (.cells #[.int .i64 0,.int .i64 0] 135);have m0:((w1.setCell ⟨R,5,none⟩ (.slice none 0 0)).alloc (.cells #[.int .i64 0,.int .i64 0] 135)).cell? ⟨0,0,none⟩=some (.iface 339 (.pointer (some a))):=g3.more;have R3:=a_ r3;have L1:=a_ l1;have RG1:=a_ ug;have c5:w1.cell? ⟨R,5,none⟩=some p1.told:=ug.1.cell 5 rfl;have f5:=ug.1.free 5;clear ug r3 g3 l1)|(go_at_call 88;refine(Yv _).mono ?_;rintro e wx ⟨rfl,rfl⟩)|(go_at_call 90;refine(has _ _).mono ?_;rintro e wx ⟨rfl,rfl⟩));go_ret;exact Ei (x:=⟨m.s,none,{m.st with told:=[]}⟩) RG1.out L1.out R3.out.rg rfl
def Kd(cur:Array Value):Nat->List Value->Array Value
 |_,[]=>cur
 |o,v::r=>Kd (cur.setIfInBounds o v) (o+1) r
theorem qp{t:TypeId}:∀(vs:List Value) (o:Nat) (cur:Array Value) (w:World),w.heap[R]?=some (.cells cur t (0,0))->(w.setCells R o vs).heap[R]?=some (.cells (Kd cur o vs) t (0,0))
 |[],_,_,_,h=>h
 |v::r,o,_,_,h=>qp r (o+1) _ _ (eV h v)
theorem fK:∀(vs:List Value) (o:Nat) (w:World),(∀k,k≠R->(w.setCells R o vs).heap[k]?=w.heap[k]?)/\(w.setCells R o vs).heap.size=w.heap.size/\(w.setCells R o vs).os=w.os/\(w.setCells R o vs).tape=w.tape/\(w.setCells R o vs).output=w.output
 |[],_,_=>⟨fun _ _=>rfl,rfl,rfl,rfl,rfl⟩
 |v::r,o,w=>by
  obtain⟨h1,h2,h3,h4,h5⟩:=fK r (o+1) (w.setCell ⟨R,o,none⟩ v);refine⟨fun k hk=>(h1 k hk).trans (af _ _ _ _ hk),h2.trans (by simp[World.setCell]),h3,h4,h5⟩
def jx:Array Value:=#[.string ⟨#[]⟩,.int .i64 0,.int .i64 0,.bool false,.nilFunc,fO,fO,.int .i64 0,.int .i64 0,fO,.int .i64 0,fO,.map none,fO,.int .i64 0,fO,.int .i64 0,.int .i32 0,fO,.int .i64 0]
theorem SQ:jx.all (·.oneCell')=true:=by kernel_rfl
theorem Mb:(prog.info? 133).map (·.size)=some jx.size:=by kernel_rfl
theorem Ab(s:Src)(p:jt)(st:St):Kd (cellsOf s p st) 0 jx.toList=cellsOf (Src.zero s.no s.yg s.closed) jt.zero St.zero:=by kernel_rfl
theorem Cq{t:TypeId}{cur:Array Value}(h:w.heap[R]?=some (.cells cur t (0,0)))(hs:20<=cur.size):w.there R 0 jx.size:=by
 intro j hj;have hj':j<20:=hj;rw[ay];exact⟨by rw[cell_of h (Array.getElem?_eq_getElem (by omega))];rfl,eP h⟩
theorem RG.zero(h:RG F R w s p st w'):RG F R w (Src.zero s.no s.yg s.closed) jt.zero St.zero (w'.setCells R 0 jx.toList):=by
 obtain⟨h1,h2,h3,h4,h5⟩:=fK (R:=R) jx.toList 0 w';have hb:=qp (R:=R) jx.toList 0 _ w' h.1.blk;rw[Ab]at hb;generalize w'.setCells R 0 jx.toList=W at*
 refine⟨⟨hb,?_,fun k hk=>?_,Own.zero _ _ _⟩,⟨h3.trans h.2.os,h4.trans h.2.tape,h5.trans h.2.output,by rw[h2];exact h.2.size,fun k hk hf=>?_⟩⟩
 ·have:=h.1.j5;unfold Grow at this ⊢;rw[h2];exact this
 ·unfold Grow at hk;rw[h2]at hk ⊢;exact h.1.lt k hk
 ·refine(h1 k ?_).trans (h.2.block k hk hf);intro e;subst e;rcases h.1.j5 with x|x
  ·exact hf x
  ·omega
theorem aac(w2:World)(no q:Int)(hg:(w2.alloc (.cells #[.int .i64 0,.int .i64 0] 135)).cell? ⟨1,0,none⟩=some (.iface 254 (.agg #[.pointer (some ⟨9,100,none⟩)]))):
  Z4 90 #[.iface 135 (.agg #[.int .i64 no,.int .i64 q]),.iface 189 (.pointer (some ⟨w2.heap.size,0,none⟩))] (w2.alloc (.cells #[.int .i64 0,.int .i64 0] 135)) fun ev w5=>ev=.returned (.bool true)/\Z5 w2 w5/\w5.cell? ⟨w2.heap.size,0,none⟩=some (.int .i64 no)/\w5.cell? ⟨w2.heap.size,1,none⟩=some (.int .i64 q):=by
 have hh:(w2.alloc (.cells #[.int .i64 0,.int .i64 0] 135)).heap[w2.heap.size]?=some (.cells #[.int .i64 0,.int .i64 0] 135 (0,0)):=eL _ _;refine(aab w2.heap.size no q (.int .i64 0) (.int .i64 0) _ hg (cell_of hh rfl) (cell_of hh rfl) (eP hh) (eP hh)).mono ?_;rintro ev w5 ⟨rfl,rfl⟩;have hb:Z5 w2 ((((((w2.alloc (.cells #[.int .i64 0,.int .i64 0] 135)).alloc (.cells #[.pointer (some ⟨w2.heap.size,0,none⟩)] 189)).alloc (.cells (Yu (w2.alloc (.cells #[.int .i64 0,.int .i64 0] 135)).heap.size) 226)).alloc (.cells (Yu (w2.alloc (.cells #[.int .i64 0,.int .i64 0] 135)).heap.size) 226)).alloc (.cells #[.int .i64 no,.int .i64 q] 135))):=
  (((((Below.refl _ _).alloc (ah _) _).alloc (by simp) _).alloc (by simp;omega) _).alloc (by simp;omega) _).alloc (by simp;omega) _
 have hx:(((((w2.alloc (.cells #[.int .i64 0,.int .i64 0] 135)).alloc (.cells #[.pointer (some ⟨w2.heap.size,0,none⟩)] 189)).alloc (.cells (Yu (w2.alloc (.cells #[.int .i64 0,.int .i64 0] 135)).heap.size) 226)).alloc (.cells (Yu (w2.alloc (.cells #[.int .i64 0,.int .i64 0] 135)).heap.size) 226)).alloc (.cells #[.int .i64 no,.int .i64 q] 135)).heap[w2.heap.size]?=some (.cells #[.int .i64 0,.int .i64 0] 135 (0,0)):=by
  rw[ap _ _ _ (by simp;omega),ap _ _ _ (by simp;omega),ap _ _ _ (by simp;omega),ap _ _ _ (by simp)];exact hh
 generalize (((((w2.alloc (.cells #[.int .i64 0,.int .i64 0] 135)).alloc (.cells #[.pointer (some ⟨w2.heap.size,0,none⟩)] 189)).alloc (.cells (Yu (w2.alloc (.cells #[.int .i64 0,.int .i64 0] 135)).heap.size) 226)).alloc (.cells (Yu (w2.alloc (.cells #[.int .i64 0,.int .i64 0] 135)).heap.size) 226)).alloc (.cells #[.int .i64 no,.int .i64 q] 135))=W at*
 have h1:=eV (i:=0) hx (.int .i64 no);have h2:=eV (i:=1) h1 (.int .i64 q);refine⟨rfl,⟨hb.os,hb.tape,hb.output,?_,fun k hk=>?_⟩,cell_of h2 rfl,cell_of h2 rfl⟩
 ·have:=hb.size;simp[World.setCell];exact this
 ·rw[af _ _ _ _ (Nat.ne_of_lt hk),af _ _ _ _ (Nat.ne_of_lt hk)];exact hb.block k hk
theorem Em{no q:Int}(P8:Z4 87 #[Z8 R] w (qo F R w a m))(gl:Gl w a)(lo:Low F)(nO:m.ret=.fail no q):
  Z4 51 #[Z8 R] w (jc F R w (tells m)):=by
 have ht:tells m=(⟨Src.zero no q m.s.closed,none,St.zero⟩,m.st.told):=by unfold tells;rw[nO]
 rw[ht];have SP:Z4 87 #[Z8 R] w fun e w1=>e=.returned (.iface 135 (.agg #[.int .i64 no,.int .i64 q]))/\∃p',RG F R w {m.s with now:=.nilFunc} p' m.st w1:=by
  refine P8.mono ?_;rintro e w1 ⟨v,p',rg,hx⟩;rw[nO]at hx;obtain⟨rfl,rfl⟩:=hx;exact⟨rfl,p',rg⟩
 have GL:=a_ gl;have LO:=a_ lo;clear P8 ht nO gl lo;have Yv:=SI no q a;go_enter func51,ntmps51;go_wp2_with(first|(go_at_call 87;refine SP.mono ?_;rintro e w1 ⟨rfl,p1,ug⟩;obtain⟨r3,g3,l1⟩:=mid ug GL.out LO.out (.cells #[.int .i64 0,.int .i64 0] 135);have m0:((w1.setCell ⟨R,5,none⟩ (.slice none 0 0)).alloc (.cells #[.int .i64 0,.int .i64 0] 135)).cell? ⟨0,0,none⟩=some (.iface 339 (.pointer (some a))):=g3.more;have has:=aac (w1.setCell ⟨R,5,none⟩ (.slice none 0 0)) no q g3.et;have RR:=a_ (RF.refl (ug.1.release l1).1);have L1:=a_ l1;have RG1:=a_ ug;have c5:w1.cell? ⟨R,5,none⟩=some p1.told:=ug.1.cell 5 rfl;have f5:=ug.1.free 5;clear ug r3 g3 l1)|(go_at_call 88;refine(Yv _).mono ?_;rintro e wx ⟨rfl,rfl⟩));have hsz:(w1.setCell ⟨R,5,none⟩ (.slice none 0 0)).heap.size=w1.heap.size:=by simp[World.setCell]
 unfold Z5 at has;rw[hsz]at has;refine has.mono ?_;rintro e w5 ⟨rfl,b5,t0,t1⟩;have R5:=a_ (RR.out.below (by unfold Z5;rw[hsz];exact b5));have c20:w5.cell? ⟨R,20,none⟩=some (.int .i64 m.s.no):=R5.out.1.cell 20 rfl;have c21:w5.cell? ⟨R,21,none⟩=some (.int .i64 m.s.yg):=R5.out.1.cell 21 rfl;have f20:=R5.out.1.free 20;have f21:=R5.out.1.free 21;have R6:=a_ ((R5.out.rg.set (s':={m.s with now:=.nilFunc,no:=no}) 20 (.int .i64 no) rfl).set (s':={m.s with now:=.nilFunc,no:=no,yg:=q}) 21 (.int .i64 q) rfl);have IW:((w5.setCell ⟨R,20,none⟩ (.int .i64 no)).setCell ⟨R,21,none⟩ (.int .i64 q)).there R 0 jx.size:=Cq R6.out.1.blk (by show 20<=23;omega);clear has c5 f5 m0 b5;go_wp2_with(refine wpList_store_mid rfl 133 (.tmp 39) (.tmp 37) rfl R 0 jx rfl rfl IW Mb SQ ?_);go_ret;exact Ei (x:=⟨Src.zero no q m.s.closed,none,St.zero⟩) (v':=.nilFunc) RG1.out L1.out R6.out.zero rfl
end
section
variable{F F' G:Nat->Prop}{R:Nat}{w w' w'' wr w1:World}{s s':Src}{p:jt}{st:St}{c:Int}{a:Addr}{pt:Part}{v:Value}{m:Rd}{N n:Nat}
theorem Ke(s:Src):s.took.1.rest.size<=s.rest.size:=by
 unfold Src.took;split
 ·exact ah _
 ·split
  ·simp only[cw];omega
  ·exact ah _
theorem Oq:∀(n:Nat) (s:Src) (pt:Part) (st:St),(mz n s pt st).s.rest.size<=s.rest.size:=by
 intro n;induction n with
 |zero=>intro s pt st;exact ah _
 |succ n ih=>
  intro s pt st;have h1:=Ke s;simp only[mz];split
  ·exact ah _
  ·split
   ·have:=ih s.took.1;exact ar (this _ _) h1
   ·exact h1
   ·exact h1
theorem Ac(h:gb F R w s p st)(Gp:gJ F R w s.now pt)(hl:ue n pt st)(gl:Gl w a)(lo:Low F)(hn:n+s.rest.size<=274877906944)(jO:s.Ok):
  Z4 51 #[Z8 R] w (jc F R w (tells (reads s.bare pt st))):=by
 have P8:=WG h Gp hl gl lo hn (ah _) jO;cases hr:(reads s.bare pt st).ret with
 |more=>exact Ej P8 gl lo hr (by have:=Oq (s.bare.rest.size+1) s.bare pt st;unfold reads;have e:s.bare.rest.size=s.rest.size:=rfl;omega)
 |over=>exact Ek P8 gl lo hr
 |fail no q=>exact Em P8 gl lo hr
theorem jc.after{x:PR×List Tok}{e:Ending}(fr:Frame F w w1)(hF:∀k,G k->Grow F w w1 k)(h:jc G R w1 x e w'):jc F R w x e w':=by
 obtain⟨v,A,F',he,an,al,f2,h1,h2⟩:=h;have hs:=fr.size;have hs2:=f2.size;have up:∀k,Grow G w1 w' k->Grow F w w' k:=by
  rintro k (x|x)
  ·exact(hF k x).elim Or.inl (fun y=>Or.inr ⟨y.1,by omega⟩)
  ·exact Or.inr ⟨by omega,x.2⟩
 refine⟨v,A,F',he,an,al,⟨f2.os.trans fr.os,f2.tape.trans fr.tape,f2.output.trans fr.output,by omega,fun k hk hf=>?_⟩,fun k hk=>⟨up k (h1 k hk).1,(h1 k hk).2⟩,fun k hk=>up k (h2 k hk)⟩;rw[f2.block k (by omega) (fun x=>(hF k x).elim hf (fun y=>by omega))];exact fr.block k hk hf
theorem aad(h:gb F R w s p st)(b:ByteArray)(hz:s.rest.size+b.size<=1099511627776):Z4 50 #[Z8 R,.string b] w fun e w'=>e=.returned (.tuple #[])/\RF F R w {s with rest:=s.rest++b} p st w':=by
 have c0:w.cell? ⟨R,0,none⟩=some (.string s.rest):=h.cell 0 rfl;have f0:=h.free 0;have hz2:s.rest.size+b.size<=9223372036854775807:=by omega
 have H:=a_ (RF.refl h);have zG:=fun w=>cV (P:=prog) w s.rest b hz2;clear h;go_enter func50,ntmps50;go_wp2
 go_end0
 exact⟨rfl,H.out.set 0 _ rfl⟩
theorem Kf(h:gb F R w s p st):Z4 52 #[Z8 R] w fun e w'=>e=.returned (.tuple #[])/\RF F R w {s with ended:=true} p st w':=by
 have c3:w.cell? ⟨R,3,none⟩=some (.bool s.ended):=h.cell 3 rfl;have f3:=h.free 3;have H:=a_ (RF.refl h);clear h;go_enter func52,ntmps52;go_wp2
 go_end0
 exact⟨rfl,H.out.set 3 _ rfl⟩
theorem RF.part{s1:Src}{p1:jt}{fM:St}(h:RF F R w s1 p1 fM w')(hlt:∀k,F k->k<w.heap.size)(Gp:gJ F R w v pt):gJ (Grow F w w') R w' v pt:=
 Gp.keep (fun k hk hR=>h.2.2 k (hlt k hk) hR) (fun _ x=>Or.inl x)
theorem Kh(h:gb F R w s p st)(Gp:gJ F R w s.now pt)(hl:ue n pt st)(gl:Gl w a)(lo:Low F)(b:ByteArray)(hn:n+(s.rest.size+b.size)<=274877906944)(jO:0<=s.next/\s.next+(s.rest.size+b.size:Nat)<=1099511627776)(hc:s.closed=false)(hno:s.no=0):
  Z4 25 #[Z8 R,.string b] w (jc F R w (tells (reads {s with rest:=s.rest++b}.bare pt st))):=by
 have c20:w.cell? ⟨R,20,none⟩=some (.int .i64 s.no):=h.cell 20 rfl;have Mc:w.cell? ⟨R,22,none⟩=some (.bool s.closed):=h.cell 22 rfl;rw[hno]at c20;rw[hc]at Mc;have zG:=aad h b (by omega);have hsz:(s.rest++b).size=s.rest.size+b.size:=cA;have SR:∀w1,RF F R w {s with rest:=s.rest++b} p st w1->Z4 51 #[Z8 R] w1 (jc (Grow F w w1) R w1 (tells (reads {s with rest:=s.rest++b}.bare pt st))):=fun w1 r=>
  Ac r.1 (r.part h.lt Gp) hl (gl.frame r.2.1 lo) (lo.grow gl.size) (by show n+(s.rest++b).size<=_;omega) ⟨jO.1,by show s.next+((s.rest++b).size:Int)<=_;rw[hsz];exact jO.2⟩
 have HA:=a_ SR;clear h Gp hl gl lo SR jO hn;generalize tells (reads {s with rest:=s.rest++b}.bare pt st)=x at*
 go_enter func25,ntmps25;go_wp2_with(first|(go_at_call 50;refine zG.mono ?_;rintro e w1 ⟨rfl,r1⟩)|(go_at_call 51;refine(HA.out _ r1).mono ?_;rintro e w2 ⟨v,A,F',rfl,rest⟩));go_ret;exact jc.after r1.2.1 (fun k hk=>hk) ⟨v,A,F',rfl,rest⟩
theorem GU(x:PR)(hx:rP F R w x):jc F R w (x,[]) (.returned fO) w:=
 ⟨fO,fun _=>False,F,rfl,⟨[],la _ _ _,.nil,fun k e=>absurd e (iE k)⟩,hx,Frame.refl _ _,fun k hk=>hk.elim,fun k hk=>Or.inl hk⟩
theorem Ki(h:gb F R w s p st)(b:ByteArray)(hd:s.closed=true\/s.no≠0):
  Z4 25 #[Z8 R,.string b] w (Z6 fO w):=by
 have c20:w.cell? ⟨R,20,none⟩=some (.int .i64 s.no):=h.cell 20 rfl;have Mc:w.cell? ⟨R,22,none⟩=some (.bool s.closed):=h.cell 22 rfl;clear h;by_cases hc:s.closed=true
 ·rw[hc]at Mc;clear hd;go_enter func25,ntmps25;go_wp2;go_ret;exact⟨rfl,rfl⟩
 ·have hc':s.closed=false:=by simpa using hc
  have hn:(s.no !=0)=true:=by
   have:s.no≠0:=hd.resolve_left hc;simpa using this
  rw[hc']at Mc;clear hd hc;go_enter func25,ntmps25;go_wp2;go_ret;exact⟨rfl,rfl⟩
theorem Kj(h:gb F R w s p st)(hd:s.closed=true):
  Z4 26 #[Z8 R] w (Z6 fO w):=by
 have Mc:w.cell? ⟨R,22,none⟩=some (.bool s.closed):=h.cell 22 rfl;rw[hd]at Mc;clear h;go_enter func26,ntmps26;go_wp2;go_ret;exact⟨rfl,rfl⟩
theorem GV(h:gb F R w s p st)(hc:s.closed=false)(hd:s.no≠0):
  Z4 26 #[Z8 R] w fun e w'=>e=.returned fO/\RF F R w {s with closed:=true} p st w':=by
 have Mc:w.cell? ⟨R,22,none⟩=some (.bool s.closed):=h.cell 22 rfl;have c20:w.cell? ⟨R,20,none⟩=some (.int .i64 s.no):=h.cell 20 rfl;have f22:=h.free 22;have hn:(s.no !=0)=true:=by simpa using hd
 rw[hc]at Mc;have H:=a_ ((RF.refl h).set (s':={s with closed:=true}) 22 (.bool true) rfl);have d20:(w.setCell ⟨R,22,none⟩ (.bool true)).cell? ⟨R,20,none⟩=some (.int .i64 s.no):=H.out.1.cell 20 rfl;clear h hd;go_enter func26,ntmps26;go_wp2;go_ret;exact⟨rfl,H.out⟩
theorem SS(h:gb F R w s p st)(hc:s.closed=false):
  Z4 28 #[Z8 R] w (Z6 (.tuple #[.int .i64 0,.int .i64 0]) w):=by
 have Mc:w.cell? ⟨R,22,none⟩=some (.bool s.closed):=h.cell 22 rfl;rw[hc]at Mc;clear h;go_enter func28,ntmps28;go_wp2
 go_ret2
 exact⟨rfl,rfl⟩
theorem SU(h:gb F R w s p st)(hc:s.closed=true):
  Z4 28 #[Z8 R] w (Z7 (.tuple #[.int .i64 s.no,.int .i64 s.yg]) w):=by
 have Mc:w.cell? ⟨R,22,none⟩=some (.bool s.closed):=h.cell 22 rfl;have c20:w.cell? ⟨R,20,none⟩=some (.int .i64 s.no):=h.cell 20 rfl;have c21:w.cell? ⟨R,21,none⟩=some (.int .i64 s.yg):=h.cell 21 rfl;rw[hc]at Mc;clear h;go_enter func28,ntmps28;go_wp2
 go_region
 all_goals
  go_wp2
  go_ret2
  exact⟨rfl,below_drewN (Below.refl _ _) _⟩
def shut(x:PR×List Tok):PR×List Tok:=(⟨Src.zero x.1.s.no x.1.s.yg x.1.s.closed,none,St.zero⟩,x.2)
theorem jc.zero{x:PR×List Tok}(h:jc F R w x (.returned v) w'):w'.there R 0 jx.size/\jc F R w (shut x) (.returned v) (w'.setCells R 0 jx.toList):=by
 obtain⟨v',A,F',he,an,⟨vn,p',r,_⟩,fr,h1,h2⟩:=h;cases he;obtain⟨o1,o2,o3,o4,o5⟩:=fK (R:=R) jx.toList 0 w';have hb:=qp (R:=R) jx.toList 0 _ w' r.blk;rw[Ab]at hb;refine⟨Cq r.blk (by show 20<=23;omega),?_⟩;generalize w'.setCells R 0 jx.toList=W at*
 have up:∀k,Grow F w w' k->Grow F w W k:=fun k hk=>by unfold Grow at*;rw[o2];exact hk
 refine⟨v,A,F',rfl,an.frame fun k hA=>o1 k (fun e=>(h1 k hA).2 (e▸r.j5)),⟨.nilFunc,jt.zero,⟨hb,r.j5,fun k hk=>by rw[o2];exact r.lt k hk,Own.zero _ _ _⟩,rfl⟩,⟨o3.trans fr.os,o4.trans fr.tape,o5.trans fr.output,by rw[o2];exact fr.size,fun k hk hf=>?_⟩,fun k hk=>⟨up k (h1 k hk).1,(h1 k hk).2⟩,fun k hk=>up k (h2 k hk)⟩;refine(o1 k ?_).trans (fr.block k hk hf);intro e;subst e;rcases h2 k r.j5 with x|x
 ·exact hf x
 ·omega
theorem Kk(h:gb F R w s p st)(Gp:gJ F R w s.now pt)(hl:ue n pt st)(gl:Gl w a)(lo:Low F)(hn:n+s.rest.size<=274877906944)(jO:s.Ok)(hc:s.closed=false)(hno:s.no=0):
  Z4 26 #[Z8 R] w (jc F R w (shut (tells (reads {s with closed:=true,ended:=true}.bare pt st)))):=by
 have c20:w.cell? ⟨R,20,none⟩=some (.int .i64 s.no):=h.cell 20 rfl;have Mc:w.cell? ⟨R,22,none⟩=some (.bool s.closed):=h.cell 22 rfl;have f22:=h.free 22;rw[hno]at c20;rw[hc]at Mc;have rA:=(RF.refl h).set (s':={s with closed:=true}) 22 (.bool true) rfl;have d20:(w.setCell ⟨R,22,none⟩ (.bool true)).cell? ⟨R,20,none⟩=some (.int .i64 0):=by rw[<-hno];exact rA.1.cell 20 rfl
 have hend:=Kf rA.1;have SR:∀wB,RF (Grow F w (w.setCell ⟨R,22,none⟩ (.bool true))) R (w.setCell ⟨R,22,none⟩ (.bool true)) {s with closed:=true,ended:=true} p st wB->Z4 51 #[Z8 R] wB (jc F R w (tells (reads {s with closed:=true,ended:=true}.bare pt st))):=fun wB r=>by
  have glA:=gl.frame rA.2.1 lo;have loA:Low (Grow F w (w.setCell ⟨R,22,none⟩ (.bool true))):=lo.grow gl.size;have pA:=rA.part h.lt Gp;have pB:=r.part rA.1.lt pA;refine(Ac r.1 pB hl (glA.frame r.2.1 loA) (loA.grow glA.size) hn jO).mono ?_;intro e w' hE;exact jc.after (rA.2.1.trans r.2.1) (fun k hk=>(Grow.trans rA.2.1.size r.2.1.size k).1 hk) hE
 have HA:=a_ SR;clear h Gp hl gl lo SR jO hn rA;generalize tells (reads {s with closed:=true,ended:=true}.bare pt st)=x at*
 go_enter func26,ntmps26;go_wp2_with(first|(go_at_call 52;refine hend.mono ?_;rintro e w1 ⟨rfl,r1⟩)|(go_at_call 51;refine(HA.out _ r1).mono ?_;rintro e w2 ⟨v,A,F',rfl,rest⟩;obtain⟨IW,hz⟩:=jc.zero (F:=F) (R:=R) (w:=w) (x:=x) ⟨v,A,F',rfl,rest⟩;have HZ:=a_ hz;clear hz rest)|(refine wpList_store_mid rfl 133 (.tmp 27) (.tmp 25) rfl R 0 jx rfl rfl IW Mb SQ ?_));go_ret;exact HZ.out
end
def PR.write(r:PR)(b:ByteArray):PR×List Tok:=
 if r.s.closed=true\/r.s.no≠0 then(r,[])
 else match r.pt with
  |some pt=>tells (reads {r.s with rest:=r.s.rest++b}.bare pt r.st)
  |none=>(r,[])
def PR.close(r:PR):PR×List Tok:=
 if r.s.closed=true then(r,[])
 else if r.s.no≠0 then(⟨{r.s with closed:=true},r.pt,r.st⟩,[])
 else match r.pt with
  |some pt=>shut (tells (reads {r.s with closed:=true,ended:=true}.bare pt r.st))
  |none=>(r,[])
def PR.err(r:PR):Int×Int:=if r.s.closed=true then(r.s.no,r.s.yg)else(0,0)
def PR.new:PR:=⟨Src.zero 0 0 false,some (.plain .between),St.zero⟩
structure Good(r:PR)(N:Nat):Prop where
 live:r.s.closed=false->r.s.no=0->∃pt n,r.pt=some pt/\ue n pt r.st/\n+r.s.rest.size<=N/\0<=r.s.next/\r.s.next+r.s.rest.size<=(N:Int)/\r.s.ended=false/\r.st.told=[]/\r.s.bare=r.s/\r.s.more=true
 shut:r.s.closed=false->r.s.no≠0->r.pt=none
theorem GX(n:Nat):ue n (.plain .between) St.zero:=
 ⟨fun _ _=>ax _,ax _,ax _,ax _,ax _,by decide,trivial⟩
theorem pR:Good PR.new 0:=
 ⟨fun _ _=>⟨_,0,rfl,GX 0,ah _,by decide,by decide,rfl,rfl,rfl,by decide⟩,fun _ h=>absurd rfl h⟩
def St.pre(T:List Tok)(st:St):St:={st with told:=T++st.told}
def Out.pre(T:List Tok)(o:Out):Out:=⟨o.st.pre T,o.res⟩
theorem yF(T:List Tok)(st:St)(i:Rn)(c q:Int):(st.pre T).put i c q=(st.put i c q).pre T:=rfl
theorem Ot(T:List Tok)(st:St)(i:Rn):(st.pre T).clear i=(st.clear i).pre T:=rfl
theorem qq(T:List Tok)(st:St):(st.pre T).eK=st.eK.pre T:=by
 unfold St.eK;have e:(st.pre T).run=st.run:=rfl;rw[e];split
 ·rfl
 ·simp[St.pre,St.clear,St.eH]
theorem ym(T:List Tok)(st:St):(st.pre T).fo=st.fo.pre T:=by
 unfold St.fo;rw[qq];simp[St.pre]
theorem yn(T:List Tok)(st:St):(st.pre T).gv=st.gv.pre T:=by
 unfold St.gv;rw[qq];simp[St.pre]
theorem GY(T:List Tok)(k:Pl)(q:Int)(st:St)(c:Int):step k q (st.pre T) c=(step k q st c).pre T:=by cases k<;>simp only[step,jS,gh,kq,iL,jg,fY,fZ,yF,Ot,qq,ym,yn,St.addAttr]<;>(repeat' split)<;>first|rfl|(simp_all[St.pre];done)
theorem GZ(T:List Tok)(i:Rn)(t:ByteArray)(q:Int):∀f pos st,gB i t q f pos (st.pre T)=(gB i t q f pos st).pre T:=by
 intro f;induction f with
 |zero=>intro pos st;rfl
 |succ f ih=>
  intro pos st;unfold gB;split
  ·rw[yF];exact ih _ _
  ·rfl
theorem En(T:List Tok)(pt:Part)(q:Int)(st:St)(c:Int):d_ pt q (st.pre T) c=(d_ pt q st c).pre T:=by
 cases pt with
 |plain k=>exact GY T k q st c
 |word l k=>
  cases l with
  |nil=>rfl
  |cons x l=>
   simp only[d_,mv]
   repeat' split
   all_goals rfl
 |name i k=>
  simp only[d_,stName,gh,yF,GY];have e:(st.pre T).run=st.run:=rfl;rw[e]
  repeat' split
  all_goals rfl
 |ref i k=>
  simp only[d_,oY,yF];split
  ·split
   ·unfold jX;have e:((st.put .ref 59 q).pre T).run=(st.put .ref 59 q).run:=rfl;have e2:((st.put .ref 59 q).pre T).fD=(st.put .ref 59 q).fD:=rfl;rw[e,e2];split
    ·unfold St.pj;rw[GZ];rfl
    ·rfl
   ·rfl
  ·rfl
theorem SX(T:List Tok):∀(n:Nat) (s:Src) (pt:Part) (st:St),mz n s pt (st.pre T)={mz n s pt st with st:=(mz n s pt st).st.pre T}:=by
 intro n;induction n with
 |zero=>intro s pt st;rfl
 |succ n ih=>
  intro s pt st;simp only[mz,En];split
  ·rfl
  ·have e:((d_ pt s.took.1.at_ st s.took.2).pre T).res=(d_ pt s.took.1.at_ st s.took.2).res:=rfl;rw[e];cases (d_ pt s.took.1.at_ st s.took.2).res with
   |go j_=>exact ih _ _ _
   |stop=>rfl
   |fail no q=>rfl
theorem SY(s:Src)(b:ByteArray)(h:s.more=false)(he:s.ended=false):({s with rest:=s.rest++b}:Src).more=false/\({s with rest:=s.rest++b}:Src).took=({s.took.1 with rest:=s.took.1.rest++b},s.took.2):=by
 simp only[Src.more,he,ei,cN,Bool.not_eq_false']at h;obtain⟨h1,h2⟩:=SD s.rest b h;have h0:0<s.rest.size:=by
  by_cases e:s.rest.size=0
  ·simp[Tk.full,e]at h
  ·omega
 have hsz:(s.rest++b).size=s.rest.size+b.size:=cA;have hw:=Ch.fk s.rest 0 h0;refine⟨by simp[Src.more,he,h1],?_⟩;have jO:Ch.gY (s.rest++b) 0=Ch.gY s.rest 0:=by unfold Ch.gY;rw[h2]
 have e1:¬(s.rest++b).size=0:=by omega
 have e2:¬s.rest.size=0:=by omega
 simp only[Src.took,e1,e2,bf,jO,h2];split
 ·have hx:(s.rest++b).extract (Utf8.decode s.rest 0).2 (s.rest++b).size=s.rest.extract (Utf8.decode s.rest 0).2 s.rest.size++b:=by
   rw[hsz];apply cM;apply Array.ext';simp only[ByteArray.data_extract,dx,Array.toList_extract,Array.toList_append,List.extract_eq_take_drop];rw[List.drop_append_of_le_length (by show (Utf8.decode s.rest 0).2<=s.rest.data.toList.length;simpa using hw.1)];rw[bM (by simp;have:s.rest.data.size=s.rest.size:=rfl;have:b.data.size=b.size:=rfl;omega),bM (by simp)]
  rw[hx]
 ·rfl
structure Ends(c:Int)(o:Out):Prop where
 stop:o.res=.stop->c= -1
 fail:∀no q,o.res=.fail no q->no≠0
theorem aae(c:Int):Tk.why c≠0:=by unfold Tk.why;split<;>omega
theorem Ends.go{c:Int}{st:St}{pt:Part}:Ends c ⟨st,.go pt⟩:=⟨fun e=>(by cases e),fun _ _ e=>(by cases e)⟩
theorem Ends.why{c:Int}{st:St}{q:Int}:Ends c ⟨st,.fail (Tk.why c) q⟩:=⟨fun e=>(by cases e),fun _ _ e=>(by cases e;exact aae c)⟩
theorem Ends.num{c:Int}{st:St}{no q:Int}(h:no≠0):Ends c ⟨st,.fail no q⟩:=⟨fun e=>(by cases e),fun _ _ e=>(by cases e;exact h)⟩
theorem Cr(k:Pl)(q:Int)(st:St)(c:Int):Ends c (step k q st c):=by cases k<;>simp only[step,jS,gh,kq,iL,jg,fY,fZ]<;>(repeat' split)<;>first|exact .go|exact .why|exact .num (by decide)|exact⟨fun _=>(by assumption),fun _ _ e=>(by cases e)⟩
theorem uh(pt:Part)(q:Int)(st:St)(c:Int):Ends c (d_ pt q st c):=by
 cases pt with
 |plain k=>exact Cr k q st c
 |word l k=>
  cases l with
  |nil=>exact .go
  |cons x l=>
   simp only[d_,mv]
   repeat' split
   all_goals first|exact .go|exact .why
 |name i k=>
  simp only[d_,stName,gh]
  repeat' split
  all_goals first|exact .go|exact .why|exact Cr k q st c
 |ref i k=>
  simp only[d_,oY];split
  ·split
   ·unfold jX;split
    ·exact .go
    ·exact .num (by decide)
   ·exact .go
  ·exact .num (by decide)
theorem pU{s:Src}{pt:Part}{st:St}{n:Nat}(hl:ue n pt st)(h:s.more=false):
  reads s pt st=match (d_ pt s.next st s.took.2).res with
   | .go j_=>reads s.took.1 j_ (d_ pt s.next st s.took.2).st
   | .stop=>⟨s.took.1,pt,(d_ pt s.next st s.took.2).st,.over⟩
   | .fail no q=>⟨s.took.1,pt,(d_ pt s.next st s.took.2).st,.fail no q⟩:=by
 have ha:s.took.1.at_=s.next:=yE s
 conv=>lhs;unfold reads
 simp only[mz,h,aA,bf,ha];generalize he:(d_ pt s.next st s.took.2).res=r;cases r with
 |go j_=>
  have hk:=mB hl.sound hl.quote he;exact Cp (s.took.1.rest.size+1) s.rest.size (n+1) s.took.1 _ _ (hl.step he) (Nat.lt_succ_self _) (by omega)
 |stop=>rfl
 |fail no q=>rfl
theorem Ad{s:Src}{pt:Part}{st:St}(h:s.more=true):reads s pt st=⟨s,pt,st,.more⟩:=by unfold reads mz;rw[if_pos h]
structure acQ(s:Src)(k:Nat)(m:Rd):Prop where
 lim:∃n,ue n m.pt m.st/\n+m.s.rest.size<=k+s.rest.size
 next:m.s.next+m.s.rest.size=s.next+s.rest.size
 lo:s.next<=m.s.next
 more:m.s.more=true
 ended:m.s.ended=s.ended
 no:m.s.no=s.no
 yg:m.s.yg=s.yg
 closed:m.s.closed=s.closed
 now:m.s.now=s.now
structure Cut(s:Src)(k:Nat)(b:ByteArray)(m m2:Rd)(g:Src->Part->St->Rd):Prop where
 more:m.ret=.more->m2=g {m.s with rest:=m.s.rest++b} m.pt m.st/\acQ s k m
 over:m.ret≠ .over
 fail:∀no q,m.ret=.fail no q->no≠0/\tells m2=tells m/\m.s.closed=s.closed
theorem Ou(s:Src)(h0:s.rest.size≠0)(jO:Ch.gY s.rest 0=true):s.took.1.next+s.took.1.rest.size=s.next+s.rest.size/\s.next<=s.took.1.next/\s.took.1.ended=s.ended/\s.took.1.no=s.no/\s.took.1.yg=s.yg/\s.took.1.closed=s.closed/\s.took.1.now=s.now:=by
 have hw:=Ch.fk s.rest 0 (by omega);simp only[Src.took,h0,jO,bf,if_true,cw,and_true];omega
theorem oK(s:Src):s.took.1.ended=s.ended/\s.took.1.no=s.no/\s.took.1.yg=s.yg/\s.took.1.closed=s.closed/\s.took.1.now=s.now:=by
 unfold Src.took;repeat' split
 all_goals exact⟨rfl,rfl,rfl,rfl,rfl⟩
theorem Ct(b:ByteArray):∀(n:Nat) (s:Src) (pt:Part) (st:St) (k:Nat),s.rest.size<n->ue k pt st->s.ended=false->Cut s k b (reads s pt st) (reads {s with rest:=s.rest++b} pt st) reads:=by
 intro n;induction n with
 |zero=>intro s pt st k h;omega
 |succ n ih=>
  intro s pt st k hn hl he;by_cases hm:s.more=true
  ·rw[Ad hm];exact⟨fun _=>⟨rfl,⟨⟨k,hl,ah _⟩,rfl,Int.le_refl _,hm,rfl,rfl,rfl,rfl,rfl⟩⟩,by simp,fun _ _ e=>(by cases e)⟩
  ·have tD:s.more=false:=by simpa using hm
   obtain⟨ha1,ha2⟩:=SY s b tD he;rw[pU hl tD,pU (s:={s with rest:=s.rest++b}) hl ha1,ha2];have G0:=uh pt s.next st s.took.2;have AX:=oK s;generalize hr:(d_ pt s.next st s.took.2).res=r;cases r with
   |go j_=>
    have hk:=mB hl.sound hl.quote hr;have hs:=Ou s hk.2.1 hk.2.2;have c:=ih s.took.1 j_ (d_ pt s.next st s.took.2).st (k+1) (by omega) (hl.step hr) (AX.1.trans he);refine⟨fun e=>?_,c.over,fun no q e=>⟨(c.fail no q e).1,(c.fail no q e).2.1,(c.fail no q e).2.2.trans AX.2.2.2.1⟩⟩;obtain⟨c1,c2⟩:=c.more e;refine⟨c1,⟨?_,c2.next.trans hs.1,Int.le_trans hs.2.1 c2.lo,c2.more,c2.ended.trans AX.1,c2.no.trans AX.2.1,c2.yg.trans AX.2.2.1,c2.closed.trans AX.2.2.2.1,c2.now.trans AX.2.2.2.2⟩⟩;obtain⟨x,x1,x2⟩:=c2.lim;refine⟨x,x1,?_⟩;show x+(reads s.took.1 j_ (d_ pt s.next st s.took.2).st).s.rest.size<=k+s.rest.size;omega
   |stop=>
    exfalso;have h1:=G0.stop hr;have h0:s.rest.size≠0:=by
     intro e;simp[Src.more,he,Tk.full,e]at tD
    have hlg:=GK s;rw[h1]at hlg;unfold Src.took at h1;rw[if_neg h0]at h1;split at h1
    ·simp only at h1;omega
    ·simp only at h1;omega
   |fail no q=>
    refine⟨fun e=>(by cases e),by simp,fun no' q' e=>?_⟩;cases e;exact⟨G0.fail _ _ hr,rfl,AX.2.2.2.1⟩
section
variable{F F' G:Nat->Prop}{R:Nat}{w w' w'' wr w1:World}{s s':Src}{p:jt}{st:St}{c:Int}{a:Addr}{pt:Part}{v:Value}{m:Rd}{N n:Nat}{r:PR}
theorem ue.abq(h:ue n pt st):ue n pt {st with told:=[]}:=⟨h.run,h.ref,ax _,h.b_,h.names,h.quote,h.sound⟩
theorem WM(h:s.now=.nilFunc):s.bare=s:=by cases s;cases h;rfl
theorem pq(hc:r.s.closed=false)(hn:r.s.no=0)(hp:r.pt=some pt)(b:ByteArray):r.write b=tells (reads {r.s with rest:=r.s.rest++b}.bare pt r.st):=by unfold PR.write;rw[if_neg (by simp[hc,hn]),hp]
theorem pu(h:r.s.closed=true\/r.s.no≠0)(b:ByteArray):r.write b=(r,[]):=by unfold PR.write;rw[if_pos h]
theorem Good.cut(hg:Good r N)(hc:r.s.closed=false)(hn:r.s.no=0)(b b2:ByteArray):∃pt k,r.pt=some pt/\k+(r.s.rest++b).size<=N+b.size/\0<=r.s.next/\r.s.next+((r.s.rest++b).size:Int)<=(N+b.size:Nat)/\r.s.ended=false/\r.s.now=.nilFunc/\ue k pt r.st/\
  Cut ({r.s with rest:=r.s.rest++b}:Src).bare k b2 (reads ({r.s with rest:=r.s.rest++b}:Src).bare pt r.st) (reads { ({r.s with rest:=r.s.rest++b}:Src).bare with rest:=({r.s with rest:=r.s.rest++b}:Src).bare.rest++b2} pt r.st) reads:=by
 obtain⟨pt,k,h1,h2,h3,h4,h5,h6,h7,h8,h9⟩:=hg.live hc hn;have hsz:(r.s.rest++b).size=r.s.rest.size+b.size:=cA;refine⟨pt,k,h1,by omega,h4,by omega,h6,?_,h2,Ct b2 _ _ pt r.st k (Nat.lt_succ_self _) h2 h6⟩;have:=aC Src.now h8;exact this.symm
theorem Ae(hg:Good r N)(b:ByteArray):Good (r.write b).1 (N+b.size):=by
 by_cases hd:r.s.closed=true\/r.s.no≠0
 ·rw[pu hd];refine⟨fun h1 h2=>?_,hg.shut⟩;rcases hd with h|h
  ·simp only at h1;rw[h]at h1;cases h1
  ·exact absurd h2 h
 ·have hc:r.s.closed=false:=by simpa using(not_or.1 hd).1
  have hn:r.s.no=0:=by simpa using(not_or.1 hd).2
  obtain⟨pt,k,h1,h2,h3,h4,h5,h6,h7,hcut⟩:=hg.cut hc hn b ⟨#[]⟩;rw[pq hc hn h1];generalize hs:({r.s with rest:=r.s.rest++b}:Src).bare=s1 at*
  have e1:s1.rest=r.s.rest++b:=by rw[<-hs];rfl
  have e2:s1.next=r.s.next:=by rw[<-hs];rfl
  have e3:s1.ended=false:=by rw[<-hs];exact h5
  have e4:s1.no=0:=by rw[<-hs];exact hn
  have e5:s1.closed=false:=by rw[<-hs];exact hc
  have e6:s1.now=.nilFunc:=by rw[<-hs];rfl
  generalize reads s1 pt r.st=m at*
  unfold tells;cases hr:m.ret with
  |more=>
   obtain⟨_,sy⟩:=hcut.more hr;obtain⟨x,x1,x2⟩:=sy.lim;refine⟨fun _ _=>⟨m.pt,x,rfl,x1.abq,?_,?_,?_,sy.ended.trans e3,rfl,WM (sy.now.trans e6),sy.more⟩,fun _ h=>absurd (sy.no.trans e4) h⟩
   ·show x+m.s.rest.size<=_;rw[e1]at x2;omega
   ·show 0<=m.s.next;have:=sy.lo;omega
   ·show m.s.next+(m.s.rest.size:Int)<=_;have:=sy.next;rw[e1,e2]at this;omega
  |over=>exact absurd hr hcut.over
  |fail no q=>
   have:=hcut.fail no q hr;exact⟨fun _ h=>absurd h this.1,fun _ _=>rfl⟩
end
section
variable{F F' G:Nat->Prop}{R:Nat}{w w' w'' wr w1:World}{s s':Src}{p:jt}{st:St}{c:Int}{a:Addr}{pt:Part}{v:Value}{m:Rd}{N n:Nat}{r:PR}
theorem G1(U5:rP F R w r)(hg:Good r N)(gl:Gl w a)(lo:Low F)(b:ByteArray)(hN:N+b.size<=274877906944):
  Z4 25 #[Z8 R,.string b] w (jc F R w (r.write b)):=by
 obtain⟨vn,p,rep,hx⟩:=U5;by_cases hd:r.s.closed=true\/r.s.no≠0
 ·rw[pu hd];refine(Ki rep b hd).mono ?_;rintro e w' ⟨rfl,rfl⟩;exact GU r ⟨vn,p,rep,hx⟩
 ·have hc:r.s.closed=false:=by simpa using(not_or.1 hd).1
  have hn:r.s.no=0:=by simpa using(not_or.1 hd).2
  obtain⟨pt,k,h1,h2,h3,h4,h5,h6,h7,h8,h9⟩:=hg.live hc hn;rw[pq hc hn h1];rw[h1]at hx;exact Kh (n:=k) rep hx h2 gl lo b (by show k+(r.s.rest.size+b.size)<=_;omega) ⟨h4,by show r.s.next+((r.s.rest.size+b.size:Nat):Int)<=_;omega⟩ hc hn
theorem G2(U5:rP F R w r)(hg:Good r N)(gl:Gl w a)(lo:Low F)(hN:N<=274877906944):
  Z4 26 #[Z8 R] w (jc F R w r.close):=by
 obtain⟨vn,p,rep,hx⟩:=U5;unfold PR.close;by_cases hc:r.s.closed=true
 ·rw[if_pos hc];refine(Kj rep hc).mono ?_;rintro e w' ⟨rfl,rfl⟩;exact GU r ⟨vn,p,rep,hx⟩
 ·have hc':r.s.closed=false:=by simpa using hc
  rw[if_neg hc];by_cases hn:r.s.no≠0
  ·rw[if_pos hn];have hp:=hg.shut hc' hn;rw[hp]at hx;refine(GV rep hc' hn).mono ?_;rintro e w' ⟨rfl,rf⟩;refine⟨fO,fun _=>False,Grow F w w',rfl,⟨[],la _ _ _,.nil,fun k e=>absurd e (iE k)⟩,⟨vn,p,rf.1,?_⟩,rf.2.1,fun k hk=>hk.elim,fun k hk=>hk⟩;rw[hp];exact hx
  ·have hn':r.s.no=0:=by simpa using hn
   rw[if_neg hn];obtain⟨pt,k,h1,h2,h3,h4,h5,h6,h7,h8,h9⟩:=hg.live hc' hn';rw[h1]at hx ⊢;exact Kk (s:={r.s with now:=vn}) (n:=k) rep hx h2 gl lo (by show k+r.s.rest.size<=_;omega) ⟨h4,by show r.s.next+(r.s.rest.size:Int)<=_;omega⟩ hc' hn'
theorem SZ(U5:rP F R w r):Z4 28 #[Z8 R] w (Z7 (.tuple #[.int .i64 r.err.1,.int .i64 r.err.2]) w):=by
 obtain⟨vn,p,rep,hx⟩:=U5;unfold PR.err;by_cases hc:r.s.closed=true
 ·rw[if_pos hc];exact SU (s:={r.s with now:=vn}) rep hc
 ·rw[if_neg hc];refine(SS rep (by simpa using hc)).mono ?_;rintro e w' ⟨rfl,rfl⟩;exact⟨rfl,Below.refl _ _⟩
theorem rP.keep(h:rP F R w r)(hk:∀k,F k->w'.heap[k]?=w.heap[k]?)(hs:w.heap.size<=w'.heap.size):rP F R w' r:=by
 obtain⟨vn,p,rep,hx⟩:=h;refine⟨vn,p,⟨(hk R rep.j5).trans rep.blk,rep.j5,fun k hf=>ak (rep.lt k hf) hs,rep.own.frame (fun k hf _=>hk k hf) (fun _ x=>x)⟩,?_⟩;cases hp:r.pt with
 |none=>rw[hp]at hx;exact hx
 |some pt=>
  rw[hp]at hx;exact hx.keep (fun k hf _=>hk k hf) (fun _ x=>x)
def lg:Array Value:=cellsOf {Src.zero 0 0 false with now:=Pl.val .between} jt.zero St.zero
theorem Dw(w:World):Z4 24 #[] w fun e w'=>e=.returned (.pointer (some ⟨w.heap.size,0,none⟩))/\w'=w.alloc (.cells lg 137):=by
 go_enter func24,ntmps24;go_wp2;go_ret;exact⟨rfl,rfl⟩
theorem Cu(w:World):rP (fun k=>k=w.heap.size) w.heap.size (w.alloc (.cells lg 137)) PR.new:=
 ⟨Pl.val .between,jt.zero,⟨eL _ _,rfl,fun k hk=>by rw[hk];simp,Own.zero _ _ _⟩,rfl⟩
end
section
variable{F F' G A B:Nat->Prop}{R:Nat}{w w' w'' wr w1:World}{s s':Src}{p:jt}{st:St}{c:Int}{a:Addr}{pt:Part}{v:Value}{m:Rd}{N n:Nat}{r:PR}{l:List Tok}
theorem Ov(pt:Part)(q:Int)(st:St)(c:Int):(d_ pt q st c).st.told.length<=st.told.length+4:=by
 cases pt with
 |plain k=>exact(sU k q st c).told
 |word l k=>
  cases l with
  |nil=>exact cF _ _
  |cons x l=>exact(rO x l k q st c).told
 |name i k=>exact(rN i k q st c).told
 |ref i k=>
  simp only[d_,oY];split
  ·split
   ·unfold jX;split
    ·show (gB _ _ _ _ _ _).told.length<=_;rw[(vN _ _ _ _ _ _).1];exact cF _ _
    ·exact cF _ _
   ·exact cF _ _
  ·exact cF _ _
theorem Cv:∀(n:Nat) (s:Src) (pt:Part) (st:St),(mz n s pt st).st.told.length<=st.told.length+4*n:=by
 intro n;induction n with
 |zero=>intro s pt st;exact ah _
 |succ n ih=>
  intro s pt st;have h:=Ov pt s.took.1.at_ st s.took.2;simp only[mz];split
  ·show st.told.length<=_;omega
  ·split
   ·rename_i j_ e;have:=ih s.took.1 j_ (d_ pt s.took.1.at_ st s.took.2).st;omega
   ·show (d_ pt s.took.1.at_ st s.took.2).st.told.length<=_;omega
   ·show (d_ pt s.took.1.at_ st s.took.2).st.told.length<=_;omega
theorem Af(m:Rd):(tells m).2=m.st.told:=by unfold tells;cases m.ret<;>rfl
theorem Ag(hg:Good r N)(b:ByteArray):(r.write b).2.length<=4*(N+b.size)+4:=by
 by_cases hd:r.s.closed=true\/r.s.no≠0
 ·rw[pu hd];exact ax _
 ·have hc:r.s.closed=false:=by simpa using(not_or.1 hd).1
  have hn:r.s.no=0:=by simpa using(not_or.1 hd).2
  obtain⟨pt,k,h1,h2,h3,h4,h5,h6,h7,h8,h9⟩:=hg.live hc hn;rw[pq hc hn h1,Af];have hsz:(r.s.rest++b).size=r.s.rest.size+b.size:=cA;have:=Cv ((r.s.rest++b).size+1) {r.s with rest:=r.s.rest++b}.bare pt r.st;rw[h7]at this;simp only[aq]at this;exact ar this (by omega)
theorem Ah(hg:Good r N):r.close.2.length<=4*N+4:=by
 unfold PR.close;split
 ·exact ax _
 ·rename_i hc;split
  ·exact ax _
  ·rename_i hn;obtain⟨pt,k,h1,h2,h3,h4,h5,h6,h7,h8,h9⟩:=hg.live (by simpa using hc) (by simpa using hn);rw[h1];show (shut (tells (reads {r.s with closed:=true,ended:=true}.bare pt r.st))).2.length<=_;unfold shut;rw[Af];have:=Cv (r.s.rest.size+1) {r.s with closed:=true,ended:=true}.bare pt r.st;rw[h7]at this;simp only[aq]at this;exact ar this (by omega)
theorem nh.one{cs:List Value}{av:Value}(h:nh A R w av l cs):∀u∈cs,u.oneCell'=true:=by
 induction h with
 |nil=>intro u hu;cases hu
 |cons t v l cs ho hf hl ih=>
  intro u hu;rw[List.mem_append]at hu;rcases hu with hu|hu
  ·simp only[fq,cE,cn,cK]at hu;rcases hu with rfl|rfl|rfl|rfl|rfl
   ·rfl
   ·rfl
   ·rcases ho.2 with⟨rfl,_⟩|⟨g,cap,cur,rfl,_⟩
    ·rfl
    ·rfl
   ·rfl
   ·rfl
  ·exact ih u hu
theorem WQ(b:Option Addr)(n c:Nat)(hn:n<=c)(w:World):(Builtin.append_ #[45,45] 45 #[.slice b n c,.slice none 0 0]).run prog w=.ok (.slice b n c) w:=by cases b<;>simp[Builtin.append_,underlying,underlying45,sizeOf56,Builtin.lenOf,Builtin.firstCells,hn,storeCells,Result.andThen]
end
section
variable{F F' G A B:Nat->Prop}{R:Nat}{w w' w'' wr w1:World}{s s':Src}{p:jt}{st:St}{c:Int}{a:Addr}{pt:Part}{v v1 v2:Value}{m:Rd}{N n:Nat}{r:PR}{l l1 l2:List Tok}
theorem eO{k:Nat}{o:Obj}(h:w.heap[k]?=some o):k<w.heap.size:=(Array.getElem?_eq_some_iff.1 h).1
theorem xa.old(h:xa A w v l)(hk:∀k,k<w.heap.size->A k->w'.heap[k]?=w.heap[k]?)(hA:∀k,k<w.heap.size->A k->B k):xa B w' v l:=by
 obtain⟨cs,h1,h2,h3⟩:=h;refine⟨cs,eI h1 fun k e=>?_,h2.frame fun k n xs v ho hv a b c=>?_,fun k e=>?_⟩
 ·obtain⟨cur,hc⟩:=fX h1 e;exact hk k (eO hc) (h3 k e)
 ·obtain⟨cur,hc⟩:=fX ho hv;exact⟨hk k (eO hc) a,hA k (eO hc) a,c⟩
 ·obtain⟨cur,hc⟩:=fX h1 e;exact hA k (eO hc) (h3 k e)
theorem Kl(h1:xa A w v1 l1)(h2:xa B w v2 l2)(hb:l1.length+l2.length<=68719476736):
  ∃v' w',(Builtin.append_ #[45,45] 45 #[v1,v2]).run prog w=.ok v' w'/\xa (fun k=>A k\/B k\/k=w.heap.size) w' v' (l1++l2)/\w.grownBy w' v1.ownBlock:=by
 obtain⟨cs1,o1,t1,a1⟩:=h1;obtain⟨IC,o2,t2,a2⟩:=h2;have o2':=o2;rcases o2'.2 with⟨rfl,hn⟩|⟨g,cap,cur,rfl,EV,hg,hc,hm,hcs,sq⟩
 ·have hl:l2=[]:=aR hn;subst hl;have hv:∃b n c,v1=.slice b n c/\n<=c:=by
   rcases o1.2 with⟨rfl,hn⟩|⟨g,cap,cur,rfl,EV,hg,hc,hm,hcs,sq⟩
   ·exact⟨none,0,0,rfl,ah _⟩
   ·exact⟨_,_,_,rfl,hc⟩
  obtain⟨b,n,c,rfl,wJ⟩:=hv;refine⟨_,w,WQ b n c wJ w,?_,⟨rfl,rfl,rfl,ah _,fun _ _ _=>rfl⟩⟩;rw[aO];exact xa.old ⟨cs1,o1,t1,a1⟩ (fun _ _ _=>rfl) (fun _ _ x=>Or.inl x)
 ·obtain⟨i0,hi,hz0,hz1,hz2⟩:=bk DT;have hcell:∀j u,IC[j]?=some u->w.cell? ((⟨g,0,none⟩:Addr).add j)=some u:=by
   intro j u hj;rw[Addr.add_mid,ay];refine cell_of hg ?_;rw[<-sq,bT]at hj;split at hj
   ·simpa using hj
   ·cases hj
  obtain⟨v',w',hr,ho,hgr,_,hat⟩:=dm (P:=prog) w 0 45 45 56 i0 _ 5 72 underlying45 hi hz0 hz1 hz2 rfl (by decide) v1 l1.length cs1 o1 ⟨g,0,none⟩ l2.length cap IC o2.1 hcell t2.one (by unfold maxLen;omega) (by omega) (ax _);refine⟨v',w',hr,⟨cs1++IC,?_,?_,?_⟩,hgr⟩
  ·rw[ae];exact ho
  ·have keep:∀{D:Nat->Prop} {l:List Tok} {cs:List Value},nh D 0 w fO l cs->(∀k,D k->(A k\/B k\/k=w.heap.size))->nh (fun k=>A k\/B k\/k=w.heap.size) 0 w' fO l cs:=by
    intro D l cs h hD;refine h.frame fun k n xs v PZ hv a b c=>⟨?_,hD k a,c⟩
    obtain⟨cur',hc'⟩:=fX PZ hv;refine hgr.block k (eO hc') (fun e=>?_);obtain⟨adJ,hc1⟩:=fX o1 e.symm;rw[hc']at hc1;simp only[aJ,cY]at hc1;exact absurd hc1.2.1 (by decide)
   exact(keep t1 (fun _ x=>Or.inl x)).app (keep t2 (fun _ x=>Or.inr (Or.inl x)))
  ·intro k e;rcases hat with h|h
   ·exact Or.inl (a1 k (h▸e))
   ·rw[e]at h;simp only[aJ]at h;exact Or.inr (Or.inr h)
def Eo(b:ByteArray):List Tok×Int×Int:=
 if(PR.new.write b).1.close.1.err.1≠0 then([],(PR.new.write b).1.close.1.err.1,(PR.new.write b).1.close.1.err.2)
 else((PR.new.write b).2++(PR.new.write b).1.close.2,0,0)
end
section
variable{F F' G A B:Nat->Prop}{R:Nat}{w w' w'' wr w1:World}{s s':Src}{p:jt}{st:St}{c:Int}{a:Addr}{pt:Part}{v v1 v2:Value}{m:Rd}{N n:Nat}{r:PR}{l l1 l2:List Tok}
theorem Frame.up{K:Nat}(fr:Frame F w w')(hF:∀k,F k->K<=k)(hK:K<=w.heap.size):Below K w w':=
 ⟨fr.os,fr.tape,fr.output,fr.size,fun k hk=>fr.block k (by omega) (fun x=>by have:=hF k x;omega)⟩
theorem S0{K:Nat}{row:Option Nat}(g:w.grownBy w' row)(hr:∀k,row=some k->K<=k)(hK:K<=w.heap.size):Below K w w':=
 ⟨g.os,g.tape,g.output,g.size,fun k hk=>g.block k (by omega) (fun e=>by have:=hr k e.symm;omega)⟩
theorem fE{K K':Nat}(h:Below K w w')(hK:K'<=K):Below K' w w':=⟨h.os,h.tape,h.output,h.size,fun k hk=>h.block k (by omega)⟩
def AllEnd(w:World)(x:List Tok×Int×Int)(e:Ending)(w':World):Prop:=
 ∃(v:Value) (A:Nat->Prop),e=.returned (.tuple #[v,.int .i64 x.2.1,.int .i64 x.2.2])/\xa A w' v x.1/\Z5 w w'/\(∀k,A k->w.heap.size<=k)/\(x.2.1≠0->v=fO)
theorem G3{x y:PR×List Tok}{F1 F2 A1 A2:Nat->Prop}{K:Nat}{w2 w3:World}(hK:K<=w2.heap.size)(an1:xa A1 w2 v1 x.2)(hA1:∀k,A1 k->K<=k/\k<w2.heap.size/\¬F1 k)(WT:∀k,F1 k->K<=k)
  (an2:xa A2 w3 v2 y.2) (al2:rP F2 R w3 y.1) (tO:Frame F1 w2 w3) (g1:∀k,A2 k->Grow F1 w2 w3 k/\¬F2 k) (g2:∀k,F2 k->Grow F1 w2 w3 k) (hb:x.2.length+y.2.length<=68719476736):
  ∃v' w4 A,(Builtin.append_ #[45,45] 45 #[v1,v2]).run prog w3=.ok v' w4/\xa A w4 v' (x.2++y.2)/\rP F2 R w4 y.1/\Below K w2 w4/\(∀k,A k->K<=k/\¬F2 k)/\(∀k,F2 k->K<=k):=by
 have abr:xa A1 w3 v1 x.2:=an1.old (fun k hk hA=>tO.block k hk (hA1 k hA).2.2) (fun _ _ x=>x);obtain⟨v',w4,hrun,ID,gr⟩:=Kl abr an2 hb;have hz:=tO.size;have hF2:∀k,F2 k->K<=k:=fun k hk=>(g2 k hk).elim (WT k) (fun x=>by omega);have hr:∀k,v1.ownBlock=some k->A1 k:=fun k e=>by obtain⟨cs,_,_,h⟩:=abr;exact h k e
 have abt:∀k,A1 k->¬F2 k:=fun k hA hF=>(g2 k hF).elim (hA1 k hA).2.2 (fun x=>by have:=(hA1 k hA).2.1;omega);have hlt:∀k,F2 k->k<w3.heap.size:=fun k hk=>by obtain⟨_,_,rep,_⟩:=al2;exact rep.lt k hk
 refine⟨v',w4,fun k=>A1 k\/A2 k\/k=w3.heap.size,hrun,ID,al2.keep (fun k hk=>gr.block k (hlt k hk) (fun e=>abt k (hr k e.symm) hk)) gr.size,(tO.up WT hK).trans ((S0 gr (fun k e=>(hA1 k (hr k e)).1) (by omega))),?_,hF2⟩;rintro k (h|h|h)
 ·exact⟨(hA1 k h).1,abt k h⟩
 ·exact⟨(g1 k h).1.elim (WT k) (fun x=>by omega),(g1 k h).2⟩
 ·exact⟨by omega,fun x=>by have:=hlt k x;omega⟩
theorem G4(gl:Gl w a)(o:Obj):Gl (w.alloc o) a:=gl.frame (F:=fun _=>False) (Frame.below ((Below.refl _ _).alloc (ah _) _)) (fun _ _ x=>x)
theorem uG{ops:Array Oper}{rest:List Oper}{o:Oper}{a:Act}{w:World}{Q:Exit->Act->World->Prop}(hgd:o.guard=none)(s x:Operand)(ho:o.op=Op.call {callee:=Callee.builtin Builtin.append,args:=#[s,x],argTypes:=#[45,45]})(hty:o.type=45)
  (v1 v2:Value) (hs:a.eval s=v1) (hx:a.eval x=v2) {v':Value} {w':World} (hr:(Builtin.append_ #[45,45] 45 #[v1,v2]).run prog w=.ok v' w') (h:wpList prog ops Q rest (a.put o.dst v') w'):wpList prog ops Q (o::rest) a w:=by
 refine wpList_plain hgd fun K hK=>?_;unfold Oper.wp execOp;simp only[ho,hty,resolve,invoke,builtin,dW,Sem.run_pure,dL,dT,bB,bZ,hs,hx,hr];exact hK _ _ h
theorem S2{b:ByteArray}(h:((PR.new.write b).1.close.1.err.1 !=0)=true):Eo b=([],(PR.new.write b).1.close.1.err.1,(PR.new.write b).1.close.1.err.2):=by unfold Eo;rw[if_pos (by simpa using h)]
theorem WU{b:ByteArray}(h:((PR.new.write b).1.close.1.err.1 !=0)=false):Eo b=((PR.new.write b).2++(PR.new.write b).1.close.2,0,0):=by unfold Eo;rw[if_neg (by simpa using h)]
theorem aaf(b:ByteArray)(w:World)(gl:Gl w a)(hb:b.size<=2147483648):Z4 12 #[.string b] w (AllEnd w (Eo b)):=by
 have hsz:=gl.size;have GM:=G4 gl (.cells lg 137);have lo0:Low (fun k=>k=w.heap.size):=fun k hk e=>by omega
 have hw:=G1 (Cu w) pR GM lo0 b (by omega);have hg:=Ae pR b;have ht1:=Ag pR b;have ht2:=Ah hg;have A8:=Dw w;have hE:∀(e:Ending) (w2:World),jc (fun k=>k=w.heap.size) w.heap.size (w.alloc (.cells lg 137)) (PR.new.write b) e w2->∃v1,e=.returned v1/\
   Z4 26 #[.pointer (some ⟨w.heap.size,0,none⟩)] w2 fun e w3=>∃v2,e=.returned v2/\∃v' w4 A,(Builtin.append_ #[45,45] 45 #[v1,v2]).run prog w3=.ok v' w4/\xa A w4 v' ((PR.new.write b).2++(PR.new.write b).1.close.2)/\Z5 w w4/\(∀k,A k->w.heap.size<=k)/\Z4 28 #[.pointer (some ⟨w.heap.size,0,none⟩)] w4 (Z7 (.tuple #[.int .i64 (PR.new.write b).1.close.1.err.1,.int .i64 (PR.new.write b).1.close.1.err.2]) w4):=by
  rintro e w2 ⟨v1,A1,F1,rfl,an1,al1,vd,h1,h2⟩;have hz1:w.heap.size+1<=w2.heap.size:=by have:=vd.size;simp at this;omega
  have WT:∀k,F1 k->w.heap.size<=k:=fun k hk=>(h2 k hk).elim (fun e=>by omega) (fun x=>by have:=x.1;simp at this;omega);have SF:Low F1:=fun k hk x=>by have:=WT k x;omega
  refine⟨v1,rfl,(G2 al1 hg (GM.frame vd lo0) SF (by omega)).mono ?_⟩;rintro e w3 ⟨v2,A2,F2,rfl,an2,al2,tO,g1,g2⟩;obtain⟨v',w4,A,hrun,ID,al4,b4,hA,hF2⟩:=G3 (x:=PR.new.write b) (y:=(PR.new.write b).1.close) (K:=w.heap.size) (by omega) an1 (fun k hA=>⟨(h1 k hA).1.elim (fun e=>by omega) (fun x=>by have:=x.1;simp at this;omega),(h1 k hA).1.elim (fun e=>by omega) (fun x=>x.2),(h1 k hA).2⟩) WT an2 al2 tO g1 g2 (by omega);have b1:Z5 w (w.alloc (.cells lg 137)):=(Below.refl _ _).alloc (ah _) _;have b2:Below w.heap.size (w.alloc (.cells lg 137)) w2:=vd.up (fun k e=>by omega) (by simp);exact⟨v2,rfl,v',w4,A,hrun,ID,(b1.trans b2).trans b4,fun k hk=>(hA k hk).1,SZ al4⟩
 have HE:=a_ hE;clear hE gl GM lo0 hg ht1 ht2 hsz;cases nH:((PR.new.write b).1.close.1.err.1 !=0)
 ·rw[WU nH];generalize (PR.new.write b).1.close.1.err.1=Bn at*
  generalize (PR.new.write b).1.close.1.err.2=P9 at*
  go_enter func12,ntmps12;go_wp2_with(first|(go_at_call 24;refine A8.mono ?_;rintro e wn ⟨rfl,rfl⟩)|(go_at_call 25;refine hw.mono ?_;intro e w2 h2;obtain⟨v1,rfl,qQ⟩:=HE.out e w2 h2;clear h2)|(go_at_call 26;refine qQ.mono ?_;rintro e w3 ⟨v2,rfl,v',w4,A,hrun,ID,b4,hA,Ep⟩;have AN:=a_ ID;have B4:=a_ b4;have HA:=a_ hA;clear ID b4 hA)|(at_builtin;refine uG rfl (.tmp 12) (.tmp 14) rfl rfl _ _ rfl rfl hrun ?_)|(go_at_call 28;refine Ep.mono ?_;rintro e w5 ⟨rfl,b5⟩))
  go_ret3
  exact⟨v',A,rfl,AN.out.old (fun k hk _=>b5.block k hk) (fun _ _ x=>x),B4.out.trans (fE b5 B4.out.size),HA.out,fun h=>absurd rfl h⟩
 ·rw[S2 nH];generalize (PR.new.write b).1.close.1.err.1=Bn at*
  generalize (PR.new.write b).1.close.1.err.2=P9 at*
  go_enter func12,ntmps12;go_wp2_with(first|(go_at_call 24;refine A8.mono ?_;rintro e wn ⟨rfl,rfl⟩)|(go_at_call 25;refine hw.mono ?_;intro e w2 h2;obtain⟨v1,rfl,qQ⟩:=HE.out e w2 h2;clear h2)|(go_at_call 26;refine qQ.mono ?_;rintro e w3 ⟨v2,rfl,v',w4,A,hrun,ID,b4,hA,Ep⟩;have AN:=a_ ID;have B4:=a_ b4;have HA:=a_ hA;clear ID b4 hA)|(at_builtin;refine uG rfl (.tmp 12) (.tmp 14) rfl rfl _ _ rfl rfl hrun ?_)|(go_at_call 28;refine Ep.mono ?_;rintro e w5 ⟨rfl,b5⟩))
  go_ret3
  exact⟨fO,fun _=>False,rfl,⟨[],la _ _ _,.nil,fun k e=>absurd e (iE k)⟩,B4.out.trans (fE b5 B4.out.size),fun k hk=>hk.elim,fun _=>rfl⟩
end
section
variable{F F' G A B:Nat->Prop}{R:Nat}{w w' w'' wr w1:World}{a:Addr}{v v1 v2:Value}{N n:Nat}{l l1 l2:List Tok}
def nC(t:Tok)(v:Value):Value:=.agg #[.int .i64 t.kind,eZ t.name,v,eZ t.text,.int .i64 t.at_]
end
section
variable{g:St->List Tok}{s:ByteArray}{i:Nat}{pt j_:Part}{st iJ:St}{no q c:Int}{S:Src}
theorem Ai(h1:S.rest=s.extract i s.size)(hi:i<=s.size):S.took.2=cur s i/\(0<=cur s i->S.took.1.rest=s.extract (i+wid s i) s.size/\S.took.1.next=S.next+wid s i):=by
 have hz:S.rest.size=s.size-i:=by rw[h1];simp[cw]
 rw[Ch.kJ]at h1;have hc:=vG s i 0;rw[bH]at hc;unfold Src.took;by_cases h0:i<s.size
 ·have hw:=zR (s:=s) (k:=i) (j:=0) (by omega);rw[bH]at hw;rw[if_neg (by omega),h1];have hz':0<(Ch.tail s i).size:=by rw[Ch.jy];omega
  unfold cur at hc;rw[if_pos hz',if_pos h0]at hc;unfold cur;rw[if_pos h0];by_cases ho:Ch.gY (Ch.tail s i) 0=true
  ·rw[if_pos ho]at hc ⊢;refine⟨hc,fun _=>?_⟩;simp only;have hw':(Utf8.decode (Ch.tail s i) 0).2=wid s i:=hw;rw[hw'];refine⟨?_,rfl⟩;rw[Ch.kJ,Ch.Ns,<-Ch.kJ]
  ·rw[if_neg ho]at hc ⊢;refine⟨hc,fun h=>?_⟩;rw[<-hc]at h;omega
 ·rw[if_pos (by omega)];unfold cur;rw[if_neg h0];exact⟨rfl,fun h=>by omega⟩
theorem Bo{o:St}(h:d_ pt q st c=⟨o,.stop⟩):o=st.eK:=by
 have key:∀(k:Pl) (st:St),step k q st c=⟨o,.stop⟩->o=st.eK:=by
  intro k st h;have:=Cc h;subst this;simp only[step]at h
  repeat' split at h
  all_goals first|(cases h;done)|(cases h;rfl)
 cases pt with
 |plain k=>exact key k st h
 |word l k=>
  cases l with
  |nil=>simp only[d_]at h;cases h
  |cons x l=>
   simp only[d_,mv]at h
   repeat' split at h
   all_goals cases h
 |name i k=>
  simp only[d_,stName,gh]at h
  repeat' split at h
  all_goals first|(cases h;done)|exact key k st h
 |ref i k=>
  simp only[d_,oY]at h;split at h
  ·split at h
   ·unfold jX at h;split at h<;>cases h
   ·cases h
  ·cases h
theorem Aj(g:St->List Tok)(s:ByteArray):∀(n i:Nat) (S:Src) (pt:Part) (st:St) (k:Nat),s.size-i<n->i<=s.size->S.rest=s.extract i s.size->S.next=(i:Int)->S.ended=true->ue k pt st->
  (∃no q,(reads S pt st).ret=.fail no q/\runs g s i pt st=((reads S pt st).st.told,no,q))\/((reads S pt st).ret=.over/\∃iJ,runs g s i pt st=(g iJ,0,0)/\(reads S pt st).st=iJ.eK):=by
 intro n;induction n with
 |zero=>intro i S pt st k h;omega
 |succ n ih=>
  intro i S pt st k hn hi hr hx he hl;obtain⟨h1,h2⟩:=Ai hr hi;have hm:S.more=false:=by simp[Src.more,he]
  rw[pU hl hm,h1,hx];generalize hs:d_ pt i st (cur s i)=o;obtain⟨o,r⟩:=o;cases r with
  |go j_=>
   have hres:(d_ pt S.next st S.took.2).res=.go j_:=by rw[h1,hx,hs]
   have hk:=mB hl.sound hl.quote hres;have h0:0<=cur s i:=by
    by_cases h0:0<=cur s i
    ·exact h0
    ·exfalso;have A7:cur s i= -1\/cur s i= -2:=by rcases sO h0 with⟨_,h⟩|⟨_,h⟩<;>omega
     exact mV pt i st (cur s i) hl.sound A7 hl.quote j_ (by rw[hs])
   have hc:=fl h0;obtain⟨h3,h4⟩:=h2 h0;rw[fC hs h0];have hst:(d_ pt S.next st S.took.2).st=o:=by rw[h1,hx,hs]
   have hlim:=hl.step hres;rw[hst]at hlim;exact ih (i+wid s i) S.took.1 j_ o (k+1) (by omega) (by omega) h3 (by rw[h4,hx];omega) ((oK S).1.trans he) hlim
  |stop=>
   refine Or.inr ⟨rfl,st,wT hs,?_⟩;exact Bo hs
  |fail no q=>exact Or.inl ⟨no,q,rfl,gu hs⟩
theorem Ow:∀(n:Nat) (S:Src) (pt:Part) (st:St) (k:Nat),S.rest.size<n->ue k pt st->S.ended=false->
  ((reads S pt st).ret=.more->reads {S with ended:=true} pt st=reads { (reads S pt st).s with ended:=true} (reads S pt st).pt (reads S pt st).st)/\
  (∀no q,(reads S pt st).ret=.fail no q->(reads {S with ended:=true} pt st).ret=.fail no q/\(reads {S with ended:=true} pt st).st=(reads S pt st).st):=by
 intro n;induction n with
 |zero=>intro S pt st k h;omega
 |succ n ih=>
  intro S pt st k hn hl he;by_cases hm:S.more=true
  ·rw[Ad hm];exact⟨fun _=>rfl,fun _ _ e=>(by cases e)⟩
  ·have tD:S.more=false:=by simpa using hm
   have Qg:({S with ended:=true}:Src).more=false:=by simp[Src.more]
   have ht:({S with ended:=true}:Src).took=({S.took.1 with ended:=true},S.took.2):=by
    unfold Src.took;repeat' split
    all_goals rfl
   rw[pU hl tD,pU (s:={S with ended:=true}) hl Qg,ht];generalize hr:(d_ pt S.next st S.took.2).res=r;cases r with
   |go j_=>
    have hk:=mB hl.sound hl.quote hr;exact ih S.took.1 j_ _ (k+1) (by omega) (hl.step hr) ((oK S).1.trans he)
   |stop=>exact⟨fun e=>(by cases e),fun _ _ e=>(by cases e)⟩
   |fail no q=>exact⟨fun e=>(by cases e),fun _ _ e=>⟨e,rfl⟩⟩
theorem G5(b:Bool):∀(n:Nat) (S:Src) (pt:Part) (st:St),mz n {S with closed:=b} pt st={mz n S pt st with s:={ (mz n S pt st).s with closed:=b}}:=by
 intro n;induction n with
 |zero=>intro S pt st;rfl
 |succ n ih=>
  intro S pt st;have ht:({S with closed:=b}:Src).took=({S.took.1 with closed:=b},S.took.2):=by
   unfold Src.took;repeat' split
   all_goals rfl
  have hm:({S with closed:=b}:Src).more=S.more:=rfl;simp only[mz,ht,hm];split
  ·rfl
  ·cases (d_ pt S.took.1.at_ st S.took.2).res with
   |go j_=>simp only[];exact ih _ _ _
   |stop=>rfl
   |fail no q=>rfl
end
def kY(s:ByteArray):List Tok×Int×Int:=if(eQ s).err≠0 then([],(eQ s).err,(eQ s).at_)else((eQ s).l++(eQ s).last,0,0)
theorem WV:Rel Sc.zero St.zero:=⟨⟨rfl,rfl,fun h=>absurd rfl h⟩,rfl,rfl,rfl⟩
def l5(b:ByteArray)(e:Bool):Src:={Src.zero 0 0 false with rest:=b,ended:=e}
theorem Cw(b:ByteArray):runs (fun st=>st.told) b 0 (.plain .between) St.zero=((eQ b).l,(eQ b).err,(eQ b).at_):=by
 have h:=Cl (g:=fun st=>st.told) (s:=b) (fun x=>x.l) (fun x st he h=>h.tag.told) (b.size+1) Sc.zero St.zero rfl (ax _) (by show b.size<0+_;omega) WV;have h2:runs (fun st=>st.told) b 0 (.plain .between) St.zero=(jk b (b.size+1) Sc.zero).fin fun x=>x.l:=h;rw[h2];unfold Sc.fin eQ;split
 ·rename_i he;have:=uC (fun st=>st.told) (s:=b) (b.size+1) Sc.zero St.zero rfl (ax _) (by show b.size<0+_;omega) WV he;rw[he,this.2];rfl
 ·rfl
theorem Ox(b:ByteArray):runs (fun st=>st.eK.told) b 0 (.plain .between) St.zero=if(eQ b).err=0 then((eQ b).l++(eQ b).last,0,0)else((eQ b).l,(eQ b).err,(eQ b).at_):=
 Cl (g:=fun st=>st.eK.told) (s:=b) (fun x=>x.l++x.last) (fun x st he h=>Ob x st he h) (b.size+1) Sc.zero St.zero rfl (ax _) (by show b.size<0+_;omega) WV
theorem Md{S:Src}{pt:Part}{st:St}{k:Nat}{no q:Int}(hl:ue k pt st)(h:(reads S pt st).ret=.fail no q):no≠0:=by
 have key:∀(n:Nat) (S:Src) (pt:Part) (st:St),(mz n S pt st).ret=.fail no q->no≠0:=by
  intro n;induction n with
  |zero=>intro S pt st h;simp only[mz]at h;cases h
  |succ n ih=>
   intro S pt st h;simp only[mz]at h;split at h
   ·cases h
   ·have G0:=uh pt S.took.1.at_ st S.took.2;cases hr:(d_ pt S.took.1.at_ st S.took.2).res with
    |go pt2=>rw[hr]at h;exact ih _ _ _ h
    |stop=>rw[hr]at h;cases h
    |fail a b=>rw[hr]at h;cases h;exact G0.fail _ _ hr
 exact key _ S pt st h
theorem xK(b:ByteArray):((eQ b).err=0->(reads (l5 b true) (.plain .between) St.zero).ret=.over/\(reads (l5 b true) (.plain .between) St.zero).st.told=(eQ b).l++(eQ b).last)/\
  ((eQ b).err≠0->(reads (l5 b true) (.plain .between) St.zero).ret=.fail (eQ b).err (eQ b).at_/\(reads (l5 b true) (.plain .between) St.zero).st.told=(eQ b).l):=by
 have hr:(l5 b true).rest=b.extract 0 b.size:=by show b=_;simp
 have G0:=fun no q (h:(reads (l5 b true) (.plain .between) St.zero).ret=.fail no q)=>h;have h:=Aj (fun st=>st.eK.told) b (b.size+1) 0 (l5 b true) (.plain .between) St.zero 0 (by omega) (ax _) hr rfl rfl (GX 0);have h2:=Aj (fun st=>st.told) b (b.size+1) 0 (l5 b true) (.plain .between) St.zero 0 (by omega) (ax _) hr rfl rfl (GX 0);rw[Ox]at h;rw[Cw]at h2;constructor
 ·intro he;rw[if_pos he]at h;rcases h with⟨no,q,h1,h3⟩|⟨h1,iJ,h3,h4⟩
  ·exfalso;rcases h2 with⟨no',q',k1,k3⟩|⟨k1,_⟩
   ·have hno:=Md (GX 0) k1;simp only[bQ]at k3;exact hno (k3.2.1.symm.trans he)
   ·rw[h1]at k1;cases k1
  ·refine⟨h1,?_⟩;rw[h4];exact(aC Prod.fst h3).symm
 ·intro he;rw[if_neg he]at h;rcases h2 with⟨no,q,k1,k3⟩|⟨k1,iJ,k3,k4⟩
  ·simp only[bQ]at k3;exact⟨by rw[k1,k3.2.1,k3.2.2],k3.1.symm⟩
  ·simp only[bQ]at k3;exact absurd k3.2.1 he
theorem S3(t:ByteArray)(h0:0<t.size)(h:Tk.full t=false):Ch.gY t 0=false:=by
 apply Ch.yL;unfold Tk.full at h;rw[if_neg (by omega)]at h;rw[decode_at,po _ _ _ _ _ (by omega) (bN _) (bN _) (bN _) (bN _)];simp only[pL,dC,cW]at h;rw[Nat.sub_zero];have h1:=h.1;generalize (t.get! 0).toNat=b0 at*
 unfold wZ;by_cases a1:firstT b0=240
 ·rw[a1]at h1;omega
 by_cases a2:firstT b0=241
 ·rw[if_neg a1,if_pos a2]
 rw[if_neg a1,if_neg a2];unfold slowN;rw[if_pos (by omega)]
theorem Km{S:Src}(h:S.more=true):S.took.2= -1\/S.took.2= -2:=by
 simp only[Src.more,aY,eB]at h;unfold Src.took;by_cases h0:S.rest.size=0
 ·rw[if_pos h0];exact Or.inl rfl
 ·rw[if_neg h0,if_neg (by rw[S3 _ (by omega) h.2];simp)];exact Or.inr rfl
theorem Oy{pt:Part}{q:Int}{st o:St}{c:Int}{no p:Int}(h:d_ pt q st c=⟨o,.fail no p⟩):o.told=st.told:=by
 have key:∀(k:Pl) (st:St),step k q st c=⟨o,.fail no p⟩->o.told=st.told:=by
  intro k st h;cases k<;>simp only[step,jS,gh,kq,iL,jg,fY,fZ]at h<;>(repeat' split at h)<;>first|(cases h;done)|(cases h;rfl)
 cases pt with
 |plain k=>exact key k st h
 |word l k=>
  cases l with
  |nil=>simp only[d_]at h;cases h
  |cons x l=>
   simp only[d_,mv]at h
   repeat' split at h
   all_goals first|(cases h;done)|(cases h;rfl)
 |name i k=>
  simp only[d_,stName,gh]at h
  repeat' split at h
  all_goals first|(cases h;done)|exact key k st h|(cases h;rfl)
 |ref i k=>
  simp only[d_,oY]at h;split at h
  ·split at h
   ·unfold jX at h;split at h<;>cases h
    rfl
   ·cases h
  ·cases h;rfl
theorem Kn(g:St->List Tok)(s:ByteArray):∀(n i:Nat) (S:Src) (pt:Part) (st:St) (k:Nat),s.size-i<n->i<=s.size->S.rest=s.extract i s.size->S.next=(i:Int)->S.ended=false->ue k pt st->(reads S pt st).ret=.more->
  ∃j,j<=s.size/\runs g s i pt st=runs g s j (reads S pt st).pt (reads S pt st).st/\(reads S pt st).s.rest=s.extract j s.size:=by
 intro n;induction n with
 |zero=>intro i S pt st k h;omega
 |succ n ih=>
  intro i S pt st k hn hi hr hx he hl nO;by_cases hm:S.more=true
  ·rw[Ad hm];exact⟨i,hi,rfl,hr⟩
  ·have tD:S.more=false:=by simpa using hm
   obtain⟨h1,h2⟩:=Ai hr hi;rw[pU hl tD,h1,hx]at nO ⊢;generalize hs:d_ pt i st (cur s i)=o at*
   obtain⟨o,r⟩:=o;cases r with
   |go j_=>
    have hres:(d_ pt S.next st S.took.2).res=.go j_:=by rw[h1,hx,hs]
    have h0:0<=cur s i:=by
     by_cases h0:0<=cur s i
     ·exact h0
     ·exfalso;have A7:cur s i= -1\/cur s i= -2:=by rcases sO h0 with⟨_,h⟩|⟨_,h⟩<;>omega
      exact mV pt i st (cur s i) hl.sound A7 hl.quote j_ (by rw[hs])
    have hc:=fl h0;obtain⟨h3,h4⟩:=h2 h0;rw[fC hs h0];have hst:(d_ pt S.next st S.took.2).st=o:=by rw[h1,hx,hs]
    have hlim:=hl.step hres;rw[hst]at hlim;exact ih (i+wid s i) S.took.1 j_ o (k+1) (by omega) (by omega) h3 (by rw[h4,hx];omega) ((oK S).1.trans he) hlim nO
   |stop=>cases nO
   |fail no q=>cases nO
theorem G6{S:Src}{pt:Part}{st:St}:(reads S pt st).s.no=S.no/\(reads S pt st).s.yg=S.yg:=by
 have key:∀(n:Nat) (S:Src) (pt:Part) (st:St),(mz n S pt st).s.no=S.no/\(mz n S pt st).s.yg=S.yg:=by
  intro n;induction n with
  |zero=>intro S pt st;exact⟨rfl,rfl⟩
  |succ n ih=>
   intro S pt st;have hf:=oK S;simp only[mz];split
   ·exact⟨rfl,rfl⟩
   ·cases (d_ pt S.took.1.at_ st S.took.2).res with
    |go j_=>
     have:=ih S.took.1 j_ (d_ pt S.took.1.at_ st S.took.2).st;exact⟨this.1.trans hf.2.1,this.2.trans hf.2.2.1⟩
    |stop=>exact⟨hf.2.1,hf.2.2.1⟩
    |fail no q=>exact⟨hf.2.1,hf.2.2.1⟩
 exact key _ S pt st
def lA(b:ByteArray):Rd:=reads (l5 b false) (.plain .between) St.zero
theorem G7(b:ByteArray):
  ((lA b).ret=.more/\(lA b).st.told=(eQ b).l/\reads (l5 b true) (.plain .between) St.zero=reads { (lA b).s with ended:=true} (lA b).pt (lA b).st/\(∃n,ue n (lA b).pt (lA b).st)/\(lA b).s.more=true/\(lA b).s.no=0/\(lA b).s.yg=0/\(lA b).s.closed=false/\(lA b).s.now=.nilFunc)\/
  ((lA b).ret=.fail (eQ b).err (eQ b).at_/\(eQ b).err≠0/\(lA b).st.told=(eQ b).l/\(lA b).s.closed=false):=by
 have hw:=xK b;have hcut:=Ct ⟨#[]⟩ (b.size+1) (l5 b false) (.plain .between) St.zero 0 (by show b.size<_;omega) (GX 0) rfl;have hend:=Ow (b.size+1) (l5 b false) (.plain .between) St.zero 0 (by show b.size<_;omega) (GX 0) rfl;have Yw:=Kn (fun st=>st.told) b (b.size+1) 0 (l5 b false) (.plain .between) St.zero 0 (by omega) (ax _) (by show b=_;simp) rfl rfl (GX 0);have e1:({l5 b false with ended:=true}:Src)=l5 b true:=rfl;rw[e1]at hend;rw[Cw]at Yw;have hno:=fun no q=>Md (S:=l5 b false) (no:=no) (q:=q) (GX 0);unfold lA;generalize reads (l5 b false) (.plain .between) St.zero=m at*
 cases nO:m.ret with
 |more=>
  obtain⟨c1,stay⟩:=hcut.more nO;have e2:=hend.1 nO;obtain⟨n,hl,_⟩:=stay.lim;obtain⟨j,hj,hr,abu⟩:=Yw nO;refine Or.inl ⟨rfl,?_,e2,⟨n,hl⟩,stay.more,stay.no,stay.yg,stay.closed,stay.now⟩;obtain⟨h1,_⟩:=Ai abu hj;have Ls:=Km stay.more;rw[h1]at Ls;generalize hs:d_ m.pt j m.st (cur b j)=o;obtain⟨o,r⟩:=o;cases r with
  |go j_=>exact absurd (by rw[hs]) (mV m.pt j m.st (cur b j) hl.sound Ls hl.quote j_)
  |stop=>
   rw[wT hs]at hr;exact(aC Prod.fst hr).symm
  |fail no q=>
   rw[gu hs]at hr;rw[<-Oy hs];exact(aC Prod.fst hr).symm
 |over=>exact absurd nO hcut.over
 |fail no q=>
  obtain⟨f1,f2⟩:=hend.2 no q nO;have hn:=hno no q nO;have Ep:(eQ b).err≠0:=by
   intro e;have:=(hw.1 e).1;rw[f1]at this;cases this
  obtain⟨w1,w2⟩:=hw.2 Ep;rw[f1]at w1;cases w1;rw[f2]at w2;exact Or.inr ⟨rfl,Ep,w2,(hcut.fail _ _ nO).2.2⟩
theorem WW(b:ByteArray):({PR.new.s with rest:=PR.new.s.rest++b}:Src).bare=l5 b false:=by
 have h:(⟨#[]⟩:ByteArray)++b=b:=by
  apply cM;simp[dx]
 simp only[PR.new,Src.zero,Src.bare,l5,h]
theorem Cx(b:ByteArray):PR.new.write b=tells (lA b):=by
 unfold PR.write;rw[if_neg (by rintro(h|h);cases h;exact h rfl)];show tells (reads ({PR.new.s with rest:=PR.new.s.rest++b}:Src).bare (.plain .between) St.zero)=_;rw[WW];rfl
theorem Cy(b:ByteArray):(PR.new.write b).2=(eQ b).l:=by
 rw[Cx];unfold tells;rcases G7 b with⟨h1,h2,_⟩|⟨h1,_,h2,_⟩
 ·rw[h1];exact h2
 ·rw[h1];exact h2
theorem Er(S:Src)(pt:Part)(st:St)(b:Bool):reads {S with closed:=b} pt st={reads S pt st with s:={ (reads S pt st).s with closed:=b}}:=G5 b _ S pt st
theorem Oz(T:List Tok)(S:Src)(pt:Part)(st:St):reads S pt (st.pre T)={reads S pt st with st:=(reads S pt st).st.pre T}:=SX T _ S pt st
theorem Cz(b:ByteArray):(PR.new.write b).1.close.2=(eQ b).last/\(PR.new.write b).1.close.1.err=((eQ b).err,(eQ b).at_)/\(PR.new.write b).1.close.1.s.closed=true:=by
 have hw:=xK b;rw[Cx];rcases G7 b with⟨h1,h2,h3,⟨n,hl⟩,hm,hno,acR,qQ,SH⟩|⟨h1,h2,h3,qQ⟩
 ·unfold tells;rw[h1];simp only;unfold PR.close;simp only;rw[qQ,if_neg (show ¬(false=true) by simp),if_neg (show ¬((lA b).s.no≠0) by rw[hno];simp)];have hb:({ (lA b).s with closed:=true,ended:=true}:Src).bare={ ({ (lA b).s with ended:=true}:Src)with closed:=true}:=by simp only[Src.bare,SH]
  have hst:(lA b).st=({ (lA b).st with told:=[]}:St).pre (lA b).st.told:=by simp[St.pre]
  rw[h3]at hw;rw[hst,Oz]at hw;simp only at hw;rw[hb,Er];have Yx:=G6 (S:={ (lA b).s with ended:=true}) (pt:=(lA b).pt) (st:={ (lA b).st with told:=[]});generalize reads { (lA b).s with ended:=true} (lA b).pt { (lA b).st with told:=[]}=m at*
  unfold shut tells;by_cases he:(eQ b).err=0
  ·obtain⟨w1,w2⟩:=hw.1 he;simp only[w1];have w2':(lA b).st.told++m.st.told=(eQ b).l++(eQ b).last:=w2;rw[h2]at w2';refine⟨List.append_cancel_left w2',?_,rfl⟩;have hat:(eQ b).at_=0:=by
    have:=uC (fun st=>st.told) (s:=b) (b.size+1) Sc.zero St.zero rfl (ax _) (by show b.size<0+_;omega) WV he;exact this.2
   unfold PR.err Src.zero;simp only[if_true];rw[Yx.1,Yx.2,he,hat];simp only[hno,acR]
  ·obtain⟨w1,w2⟩:=hw.2 he;simp only[w1];have w2':(lA b).st.told++m.st.told=(eQ b).l:=w2;rw[h2]at w2';have hnil:m.st.told=[]:=by simpa using w2'
   refine⟨?_,rfl,rfl⟩;rw[hnil];unfold Sc.last;rw[if_pos (Or.inl he)]
 ·unfold tells;rw[h1];simp only;unfold PR.close;simp[Src.zero,qQ,h2,PR.err,Sc.last]
theorem Me(b:ByteArray):Eo b=kY b:=by
 obtain⟨h1,h2,_⟩:=Cz b;unfold Eo kY;rw[h2,Cy,h1]
end K
end Go.Proofs.YtjecakcpcnmieaaGreatDoor
namespace Go.Proofs.YtjecakcpcnmieaaGreatDoor
namespace K
open Go.RowKit Go.Lib Tryz
structure Nd where
 name:List UInt8
 b_:jY
 text:List UInt8
 kids:List Nat
 up:Int
def Nd.kid(n:Nd)(j:Nat):Nd:={n with kids:=n.kids++[j]}
def fy:List Nd->Nat->Nat->List Nd
 |[],_,_=>[]
 |n::l,0,j=>n.kid j::l
 |n::l,k+1,j=>n::fy l k j
structure Gr where
 nodes:List Nd
 stack:List Nat
def jl:List Nat->Int
 |[]=> -1
 |k::_=>k
def Gr.put(g:Gr)(n:Nd):Gr:=
 match g.stack with
 |[]=>{g with nodes:=g.nodes++[{n with up:= -1}]}
 |k::_=>{g with nodes:=fy g.nodes k g.nodes.length++[{n with up:=(k:Int)}]}
def elemOf(t:Tok):Nd:=⟨t.name,t.b_,[],[],0⟩
def jD(t:Tok):Nd:=⟨[],[],t.text,[],0⟩
def gG(l:List UInt8):Bool:=l.all fun c=>jw c.toNat
def Gr.named(g:Gr)(k:Nat)(n:List UInt8):Bool:=match g.nodes[k]? with
 |some m=>m.name==n
 |none=>false
def Gr.take(g:Gr)(t:Tok):Int×Gr:=
 if t.kind=1 then
  if g.stack=[]/\g.nodes≠[]then(7,g)
  else if 30<=g.stack.length then(8,g)
  else(0,{ (g.put (elemOf t))with stack:=g.nodes.length::g.stack})
 else if t.kind=2 then
  match g.stack with
  |[]=>(6,g)
  |k::st=>if g.named k t.name=true then(0,{g with stack:=st})else(6,g)
 else match g.stack with
  |[]=>if gG t.text=true then(0,g)else(7,g)
  |_::_=>(0,g.put (jD t))
def grow:Gr->List Tok->Int×Int×Gr
 |g,[]=>(0,0,g)
 |g,t::l=>if(g.take t).1≠0 then((g.take t).1,t.at_,g)else grow (g.take t).2 l
def Gr.zero:Gr:=⟨[],[]⟩
def fp(s:ByteArray):List Nd×Int×Int:=
 if(grow Gr.zero ((eQ s).l++(eQ s).last)).1≠0 then([],(grow Gr.zero ((eQ s).l++(eQ s).last)).1,(grow Gr.zero ((eQ s).l++(eQ s).last)).2.1)
 else if(eQ s).err≠0 then([],(eQ s).err,(eQ s).at_)
 else if(grow Gr.zero ((eQ s).l++(eQ s).last)).2.2.stack≠[]\/(grow Gr.zero ((eQ s).l++(eQ s).last)).2.2.nodes=[]then([],3,s.size)
 else((grow Gr.zero ((eQ s).l++(eQ s).last)).2.2.nodes,0,0)
theorem fB:∀(l:List Nd) (k j:Nat),(fy l k j).length=l.length
 |[],_,_=>rfl
 |n::l,0,j=>rfl
 |n::l,k+1,j=>by simp only[fy,ag,fB l k j]
theorem pV:∀(l:List Nd) (k j i:Nat),(fy l k j)[i]?=if i=k then(l[i]?).map (fun n=>n.kid j)else l[i]?
 |[],k,j,i=>by simp[fy]
 |n::l,0,j,0=>by simp[fy]
 |n::l,0,j,i+1=>by simp[fy]
 |n::l,k+1,j,0=>by simp[fy]
 |n::l,k+1,j,i+1=>by simp only[fy,ck,pV l k j i,Nat.add_right_cancel_iff]
def Ak(nodes:List Nd):List Nat->Prop
 |[]=>True
 |k::st=>(∃n,nodes[k]?=some n/\n.up=jl st)/\Ak nodes st
structure Gr.Wf(g:Gr):Prop where
 ups:Ak g.nodes g.stack
 deep:g.stack.length<=30
theorem Gr.Wf.zero:Gr.zero.Wf:=⟨trivial,ax _⟩
theorem Ak.lt{nodes:List Nd}:∀{st:List Nat},Ak nodes st->∀k∈st,k<nodes.length
 |[],_,k,hk=>by simp at hk
 |j::st,h,k,hk=>by
  rcases List.mem_cons.1 hk with e|e
  ·obtain⟨⟨n,hn,_⟩,_⟩:=h;rw[e];exact(List.getElem?_eq_some_iff.1 hn).1
  ·exact Ak.lt h.2 k e
theorem Ak.mono{nodes S4:List Nd}(hm:∀(k:Nat) n,nodes[k]?=some n->∃n',S4[k]?=some n'/\n'.up=n.up):∀{st:List Nat},Ak nodes st->Ak S4 st
 |[],_=>trivial
 |k::st,⟨⟨n,hn,hu⟩,h⟩=>by
  obtain⟨n',hn',hu'⟩:=hm k n hn;exact⟨⟨n',hn',hu'.trans hu⟩,Ak.mono hm h⟩
theorem Al(l:List Nd)(n:Nd)(k:Nat)(m:Nd)(h:l[k]?=some m):(l++[n])[k]?=some m:=by
 have:=(List.getElem?_eq_some_iff.1 h).1;rw[aL this];exact h
theorem lh(g:Gr)(n:Nd):(g.put n).nodes.length=g.nodes.length+1:=by unfold Gr.put;split<;>simp[fB]
theorem od(g:Gr)(n:Nd):(g.put n).stack=g.stack:=by unfold Gr.put;split<;>simp_all
theorem S7(g:Gr)(n:Nd)(k:Nat)(m:Nd)(h:g.nodes[k]?=some m):∃m',(g.put n).nodes[k]?=some m'/\m'.up=m.up/\m'.name=m.name/\m'.b_=m.b_/\m'.text=m.text:=by
 unfold Gr.put;split
 ·exact⟨m,Al _ _ _ _ h,rfl,rfl,rfl,rfl⟩
 ·rename_i j st hs;have e:=pV g.nodes j g.nodes.length k;rw[h]at e;by_cases hk:k=j
  ·rw[if_pos hk]at e;exact⟨_,Al _ _ _ _ e,rfl,rfl,rfl,rfl⟩
  ·rw[if_neg hk]at e;exact⟨m,Al _ _ _ _ e,rfl,rfl,rfl,rfl⟩
theorem Am(g:Gr)(n:Nd):(g.put n).nodes[g.nodes.length]?=some {n with up:=jl g.stack}:=by
 unfold Gr.put;split
 ·rename_i hs;rw[hs];simp[jl]
 ·rename_i j st hs;rw[hs];have:=fB g.nodes j g.nodes.length;rw[aQ (by omega)];simp[this,jl]
theorem Gr.Wf.put{g:Gr}(h:g.Wf)(n:Nd):Ak (g.put n).nodes g.stack:=
 Ak.mono (fun k m hm=>by obtain⟨m',a,b,_⟩:=S7 g n k m hm;exact⟨m',a,b⟩) h.ups
theorem Gr.Wf.take{g:Gr}(h:g.Wf)(t:Tok):(g.take t).2.Wf:=by
 unfold Gr.take;split
 ·split
  ·exact h
  ·split
   ·exact h
   ·rename_i _ hd;refine⟨⟨⟨_,Am g _,rfl⟩,h.put _⟩,?_⟩;show g.stack.length+1<=30;omega
 ·split
  ·split
   ·exact h
   ·rename_i k st hs;split
    ·have hu:=h.ups;have hd:=h.deep;rw[hs]at hu hd;exact⟨hu.2,by show st.length<=30;simp only[ag]at hd;omega⟩
    ·exact h
  ·split
   ·split<;>exact h
   ·refine⟨?_,?_⟩
    ·simp only[od];exact h.put _
    ·simp only[od];exact h.deep
theorem Gr.Wf.top{g:Gr}(h:g.Wf){k:Nat}{st:List Nat}(hs:g.stack=k::st):∃n,g.nodes[k]?=some n/\n.up=jl st/\k<g.nodes.length:=by
 have hu:=h.ups;rw[hs]at hu;obtain⟨⟨n,hn,e⟩,_⟩:=hu;exact⟨n,hn,e,(List.getElem?_eq_some_iff.1 hn).1⟩
end K
end Go.Proofs.YtjecakcpcnmieaaGreatDoor
