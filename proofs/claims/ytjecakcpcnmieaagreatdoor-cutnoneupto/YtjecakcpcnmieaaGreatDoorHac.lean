import Derived.Test.YtjecakcpcnmieaaGreatDoorHA
import Derived.Test.YtjecakcpcnmieaaGreatDoorHab
set_option linter.unusedVariables false
set_option linter.unusedSimpArgs false
set_option maxHeartbeats 32000000
set_option maxRecDepth 100000
namespace Go.Proofs.YtjecakcpcnmieaaGreatDoor
open Go Tryz
section
abbrev Mk:=Bool×L
structure Br where
 sg:Mk
 kids:List (Mk×Nat)
 nd:Bool
 wh:Bool
def Br.kid(x:Br)(m:Mk):Option Nat:=(x.kids.find? fun y=>y.1==m).map (·.2)
abbrev gZ:=List Br
def jP:gZ:=[⟨(false,[]),[],false,false⟩]
def oP(b:gZ)(i:Nat)(m:Mk):gZ×Nat:=match (b[i]?).bind (·.kid m)with
 |some k=>(b,k)
 |none=>(b.modify i (fun x=>{x with kids:=x.kids++[(m,b.length)]})++[⟨m,[],false,false⟩],b.length)
def iA(b:gZ)(i:Nat):List Mk->gZ×Nat
 |[]=>(b,i)
 |m::l=>iA (oP b i m).1 (oP b i m).2 l
def nowhere(p:List Mk):Bool:=p.dropLast.any (·.2==[35])||p==[(false,[35])]
def rb(b:gZ)(p:List Mk×Bool):gZ:=if nowhere p.1=true then b else
 (iA b 0 p.1).1.modify (iA b 0 p.1).2 fun x=>{x with nd:=true,wh:=x.wh||p.2}
def fR(b:gZ)(l:List (List Mk×Bool)):gZ:=l.foldl rb b
theorem oq(b:gZ)(l l':List (List Mk×Bool)):fR b (l++l')=fR (fR b l) l':=by unfold fR;rw[dr]
structure jo where
 due:List Nat
 nd:Bool
 wh:Bool
 tx:Bool
def rh(m:Mk)(name:L):Bool:=m.2==[42]||(m.2==name&&name !=[35])
def ot(b:gZ)(j:Nat):List Nat:=match b[j]? with|some x=>x.kids.map (·.2)|none=>[]
def wG(b:gZ)(j:Nat):Bool:=match b[j]? with|some x=>x.sg.1|none=>false
def ou(b:gZ)(j:Nat)(name:L):Bool:=match b[j]? with|some x=>rh x.sg name|none=>false
def Vn(b:gZ)(j:Nat):Bool:=match b[j]? with|some x=>x.nd|none=>false
def Qo(b:gZ)(j:Nat):Bool:=match b[j]? with|some x=>x.wh|none=>false
def Vo(b:gZ)(j:Nat):Bool:=match b[j]? with|some x=>x.sg.2==[35]|none=>false
def iN(b:gZ):jo:=⟨(List.range b.length).filter fun k=>(ot b 0).contains k,false,false,false⟩
def iO(b:gZ)(due:List Nat)(name:L):List Nat:=(List.range b.length).filter fun k=>(due.contains k&&wG b k)||due.any fun j=>ou b j name&&(ot b j).contains k
def fL(b:gZ)(s:jo)(name:L):jo:=
 ⟨iO b s.due name,s.due.any fun j=>ou b j name&&Vn b j,s.wh||s.due.any fun j=>ou b j name&&Qo b j,(iO b s.due name).any (Vo b)⟩
variable{b b':gZ}
end
abbrev Np:=List Mk×Bool
def gI:fG->List Mk
 | .nil=>[]
 | .cons d t _ m=>(d,t)::gI m
def vg(at_:List Mk)(whole:Bool):Np:=(at_,whole&&(match at_.getLast? with|some m=>m.2 !=[35]|none=>true))
mutual
def ow(at_:List Mk):fG->List Np
 | .nil=>[]
 | .cons d t p m=>y7 (at_++[(d,t)]) p++ow (at_++[(d,t)]) m
def y7(at_:List Mk):k9->List Np
 | .nil=>[]
 | .cons o k s a _ m=>(if o=[111,114]\/o=[97,110,100]\/o=[110,111,116]then y7 at_ k else ow at_ s++[vg (at_++gI s) (o !=[104,97,115]&&a==[])])++y7 at_ m
end
def Qp(p:List jd):List Np:=ow [] (fG.of p)++[vg (gI (fG.of p)) true]
def pD(ls:List (List jd)):List Np:=ls.flatMap Qp
def needed:Nat->List L->Except (Nat×Nat×Nat) (List Np)
 |_,[]=> .ok []
 |i,q::l=>match parse q with
  | .error e=> .error (e.1,e.2,i+1)
  | .ok ls=>match needed (i+1) l with
   | .error e=> .error e
   | .ok r=> .ok (pD ls++r)
def p9(m:Mk):L:=(if m.1=true then [47,47]else [47])++(if m.2=[35]then [116,101,120,116,40,41]else m.2)
end Go.Proofs.YtjecakcpcnmieaaGreatDoor
namespace Go.Proofs.YtjecakcpcnmieaaGreatDoor
open Go.RowKit Go.Maps Go.Lib Tryz
section
variable{w w' w1 w2:World}{F G:Nat->Prop}{R:Nat}{t l l':L}{wh n:Nat}{iK:Option (L->Rs ny)}
theorem Dg:(prog.info? 173).map (fun i=>(i.zero,i.size,i.bytes))=some (some (.agg #[.bool false,.string ⟨#[]⟩,.slice none 0 0]),3,48):=by kernel_rfl
theorem fJ{P:Program}{ops:Array Oper}{o:Oper}{a:Act}{w:World}{K:Act->World->Prop}{Q:Exit->Act->World->Prop}{E:Prop}
  (hg:o.guard=none) (s x:Operand) (t:TypeId) (hop:o.op=Op.call {callee:=Callee.builtin Builtin.append,args:=#[s,x],argTypes:=#[t,t]})
  (e:TypeId) (i:TypeInfo) (z:Value) (size bytes:Nat) (h1:P.underlying t=some (.slice e)) (h2:P.info? e=some i) (h3:i.zero=some z) (h4:i.size=size) (h5:i.bytes=bytes) (h6:z.cells.size=size) (h7:0<size)
  (v:Value) (n:Nat) (xs:List Value) (hs:a.eval s=v) (hown:w.ownsRow 0 e size v n xs)
  (ad:Addr) (m c:Nat) (news:List Value) (hx:a.eval x=.slice (some ad) m c) (hn:news.length=m*size) (hc:∀j u,news[j]?=some u->w.cell? (ad.add j)=some u) (h1c:∀u∈news,u.oneCell'=true)
  (b1:n+m<=maxLen) (b2:(n+m)*bytes<=140737488355328)
  (hK:∀v' w',w'.ownsRow 0 e size v' (n+m) (xs++news)->w.grownBy w' v.ownBlock->(v'.ownBlock=v.ownBlock\/v'.ownBlock=some w.heap.size)->K (a.put o.dst v') w'):
  if Region.wanted o (yielded ops a.tmps)=true then Oper.wp P o a w K Q else E:=by
 have hw:Region.wanted o (yielded ops a.tmps)=true:=by simp[Region.wanted,hg]
 rw[if_pos hw];obtain⟨v',w',hrun,r1,r2,_,r4⟩:=dm (P:=P) w 0 t o.type e i z size bytes h1 h2 h3 h4 h5 h6 h7 v n xs hown ad m c news hn hc h1c b1 b2 (ax _);unfold Oper.wp;simp[execOp,hop,resolve,invoke,builtin,hs,hx,hrun,Result.andThen];exact hK v' w' r1 r2 r4
theorem y8{e:TypeId}{sz k:Nat}{v:Value}{xs:List Value}(h:w.ownsRow 0 e sz v (k+1) xs):∃g cap,v=Z9 g (k+1) cap:=by
 rcases h.2 with⟨_,e2⟩|⟨g,cap,cur,rfl,_⟩
 ·omega
 ·exact⟨g,cap,rfl⟩
theorem fK{g b:Nat}(hb:b≠g):∀(vs:List Value) (o:Nat) (w:World),(w.setCells g o vs).heap[b]?=w.heap[b]?
 |[],_,_=>rfl
 |v::vs,o,w=>(fK hb vs (o+1) _).trans (af _ _ _ _ hb)
theorem jZ{g:Nat}:∀(vs:List Value) (o:Nat) (w:World),(w.setCells g o vs).os=w.os/\(w.setCells g o vs).tape=w.tape/\(w.setCells g o vs).output=w.output/\(w.setCells g o vs).heap.size=w.heap.size
 |[],_,_=>⟨rfl,rfl,rfl,rfl⟩
 |v::vs,o,w=>by
  obtain⟨h1,h2,h3,h4⟩:=jZ vs (o+1) (w.setCell ⟨g,o,none⟩ v);exact⟨h1,h2,h3,h4.trans (by simp[World.setCell])⟩
def I0(t:L)(iK:Option (L->Rs ny)):Prop:=(91:UInt8)∉t/\uV iK
theorem I0.aca(h:I0 t iK)(hs:l<:+t):part l≠[91]:=fun e=>by
 have hp:part l<+:l:=by
  unfold part;split
  ·exact List.take_prefix _ _
  ·split<;>exact List.take_prefix _ _
 rw[e]at hp;exact h.1 (hs.subset (hp.subset (by simp)))
theorem I0.Ix(h:I0 t iK):uV iK:=h.2
theorem Fr.restrict{F G:Nat->Prop}(h:Fr F w w')(hk:∀k,k<w.heap.size->F k->G k):Fr G w w':=⟨h.os,h.tape,h.output,h.size,fun k hl hg=>h.block k hl (fun x=>hg (hk k hl x))⟩
def LD(R:Nat)(t:L)(W:World):Nat:=t.length-(RowKit.intOf ((W.cell? ⟨R,2,none⟩).getD (.int .i64 0))).toNat
theorem RD.LD(h:RD R t wh n w l):LD R t w=l.length:=by
 have c2:w.cell? ⟨R,2,none⟩=some (.int .i64 ((t.length-l.length:Nat):Int)):=cell_of h.blk rfl;have:=h.le;unfold Proofs.YtjecakcpcnmieaaGreatDoor.LD;rw[c2];simp[RowKit.intOf];omega
theorem acb{b:Nat}{x y z:Value}{ty:TypeId}(a c e:Value)(h:w.heap[b]?=some (.cells #[x,y,z] ty (0,0))):∃W,((w.setCell ⟨b,0,none⟩ a).setCell ⟨b,1,none⟩ c).setCell ⟨b,2,none⟩ e=W/\W.heap[b]?=some (.cells #[a,c,e] ty (0,0))/\Fr (fun k=>k=b) w W:=
 ⟨_,rfl,eV (i:=2) (eV (i:=1) (eV (i:=0) h a) c) e,(((Fr.refl (fun k=>k=b) w).set ⟨b,0,none⟩ a (fun _=>rfl)).set ⟨b,1,none⟩ c (fun _=>rfl)).set ⟨b,2,none⟩ e (fun _=>rfl)⟩
theorem MI{cut:Bool}{fu:Nat}(hp:part l≠[91]):iT cut iK fu l=.ok ([],l):=by
 cases fu with
 |zero=>rfl
 |succ f=>unfold iT;rw[if_neg hp]
structure LI(R:Nat)(t:L)(wh n:Nat)(iK:Option (L->Rs ny))(w:World)(Bs:Nat)(d:Bool)(te:L)(l1:L)(wr:World)(ps:List ny)(lc:L)(pi:Option Addr)(pc:Nat):Prop where
 rd:RD R t wh n wr lc
 bs_:wr.heap[Bs]?=some (.cells #[.bool d,.string (bs te),.slice pi ps.length pc] 173 (0,0))
 br:wr.heap[w.heap.size]?=some (.cells #[ptr R] 245 (0,0))
 bq:wr.heap[w.heap.size+1]?=some (.cells #[.bool false,.string ⟨#[]⟩,.slice none 0 0] 173 (0,0))
 gp:GP (Bs+1) 173 212 wr (.slice pi ps.length pc) ps
 fr:Fr (fun k=>k=R\/w.heap.size<=k) w wr
 lo:w.heap.size+1<Bs
 eq:∃fu,lc.length<fu/\iT (fU t wh) iK (l1.length+1) l1=thn (iT (fU t wh) iK fu lc) fun qs l=> .ok (ps++qs,l)
 sm:ps.length+lc.length<=500
 nl:ps=[]->(Value.slice pi ps.length pc)=fO
theorem LI.out{Bs:Nat}{d:Bool}{te l1 lc:L}{wr:World}{ps:List ny}{pi:Option Addr}{pc:Nat}(h:LI R t wh n iK w Bs d te l1 wr ps lc pi pc)(hp:part lc≠[91]):iT (fU t wh) iK (l1.length+1) l1=.ok (ps,lc):=by
 obtain⟨fu,e1,e2⟩:=h.eq;rw[e2,MI hp];simp[thn]
theorem LI.last{Bs:Nat}{d:Bool}{te l1 lc:L}{wr:World}{ps:List ny}{pi:Option Addr}{pc:Nat}(hR:R<w.heap.size)(h:LI R t wh n iK w Bs d te l1 wr ps lc pi pc)(hp:part lc≠[91]){w5:World}(fr:Fr (fun k=>k=w.heap.size+1) wr w5):
  ∃v,.agg #[.bool d,.string (bs te),.slice pi ps.length pc]=v/\SV (fun b=>w.heap.size<=b) 173 212 w5 v ⟨d,te,k9.of ps⟩/\RD R t wh n w5 lc/\Fr (fun k=>k=R) w w5:=by
 have Df:=h.lo;have g5:=(h.gp.fr fr fun k e _=>by omega).done (by have:=h.sm;omega) h.nl;exact⟨_,rfl,⟨_,rfl,g5.move fun b hb _=>⟨by omega,rfl⟩⟩,h.rd.fr fr (by omega),(h.fr.trans fr (fun i hi x=>by omega)).trans (G:=fun _=>False) (Fr.refl _ _) (fun _ _ x=>x.elim)|>.restrict (fun k hk x=>by omega)⟩
theorem LF(d:Bool)(hi:I0 t iK)(h:RD R t wh n w l):Z4 187 #[ptr R,.bool d] w (Ends R t wh n (SV (fun b=>w.heap.size<=b) 173 212) w (step (fU t wh) iK d l)):=by
 have HT:Hid (∀W,Z5 w W->Z4 219 #[ptr R] W (Ends R t wh n VS W (test (fU t wh) l))):=fun W hW=>Vm (h.below hW);have HB:Hid (∀o1 o2,Z5 w ((w.alloc o1).alloc o2)):=fun o1 o2=>((Below.refl _ w).alloc (ah _) o1).alloc (by simp) o2;unfold step;cases hx:test (fU t wh) l with
 |error y=>
  rw[hx]at HT;simp only[thn];clear hx h;go_enter func187,ntmps187;go_wp2_with(first|(go_at_call 219;refine(HT.out _ (HB.out _ _)).mono ?_;rintro e w2 ⟨rfl,fr⟩));exact⟨rfl,rfl,(Fr.below (HB.out _ _)).same fr⟩
 |ok z=>
  obtain⟨te,l1⟩:=z;rw[hx]at HT;have hR:=h.lt;have hsm:l1.length<=500:=by have:=(E8 l te l1 hx).length_le;have:=h.le;have:=h.tw;have:=h.Qk;omega
  have HL:Hid (∀w2,RD R t wh n w2 l1->Fr (fun k=>k=R) ((w.alloc (.cells #[ptr R] 245)).alloc (.cells #[.bool false,.string ⟨#[]⟩,.slice none 0 0] 173)) w2->LI R t wh n iK w w2.heap.size d te l1 (w2.alloc (.cells #[.bool d,.string (bs te),.slice none 0 0] 173)) [] l1 none 0):=fun w2 rd fr=>by
   have hz:w.heap.size+2<=w2.heap.size:=by have:=fr.size;simp at this;omega
   have f1:Fr (fun _=>False) w2 (w2.alloc (.cells #[.bool d,.string (bs te),.slice none 0 0] 173)):=(Fr.refl _ _).alloc _;have q1:w2.heap[w.heap.size]?=some (.cells #[ptr R] 245 (0,0)):=by rw[fr.block w.heap.size (by simp;omega) (by omega),ap _ _ _ (by simp)];exact eL _ _
   have q2:w2.heap[w.heap.size+1]?=some (.cells #[.bool false,.string ⟨#[]⟩,.slice none 0 0] 173 (0,0)):=by
    rw[fr.block (w.heap.size+1) (by simp) (by omega)];have:=eL (w.alloc (.cells #[ptr R] 245)) (.cells #[.bool false,.string ⟨#[]⟩,.slice none 0 0] 173);simpa using this
   exact⟨rd.fr f1 (fun x=>x),eL _ _,(ap _ _ _ (by omega)).trans q1,(ap _ _ _ (by omega)).trans q2,GP.zero,(((Fr.below (HB.out _ _)).same fr).alloc _).mono (fun k e=>Or.inl e),by omega,⟨l1.length+1,by omega,by
    cases iT (fU t wh) iK (l1.length+1) l1 with
    |error y=>rfl
    |ok z=>rfl⟩,by simpa using hsm,fun _=>rfl⟩
  have HI:=a_ hi;simp only[thn];clear hx h hsm hi;obtain⟨X,hX⟩:∃X,(thn (iT (fU t wh) iK (l1.length+1) l1) fun ps l=>(.ok (⟨d,te,k9.of ps⟩,l):Rs jd))=X:=⟨_,rfl⟩
  simp only[thn]at hX;rw[hX];have HX:=a_ hX;clear hX;have hmf:∀(fn:Fn) (first cap:Array Value) (w:World),(Instr.makeFunc fn first cap).run prog w=.ok (.func fn first cap) w:=fun _ _ _ _=>rfl;go_enter func187,ntmps187;go_wp2_with(first|(go_at_call 219;refine(HT.out _ (HB.out _ _)).mono ?_;rintro e w2 ⟨v,rfl,rfl,rd,fr⟩));have hL:=HL.out w2 rd fr;have HL0:=a_ hL;clear rd fr hL;generalize w2.heap.size=Bs at*
  generalize w2.alloc (.cells #[.bool d,.string (bs te),.slice none 0 0] 173)=WL at*
  go_loopw [10,11,12,13,14,15] (fun _ _ _ _ _ _ wr=>∃ps lc pi pc,LI R t wh n iK w Bs d te l1 wr ps lc pi pc) (fun _ _ _ _ _ _ wr=>LD R t wr)
  case atStart=>exact⟨_,_,_,_,HL0.out⟩
  case round=>
   rename World=>WO
   obtain⟨ps,lc,pi,pc,hL⟩:=hrel;have HP:=a_ (oU hL.rd);have HL1:=a_ hL;have c0:WO.cell? ⟨w.heap.size,0,none⟩=some (ptr R):=cell_of hL.br rfl;have HU:Hid (∀W,Z5 WO W->W.cell? ⟨w.heap.size,0,none⟩=some (ptr R)/\LI R t wh n iK w Bs d te l1 W ps lc pi pc):=fun W hW=>by
    have f1:Fr (fun _=>False) WO W:=Fr.below hW;have b1:=(f1.block _ (eO hL.br) (fun x=>x)).trans hL.br;exact⟨cell_of b1 rfl,hL.rd.fr f1 (fun x=>x),(f1.block _ (eO hL.bs_) (fun x=>x)).trans hL.bs_,b1,(f1.block _ (eO hL.bq) (fun x=>x)).trans hL.bq,hL.gp.fr f1 (fun _ x _=>x.elim),hL.fr.trans f1 (fun _ _ x=>x.elim),hL.lo,hL.eq,hL.sm,hL.nl⟩
   have Vp:LD R t WO=lc.length:=hL.rd.LD;clear hL;have hp:part lc≠[91]:=HI.out.aca HL1.out.rd.Ix
   ·have hb:((bs (part lc)).toList==[91])=false:=by rw[kU];simpa using hp
    generalize bs (part lc)=S at*
    have hX:=HX.out;rw[HL1.out.out hp]at hX;simp only at hX;subst hX;have HLS:=a_ (fun W w5 (hW:LI R t wh n iK w Bs d te l1 W ps lc pi pc) (fr:Fr (fun k=>k=w.heap.size+1) W w5)=>hW.last hR hp fr);clear hp;have aaZ:Hid (∀W,LI R t wh n iK w Bs d te l1 W ps lc pi pc->(W.cell? ⟨Bs,0,none⟩=some (.bool d)/\W.cell? ⟨Bs,1,none⟩=some (.string (bs te))/\W.cell? ⟨Bs,2,none⟩=some (.slice pi ps.length pc))/\(W.cell? ⟨w.heap.size+1,0,none⟩=some (.bool false)/\W.cell? ⟨w.heap.size+1,1,none⟩=some (.string ⟨#[]⟩)/\W.cell? ⟨w.heap.size+1,2,none⟩=some (.slice none 0 0))/\(W.frozen? ⟨w.heap.size+1,0,none⟩=false/\W.frozen? ⟨w.heap.size+1,1,none⟩=false/\W.frozen? ⟨w.heap.size+1,2,none⟩=false)):=fun W hW=>
     ⟨⟨cell_of hW.bs_ rfl,cell_of hW.bs_ rfl,cell_of hW.bs_ rfl⟩,⟨cell_of hW.bq rfl,cell_of hW.bq rfl,cell_of hW.bq rfl⟩,eP hW.bq,eP hW.bq,eP hW.bq⟩
    go_wp2_with(first|(go_at_call 190;refine HP.out.mono ?_;rintro e w3 ⟨rfl,hb3⟩;obtain⟨c3,hL3⟩:=HU.out _ hb3;obtain⟨⟨x0,x1,x2⟩,⟨y0,y1,y2⟩,z0,z1,z2⟩:=aaZ.out _ hL3));obtain⟨W5,hW5,r5,IY⟩:=acb (.bool d) (.string (bs te)) (.slice pi ps.length pc) hL3.bq;rw[hW5];clear hW5 x0 x1 x2 y0 y1 y2 z0 z1 z2 c3;have k0:=cell_of (i:=0) r5 rfl;have k1:=cell_of (i:=1) r5 rfl;have k2:=cell_of (i:=2) r5 rfl;obtain⟨v,hv,sv,Qn,Y0⟩:=HLS.out _ _ hL3 IY;subst hv;refine aV (v:=.agg #[.bool d,.string (bs te),.slice pi ps.length pc]) (by simp[results,results187,go_sem,k0,k1,k2]) rfl ⟨_,rfl,sv,Qn,Y0⟩
end
end Go.Proofs.YtjecakcpcnmieaaGreatDoor
namespace Go.Proofs.YtjecakcpcnmieaaGreatDoor
open Go Tryz
def boolT(b:Bool):L:=if b=true then [116,114,117,101]else [102,97,108,115,101]
def lH(dec:Nat->L)(l:List Nat):L:=l.flatMap fun k=>32::dec k
def jv(dec:Nat->L)(s:jo):L:=boolT s.nd++(boolT s.wh++(boolT s.tx++lH dec s.due))
theorem wH{a b:Bool}{x y:L}(h:boolT a++x=boolT b++y):a=b/\x=y:=by cases a<;>cases b<;>simp[boolT]at h ⊢ <;>exact h
theorem BG(dec:Nat->L)(l:List Nat):lH dec l=[]\/∃r,lH dec l=32::r:=by
 cases l with
 |nil=>exact Or.inl rfl
 |cons k l=>exact Or.inr ⟨dec k++lH dec l,by simp[lH]⟩
theorem Qq:∀(a b x y:L),(∀c∈a,c≠32)->(∀c∈b,c≠32)->(x=[]\/∃r,x=32::r)->(y=[]\/∃r,y=32::r)->a++x=b++y->a=b/\x=y
 |[],[],x,y,_,_,_,_,h=>⟨rfl,h⟩
 |[],c::b,x,y,_,hb,hx,_,h=>by
  exfalso;rcases hx with rfl|⟨r,rfl⟩
  ·simp at h
  ·simp only[bR,aI,cJ]at h;exact hb c (bJ ..) h.1.symm
 |c::a,[],x,y,ha,_,_,hy,h=>by
  exfalso;rcases hy with rfl|⟨r,rfl⟩
  ·simp at h
  ·simp only[bR,aI,cJ]at h;exact ha c (bJ ..) h.1
 |c::a,d::b,x,y,ha,hb,hx,hy,h=>by
  simp only[aI,cJ]at h;obtain⟨rfl,h⟩:=h;obtain⟨rfl,e⟩:=Qq a b x y (fun c hc=>ha c (bO _ hc)) (fun c hc=>hb c (bO _ hc)) hx hy h;exact⟨rfl,e⟩
theorem Fk{dec:Nat->L}(hi:∀a b,dec a=dec b->a=b)(hd:∀a,∀c∈dec a,c≠32):∀(l l':List Nat),lH dec l=lH dec l'->l=l'
 |[],[],_=>rfl
 |[],k::l,h=>by simp[lH]at h
 |k::l,[],h=>by simp[lH]at h
 |k::l,k'::l',h=>by
  have e:∀k l,lH dec (k::l)=32::(dec k++lH dec l):=fun k l=>by simp[lH]
  rw[e,e,cJ]at h;obtain⟨h1,h2⟩:=Qq _ _ _ _ (hd k) (hd k') (BG dec l) (BG dec l') h.2;rw[hi _ _ h1,Fk hi hd l l' h2]
theorem Qr{dec:Nat->L}(hi:∀a b,dec a=dec b->a=b)(hd:∀a,∀c∈dec a,c≠32){s s':jo}(h:jv dec s=jv dec s'):s=s':=by
 unfold jv at h;obtain⟨h1,h⟩:=wH h;obtain⟨h2,h⟩:=wH h;obtain⟨h3,h⟩:=wH h;have h4:=Fk hi hd _ _ h;cases s;cases s';simp_all
theorem wI:∀(l l':List Nat),l.Pairwise (· < ·)->l'.Pairwise (· < ·)->(∀x,x∈l↔x∈l')->l=l'
 |[],[],_,_,_=>rfl
 |[],b::l',_,_,h=>by have:=(h b).2 (bJ ..);simp at this
 |a::l,[],_,_,h=>by have:=(h a).1 (bJ ..);simp at this
 |a::l,b::l',h1,h2,h=>by
  have p1:=List.pairwise_cons.1 h1;have p2:=List.pairwise_cons.1 h2;have e:a=b:=by
   have ha:=(h a).1 (bJ ..);have hb:=(h b).2 (bJ ..);rcases List.mem_cons.1 ha with e|ha
   ·exact e
   ·rcases List.mem_cons.1 hb with e|hb
    ·exact e.symm
    ·have:=p2.1 a ha;have:=p1.1 b hb;omega
  subst e;rw[wI l l' p1.2 p2.2 fun x=>?_];constructor
  ·intro hx;rcases List.mem_cons.1 ((h x).1 (bO _ hx))with rfl|Vq
   ·have:=p1.1 x hx;omega
   ·exact Vq
  ·intro hx;rcases List.mem_cons.1 ((h x).2 (bO _ hx))with rfl|Vq
   ·have:=p2.1 x hx;omega
   ·exact Vq
theorem mM(n:Nat)(p:Nat->Bool):((List.range n).filter p).Pairwise (· < ·):=List.pairwise_lt_range.filter _
theorem Y1{b:gZ}{l due:List Nat}{name:L}(hl:l.Pairwise (· < ·))(hm:∀k,k∈l↔k<b.length/\((k∈due/\wG b k=true)\/∃j∈due,ou b j name=true/\k∈ot b j)):l=iO b due name:=by
 refine wI _ _ hl (mM _ _) fun k=>?_;rw[hm];simp only[iO,List.mem_filter,List.mem_range,bw,aY,List.contains_iff_mem,List.any_eq_true]
theorem Qt{b:gZ}{l:List Nat}(hl:l.Pairwise (· < ·))(hm:∀k,k∈l↔k<b.length/\k∈ot b 0):l=(iN b).due:=by
 refine wI _ _ hl (mM _ _) fun k=>?_;rw[hm];simp only[iN,List.mem_filter,List.mem_range,List.contains_iff_mem]
def A3(b:gZ):Prop:=0<b.length/\∀(i:Nat) (x:Br),b[i]?=some x->(∀y∈x.kids,y.2<b.length)/\(x.kids.map (·.1)).Nodup
theorem LG:A3 jP:=by
 refine⟨by decide,fun i x h=>?_⟩;unfold jP at h;cases i with
 |zero=>simp at h;subst h;exact⟨fun y hy=>by simp at hy,by simp⟩
 |succ i=>simp at h
theorem Qu{x:Br}{m:Mk}(h:x.kid m=none):m∉x.kids.map (·.1):=by
 intro hm;obtain⟨y,hy,rfl⟩:=List.mem_map.1 hm;unfold Br.kid at h;rw[Option.map_eq_none_iff,List.find?_eq_none]at h;exact h y hy (by simp)
theorem Qv{x:Br}{m:Mk}{k:Nat}(h:x.kid m=some k):(m,k)∈x.kids:=by
 unfold Br.kid at h;obtain⟨y,hy,rfl⟩:=Option.map_eq_some_iff.1 h;have h1:=List.mem_of_find?_eq_some hy;have h2:=List.find?_some hy;simp only[bA]at h2;subst h2;exact h1
theorem LH{b:gZ}{i:Nat}(m:Mk)(hi:i<b.length)(h:A3 b):A3 (oP b i m).1/\(oP b i m).2<(oP b i m).1.length/\(oP b i m).1.length<=b.length+1/\b.length<=(oP b i m).1.length:=by
 have hx:b[i]?=some b[i]:=aw hi;unfold oP;rw[hx,Option.bind_some];cases hk:b[i].kid m with
 |some k=>exact⟨h,(h.2 i _ hx).1 _ (Qv hk),by simp,by simp⟩
 |none=>
  simp only;refine⟨⟨by simp,fun j y hy=>?_⟩,by simp,by simp,by simp⟩;rw[ae,bK,bn];by_cases hj:j<b.length
  ·rw[aL (by simpa using hj),bD,aw hj]at hy;by_cases e:i=j
   ·subst e;simp only[if_true,cB,cq,aJ]at hy;subst hy;obtain⟨h1,h2⟩:=h.2 i _ hx;refine⟨fun z hz=>?_,?_⟩
    ·rcases List.mem_append.1 hz with hz|hz
     ·have:=h1 z hz;omega
     ·obtain rfl:z=(m,b.length):=by simpa using hz
      simp
    ·rw[bp,List.nodup_append];refine⟨h2,by simp,fun a ha c hc=>?_⟩;obtain rfl:c=m:=by simpa using hc
     rintro rfl;exact Qu hk ha
   ·simp only[if_neg e,cB,cq,aJ]at hy;have hyy:b[j]=y:=by simpa using hy
    obtain⟨h1,h2⟩:=h.2 j y (by rw[aw hj,hyy]);exact⟨fun z hz=>by have:=h1 z hz;omega,h2⟩
  ·rw[aQ (by simp;omega)]at hy;rw[bK]at hy;cases hjj:j-b.length with
   |zero=>rw[hjj]at hy;simp at hy;subst hy;exact⟨fun z hz=>by simp at hz,by simp⟩
   |succ n=>rw[hjj]at hy;simp at hy
theorem pE:∀(l:List Mk) {b:gZ} {i:Nat},i<b.length->A3 b->A3 (iA b i l).1/\(iA b i l).2<(iA b i l).1.length/\(iA b i l).1.length<=b.length+l.length/\b.length<=(iA b i l).1.length
 |[],b,i,hi,h=>⟨h,hi,by simp[iA],by simp[iA]⟩
 |m::l,b,i,hi,h=>by
  obtain⟨h1,h2,h3,h4⟩:=LH m hi h;obtain⟨g1,g2,g3,g4⟩:=pE l h2 h1;exact⟨g1,g2,by simp only[iA,ag];omega,by simp only[iA];omega⟩
theorem Fl(p:Np){b:gZ}(h:A3 b):A3 (rb b p)/\(rb b p).length<=b.length+p.1.length/\b.length<=(rb b p).length:=by
 unfold rb;split
 ·exact⟨h,by omega,by omega⟩
 ·obtain⟨h1,h2,h3,h4⟩:=pE p.1 h.1 h;refine⟨⟨by rw[bK];exact h1.1,fun j y hy=>?_⟩,by rw[bK];exact h3,by rw[bK];exact h4⟩;rw[bK];rw[bD]at hy;cases hj:(iA b 0 p.1).1[j]? with
  |none=>rw[hj]at hy;simp at hy
  |some z=>
   rw[hj]at hy;have hz:=h1.2 j z hj;by_cases e:(iA b 0 p.1).2=j
   ·simp[e]at hy;subst hy;exact hz
   ·simp[e]at hy;subst hy;exact hz
theorem y9:∀(l:List Np) {b:gZ},A3 b->A3 (fR b l)/\b.length<=(fR b l).length
 |[],b,h=>⟨h,ah _⟩
 |p::l,b,h=>by
  obtain⟨h1,_,h3⟩:=Fl p h;obtain⟨g1,g2⟩:=y9 l h1;exact⟨g1,ar h3 g2⟩
end Go.Proofs.YtjecakcpcnmieaaGreatDoor
namespace Go.Proofs.YtjecakcpcnmieaaGreatDoor
open Go.RowKit Go.Maps Go.Lib Tryz
section
variable{w w' w1 w2 W0 W2 W4:World}{F G:Nat->Prop}{R lo:Nat}{t l l':L}{wh n:Nat}{iK:Option (L->Rs ny)}{tS tP:TypeId}{v v' vp vk vs:Value}
theorem mN(cs:List Value)(ty:TypeId)(w:World):∀j u,cs[j]?=some u->(w.alloc (.cells cs.toArray ty)).cell? ((⟨w.heap.size,0,none⟩:Addr).add j)=some u:=by
 intro j u hu;rw[dH,ay,cell_of (bu w _) (v:=u)];rw[cz];exact hu
theorem Fm(cs:List Value)(ty:TypeId)(sz:Nat)(w:World)(h:cs.length=sz)(hs:0<sz):(w.alloc (.cells cs.toArray ty)).ownsRow 0 ty sz (.slice (some ⟨w.heap.size,0,none⟩) 1 1) 1 cs:=
 ⟨by omega,Or.inr ⟨w.heap.size,1,cs.toArray,rfl,ax _,bu w _,by decide,by decide,by simp;omega,by simp[bM,h]⟩⟩
theorem GS.first{s:jd}(Df:lo<=w.heap.size)(sv:ET w (fun b=>lo<=b) tS tP vp s.iT):GS lo tS tP (w.alloc (.cells #[.bool s.deep,.string (bs s.test),vp] tS)) (.slice (some ⟨w.heap.size,0,none⟩) 1 1) [s]:=
 ⟨⟨[(s,vp)],rfl,Fm [.bool s.deep,.string (bs s.test),vp] tS 3 w rfl (by decide),fun x hx=>by
   obtain rfl:x=(s,vp):=by simpa using hx
   exact sv.move fun b hb hl=>⟨⟨hb,fun e=>by have:b=w.heap.size:=bF e;omega⟩,ap _ _ _ hl⟩⟩,fun k e=>by have:w.heap.size=k:=bF e;omega⟩
theorem GS.lt{ls:List jd}(h:GS lo tS tP w v ls){k:Nat}(e:v.ownBlock=some k):k<w.heap.size:=by obtain⟨xs,_,h2,_⟩:=h.ex;exact eU h2 e
theorem Fp{row:Option Nat}(hg:w1.grownBy w2 row)(hr:∀k,row=some k->lo<=k):Fr (fun k=>k=R\/lo<=k) w1 w2:=
 ⟨hg.os,hg.tape,hg.output,hg.size,fun k hk hf=>hg.block k hk (fun e=>hf (Or.inr (hr k e.symm)))⟩
theorem GS.Y2{ls:List jd}{s:jd}(h:GS lo tS tP W0 v ls)(fr:Fr (fun k=>k=R) W0 W2)(hR:R<lo)(Df:lo<=W0.heap.size)(sv:ET W2 (fun b=>W0.heap.size<=b) tS tP vp s.iT)(o:Obj):
  ∃xs,(W2.alloc o).ownsRow 0 tS 3 v ls.length (gR xs)/\∀v' W4,W4.ownsRow 0 tS 3 v' (ls.length+1) (gR xs++[.bool s.deep,.string (bs s.test),vp])->(W2.alloc o).grownBy W4 v.ownBlock->(v'.ownBlock=v.ownBlock\/v'.ownBlock=some (W2.alloc o).heap.size)->GS lo tS tP W4 v' (ls++[s])/\Fr (fun k=>k=R\/lo<=k) W0 W4/\Fr (fun k=>lo<=k) W2 W4:=by
 have g3:=h.fr (fr.alloc o) fun k e _=>by omega
 obtain⟨xs,x1,x2,x3⟩:=g3.ex;refine⟨xs,x2,fun v' W4 ho hg hat=>⟨g3.push x1 x3 (sv.move fun b hb hl=>⟨⟨by omega,fun e=>by have:=h.lt e.symm;omega⟩,ap _ _ _ hl⟩) (by have:=fr.size;simp;omega) ho hg hat,?_,?_⟩⟩
 ·exact((fr.alloc o).mono fun k e=>Or.inl e).same (Fp hg fun k e=>h.own k e)
 ·exact((Fr.refl _ W2).alloc o).same ⟨hg.os,hg.tape,hg.output,hg.size,fun k hk hf=>hg.block k hk (fun e=>hf (h.own k e.symm))⟩
theorem GS.last{ls:List jd}{s:jd}(h:GS lo tS tP w v (ls++[s])):∃g cap,v=Z9 g (ls.length+1) cap/\w.cell? ⟨g,ls.length*3+1,none⟩=some (.string (bs s.test)):=by
 obtain⟨xs,h1,h2,h3⟩:=h.ex;rw[ae]at h2;obtain⟨g,cap,rfl⟩:=y8 h2;obtain⟨x,hx,rfl⟩:=De (k:=ls.length) (s:=s) h1 (by simp);exact⟨g,cap,rfl,iz h2 (kG xs _ x 1 _ hx rfl)⟩
theorem MJ{ls:List jd}{s:jd}{g cap:Nat}(h:RD R t wh n w l)(hc:w.cell? ⟨g,ls.length*3+1,none⟩=some (.string (bs s.test)))(hn:ls.length<=500):Z4 189 #[ptr R,Z9 g (ls.length+1) cap] w (Z7 (.bool (gz s l)) w):=by
 have HP:=a_ (oU h);have HC:Hid (∀W,Z5 w W->W.cell? ⟨g,ls.length*3+1,none⟩=some (.string (bs s.test))):=fun W hW=>(aj (hW.block g (bE w _ hc))).trans hc;have hw1:IntKind.i64.wrap (((ls.length+1:Nat):Int)-1)=(ls.length:Int):=by rw[aD];omega
 have hw2:IntKind.i64.wrap (((ls.length:Int)+1)-1)=(ls.length:Int):=by rw[aD];omega
 have lI:(ls.length:Int)<((ls.length+1:Nat):Int):=by omega
 have hk2:(ls.length:Int)<(ls.length:Int)+1:=by omega
 obtain⟨b0,hb0⟩:∃b,(s.test==[35])=b:=⟨_,rfl⟩
 obtain⟨b1,hb1⟩:∃b,(part l==[47])=b:=⟨_,rfl⟩
 obtain⟨b2,hb2⟩:∃b,(part l==[47,47])=b:=⟨_,rfl⟩
 have hgo:gz s l=(!b0&&(b1||b2)):=by unfold gz;rw[hb1,hb2,bne,hb0]
 have e0:((bs s.test).toList==[35])=b0:=by rw[kU];exact hb0
 have e1:((bs (part l)).toList==[47])=b1:=by rw[kU];exact hb1
 have e2:((bs (part l)).toList==[47,47])=b2:=by rw[kU];exact hb2
 rw[hgo];generalize bs (part l)=S at*
 generalize bs s.test=T at*
 generalize ls.length=k at*
 clear h hgo hb0 hb1 hb2 hc;cases b0<;>cases b1<;>cases b2
 all_goals
  go_enter func189,ntmps189;go_wp2_with(first|(go_at_call 190;refine HP.out.mono ?_;rintro e w1 ⟨rfl,hb⟩;have hc1:=HC.out _ hb));go_ret;exact⟨rfl,hb⟩
theorem MK{ls:List jd}{s:jd}(h:RD R t wh n w l)(hg:GS lo 173 212 w v (ls++[s]))(hn:ls.length<=500):Z4 189 #[ptr R,v] w (Z7 (.bool (gz s l)) w):=by
 obtain⟨g,cap,rfl,hc⟩:=hg.last;exact MJ h hc hn
end
section
variable{w w' w1 w2 W0 W2 W4:World}{F G:Nat->Prop}{R lo:Nat}{t l l':L}{wh n:Nat}{iK:Option (L->Rs ny)}{v v' vp vk vs:Value}
theorem uq{α β:Type}(a:α)(l:L)(f:α->L->Rs β):thn (.ok (a,l)) f=f a l:=rfl
theorem Qw{α β:Type}(y:Nat×Nat)(f:α->L->Rs β):thn (.error y) f=.error y:=rfl
structure PI(R:Nat)(t:L)(wh n:Nat)(iK:Option (L->Rs ny))(w:World)(X:Rs (List jd))(wr:World)(v:Value)(ls:List jd)(s:jd)(lc:L):Prop where
 rd:RD R t wh n wr lc
 gs:GS w.heap.size 173 212 wr v (ls++[s])
 fr:Fr (fun k=>k=R\/w.heap.size<=k) w wr
 eq:∃fu,lc.length<fu/\X=thn (k_ (fU t wh) iK fu s lc) fun qs l=> .ok (ls++s::qs,l)
 sm:ls.length+1+lc.length<=501
 lt:R<w.heap.size
theorem PI.below{X:Rs (List jd)}{wr W:World}{ls:List jd}{s:jd}{lc:L}(h:PI R t wh n iK w X wr v ls s lc)(hb:Z5 wr W):PI R t wh n iK w X W v ls s lc:=
 ⟨h.rd.below hb,h.gs.fr (Fr.below (F:=fun _=>False) hb) (fun _ x _=>x.elim),h.fr.on hb,h.eq,h.sm,h.lt⟩
theorem PI.go{X:Rs (List jd)}{wr:World}{ls:List jd}{s:jd}{lc:L}(h:PI R t wh n iK w X wr v ls s lc)(hg:gz s lc=true):
  (∀y,jL (fU t wh) lc=.error y->X=.error y)/\∀d l1,jL (fU t wh) lc=.ok (d,l1)->l1.length<lc.length/\(∀y,step (fU t wh) iK d l1=.error y->X=.error y)/\
   ∀s' l2,step (fU t wh) iK d l1=.ok (s',l2)->l2<:+l1->∃fu,l2.length<fu/\X=thn (k_ (fU t wh) iK fu s' l2) fun qs l=> .ok ((ls++[s])++s'::qs,l):=by
 obtain⟨fu,e1,e2⟩:=h.eq;cases fu with
 |zero=>omega
 |succ fu=>
  rw[k_,if_pos hg]at e2;refine⟨fun y hy=>by rw[e2,hy];rfl,fun d l1 hy=>⟨yR hy,fun y hz=>by rw[e2,hy];simp only[uq,Qw,hz],fun s' l2 hz hs=>⟨fu,by have:=hs.length_le;have:=yR hy;omega,?_⟩⟩⟩;rw[e2,hy];simp only[uq,hz];cases k_ (fU t wh) iK fu s' l2 with
  |error y=>rfl
  |ok z=>obtain⟨za,zb⟩:=z;simp only[uq,aM,aI,bR]
theorem PI.stop{X:Rs (List jd)}{wr:World}{ls:List jd}{s:jd}{lc:L}(h:PI R t wh n iK w X wr v ls s lc)(hg:gz s lc=false):X=.ok (ls++[s],lc):=by
 obtain⟨fu,e1,e2⟩:=h.eq;rw[e2];cases fu with
 |zero=>omega
 |succ fu=>rw[k_,if_neg (by rw[hg];simp)];rfl
def SL(A:Nat->Prop)(w:World)(v:Value)(ls:List jd):Prop:=um w A 173 212 v (fG.of ls)
theorem LJ(hi:I0 t iK)(h:RD R t wh n w l):Z4 146 #[ptr R] w (Ends R t wh n (SL (fun b=>w.heap.size<=b)) w (path (fU t wh) iK l)):=by
 have HSL:=a_ (u_ h);have hR:=h.lt;have h5:l.length<=500:=by have:=h.le;have:=h.tw;have:=h.Qk;omega
 unfold path;cases hx:jL (fU t wh) l with
 |error y=>
  rw[hx]at HSL;simp only[thn];clear hx h;go_enter func146,ntmps146;go_wp2_with(first|(go_at_call 188;refine HSL.out.mono ?_;rintro e w2 ⟨rfl,fr⟩));exact⟨rfl,rfl,fr⟩
 |ok z=>
  obtain⟨d,l1⟩:=z;rw[hx]at HSL;have HST:Hid (∀W,RD R t wh n W l1->Z4 187 #[ptr R,.bool d] W (Ends R t wh n (SV (fun b=>W.heap.size<=b) 173 212) W (step (fU t wh) iK d l1))):=fun W hW=>LF d hi hW;have tR:=(sj l d l1 hx).length_le;have adk:=yR hx;simp only[thn];clear hx h;cases hy:step (fU t wh) iK d l1 with
  |error y=>
   rw[hy]at HST;clear hy;go_enter func146,ntmps146;go_wp2_with(first|(go_at_call 188;refine HSL.out.mono ?_;rintro e w2 ⟨v,rfl,rfl,rd,fr⟩)|(go_at_call 187;refine(HST.out _ rd).mono ?_;rintro e w3 ⟨rfl,ve⟩));exact⟨rfl,rfl,fr.same ve⟩
  |ok z=>
   obtain⟨s,l2⟩:=z;rw[hy]at HST;have hl2:=(pz hi.Ix d l1 s l2 hy).length_le;simp only;obtain⟨X,hX⟩:∃X,(thn (k_ (fU t wh) iK (l2.length+1) s l2) fun ss l=>(.ok (s::ss,l):Rs (List jd)))=X:=⟨_,rfl⟩
   have hX':=hX;simp only[thn]at hX;rw[hX];clear hX;have HL:Hid (∀W1 W2 v,Fr (fun k=>k=R) w W1->Fr (fun k=>k=R) W1 W2->RD R t wh n W2 l2->SV (fun b=>W1.heap.size<=b) 173 212 W2 v s->∃te vi vn vc,v=.agg #[.bool s.deep,.string te,.slice vi vn vc]/\PI R t wh n iK w X (W2.alloc (.cells #[.bool s.deep,.string te,.slice vi vn vc] 173)) (.slice (some ⟨W2.heap.size,0,none⟩) 1 1) [] s l2):=fun W1 W2 v f1 f2 rd sv=>by
    obtain⟨vp,rfl,sp⟩:=sv;obtain⟨vi,vc,rfl⟩:=sl.shape sp;refine⟨_,vi,_,vc,rfl,rd.fr ((Fr.refl (fun _=>False) W2).alloc _) (fun x=>x),GS.first (lo:=w.heap.size) (ar f1.size f2.size) (sp.move fun b hb _=>⟨ar f1.size hb,rfl⟩),((f1.same f2).alloc _).mono (fun k e=>Or.inl e),⟨l2.length+1,by omega,by rw[<-hX'];rfl⟩,by simp;omega,hR⟩
   have HI:=a_ hi;clear hy hX' hi;obtain⟨i0,hi,hz0,hz1,hz2⟩:=bk Dg;go_enter func146,ntmps146;go_wp2_with(first|(go_at_call 188;refine HSL.out.mono ?_;rintro e w2 ⟨v,rfl,rfl,rd,fr⟩)|(go_at_call 187;refine(HST.out _ rd).mono ?_;rintro e w3 ⟨v,rfl,sv3,LA,ve⟩;obtain⟨te,vi,vn,vc,rfl,hP⟩:=HL.out _ _ _ fr ve LA sv3;have HP0:=a_ hP;clear hP sv3));clear rd LA fr ve;go_loopw [3,9,10,11,12,13,14,15,16,17,18] (fun u3 _ _ _ _ _ _ _ _ _ _ wr=>∃ls s lc,PI R t wh n iK w X wr u3 ls s lc) (fun _ _ _ _ _ _ _ _ _ _ _ wr=>LD R t wr)
   case atStart=>exact⟨_,_,_,HP0.out⟩
   case round=>
    rename World=>WO
    obtain⟨ls,s,lc,hP⟩:=hrel;have HG:=a_ (MK hP.rd hP.gs (by have:=hP.sm;omega));have Vp:LD R t WO=lc.length:=hP.rd.LD;have PV:=a_ hP;obtain⟨bg,hbg⟩:∃b,gz s lc=b:=⟨_,rfl⟩
    rw[hbg]at HG;cases bg with
    |false=>
     have hX:=hP.stop hbg;subst hX;have HE:Hid (∀W,Z5 WO W->SL (fun b=>w.heap.size<=b) W u3 (ls++[s])/\RD R t wh n W lc/\Fr (fun k=>k=R) w W):=fun W hW=>by
      have q:=PV.out.below hW;exact⟨q.gs.done (by have:=q.sm;simp;omega) (fun e=>by simp at e),q.rd,q.fr.restrict (fun k hk x=>by omega)⟩
     clear hP hbg;go_wp2_with(first|(go_at_call 189;refine HG.out.mono ?_;rintro e w4 ⟨rfl,hb4⟩));obtain⟨e1,e2,e3⟩:=HE.out _ hb4;go_ret;exact⟨_,rfl,e1,e2,e3⟩
    |true=>
     have hgo:=hP.go hbg;have Qx:Hid (∀W,RD R t wh n W lc->Z4 188 #[ptr R] W (Ends R t wh n VB W (jL (fU t wh) lc))):=fun W hW=>u_ hW;clear hP hbg;cases hs1:jL (fU t wh) lc with
     |error y=>
      have hX:=hgo.1 y hs1;subst hX;rw[hs1]at Qx;clear hs1 hgo;go_wp2_with(first|(go_at_call 189;refine HG.out.mono ?_;rintro e w4 ⟨rfl,hb4⟩;have Dc:=PV.out.rd.below hb4)|(go_at_call 188;refine(Qx.out _ Dc).mono ?_;rintro e w5 ⟨rfl,IY⟩));exact⟨rfl,rfl,((PV.out.fr.on hb4).trans IY (fun i hi x=>Or.inl x)).restrict (fun k hk x=>by omega)⟩
     |ok z=>
      obtain⟨d1,l3⟩:=z;obtain⟨adl,Y3,Y4⟩:=hgo.2 d1 l3 hs1;rw[hs1]at Qx;have I3:Hid (∀W,RD R t wh n W l3->Z4 187 #[ptr R,.bool d1] W (Ends R t wh n (SV (fun b=>W.heap.size<=b) 173 212) W (step (fU t wh) iK d1 l3))):=fun W hW=>LF d1 HI.out hW;clear hs1 hgo;cases hs2:step (fU t wh) iK d1 l3 with
      |error y=>
       have hX:=Y3 y hs2;subst hX;rw[hs2]at I3;clear hs2 Y3 Y4;go_wp2_with(first|(go_at_call 189;refine HG.out.mono ?_;rintro e w4 ⟨rfl,hb4⟩;have Dc:=PV.out.rd.below hb4)|(go_at_call 188;refine(Qx.out _ Dc).mono ?_;rintro e w5 ⟨v5,rfl,rfl,Qn,IY⟩)|(go_at_call 187;refine(I3.out _ Qn).mono ?_;rintro e w6 ⟨rfl,Y0⟩));exact⟨rfl,rfl,((PV.out.fr.on hb4).trans (IY.same Y0) (fun i hi x=>Or.inl x)).restrict (fun k hk x=>by omega)⟩
      |ok z=>
       obtain⟨s',l4⟩:=z;rw[hs2]at I3;have hsf:=pz HI.out.Ix d1 l3 s' l4 hs2;have hl4:=hsf.length_le;have Qy:=a_ (Y4 s' l4 hs2 hsf);clear hs2 Y3 Y4;have Qz:Hid (∀W1 W2 W3 v,Z5 WO W1->Fr (fun k=>k=R) W1 W2->Fr (fun k=>k=R) W2 W3->RD R t wh n W3 l4->SV (fun b=>W2.heap.size<=b) 173 212 W3 v s'->∃te vi vn vc,v=.agg #[.bool s'.deep,.string te,.slice vi vn vc]/\∃xs,(W3.alloc (.cells #[.bool s'.deep,.string te,.slice vi vn vc] 173)).ownsRow 0 173 3 u3 (ls.length+1) (gR xs)/\∀v' W4,W4.ownsRow 0 173 3 v' (ls.length+1+1) (gR xs++[.bool s'.deep,.string te,.slice vi vn vc])->(W3.alloc (.cells #[.bool s'.deep,.string te,.slice vi vn vc] 173)).grownBy W4 u3.ownBlock->(v'.ownBlock=u3.ownBlock\/v'.ownBlock=some (W3.heap.size+1))->PI R t wh n iK w X W4 v' (ls++[s]) s' l4):=fun W1 W2 W3 v b1 f2 f3 rd sv=>by
        obtain⟨vp,rfl,sp⟩:=sv;obtain⟨vi,vc,rfl⟩:=sl.shape sp;have q:=PV.out.below b1;have hz:=q.fr.size;obtain⟨xs,x1,x2⟩:=(q.gs.fr f2 (fun k e _=>by omega)).Y2 f3 hR (ar hz f2.size) sp (.cells #[.bool s'.deep,.string (bs s'.test),.slice vi s'.iT.len vc] 173);rw[ae]at x1 x2;refine⟨_,vi,_,vc,rfl,xs,x1,fun v' W4 ho hg hat=>?_⟩;obtain⟨g1,g2,g3⟩:=x2 v' W4 ho hg (by simpa using hat);exact⟨rd.fr g3 (by omega),g1,(q.fr.trans f2 (fun i hi x=>Or.inl x)).same g2,Qy.out,by have:=q.sm;simp;omega,hR⟩
       go_wp2_with(first|(go_at_call 189;refine HG.out.mono ?_;rintro e w4 ⟨rfl,hb4⟩;have Dc:=PV.out.rd.below hb4)|(go_at_call 188;refine(Qx.out _ Dc).mono ?_;rintro e w5 ⟨v5,rfl,rfl,Qn,IY⟩)|(go_at_call 187;refine(I3.out _ Qn).mono ?_;rintro e w6 ⟨v6,rfl,sv6,rd6,Y0⟩;obtain⟨te6,vi6,vn6,vc6,rfl,xs,hx1,hx2⟩:=Qz.out _ _ _ _ hb4 IY Y0 rd6 sv6;have HX2:=a_ hx2;clear hx2 sv6)|(at_builtin;refine bj _ rfl (.tmp 12) (.tmp 17) 169 rfl 0 173 i0 _ 3 48 underlying169 hi hz0 hz1 hz2 rfl (by decide) u3 (ls.length+1) (gR xs) rfl hx1 ⟨w6.heap.size,0,none⟩ 1 1 [.bool s'.deep,.string te6,.slice vi6 vn6 vc6] rfl rfl (mN _ _ _) ?c2 ?c3 ?c4 (ax _) ?_))
       case c2=>
        intro u hu;simp only[cE,cn,cK]at hu;rcases hu with rfl|rfl|rfl<;>rfl
       case c3=>have:=PV.out.sm;unfold maxLen;omega
       case c4=>have:=PV.out.sm;omega
       intro v' w7 ho hg _ hat;have hP7:=HX2.out v' w7 ho hg (by simpa using hat);go_wp2;exact⟨⟨_,_,_,hP7⟩,by rw[hP7.rd.LD,Vp];omega⟩
end
section
variable{w w' w1 w2 W0 W1 W2 W3 W4 WO wr W W5:World}{A A' F G:Nat->Prop}{R lo:Nat}{t l l':L}{wh n:Nat}{v v' vp:Value}{tQ tS tP:TypeId}
def QS(w:World)(A:Nat->Prop)(tQ tS tP:TypeId)(v:Value)(l:List (List jd)):Prop:=sl w A tQ v l.length fun g=>∀i p,l[i]?=some p->∃u,w.cell? ⟨g,i,none⟩=some u/\um w A tS tP u (fG.of p)
theorem QS.move{l:List (List jd)}(hm:Move A A' w w')(h:QS w A tQ tS tP v l):QS w' A' tQ tS tP v l:=
 sl.move hm h fun g ha hl hr i p hi=>by
  obtain⟨u,h1,h2⟩:=hr i p hi;exact⟨u,(aj (hm g ha hl).2).trans h1,h2.move hm⟩
structure GQ(lo:Nat)(tQ tS tP:TypeId)(w:World)(v:Value)(l:List (List jd)):Prop where
 ex:∃xs:List (List jd×Value),xs.map (·.1)=l/\w.ownsRow 0 tQ 1 v l.length (xs.map (·.2))/\∀x∈xs,um w (fun b=>lo<=b/\some b≠v.ownBlock) tS tP x.2 (fG.of x.1)
 own:∀k,v.ownBlock=some k->lo<=k
variable{lq:List (List jd)}{p:List jd}
theorem GQ.lt(h:GQ lo tQ tS tP w v lq){k:Nat}(e:v.ownBlock=some k):k<w.heap.size:=by obtain⟨xs,_,h2,_⟩:=h.ex;exact eU h2 e
theorem GQ.fr(h:GQ lo tQ tS tP w v lq)(hf:Fr F w w')(hF:∀k,F k->k<w.heap.size->k<lo):GQ lo tQ tS tP w' v lq:=by
 obtain⟨xs,h1,h2,h3⟩:=h.ex;have hb:∀b,lo<=b->b<w.heap.size->w'.heap[b]?=w.heap[b]?:=fun b h1 h2=>hf.block b h2 (fun x=>by have:=hF b x h2;omega);exact⟨⟨xs,h1,eI h2 fun k e=>hb k (h.own k e) (eU h2 e),fun x hx=>(h3 x hx).move fun b ha hl=>⟨ha,hb b ha.1 hl⟩⟩,h.own⟩
theorem GQ.first(Df:lo<=w.heap.size)(sv:um w (fun b=>lo<=b) tS tP vp (fG.of p)):GQ lo tQ tS tP (w.alloc (.cells #[vp] tQ)) (.slice (some ⟨w.heap.size,0,none⟩) 1 1) [p]:=
 ⟨⟨[(p,vp)],rfl,Fm [vp] tQ 1 w rfl (by decide),fun x hx=>by
   obtain rfl:x=(p,vp):=by simpa using hx
   exact sv.move fun b hb hl=>⟨⟨hb,fun e=>by have:b=w.heap.size:=bF e;omega⟩,ap _ _ _ hl⟩⟩,fun k e=>by have:w.heap.size=k:=bF e;omega⟩
theorem GQ.Y2(h:GQ lo tQ tS tP W0 v lq)(fr:Fr (fun k=>k=R) W0 W2)(hR:R<lo)(Df:lo<=W0.heap.size)(sv:um W2 (fun b=>W0.heap.size<=b) tS tP vp (fG.of p))(o:Obj):
  ∃xs,(W2.alloc o).ownsRow 0 tQ 1 v lq.length xs/\∀v' W4,W4.ownsRow 0 tQ 1 v' (lq.length+1) (xs++[vp])->(W2.alloc o).grownBy W4 v.ownBlock->(v'.ownBlock=v.ownBlock\/v'.ownBlock=some (W2.alloc o).heap.size)->GQ lo tQ tS tP W4 v' (lq++[p])/\Fr (fun k=>k=R\/lo<=k) W0 W4/\Fr (fun k=>lo<=k) W2 W4:=by
 have g3:=h.fr (fr.alloc o) fun k e _=>by omega
 obtain⟨xs,x1,x2,x3⟩:=g3.ex;refine⟨_,x2,fun v' W4 ho hg hat=>⟨⟨⟨xs++[(p,vp)],by rw[bp,x1];rfl,by rw[ae,bp];exact ho,fun x hx=>?_⟩,fun k e=>?_⟩,?_,?_⟩⟩
 ·have hz:=fr.size;have hm:Move (fun b=>lo<=b/\some b≠v.ownBlock) (fun b=>lo<=b/\some b≠v'.ownBlock) (W2.alloc o) W4:=fun b ha hl=>⟨⟨ha.1,by rcases hat with e|e<;>rw[e];exact ha.2;intro x;cases x;omega⟩,hg.block b hl ha.2⟩
  rcases List.mem_append.1 hx with hx|hx
  ·exact(x3 x hx).move hm
  ·obtain rfl:x=(p,vp):=by simpa using hx
   exact(sv.move (A':=fun b=>lo<=b/\some b≠v.ownBlock) (w':=W2.alloc o) fun b hb hl=>⟨⟨by omega,fun e=>by have:=h.lt e.symm;omega⟩,ap _ _ _ hl⟩).move hm
 ·rcases hat with x|x
  ·exact h.own k (x▸e)
  ·rw[x]at e;cases e;have:=fr.size;simp;omega
 ·exact((fr.alloc o).mono fun k e=>Or.inl e).same (Fp hg fun k e=>h.own k e)
 ·exact((Fr.refl _ W2).alloc o).same ⟨hg.os,hg.tape,hg.output,hg.size,fun k hk hf=>hg.block k hk (fun e=>hf (h.own k e.symm))⟩
theorem GQ.done(h:GQ lo tQ tS tP w v lq)(hn:lq.length<=1000)(hne:lq≠[]):QS w (fun b=>lo<=b) tQ tS tP v lq:=by
 obtain⟨xs,h1,h2,h3⟩:=h.ex;obtain⟨ai,cap,rfl⟩:=eE h2;have hz:lq.length≠0:=fun e=>hne (List.length_eq_zero_iff.1 e);rcases h2.2 with⟨e,e2⟩|⟨g,cap',cur,e1,h0,hg,hr⟩
 ·omega
 ·cases e1;refine Or.inr ⟨g,cap,cur,rfl,h.own g rfl,hg,hn,by omega,fun k s hk=>?_⟩;obtain⟨x,hx,rfl⟩:=De h1 hk;exact⟨x.2,iz h2 (by rw[aX,hx];rfl),(h3 x (p8 hx)).move fun b ha _=>⟨ha.1,rfl⟩⟩
theorem Y5:(prog.info? 169).map (fun i=>(i.zero,i.size,i.bytes))=some (some (.slice none 0 0),1,24):=by kernel_rfl
structure QI(R:Nat)(t:L)(wh:Nat)(w:World)(X:Rs (List (List jd)))(wr:World)(v:Value)(ls:List (List jd))(lc:L):Prop where
 rd:RD R t wh 0 wr lc
 gq:GQ w.heap.size 169 173 212 wr v ls
 fr:Fr (fun k=>k=R\/w.heap.size<=k) w wr
 eq:∃fu,lc.length<fu/\X=thn (lC (fU t wh) fu lc) fun qs l=>if l=[]/\fU t wh=false then .ok (ls++qs,l)else .error (bad (fU t wh) l)
 sm:ls.length+lc.length<=501
 ne:ls≠[]
 lt:R<w.heap.size
variable{X:Rs (List (List jd))}{ls:List (List jd)}{lc:L}
theorem QI.stop(h:QI R t wh w X wr v ls lc)(hg:part lc≠[124]):X=if lc=[]/\fU t wh=false then .ok (ls,lc)else .error (bad (fU t wh) lc):=by
 obtain⟨fu,e1,e2⟩:=h.eq;rw[e2];cases fu with
 |zero=>omega
 |succ fu=>rw[lC,if_neg hg];simp only[uq,aO]
theorem QI.go(h:QI R t wh w X wr v ls lc)(hg:part lc=[124]):
  (∀y,path (fU t wh) (AZ (fU t wh) 8) (pass 1 lc)=.error y->X=.error y)/\∀p l2,path (fU t wh) (AZ (fU t wh) 8) (pass 1 lc)=.ok (p,l2)->l2.length<lc.length/\∃fu,l2.length<fu/\X=thn (lC (fU t wh) fu l2) fun qs l=>if l=[]/\fU t wh=false then .ok ((ls++[p])++qs,l)else .error (bad (fU t wh) l):=by
 obtain⟨fu,e1,e2⟩:=h.eq;cases fu with
 |zero=>omega
 |succ fu=>
  rw[lC,if_pos hg]at e2;refine⟨fun y hy=>by rw[e2,hy];rfl,fun p l2 hy=>?_⟩;have h1:=(E9 (yV 8) _ p l2 hy).length_le;have h2:=C2 (n:=1) (l:=lc) (by decide) (C3 hg (by decide));refine⟨by omega,fu,by omega,?_⟩;rw[e2,hy];simp only[uq];cases lC (fU t wh) fu l2 with
  |error y=>rfl
  |ok z=>obtain⟨za,zb⟩:=z;simp only[uq,aM,aI,bR]
def QV(A:Nat->Prop)(w:World)(v:Value)(ls:List (List jd)):Prop:=QS w A 169 173 212 v ls
theorem in8{cut:Bool}(h:(91:UInt8)∉t):I0 t (AZ cut 8):=⟨h,yV 8⟩
theorem QA(Fq:(91:UInt8)∉t)(h:RD R t wh 0 w l):Z4 111 #[ptr R] w (Ends R t wh 0 (QV (fun b=>w.heap.size<=b)) w (query (fU t wh) l)):=by
 have HPA:Hid (Z4 145 #[ptr R,.int .i64 0] w fun e w'=>e=.returned (.tuple #[])/\RD R t wh 0 w' (pass 0 l)/\Fr (fun k=>k=R) w w'):=C7 0 h (ax _);have hR:=h.lt;have h5:(pass 0 l).length<=500:=by have:=(jU 0 l).length_le;have:=h.le;have:=h.tw;have:=h.Qk;omega
 have IV:=h.tw;have HPT:Hid (∀W,RD R t wh 0 W (pass 0 l)->Z4 146 #[ptr R] W (Ends R t wh 0 (SL (fun b=>W.heap.size<=b)) W (path (fU t wh) (AZ (fU t wh) 8) (pass 0 l)))):=fun W hW=>LJ (in8 Fq) hW;unfold query;cases hx:path (fU t wh) (AZ (fU t wh) 8) (pass 0 l)with
 |error y=>
  rw[hx]at HPT;simp only[Qw];clear hx h;go_enter func111,ntmps111;go_wp2_with(first|(go_at_call 145;refine HPA.out.mono ?_;rintro e w2 ⟨rfl,rd,fr⟩)|(go_at_call 146;refine(HPT.out _ rd).mono ?_;rintro e w3 ⟨rfl,ve⟩));exact⟨rfl,rfl,fr.same ve⟩
 |ok z=>
  obtain⟨p,l1⟩:=z;rw[hx]at HPT;have tR:=(E9 (yV 8) _ p l1 hx).length_le;simp only[uq];clear hx h;obtain⟨X,hX⟩:∃X,(thn (lC (fU t wh) (l1.length+1) l1) fun ps l=>if l=[]/\fU t wh=false then(.ok (p::ps,l):Rs (List (List jd)))else .error (bad (fU t wh) l))=X:=⟨_,rfl⟩
  rw[hX];have HQ0:Hid (∀W1 W2 v,Fr (fun k=>k=R) w W1->Fr (fun k=>k=R) W1 W2->RD R t wh 0 W2 l1->SL (fun b=>W1.heap.size<=b) W2 v p->∃vi vn vc,v=.slice vi vn vc/\QI R t wh w X (W2.alloc (.cells #[.slice vi vn vc] 169)) (.slice (some ⟨W2.heap.size,0,none⟩) 1 1) [p] l1):=fun W1 W2 v f1 f2 rd sv=>by
   obtain⟨vi,vc,rfl⟩:=sl.shape sv;have fa:Fr (fun _=>False) W2 (W2.alloc (.cells #[.slice vi (fG.of p).len vc] 169)):=(Fr.refl _ W2).alloc _;exact⟨vi,_,vc,rfl,rd.fr fa (fun x=>x),GQ.first (ar f1.size f2.size) (um.move (fun b hb _=>⟨ar f1.size hb,rfl⟩) sv),((f1.same f2).mono (fun _ x=>Or.inl x)).trans fa (fun _ _ x=>x.elim),⟨l1.length+1,by omega,by rw[<-hX];rfl⟩,by simp;omega,by simp,hR⟩
  clear hX;obtain⟨i0,hi,hz0,hz1,hz2⟩:=bk Y5;go_enter func111,ntmps111;go_wp2_with(first|(go_at_call 145;refine HPA.out.mono ?_;rintro e w2 ⟨rfl,rd,fr⟩)|(go_at_call 146;refine(HPT.out _ rd).mono ?_;rintro e w3 ⟨v3,rfl,sv3,LA,ve⟩;obtain⟨vi,vn,vc,rfl,hQ⟩:=HQ0.out _ _ _ fr ve LA sv3;have HQ:=a_ hQ;clear hQ sv3));clear rd LA fr ve;generalize (World.alloc w3 _)=WS at*
  generalize (Value.slice (some ⟨w3.heap.size,0,none⟩) 1 1)=V0 at*
  go_loopw [3,9,10,11,12,13,14,15] (fun u3 _ _ _ _ _ _ _ wr=>∃ls lc,QI R t wh w X wr u3 ls lc) (fun _ _ _ _ _ _ _ _ wr=>LD R t wr)
  case atStart=>exact⟨_,_,HQ.out⟩
  case round=>
   rename World=>WO
   obtain⟨ls,lc,hQ⟩:=hrel;have Vp:LD R t WO=lc.length:=hQ.rd.LD;have HQ1:=a_ hQ;obtain⟨b,hb⟩:∃b,decide (part lc=[124])=b:=⟨_,rfl⟩
   have HT:=a_ (C9 [124] hQ.rd b hb);cases b with
   |true=>
    have hp:part lc=[124]:=by simpa using hb
    have hgo:=hQ.go hp;simp only[if_true]at HT;have HT:Hid (Z4 147 #[ptr R,.string ⟨#[124]⟩] WO fun e w'=>e=.returned (.bool true)/\RD R t wh 0 w' (pass 1 lc)/\Fr (fun k=>k=R) WO w'):=HT;have Y6:Hid (∀W,RD R t wh 0 W (pass 1 lc)->Z4 146 #[ptr R] W (Ends R t wh 0 (SL (fun b=>W.heap.size<=b)) W (path (fU t wh) (AZ (fU t wh) 8) (pass 1 lc)))):=fun W hW=>LJ (in8 Fq) hW;clear hb hQ hp;cases hy:path (fU t wh) (AZ (fU t wh) 8) (pass 1 lc)with
    |error y=>
     have hX:=hgo.1 y hy;subst hX;rw[hy]at Y6;clear hy hgo;go_wp2_with(first|(go_at_call 147;refine HT.out.mono ?_;rintro e w4 ⟨rfl,Dc,IX⟩)|(go_at_call 146;refine(Y6.out _ Dc).mono ?_;rintro e w5 ⟨rfl,IY⟩));exact⟨rfl,rfl,(HQ1.out.fr.trans (IX.same IY) (fun i hi x=>Or.inl x)).restrict (fun k hk x=>by omega)⟩
    |ok z=>
     obtain⟨p2,l2⟩:=z;obtain⟨hlt,Qy⟩:=hgo.2 p2 l2 hy;have Qy:=a_ Qy;rw[hy]at Y6;clear hy hgo;have Qz:Hid (∀W1 W2 v,Fr (fun k=>k=R) WO W1->Fr (fun k=>k=R) W1 W2->RD R t wh 0 W2 l2->SL (fun b=>W1.heap.size<=b) W2 v p2->∃vi vn vc,v=.slice vi vn vc/\∃xs,(W2.alloc (.cells #[.slice vi vn vc] 169)).ownsRow 0 169 1 u3 ls.length xs/\∀v' W4,W4.ownsRow 0 169 1 v' (ls.length+1) (xs++[.slice vi vn vc])->(W2.alloc (.cells #[.slice vi vn vc] 169)).grownBy W4 u3.ownBlock->(v'.ownBlock=u3.ownBlock\/v'.ownBlock=some (W2.heap.size+1))->QI R t wh w X W4 v' (ls++[p2]) l2):=fun W1 W2 v f1 f2 rd sv=>by
      obtain⟨vi,vc,rfl⟩:=sl.shape sv;have q:=HQ1.out;have hz:=q.fr.size;obtain⟨xs,x1,x2⟩:=(q.gq.fr f1 (fun k e _=>by omega)).Y2 f2 hR (ar hz f1.size) sv (.cells #[.slice vi (fG.of p2).len vc] 169);refine⟨vi,_,vc,rfl,xs,x1,fun v' W4 ho hg hat=>?_⟩;obtain⟨g1,g2,g3⟩:=x2 v' W4 ho hg (by simpa using hat);exact⟨rd.fr g3 (by omega),g1,(q.fr.trans f1 (fun i hi x=>Or.inl x)).trans g2 (fun i hi x=>by omega),Qy.out,by have:=q.sm;simp;omega,by simp,hR⟩
     go_wp2_with(first|(go_at_call 147;refine HT.out.mono ?_;rintro e w4 ⟨rfl,Dc,IX⟩)|(go_at_call 146;refine(Y6.out _ Dc).mono ?_;rintro e w5 ⟨v5,rfl,sv5,Qn,IY⟩;obtain⟨vi5,vn5,vc5,rfl,xs,hx1,hx2⟩:=Qz.out _ _ _ IX IY Qn sv5;have HX2:=a_ hx2;clear hx2 sv5)|(at_builtin;refine bj _ rfl (.tmp 11) (.tmp 14) 176 rfl 0 169 i0 _ 1 24 underlying176 hi hz0 hz1 hz2 rfl (by decide) u3 ls.length xs rfl hx1 ⟨w5.heap.size,0,none⟩ 1 1 [.slice vi5 vn5 vc5] rfl rfl (mN _ _ _) ?c2 ?c3 ?c4 (ax _) ?_))
     case c2=>intro u hu;simp only[cE,cn,cK]at hu;subst hu;rfl
     case c3=>have:=HQ1.out.sm;unfold maxLen;omega
     case c4=>have:=HQ1.out.sm;omega
     intro v' w7 ho hg _ hat;have hQ7:=HX2.out v' w7 ho hg (by simpa using hat);go_wp2;exact⟨⟨_,_,hQ7⟩,by rw[hQ7.rd.LD,Vp];omega⟩
   |false=>
    have hX:=hQ.stop (by simpa using hb);simp only[aA,bf]at HT;have HT:Hid (Z4 147 #[ptr R,.string ⟨#[124]⟩] WO fun e w'=>e=.returned (.bool false)/\RD R t wh 0 w' lc/\Fr (fun k=>k=R) WO w'):=HT;have hle:=hQ.rd.le;clear hb hQ;by_cases hend:lc=[]/\fU t wh=false
    ·rw[if_pos hend]at hX;subst hX;have hlt:decide (t.length-lc.length<wh)=false:=by rw[hend.1];simpa [fU]using hend.2
     have yY:decide (((t.length-lc.length:Nat):Int)<(wh:Int))=false:=by rw[hend.1];have:=hend.2;simp[fU]at this;simp;omega
     clear hend;have HCC:Hid (∀W,RD R t wh 0 W lc->W.cell? ⟨R,1,none⟩=some (.int .i64 wh)/\W.cell? ⟨R,2,none⟩=some (.int .i64 ((t.length-lc.length:Nat):Int))):=fun W hW=>⟨cell_of hW.blk rfl,cell_of hW.blk rfl⟩
     generalize t.length-lc.length=K at*
     go_wp2_with(first|(go_at_call 147;refine HT.out.mono ?_;rintro e w4 ⟨rfl,Dc,IX⟩;obtain⟨c1,c2⟩:=HCC.out _ Dc));go_quiet(fail);go_wp2;go_ret;have q:=HQ1.out;have f5:Fr (fun k=>k=R) WO (w4.drewN nq):=IX.drewN nq;exact⟨_,rfl,((q.gq.fr f5 (fun k e _=>by omega)).done (by have:=q.sm;omega) q.ne),Dc.fr (F:=fun _=>False) ((Fr.refl _ w4).drewN nq) (fun x=>x),(q.fr.trans f5 (fun i hi x=>Or.inl x)).restrict (fun k hk x=>by omega)⟩
    ·rw[if_neg hend]at hX;subst hX;have aa0:t.length-lc.length<wh:=by
      by_cases hlc:lc=[]
      ·have:fU t wh=true:=by cases hcc:fU t wh;exact absurd ⟨hlc,hcc⟩ hend;rfl
       simp[fU]at this;omega
      ·have:0<lc.length:=by cases lc;exact absurd rfl hlc;simp
       omega
     have hlt:decide (t.length-lc.length<wh)=true:=by simpa using aa0
     have yY:decide (((t.length-lc.length:Nat):Int)<(wh:Int))=true:=by simp;omega
     clear hend aa0;have HCC:Hid (∀W,RD R t wh 0 W lc->W.cell? ⟨R,1,none⟩=some (.int .i64 wh)/\W.cell? ⟨R,2,none⟩=some (.int .i64 ((t.length-lc.length:Nat):Int))):=fun W hW=>⟨cell_of hW.blk rfl,cell_of hW.blk rfl⟩
     have HFA:Hid (∀W,RD R t wh 0 W lc->Z4 148 #[ptr R] W (yZ R t (bad (fU t wh) lc) W)):=fun W hW=>C5 hW;generalize t.length-lc.length=K at*
     go_wp2_with(first|(go_at_call 147;refine HT.out.mono ?_;rintro e w4 ⟨rfl,Dc,IX⟩;obtain⟨c1,c2⟩:=HCC.out _ Dc));go_quiet(fail);have Qn:RD R t wh 0 (w4.drewN nq) lc:=Dc.fr (F:=fun _=>False) ((Fr.refl _ w4).drewN nq) (fun x=>x);go_wp2_with(first|(go_at_call 148;refine(HFA.out _ Qn).mono ?_;rintro e w6 ⟨rfl,Y0⟩));exact⟨rfl,rfl,(HQ1.out.fr.trans ((IX.drewN nq).same Y0) (fun i hi x=>Or.inl x)).restrict (fun k hk x=>by omega)⟩
end
section
variable{w w' w1 w2 W0 W1 W2 W3 W4 WO wr W W5:World}{A A' F G:Nat->Prop}{R lo:Nat}{t l l':L}{wh n:Nat}{v v' vp:Value}
theorem I4(w:World):(Instr.typeAssert .nilIface 20 206 true).run prog w=.ok (.tuple #[.agg #[.int .i64 0,.int .i64 0],.bool false]) w:=by kernel_rfl
theorem I5(a b:Value)(w:World):(Instr.typeAssert (.iface 206 (.agg #[a,b])) 20 206 true).run prog w=.ok (.tuple #[.agg #[a,b],.bool true]) w:=by kernel_rfl
theorem I6(a b c:Nat)(w:World):CallsD prog 109 #[ptr a,ptr b,ptr c] .returning w fun e u' w'=>e=.returned (.tuple #[])/\u'=.returning/\w'=w.alloc (.cells #[.int .i64 0,.int .i64 0] 206):=by
 refine callsD_of_wpS func109 rfl fun aa1 cs hu=>?_;apply wpS_seq;apply wpS_region;simp[wpOpsS,go_sem,recoverD,hu,ntmps109,Exit.thenS,I4,Array.replicate];apply wpS_seq;apply wpS_region;simp[wpOpsS,go_sem,Exit.thenS];refine wpS_cond (t:=false) (by simp[Act.eval]) ?_;simp only[aA,bf];refine wpS_of_wp (wp_skip ?_);cases aa1;simp_all[bodyPostS,results,results109]
theorem ML(a b c:Nat)(no at_:Int)(w:World){x y z:Value}(ha:w.heap[a]?=some (.cells #[x] 176 (0,0)))(hb:w.heap[b]?=some (.cells #[y] 22 (0,0)))(hc:w.heap[c]?=some (.cells #[z] 3 (0,0)))(hab:a≠b)(hac:a≠c)(hbc:b≠c):
  CallsD prog 109 #[ptr a,ptr b,ptr c] (.panicking [{v:=.iface 206 (.agg #[.int .i64 no,.int .i64 at_]),recovered:=false}]) w fun e u' w'=>e=.returned (.tuple #[])/\u'=.panicking [{v:=.iface 206 (.agg #[.int .i64 no,.int .i64 at_]),recovered:=true}]/\
   w'.heap[a]?=some (.cells #[.slice none 0 0] 176 (0,0))/\w'.heap[b]?=some (.cells #[.int .i64 no] 22 (0,0))/\w'.heap[c]?=some (.cells #[.int .i64 at_] 3 (0,0))/\Fr (fun k=>k=a\/k=b\/k=c) w w':=by
 refine callsD_of_wpS func109 rfl fun aa1 cs hu=>?_;apply wpS_seq;apply wpS_region;simp[wpOpsS,go_sem,recoverD,hu,ntmps109,Exit.thenS,I5,Array.replicate];apply wpS_seq;apply wpS_region;simp[wpOpsS,go_sem,Exit.thenS];refine wpS_cond (t:=true) (by simp[Act.eval]) ?_;simp only[if_true];have hla:=eO ha;have hlb:=eO hb;have hlc:=eO hc;have he:(w.alloc (.cells #[.int .i64 no,.int .i64 at_] 206)).heap[w.heap.size]?=some (.cells #[.int .i64 no,.int .i64 at_] 206 (0,0)):=eL _ _;have f0:Fr (fun k=>k=a\/k=b\/k=c) w (w.alloc (.cells #[.int .i64 no,.int .i64 at_] 206)):=(Fr.refl _ w).alloc _;have ha0:=(ap w (.cells #[.int .i64 no,.int .i64 at_] 206) a hla).trans ha;have hb0:=(ap w (.cells #[.int .i64 no,.int .i64 at_] 206) b hlb).trans hb;have hc0:=(ap w (.cells #[.int .i64 no,.int .i64 at_] 206) c hlc).trans hc;generalize w.alloc (.cells #[.int .i64 no,.int .i64 at_] 206)=X at*
 refine wpS_of_wp ?_;have e0:X.drew.heap[w.heap.size]?=some (.cells #[.int .i64 no,.int .i64 at_] 206 (0,0)):=he;have hae:w.heap.size≠a:=by omega
 have YY:w.heap.size≠b:=by omega
 have hce:w.heap.size≠c:=by omega
 have vd:Fr (fun k=>k=a\/k=b\/k=c) w (((X.drew.setCell ⟨a,0,none⟩ (.slice none 0 0)).setCell ⟨b,0,none⟩ (.int .i64 no)).setCell ⟨c,0,none⟩ (.int .i64 at_)):=((Fr.set (Fr.set (Fr.drewN f0 1) ⟨a,0,none⟩ (.slice none 0 0) (fun _=>Or.inl rfl)) ⟨b,0,none⟩ (.int .i64 no) (fun _=>Or.inr (Or.inl rfl))).set ⟨c,0,none⟩ (.int .i64 at_) (fun _=>Or.inr (Or.inr rfl)))
 have a1:(X.drew.setCell ⟨a,0,none⟩ (.slice none 0 0)).heap[a]?=some (.cells #[.slice none 0 0] 176 (0,0)):=eV (i:=0) (w:=X.drew) ha0 _;have e1:=(af X.drew ⟨a,0,none⟩ (.slice none 0 0) w.heap.size hae).trans e0;have b1:(X.drew.setCell ⟨a,0,none⟩ (.slice none 0 0)).heap[b]?=some (.cells #[y] 22 (0,0)):=(af X.drew ⟨a,0,none⟩ (.slice none 0 0) b (fun e=>hab e.symm)).trans hb0;have c1:(X.drew.setCell ⟨a,0,none⟩ (.slice none 0 0)).heap[c]?=some (.cells #[z] 3 (0,0)):=(af X.drew ⟨a,0,none⟩ (.slice none 0 0) c (fun e=>hac e.symm)).trans hc0;generalize XW:X.drew.setCell ⟨a,0,none⟩ (.slice none 0 0)=X1 at*
 have a2:=(af X1 ⟨b,0,none⟩ (.int .i64 no) a hab).trans a1;have e2:=(af X1 ⟨b,0,none⟩ (.int .i64 no) w.heap.size YY).trans e1;have b2:(X1.setCell ⟨b,0,none⟩ (.int .i64 no)).heap[b]?=some (.cells #[.int .i64 no] 22 (0,0)):=eV (i:=0) b1 _;have c2:=(af X1 ⟨b,0,none⟩ (.int .i64 no) c (fun e=>hbc e.symm)).trans c1;generalize Dh:X1.setCell ⟨b,0,none⟩ (.int .i64 no)=X2 at*
 have a3:=(af X2 ⟨c,0,none⟩ (.int .i64 at_) a hac).trans a2;have e3:=(af X2 ⟨c,0,none⟩ (.int .i64 at_) w.heap.size hce).trans e2;have b3:=(af X2 ⟨c,0,none⟩ (.int .i64 at_) b hbc).trans b2;have c3:(X2.setCell ⟨c,0,none⟩ (.int .i64 at_)).heap[c]?=some (.cells #[.int .i64 at_] 3 (0,0)):=eV (i:=0) c2 _;have HS:Hid (∀W:World,W.heap[w.heap.size]?=some (.cells #[.int .i64 no,.int .i64 at_] 206 (0,0))->W.cell? ⟨w.heap.size,0,none⟩=some (.int .i64 no)/\W.cell? ⟨w.heap.size,1,none⟩=some (.int .i64 at_)):=fun W hW=>⟨cell_of hW rfl,cell_of hW rfl⟩
 have ka:=cell_of (i:=0) ha0 rfl;have fa:=eP (i:=0) ha0;have kb:=cell_of (i:=0) b1 rfl;have fb:=eP (i:=0) b1;have kc:=cell_of (i:=0) c2 rfl;have fc:=eP (i:=0) c2;refine wp_region_held_drew (S:=fun W=>W.cell? ⟨w.heap.size,0,none⟩=some (.int .i64 no)/\W.cell? ⟨w.heap.size,1,none⟩=some (.int .i64 at_)) (by kernel_rfl) (HS.out _ e0) (fun hHeld=>?_);refine wpAnyH_take (i:=0) (v:=?_) rfl (by kernel_rfl) (by kernel_rfl) (by kernel_rfl) (fun _ _ _ h=>h) (Or.inl ⟨by rfl,?_⟩) (by assumption) ?_
 rotate_left
 ·(intro w hSw;(try dsimp only at hSw);go_simp;(try with_reducible rfl))
 (try simp only[Act.put,au,aG,aH])
 refine wpAnyH_take (i:=1) (v:=?_) rfl (by kernel_rfl) (by kernel_rfl) (by kernel_rfl) (fun _ _ _ h=>h) (Or.inl ⟨by rfl,?_⟩) (by assumption) ?_
 rotate_left
 ·(intro w hSw;(try dsimp only at hSw);go_simp;(try with_reducible rfl))
 (try simp only[Act.put,au,aG,aH])
 refine wpAnyH_take (i:=2) (v:=?_) rfl (by kernel_rfl) (by kernel_rfl) (by kernel_rfl) (fun _ _ _ h=>h) (Or.inl ⟨by rfl,?_⟩) (by assumption) ?_
 rotate_left
 ·(intro w hSw;(try dsimp only at hSw);go_simp;(try with_reducible rfl))
 (try simp only[Act.put,au,aG,aH])
 refine wpAnyH_take (i:=3) (v:=?_) rfl (by kernel_rfl) (by kernel_rfl) (by kernel_rfl) (fun _ _ _ h=>h) (Or.inl ⟨by rfl,?_⟩) (by assumption) ?_
 rotate_left
 ·(intro w hSw;(try dsimp only at hSw);go_simp;(try with_reducible rfl))
 (try simp only[Act.put,au,aG,aH])
 refine wpAnyH_ready (rs:=[4]) (by kernel_rfl) (by simp) ?_;refine AllReadyH.cons rfl (fun K hK=>?_) AllReadyH.nil
 go_simp
 (try rw[XW])
 refine hK.out _ _ (HS.out _ e1) (fun hHeld=>?_);clear hK K
 (try simp only[Act.put,au,aG,aH])
 refine wpAnyH_ready (rs:=[5]) (by kernel_rfl) (by simp) ?_;refine AllReadyH.cons rfl (fun K hK=>?_) AllReadyH.nil
 go_simp
 (try rw[Dh])
 refine hK.out _ _ (HS.out _ e2) (fun hHeld=>?_);clear hK K
 (try simp only[Act.put,au,aG,aH])
 refine wpAnyH_ready (rs:=[6]) (by kernel_rfl) (by simp) ?_;refine AllReadyH.cons rfl (fun K hK=>?_) AllReadyH.nil
 go_simp
 refine hK.out _ _ (HS.out _ e3) (fun hHeld=>?_);clear hK K;refine wpAnyH_done (by kernel_rfl) ?_ _;simp[bodyPostS,results,results109,a3,b3,c3,vd]
end
section
variable{w w' w1 w2 W0 W1 W2 W3 W4 WO wr W W5:World}{A A' F G:Nat->Prop}{R lo:Nat}{t l l':L}{wh n:Nat}{v v' vp:Value}
def PE(w:World)(x:Except (Nat×Nat) (List (List jd)))(e:Ending)(w':World):Prop:=Z5 w w'/\match x with
 | .ok ls=>∃v,e=.returned (.tuple #[v,.int .i64 0,.int .i64 0])/\QV (fun b=>w.heap.size<=b) w' v ls
 | .error y=>e=.returned (.tuple #[.slice none 0 0,.int .i64 y.1,.int .i64 y.2])
theorem Y7(q:L):Ch.bad (bs q)<=q.length:=by have:=Ch.IK (bs q) ((bs q).size+1) 0 (ax _);rw[iY]at this;unfold Ch.bad;rw[iY];exact this
theorem MN{a:Nat}(h1:w.heap[a]?=some (.cells #[.slice none 0 0] 176 (0,0)))(h2:w.heap[a+1]?=some (.cells #[.int .i64 0] 22 (0,0)))(h3:w.heap[a+1+1]?=some (.cells #[.int .i64 0] 3 (0,0)))(v:Value):∃W,((w.setCell ⟨a,0,none⟩ v).setCell ⟨a+1,0,none⟩ (.int .i64 0)).setCell ⟨a+1+1,0,none⟩ (.int .i64 0)=W/\W.heap[a]?=some (.cells #[v] 176 (0,0))/\W.heap[a+1]?=some (.cells #[.int .i64 0] 22 (0,0))/\W.heap[a+1+1]?=some (.cells #[.int .i64 0] 3 (0,0))/\
  (w.setCell ⟨a,0,none⟩ v).heap[a+1]?=some (.cells #[.int .i64 0] 22 (0,0))/\((w.setCell ⟨a,0,none⟩ v).setCell ⟨a+1,0,none⟩ (.int .i64 0)).heap[a+1+1]?=some (.cells #[.int .i64 0] 3 (0,0))/\Fr (fun k=>k=a\/k=a+1\/k=a+1+1) w W:=by
 have b1:=(af w ⟨a,0,none⟩ v (a+1) (show a+1≠a by omega)).trans h2;have c1:=(af w ⟨a,0,none⟩ v (a+1+1) (show a+1+1≠a by omega)).trans h3;have c2:=(af (w.setCell ⟨a,0,none⟩ v) ⟨a+1,0,none⟩ (.int .i64 0) (a+1+1) (show a+1+1≠a+1 by omega)).trans c1;refine⟨_,rfl,?_,?_,eV (i:=0) c2 _,b1,c2,((Fr.set (Fr.set (Fr.refl (fun k=>k=a\/k=a+1\/k=a+1+1) w) ⟨a,0,none⟩ v (fun _=>Or.inl rfl)) ⟨a+1,0,none⟩ (.int .i64 0) (fun _=>Or.inr (Or.inl rfl))).set ⟨a+1+1,0,none⟩ (.int .i64 0) (fun _=>Or.inr (Or.inr rfl)))⟩
 ·rw[af _ _ _ _ (show a≠a+1+1 by omega),af _ _ _ _ (show a≠a+1 by omega)];exact eV (i:=0) h1 v
 ·rw[af _ _ _ _ (show a+1≠a+1+1 by omega)];exact eV (i:=0) b1 _
theorem pF(q:L)(w:World)(Fq:(91:UInt8)∉q):Z4 80 #[.string (bs q)] w (PE w (parse q)):=by
 have hz:=iY q;have hmf:∀(fn:Fn) (first cap:Array Value) (w:World),(Instr.makeFunc fn first cap).run prog w=.ok (.func fn first cap) w:=fun _ _ _ _=>rfl;by_cases h5:500<q.length
 ·rw[parse,if_pos h5];have hd:decide ((500:Int)<(q.length:Int))=true:=by simp;omega
  have Fg:decide (500<q.length)=true:=by simpa using h5
  clear Fq;generalize bs q=S at*
  generalize q.length=N at*
  go_enter_defers func80,ntmps80
  go_wp2;have hB:Z5 w (((w.alloc (.cells #[.slice none 0 0] 176)).alloc (.cells #[.int .i64 1] 22)).alloc (.cells #[.int .i64 0] 3)):=(((Below.refl _ w).alloc (ah _) _).alloc (by simp) _).alloc (by simp;omega) _;simp[bodyPostD,Leaves,settle,results,results80,go_sem,PE,hB]
 ·rw[parse,if_neg h5];have hd:decide ((500:Int)<(q.length:Int))=false:=by simp;omega
  have Fg:decide (500<q.length)=false:=by simpa using h5
  have hbl:=Y7 q;have HBD:Hid (∀W,Z4 110 #[.string (bs q)] W (Z7 (.int .i64 (Ch.bad (bs q))) W)):=fun W=>q8 (bs q) W (by rw[hz];omega);have hsl:∀W,(Instr.slice 9 (.string (bs q)) none (some (.int .i64 (Ch.bad (bs q):Int))) none).run prog W=.ok (.string (bs (cutAt q))) W:=uZ q (Ch.bad (bs q)) hbl;have qQ:(cutAt q).length<=q.length:=by unfold cutAt;rw[bP];omega
  have hcut:fU (cutAt q) q.length=Lv q:=rfl;have aa2:(91:UInt8)∉cutAt q:=fun h=>Fq (dB h);have HQ:Hid (∀W:World,Z4 111 #[ptr W.heap.size] (W.alloc (.cells #[.string (bs (cutAt q)),.int .i64 q.length,.int .i64 0,.int .i64 0] 209)) (Ends W.heap.size (cutAt q) q.length 0 (QV (fun b=>(W.alloc (.cells #[.string (bs (cutAt q)),.int .i64 q.length,.int .i64 0,.int .i64 0] 209)).heap.size<=b)) (W.alloc (.cells #[.string (bs (cutAt q)),.int .i64 q.length,.int .i64 0,.int .i64 0] 209)) (query (Lv q) (cutAt q)))):=fun W=>by
   rw[<-hcut];refine QA aa2 ⟨?_,aW _,qQ,by omega,by omega⟩;have:=eL W (.cells #[.string (bs (cutAt q)),.int .i64 q.length,.int .i64 0,.int .i64 0] 209);simpa using this
  clear Fq aa2;generalize Ch.bad (bs q)=BD at*
  generalize bs q=S at*
  generalize q.length=N at*
  generalize Lv q=ct at*
  generalize cutAt q=t at*
  have XX:Hid (∀W1:World,Below (w.heap.size+3) (((w.alloc (.cells #[.slice none 0 0] 176)).alloc (.cells #[.int .i64 0] 22)).alloc (.cells #[.int .i64 0] 3)) W1->W1.heap[w.heap.size]?=some (.cells #[.slice none 0 0] 176 (0,0))/\W1.heap[w.heap.size+1]?=some (.cells #[.int .i64 0] 22 (0,0))/\W1.heap[w.heap.size+1+1]?=some (.cells #[.int .i64 0] 3 (0,0))/\w.heap.size+3<=W1.heap.size/\Z5 w W1):=fun W1 hb=>by
   have h1:=eL (w.alloc (.cells #[.slice none 0 0] 176)) (.cells #[.int .i64 0] 22);have h2:=eL ((w.alloc (.cells #[.slice none 0 0] 176)).alloc (.cells #[.int .i64 0] 22)) (.cells #[.int .i64 0] 3);refine⟨?_,?_,?_,by have:=hb.size;simpa using this,((((Below.refl _ w).alloc (ah _) _).alloc (by simp) _).alloc (by simp;omega) _).trans (fE hb (by omega))⟩
   ·rw[hb.block _ (by omega),ap _ _ _ (by simp;omega),ap _ _ _ (by simp)];exact eL _ _
   ·rw[hb.block _ (by omega),ap _ _ _ (by simp)];simpa using h1
   ·rw[hb.block _ (by omega)];simpa using h2
  have XY:Hid (∀W2 W3:World,Below (((w.alloc (.cells #[.slice none 0 0] 176)).alloc (.cells #[.int .i64 0] 22)).alloc (.cells #[.int .i64 0] 3)).heap.size (((w.alloc (.cells #[.slice none 0 0] 176)).alloc (.cells #[.int .i64 0] 22)).alloc (.cells #[.int .i64 0] 3)) W2->Fr (fun k=>k=W2.heap.size) (W2.alloc (.cells #[.string (bs t),.int .i64 N,.int .i64 0,.int .i64 0] 209)) W3->(W3.heap[w.heap.size]?=some (.cells #[.slice none 0 0] 176 (0,0))/\W3.heap[w.heap.size+1]?=some (.cells #[.int .i64 0] 22 (0,0))/\W3.heap[w.heap.size+1+1]?=some (.cells #[.int .i64 0] 3 (0,0)))/\w.heap.size+3<=W2.heap.size/\Z5 w W3):=fun W2 W3 hb f=>by
   obtain⟨h1,h2,h3,h4,h5⟩:=XX.out W2 (by simpa using hb);have f2:Fr (fun k=>k=W2.heap.size) W2 W3:=((Fr.refl _ W2).alloc _).same f;exact⟨⟨(f2.block _ (by omega) (by omega)).trans h1,(f2.block _ (by omega) (by omega)).trans h2,(f2.block _ (by omega) (by omega)).trans h3⟩,h4,h5.trans (f2.up (K:=w.heap.size) (fun k e=>by omega) (by omega))⟩
  cases hx:query ct t with
  |error y=>
   rw[hx]at HQ;simp only;clear hx h5 hbl qQ hcut
   go_enter_defers func80,ntmps80
   go_wp2_with(first|(go_at_call 110;refine(HBD.out _).mono ?_;rintro e w2 ⟨rfl,hb2⟩)|(go_at_call 111;refine(HQ.out _).mono ?_;rintro e w3 ⟨rfl,ve⟩));obtain⟨⟨h1,h2,h3⟩,hz2,hB⟩:=XY.out _ _ hb2 ve;refine leaves_cons (f:=109) (args:=#[ptr w.heap.size,ptr (w.heap.size+1),ptr (w.heap.size+1+1)]) (by simp) (by simp[go_sem]) ?_;refine(ML w.heap.size (w.heap.size+1) (w.heap.size+1+1) _ _ _ h1 h2 h3 (by omega) (by omega) (by omega)).mono ?_;rintro e u' w4 ⟨rfl,rfl,k1,k2,k3,f4⟩;have Y8:Z5 w w4:=hB.trans (f4.up (K:=w.heap.size) (fun k e=>by omega) hB.size);have c1:=cell_of (i:=0) k1 rfl;have c2:=cell_of (i:=0) k2 rfl;have c3:=cell_of (i:=0) k3 rfl;simp[Leaves,settle,results,results80,go_sem,c1,c2,c3,PE,Y8]
  |ok z=>
   obtain⟨ls,l1⟩:=z;rw[hx]at HQ;simp only;clear hx h5 hbl qQ hcut
   go_enter_defers func80,ntmps80
   go_wp2_with(first|(go_at_call 110;refine(HBD.out _).mono ?_;rintro e w2 ⟨rfl,hb2⟩)|(go_at_call 111;refine(HQ.out _).mono ?_;rintro e w3 ⟨v3,rfl,qv3,LA,ve⟩;obtain⟨⟨h1,h2,h3⟩,hz2,hB⟩:=XY.out _ _ hb2 ve;obtain⟨vi,vc,rfl⟩:=sl.shape qv3;have QVH:=a_ qv3;clear qv3;obtain⟨W4,hW4,QB,QC,h3',h2b,h3b,f4⟩:=MN h1 h2 h3 (.slice vi ls.length vc);have x1:=cell_of (i:=0) h1 rfl;have y1:=eP (i:=0) h1;have x2:=cell_of (i:=0) h2b rfl;have y2:=eP (i:=0) h2b;have x3:=cell_of (i:=0) h3b rfl;have y3:=eP (i:=0) h3b));refine leaves_cons (f:=109) (args:=#[ptr w.heap.size,ptr (w.heap.size+1),ptr (w.heap.size+1+1)]) (by simp) (by simp[go_sem]) ?_;refine(I6 w.heap.size (w.heap.size+1) (w.heap.size+1+1) _).mono ?_;rintro e u' w5 ⟨rfl,rfl,rfl⟩;have c1:=eF (.cells #[.int .i64 0,.int .i64 0] 206) (cell_of (i:=0) QB rfl);have c2:=eF (.cells #[.int .i64 0,.int .i64 0] 206) (cell_of (i:=0) QC rfl);have c3:=eF (.cells #[.int .i64 0,.int .i64 0] 206) (cell_of (i:=0) h3' rfl);have f5:=f4.alloc (.cells #[.int .i64 0,.int .i64 0] 206);have hB5:Z5 w (W4.alloc (.cells #[.int .i64 0,.int .i64 0] 206)):=hB.trans (f5.up (K:=w.heap.size) (fun k e=>by omega) hB.size);have qv5:QV (fun b=>w.heap.size<=b) (W4.alloc (.cells #[.int .i64 0,.int .i64 0] 206)) (.slice vi ls.length vc) ls:=QS.move (fun b hb hl=>(fun(hb':w2.heap.size+1<=b)=>⟨by omega,f5.block b hl (by omega)⟩) (by simpa using hb)) QVH.out;simp[Leaves,settle,results,results80,go_sem,c1,c2,c3,PE,hB5,qv5]
end
end Go.Proofs.YtjecakcpcnmieaaGreatDoor
