import Derived.Test.YtjecakcpcnmieaaGreatDoorHA
import Derived.Deep.MidRow
import Derived.Test.YtjecakcpcnmieaaGreatDoorHah
import Derived.Test.YtjecakcpcnmieaaGreatDoorHaf
import Derived.Test.YtjecakcpcnmieaaGreatDoorHad
import Derived.Test.YtjecakcpcnmieaaGreatDoorHas
import Derived.Test.YtjecakcpcnmieaaGreatDoorHav
import Derived.Test.YtjecakcpcnmieaaGreatDoorHac
set_option linter.unusedVariables false
set_option linter.unusedSimpArgs false
set_option maxHeartbeats 32000000
set_option maxRecDepth 100000
namespace Go.Proofs.YtjecakcpcnmieaaGreatDoor
open Go.RowKit Go.Maps Go.Lib Tryz
section
variable{w w' W W' w0 w1 w3 w5 wr:World}{v vs ov:Value}{xs:List (Br×Nat)}{b:gZ}{F F':Nat->Prop}{X lo P sk:Nat}{S S1:List jo}{ys:List (jo×Value)}
theorem GI.spI{mn:Nat}{r:List Np}(h:GI X (.slice none 0 0) (.map (some mn)) F r w)(hm:j4 w 9 mn [])(hmF:¬F mn)(XD:∀k,F k->lo<=k)(hlm:lo<=mn)(hl:r.length<=2200000000):wu X lo (fun k=>F k\/k=mn) (fR jP r) [] w:=by
 obtain⟨v,xs,p1,p2,p3,p4⟩:=h.br.ex;refine⟨⟨v,.slice none 0 0,mn,xs,[],⟨p1,p2,bG _ _ _ _,fun y hy=>by simp at hy,hm,fun hb=>hmF ((p4 mn).2 (Or.inr hb))⟩,p3,rfl,fun k=>?_⟩,fun k hk=>?_,⟨h.wf,zh r VA,zj r LG VF,h.br.short,h.br.few,?_⟩,fun s hs=>by simp at hs⟩
 ·unfold Rh;rw[p4 k];simp only[Value.ownBlock,cn,false_and,exists_const,cK];constructor
  ·rintro((h|h)|h)
   ·exact Or.inl h
   ·exact Or.inr (Or.inl h)
   ·exact Or.inr (Or.inr (Or.inr (Or.inl h)))
  ·rintro(h|h|h|h|⟨y,h⟩)
   ·exact Or.inl (Or.inl h)
   ·exact Or.inl (Or.inr h)
   ·cases h
   ·exact Or.inr h
   ·exact h.elim
 ·rcases hk with hk|rfl
  ·exact XD k hk
  ·exact hlm
 ·have:=h.len;omega
theorem LP.ok{qs:List L}{e:Ending}{r:List Np}(h:LP W qs e w')(hr:needed 0 qs=.ok r)(hl:r.length<=2200000000):∃X F,e=.returned (.tuple #[Z8 X,.int .i64 0,.int .i64 0,.int .i64 0])/\wu X W.heap.size F (fR jP r) [] w'/\Z5 W w':=by
 obtain⟨hb,h⟩:=h;rw[hr]at h;obtain⟨X,mn,F,rfl,h1,h2,h3,h4,h5⟩:=h;exact⟨X,_,rfl,h1.spI h2 h3 h5 h4 hl,hb⟩
theorem wu.cells{st:Nat}{s:jo}(h:wu X lo F b S w)(hs:S[st]?=some s):∃g n cap da dc,w.cell? ⟨X,1,none⟩=some (Z9 g n cap)/\st<n/\w.cell? ⟨g,st*4,none⟩=some (.slice da s.due.length dc)/\w.cell? ⟨g,st*4+1,none⟩=some (.bool s.nd)/\w.cell? ⟨g,st*4+2,none⟩=some (.bool s.wh)/\w.cell? ⟨g,st*4+3,none⟩=some (.bool s.tx):=by
 obtain⟨v,vs,mn,xs,ys,m,e1,e2,e3⟩:=h.ex;have hyx:∃y,ys[st]?=some y/\y.1=s:=by
  rw[<-e2,aX]at hs;obtain⟨y,hy,rfl⟩:=Option.map_eq_some_iff.1 hs;exact⟨y,hy,rfl⟩
 obtain⟨y,hy,rfl⟩:=hyx;obtain⟨g,cap,da,dn,dc,rfl,-,a0,a1,a2,a3,hrow⟩:=m.state hy;have hdn:dn=y.1.due.length:=by
  rcases hrow.2 with⟨e,h0⟩|⟨_,_,_,e,_⟩
  ·cases e;omega
  ·cases e;rfl
 subst hdn;exact⟨g,_,cap,da,dc,cell_of m.box rfl,(List.getElem?_eq_some_iff.1 hy).1,a0,a1,a2,a3⟩
theorem wu.keep{st:Nat}{s:jo}(h:wu X lo F b S w)(hs:S[st]?=some s):Z4 58 #[Z8 X,.int .i64 (st:Nat)] w fun e w'=>e=.returned (.tuple #[.bool s.nd,.bool s.wh])/\∃m,w'=w.drewN m:=by
 obtain⟨g,n,cap,da,dc,c1,hl,a0,a1,a2,a3⟩:=h.cells hs;exact QH c1 hl a1 a2
theorem wu.text{st:Nat}{s:jo}(h:wu X lo F b S w)(hs:S[st]?=some s):Z4 98 #[Z8 X,.int .i64 (st:Nat)] w (Z6 (.bool s.tx) w):=by
 obtain⟨g,n,cap,da,dc,c1,hl,a0,a1,a2,a3⟩:=h.cells hs;exact QG c1 hl a3
theorem wu.live{st:Nat}{s:jo}(h:wu X lo F b S w)(hs:S[st]?=some s):Z4 59 #[Z8 X,.int .i64 (st:Nat)] w (Z6 (.bool (decide (0<s.due.length))) w):=by
 obtain⟨g,n,cap,da,dc,c1,hl,a0,a1,a2,a3⟩:=h.cells hs;exact QF c1 hl a0
theorem xW(h:Fr F w w')(hl:∀k,F k->lo<=k)(Df:lo<=w.heap.size):Below lo w w':=
 ⟨h.os,h.tape,h.output,h.size,fun k hk=>h.block k (ak hk Df) fun hf=>by have:=hl k hf;omega⟩
abbrev El:=Nat×jo×Bool
def Io(x:El):List Value:=[.int .i64 (x.1:Nat),.int .i64 0,.string ⟨#[]⟩,.slice none 0 0,.string ⟨#[]⟩,.int .i64 0,.bool x.2.2,.pointer none]
def xp(l:List El):List Value:=l.flatMap Io
def PO(P:Nat)(F:Nat->Prop)(ov:Value)(k:Nat):Prop:=F k\/k=P\/ov.ownBlock=some k
structure kR(P:Nat)(F:Nat->Prop)(ov:Value)(w:World)(F':Nat->Prop)(mG:Value)(w':World):Prop where
 fr:Fr (PO P F ov) w w'
 sub:∀k,PO P F' mG k->PO P F ov k\/w.heap.size<=k
theorem kR.gi(h:Z5 w w'):kR P F ov w F ov w':=⟨Fr.below h,fun _ hk=>Or.inl hk⟩
theorem kR.drewN(m:Nat):kR P F ov w F ov (w.drewN m):=kR.gi (kV (Below.refl _ _) m)
theorem kR.trans{F1 F2:Nat->Prop}{o1 o2:Value}{w1 w2:World}(h:kR P F ov w F1 o1 w1)(g:kR P F1 o1 w1 F2 o2 w2):kR P F ov w F2 o2 w2:=
 ⟨h.fr.trans g.fr fun k hk hp=>(h.sub k hp).resolve_right (by omega),fun k hk=>by
  have:=h.fr.size;rcases g.sub k hk with q|q
  ·exact h.sub k q
  ·exact Or.inr (by omega)⟩
structure PG(P X lo:Nat)(F:Nat->Prop)(b:gZ)(S:List jo)(ov:Value)(cs:List Value)(n td sk:Nat)(w:World):Prop where
 blk:w.heap[P]?=some (.cells #[Z8 X,ov,.int .i64 (td:Nat),.int .i64 (sk:Nat)] 85 (0,0))
 row:w.ownsRow 0 150 8 ov n cs
 own:∀k,ov.ownBlock=some k->lo<=k/\¬F k
 sp:wu X lo F b S w
 nP:lo<=P/\¬F P
 tab:zu lo w
 big:lo<=w.heap.size
structure PM(P X lo:Nat)(F:Nat->Prop)(b:gZ)(S:List jo)(ov:Value)(l:List El)(sk:Nat)(w:World):Prop extends PG P X lo F b S ov (xp l) l.length l.length sk w where
 num:∀x∈l,S[x.1]?=some x.2.1
variable{l:List El}{cl news:List Value}{n td:Nat}{G:Nat->Prop}
theorem PG.low(h:PG P X lo F b S ov cl n td sk w){k:Nat}(hk:PO P F ov k):lo<=k/\k<w.heap.size:=by
 rcases hk with hk|rfl|hk
 ·exact⟨h.sp.low k hk,h.sp.lt hk⟩
 ·exact⟨h.nP.1,eO h.blk⟩
 ·exact⟨(h.own k hk).1,eU h.row hk⟩
theorem PG.up{F':Nat->Prop}{mG:Value}(h:PG P X lo F b S ov cl n td sk w)(e:kR P F ov w F' mG w'):Below lo w w':=xW e.fr (fun k hk=>(h.low hk).1) h.big
theorem PG.off(h:PG P X lo F b S ov cl n td sk w)(hf:Fr G w w')(hd:∀k,PO P F ov k->¬G k)(hl:∀k,G k->lo<=k):PG P X lo F b S ov cl n td sk w':=
 ⟨(hf.block _ (eO h.blk) (hd _ (Or.inr (Or.inl rfl)))).trans h.blk,eI h.row fun k e=>hf.block k (eU h.row e) (hd k (Or.inr (Or.inr e))),h.own,h.sp.fr hf fun k hk=>hd k (Or.inl hk),h.nP,h.tab.on (xW hf hl h.big),ar h.big hf.size⟩
theorem PG.below(h:PG P X lo F b S ov cl n td sk w)(hb:Z5 w w'):PG P X lo F b S ov cl n td sk w':=h.off (G:=fun _=>False) (Fr.below hb) (fun _ _ x=>x) fun _ x=>x.elim
theorem PG.neP(h:PG P X lo F b S ov cl n td sk w):ov.ownBlock≠some P:=gP h.row h.blk (by decide)
theorem PG.cs(h:PG P X lo F b S ov cl n td sk w):w.cell? ⟨P,0,none⟩=some (Z8 X)/\w.cell? ⟨P,1,none⟩=some ov/\w.cell? ⟨P,2,none⟩=some (.int .i64 (td:Nat))/\w.cell? ⟨P,3,none⟩=some (.int .i64 (sk:Nat))/\∀j,w.frozen? ⟨P,j,none⟩=false:=
 ⟨cell_of h.blk rfl,cell_of h.blk rfl,cell_of h.blk rfl,cell_of h.blk rfl,fun j=>eP h.blk⟩
theorem PG.Le{mG u:Value}{cl':List Value}{n' td' Mv i:Nat}(h:PG P X lo F b S ov cl n td sk w)(e:(#[Z8 X,ov,.int .i64 (td:Nat),.int .i64 (sk:Nat)]:Array Value).setIfInBounds i u=#[Z8 X,mG,.int .i64 (td':Nat),.int .i64 (Mv:Nat)])(hr:w.ownsRow 0 150 8 mG n' cl')(ho:∀k,mG.ownBlock=some k->lo<=k/\¬F k):PG P X lo F b S mG cl' n' td' Mv (w.setCell ⟨P,i,none⟩ u):=by
 have hf:Fr (fun k=>k=P) w (w.setCell ⟨P,i,none⟩ u):=(Fr.refl _ w).set _ _ fun _=>rfl;refine⟨by rw[eV h.blk,e],eI hr fun k hk=>hf.block k (eU hr hk) fun hkP=>gP hr h.blk (by decide) (by rw[<-hkP];exact hk),ho,h.sp.fr hf fun k hk hP=>h.nP.2 (hP▸hk),h.nP,h.tab.on (xW hf (fun k hk=>by rw[hk];exact h.nP.1) h.big),ar h.big hf.size⟩
theorem kR.Le{F':Nat->Prop}{u:Value}{i:Nat}(h:kR P F ov w F' ov w')(hP:P<w'.heap.size):kR P F ov w F' ov (w'.setCell ⟨P,i,none⟩ u):=
 h.trans ⟨(Fr.refl _ _).set _ _ fun _=>Or.inr (Or.inl rfl),fun _ hk=>Or.inl hk⟩
theorem PG.wQ{g cap i:Nat}(h:PG P X lo F b S (Z9 g n cap) cl n td sk w)(hi:i<n*8)(u:Value):PG P X lo F b S (Z9 g n cap) (cl.set i u) n td sk (w.setCell ⟨g,i,none⟩ u)/\kR P F (Z9 g n cap) w F (Z9 g n cap) (w.setCell ⟨g,i,none⟩ u):=by
 have hf:Fr (fun k=>k=g) w (w.setCell ⟨g,i,none⟩ u):=(Fr.refl _ w).set _ _ fun _=>rfl;have ho:=h.own g rfl;refine⟨⟨(hf.block _ (eO h.blk) fun e=>h.neP (by rw[e];rfl)).trans h.blk,K.vW h.row hi u,h.own,h.sp.fr hf fun k hk hg=>ho.2 (hg▸hk),h.nP,h.tab.on (xW hf (fun k hk=>by rw[hk];exact ho.1) h.big),ar h.big hf.size⟩,hf.mono fun k hk=>Or.inr (Or.inr (by rw[hk];rfl)),fun _ hk=>Or.inl hk⟩
theorem PG.app{v7:Value}{w7:World}{m:Nat}(h:PG P X lo F b S ov cl n td sk w)(ho:w7.ownsRow 0 150 8 v7 m news)(hg:w.grownBy w7 ov.ownBlock)(hat:v7.ownBlock=ov.ownBlock\/v7.ownBlock=some w.heap.size):PG P X lo F b S v7 news m td sk (w7.setCell ⟨P,1,none⟩ v7)/\kR P F ov w F v7 (w7.setCell ⟨P,1,none⟩ v7):=by
 have hf:Fr (fun k=>ov.ownBlock=some k) w w7:=⟨hg.os,hg.tape,hg.output,hg.size,fun k hk hn=>hg.block k hk fun e=>hn e.symm⟩
 have hs:wu X lo F b S w7:=h.sp.fr hf fun k hk hn=>(h.own k hn).2 hk;have hb:w7.heap[P]?=_:=(hf.block _ (eO h.blk) h.neP).trans h.blk;have hf2:Fr (fun k=>k=P) w7 (w7.setCell ⟨P,1,none⟩ v7):=(Fr.refl _ w7).set _ _ fun _=>rfl;have abU:lo<=w7.heap.size:=ar h.big hf.size;have hown:∀k,v7.ownBlock=some k->lo<=k/\¬F k:=fun k e=>by
  rcases hat with q|q
  ·exact h.own k (q.symm.trans e)
  ·cases q.symm.trans e;exact⟨h.big,fun hF=>cy _ (h.sp.lt hF)⟩
 refine⟨⟨by rw[eV hb];rfl,eI ho fun k hk=>hf2.block k (eU ho hk) fun hkP=>gP ho hb (by decide) (by rw[<-hkP];exact hk),hown,hs.fr hf2 fun k hk hP=>h.nP.2 (hP▸hk),h.nP,(h.tab.on (xW hf (fun k hk=>(h.own k hk).1) h.big)).on (xW hf2 (fun k hk=>by rw[hk];exact h.nP.1) abU),ar abU hf2.size⟩,(hf.mono fun k hk=>Or.inr (Or.inr hk)).set _ _ fun _=>Or.inr (Or.inl rfl),fun k hk=>?_⟩;rcases hk with hk|hk|hk
 ·exact Or.inl (Or.inl hk)
 ·exact Or.inl (Or.inr (Or.inl hk))
 ·rcases hat with q|q
  ·exact Or.inl (Or.inr (Or.inr (q.symm.trans hk)))
  ·cases q.symm.trans hk;exact Or.inr (ah _)
theorem PM.off(h:PM P X lo F b S ov l sk w)(hf:Fr G w w')(hd:∀k,PO P F ov k->¬G k)(hl:∀k,G k->lo<=k):PM P X lo F b S ov l sk w':=⟨h.toPG.off hf hd hl,h.num⟩
theorem PM.below(h:PM P X lo F b S ov l sk w)(hb:Z5 w w'):PM P X lo F b S ov l sk w':=⟨h.toPG.below hb,h.num⟩
theorem PM.drewN(h:PM P X lo F b S ov l sk w)(m:Nat):PM P X lo F b S ov l sk (w.drewN m):=h.below (kV (Below.refl _ _) m)
theorem PM.ans{x:jo}{e:Ending}(h:PM P X lo F b S ov l sk w)(ha:Nk X lo F b S x w e w'):∃(k:Nat) (S':List jo) (F':Nat->Prop),e=.returned (.int .i64 (k:Nat))/\S'[k]?=some x/\PM P X lo F' b S' ov l sk w'/\kR P F ov w F' ov w'/\S'.length<=S.length+1:=by
 obtain⟨k,S',rfl,h1,h2,F',hI,hf,hF⟩:=ha;have hu:=xW hf h.sp.low h.big;have keep:∀{j:Nat},j<w.heap.size->¬F j->¬F' j:=fun{j} hj hn hF'=>by
  rcases hF j hF' with q|q|q
  ·exact hn q
  ·exact q
  ·omega
 refine⟨k,S',F',rfl,h1,⟨⟨(hf.block _ (eO h.blk) h.nP.2).trans h.blk,eI h.row fun j e=>hf.block j (eU h.row e) (h.own j e).2,fun j e=>⟨(h.own j e).1,keep (eU h.row e) (h.own j e).2⟩,hI,⟨h.nP.1,keep (eO h.blk) h.nP.2⟩,h.tab.on hu,ar h.big hu.size⟩,fun y hy=>?_⟩,⟨hf.mono fun _ q=>Or.inl q,fun j hj=>?_⟩,?_⟩
 ·have:=h.num y hy;rcases h2 with rfl|⟨rfl,-⟩
  ·exact this
  ·rw[aL (List.getElem?_eq_some_iff.1 this).1];exact this
 ·rcases hj with hj|hj|hj
  ·rcases hF j hj with q|q|q
   ·exact Or.inl (Or.inl q)
   ·exact q.elim
   ·exact Or.inr q
  ·exact Or.inl (Or.inr (Or.inl hj))
  ·exact Or.inl (Or.inr (Or.inr hj))
 ·rcases h2 with rfl|⟨rfl,-⟩<;>simp
def qY(b:gZ)(l:List El):jo:=match l.getLast? with|some x=>x.2.1|none=>iN b
def StP(P X lo:Nat)(F:Nat->Prop)(b:gZ)(S:List jo)(ov:Value)(l:List El)(sk:Nat)(s:jo)(w:World)(e:Ending)(w':World):Prop:=∃(k:Nat) (S':List jo) (F':Nat->Prop),e=.returned (.int .i64 (k:Nat))/\S'[k]?=some s/\PM P X lo F' b S' ov l sk w'/\kR P F ov w F' ov w'/\S'.length<=S.length+1
theorem PM.start(h:PM P X lo F b S ov l sk w)(hS:S.length<=1000000000000):Z4 97 #[Z8 X] w (StP P X lo F b S ov l sk (iN b) w):=
 (Ju h.sp h.tab h.big hS).mono fun e w' ha=>h.ans ha
theorem PM.next{st:Nat}{s:jo}(h:PM P X lo F b S ov l sk w)(hs:S[st]?=some s)(hS:S.length<=1000000000000)(name:L):Z4 56 #[Z8 X,.int .i64 (st:Nat),.string (bs name)] w (StP P X lo F b S ov l sk (fL b s name) w):=
 (Nn h.sp hs name h.tab h.big hS).mono fun e w' ha=>h.ans ha
theorem Uu:∀(l:List El) (i:Nat) (x:El) (c:Nat) (u:Value),l[i]?=some x->(Io x)[c]?=some u->(xp l)[i*8+c]?=some u
 |[],i,x,c,u,h,_=>by simp at h
 |y::l,0,x,c,u,h,hu=>by
  obtain rfl:y=x:=by simpa using h
  have hc:=(List.getElem?_eq_some_iff.1 hu).1;show (Io y++xp l)[0*8+c]?=some u;rw[Nat.zero_mul,ay,aL hc];exact hu
 |y::l,i+1,x,c,u,h,hu=>by
  have ih:=Uu l i x c u (by simpa using h) hu;show (Io y++xp l)[(i+1)*8+c]?=some u;have hl:(Io y).length=8:=rfl;rw[aQ (by rw[hl];omega),hl,show (i+1)*8+c-8=i*8+c by omega];exact ih
theorem PM.el{i:Nat}{x:El}(h:PM P X lo F b S ov l sk w)(hx:l[i]?=some x):∃g cap,ov=Z9 g l.length cap/\(∀c u,(Io x)[c]?=some u->w.cell? ⟨g,i*8+c,none⟩=some u)/\∀j,w.frozen? ⟨g,j,none⟩=false:=by
 have hi:=(List.getElem?_eq_some_iff.1 hx).1;have ll:(xp l).length=l.length*8:=h.row.1;have hr:=h.row;rcases hr.2 with⟨_,hz⟩|⟨g,cap,cur,rfl,_⟩
 ·omega
 ·refine⟨g,cap,rfl,fun c u hu=>?_,fun j=>hr.frozenAt j⟩;have hc:=(List.getElem?_eq_some_iff.1 hu).1;have hl:(Io x).length=8:=rfl;exact(hr.cellAt _ (by omega)).trans (Uu l i x c u hx hu)
end
section
variable{w w' w1:World}{ov:Value}{b:gZ}{F:Nat->Prop}{X lo P sk:Nat}{S:List jo}{l:List El}
theorem uL{l:List El}{x:El}(h:l.getLast?=some x):0<l.length/\l[l.length-1]?=some x:=by
 rw[List.getLast?_eq_getElem?]at h;have:=(List.getElem?_eq_some_iff.1 h).1;exact⟨by omega,h⟩
theorem wj(h:PM P X lo F b S ov l sk w)(hS:S.length<=100000000000)(hl:l.length<=1000000000):Z4 57 #[Z8 P] w (StP P X lo F b S ov l sk (qY b l) w):=by
 obtain⟨oa,oc,rfl⟩:=eE h.row;obtain⟨c0,c1,c2,c3,cf⟩:=h.cs;cases hx:l.getLast? with
 |none=>
  obtain rfl:l=[]:=List.getLast?_eq_none_iff.1 hx;have HS:=a_ (h.start (by omega));have e:qY b []=iN b:=rfl;rw[e];clear h hx e;go_enter func57,ntmps57;go_wp2_with(go_at_call 97;refine HS.out.mono ?_;rintro e w1 ⟨k,S',F',rfl,q⟩;have HQ:=a_ q;clear q);go_ret;exact⟨k,S',F',rfl,HQ.out⟩
 |some x=>
  obtain⟨h0,tR⟩:=uL hx;have e:qY b l=x.2.1:=by unfold qY;rw[hx]
  rw[e];obtain⟨g,cap,eo,hc,-⟩:=h.el tR;cases eo;have a0:=hc 0 _ rfl;rw[bH]at a0;have HE:Hid (∀m,StP P X lo F b S (Z9 g l.length oc) l sk x.2.1 w (.returned (.int .i64 (x.1:Nat))) (w.drewN m)):=fun m=>⟨x.1,S,F,rfl,h.num x (aZ tR),h.drewN m,kR.drewN m,by omega⟩
  have hne:((l.length:Int)==0)=false:=beq_eq_false_iff_ne.2 (by omega);have hwr:IntKind.i64.wrap ((l.length:Int)-1)=((l.length-1:Nat):Int):=by rw[aD];omega
  clear h hx tR hc e;have hkk:((l.length-1:Nat):Int)<(l.length:Int):=by omega
  generalize l.length-1=k at*
  go_enter func57,ntmps57;go_wp2_with fail;go_quiet(fail);go_wp2;go_ret;exact HE.out _
def AL(l:List El):Bool:=match l.getLast? with|some x=>x.2.2|none=>false
theorem Uv(h:PM P X lo F b S ov l sk w)(hl:l.length<=1000000000):Z4 60 #[Z8 P] w (Z7 (.bool (AL l)) w):=by
 obtain⟨oa,oc,rfl⟩:=eE h.row;obtain⟨c0,c1,c2,c3,cf⟩:=h.cs;cases hx:l.getLast? with
 |none=>
  obtain rfl:l=[]:=List.getLast?_eq_none_iff.1 hx;have e:AL []=false:=rfl;rw[e];clear h hx e;go_enter func60,ntmps60;go_wp2_with fail;go_ret;exact⟨rfl,Below.refl _ _⟩
 |some x=>
  obtain⟨h0,tR⟩:=uL hx;have e:AL l=x.2.2:=by unfold AL;rw[hx]
  rw[e];obtain⟨g,cap,eo,hc,-⟩:=h.el tR;cases eo;have a0:=hc 0 _ rfl;rw[bH]at a0;have a1:=hc 1 _ rfl;have a2:=hc 2 _ rfl;have a3:=hc 3 _ rfl;have a4:=hc 4 _ rfl;have a5:=hc 5 _ rfl;have a6:=hc 6 _ rfl;have a7:=hc 7 _ rfl;have hne:((l.length:Int)==0)=false:=beq_eq_false_iff_ne.2 (by omega);have hwr:IntKind.i64.wrap ((l.length:Int)-1)=((l.length-1:Nat):Int):=by rw[aD];omega
  have hkk:((l.length-1:Nat):Int)<(l.length:Int):=by omega
  clear h hx tR hc e;generalize l.length-1=k at*
  generalize x.2.2=t at*
  cases t<;>
  ·go_enter func60,ntmps60;go_wp2_with fail;have al:∀{a v} (o:Obj),w.cell? a=some v->(w.alloc o).cell? a=some v:=fun o h=>eF o h;have c1a:=fun o=>al o c1;have b0:=fun o=>al o a0;have b1:=fun o=>al o a1;have b2:=fun o=>al o a2;have b3:=fun o=>al o a3;have b4:=fun o=>al o a4;have b5:=fun o=>al o a5;have b6:=fun o=>al o a6;have b7:=fun o=>al o a7;go_region_law (fail);all_goals
   go_wp2_with fail;go_ret;exact⟨rfl,((Below.refl w.heap.size w).alloc (ah _) _).drew⟩
end
section
variable{w w' w1 W:World}{ov v:Value}{b:gZ}{F:Nat->Prop}{X lo P sk:Nat}{S:List jo}{l:List El}{cl tk:List Value}{n td B:Nat}
theorem Pw(h:PG P X lo F b S ov cl n n sk w)(hl:n<=1000000000):Z4 61 #[Z8 P] w (Z7 (.slice none 0 0) w):=by
 obtain⟨oa,oc,rfl⟩:=eE h.row;obtain⟨c0,c1,c2,c3,cf⟩:=h.cs;have hlt:¬(n:Int)<n:=by omega
 clear h;have hn:n=0\/0<n:=by omega
 rcases hn with rfl|hn<;>
 ·go_enter func61,ntmps61;go_wp2_with fail;go_quiet(fail);go_wp2_with fail;go_loopw [4,5] (fun u4 _ wr=>u4=.slice none 0 0/\∃m,wr=w.drewN m) (fun _ _ _=>0)
  ·exact⟨rfl,_,rfl⟩
  ·obtain⟨rfl,m,rfl⟩:=hrel;go_wp2_with fail;go_quiet(fail);go_wp2_with fail;go_ret;exact⟨rfl,kV (kV (Below.refl _ _) m) _⟩
def wy(kd:Int)(nm:ByteArray)(av:Value)(tx:ByteArray)(at_:Int):List Value:=[.int .i64 kd,.string nm,av,.string tx,.int .i64 at_]
def Px:List Value:=wy 0 ⟨#[]⟩ (.slice none 0 0) ⟨#[]⟩ 0
def Lf(st:Nat)(tk:List Value):List Value:=.int .i64 (st:Nat)::(tk++[.bool false,.pointer none])
def AO(w:World)(B:Nat)(v:Value)(tk:List Value):Prop:=∃g cap,v=Z9 g 1 cap/\B<=g/\g<w.heap.size/\∀j u,tk[j]?=some u->w.cell? ⟨g,j,none⟩=some u
theorem AO.fr{G:Nat->Prop}(h:AO w B v tk)(hf:Fr G w w')(hG:∀k,B<=k->k<w.heap.size->¬G k):AO w' B v tk:=by
 obtain⟨g,cap,rfl,h1,h2,h3⟩:=h;refine⟨g,cap,rfl,h1,ak h2 hf.size,fun j u hu=>?_⟩;have:=h3 j u hu;unfold World.cell? at this ⊢;rw[hf.block g h2 (hG g h1 h2)];exact this
theorem AO.Di(h:w.ownsRow 0 56 5 v 1 tk)(hk:∀k,v.ownBlock=some k->B<=k):AO w B v tk:=by
 obtain⟨g,cap,rfl⟩:=y8 h;refine⟨g,cap,rfl,hk g rfl,eU h rfl,fun j u hu=>iz h hu⟩
def Ip(cl:List Value):Nat->List Value->List Value
 |_,[]=>cl
 |o,v::vs=>Ip (cl.set o v) (o+1) vs
theorem Iq:∀(vs a c d:List Value),c.length=vs.length->Ip (a++(c++d)) a.length vs=a++(vs++d)
 |[],a,c,d,h=>by
  obtain rfl:c=[]:=aR h;rfl
 |v::vs,a,[],d,h=>by simp at h
 |v::vs,a,x::c,d,h=>by
  have:=Iq vs (a++[v]) c d (by simpa using h);simp only[aM,ae,ag,aq,aI,bR]at this;show Ip ((a++x::(c++d)).set a.length v) (a.length+1) vs=_;rw[cr _ _ (ah _),dX];exact this
theorem PG.YP{g cap:Nat}:∀(vs:List Value) (o:Nat) (cl:List Value) (w:World),o+vs.length<=n*8->PG P X lo F b S (Z9 g n cap) cl n td sk w->PG P X lo F b S (Z9 g n cap) (Ip cl o vs) n td sk (w.setCells g o vs)/\kR P F (Z9 g n cap) w F (Z9 g n cap) (w.setCells g o vs)
 |[],o,cl,w,_,h=>⟨h,kR.gi (Below.refl _ _)⟩
 |v::vs,o,cl,w,hl,h=>by
  simp only[ag]at hl;obtain⟨h1,f1⟩:=h.wQ (i:=o) (by omega) v;obtain⟨h2,f2⟩:=PG.YP vs (o+1) _ _ (by omega) h1;exact⟨h2,f1.trans f2⟩
theorem PG.there{g cap o m:Nat}(h:PG P X lo F b S (Z9 g n cap) cl n td sk w)(hm:o+m<=n*8):w.there g o m:=fun j hj=>by
 have hl:cl.length=n*8:=h.row.1;refine⟨?_,h.row.frozenAt _⟩;rw[h.row.cellAt _ (by omega),aw (by omega)];rfl
def wk:Nat->List Value->List Value
 |0,cl=>cl
 |k+1,cl=>(cl.set (k*8+6) (.bool false)).set (k*8+7) (.pointer none)
theorem Uw(n:Nat)(cl:List Value):(wk n cl).length=cl.length:=by cases n<;>simp[wk]
theorem Ux(n:Nat)(cl d:List Value)(h:cl.length=n*8):wk n (cl++d)=wk n cl++d:=by
 cases n with
 |zero=>rfl
 |succ k=>
  show ((cl++d).set (k*8+6) (.bool false)).set (k*8+7) (.pointer none)=(cl.set (k*8+6) (.bool false)).set (k*8+7) (.pointer none)++d;rw[ed _ _ (by omega),ed _ _ (by simp;omega)]
def AP(P n:Nat)(W:World):Nat:=n-(RowKit.intOf ((W.cell? ⟨P,2,none⟩).getD (.int .i64 0))).toNat
theorem PG.left(h:PG P X lo F b S ov cl n td sk w)(m:Nat):AP P m w=m-td:=by
 unfold AP;rw[h.cs.2.2.1];simp[RowKit.intOf]
def OI(P X lo:Nat)(F:Nat->Prop)(b:gZ)(S:List jo)(ov:Value)(cl tk:List Value)(st n sk:Nat)(w:World)(v:Value)(W:World):Prop:=
 kR P F ov w F ov W/\((v=.slice none 0 0/\PG P X lo F b S ov (cl++Lf st tk) (n+1) n sk W)\/(AO W w.heap.size v tk/\PG P X lo F b S ov (cl++Lf st Px) (n+1) (n+1) sk W))
theorem OI.aaK{st:Nat}(h:PG P X lo F b S ov (cl++Lf st tk) (n+1) n sk w)(hn:n=0)(m:Nat):OI P X lo F b S ov (wk n cl) tk st n sk w (.slice none 0 0) (w.drewN m):=
 ⟨kR.drewN m,Or.inl ⟨rfl,by subst hn;exact h.below (kV (Below.refl _ _) m)⟩⟩
theorem OI.start{st g k oc:Nat}(h:PG P X lo F b S (Z9 g (n+1) oc) (cl++Lf st tk) (n+1) n sk w)(hn:n=k+1)(qQ:cl.length=n*8)(m:Nat):OI P X lo F b S (Z9 g (n+1) oc) (wk n cl) tk st n sk w (.slice none 0 0) (((w.drewN m).setCell ⟨g,k*8+6,none⟩ (.bool false)).setCell ⟨g,k*8+7,none⟩ (.pointer none)):=by
 obtain⟨h1,f1⟩:=(h.below (kV (Below.refl _ _) m)).wQ (i:=k*8+6) (by omega) (.bool false);obtain⟨h2,f2⟩:=h1.wQ (i:=k*8+7) (by omega) (.pointer none);refine⟨(kR.drewN m).trans (f1.trans f2),Or.inl ⟨rfl,?_⟩⟩;rw[<-Ux _ _ _ qQ];subst hn;exact h2
theorem wl{st j:Nat}{u:Value}(qQ:cl.length=n*8)(hj:(Lf st tk)[j]?=some u):(cl++Lf st tk)[n*8+j]?=some u:=by
 rw[aQ (by omega),qQ,cj];exact hj
theorem XJ{st:Nat}{tk:List Value}(qQ:cl.length=n*8)(ht:tk.length=5):Ip (cl++Lf st tk) (n*8+1) Px=cl++Lf st Px:=by
 have:=Iq Px (cl++[.int .i64 (st:Nat)]) tk [.bool false,.pointer none] ht;simp only[aM,ae,ag,aq,aI,bR,qQ]at this;exact this
theorem OI.took{st g oc:Nat}{v7:Value}{w7:World}(hf:kR P F (Z9 g (n+1) oc) w F (Z9 g (n+1) oc) W)(h:PG P X lo F b S (Z9 g (n+1) oc) (cl++Lf st tk) (n+1) n sk W)(qQ:cl.length=n*8)(ht:tk.length=5)(o:Obj)(ho:w7.ownsRow 0 56 5 v7 1 tk)(hg:(W.alloc o).grownBy w7 none)(hat:v7.ownBlock=none\/v7.ownBlock=some (W.alloc o).heap.size):
  w7.there g (n*8+1) 5/\Hid ((w7.setCells g (n*8+1) Px).cell? ⟨P,2,none⟩=some (.int .i64 (n:Nat))/\(w7.setCells g (n*8+1) Px).frozen? ⟨P,2,none⟩=false/\OI P X lo F b S (Z9 g (n+1) oc) cl tk st n sk w v7 ((w7.setCells g (n*8+1) Px).setCell ⟨P,2,none⟩ (.int .i64 ((n:Int)+1)))/\AP P (n+1) ((w7.setCells g (n*8+1) Px).setCell ⟨P,2,none⟩ (.int .i64 ((n:Int)+1)))=0):=by
 have f7:Fr (fun _=>False) W w7:=((Fr.refl _ W).alloc o).gr hg fun k e=>by cases e
 have h7:=h.off f7 (fun _ _ x=>x) fun _ x=>x.elim;have e7:kR P F (Z9 g (n+1) oc) W F (Z9 g (n+1) oc) w7:=⟨f7.mono fun _ x=>x.elim,fun _ hk=>Or.inl hk⟩
 obtain⟨h8,e8⟩:=PG.YP Px (n*8+1) _ _ (by show n*8+1+5<=_;omega) h7;rw[XJ qQ ht]at h8;have A8:∀k,v7.ownBlock=some k->k=W.heap.size+1:=fun k hk=>by
  rcases hat with q|q<;>rw[q]at hk<;>simp at hk
  exact hk.symm
 have hTv:AO w7 (W.heap.size+1) v7 tk:=AO.Di ho fun k hk=>Nat.le_of_eq (A8 k hk).symm;refine⟨h7.there (by omega),?_⟩;have h9:=h8;obtain⟨-,-,x2,-,xf⟩:=h9.cs;have h10:=h9.Le (i:=2) (u:=.int .i64 ((n+1:Nat):Int)) (td':=n+1) rfl h9.row h9.own;have e10:=((hf.trans e7).trans e8).Le (i:=2) (u:=.int .i64 ((n+1:Nat):Int)) (eO h9.blk);have en:((n+1:Nat):Int)=(n:Int)+1:=by omega
 rw[en]at h10 e10;refine⟨x2,xf 2,⟨e10,Or.inr ⟨?_,h10⟩⟩,by rw[h10.left];omega⟩;have hsz:=hf.fr.size;have hT:=hTv.fr (e8.Le (i:=2) (u:=.int .i64 ((n:Int)+1)) (eO h9.blk)).fr fun k hk h2 Lg=>by
  have:=(h.low Lg).2;omega
 obtain⟨g7,ac9,e1,e2,e3,e4⟩:=hT;exact⟨g7,ac9,e1,by omega,e3,e4⟩
theorem Uy:(prog.info? 56).map (·.size)=some (#[.int .i64 0,.string ⟨#[]⟩,.slice none 0 0,.string ⟨#[]⟩,.int .i64 0]:Array Value).size:=by kernel_rfl
theorem ac_:(#[.int .i64 0,.string ⟨#[]⟩,.slice none 0 0,.string ⟨#[]⟩,.int .i64 0]:Array Value).all (·.oneCell')=true:=by simp[Value.oneCell']
theorem YQ:(prog.info? 56).map (fun i=>(i.zero,i.size,i.bytes))=some (some (.agg Px.toArray),5,72):=by kernel_rfl
theorem Uz{st:Nat}{kd at_:Int}{nm tx:ByteArray}{ai:Option Addr}{an ac:Nat}(qQ:cl.length=n*8)(h:PG P X lo F b S ov (cl++Lf st (wy kd nm (.slice ai an ac) tx at_)) (n+1) n sk w)(hl:n<=1000000000):Z4 61 #[Z8 P] w fun e w'=>∃v,e=.returned v/\OI P X lo F b S ov (wk n cl) (wy kd nm (.slice ai an ac) tx at_) st n sk w v w'/\v≠ .slice none 0 0:=by
 obtain⟨g,oc,rfl⟩:=y8 h.row;obtain⟨c0,c1,c2,c3,cf⟩:=h.cs;have hlt:(n:Int)<((n+1:Nat):Int):=by omega
 have yY:¬((n+1:Nat):Int)<((n+1:Nat):Int):=by omega
 obtain⟨i0,x_,hz0,hz1,hz2⟩:=bk YQ;have gf:∀j,w.frozen? ⟨g,j,none⟩=false:=fun j=>h.row.frozenAt j;have kE:∀j,j<n*8->∃u,w.cell? ⟨g,j,none⟩=some u:=fun j hj=>by
  rw[h.row.cellAt j (by omega)];exact⟨_,aw (by simp;omega)⟩
 have HP:=a_ h;clear h;have hn:n=0\/∃k,n=k+1:=by cases n<;>simp
 rcases hn with hn|hn;all_goals first
 |(obtain⟨k,hn⟩:=hn;have hwr:IntKind.i64.wrap ((n:Int)-1)=(k:Nat):=by rw[aD];omega
   have xv:0<n:=by omega
   have hk2:(k:Int)<((n+1:Nat):Int):=by omega
   obtain⟨u6,h6⟩:=kE (k*8+6) (by omega);obtain⟨u7,h7⟩:=kE (k*8+7) (by omega);clear kE;go_enter func61,ntmps61;go_wp2_with fail;go_quiet(fail);go_wp2_with fail;go_quiet(fail);go_wp2_with fail)
 |(have xv:¬0<n:=by omega
   clear kE;go_enter func61,ntmps61;go_wp2_with fail;go_quiet(fail);go_wp2_with fail)
 all_goals
  go_loopw [4,5] (fun u4 _ wr=>OI P X lo F b S (Z9 g (n+1) oc) (wk n cl) (wy kd nm (.slice ai an ac) tx at_) st n sk w u4 wr) (fun _ _ wr=>AP P (n+1) wr)
 all_goals first
 |exact OI.aaK HP.out hn _
 |exact OI.start HP.out hn qQ _
 |skip
 all_goals
  clear c0 c1 c2 c3 cf gf HP xv;try clear hwr hk2 h6 h7
  clear hn;have Py:(wk n cl).length=n*8:=by rw[Uw];exact qQ
  obtain⟨LM,hA⟩:=hrel;rcases hA with⟨rfl,hp⟩|⟨ht,hp⟩
  ·obtain⟨c0,c1,c2,c3,cf⟩:=hp.cs;have a1:wr.cell? ⟨g,n*8+1,none⟩=some (.int .i64 kd):=iz hp.row (wl Py rfl);have a2:wr.cell? ⟨g,n*8+2,none⟩=some (.string nm):=iz hp.row (wl (j:=2) Py rfl);have a3:wr.cell? ⟨g,n*8+3,none⟩=some (.slice ai an ac):=iz hp.row (wl (j:=3) Py rfl);have a4:wr.cell? ⟨g,n*8+4,none⟩=some (.string tx):=iz hp.row (wl (j:=4) Py rfl);have a5:wr.cell? ⟨g,n*8+5,none⟩=some (.int .i64 at_):=iz hp.row (wl (j:=5) Py rfl);have HP:=a_ hp;clear hp;go_wp2_with fail;go_quiet(fail);go_wp2_with fail;go_quiet(fail);have hfW:=a_ (fun m=>LM.trans (kR.drewN (P:=P) (F:=F) (ov:=Z9 g (n+1) oc) (w:=wr) m));have HPm:=a_ (fun m=>HP.out.below (kV (Below.refl _ wr) m));have ada:IntKind.i64.wrap ((n:Int)+1)=(n:Int)+1:=by rw[aD];omega
   have VG:AP P (n+1) wr=1:=by rw[HP.out.left];omega
   clear HP LM;go_wp2_with(first
    |(at_builtin;refine bj (w:=_) rfl _ _ 45 rfl 0 56 i0 _ 5 72 underlying45 x_ hz0 hz1 hz2 rfl (by decide) (.slice none 0 0) 0 [] rfl (bG _ _ _ _) ⟨wr.heap.size,0,none⟩ 1 1 (wy kd nm (.slice ai an ac) tx at_) rfl rfl (mN (wy kd nm (.slice ai an ac) tx at_) 56 (wr.drewN _)) (by simp[wy,Value.oneCell']) (by unfold maxLen;omega) (by omega) (ax _) ?_;intro v7 w7 tE xA _ oQ;obtain⟨a7,n7,c7,rfl⟩:=ft tE;obtain⟨IW,HF⟩:=OI.took (hfW.out _) (HPm.out _) Py rfl _ tE xA oQ;have M9:=a_ IW;clear tE xA oQ IW a1 a2 a3 a4 a5 c0 c1 c2 c3 cf HPm hfW)
    |(refine wpList_store_mid rfl 56 (.tmp 75) (.tmp 73) rfl g (n*8+1) #[.int .i64 0,.string ⟨#[]⟩,.slice none 0 0,.string ⟨#[]⟩,.int .i64 0] rfl rfl M9.out Uy ac_ ?_;change wpList _ _ _ _ _ (w7.setCells g (n*8+1) Px);generalize w7.setCells g (n*8+1) Px=W8 at*
      have x2:=HF.out.1;have xf:=HF.out.2.1))
   go_roundw
   case rel=>exact HF.out.2.2.1
   case measure=>first|exact HF.out.2.2.2|(rw[HF.out.2.2.2,VG];omega)
  ·obtain⟨c0,c1,c2,c3,cf⟩:=hp.cs;have HE:Hid (∀m,∃v,Ending.returned u4=.returned v/\OI P X lo F b S (Z9 g (n+1) oc) (wk n cl) (wy kd nm (.slice ai an ac) tx at_) st n sk w v (wr.drewN m)/\v≠ .slice none 0 0):=fun m=>⟨u4,rfl,⟨LM.trans (kR.drewN m),Or.inr ⟨ht.fr (G:=fun _=>False) ((Fr.refl _ _).drewN m) fun _ _ _ x=>x,hp.below (kV (Below.refl _ _) m)⟩⟩,fun e=>by obtain⟨_,_,e2,_⟩:=ht;rw[e2]at e;cases e⟩
   clear hp ht LM;go_wp2_with fail;go_quiet(fail);go_wp2_with fail;go_ret;exact HE.out _
end
section
variable{w w' w1 W:World}{ov v:Value}{b:gZ}{F:Nat->Prop}{X lo P sk:Nat}{S:List jo}{l:List El}{cl tk:List Value}{n td B:Nat}
theorem nT(l:List El):(xp l).length=l.length*8:=by
 induction l with
 |nil=>rfl
 |cons x l ih=>
  show (Io x++xp l).length=_;rw[ae,ih];show 8+_=(l.length+1)*8;omega
theorem s9(l m:List El):xp (l++m)=xp l++xp m:=by simp[xp]
theorem CV:∀(vs:List Value) (o m:Nat) (cl:List Value),m<=o->(Ip cl o vs).take m=cl.take m
 |[],_,_,_,_=>rfl
 |v::vs,o,m,cl,h=>by
  show (Ip (cl.set o v) (o+1) vs).take m=_;rw[CV vs (o+1) m _ (by omega),List.take_set_of_le h]
theorem CW{e:TypeId}{s g cap:Nat}:∀(vs:List Value) (o:Nat) (cl:List Value) (w:World),o+vs.length<=n*s->w.ownsRow 0 e s (Z9 g n cap) n cl->(w.setCells g o vs).ownsRow 0 e s (Z9 g n cap) n (Ip cl o vs)
 |[],_,_,_,_,h=>h
 |v::vs,o,cl,w,hl,h=>by
  simp only[ag]at hl;exact CW vs (o+1) _ _ (by omega) (K.vW h (by omega) v)
def z8:List Value:=[.int .i64 0,.int .i64 0,.string ⟨#[]⟩,.slice none 0 0,.string ⟨#[]⟩,.int .i64 0,.bool false,.pointer none]
theorem UA:(prog.info? 150).map (fun i=>(i.zero,i.size,i.bytes))=some (some (.agg z8.toArray),8,96):=by kernel_rfl
theorem UB{g cap:Nat}(hc:n<=cap)(a:Addr)(c:Nat)(w:World):(Builtin.append_ #[83,83] 83 #[Z9 g n cap,.slice (some a) 0 c]).run prog w=.ok (Z9 g n cap) w:=by
 obtain⟨i0,hi,hz0,hz1,hz2⟩:=bk UA;simp[Builtin.append_,ee underlying83,sizeOf,typeInfo,hi,Builtin.lenOf,Builtin.firstCells,hc,storeCells,loadCells,loadCellsFrom]
theorem Pz{g:Nat}(c:Nat)(w:World)(ht:w.there g (n*8) 8):(Builtin.clear_ #[83] 0 #[.slice (some ⟨g,n*8,none⟩) 1 c]).run prog w=.ok (.tuple #[]) (w.setCells g (n*8) z8):=by
 obtain⟨i0,hi,hz0,hz1,hz2⟩:=bk UA;have hst:=run_storeCells_cells (P:=prog) g (n*8) z8 0 w (fun j hj=>(ht j hj).1) (fun j hj=>(ht j hj).2) (by simp[z8,Value.oneCell']);simp only[bH]at hst;have hzc:(Builtin.zeroCells (Value.agg z8.toArray).cells 1).toList=z8:=by kernel_rfl
 simp[Builtin.clear_,ee underlying83,zeroValue,typeInfo,hi,hz0,hzc,hst]
theorem PB{g cap:Nat}(h:w.ownsRow 0 150 8 (Z9 g (n+1) cap) (n+1) cl)(hl:n<=1000000000):Z4 62 #[Z9 g (n+1) cap,.int .i64 (n:Nat),.int .i64 ((n+1:Nat):Int)] w fun e w'=>e=.returned (Z9 g n cap)/\w'.ownsRow 0 150 8 (Z9 g n cap) n (cl.take (n*8))/\Fr (fun k=>k=g) w w':=by
 have hne:((n:Int)==((n+1:Nat):Int))=false:=beq_eq_false_iff_ne.2 (by omega);have Jo:n+1<=cap:=by rcases h.2 with⟨e,_⟩|⟨g',cap',cur,e,r⟩<;>cases e;exact r.2.2.1
 have hc1:n<=cap:=by omega
 have hap:=UB (g:=g) (show n<=cap by omega);have IW:w.drew.there g (n*8) 8:=fun j hj=>⟨by show (w.cell? _).isSome=true;rw[h.cellAt _ (by omega),aw (by rw[h.1];omega)];rfl,h.frozenAt _⟩
 have qQ:=Pz (cap-n) w.drew IW;have HE:Hid ((w.drew.setCells g (n*8) z8).ownsRow 0 150 8 (Z9 g n cap) n (cl.take (n*8))/\Fr (fun k=>k=g) w (w.drew.setCells g (n*8) z8)):=by
  have hf:Fr (fun k=>k=g) w (w.drew.setCells g (n*8) z8):=by
   obtain⟨q1,q2,q3,q4⟩:=jZ (g:=g) z8 (n*8) w.drew;exact⟨q1,q2,q3,Nat.le_of_eq q4.symm,fun k _ hk=>fK hk z8 (n*8) w.drew⟩
  refine⟨?_,hf⟩;have h2:=CW z8 (n*8) cl w.drew (by show n*8+8<=_;omega) h;rw[<-CV z8 (n*8) (n*8) cl (ah _)];exact K.CI (m:=n) h2 (by omega)
 clear h IW;generalize w.drew.setCells g (n*8) z8=W9 at*
 have X9:(0:Int)<=(n:Int)+1:=by omega
 obtain⟨A,hA⟩:∃A:Addr,(if cap=n+1 then some (⟨g,0,none⟩:Addr)else some ⟨g,(n+1)*8,none⟩)=some A:=by split<;>exact⟨_,rfl⟩
 go_enter func62,ntmps62;go_wp2_with fail;go_region_law (fail);all_goals
  go_wp2;go_ret;exact⟨rfl,HE.out⟩
end
section
variable{w w' w1 W:World}{ov v:Value}{b:gZ}{F:Nat->Prop}{X lo P sk:Nat}{S:List jo}{l:List El}{cl tk:List Value}{n td B:Nat}{kd at_:Int}{nm tx:ByteArray}{ai:Option Addr}{an ac:Nat}
def Told(w:World)(B:Nat)(v:Value):Option (List Value)->Prop
 |none=>v=.slice none 0 0
 |some tk=>AO w B v tk
def PA(P X lo:Nat)(F:Nat->Prop)(b:gZ)(S:List jo)(ov:Value)(l':List El)(Mv:Nat)(o:Option (List Value))(w:World)(e:Ending)(w':World):Prop:=
 ∃v S' F' mG,e=.returned v/\Told w' w.heap.size v o/\PM P X lo F' b S' mG l' Mv w'/\kR P F ov w F' mG w'/\S'.length<=S.length+4
def uM(kd:Int)(nm:ByteArray)(ai:Option Addr)(an ac:Nat)(tx:ByteArray)(at_:Int):Value:=.agg #[.int .i64 kd,.string nm,.slice ai an ac,.string tx,.int .i64 at_]
theorem PM.skip(h:PM P X lo F b S ov l sk w)(Mv:Nat):PM P X lo F b S ov l Mv (w.setCell ⟨P,3,none⟩ (.int .i64 (Mv:Nat)))/\kR P F ov w F ov (w.setCell ⟨P,3,none⟩ (.int .i64 (Mv:Nat))):=
 ⟨⟨h.toPG.Le (i:=3) rfl h.row h.own,h.num⟩,(kR.gi (Below.refl _ _)).Le (eO h.blk)⟩
theorem PA.box{o:Option (List Value)}{l':List El}{Mv:Nat}{e:Ending}(B:Obj)(h:PA P X lo F b S ov l' Mv o (w.alloc B) e w'):PA P X lo F b S ov l' Mv o w e w':=by
 obtain⟨v,S',F',mG,rfl,h1,h2,h3,h4⟩:=h;refine⟨v,S',F',mG,rfl,?_,h2,(kR.gi ((Below.refl _ w).alloc (ah _) B)).trans h3,h4⟩;cases o with
 |none=>exact h1
 |some tk=>
  obtain⟨g,cap,e1,e2,e3,e4⟩:=h1;exact⟨g,cap,e1,by simp at e2;omega,e3,e4⟩
theorem EN(h:PM P X lo F b S ov l (sk+1) w)(hl:l.length<=1000000000)(hs:sk<=1000000000000):Z4 32 #[Z8 P,uM kd nm ai an ac tx at_] w (PA P X lo F b S ov l sk none w):=by
 obtain⟨W1,hW1⟩:∃W1,w.alloc (.cells #[.int .i64 kd,.string nm,.slice ai an ac,.string tx,.int .i64 at_] 56)=W1:=⟨_,rfl⟩
 have h1:=h.below ((Below.refl _ w).alloc (ah _) (.cells #[.int .i64 kd,.string nm,.slice ai an ac,.string tx,.int .i64 at_] 56));rw[hW1]at h1;obtain⟨oa,oc,rfl⟩:=eE h.row;obtain⟨c0,c1,c2,c3,cf⟩:=h1.cs;have hwr:IntKind.i64.wrap ((l.length:Int)-1)=(l.length:Int)-1:=by rw[aD];omega
 have Zr:IntKind.i64.wrap (((sk+1:Nat):Int)-1)=(sk:Nat):=by rw[aD];omega
 have hs0:(0:Int)<((sk+1:Nat):Int):=by omega
 have HE:Hid (PA P X lo F b S (.slice oa l.length oc) l sk none w (.returned (.slice none 0 0)) (W1.setCell ⟨P,3,none⟩ (.int .i64 (sk:Nat)))):=by
  obtain⟨q1,q2⟩:=h1.skip sk;rw[<-hW1]at q1 q2 ⊢;exact PA.box _ ⟨_,S,F,_,rfl,rfl,q1,q2,by omega⟩
 clear h h1;unfold uM;go_enter func32,ntmps32;go_wp2_with fail;go_ret;exact HE.out
theorem EO(h:PM P X lo F b S ov [] 0 w):Z4 32 #[Z8 P,uM kd nm ai an ac tx at_] w (PA P X lo F b S ov [] 0 none w):=by
 obtain⟨W1,hW1⟩:∃W1,w.alloc (.cells #[.int .i64 kd,.string nm,.slice ai an ac,.string tx,.int .i64 at_] 56)=W1:=⟨_,rfl⟩
 have h1:=h.below ((Below.refl _ w).alloc (ah _) (.cells #[.int .i64 kd,.string nm,.slice ai an ac,.string tx,.int .i64 at_] 56));rw[hW1]at h1;obtain⟨oa,oc,rfl⟩:=eE h.row;obtain⟨c0,c1,c2,c3,cf⟩:=h1.cs;have HE:Hid (PA P X lo F b S (.slice oa 0 oc) [] 0 none w (.returned (.slice none 0 0)) W1):=by
  rw[<-hW1]at h1 ⊢;exact PA.box _ ⟨_,S,F,_,rfl,rfl,h1,kR.gi (Below.refl _ _),by omega⟩
 clear h h1;unfold uM;go_enter func32,ntmps32;go_wp2_with fail;go_ret;exact HE.out
theorem UC(l:List El)(x:El):(xp (l++[x])).take (l.length*8)=xp l:=by rw[s9,dy (by rw[nT];omega),<-nT l,bt]
theorem qA{G:Nat->Prop}{a:Addr}{u:Value}(hf:Fr G w w')(ha:¬G a.block)(h:w.cell? a=some u):w'.cell? a=some u:=by
 have hb:=bE w _ h;unfold World.cell? at h ⊢;rw[hf.block _ hb ha];exact h
theorem kR.adb{F':Nat->Prop}{mG u:Value}{i:Nat}(h:kR P F ov w F' mG w'):kR P F ov w F' mG (w'.setCell ⟨P,i,none⟩ u):=
 h.trans ⟨(Fr.refl _ _).set _ _ fun _=>Or.inr (Or.inl rfl),fun _ hk=>Or.inl hk⟩
theorem PM.aaL{g oc:Nat}{x:El}{w3:World}(h:PM P X lo F b S (Z9 g (l.length+1) oc) (l++[x]) 0 w)(hr:w3.ownsRow 0 150 8 (Z9 g l.length oc) l.length ((xp (l++[x])).take (l.length*8)))(hf:Fr (fun k=>k=g) w w3):
  (∃u,w3.cell? ⟨P,1,none⟩=some u)/\w3.frozen? ⟨P,1,none⟩=false/\(∃W,w3.setCell ⟨P,1,none⟩ (Z9 g l.length oc)=W/\W.cell? ⟨P,2,none⟩=some (.int .i64 ((l.length+1:Nat):Int))/\W.frozen? ⟨P,2,none⟩=false/\∃W',W.setCell ⟨P,2,none⟩ (.int .i64 (l.length:Nat))=W'/\Hid (PM P X lo F b S (Z9 g l.length oc) l 0 W'/\kR P F (Z9 g (l.length+1) oc) w F (Z9 g l.length oc) W')):=by
 rw[UC]at hr;have hP:w3.heap[P]?=_:=(hf.block _ (eO h.blk) fun e=>h.neP (by rw[e];rfl)).trans h.blk;obtain⟨h4,f4⟩:=h.toPG.app hr ⟨hf.os,hf.tape,hf.output,hf.size,fun k hk hne=>hf.block k hk fun e=>hne (by rw[e];rfl)⟩ (Or.inl rfl);refine⟨⟨_,cell_of hP rfl⟩,eP hP,_,rfl,?_,h4.cs.2.2.2.2 2,_,rfl,⟨h4.Le (i:=2) rfl h4.row h4.own,fun y hy=>h.num y (by simp[hy])⟩,f4.adb⟩;have:=h4.cs.2.2.1;rw[ae]at this;exact this
theorem Ir{x:El}(h:PM P X lo F b S ov (l++[x]) 0 w)(hl:l.length<=1000000000):Z4 32 #[Z8 P,uM kd nm ai an ac tx at_] w (PA P X lo F b S ov l 0 (some (wy kd nm (.slice ai an ac) tx at_)) w):=by
 obtain⟨W1,hW1⟩:∃W1,w.alloc (.cells #[.int .i64 kd,.string nm,.slice ai an ac,.string tx,.int .i64 at_] 56)=W1:=⟨_,rfl⟩
 have h1:=h.below ((Below.refl _ w).alloc (ah _) (.cells #[.int .i64 kd,.string nm,.slice ai an ac,.string tx,.int .i64 at_] 56));rw[hW1]at h1;have zo:(l++[x]).length=l.length+1:=by simp
 obtain⟨g,oc,rfl,hcell,-⟩:=h1.el (i:=l.length) (x:=x) (by simp);obtain⟨c0,c1,c2,c3,cf⟩:=h1.cs;rw[zo]at c1 c2;have a0:=hcell 0 _ rfl;rw[bH]at a0;have a1:=hcell 1 _ rfl;have a2:=hcell 2 _ rfl;have a3:=hcell 3 _ rfl;have a4:=hcell 4 _ rfl;have a5:=hcell 5 _ rfl;have a6:=hcell 6 _ rfl;have a7:=hcell 7 _ rfl;have HN:=mN [.int .i64 kd,.string nm,.slice ai an ac,.string tx,.int .i64 at_] 56 w;obtain⟨W2,hW2⟩:∃W2,W1.alloc (.cells #[.int .i64 (x.1:Nat),.int .i64 0,.string ⟨#[]⟩,.slice none 0 0,.string ⟨#[]⟩,.int .i64 0,.bool x.2.2,.pointer none] 150)=W2:=⟨_,rfl⟩
 have h2:=h1.below ((Below.refl _ W1).alloc (ah _) (.cells #[.int .i64 (x.1:Nat),.int .i64 0,.string ⟨#[]⟩,.slice none 0 0,.string ⟨#[]⟩,.int .i64 0,.bool x.2.2,.pointer none] 150));rw[hW2]at h2;have hr2:=h2.row;rw[zo]at hr2;have dd:∀{a u} o,W1.cell? a=some u->(W1.alloc o).cell? a=some u:=fun o h=>eF o h;have d0:=fun o=>dd o c0;have d1:=fun o=>dd o c1;have d2:=fun o=>dd o c2;have HD:=a_ (PB hr2 hl);have HQ:Hid (∀w3,w3.ownsRow 0 150 8 (Z9 g l.length oc) l.length ((xp (l++[x])).take (l.length*8))->Fr (fun k=>k=g) W2 w3->(∃u,w3.cell? ⟨P,1,none⟩=some u)/\w3.frozen? ⟨P,1,none⟩=false/\(∃W,w3.setCell ⟨P,1,none⟩ (Z9 g l.length oc)=W/\W.cell? ⟨P,2,none⟩=some (.int .i64 ((l.length+1:Nat):Int))/\W.frozen? ⟨P,2,none⟩=false/\∃W',W.setCell ⟨P,2,none⟩ (.int .i64 (l.length:Nat))=W'/\(W'.cell? ⟨w.heap.size,0,none⟩=some (.int .i64 kd)/\W'.cell? ⟨w.heap.size,1,none⟩=some (.string nm)/\W'.cell? ⟨w.heap.size,2,none⟩=some (.slice ai an ac)/\W'.cell? ⟨w.heap.size,3,none⟩=some (.string tx)/\W'.cell? ⟨w.heap.size,4,none⟩=some (.int .i64 at_))/\Hid (PA P X lo F b S (Z9 g (l.length+1) oc) l 0 (some (wy kd nm (.slice ai an ac) tx at_)) w (.returned (.slice (some ⟨W'.heap.size,0,none⟩) 1 1)) (W'.alloc (.cells #[.int .i64 kd,.string nm,.slice ai an ac,.string tx,.int .i64 at_] 56))))):=fun w3 hr hf=>by
  rw[zo]at h2;obtain⟨q1,q2,W,e1,q3,q4,W',e2,q5,q6⟩:=h2.aaL hr hf;have b2:Z5 w W2:=by rw[<-hW2,<-hW1];exact((Below.refl _ w).alloc (ah _) _).alloc (by simp) _
  have fj:∀j u,[Value.int .i64 kd,.string nm,.slice ai an ac,.string tx,.int .i64 at_][j]?=some u->W'.cell? ⟨w.heap.size,j,none⟩=some u:=fun j u hu=>by
   refine qA q6.fr (fun Lg=>?_) ?_
   ·have:=(h.low (by rw[zo];exact Lg)).2;exact cy _ this
   ·rw[<-hW2,<-hW1];have:=HN j u hu;rw[show (⟨w.heap.size,0,none⟩:Addr).add j=⟨w.heap.size,j,none⟩ by rw[Addr.add_mid,ay]]at this;exact eF _ this
  refine⟨q1,q2,W,e1,q3,q4,W',e2,⟨fj 0 _ rfl,fj 1 _ rfl,fj 2 _ rfl,fj 3 _ rfl,fj 4 _ rfl⟩,_,S,F,_,rfl,⟨W'.heap.size,1,rfl,?_,by simp,fun j u hu=>?_⟩,q5.below ((Below.refl _ _).alloc (ah _) _),((kR.gi b2).trans q6).trans (kR.gi ((Below.refl _ _).alloc (ah _) _)),by omega⟩
  ·have:=b2.size;have:=q6.fr.size;omega
  ·have:=mN (wy kd nm (.slice ai an ac) tx at_) 56 W' j u hu;rw[Addr.add_mid,ay]at this;exact this
 have hwr:IntKind.i64.wrap (((l.length+1:Nat):Int)-1)=(l.length:Nat):=by rw[aD];omega
 have ada:IntKind.i64.wrap ((l.length:Int)+1)=((l.length+1:Nat):Int):=by rw[aD];omega
 have hlt:(l.length:Int)<((l.length+1:Nat):Int):=by omega
 have yy:¬(l.length:Int)<0:=by omega
 have HW2:=a_ hW2;clear h h1 h2 hr2 hcell HN dd hW2;rw[zo];clear zo;generalize l.length=n at*
 generalize xp (l++[x])=cl at*
 unfold uM;go_enter func32,ntmps32;go_wp2_with(go_at_call 62;rw[HW2.out];refine HD.out.mono ?_;rintro e w3 ⟨rfl,hr3,hf3⟩;obtain⟨⟨u3,x1⟩,xf,W4,e4,x2,xg,W5,e5,⟨y0,y1,y2,y3,y4⟩,HE⟩:=HQ.out w3 hr3 hf3;clear hr3 hf3 HQ HD a0 a1 a2 a3 a4 a5 a6 a7 c0 c1 c2 c3 cf d0 d1 d2 hW1 HW2);go_ret;exact HE.out
end
section
variable{w w' w1:World}{ov:Value}{b:gZ}{F:Nat->Prop}{X lo P sk:Nat}{S:List jo}{l:List El}
def xX(b:gZ)(l:List El):Bool:=match l.getLast? with|some x=>x.2.1.wh||x.2.1.tx|none=>false
theorem wm(h:PM P X lo F b S ov l sk w)(hS:S.length<=1000000000)(hl:l.length<=1000000000):Z4 63 #[Z8 P] w fun e w'=>e=.returned (.bool (xX b l))/\∃S' F',PM P X lo F' b S' ov l sk w'/\kR P F ov w F' ov w'/\S'.length<=S.length+2:=by
 obtain⟨oa,oc,rfl⟩:=eE h.row;obtain⟨c0,c1,c2,c3,cf⟩:=h.cs;cases hx:l.getLast? with
 |none=>
  obtain rfl:l=[]:=List.getLast?_eq_none_iff.1 hx;have HE:=a_ h;have e:xX b []=false:=rfl;rw[e];clear h hx e;go_enter func63,ntmps63;go_wp2_with fail;go_ret;exact⟨rfl,S,F,HE.out,kR.gi (Below.refl _ _),by omega⟩
 |some x=>
  obtain⟨h0,tR⟩:=uL hx;have e:xX b l=(x.2.1.wh||x.2.1.tx):=by unfold xX;rw[hx]
  rw[e];have hcu:qY b l=x.2.1:=by unfold qY;rw[hx]
  have hne:((l.length:Int)==0)=false:=beq_eq_false_iff_ne.2 (by omega);obtain⟨s,hs⟩:∃s,x.2.1=s:=⟨_,rfl⟩
  rw[hs];rw[hs]at hcu;have HST:=a_ (wj (h.below (Below.refl _ w).drew) (by omega) hl);rw[hcu]at HST;have HC:Hid (∀S1 F1 W1,S1.length<=S.length+1->PM P X lo F1 b S1 (.slice oa l.length oc) l sk W1->W1.cell? ⟨P,0,none⟩=some (Z8 X)/\Z4 57 #[Z8 P] W1 (StP P X lo F1 b S1 (.slice oa l.length oc) l sk s W1)):=fun S1 F1 W1 h1 h2=>⟨h2.cs.1,by rw[<-hcu];exact wj h2 (by omega) hl⟩
  have c0d:w.drew.cell? ⟨P,0,none⟩=some (Z8 X):=c0;have HTx:Hid (∀S1 F1 W1 k,S1[k]?=some s->PM P X lo F1 b S1 (.slice oa l.length oc) l sk W1->Z4 98 #[Z8 X,.int .i64 (k:Nat)] W1 (Z6 (.bool s.tx) W1)):=fun S1 F1 W1 k h1 h2=>h2.sp.text h1;clear h hx tR e hcu hs;cases XK:s.wh with
  |true=>
   rw[cD];go_enter func63,ntmps63;go_wp2_with fail;go_region_law
    (first
    |(go_simp;refine HST.out.mono ?_;rintro e w5 ⟨k,S1,F1,rfl,hk,Q_,hbl,VO⟩;have x0:=Q_.cs.1;have Lh:=a_ (Q_.sp.keep hk);have HPM:=a_ Q_;have Kp:=a_ hbl;rw[XK]at Lh;clear Q_ hbl HST)
    |(go_simp;refine Lh.out.mono ?_;rintro e w6 ⟨rfl,m6,hw6⟩;have aaM:=hw6.symm;clear hw6;subst aaM;clear Lh))
   all_goals
    simp[Act.put];go_wp2_with fail;have HE:=a_ (show ∀n,PM P X lo F1 b S1 (.slice oa l.length oc) l sk ((w5.drewN m6).drewN n)/\kR P F (.slice oa l.length oc) w F1 (.slice oa l.length oc) ((w5.drewN m6).drewN n)/\S1.length<=S.length+2 from fun n=>⟨(HPM.out.drewN m6).drewN n,((kR.gi (Below.refl _ w).drew).trans Kp.out).trans (kR.gi (kV (kV (Below.refl _ _) m6) n)),by omega⟩);clear c0 c1 c2 c3 cf c0d hS hl h0 hne hk VO HPM Kp x0 HC HTx;generalize w5.drewN m6=W6 at*
    go_quiet(fail);go_wp2;go_ret;exact⟨rfl,S1,F1,HE.out _⟩
  |false=>
   rw[cu];go_enter func63,ntmps63;go_wp2_with fail;go_region_law
    (first
    |(go_simp;refine HST.out.mono ?_;rintro e w5 ⟨k,S1,F1,rfl,hk,Q_,hbl,VO⟩;have x0:=Q_.cs.1;have Lh:=a_ (Q_.sp.keep hk);have HPM:=a_ Q_;have Kp:=a_ hbl;rw[XK]at Lh;clear Q_ hbl HST)
    |(go_simp;refine Lh.out.mono ?_;rintro e w6 ⟨rfl,m6,hw6⟩;have aaM:=hw6.symm;clear hw6;subst aaM;clear Lh))
   all_goals
    simp[Act.put];go_wp2_with fail;have Y6:=a_ (HPM.out.below ((kV (Below.refl _ w5) m6).drew));obtain⟨y0,tG⟩:=HC.out S1 F1 _ VO Y6.out;have I3:=a_ tG;have Hz:=a_ (show kR P F (.slice oa l.length oc) w F1 (.slice oa l.length oc) (w5.drewN m6).drew from((kR.gi (Below.refl _ w).drew).trans Kp.out).trans (kR.gi (kV (Below.refl _ w5) m6).drew));clear tG HPM Kp x0 HC;have HLN:Hid (S1.length<=S.length+1):=VO;clear c0 c1 c2 c3 cf c0d hS hl h0 hne hk VO Y6;generalize w5.drewN m6=W6 at*
    have y1:W6.cell? ⟨P,0,none⟩=some (Z8 X):=y0;go_region_law
     (first
     |(go_simp;refine I3.out.mono ?_;rintro e w8 ⟨k8,S8,F8,rfl,hk8,XL,abV,adS⟩;have z0:=XL.cs.1;have HK8:=a_ (HTx.out S8 F8 _ k8 hk8 XL);have HE:=a_ (show PM P X lo F8 b S8 (.slice oa l.length oc) l sk w8/\kR P F (.slice oa l.length oc) w F8 (.slice oa l.length oc) w8/\S8.length<=S.length+2 from⟨XL,Hz.out.trans abV,by have:=HLN.out;omega⟩);clear XL abV I3)
     |(go_simp;refine HK8.out.mono ?_;rintro e w9 ⟨rfl,hw9⟩;have ade:=hw9.symm;clear hw9;subst ade;clear HK8))
    all_goals
     simp[Act.put];go_wp2_with fail;go_ret;exact⟨rfl,S8,F8,HE.out⟩
end
section
variable{w w' w1 W:World}{ov v:Value}{b:gZ}{F:Nat->Prop}{X lo P sk:Nat}{S:List jo}{l:List El}{cl tk:List Value}{n td B:Nat}{kd at_:Int}{nm tx:ByteArray}{ai:Option Addr}{an ac:Nat}
theorem Li(h:PM P X lo F b S ov l (sk+1) w):Z4 33 #[Z8 P,uM kd nm ai an ac tx at_] w (PA P X lo F b S ov l (sk+1) none w):=by
 obtain⟨W1,hW1⟩:∃W1,w.alloc (.cells #[.int .i64 kd,.string nm,.slice ai an ac,.string tx,.int .i64 at_] 56)=W1:=⟨_,rfl⟩
 have h1:=h.below ((Below.refl _ w).alloc (ah _) (.cells #[.int .i64 kd,.string nm,.slice ai an ac,.string tx,.int .i64 at_] 56));rw[hW1]at h1;obtain⟨c0,c1,c2,c3,cf⟩:=h1.cs;have hs0:(0:Int)<((sk+1:Nat):Int):=by omega
 have HE:Hid (PA P X lo F b S ov l (sk+1) none w (.returned (.slice none 0 0)) W1):=by
  rw[<-hW1]at h1 ⊢;exact PA.box _ ⟨_,S,F,_,rfl,rfl,h1,kR.gi (Below.refl _ _),by omega⟩
 clear h h1;unfold uM;go_enter func33,ntmps33;go_wp2_with fail;go_ret;exact HE.out
theorem UD(h:PM P X lo F b S ov l 0 w)(hk:xX b l=false)(hS:S.length<=1000000000)(hl:l.length<=1000000000):Z4 33 #[Z8 P,uM kd nm ai an ac tx at_] w (PA P X lo F b S ov l 0 none w):=by
 obtain⟨W1,hW1⟩:∃W1,w.alloc (.cells #[.int .i64 kd,.string nm,.slice ai an ac,.string tx,.int .i64 at_] 56)=W1:=⟨_,rfl⟩
 have h1:=h.below ((Below.refl _ w).alloc (ah _) (.cells #[.int .i64 kd,.string nm,.slice ai an ac,.string tx,.int .i64 at_] 56));rw[hW1]at h1;obtain⟨c0,c1,c2,c3,cf⟩:=h1.cs;have HK:=a_ (wm h1 hS hl);rw[hk]at HK;have HE:Hid (∀S' F' w',PM P X lo F' b S' ov l 0 w'->kR P F ov W1 F' ov w'->S'.length<=S.length+2->PA P X lo F b S ov l 0 none w (.returned (.slice none 0 0)) w'):=fun S' F' w' q1 q2 q3=>by
  rw[<-hW1]at q2;exact PA.box _ ⟨_,S',F',_,rfl,rfl,q1,q2,by omega⟩
 clear h h1 hk;unfold uM;go_enter func33,ntmps33;go_wp2_with(go_at_call 63;refine HK.out.mono ?_;rintro e w5 ⟨rfl,S5,F5,q1,q2,q3⟩;have HF:=a_ (HE.out S5 F5 w5 q1 q2 q3);clear q1 q2 q3 HK HE c0 c1 c2 c3 cf hW1);go_ret;exact HF.out
theorem aaN(l:List El)(x:El):((xp (l++[x])).set (l.length*8+6) (.bool true)).set (l.length*8+7) (.pointer none)=xp (l++[(x.1,x.2.1,true)]):=by
 rw[s9,s9,cr _ _ (by rw[nT];omega),cr _ _ (by rw[nT];omega),nT,cj,cj];rfl
theorem PM.ic{g oc:Nat}{x:El}(h:PM P X lo F b S (Z9 g (l.length+1) oc) (l++[x]) sk w):
  PM P X lo F b S (Z9 g (l.length+1) oc) (l++[(x.1,x.2.1,true)]) sk ((w.setCell ⟨g,l.length*8+6,none⟩ (.bool true)).setCell ⟨g,l.length*8+7,none⟩ (.pointer none))/\kR P F (Z9 g (l.length+1) oc) w F (Z9 g (l.length+1) oc) ((w.setCell ⟨g,l.length*8+6,none⟩ (.bool true)).setCell ⟨g,l.length*8+7,none⟩ (.pointer none)):=by
 have zo:(l++[x]).length=l.length+1:=by simp
 have hp:=h.toPG;rw[zo]at hp;obtain⟨q1,f1⟩:=hp.wQ (i:=l.length*8+6) (by omega) (.bool true);obtain⟨q2,f2⟩:=q1.wQ (i:=l.length*8+7) (by omega) (.pointer none);rw[aaN]at q2;refine⟨⟨by rw[show (l++[(x.1,x.2.1,true)]).length=l.length+1 by simp];exact q2,fun y hy=>?_⟩,f1.trans f2⟩;rcases List.mem_append.1 hy with hy|hy
 ·exact h.num y (by simp[hy])
 ·obtain rfl:y=(x.1,x.2.1,true):=by simpa using hy
  exact h.num x (by simp)
theorem PC{x:El}(h:PM P X lo F b S ov (l++[x]) 0 w)(hk:xX b (l++[x])=true)(hS:S.length<=1000000000)(hl:l.length<=100000000):Z4 33 #[Z8 P,uM kd nm ai an ac tx at_] w (PA P X lo F b S ov (l++[(x.1,x.2.1,true)]) 0 (some (wy kd nm (.slice ai an ac) tx at_)) w):=by
 obtain⟨W1,hW1⟩:∃W1,w.alloc (.cells #[.int .i64 kd,.string nm,.slice ai an ac,.string tx,.int .i64 at_] 56)=W1:=⟨_,rfl⟩
 have h1:=h.below ((Below.refl _ w).alloc (ah _) (.cells #[.int .i64 kd,.string nm,.slice ai an ac,.string tx,.int .i64 at_] 56));rw[hW1]at h1;have zo:(l++[x]).length=l.length+1:=by simp
 obtain⟨g,oc,rfl,-⟩:=h1.el (i:=l.length) (x:=x) (by simp);obtain⟨i0,x_,hz0,hz1,hz2⟩:=bk YQ;rw[zo]at h1 h ⊢;obtain⟨c0,c1,c2,c3,cf⟩:=h1.cs;have HK:=a_ (wm h1 hS (by rw[zo];omega));rw[hk]at HK;have hwr:IntKind.i64.wrap (((l.length+1:Nat):Int)-1)=(l.length:Nat):=by rw[aD];omega
 have hlt:(l.length:Int)<((l.length+1:Nat):Int):=by omega
 have H0:=a_ h.toPG;clear h hk;unfold uM;go_enter func33,ntmps33;go_wp2_with(first
  |(go_at_call 63;refine HK.out.mono ?_;rintro e w5 ⟨rfl,S5,F5,q1,q2,q3⟩;have HP5:=a_ q1;have YR:=a_ q2;have HO:=a_ (Pw q1.toPG (by rw[zo];omega));clear q1 q2 HK c0 c1 c2 c3 cf)
  |(go_at_call 61;refine HO.out.mono ?_;rintro e w6 ⟨rfl,yw⟩;have HP6:=a_ (HP5.out.below yw);obtain⟨c0,c1,c2,c3,cf⟩:=HP6.out.cs))
 go_quiet(fail);have HB6:=a_ yw;have YS:=a_ (HP6.out.drewN nq);have Vf:=a_ ((YR.out.trans (kR.gi HB6.out)).trans (kR.drewN nq));clear c0 c1 c2 c3 cf HP6 HB6 yw YR HP5 HO;generalize w6.drewN nq=w7 at*
 obtain⟨g',oc',eg,hcell,gf⟩:=YS.out.el (i:=l.length) (x:=x) (by simp);rw[zo]at eg;cases eg;have a6:=hcell 6 _ rfl;have a7:=hcell 7 _ rfl;have gf6:=gf (l.length*8+6);have gf7:=gf (l.length*8+7);obtain⟨q1,q2⟩:=YS.out.ic;obtain⟨W8,e8⟩:∃W8,(w7.setCell ⟨g,l.length*8+6,none⟩ (.bool true)).setCell ⟨g,l.length*8+7,none⟩ (.pointer none)=W8:=⟨_,rfl⟩
 rw[e8]at q1 q2;have hF8:kR P F (Z9 g (l.length+1) oc) W1 F5 (Z9 g (l.length+1) oc) W8:=Vf.out.trans q2;have fj:∀j u,[Value.int .i64 kd,.string nm,.slice ai an ac,.string tx,.int .i64 at_][j]?=some u->W8.cell? ⟨w.heap.size,j,none⟩=some u:=fun j u hu=>by
  refine qA hF8.fr (fun Lg=>cy _ (H0.out.low Lg).2) ?_;rw[<-hW1];have:=mN [.int .i64 kd,.string nm,.slice ai an ac,.string tx,.int .i64 at_] 56 w j u hu;rw[Addr.add_mid,ay]at this;exact this
 have y0:=fj 0 _ rfl;have y1:=fj 1 _ rfl;have y2:=fj 2 _ rfl;have y3:=fj 3 _ rfl;have y4:=fj 4 _ rfl;have HE:Hid (∀v9 w9 o,w9.ownsRow 0 56 5 v9 1 (wy kd nm (.slice ai an ac) tx at_)->(W8.alloc o).grownBy w9 none->(v9.ownBlock=none\/v9.ownBlock=some (W8.alloc o).heap.size)->PA P X lo F b S (Z9 g (l.length+1) oc) (l++[(x.1,x.2.1,true)]) 0 (some (wy kd nm (.slice ai an ac) tx at_)) w (.returned v9) w9):=fun v9 w9 o r1 r2 r3=>by
  have f9:Fr (fun _=>False) W8 w9:=((Fr.refl _ W8).alloc o).gr r2 fun k e=>by cases e
  rw[<-hW1]at hF8;refine PA.box _ ⟨v9,S5,F5,_,rfl,AO.Di r1 fun k hk=>?_,⟨q1.toPG.off f9 (fun _ _ x=>x) fun _ x=>x.elim,q1.num⟩,hF8.trans ⟨f9.mono fun _ x=>x.elim,fun _ hk=>Or.inl hk⟩,by omega⟩;have:=hF8.fr.size;rcases r3 with q|q<;>rw[q]at hk<;>simp at hk
  omega
 clear fj hF8 q1 q2 YS Vf hcell gf h1 hW1 H0;go_wp2_with(at_builtin;refine bj (w:=_) rfl _ _ 45 rfl 0 56 i0 _ 5 72 underlying45 x_ hz0 hz1 hz2 rfl (by decide) (.slice none 0 0) 0 [] rfl (bG _ _ _ _) ⟨W8.heap.size,0,none⟩ 1 1 (wy kd nm (.slice ai an ac) tx at_) rfl rfl (mN (wy kd nm (.slice ai an ac) tx at_) 56 W8) (by simp[wy,Value.oneCell']) (by unfold maxLen;omega) (by omega) (ax _) ?_;intro v9 w9 ho9 hg9 _ UE;obtain⟨a9,n9,c9,rfl⟩:=ft ho9;have HF:=a_ (HE.out _ _ _ ho9 hg9 UE);clear ho9 hg9 UE HE);go_ret;exact HF.out
end
section
variable{w w' w1 W:World}{ov v:Value}{b:gZ}{F:Nat->Prop}{X lo P sk:Nat}{S:List jo}{l:List El}{cl tk:List Value}{n td B:Nat}{kd at_:Int}{nm tx:ByteArray}{ai:Option Addr}{an ac:Nat}
def xr(l:List El):List El:=l.dropLast++(l.getLast?.toList.map fun x=>(x.1,x.2.1,false))
theorem tj(l:List El)(x:El):xr (l++[x])=l++[(x.1,x.2.1,false)]:=by simp[xr]
theorem UF(l:List El):(xr l).length=l.length:=by
 rcases b9 l with rfl|⟨m,x,rfl⟩
 ·rfl
 ·rw[cd,tj];simp
theorem Lj(l:List El):wk l.length (xp l)=xp (xr l):=by
 rcases b9 l with rfl|⟨m,x,rfl⟩
 ·rfl
 ·rw[cd,tj,ae];show ((xp (m++[x])).set (m.length*8+6) (.bool false)).set (m.length*8+7) (.pointer none)=_;rw[s9,s9,cr _ _ (by rw[nT];omega),cr _ _ (by rw[nT];omega),nT,cj,cj];rfl
theorem UG{l:List El}{y:El}(h:y∈xr l):∃z∈l,z.1=y.1/\z.2.1=y.2.1:=by
 rcases b9 l with rfl|⟨m,x,rfl⟩
 ·simp[xr]at h
 ·rw[cd,tj]at h;rw[cd];rcases List.mem_append.1 h with h|h
  ·exact⟨y,by simp[h],rfl,rfl⟩
  ·obtain rfl:y=(x.1,x.2.1,false):=by simpa using h
   exact⟨x,by simp,rfl,rfl⟩
theorem OI.done{st:Nat}{s:jo}(hn:S[st]?=some s)(hm:∀x∈l,S[x.1]?=some x.2.1)(h:OI P X lo F b S ov (wk l.length (xp l)) tk st l.length sk w v w')(hv:v≠ .slice none 0 0):AO w' w.heap.size v tk/\PM P X lo F b S ov (xr l++[(st,s,false)]) sk w'/\kR P F ov w F ov w':=by
 obtain⟨hf,⟨h1,-⟩|⟨h1,h2⟩⟩:=h
 ·exact absurd h1 hv
 ·have e1:(xr l++[(st,s,false)]).length=l.length+1:=by simp[UF]
  have e2:wk l.length (xp l)++Lf st Px=xp (xr l++[(st,s,false)]):=by rw[s9,<-Lj];rfl
  rw[e2]at h2;refine⟨h1,⟨by rw[e1];exact h2,fun y hy=>?_⟩,hf⟩;rcases List.mem_append.1 hy with hy|hy
  ·obtain⟨z,hz,e3,e4⟩:=UG hy;rw[<-e3,<-e4];exact hm z hz
  ·obtain rfl:y=(st,s,false):=by simpa using hy
   exact hn
theorem EP(h:PM P X lo F b S ov l (sk+1) w)(hs:sk<=1000000000000):Z4 31 #[Z8 P,uM kd nm ai an ac tx at_] w (PA P X lo F b S ov l (sk+2) none w):=by
 obtain⟨W1,hW1⟩:∃W1,w.alloc (.cells #[.int .i64 kd,.string nm,.slice ai an ac,.string tx,.int .i64 at_] 56)=W1:=⟨_,rfl⟩
 have h1:=h.below ((Below.refl _ w).alloc (ah _) (.cells #[.int .i64 kd,.string nm,.slice ai an ac,.string tx,.int .i64 at_] 56));rw[hW1]at h1;obtain⟨c0,c1,c2,c3,cf⟩:=h1.cs;have Zr:IntKind.i64.wrap (((sk+1:Nat):Int)+1)=((sk+2:Nat):Int):=by rw[aD];omega
 have hs0:(0:Int)<((sk+1:Nat):Int):=by omega
 have HE:Hid (PA P X lo F b S ov l (sk+2) none w (.returned (.slice none 0 0)) (W1.setCell ⟨P,3,none⟩ (.int .i64 ((sk+2:Nat):Int)))):=by
  obtain⟨q1,q2⟩:=h1.skip (sk+2);rw[<-hW1]at q1 q2 ⊢;exact PA.box _ ⟨_,S,F,_,rfl,rfl,q1,q2,by omega⟩
 clear h h1;unfold uM;go_enter func31,ntmps31;go_wp2_with fail;go_ret;exact HE.out
theorem abW{H T:Nat->Nat->List jo->(Nat->Prop)->World->Prop}{G:Prop}(h:(∀a c S F W,H a c S F W->T a c S F W)->G)(t:∀a c S F W,H a c S F W->T a c S F W):G:=h t
def ON(P X lo:Nat)(F:Nat->Prop)(b:gZ)(S:List jo)(ov:Value)(l:List El)(s:jo)(W1:World)(k6:Nat)(S6:List jo)(F6:Nat->Prop)(w6:World):Prop:=
 S6[k6]?=some s/\PM P X lo F6 b S6 ov l 0 w6/\kR P F ov W1 F6 ov w6/\S6.length<=S.length+2
theorem Lk(name:L)(h:PM P X lo F b S ov l 0 w)(hS:S.length<=1000000000)(hl:l.length<=100000000)(h0:l≠[])(l9:(fL b (qY b l) name).nd=false)(XK:(fL b (qY b l) name).wh=false)(hdu:(fL b (qY b l) name).due=[])(hla:AL l=false):Z4 31 #[Z8 P,uM kd (bs name) ai an ac tx at_] w (PA P X lo F b S ov l 1 none w):=by
 obtain⟨W1,hW1⟩:∃W1,w.alloc (.cells #[.int .i64 kd,.string (bs name),.slice ai an ac,.string tx,.int .i64 at_] 56)=W1:=⟨_,rfl⟩
 have h1:=h.below ((Below.refl _ w).alloc (ah _) (.cells #[.int .i64 kd,.string (bs name),.slice ai an ac,.string tx,.int .i64 at_] 56));rw[hW1]at h1;obtain⟨oa,oc,rfl⟩:=eE h.row;obtain⟨c0,c1,c2,c3,cf⟩:=h1.cs;have hl0:l.length≠0:=by simpa using h0
 have hne:((l.length:Int)==0)=false:=beq_eq_false_iff_ne.2 (by omega);have y1:W1.cell? ⟨w.heap.size,1,none⟩=some (.string (bs name)):=by
  rw[<-hW1];have:=mN [.int .i64 kd,.string (bs name),.slice ai an ac,.string tx,.int .i64 at_] 56 w 1 _ rfl;rw[Addr.add_mid,ay]at this;exact this
 have y1d:W1.drew.cell? ⟨w.heap.size,1,none⟩=some (.string (bs name)):=y1;have c0d:W1.drew.cell? ⟨P,0,none⟩=some (Z8 X):=c0;have HST:=a_ (wj (h1.below (Below.refl _ W1).drew) (by omega) (by omega));have HZ:Hid (∀F5 w5,kR P F (.slice oa l.length oc) W1.drew F5 (.slice oa l.length oc) w5->w5.cell? ⟨w.heap.size,1,none⟩=some (.string (bs name))):=fun F5 w5 q=>qA q.fr (fun Lg=>cy _ (h.low Lg).2) y1d;have HE:Hid (∀S6 F6 w6 m,PM P X lo F6 b S6 (.slice oa l.length oc) l 0 w6->kR P F (.slice oa l.length oc) W1.drew F6 (.slice oa l.length oc) w6->S6.length<=S.length+2->Z5 w6 m->PA P X lo F b S (.slice oa l.length oc) l 1 none w (.returned (.slice none 0 0)) (m.setCell ⟨P,3,none⟩ (.int .i64 1))):=fun S6 F6 w6 m q1 q2 q3 q4=>by
  obtain⟨r1,r2⟩:=(q1.below q4).skip 1;rw[<-hW1]at q2;exact PA.box _ ⟨_,S6,F6,_,rfl,rfl,r1,((kR.gi (Below.refl _ _).drew).trans q2).trans ((kR.gi q4).trans r2),by omega⟩
 obtain⟨s,hs⟩:∃s,fL b (qY b l) name=s:=⟨_,rfl⟩
 rw[hs]at l9 XK hdu;clear h h1;unfold uM;go_enter func31,ntmps31;go_wp2_with fail;apply abW (H:=fun _ k6 S6 F6 w6=>Hid (ON P X lo F b S (.slice oa l.length oc) l s W1.drew k6 S6 F6 w6))
 ·intro J;go_region_law (first
   |(go_simp;refine HST.out.mono ?_;rintro e w5 ⟨k5,S5,F5,rfl,Qd,q1,q2,q3⟩;have x0:=q1.cs.1;have z1:=HZ.out F5 w5 q2;have Qy:=a_ (q1.next Qd (by omega) name);have YR:=a_ q2;clear q1 q2 Qd)
   |(go_simp;refine Qy.out.mono ?_;rintro e w6 ⟨k6,S6,F6,rfl,Ll,p1,p2,p3⟩;have Bw:Hid (ON P X lo F b S (.slice oa l.length oc) l s W1.drew k6 S6 F6 w6):=⟨hs▸Ll,p1,YR.out.trans p2,by omega⟩;clear p1 p2 Qy YR))
  all_goals exact J k5 k6 S6 F6 w6 Bw
 intro k5 k6 S6 F6 w6 Bw;have Lh:=a_ (Bw.out.2.1.sp.keep Bw.out.1);rw[l9,XK]at Lh;obtain⟨d0,d1,d2,d3,df⟩:=Bw.out.2.1.cs;have HLv:=a_ (fun m=>(Bw.out.2.1.drewN m).sp.live Bw.out.1);rw[hdu]at HLv;have HSh:=a_ (fun m=>Uv (Bw.out.2.1.drewN m) (by omega));rw[hla]at HSh;clear c0 c1 c2 c3 cf c0d y1 y1d HZ HST;go_wp2_with(first
  |(go_at_call 58;refine Lh.out.mono ?_;rintro e w7 ⟨rfl,m7,rfl⟩)
  |(go_at_call 59;refine(HLv.out _).mono ?_;rintro e w8 ⟨rfl,rfl⟩)
  |(go_at_call 60;refine(HSh.out _).mono ?_;rintro e w9 ⟨rfl,hb9⟩;obtain⟨q1,q2,q3,q4⟩:=Bw.out;have hb:=(kV (Below.refl _ w6) m7).trans (hb9.mono (by exact ah _));have HF:=a_ (HE.out S6 F6 w6 w9 q2 q3 q4 hb);obtain⟨e0,e1,e2,e3,ef⟩:=(q2.below hb).cs;clear hb9 q1 q2 q3 hb Bw HE HSh HLv Lh d0 d1 d2 d3 df))
 go_ret;exact HF.out
end
end Go.Proofs.YtjecakcpcnmieaaGreatDoor
