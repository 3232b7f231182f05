import Derived.Test.YtclgfepngpeifaaGreatDoorXA
import Derived.RangeFuncNested
import Derived.RangeFuncBound
import Derived.RangeFuncCalls
import Derived.RangeFuncLeaves
import Derived.Scope
import Derived.Shelf.Abstract
import Derived.Shelf.RegionOpen
import Derived.OwnWalkIn
import Derived.TacticsInMore
import Derived.LoopNIn
import Derived.LoopIn
import Derived.Maps.AppendAt
import Derived.Maps.OwnIn
import Derived.Laws.EntriesVeiled
import Derived.Shelf.Sort.Plain
import Derived.Ground.Names2Prog
import Derived.Shelf.Slices.CompactI
import Derived.Shelf.Slices.In.SortNone
import Derived.Test.YtclgfepngpeifaaGreatDoorProg
import Derived.Lib.SlKeysI
import Derived.Lib.SlicesCompact
import Derived.Test.YtclgfepngpeifaaGreatDoorXab
set_option linter.unusedVariables false
set_option linter.unusedSimpArgs false
set_option maxHeartbeats 32000000
set_option maxRecDepth 100000
namespace Go.Proofs.YtclgfepngpeifaaGreatDoor
open Go Go.RowKit Tryz
section
variable{F:Fence}{n:Nat}{P:Program}{α:Type}
def su(F:Fence)(n:Nat)(P:Program)(g:Nat)(lb:Array Value)(vM:α->Array Value)(Kp:World->World->Prop)(S Sp:List α->Prop)(w:World):Prop:=
 ∀(l:Nat) (J Jx:List α->World->Prop) (W:World),Z5 w W->OwnFrom W.heap.size J->OwnFrom W.heap.size Jx->
  (∀pre x W1,J pre W1->Sp (pre++[x])->YieldAt F (n-1) P l (vM x) W1 fun e W'=>KeepsFrom W.heap.size W1 W'/\((e=.returned (.bool true)/\J (pre++[x]) W'/\Kp W1 W')\/(e=.returned (.bool false)/\Jx (pre++[x]) W')))->
  J [] W->CallsIn F n P g (#[.func (.yield l) #[] #[]]++lb) W fun e W'=>(∃v,e=.returned v)/\((∃xs,S xs/\J xs W')\/∃pre,Sp pre/\Jx pre W')
theorem sM{B l:Nat}(W:World)(o:Obj)(h:l<B):KeepsFrom B W (W.putObj l o):=KeepsFrom.of_grownBy (grownBy_putObj' W l o) fun j e=>by cases e;exact h
theorem KeepsFrom.up{B B':Nat}{W W':World}(h:KeepsFrom B W W')(hB:B<=B'):KeepsFrom B' W W':=⟨h.size,fun k o hk=>h.same k o (aw hB hk)⟩
theorem yn{l D:Nat}{r:Loop}{W3:World}(jump:Option Code)(hl:W3.heap[l]?=some (.loop {r with state:=.busy}))(hk:W3.heap[D]?=some (.deferred (some [])))(hne:D≠l):
  (Instr.endRound l jump).run P W3=.ok (.bool jump.isNone) (W3.putObj l (.loop {r with state:=if jump.isNone then .ready else .done,pending:=jump}))/\(W3.putObj l (.loop {r with state:=if jump.isNone then .ready else .done,pending:=jump})).heap[l]?=some (.loop {r with state:=if jump.isNone then .ready else .done,pending:=jump})/\(W3.putObj l (.loop {r with state:=if jump.isNone then .ready else .done,pending:=jump})).heap[D]?=some (.deferred (some [])):=
 ⟨by have:=run_endRound (P:=P) jump hl;exact this,World.putObj_heap_same (Array.getElem?_eq_some_iff.1 hl).1,(World.putObj_heap_other hne).trans hk⟩
theorem oU{g:Operand}{ps:Array Tmp}{assign body:Code}{Q:Exit->Act->World->Prop}{a:Act}{w:World}(hro:F.round=none)(h1:F.depth.isSome=true->1<=n){gf:Nat}{lb:Array Value}(hg:a.eval g=.func (.func gf) #[] lb)(hFg:F.fn gf)(eg:∀args w,(callFunc gf args).run P w=.ok (.enter gf args) w)
  {vM:α->Array Value} {Kp:World->World->Prop} {S Sp:List α->Prop} {w0:World} (hseq:su F (n-1) P gf lb vM Kp S Sp w0) (hKt:∀{A B C:World},Kp A B->Kp B C->Kp A C) (hKb:∀(W:World) (l:Nat) (o o':Obj),w.heap.size<=l->W.heap[l]?=some o->o.isCells=false->o.isWalk=false->Kp W (W.putObj l o'))
  (hb0:Z5 w0 w) (JR:∀x,(vM x).size=ps.size) (I:List α->World->Prop) (Ix:Code->List α->World->Prop) (hI:OwnFrom w.heap.size I) (Si:∀c,OwnFrom w.heap.size (Ix c)) (h0:I [] w) (a₁:α->Act)
  (JS:∀(l:Nat) (x:α) (W:World) (K:Act->World->Prop),K (a₁ x) W->assign.wpIn (F.inRound l) (n-1-1) P (Exit.then K (fun _ _ _=>False)) {tmps:=(ps.zip (vM x)).foldl (fun t (p,v)=>t.setIfInBounds p v) a.tmps,defers:=[]} W)
  (UB:∀(l:Nat) (pre:List α) (x:α) (W:World),I pre W->Sp (pre++[x])->body.wpIn (F.inRound l) (n-1-1) P (ownPostG w.heap.size Kp I Ix (pre++[x]) W) (a₁ x) W)
  (hdone:∀(D:Nat) (xs:List α) (W:World),w.heap.size<=D->S xs->I xs W->W.heap[D]?=some (.deferred (some []))->Q .normal {a with defers:={target:=.collected D,args:=#[]}::a.defers} W)
  (Yz:∀(D:Nat) (c:Code) (pre:List α) (W:World),w.heap.size<=D->Sp pre->Ix c pre W->W.heap[D]?=some (.deferred (some []))->c.wpIn F n P Q {a with defers:={target:=.collected D,args:=#[]}::a.defers} W):
  (Code.rangeFunc g ps assign body).wpIn F n P Q a w:=by
 refine wpIn_rangeFunc fun fn hfn=>?_;rw[hro];obtain⟨r0,CG⟩:∃r0:Loop,r0={state:=.ready,pending:=none,fn,tmps:=a.tmps,params:=ps,assign,body,defers:=w.heap.size}:=⟨_,rfl⟩
 obtain⟨W1,hW1⟩:∃W1,(w.alloc (.deferred (some []))).alloc (.loop r0)=W1:=⟨_,rfl⟩
 have sz:W1.heap.size=w.heap.size+1+1:=by rw[<-hW1];simp
 have aax:W1.heap[w.heap.size+1]?=some (.loop r0):=by
  have:=World.alloc_heap_new (w.alloc (.deferred (some []))) (.loop r0);rw[bL,hW1]at this;exact this
 have aay:W1.heap[w.heap.size]?=some (.deferred (some [])):=by
  rw[<-hW1];exact(ay _ _ _ (by simp)).trans (World.alloc_heap_new w _)
 have i1:I [] W1:=by rw[<-hW1];exact hI.alloc _ (hI.alloc _ h0)
 have b1:Z5 w0 W1:=by
  rw[<-hW1];exact hb0.trans ((((Below.refl _ w).alloc (au _) _).alloc (by simp) _).mono hb0.size)
 --what is no cells,from abx end on,is not ours
 have far:∀{A B:World} {row:Option Nat} {k:Nat} {o:Obj},A.grownBy B row->(∀r,row=some r->W1.heap.size<=r/\∃o:Obj,A.heap[r]?=some o/\o.isCells=false)->k<W1.heap.size->A.heap[k]?=some o->B.heap[k]?=some o:=fun hg hr hk ha=>(hg.block _ (Array.getElem?_eq_some_iff.1 ha).1 fun e=>by have:=(hr _ e.symm).1;omega).trans ha;have YA:∀{A:World} {row:Option Nat},(∀r,row=some r->W1.heap.size<=r/\∃o:Obj,A.heap[r]?=some o/\o.isCells=false)->∀r,row=some r->w.heap.size<=r/\∃o:Obj,A.heap[r]?=some o/\o.isCells=false:=fun hr r e=>⟨by have:=(hr r e).1;omega,(hr r e).2⟩
 refine⟨w.heap.size+1,[{target:=.collected w.heap.size,args:=#[]}],W1,{target:=.fn (.func gf) lb,args:=#[.func (.yield (w.heap.size+1)) #[] #[]]},W1,gf,#[.func (.yield (w.heap.size+1)) #[] #[]]++lb,W1,?_,?_,?_,?_,h1,?_⟩
 ·rw[<-hW1,CG];exact run_enterLoop_outer _ _ _ _ _
 ·simp only[resolve,hg];simp[go_sem]
 ·intro f' hf';simp[Target.leads]at hf';subst hf';exact hFg
 ·simp[invoke,go_sem,eg]
 have main:=hseq (w.heap.size+1) (fun pre W=>I pre W/\W.heap[w.heap.size+1]?=some (.loop r0)/\W.heap[w.heap.size]?=some (.deferred (some [])))
  (fun pre W=>∃c,Ix c pre W/\W.heap[w.heap.size+1]?=some (.loop {r0 with state:=.done,pending:=some c})/\W.heap[w.heap.size]?=some (.deferred (some []))) W1 b1
  (fun s A B row hs hg hr=>⟨hI s A B row hs.1 hg (YA hr),far hg hr (by omega) hs.2.1,far hg hr (by omega) hs.2.2⟩)
  (fun s A B row ⟨c,hc,hl,hk⟩ hg hr=>⟨c,Si c s A B row hc hg (YA hr),far hg hr (by omega) hl,far hg hr (by omega) hk⟩) ?_ ⟨i1,aax,aay⟩
 ·refine main.mono ?_;rintro e W2 ⟨⟨v,rfl⟩,⟨xs,hS,hi,hl,hk⟩|⟨pre,hSp,c,hi,hl,hk⟩⟩
  ·have he:=run_endLoop (P:=P) hl (by rw[CG];simp);refine⟨none,_,by rw[he,CG],hdone _ xs _ (au _) hS (hI.putObj _ hi (by omega) hl rfl) ((World.putObj_heap_other (by omega)).trans hk)⟩
  ·have he:=run_endLoop (P:=P) hl (by simp);exact⟨some c,_,he,Yz _ c pre _ (au _) hSp ((Si c).putObj _ hi (by omega) hl rfl) ((World.putObj_heap_other (by omega)).trans hk)⟩
 ·rintro pre x W ⟨hi,hl,hk⟩ hlen;have hlt:w.heap.size+1<W.heap.size:=(Array.getElem?_eq_some_iff.1 hl).1;have hy:=run_yield (P:=P) (args:=vM x) hl (by rw[CG];exact JR x);have hbr:=run_beginRound (P:=P) hl (by rw[CG]);obtain⟨W2,hW2⟩:∃W2,W.putObj (w.heap.size+1) (.loop {r0 with state:=.busy})=W2:=⟨_,rfl⟩
  rw[hW2]at hbr;have hl2:W2.heap[w.heap.size+1]?=some (.loop {r0 with state:=.busy}):=by rw[<-hW2];exact World.putObj_heap_same hlt
  have hk2:W2.heap[w.heap.size]?=some (.deferred (some [])):=by rw[<-hW2];exact(World.putObj_heap_other (by omega)).trans hk
  have GU:I pre W2:=by rw[<-hW2];exact hI.putObj _ hi (by omega) hl rfl
  have hK2:Kp W W2:=by rw[<-hW2];exact hKb _ _ _ _ (by omega) hl rfl rfl
  have hF2:KeepsFrom W1.heap.size W W2:=by rw[<-hW2];exact sM _ _ (by omega)
  have key:∀(jump:Option Code) (W3:World),KeepsFrom w.heap.size W2 W3->W3.heap[w.heap.size+1]?=some (.loop {r0 with state:=.busy})/\W3.heap[w.heap.size]?=some (.deferred (some []))/\∀o,KeepsFrom W1.heap.size W (W3.putObj (w.heap.size+1) o):=fun jump W3 h3=>
   ⟨h3.same _ _ (by omega) hl2 rfl,h3.same _ _ (au _) hk2 rfl,fun o=>(hF2.trans (KeepsFrom.up h3 (by omega))).trans (sM _ _ (by omega))⟩
  have aaz:({r0 with state:=.ready,pending:=none}:Loop)=r0:=by rw[CG]
  refine⟨r0.fn,_,r0.assign,r0.body,hy,roundIn_of_wpIn (by rw[CG];exact hfn) ?_⟩;have e1:r0.assign=assign:=by rw[CG]
  have e2:r0.body=body:=by rw[CG]
  have e3:r0.params=ps:=by rw[CG]
  have e4:r0.tmps=a.tmps:=by rw[CG]
  rw[<-e1,<-e3,<-e4]at JS;rw[<-e2]at UB;refine JS _ x W _ ⟨_,hbr,?_⟩;refine wpIn_mono (UB _ pre x _ GU hlen) ?_;rintro e a3 W3 hp;have fin:∀c:Code,KeepsFrom w.heap.size W2 W3->Ix c (pre++[x]) W3->∃v W4,(Instr.endRound (w.heap.size+1) (some c)).run P W3=.ok v W4/\(KeepsFrom W1.heap.size W W4/\((Ending.returned v=.returned (.bool true)/\(I (pre++[x]) W4/\W4.heap[w.heap.size+1]?=some (.loop r0)/\W4.heap[w.heap.size]?=some (.deferred (some [])))/\Kp W W4)\/(Ending.returned v=.returned (.bool false)/\∃c,Ix c (pre++[x]) W4/\W4.heap[w.heap.size+1]?=some (.loop {r0 with state:=.done,pending:=some c})/\W4.heap[w.heap.size]?=some (.deferred (some []))))):=fun c h3 hx=>by
   obtain⟨k1,k2,k3⟩:=key (some c) W3 h3;obtain⟨q1,q2,q3⟩:=yn (P:=P) (some c) k1 k2 (by omega);exact⟨_,_,q1,k3 _,Or.inr ⟨rfl,c,(Si c).putObj _ hx (by omega) k1 rfl,q2,q3⟩⟩
  cases e with
  |normal=>
   obtain⟨h3,hkp,hi3⟩:=hp;obtain⟨k1,k2,k3⟩:=key none W3 h3;obtain⟨q1,q2,q3⟩:=yn (P:=P) none k1 k2 (by omega);exact⟨_,_,q1,k3 _,Or.inl ⟨rfl,⟨hI.putObj _ hi3 (by omega) k1 rfl,by rw[q2];exact aL (fun r=>some (Obj.loop r)) aaz,q3⟩,hKt (hKt hK2 hkp) (hKb _ _ _ _ (by omega) k1 rfl rfl)⟩⟩
  |ret=>exact fin .ret hp.1 hp.2
  |exit id=>exact fin (.exit id) hp.1 hp.2
  |goto t=>exact fin (.goto t) hp.1 hp.2
  |panic ch=>exact hp.elim
  |outgrown=>exact hp.elim
theorem Hd{Q:Exit->Act->World->Prop}{a:Act}{w:World}{c:Code}(h:c.wpIn Fence.wide n P (Exit.noGoto Q) a w):(Code.scope c).wpIn Fence.wide n P Q a w:=wpIn_wide.2 (wp_scope_straight (wpIn_wide.1 h))
end
end Go.Proofs.YtclgfepngpeifaaGreatDoor
namespace Go.Proofs.YtclgfepngpeifaaGreatDoor
open Go.RowKit Go.Maps Go.Lib Go.Shelf Tryz
section
attribute [local go_sem] Oper.semAt_some
variable{w w' W wr:World}{v nv:Value}{l fr:List Int}{kd:Nat->List Int}{nm:Nat->ByteArray}{N X B:Nat}
def eQ(n:Nat)(A B:World):Prop:=A.heap.size<=B.heap.size/\∀(k:Nat) (c:Array Value) (t:TypeId) (fz:Nat×Nat),k<n->A.heap[k]?=some (.cells c t fz)->B.heap[k]?=some (.cells c t fz)
theorem eQ.trans{n:Nat}{A B C:World}(h:eQ n A B)(k:eQ n B C):eQ n A C:=⟨aw h.1 k.1,fun i c t fz hi ha=>k.2 i c t fz hi (h.2 i c t fz hi ha)⟩
theorem bc{n:Nat}{A B:World}(h:Below n A B):eQ n A B:=⟨h.size,fun k c t fz hk ha=>(h.block k hk).trans ha⟩
theorem eQ.less{n m:Nat}{A B:World}(h:eQ n A B)(hm:m<=n):eQ m A B:=⟨h.1,fun k c t fz hk=>h.2 k c t fz (by omega)⟩
theorem eQ.cell{n:Nat}{A B:World}(h:eQ n A B){p:Addr}{v:Value}(hp:p.block<n)(hc:A.cell? p=some v):B.cell? p=some v:=by
 unfold World.cell? at hc ⊢;cases ho:A.heap[p.block]? with
 |none=>rw[ho]at hc;cases hc
 |some o=>
  rw[ho]at hc;cases o with
  |cells c t fz=>rw[h.2 _ c t fz hp ho];exact hc
  |_=>cases hc
def IR(w:World)(v:Value)(l:List Int):Prop:=∃ai cap,v=.slice ai l.length cap/\(l.length<=cap/\l.length<=1000000000000)/\∀(i:Nat) x,l[i]?=some x->∃g off,ai=some ⟨g,off,none⟩/\g<w.heap.size/\w.cell? ⟨g,off+i,none⟩=some (.int .i64 x)
theorem IR.gm(h:IR w v l)(hb:eQ w.heap.size w w'):IR w' v l:=by
 obtain⟨ai,cap,e,hn,hr⟩:=h;refine⟨ai,cap,e,hn,fun i x hx=>?_⟩;obtain⟨g,off,e,hg,h0⟩:=hr i x hx;exact⟨g,off,e,aq hg hb.1,hb.cell hg h0⟩
theorem IR.below(h:IR w v l)(hb:Z5 w w'):IR w' v l:=h.gm (bc hb)
def GG(w:World)(nv:Value)(N:Nat)(kd:Nat->List Int)(nm:Nat->ByteArray):Prop:=∃g cap,nv=Z9 g N cap/\(N<=cap/\N<=1000000000000)/\g<w.heap.size/\∀k,k<N->w.cell? ⟨g,k*5,none⟩=some (.string (nm k))/\∃u,w.cell? ⟨g,k*5+3,none⟩=some u/\IR w u (kd k)
theorem GG.gm(h:GG w nv N kd nm)(hb:eQ w.heap.size w w'):GG w' nv N kd nm:=by
 obtain⟨g,cap,e,hn,hg,hr⟩:=h;refine⟨g,cap,e,hn,aq hg hb.1,fun k hk=>?_⟩;obtain⟨h0,u,h1,h2⟩:=hr k hk;exact⟨hb.cell hg h0,u,hb.cell hg h1,h2.gm hb⟩
theorem GG.below(h:GG w nv N kd nm)(hb:Z5 w w'):GG w' nv N kd nm:=h.gm (bc hb)
def jY(kd:Nat->List Int)(k:Int):List Int:=if k= -1 then [0]else kd k.toNat
def kM(N:Nat)(fr:List Int):Prop:=∀k∈fr,k= -1\/(0<=k/\k<N)
abbrev encI(x:Int):Array Value:=#[.int .i64 x]
theorem AY{f:Int->List Int}{i:Nat}{k:Int}(h:l[i]?=some k):(l.take (i+1)).flatMap f=(l.take i).flatMap f++f k:=by
 rw[cy,h,Option.toList_some,cQ];simp
theorem Oi{f:Int->List Int}{i j:Nat}{k:Int}(h:l[i]?=some k):(l.take i).flatMap f++(f k).take j<+:l.flatMap f:=by
 have e:l.flatMap f=(l.take i).flatMap f++(f k++(l.drop (i+1)).flatMap f):=by rw[<-aV,<-AY h,<-cQ,List.take_append_drop]
 rw[e];exact(List.prefix_append_right_inj _).2 ((dy j (f k)).trans (List.prefix_append _ _))
theorem Oj(m:Nat){Bf Bd:Nat}{fv:Value}(UC:Bf<w.heap.size)(UD:Bd<w.heap.size)(hX:X<w.heap.size)(hf:w.cell? ⟨Bf,0,none⟩=some fv)(hfr:IR w fv fr)(hd:w.cell? ⟨Bd,0,none⟩=some (Z8 X))(hx:w.cell? ⟨X,0,none⟩=some nv)(hN:GG w nv N kd nm)(iH:kM N fr):
  su Fence.wide m prog 137 #[Z8 Bf,Z8 Bd] encI (eQ w.heap.size) (fun ys=>ys=fr.flatMap (jY kd)) (fun p=>p<+:fr.flatMap (jY kd)) w:=by
 intro l J Jx W hW hJ Nu hY h0;obtain⟨fi,fc,rfl,⟨Rm,hf2⟩,Nv⟩:=hfr;have cf:∀wr,Z5 w wr->wr.cell? ⟨Bf,0,none⟩=some (.slice fi fr.length fc):=fun wr hb=>(ar (hb.block _ UC)).trans hf;have c0:=cf W hW;have HK:Hid (∀i wr,i<fr.length->eQ w.heap.size w wr->∃g off k,fi=some ⟨g,off,none⟩/\wr.cell? ⟨g,off+i,none⟩=some (.int .i64 k)/\fr[i]?=some k/\((k= -1/\(k != -1)=false)\/(∃kn:Nat,k=(kn:Int)/\(((kn:Nat):Int) != -1)=true/\kn<N/\∃gn Et ki kc,(kd kn).length<=1000000000000/\N<=1000000000000/\Hid (∀wr',eQ w.heap.size w wr'->(wr'.cell? ⟨Bd,0,none⟩=some (Z8 X)/\wr'.cell? ⟨X,0,none⟩=some (Z9 gn N Et)/\wr'.cell? ⟨gn,kn*5+3,none⟩=some (.slice ki (kd kn).length kc))/\∀j x,(kd kn)[j]?=some x->∃g off,ki=some ⟨g,off,none⟩/\wr'.cell? ⟨g,off+j,none⟩=some (.int .i64 x))))):=a_ fun i wr hi hb=>by
  have UE:fr[i]?=some fr[i]:=aF hi;obtain⟨g,off,e,hg,h1⟩:=Nv i _ UE;refine⟨g,off,_,e,hb.cell hg h1,UE,?_⟩;rcases iH _ (bQ hi)with h|⟨h,h'⟩
  ·exact Or.inl ⟨h,by rw[h];decide⟩
  ·obtain⟨gn,Et,rfl,hn,Ol,hr⟩:=hN;obtain⟨kn,hk⟩:=bt h;rw[hk]at h' ⊢;obtain⟨-,u,h3,ki,kc,rfl,h4,h5⟩:=hr kn (by omega);refine Or.inr ⟨kn,rfl,by simp,by omega,gn,Et,ki,kc,h4.2,hn.2,a_ fun wr' hb'=>⟨⟨hb'.cell UD hd,hb'.cell hX hx,hb'.cell Ol h3⟩,fun j x hj=>?_⟩⟩;obtain⟨g2,CH,e2,hg2,h6⟩:=h5 j x hj;exact⟨g2,CH,e2,hb'.cell hg2 h6⟩
 have HY:=a_ hY;clear hY hd hx hN iH Nv cf hf UC UD hX;refine callsIn_of_wp func137 rfl trivial ?_ rfl;simp only[ntmps137,cA,aC,aI,Nat.reduceAdd,Nat.reduceSub,bV,bU,cB,bX,bH,aZ]
 gi_wp2
 gi_loopw [11] (fun iv wr=>∃i:Nat,iv=.int .i64 i/\i<=fr.length/\J ((fr.take i).flatMap (jY kd)) wr/\eQ w.heap.size w wr/\W.heap.size<=wr.heap.size) (fun iv _=>fr.length-(RowKit.intOf iv).toNat)
 case atStart=>exact⟨0,rfl,aB _,h0,(bc hW),au _⟩
 case round=>
  obtain⟨i,rfl,hi,hJs,hb,Vo⟩:=hrel;clear c0 h0;by_cases hlt:i<fr.length
  ·obtain⟨g,off,k,rfl,ck,hk,hc⟩:=HK.out i _ hlt hb;have Nw:(i:Int)<fr.length:=by omega
   have hb2:eQ w.heap.size w (wr.alloc (.cells #[.int .i64 0] 3)):=hb.trans (bc ((Below.refl _ wr).alloc hb.1 _));have hJ2:=hJ.alloc (.cells #[.int .i64 0] 3) hJs;have hs:=AY (f:=jY kd) hk;have Xw:=fun j=>Oi (f:=jY kd) (j:=j) hk;clear HK hJs;rcases hc with⟨rfl,hne⟩|⟨kn,rfl,hne,hkn,gn,Et,ki,kc,ny,hk2,HI⟩
   ·have e0:jY kd (-1)=[0]:=rfl;rw[e0]at hs;simp only[e0]at Xw;obtain⟨fn,tmps,assign,body,hy,hR⟩:=HY.out _ 0 _ hJ2 (Xw 1);have cz:(wr.alloc (.cells #[.int .i64 0] 3)).cell? ⟨wr.heap.size,0,none⟩=some (.int .i64 0):=cell_of (dR wr _) rfl;dsimp only[encI]at hy;have HR:=a_ hR;clear hR HY
    gi_wp2
    gi_loopw [28] (fun jv wz=>(jv=.int .i64 0/\wz=wr.alloc (.cells #[.int .i64 0] 3))\/(jv=.int .i64 1/\J ((fr.take (i+1)).flatMap (jY kd)) wz/\eQ w.heap.size w wz/\W.heap.size<=wz.heap.size)) (fun jv _=>1-(RowKit.intOf jv).toNat)
    case atStart=>exact Or.inl ⟨rfl,rfl⟩
    case round=>
     rcases hrel with⟨rfl,rfl⟩|⟨rfl,hJ3,hb3,hw3⟩
     ·gi_wp2
      refine⟨fun h=>absurd h (by decide),HR.out.mono ?_⟩;rintro e W3 ⟨hf3,⟨rfl,hJ3,hk3⟩|⟨rfl,nS⟩⟩
      ·have vN:=a_ (hs▸hJ3);have hb4:=a_ (hb2.trans hk3);have hw4:=a_ (aw Vo (aw (by simp) hf3.size));clear hJ3 hk3 hf3 HR hJ2 hb2
       gi_wp2
       exact⟨Or.inr ⟨rfl,vN.out,hb4.out,hw4.out⟩,by simp[RowKit.intOf]⟩
      ·have vN:=a_ nS;clear HR hJ2 hb2 nS hf3
       gi_wp2
       refine aJ (aN rfl _ _ _) rfl ?_;exact⟨⟨_,rfl⟩,.inr ⟨_,Xw 1,vN.out⟩⟩
     ·have vN:=a_ hJ3;clear HR hJ2 hb2 hJ3
      gi_wp2
      exact⟨⟨i+1,by simp,by omega,vN.out,hb3,hw3⟩,by simp only[RowKit.intOf];omega⟩
   ·obtain⟨⟨cd,cx,c3⟩,-⟩:=HI.out _ hb2;have e0:jY kd (kn:Int)=kd kn:=by unfold jY;rw[if_neg (by omega),aH]
    rw[e0]at hs;simp only[e0]at Xw;have hkk:(kn:Int)<N:=by omega
    have H2:=a_ hJ2;clear hJ2
    gi_wp2
    gi_loopw [28] (fun jv wz=>∃j:Nat,jv=.int .i64 j/\j<=(kd kn).length/\J ((fr.take i).flatMap (jY kd)++(kd kn).take j) wz/\eQ w.heap.size w wz/\W.heap.size<=wz.heap.size) (fun jv _=>(kd kn).length-(RowKit.intOf jv).toNat)
    case atStart=>exact⟨0,rfl,aB _,by rw[List.take_zero,aP];exact H2.out,hb2,aw Vo (by simp)⟩
    case round=>
     rename World=>wz
     obtain⟨j,rfl,hj,hJ3,hb3,hw3⟩:=hrel;by_cases YB:j<(kd kn).length
     ·have hxj:(kd kn)[j]?=some (kd kn)[j]:=aF YB;obtain⟨g2,CH,rfl,cj⟩:=(HI.out _ hb3).2 j _ hxj;have hjj:(j:Int)<(kd kn).length:=by omega
      have e5:(kd kn).take (j+1)=(kd kn).take j++[(kd kn)[j]]:=by rw[cy,hxj];rfl
      obtain⟨fn,tmps,assign,body,hy,hR⟩:=HY.out _ (kd kn)[j] _ hJ3 (by rw[aV,<-e5];exact Xw (j+1));dsimp only[encI]at hy;have HR:=a_ hR;clear hR HY hJ3 H2 cd cx c3 HI;generalize (kd kn)[j]=xj at*
      gi_wp2
      refine⟨fun h=>absurd h (by decide),HR.out.mono ?_⟩;rintro e W3 ⟨hf3,⟨rfl,hJ3,hk3⟩|⟨rfl,nS⟩⟩
      ·rw[aV,<-e5]at hJ3;have vN:=a_ hJ3;have hb4:=a_ (hb3.trans hk3);have hw4:=a_ (aw hw3 hf3.size);clear hJ3 hk3 hf3 HR
       gi_wp2
       exact⟨⟨j+1,by simp,by omega,vN.out,hb4.out,hw4.out⟩,by simp only[RowKit.intOf];omega⟩
      ·rw[aV,<-e5]at nS;have vN:=a_ nS;clear HR nS hf3
       gi_wp2
       refine aJ (aN rfl _ _ _) rfl ?_;exact⟨⟨_,rfl⟩,.inr ⟨_,Xw (j+1),vN.out⟩⟩
     ·obtain rfl:j=(kd kn).length:=by omega
      rw[bZ,<-hs]at hJ3;have vN:=a_ hJ3;clear hJ3 HI HY H2 cd cx c3
      gi_wp2
      exact⟨⟨i+1,by simp,by omega,vN.out,hb3,hw3⟩,by simp only[RowKit.intOf];omega⟩
  ·obtain rfl:i=fr.length:=by omega
   rw[bZ]at hJs
   gi_wp2
   go_end0
   exact⟨⟨_,rfl⟩,.inl ⟨_,rfl,hJs⟩⟩
end
section
attribute [local go_sem] Oper.semAt_some
variable{w w' W wr:World}{v nv lv:Value}{l fr:List Int}{kd:Nat->List Int}{nm:Nat->ByteArray}{N X B:Nat}{ls:List Int}
def Eu(s e:Nat):List Int:=(List.range' s (e-s)).map fun(k:Nat)=>(k:Int)
def z_(N:Nat)(ls:List Int)(k:Int):Nat:=if k= -1 then N else((ls[k.toNat]?).getD 0).toNat+1
def gF(N:Nat)(ls:List Int):Nat->List Int->List Int
 |_,[]=>[]
 |s,k::r=>Eu (max s (k+1).toNat) (z_ N ls k)++gF N ls (max (max s (k+1).toNat) (z_ N ls k)) r
theorem Ew{s e:Nat}(h:s<e):Eu s e=(s:Int)::Eu (s+1) e:=by
 unfold Eu;rw[show e-s=(e-(s+1))+1 by omega,List.range'_succ,bN]
theorem JT{s e:Nat}(h:e<=s):Eu s e=[]:=by
 unfold Eu;rw[show e-s=0 by omega];rfl
def vO(N:Nat)(ls:List Int):Prop:=ls.length=N/\∀x∈ls,0<=x/\x<N
theorem He(m:Nat){Bf Bd Et:Nat}{ni:Option Addr}{fv:Value}(UC:Bf<w.heap.size)(UD:Bd<w.heap.size)(hX:X<w.heap.size)(hf:w.cell? ⟨Bf,0,none⟩=some fv)(hfr:IR w fv fr)(hd:w.cell? ⟨Bd,0,none⟩=some (Z8 X))(hx:w.cell? ⟨X,0,none⟩=some (.slice ni N Et))(hx1:w.cell? ⟨X,1,none⟩=some lv)(hl:IR w lv ls)(Ro:vO N ls)(hN:N<=1000000000000)(iH:kM N fr):
  su Fence.wide m prog 138 #[Z8 Bf,Z8 Bd] encI (eQ w.heap.size) (fun ys=>ys=gF N ls 0 fr) (fun p=>p<+:gF N ls 0 fr) w:=by
 intro l J Jx W hW hJ Nu hY h0;obtain⟨fi,fc,rfl,⟨Rm,hf2⟩,Nv⟩:=hfr;have c0:W.cell? ⟨Bf,0,none⟩=some (.slice fi fr.length fc):=(ar (hW.block _ UC)).trans hf;have HK:Hid (∀i wr,i<fr.length->eQ w.heap.size w wr->∃g off k,fi=some ⟨g,off,none⟩/\wr.cell? ⟨g,off+i,none⟩=some (.int .i64 k)/\fr[i]?=some k/\wr.cell? ⟨Bd,0,none⟩=some (Z8 X)/\wr.cell? ⟨X,0,none⟩=some (.slice ni N Et)/\((k= -1/\(k != -1)=false)\/(∃kn:Nat,k=(kn:Int)/\(((kn:Nat):Int) != -1)=true/\kn<N/\∃gl lo lc,∃e:Nat,e<N/\z_ N ls k=e+1/\wr.cell? ⟨X,1,none⟩=some (.slice (some ⟨gl,lo,none⟩) N lc)/\wr.cell? ⟨gl,lo+kn,none⟩=some (.int .i64 (e:Nat))))):=a_ fun i wr hi hb=>by
  have UE:fr[i]?=some fr[i]:=aF hi;obtain⟨g,off,e,hg,h1⟩:=Nv i _ UE;refine⟨g,off,_,e,hb.cell hg h1,UE,hb.cell UD hd,hb.cell hX hx,?_⟩;rcases iH _ (bQ hi)with h|⟨h,h'⟩
  ·exact Or.inl ⟨h,by rw[h];decide⟩
  ·obtain⟨kn,hk⟩:=bt h;rw[hk]at h' ⊢;have hkn:kn<N:=by omega
   obtain⟨li,lc,rfl,hn,hr⟩:=hl;have hlk:ls[kn]?=some (ls[kn]'(by rw[Ro.1];exact hkn)):=aF _;obtain⟨gl,lo,rfl,sw,h3⟩:=hr kn _ hlk;obtain⟨h4,h5⟩:=Ro.2 _ (bQ (h:=by rw[Ro.1];exact hkn));obtain⟨e,he⟩:=bt h4;rw[he]at h3 h5;refine Or.inr ⟨kn,rfl,by simp,hkn,gl,lo,lc,e,by omega,?_,hb.cell hX (by rw[<-Ro.1];exact hx1),hb.cell sw h3⟩;unfold z_;rw[if_neg (by omega),aH,hlk,he,dx,aH]
 have HY:=a_ hY;clear hY hd hx hx1 hl Ro iH Nv hf UC UD hX;obtain⟨T,hT⟩:∃T,gF N ls 0 fr=T:=⟨_,rfl⟩
 rw[hT]at HY ⊢;refine callsIn_of_wp func138 rfl trivial ?_ rfl;simp only[ntmps138,cA,aC,aI,Nat.reduceAdd,Nat.reduceSub,bV,bU,cB,bX,bH,aZ]
 gi_wp2
 gi_loopw [4,10] (fun xv iv wr=>∃i s:Nat,∃pre,iv=.int .i64 i/\xv=.int .i64 (s:Nat)/\s<=N/\i<=fr.length/\J pre wr/\pre++gF N ls s (fr.drop i)=T/\eQ w.heap.size w wr/\W.heap.size<=wr.heap.size) (fun _ iv _=>fr.length-(RowKit.intOf iv).toNat)
 case atStart=>exact⟨0,0,[],rfl,rfl,aB _,aB _,h0,by rw[List.drop_zero];exact hT,(bc hW),au _⟩
 case round=>
  obtain⟨i,s,pre,rfl,rfl,hsN,hi,hJs,yo,hb,Vo⟩:=hrel;clear c0 h0 hT;by_cases hlt:i<fr.length
  ·obtain⟨g,off,k,rfl,ck,hk,cd,cx,hc⟩:=HK.out i _ hlt hb;have Nw:(i:Int)<fr.length:=by omega
   have hdr:fr.drop i=k::fr.drop (i+1):=by
    obtain⟨hl',e⟩:=List.getElem?_eq_some_iff.1 hk;rw[cw hl',e]
   rw[hdr,gF]at yo;clear HK;have HJ:=a_ hJs;clear hJs;rcases hc with⟨rfl,hne⟩|⟨kn,rfl,hne,hkn,gl,lo,lc,e,he,hend,cl,ce⟩
   ·rw[show max s ((-1:Int)+1).toNat=s by simp,show z_ N ls (-1)=N from rfl]at yo
    gi_wp2
    gi_loopw [4] (fun tv wz=>∃t:Nat,∃p2,tv=.int .i64 (t:Nat)/\t<=N/\J p2 wz/\p2++(Eu t (N)++gF N ls (max t (N)) (fr.drop (i+1)))=T/\eQ w.heap.size w wz/\W.heap.size<=wz.heap.size) (fun tv _=>N-(RowKit.intOf tv).toNat)
    case atStart=>exact⟨s,pre,rfl,hsN,HJ.out,yo,hb,Vo⟩
    case round=>
     rename World=>wz
     obtain⟨t,p2,rfl,htN,hJ3,GH,hb3,hw3⟩:=hrel;clear HJ;by_cases YB:t<N
     ·rw[Ew YB,aZ]at GH;have hlen:p2++[(t:Int)]<+:T:=⟨_,by rw[aV];exact GH⟩
      have hle:(t:Int)<=(N:Int)-1:=by omega
      obtain⟨fn,tmps,assign,body,hy,hR⟩:=HY.out _ (t:Int) _ hJ3 hlen;dsimp only[encI]at hy;have HR:=a_ hR;have e5:(p2++[(t:Int)])++(Eu (t+1) (N)++gF N ls (max (t+1) (N)) (fr.drop (i+1)))=T:=by
       rw[show max (t+1) (N)=max t (N) by omega,aV,dB];exact GH
      have e6:p2++[(t:Int)]<+:T:=⟨_,e5⟩
      clear hR HY hJ3 GH yo
      gi_wp2
      refine⟨fun h=>absurd h (by decide),HR.out.mono ?_⟩;rintro e W3 ⟨hf3,⟨rfl,hJ3,hk3⟩|⟨rfl,nS⟩⟩
      ·have vN:=a_ hJ3;have hb4:=a_ (hb3.trans hk3);have hw4:=a_ (aw hw3 hf3.size);clear hJ3 hk3 hf3 HR
       gi_wp2
       exact⟨⟨t+1,_,by simp,by omega,vN.out,e5,hb4.out,hw4.out⟩,by simp only[RowKit.intOf];omega⟩
      ·have vN:=a_ nS;clear HR nS hf3
       gi_wp2
       refine aJ (aN rfl _ _ _) rfl ?_;exact⟨⟨_,rfl⟩,.inr ⟨_,e6,vN.out⟩⟩
     ·rw[JT (by omega),bH,show max t (N)=t by omega]at GH;have hle:¬(t:Int)<=(N:Int)-1:=by omega
      have vN:=a_ hJ3;clear hJ3 HY yo
      gi_wp2
      exact⟨⟨i+1,t,p2,by simp,rfl,htN,by omega,vN.out,GH,hb3,hw3⟩,by simp only[RowKit.intOf];omega⟩
   ·rw[show max s (((kn:Nat):Int)+1).toNat=max s (kn+1) by omega,hend]at yo;have hkk:(kn:Int)<N:=by omega
    gi_wp2
    gi_loopw [4] (fun tv wz=>∃t:Nat,∃p2,tv=.int .i64 (t:Nat)/\t<=N/\J p2 wz/\p2++(Eu t (e+1)++gF N ls (max t (e+1)) (fr.drop (i+1)))=T/\eQ w.heap.size w wz/\W.heap.size<=wz.heap.size) (fun tv _=>e+1-(RowKit.intOf tv).toNat)
    case atStart=>exact⟨max s (kn+1),pre,by rw[show ((max s (kn+1):Nat):Int)=max (s:Int) ((kn:Int)+1) by omega],by omega,HJ.out,yo,hb,Vo⟩
    case round=>
     rename World=>wz
     obtain⟨t,p2,rfl,htN,hJ3,GH,hb3,hw3⟩:=hrel;clear HJ;by_cases YB:t<e+1
     ·rw[Ew YB,aZ]at GH;have hlen:p2++[(t:Int)]<+:T:=⟨_,by rw[aV];exact GH⟩
      have hle:(t:Int)<=(e:Int):=by omega
      obtain⟨fn,tmps,assign,body,hy,hR⟩:=HY.out _ (t:Int) _ hJ3 hlen;dsimp only[encI]at hy;have HR:=a_ hR;have e5:(p2++[(t:Int)])++(Eu (t+1) (e+1)++gF N ls (max (t+1) (e+1)) (fr.drop (i+1)))=T:=by
       rw[show max (t+1) (e+1)=max t (e+1) by omega,aV,dB];exact GH
      have e6:p2++[(t:Int)]<+:T:=⟨_,e5⟩
      clear hR HY hJ3 GH yo
      gi_wp2
      refine⟨fun h=>absurd h (by decide),HR.out.mono ?_⟩;rintro e W3 ⟨hf3,⟨rfl,hJ3,hk3⟩|⟨rfl,nS⟩⟩
      ·have vN:=a_ hJ3;have hb4:=a_ (hb3.trans hk3);have hw4:=a_ (aw hw3 hf3.size);clear hJ3 hk3 hf3 HR
       gi_wp2
       exact⟨⟨t+1,_,by simp,by omega,vN.out,e5,hb4.out,hw4.out⟩,by simp only[RowKit.intOf];omega⟩
      ·have vN:=a_ nS;clear HR nS hf3
       gi_wp2
       refine aJ (aN rfl _ _ _) rfl ?_;exact⟨⟨_,rfl⟩,.inr ⟨_,e6,vN.out⟩⟩
     ·rw[JT (by omega),bH,show max t (e+1)=t by omega]at GH;have hle:¬(t:Int)<=(e:Int):=by omega
      have vN:=a_ hJ3;clear hJ3 HY yo
      gi_wp2
      exact⟨⟨i+1,t,p2,by simp,rfl,htN,by omega,vN.out,GH,hb3,hw3⟩,by simp only[RowKit.intOf];omega⟩
  ·obtain rfl:i=fr.length:=by omega
   rw[List.drop_length,gF,aP]at yo
   gi_wp2
   go_end0
   exact⟨⟨_,rfl⟩,.inl ⟨_,yo,hJs⟩⟩
end
section
variable{w w' W wr:World}{v nv lv:Value}{l fr:List Int}{kd:Nat->List Int}{nm:Nat->ByteArray}{N X B:Nat}{ls:List Int}
def ur(t n:ByteArray):Bool:=if(t.toList==[35])=true then n.toList.isEmpty else if(t.toList==[42])=true then !n.toList.isEmpty else n.toList==t.toList
theorem Sj{k:Nat}(t:ByteArray)(hx:w.cell? ⟨X,0,none⟩=some nv)(hN:GG w nv N kd nm)(hk:k<N):Z4 92 #[Z8 X,.string t,.int .i64 (k:Nat)] w (Z6 (.bool (ur t (nm k))) w):=by
 obtain⟨g,cap,rfl,⟨rZ,pX⟩,hg,hr⟩:=hN;obtain⟨c0,-⟩:=hr k hk;have hkk:(k:Int)<N:=by omega
 clear hr;unfold ur;generalize nm k=n at*
 by_cases h1:(t.toList==[35])=true
 ·rw[if_pos h1];go_enter func92,ntmps92;go_wp2;all_goals(try go_ret)
  all_goals exact⟨rfl,rfl⟩
 ·have Oh:(t.toList==[35])=false:=by simpa using h1
  rw[if_neg h1];by_cases h2:(t.toList==[42])=true
  ·rw[if_pos h2];go_enter func92,ntmps92;go_wp2;all_goals(try go_ret)
   all_goals exact⟨rfl,rfl⟩
  ·have UA:(t.toList==[42])=false:=by simpa using h2
   rw[if_neg h2];go_enter func92,ntmps92;go_wp2;all_goals(try go_ret)
   all_goals exact⟨rfl,rfl⟩
def UF(w:World)(X:Nat)(v:Value):World:=(w.alloc (.cells #[Z8 X] 220)).alloc (.cells #[v] 31)
theorem Vp(w:World)(X:Nat)(v:Value):Z5 w (UF w X v)/\(UF w X v).heap.size=w.heap.size+1+1/\(UF w X v).cell? ⟨w.heap.size+1,0,none⟩=some v/\(UF w X v).cell? ⟨w.heap.size,0,none⟩=some (Z8 X):=by
 have b1:=dR w (.cells #[Z8 X] 220);have b2:=dR (w.alloc (.cells #[Z8 X] 220)) (.cells #[v] 31);rw[bL]at b2;refine⟨((Below.refl _ w).alloc (au _) _).alloc (by simp) _,by unfold UF;simp,cell_of b2 rfl,cell_of ((ay _ _ _ (by simp)).trans b1) rfl⟩
theorem Sk(fi:Option Addr)(fn fc X:Nat)(w:World):Z4 89 #[Z8 X,.slice fi fn fc] w fun e w'=>e=.returned (.func (.func 137) #[] #[.pointer (some ⟨w.heap.size+1,0,none⟩),.pointer (some ⟨w.heap.size,0,none⟩)])/\w'=UF w X (.slice fi fn fc):=by
 go_enter func89,ntmps89;go_wp2;go_ret;exact⟨rfl,rfl⟩
theorem Hf(fi:Option Addr)(fn fc X:Nat)(w:World):Z4 90 #[Z8 X,.slice fi fn fc] w fun e w'=>e=.returned (.func (.func 138) #[] #[.pointer (some ⟨w.heap.size+1,0,none⟩),.pointer (some ⟨w.heap.size,0,none⟩)])/\w'=UF w X (.slice fi fn fc):=by
 go_enter func90,ntmps90;go_wp2;go_ret;exact⟨rfl,rfl⟩
end
section
attribute [local go_sem] Oper.semAt_some
variable{w w' W wr:World}{v nv lv:Value}{l fr L cs:List Int}{kd:Nat->List Int}{nm:Nat->ByteArray}{N X B:Nat}{ls:List Int}
def vP(t:ByteArray)(nm:Nat->ByteArray)(cs:List Int)(hb:Int->Nat->Bool)(k:Int):Bool:=ur t (nm k.toNat)&&cs.all fun c=>hb c k.toNat
def pE(w:World)(X N:Nat)(cs:List Int)(hb:Int->Nat->Bool):Prop:=∀c∈cs,∀k:Nat,k<N->∀wr,eQ w.heap.size w wr->Z4 93 #[Z8 X,.int .i64 c,.int .i64 (k:Nat)] wr fun e w'=>e=.returned (.bool (hb c k))/\Z5 wr w'
theorem OwnFrom.below{β:Type}{B:Nat}{J:β->World->Prop}(h:OwnFrom B J){s:β}(hs:J s W)(hb:Z5 W w'):J s w':=h s W w' none hs ⟨hb.os,hb.tape,hb.output,hb.size,fun k hk _=>hb.block k hk⟩ (fun r e=>by cases e)
theorem kx{B:Nat}(hb:Z5 W w'):KeepsFrom B W w':=⟨hb.size,fun k o _ hk _=>(hb.block k (Array.getElem?_eq_some_iff.1 hk).1).trans hk⟩
def ru(A B:World):Prop:=∀(k:Nat) (c:Array Value) (t:TypeId) (fz:Nat×Nat),(t=96\/t=36)->A.heap[k]?=some (.cells c t fz)->B.heap[k]?=some (.cells c t fz)
def Kq(n:Nat)(A B:World):Prop:=eQ n A B/\ru A B
theorem ru.trans{A B C:World}(h:ru A B)(k:ru B C):ru A C:=fun i c t fz ht hi=>k i c t fz ht (h i c t fz ht hi)
theorem Kq.trans{n:Nat}{A B C:World}(h:Kq n A B)(k:Kq n B C):Kq n A C:=⟨h.1.trans k.1,h.2.trans k.2⟩
theorem Kq.put{n:Nat}{w:World}(hn:n<=w.heap.size)(W:World)(l:Nat)(o o':Obj)(hl:w.heap.size<=l)(h:W.heap[l]?=some o)(hc:o.isCells=false)(hw:o.isWalk=false):Kq n W (W.putObj l o'):=
 ⟨bc (belowK_b hn W l o o' hl h hc hw),fun k c t fz _ hk=>(World.putObj_heap_other (fun e=>by subst e;rw[hk]at h;cases h;cases hc)).trans hk⟩
theorem sN(hb:Z5 W w'):ru W w':=fun k c t fz _ hk=>(hb.block k (Array.getElem?_eq_some_iff.1 hk).1).trans hk
theorem su.mono{α:Type}{F:Fence}{n:Nat}{P:Program}{g:Nat}{lb:Array Value}{vM:α->Array Value}{Kp Kp':World->World->Prop}{S Sp:List α->Prop}(h:su F n P g lb vM Kp S Sp w)(hk:∀A B,Kp' A B->Kp A B):su F n P g lb vM Kp' S Sp w:=fun l J Jx W hW hJ Nu hY h0=>
 h l J Jx W hW hJ Nu (fun pre x W1 hj hs=>YieldAt.mono (hY pre x W1 hj hs) fun e W' ⟨h1,h2⟩=>⟨h1,h2.imp (fun⟨a,b,c⟩=>⟨a,b,hk _ _ c⟩) id⟩) h0
theorem ql{m m' l l':Nat}{P:Program}{f:FuncId}{tmps:Array Value}{assign body:Code}{R:Ending->World->Prop}(h:RoundIn Fence.wide m P l f tmps assign body W R):RoundIn (Fence.wide.inRound l') m' P l f tmps assign body W R:=⟨h.1,fun c cs _=>h.2 c cs (room_wide _)⟩
theorem Hg(m gf:Nat)(lb:Array Value){Ba Bs Bo:Nat}{ci:Option Addr}{cc:Nat}(t:ByteArray)(hb:Int->Nat->Bool)(eg:∀args w,(callFunc gf args).run prog w=.ok (.enter gf args) w)(hseq:∀m',su Fence.wide m' prog gf lb encI (eQ B) (fun ys=>ys=L) (fun p=>p<+:L) w)(hB:B<=w.heap.size)(hL:∀k∈L,0<=k/\k<(N:Int))
  (Xx:Ba<w.heap.size) (Vq:Bs<w.heap.size) (hBo:Bo<w.heap.size) (hX:X<w.heap.size) (ca:w.cell? ⟨Ba,0,none⟩=some (.func (.func gf) #[] lb)) (cb:w.cell? ⟨Bs,0,none⟩=some (Z8 X)) (co1:w.cell? ⟨Bo,1,none⟩=some (.string t)) (co2:w.cell? ⟨Bo,2,none⟩=some (.slice ci cs.length cc)) (hc:IR w (.slice ci cs.length cc) cs) (hx:w.cell? ⟨X,0,none⟩=some nv) (hN:GG w nv N kd nm) (hH:pE w X N cs hb):
  su Fence.wide m prog 91 #[Z8 Ba,Z8 Bs,Z8 Bo] encI (Kq w.heap.size) (fun ys=>ys=L.filter (vP t nm cs hb)) (fun p=>p<+:L.filter (vP t nm cs hb)) w:=by
 intro l J Jx W hW hJ Nu hY h0;have c0:W.cell? ⟨Ba,0,none⟩=some (.func (.func gf) #[] lb):=(ar (hW.block _ Xx)).trans ca;have HY:=a_ hY;clear hY;refine callsIn_of_wp_marks func91 rfl trivial ?_ rfl;simp only[ntmps91,cA,aC,aI,Nat.reduceAdd,Nat.reduceSub,bV,bU,cB,bX,bH,aZ]
 gi_wp2
 refine Hd ?_;have hW2:Z5 w (W.alloc (.cells #[.func (.yield l) #[] #[]] 96)):=hW.alloc hW.size _;have c1:(W.alloc (.cells #[.func (.yield l) #[] #[]] 96)).cell? ⟨Ba,0,none⟩=some (.func (.func gf) #[] lb):=(ar (hW2.block _ Xx)).trans ca;have bx:=dR W (.cells #[.func (.yield l) #[] #[]] 96);have YC:=hJ.alloc (.cells #[.func (.yield l) #[] #[]] 96) h0
 gi_wp2
 refine wpIn_label ?_
 gi_wp2
 refine oU rfl (n:=m) (fun h=>absurd h (by decide)) (gf:=gf) (lb:=lb) rfl trivial eg ((hseq _).mono (Kp':=Kq w.heap.size) fun A B' h=>h.1.less hB) (fun h k=>Kq.trans h k) (Kq.put hW2.size) hW2 (by intro x;rfl)
  (fun pre wz=>J (pre.filter (vP t nm cs hb)) wz/\eQ w.heap.size w wz/\wz.heap[W.heap.size]?=some (.cells #[.func (.yield l) #[] #[]] 96 (0,0))) (fun c pre wz=>c=.ret/\Jx (pre.filter (vP t nm cs hb)) wz) ?hI ?Si ⟨YC,(bc hW2),bx⟩
  (fun x=>{tmps:=#[.func (.yield l) #[] #[],Z8 Ba,Z8 Bs,Z8 Bo,.pointer (some ⟨W.heap.size,0,none⟩),.int .i64 x,undef,undef,.func (.func gf) #[] lb,.int .i64 x,undef,undef,undef,undef,undef,undef,undef,undef,undef,undef,undef,undef,undef,undef,undef,undef,undef,undef,undef,undef,undef,undef,undef,undef,undef],defers:=[]}) ?assign ?body ?done ?stop
 case hI=>
  rintro s A B' row ⟨h1,h2,h3⟩ hg hr;refine⟨hJ _ _ _ _ h1 hg fun r e=>⟨aw (by simp) (hr r e).1,(hr r e).2⟩,⟨aw h2.1 hg.size,fun k c t fz hk ha=>(hg.block k (dQ (h2.2 k c t fz hk ha)) fun e=>by have:=(hr k e.symm).1;have:=hW2.size;omega).trans (h2.2 k c t fz hk ha)⟩,(hg.block _ (Array.getElem?_eq_some_iff.1 h3).1 fun e=>?_).trans h3⟩;have:=(hr _ e.symm).1;rw[bL]at this;omega
 case Si=>
  rintro c s A B' row ⟨h1,h2⟩ hg hr;exact⟨h1,Nu _ _ _ _ h2 hg fun r e=>⟨aw (by simp) (hr r e).1,(hr r e).2⟩⟩
 case assign=>
  intro l' x Wb K hK;simp only[encI]
  gi_wp2
  exact hK
 case body=>
  rintro l' pre x Wb ⟨hJs,sO,eA⟩ Ex;have hxL:=hL x (Ex.subset (by simp));obtain⟨k,rfl⟩:=bt hxL.1;have YD:k<N:=by omega
  have d1:Wb.cell? ⟨Bs,0,none⟩=some (Z8 X):=sO.cell Vq cb;have d2:Wb.cell? ⟨Bo,1,none⟩=some (.string t):=sO.cell hBo co1;have d3:Wb.cell? ⟨Bo,2,none⟩=some (.slice ci cs.length cc):=sO.cell hBo co2;have d4:Wb.cell? ⟨W.heap.size,0,none⟩=some (.func (.yield l) #[] #[]):=cell_of eA rfl;have HF:=a_ (fun wz (h:eQ w.heap.size w wz)=>Sj (k:=k) t (h.cell hX hx) (hN.gm h) YD);clear hseq hx hN;have hmx:prog.follows .mixedOrders=true:=by kernel_rfl
  have Rz:eQ w.heap.size w Wb.drew:=sO.trans (bc (n:=w.heap.size) ((Below.refl _ Wb).drew))
  gi_wp2
  refine wpIn_mono (Q:=fun e a wz=>e=.normal/\a={tmps:=#[.func (.yield l) #[] #[],Z8 Ba,Z8 Bs,Z8 Bo,.pointer (some ⟨W.heap.size,0,none⟩),.int .i64 (k:Nat),undef,undef,.func (.func gf) #[] lb,.int .i64 (k:Nat),Z8 X,Z8 X,Z8 X,.pointer (some ⟨Bo,1,none⟩),.string t,.int .i64 (k:Nat),.bool (ur t (nm k)),.bool (!ur t (nm k)),undef,undef,undef,undef,undef,undef,undef,undef,undef,undef,undef,undef,undef,undef,undef,undef,undef],defers:=[]}/\wz=Wb.drew) ?reg ?_
  case reg=>
   have hFD:=a_ (HF.out _ Rz);clear HF HY hH hL hJ Nu hJs YC h0 c0 c1 bx hW hW2 d3 d4 Ex eA ca cb co1 co2 eg hxL;generalize ur t (nm k)=ft at*
   gi_region_with_o (refine⟨trivial,fun h=>absurd h (by decide),?_⟩;refine(CallsIn.inRound l' (callsIn_wide.2 hFD.out)).mono ?_;rintro e w2 ⟨rfl,rfl⟩)
   all_goals exact⟨rfl,rfl,rfl⟩
  rintro e a wz ⟨rfl,rfl,rfl⟩;have d3':Wb.drew.cell? ⟨Bo,2,none⟩=some (.slice ci cs.length cc):=d3;have d4':Wb.drew.cell? ⟨W.heap.size,0,none⟩=some (.func (.yield l) #[] #[]):=d4;have Aa:(pre++[(k:Int)]).filter (vP t nm cs hb)=pre.filter (vP t nm cs hb)++if vP t nm cs hb (k:Int)=true then [(k:Int)]else []:=by
   rw[dL];congr 1;by_cases h:vP t nm cs hb (k:Int)=true
   ·rw[if_pos h,List.filter_cons_of_pos h];rfl
   ·rw[if_neg h,List.filter_cons_of_neg h];rfl
  by_cases hft:ur t (nm k)=true
  ·rw[hft,Bool.not_true];have Xy:=a_ (OwnFrom.below hJ hJs ((Below.refl _ Wb).drew));have nx:Z5 Wb Wb.drew:=(Below.refl _ Wb).drew;obtain⟨ci',cc',ec,⟨zS,aby⟩,hcc⟩:=hc;cases ec;have HC:Hid (∀i wz,i<cs.length->eQ w.heap.size w wz->∃g off c,ci=some ⟨g,off,none⟩/\wz.cell? ⟨g,off+i,none⟩=some (.int .i64 c)/\cs[i]?=some c/\wz.cell? ⟨Bs,0,none⟩=some (Z8 X)/\Hid (Z4 93 #[Z8 X,.int .i64 c,.int .i64 (k:Nat)] wz (Z7 (.bool (hb c k)) wz))):=a_ fun i wz hi hz=>by
    have hxc:cs[i]?=some cs[i]:=aF hi;obtain⟨g,off,e,hg,h1⟩:=hcc i _ hxc;exact⟨g,off,_,e,hz.cell hg h1,hxc,hz.cell Vq cb,a_ (hH _ (bQ hi) k YD wz hz)⟩
   have HW:Hid (∀wz,Z5 Wb wz->KeepsFrom (W.alloc (.cells #[.func (.yield l) #[] #[]] 96)).heap.size Wb wz/\Kq w.heap.size Wb wz/\wz.heap[W.heap.size]?=some (.cells #[.func (.yield l) #[] #[]] 96 (0,0))):=a_ fun wz hz=>⟨kx hz,⟨(bc (eG hz sO.1)),sN hz⟩,(hz.block _ (Array.getElem?_eq_some_iff.1 eA).1).trans eA⟩
   clear hcc hH hJs HF
   gi_wp2
   gi_loopw [21] (fun iv wz=>∃i:Nat,iv=.int .i64 i/\i<=cs.length/\(cs.take i).all (fun c=>hb c k)=true/\J (pre.filter (vP t nm cs hb)) wz/\Z5 Wb wz) (fun iv _=>cs.length-(RowKit.intOf iv).toNat)
   case atStart=>exact⟨0,rfl,aB _,by simp,Xy.out,nx⟩
   case round=>
    rename World=>wz
    obtain⟨i,rfl,hi,Om,Rp,On⟩:=hrel;have YE:eQ w.heap.size w wz:=sO.trans (bc (eG On sO.1));clear Xy;by_cases hlt:i<cs.length
    ·obtain⟨g,off,c,rfl,cz,hcx,cbz,DZ⟩:=HC.out i _ hlt YE;have Nw:(i:Int)<cs.length:=by omega
     have HJz:=a_ (fun w2 (h:Z5 wz w2)=>OwnFrom.below hJ Rp h);have hall:(cs.take (i+1)).all (fun c=>hb c k)=((cs.take i).all (fun c=>hb c k)&&hb c k):=by rw[cy,hcx];simp
     have hno:hb c k=false->vP t nm cs hb (k:Int)=false:=fun h=>by
      unfold vP;rw[aH];have:cs.all (fun c=>hb c k)=false:=by
       rw[List.all_eq_false];exact⟨c,bO hcx,by rw[h];simp⟩
      rw[this,dI]
     clear HC Rp HY;cases Vm:hb c k
     ·have hno:=hno Vm;rw[hno]at Aa;simp only[aA,aQ,aP]at Aa;rw[Vm]at DZ
      gi_wp2_with (refine⟨trivial,fun h=>absurd h (by decide),?_⟩;refine(CallsIn.inRound l' (callsIn_wide.2 DZ.out)).mono ?_;rintro e w2 ⟨rfl,hb2⟩)
      have hb3:=On.trans (eG hb2 On.size);obtain⟨q1,q2,q3⟩:=HW.out _ hb3;exact⟨q1,q2,by rw[Aa];exact HJz.out _ hb2,sO.trans (bc (eG hb3 sO.1)),q3⟩
     ·rw[Vm,Om]at hall;rw[Vm]at DZ
      gi_wp2_with (refine⟨trivial,fun h=>absurd h (by decide),?_⟩;refine(CallsIn.inRound l' (callsIn_wide.2 DZ.out)).mono ?_;rintro e w2 ⟨rfl,hb2⟩)
      exact⟨⟨i+1,by simp,by omega,hall,HJz.out _ hb2,On.trans (eG hb2 On.size)⟩,by simp only[RowKit.intOf];omega⟩
    ·obtain rfl:i=cs.length:=by omega
     rw[bZ]at Om;have aaA:vP t nm cs hb (k:Int)=true:=by
      unfold vP;rw[aH,hft,Om];rfl
     rw[aaA,if_pos rfl]at Aa;have Ey:=Ex.filter (vP t nm cs hb);rw[Aa]at Ey;obtain⟨q1,q2,q3⟩:=HW.out _ On;have d5:wz.cell? ⟨W.heap.size,0,none⟩=some (.func (.yield l) #[] #[]):=cell_of q3 rfl;obtain⟨fn,tmps,assign,body,hy,hR⟩:=HY.out _ (k:Int) _ Rp Ey;dsimp only[encI]at hy;have HR:=a_ hR;clear HC HY Rp hR
     gi_wp2
     refine⟨fun h=>absurd h (by decide),(ql HR.out).mono ?_⟩;rintro e W3 ⟨hf3,⟨rfl,hJ3,hk3⟩|⟨rfl,nS⟩⟩
     ·have Xy:=a_ hJ3;have iT:=a_ (And.intro (q1.trans (KeepsFrom.up hf3 (by simp))) (And.intro (q2.trans hk3) (And.intro (YE.trans hk3.1) (hk3.2 _ _ _ _ (Or.inl rfl) q3))));clear hJ3 hk3 hf3 HR
      gi_wp2
      obtain⟨f1,f2,f3,f4⟩:=iT.out;exact⟨f1,f2,by rw[Aa];exact Xy.out,f3,f4⟩
     ·have Xy:=a_ nS;have iT:=a_ (q1.trans (KeepsFrom.up hf3 (by simp)));clear nS hf3 HR
      gi_wp2
      exact⟨iT.out,rfl,by rw[Aa];exact Xy.out⟩
  ·have YF:ur t (nm k)=false:=by simpa using hft
   have hno:vP t nm cs hb (k:Int)=false:=by unfold vP;rw[aH,YF];rfl
   rw[hno]at Aa;simp only[aA,aQ,aP]at Aa;rw[YF];have HJ4:=a_ (OwnFrom.below hJ hJs ((Below.refl _ Wb).drew));clear hJs
   gi_wp2
   exact⟨kx ((Below.refl _ Wb).drew),⟨bc (n:=w.heap.size) ((Below.refl _ Wb).drew),sN ((Below.refl _ Wb).drew)⟩,by rw[Aa];exact HJ4.out,Rz,eA⟩
 case done=>
  rintro D ys Wd hD rfl ⟨hJs,sO,eA⟩ hK
  gi_wp2
  unfold Exit.noGoto;refine⟨by simp,.inl ⟨_,_,rfl,run_takeDeferred hK,.tuple #[],by simp[results,results91,go_sem],⟨_,rfl⟩,.inl ⟨_,rfl,?_⟩⟩⟩;exact hJ _ _ _ _ hJs (grownBy_putObj' Wd D (.deferred none)) fun r e=>by cases e;exact⟨aw (by simp) hD,_,hK,rfl⟩
 case stop=>
  rintro D c pre Wd hD Ex ⟨rfl,hx⟩ hK
  gi_wp2
  unfold Exit.noGoto;refine⟨by simp,.inl ⟨_,_,rfl,run_takeDeferred hK,.tuple #[],by simp[results,results91,go_sem],⟨_,rfl⟩,.inr ⟨_,Ex.filter _,?_⟩⟩⟩;exact Nu _ _ _ _ hx (grownBy_putObj' Wd D (.deferred none)) fun r e=>by cases e;exact⟨aw (by simp) hD,_,hK,rfl⟩
end
section
attribute [local go_sem] Oper.semAt_some
variable{w w' W W' w2 wr:World}{v nv lv:Value}{l fr L cs xs:List Int}{N X B:Nat}
theorem fT{B:Nat}{e:TypeId}{s:Nat}{v:Value}{n:Nat}{xs:List Value}(h:w.ownsRow B e s v n xs):∃ai n' cap,v=.slice ai n' cap:=by
 rcases h.2 with⟨h,_⟩|⟨g,c,_,h,_⟩
 ·exact⟨_,_,_,h⟩
 ·exact⟨_,_,_,h⟩
theorem eY{B:Nat}{e:TypeId}{s n:Nat}{xs:List Value}(h:w.ownsRow B e s v n xs){k:Nat}(hk:v.ownBlock=some k):B<=k/\∃cur fz,w.heap[k]?=some (.cells cur e fz):=by
 rcases h.2 with⟨h',_⟩|⟨g,cap,cur,h',hb,hg,_⟩
 ·rw[h']at hk;cases hk
 ·rw[h']at hk;cases hk;exact⟨hb,_,_,hg⟩
theorem uv{e:TypeId}{s:Nat}{n:Nat}{xs:List Value}(h:w.ownsRow B e s v n xs)(hk:∀k,v.ownBlock=some k->w'.heap[k]?=w.heap[k]?):w'.ownsRow B e s v n xs:=by
 rcases h with⟨h1,h2⟩;refine⟨h1,h2.imp id ?_⟩;rintro⟨g,cap,cur,rfl,hb,hg,hr⟩;exact⟨g,cap,cur,rfl,hb,(hk g rfl).trans hg,hr⟩
def g_(l:List Int):List Value:=l.map (Value.int .i64)
theorem uw:(prog.info? 3).map (fun i=>(i.zero,i.size,i.bytes))=some (some (.int .i64 0),1,8):=by kernel_rfl
structure UG(w:World)(ys:List Int)(W:World):Prop where
 ex:∃v1,W.heap[w.heap.size]?=some (.cells #[v1] 31 (0,0))/\W.ownsRow (w.heap.size+1) 3 1 v1 ys.length (g_ ys)
 bl:Z5 w W
theorem UG.own(w:World):OwnFrom (w.heap.size+1) (fun ys W=>UG w ys W):=fun ys W W' row h hg hr=>by
 obtain⟨v1,h1,h2⟩:=h.ex;have ne:∀(k:Nat) (cur:Array Value) (fz:Nat×Nat) (e:TypeId),W.heap[k]?=some (.cells cur e fz)->W'.heap[k]?=W.heap[k]?:=fun k cur fz e hk=>hg.block k (dQ hk) fun er=>by
  obtain⟨_,o,ho,hc⟩:=hr k er.symm;rw[hk]at ho;cases ho;cases hc
 refine⟨⟨v1,(ne _ _ _ _ h1).trans h1,uv h2 fun k e=>?_⟩,h.bl.grown hg h.bl.size fun k e=>aw (by omega) (hr k e).1⟩;obtain⟨-,cur,fz,hk⟩:=eY h2 e;exact ne _ _ _ _ hk
theorem UG.put{ys:List Int}{x:Int}{v1 v':Value}{w3:World}(h1:W.heap[w.heap.size]?=some (.cells #[v1] 31 (0,0)))(h2:W.ownsRow (w.heap.size+1) 3 1 v1 ys.length (g_ ys))(hf:Z5 w W)
  (ho:w3.ownsRow (w.heap.size+1) 3 1 v' (ys.length+1) (g_ ys++[.int .i64 x])) (hg:(W.alloc (.cells #[.int .i64 x] 3)).grownBy w3 v1.ownBlock):
  (w3.cell? ⟨w.heap.size,0,none⟩=some v1/\w3.frozen? ⟨w.heap.size,0,none⟩=false)/\KeepsFrom (w.heap.size+1) W (w3.setCell ⟨w.heap.size,0,none⟩ v')/\Kq w.heap.size W (w3.setCell ⟨w.heap.size,0,none⟩ v')/\UG w (ys++[x]) (w3.setCell ⟨w.heap.size,0,none⟩ v'):=by
 have hlt:=dQ h1;have hne:∀k,v1.ownBlock=some k->k≠w.heap.size/\w.heap.size+1<=k:=fun k e=>by have:=(eY h2 e).1;omega
 have b3:w3.heap[w.heap.size]?=some (.cells #[v1] 31 (0,0)):=by
  rw[hg.block _ (by simp;omega) (fun e=>(hne _ e.symm).1 rfl),ay _ _ _ hlt];exact h1
 --every block but the row's and the variable's
 have oth:∀k,k<W.heap.size->k≠w.heap.size->v1.ownBlock≠some k->(w3.setCell ⟨w.heap.size,0,none⟩ v').heap[k]?=W.heap[k]?:=fun k hk h e=>by rw[ak _ _ _ _ h,hg.block k (by simp;omega) (fun e'=>e e'.symm),ay _ _ _ hk]
 have sz:W.heap.size<=(w3.setCell ⟨w.heap.size,0,none⟩ v').heap.size:=by
  rw[World.size_setCell];exact aw (by simp) hg.size
 have zS:∀(k:Nat) (o:Obj),W.heap[k]?=some o->(o.isCells=false\/∃c t fz,o=.cells c t fz/\(t=96\/t=36))->(w3.setCell ⟨w.heap.size,0,none⟩ v').heap[k]?=some o:=fun k o hk ht=>by
  refine(oth k (dQ hk) (fun e=>?_) fun e=>?_).trans hk
  ·subst e;rw[h1]at hk;cases hk;rcases ht with ht|⟨c,t,fz,e,ht⟩
   ·cases ht
   ·cases e;rcases ht with ht|ht<;>cases ht
  ·obtain⟨-,cur,fz,hk'⟩:=eY h2 e;rw[hk']at hk;cases hk;rcases ht with ht|⟨c,t,fz,e,ht⟩
   ·cases ht
   ·cases e;rcases ht with ht|ht<;>cases ht
 have hbl:Below w.heap.size W (w3.setCell ⟨w.heap.size,0,none⟩ v'):=
  ((((Below.refl w.heap.size W).alloc (by omega) _).grown hg (by simp;omega) fun k e=>by have:=(hne k e).2;omega).setCell (p:=⟨w.heap.size,0,none⟩) (au _) _)
 refine⟨⟨cell_of b3 rfl,dY b3⟩,⟨sz,fun k o _ hk ho=>zS k o hk (Or.inl ho)⟩,⟨(bc hbl),fun k c t fz ht hk=>zS k _ hk (Or.inr ⟨c,t,fz,rfl,ht⟩)⟩,⟨⟨v',?_,?_⟩,hf.trans hbl⟩⟩
 ·rw[eh b3];rfl
 ·have e:g_ (ys++[x])=g_ ys++[.int .i64 x]:=by unfold g_;rw[bE];rfl
  rw[e,ax,List.length_singleton];exact uv ho fun k e=>ak _ _ _ _ (fun e'=>by have:=(eY ho e).1;have e2:k=w.heap.size:=e';omega)
theorem ux(w:World)(gf:Nat)(lb:Array Value)(eg:∀args w,(callFunc gf args).run prog w=.ok (.enter gf args) w)(hseq:∀m',su Fence.wide m' prog gf lb encI (Kq w.heap.size) (fun ys=>ys=L) (fun p=>p<+:L) w)(hL:L.length<=1000000000000):
  Z4 27 #[.slice none 0 0,.func (.func gf) #[] lb] w fun e w'=>∃va vn vc,e=.returned (.slice va vn vc)/\w'.ownsRow (w.heap.size+1) 3 1 (.slice va vn vc) L.length (g_ L)/\Z5 w w':=by
 obtain⟨i0,hi,hz0,hz1,hz2⟩:=aY uw;have hb0:=(Below.refl w.heap.size w).alloc (au _) (.cells #[.slice none 0 0] 31);have hI0:UG w [] (w.alloc (.cells #[.slice none 0 0] 31)):=⟨⟨_,dR w _,bA _ _ _ _⟩,hb0⟩
 refine(callsIn_wide (n:=3)).1 ?_;refine callsIn_of_wp_marks func27 rfl trivial ?_ rfl;simp only[ntmps27,cA,aC,aI,Nat.reduceAdd,Nat.reduceSub,bV,bU,cB,bX,bH,aZ]
 gi_wp2
 have hsz:(w.alloc (.cells #[.slice none 0 0] 31)).heap.size=w.heap.size+1:=by simp
 refine oU rfl (n:=3) (fun h=>absurd h (by decide)) (gf:=gf) (lb:=lb) rfl trivial eg (hseq _) (fun h k=>Kq.trans h k) (Kq.put (by rw[hsz];omega)) hb0 (by intro x;rfl)
  (fun ys W=>UG w ys W) (fun _ _ _=>False) (by rw[hsz];exact UG.own w) (fun c s A B row hs _ _=>hs) hI0
  (fun x=>{tmps:=#[.slice none 0 0,.func (.func gf) #[] lb,.pointer (some ⟨w.heap.size,0,none⟩),undef,.slice none 0 0,.int .i64 x,.func (.func gf) #[] lb,.int .i64 x,undef,undef,undef,undef,undef],defers:=[]}) ?assign ?body ?done ?stop
 case assign=>
  intro l' x Wb K hK;simp only[encI]
  gi_wp2
  exact hK
 case body=>
  rintro l' pre x Wb hI Ex;obtain⟨v1,h1,h2⟩:=hI.ex;obtain⟨a1,n1,c1,rfl⟩:=fT h2;have hpl:pre.length+1<=1000000000000:=by
   have:=Ex.length_le;rw[ax,List.length_singleton]at this;omega
  have d0:Wb.cell? ⟨w.heap.size,0,none⟩=some (.slice a1 n1 c1):=cell_of h1 rfl;have HP:=a_ (fun v' w3=>UG.put (w:=w) (ys:=pre) (x:=x) (v':=v') (w3:=w3) h1 h2 hI.bl);have HR:=a_ (uv (w':=Wb.alloc (.cells #[.int .i64 x] 3)) h2 fun k e=>ay _ _ _ (dQ (eY h2 e).2.choose_spec.choose_spec));have Vo:=hI.bl.size;clear h1 h2 hI hI0 hseq hb0 Ex hL
  gi_wp2_with (gi_at_builtin;refine wpListIn_append_own_at (w:=_) rfl _ _ 31 rfl (w.heap.size+1) 3 i0 _ 1 8 underlying31 hi hz0 hz1 hz2 rfl (by decide) _ _ _ rfl HR.out ⟨Wb.heap.size,0,none⟩ 1 1 [.int .i64 x] rfl rfl (cell_one_new _ _ _) (by simp[Value.oneCell']) (by unfold maxLen;omega) (by omega) (by simp;omega) ?_;intro v7 w7 Xz YG _ Sl;obtain⟨⟨d7,f7⟩,H7⟩:=HP.out _ _ Xz YG;have H8:=a_ H7;obtain⟨a7,n7,c7,rfl⟩:=fT Xz;clear HP HR Xz YG Sl H7)
  obtain⟨k1,k2,k3⟩:=H8.out;exact⟨by rw[hsz];exact k1,k2,k3⟩
 case done=>
  rintro D ys Wd hD rfl hI hK;obtain⟨v1,h1,h2⟩:=hI.ex;obtain⟨a1,n1,c1,rfl⟩:=fT h2;have d0:Wd.cell? ⟨w.heap.size,0,none⟩=some (.slice a1 n1 c1):=cell_of h1 rfl;have H2:=a_ h2;have hbl:=hI.bl;clear h1 h2 hI hI0 hseq hb0
  gi_wp2
  refine⟨by simp,.inl ⟨_,_,rfl,run_takeDeferred hK,.slice a1 n1 c1,by simp[results,results27,go_sem],a1,n1,c1,rfl,uv H2.out fun k e=>?_,hbl.grown (grownBy_putObj' Wd D (.deferred none)) hbl.size fun k e=>?_⟩⟩
  ·obtain⟨-,cur,fz,hk⟩:=eY H2.out e;refine World.putObj_heap_other fun e'=>?_;rw[e',hK]at hk;cases hk
  ·have:k=D:=(aX e).symm;rw[hsz]at hD;omega
 case stop=>
  rintro D c pre Wd hD _ hF;exact hF.elim
end
section
variable{w w' W W' w1 w2 wr:World}{v nv lv:Value}{l fr L cs xs:List Int}{N X B:Nat}
def BX(W:World)(X:Nat)(fv:Value)(Bf Bd:Nat)(w1:World):Prop:=Z5 W w1/\((Bf<w1.heap.size/\Bd<w1.heap.size)/\W.heap.size<=Bf/\W.heap.size<=Bd)/\w1.cell? ⟨Bf,0,none⟩=some fv/\w1.cell? ⟨Bd,0,none⟩=some (Z8 X)
theorem BX.mk(W:World)(X:Nat)(fv:Value):BX W X fv (W.heap.size+1) W.heap.size (UF W X fv):=by
 obtain⟨h1,h2,h3,h4⟩:=Vp W X fv;exact⟨h1,⟨⟨by omega,by omega⟩,by omega,by omega⟩,h3,h4⟩
theorem BX.on{fv:Value}{Bf Bd:Nat}(h:BX W X fv Bf Bd w1)(hb:Z5 w1 w2):BX W X fv Bf Bd w2:=
 ⟨zR h.1 hb,⟨⟨aq h.2.1.1.1 hb.size,aq h.2.1.1.2 hb.size⟩,h.2.1.2⟩,(ar (hb.block _ h.2.1.1.1)).trans h.2.2.1,(ar (hb.block _ h.2.1.1.2)).trans h.2.2.2⟩
theorem BX.set{fv u:Value}{Bf Bd k:Nat}(hw:Z5 W w1)(h:BX w1 X fv Bf Bd w2)(hk:k<w1.heap.size)(hk2:W.heap.size<=k):BX W X fv Bf Bd (w2.setCell ⟨k,0,none⟩ u):=by
 obtain⟨h1,⟨⟨h2,h3⟩,h4,h5⟩,h6,h7⟩:=h;refine⟨(zR hw h1).setCell (p:=⟨k,0,none⟩) hk2 _,⟨⟨by rw[World.size_setCell];exact h2,by rw[World.size_setCell];exact h3⟩,aw hw.size h4,aw hw.size h5⟩,?_,?_⟩
 ·exact(ar (ak _ _ _ _ (fun e=>by have e2:Bf=k:=e;omega))).trans h6
 ·exact(ar (ak _ _ _ _ (fun e=>by have e2:Bd=k:=e;omega))).trans h7
def FoP(w:World)(X:Nat)(d:Bool)(t:ByteArray)(cv fv:Value)(e:Ending)(w':World):Prop:=∃Ba Bs Bo Bf Bd,e=.returned (.func (.func 91) #[] #[Z8 Ba,Z8 Bs,Z8 Bo])/\BX w X fv Bf Bd w'/\(Ba<w'.heap.size/\Bs<w'.heap.size/\Bo<w'.heap.size)/\w'.cell? ⟨Ba,0,none⟩=some (.func (.func (if d=true then 138 else 137)) #[] #[Z8 Bf,Z8 Bd])/\w'.cell? ⟨Bs,0,none⟩=some (Z8 X)/\w'.cell? ⟨Bo,1,none⟩=some (.string t)/\w'.cell? ⟨Bo,2,none⟩=some cv
theorem KZ(d:Bool)(t:ByteArray)(ci:Option Addr)(cn cc:Nat)(fi:Option Addr)(fn fc X:Nat)(w:World):Z4 52 #[Z8 X,.agg #[.bool d,.string t,.slice ci cn cc],.slice fi fn fc] w (FoP w X d t (.slice ci cn cc) (.slice fi fn fc)):=by
 have HK:Hid (∀w,Z4 89 #[Z8 X,.slice fi fn fc] w fun e w1=>∃Bf Bd,e=.returned (.func (.func 137) #[] #[Z8 Bf,Z8 Bd])/\Hid (BX w X (.slice fi fn fc) Bf Bd w1)):=a_ fun w=>(Sk fi fn fc X w).mono fun e w1 ⟨h1,h2⟩=>⟨_,_,h1,a_ (by rw[h2];exact BX.mk _ _ _)⟩
 have HW:Hid (∀w,Z4 90 #[Z8 X,.slice fi fn fc] w fun e w1=>∃Bf Bd,e=.returned (.func (.func 138) #[] #[Z8 Bf,Z8 Bd])/\Hid (BX w X (.slice fi fn fc) Bf Bd w1)):=a_ fun w=>(Hf fi fn fc X w).mono fun e w1 ⟨h1,h2⟩=>⟨_,_,h1,a_ (by rw[h2];exact BX.mk _ _ _)⟩
 have b1:=dR w (.cells #[Z8 X] 135);have b2:=dR (w.alloc (.cells #[Z8 X] 135)) (.cells #[.bool d,.string t,.slice ci cn cc] 137);rw[bL]at b2;obtain⟨W2,hW2⟩:∃W2,(w.alloc (.cells #[Z8 X] 135)).alloc (.cells #[.bool d,.string t,.slice ci cn cc] 137)=W2:=⟨_,rfl⟩
 obtain⟨hb2,hs2,cS,cD,cT,cC⟩:Z5 w W2/\W2.heap.size=w.heap.size+1+1/\W2.cell? ⟨w.heap.size,0,none⟩=some (Z8 X)/\W2.cell? ⟨w.heap.size+1,0,none⟩=some (.bool d)/\W2.cell? ⟨w.heap.size+1,1,none⟩=some (.string t)/\W2.cell? ⟨w.heap.size+1,2,none⟩=some (.slice ci cn cc):=by
  rw[<-hW2];exact⟨((Below.refl _ w).alloc (au _) _).alloc (by simp) _,by simp,cell_of ((ay _ _ _ (by simp)).trans b1) rfl,cell_of b2 rfl,cell_of b2 rfl,cell_of b2 rfl⟩
 clear b1 b2
 --what lay in W2 lies later
 have HL:Hid (∀w5,Z5 W2 w5->w5.cell? ⟨w.heap.size,0,none⟩=some (Z8 X)/\w5.cell? ⟨w.heap.size+1,0,none⟩=some (.bool d)/\w5.cell? ⟨w.heap.size+1,1,none⟩=some (.string t)/\w5.cell? ⟨w.heap.size+1,2,none⟩=some (.slice ci cn cc)):=a_ fun w5 h=>⟨(ar (h.block w.heap.size (by omega))).trans cS,(ar (h.block (w.heap.size+1) (by omega))).trans cD,(ar (h.block (w.heap.size+1) (by omega))).trans cT,(ar (h.block (w.heap.size+1) (by omega))).trans cC⟩
 have HF:Hid (∀(gf Ba Bf Bd:Nat) (w5:World),gf=(if d=true then 138 else 137)->BX W2 X (.slice fi fn fc) Bf Bd w5->Ba<w5.heap.size->w5.cell? ⟨Ba,0,none⟩=some (.func (.func gf) #[] #[Z8 Bf,Z8 Bd])->FoP w X d t (.slice ci cn cc) (.slice fi fn fc) (.returned (.func (.func 91) #[] #[Z8 Ba,.pointer (some ⟨w.heap.size,0,none⟩),.pointer (some ⟨w.heap.size+1,0,none⟩)])) w5):=a_ fun gf Ba Bf Bd w5 hg h Xx hc=>by
  have hz:=h.1.size;obtain⟨k1,k2,k3,k4⟩:=HL.out w5 h.1;exact⟨Ba,_,_,Bf,Bd,rfl,⟨zR hb2 h.1,⟨h.2.1.1,aw hb2.size h.2.1.2.1,aw hb2.size h.2.1.2.2⟩,h.2.2⟩,⟨Xx,by omega,by omega⟩,by rw[<-hg];exact hc,k1,k3,k4⟩
 clear cT cC cD;generalize FoP w X d t (.slice ci cn cc) (.slice fi fn fc)=PP at*
 cases d
 ·go_enter func52,ntmps52;go_wp2_with(go_at_call 89;refine(HK.out _).mono ?_;rintro e w1 ⟨Bf,Bd,rfl,H1⟩;have k0:=dR w1 (.cells #[.nilFunc] 88);have k1:(w1.alloc (.cells #[.nilFunc] 88)).cell? ⟨w1.heap.size,0,none⟩=some .nilFunc:=cell_of k0 rfl;have k2:(w1.alloc (.cells #[.nilFunc] 88)).frozen? ⟨w1.heap.size,0,none⟩=false:=dY k0;have H2:=a_ (H1.out.on ((Below.refl _ w1).alloc (au _) (.cells #[(.func (.func 137) #[] #[Z8 Bf,Z8 Bd])] 88)));have K3:=a_ (dR w1 (.cells #[(.func (.func 137) #[] #[Z8 Bf,Z8 Bd])] 88));have c5:=(HL.out _ H2.out.1).2.1;have c6:=(HL.out _ H2.out.1).1;clear HK H1 cS k0);have H9:=a_ (HF.out 137 w1.heap.size Bf Bd _ rfl H2.out (dQ K3.out) (cell_of K3.out rfl));clear HF H2 HL K3;first|exact H9.out|(go_ret;exact H9.out)
 ·go_enter func52,ntmps52;go_wp2_with(first
   |(go_at_call 89;refine(HK.out _).mono ?_;rintro e w1 ⟨Bf,Bd,rfl,H1⟩;have k0:=dR w1 (.cells #[.nilFunc] 88);have k1:(w1.alloc (.cells #[.nilFunc] 88)).cell? ⟨w1.heap.size,0,none⟩=some .nilFunc:=cell_of k0 rfl;have k2:(w1.alloc (.cells #[.nilFunc] 88)).frozen? ⟨w1.heap.size,0,none⟩=false:=dY k0;have H2:=a_ (H1.out.on ((Below.refl _ w1).alloc (au _) (.cells #[(.func (.func 137) #[] #[Z8 Bf,Z8 Bd])] 88)));have K3:=a_ (dR w1 (.cells #[(.func (.func 137) #[] #[Z8 Bf,Z8 Bd])] 88));have c5:=(HL.out _ H2.out.1).2.1;have c6:=(HL.out _ H2.out.1).1;have hz1:=H1.out.1.size;clear HK H1 cS k0)
   |(go_at_call 90;refine(HW.out _).mono ?_;rintro e w3 ⟨Bf3,Bd3,rfl,H3⟩;have K6:=a_ ((H3.out.1.block w1.heap.size (dQ K3.out)).trans K3.out);have k5:w3.cell? ⟨w1.heap.size,0,none⟩=some (.func (.func 137) #[] #[Z8 Bf,Z8 Bd]):=cell_of K6.out rfl;have k7:=dY (i:=0) K6.out;clear HW))
  have H9:=a_ (HF.out 138 w1.heap.size Bf3 Bd3 _ rfl (BX.set (u:=.func (.func 138) #[] #[Z8 Bf3,Z8 Bd3]) H2.out.1 H3.out (k:=w1.heap.size) (dQ K3.out) hz1) (by rw[World.size_setCell];exact dQ K6.out) (cell_of (eh (i:=0) K6.out _) rfl));clear HF H2 HL K3 K6 H3;first|exact H9.out|(go_ret;exact H9.out)
end
section
attribute [local go_sem] Oper.semAt_some
variable{w w' W W' w1 w2 wr:World}{v nv lv:Value}{l fr L cs xs:List Int}{N X B:Nat}
theorem Hh(m:Nat){Bs:Nat}(Vq:Bs<w.heap.size)(hc:w.cell? ⟨Bs,0,none⟩=some v)(hI:IR w v L):su Fence.wide m prog 95 #[Z8 Bs] encI (eQ w.heap.size) (fun ys=>ys=L) (fun p=>p<+:L) w:=by
 intro l J Jx W hW hJ Nu hY h0;obtain⟨ai,cap,rfl,⟨h1,h2⟩,hr⟩:=hI;have c0:W.cell? ⟨Bs,0,none⟩=some (.slice ai L.length cap):=(ar (hW.block _ Vq)).trans hc;have HK:Hid (∀i wr,i<L.length->eQ w.heap.size w wr->∃g off k,ai=some ⟨g,off,none⟩/\wr.cell? ⟨g,off+i,none⟩=some (.int .i64 k)/\L[i]?=some k):=a_ fun i wr hi hb=>by
  have hx:L[i]?=some L[i]:=aF hi;obtain⟨g,off,e,hg,h⟩:=hr i _ hx;exact⟨g,off,_,e,hb.cell hg h,hx⟩
 have HY:=a_ hY;clear hY hr hc Vq;refine callsIn_of_wp func95 rfl trivial ?_ rfl;simp only[ntmps95,cA,aC,aI,Nat.reduceAdd,Nat.reduceSub,bV,bU,cB,bX,bH,aZ]
 gi_wp2
 gi_loopw [7] (fun iv wr=>∃i:Nat,iv=.int .i64 i/\i<=L.length/\J (L.take i) wr/\eQ w.heap.size w wr) (fun iv _=>L.length-(RowKit.intOf iv).toNat)
 case atStart=>exact⟨0,rfl,aB _,h0,(bc hW)⟩
 case round=>
  obtain⟨i,rfl,hi,hJs,hb⟩:=hrel;clear c0 h0;by_cases hlt:i<L.length
  ·obtain⟨g,off,k,rfl,ck,hk⟩:=HK.out i _ hlt hb;have Nw:(i:Int)<L.length:=by omega
   have e5:L.take (i+1)=L.take i++[k]:=by rw[cy,hk];rfl
   obtain⟨fn,tmps,assign,body,hy,hR⟩:=HY.out _ k _ hJs (by rw[<-e5];exact dy _ _);dsimp only[encI]at hy;have HR:=a_ hR;clear hR HY hJs HK
   gi_wp2
   refine⟨fun h=>absurd h (by decide),HR.out.mono ?_⟩;rintro e W3 ⟨hf3,⟨rfl,hJ3,hk3⟩|⟨rfl,nS⟩⟩
   ·rw[<-e5]at hJ3;have vN:=a_ hJ3;have hb4:=a_ (hb.trans hk3);clear hJ3 hk3 hf3 HR
    gi_wp2
    exact⟨⟨i+1,by simp,by omega,vN.out,hb4.out⟩,by simp only[RowKit.intOf];omega⟩
   ·rw[<-e5]at nS;have vN:=a_ nS;clear HR nS hf3
    gi_wp2
    refine aJ (aN rfl _ _ _) rfl ?_;exact⟨⟨_,rfl⟩,.inr ⟨_,dy _ _,vN.out⟩⟩
  ·obtain rfl:i=L.length:=by omega
   rw[bZ]at hJs
   gi_wp2
   go_end0
   exact⟨⟨_,rfl⟩,.inl ⟨_,rfl,hJs⟩⟩
theorem K4(fi:Option Addr)(fn fc:Nat)(w:World):Z4 54 #[.slice fi fn fc] w fun e w'=>e=.returned (.func (.func 95) #[] #[.pointer (some ⟨w.heap.size,0,none⟩)])/\w'=w.alloc (.cells #[.slice fi fn fc] 31):=by
 go_enter func54,ntmps54;go_wp2;go_ret;exact⟨rfl,rfl⟩
theorem Hi(w:World)(gf:Nat)(lb:Array Value)(eg:∀args w,(callFunc gf args).run prog w=.ok (.enter gf args) w)(hseq:∀m',su Fence.wide m' prog gf lb encI (Kq w.heap.size) (fun ys=>ys=L) (fun p=>p<+:L) w)(hL:L.length<=1000000000000):
  Z4 94 #[.func (.func gf) #[] lb] w fun e w'=>∃va vn vc,e=.returned (.slice va vn vc)/\w'.ownsRow (w.heap.size+1) 3 1 (.slice va vn vc) L.length (g_ L)/\Z5 w w':=by
 have HA:=a_ (ux w gf lb eg hseq hL);clear hseq eg;go_enter func94,ntmps94;go_wp2_with(go_at_call 27;refine HA.out.mono ?_;rintro e w5 ⟨va,vn,vc,rfl,h5⟩;have H5:=a_ h5;clear HA h5);go_ret;exact⟨va,vn,vc,rfl,H5.out⟩
end
end Go.Proofs.YtclgfepngpeifaaGreatDoor
namespace Go.Proofs
open Go.Shelf
def Tryz.lays189_ren:Go.Shelf.Ren:=⟨fun|189=>30|125=>57|257=>56|128=>105|129=>106|294=>96|295=>97|296=>98|297=>99|298=>100|299=>101|216=>102|300=>103|301=>104|328=>140|329=>141|330=>142|331=>143|332=>144|215=>145|343=>184|n=>n,fun|28=>31|3=>3|46=>150|0=>0|51=>187|53=>189|4=>4|183=>180|182=>179|131=>184|5=>5|9=>9|218=>224|222=>228|228=>263|229=>94|n=>n,fun|n=>n⟩
theorem Tryz.lays189:Go.Proofs.Lays.n189 Tryz.prog Tryz.lays189_ren:={
 mixed:=by kernel_rfl
 f125:=Tryz.func57.trans (aL some (by kernel_rfl))
 f128:=Tryz.func105.trans (aL some (by kernel_rfl))
 f129:=Tryz.func106.trans (aL some (by kernel_rfl))
 f189:=Tryz.func30.trans (aL some (by kernel_rfl))
 f215:=Tryz.func145.trans (aL some (by kernel_rfl))
 f216:=Tryz.func102.trans (aL some (by kernel_rfl))
 f257:=Tryz.func56.trans (aL some (by kernel_rfl))
 f294:=Tryz.func96.trans (aL some (by kernel_rfl))
 f295:=Tryz.func97.trans (aL some (by kernel_rfl))
 f296:=Tryz.func98.trans (aL some (by kernel_rfl))
 f297:=Tryz.func99.trans (aL some (by kernel_rfl))
 f298:=Tryz.func100.trans (aL some (by kernel_rfl))
 f299:=Tryz.func101.trans (aL some (by kernel_rfl))
 f300:=Tryz.func103.trans (aL some (by kernel_rfl))
 f301:=Tryz.func104.trans (aL some (by kernel_rfl))
 f328:=Tryz.func140.trans (aL some (by kernel_rfl))
 f329:=Tryz.func141.trans (aL some (by kernel_rfl))
 f330:=Tryz.func142.trans (aL some (by kernel_rfl))
 f331:=Tryz.func143.trans (aL some (by kernel_rfl))
 f332:=Tryz.func144.trans (aL some (by kernel_rfl))
 f343:=Tryz.func184.trans (aL some (by kernel_rfl))
 t0:=Tryz.underlying0
 a0:=Tryz.isAgg0
 z0:=Tryz.sizeOf0
 v0:=Tryz.zeroValue0
 t3:=Tryz.underlying3
 a3:=Tryz.isAgg3
 z3:=Tryz.sizeOf3
 v3:=Tryz.zeroValue3
 t4:=Tryz.underlying4
 a4:=Tryz.isAgg4
 z4:=Tryz.sizeOf4
 v4:=Tryz.zeroValue4
 t5:=Tryz.underlying5
 a5:=Tryz.isAgg5
 z5:=Tryz.sizeOf5
 v5:=Tryz.zeroValue5
 t9:=Tryz.underlying9
 a9:=Tryz.isAgg9
 z9:=Tryz.sizeOf9
 v9:=Tryz.zeroValue9
 t28:=Tryz.underlying31
 a28:=Tryz.isAgg31
 z28:=Tryz.sizeOf31
 v28:=Tryz.zeroValue31
 t46:=Tryz.underlying150
 a46:=Tryz.isAgg150
 z46:=Tryz.sizeOf150
 v46:=Tryz.zeroValue150
 t51:=Tryz.underlying187
 a51:=Tryz.isAgg187
 z51:=Tryz.sizeOf187
 v51:=Tryz.zeroValue187
 t53:=Tryz.underlying189
 a53:=Tryz.isAgg189
 z53:=Tryz.sizeOf189
 v53:=Tryz.zeroValue189
 t131:=Tryz.underlying184
 a131:=Tryz.isAgg184
 z131:=Tryz.sizeOf184
 v131:=Tryz.zeroValue184
 t182:=Tryz.underlying179
 a182:=Tryz.isAgg179
 z182:=Tryz.sizeOf179
 v182:=Tryz.zeroValue179
 t183:=Tryz.underlying180
 a183:=Tryz.isAgg180
 z183:=Tryz.sizeOf180
 v183:=Tryz.zeroValue180
 t218:=Tryz.underlying224
 a218:=Tryz.isAgg224
 z218:=Tryz.sizeOf224
 v218:=Tryz.zeroValue224
 t222:=Tryz.underlying228
 a222:=Tryz.isAgg228
 z222:=Tryz.sizeOf228
 v222:=Tryz.zeroValue228
 t228:=Tryz.underlying263
 a228:=Tryz.isAgg263
 z228:=Tryz.sizeOf263
 v228:=Tryz.zeroValue263
 t229:=Tryz.underlying94
 a229:=Tryz.isAgg94
 z229:=Tryz.sizeOf94
 v229:=Tryz.zeroValue94}
open Go.Sort Go.RowKit in
theorem Tryz.slices_Sort_int(blk off cap:Nat)(zs:List Int)(w:World)(hH:Holds (Value.int .i64) w blk off zs.toArray)(hblk:blk<w.heap.size)(hsz:zs.length<4611686018427387904):
 Calls Tryz.prog 30 #[.slice (some ⟨blk,off,none⟩) zs.length cap] w fun e w'=>
  e=.returned (.tuple #[])/\∃n os,w'=grow (putRow (Value.int .i64) (Sort.ahead w n) blk off (zs.mergeSort fun x y=>decide (x<=y)).toArray) os:=Any.slices_Sort_int Tryz.lays189 blk off cap zs w hH hblk hsz
def Tryz.laysNm220_ren:Go.Shelf.Ren:=⟨fun|20=>31|n=>n,fun|22=>31|3=>3|4=>4|0=>0|n=>n,fun|n=>n⟩
theorem Tryz.laysNm220:Go.Proofs.Lays2.n20 Tryz.prog Tryz.laysNm220_ren:={
 mixed:=by kernel_rfl
 f20:=Tryz.func31.trans (aL some (by kernel_rfl))
 t0:=Tryz.underlying0
 a0:=Tryz.isAgg0
 z0:=Tryz.sizeOf0
 v0:=Tryz.zeroValue0
 t3:=Tryz.underlying3
 a3:=Tryz.isAgg3
 z3:=Tryz.sizeOf3
 v3:=Tryz.zeroValue3
 t4:=Tryz.underlying4
 a4:=Tryz.isAgg4
 z4:=Tryz.sizeOf4
 v4:=Tryz.zeroValue4
 t22:=Tryz.underlying31
 a22:=Tryz.isAgg31
 z22:=Tryz.sizeOf31
 v22:=Tryz.zeroValue31
 i3:=by kernel_rfl}
open Go.RowKit Go.Lib Go.Sort in
theorem Tryz.slices_Compact_int(blk off cap:Nat)(zs:List Int)(w:World)(hH:Holds (Value.int .i64) w blk off zs.toArray)(hsz:zs.length<=9223372036854775807)(Ez:zs.length<=cap):
 Calls Tryz.prog 31 #[.slice (some ⟨blk,off,none⟩) zs.length cap] w fun e w'=>e=.returned (.slice (some ⟨blk,off,none⟩) (Lib.compact zs).length cap)/\∃q,w'=putRow (Value.int .i64) (Sort.ahead w q) blk off (Lib.compact zs++List.replicate (zs.length-(Lib.compact zs).length) 0).toArray:=Any.slices_Compact_int Tryz.laysNm220 blk off cap zs w hH hsz Ez
open Go.RowKit Go.Lib Go.Sort in
theorem Tryz.slices_Compact_int_empty(a:Option Addr)(cap:Nat)(w:World):
 Calls Tryz.prog 31 #[.slice a 0 cap] w fun e w'=>e=.returned (.slice a 0 cap)/\w'=w:=Any.slices_Compact_int_empty Tryz.laysNm220 a cap w
open Go.RowKit Go.Sort in
theorem Tryz.slices_Sort_int_none(p:Option Addr)(cap:Nat)(w:World):
 Calls Tryz.prog 30 #[.slice p 0 cap] w fun e w'=>e=.returned (.tuple #[])/\w'=w:=Any.slices_Sort_int_none Tryz.lays189 p cap w
end Go.Proofs
namespace Go.Proofs.YtclgfepngpeifaaGreatDoor
open Go.RowKit Go.Maps Go.Lib Go.Sort Tryz
section
variable{w w' W W':World}{v:Value}{xs zs:List Int}
def ry(zs:List Int):List Int:=zs.mergeSort fun x y=>decide (x<=y)
theorem uy(zs:List Int):(ry zs).length=zs.length:=by unfold ry;simp
theorem EA(h:w.ownsRow 0 3 1 v zs.length (g_ zs))(hl:zs.length<=10000000000000):Z4 30 #[v] w fun e w'=>e=.returned (.tuple #[])/\w'.ownsRow 0 3 1 v zs.length (g_ (ry zs))/\w.grownBy w' v.ownBlock:=by
 rcases h.2 with⟨rfl,hz⟩|⟨g,cap,cur,rfl,hb,hg,Oo,hcm,hcs,vQ⟩
 ·have:zs=[]:=bJ hz;subst this;refine(slices_Sort_int_none none 0 w).mono ?_;rintro e w' ⟨rfl,rfl⟩;exact⟨rfl,by simpa [ry,g_]using h,⟨rfl,rfl,rfl,au _,fun _ _ _=>rfl⟩⟩
 ·refine(slices_Sort_int g 0 cap zs w (holds_of_block_i hg (by rw[Nat.mul_one]at vQ;exact vQ)) (dQ hg) (by omega)).mono ?_;rintro e w' ⟨rfl,n,os,rfl⟩;exact⟨rfl,ownsRow_sorted_i (uy zs) (aB _) hg Oo hcm hcs,grownBy_sorted_i _⟩
theorem Sm{g n cap m:Nat}{ys:List Value}(h:w.ownsRow 0 3 1 (Z9 g n cap) n ys)(hm:m<=n):w.ownsRow 0 3 1 (Z9 g m cap) m (ys.take m):=by
 have hl:=h.1;rcases h.2 with⟨h',_⟩|⟨g',cap',cur,h',hb,hg,Oo,hcm,hcs,vQ⟩
 ·cases h'
 ·cases h';refine⟨by rw[bI];omega,Or.inr ⟨g,cap,cur,rfl,hb,hg,by omega,hcm,hcs,?_⟩⟩;rw[<-vQ,List.take_take];congr 1;omega
theorem yq(zs:List Int):(Lib.compact zs).length<=zs.length:=by
 have key:∀(d:Array Int) (m:Nat),(compactUpTo d m).length<=m:=fun d m=>by
  induction m with
  |zero=>simp[compactUpTo]
  |succ m ih=>rw[compactUpTo_succ,ax];split<;>simp<;>omega
 exact key _ _
theorem EB(h:w.ownsRow 0 3 1 v zs.length (g_ zs))(hl:zs.length<=10000000000000):Z4 31 #[v] w fun e w'=>∃v',e=.returned v'/\w'.ownsRow 0 3 1 v' (Lib.compact zs).length (g_ (Lib.compact zs))/\w.grownBy w' v.ownBlock/\v'.ownBlock=v.ownBlock:=by
 rcases h.2 with⟨rfl,hz⟩|⟨g,cap,cur,rfl,hb,hg,Oo,hcm,hcs,vQ⟩
 ·have:zs=[]:=bJ hz;subst this;refine(slices_Compact_int_empty none 0 w).mono ?_;rintro e w' ⟨rfl,rfl⟩;exact⟨_,rfl,by simpa [Lib.compact,compactUpTo,g_]using h,⟨rfl,rfl,rfl,au _,fun _ _ _=>rfl⟩,rfl⟩
 ·refine(slices_Compact_int g 0 cap zs w (holds_of_block_i hg (by rw[Nat.mul_one]at vQ;exact vQ)) (by omega) Oo).mono ?_;rintro e w' ⟨rfl,q,rfl⟩;have hle:=yq zs;have hlen:(Lib.compact zs++List.replicate (zs.length-(Lib.compact zs).length) (0:Int)).length=zs.length:=by rw[ax,List.length_replicate];omega
  have e0:putRow (Value.int .i64) (Sort.ahead w q) g 0 (Lib.compact zs++List.replicate (zs.length-(Lib.compact zs).length) (0:Int)).toArray=grow (putRow encZ (Sort.ahead w q) g 0 (Lib.compact zs++List.replicate (zs.length-(Lib.compact zs).length) (0:Int)).toArray) #[]:=by
   unfold grow;rw[Array.append_empty]
  rw[e0];have r:=ownsRow_sorted_i (n:=q) (os:=#[]) hlen (aB _) hg Oo hcm hcs;refine⟨_,rfl,?_,grownBy_sorted_i _,rfl⟩;have r2:=Sm r hle;have e1:((Lib.compact zs++List.replicate (zs.length-(Lib.compact zs).length) (0:Int)).map encZ).take (Lib.compact zs).length=g_ (Lib.compact zs):=by
   rw[<-List.map_take,List.take_left];rfl
  rw[e1]at r2;exact r2
theorem Hj(d:Array Int)(hs:∀i j,i<j->j<d.size->d[i]!<=d[j]!):∀m,m<=d.size->(compactUpTo d m).Pairwise (· < ·)/\(∀x,x∈compactUpTo d m↔∃j,j<m/\d[j]! =x):=by
 intro m;induction m with
 |zero=>intro _;exact⟨by simp[compactUpTo],fun x=>by simp[compactUpTo]⟩
 |succ m ih=>
  intro hm;obtain⟨h1,h2⟩:=ih (by omega);rw[compactUpTo_succ];cases hk:keeps d m with
  |true=>
   refine⟨?_,fun x=>?_⟩
   ·simp only[if_true];rw[List.pairwise_append];refine⟨h1,by simp,fun a ha c hc=>?_⟩;rw[bF]at hc;subst hc;obtain⟨j,hj,rfl⟩:=(h2 a).1 ha;have hne:d[m]!≠d[m-1]!:=fun e=>by rw[keeps_neg (by omega) e]at hk;cases hk
    have h3:=hs (m-1) m (by omega) (by omega);have h4:d[j]!<=d[m-1]!:=by
     by_cases e:j=m-1
     ·rw[e];exact Int.le_refl _
     ·exact hs j (m-1) (by omega) (by omega)
    omega
   ·simp only[if_true,List.mem_append,bF,h2];constructor
    ·rintro(⟨j,hj,rfl⟩|rfl)
     ·exact⟨j,by omega,rfl⟩
     ·exact⟨m,by omega,rfl⟩
    ·rintro⟨j,hj,rfl⟩;by_cases e:j=m
     ·right;rw[e]
     ·left;exact⟨j,by omega,rfl⟩
  |false=>
   have XA:0<m:=Nat.pos_of_ne_zero fun e=>by rw[keeps_lt_one d m (by omega)]at hk;cases hk
   have he:d[m]! =d[m-1]!:=bD fun hne=>by rw[keeps_pos hne]at hk;cases hk
   refine⟨by simpa using h1,fun x=>?_⟩;simp only[aA,aQ,aP,h2];constructor
   ·rintro⟨j,hj,rfl⟩;exact⟨j,by omega,rfl⟩
   ·rintro⟨j,hj,rfl⟩;by_cases e:j=m
    ·exact⟨m-1,by omega,by rw[e,he]⟩
    ·exact⟨j,by omega,rfl⟩
theorem ky(zs:List Int):(Lib.compact (ry zs)).Pairwise (· < ·)/\∀x,x∈Lib.compact (ry zs)↔x∈zs:=by
 have hp:(ry zs).Pairwise (· <= ·):=by
  have:=List.pairwise_mergeSort (le:=fun x y:Int=>decide (x<=y)) (fun a b c h1 h2=>by simp at*;omega) (fun a b=>by simp;omega) zs;unfold ry;exact this.imp (fun h=>by simpa using h)
 have hget:∀i,i<(ry zs).length->(ry zs).toArray[i]! =(ry zs)[i]!:=fun i hi=>by simp[hi]
 obtain⟨h1,h2⟩:=Hj (ry zs).toArray (fun i j YH hj=>by
  have Vr:j<(ry zs).length:=by simpa using hj
  have GI:i<(ry zs).length:=by omega
  have:=(List.pairwise_iff_getElem.1 hp) i j GI Vr YH;simpa [GI,Vr]using this) (ry zs).length (by simp)
 refine⟨h1,fun x=>(h2 x).trans ?_⟩;have hm:x∈ry zs↔x∈zs:=by unfold ry;exact List.mem_mergeSort
 rw[<-hm,List.mem_iff_getElem];constructor
 ·rintro⟨j,hj,rfl⟩;exact⟨j,hj,by simp[hj]⟩
 ·rintro⟨j,hj,rfl⟩;exact⟨j,hj,by simp[hj]⟩
theorem EC{B:Nat}{e:TypeId}{s n:Nat}{xs:List Value}(h:w.ownsRow B e s v n xs):w.ownsRow 0 e s v n xs:=⟨h.1,h.2.imp id fun⟨g,cap,cur,h1,_,h3⟩=>⟨g,cap,cur,h1,aB _,h3⟩⟩
theorem K5{L:List Int}(w:World)(gf:Nat)(lb:Array Value)(eg:∀args w,(callFunc gf args).run prog w=.ok (.enter gf args) w)(hseq:∀m',su Fence.wide m' prog gf lb encI (Kq w.heap.size) (fun ys=>ys=L) (fun p=>p<+:L) w)(hL:L.length<=1000000000000):
  Z4 53 #[.func (.func gf) #[] lb] w fun e w'=>∃va vn vc,e=.returned (.slice va vn vc)/\w'.ownsRow 0 3 1 (.slice va vn vc) L.length (g_ (ry L))/\Z5 w w':=by
 have HA:=a_ (Hi w gf lb eg hseq hL);have HS:Hid (∀w1 va vn vc,w1.ownsRow (w.heap.size+1) 3 1 (.slice va vn vc) L.length (g_ L)->Z5 w w1->Z4 30 #[.slice va vn vc] w1 fun e w'=>e=.returned (.tuple #[])/\w'.ownsRow 0 3 1 (.slice va vn vc) L.length (g_ (ry L))/\Z5 w w'):=a_ fun w1 va vn vc hr hb=>by
  refine(EA (EC hr) (by omega)).mono ?_;rintro e w' ⟨h1,h2,h3⟩;exact⟨h1,h2,hb.grown h3 hb.size fun k e=>by have:=(eY hr e).1;omega⟩
 clear hseq eg;go_enter func53,ntmps53;go_wp2_with(first|(go_at_call 94;refine HA.out.mono ?_;rintro e w5 ⟨va,vn,vc,rfl,p2,p3⟩;have HC:=a_ (HS.out _ _ _ _ p2 p3);clear HA HS p2 p3)|(go_at_call 30;refine HC.out.mono ?_;rintro e w6 ⟨rfl,p5,p6⟩;have P5:=a_ p5;have P6:=a_ p6;clear HC p5 p6));go_ret;exact⟨va,vn,vc,rfl,P5.out,P6.out⟩
end
end Go.Proofs.YtclgfepngpeifaaGreatDoor
namespace Go.Proofs.YtclgfepngpeifaaGreatDoor
open Go.RowKit Go.Maps Go.Lib Go.Shelf Tryz
section
variable{w w' W W' w1 w2 wr:World}{v nv lv:Value}{l fr L cs xs ls:List Int}{N X B:Nat}{kd:Nat->List Int}{nm:Nat->ByteArray}{hb:Int->Nat->Bool}
structure DocM(w:World)(X N:Nat)(kd:Nat->List Int)(nm:Nat->ByteArray)(ls:List Int):Prop where
 lt:X<w.heap.size
 nodes:∃nv,w.cell? ⟨X,0,none⟩=some nv/\GG w nv N kd nm
 last:∃lv,w.cell? ⟨X,1,none⟩=some lv/\IR w lv ls
 Nx:vO N ls
 few:N<=1000000000000
 kids:∀k,k<N->∀x∈kd k,0<=x/\x<(N:Int)
 one:0<N
theorem DocM.below(h:DocM w X N kd nm ls)(hw:Z5 w w'):DocM w' X N kd nm ls:=by
 obtain⟨nv,h1,h2⟩:=h.nodes;obtain⟨lv,h3,h4⟩:=h.last;exact⟨aq h.lt hw.size,⟨nv,(ar (hw.block _ h.lt)).trans h1,h2.below hw⟩,⟨lv,(ar (hw.block _ h.lt)).trans h3,h4.below hw⟩,h.Nx,h.few,h.kids,h.one⟩
theorem pE.below(h:pE w X N cs hb)(hw:Z5 w w'):pE w' X N cs hb:=fun c hc k hk wr hr=>h c hc k hk wr ((bc hw).trans (hr.less hw.size))
def iP(N:Nat)(kd:Nat->List Int)(ls:List Int)(d:Bool)(fr:List Int):List Int:=if d=true then gF N ls 0 fr else fr.flatMap (jY kd)
def fZ(N:Nat)(kd:Nat->List Int)(nm:Nat->ByteArray)(ls:List Int)(hb:Int->Nat->Bool)(d:Bool)(t:ByteArray)(cs fr:List Int):List Int:=(iP N kd ls d fr).filter (vP t nm cs hb)
theorem CJ{s e:Nat}{x:Int}(h:x∈Eu s e):(s:Int)<=x/\x<e:=by
 unfold Eu at h;obtain⟨k,hk,rfl⟩:=List.mem_map.1 h;rw[dP]at hk;omega
theorem Sn(Ro:vO N ls)(h0:0<N){k:Int}:z_ N ls k<=N:=by
 unfold z_;split
 ·exact au _
 ·cases h:ls[k.toNat]? with
  |none=>simp;omega
  |some x=>
   have:=Ro.2 x (bO h);simp;omega
theorem yr(Ro:vO N ls)(h0:0<N):∀(fr:List Int) (s:Nat) (x:Int),x∈gF N ls s fr->0<=x/\x<(N:Int)
 |[],_,x,h=>by simp[gF]at h
 |k::r,s,x,h=>by
  rw[gF,List.mem_append]at h;rcases h with h|h
  ·have h1:=CJ h;have h2:=Sn Ro h0 (k:=k);omega
  ·exact yr Ro h0 r _ x h
theorem oV(h:DocM w X N kd nm ls)(iH:kM N fr)(d:Bool):∀x∈iP N kd ls d fr,0<=x/\x<(N:Int):=by
 unfold iP;split
 ·exact yr h.Nx h.one fr 0
 ·intro x hx;obtain⟨k,hk,hx⟩:=List.mem_flatMap.1 hx;unfold jY at hx;split at hx
  ·rw[bF]at hx;subst hx;have:=h.one;omega
  ·rcases iH k hk with h1|h1
   ·contradiction
   ·exact h.kids k.toNat (by omega) x hx
theorem Oq(d:Bool):∀args w,(callFunc (if d=true then 138 else 137) args).run prog w=.ok (.enter (if d=true then 138 else 137) args) w:=by
 cases d
 ·exact enters_of func137 (by kernel_rfl) rfl
 ·exact enters_of func138 (by kernel_rfl) rfl
theorem Ot(d:Bool)(t:ByteArray){ci fi:Option Addr}{cc fc:Nat}(D:DocM w X N kd nm ls)(hf:IR w (.slice fi fr.length fc) fr)(iH:kM N fr)(hc:IR w (.slice ci cs.length cc) cs)(hH:pE w X N cs hb):
  Z4 52 #[Z8 X,.agg #[.bool d,.string t,.slice ci cs.length cc],.slice fi fr.length fc] w fun e w1=>∃lb,e=.returned (.func (.func 91) #[] lb)/\Z5 w w1/\∀m,su Fence.wide m prog 91 lb encI (Kq w1.heap.size) (fun ys=>ys=fZ N kd nm ls hb d t cs fr) (fun p=>p<+:fZ N kd nm ls hb d t cs fr) w1:=by
 refine(KZ d t ci cs.length cc fi fr.length fc X w).mono ?_;rintro e w1 ⟨Ba,Bs,Bo,Bf,Bd,rfl,⟨hw,⟨⟨UC,UD⟩,-⟩,cf,cd⟩,⟨Xx,Vq,hBo⟩,ca,cb,co1,co2⟩;have D1:=D.below hw;obtain⟨nv,hx,hN⟩:=D1.nodes;obtain⟨lv,hx1,hl⟩:=D1.last;refine⟨_,rfl,hw,fun m=>?_⟩;have Rm:=hf.below hw;obtain⟨gn,Et,rfl,pX,Ol,hnr⟩:=id hN;have seq:∀m',su Fence.wide m' prog (if d=true then 138 else 137) #[Z8 Bf,Z8 Bd] encI (eQ w1.heap.size) (fun ys=>ys=iP N kd ls d fr) (fun p=>p<+:iP N kd ls d fr) w1:=fun m'=>by
  unfold iP;cases d
  ·exact Oj m' UC UD D1.lt cf Rm cd hx hN iH
  ·exact He m' UC UD D1.lt cf Rm cd hx hx1 hl D1.Nx D1.few iH
 exact Hg m _ _ t hb (Oq d) seq (au _) (oV D1 iH d) Xx Vq hBo D1.lt ca cb co1 co2 (hc.below hw) hx hN (hH.below hw)
end
section
variable{w w' W W' w1 w2 wr:World}{v nv lv:Value}{l fr L cs xs ls:List Int}{N X B:Nat}{kd:Nat->List Int}{nm:Nat->ByteArray}{hb:Int->Nat->Bool}
abbrev oh:=Bool×ByteArray×List Int
def uz(w:World)(v:Value)(gJ:List oh):Prop:=∃ai cap,v=.slice ai gJ.length cap/\(gJ.length<=cap/\gJ.length<=1000000000000)/\∀(i:Nat) s,gJ[i]?=some s->∃g ci cc,ai=some ⟨g,0,none⟩/\g<w.heap.size/\w.cell? ⟨g,i*3,none⟩=some (.bool s.1)/\w.cell? ⟨g,i*3+1,none⟩=some (.string s.2.1)/\w.cell? ⟨g,i*3+2,none⟩=some (.slice ci s.2.2.length cc)/\IR w (.slice ci s.2.2.length cc) s.2.2
def jG(N:Nat)(kd:Nat->List Int)(nm:Nat->ByteArray)(ls:List Int)(hb:Int->Nat->Bool)(gJ:List oh)(from_:Int):Nat->List Int
 |0=>[from_]
 |i+1=>match gJ[i]? with
  |some s=>ry (fZ N kd nm ls hb s.1 s.2.1 s.2.2 (jG N kd nm ls hb gJ from_ i))
  |none=>[]
def mj(N:Nat)(kd:Nat->List Int)(nm:Nat->ByteArray)(ls:List Int)(hb:Int->Nat->Bool)(gJ:List oh)(from_:Int):List Int:=match gJ.getLast? with
 |some s=>fZ N kd nm ls hb s.1 s.2.1 s.2.2 (jG N kd nm ls hb gJ from_ (gJ.length-1))
 |none=>[from_]
def Sq(w:World)(LS:List Int)(e:Ending)(w':World):Prop:=∃gf lb,e=.returned (.func (.func gf) #[] lb)/\(∀args w,(callFunc gf args).run prog w=.ok (.enter gf args) w)/\Z5 w w'/\∀m,su Fence.wide m prog gf lb encI (Kq w'.heap.size) (fun ys=>ys=LS) (fun p=>p<+:LS) w'
theorem lh(h:w.ownsRow 0 3 1 v l.length (g_ l))(hl:l.length<=1000000000000):IR w v l:=by
 rcases h.2 with⟨rfl,hz⟩|⟨g,cap,cur,rfl,hb,hg,Oo,_,_,_⟩
 ·have:l=[]:=bJ hz;subst this;exact⟨none,0,rfl,⟨by simp,by simp⟩,fun i m hm=>by simp at hm⟩
 ·refine⟨some ⟨g,0,none⟩,cap,rfl,⟨Oo,hl⟩,fun i x hx=>⟨g,0,rfl,dQ hg,?_⟩⟩;have GJ:=(List.getElem?_eq_some_iff.1 hx).1;rw[aG,h.cellAt i (by omega)];unfold g_;rw[bW,hx];rfl
theorem vR(D:DocM w X N kd nm ls){gJ:List oh}{from_:Int}(h0:kM N [from_]):∀i,kM N (jG N kd nm ls hb gJ from_ i)
 |0=>h0
 |i+1=>by
  rw[jG];cases gJ[i]? with
  |none=>intro k hk;simp at hk
  |some s=>
   intro k hk;have hk:k∈fZ N kd nm ls hb s.1 s.2.1 s.2.2 (jG N kd nm ls hb gJ from_ i):=by unfold ry at hk;exact List.mem_mergeSort.1 hk
   exact Or.inr (oV D (vR D h0 i) s.1 k (List.mem_filter.1 hk).1)
theorem JU:∀args w,(callFunc 91 args).run prog w=.ok (.enter 91 args) w:=enters_of func91 (by kernel_rfl) rfl
theorem Sr:∀args w,(callFunc 95 args).run prog w=.ok (.enter 95 args) w:=enters_of func95 (by kernel_rfl) rfl
def K7(w:World)(cur:Nat->List Int)(i:Nat)(v:Value)(wr:World):Prop:=(∃a c,v=.slice a (cur i).length c)/\IR wr v (cur i)/\Z5 w wr
theorem K8{gJ:List oh}{from_:Int}{ai:Option Addr}{cap i:Nat}(D:DocM w X N kd nm ls)(h0:kM N [from_])(hs:uz w (.slice ai gJ.length cap) gJ)(hH:∀s∈gJ,pE w X N s.2.2 hb)(hlen:∀i s,gJ[i]?=some s->(fZ N kd nm ls hb s.1 s.2.1 s.2.2 (jG N kd nm ls hb gJ from_ i)).length<=1000000000000)(hi:i<gJ.length)(M:K7 w (jG N kd nm ls hb gJ from_) i v wr):
  ∃g d t ci cn cc,ai=some ⟨g,0,none⟩/\wr.cell? ⟨g,i*3,none⟩=some (.bool d)/\wr.cell? ⟨g,i*3+1,none⟩=some (.string t)/\wr.cell? ⟨g,i*3+2,none⟩=some (.slice ci cn cc)/\
   Hid (Z4 52 #[Z8 X,.agg #[.bool d,.string t,.slice ci cn cc],v] (wr.alloc (.cells #[.bool d,.string t,.slice ci cn cc] 137)) fun e w1=>∃lb,e=.returned (.func (.func 91) #[] lb)/\(i+1=gJ.length->Hid (Sq w (mj N kd nm ls hb gJ from_) (.returned (.func (.func 91) #[] lb)) w1))/\Hid (Z4 53 #[.func (.func 91) #[] lb] w1 fun e w2=>∃a n c,e=.returned (.slice a n c)/\Hid (K7 w (jG N kd nm ls hb gJ from_) (i+1) (.slice a n c) w2))):=by
 obtain⟨⟨va,vc,rfl⟩,hv,hw⟩:=M;have hx:gJ[i]?=some gJ[i]:=aF hi;obtain⟨ai',cap',e,hn,hr⟩:=hs;cases e;obtain⟨g,ci,cc,e,hg,c0,c1,c2,hc⟩:=hr i _ hx;have hl:=hlen i _ hx;have hHs:=hH _ (bQ hi);have zW:jG N kd nm ls hb gJ from_ (i+1)=ry (fZ N kd nm ls hb gJ[i].1 gJ[i].2.1 gJ[i].2.2 (jG N kd nm ls hb gJ from_ i)):=by rw[jG,hx]
 have aaB:i+1=gJ.length->mj N kd nm ls hb gJ from_=fZ N kd nm ls hb gJ[i].1 gJ[i].2.1 gJ[i].2.2 (jG N kd nm ls hb gJ from_ i):=fun h=>by
  unfold mj;rw[List.getLast?_eq_getElem?,show gJ.length-1=i by omega,hx]
 generalize gJ[i]=s at*
 have up:∀j u,w.cell? ⟨g,j,none⟩=some u->wr.cell? ⟨g,j,none⟩=some u:=fun j u h=>(ar (hw.block g hg)).trans h;have tX:=(Below.refl wr.heap.size wr).alloc (au _) (.cells #[.bool s.1,.string s.2.1,.slice ci s.2.2.length cc] 137);have hv:=hv.below tX;have hw:=zR hw tX;refine⟨g,s.1,s.2.1,ci,_,cc,e,up _ _ c0,up _ _ c1,up _ _ c2,a_ ((Ot s.1 s.2.1 (D.below hw) hv (vR D h0 i) (hc.below hw) (hHs.below hw)).mono ?_)⟩;rintro e w1 ⟨lb,rfl,hb1,hseq⟩;refine⟨lb,rfl,fun h=>a_ ⟨91,lb,rfl,JU,zR hw hb1,by rw[aaB h];exact hseq⟩,a_ ((K5 w1 91 lb JU hseq hl).mono ?_)⟩;rintro e w2 ⟨a,n,c,rfl,h5,h6⟩;have hsl:=uy (fZ N kd nm ls hb s.1 s.2.1 s.2.2 (jG N kd nm ls hb gJ from_ i));have hir:IR w2 (.slice a n c) (jG N kd nm ls hb gJ from_ (i+1)):=by
  rw[zW];exact lh (by rw[hsl];exact h5) (by rw[hsl];exact hl)
 obtain⟨a',c',e',-⟩:=id hir;exact⟨a,n,c,rfl,a_ ⟨⟨a',c',e'⟩,hir,zR (zR hw hb1) h6⟩⟩
end
section
variable{w w' W W' w1 w2 wr:World}{v nv lv:Value}{l fr L cs xs ls:List Int}{N X B:Nat}{kd:Nat->List Int}{nm:Nat->ByteArray}{hb:Int->Nat->Bool}
theorem Ou{gJ:List oh}{from_:Int}{sv:Value}(D:DocM w X N kd nm ls)(h0:kM N [from_])(hs:uz w sv gJ)(hH:∀s∈gJ,pE w X N s.2.2 hb)(hlen:∀i s,gJ[i]?=some s->(fZ N kd nm ls hb s.1 s.2.1 s.2.2 (jG N kd nm ls hb gJ from_ i)).length<=1000000000000):
  Z4 28 #[Z8 X,sv,.int .i64 from_] w (Sq w (mj N kd nm ls hb gJ from_)):=by
 obtain⟨ai,cap,rfl,⟨rZ,pX⟩,-⟩:=id hs;have hb0:=(Below.refl w.heap.size w).alloc (au _) (.cells #[.int .i64 from_] 3);have M0:Hid (K7 w (jG N kd nm ls hb gJ from_) 0 (.slice (some ⟨w.heap.size,0,none⟩) 1 1) (w.alloc (.cells #[.int .i64 from_] 3))):=a_ ⟨⟨_,_,rfl⟩,⟨_,1,rfl,⟨by simp[jG],by simp[jG]⟩,fun i x hx=>⟨w.heap.size,0,rfl,by simp,by
  cases i with
  |zero=>
   obtain rfl:from_=x:=by simpa [jG]using hx
   exact cell_of (dR w _) rfl
  |succ i=>simp[jG]at hx⟩⟩,hb0⟩
 have HR:=a_ (fun i v wr (hi:i<gJ.length) M=>K8 (v:=v) (wr:=wr) D h0 hs hH hlen hi M);have HE:Hid (∀v wr,gJ.length=0->K7 w (jG N kd nm ls hb gJ from_) 0 v wr->∃a n c,v=.slice a n c/\Hid (Z4 54 #[.slice a n c] wr fun e w'=>∃lb,e=.returned (.func (.func 95) #[] lb)/\Hid (Sq w (mj N kd nm ls hb gJ from_) (.returned (.func (.func 95) #[] lb)) w'))):=a_ fun v wr hz ⟨⟨a,c,e⟩,hv,hw⟩=>by
  refine⟨a,_,c,e,a_ ((K4 a _ c wr).mono ?_)⟩;rintro e' w' ⟨rfl,rfl⟩;have hb1:=(Below.refl wr.heap.size wr).alloc (au _) (.cells #[.slice a (jG N kd nm ls hb gJ from_ 0).length c] 31);have hne:gJ=[]:=bJ hz;refine⟨_,rfl,a_ ⟨95,_,rfl,Sr,zR hw hb1,fun m=>?_⟩⟩;have hl:mj N kd nm ls hb gJ from_=jG N kd nm ls hb gJ from_ 0:=by rw[hne];rfl
  rw[hl];rw[e]at hv;exact(Hh m (by simp) (cell_of (dR wr _) rfl) (hv.below hb1)).mono fun A B h=>h.1
 have XB:Hid (∀i v wr,K7 w (jG N kd nm ls hb gJ from_) i v wr->∃a n c,v=.slice a n c):=a_ fun i v wr ⟨⟨a,c,e⟩,_⟩=>⟨a,_,c,e⟩
 clear hs hH hlen D h0 hb0;generalize K7 w (jG N kd nm ls hb gJ from_)=MM at*
 generalize Sq w (mj N kd nm ls hb gJ from_)=PP at*
 generalize gJ.length=len at*
 go_enter func28,ntmps28;go_wp2_with fail;go_loopw [7,14] (fun av iv wr=>∃i:Nat,iv=.int .i64 i/\i<=len/\(i=len->len=0)/\MM i av wr) (fun _ iv _=>len-(RowKit.intOf iv).toNat)
 case atStart=>exact⟨0,rfl,aB _,fun h=>h.symm,M0.out⟩
 case round=>
  rename World=>WO
  obtain⟨i,rfl,hi,hz,hM⟩:=hrel;obtain⟨o1,o2,o3,rfl⟩:=XB.out _ _ _ hM;clear M0;by_cases hlt:i<len
  ·obtain⟨g,d,t,ci,cn,cc,rfl,c0,c1,c2,HC⟩:=HR.out _ _ _ hlt hM;have hdec:decide ((i:Int)<len)=true:=by simp;omega
   have Nw:(i:Int)<len:=by omega
   clear HR HE XB hM;by_cases hl:i+1=len
   ·have heq:((i:Int)==(len:Int)-1)=true:=by simp;omega
    go_wp2_with(go_at_call 52;refine HC.out.mono ?_;rintro e w1 ⟨lb,rfl,h1,-⟩;have H9:=h1 hl;clear HC h1);first|exact H9.out|(go_ret;exact H9.out)
   ·have heq:((i:Int)==(len:Int)-1)=false:=by simp;omega
    go_wp2_with(first
     |(go_at_call 52;refine HC.out.mono ?_;rintro e w1 ⟨lb,rfl,-,H2⟩;clear HC)
     |(go_at_call 53;refine H2.out.mono ?_;rintro e w2 ⟨a2,n2,NU,rfl,H3⟩;clear H2))
    exact⟨⟨i+1,by simp,by omega,fun h=>absurd h hl,H3.out⟩,by simp only[RowKit.intOf];omega⟩
  ·have hdec:decide ((i:Int)<len)=false:=by simp;omega
   have hlz:=hz (by omega);have RA:i=0:=by omega
   subst RA;obtain⟨a,n,c,e,H5⟩:=HE.out _ _ hlz hM;cases e;clear HR HE XB hM hz hlt;have hdn:decide (0<len)=false:=by simp;omega
   have G2:¬(0<len):=by omega
   clear hlz;go_wp2_with(go_at_call 54;refine H5.out.mono ?_;rintro e w1 ⟨lb,rfl,H9⟩;clear H5);first|exact H9.out|(go_ret;exact H9.out)
end
section
variable{w w' W W' w1 w2 wr:World}{v nv lv:Value}{l fr L cs xs ls ah:List Int}{N X B:Nat}{kd:Nat->List Int}{nm:Nat->ByteArray}{hb:Int->Nat->Bool}{TX:ByteArray}
structure xm(w:World)(X N:Nat)(ls ah:List Int)(TX:ByteArray):Prop where
 lt:X<w.heap.size
 last:∃lv,w.cell? ⟨X,1,none⟩=some lv/\IR w lv ls
 text:w.cell? ⟨X,2,none⟩=some (.string TX)
 ahead:∃av,w.cell? ⟨X,3,none⟩=some av/\IR w av ah
 Nx:vO N ls
 okk:∀(i:Nat) x,ls[i]?=some x->(i:Int)<=x
 len:ah.length=N+1
 up:∀(i j:Nat) x y,i<=j->ah[i]?=some x->ah[j]?=some y->x<=y
 Ny:∀x∈ah,0<=x/\x<=TX.size
 few:N<=1000000000000
theorem xm.gm(h:xm w X N ls ah TX)(hw:eQ w.heap.size w w'):xm w' X N ls ah TX:=by
 obtain⟨lv,h3,h4⟩:=h.last;obtain⟨av,h5,h6⟩:=h.ahead;exact⟨aq h.lt hw.1,⟨lv,hw.cell h.lt h3,h4.gm hw⟩,hw.cell h.lt h.text,⟨av,hw.cell h.lt h5,h6.gm hw⟩,h.Nx,h.okk,h.len,h.up,h.Ny,h.few⟩
theorem xm.below(h:xm w X N ls ah TX)(hw:Z5 w w'):xm w' X N ls ah TX:=h.gm (bc hw)
def yt(TX:ByteArray)(ls ah:List Int)(k:Nat):ByteArray:=TX.extract ((ah[k]?).getD 0).toNat ((ah[((ls[k]?).getD 0).toNat+1]?).getD 0).toNat
theorem Ss{k:Nat}(h:xm w X N ls ah TX)(hk:k<N):Z4 204 #[Z8 X,.int .i64 (k:Nat)] w fun e w'=>e=.returned (.string (yt TX ls ah k))/\∃m,w'=w.drewN m:=by
 obtain⟨lv,c1,li,lc,rfl,⟨uj,hl2⟩,hlr⟩:=h.last;obtain⟨av,c3,ai,ac,rfl,⟨ha1,ha2⟩,XC⟩:=h.ahead;have c2:=h.text;have hlk:ls[k]?=some (ls[k]'(by rw[h.Nx.1];exact hk)):=aF _;obtain⟨gl,lo,rfl,-,d1⟩:=hlr k _ hlk;have hr:=h.Nx.2 _ (bO hlk);have vS:=h.okk k _ hlk;obtain⟨e,he⟩:=bt hr.1;rw[he]at d1 hr vS;have YI:ah[k]?=some (ah[k]'(by rw[h.len];omega)):=aF _;have YJ:ah[e+1]?=some (ah[e+1]'(by rw[h.len];omega)):=aF _;obtain⟨ga,ao,rfl,-,d2⟩:=XC k _ YI;obtain⟨ga',sP,e',-,d3⟩:=XC (e+1) _ YJ;cases e';have hab:=h.up k (e+1) _ _ (by omega) YI YJ;have hra:=h.Ny _ (bO YI);have hrb:=h.Ny _ (bO YJ);have e1:ls.length=N:=h.Nx.1;have e2:ah.length=N+1:=h.len;have e3:=h.few;obtain⟨x,hx⟩:=bt hra.1;obtain⟨y,hy⟩:=bt hrb.1;rw[hx]at d2 hab hra;rw[hy]at d3 hab hrb;have hval:yt TX ls ah k=TX.extract x y:=by
  unfold yt;rw[hlk,dx,he,aH,YI,YJ,dx,dx,hx,hy,aH,aH]
 rw[hval];clear hlr XC h hlk YI YJ he hx hy hval;rw[e1]at c1 uj hl2;rw[e2]at c3 ha1 ha2;have q1:(k:Int)<N:=by omega
 have q2:(k:Int)<((N+1:Nat):Int):=by omega
 have q3:(e:Int)+1<((N+1:Nat):Int):=by omega
 have q4:IntKind.i64.wrap ((e:Int)+1)=(e:Int)+1:=by rw[aM];omega
 have q5:(x:Int)<=y:=by omega
 have q6:(y:Int)<=TX.size:=by omega
 have d3':w.cell? ⟨ga,ao+(e+1),none⟩=some (.int .i64 (y:Nat)):=d3;go_enter func204,ntmps204;go_wp2;go_quiet(fail);go_wp2;go_ret;exact⟨rfl,_,rfl⟩
end
section
variable{w w' W W' w1 w2 wr:World}{v nv lv:Value}{l fr L cs xs ls ah:List Int}{N X B:Nat}
theorem K9(gf:Nat)(hgf:gf=181\/gf=182)(B1 B2:Nat)(p:Int->Bool)(hI:IR w v l)(hC:∀x∈l,∀wr,Z5 w wr->Z4 gf #[.int .i64 x,Z8 B1,Z8 B2] wr (Z7 (.bool (p x)) wr)):
  Z4 202 #[v,.func (.func gf) #[] #[Z8 B1,Z8 B2]] w fun e w'=>∃z:Int,e=.returned (.int .i64 z)/\decide (0<=z)=l.any p/\Z5 w w':=by
 obtain⟨ai,cap,rfl,⟨h1,h2⟩,hr⟩:=hI;have HK:Hid (∀i wr,i<l.length->Z5 w wr->(l.take i).any p=false->∃g off x,ai=some ⟨g,off,none⟩/\wr.cell? ⟨g,off+i,none⟩=some (.int .i64 x)/\(p x=true->l.any p=true)/\(p x=false->(l.take (i+1)).any p=false)/\Hid (Z4 gf #[.int .i64 x,Z8 B1,Z8 B2] wr (Z7 (.bool (p x)) w))):=a_ fun i wr hi hb ha=>by
  have hx:l[i]?=some l[i]:=aF hi;obtain⟨g,off,e,hg,h⟩:=hr i _ hx;refine⟨g,off,_,e,(ar (hb.block g hg)).trans h,fun h=>List.any_eq_true.2 ⟨_,bQ hi,h⟩,fun h=>?_,a_ ((hC _ (bQ hi) wr hb).mono ?_)⟩
  ·rw[cy,hx,List.any_append,ha];simpa using h
  ·rintro e w' ⟨h1,h2⟩;exact⟨h1,zR hb h2⟩
 have HN:Hid ((l.take l.length).any p=false->decide ((0:Int)<= -1)=l.any p):=a_ fun h=>by rw[bZ]at h;rw[h];rfl
 clear hr hC;generalize l.length=len at*
 rcases hgf with rfl|rfl;all_goals
  go_enter func202,ntmps202;go_wp2_with fail;go_loopw [8] (fun iv wr=>∃i:Nat,iv=.int .i64 i/\i<=len/\(l.take i).any p=false/\Z5 w wr) (fun iv _=>len-(RowKit.intOf iv).toNat)
  case atStart=>exact⟨0,rfl,aB _,by simp,Below.refl _ _⟩
  case round=>
   rename World=>WO
   obtain⟨i,rfl,hi,ha,hb⟩:=hrel;by_cases hlt:i<len
   ·obtain⟨g,off,x,rfl,c0,hy,hn,HC⟩:=HK.out i _ hlt hb ha;have hdec:decide ((i:Int)<len)=true:=by simp;omega
    have Nw:(i:Int)<len:=by omega
    clear HK HN ha;cases hp:p x
    ·have rZ:=hn hp;rw[hp]at HC;clear hy hn;first
     |(go_wp2_with(go_at_call 181;refine HC.out.mono ?_;rintro e w5 ⟨rfl,h5⟩;clear HC);exact⟨⟨i+1,by simp,by omega,rZ,h5⟩,by simp only[RowKit.intOf];omega⟩)
     |(go_wp2_with(go_at_call 182;refine HC.out.mono ?_;rintro e w5 ⟨rfl,h5⟩;clear HC);exact⟨⟨i+1,by simp,by omega,rZ,h5⟩,by simp only[RowKit.intOf];omega⟩)
    ·have ED:=hy hp;rw[hp]at HC;clear hy hn;first
     |(go_wp2_with(go_at_call 181;refine HC.out.mono ?_;rintro e w5 ⟨rfl,h5⟩;clear HC);go_ret;exact⟨(i:Int),rfl,by rw[ED];simp,h5⟩)
     |(go_wp2_with(go_at_call 182;refine HC.out.mono ?_;rintro e w5 ⟨rfl,h5⟩;clear HC);go_ret;exact⟨(i:Int),rfl,by rw[ED];simp,h5⟩)
   ·have hdec:decide ((i:Int)<len)=false:=by simp;omega
    have GJ:i=len:=by omega
    rw[GJ]at ha;have hN:=HN.out ha;clear HK HN ha;go_wp2;go_ret;exact⟨-1,rfl,hN,hb⟩
end
section
variable{w w' W W' w1 w2 wr:World}{v nv lv:Value}{l fr L cs xs ls ah:List Int}{N X B:Nat}{hb:Int->Nat->Bool}
theorem EE(gf:Nat)(hgf:gf=181\/gf=182)(B1 B2:Nat)(p:Int->Bool)(hI:IR w v l)(hC:∀x∈l,∀wr,Z5 w wr->Z4 gf #[.int .i64 x,Z8 B1,Z8 B2] wr (Z7 (.bool (p x)) wr)):
  Z4 180 #[v,.func (.func gf) #[] #[Z8 B1,Z8 B2]] w (Z7 (.bool (l.any p)) w):=by
 have HX:=a_ (K9 gf hgf B1 B2 p hI hC);obtain⟨ai,cap,rfl,-⟩:=hI;clear hC hgf;generalize l.any p=b at*
 go_enter func180,ntmps180;go_wp2_with(go_at_call 202;refine HX.out.mono ?_;rintro e w5 ⟨z,rfl,hz,h5⟩;clear HX);all_goals(try go_ret)
 all_goals(first|exact⟨by rw[<-hz];simp,h5⟩|exact⟨by rw[<-hz];rfl,h5⟩|(refine⟨?_,h5⟩;subst hz;simp_all))
theorem Vs{B1 B2:Nat}{c:Int}{k:Nat}(c1:w.cell? ⟨B1,0,none⟩=some (Z8 X))(c2:w.cell? ⟨B2,0,none⟩=some (.int .i64 (k:Nat)))(hH:Z4 93 #[Z8 X,.int .i64 c,.int .i64 (k:Nat)] w (Z7 (.bool (hb c k)) w)):
  Z4 181 #[.int .i64 c,Z8 B1,Z8 B2] w (Z7 (.bool (hb c k)) w):=by
 have HX:=a_ hH;clear hH;go_enter func181,ntmps181;go_wp2_with(go_at_call 93;refine HX.out.mono ?_;rintro e w5 ⟨rfl,h5⟩;clear HX);go_ret;exact⟨rfl,h5⟩
end
section
variable{w w' W W' w1 w2 wr:World}{v nv lv:Value}{l fr L cs xs ls ah:List Int}{N X B:Nat}{hb:Int->Nat->Bool}
theorem EF{gc n cc c k:Nat}{b:Bool}(c4:w.cell? ⟨X,4,none⟩=some (Z9 gc n cc))(hc:c<n)(hn:n<=1000000000000)(ca:w.cell? ⟨gc,c*6,none⟩=some (.bool false))(hF:Z4 139 #[Z8 X,.int .i64 (c:Nat),.int .i64 (k:Nat)] w (Z7 (.bool b) w)):
  Z4 93 #[Z8 X,.int .i64 (c:Nat),.int .i64 (k:Nat)] w (Z7 (.bool b) w):=by
 have HX:=a_ hF;have hcc:(c:Int)<n:=by omega
 clear hF;go_enter func93,ntmps93;go_wp2_with(go_at_call 139;refine HX.out.mono ?_;rintro e w5 ⟨rfl,h5⟩;clear HX);go_ret;exact⟨rfl,h5⟩
def VaP(w:World)(X k:Nat)(sv:Value)(at_:ByteArray)(e:Ending)(w':World):Prop:=∃B1 B2 B3,e=.returned (.func (.func 203) #[] #[Z8 B1,Z8 B2,Z8 B3])/\Z5 w w'/\(B1<w'.heap.size/\B2<w'.heap.size/\B3<w'.heap.size)/\w'.cell? ⟨B1,0,none⟩=some (Z8 X)/\w'.cell? ⟨B2,3,none⟩=some sv/\w'.cell? ⟨B2,4,none⟩=some (.string at_)/\w'.cell? ⟨B3,0,none⟩=some (.int .i64 (k:Nat))
theorem Sv(X k:Nat)(ag:Bool)(op at_ tx:ByteArray)(ki si:Option Addr)(kn kc sn sc:Nat)(w:World):Z4 183 #[Z8 X,.agg #[.bool ag,.string op,.slice ki kn kc,.slice si sn sc,.string at_,.string tx],.int .i64 (k:Nat)] w (VaP w X k (.slice si sn sc) at_):=by
 have b1:=dR w (.cells #[Z8 X] 135);have b2:=dR (w.alloc (.cells #[Z8 X] 135)) (.cells #[.bool ag,.string op,.slice ki kn kc,.slice si sn sc,.string at_,.string tx] 177);have b3:=dR ((w.alloc (.cells #[Z8 X] 135)).alloc (.cells #[.bool ag,.string op,.slice ki kn kc,.slice si sn sc,.string at_,.string tx] 177)) (.cells #[.int .i64 (k:Nat)] 3);rw[bL]at b2;rw[bL,bL]at b3;have HP:Hid (VaP w X k (.slice si sn sc) at_ (.returned (.func (.func 203) #[] #[.pointer (some ⟨w.heap.size,0,none⟩),.pointer (some ⟨w.heap.size+1,0,none⟩),.pointer (some ⟨w.heap.size+1+1,0,none⟩)])) (((w.alloc (.cells #[Z8 X] 135)).alloc (.cells #[.bool ag,.string op,.slice ki kn kc,.slice si sn sc,.string at_,.string tx] 177)).alloc (.cells #[.int .i64 (k:Nat)] 3))):=a_ ⟨_,_,_,rfl,(((Below.refl _ w).alloc (au _) _).alloc (by simp) _).alloc (by simp<;>omega) _,⟨by simp<;>omega,by simp<;>omega,by simp⟩,cell_of ((ay _ _ _ (by simp<;>omega)).trans ((ay _ _ _ (by simp)).trans b1)) rfl,cell_of ((ay _ _ _ (by simp)).trans b2) rfl,cell_of ((ay _ _ _ (by simp)).trans b2) rfl,cell_of b3 rfl⟩;clear b1 b2 b3;go_enter func183,ntmps183;go_wp2;first|exact HP.out|(go_ret;exact HP.out)
end
end Go.Proofs.YtclgfepngpeifaaGreatDoor
