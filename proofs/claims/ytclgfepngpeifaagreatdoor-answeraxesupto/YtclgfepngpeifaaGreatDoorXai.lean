import Derived.Test.YtclgfepngpeifaaGreatDoorXA
import Derived.Test.YtclgfepngpeifaaGreatDoorXae
import Derived.Test.YtclgfepngpeifaaGreatDoorXag
import Derived.Test.YtclgfepngpeifaaGreatDoorXah
set_option linter.unusedVariables false
set_option linter.unusedSimpArgs false
set_option maxHeartbeats 32000000
set_option maxRecDepth 100000
namespace Go.Proofs.YtclgfepngpeifaaGreatDoor
open Go.RowKit Go.Lib Tryz
section
structure yB(N:Nat)(kd:Nat->List Int):Prop where
 nd:∀k,k<N->(kd k).Nodup
 one:∀k j x,k<N->j<N->x∈kd k->x∈kd j->k=j
 root:∀k,k<N->(0:Int)∉kd k
variable{N:Nat}{kd:Nat->List Int}{nm:Nat->ByteArray}{ls:List Int}{hb:Int->Nat->Bool}
theorem rE:∀(N:Nat) (l:List Int),l.Nodup->(∀x∈l,0<=x/\x<(N:Int))->l.length<=N
 |0,l,_,h=>by
  cases l with
  |nil=>simp
  |cons x l=>have:=h x cr;omega
 |N+1,l,hn,h=>by
  have h1:=rE N (l.erase (N:Int)) (hn.erase _) fun x hx=>by
   have:=h x (List.mem_of_mem_erase hx);have:=(hn.mem_erase_iff.1 hx).1;omega
  have:=List.length_erase (a:=(N:Int)) (l:=l);split at this<;>omega
theorem wS:∀(fr:List Int) (s:Nat),(gF N ls s fr).Pairwise (· < ·)/\∀x∈gF N ls s fr,(s:Int)<=x
 |[],s=>by simp[gF]
 |k::r,s=>by
  obtain⟨h1,h2⟩:=wS r (max (max s (k+1).toNat) (z_ N ls k));rw[gF];refine⟨List.pairwise_append.2 ⟨?_,h1,fun x hx y hy=>?_⟩,fun x hx=>?_⟩
  ·unfold Eu;rw[List.pairwise_map];exact List.Pairwise.imp (fun h=>by omega) (List.pairwise_lt_range' ..)
  ·have a:=CJ hx;have b:=h2 y hy;omega
  ·rcases List.mem_append.1 hx with h|h
   ·have:=CJ h;omega
   ·have:=h2 x h;omega
theorem yC(K:yB N kd)(h0:0<N):∀(fr:List Int),fr.Nodup->kM N fr->(fr.flatMap (jY kd)).Nodup
 |[],_,_=>by simp
 |k::r,hn,iH=>by
  rw[List.nodup_cons]at hn;rw[cE,List.nodup_append];have hk:=iH k cr;refine⟨?_,yC K h0 r hn.2 fun x hx=>iH x (dF _ hx),fun a ha b hb e=>?_⟩
  ·unfold jY;split
   ·simp
   ·exact K.nd _ (by omega)
  ·subst e;obtain⟨j,hj,hb⟩:=List.mem_flatMap.1 hb;have hjk:=iH j (dF _ hj);unfold jY at ha hb;split at ha<;>split at hb
   ·rename_i e1 e2;exact hn.1 (by rw[e1,<-e2];exact hj)
   ·rw[bF]at ha;exact K.root j.toNat (by omega) (ha▸hb)
   ·rw[bF]at hb;exact K.root k.toNat (by omega) (hb▸ha)
   ·have:=K.one k.toNat j.toNat a (by omega) (by omega) ha hb;have:k=j:=by omega
    exact hn.1 (this▸hj)
theorem yD(K:yB N kd)(h0:0<N){fr cs:List Int}(hn:fr.Nodup)(iH:kM N fr)(d:Bool)(t:ByteArray):(fZ N kd nm ls hb d t cs fr).Nodup:=by
 unfold fZ iP;refine List.Pairwise.filter _ ?_;split
 ·exact(wS fr 0).1.imp fun h=>by omega
 ·exact yC K h0 fr hn iH
end
end Go.Proofs.YtclgfepngpeifaaGreatDoor
namespace Go.Proofs.YtclgfepngpeifaaGreatDoor
open Go.RowKit Go.Maps Go.Lib Go.Shelf Tryz
section
variable{w w' wr:World}{v:Value}{cs ls ah:List Int}{N X:Nat}{kd:Nat->List Int}{nm:Nat->ByteArray}{hb:Int->Nat->Bool}{TX:ByteArray}{at_:Nat->K_}{l:List Cd}
theorem DocM.gm(h:DocM w X N kd nm ls)(hw:eQ w.heap.size w w'):DocM w' X N kd nm ls:=by
 obtain⟨nv,h1,h2⟩:=h.nodes;obtain⟨lv,h3,h4⟩:=h.last;exact⟨aq h.lt hw.1,⟨nv,hw.cell h.lt h1,h2.gm hw⟩,⟨lv,hw.cell h.lt h3,h4.gm hw⟩,h.Nx,h.few,h.kids,h.one⟩
theorem uz.gm{gJ:List oh}(h:uz w v gJ)(hw:eQ w.heap.size w w'):uz w' v gJ:=by
 obtain⟨ai,cap,e,hn,hr⟩:=h;refine⟨ai,cap,e,hn,fun i s hs=>?_⟩;obtain⟨g,ci,cc,e,hg,c0,c1,c2,hc⟩:=hr i s hs;exact⟨g,ci,cc,e,aq hg hw.1,hw.cell hg c0,hw.cell hg c1,hw.cell hg c2,hc.gm hw⟩
theorem XG.gm(h:XG w X l)(hw:eQ w.heap.size w w'):XG w' X l:=by
 obtain⟨ai,cap,c,hn,hX,hr⟩:=h;refine⟨ai,cap,hw.cell hX c,hn,aq hX hw.1,fun i d hd=>?_⟩;obtain⟨g,kv,sv,e,c0,c1,c2,c3,c4,c5,h1,h2⟩:=hr i d hd;have hg:=aD _ _ c0;exact⟨g,kv,sv,e,hw.cell hg c0,hw.cell hg c1,hw.cell hg c2,hw.cell hg c3,hw.cell hg c4,hw.cell hg c5,h1.gm hw,h2.gm hw⟩
theorem A_(D:DocM w X N kd nm ls)(K:yB N kd){gJ:List oh}{f:Int}(h0:kM N [f]):∀i,(jG N kd nm ls hb gJ f i).Nodup
 |0=>by simp[jG]
 |i+1=>by
  rw[jG];cases gJ[i]? with
  |none=>simp
  |some s=>exact(List.mergeSort_perm _ _).nodup_iff.2 (yD K D.one (A_ D K h0 i) (vR D h0 i) _ _)
theorem OP(D:DocM w X N kd nm ls)(K:yB N kd){gJ:List oh}{f:Int}(h0:kM N [f]):∀i s,gJ[i]?=some s->(fZ N kd nm ls hb s.1 s.2.1 s.2.2 (jG N kd nm ls hb gJ f i)).length<=1000000000000:=fun i s _=>
 aw (rE N _ (yD K D.one (A_ D K h0 i) (vR D h0 i) _ _) fun x hx=>oV D (vR D h0 i) s.1 x (List.mem_filter.1 hx).1) D.few
def wT(N:Nat)(kd:Nat->List Int)(nm:Nat->ByteArray)(ls ah:List Int)(TX:ByteArray)(at_:Nat->K_)(c:Cd)(k:Nat):Bool:=((mj N kd nm ls (fun _ _=>false) c.steps k).flatMap (ij TX ls ah at_ c.at_)).any (JV c.op c.tx)
def CP(c:Cd):Prop:=c.ag=false/\JW c.op/\∀s∈c.steps,s.2.2=[]
def yE(N:Nat)(kd:Nat->List Int)(nm:Nat->ByteArray)(ls ah:List Int)(TX:ByteArray)(at_:Nat->K_)(l:List Cd)(x:Int)(k:Nat):Bool:=((l[x.toNat]?).map fun c=>wT N kd nm ls ah TX at_ c k).getD false
def NC(N:Nat)(kd:Nat->List Int)(nm:Nat->ByteArray)(ls ah:List Int)(TX:ByteArray)(at_:Nat->K_)(l:List Cd)(x:Int)(k:Nat):Bool:=((l[x.toNat]?).map fun c=>if(c.op.toList==[111,114])=true then c.kids.any fun y=>yE N kd nm ls ah TX at_ l y k else wT N kd nm ls ah TX at_ c k).getD false
def XJ(l:List Cd)(c:Cd):Prop:=CP c\/(c.ag=false/\(c.op.toList==[111,114])=true/\∀y∈c.kids,∃j e,y=((j:Nat):Int)/\l[j]?=some e/\CP e)
theorem Lq:pE w X N [] hb:=fun c hc=>by cases hc
theorem Bb(D:DocM w X N kd nm ls)(T:xm w X N ls ah TX)(A:UH w X N at_)(K:yB N kd)(C:XG w X l){j k:Nat}{c:Cd}(hj:l[j]?=some c)(hc:CP c)(hk:k<N)(hr:eQ w.heap.size w wr):
  Z4 93 #[Z8 X,.int .i64 (j:Nat),.int .i64 (k:Nat)] wr (Z7 (.bool (wT N kd nm ls ah TX at_ c k)) wr):=by
 obtain⟨ai,cap,c4,hn,hX,hcd⟩:=C.gm hr;obtain⟨g,kv,sv,rfl,e0,e1,e2,e3,e4,e5,h1,h2⟩:=hcd j c hj;have XK:=(List.getElem?_eq_some_iff.1 hj).1;obtain⟨ha,ho,hs⟩:=hc;have D':=D.gm hr;refine EF c4 XK (by omega) (by rw[<-ha];exact e0) ?_;exact Sy D' (T.gm hr) (A.gm hr) hk c4 XK (by omega) e0 e1 e2 e3 e4 e5 h1 h2 (fun s hm=>by rw[hs s hm];exact Lq) (OP D' K (fun x hx=>Or.inr (by rw[bF]at hx;omega))) ho
theorem OQ(D:DocM w X N kd nm ls)(T:xm w X N ls ah TX)(A:UH w X N at_)(K:yB N kd)(C:XG w X l)(hcs:∀x∈cs,∃j c,x=((j:Nat):Int)/\l[j]?=some c/\XJ l c):pE w X N cs (NC N kd nm ls ah TX at_ l):=by
 intro x hx k hk wr hr;obtain⟨j,c,rfl,hj,hc⟩:=hcs x hx;have hv:NC N kd nm ls ah TX at_ l (j:Int) k=if(c.op.toList==[111,114])=true then c.kids.any fun y=>yE N kd nm ls ah TX at_ l y k else wT N kd nm ls ah TX at_ c k:=by
  unfold NC;rw[aH,hj];rfl
 rw[hv];rcases hc with hc|⟨ha,ho,hks⟩
 ·rw[hc.2.1.1];exact Bb D T A K C hj hc hk hr
 ·rw[ho,if_pos rfl];obtain⟨ai,cap,c4,hn,hX,hcd⟩:=C.gm hr;obtain⟨g,kv,sv,rfl,e0,e1,e2,e3,e4,e5,h1,h2⟩:=hcd j c hj;have XK:=(List.getElem?_eq_some_iff.1 hj).1;refine EF c4 XK (by omega) (by rw[<-ha];exact e0) ?_;refine YO (hb:=yE N kd nm ls ah TX at_ l) hX c4 XK (by omega) e0 e1 e2 e3 e4 e5 h1 h2 hk (fun y hy k hk ws hs=>?_) ho;obtain⟨i,e,rfl,hi,he⟩:=hks y hy;have:yE N kd nm ls ah TX at_ l (i:Int) k=wT N kd nm ls ah TX at_ e k:=by
   unfold yE;rw[aH,hi];rfl
  rw[this];exact Bb D T A K C hi he hk (hr.trans (hs.less hr.1))
end
section
variable{w w' wr w1:World}{v:Value}{cs L ls ah:List Int}{N X g cap k gl D:Nat}{up:Nat->Int}{nm tx:Nat->ByteArray}
structure GK(N:Nat)(up:Nat->Int)(k:Nat)(L:List Int):Prop where
 len:L.length=N
 Ny:∀(j:Nat) x,L[j]?=some x->0<=x/\x<N/\(k<=j->(j:Int)<=x)
 Lr:∀(j u:Nat) x y,k<=j->up j=(u:Int)->L[j]?=some x->L[u]?=some y->x<=y
def VE(N:Nat)(up:Nat->Int):Prop:=∀k,k<N->up k= -1\/∃u:Nat,u<k/\up k=(u:Int)
theorem GK.one{x:Int}(h:GK N up (k+1) L)(hk:k<N)(hx:L[k]?=some x):∃z:Nat,max x (k:Int)=z/\z<N/\(L.set k z).length=N/\(L.set k (z:Int))[k]?=some (z:Int)/\(up k= -1->GK N up k (L.set k (z:Int)))/\∀u:Nat,u<k->up k=(u:Int)->∃y,(L.set k (z:Int))[u]?=some y/\GK N up k ((L.set k (z:Int)).set u (max y z)):=by
 obtain⟨h1,h2,-⟩:=h.Ny k x hx;have hl:=h.len;refine⟨(max x (k:Int)).toNat,by omega,by omega,by simp[hl],?_,?_⟩
 ·rw[dA (by omega)]
 ·have e:(((max x (k:Int)).toNat:Nat):Int)=max x k:=by omega
  rw[e];have get:∀(j:Nat) y,(L.set k (max x k))[j]?=some y->(j=k/\y=max x k)\/(j≠k/\L[j]?=some y):=fun j y hy=>by
   by_cases hj:j=k
   ·rw[hj,dA (by omega)]at hy;exact Or.inl ⟨hj,(aX hy).symm⟩
   ·rw[dG (by omega)]at hy;exact Or.inr ⟨hj,hy⟩
  refine⟨fun hu=>⟨by simp[hl],fun j y hy=>?_,fun j u x' y' hj hju hx' hy'=>?_⟩,fun u huk hu=>?_⟩
  ·rcases get j y hy with⟨rfl,rfl⟩|⟨hj,hy⟩
   ·omega
   ·have:=h.Ny j y hy;omega
  ·rcases get j x' hx' with⟨rfl,rfl⟩|⟨hjk,hx2⟩
   ·omega
   ·rcases get u y' hy' with⟨rfl,rfl⟩|⟨hu2,D3⟩
    ·have:=h.Lr j u x' x (by omega) hju hx2 hx;omega
    ·exact h.Lr j u x' y' (by omega) hju hx2 D3
  ·have ND:u<L.length:=by omega
   refine⟨L[u],by rw[dG (by omega)];exact aF ND,?_⟩;have YY:=aF ND;have OS:=h.Ny u _ YY;generalize L[u]=y at*
   have SQ:∀(j:Nat) z,((L.set k (max x k)).set u (max y (max x k)))[j]?=some z->(j=u/\z=max y (max x k))\/(j=k/\z=max x k)\/(j≠k/\j≠u/\L[j]?=some z):=fun j z hz=>by
    by_cases hj:j=u
    ·rw[hj,dA (by simp;omega)]at hz;exact Or.inl ⟨hj,(aX hz).symm⟩
    ·rw[dG (by omega)]at hz;rcases get j z hz with h|h
     ·exact Or.inr (Or.inl h)
     ·exact Or.inr (Or.inr ⟨h.1,hj,h.2⟩)
   refine⟨by simp[hl],fun j z hz=>?_,fun j t x' y' hj hjt hx' hy'=>?_⟩
   ·rcases SQ j z hz with⟨rfl,rfl⟩|⟨rfl,rfl⟩|⟨hjk,-,hz⟩
    ·omega
    ·omega
    ·have:=h.Ny j z hz;omega
   ·rcases SQ j x' hx' with⟨rfl,rfl⟩|⟨rfl,rfl⟩|⟨hjk,hju,hx2⟩
    ·omega
    ·have:t=u:=by omega
     subst this;rcases SQ t y' hy' with⟨-,rfl⟩|⟨e,-⟩|⟨-,e,-⟩<;>omega
    ·have VF:k+1<=j:=by omega
     rcases SQ t y' hy' with⟨rfl,rfl⟩|⟨rfl,rfl⟩|⟨-,-,D3⟩
     ·have:=h.Lr j t x' y VF hjt hx2 YY;omega
     ·have:=h.Lr j t x' x VF hjt hx2 hx;omega
     ·exact h.Lr j t x' y' VF hjt hx2 D3
theorem GK.zero(N:Nat)(up:Nat->Int):GK N up N (List.replicate N 0):=
 ⟨by simp,fun j x hx=>by
  have:=(List.getElem?_eq_some_iff.1 hx)
  obtain⟨h1,h2⟩:=this;simp at h1 h2;omega,fun j u x y hj _ hx=>by
  have:=(List.getElem?_eq_some_iff.1 hx).1;simp at this;omega⟩
theorem GK.root(h:GK N up 0 L)(hu:VE N up)(h0:0<N)(hr:∀k,0<k->k<N->up k≠ -1):L[0]?=some ((N:Int)-1):=by
 have hl:=h.len;have all:∀m j:Nat,j<=m->∀x y,L[j]?=some x->L[0]?=some y->x<=y:=fun m=>by
  induction m with
  |zero=>
   intro j hj x y hx hy;obtain rfl:j=0:=by omega
   rw[hx]at hy;cases hy;omega
  |succ m ih=>
   intro j hj x y hx hy;by_cases h0j:j=0
   ·subst h0j;rw[hx]at hy;cases hy;omega
   ·have XK:=(List.getElem?_eq_some_iff.1 hx).1;rcases hu j (by omega)with e|⟨u,hu1,hu2⟩
    ·exact absurd e (hr j (by omega) (by omega))
    ·have YY:L[u]?=some L[u]:=aF (by omega);have:=h.Lr j u x _ (by omega) hu2 hx YY;have:=ih u (by omega) _ y YY hy;omega
 have h1:L[0]?=some L[0]:=aF (by omega);have h2:L[N-1]?=some L[N-1]:=aF (by omega);have a:=h.Ny _ _ h1;have b:=h.Ny _ _ h2;have c:=all (N-1) (N-1) (au _) _ _ h2 h1;rw[h1];congr 1;omega
end
section
variable{w w' wr w1:World}{v:Value}{cs L ls ah:List Int}{N X g cap k gl D:Nat}{up:Nat->Int}{nm tx:Nat->ByteArray}{a0 a1 a2:Value}
def XL(w:World)(g N:Nat)(tx:Nat->ByteArray)(up:Nat->Int):Prop:=g<w.heap.size/\∀k,k<N->∃nm ai an ac ki kn kc,w.cell? ⟨g,k*5,none⟩=some (.string nm)/\w.cell? ⟨g,k*5+1,none⟩=some (.slice ai an ac)/\w.cell? ⟨g,k*5+2,none⟩=some (.string (tx k))/\w.cell? ⟨g,k*5+3,none⟩=some (.slice ki kn kc)/\w.cell? ⟨g,k*5+4,none⟩=some (.int .i64 (up k))
theorem J7{m cp:Nat}(h:w.ownsRow 0 3 1 (Z9 gl m cp) m (g_ L))(hk:k<m)(x:Int):(w.setCell ⟨gl,k,none⟩ (.int .i64 x)).ownsRow 0 3 1 (Z9 gl m cp) m (g_ (L.set k x)):=by
 refine⟨by simpa [g_]using h.1,?_⟩;rcases h.2 with⟨e1,_⟩|⟨g',cap',cur,e1,h0,hg,h1,h2,h3,h4⟩
 ·cases e1
 ·cases e1;refine Or.inr ⟨gl,cp,cur.setIfInBounds k (.int .i64 x),rfl,h0,eh hg _,h1,h2,by simpa using h3,?_⟩;unfold g_ at h4 ⊢;rw[Array.toList_setIfInBounds,List.take_set,h4,List.map_set]
theorem OT(N:Nat):g_ (List.replicate N 0)=(madeCells (Value.int .i64 0).cells (N*1)).toList:=by
 unfold g_ madeCells;refine List.ext_getElem (by simp) fun i h1 h2=>?_;simp only[cJ,List.length_replicate]at h1;simp[Value.cells,Nat.mod_one]
theorem Hu{m cp:Nat}{x:Int}(h:w.ownsRow 0 3 1 (Z9 gl m cp) m (g_ L))(hx:L[k]?=some x)(hk:k<m):(gl<w.heap.size/\∃cur,w.heap[gl]?=some (.cells cur 3 (0,0)))/\w.cell? ⟨gl,k,none⟩=some (.int .i64 x)/\w.frozen? ⟨gl,k,none⟩=false:=by
 have hc:=h.cells (g:=gl) rfl k (.int .i64 x) (by unfold g_;rw[bW,hx];rfl);rw[Addr.add_mid,aG]at hc;rcases h.2 with⟨e1,_⟩|⟨g',cap',cur,e1,h0,hg,h1,h2,h3,h4⟩
 ·cases e1
 ·cases e1;exact⟨⟨dQ hg,cur,hg⟩,hc,dY hg⟩
structure LsM(w:World)(g cap N D gl:Nat)(up:Nat->Int)(k:Nat)(wr:World):Prop where
 ex:∃L,GK N up k L/\wr.ownsRow 0 3 1 (Z9 gl N N) N (g_ L)/\wr.heap[D]?=some (.cells #[Z9 g N cap,Z9 gl N N,.string ⟨#[]⟩,.slice none 0 0] 78 (0,0))
 low:Z5 w wr
 new:w.heap.size<=gl/\gl<D
def txt(tx:Nat->ByteArray):Nat->List UInt8
 |0=>[]
 |i+1=>txt tx i++(tx i).data.toList
def xp(tx:Nat->ByteArray)(m:Nat):List Int:=(List.range m).map fun j=>((txt tx j).length:Int)
theorem OU(m:Nat):xp tx (m+1)=xp tx m++[((txt tx m).length:Int)]:=by simp[xp,List.range_succ]
abbrev UJ(B b:Nat)(o:List UInt8)(w:World):Prop:=Lib.IsBuilderF 129 5 B b (Lib.byteCells o) w
theorem EZ{B b:Nat}{o:List UInt8}(h:UJ B b o w)(ho:o.length<=140737488355328):Z4 49 #[Z8 b] w (Z6 (.int .i64 (o.length:Nat)) w):=by
 obtain⟨a,c,hc⟩:∃a c,w.cell? ⟨b,1,none⟩=some (.slice a o.length c):=by
  rcases h with⟨-,v,hb,hr,-⟩|⟨-,v,hb,hr,-⟩;all_goals
   have hl:(Lib.byteCells o).length=o.length:=by simp[Lib.byteCells]
   rcases hr.2 with⟨rfl,e⟩|⟨g,cap,cur,fz,rfl,-⟩
   ·exact⟨none,0,by rw[cell_of (i:=1) hb rfl,<-hl,e];rfl⟩
   ·exact⟨some ⟨g,0,none⟩,cap,by rw[cell_of (i:=1) hb rfl,<-hl];rfl⟩
 clear h;go_enter func49,ntmps49;go_wp2;go_ret;exact⟨rfl,rfl⟩
theorem UJ.grown{B b:Nat}{o:List UInt8}{row:Option Nat}(h:UJ B b o w)(hg:w.grownBy w' row)(hne:∀k,row=some k->∃c t fz,w.heap[k]?=some (.cells c t fz)/\t≠129/\t≠5):UJ B b o w':=by
 have key:∀p,Lib.BuilderAtF 129 5 B b p (Lib.byteCells o) w->Lib.BuilderAtF 129 5 B b p (Lib.byteCells o) w':=fun p ⟨hB,v,hb,hr,hv⟩=>by
  refine⟨hB,v,(hg.block b (dQ hb) fun e=>?_).trans hb,hr.kept hg ?_,hv⟩
  ·obtain⟨c,t,fz,h1,h2,-⟩:=hne b e.symm;rw[hb]at h1;cases h1;exact h2 rfl
  ·rcases hr.2 with⟨rfl,-⟩|⟨g,cap,cur,fz,rfl,-,hgc,-⟩
   ·exact Or.inl rfl
   ·refine Or.inr fun e=>?_;obtain⟨c,t,fz',h1,-,h3⟩:=hne g e.symm;rw[hgc]at h1;cases h1;exact h3 rfl
 exact h.imp (key _) (key _)
theorem Ls(p:Addr)(u:Value):w.grownBy (w.setCell p u) (some p.block):=⟨rfl,rfl,rfl,by simp[World.setCell],fun k _ hk=>ak _ _ _ _ fun e=>hk (by rw[e])⟩
structure YZ(w:World)(g cap N D gl b:Nat)(L:List Int)(tx:Nat->ByteArray)(i:Nat)(wr:World):Prop where
 ex:∃av,wr.heap[D]?=some (.cells #[Z9 g N cap,Z9 gl N N,.string ⟨#[]⟩,av] 78 (0,0))/\wr.ownsRow 0 3 1 av i (g_ (xp tx i))/\∀k,av.ownBlock=some k->w.heap.size<=k/\k≠gl
 row:wr.ownsRow 0 3 1 (Z9 gl N N) N (g_ L)
 bld:UJ w.heap.size b (txt tx i) wr
 low:Z5 w wr
 new:w.heap.size<=gl/\gl<D/\D<b
def E0(w:World)(b:Nat)(x0 x1 x2 x3:Value):World:=(((w.setCell ⟨b,0,none⟩ x0).setCell ⟨b,1,none⟩ x1).setCell ⟨b,2,none⟩ x2).setCell ⟨b,3,none⟩ x3
theorem Hv{b k:Nat}(h:k≠b)(x0 x1 x2 x3:Value):(E0 w b x0 x1 x2 x3).heap[k]?=w.heap[k]?:=by
 unfold E0
 iterate 4 rw[ak _ _ _ _ h]
theorem rF{b:Nat}{x0 x1 x2 x3 y0 y1 y2 y3:Value}{t:TypeId}(h:w.heap[b]?=some (.cells #[y0,y1,y2,y3] t (0,0))):(E0 w b x0 x1 x2 x3).heap[b]?=some (.cells #[x0,x1,x2,x3] t (0,0)):=eh (i:=3) (eh (i:=2) (eh (i:=1) (eh (i:=0) h x0) x1) x2) x3
theorem Hw{n b:Nat}(h:Below n w w')(hb:n<=b)(x0 x1 x2 x3:Value):Below n w (E0 w' b x0 x1 x2 x3):=(((h.setCell (p:=⟨b,0,none⟩) hb x0).setCell (p:=⟨b,1,none⟩) hb x1).setCell (p:=⟨b,2,none⟩) hb x2).setCell (p:=⟨b,3,none⟩) hb x3
theorem Hx{b:Nat}{x0 x1 x2 x3 y0 y1 y2 y3:Value}{t:TypeId}(h:w.heap[b]?=some (.cells #[y0,y1,y2,y3] t (0,0))):∃W,E0 w b x0 x1 x2 x3=W/\W.cell? ⟨b,0,none⟩=some x0/\W.cell? ⟨b,1,none⟩=some x1/\W.cell? ⟨b,2,none⟩=some x2/\W.cell? ⟨b,3,none⟩=some x3:=
 ⟨_,rfl,cell_of (v:=x0) (rF h) rfl,cell_of (v:=x1) (rF h) rfl,cell_of (v:=x2) (rF h) rfl,cell_of (v:=x3) (rF h) rfl⟩
def Y0(w:World)(g cap N:Nat)(tx:Nat->ByteArray)(up:Nat->Int)(e:Ending)(w':World):Prop:=∃ls lv av,e=.returned (.agg #[Z9 g N cap,lv,.string (bs (txt tx N)),av])/\GK N up 0 ls/\IR w' lv ls/\IR w' av (xp tx (N+1))/\Z5 w w'
theorem YZ.tell{b i:Nat}{wr w4:World}(hT:YZ w g cap N D gl b L tx i wr)(h4:Z5 wr w4):∃aa an ac,w4.heap[D]?=some (.cells #[Z9 g N cap,Z9 gl N N,.string ⟨#[]⟩,.slice aa an ac] 78 (0,0))/\UJ w.heap.size b (txt tx i) w4/\(w4.alloc (.cells #[.int .i64 ((txt tx i).length:Nat)] 3)).drew.ownsRow 0 3 1 (.slice aa an ac) i (g_ (xp tx i))/\
  ∀v8 w8,w8.ownsRow 0 3 1 v8 (i+1) (g_ (xp tx i)++[.int .i64 ((txt tx i).length:Nat)])->(w4.alloc (.cells #[.int .i64 ((txt tx i).length:Nat)] 3)).drew.grownBy w8 (Value.slice aa an ac).ownBlock->(v8.ownBlock=(Value.slice aa an ac).ownBlock\/v8.ownBlock=some (w4.alloc (.cells #[.int .i64 ((txt tx i).length:Nat)] 3)).drew.heap.size)->
   w8.heap[D]?=some (.cells #[Z9 g N cap,Z9 gl N N,.string ⟨#[]⟩,.slice aa an ac] 78 (0,0))/\((w8.setCell ⟨D,3,none⟩ v8).heap[D]?=some (.cells #[Z9 g N cap,Z9 gl N N,.string ⟨#[]⟩,v8] 78 (0,0))/\(w8.setCell ⟨D,3,none⟩ v8).ownsRow 0 3 1 v8 (i+1) (g_ (xp tx (i+1)))/\(∀k,v8.ownBlock=some k->w.heap.size<=k/\k≠gl)/\(w8.setCell ⟨D,3,none⟩ v8).ownsRow 0 3 1 (Z9 gl N N) N (g_ L)/\UJ w.heap.size b (txt tx i) (w8.setCell ⟨D,3,none⟩ v8)/\Z5 w (w8.setCell ⟨D,3,none⟩ v8)/\∀k c fz,wr.heap.size<=k->w4.heap[k]?=some (.cells c 40 fz)->(w8.setCell ⟨D,3,none⟩ v8).heap[k]?=some (.cells c 40 fz)):=by
 obtain⟨av,eA,l9,mO⟩:=hT.ex;obtain⟨aa,an,ac,rfl⟩:=fT l9;have mh:=h4.trans (eG (((Below.refl w4.heap.size w4).alloc (au _) (.cells #[.int .i64 ((txt tx i).length:Nat)] 3)).drew) h4.size);have Hy:=hT.new;have hD4:=(h4.block _ (dQ eA)).trans eA;have kb:∀{u:World},Z5 wr u->UJ w.heap.size b (txt tx i) u:=fun hu=>hT.bld.grown (row:=none) ⟨hu.os,hu.tape,hu.output,hu.size,fun k hk _=>hu.block k hk⟩ fun k e=>by cases e
 refine⟨aa,an,ac,hD4,kb h4,dW l9 fun k e=>mh.block k (ej l9 e),fun v8 w8 ho hg hat=>?_⟩;have own:∀k,(Value.slice aa an ac).ownBlock=some k->∃c fz,(w4.alloc (.cells #[.int .i64 ((txt tx i).length:Nat)] 3)).drew.heap[k]?=some (.cells c 3 fz)/\k<wr.heap.size:=fun k e=>by
  obtain⟨-,c,fz,hc⟩:=eY l9 e;exact⟨c,fz,(mh.block k (dQ hc)).trans hc,dQ hc⟩
 have hD8:w8.heap[D]?=some (.cells #[Z9 g N cap,Z9 gl N N,.string ⟨#[]⟩,.slice aa an ac] 78 (0,0)):=(hg.block D (aq (dQ eA) mh.size) fun e=>by
  obtain⟨c,fz,hc,-⟩:=own D e.symm;rw[(mh.block _ (dQ eA)).trans eA]at hc;cases hc).trans ((mh.block _ (dQ eA)).trans eA)
 have Y1:∀k,v8.ownBlock=some k->w.heap.size<=k/\k≠gl:=fun k e=>by
  rcases hat with x|x
  ·exact mO k (x▸e)
  ·rw[x]at e;cases e;have:=hT.low.size;have:=mh.size;have:=dQ eA;exact⟨by omega,by omega⟩
 have st:∀{e:TypeId} {s m:Nat} {u:Value} {zs:List Value},e≠78->w8.ownsRow 0 e s u m zs->(w8.setCell ⟨D,3,none⟩ v8).ownsRow 0 e s u m zs:=fun hne h=>dW h fun k e=>ak _ _ _ _ fun e'=>by
  obtain⟨-,cur,fz,h'⟩:=eY h e;have:k=D:=e';subst this;rw[hD8]at h';cases h';exact hne rfl
 refine⟨hD8,by rw[eh (i:=3) hD8];rfl,?_,Y1,st (by decide) (dW (dW hT.row fun k e=>mh.block k (ej hT.row e)) fun k e=>hg.block k (aq (ej hT.row e) mh.size) fun e'=>?_),?_,?_,fun k c fz hk hc=>?_⟩
 ·rw[OU];exact st (by decide) (by simpa [g_]using ho)
 ·have:k=gl:=by cases e;rfl
  exact(mO k e'.symm).2 this
 ·refine((kb mh).grown hg fun k e=>?_).grown (Ls _ _) fun k e=>⟨_,_,_,by cases e;exact hD8,by decide,by decide⟩
  obtain⟨c,fz,hc,-⟩:=own k e;exact⟨c,3,fz,hc,by decide,by decide⟩
 ·refine Below.setCell (p:=⟨D,3,none⟩) ?_ (by simp only;omega) _;exact(hT.low.trans (eG mh hT.low.size)).grown hg (aw hT.low.size mh.size) fun k e=>(mO k e).1
 ·have h1:(w4.alloc (.cells #[.int .i64 ((txt tx i).length:Nat)] 3)).drew.heap[k]?=some (.cells c 40 fz):=(ay w4 _ k (dQ hc)).trans hc;refine(ak _ _ _ _ fun e=>?_).trans ((hg.block k (dQ h1) fun e=>?_).trans h1)
  ·have:k=D:=e;have:=dQ eA;omega
  ·obtain⟨-,-,-,vS⟩:=own k e.symm;omega
theorem Lt(hg:XL w g N tx up)(hu:VE N up)(h0:0<N)(hN:N<=1000000000000)(hN2:N<1000000000000)(hTX:∀i,i<=N->(txt tx i).length<=140737488355328):Z4 26 #[Z9 g N cap] w (Y0 w g cap N tx up):=by
 obtain⟨i0,hi,hz0,hz1,hz2⟩:=aY uw;obtain⟨W0,hW0⟩:∃W0,w.alloc (.cells #[.slice none 0 0,.slice none 0 0,.string ⟨#[]⟩,.slice none 0 0] 78)=W0:=⟨_,rfl⟩
 have b0:Z5 w W0:=by rw[<-hW0];exact(Below.refl _ w).alloc (au _) _
 have d0:=dR w (.cells #[.slice none 0 0,.slice none 0 0,.string ⟨#[]⟩,.slice none 0 0] 78);rw[hW0]at d0;obtain⟨w1,hr,ho,hgr⟩:=run_make_full (P:=prog) W0 0 31 3 i0 _ 1 underlying31 hi hz0 hz1 .i64 .i64 N (by rw[hz2];omega) (by unfold maxLen;omega) (aB _);have d1:=(hgr.block _ (dQ d0) (by simp)).trans d0;have q0:=cell_of (i:=0) d1 rfl;have q1:=cell_of (i:=1) d1 rfl;have q2:=cell_of (i:=2) d1 rfl;have q3:=cell_of (i:=3) d1 rfl;have r0:=dY (i:=0) d1;have r1:=dY (i:=1) d1;have r2:=dY (i:=2) d1;have r3:=dY (i:=3) d1;go_enter func26,ntmps26;go_wp2_with fail;have hWg:w.heap.size<W0.heap.size:=by rw[<-hW0];simp
 have hg0:XL W0 g N tx up:=⟨aq hg.1 b0.size,fun k hk=>by
  obtain⟨n',a1,a2,a3,k1,k2,k3,n0,n1,n2,n3,n4⟩:=hg.2 k hk;have up:=fun j u (h:w.cell? ⟨g,j,none⟩=some u)=>(ar (b0.block g hg.1)).trans h;exact⟨n',a1,a2,a3,k1,k2,k3,up _ _ n0,up _ _ n1,up _ _ n2,up _ _ n3,up _ _ n4⟩⟩
 clear hg;have hgz:=hgr.size;have M0:LsM W0 g cap N w1.heap.size W0.heap.size up N (w1.alloc (.cells #[Z9 g N cap,.slice (some ⟨W0.heap.size,0,none⟩) N N,.string ⟨#[]⟩,.slice none 0 0] 78)):=by
  have hlt:=ej ho rfl;refine⟨⟨List.replicate N 0,GK.zero N up,dW (by rw[show g_ (List.replicate N 0)=(madeCells (Value.int .i64 0).cells (N*1)).toList from OT N];exact ho) fun k e=>ay _ _ _ (ej ho e),dR w1 _⟩,((Below.refl W0.heap.size W0).grown hgr (au _) fun k e=>by cases e).alloc hgr.size _,au _,hlt⟩
 have HM0:=a_ M0;generalize (w1.alloc (.cells #[Z9 g N cap,.slice (some ⟨W0.heap.size,0,none⟩) N N,.string ⟨#[]⟩,.slice none 0 0] 78))=W1 at*
 generalize w1.heap.size=D at*
 obtain⟨gl,sw⟩:∃gl,W0.heap.size=gl:=⟨_,rfl⟩
 rw[sw]at HM0 ⊢;have Hd0:=a_ d0;have Hb0:=a_ b0;have HWg:=a_ hWg;have sw:=a_ sw;clear q0 q1 q2 q3 r0 r1 r2 r3 d0 d1 ho hgr hr hgz hWg hW0 b0 M0;go_loopw [4] (fun iv wr=>∃m:Nat,iv=.int .i64 ((m:Int)-1)/\m<=N/\LsM W0 g cap N D gl up m wr) (fun iv _=>(RowKit.intOf iv+1).toNat)
 case atStart=>exact⟨N,rfl,au _,HM0.out⟩
 case round=>
  rename World=>WO
  obtain⟨m,rfl,hm,hM⟩:=hrel;clear HM0;cases m with
  |zero=>
   obtain⟨L,hL,hrow,eA⟩:=hM.ex;have VG:=hM.new;have tX:=(Below.refl WO.heap.size WO).alloc (au _) (.cells #[.pointer none,.slice none 0 0] 129);have T0:Hid (YZ W0 g cap N D gl WO.heap.size L tx 0 (WO.alloc (.cells #[.pointer none,.slice none 0 0] 129))):=a_ ⟨⟨_,(tX.block _ (dQ eA)).trans eA,bA _ _ _ _,fun k e=>by cases e⟩,dW hrow fun k e=>tX.block k (ej hrow e),Or.inl ⟨hM.low.size,_,dR WO _,World.ownsRowF_nil _ _ _ _,by simp[Value.ownBlock]⟩,hM.low.trans (eG tX hM.low.size),VG.1,VG.2,dQ eA⟩;have HL:=a_ hL;have e0:((0:Nat):Int)-1= -1:=rfl;rw[e0];go_wp2_with fail;generalize WO.heap.size=b at*
   generalize (WO.alloc (.cells #[.pointer none,.slice none 0 0] 129))=W3 at*
   clear hM hL hrow eA tX;go_loopw [56] (fun iv wr=>∃i:Nat,iv=.int .i64 i/\i<=N/\YZ W0 g cap N D gl b L tx i wr) (fun iv _=>N-(RowKit.intOf iv).toNat)
   case atStart=>exact⟨0,rfl,aB _,T0.out⟩
   case round=>
    rename World=>WP
    obtain⟨i,rfl,GJ,hT⟩:=hrel;clear T0;by_cases hlt:i<N
    ·obtain⟨nn,ai,an,ac,ki,kn,kc,n0,n1,n2,n3,n4⟩:=hg0.2 i hlt;have up:∀j u,W0.cell? ⟨g,j,none⟩=some u->WP.cell? ⟨g,j,none⟩=some u:=fun j u h=>(ar (hT.low.block g hg0.1)).trans h;have m0:=up _ _ n0;have m1:=up _ _ n1;have m2:=up _ _ n2;have m3:=up _ _ n3;have m4:=up _ _ n4;have Nw:(i:Int)<N:=by omega
     clear up n0 n1 n2 n3 n4;go_wp2_with fail;have tX:=(Below.refl WP.heap.size WP).alloc (au _) (.cells #[.string nn,.slice ai an ac,.string (tx i),.slice ki kn kc,.int .i64 (up i)] 40);have bxn:=dR WP (.cells #[.string nn,.slice ai an ac,.string (tx i),.slice ki kn kc,.int .i64 (up i)] 40);obtain⟨aa,VH,VJ,sS,hbl,hown,hstep⟩:=hT.tell tX;have HS:=a_ hstep;generalize (WP.alloc (.cells #[.string nn,.slice ai an ac,.string (tx i),.slice ki kn kc,.int .i64 (up i)] 40))=W4 at*
     have d3:W4.drew.cell? ⟨D,3,none⟩=some (.slice aa VH VJ):=cell_of (w:=W4.drew) sS rfl;have d4:∀o,(W4.alloc o).drew.cell? ⟨D,3,none⟩=some (.slice aa VH VJ):=fun o=>dV (w:=W4.drew) o d3;have Y2:=a_ (EZ (w:=W4.drew) hbl (hTX i (by omega)));have HT:=a_ hT;clear hstep hbl hT sS m0 m1 m2 m3 m4;go_region_law
      (first|(go_simp;refine Y2.out.mono ?_;rintro e w5 ⟨rfl,rfl⟩)|(refine eL rfl (.tmp 61) (.tmp 63) 31 rfl 3 i0 _ 1 8 underlying31 hi hz0 hz1 hz2 rfl (by decide) (.slice aa VH VJ) i (g_ (xp tx i)) (by simp[Act.eval,Act.put]) hown ⟨W4.heap.size,0,none⟩ 1 1 [.int .i64 ((txt tx i).length:Nat)] (by simp[Act.eval,Act.put]) rfl (kK (w:=W4.drew) _ _) (by simp[Value.oneCell']) (by unfold maxLen;omega) (by omega) ?_;intro v8 w8 Ru VK OV;obtain⟨y7,H8⟩:=HS.out _ _ Ru VK OV;have HH:=a_ H8;clear H8;obtain⟨a8,n8,c8,rfl⟩:=fT Ru;have y8:=cell_of (i:=3) y7 rfl;have y9:=dY (i:=3) y7;clear Ru VK OV y7))
     all_goals
      obtain⟨z1,z2,z3,z4,z5,z6,z7⟩:=HH.out;have YL:=z7 _ _ _ (au _) bxn;generalize (w8.setCell ⟨D,3,none⟩ (.slice a8 n8 c8))=W5 at*
      have k2:W5.cell? ⟨WP.heap.size,2,none⟩=some (.string (tx i)):=cell_of YL rfl;have HWr:Hid (Z4 50 #[Z8 b,.string (tx i)] W5 fun e w9=>e=.returned (.tuple #[.int .i64 (tx i).size,.nilIface])/\Hid (YZ W0 g cap N D gl b L tx (i+1) w9)):=a_ (by
       refine(K.Ad W0.heap.size b (Lib.byteCells (txt tx i)) (tx i) W5 z5 (by have:=hTX (i+1) (by omega);simp only[txt,ax]at this;simp[Lib.byteCells]at this ⊢;omega) z6.size).mono ?_;rintro e w9 ⟨rfl,hB9,hb9,UK⟩;have l5:Lib.byteCells (txt tx i)++Lib.strCells (tx i)=Lib.byteCells (txt tx (i+1)):=by simp[Lib.byteCells,Lib.strCells,txt]
       rw[l5]at hB9;have Hy:=HT.out.new;have kp:∀{e:TypeId} {s m:Nat} {u:Value} {zs:List Value},e≠129->e≠5->W5.ownsRow 0 e s u m zs->w9.ownsRow 0 e s u m zs:=fun h1 h2 h=>dW h fun k e=>by
        obtain⟨-,cur,fz,h'⟩:=eY h e;refine(UK k _ h' (fun e'=>?_) fun c fz' e'=>?_).trans h'.symm
        ·obtain⟨-,v,hb,-⟩|⟨-,v,hb,-⟩:=z5;all_goals
         cases e';rw[hb]at h';cases h';exact h1 rfl
        ·cases e';exact h2 rfl
       exact⟨rfl,a_ ⟨⟨_,UK D _ z1 (fun e=>by cases e;omega) (fun c fz e=>by cases e),kp (by decide) (by decide) z2,z3⟩,kp (by decide) (by decide) z4,Or.inr hB9,z6.trans hb9,Hy⟩⟩)
      clear z1 z2 z3 z4 z5 z6 z7 YL HH HS Y2 hown d3 d4 y8 y9;go_wp2_with(go_at_call 50;refine HWr.out.mono ?_;rintro e w9 ⟨rfl,h9⟩);exact⟨⟨i+1,by simp,by omega,h9.out⟩,by simp only[RowKit.intOf];omega⟩
    ·obtain rfl:i=N:=by omega
     go_wp2_with fail;obtain⟨aa,VH,VJ,sS,hbl,hown,hstep⟩:=hT.tell (Below.refl _ _);have HS:=a_ hstep;have d3:WP.drew.cell? ⟨D,3,none⟩=some (.slice aa VH VJ):=cell_of (w:=WP.drew) sS rfl;have d4:∀o,(WP.alloc o).drew.cell? ⟨D,3,none⟩=some (.slice aa VH VJ):=fun o=>dV (w:=WP.drew) o d3;have Y2:=a_ (EZ (w:=WP.drew) hbl (hTX i (by omega)));have Hy:=hT.new;clear hstep hbl hT sS;go_region_law
      (first|(go_simp;refine Y2.out.mono ?_;rintro e w5 ⟨rfl,rfl⟩)|(refine eL rfl (.tmp 71) (.tmp 73) 31 rfl 3 i0 _ 1 8 underlying31 hi hz0 hz1 hz2 rfl (by decide) (.slice aa VH VJ) i (g_ (xp tx i)) (by simp[Act.eval,Act.put]) hown ⟨WP.heap.size,0,none⟩ 1 1 [.int .i64 ((txt tx i).length:Nat)] (by simp[Act.eval,Act.put]) rfl (kK (w:=WP.drew) _ _) (by simp[Value.oneCell']) (by unfold maxLen;omega) (by omega) ?_;intro v8 w8 Ru VK OV;obtain⟨y7,H8⟩:=HS.out _ _ Ru VK OV;have HH:=a_ H8;clear H8;obtain⟨a8,n8,c8,rfl⟩:=fT Ru;have y8:=cell_of (i:=3) y7 rfl;have y9:=dY (i:=3) y7;clear Ru VK OV y7))
     all_goals
      obtain⟨z1,z2,z3,z4,z5,z6,-⟩:=HH.out;generalize (w8.setCell ⟨D,3,none⟩ (.slice a8 n8 c8))=W5 at*
      have rb5:W5.heap[w.heap.size]?=some (.cells #[.slice none 0 0,.slice none 0 0,.string ⟨#[]⟩,.slice none 0 0] 78 (0,0)):=(z6.block _ HWg.out).trans Hd0.out;have HSt:Hid (Z4 51 #[Z8 b] W5 fun e w9=>e=.returned (.string (bs (txt tx i)))/\w9.heap[D]?=some (.cells #[Z9 g i cap,Z9 gl i i,.string ⟨#[]⟩,.slice a8 n8 c8] 78 (0,0))/\(w9.setCell ⟨D,2,none⟩ (.string (bs (txt tx i)))).heap[w.heap.size]?=some (.cells #[.slice none 0 0,.slice none 0 0,.string ⟨#[]⟩,.slice none 0 0] 78 (0,0))/\Hid (Y0 w g cap i tx up (.returned (.agg #[Z9 g i cap,Z9 gl i i,.string (bs (txt tx i)),.slice a8 n8 c8])) (E0 (w9.setCell ⟨D,2,none⟩ (.string (bs (txt tx i)))) w.heap.size (Z9 g i cap) (Z9 gl i i) (.string (bs (txt tx i))) (.slice a8 n8 c8)))):=a_ (by
       refine(Tryz.Builder_String_any_k W0.heap.size b (txt tx i) W5 z5 z6.size).mono ?_;rintro e w9 ⟨rfl,-,hb9,UK⟩;have UL:=UK D _ z1 (fun e=>by cases e;omega) (fun c fz e=>by cases e);have abA:=sw.out;have hlt:=HWg.out;have rb9:(w9.setCell ⟨D,2,none⟩ (.string (bs (txt tx i)))).heap[w.heap.size]?=some (.cells #[.slice none 0 0,.slice none 0 0,.string ⟨#[]⟩,.slice none 0 0] 78 (0,0)):=(ak _ _ _ _ (by simp only;omega)).trans ((hb9.block _ hlt).trans rb5);have hz:Z5 w (w9.setCell ⟨D,2,none⟩ (.string (bs (txt tx i)))):=((Hb0.out.trans (eG z6 Hb0.out.size)).trans (eG hb9 Hb0.out.size)).setCell (p:=⟨D,2,none⟩) (by simp only;omega) _;have kp:∀{s m:Nat} {u:Value} {zs:List Value},W5.ownsRow 0 3 s u m zs->(E0 (w9.setCell ⟨D,2,none⟩ (.string (bs (txt tx i)))) w.heap.size (Z9 g i cap) (Z9 gl i i) (.string (bs (txt tx i))) (.slice a8 n8 c8)).ownsRow 0 3 s u m zs:=fun h=>dW h fun k e=>by
        obtain⟨-,cur,fz,h'⟩:=eY h e;have hkw:k≠w.heap.size:=fun e'=>by rw[e',rb5]at h';cases h'
        refine(Hv hkw _ _ _ _).trans ((ak _ _ _ _ fun e'=>?_).trans ((UK k _ h' (fun e'=>?_) fun c fz' e'=>?_).trans h'.symm))
        ·have:k=D:=e';subst this;rw[z1]at h';cases h'
        ·obtain⟨-,v,hb,-⟩|⟨-,v,hb,-⟩:=z5;all_goals
         cases e';rw[hb]at h';cases h'
        ·cases e'
       exact⟨rfl,UL,rb9,a_ ⟨L,_,_,rfl,HL.out,lh (by rw[HL.out.len];exact kp z4) (by rw[HL.out.len];exact hN),lh (by simpa [xp]using kp z2) (by simp[xp];omega),Hw hz (au _) _ _ _ _⟩⟩)
      clear z1 z2 z3 z4 z5 z6 HH HS Y2 hown d3 d4 y8 y9 rb5;go_wp2_with(go_at_call 51;refine HSt.out.mono ?_;rintro e w9 ⟨rfl,UL,rb,h9⟩;have q0:=cell_of (i:=0) UL rfl;have q1:=cell_of (i:=1) UL rfl;have q2:=cell_of (i:=2) UL rfl;have q3:=cell_of (i:=3) UL rfl;have q4:=dY (i:=2) UL;have s0:=cell_of (i:=0) rb rfl;have s1:=cell_of (i:=1) rb rfl;have s2:=cell_of (i:=2) rb rfl;have s3:=cell_of (i:=3) rb rfl;have f0:=dY (i:=0) rb;have f1:=dY (i:=1) rb;have f2:=dY (i:=2) rb;have f3:=dY (i:=3) rb);obtain⟨W10,SS,t0,t1,t2,t3⟩:=Hx (x0:=Z9 g i cap) (x1:=Z9 gl i i) (x2:=.string (bs (txt tx i))) (x3:=.slice a8 n8 c8) rb;have H9:=h9.out;rw[SS]at H9;unfold E0 at SS;rw[SS];refine aJ (v:=.agg #[Z9 g i cap,Z9 gl i i,.string (bs (txt tx i)),.slice a8 n8 c8]) ?_ rfl H9;clear H9 SS h9 s0 s1 s2 s3 f0 f1 f2 f3 q0 q1 q2 q3 q4 rb UL;simp[results,results26,go_sem,t0,t1,t2,t3]
  |succ k=>
   obtain⟨L,hL,hrow,eA⟩:=hM.ex;obtain⟨x,UE⟩:∃x,L[k]?=some x:=⟨_,aF (by rw[hL.len];omega)⟩
   obtain⟨z,hz,hzN,abr,hgk,VL,VM⟩:=hL.one (by omega) UE;obtain⟨g0,g1,g2⟩:=Hu hrow UE (by omega);have c1:WO.drew.cell? ⟨D,1,none⟩=some (Z9 gl N N):=cell_of (w:=WO.drew) eA rfl;have c2:WO.drew.cell? ⟨gl,k,none⟩=some (.int .i64 x):=g1;have c3:WO.drew.frozen? ⟨gl,k,none⟩=false:=g2;have e1:((k+1:Nat):Int)-1=(k:Nat):=by omega
   rw[e1];have YD:(k:Int)<N:=by omega
   have hkk:(0:Int)<=k:=by omega
   have hmx:prog.follows .mixedOrders=true:=by kernel_rfl
   have HM:=a_ hM;have HL:=a_ (And.intro hL hrow);clear hM hL hrow eA;go_wp2_with fail
   go_region_o
   have VG:=HM.out.new;obtain⟨W2,hW2⟩:∃W2,(WO.setCell ⟨gl,k,none⟩ (.int .i64 (z:Nat))).drew=W2:=⟨_,rfl⟩
   have N1:Z5 W0 W2:=by rw[<-hW2];exact(HM.out.low.setCell (p:=⟨gl,k,none⟩) VG.1 _).drew
   have hrow2:W2.ownsRow 0 3 1 (Z9 gl N N) N (g_ (L.set k (z:Int))):=by rw[<-hW2];exact J7 HL.out.2 (by omega) _
   have sS:W2.heap[D]?=some (.cells #[Z9 g N cap,Z9 gl N N,.string ⟨#[]⟩,.slice none 0 0] 78 (0,0)):=by
    rw[<-hW2];obtain⟨-,-,-,hb⟩:=HM.out.ex;exact(ak WO ⟨gl,k,none⟩ _ D (by simp only;omega)).trans hb
   obtain⟨-,-,-,-,-,-,-,-,-,-,-,n4⟩:=hg0.2 k (by omega);have n4:=(ar (N1.block g hg0.1)).trans n4;rw[hW2];clear hW2 c1 c2 c3 g1 g2 HL HM g0;rcases hu k (by omega)with he|⟨u,huk,he⟩
   ·have iT:=a_ (VL he);rw[he]at n4;clear VL VM;go_wp2;refine⟨⟨k,rfl,by omega,⟨_,iT.out,hrow2,sS⟩,N1,VG⟩,?_⟩;simp only[RowKit.intOf];omega
   ·obtain⟨y,hy,iT⟩:=VM u huk he;obtain⟨-,y1,y2⟩:=Hu hrow2 hy (by omega);obtain⟨-,y3,-⟩:=Hu hrow2 hgk (by omega);have c1:W2.drew.cell? ⟨D,1,none⟩=some (Z9 gl N N):=cell_of (w:=W2.drew) sS rfl;have c2:W2.drew.cell? ⟨gl,u,none⟩=some (.int .i64 y):=y1;have c3:W2.drew.frozen? ⟨gl,u,none⟩=false:=y2;have c4:W2.drew.cell? ⟨gl,k,none⟩=some (.int .i64 (z:Nat)):=y3;rw[he]at n4;have huN:(u:Int)<N:=by omega
    have VN:=a_ iT;have Y3:=a_ hrow2;have Y4:=a_ sS;obtain⟨mx,aaJ⟩:∃mx,max y (z:Int)=mx:=⟨_,rfl⟩
    clear VL VM hrow2 sS y1 y2 y3 iT;go_wp2_with fail
    go_region_o
    rw[aaJ]at VN;have fin:Hid (LsM W0 g cap N D gl up k (W2.setCell ⟨gl,u,none⟩ (.int .i64 mx)).drew):=a_ ⟨⟨_,VN.out,J7 Y3.out (by omega) mx,(ak W2 ⟨gl,u,none⟩ _ D (by simp only;omega)).trans Y4.out⟩,(N1.setCell (p:=⟨gl,u,none⟩) VG.1 _).drew,VG⟩;clear VN Y3 Y4 c1 c2 c3 c4;go_wp2;refine⟨⟨k,rfl,by omega,fin.out⟩,?_⟩;simp only[RowKit.intOf];omega
end
end Go.Proofs.YtclgfepngpeifaaGreatDoor
