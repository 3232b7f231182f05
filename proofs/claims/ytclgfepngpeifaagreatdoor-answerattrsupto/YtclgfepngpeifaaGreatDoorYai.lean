import Derived.Test.YtclgfepngpeifaaGreatDoorYA
import Derived.Test.YtclgfepngpeifaaGreatDoorYae
import Derived.Test.YtclgfepngpeifaaGreatDoorYag
import Derived.Test.YtclgfepngpeifaaGreatDoorYah
set_option linter.unusedVariables false
set_option linter.unusedSimpArgs false
set_option maxHeartbeats 32000000
set_option maxRecDepth 100000
namespace Go.Proofs.YtclgfepngpeifaaGreatDoor
open Go.RowKit Go.Lib Tryz
section
structure yv(N:Nat)(kd:Nat->List Int):Prop where
 nd:∀k,k<N->(kd k).Nodup
 one:∀k j x,k<N->j<N->x∈kd k->x∈kd j->k=j
 root:∀k,k<N->(0:Int)∉kd k
variable{N:Nat}{kd:Nat->List Int}{nm:Nat->ByteArray}{ls:List Int}{hb:Int->Nat->Bool}
theorem rh:∀(N:Nat) (l:List Int),l.Nodup->(∀x∈l,0<=x/\x<(N:Int))->l.length<=N
 |0,l,_,h=>by
  cases l with
  |nil=>simp
  |cons x l=>have:=h x cu;omega
 |N+1,l,hn,h=>by
  have h1:=rh N (l.erase (N:Int)) (hn.erase _) fun x hx=>by
   have:=h x (List.mem_of_mem_erase hx);have:=(hn.mem_erase_iff.1 hx).1;omega
  have:=List.length_erase (a:=(N:Int)) (l:=l);split at this<;>omega
theorem wI:∀(fr:List Int) (s:Nat),(gU N ls s fr).Pairwise (· < ·)/\∀x∈gU N ls s fr,(s:Int)<=x
 |[],s=>by simp[gU]
 |k::r,s=>by
  obtain⟨h1,h2⟩:=wI r (max (max s (k+1).toNat) (Ew N ls k));rw[gU];refine⟨List.pairwise_append.2 ⟨?_,h1,fun x hx y hy=>?_⟩,fun x hx=>?_⟩
  ·unfold GN;rw[List.pairwise_map];exact List.Pairwise.imp (fun h=>by omega) (List.pairwise_lt_range' ..)
  ·have a:=CF hx;have b:=h2 y hy;omega
  ·rcases List.mem_append.1 hx with h|h
   ·have:=CF h;omega
   ·have:=h2 x h;omega
theorem yw(K:yv N kd)(h0:0<N):∀(fr:List Int),fr.Nodup->kK N fr->(fr.flatMap (lN kd)).Nodup
 |[],_,_=>by simp
 |k::r,hn,gZ=>by
  rw[List.nodup_cons]at hn;rw[cG,List.nodup_append];have hk:=gZ k cu;refine⟨?_,yw K h0 r hn.2 fun x hx=>gZ x (dH _ hx),fun a ha b hb e=>?_⟩
  ·unfold lN;split
   ·simp
   ·exact K.nd _ (by omega)
  ·subst e;obtain⟨j,hj,hb⟩:=List.mem_flatMap.1 hb;have hjk:=gZ j (dH _ hj);unfold lN at ha hb;split at ha<;>split at hb
   ·rename_i e1 e2;exact hn.1 (by rw[e1,<-e2];exact hj)
   ·rw[bG]at ha;exact K.root j.toNat (by omega) (ha▸hb)
   ·rw[bG]at hb;exact K.root k.toNat (by omega) (hb▸ha)
   ·have:=K.one k.toNat j.toNat a (by omega) (by omega) ha hb;have:k=j:=by omega
    exact hn.1 (this▸hj)
theorem yx(K:yv N kd)(h0:0<N){fr cs:List Int}(hn:fr.Nodup)(gZ:kK N fr)(d:Bool)(t:ByteArray):(jx N kd nm ls hb d t cs fr).Nodup:=by
 unfold jx kM;refine List.Pairwise.filter _ ?_;split
 ·exact(wI fr 0).1.imp fun h=>by omega
 ·exact yw K h0 fr hn gZ
end
end Go.Proofs.YtclgfepngpeifaaGreatDoor
namespace Go.Proofs.YtclgfepngpeifaaGreatDoor
open Go.RowKit Go.Maps Go.Lib Go.Shelf Tryz
section
variable{w w' wr:World}{v:Value}{cs ls ah:List Int}{N X:Nat}{kd:Nat->List Int}{nm:Nat->ByteArray}{hb:Int->Nat->Bool}{TX:ByteArray}{at_:Nat->Lj}{l:List Cd}
theorem DocM.gv(h:DocM w X N kd nm ls)(hw:eW w.heap.size w w'):DocM w' X N kd nm ls:=by
 obtain⟨nv,h1,h2⟩:=h.nodes;obtain⟨lv,h3,h4⟩:=h.last;exact⟨aq h.lt hw.1,⟨nv,hw.cell h.lt h1,h2.gv hw⟩,⟨lv,hw.cell h.lt h3,h4.gv hw⟩,h.NP,h.few,h.kids,h.one⟩
theorem uk.gv{gQ:List pC}(h:uk w v gQ)(hw:eW w.heap.size w w'):uk w' v gQ:=by
 obtain⟨ai,cap,e,hn,hr⟩:=h;refine⟨ai,cap,e,hn,fun i s hs=>?_⟩;obtain⟨g,ci,cc,e,hg,c0,c1,c2,hc⟩:=hr i s hs;exact⟨g,ci,cc,e,aq hg hw.1,hw.cell hg c0,hw.cell hg c1,hw.cell hg c2,hc.gv hw⟩
theorem Yc.gv(h:Yc w X l)(hw:eW w.heap.size w w'):Yc w' X l:=by
 obtain⟨ai,cap,c,hn,hX,hr⟩:=h;refine⟨ai,cap,hw.cell hX c,hn,aq hX hw.1,fun i d hd=>?_⟩;obtain⟨g,kv,sv,e,c0,c1,c2,c3,c4,c5,h1,h2⟩:=hr i d hd;have hg:=aD _ _ c0;exact⟨g,kv,sv,e,hw.cell hg c0,hw.cell hg c1,hw.cell hg c2,hw.cell hg c3,hw.cell hg c4,hw.cell hg c5,h1.gv hw,h2.gv hw⟩
theorem A8(D:DocM w X N kd nm ls)(K:yv N kd){gQ:List pC}{f:Int}(h0:kK N [f]):∀i,(j7 N kd nm ls hb gQ f i).Nodup
 |0=>by simp[j7]
 |i+1=>by
  rw[j7];cases gQ[i]? with
  |none=>simp
  |some s=>exact(List.mergeSort_perm _ _).nodup_iff.2 (yx K D.one (A8 D K h0 i) (vA D h0 i) _ _)
theorem O4(D:DocM w X N kd nm ls)(K:yv N kd){gQ:List pC}{f:Int}(h0:kK N [f]):∀i s,gQ[i]?=some s->(jx N kd nm ls hb s.1 s.2.1 s.2.2 (j7 N kd nm ls hb gQ f i)).length<=1000000000000:=fun i s _=>
 aw (rh N _ (yx K D.one (A8 D K h0 i) (vA D h0 i) _ _) fun x hx=>oX D (vA D h0 i) s.1 x (List.mem_filter.1 hx).1) D.few
def yy(N:Nat)(kd:Nat->List Int)(nm:Nat->ByteArray)(ls ah:List Int)(TX:ByteArray)(at_:Nat->Lj)(c:Cd)(k:Nat):Bool:=((mb N kd nm ls (fun _ _=>false) c.steps k).flatMap (iu TX ls ah at_ c.at_)).any (J5 c.op c.tx)
def Hz(c:Cd):Prop:=c.ag=false/\CG c.op/\∀s∈c.steps,s.2.2=[]
def E3(N:Nat)(kd:Nat->List Int)(nm:Nat->ByteArray)(ls ah:List Int)(TX:ByteArray)(at_:Nat->Lj)(l:List Cd)(x:Int)(k:Nat):Bool:=((l[x.toNat]?).map fun c=>yy N kd nm ls ah TX at_ c k).getD false
def NU(N:Nat)(kd:Nat->List Int)(nm:Nat->ByteArray)(ls ah:List Int)(TX:ByteArray)(at_:Nat->Lj)(l:List Cd)(x:Int)(k:Nat):Bool:=((l[x.toNat]?).map fun c=>if(c.op.toList==[111,114])=true then c.kids.any fun y=>E3 N kd nm ls ah TX at_ l y k else yy N kd nm ls ah TX at_ c k).getD false
def Zp(l:List Cd)(c:Cd):Prop:=Hz c\/(c.ag=false/\(c.op.toList==[111,114])=true/\∀y∈c.kids,∃j e,y=((j:Nat):Int)/\l[j]?=some e/\Hz e)
theorem LD:pz w X N [] hb:=fun c hc=>by cases hc
theorem A9(D:DocM w X N kd nm ls)(T:xe w X N ls ah TX)(A:U4 w X N at_)(K:yv N kd)(C:Yc w X l){j k:Nat}{c:Cd}(hj:l[j]?=some c)(hc:Hz c)(hk:k<N)(hr:eW w.heap.size w wr):
  Z4 93 #[Z8 X,.int .i64 (j:Nat),.int .i64 (k:Nat)] wr (Z7 (.bool (yy N kd nm ls ah TX at_ c k)) wr):=by
 obtain⟨ai,cap,c4,hn,hX,hcd⟩:=C.gv hr;obtain⟨g,kv,sv,rfl,e0,e1,e2,e3,e4,e5,h1,h2⟩:=hcd j c hj;have Yf:=(List.getElem?_eq_some_iff.1 hj).1;obtain⟨ha,ho,hs⟩:=hc;have D':=D.gv hr;refine EF c4 Yf (by omega) (by rw[<-ha];exact e0) ?_;exact S0 D' (T.gv hr) (A.gv hr) hk c4 Yf (by omega) e0 e1 e2 e3 e4 e5 h1 h2 (fun s hm=>by rw[hs s hm];exact LD) (O4 D' K (fun x hx=>Or.inr (by rw[bG]at hx;omega))) ho
theorem O5(D:DocM w X N kd nm ls)(T:xe w X N ls ah TX)(A:U4 w X N at_)(K:yv N kd)(C:Yc w X l)(hcs:∀x∈cs,∃j c,x=((j:Nat):Int)/\l[j]?=some c/\Zp l c):pz w X N cs (NU N kd nm ls ah TX at_ l):=by
 intro x hx k hk wr hr;obtain⟨j,c,rfl,hj,hc⟩:=hcs x hx;have hv:NU N kd nm ls ah TX at_ l (j:Int) k=if(c.op.toList==[111,114])=true then c.kids.any fun y=>E3 N kd nm ls ah TX at_ l y k else yy N kd nm ls ah TX at_ c k:=by
  unfold NU;rw[aH,hj];rfl
 rw[hv];rcases hc with hc|⟨ha,ho,hks⟩
 ·rw[hc.2.1.1];exact A9 D T A K C hj hc hk hr
 ·rw[ho,if_pos rfl];obtain⟨ai,cap,c4,hn,hX,hcd⟩:=C.gv hr;obtain⟨g,kv,sv,rfl,e0,e1,e2,e3,e4,e5,h1,h2⟩:=hcd j c hj;have Yf:=(List.getElem?_eq_some_iff.1 hj).1;refine EF c4 Yf (by omega) (by rw[<-ha];exact e0) ?_;refine Zf (hb:=E3 N kd nm ls ah TX at_ l) hX c4 Yf (by omega) e0 e1 e2 e3 e4 e5 h1 h2 hk (fun y hy k hk ws hs=>?_) ho;obtain⟨i,e,rfl,hi,he⟩:=hks y hy;have:E3 N kd nm ls ah TX at_ l (i:Int) k=yy N kd nm ls ah TX at_ e k:=by
   unfold E3;rw[aH,hi];rfl
  rw[this];exact A9 D T A K C hi he hk (hr.trans (hs.less hr.1))
end
section
variable{w w' wr w1:World}{v:Value}{cs L ls ah:List Int}{N X g cap k gl D:Nat}{up:Nat->Int}{nm tx:Nat->ByteArray}
structure GV(N:Nat)(up:Nat->Int)(k:Nat)(L:List Int):Prop where
 len:L.length=N
 NQ:∀(j:Nat) x,L[j]?=some x->0<=x/\x<N/\(k<=j->(j:Int)<=x)
 LF:∀(j u:Nat) x y,k<=j->up j=(u:Int)->L[j]?=some x->L[u]?=some y->x<=y
def V6(N:Nat)(up:Nat->Int):Prop:=∀k,k<N->up k= -1\/∃u:Nat,u<k/\up k=(u:Int)
theorem GV.one{x:Int}(h:GV N up (k+1) L)(hk:k<N)(hx:L[k]?=some x):∃z:Nat,max x (k:Int)=z/\z<N/\(L.set k z).length=N/\(L.set k (z:Int))[k]?=some (z:Int)/\(up k= -1->GV N up k (L.set k (z:Int)))/\∀u:Nat,u<k->up k=(u:Int)->∃y,(L.set k (z:Int))[u]?=some y/\GV N up k ((L.set k (z:Int)).set u (max y z)):=by
 obtain⟨h1,h2,-⟩:=h.NQ k x hx;have hl:=h.len;refine⟨(max x (k:Int)).toNat,by omega,by omega,by simp[hl],?_,?_⟩
 ·rw[dC (by omega)]
 ·have e:(((max x (k:Int)).toNat:Nat):Int)=max x k:=by omega
  rw[e];have get:∀(j:Nat) y,(L.set k (max x k))[j]?=some y->(j=k/\y=max x k)\/(j≠k/\L[j]?=some y):=fun j y hy=>by
   by_cases hj:j=k
   ·rw[hj,dC (by omega)]at hy;exact Or.inl ⟨hj,(aX hy).symm⟩
   ·rw[dI (by omega)]at hy;exact Or.inr ⟨hj,hy⟩
  refine⟨fun hu=>⟨by simp[hl],fun j y hy=>?_,fun j u x' y' hj hju hx' hy'=>?_⟩,fun u huk hu=>?_⟩
  ·rcases get j y hy with⟨rfl,rfl⟩|⟨hj,hy⟩
   ·omega
   ·have:=h.NQ j y hy;omega
  ·rcases get j x' hx' with⟨rfl,rfl⟩|⟨hjk,hx2⟩
   ·omega
   ·rcases get u y' hy' with⟨rfl,rfl⟩|⟨hu2,D4⟩
    ·have:=h.LF j u x' x (by omega) hju hx2 hx;omega
    ·exact h.LF j u x' y' (by omega) hju hx2 D4
  ·have Te:u<L.length:=by omega
   refine⟨L[u],by rw[dI (by omega)];exact aF Te,?_⟩;have Zq:=aF Te;have O6:=h.NQ u _ Zq;generalize L[u]=y at*
   have Tf:∀(j:Nat) z,((L.set k (max x k)).set u (max y (max x k)))[j]?=some z->(j=u/\z=max y (max x k))\/(j=k/\z=max x k)\/(j≠k/\j≠u/\L[j]?=some z):=fun j z hz=>by
    by_cases hj:j=u
    ·rw[hj,dC (by simp;omega)]at hz;exact Or.inl ⟨hj,(aX hz).symm⟩
    ·rw[dI (by omega)]at hz;rcases get j z hz with h|h
     ·exact Or.inr (Or.inl h)
     ·exact Or.inr (Or.inr ⟨h.1,hj,h.2⟩)
   refine⟨by simp[hl],fun j z hz=>?_,fun j t x' y' hj hjt hx' hy'=>?_⟩
   ·rcases Tf j z hz with⟨rfl,rfl⟩|⟨rfl,rfl⟩|⟨hjk,-,hz⟩
    ·omega
    ·omega
    ·have:=h.NQ j z hz;omega
   ·rcases Tf j x' hx' with⟨rfl,rfl⟩|⟨rfl,rfl⟩|⟨hjk,hju,hx2⟩
    ·omega
    ·have:t=u:=by omega
     subst this;rcases Tf t y' hy' with⟨-,rfl⟩|⟨e,-⟩|⟨-,e,-⟩<;>omega
    ·have V7:k+1<=j:=by omega
     rcases Tf t y' hy' with⟨rfl,rfl⟩|⟨rfl,rfl⟩|⟨-,-,D4⟩
     ·have:=h.LF j t x' y V7 hjt hx2 Zq;omega
     ·have:=h.LF j t x' x V7 hjt hx2 hx;omega
     ·exact h.LF j t x' y' V7 hjt hx2 D4
theorem GV.zero(N:Nat)(up:Nat->Int):GV N up N (List.replicate N 0):=
 ⟨by simp,fun j x hx=>by
  have:=(List.getElem?_eq_some_iff.1 hx)
  obtain⟨h1,h2⟩:=this;simp at h1 h2;omega,fun j u x y hj _ hx=>by
  have:=(List.getElem?_eq_some_iff.1 hx).1;simp at this;omega⟩
theorem GV.root(h:GV N up 0 L)(hu:V6 N up)(h0:0<N)(hr:∀k,0<k->k<N->up k≠ -1):L[0]?=some ((N:Int)-1):=by
 have hl:=h.len;have all:∀m j:Nat,j<=m->∀x y,L[j]?=some x->L[0]?=some y->x<=y:=fun m=>by
  induction m with
  |zero=>
   intro j hj x y hx hy;obtain rfl:j=0:=by omega
   rw[hx]at hy;cases hy;omega
  |succ m ih=>
   intro j hj x y hx hy;by_cases h0j:j=0
   ·subst h0j;rw[hx]at hy;cases hy;omega
   ·have Yf:=(List.getElem?_eq_some_iff.1 hx).1;rcases hu j (by omega)with e|⟨u,hu1,hu2⟩
    ·exact absurd e (hr j (by omega) (by omega))
    ·have Zq:L[u]?=some L[u]:=aF (by omega);have:=h.LF j u x _ (by omega) hu2 hx Zq;have:=ih u (by omega) _ y Zq hy;omega
 have h1:L[0]?=some L[0]:=aF (by omega);have h2:L[N-1]?=some L[N-1]:=aF (by omega);have a:=h.NQ _ _ h1;have b:=h.NQ _ _ h2;have c:=all (N-1) (N-1) (au _) _ _ h2 h1;rw[h1];congr 1;omega
end
section
variable{w w' wr w1:World}{v:Value}{cs L ls ah:List Int}{N X g cap k gl D:Nat}{up:Nat->Int}{nm tx:Nat->ByteArray}{a0 a1 a2:Value}
def NdU(w:World)(g N:Nat)(tx:Nat->ByteArray)(up:Nat->Int):Prop:=g<w.heap.size/\∀k,k<N->∃nm ai an ac ki kn kc,w.cell? ⟨g,k*5,none⟩=some (.string nm)/\w.cell? ⟨g,k*5+1,none⟩=some (.slice ai an ac)/\w.cell? ⟨g,k*5+2,none⟩=some (.string (tx k))/\w.cell? ⟨g,k*5+3,none⟩=some (.slice ki kn kc)/\w.cell? ⟨g,k*5+4,none⟩=some (.int .i64 (up k))
theorem Ke{m cp:Nat}(h:w.ownsRow 0 3 1 (Z9 gl m cp) m (iC L))(hk:k<m)(x:Int):(w.setCell ⟨gl,k,none⟩ (.int .i64 x)).ownsRow 0 3 1 (Z9 gl m cp) m (iC (L.set k x)):=by
 refine⟨by simpa [iC]using h.1,?_⟩;rcases h.2 with⟨e1,_⟩|⟨g',cap',cur,e1,h0,hg,h1,h2,h3,h4⟩
 ·cases e1
 ·cases e1;refine Or.inr ⟨gl,cp,cur.setIfInBounds k (.int .i64 x),rfl,h0,ej hg _,h1,h2,by simpa using h3,?_⟩;unfold iC at h4 ⊢;rw[Array.toList_setIfInBounds,List.take_set,h4,List.map_set]
theorem O7(N:Nat):iC (List.replicate N 0)=(madeCells (Value.int .i64 0).cells (N*1)).toList:=by
 unfold iC madeCells;refine List.ext_getElem (by simp) fun i h1 h2=>?_;simp only[cL,List.length_replicate]at h1;simp[Value.cells,Nat.mod_one]
theorem H_{m cp:Nat}{x:Int}(h:w.ownsRow 0 3 1 (Z9 gl m cp) m (iC L))(hx:L[k]?=some x)(hk:k<m):(gl<w.heap.size/\∃cur,w.heap[gl]?=some (.cells cur 3 (0,0)))/\w.cell? ⟨gl,k,none⟩=some (.int .i64 x)/\w.frozen? ⟨gl,k,none⟩=false:=by
 have hc:=h.cells (g:=gl) rfl k (.int .i64 x) (by unfold iC;rw[bX,hx];rfl);rw[Addr.add_mid,aG]at hc;rcases h.2 with⟨e1,_⟩|⟨g',cap',cur,e1,h0,hg,h1,h2,h3,h4⟩
 ·cases e1
 ·cases e1;exact⟨⟨dS hg,cur,hg⟩,hc,d_ hg⟩
structure LsM(w:World)(g cap N D gl:Nat)(up:Nat->Int)(k:Nat)(wr:World):Prop where
 ex:∃L,GV N up k L/\wr.ownsRow 0 3 1 (Z9 gl N N) N (iC L)/\wr.heap[D]?=some (.cells #[Z9 g N cap,Z9 gl N N,.string ⟨#[]⟩,.slice none 0 0] 78 (0,0))
 low:Z5 w wr
 new:w.heap.size<=gl/\gl<D
def txt(tx:Nat->ByteArray):Nat->List UInt8
 |0=>[]
 |i+1=>txt tx i++(tx i).data.toList
def xg(tx:Nat->ByteArray)(m:Nat):List Int:=(List.range m).map fun j=>((txt tx j).length:Int)
theorem O8(m:Nat):xg tx (m+1)=xg tx m++[((txt tx m).length:Int)]:=by simp[xg,List.range_succ]
abbrev U5(B b:Nat)(o:List UInt8)(w:World):Prop:=Lib.IsBuilderF 129 5 B b (Lib.byteCells o) w
theorem E5{B b:Nat}{o:List UInt8}(h:U5 B b o w)(ho:o.length<=140737488355328):Z4 49 #[Z8 b] w (Z6 (.int .i64 (o.length:Nat)) w):=by
 obtain⟨a,c,hc⟩:∃a c,w.cell? ⟨b,1,none⟩=some (.slice a o.length c):=by
  rcases h with⟨-,v,hb,hr,-⟩|⟨-,v,hb,hr,-⟩;all_goals
   have hl:(Lib.byteCells o).length=o.length:=by simp[Lib.byteCells]
   rcases hr.2 with⟨rfl,e⟩|⟨g,cap,cur,fz,rfl,-⟩
   ·exact⟨none,0,by rw[cell_of (i:=1) hb rfl,<-hl,e];rfl⟩
   ·exact⟨some ⟨g,0,none⟩,cap,by rw[cell_of (i:=1) hb rfl,<-hl];rfl⟩
 clear h;go_enter func49,ntmps49;go_wp2;go_ret;exact⟨rfl,rfl⟩
theorem U5.grown{B b:Nat}{o:List UInt8}{row:Option Nat}(h:U5 B b o w)(hg:w.grownBy w' row)(hne:∀k,row=some k->∃c t fz,w.heap[k]?=some (.cells c t fz)/\t≠129/\t≠5):U5 B b o w':=by
 have key:∀p,Lib.BuilderAtF 129 5 B b p (Lib.byteCells o) w->Lib.BuilderAtF 129 5 B b p (Lib.byteCells o) w':=fun p ⟨hB,v,hb,hr,hv⟩=>by
  refine⟨hB,v,(hg.block b (dS hb) fun e=>?_).trans hb,hr.kept hg ?_,hv⟩
  ·obtain⟨c,t,fz,h1,h2,-⟩:=hne b e.symm;rw[hb]at h1;cases h1;exact h2 rfl
  ·rcases hr.2 with⟨rfl,-⟩|⟨g,cap,cur,fz,rfl,-,hgc,-⟩
   ·exact Or.inl rfl
   ·refine Or.inr fun e=>?_;obtain⟨c,t,fz',h1,-,h3⟩:=hne g e.symm;rw[hgc]at h1;cases h1;exact h3 rfl
 exact h.imp (key _) (key _)
theorem LG(p:Addr)(u:Value):w.grownBy (w.setCell p u) (some p.block):=⟨rfl,rfl,rfl,by simp[World.setCell],fun k _ hk=>ak _ _ _ _ fun e=>hk (by rw[e])⟩
structure Zr(w:World)(g cap N D gl b:Nat)(L:List Int)(tx:Nat->ByteArray)(i:Nat)(wr:World):Prop where
 ex:∃av,wr.heap[D]?=some (.cells #[Z9 g N cap,Z9 gl N N,.string ⟨#[]⟩,av] 78 (0,0))/\wr.ownsRow 0 3 1 av i (iC (xg tx i))/\∀k,av.ownBlock=some k->w.heap.size<=k/\k≠gl
 row:wr.ownsRow 0 3 1 (Z9 gl N N) N (iC L)
 bld:U5 w.heap.size b (txt tx i) wr
 low:Z5 w wr
 new:w.heap.size<=gl/\gl<D/\D<b
def E6(w:World)(b:Nat)(x0 x1 x2 x3:Value):World:=(((w.setCell ⟨b,0,none⟩ x0).setCell ⟨b,1,none⟩ x1).setCell ⟨b,2,none⟩ x2).setCell ⟨b,3,none⟩ x3
theorem Ia{b k:Nat}(h:k≠b)(x0 x1 x2 x3:Value):(E6 w b x0 x1 x2 x3).heap[k]?=w.heap[k]?:=by
 unfold E6
 iterate 4 rw[ak _ _ _ _ h]
theorem ri{b:Nat}{x0 x1 x2 x3 y0 y1 y2 y3:Value}{t:TypeId}(h:w.heap[b]?=some (.cells #[y0,y1,y2,y3] t (0,0))):(E6 w b x0 x1 x2 x3).heap[b]?=some (.cells #[x0,x1,x2,x3] t (0,0)):=ej (i:=3) (ej (i:=2) (ej (i:=1) (ej (i:=0) h x0) x1) x2) x3
theorem Ib{n b:Nat}(h:Below n w w')(hb:n<=b)(x0 x1 x2 x3:Value):Below n w (E6 w' b x0 x1 x2 x3):=(((h.setCell (p:=⟨b,0,none⟩) hb x0).setCell (p:=⟨b,1,none⟩) hb x1).setCell (p:=⟨b,2,none⟩) hb x2).setCell (p:=⟨b,3,none⟩) hb x3
theorem Ic{b:Nat}{x0 x1 x2 x3 y0 y1 y2 y3:Value}{t:TypeId}(h:w.heap[b]?=some (.cells #[y0,y1,y2,y3] t (0,0))):∃W,E6 w b x0 x1 x2 x3=W/\W.cell? ⟨b,0,none⟩=some x0/\W.cell? ⟨b,1,none⟩=some x1/\W.cell? ⟨b,2,none⟩=some x2/\W.cell? ⟨b,3,none⟩=some x3:=
 ⟨_,rfl,cell_of (v:=x0) (ri h) rfl,cell_of (v:=x1) (ri h) rfl,cell_of (v:=x2) (ri h) rfl,cell_of (v:=x3) (ri h) rfl⟩
def Zs(w:World)(g cap N:Nat)(tx:Nat->ByteArray)(up:Nat->Int)(e:Ending)(w':World):Prop:=∃ls lv av,e=.returned (.agg #[Z9 g N cap,lv,.string (bs (txt tx N)),av])/\GV N up 0 ls/\IR w' lv ls/\IR w' av (xg tx (N+1))/\Z5 w w'
theorem Zr.tell{b i:Nat}{wr w4:World}(hT:Zr w g cap N D gl b L tx i wr)(h4:Z5 wr w4):∃aa an ac,w4.heap[D]?=some (.cells #[Z9 g N cap,Z9 gl N N,.string ⟨#[]⟩,.slice aa an ac] 78 (0,0))/\U5 w.heap.size b (txt tx i) w4/\(w4.alloc (.cells #[.int .i64 ((txt tx i).length:Nat)] 3)).drew.ownsRow 0 3 1 (.slice aa an ac) i (iC (xg tx i))/\
  ∀v8 w8,w8.ownsRow 0 3 1 v8 (i+1) (iC (xg tx i)++[.int .i64 ((txt tx i).length:Nat)])->(w4.alloc (.cells #[.int .i64 ((txt tx i).length:Nat)] 3)).drew.grownBy w8 (Value.slice aa an ac).ownBlock->(v8.ownBlock=(Value.slice aa an ac).ownBlock\/v8.ownBlock=some (w4.alloc (.cells #[.int .i64 ((txt tx i).length:Nat)] 3)).drew.heap.size)->
   w8.heap[D]?=some (.cells #[Z9 g N cap,Z9 gl N N,.string ⟨#[]⟩,.slice aa an ac] 78 (0,0))/\((w8.setCell ⟨D,3,none⟩ v8).heap[D]?=some (.cells #[Z9 g N cap,Z9 gl N N,.string ⟨#[]⟩,v8] 78 (0,0))/\(w8.setCell ⟨D,3,none⟩ v8).ownsRow 0 3 1 v8 (i+1) (iC (xg tx (i+1)))/\(∀k,v8.ownBlock=some k->w.heap.size<=k/\k≠gl)/\(w8.setCell ⟨D,3,none⟩ v8).ownsRow 0 3 1 (Z9 gl N N) N (iC L)/\U5 w.heap.size b (txt tx i) (w8.setCell ⟨D,3,none⟩ v8)/\Z5 w (w8.setCell ⟨D,3,none⟩ v8)/\∀k c fz,wr.heap.size<=k->w4.heap[k]?=some (.cells c 40 fz)->(w8.setCell ⟨D,3,none⟩ v8).heap[k]?=some (.cells c 40 fz)):=by
 obtain⟨av,eE,l8,mN⟩:=hT.ex;obtain⟨aa,an,ac,rfl⟩:=gy l8;have ma:=h4.trans (eJ (((Below.refl w4.heap.size w4).alloc (au _) (.cells #[.int .i64 ((txt tx i).length:Nat)] 3)).drew) h4.size);have D6:=hT.new;have hD4:=(h4.block _ (dS eE)).trans eE;have kb:∀{u:World},Z5 wr u->U5 w.heap.size b (txt tx i) u:=fun hu=>hT.bld.grown (row:=none) ⟨hu.os,hu.tape,hu.output,hu.size,fun k hk _=>hu.block k hk⟩ fun k e=>by cases e
 refine⟨aa,an,ac,hD4,kb h4,dY l8 fun k e=>ma.block k (eu l8 e),fun v8 w8 ho hg hat=>?_⟩;have own:∀k,(Value.slice aa an ac).ownBlock=some k->∃c fz,(w4.alloc (.cells #[.int .i64 ((txt tx i).length:Nat)] 3)).drew.heap[k]?=some (.cells c 3 fz)/\k<wr.heap.size:=fun k e=>by
  obtain⟨-,c,fz,hc⟩:=fg l8 e;exact⟨c,fz,(ma.block k (dS hc)).trans hc,dS hc⟩
 have hD8:w8.heap[D]?=some (.cells #[Z9 g N cap,Z9 gl N N,.string ⟨#[]⟩,.slice aa an ac] 78 (0,0)):=(hg.block D (aq (dS eE) ma.size) fun e=>by
  obtain⟨c,fz,hc,-⟩:=own D e.symm;rw[(ma.block _ (dS eE)).trans eE]at hc;cases hc).trans ((ma.block _ (dS eE)).trans eE)
 have Zt:∀k,v8.ownBlock=some k->w.heap.size<=k/\k≠gl:=fun k e=>by
  rcases hat with x|x
  ·exact mN k (x▸e)
  ·rw[x]at e;cases e;have:=hT.low.size;have:=ma.size;have:=dS eE;exact⟨by omega,by omega⟩
 have st:∀{e:TypeId} {s m:Nat} {u:Value} {zs:List Value},e≠78->w8.ownsRow 0 e s u m zs->(w8.setCell ⟨D,3,none⟩ v8).ownsRow 0 e s u m zs:=fun hne h=>dY h fun k e=>ak _ _ _ _ fun e'=>by
  obtain⟨-,cur,fz,h'⟩:=fg h e;have:k=D:=e';subst this;rw[hD8]at h';cases h';exact hne rfl
 refine⟨hD8,by rw[ej (i:=3) hD8];rfl,?_,Zt,st (by decide) (dY (dY hT.row fun k e=>ma.block k (eu hT.row e)) fun k e=>hg.block k (aq (eu hT.row e) ma.size) fun e'=>?_),?_,?_,fun k c fz hk hc=>?_⟩
 ·rw[O8];exact st (by decide) (by simpa [iC]using ho)
 ·have:k=gl:=by cases e;rfl
  exact(mN k e'.symm).2 this
 ·refine((kb ma).grown hg fun k e=>?_).grown (LG _ _) fun k e=>⟨_,_,_,by cases e;exact hD8,by decide,by decide⟩
  obtain⟨c,fz,hc,-⟩:=own k e;exact⟨c,3,fz,hc,by decide,by decide⟩
 ·refine Below.setCell (p:=⟨D,3,none⟩) ?_ (by simp only;omega) _;exact(hT.low.trans (eJ ma hT.low.size)).grown hg (aw hT.low.size ma.size) fun k e=>(mN k e).1
 ·have h1:(w4.alloc (.cells #[.int .i64 ((txt tx i).length:Nat)] 3)).drew.heap[k]?=some (.cells c 40 fz):=(ay w4 _ k (dS hc)).trans hc;refine(ak _ _ _ _ fun e=>?_).trans ((hg.block k (dS h1) fun e=>?_).trans h1)
  ·have:k=D:=e;have:=dS eE;omega
  ·obtain⟨-,-,-,vB⟩:=own k e.symm;omega
theorem LH(hg:NdU w g N tx up)(hu:V6 N up)(h0:0<N)(hN:N<=1000000000000)(hN2:N<1000000000000)(hTX:∀i,i<=N->(txt tx i).length<=140737488355328):Z4 26 #[Z9 g N cap] w (Zs w g cap N tx up):=by
 obtain⟨i0,hi,hz0,hz1,hz2⟩:=aY wu;obtain⟨W0,hW0⟩:∃W0,w.alloc (.cells #[.slice none 0 0,.slice none 0 0,.string ⟨#[]⟩,.slice none 0 0] 78)=W0:=⟨_,rfl⟩
 have b0:Z5 w W0:=by rw[<-hW0];exact(Below.refl _ w).alloc (au _) _
 have d0:=dT w (.cells #[.slice none 0 0,.slice none 0 0,.string ⟨#[]⟩,.slice none 0 0] 78);rw[hW0]at d0;obtain⟨w1,hr,ho,hgr⟩:=run_make_full (P:=prog) W0 0 31 3 i0 _ 1 underlying31 hi hz0 hz1 .i64 .i64 N (by rw[hz2];omega) (by unfold maxLen;omega) (aB _);have d1:=(hgr.block _ (dS d0) (by simp)).trans d0;have q0:=cell_of (i:=0) d1 rfl;have q1:=cell_of (i:=1) d1 rfl;have q2:=cell_of (i:=2) d1 rfl;have q3:=cell_of (i:=3) d1 rfl;have r0:=d_ (i:=0) d1;have r1:=d_ (i:=1) d1;have r2:=d_ (i:=2) d1;have r3:=d_ (i:=3) d1;go_enter func26,ntmps26;go_wp2_with fail;have hWg:w.heap.size<W0.heap.size:=by rw[<-hW0];simp
 have hg0:NdU W0 g N tx up:=⟨aq hg.1 b0.size,fun k hk=>by
  obtain⟨n',a1,a2,a3,k1,k2,k3,n0,n1,n2,n3,n4⟩:=hg.2 k hk;have up:=fun j u (h:w.cell? ⟨g,j,none⟩=some u)=>(ar (b0.block g hg.1)).trans h;exact⟨n',a1,a2,a3,k1,k2,k3,up _ _ n0,up _ _ n1,up _ _ n2,up _ _ n3,up _ _ n4⟩⟩
 clear hg;have hgz:=hgr.size;have M0:LsM W0 g cap N w1.heap.size W0.heap.size up N (w1.alloc (.cells #[Z9 g N cap,.slice (some ⟨W0.heap.size,0,none⟩) N N,.string ⟨#[]⟩,.slice none 0 0] 78)):=by
  have hlt:=eu ho rfl;refine⟨⟨List.replicate N 0,GV.zero N up,dY (by rw[show iC (List.replicate N 0)=(madeCells (Value.int .i64 0).cells (N*1)).toList from O7 N];exact ho) fun k e=>ay _ _ _ (eu ho e),dT w1 _⟩,((Below.refl W0.heap.size W0).grown hgr (au _) fun k e=>by cases e).alloc hgr.size _,au _,hlt⟩
 have HM0:=a_ M0;generalize (w1.alloc (.cells #[Z9 g N cap,.slice (some ⟨W0.heap.size,0,none⟩) N N,.string ⟨#[]⟩,.slice none 0 0] 78))=W1 at*
 generalize w1.heap.size=D at*
 obtain⟨gl,rV⟩:∃gl,W0.heap.size=gl:=⟨_,rfl⟩
 rw[rV]at HM0 ⊢;have Hd0:=a_ d0;have Hb0:=a_ b0;have HWg:=a_ hWg;have rV:=a_ rV;clear q0 q1 q2 q3 r0 r1 r2 r3 d0 d1 ho hgr hr hgz hWg hW0 b0 M0;go_loopw [4] (fun iv wr=>∃m:Nat,iv=.int .i64 ((m:Int)-1)/\m<=N/\LsM W0 g cap N D gl up m wr) (fun iv _=>(RowKit.intOf iv+1).toNat)
 case atStart=>exact⟨N,rfl,au _,HM0.out⟩
 case round=>
  rename World=>WO
  obtain⟨m,rfl,hm,hM⟩:=hrel;clear HM0;cases m with
  |zero=>
   obtain⟨L,hL,hrow,eE⟩:=hM.ex;have V8:=hM.new;have tJ:=(Below.refl WO.heap.size WO).alloc (au _) (.cells #[.pointer none,.slice none 0 0] 129);have T0:Hid (Zr W0 g cap N D gl WO.heap.size L tx 0 (WO.alloc (.cells #[.pointer none,.slice none 0 0] 129))):=a_ ⟨⟨_,(tJ.block _ (dS eE)).trans eE,bB _ _ _ _,fun k e=>by cases e⟩,dY hrow fun k e=>tJ.block k (eu hrow e),Or.inl ⟨hM.low.size,_,dT WO _,World.ownsRowF_nil _ _ _ _,by simp[Value.ownBlock]⟩,hM.low.trans (eJ tJ hM.low.size),V8.1,V8.2,dS eE⟩;have HL:=a_ hL;have e0:((0:Nat):Int)-1= -1:=rfl;rw[e0];go_wp2_with fail;generalize WO.heap.size=b at*
   generalize (WO.alloc (.cells #[.pointer none,.slice none 0 0] 129))=W3 at*
   clear hM hL hrow eE tJ;go_loopw [56] (fun iv wr=>∃i:Nat,iv=.int .i64 i/\i<=N/\Zr W0 g cap N D gl b L tx i wr) (fun iv _=>N-(RowKit.intOf iv).toNat)
   case atStart=>exact⟨0,rfl,aB _,T0.out⟩
   case round=>
    rename World=>WP
    obtain⟨i,rfl,Hm,hT⟩:=hrel;clear T0;by_cases hlt:i<N
    ·obtain⟨nn,ai,an,ac,ki,kn,kc,n0,n1,n2,n3,n4⟩:=hg0.2 i hlt;have up:∀j u,W0.cell? ⟨g,j,none⟩=some u->WP.cell? ⟨g,j,none⟩=some u:=fun j u h=>(ar (hT.low.block g hg0.1)).trans h;have m0:=up _ _ n0;have m1:=up _ _ n1;have m2:=up _ _ n2;have m3:=up _ _ n3;have m4:=up _ _ n4;have Lc:(i:Int)<N:=by omega
     clear up n0 n1 n2 n3 n4;go_wp2_with fail;have tJ:=(Below.refl WP.heap.size WP).alloc (au _) (.cells #[.string nn,.slice ai an ac,.string (tx i),.slice ki kn kc,.int .i64 (up i)] 40);have bxn:=dT WP (.cells #[.string nn,.slice ai an ac,.string (tx i),.slice ki kn kc,.int .i64 (up i)] 40);obtain⟨aa,V9,V_,sG,hbl,hown,hstep⟩:=hT.tell tJ;have HS:=a_ hstep;generalize (WP.alloc (.cells #[.string nn,.slice ai an ac,.string (tx i),.slice ki kn kc,.int .i64 (up i)] 40))=W4 at*
     have d3:W4.drew.cell? ⟨D,3,none⟩=some (.slice aa V9 V_):=cell_of (w:=W4.drew) sG rfl;have d4:∀o,(W4.alloc o).drew.cell? ⟨D,3,none⟩=some (.slice aa V9 V_):=fun o=>dX (w:=W4.drew) o d3;have Zu:=a_ (E5 (w:=W4.drew) hbl (hTX i (by omega)));have HT:=a_ hT;clear hstep hbl hT sG m0 m1 m2 m3 m4;go_region_law
      (first|(go_simp;refine Zu.out.mono ?_;rintro e w5 ⟨rfl,rfl⟩)|(refine eP rfl (.tmp 61) (.tmp 63) 31 rfl 3 i0 _ 1 8 underlying31 hi hz0 hz1 hz2 rfl (by decide) (.slice aa V9 V_) i (iC (xg tx i)) (by simp[Act.eval,Act.put]) hown ⟨W4.heap.size,0,none⟩ 1 1 [.int .i64 ((txt tx i).length:Nat)] (by simp[Act.eval,Act.put]) rfl (lG (w:=W4.drew) _ _) (by simp[Value.oneCell']) (by unfold maxLen;omega) (by omega) ?_;intro v8 w8 R_ Wa O9;obtain⟨y7,H8⟩:=HS.out _ _ R_ Wa O9;have HH:=a_ H8;clear H8;obtain⟨a8,n8,c8,rfl⟩:=gy R_;have y8:=cell_of (i:=3) y7 rfl;have y9:=d_ (i:=3) y7;clear R_ Wa O9 y7))
     all_goals
      obtain⟨z1,z2,z3,z4,z5,z6,z7⟩:=HH.out;have Zc:=z7 _ _ _ (au _) bxn;generalize (w8.setCell ⟨D,3,none⟩ (.slice a8 n8 c8))=W5 at*
      have k2:W5.cell? ⟨WP.heap.size,2,none⟩=some (.string (tx i)):=cell_of Zc rfl;have HWr:Hid (Z4 50 #[Z8 b,.string (tx i)] W5 fun e w9=>e=.returned (.tuple #[.int .i64 (tx i).size,.nilIface])/\Hid (Zr W0 g cap N D gl b L tx (i+1) w9)):=a_ (by
       refine(K.z_ W0.heap.size b (Lib.byteCells (txt tx i)) (tx i) W5 z5 (by have:=hTX (i+1) (by omega);simp only[txt,ax]at this;simp[Lib.byteCells]at this ⊢;omega) z6.size).mono ?_;rintro e w9 ⟨rfl,hB9,hb9,U6⟩;have lZ:Lib.byteCells (txt tx i)++Lib.strCells (tx i)=Lib.byteCells (txt tx (i+1)):=by simp[Lib.byteCells,Lib.strCells,txt]
       rw[lZ]at hB9;have D6:=HT.out.new;have kp:∀{e:TypeId} {s m:Nat} {u:Value} {zs:List Value},e≠129->e≠5->W5.ownsRow 0 e s u m zs->w9.ownsRow 0 e s u m zs:=fun h1 h2 h=>dY h fun k e=>by
        obtain⟨-,cur,fz,h'⟩:=fg h e;refine(U6 k _ h' (fun e'=>?_) fun c fz' e'=>?_).trans h'.symm
        ·obtain⟨-,v,hb,-⟩|⟨-,v,hb,-⟩:=z5;all_goals
         cases e';rw[hb]at h';cases h';exact h1 rfl
        ·cases e';exact h2 rfl
       exact⟨rfl,a_ ⟨⟨_,U6 D _ z1 (fun e=>by cases e;omega) (fun c fz e=>by cases e),kp (by decide) (by decide) z2,z3⟩,kp (by decide) (by decide) z4,Or.inr hB9,z6.trans hb9,D6⟩⟩)
      clear z1 z2 z3 z4 z5 z6 z7 Zc HH HS Zu hown d3 d4 y8 y9;go_wp2_with(go_at_call 50;refine HWr.out.mono ?_;rintro e w9 ⟨rfl,h9⟩);exact⟨⟨i+1,by simp,by omega,h9.out⟩,by simp only[RowKit.intOf];omega⟩
    ·obtain rfl:i=N:=by omega
     go_wp2_with fail;obtain⟨aa,V9,V_,sG,hbl,hown,hstep⟩:=hT.tell (Below.refl _ _);have HS:=a_ hstep;have d3:WP.drew.cell? ⟨D,3,none⟩=some (.slice aa V9 V_):=cell_of (w:=WP.drew) sG rfl;have d4:∀o,(WP.alloc o).drew.cell? ⟨D,3,none⟩=some (.slice aa V9 V_):=fun o=>dX (w:=WP.drew) o d3;have Zu:=a_ (E5 (w:=WP.drew) hbl (hTX i (by omega)));have D6:=hT.new;clear hstep hbl hT sG;go_region_law
      (first|(go_simp;refine Zu.out.mono ?_;rintro e w5 ⟨rfl,rfl⟩)|(refine eP rfl (.tmp 71) (.tmp 73) 31 rfl 3 i0 _ 1 8 underlying31 hi hz0 hz1 hz2 rfl (by decide) (.slice aa V9 V_) i (iC (xg tx i)) (by simp[Act.eval,Act.put]) hown ⟨WP.heap.size,0,none⟩ 1 1 [.int .i64 ((txt tx i).length:Nat)] (by simp[Act.eval,Act.put]) rfl (lG (w:=WP.drew) _ _) (by simp[Value.oneCell']) (by unfold maxLen;omega) (by omega) ?_;intro v8 w8 R_ Wa O9;obtain⟨y7,H8⟩:=HS.out _ _ R_ Wa O9;have HH:=a_ H8;clear H8;obtain⟨a8,n8,c8,rfl⟩:=gy R_;have y8:=cell_of (i:=3) y7 rfl;have y9:=d_ (i:=3) y7;clear R_ Wa O9 y7))
     all_goals
      obtain⟨z1,z2,z3,z4,z5,z6,-⟩:=HH.out;generalize (w8.setCell ⟨D,3,none⟩ (.slice a8 n8 c8))=W5 at*
      have rb5:W5.heap[w.heap.size]?=some (.cells #[.slice none 0 0,.slice none 0 0,.string ⟨#[]⟩,.slice none 0 0] 78 (0,0)):=(z6.block _ HWg.out).trans Hd0.out;have HSt:Hid (Z4 51 #[Z8 b] W5 fun e w9=>e=.returned (.string (bs (txt tx i)))/\w9.heap[D]?=some (.cells #[Z9 g i cap,Z9 gl i i,.string ⟨#[]⟩,.slice a8 n8 c8] 78 (0,0))/\(w9.setCell ⟨D,2,none⟩ (.string (bs (txt tx i)))).heap[w.heap.size]?=some (.cells #[.slice none 0 0,.slice none 0 0,.string ⟨#[]⟩,.slice none 0 0] 78 (0,0))/\Hid (Zs w g cap i tx up (.returned (.agg #[Z9 g i cap,Z9 gl i i,.string (bs (txt tx i)),.slice a8 n8 c8])) (E6 (w9.setCell ⟨D,2,none⟩ (.string (bs (txt tx i)))) w.heap.size (Z9 g i cap) (Z9 gl i i) (.string (bs (txt tx i))) (.slice a8 n8 c8)))):=a_ (by
       refine(Tryz.Builder_String_any_k W0.heap.size b (txt tx i) W5 z5 z6.size).mono ?_;rintro e w9 ⟨rfl,-,hb9,U6⟩;have U7:=U6 D _ z1 (fun e=>by cases e;omega) (fun c fz e=>by cases e);have abE:=rV.out;have hlt:=HWg.out;have rb9:(w9.setCell ⟨D,2,none⟩ (.string (bs (txt tx i)))).heap[w.heap.size]?=some (.cells #[.slice none 0 0,.slice none 0 0,.string ⟨#[]⟩,.slice none 0 0] 78 (0,0)):=(ak _ _ _ _ (by simp only;omega)).trans ((hb9.block _ hlt).trans rb5);have hz:Z5 w (w9.setCell ⟨D,2,none⟩ (.string (bs (txt tx i)))):=((Hb0.out.trans (eJ z6 Hb0.out.size)).trans (eJ hb9 Hb0.out.size)).setCell (p:=⟨D,2,none⟩) (by simp only;omega) _;have kp:∀{s m:Nat} {u:Value} {zs:List Value},W5.ownsRow 0 3 s u m zs->(E6 (w9.setCell ⟨D,2,none⟩ (.string (bs (txt tx i)))) w.heap.size (Z9 g i cap) (Z9 gl i i) (.string (bs (txt tx i))) (.slice a8 n8 c8)).ownsRow 0 3 s u m zs:=fun h=>dY h fun k e=>by
        obtain⟨-,cur,fz,h'⟩:=fg h e;have hkw:k≠w.heap.size:=fun e'=>by rw[e',rb5]at h';cases h'
        refine(Ia hkw _ _ _ _).trans ((ak _ _ _ _ fun e'=>?_).trans ((U6 k _ h' (fun e'=>?_) fun c fz' e'=>?_).trans h'.symm))
        ·have:k=D:=e';subst this;rw[z1]at h';cases h'
        ·obtain⟨-,v,hb,-⟩|⟨-,v,hb,-⟩:=z5;all_goals
         cases e';rw[hb]at h';cases h'
        ·cases e'
       exact⟨rfl,U7,rb9,a_ ⟨L,_,_,rfl,HL.out,mB (by rw[HL.out.len];exact kp z4) (by rw[HL.out.len];exact hN),mB (by simpa [xg]using kp z2) (by simp[xg];omega),Ib hz (au _) _ _ _ _⟩⟩)
      clear z1 z2 z3 z4 z5 z6 HH HS Zu hown d3 d4 y8 y9 rb5;go_wp2_with(go_at_call 51;refine HSt.out.mono ?_;rintro e w9 ⟨rfl,U7,rb,h9⟩;have q0:=cell_of (i:=0) U7 rfl;have q1:=cell_of (i:=1) U7 rfl;have q2:=cell_of (i:=2) U7 rfl;have q3:=cell_of (i:=3) U7 rfl;have q4:=d_ (i:=2) U7;have s0:=cell_of (i:=0) rb rfl;have s1:=cell_of (i:=1) rb rfl;have s2:=cell_of (i:=2) rb rfl;have s3:=cell_of (i:=3) rb rfl;have f0:=d_ (i:=0) rb;have f1:=d_ (i:=1) rb;have f2:=d_ (i:=2) rb;have f3:=d_ (i:=3) rb);obtain⟨W10,Tg,t0,t1,t2,t3⟩:=Ic (x0:=Z9 g i cap) (x1:=Z9 gl i i) (x2:=.string (bs (txt tx i))) (x3:=.slice a8 n8 c8) rb;have H9:=h9.out;rw[Tg]at H9;unfold E6 at Tg;rw[Tg];refine aJ (v:=.agg #[Z9 g i cap,Z9 gl i i,.string (bs (txt tx i)),.slice a8 n8 c8]) ?_ rfl H9;clear H9 Tg h9 s0 s1 s2 s3 f0 f1 f2 f3 q0 q1 q2 q3 q4 rb U7;simp[results,results26,go_sem,t0,t1,t2,t3]
  |succ k=>
   obtain⟨L,hL,hrow,eE⟩:=hM.ex;obtain⟨x,U1⟩:∃x,L[k]?=some x:=⟨_,aF (by rw[hL.len];omega)⟩
   obtain⟨z,hz,hzN,abw,hgk,Wc,Wh⟩:=hL.one (by omega) U1;obtain⟨g0,g1,g2⟩:=H_ hrow U1 (by omega);have c1:WO.drew.cell? ⟨D,1,none⟩=some (Z9 gl N N):=cell_of (w:=WO.drew) eE rfl;have c2:WO.drew.cell? ⟨gl,k,none⟩=some (.int .i64 x):=g1;have c3:WO.drew.frozen? ⟨gl,k,none⟩=false:=g2;have e1:((k+1:Nat):Int)-1=(k:Nat):=by omega
   rw[e1];have Y6:(k:Int)<N:=by omega
   have hkk:(0:Int)<=k:=by omega
   have hmx:prog.follows .mixedOrders=true:=by kernel_rfl
   have HM:=a_ hM;have HL:=a_ (And.intro hL hrow);clear hM hL hrow eE;go_wp2_with fail
   go_region_o
   have V8:=HM.out.new;obtain⟨W2,hW2⟩:∃W2,(WO.setCell ⟨gl,k,none⟩ (.int .i64 (z:Nat))).drew=W2:=⟨_,rfl⟩
   have Od:Z5 W0 W2:=by rw[<-hW2];exact(HM.out.low.setCell (p:=⟨gl,k,none⟩) V8.1 _).drew
   have hrow2:W2.ownsRow 0 3 1 (Z9 gl N N) N (iC (L.set k (z:Int))):=by rw[<-hW2];exact Ke HL.out.2 (by omega) _
   have sG:W2.heap[D]?=some (.cells #[Z9 g N cap,Z9 gl N N,.string ⟨#[]⟩,.slice none 0 0] 78 (0,0)):=by
    rw[<-hW2];obtain⟨-,-,-,hb⟩:=HM.out.ex;exact(ak WO ⟨gl,k,none⟩ _ D (by simp only;omega)).trans hb
   obtain⟨-,-,-,-,-,-,-,-,-,-,-,n4⟩:=hg0.2 k (by omega);have n4:=(ar (Od.block g hg0.1)).trans n4;rw[hW2];clear hW2 c1 c2 c3 g1 g2 HL HM g0;rcases hu k (by omega)with he|⟨u,huk,he⟩
   ·have iW:=a_ (Wc he);rw[he]at n4;clear Wc Wh;go_wp2;refine⟨⟨k,rfl,by omega,⟨_,iW.out,hrow2,sG⟩,Od,V8⟩,?_⟩;simp only[RowKit.intOf];omega
   ·obtain⟨y,hy,iW⟩:=Wh u huk he;obtain⟨-,y1,y2⟩:=H_ hrow2 hy (by omega);obtain⟨-,y3,-⟩:=H_ hrow2 hgk (by omega);have c1:W2.drew.cell? ⟨D,1,none⟩=some (Z9 gl N N):=cell_of (w:=W2.drew) sG rfl;have c2:W2.drew.cell? ⟨gl,u,none⟩=some (.int .i64 y):=y1;have c3:W2.drew.frozen? ⟨gl,u,none⟩=false:=y2;have c4:W2.drew.cell? ⟨gl,k,none⟩=some (.int .i64 (z:Nat)):=y3;rw[he]at n4;have huN:(u:Int)<N:=by omega
    have Wi:=a_ iW;have Zv:=a_ hrow2;have Zw:=a_ sG;obtain⟨mx,aaS⟩:∃mx,max y (z:Int)=mx:=⟨_,rfl⟩
    clear Wc Wh hrow2 sG y1 y2 y3 iW;go_wp2_with fail
    go_region_o
    rw[aaS]at Wi;have fin:Hid (LsM W0 g cap N D gl up k (W2.setCell ⟨gl,u,none⟩ (.int .i64 mx)).drew):=a_ ⟨⟨_,Wi.out,Ke Zv.out (by omega) mx,(ak W2 ⟨gl,u,none⟩ _ D (by simp only;omega)).trans Zw.out⟩,(Od.setCell (p:=⟨gl,u,none⟩) V8.1 _).drew,V8⟩;clear Wi Zv Zw c1 c2 c3 c4;go_wp2;refine⟨⟨k,rfl,by omega,fin.out⟩,?_⟩;simp only[RowKit.intOf];omega
end
end Go.Proofs.YtclgfepngpeifaaGreatDoor
