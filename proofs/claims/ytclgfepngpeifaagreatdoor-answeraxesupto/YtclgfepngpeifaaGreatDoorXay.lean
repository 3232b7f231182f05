import Derived.Test.YtclgfepngpeifaaGreatDoorXA
import Derived.Test.YtclgfepngpeifaaGreatDoorXae
import Derived.Test.YtclgfepngpeifaaGreatDoorXau
import Derived.Test.YtclgfepngpeifaaGreatDoorXai
import Derived.Test.YtclgfepngpeifaaGreatDoorXaw
set_option linter.unusedVariables false
set_option linter.unusedSimpArgs false
set_option maxHeartbeats 32000000
set_option maxRecDepth 100000
namespace Go.Proofs.YtclgfepngpeifaaGreatDoor
open Go.RowKit Go.Lib Tryz
section
theorem xP:∀{l l':List Int},l.Pairwise (· < ·)->l'.Pairwise (· < ·)->(∀x,x∈l↔x∈l')->l=l'
 |[],[],_,_,_=>rfl
 |[],y::l',_,_,h=>absurd ((h y).2 cr) (by simp)
 |x::l,[],_,_,h=>absurd ((h x).1 cr) (by simp)
 |x::l,y::l',h1,h2,h=>by
  have hx:=(h x).1 cr;have hy:=(h y).2 cr;rw[List.pairwise_cons]at h1 h2;have e:x=y:=by
   rcases List.mem_cons.1 hx with e|e
   ·exact e
   ·rcases List.mem_cons.1 hy with e'|e'
    ·exact e'.symm
    ·have:=h1.1 y e';have:=h2.1 x e;omega
  subst e;rw[xP h1.2 h2.2 fun z=>?_];have hz:=h z;simp only[bM]at hz;constructor
  ·intro k;rcases hz.1 (Or.inr k)with e|e
   ·exact absurd (h1.1 z k) (by omega)
   ·exact e
  ·intro k;rcases hz.2 (Or.inr k)with e|e
   ·exact absurd (h2.1 z k) (by omega)
   ·exact e
def nodeAt(l:List K.Nd)(k:Nat):K.Nd:=(l[k]?).getD ⟨[],[],[],[],-1⟩
def lF(l:List K.Nd)(k:Nat):List Int:=(nodeAt l k).kids.map fun(j:Nat)=>(j:Int)
def ma(l:List K.Nd)(k:Nat):ByteArray:=bs (nodeAt l k).name
def GO(l:List K.Nd)(k:Nat):Bool:=!(nodeAt l k).name.isEmpty
def q9(l:List K.Nd)(el:Bool)(up:Int)(first:Bool)(n:Nat):Bool:=(GO l n==el)&&(decide (up= -2)||decide ((nodeAt l n).up=up))&&(decide (0<n)||first)
def gP(l:List K.Nd)(el:Bool)(up:Int)(first:Bool)(m:Nat):List Int:=((List.range m).filter (q9 l el up first)).map fun(k:Nat)=>(k:Int)
variable{l:List K.Nd}{el first:Bool}{up:Int}{ls:List Int}{hb:Int->Nat->Bool}
theorem wI{k:Nat}{n:K.Nd}(h:l[k]?=some n):nodeAt l k=n:=by unfold nodeAt;rw[h];rfl
theorem mb{k:Nat}(h:k<l.length):l[k]?=some (nodeAt l k):=by rw[aF h,wI (aF h)]
theorem Ng:(gP l el up first l.length).Pairwise (· < ·):=by
 unfold gP;rw[List.pairwise_map];exact(List.pairwise_lt_range.filter _).imp fun h=>by omega
theorem vv{x:Int}:x∈gP l el up first l.length↔∃k:Nat,x=k/\k<l.length/\q9 l el up first k=true:=by
 unfold gP;simp only[List.mem_map,bT,List.mem_range];exact⟨fun⟨k,⟨h1,h2⟩,e⟩=>⟨k,e.symm,h1,h2⟩,fun⟨k,e,h1,h2⟩=>⟨k,⟨h1,h2⟩,e.symm⟩⟩
theorem zK(k:Nat):ur (bs [42]) (ma l k)=GO l k:=by
 unfold ur ma GO;rw[fe,fe];rfl
theorem Q5(k:Nat):ur (bs [35]) (ma l k)=!GO l k:=by
 unfold ur ma GO;rw[fe,fe,Bool.not_not];rfl
theorem po(T:K.pR l){k:Nat}(hk:k<l.length){x:Int}:x∈lF l k↔∃j:Nat,x=j/\j<l.length/\(nodeAt l j).up=(k:Int):=by
 unfold lF;rw[List.mem_map];constructor
 ·rintro⟨j,hj,rfl⟩;obtain⟨m,h1,h2⟩:=(T.kid k _ (mb hk) j).1 hj;exact⟨j,rfl,(List.getElem?_eq_some_iff.1 h1).1,by rw[wI h1];exact h2⟩
 ·rintro⟨j,rfl,h1,h2⟩;exact⟨j,(T.kid k _ (mb hk) j).2 ⟨_,mb h1,h2⟩,rfl⟩
theorem xQ{s e:Nat}{x:Int}:x∈Eu s e↔∃k:Nat,x=k/\s<=k/\k<e:=by
 unfold Eu;rw[List.mem_map];constructor
 ·rintro⟨k,hk,rfl⟩;rw[dP]at hk;exact⟨k,rfl,hk.1,by omega⟩
 ·rintro⟨k,rfl,h1,h2⟩;exact⟨k,by rw[dP];omega,rfl⟩
end
end Go.Proofs.YtclgfepngpeifaaGreatDoor
namespace Go.Proofs.YtclgfepngpeifaaGreatDoor
open Go.RowKit Go.Maps Go.Lib Go.Shelf Tryz
section
variable{w w':World}{v:Value}{B X:Nat}{l:List K.Nd}
def sG(l:List K.Nd)(k:Nat):ByteArray:=bs (nodeAt l k).text
def Gu(l:List K.Nd)(k:Nat):Int:=(nodeAt l k).up
def zL(l:List K.Nd)(k:Nat):K_:=(nodeAt l k).attrs.map fun x=>(bs x.1,bs x.2)
theorem Xd(T:K.pR l):yB l.length (lF l):=by
 refine⟨fun k hk=>?_,fun k j x hk hj h1 h2=>?_,fun k hk h=>?_⟩
 ·unfold lF;refine List.pairwise_map.2 ((T.nd k _ (mb hk)).1.imp fun h e=>h ?_);omega
 ·obtain⟨i,rfl,-,a⟩:=(po T hk).1 h1;obtain⟨i',e,-,b⟩:=(po T hj).1 h2;have:i=i':=by omega
  subst this;rw[a]at b;omega
 ·obtain⟨i,e,hi,a⟩:=(po T hk).1 h;have:i=0:=by omega
  subst this;have:=(T.zero _ (mb hi)).1;omega
theorem Q6(T:K.pR l):VE l.length (Gu l)/\∀k,0<k->k<l.length->Gu l k≠ -1:=by
 have key:∀k,k+1<l.length->∃u:Nat,Gu l (k+1)=u/\u<=k:=fun k hk=>by
  obtain⟨u,h1,h2,-⟩:=T.up k _ (mb hk);exact⟨u,h1,h2⟩
 refine⟨fun k hk=>?_,fun k h0 hk=>?_⟩
 ·cases k with
  |zero=>exact Or.inl (T.zero _ (mb hk)).1
  |succ k=>
   obtain⟨u,h1,h2⟩:=key k hk;exact Or.inr ⟨u,by omega,h1⟩
 ·cases k with
  |zero=>omega
  |succ k=>
   obtain⟨u,h1,h2⟩:=key k hk;omega
theorem Q7(h:K.ZZ B w v l)(h0:0<l.length)(hb:l.length<=1000000000000)(ha:∀n∈l,n.attrs.length<=1000000000000/\n.kids.length<=1000000000000):∃g cap,v=Z9 g l.length cap/\g<w.heap.size/\GG w v l.length (lF l) (ma l)/\XL w g l.length (sG l) (Gu l)/\∀k,k<l.length->∃u,w.cell? ⟨g,k*5+1,none⟩=some u/\AR w u (zL l k):=by
 obtain⟨A,K',av,kv,hn,-⟩:=h;obtain⟨g,cap,rfl,-,-,q0,-⟩:=hn.cells 0 _ (mb h0);have hg:=aD _ _ q0;have hc:l.length<=cap:=by
  rcases hn.row.2 with⟨e,_⟩|⟨g',cap',cur,e,-,-,h,-⟩<;>cases e
  exact h
 have key:∀k,k<l.length->w.cell? ⟨g,k*5,none⟩=some (.string (ma l k))/\w.cell? ⟨g,k*5+1,none⟩=some (av k)/\w.cell? ⟨g,k*5+2,none⟩=some (.string (sG l k))/\w.cell? ⟨g,k*5+3,none⟩=some (kv k)/\w.cell? ⟨g,k*5+4,none⟩=some (.int .i64 (Gu l k))/\IR w (kv k) (lF l k)/\AR w (av k) (zL l k):=fun k hk=>by
  obtain⟨g',cap',e,-,-,c0,c1,c2,c3,c4⟩:=hn.cells k _ (mb hk);cases e;have hm:=ha _ (bO (mb hk));refine⟨c0,c1,c2,c3,c4,?_,?_⟩
  ·refine lh (l:=lF l k) ?_ (by simpa [lF]using hm.2);have:=hn.kid k _ (mb hk);simpa [lF,g_,K.e8,Function.comp_def]using this
  ·have ho:=hn.attr k _ (mb hk);obtain⟨ai,ac,e,Xv,hr⟩:=Hl ho;refine⟨ai,ac,by rw[e];simp[zL],⟨by simpa [zL]using Xv,by simpa [zL]using hm.1⟩,fun i x hx=>?_⟩;unfold zL at hx;rw[bW]at hx;obtain⟨y,hy,rfl⟩:=Option.map_eq_some_iff.1 hx;obtain⟨ga,e1,Yl,hr⟩:=hr (by have:=(List.getElem?_eq_some_iff.1 hy).1;omega);have at_:=fun j (hj:j<2)=>xE (f:=fun a:List UInt8×List UInt8=>[K.eu a.1,K.eu a.2]) (s:=2) (fun _=>rfl) _ i j y hy hj;exact⟨ga,e1,Yl,hr _ _ (at_ 0 (by omega)),hr _ _ (at_ 1 (by omega))⟩
 refine⟨g,cap,rfl,hg,⟨g,cap,rfl,⟨hc,hb⟩,hg,fun k hk=>?_⟩,⟨hg,fun k hk=>?_⟩,fun k hk=>?_⟩
 ·obtain⟨c0,c1,c2,c3,c4,i1,i2⟩:=key k hk;exact⟨c0,_,c3,i1⟩
 ·obtain⟨c0,c1,c2,c3,c4,⟨ki,kc,e,-⟩,ai,ac,e2,-⟩:=key k hk;exact⟨_,ai,_,ac,ki,_,kc,c0,by rw[<-e2];exact c1,c2,by rw[<-e];exact c3,c4⟩
 ·obtain⟨c0,c1,c2,c3,c4,i1,i2⟩:=key k hk;exact⟨_,c1,i2⟩
end
end Go.Proofs.YtclgfepngpeifaaGreatDoor
namespace Go.Proofs.YtclgfepngpeifaaGreatDoor
namespace K
open Go.RowKit Go.Lib Tryz
section
variable{g:Gr}{t:eX}
def jE(l:List Nd):Nat:=(l.map fun n=>1+n.text.length+n.attrs.length).sum
theorem zM:∀(l:List Nd) (k j:Nat),jE (fJ l k j)=jE l
 |[],_,_=>rfl
 |n::l,0,j=>rfl
 |n::l,k+1,j=>by simp only[fJ,jE,bN,List.sum_cons];rw[show (List.map (fun n=>1+n.text.length+n.attrs.length) (fJ l k j)).sum=jE (fJ l k j)from rfl,zM l k j];rfl
theorem Ku(g:Gr)(n:Nd):jE (g.put n).nodes=jE g.nodes+(1+n.text.length+n.attrs.length):=by
 unfold Gr.put;have app:∀(a:List Nd) (m:Nd),jE (a++[m])=jE a+(1+m.text.length+m.attrs.length):=fun a m=>by simp[jE]
 split
 ·rw[app]
 ·rw[app,zM]
theorem Q8(h:BZ t):1+t.text.length+t.attrs.length<=(jh t).length:=by
 rcases h with⟨k,_,_,_,e⟩|⟨k,_,e1,e2⟩|⟨k,_,e,_⟩
 ·have h3:∀a:mn,a.length<=(a.flatMap kt).length:=fun a=>by
   induction a with
   |nil=>simp
   |cons x a ih=>simp only[cE,ax,aC,kt];omega
  have:=h3 t.attrs;unfold jh;rw[if_pos k,e];simp only[aC,ax,aI];omega
 ·have:=Gk t;rw[e1,e2];simpa using this
 ·have h3:jh t=Ch.sA false t.text++marks:=by unfold jh;rw[if_neg (by omega),if_neg (by omega)]
  have h7:=Ch.J5 false t.text;have:marks.length=27:=rfl;rw[h3,e,ax];simp only[aI];omega
theorem zN(g:Gr)(h:BZ t):jE (g.take t).2.nodes<=jE g.nodes+(jh t).length:=by
 have hb:=Q8 h;unfold Gr.take;split
 ·split
  ·simp only;omega
  ·split
   ·simp only;omega
   ·simp only[Ku,elemOf,aI];omega
 ·split
  ·split
   ·simp only;omega
   ·split<;>simp only<;>omega
  ·split
   ·split<;>simp only<;>omega
   ·simp only[Ku,ja,aI];omega
theorem Gv:∀(l:List eX) (g:Gr) (b:Bool),lX b l->jE (grow g l).2.2.nodes<=jE g.nodes+cost l
 |[],g,b,_=>by simp[grow]
 |t::l,g,b,hc=>by
  have e:cost (t::l)=(jh t).length+cost l:=by simp[cost]
  rw[e];simp only[grow];split
  ·simp only;omega
  ·have:=Gv l (g.take t).2 _ hc.2.2;have:=zN g hc.1;omega
theorem Cm(s:ByteArray):jE (eJ s).1<=64*s.size:=by
 unfold eJ;split
 ·simp[jE]
 ·split
  ·simp[jE]
  ·split
   ·simp[jE]
   ·have h1:=Gv _ Gr.zero _ (Ci s);have h2:=tW s;have h3:jE Gr.zero.nodes=0:=rfl;simp only;omega
theorem JA:∀(l:List Nd) (n:Nd),n∈l->n.text.length+n.attrs.length<=jE l
 |[],n,h=>by simp at h
 |m::l,n,h=>by
  have e:jE (m::l)=1+m.text.length+m.attrs.length+jE l:=by simp[jE]
  rcases List.mem_cons.1 h with rfl|h
  ·omega
  ·have:=JA l n h;omega
theorem DV:∀(l:List Nd),l.length<=jE l
 |[]=>by simp
 |m::l=>by
  have e:jE (m::l)=1+m.text.length+m.attrs.length+jE l:=by simp[jE]
  have:=DV l;rw[aC];omega
end
end K
end Go.Proofs.YtclgfepngpeifaaGreatDoor
namespace Go.Proofs.YtclgfepngpeifaaGreatDoor
open Go.RowKit Go.Maps Go.Lib Go.Shelf Tryz
section
variable{w w' w1 w3 w5:World}{v:Value}{B X:Nat}{l:List K.Nd}{a:Addr}
theorem Kv(gl:K.Gl w a)(h:Below w.heap.size w w'):K.Gl w' a:=gl.frame (F:=fun _=>False) (K.Frame.below h) (fun _ _ x=>x)
theorem Kw(l:List K.Nd):∀i,i<=l.length->(txt (sG l) i).length<=K.jE (l.take i)
 |0,_=>by simp[txt]
 |i+1,h=>by
  have:=Kw l i (by omega);rw[cy,mb (show i<l.length by omega)];have e:K.jE (l.take i++(some (nodeAt l i)).toList)=K.jE (l.take i)+(1+(nodeAt l i).text.length+(nodeAt l i).attrs.length):=by simp[K.jE]
  rw[e,txt,ax];have:(sG l i).data.toList.length=(nodeAt l i).text.length:=by unfold sG;rw[oO]
  omega
theorem zN(l:List K.Nd)(i:Nat):K.jE (l.take i)<=K.jE l:=by
 have:K.jE l=K.jE (l.take i)+K.jE (l.drop i):=by
  unfold K.jE;rw[<-List.sum_append,<-bE,List.take_append_drop]
 omega
theorem T_{g cap:Nat}{ls:List Int}{lv av u m:Value}(T:K.pR l)(h0:0<l.length)(hb:l.length<1000000000000)(hX:w5.heap[X]?=some (.cells #[v,lv,.string (bs (txt (sG l) l.length)),av,u,m] 84 (0,0)))(hv:v=Z9 g l.length cap)(hn:GG w5 v l.length (lF l) (ma l))(hg:g<w5.heap.size)(hat:∀k,k<l.length->∃u,w5.cell? ⟨g,k*5+1,none⟩=some u/\AR w5 u (zL l k))(hl:GK l.length (Gu l) 0 ls)(h1:IR w5 lv ls)(h2:IR w5 av (xp (sG l) (l.length+1))):
  DocM w5 X l.length (lF l) (ma l) ls/\xm w5 X l.length ls (xp (sG l) (l.length+1)) (bs (txt (sG l) l.length))/\UH w5 X l.length (zL l):=by
 have Nx:vO l.length ls:=⟨hl.len,fun x hx=>by
  obtain⟨j,hj⟩:=dg hx;have:=hl.Ny j x hj;omega⟩
 have mono:∀i j,i<=j->(txt (sG l) i).length<=(txt (sG l) j).length:=fun i j h=>by
  induction h with
  |refl=>exact au _
  |step _ ih=>rw[txt,ax];omega
 have ahg:∀(i:Nat) x,(xp (sG l) (l.length+1))[i]?=some x->i<l.length+1/\x=((txt (sG l) i).length:Int):=fun i x hx=>by
  unfold xp at hx;rw[bW]at hx;obtain⟨j,hj,rfl⟩:=Option.map_eq_some_iff.1 hx;obtain⟨h,e⟩:=List.getElem?_eq_some_iff.1 hj;simp at h e;subst e;exact⟨h,rfl⟩
 refine⟨⟨dQ hX,⟨v,cell_of hX rfl,hn⟩,⟨lv,cell_of hX rfl,h1⟩,Nx,by omega,fun k hk x hx=>?_,h0⟩,⟨dQ hX,⟨lv,cell_of hX rfl,h1⟩,cell_of hX rfl,⟨av,cell_of hX rfl,h2⟩,Nx,fun i x hx=>(hl.Ny i x hx).2.2 (aB _),by simp[xp],fun i j x y YH hx hy=>?_,fun x hx=>?_,by omega⟩,⟨g,cap,by rw[<-hv];exact cell_of hX rfl,⟨dQ hX,hg⟩,hat⟩⟩
 ·obtain⟨j,rfl,hj,-⟩:=(po T hk).1 hx;omega
 ·obtain⟨-,rfl⟩:=ahg i x hx;obtain⟨-,rfl⟩:=ahg j y hy;have:=mono i j YH;omega
 ·obtain⟨j,hj⟩:=dg hx;obtain⟨Vr,rfl⟩:=ahg j x hj;have:=mono j l.length (by omega);rw[gY];omega
def EvQ(w:World)(l:List K.Nd)(S:List oh×List Cd)(e:Ending)(w':World):Prop:=∃ls ah TX va vn vc,e=.returned (.tuple #[.slice va vn vc,.int .i64 0,.int .i64 0,.int .i64 0])/\GK l.length (Gu l) 0 ls/\IR w' (.slice va vn vc) (Lib.compact (ry (mj l.length (lF l) (ma l) ls (NC l.length (lF l) (ma l) ls ah TX (zL l) S.2) S.1 (-1))))/\Below w.heap.size w w'
theorem Q9{g cap:Nat}{ls:List Int}{lv av u m:Value}{S:List oh×List Cd}{ra:Option Addr}{rn rc:Nat}(T:K.pR l)(h0:0<l.length)(hb:l.length<1000000000000)(hw:Below w.heap.size w w5)(C:CS (fun _=>False) X v lv (.string (bs (txt (sG l) l.length))) av m w5 u S.2)(hs:SR (fun _=>False) w5 (.slice ra rn rc) S.1)(hv:v=Z9 g l.length cap)(hn:GG w5 v l.length (lF l) (ma l))(hg:g<w5.heap.size)(hat:∀k,k<l.length->∃u,w5.cell? ⟨g,k*5+1,none⟩=some u/\AR w5 u (zL l k))(hl:GK l.length (Gu l) 0 ls)(h1:IR w5 lv ls)(h2:IR w5 av (xp (sG l) (l.length+1)))
  (hcs:∀s∈S.1,∀x∈s.2.2,∃j c,x=((j:Nat):Int)/\S.2[j]?=some c/\XJ S.2 c):
  Z4 28 #[Z8 X,.slice ra rn rc,.int .i64 (-1)] w5 fun e w6=>∃gf lb,e=.returned (.func (.func gf) #[] lb)/\Hid (Z4 27 #[.slice none 0 0,.func (.func gf) #[] lb] w6 fun e w7=>∃va vn vc,e=.returned (.slice va vn vc)/\Hid (Z4 30 #[.slice va vn vc] w7 fun e w8=>e=.returned (.tuple #[])/\Hid (Z4 31 #[.slice va vn vc] w8 fun e w9=>∃xa xn xc,e=.returned (.slice xa xn xc)/\Hid (EvQ w l S (.returned (.tuple #[.slice xa xn xc,.int .i64 0,.int .i64 0,.int .i64 0])) w9)))):=by
 obtain⟨D,TT,A⟩:=T_ T h0 hb C.blk hv hn hg hat hl h1 h2;have KO:=Xd T;have hf:kM l.length [(-1:Int)]:=fun x hx=>Or.inl (by simpa using hx);have hH:=fun s hm=>OQ (cs:=s.2.2) D TT A KO C.cdm (hcs s hm);have hlen:=OP (hb:=NC l.length (lF l) (ma l) ls (xp (sG l) (l.length+1)) (bs (txt (sG l) l.length)) (zL l) S.2) (gJ:=S.1) D KO hf;refine(Ou D hf hs.stp hH hlen).mono ?_;rintro e w6 ⟨gf,lb,rfl,eg,Xl,hseq⟩;obtain⟨L,hL⟩:∃L,mj l.length (lF l) (ma l) ls (NC l.length (lF l) (ma l) ls (xp (sG l) (l.length+1)) (bs (txt (sG l) l.length)) (zL l) S.2) S.1 (-1)=L:=⟨_,rfl⟩
 have hLl:L.length<=1000000000000:=by
  rw[<-hL];unfold mj;cases h:S.1.getLast? with
  |none=>simp
  |some s=>exact hlen _ s (by rw[List.getLast?_eq_getElem?]at h;exact h)
 rw[hL]at hseq;refine⟨gf,lb,rfl,a_ ((ux w6 gf lb eg hseq hLl).mono ?_)⟩;rintro e w7 ⟨va,vn,vc,rfl,ho,Ns⟩;have b7:=zR (zR hw Xl) Ns;have own:∀k,(Value.slice va vn vc).ownBlock=some k->w.heap.size<=k:=fun k e=>by
  have:=(eY ho e).1;have:=(zR hw Xl).size;omega
 refine⟨va,vn,vc,rfl,a_ ((EA (EC ho) (by omega)).mono ?_)⟩;rintro e w8 ⟨rfl,Ru,VK⟩;have b8:=b7.grown VK b7.size own;rw[<-uy]at Ru;refine⟨rfl,a_ ((EB Ru (by rw[uy];omega)).mono ?_)⟩;rintro e w9 ⟨v',rfl,UK,hg9,-⟩;obtain⟨xa,xn,xc,rfl⟩:=fT UK;refine⟨xa,xn,xc,rfl,a_ ⟨ls,xp (sG l) (l.length+1),bs (txt (sG l) l.length),xa,xn,xc,rfl,hl,?_,b8.grown hg9 b8.size own⟩⟩;rw[hL];refine lh UK ?_;have:=yq (ry L);rw[uy]at this;omega
end
section
variable{w w' w1 w3 w5:World}{v:Value}{B X:Nat}{l:List K.Nd}{a:Addr}
theorem Xe{g cap pg:Nat}{path:gh}{S:List oh×List Cd}{pu:Value}(T:K.pR l)(h0:0<l.length)(hb:l.length<1000000000000)(MN:∀i,i<=l.length->(txt (sG l) i).length<=140737488355328)(hw:Below w.heap.size w w1)(hn:GG w1 (Z9 g l.length cap) l.length (lF l) (ma l))(hg:g<w1.heap.size)(hU:XL w1 g l.length (sG l) (Gu l))(hat:∀k,k<l.length->∃u,w1.cell? ⟨g,k*5+1,none⟩=some u/\AR w1 u (zL l k))
  (hpc:w1.cell? ⟨pg,0,none⟩=some pu) (hp:qd w1 (fun b=>b<w1.heap.size) 144 146 pu path) (ho:Ac (JY 2) path) (hS:jS 0 false path=S) (hz:S.2.length<=1000) (hcs:∀s∈S.1,∀x∈s.2.2,∃j c,x=((j:Nat):Int)/\S.2[j]?=some c/\XJ S.2 c):
  Z4 26 #[Z9 g l.length cap] w1 fun e w3=>∃li ln lc TX ai an ac pi pn pp,e=.returned (.agg #[Z9 g l.length cap,.slice li ln lc,.string TX,.slice ai an ac])/\((w3.alloc (.map #[] 0)).alloc (.cells #[Z9 g l.length cap,.slice li ln lc,.string TX,.slice ai an ac,.slice none 0 0,.map (some w3.heap.size)] 84)).cell? ⟨pg,0,none⟩=some (.slice pi pn pp)/\
   Hid (Z4 29 #[.pointer (some ⟨w3.heap.size+1,4,none⟩),.slice pi pn pp,.bool false] ((w3.alloc (.map #[] 0)).alloc (.cells #[Z9 g l.length cap,.slice li ln lc,.string TX,.slice ai an ac,.slice none 0 0,.map (some w3.heap.size)] 84)) fun e w5=>∃ra rn rc,e=.returned (.slice ra rn rc)/\Hid (Z4 28 #[.pointer (some ⟨w3.heap.size+1,0,none⟩),.slice ra rn rc,.int .i64 (-1)] w5 fun e w6=>∃gf lb,e=.returned (.func (.func gf) #[] lb)/\Hid (Z4 27 #[.slice none 0 0,.func (.func gf) #[] lb] w6 fun e w7=>∃va vn vc,e=.returned (.slice va vn vc)/\Hid (Z4 30 #[.slice va vn vc] w7 fun e w8=>e=.returned (.tuple #[])/\Hid (Z4 31 #[.slice va vn vc] w8 fun e w9=>∃xa xn xc,e=.returned (.slice xa xn xc)/\Hid (EvQ w l S (.returned (.tuple #[.slice xa xn xc,.int .i64 0,.int .i64 0,.int .i64 0])) w9)))))):=by
 refine(Lt (cap:=cap) hU (Q6 T).1 h0 (by omega) hb MN).mono ?_;rintro e w3 ⟨ls,lv,av,rfl,hl,h1,h2,hb3⟩;obtain⟨li,lc,rfl,-⟩:=id h1;obtain⟨ai,ac,rfl,-⟩:=id h2;obtain⟨pi,pp,rfl⟩:=hp.shape;obtain⟨W4,Uz⟩:∃W4,(w3.alloc (.map #[] 0)).alloc (.cells #[Z9 g l.length cap,.slice li ls.length lc,.string (bs (txt (sG l) l.length)),.slice ai (xp (sG l) (l.length+1)).length ac,.slice none 0 0,.map (some w3.heap.size)] 84)=W4:=⟨_,rfl⟩
 have b4:Below w3.heap.size w3 W4:=by rw[<-Uz];exact((Below.refl _ w3).alloc (au _) _).alloc (by simp) _
 have bx:W4.heap[w3.heap.size+1]?=some (.cells #[Z9 g l.length cap,.slice li ls.length lc,.string (bs (txt (sG l) l.length)),.slice ai (xp (sG l) (l.length+1)).length ac,.slice none 0 0,.map (some w3.heap.size)] 84 (0,0)):=by
  have:=dR (w3.alloc (.map #[] 0)) (.cells #[Z9 g l.length cap,.slice li ls.length lc,.string (bs (txt (sG l) l.length)),.slice ai (xp (sG l) (l.length+1)).length ac,.slice none 0 0,.map (some w3.heap.size)] 84);rw[bL,Uz]at this;exact this
 have b14:=hb3.trans (eG b4 hb3.size);have C:CS (fun _=>False) (w3.heap.size+1) (Z9 g l.length cap) (.slice li ls.length lc) (.string (bs (txt (sG l) l.length))) (.slice ai (xp (sG l) (l.length+1)).length ac) (.map (some w3.heap.size)) W4 (.slice none 0 0) []:=⟨bx,⟨[],rfl,bA _ _ _ _,fun x hx=>by cases hx⟩,by simp⟩
 have hM:Move (fun b=>b<w1.heap.size) (fun b=>b<w3.heap.size) w1 W4:=fun b hb' hl'=>⟨aq hl' hb3.size,b14.block b hl'⟩
 refine⟨li,_,lc,_,ai,_,ac,pi,path.len,pp,rfl,?_,a_ ?_⟩
 ·rw[Uz];exact(ar (b14.block _ (aD _ _ hpc))).trans hpc
 rw[Uz];have hS':jS ([]:List Cd).length false path=S:=hS;refine(EG (inner:=false) (lo:=w3.heap.size) (q:=JY 2) C (fun b h=>h.elim) ⟨by omega,b4.size,fun k e=>by cases e⟩ (hp.move hM) ho (fun ps h=>⟨EK 2 false ps h,fun e=>by cases e⟩) (by rw[hS'];simpa using hz)).mono ?_;rw[hS'];rintro e w5 ⟨u,ra,rn,rc,rfl,hs,C5,f5⟩;rw[bH]at C5;have b5:Below w3.heap.size w3 w5:=⟨f5.fr.os.trans b4.os,f5.fr.tape.trans b4.tape,f5.fr.output.trans b4.output,aw b4.size f5.fr.size,fun k hk=>(f5.fr.block k (aq hk b4.size) fun e=>by
  rcases e with e|e
  ·omega
  ·cases e).trans (b4.block k hk)⟩
 have b15:=hb3.trans (eG b5 hb3.size);refine⟨ra,rn,rc,rfl,a_ (Q9 T h0 hb (hw.trans (eG b15 hw.size)) C5 hs rfl (hn.below b15) (aq hg b15.size) (fun k hk=>?_) hl (h1.below b5) (h2.below b5) hcs)⟩;obtain⟨x,c,hx⟩:=hat k hk;exact⟨x,(ar (b15.block g hg)).trans c,hx.gm (bc b15)⟩
theorem Ua{doc:ByteArray}{q:L}{path:List iE}{S:List oh×List Cd}(gl:K.Gl w a)(hd:doc.size<=268435456)(hp:(K.eJ doc).2.1=0)(hq:parse q=.ok [path])(ho:Ac (JY 2) (gh.of path))(hS:jS 0 false (gh.of path)=S)(hz:S.2.length<=1000)(hcs:∀s∈S.1,∀x∈s.2.2,∃j c,x=((j:Nat):Int)/\S.2[j]?=some c/\XJ S.2 c):
  Z4 9 #[.string doc,.string (bs q)] w (EvQ w (K.eJ doc).1 S):=by
 obtain⟨T,h0⟩:=K.jB hp;have aac:=K.Cm doc;have hlen:=K.DV (K.eJ doc).1;have H1:Hid (Z4 25 #[.string (bs q)] w fun e w1=>∃pg pc,e=.returned (.tuple #[Z9 pg 1 pc,.int .i64 0,.int .i64 0])/\Hid (Z4 5 #[.string doc] w1 fun e w2=>∃g cap N at_,e=.returned (.tuple #[Z9 g N cap,.int .i64 0,.int .i64 at_])/\Hid (Z4 26 #[Z9 g N cap] w2 fun e w3=>∃li ln lc TX ai an ac pi pn pp,e=.returned (.agg #[Z9 g N cap,.slice li ln lc,.string TX,.slice ai an ac])/\((w3.alloc (.map #[] 0)).alloc (.cells #[Z9 g N cap,.slice li ln lc,.string TX,.slice ai an ac,.slice none 0 0,.map (some w3.heap.size)] 84)).cell? ⟨pg,0,none⟩=some (.slice pi pn pp)/\
   Hid (Z4 29 #[.pointer (some ⟨w3.heap.size+1,4,none⟩),.slice pi pn pp,.bool false] ((w3.alloc (.map #[] 0)).alloc (.cells #[Z9 g N cap,.slice li ln lc,.string TX,.slice ai an ac,.slice none 0 0,.map (some w3.heap.size)] 84)) fun e w5=>∃ra rn rc,e=.returned (.slice ra rn rc)/\Hid (Z4 28 #[.pointer (some ⟨w3.heap.size+1,0,none⟩),.slice ra rn rc,.int .i64 (-1)] w5 fun e w6=>∃gf lb,e=.returned (.func (.func gf) #[] lb)/\Hid (Z4 27 #[.slice none 0 0,.func (.func gf) #[] lb] w6 fun e w7=>∃va vn vc,e=.returned (.slice va vn vc)/\Hid (Z4 30 #[.slice va vn vc] w7 fun e w8=>e=.returned (.tuple #[])/\Hid (Z4 31 #[.slice va vn vc] w8 fun e w9=>∃xa xn xc,e=.returned (.slice xa xn xc)/\Hid (EvQ w (K.eJ doc).1 S (.returned (.tuple #[.slice xa xn xc,.int .i64 0,.int .i64 0,.int .i64 0])) w9))))))))):=a_ (by
  refine(qj q w).mono ?_;rw[hq];rintro e w1 ⟨hb1,pv,rfl,hQ⟩;rcases hQ with⟨h,-⟩|⟨pg,pc,cur,rfl,hA,hpg,-,-,hr⟩
  ·simp at h
  obtain⟨pu,hpc,JR⟩:=hr 0 path rfl;refine⟨pg,pc,rfl,a_ ((K.qj doc w1 (Kv gl hb1) hd).mono ?_)⟩;rintro e w2 ⟨v,rfl,hN,hb2,-⟩;obtain⟨g,cap,rfl,hg,hn,hU,hat⟩:=Q7 hN h0 (by omega) fun n hn=>⟨by have:=K.JA _ n hn;omega,by
   obtain⟨k,hk⟩:=dg hn;have:=rE (K.eJ doc).1.length (n.kids.map fun(j:Nat)=>(j:Int)) (List.pairwise_map.2 ((T.nd k n hk).1.imp fun h e=>h (by omega))) fun x hx=>by
    obtain⟨j,hj,rfl⟩:=List.mem_map.1 hx;obtain⟨m,hm,-⟩:=(T.kid k n hk j).1 hj;have:=(List.getElem?_eq_some_iff.1 hm).1;omega
   rw[cJ]at this;omega⟩
  refine⟨g,cap,_,_,by rw[hp],a_ (Xe T h0 (by omega) (fun i hi=>?_) (hb1.trans (eG hb2 hb1.size)) hn hg hU hat ((ar (hb2.block _ (aD _ _ hpc))).trans hpc) (JR.move fun b hb' hl'=>⟨aq hl' hb2.size,hb2.block b hl'⟩) ho hS hz hcs)⟩;have:=Kw (K.eJ doc).1 i hi;have:=zN (K.eJ doc).1 i;omega)
 generalize EvQ w (K.eJ doc).1 S=PP at*
 clear gl hd hp hq ho hS hz hcs T h0 aac hlen;generalize bs q=Q at*
 have WM:∀W:World,(Instr.makeMap 80 none).run prog W=.ok (.map (some W.heap.size)) (W.alloc (.map #[] 0)):=fun W=>rfl;go_enter func9,ntmps9;go_wp2_with(first|(go_at_call 25;refine H1.out.mono ?_;rintro e w1 ⟨pg,pc,rfl,H2⟩;clear H1)|(go_at_call 5;refine H2.out.mono ?_;rintro e w2 ⟨g,cap,N,at_,rfl,H3⟩;clear H2)|(go_at_call 26;refine H3.out.mono ?_;rintro e w3 ⟨li,ln,lc,TX,ai,an,ac,pi,pn,pp,rfl,cp,H4⟩;clear H3));obtain⟨W4,Uz⟩:∃W4,(w3.alloc (.map #[] 0)).alloc (.cells #[Z9 g N cap,.slice li ln lc,.string TX,.slice ai an ac,.slice none 0 0,.map (some w3.heap.size)] 84)=W4:=⟨_,rfl⟩
 rw[Uz]at H4 cp ⊢;clear Uz WM;go_loopw [13,42] (fun av iv wr=>(iv=.int .i64 0/\av=.slice none 0 0/\wr=W4)\/(iv=.int .i64 1/\∃va vn vc,av=.slice va vn vc/\Hid (Z4 30 #[.slice va vn vc] wr fun e w8=>e=.returned (.tuple #[])/\Hid (Z4 31 #[.slice va vn vc] w8 fun e w9=>∃xa xn xc,e=.returned (.slice xa xn xc)/\Hid (PP (.returned (.tuple #[.slice xa xn xc,.int .i64 0,.int .i64 0,.int .i64 0])) w9))))) (fun _ iv _=>1-(RowKit.intOf iv).toNat)
 case atStart=>exact Or.inl ⟨rfl,rfl,rfl⟩
 case round=>
  rcases hrel with⟨rfl,rfl,rfl⟩|⟨rfl,va,vn,vc,rfl,H7⟩
  ·go_wp2_with(first|(go_at_call 29;refine H4.out.mono ?_;rintro e w5 ⟨ra,rn,rc,rfl,H5⟩;clear H4)|(go_at_call 28;refine H5.out.mono ?_;rintro e w6 ⟨gf,lb,rfl,H6⟩;clear H5)|(go_at_call 27;refine H6.out.mono ?_;rintro e w7 ⟨va,vn,vc,rfl,H7⟩;clear H6));exact⟨Or.inr ⟨rfl,va,vn,vc,rfl,H7⟩,by simp[RowKit.intOf]⟩
  ·clear H4 cp;go_wp2_with(first|(go_at_call 30;refine H7.out.mono ?_;rintro e w8 ⟨rfl,H8⟩;clear H7)|(go_at_call 31;refine H8.out.mono ?_;rintro e w9 ⟨xa,xn,xc,rfl,H9⟩;clear H8));exact aJ (v:=.tuple #[.slice xa xn xc,.int .i64 0,.int .i64 0,.int .i64 0]) (by simp[results,results9,go_sem]) rfl H9.out
end
def qA:L:=[47,42]
def pA:List iE:=[⟨false,[42],.nil⟩]
theorem Ub:parse qA=.ok [pA]:=by kernel_rfl
def qB:L:=[47,42,47,42]
def pB:List iE:=[⟨false,[42],.nil⟩,⟨false,[42],.nil⟩]
theorem Uc:parse qB=.ok [pB]:=by kernel_rfl
def qC:L:=[47,47,42]
def pC:List iE:=[⟨true,[42],.nil⟩]
theorem Ud:parse qC=.ok [pC]:=by kernel_rfl
def qD:L:=[47,47,116,101,120,116,40,41]
def pD:List iE:=[⟨true,[35],.nil⟩]
theorem Ue:parse qD=.ok [pD]:=by kernel_rfl
def qF:L:=[47,42,47,47,42]
def pF:List iE:=[⟨false,[42],.nil⟩,⟨true,[42],.nil⟩]
theorem Uf:parse qF=.ok [pF]:=by kernel_rfl
def qG:L:=[47,42,47,116,101,120,116,40,41]
def pG:List iE:=[⟨false,[42],.nil⟩,⟨false,[35],.nil⟩]
theorem Ug:parse qG=.ok [pG]:=by kernel_rfl
def qH:L:=[47,47,42,91,116,101,120,116,40,41,32,111,114,32,46,47,47,42,47,116,101,120,116,40,41,93,47,116,101,120,116,40,41]
def pH:List iE:=[⟨true,[42],.cons X4 (.cons Cv .nil (.cons false [35] .nil .nil) [] [] (.cons Cv .nil (.cons true [42] .nil (.cons false [35] .nil .nil)) [] [] .nil)) .nil [] [] .nil⟩,⟨false,[35],.nil⟩]
theorem Uh:parse qH=.ok [pH]:=by kernel_rfl
def qI:L:=[47,116,101,120,116,40,41]
def pI:List iE:=[⟨false,[35],.nil⟩]
theorem Ui:parse qI=.ok [pI]:=by kernel_rfl
def qZ:L:=[47,97,47,98,91,64,107,61,39,49,39,93]
def pZ:List iE:=[⟨false,[97],.nil⟩,⟨false,[98],.cons [61] .nil .nil [107] [49] .nil⟩]
theorem Uj:parse qZ=.ok [pZ]:=by kernel_rfl
end Go.Proofs.YtclgfepngpeifaaGreatDoor
