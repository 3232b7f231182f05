import Derived.Test.YtclgfepngpeifaaGreatDoorYA
import Derived.Test.YtclgfepngpeifaaGreatDoorYae
import Derived.Test.YtclgfepngpeifaaGreatDoorYau
import Derived.Test.YtclgfepngpeifaaGreatDoorYai
import Derived.Test.YtclgfepngpeifaaGreatDoorYaw
set_option linter.unusedVariables false
set_option linter.unusedSimpArgs false
set_option maxHeartbeats 32000000
set_option maxRecDepth 100000
namespace Go.Proofs.YtclgfepngpeifaaGreatDoor
open Go.RowKit Go.Lib Tryz
section
theorem KE:∀{l l':List Int},l.Pairwise (· < ·)->l'.Pairwise (· < ·)->(∀x,x∈l↔x∈l')->l=l'
 |[],[],_,_,_=>rfl
 |[],y::l',_,_,h=>absurd ((h y).2 cu) (by simp)
 |x::l,[],_,_,h=>absurd ((h x).1 cu) (by simp)
 |x::l,y::l',h1,h2,h=>by
  have hx:=(h x).1 cu;have hy:=(h y).2 cu;rw[List.pairwise_cons]at h1 h2;have e:x=y:=by
   rcases List.mem_cons.1 hx with e|e
   ·exact e
   ·rcases List.mem_cons.1 hy with e'|e'
    ·exact e'.symm
    ·have:=h1.1 y e';have:=h2.1 x e;omega
  subst e;rw[KE h1.2 h2.2 fun z=>?_];have hz:=h z;simp only[bN]at hz;constructor
  ·intro k;rcases hz.1 (Or.inr k)with e|e
   ·exact absurd (h1.1 z k) (by omega)
   ·exact e
  ·intro k;rcases hz.2 (Or.inr k)with e|e
   ·exact absurd (h2.1 z k) (by omega)
   ·exact e
def nodeAt(l:List K.Nd)(k:Nat):K.Nd:=(l[k]?).getD ⟨[],[],[],[],-1⟩
def pR(l:List K.Nd)(k:Nat):List Int:=(nodeAt l k).kids.map fun(j:Nat)=>(j:Int)
def tL(l:List K.Nd)(k:Nat):ByteArray:=bs (nodeAt l k).name
def isE(l:List K.Nd)(k:Nat):Bool:=!(nodeAt l k).name.isEmpty
variable{l:List K.Nd}{el first:Bool}{up:Int}{ls:List Int}{hb:Int->Nat->Bool}
theorem Cg{k:Nat}{n:K.Nd}(h:l[k]?=some n):nodeAt l k=n:=by unfold nodeAt;rw[h];rfl
theorem nt{k:Nat}(h:k<l.length):l[k]?=some (nodeAt l k):=by rw[aF h,Cg (aF h)]
theorem Rg(k:Nat):xd (bs [42]) (tL l k)=isE l k:=by
 unfold xd tL isE;rw[fE,fE];rfl
theorem xK(T:K.pL l){k:Nat}(hk:k<l.length){x:Int}:x∈pR l k↔∃j:Nat,x=j/\j<l.length/\(nodeAt l j).up=(k:Int):=by
 unfold pR;rw[List.mem_map];constructor
 ·rintro⟨j,hj,rfl⟩;obtain⟨m,h1,h2⟩:=(T.kid k _ (nt hk) j).1 hj;exact⟨j,rfl,(List.getElem?_eq_some_iff.1 h1).1,by rw[Cg h1];exact h2⟩
 ·rintro⟨j,rfl,h1,h2⟩;exact⟨j,(T.kid k _ (nt hk) j).2 ⟨_,nt h1,h2⟩,rfl⟩
theorem Uv{s e:Nat}{x:Int}:x∈GN s e↔∃k:Nat,x=k/\s<=k/\k<e:=by
 unfold GN;rw[List.mem_map];constructor
 ·rintro⟨k,hk,rfl⟩;rw[dR]at hk;exact⟨k,rfl,hk.1,by omega⟩
 ·rintro⟨k,rfl,h1,h2⟩;exact⟨k,by rw[dR];omega,rfl⟩
end
end Go.Proofs.YtclgfepngpeifaaGreatDoor
namespace Go.Proofs.YtclgfepngpeifaaGreatDoor
open Go.RowKit Go.Maps Go.Lib Go.Shelf Tryz
section
variable{w w':World}{v:Value}{B X:Nat}{l:List K.Nd}
def tH(l:List K.Nd)(k:Nat):ByteArray:=bs (nodeAt l k).text
def Rh(l:List K.Nd)(k:Nat):Int:=(nodeAt l k).up
def xL(l:List K.Nd)(k:Nat):Lj:=(nodeAt l k).attrs.map fun x=>(bs x.1,bs x.2)
theorem XD(T:K.pL l):yv l.length (pR l):=by
 refine⟨fun k hk=>?_,fun k j x hk hj h1 h2=>?_,fun k hk h=>?_⟩
 ·unfold pR;refine List.pairwise_map.2 ((T.nd k _ (nt hk)).1.imp fun h e=>h ?_);omega
 ·obtain⟨i,rfl,-,a⟩:=(xK T hk).1 h1;obtain⟨i',e,-,b⟩:=(xK T hj).1 h2;have:i=i':=by omega
  subst this;rw[a]at b;omega
 ·obtain⟨i,e,hi,a⟩:=(xK T hk).1 h;have:i=0:=by omega
  subst this;have:=(T.zero _ (nt hi)).1;omega
theorem aan(T:K.pL l):V6 l.length (Rh l)/\∀k,0<k->k<l.length->Rh l k≠ -1:=by
 have key:∀k,k+1<l.length->∃u:Nat,Rh l (k+1)=u/\u<=k:=fun k hk=>by
  obtain⟨u,h1,h2,-⟩:=T.up k _ (nt hk);exact⟨u,h1,h2⟩
 refine⟨fun k hk=>?_,fun k h0 hk=>?_⟩
 ·cases k with
  |zero=>exact Or.inl (T.zero _ (nt hk)).1
  |succ k=>
   obtain⟨u,h1,h2⟩:=key k hk;exact Or.inr ⟨u,by omega,h1⟩
 ·cases k with
  |zero=>omega
  |succ k=>
   obtain⟨u,h1,h2⟩:=key k hk;omega
theorem Ri(h:K.aaj B w v l)(h0:0<l.length)(hb:l.length<=1000000000000)(ha:∀n∈l,n.attrs.length<=1000000000000/\n.kids.length<=1000000000000):∃g cap,v=Z9 g l.length cap/\g<w.heap.size/\J1 w v l.length (pR l) (tL l)/\NdU w g l.length (tH l) (Rh l)/\∀k,k<l.length->∃u,w.cell? ⟨g,k*5+1,none⟩=some u/\AR w u (xL l k):=by
 obtain⟨A,K',av,kv,hn,-⟩:=h;obtain⟨g,cap,rfl,-,-,q0,-⟩:=hn.cells 0 _ (nt h0);have hg:=aD _ _ q0;have hc:l.length<=cap:=by
  rcases hn.row.2 with⟨e,_⟩|⟨g',cap',cur,e,-,-,h,-⟩<;>cases e
  exact h
 have key:∀k,k<l.length->w.cell? ⟨g,k*5,none⟩=some (.string (tL l k))/\w.cell? ⟨g,k*5+1,none⟩=some (av k)/\w.cell? ⟨g,k*5+2,none⟩=some (.string (tH l k))/\w.cell? ⟨g,k*5+3,none⟩=some (kv k)/\w.cell? ⟨g,k*5+4,none⟩=some (.int .i64 (Rh l k))/\IR w (kv k) (pR l k)/\AR w (av k) (xL l k):=fun k hk=>by
  obtain⟨g',cap',e,-,-,c0,c1,c2,c3,c4⟩:=hn.cells k _ (nt hk);cases e;have hm:=ha _ (bP (nt hk));refine⟨c0,c1,c2,c3,c4,?_,?_⟩
  ·refine mB (l:=pR l k) ?_ (by simpa [pR]using hm.2);have:=hn.kid k _ (nt hk);simpa [pR,iC,K.fj,Function.comp_def]using this
  ·have ho:=hn.attr k _ (nt hk);obtain⟨ai,ac,e,X0,hr⟩:=Ho ho;refine⟨ai,ac,by rw[e];simp[xL],⟨by simpa [xL]using X0,by simpa [xL]using hm.1⟩,fun i x hx=>?_⟩;unfold xL at hx;rw[bX]at hx;obtain⟨y,hy,rfl⟩:=Option.map_eq_some_iff.1 hx;obtain⟨ga,e1,YN,hr⟩:=hr (by have:=(List.getElem?_eq_some_iff.1 hy).1;omega);have at_:=fun j (hj:j<2)=>xz (f:=fun a:List UInt8×List UInt8=>[K.eA a.1,K.eA a.2]) (s:=2) (fun _=>rfl) _ i j y hy hj;exact⟨ga,e1,YN,hr _ _ (at_ 0 (by omega)),hr _ _ (at_ 1 (by omega))⟩
 refine⟨g,cap,rfl,hg,⟨g,cap,rfl,⟨hc,hb⟩,hg,fun k hk=>?_⟩,⟨hg,fun k hk=>?_⟩,fun k hk=>?_⟩
 ·obtain⟨c0,c1,c2,c3,c4,i1,i2⟩:=key k hk;exact⟨c0,_,c3,i1⟩
 ·obtain⟨c0,c1,c2,c3,c4,⟨ki,kc,e,-⟩,ai,ac,e2,-⟩:=key k hk;exact⟨_,ai,_,ac,ki,_,kc,c0,by rw[<-e2];exact c1,c2,by rw[<-e];exact c3,c4⟩
 ·obtain⟨c0,c1,c2,c3,c4,i1,i2⟩:=key k hk;exact⟨_,c1,i2⟩
end
end Go.Proofs.YtclgfepngpeifaaGreatDoor
namespace Go.Proofs.YtclgfepngpeifaaGreatDoor
namespace K
open Go.RowKit Go.Lib Tryz
section
variable{g:Gr}{t:fe}
def jG(l:List Nd):Nat:=(l.map fun n=>1+n.text.length+n.attrs.length).sum
theorem zF:∀(l:List Nd) (k j:Nat),jG (fJ l k j)=jG l
 |[],_,_=>rfl
 |n::l,0,j=>rfl
 |n::l,k+1,j=>by simp only[fJ,jG,bO,List.sum_cons];rw[show (List.map (fun n=>1+n.text.length+n.attrs.length) (fJ l k j)).sum=jG (fJ l k j)from rfl,zF l k j];rfl
theorem KF(g:Gr)(n:Nd):jG (g.put n).nodes=jG g.nodes+(1+n.text.length+n.attrs.length):=by
 unfold Gr.put;have app:∀(a:List Nd) (m:Nd),jG (a++[m])=jG a+(1+m.text.length+m.attrs.length):=fun a m=>by simp[jG]
 split
 ·rw[app]
 ·rw[app,zF]
theorem Rj(h:zt t):1+t.text.length+t.attrs.length<=(jl t).length:=by
 rcases h with⟨k,_,_,_,e⟩|⟨k,_,e1,e2⟩|⟨k,_,e,_⟩
 ·have h3:∀a:lK,a.length<=(a.flatMap kz).length:=fun a=>by
   induction a with
   |nil=>simp
   |cons x a ih=>simp only[cG,ax,aC,kz];omega
  have:=h3 t.attrs;unfold jl;rw[if_pos k,e];simp only[aC,ax,aI];omega
 ·have:=Gq t;rw[e1,e2];simpa using this
 ·have h3:jl t=Ch.rX false t.text++marks:=by unfold jl;rw[if_neg (by omega),if_neg (by omega)]
  have h7:=Ch.Kb false t.text;have:marks.length=27:=rfl;rw[h3,e,ax];simp only[aI];omega
theorem zG(g:Gr)(h:zt t):jG (g.take t).2.nodes<=jG g.nodes+(jl t).length:=by
 have hb:=Rj h;unfold Gr.take;split
 ·split
  ·simp only;omega
  ·split
   ·simp only;omega
   ·simp only[KF,elemOf,aI];omega
 ·split
  ·split
   ·simp only;omega
   ·split<;>simp only<;>omega
  ·split
   ·split<;>simp only<;>omega
   ·simp only[KF,jd,aI];omega
theorem Gy:∀(l:List fe) (g:Gr) (b:Bool),nN b l->jG (grow g l).2.2.nodes<=jG g.nodes+cost l
 |[],g,b,_=>by simp[grow]
 |t::l,g,b,hc=>by
  have e:cost (t::l)=(jl t).length+cost l:=by simp[cost]
  rw[e];simp only[grow];split
  ·simp only;omega
  ·have:=Gy l (g.take t).2 _ hc.2.2;have:=zG g hc.1;omega
theorem vY(s:ByteArray):jG (eZ s).1<=64*s.size:=by
 unfold eZ;split
 ·simp[jG]
 ·split
  ·simp[jG]
  ·split
   ·simp[jG]
   ·have h1:=Gy _ Gr.zero _ (vW s);have h2:=tG s;have h3:jG Gr.zero.nodes=0:=rfl;simp only;omega
theorem JF:∀(l:List Nd) (n:Nd),n∈l->n.text.length+n.attrs.length<=jG l
 |[],n,h=>by simp at h
 |m::l,n,h=>by
  have e:jG (m::l)=1+m.text.length+m.attrs.length+jG l:=by simp[jG]
  rcases List.mem_cons.1 h with rfl|h
  ·omega
  ·have:=JF l n h;omega
theorem xM:∀(l:List Nd),l.length<=jG l
 |[]=>by simp
 |m::l=>by
  have e:jG (m::l)=1+m.text.length+m.attrs.length+jG l:=by simp[jG]
  have:=xM l;rw[aC];omega
end
end K
end Go.Proofs.YtclgfepngpeifaaGreatDoor
namespace Go.Proofs.YtclgfepngpeifaaGreatDoor
open Go.RowKit Go.Maps Go.Lib Go.Shelf Tryz
section
variable{w w' w1 w3 w5:World}{v:Value}{B X:Nat}{l:List K.Nd}{a:Addr}
theorem KG(gl:K.Gl w a)(h:Below w.heap.size w w'):K.Gl w' a:=gl.frame (F:=fun _=>False) (K.Frame.below h) (fun _ _ x=>x)
theorem KH(l:List K.Nd):∀i,i<=l.length->(txt (tH l) i).length<=K.jG (l.take i)
 |0,_=>by simp[txt]
 |i+1,h=>by
  have:=KH l i (by omega);rw[cB,nt (show i<l.length by omega)];have e:K.jG (l.take i++(some (nodeAt l i)).toList)=K.jG (l.take i)+(1+(nodeAt l i).text.length+(nodeAt l i).attrs.length):=by simp[K.jG]
  rw[e,txt,ax];have:(tH l i).data.toList.length=(nodeAt l i).text.length:=by unfold tH;rw[oQ]
  omega
theorem zG(l:List K.Nd)(i:Nat):K.jG (l.take i)<=K.jG l:=by
 have:K.jG l=K.jG (l.take i)+K.jG (l.drop i):=by
  unfold K.jG;rw[<-List.sum_append,<-bF,List.take_append_drop]
 omega
theorem Uw{g cap:Nat}{ls:List Int}{lv av u m:Value}(T:K.pL l)(h0:0<l.length)(hb:l.length<1000000000000)(hX:w5.heap[X]?=some (.cells #[v,lv,.string (bs (txt (tH l) l.length)),av,u,m] 84 (0,0)))(hv:v=Z9 g l.length cap)(hn:J1 w5 v l.length (pR l) (tL l))(hg:g<w5.heap.size)(hat:∀k,k<l.length->∃u,w5.cell? ⟨g,k*5+1,none⟩=some u/\AR w5 u (xL l k))(hl:GV l.length (Rh l) 0 ls)(h1:IR w5 lv ls)(h2:IR w5 av (xg (tH l) (l.length+1))):
  DocM w5 X l.length (pR l) (tL l) ls/\xe w5 X l.length ls (xg (tH l) (l.length+1)) (bs (txt (tH l) l.length))/\U4 w5 X l.length (xL l):=by
 have NP:vy l.length ls:=⟨hl.len,fun x hx=>by
  obtain⟨j,hj⟩:=di hx;have:=hl.NQ j x hj;omega⟩
 have mono:∀i j,i<=j->(txt (tH l) i).length<=(txt (tH l) j).length:=fun i j h=>by
  induction h with
  |refl=>exact au _
  |step _ ih=>rw[txt,ax];omega
 have ahg:∀(i:Nat) x,(xg (tH l) (l.length+1))[i]?=some x->i<l.length+1/\x=((txt (tH l) i).length:Int):=fun i x hx=>by
  unfold xg at hx;rw[bX]at hx;obtain⟨j,hj,rfl⟩:=Option.map_eq_some_iff.1 hx;obtain⟨h,e⟩:=List.getElem?_eq_some_iff.1 hj;simp at h e;subst e;exact⟨h,rfl⟩
 refine⟨⟨dS hX,⟨v,cell_of hX rfl,hn⟩,⟨lv,cell_of hX rfl,h1⟩,NP,by omega,fun k hk x hx=>?_,h0⟩,⟨dS hX,⟨lv,cell_of hX rfl,h1⟩,cell_of hX rfl,⟨av,cell_of hX rfl,h2⟩,NP,fun i x hx=>(hl.NQ i x hx).2.2 (aB _),by simp[xg],fun i j x y Y9 hx hy=>?_,fun x hx=>?_,by omega⟩,⟨g,cap,by rw[<-hv];exact cell_of hX rfl,⟨dS hX,hg⟩,hat⟩⟩
 ·obtain⟨j,rfl,hj,-⟩:=(xK T hk).1 hx;omega
 ·obtain⟨-,rfl⟩:=ahg i x hx;obtain⟨-,rfl⟩:=ahg j y hy;have:=mono i j Y9;omega
 ·obtain⟨j,hj⟩:=di hx;obtain⟨VQ,rfl⟩:=ahg j x hj;have:=mono j l.length (by omega);rw[gS];omega
def EvQ(w:World)(l:List K.Nd)(S:List pC×List Cd)(e:Ending)(w':World):Prop:=∃ls ah TX va vn vc,e=.returned (.tuple #[.slice va vn vc,.int .i64 0,.int .i64 0,.int .i64 0])/\GV l.length (Rh l) 0 ls/\IR w' (.slice va vn vc) (Lib.compact (uh (mb l.length (pR l) (tL l) ls (NU l.length (pR l) (tL l) ls ah TX (xL l) S.2) S.1 (-1))))/\Below w.heap.size w w'
theorem Rk{g cap:Nat}{ls:List Int}{lv av u m:Value}{S:List pC×List Cd}{ra:Option Addr}{rn rc:Nat}(T:K.pL l)(h0:0<l.length)(hb:l.length<1000000000000)(hw:Below w.heap.size w w5)(C:CS (fun _=>False) X v lv (.string (bs (txt (tH l) l.length))) av m w5 u S.2)(hs:SR (fun _=>False) w5 (.slice ra rn rc) S.1)(hv:v=Z9 g l.length cap)(hn:J1 w5 v l.length (pR l) (tL l))(hg:g<w5.heap.size)(hat:∀k,k<l.length->∃u,w5.cell? ⟨g,k*5+1,none⟩=some u/\AR w5 u (xL l k))(hl:GV l.length (Rh l) 0 ls)(h1:IR w5 lv ls)(h2:IR w5 av (xg (tH l) (l.length+1)))
  (hcs:∀s∈S.1,∀x∈s.2.2,∃j c,x=((j:Nat):Int)/\S.2[j]?=some c/\Zp S.2 c):
  Z4 28 #[Z8 X,.slice ra rn rc,.int .i64 (-1)] w5 fun e w6=>∃gf lb,e=.returned (.func (.func gf) #[] lb)/\Hid (Z4 27 #[.slice none 0 0,.func (.func gf) #[] lb] w6 fun e w7=>∃va vn vc,e=.returned (.slice va vn vc)/\Hid (Z4 30 #[.slice va vn vc] w7 fun e w8=>e=.returned (.tuple #[])/\Hid (Z4 31 #[.slice va vn vc] w8 fun e w9=>∃xa xn xc,e=.returned (.slice xa xn xc)/\Hid (EvQ w l S (.returned (.tuple #[.slice xa xn xc,.int .i64 0,.int .i64 0,.int .i64 0])) w9)))):=by
 obtain⟨D,TT,A⟩:=Uw T h0 hb C.blk hv hn hg hat hl h1 h2;have KO:=XD T;have hf:kK l.length [(-1:Int)]:=fun x hx=>Or.inl (by simpa using hx);have hH:=fun s hm=>O5 (cs:=s.2.2) D TT A KO C.cdm (hcs s hm);have hlen:=O4 (hb:=NU l.length (pR l) (tL l) ls (xg (tH l) (l.length+1)) (bs (txt (tH l) l.length)) (xL l) S.2) (gQ:=S.1) D KO hf;refine(OH D hf hs.stp hH hlen).mono ?_;rintro e w6 ⟨gf,lb,rfl,eg,XQ,hseq⟩;obtain⟨L,hL⟩:∃L,mb l.length (pR l) (tL l) ls (NU l.length (pR l) (tL l) ls (xg (tH l) (l.length+1)) (bs (txt (tH l) l.length)) (xL l) S.2) S.1 (-1)=L:=⟨_,rfl⟩
 have hLl:L.length<=1000000000000:=by
  rw[<-hL];unfold mb;cases h:S.1.getLast? with
  |none=>simp
  |some s=>exact hlen _ s (by rw[List.getLast?_eq_getElem?]at h;exact h)
 rw[hL]at hseq;refine⟨gf,lb,rfl,a_ ((ug w6 gf lb eg hseq hLl).mono ?_)⟩;rintro e w7 ⟨va,vn,vc,rfl,ho,NK⟩;have b7:=zM (zM hw XQ) NK;have own:∀k,(Value.slice va vn vc).ownBlock=some k->w.heap.size<=k:=fun k e=>by
  have:=(fg ho e).1;have:=(zM hw XQ).size;omega
 refine⟨va,vn,vc,rfl,a_ ((EA (EC ho) (by omega)).mono ?_)⟩;rintro e w8 ⟨rfl,R_,Wa⟩;have b8:=b7.grown Wa b7.size own;rw[<-uj]at R_;refine⟨rfl,a_ ((EB R_ (by rw[uj];omega)).mono ?_)⟩;rintro e w9 ⟨v',rfl,U6,hg9,-⟩;obtain⟨xa,xn,xc,rfl⟩:=gy U6;refine⟨xa,xn,xc,rfl,a_ ⟨ls,xg (tH l) (l.length+1),bs (txt (tH l) l.length),xa,xn,xc,rfl,hl,?_,b8.grown hg9 b8.size own⟩⟩;rw[hL];refine mB U6 ?_;have:=yj (uh L);rw[uj]at this;omega
end
section
variable{w w' w1 w3 w5:World}{v:Value}{B X:Nat}{l:List K.Nd}{a:Addr}
theorem XE{g cap pg:Nat}{path:gw}{S:List pC×List Cd}{pu:Value}(T:K.pL l)(h0:0<l.length)(hb:l.length<1000000000000)(MY:∀i,i<=l.length->(txt (tH l) i).length<=140737488355328)(hw:Below w.heap.size w w1)(hn:J1 w1 (Z9 g l.length cap) l.length (pR l) (tL l))(hg:g<w1.heap.size)(hU:NdU w1 g l.length (tH l) (Rh l))(hat:∀k,k<l.length->∃u,w1.cell? ⟨g,k*5+1,none⟩=some u/\AR w1 u (xL l k))
  (hpc:w1.cell? ⟨pg,0,none⟩=some pu) (hp:p9 w1 (fun b=>b<w1.heap.size) 144 146 pu path) (ho:z8 (J6 2) path) (hS:jW 0 false path=S) (hz:S.2.length<=1000) (hcs:∀s∈S.1,∀x∈s.2.2,∃j c,x=((j:Nat):Int)/\S.2[j]?=some c/\Zp S.2 c):
  Z4 26 #[Z9 g l.length cap] w1 fun e w3=>∃li ln lc TX ai an ac pi pn pp,e=.returned (.agg #[Z9 g l.length cap,.slice li ln lc,.string TX,.slice ai an ac])/\((w3.alloc (.map #[] 0)).alloc (.cells #[Z9 g l.length cap,.slice li ln lc,.string TX,.slice ai an ac,.slice none 0 0,.map (some w3.heap.size)] 84)).cell? ⟨pg,0,none⟩=some (.slice pi pn pp)/\
   Hid (Z4 29 #[.pointer (some ⟨w3.heap.size+1,4,none⟩),.slice pi pn pp,.bool false] ((w3.alloc (.map #[] 0)).alloc (.cells #[Z9 g l.length cap,.slice li ln lc,.string TX,.slice ai an ac,.slice none 0 0,.map (some w3.heap.size)] 84)) fun e w5=>∃ra rn rc,e=.returned (.slice ra rn rc)/\Hid (Z4 28 #[.pointer (some ⟨w3.heap.size+1,0,none⟩),.slice ra rn rc,.int .i64 (-1)] w5 fun e w6=>∃gf lb,e=.returned (.func (.func gf) #[] lb)/\Hid (Z4 27 #[.slice none 0 0,.func (.func gf) #[] lb] w6 fun e w7=>∃va vn vc,e=.returned (.slice va vn vc)/\Hid (Z4 30 #[.slice va vn vc] w7 fun e w8=>e=.returned (.tuple #[])/\Hid (Z4 31 #[.slice va vn vc] w8 fun e w9=>∃xa xn xc,e=.returned (.slice xa xn xc)/\Hid (EvQ w l S (.returned (.tuple #[.slice xa xn xc,.int .i64 0,.int .i64 0,.int .i64 0])) w9)))))):=by
 refine(LH (cap:=cap) hU (aan T).1 h0 (by omega) hb MY).mono ?_;rintro e w3 ⟨ls,lv,av,rfl,hl,h1,h2,hb3⟩;obtain⟨li,lc,rfl,-⟩:=id h1;obtain⟨ai,ac,rfl,-⟩:=id h2;obtain⟨pi,pp,rfl⟩:=hp.shape;obtain⟨W4,UW⟩:∃W4,(w3.alloc (.map #[] 0)).alloc (.cells #[Z9 g l.length cap,.slice li ls.length lc,.string (bs (txt (tH l) l.length)),.slice ai (xg (tH l) (l.length+1)).length ac,.slice none 0 0,.map (some w3.heap.size)] 84)=W4:=⟨_,rfl⟩
 have b4:Below w3.heap.size w3 W4:=by rw[<-UW];exact((Below.refl _ w3).alloc (au _) _).alloc (by simp) _
 have bx:W4.heap[w3.heap.size+1]?=some (.cells #[Z9 g l.length cap,.slice li ls.length lc,.string (bs (txt (tH l) l.length)),.slice ai (xg (tH l) (l.length+1)).length ac,.slice none 0 0,.map (some w3.heap.size)] 84 (0,0)):=by
  have:=dT (w3.alloc (.map #[] 0)) (.cells #[Z9 g l.length cap,.slice li ls.length lc,.string (bs (txt (tH l) l.length)),.slice ai (xg (tH l) (l.length+1)).length ac,.slice none 0 0,.map (some w3.heap.size)] 84);rw[bM,UW]at this;exact this
 have b14:=hb3.trans (eJ b4 hb3.size);have C:CS (fun _=>False) (w3.heap.size+1) (Z9 g l.length cap) (.slice li ls.length lc) (.string (bs (txt (tH l) l.length))) (.slice ai (xg (tH l) (l.length+1)).length ac) (.map (some w3.heap.size)) W4 (.slice none 0 0) []:=⟨bx,⟨[],rfl,bB _ _ _ _,fun x hx=>by cases hx⟩,by simp⟩
 have hM:Move (fun b=>b<w1.heap.size) (fun b=>b<w3.heap.size) w1 W4:=fun b hb' hl'=>⟨aq hl' hb3.size,b14.block b hl'⟩
 refine⟨li,_,lc,_,ai,_,ac,pi,path.len,pp,rfl,?_,a_ ?_⟩
 ·rw[UW];exact(ar (b14.block _ (aD _ _ hpc))).trans hpc
 rw[UW];have hS':jW ([]:List Cd).length false path=S:=hS;refine(EG (inner:=false) (lo:=w3.heap.size) (q:=J6 2) C (fun b h=>h.elim) ⟨by omega,b4.size,fun k e=>by cases e⟩ (hp.move hM) ho (fun ps h=>⟨EK 2 false ps h,fun e=>by cases e⟩) (by rw[hS'];simpa using hz)).mono ?_;rw[hS'];rintro e w5 ⟨u,ra,rn,rc,rfl,hs,C5,f5⟩;rw[bI]at C5;have b5:Below w3.heap.size w3 w5:=⟨f5.fr.os.trans b4.os,f5.fr.tape.trans b4.tape,f5.fr.output.trans b4.output,aw b4.size f5.fr.size,fun k hk=>(f5.fr.block k (aq hk b4.size) fun e=>by
  rcases e with e|e
  ·omega
  ·cases e).trans (b4.block k hk)⟩
 have b15:=hb3.trans (eJ b5 hb3.size);refine⟨ra,rn,rc,rfl,a_ (Rk T h0 hb (hw.trans (eJ b15 hw.size)) C5 hs rfl (hn.below b15) (aq hg b15.size) (fun k hk=>?_) hl (h1.below b5) (h2.below b5) hcs)⟩;obtain⟨x,c,hx⟩:=hat k hk;exact⟨x,(ar (b15.block g hg)).trans c,hx.gv (bc b15)⟩
theorem Ux{doc:ByteArray}{q:L}{path:List iV}{S:List pC×List Cd}(gl:K.Gl w a)(hd:doc.size<=268435456)(hp:(K.eZ doc).2.1=0)(hq:parse q=.ok [path])(ho:z8 (J6 2) (gw.of path))(hS:jW 0 false (gw.of path)=S)(hz:S.2.length<=1000)(hcs:∀s∈S.1,∀x∈s.2.2,∃j c,x=((j:Nat):Int)/\S.2[j]?=some c/\Zp S.2 c):
  Z4 9 #[.string doc,.string (bs q)] w (EvQ w (K.eZ doc).1 S):=by
 obtain⟨T,h0⟩:=K.DI hp;have XF:=K.vY doc;have hlen:=K.xM (K.eZ doc).1;have H1:Hid (Z4 25 #[.string (bs q)] w fun e w1=>∃pg pc,e=.returned (.tuple #[Z9 pg 1 pc,.int .i64 0,.int .i64 0])/\Hid (Z4 5 #[.string doc] w1 fun e w2=>∃g cap N at_,e=.returned (.tuple #[Z9 g N cap,.int .i64 0,.int .i64 at_])/\Hid (Z4 26 #[Z9 g N cap] w2 fun e w3=>∃li ln lc TX ai an ac pi pn pp,e=.returned (.agg #[Z9 g N cap,.slice li ln lc,.string TX,.slice ai an ac])/\((w3.alloc (.map #[] 0)).alloc (.cells #[Z9 g N cap,.slice li ln lc,.string TX,.slice ai an ac,.slice none 0 0,.map (some w3.heap.size)] 84)).cell? ⟨pg,0,none⟩=some (.slice pi pn pp)/\
   Hid (Z4 29 #[.pointer (some ⟨w3.heap.size+1,4,none⟩),.slice pi pn pp,.bool false] ((w3.alloc (.map #[] 0)).alloc (.cells #[Z9 g N cap,.slice li ln lc,.string TX,.slice ai an ac,.slice none 0 0,.map (some w3.heap.size)] 84)) fun e w5=>∃ra rn rc,e=.returned (.slice ra rn rc)/\Hid (Z4 28 #[.pointer (some ⟨w3.heap.size+1,0,none⟩),.slice ra rn rc,.int .i64 (-1)] w5 fun e w6=>∃gf lb,e=.returned (.func (.func gf) #[] lb)/\Hid (Z4 27 #[.slice none 0 0,.func (.func gf) #[] lb] w6 fun e w7=>∃va vn vc,e=.returned (.slice va vn vc)/\Hid (Z4 30 #[.slice va vn vc] w7 fun e w8=>e=.returned (.tuple #[])/\Hid (Z4 31 #[.slice va vn vc] w8 fun e w9=>∃xa xn xc,e=.returned (.slice xa xn xc)/\Hid (EvQ w (K.eZ doc).1 S (.returned (.tuple #[.slice xa xn xc,.int .i64 0,.int .i64 0,.int .i64 0])) w9))))))))):=a_ (by
  refine(qf q w).mono ?_;rw[hq];rintro e w1 ⟨hb1,pv,rfl,hQ⟩;rcases hQ with⟨h,-⟩|⟨pg,pc,cur,rfl,hA,hpg,-,-,hr⟩
  ·simp at h
  obtain⟨pu,hpc,JZ⟩:=hr 0 path rfl;refine⟨pg,pc,rfl,a_ ((K.qf doc w1 (KG gl hb1) hd).mono ?_)⟩;rintro e w2 ⟨v,rfl,hN,hb2,-⟩;obtain⟨g,cap,rfl,hg,hn,hU,hat⟩:=Ri hN h0 (by omega) fun n hn=>⟨by have:=K.JF _ n hn;omega,by
   obtain⟨k,hk⟩:=di hn;have:=rh (K.eZ doc).1.length (n.kids.map fun(j:Nat)=>(j:Int)) (List.pairwise_map.2 ((T.nd k n hk).1.imp fun h e=>h (by omega))) fun x hx=>by
    obtain⟨j,hj,rfl⟩:=List.mem_map.1 hx;obtain⟨m,hm,-⟩:=(T.kid k n hk j).1 hj;have:=(List.getElem?_eq_some_iff.1 hm).1;omega
   rw[cL]at this;omega⟩
  refine⟨g,cap,_,_,by rw[hp],a_ (XE T h0 (by omega) (fun i hi=>?_) (hb1.trans (eJ hb2 hb1.size)) hn hg hU hat ((ar (hb2.block _ (aD _ _ hpc))).trans hpc) (JZ.move fun b hb' hl'=>⟨aq hl' hb2.size,hb2.block b hl'⟩) ho hS hz hcs)⟩;have:=KH (K.eZ doc).1 i hi;have:=zG (K.eZ doc).1 i;omega)
 generalize EvQ w (K.eZ doc).1 S=PP at*
 clear gl hd hp hq ho hS hz hcs T h0 XF hlen;generalize bs q=Q at*
 have Xm:∀W:World,(Instr.makeMap 80 none).run prog W=.ok (.map (some W.heap.size)) (W.alloc (.map #[] 0)):=fun W=>rfl;go_enter func9,ntmps9;go_wp2_with(first|(go_at_call 25;refine H1.out.mono ?_;rintro e w1 ⟨pg,pc,rfl,H2⟩;clear H1)|(go_at_call 5;refine H2.out.mono ?_;rintro e w2 ⟨g,cap,N,at_,rfl,H3⟩;clear H2)|(go_at_call 26;refine H3.out.mono ?_;rintro e w3 ⟨li,ln,lc,TX,ai,an,ac,pi,pn,pp,rfl,cp,H4⟩;clear H3));obtain⟨W4,UW⟩:∃W4,(w3.alloc (.map #[] 0)).alloc (.cells #[Z9 g N cap,.slice li ln lc,.string TX,.slice ai an ac,.slice none 0 0,.map (some w3.heap.size)] 84)=W4:=⟨_,rfl⟩
 rw[UW]at H4 cp ⊢;clear UW Xm;go_loopw [13,42] (fun av iv wr=>(iv=.int .i64 0/\av=.slice none 0 0/\wr=W4)\/(iv=.int .i64 1/\∃va vn vc,av=.slice va vn vc/\Hid (Z4 30 #[.slice va vn vc] wr fun e w8=>e=.returned (.tuple #[])/\Hid (Z4 31 #[.slice va vn vc] w8 fun e w9=>∃xa xn xc,e=.returned (.slice xa xn xc)/\Hid (PP (.returned (.tuple #[.slice xa xn xc,.int .i64 0,.int .i64 0,.int .i64 0])) w9))))) (fun _ iv _=>1-(RowKit.intOf iv).toNat)
 case atStart=>exact Or.inl ⟨rfl,rfl,rfl⟩
 case round=>
  rcases hrel with⟨rfl,rfl,rfl⟩|⟨rfl,va,vn,vc,rfl,H7⟩
  ·go_wp2_with(first|(go_at_call 29;refine H4.out.mono ?_;rintro e w5 ⟨ra,rn,rc,rfl,H5⟩;clear H4)|(go_at_call 28;refine H5.out.mono ?_;rintro e w6 ⟨gf,lb,rfl,H6⟩;clear H5)|(go_at_call 27;refine H6.out.mono ?_;rintro e w7 ⟨va,vn,vc,rfl,H7⟩;clear H6));exact⟨Or.inr ⟨rfl,va,vn,vc,rfl,H7⟩,by simp[RowKit.intOf]⟩
  ·clear H4 cp;go_wp2_with(first|(go_at_call 30;refine H7.out.mono ?_;rintro e w8 ⟨rfl,H8⟩;clear H7)|(go_at_call 31;refine H8.out.mono ?_;rintro e w9 ⟨xa,xn,xc,rfl,H9⟩;clear H8));exact aJ (v:=.tuple #[.slice xa xn xc,.int .i64 0,.int .i64 0,.int .i64 0]) (by simp[results,results9,go_sem]) rfl H9.out
end
def pA:List iV:=[⟨false,[42],.nil⟩]
def pB:List iV:=[⟨false,[42],.nil⟩,⟨false,[42],.nil⟩]
def qZ:L:=[47,97,47,98,91,64,107,61,39,49,39,93]
def pZ:List iV:=[⟨false,[97],.nil⟩,⟨false,[98],.cons [61] .nil .nil [107] [49] .nil⟩]
theorem Uy:parse qZ=.ok [pZ]:=by kernel_rfl
end Go.Proofs.YtclgfepngpeifaaGreatDoor
namespace Go.Proofs.YtclgfepngpeifaaGreatDoor
namespace K
open Go.RowKit Go.Lib Tryz
section
variable{g:Gr}{t:fe}{n:Nd}
def xu(l:List Nd):Prop:=∀m∈l,m.name=[]->m.attrs=[]
theorem wU:∀(l:List Nd) (k j:Nat),xu l->xu (fJ l k j)
 |[],_,_,h=>h
 |n::l,0,j,h=>fun m hm=>by
  rcases List.mem_cons.1 hm with rfl|hm
  ·exact h n cu
  ·exact h m (dH _ hm)
 |n::l,k+1,j,h=>fun m hm=>by
  rcases List.mem_cons.1 hm with rfl|hm
  ·exact h _ cu
  ·exact wU l k j (fun x hx=>h x (dH _ hx)) m hm
theorem Gz(h:xu g.nodes)(hn:n.name=[]->n.attrs=[]):xu (g.put n).nodes:=by
 unfold Gr.put;split
 ·intro m hm;rcases List.mem_append.1 hm with hm|hm
  ·exact h m hm
  ·obtain rfl:=List.mem_singleton.1 hm;exact hn
 ·intro m hm;rcases List.mem_append.1 hm with hm|hm
  ·exact wU _ _ _ h m hm
  ·obtain rfl:=List.mem_singleton.1 hm;exact hn
theorem Nt(h:xu g.nodes)(ht:zt t):xu (g.take t).2.nodes:=by
 unfold Gr.take;split
 ·next k=>
  split
  ·exact h
  ·split
   ·exact h
   ·refine Gz h fun e=>?_;rcases ht with⟨_,hn,_⟩|⟨k2,_⟩|⟨k2,_⟩
    ·exact absurd e (vR hn)
    ·omega
    ·omega
 ·split
  ·split
   ·exact h
   ·split<;>exact h
  ·split
   ·split<;>exact h
   ·exact Gz h fun _=>rfl
theorem Ci:∀(l:List fe) (g:Gr) (b:Bool),nN b l->xu g.nodes->xu (grow g l).2.2.nodes
 |[],g,b,_,h=>h
 |t::l,g,b,hc,h=>by
  simp only[grow];split
  ·exact h
  ·exact Ci l (g.take t).2 _ hc.2.2 (Nt h hc.1)
theorem JG(s:ByteArray):xu (eZ s).1:=by
 unfold eZ;split
 ·intro m hm;cases hm
 ·split
  ·intro m hm;cases hm
  ·split
   ·intro m hm;cases hm
   ·exact Ci _ Gr.zero _ (vW s) fun m hm=>by cases hm
end
end K
end Go.Proofs.YtclgfepngpeifaaGreatDoor
