import Derived.Test.YtclgfepngpeifaaGreatDoorGA
import Derived.Test.YtclgfepngpeifaaGreatDoorGay
import Derived.Test.YtclgfepngpeifaaGreatDoorGaz
set_option linter.unusedVariables false
set_option linter.unusedSimpArgs false
set_option maxHeartbeats 32000000
set_option maxRecDepth 100000
namespace Go.Proofs.YtclgfepngpeifaaGreatDoor
open Go.RowKit Go.Maps Go.Lib Go.Shelf Tryz
section
variable{l:List K.Nd}{ls ah:List Int}{hb:Int->Nat->Bool}{TX:ByteArray}{el first:Bool}{up:Int}{L:List Int}
abbrev ld(d:Bool):oh:=(d,bs [42],[])
abbrev mg(d:Bool):oh:=(d,bs [35],[])
def sH(l:List K.Nd)(ls ah:List Int)(TX:ByteArray)(S:List oh×List Cd):List Int:=Lib.compact (ry (mj l.length (lF l) (ma l) ls (Ny l.length (lF l) (ma l) ls ah TX (zI l) S.2) S.1 (-1)))
theorem vr(x:Int):vM (bs [42]) (ma l) [] hb x=GK l x.toNat:=by unfold vM;rw[zH];simp
theorem vt(x:Int):vM (bs [35]) (ma l) [] hb x=!GK l x.toNat:=by unfold vM;rw[QY];simp
theorem vv(h:∀x,x∈L↔x∈gP l el up first l.length):Lib.compact (ry L)=gP l el up first l.length:=xM (ky L).1 Nb fun x=>((ky L).2 x).trans (h x)
theorem vw(T:K.pR l)(h0:0<l.length):GK l 0=true:=by
 have:=(T.zero _ (mb h0)).2;unfold GK;simpa using this
theorem jx{k:Nat}:q9 l el up first k=true↔GK l k=el/\(up= -2\/(nodeAt l k).up=up)/\(0<k\/first=true):=by
 unfold q9;simp[and_assoc]
theorem jP(d:Bool):iP l.length (lF l) ls d [(-1:Int)]=if d=true then Er 0 l.length else [0]:=by
 unfold iP;cases d
 ·simp[jY]
 ·simp only[if_true,gF,aP];rfl
theorem Gt(T:K.pR l)(h0:0<l.length)(s:List oh):jG l.length (lF l) (ma l) ls hb (ld false::s) (-1) 1=[0]:=by
 have e:fZ l.length (lF l) (ma l) ls hb false (bs [42]) [] [(-1:Int)]=[0]:=by
  unfold fZ;rw[jP];simp[List.filter,vr,vw T h0]
 show ry (fZ l.length (lF l) (ma l) ls hb false (bs [42]) [] [(-1:Int)])=[0];rw[e];simp[ry]
theorem xP(s t:oh):mj l.length (lF l) (ma l) ls hb [s,t] (-1)=fZ l.length (lF l) (ma l) ls hb t.1 t.2.1 t.2.2 (jG l.length (lF l) (ma l) ls hb [s,t] (-1) 1):=rfl
theorem DT(s:oh):mj l.length (lF l) (ma l) ls hb [s] (-1)=fZ l.length (lF l) (ma l) ls hb s.1 s.2.1 s.2.2 [-1]:=rfl
theorem Gu(b:Bool){C:List Cd}:sH l ls ah TX ([if b=true then ld true else mg true],C)=gP l b (-2) true l.length:=by
 unfold sH;simp only[DT];refine vv fun x=>?_;rw[vq];cases b
 ·show x∈fZ _ _ _ _ _ true (bs [35]) [] [-1]↔_;unfold fZ;rw[jP,bT,vt,if_pos rfl,xN];constructor
  ·rintro⟨⟨k,rfl,-,hk⟩,h⟩;exact⟨k,rfl,hk,jx.2 ⟨by simpa using h,Or.inl rfl,Or.inr rfl⟩⟩
  ·rintro⟨k,rfl,hk,hp⟩;exact⟨⟨k,rfl,aB _,hk⟩,by simpa using(jx.1 hp).1⟩
 ·show x∈fZ _ _ _ _ _ true (bs [42]) [] [-1]↔_;unfold fZ;rw[jP,bT,vr,if_pos rfl,xN];constructor
  ·rintro⟨⟨k,rfl,-,hk⟩,h⟩;exact⟨k,rfl,hk,jx.2 ⟨by simpa using h,Or.inl rfl,Or.inr rfl⟩⟩
  ·rintro⟨k,rfl,hk,hp⟩;exact⟨⟨k,rfl,aB _,hk⟩,by simpa using(jx.1 hp).1⟩
variable(T:K.pR l)(h0:0<l.length)(hl:GH l.length (Gq l) 0 ls)
include T h0
theorem aac{C:List Cd}:sH l ls ah TX ([ld false],C)=[0]:=by
 unfold sH;simp only[DT];refine xM (ky _).1 (by simp) fun x=>((ky _).2 x).trans ?_;unfold fZ;rw[jP,bT,vr];simp only[aA,aQ,bF];constructor
 ·exact fun h=>h.1
 ·rintro rfl;exact⟨rfl,vw T h0⟩
theorem Gv(b:Bool){C:List Cd}:sH l ls ah TX ([ld false,if b=true then ld false else mg false],C)=gP l b 0 false l.length:=by
 unfold sH;simp only[xP];refine vv fun x=>?_;rw[Gt T h0];unfold fZ iP;have hk:(if b=true then ld false else mg false).1=false:=by cases b<;>rfl
 have ho:∀y:Int,vM (if b=true then ld false else mg false).2.1 (ma l) (if b=true then ld false else mg false).2.2 (Ny l.length (lF l) (ma l) ls ah TX (zI l) C) y=(GK l y.toNat==b):=fun y=>by
  cases b
  ·show vM (bs [35]) _ [] _ y=_;rw[vt];cases GK l y.toNat<;>rfl
  ·show vM (bs [42]) _ [] _ y=_;rw[vr];cases GK l y.toNat<;>rfl
 rw[hk,bT,ho,vq];simp only[aA,aQ,cE,List.flatMap_nil,aP];have e0:jY (lF l) 0=lF l 0:=rfl;rw[e0,po T h0];constructor
 ·rintro⟨⟨j,rfl,hj,hu⟩,h⟩;refine⟨j,rfl,hj,jx.2 ⟨by simpa using h,Or.inr hu,Or.inl ?_⟩⟩;rcases dK j with rfl|h'
  ·have:=(T.zero _ (mb hj)).1;rw[hu]at this;omega
  ·exact h'
 ·rintro⟨k,rfl,hk,hp⟩;obtain⟨h1,h2,h3⟩:=jx.1 hp;exact⟨⟨k,rfl,hk,(by rcases h2 with h2|h2;omega;exact h2)⟩,by simpa using h1⟩
theorem aad{C:List Cd}:sH l ls ah TX ([mg false],C)=[]:=by
 unfold sH;simp only[DT];refine xM (ky _).1 (by simp) fun x=>((ky _).2 x).trans ?_;unfold fZ;rw[jP,bT,vt];simp only[aA,aQ,bF,bB,iff_false];rintro⟨rfl,h⟩;rw[show ((0:Int).toNat)=0 from rfl,vw T h0]at h;cases h
include hl
theorem aae{C:List Cd}:sH l ls ah TX ([ld false,ld true],C)=gP l true (-2) false l.length:=by
 unfold sH;simp only[xP];refine vv fun x=>?_;rw[Gt T h0,vq];have hr:=hl.root (QZ T).1 h0 (QZ T).2;have e:iP l.length (lF l) ls true [(0:Int)]=Er 1 l.length:=by
  unfold iP;simp only[if_true,gF,aP];have:zY l.length ls 0=l.length:=by
   unfold zY;rw[if_neg (by omega),show ((0:Int).toNat)=0 from rfl,hr];simp;omega
  rw[this];rfl
 show x∈fZ _ _ _ _ _ true (bs [42]) [] [0]↔_;unfold fZ;rw[e,bT,vr,xN];constructor
 ·rintro⟨⟨k,rfl,h1,hk⟩,h⟩;exact⟨k,rfl,hk,jx.2 ⟨by simpa using h,Or.inl rfl,Or.inl (by omega)⟩⟩
 ·rintro⟨k,rfl,hk,hp⟩;obtain⟨h1,-,h3⟩:=jx.1 hp;exact⟨⟨k,rfl,(by rcases h3 with h3|h3;omega;cases h3),hk⟩,by simpa using h1⟩
omit hl
def Xd:List Cd:=[⟨false,bs Cr,[],[mg false],bs [],bs []⟩,⟨false,bs Cr,[],[ld true,mg false],bs [],bs []⟩,⟨false,bs XY,[0,1],[],bs [],bs []⟩]
theorem aaf:sH l ls ah TX ([(true,bs [42],[2]),mg false],Xd)=gP l false (-2) true l.length:=by
 unfold sH;simp only[xP];refine vv fun x=>?_;rw[vq];have hc:∀y:Int,y∈jG l.length (lF l) (ma l) ls (Ny l.length (lF l) (ma l) ls ah TX (zI l) Xd) [(true,bs [42],[2]),mg false] (-1) 1↔∃k:Nat,y=k/\k<l.length/\GK l k=true/\Ny l.length (lF l) (ma l) ls ah TX (zI l) Xd 2 k=true:=fun y=>by
  show y∈ry (fZ _ _ _ _ _ true (bs [42]) [2] [-1])↔_;unfold ry fZ;rw[List.mem_mergeSort,jP,bT,if_pos rfl,xN];unfold vM;constructor
  ·rintro⟨⟨k,rfl,-,hk⟩,h⟩;rw[aH,zH]at h;simp at h;exact⟨k,rfl,hk,h.1,h.2⟩
  ·rintro⟨k,rfl,hk,h1,h2⟩;refine⟨⟨k,rfl,aB _,hk⟩,?_⟩;rw[aH,zH,h1];simpa using h2
 show x∈fZ _ _ _ _ _ false (bs [35]) [] _↔_;unfold fZ iP;rw[bT,vt];simp only[aA,aQ,List.mem_flatMap,hc];constructor
 ·rintro⟨⟨y,⟨k,rfl,hk,-,-⟩,hx⟩,h⟩;have e:jY (lF l) (k:Int)=lF l k:=by unfold jY;rw[if_neg (by omega),aH]
  rw[e,po T hk]at hx;obtain⟨j,rfl,hj,-⟩:=hx;exact⟨j,rfl,hj,jx.2 ⟨by simpa using h,Or.inl rfl,Or.inr rfl⟩⟩
 ·rintro⟨j,rfl,hj,hp⟩;have hE:=(jx.1 hp).1;refine⟨?_,by simpa using hE⟩;cases j with
  |zero=>rw[vw T h0]at hE;cases hE
  |succ j=>
   obtain⟨u,hu,hu2,m,hm,hne⟩:=T.up j _ (mb hj);have Nz:=(List.getElem?_eq_some_iff.1 hm).1;have e:jY (lF l) (u:Int)=lF l u:=by unfold jY;rw[if_neg (by omega),aH]
   have hx:((j+1:Nat):Int)∈lF l u:=(po T Nz).2 ⟨j+1,rfl,hj,hu⟩;refine⟨(u:Int),⟨u,rfl,Nz,?_,?_⟩,by rw[e];exact hx⟩
   ·unfold GK;rw[wF hm];simpa using hne
   ·have h1:yB l.length (lF l) (ma l) ls ah TX (zI l) Xd 0 u=true:=by
     show wQ l.length (lF l) (ma l) ls ah TX (zI l) ⟨false,bs Cr,[],[mg false],bs [],bs []⟩ u=true;unfold wQ;have nB:((j+1:Nat):Int)∈mj l.length (lF l) (ma l) ls (fun _ _=>false) [mg false] u:=by
      show _∈fZ _ _ _ _ _ false (bs [35]) [] [(u:Int)];unfold fZ iP;rw[bT,vt];refine⟨?_,by rw[aH,hE];rfl⟩;simp only[aA,aQ,cE,List.flatMap_nil,aP,e];exact hx
     refine List.any_eq_true.2 ⟨yo TX ls ah (j+1),List.mem_flatMap.2 ⟨_,nB,?_⟩,?_⟩
     ·unfold ij;rw[if_pos (by rw[fe];rfl),aH];simp
     ·unfold JS;rw[fe];rfl
    show (if((bs XY).toList==[111,114])=true then [(0:Int),1].any fun y=>yB l.length (lF l) (ma l) ls ah TX (zI l) Xd y u else _)=true;rw[fe,if_pos (by decide),List.any_cons,h1];rfl
end
section
variable{w w':World}{v u:Value}{x y:List Int}{l:List K.Nd}
theorem Jy(n:Int)(w:World):Calls prog 7 #[.int .i64 n] w fun e w'=>e=.returned (.int .i64 n)/\w'=w:=by
 go_enter func7,ntmps7;go_wp2;go_ret;exact⟨rfl,rfl⟩
theorem Uh(hx:IR w v x)(hy:IR w u y):Calls prog 10 #[v,u] w fun e w'=>e=.returned (.bool (decide (x=y)))/\Below w.heap.size w w':=by
 obtain⟨ai,ac,rfl,⟨h1,h2⟩,hr⟩:=hx;obtain⟨bi,bc',rfl,⟨h3,h4⟩,hs⟩:=hy;by_cases hl:x.length=y.length
 ·have HK:Hid (∀i,i<y.length->∃g off g2 CD p q,ai=some ⟨g,off,none⟩/\bi=some ⟨g2,CD,none⟩/\w.cell? ⟨g,off+i,none⟩=some (.int .i64 p)/\w.cell? ⟨g2,CD+i,none⟩=some (.int .i64 q)/\x[i]?=some p/\y[i]?=some q):=a_ fun i hi=>by
   have e1:x[i]?=some (x[i]'(by omega)):=aF _;have e2:y[i]?=some y[i]:=aF _;obtain⟨g,off,e,-,c⟩:=hr i _ e1;obtain⟨g2,CD,e',-,c'⟩:=hs i _ e2;exact⟨g,off,g2,CD,_,_,e,e',c,c',e1,e2⟩
  have HE:Hid ((∀j,j<y.length->x[j]?=y[j]?)->x=y):=a_ fun h=>List.ext_getElem? fun j=>by
   by_cases hj:j<y.length
   ·exact h j hj
   ·rw[cK (by omega),cK (by omega)]
  clear hr hs;rw[hl]at h1 h2 ⊢;have hlen:y.length<=1000000000000:=h4;have HD:Hid (∀b:Bool,(b=true↔x=y)->decide (x=y)=b):=a_ fun b hb=>by cases b<;>simp_all
  generalize decide (x=y)=D at*
  obtain⟨n,hn⟩:∃n,y.length=n:=⟨_,rfl⟩
  rw[hn]at HK HE h1 h2 h3 h4 hlen ⊢;go_enter func10,ntmps10;go_wp2_with fail;go_loopw [5] (fun iv wr=>∃i m:Nat,iv=.int .i64 i/\i<=n/\(∀j,j<i->x[j]?=y[j]?)/\wr=w.drewN m) (fun iv _=>n-(RowKit.intOf iv).toNat)
  case atStart=>exact⟨0,0,rfl,aB _,fun j h=>by omega,rfl⟩
  case round=>
   obtain⟨i,m,rfl,hi,hall,rfl⟩:=hrel;by_cases hlt:i<n
   ·obtain⟨g,off,g2,CD,p,q,rfl,rfl,c1,c2,e1,e2⟩:=HK.out i hlt;have d1:∀m,(w.drewN m).cell? ⟨g,off+i,none⟩=some (.int .i64 p):=fun m=>c1;have d2:∀m,(w.drewN m).cell? ⟨g2,CD+i,none⟩=some (.int .i64 q):=fun m=>c2;have Nt:(i:Int)<n:=by omega
    have HA:=a_ hall;clear HK c1 c2 hall;by_cases hpq:p=q
    ·have hne:(p !=q)=false:=by simpa using hpq
     clear HE HD;go_wp2_with fail;go_quiet(fail);go_wp2;refine⟨⟨i+1,_,by simp,by omega,fun j hj=>?_,rfl⟩,by simp only[RowKit.intOf];omega⟩;by_cases hji:j=i
     ·rw[hji,e1,e2,hpq]
     ·exact HA.out j (by omega)
    ·have hne:(p !=q)=true:=by simpa using hpq
     have hD:D=false:=HD.out false ⟨fun h=>(by cases h),fun h=>by rw[h,e2]at e1;cases e1;exact absurd rfl hpq⟩;subst hD;clear HE HD;go_wp2_with fail;go_quiet(fail);go_wp2;go_ret;exact⟨rfl,below_drewN (below_drewN (Below.refl _ w) _) _⟩
   ·obtain rfl:i=n:=by omega
    have hD:D=true:=HD.out true ⟨fun _=>HE.out hall,fun _=>rfl⟩;subst hD;clear HE HD HK hall;go_wp2;go_ret;exact⟨rfl,below_drewN (Below.refl _ w) _⟩
 ·have hD:decide (x=y)=false:=by simp;intro e;exact hl (by rw[e])
  rw[hD];clear hr hs;have hne:((x.length:Int) !=(y.length:Int))=true:=by simp;omega
  have KD:(x.length !=y.length)=true:=by simpa using hl
  generalize x.length=n at*
  generalize y.length=m at*
  go_enter func10,ntmps10;go_wp2;go_ret;exact⟨rfl,Below.refl _ _⟩
end
section
variable{w w' wr w7:World}{v u av v7:Value}{l:List K.Nd}{el first:Bool}{up:Int}{i:Nat}
theorem Co:gP l el up first (i+1)=gP l el up first i++(if q9 l el up first i then [(i:Int)]else []):=by
 unfold gP;rw[List.range_succ,dL,bE];cases h:q9 l el up first i<;>simp[h]
theorem Gw:(gP l el up first i).length<=i:=by
 unfold gP;rw[cJ];exact aw (List.length_filter_le _ _) (by simp)
structure NJ(w wr:World)(av:Value)(l:List K.Nd)(el:Bool)(up:Int)(first:Bool)(i:Nat):Prop where
 own:wr.ownsRow 0 3 1 av (gP l el up first i).length (g_ (gP l el up first i))
 new:∀k,av.ownBlock=some k->w.heap.size<=k
 low:Below w.heap.size w wr
theorem NJ.keep(h:NJ w wr av l el up first i)(hb:q9 l el up first i=false):NJ w wr av l el up first (i+1):=by
 have e:gP l el up first (i+1)=gP l el up first i:=by rw[Co,hb];simp
 exact⟨by rw[e];exact h.own,h.new,h.low⟩
theorem NJ.add(h:NJ w wr av l el up first i)(hb:q9 l el up first i=true)(ho:w7.ownsRow 0 3 1 v7 ((gP l el up first i).length+1) (g_ (gP l el up first i)++[.int .i64 (i:Nat)]))(hg:(wr.alloc (.cells #[.int .i64 (i:Nat)] 3)).grownBy w7 av.ownBlock)(ha:v7.ownBlock=av.ownBlock\/v7.ownBlock=some (wr.alloc (.cells #[.int .i64 (i:Nat)] 3)).heap.size):NJ w w7 v7 l el up first (i+1):=by
 have e:gP l el up first (i+1)=gP l el up first i++[(i:Int)]:=by rw[Co,hb];simp
 have hs:=h.low.size;refine⟨by rw[e,ax];simpa [g_]using ho,fun k hk=>?_,(h.low.alloc h.low.size _).grown hg (by simp;omega) h.new⟩;rcases ha with ha|ha
 ·exact h.new k (ha▸hk)
 ·rw[ha]at hk;cases hk;simp;omega
theorem Ni{g cap:Nat}(hN:GC w (.slice (some ⟨g,0,none⟩) l.length cap) l.length (lF l) (ma l))(hU:XI w g l.length (sG l) (Gq l))(hb:l.length<=1000000000000)(hm:(el=true/\up=0/\first=false)\/(el=true/\up= -2/\first=true)\/(el=false/\up= -2/\first=true)\/(el=true/\up= -2/\first=false)\/(el=false/\up=0/\first=false)):Calls prog 11 #[.slice (some ⟨g,0,none⟩) l.length cap,.bool el,.int .i64 up,.bool first] w fun e w'=>∃va vn vc,e=.returned (.slice va vn vc)/\IR w' (.slice va vn vc) (gP l el up first l.length)/\Below w.heap.size w w':=by
 obtain⟨i0,hi,hz0,hz1,hz2⟩:=aY uw;have HC:Hid (∀i wr,i<l.length->Below w.heap.size w wr->wr.cell? ⟨g,i*5,none⟩=some (.string (ma l i))/\wr.cell? ⟨g,i*5+4,none⟩=some (.int .i64 (Gq l i))):=a_ fun i wr hi hb=>by
  obtain⟨g',cap',e,-,hg,hr⟩:=hN;cases e;obtain⟨nm,ai,an,ac,ki,kn,kc,-,-,-,-,c4⟩:=hU.2 i hi;exact⟨(hb.cell (by exact hg)).trans (hr i hi).1,(hb.cell (by exact hg)).trans c4⟩
 have Ew:l.length<=cap:=by
  obtain⟨g',cap',e,h,-⟩:=hN;cases e;exact h.1
 have HB:Hid (∀i,q9 l el up first i=(((!((ma l i).toList==[]))==el)&&((up== -2)||(Gq l i==up))&&(decide (0<i)||first))):=a_ fun i=>by
  unfold q9 GK ma Gq;rw[fe];have e1:∀a b:Int,decide (a=b)=(a==b):=fun a b=>by by_cases h:a=b<;>simp[h]
  rw[e1,e1];cases (nodeAt l i).name<;>rfl
 have HF:Hid (∀av wr,NJ w wr av l el up first l.length->∃va vn vc,av=.slice va vn vc/\IR wr (.slice va vn vc) (gP l el up first l.length)/\Below w.heap.size w wr):=a_ fun av wr h=>by
  obtain⟨an,n',ac,rfl⟩:=fT h.own;exact⟨_,_,_,rfl,lh h.own (aw Gw hb),h.low⟩
 have HL:Hid (∀i,(gP l el up first i).length<=i):=a_ fun i=>Gw;have HK:Hid (∀i av wr,NJ w wr av l el up first i->q9 l el up first i=false->NJ w wr av l el up first (i+1)):=a_ fun i av wr h e=>h.keep e;have H0:Hid (NJ w w (.slice none 0 0) l el up first 0):=a_ ⟨bA _ _ _ _,fun k e=>(by cases e),Below.refl _ _⟩;have HS:Hid (∀i av wr,NJ w wr av l el up first i->∃va vn vc,av=.slice va vn vc):=a_ fun i av wr h=>by
  obtain⟨an,n',ac,rfl⟩:=fT h.own;exact⟨_,_,_,rfl⟩
 clear hN hU;obtain⟨n,hn⟩:∃n,l.length=n:=⟨_,rfl⟩
 rw[hn]at HC HF hb Ew ⊢;clear hn;rcases hm with⟨rfl,rfl,rfl⟩|⟨rfl,rfl,rfl⟩|⟨rfl,rfl,rfl⟩|⟨rfl,rfl,rfl⟩|⟨rfl,rfl,rfl⟩;all_goals
  go_enter func11,ntmps11;go_wp2_with fail;go_loopw [9,10] (fun av iv wr=>∃i:Nat,iv=.int .i64 i/\i<=n/\NJ w wr av l _ _ _ i) (fun _ iv _=>n-(RowKit.intOf iv).toNat)
  case atStart=>exact⟨0,rfl,aB _,H0.out⟩
  case round=>
   rename World=>WO
   obtain⟨i,rfl,GG,hM⟩:=hrel;clear H0;by_cases hlt:i<n
   ·obtain⟨c0,c4⟩:=HC.out i WO hlt hM.low;obtain⟨va,vn,vc,rfl⟩:=HS.out _ _ _ hM;have hB:=a_ (HB.out i);have Nt:(i:Int)<n:=by omega
    have HM:=a_ hM;have hpl:=HL.out i;clear HC HB HF HS HL hM;generalize ma l i=nm at*
    generalize Gq l i=uu at*
    have hE:nm.toList.isEmpty=true\/nm.toList.isEmpty=false:=by cases nm.toList.isEmpty<;>simp
    rcases hE with hE|hE<;>rcases Decidable.em (uu=0)with rfl|huu<;>rcases dK i with rfl|h0
    all_goals first
     |(have tZ:=a_ (HK.out _ _ _ HM.out (by rw[hB.out];simp[*]));clear HK HM hB;go_wp2_with fail;exact⟨⟨_,by simp,by omega,tZ.out⟩,by simp only[RowKit.intOf];omega⟩)
     |(have HO:=a_ HM.out.own;have HA:=a_ (fun v7 w7 ho hg ha=>HM.out.add (w7:=w7) (v7:=v7) (by rw[hB.out];simp[*]) ho hg ha);clear HK HM hB;go_wp2_with(at_builtin;refine bu (w:=_) rfl _ _ 31 rfl 0 3 i0 _ 1 8 underlying31 hi hz0 hz1 hz2 rfl (by decide) _ _ _ rfl (HO.out.alloc _) ⟨WO.heap.size,0,none⟩ 1 1 [.int .i64 ((_:Nat):Int)] rfl rfl (kK _ _ _) (by simp[Value.oneCell']) (by unfold maxLen;omega) (by omega) (aB _) ?_;intro v7 w7 Xw YD _ Si;have tZ:=a_ (HA.out _ _ Xw YD Si);clear Xw YD Si HA HO);exact⟨⟨_,by simp,by omega,tZ.out⟩,by simp only[RowKit.intOf];omega⟩)
   ·obtain rfl:i=n:=by omega
    obtain⟨va,vn,vc,rfl,hP⟩:=HF.out _ _ hM;have HP:=a_ hP;clear HF hM hP HC HB HL HK HS;go_wp2;go_ret;exact⟨_,_,_,rfl,HP.out⟩
end
section
variable{w w':World}{a:Addr}{doc:ByteArray}{R:List Int}
def Q_(w:World)(R:List Int)(e:Ending)(w':World):Prop:=∃va vn vc,e=.returned (.tuple #[.slice va vn vc,.int .i64 0,.int .i64 0,.int .i64 0])/\IR w' (.slice va vn vc) R/\Below w.heap.size w w'
theorem Ui{q:L}{path:List iE}{S:List oh×List Cd}(hq:parse q=.ok [path])(ho:z_ (JU 2) (gh.of path))(hS:jS 0 false (gh.of path)=S)(hz:S.2.length<=1000)(hcs:∀s∈S.1,∀x∈s.2.2,∃j c,x=((j:Nat):Int)/\S.2[j]?=some c/\XG S.2 c)(gl:K.Gl w a)(hd:doc.size<=268435456)(hp:(K.eJ doc).2.1=0)(hR:∀ls ah TX,GH (K.eJ doc).1.length (Gq (K.eJ doc).1) 0 ls->sH (K.eJ doc).1 ls ah TX S=R):Calls prog 9 #[.string doc,.string (bs q)] w (Q_ w R):=by
 refine(T8 gl hd hp hq ho hS hz hcs).mono ?_;rintro e w' ⟨ls,ah,TX,va,vn,vc,rfl,hl,hi,hb⟩;have:=hR ls ah TX hl;unfold sH at this;exact⟨va,vn,vc,rfl,by rw[<-this];exact hi,hb⟩
theorem pw{S:List oh}{C:List Cd}(h:∀s∈S,s.2.2=[]):∀s∈(S,C).1,∀x∈s.2.2,∃j c,x=((j:Nat):Int)/\(S,C).2[j]?=some c/\XG (S,C).2 c:=fun s hs x hx=>by rw[h s hs]at hx;cases hx
variable(gl:K.Gl w a)(hd:doc.size<=268435456)(hp:(K.eJ doc).2.1=0)
include gl hd hp
theorem abe:Calls prog 9 #[.string doc,.string (bs qA)] w (Q_ w [0]):=
 Ui T9 ⟨trivial,trivial⟩ (S:=([ld false],[])) rfl (by simp) (pw (by simp)) gl hd hp fun ls ah TX _=>aac (K.jB hp).1 (K.jB hp).2
theorem abf:Calls prog 9 #[.string doc,.string (bs qB)] w (Q_ w (gP (K.eJ doc).1 true 0 false (K.eJ doc).1.length)):=
 Ui T_ ⟨trivial,trivial,trivial⟩ (S:=([ld false,ld false],[])) rfl (by simp) (pw (by simp)) gl hd hp fun ls ah TX _=>Gv (K.jB hp).1 (K.jB hp).2 true
theorem abg:Calls prog 9 #[.string doc,.string (bs qC)] w (Q_ w (gP (K.eJ doc).1 true (-2) true (K.eJ doc).1.length)):=
 Ui Ua ⟨trivial,trivial⟩ (S:=([ld true],[])) rfl (by simp) (pw (by simp)) gl hd hp fun ls ah TX _=>Gu true
theorem abh:Calls prog 9 #[.string doc,.string (bs qD)] w (Q_ w (gP (K.eJ doc).1 false (-2) true (K.eJ doc).1.length)):=
 Ui Ub ⟨trivial,trivial⟩ (S:=([mg true],[])) rfl (by simp) (pw (by simp)) gl hd hp fun ls ah TX _=>Gu false
theorem abj:Calls prog 9 #[.string doc,.string (bs qF)] w (Q_ w (gP (K.eJ doc).1 true (-2) false (K.eJ doc).1.length)):=
 Ui Uc ⟨trivial,trivial,trivial⟩ (S:=([ld false,ld true],[])) rfl (by simp) (pw (by simp)) gl hd hp fun ls ah TX hl=>aae (K.jB hp).1 (K.jB hp).2 hl
theorem abk:Calls prog 9 #[.string doc,.string (bs qG)] w (Q_ w (gP (K.eJ doc).1 false 0 false (K.eJ doc).1.length)):=
 Ui Ud ⟨trivial,trivial,trivial⟩ (S:=([ld false,mg false],[])) rfl (by simp) (pw (by simp)) gl hd hp fun ls ah TX _=>Gv (K.jB hp).1 (K.jB hp).2 false
theorem abl:Calls prog 9 #[.string doc,.string (bs qI)] w (Q_ w []):=
 Ui Uf ⟨trivial,trivial⟩ (S:=([mg false],[])) rfl (by simp) (pw (by simp)) gl hd hp fun ls ah TX _=>aad (K.jB hp).1 (K.jB hp).2
theorem abm:Calls prog 9 #[.string doc,.string (bs qH)] w (Q_ w (gP (K.eJ doc).1 false (-2) true (K.eJ doc).1.length)):=by
 have leaf:∀s,(∀x∈s,x.2.2=[])->CM ⟨false,bs Cr,[],s,bs [],bs []⟩:=fun s hs=>⟨rfl,⟨by rw[fe];rfl,by rw[fe];rfl,by rw[fe];rfl⟩,hs⟩
 refine Ui Ue (S:=([(true,bs [42],[2]),mg false],Xd)) ?_ rfl (by simp[Xd]) ?_ gl hd hp fun ls ah TX _=>aaf (K.jB hp).1 (K.jB hp).2
 ·simp[z_,gh.of,pH,JU]
 ·intro s hs x hx;simp only[bM,bB,cm]at hs;rcases hs with rfl|rfl
  ·simp only[bF]at hx;subst hx;refine⟨2,_,rfl,rfl,Or.inr ⟨rfl,by rw[fe];rfl,fun y hy=>?_⟩⟩;simp only[bM,bB,cm]at hy;rcases hy with rfl|rfl
   ·exact⟨0,_,rfl,rfl,leaf _ (by simp)⟩
   ·exact⟨1,_,rfl,rfl,leaf _ (by simp)⟩
  ·simp at hx
end
section
variable{w w':World}{a:Addr}
def Uj:ByteArray:=⟨#[60,97,62,60,98,47,62,120,60,98,32,107,61,39,49,39,47,62,60,47,97,62]⟩
def wG:List K.Nd:=[⟨[97],[],[],[1,2,3],-1⟩,⟨[98],[],[],[],0⟩,⟨[],[],[120],[],0⟩,⟨[98],[([107],[49])],[],[],0⟩]
theorem Gx:K.lB Uj=([⟨1,[97],[],[],0⟩,⟨1,[98],[],[],3⟩,⟨2,[98],[],[],3⟩,⟨3,[],[],[120],7⟩,⟨1,[98],[([107],[49])],[],8⟩,⟨2,[98],[],[],8⟩,⟨2,[97],[],[],18⟩],0,0):=by rw[<-K.Tw];kernel_rfl
theorem Ra{s:ByteArray}(h:(K.lB s).2.1=0):(K.ee s).err=0/\(K.ee s).l++(K.ee s).last=(K.lB s).1:=by
 unfold K.lB at h ⊢;by_cases he:(K.ee s).err=0
 ·rw[if_neg (by simpa using he)];exact⟨he,rfl⟩
 ·rw[if_pos he]at h;exact absurd h he
theorem zM:K.eJ Uj=(wG,0,0):=by
 obtain⟨h1,h2⟩:=Ra (s:=Uj) (by rw[Gx]);unfold K.eJ;rw[h2,h1,Gx];rfl
def cdZ:List Cd:=[⟨false,bs [61],[],[],bs [107],bs [49]⟩]
theorem aag{ls ah:List Int}{TX:ByteArray}:sH wG ls ah TX ([(false,bs [97],[]),(false,bs [98],[0])],cdZ)=[3]:=by
 unfold sH;rw[xP];have e:jG wG.length (lF wG) (ma wG) ls (Ny wG.length (lF wG) (ma wG) ls ah TX (zI wG) cdZ) [(false,bs [97],[]),(false,bs [98],[0])] (-1) 1=[0]:=by
  show ry (fZ wG.length (lF wG) (ma wG) ls _ false (bs [97]) [] [(-1:Int)])=[0];have:∀hb,fZ wG.length (lF wG) (ma wG) ls hb false (bs [97]) [] [(-1:Int)]=[0]:=fun hb=>by
   unfold fZ;rw[jP];simp[List.filter,vM,ur,ma,fe,nodeAt,wG]
  rw[this];simp[ry]
 rw[e];have:∀hb,(∀k,hb 0 k=(((zI wG k).filter fun x=>x.1.toList==[107]).map (·.2)).any (JS (bs [61]) (bs [49])))->fZ wG.length (lF wG) (ma wG) ls hb false (bs [98]) [0] [0]=[3]:=fun hb h=>by
  unfold fZ;have:iP wG.length (lF wG) ls false [0]=[1,2,3]:=by
   simp[iP,jY,lF,nodeAt,wG]
  rw[this];simp[List.filter,vM,ur,ma,fe,nodeAt,wG,h,zI,JS]
 show Lib.compact (ry (fZ wG.length (lF wG) (ma wG) ls _ false (bs [98]) [0] [0]))=[3];rw[this _ fun k=>?_]
 ·simp[ry];rfl
 ·simp[Ny,cdZ,fe,wQ,ij,mj]
theorem abn(gl:K.Gl w a):Calls prog 9 #[.string Uj,.string (bs qZ)] w (Q_ w [3]):=by
 refine Ui Ug (S:=([(false,bs [97],[]),(false,bs [98],[0])],cdZ)) (by simp[z_,gh.of,pZ,JU]) rfl (by simp[cdZ]) ?_ gl (by decide) (by rw[zM]) fun ls ah TX _=>by rw[zM];exact aag
 intro s hs x hx;simp only[bM,bB,cm]at hs;rcases hs with rfl|rfl
 ·simp at hx
 ·simp only[bF]at hx;subst hx;exact⟨0,_,rfl,rfl,Or.inl ⟨rfl,⟨by rw[fe];rfl,by rw[fe];rfl,by rw[fe];rfl⟩,fun s hs=>by cases hs⟩⟩
theorem Gy(gl:K.Gl w a):Calls prog 8 #[] w fun e w'=>e=.returned (.bool true)/\Below w.heap.size w w':=by
 have H1:=a_ (abn gl);clear gl;go_enter func8,ntmps8;go_wp2_with(first
  |(go_at_call 9;refine H1.out.mono ?_;rintro e w1 ⟨va,vn,vc,rfl,⟨ai,ac,e,⟨k1,-⟩,hr⟩,hb⟩;obtain⟨rfl,rfl,rfl⟩:va=ai/\vn=1/\vc=ac:=(by cases e;exact⟨rfl,rfl,rfl⟩);obtain⟨g,off,rfl,-,c0⟩:=hr 0 3 rfl;have k2:1<=vc:=k1;rw[bG]at c0;have HB:=a_ hb;clear H1 hb hr e k1)
  |(go_at_call 7;refine(Jy _ _).mono ?_;rintro e w2 ⟨rfl,rfl⟩))
 first|exact⟨rfl,HB.out⟩|(go_ret;exact⟨rfl,HB.out⟩)
end
section
variable{W w w':World}{a:Addr}{doc:ByteArray}{R:List Int}{l:List K.Nd}{g cap:Nat}{ps:List (Value×List Int)}{v u:Value}
structure Ku(W w:World)(l:List K.Nd)(g cap:Nat)(ps:List (Value×List Int)):Prop where
 low:Below W.heap.size W w
 nd:GC w (.slice (some ⟨g,0,none⟩) l.length cap) l.length (lF l) (ma l)
 nu:XI w g l.length (sG l) (Gq l)
 ir:∀p∈ps,IR w p.1 p.2
theorem Ku.on(S:Ku W w l g cap ps)(h:Below w.heap.size w w'):Ku W w' l g cap ps:=by
 refine⟨S.low.trans (eG h S.low.size),S.nd.below h,⟨aq S.nu.1 h.size,fun k hk=>?_⟩,fun p hp=>(S.ir p hp).below h⟩;obtain⟨nm,ai,an,ac,ki,kn,kc,c0,c1,c2,c3,c4⟩:=S.nu.2 k hk;have e:∀j,w'.cell? ⟨g,j,none⟩=w.cell? ⟨g,j,none⟩:=fun j=>h.cell (by exact S.nu.1);exact⟨nm,ai,an,ac,ki,kn,kc,(e _).trans c0,(e _).trans c1,(e _).trans c2,(e _).trans c3,(e _).trans c4⟩
theorem Ku.add(S:Ku W w l g cap ps)(h:Below w.heap.size w w')(hi:IR w' v R):Ku W w' l g cap ((v,R)::ps):=by
 have T:=S.on h;refine⟨T.low,T.nd,T.nu,fun p hp=>?_⟩;rcases List.mem_cons.1 hp with rfl|hp
 ·exact hi
 ·exact T.ir p hp
def Ev(doc:ByteArray)(q:L)(w:World)(P:Option Addr->Nat->Nat->World->Prop):Prop:=Calls prog 9 #[.string doc,.string (bs q)] w fun e w'=>∃va vn vc,e=.returned (.tuple #[.slice va vn vc,.int .i64 0,.int .i64 0,.int .i64 0])/\Hid (P va vn vc w')
def Pk(g n cap:Nat)(el:Bool)(up:Int)(first:Bool)(w:World)(P:Option Addr->Nat->Nat->World->Prop):Prop:=Calls prog 11 #[.slice (some ⟨g,0,none⟩) n cap,.bool el,.int .i64 up,.bool first] w fun e w'=>∃va vn vc,e=.returned (.slice va vn vc)/\Hid (P va vn vc w')
def In(v u:Value)(w:World)(P:World->Prop):Prop:=Calls prog 10 #[v,u] w fun e w'=>e=.returned (.bool true)/\Hid (P w')
theorem nP{q:L}{P:Option Addr->Nat->Nat->World->Prop}(gl:K.Gl W a)(S:Ku W w l g cap ps)(hq:K.Gl w a->Calls prog 9 #[.string doc,.string (bs q)] w (Q_ w R))(h:∀va vn vc w',Ku W w' l g cap ((.slice va vn vc,R)::ps)->P va vn vc w'):Ev doc q w P:=by
 refine(hq (Ks gl S.low)).mono ?_;rintro e w' ⟨va,vn,vc,rfl,hi,hb⟩;exact⟨va,vn,vc,rfl,a_ (h _ _ _ _ (S.add hb hi))⟩
theorem vx{el first:Bool}{up:Int}{P:Option Addr->Nat->Nat->World->Prop}(S:Ku W w l g cap ps)(hb:l.length<=1000000000000)(hm:(el=true/\up=0/\first=false)\/(el=true/\up= -2/\first=true)\/(el=false/\up= -2/\first=true)\/(el=true/\up= -2/\first=false)\/(el=false/\up=0/\first=false))(h:∀va vn vc w',Ku W w' l g cap ((.slice va vn vc,gP l el up first l.length)::ps)->P va vn vc w'):Pk g l.length cap el up first w P:=by
 refine(Ni S.nd S.nu hb hm).mono ?_;rintro e w' ⟨va,vn,vc,rfl,hi,hb⟩;exact⟨va,vn,vc,rfl,a_ (h _ _ _ _ (S.add hb hi))⟩
theorem px{P:World->Prop}(S:Ku W w l g cap ps)(h1:(v,R)∈ps)(h2:(u,R)∈ps)(h:∀w',Ku W w' l g cap ps->P w'):In v u w P:=by
 refine(Uh (S.ir _ h1) (S.ir _ h2)).mono ?_;rintro e w' ⟨rfl,hb⟩;exact⟨by simp,a_ (h _ (S.on hb))⟩
def lX(W:World)(doc:ByteArray)(g n cap:Nat)(w:World):Prop:=
 Ev doc qA w fun a1 n1 c1 w=>Ev doc qB w fun a2 n2 c2 w=>Ev doc qC w fun a3 n3 c3 w=>Ev doc qD w fun a4 n4 c4 w=>Ev doc qF w fun a5 n5 c5 w=>Ev doc qG w fun a6 n6 c6 w=>Ev doc qH w fun a7 n7 c7 w=>Ev doc qI w fun a8 n8 c8 w=>n8=0/\
 Hid (In (.slice a1 n1 c1) (.slice (some ⟨w.heap.size,0,none⟩) 1 1) (w.alloc (.cells #[.int .i64 0] 3)) fun w=>
 Pk g n cap true 0 false w fun pa pn pc w=>In (.slice a2 n2 c2) (.slice pa pn pc) w fun w=>
 Pk g n cap true (-2) true w fun pa pn pc w=>In (.slice a3 n3 c3) (.slice pa pn pc) w fun w=>
 Pk g n cap false (-2) true w fun pa pn pc w=>In (.slice a4 n4 c4) (.slice pa pn pc) w fun w=>
 Pk g n cap true (-2) false w fun pa pn pc w=>In (.slice a5 n5 c5) (.slice pa pn pc) w fun w=>
 Pk g n cap false 0 false w fun pa pn pc w=>In (.slice a6 n6 c6) (.slice pa pn pc) w fun w=>
 In (.slice a7 n7 c7) (.slice a4 n4 c4) w fun w=>Calls prog 8 #[] w fun e w'=>e=.returned (.bool true)/\Below W.heap.size W w')
theorem chain(gl:K.Gl W a)(hd:doc.size<=268435456)(hp:(K.eJ doc).2.1=0)(hb:(K.eJ doc).1.length<=1000000000000)(S:Ku W w (K.eJ doc).1 g cap []):lX W doc g (K.eJ doc).1.length cap w:=by
 refine nP gl S (fun gl=>abe gl hd hp) fun a1 n1 c1 w S=>?_;refine nP gl S (fun gl=>abf gl hd hp) fun a2 n2 c2 w S=>?_;refine nP gl S (fun gl=>abg gl hd hp) fun a3 n3 c3 w S=>?_;refine nP gl S (fun gl=>abh gl hd hp) fun a4 n4 c4 w S=>?_;refine nP gl S (fun gl=>abj gl hd hp) fun a5 n5 c5 w S=>?_;refine nP gl S (fun gl=>abk gl hd hp) fun a6 n6 c6 w S=>?_;refine nP gl S (fun gl=>abm gl hd hp) fun a7 n7 c7 w S=>?_;refine nP gl S (fun gl=>abl gl hd hp) fun a8 n8 c8 w S=>?_;have hz:n8=0:=by
  obtain⟨x,y,e,-⟩:=S.ir _ (.head _);have e:Value.slice a8 n8 c8=.slice x 0 y:=e;cases e;rfl
 refine⟨hz,a_ ?_⟩;have aah:IR (w.alloc (.cells #[.int .i64 0] 3)) (.slice (some ⟨w.heap.size,0,none⟩) 1 1) [0]:=by
  refine⟨_,_,rfl,⟨au _,by simp⟩,fun i x hx=>⟨_,_,rfl,by simp,?_⟩⟩;have:i=0:=by have:=(List.getElem?_eq_some_iff.1 hx).1;simpa using this
  subst this;cases hx;exact cell_of (dR w (.cells #[.int .i64 0] 3)) rfl
 have S:=S.add ((Below.refl _ w).alloc (au _) _) aah;clear aah hz;refine px (R:=[0]) S (by simp) (by simp) fun w S=>?_;refine vx S hb (by simp) fun pa pn pc w S=>px S (by simp) (.head _) fun w S=>?_;refine vx S hb (by simp) fun pa pn pc w S=>px S (by simp) (.head _) fun w S=>?_;refine vx S hb (by simp) fun pa pn pc w S=>px S (by simp) (.head _) fun w S=>?_;refine vx S hb (by simp) fun pa pn pc w S=>px S (by simp) (.head _) fun w S=>?_;refine vx S hb (by simp) fun pa pn pc w S=>px S (by simp) (.head _) fun w S=>?_;refine px (R:=gP (K.eJ doc).1 false (-2) true (K.eJ doc).1.length) S (by simp) (by simp) fun w S=>(Gy (Ks gl S.low)).mono ?_;rintro e w' ⟨rfl,hb⟩;exact⟨rfl,(S.on hb).low⟩
def AxB(W:World)(doc:ByteArray):Prop:=Calls prog 5 #[.string doc] W fun e w=>∃no at_ v,(no !=0)=true/\e=.returned (.tuple #[v,.int .i64 no,.int .i64 at_])/\Hid (Calls prog 6 #[.string doc] w fun e w=>∃v at_,e=.returned (.tuple #[v,.int .i64 no,.int .i64 at_])/\Hid (Calls prog 8 #[] w fun e w'=>e=.returned (.bool true)/\Below W.heap.size W w'))
theorem aai(gl:K.Gl W a)(hd:doc.size<=268435456)(hp:(K.eJ doc).2.1≠0):AxB W doc:=by
 refine(K.qj doc W gl hd).mono ?_;rintro e w ⟨v,rfl,-,hb,-⟩;refine⟨_,_,_,by simpa using hp,rfl,a_ ((K.Cm doc w hd).mono ?_)⟩;rintro e w2 ⟨v2,rfl,-,hb2⟩;have b2:=hb.trans (eG hb2 hb.size);refine⟨_,_,rfl,a_ ((Gy (Ks gl b2)).mono ?_)⟩;rintro e w3 ⟨rfl,hb3⟩;exact⟨rfl,b2.trans (eG hb3 b2.size)⟩
def AxG(W:World)(doc:ByteArray):Prop:=Calls prog 5 #[.string doc] W fun e w=>∃g n cap at_,e=.returned (.tuple #[.slice (some ⟨g,0,none⟩) n cap,.int .i64 0,.int .i64 at_])/\Hid (Calls prog 6 #[.string doc] w fun e w=>∃v at_,e=.returned (.tuple #[v,.int .i64 0,.int .i64 at_])/\Hid (lX W doc g n cap w))
theorem Xe(gl:K.Gl W a)(hd:doc.size<=268435456)(hp:(K.eJ doc).2.1=0):AxG W doc:=by
 obtain⟨T,h0⟩:=K.jB hp;have aaa:=K.Cj doc;have hlen:=K.DS (K.eJ doc).1;refine(K.qj doc W gl hd).mono ?_;rintro e w ⟨v,rfl,hN,hb,-⟩;obtain⟨g,cap,rfl,hg,hn,hU,-⟩:=Q0 hN h0 (by omega) fun n hn=>⟨by have:=K.Jw _ n hn;omega,by
  obtain⟨k,hk⟩:=dg hn;have:=rE (K.eJ doc).1.length (n.kids.map fun(j:Nat)=>(j:Int)) (List.pairwise_map.2 ((T.nd k n hk).1.imp fun h e=>h (by omega))) fun x hx=>by
   obtain⟨j,hj,rfl⟩:=List.mem_map.1 hx;obtain⟨m,hm,-⟩:=(T.kid k n hk j).1 hj;have:=(List.getElem?_eq_some_iff.1 hm).1;omega
  rw[cJ]at this;omega⟩
 refine⟨g,_,cap,_,by rw[hp],a_ ((K.Cm doc w hd).mono ?_)⟩;rintro e w2 ⟨v2,rfl,-,hb2⟩;exact⟨_,_,by rw[hp],a_ (chain gl hd hp (by omega) (Ku.on ⟨hb,hn,hU,fun p hp=>by cases hp⟩ hb2))⟩
theorem aap(gl:K.Gl W a)(hd:doc.size<=268435456):Calls prog 3 #[.string doc] W fun e w'=>e=.returned (.bool true)/\Below W.heap.size W w':=by
 by_cases hp:(K.eJ doc).2.1=0
 ·have H:=a_ (Xe gl hd hp);clear gl hd hp;unfold AxG lX Ev Pk In at H;go_enter func3,ntmps3;go_wp2_with(first
   |(go_at_call 5;refine H.out.mono ?_;clear H;rintro e w ⟨g,n,cap,at_,rfl,H⟩)
   |(go_at_call 6;refine H.out.mono ?_;clear H;rintro e w ⟨v,at_,rfl,H⟩)
   |(go_at_call 7;refine(Jy _ _).mono ?_;rintro e w' ⟨rfl,rfl⟩)
   |(go_at_call 9;refine H.out.mono ?_;clear H;rintro e w ⟨va,vn,vc,rfl,H⟩;(try(obtain⟨h8,H8⟩:=H.out;clear H;subst h8;rename Hid _=>H)))
   |(go_at_call 11;refine H.out.mono ?_;clear H;rintro e w ⟨va,vn,vc,rfl,H⟩)
   |(go_at_call 10;refine H.out.mono ?_;clear H;rintro e w ⟨rfl,H⟩)
   |(go_at_call 8;refine H.out.mono ?_;clear H;rintro e w ⟨rfl,H⟩))
  first|exact⟨rfl,H⟩|(go_ret;exact⟨rfl,H⟩)
 ·have H:=a_ (aai gl hd hp);clear gl hd hp;unfold AxB at H;go_enter func3,ntmps3;go_wp2_with(first
   |(go_at_call 5;refine H.out.mono ?_;clear H;rintro e w ⟨no,at_,v,hno,rfl,H⟩)
   |(go_at_call 6;refine H.out.mono ?_;clear H;rintro e w ⟨v,at_,rfl,H⟩)
   |(go_at_call 7;refine(Jy _ _).mono ?_;rintro e w' ⟨rfl,rfl⟩)
   |(go_at_call 8;refine H.out.mono ?_;clear H;rintro e w ⟨rfl,H⟩))
  first|exact⟨rfl,H⟩|(go_ret;exact⟨rfl,H⟩)
end
end Go.Proofs.YtclgfepngpeifaaGreatDoor
