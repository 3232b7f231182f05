import Derived.Test.YtclgfepngpeifaaGreatDoorXA
import Derived.Test.YtclgfepngpeifaaGreatDoorXay
import Derived.Test.YtclgfepngpeifaaGreatDoorXaz
set_option linter.unusedVariables false
set_option linter.unusedSimpArgs false
set_option maxHeartbeats 32000000
set_option maxRecDepth 100000
namespace Go.Proofs.YtclgfepngpeifaaGreatDoor
open Go.RowKit Go.Maps Go.Lib Go.Shelf Tryz
section
variable{l:List K.Nd}{ls ah:List Int}{hb:Int->Nat->Bool}{TX:ByteArray}{el first:Bool}{up:Int}{L:List Int}
abbrev ld(d:Bool):oh:=(d,bs [42],[])
abbrev mg(d:Bool):oh:=(d,bs [35],[])
def sH(l:List K.Nd)(ls ah:List Int)(TX:ByteArray)(S:List oh×List Cd):List Int:=Lib.compact (ry (mj l.length (lF l) (ma l) ls (NC l.length (lF l) (ma l) ls ah TX (zL l) S.2) S.1 (-1)))
theorem vw(x:Int):vP (bs [42]) (ma l) [] hb x=GO l x.toNat:=by unfold vP;rw[zK];simp
theorem vx(x:Int):vP (bs [35]) (ma l) [] hb x=!GO l x.toNat:=by unfold vP;rw[Q5];simp
theorem vy(h:∀x,x∈L↔x∈gP l el up first l.length):Lib.compact (ry L)=gP l el up first l.length:=xP (ky L).1 Ng fun x=>((ky L).2 x).trans (h x)
theorem vz(T:K.pR l)(h0:0<l.length):GO l 0=true:=by
 have:=(T.zero _ (mb h0)).2;unfold GO;simpa using this
theorem jx{k:Nat}:q9 l el up first k=true↔GO l k=el/\(up= -2\/(nodeAt l k).up=up)/\(0<k\/first=true):=by
 unfold q9;simp[and_assoc]
theorem jP(d:Bool):iP l.length (lF l) ls d [(-1:Int)]=if d=true then Eu 0 l.length else [0]:=by
 unfold iP;cases d
 ·simp[jY]
 ·simp only[if_true,gF,aP];rfl
theorem Gw(T:K.pR l)(h0:0<l.length)(s:List oh):jG l.length (lF l) (ma l) ls hb (ld false::s) (-1) 1=[0]:=by
 have e:fZ l.length (lF l) (ma l) ls hb false (bs [42]) [] [(-1:Int)]=[0]:=by
  unfold fZ;rw[jP];simp[List.filter,vw,vz T h0]
 show ry (fZ l.length (lF l) (ma l) ls hb false (bs [42]) [] [(-1:Int)])=[0];rw[e];simp[ry]
theorem xS(s t:oh):mj l.length (lF l) (ma l) ls hb [s,t] (-1)=fZ l.length (lF l) (ma l) ls hb t.1 t.2.1 t.2.2 (jG l.length (lF l) (ma l) ls hb [s,t] (-1) 1):=rfl
theorem DW(s:oh):mj l.length (lF l) (ma l) ls hb [s] (-1)=fZ l.length (lF l) (ma l) ls hb s.1 s.2.1 s.2.2 [-1]:=rfl
theorem Gx(b:Bool){C:List Cd}:sH l ls ah TX ([if b=true then ld true else mg true],C)=gP l b (-2) true l.length:=by
 unfold sH;simp only[DW];refine vy fun x=>?_;rw[vv];cases b
 ·show x∈fZ _ _ _ _ _ true (bs [35]) [] [-1]↔_;unfold fZ;rw[jP,bT,vx,if_pos rfl,xQ];constructor
  ·rintro⟨⟨k,rfl,-,hk⟩,h⟩;exact⟨k,rfl,hk,jx.2 ⟨by simpa using h,Or.inl rfl,Or.inr rfl⟩⟩
  ·rintro⟨k,rfl,hk,hp⟩;exact⟨⟨k,rfl,aB _,hk⟩,by simpa using(jx.1 hp).1⟩
 ·show x∈fZ _ _ _ _ _ true (bs [42]) [] [-1]↔_;unfold fZ;rw[jP,bT,vw,if_pos rfl,xQ];constructor
  ·rintro⟨⟨k,rfl,-,hk⟩,h⟩;exact⟨k,rfl,hk,jx.2 ⟨by simpa using h,Or.inl rfl,Or.inr rfl⟩⟩
  ·rintro⟨k,rfl,hk,hp⟩;exact⟨⟨k,rfl,aB _,hk⟩,by simpa using(jx.1 hp).1⟩
variable(T:K.pR l)(h0:0<l.length)(hl:GK l.length (Gu l) 0 ls)
include T h0
theorem aae{C:List Cd}:sH l ls ah TX ([ld false],C)=[0]:=by
 unfold sH;simp only[DW];refine xP (ky _).1 (by simp) fun x=>((ky _).2 x).trans ?_;unfold fZ;rw[jP,bT,vw];simp only[aA,aQ,bF];constructor
 ·exact fun h=>h.1
 ·rintro rfl;exact⟨rfl,vz T h0⟩
theorem Gy(b:Bool){C:List Cd}:sH l ls ah TX ([ld false,if b=true then ld false else mg false],C)=gP l b 0 false l.length:=by
 unfold sH;simp only[xS];refine vy fun x=>?_;rw[Gw T h0];unfold fZ iP;have hk:(if b=true then ld false else mg false).1=false:=by cases b<;>rfl
 have ho:∀y:Int,vP (if b=true then ld false else mg false).2.1 (ma l) (if b=true then ld false else mg false).2.2 (NC l.length (lF l) (ma l) ls ah TX (zL l) C) y=(GO l y.toNat==b):=fun y=>by
  cases b
  ·show vP (bs [35]) _ [] _ y=_;rw[vx];cases GO l y.toNat<;>rfl
  ·show vP (bs [42]) _ [] _ y=_;rw[vw];cases GO l y.toNat<;>rfl
 rw[hk,bT,ho,vv];simp only[aA,aQ,cE,List.flatMap_nil,aP];have e0:jY (lF l) 0=lF l 0:=rfl;rw[e0,po T h0];constructor
 ·rintro⟨⟨j,rfl,hj,hu⟩,h⟩;refine⟨j,rfl,hj,jx.2 ⟨by simpa using h,Or.inr hu,Or.inl ?_⟩⟩;rcases dK j with rfl|h'
  ·have:=(T.zero _ (mb hj)).1;rw[hu]at this;omega
  ·exact h'
 ·rintro⟨k,rfl,hk,hp⟩;obtain⟨h1,h2,h3⟩:=jx.1 hp;exact⟨⟨k,rfl,hk,(by rcases h2 with h2|h2;omega;exact h2)⟩,by simpa using h1⟩
theorem aaf{C:List Cd}:sH l ls ah TX ([mg false],C)=[]:=by
 unfold sH;simp only[DW];refine xP (ky _).1 (by simp) fun x=>((ky _).2 x).trans ?_;unfold fZ;rw[jP,bT,vx];simp only[aA,aQ,bF,bB,iff_false];rintro⟨rfl,h⟩;rw[show ((0:Int).toNat)=0 from rfl,vz T h0]at h;cases h
include hl
theorem aag{C:List Cd}:sH l ls ah TX ([ld false,ld true],C)=gP l true (-2) false l.length:=by
 unfold sH;simp only[xS];refine vy fun x=>?_;rw[Gw T h0,vv];have hr:=hl.root (Q6 T).1 h0 (Q6 T).2;have e:iP l.length (lF l) ls true [(0:Int)]=Eu 1 l.length:=by
  unfold iP;simp only[if_true,gF,aP];have:z_ l.length ls 0=l.length:=by
   unfold z_;rw[if_neg (by omega),show ((0:Int).toNat)=0 from rfl,hr];simp;omega
  rw[this];rfl
 show x∈fZ _ _ _ _ _ true (bs [42]) [] [0]↔_;unfold fZ;rw[e,bT,vw,xQ];constructor
 ·rintro⟨⟨k,rfl,h1,hk⟩,h⟩;exact⟨k,rfl,hk,jx.2 ⟨by simpa using h,Or.inl rfl,Or.inl (by omega)⟩⟩
 ·rintro⟨k,rfl,hk,hp⟩;obtain⟨h1,-,h3⟩:=jx.1 hp;exact⟨⟨k,rfl,(by rcases h3 with h3|h3;omega;cases h3),hk⟩,by simpa using h1⟩
omit hl
def Xg:List Cd:=[⟨false,bs Cv,[],[mg false],bs [],bs []⟩,⟨false,bs Cv,[],[ld true,mg false],bs [],bs []⟩,⟨false,bs X4,[0,1],[],bs [],bs []⟩]
theorem aah:sH l ls ah TX ([(true,bs [42],[2]),mg false],Xg)=gP l false (-2) true l.length:=by
 unfold sH;simp only[xS];refine vy fun x=>?_;rw[vv];have hc:∀y:Int,y∈jG l.length (lF l) (ma l) ls (NC l.length (lF l) (ma l) ls ah TX (zL l) Xg) [(true,bs [42],[2]),mg false] (-1) 1↔∃k:Nat,y=k/\k<l.length/\GO l k=true/\NC l.length (lF l) (ma l) ls ah TX (zL l) Xg 2 k=true:=fun y=>by
  show y∈ry (fZ _ _ _ _ _ true (bs [42]) [2] [-1])↔_;unfold ry fZ;rw[List.mem_mergeSort,jP,bT,if_pos rfl,xQ];unfold vP;constructor
  ·rintro⟨⟨k,rfl,-,hk⟩,h⟩;rw[aH,zK]at h;simp at h;exact⟨k,rfl,hk,h.1,h.2⟩
  ·rintro⟨k,rfl,hk,h1,h2⟩;refine⟨⟨k,rfl,aB _,hk⟩,?_⟩;rw[aH,zK,h1];simpa using h2
 show x∈fZ _ _ _ _ _ false (bs [35]) [] _↔_;unfold fZ iP;rw[bT,vx];simp only[aA,aQ,List.mem_flatMap,hc];constructor
 ·rintro⟨⟨y,⟨k,rfl,hk,-,-⟩,hx⟩,h⟩;have e:jY (lF l) (k:Int)=lF l k:=by unfold jY;rw[if_neg (by omega),aH]
  rw[e,po T hk]at hx;obtain⟨j,rfl,hj,-⟩:=hx;exact⟨j,rfl,hj,jx.2 ⟨by simpa using h,Or.inl rfl,Or.inr rfl⟩⟩
 ·rintro⟨j,rfl,hj,hp⟩;have hE:=(jx.1 hp).1;refine⟨?_,by simpa using hE⟩;cases j with
  |zero=>rw[vz T h0]at hE;cases hE
  |succ j=>
   obtain⟨u,hu,hu2,m,hm,hne⟩:=T.up j _ (mb hj);have ND:=(List.getElem?_eq_some_iff.1 hm).1;have e:jY (lF l) (u:Int)=lF l u:=by unfold jY;rw[if_neg (by omega),aH]
   have hx:((j+1:Nat):Int)∈lF l u:=(po T ND).2 ⟨j+1,rfl,hj,hu⟩;refine⟨(u:Int),⟨u,rfl,ND,?_,?_⟩,by rw[e];exact hx⟩
   ·unfold GO;rw[wI hm];simpa using hne
   ·have h1:yE l.length (lF l) (ma l) ls ah TX (zL l) Xg 0 u=true:=by
     show wT l.length (lF l) (ma l) ls ah TX (zL l) ⟨false,bs Cv,[],[mg false],bs [],bs []⟩ u=true;unfold wT;have nB:((j+1:Nat):Int)∈mj l.length (lF l) (ma l) ls (fun _ _=>false) [mg false] u:=by
      show _∈fZ _ _ _ _ _ false (bs [35]) [] [(u:Int)];unfold fZ iP;rw[bT,vx];refine⟨?_,by rw[aH,hE];rfl⟩;simp only[aA,aQ,cE,List.flatMap_nil,aP,e];exact hx
     refine List.any_eq_true.2 ⟨yt TX ls ah (j+1),List.mem_flatMap.2 ⟨_,nB,?_⟩,?_⟩
     ·unfold ij;rw[if_pos (by rw[fe];rfl),aH];simp
     ·unfold JV;rw[fe];rfl
    show (if((bs X4).toList==[111,114])=true then [(0:Int),1].any fun y=>yE l.length (lF l) (ma l) ls ah TX (zL l) Xg y u else _)=true;rw[fe,if_pos (by decide),List.any_cons,h1];rfl
end
section
variable{w w':World}{v u:Value}{x y:List Int}{l:List K.Nd}
theorem JB(n:Int)(w:World):Z4 7 #[.int .i64 n] w (Z6 (.int .i64 n) w):=by
 go_enter func7,ntmps7;go_wp2;go_ret;exact⟨rfl,rfl⟩
theorem Uk(hx:IR w v x)(hy:IR w u y):Z4 10 #[v,u] w fun e w'=>e=.returned (.bool (decide (x=y)))/\Below w.heap.size w w':=by
 obtain⟨ai,ac,rfl,⟨h1,h2⟩,hr⟩:=hx;obtain⟨bi,bc',rfl,⟨h3,h4⟩,hs⟩:=hy;by_cases hl:x.length=y.length
 ·have HK:Hid (∀i,i<y.length->∃g off g2 CH p q,ai=some ⟨g,off,none⟩/\bi=some ⟨g2,CH,none⟩/\w.cell? ⟨g,off+i,none⟩=some (.int .i64 p)/\w.cell? ⟨g2,CH+i,none⟩=some (.int .i64 q)/\x[i]?=some p/\y[i]?=some q):=a_ fun i hi=>by
   have e1:x[i]?=some (x[i]'(by omega)):=aF _;have e2:y[i]?=some y[i]:=aF _;obtain⟨g,off,e,-,c⟩:=hr i _ e1;obtain⟨g2,CH,e',-,c'⟩:=hs i _ e2;exact⟨g,off,g2,CH,_,_,e,e',c,c',e1,e2⟩
  have HE:Hid ((∀j,j<y.length->x[j]?=y[j]?)->x=y):=a_ fun h=>List.ext_getElem? fun j=>by
   by_cases hj:j<y.length
   ·exact h j hj
   ·rw[cK (by omega),cK (by omega)]
  clear hr hs;rw[hl]at h1 h2 ⊢;have hlen:y.length<=1000000000000:=h4;have HD:Hid (∀b:Bool,(b=true↔x=y)->decide (x=y)=b):=a_ fun b hb=>by cases b<;>simp_all
  generalize decide (x=y)=D at*
  obtain⟨n,hn⟩:∃n,y.length=n:=⟨_,rfl⟩
  rw[hn]at HK HE h1 h2 h3 h4 hlen ⊢;go_enter func10,ntmps10;go_wp2_with fail;go_loopw [5] (fun iv wr=>∃i m:Nat,iv=.int .i64 i/\i<=n/\(∀j,j<i->x[j]?=y[j]?)/\wr=w.drewN m) (fun iv _=>n-(RowKit.intOf iv).toNat)
  case atStart=>exact⟨0,0,rfl,aB _,fun j h=>by omega,rfl⟩
  case round=>
   obtain⟨i,m,rfl,hi,hall,rfl⟩:=hrel;by_cases hlt:i<n
   ·obtain⟨g,off,g2,CH,p,q,rfl,rfl,c1,c2,e1,e2⟩:=HK.out i hlt;have d1:∀m,(w.drewN m).cell? ⟨g,off+i,none⟩=some (.int .i64 p):=fun m=>c1;have d2:∀m,(w.drewN m).cell? ⟨g2,CH+i,none⟩=some (.int .i64 q):=fun m=>c2;have Nw:(i:Int)<n:=by omega
    have HA:=a_ hall;clear HK c1 c2 hall;by_cases hpq:p=q
    ·have hne:(p !=q)=false:=by simpa using hpq
     clear HE HD;go_wp2_with fail;go_quiet(fail);go_wp2;refine⟨⟨i+1,_,by simp,by omega,fun j hj=>?_,rfl⟩,by simp only[RowKit.intOf];omega⟩;by_cases hji:j=i
     ·rw[hji,e1,e2,hpq]
     ·exact HA.out j (by omega)
    ·have hne:(p !=q)=true:=by simpa using hpq
     have hD:D=false:=HD.out false ⟨fun h=>(by cases h),fun h=>by rw[h,e2]at e1;cases e1;exact absurd rfl hpq⟩;subst hD;clear HE HD;go_wp2_with fail;go_quiet(fail);go_wp2;go_ret;exact⟨rfl,below_drewN (below_drewN (Below.refl _ w) _) _⟩
   ·obtain rfl:i=n:=by omega
    have hD:D=true:=HD.out true ⟨fun _=>HE.out hall,fun _=>rfl⟩;subst hD;clear HE HD HK hall;go_wp2;go_ret;exact⟨rfl,below_drewN (Below.refl _ w) _⟩
 ·have hD:decide (x=y)=false:=by simp;intro e;exact hl (by rw[e])
  rw[hD];clear hr hs;have hne:((x.length:Int) !=(y.length:Int))=true:=by simp;omega
  have KG:(x.length !=y.length)=true:=by simpa using hl
  generalize x.length=n at*
  generalize y.length=m at*
  go_enter func10,ntmps10;go_wp2;go_ret;exact⟨rfl,Below.refl _ _⟩
end
section
variable{w w' wr w7:World}{v u av v7:Value}{l:List K.Nd}{el first:Bool}{up:Int}{i:Nat}
theorem Cr:gP l el up first (i+1)=gP l el up first i++(if q9 l el up first i then [(i:Int)]else []):=by
 unfold gP;rw[List.range_succ,dL,bE];cases h:q9 l el up first i<;>simp[h]
theorem Gz:(gP l el up first i).length<=i:=by
 unfold gP;rw[cJ];exact aw (List.length_filter_le _ _) (by simp)
structure NM(w wr:World)(av:Value)(l:List K.Nd)(el:Bool)(up:Int)(first:Bool)(i:Nat):Prop where
 own:wr.ownsRow 0 3 1 av (gP l el up first i).length (g_ (gP l el up first i))
 new:∀k,av.ownBlock=some k->w.heap.size<=k
 low:Below w.heap.size w wr
theorem NM.keep(h:NM w wr av l el up first i)(hb:q9 l el up first i=false):NM w wr av l el up first (i+1):=by
 have e:gP l el up first (i+1)=gP l el up first i:=by rw[Cr,hb];simp
 exact⟨by rw[e];exact h.own,h.new,h.low⟩
theorem NM.add(h:NM w wr av l el up first i)(hb:q9 l el up first i=true)(ho:w7.ownsRow 0 3 1 v7 ((gP l el up first i).length+1) (g_ (gP l el up first i)++[.int .i64 (i:Nat)]))(hg:(wr.alloc (.cells #[.int .i64 (i:Nat)] 3)).grownBy w7 av.ownBlock)(ha:v7.ownBlock=av.ownBlock\/v7.ownBlock=some (wr.alloc (.cells #[.int .i64 (i:Nat)] 3)).heap.size):NM w w7 v7 l el up first (i+1):=by
 have e:gP l el up first (i+1)=gP l el up first i++[(i:Int)]:=by rw[Cr,hb];simp
 have hs:=h.low.size;refine⟨by rw[e,ax];simpa [g_]using ho,fun k hk=>?_,(h.low.alloc h.low.size _).grown hg (by simp;omega) h.new⟩;rcases ha with ha|ha
 ·exact h.new k (ha▸hk)
 ·rw[ha]at hk;cases hk;simp;omega
theorem Nl{g cap:Nat}(hN:GG w (Z9 g l.length cap) l.length (lF l) (ma l))(hU:XL w g l.length (sG l) (Gu l))(hb:l.length<=1000000000000)(hm:(el=true/\up=0/\first=false)\/(el=true/\up= -2/\first=true)\/(el=false/\up= -2/\first=true)\/(el=true/\up= -2/\first=false)\/(el=false/\up=0/\first=false)):Z4 11 #[Z9 g l.length cap,.bool el,.int .i64 up,.bool first] w fun e w'=>∃va vn vc,e=.returned (.slice va vn vc)/\IR w' (.slice va vn vc) (gP l el up first l.length)/\Below w.heap.size w w':=by
 obtain⟨i0,hi,hz0,hz1,hz2⟩:=aY uw;have HC:Hid (∀i wr,i<l.length->Below w.heap.size w wr->wr.cell? ⟨g,i*5,none⟩=some (.string (ma l i))/\wr.cell? ⟨g,i*5+4,none⟩=some (.int .i64 (Gu l i))):=a_ fun i wr hi hb=>by
  obtain⟨g',cap',e,-,hg,hr⟩:=hN;cases e;obtain⟨nm,ai,an,ac,ki,kn,kc,-,-,-,-,c4⟩:=hU.2 i hi;exact⟨(hb.cell (by exact hg)).trans (hr i hi).1,(hb.cell (by exact hg)).trans c4⟩
 have Ez:l.length<=cap:=by
  obtain⟨g',cap',e,h,-⟩:=hN;cases e;exact h.1
 have HB:Hid (∀i,q9 l el up first i=(((!((ma l i).toList==[]))==el)&&((up== -2)||(Gu l i==up))&&(decide (0<i)||first))):=a_ fun i=>by
  unfold q9 GO ma Gu;rw[fe];have e1:∀a b:Int,decide (a=b)=(a==b):=fun a b=>by by_cases h:a=b<;>simp[h]
  rw[e1,e1];cases (nodeAt l i).name<;>rfl
 have HF:Hid (∀av wr,NM w wr av l el up first l.length->∃va vn vc,av=.slice va vn vc/\IR wr (.slice va vn vc) (gP l el up first l.length)/\Below w.heap.size w wr):=a_ fun av wr h=>by
  obtain⟨an,n',ac,rfl⟩:=fT h.own;exact⟨_,_,_,rfl,lh h.own (aw Gz hb),h.low⟩
 have HL:Hid (∀i,(gP l el up first i).length<=i):=a_ fun i=>Gz;have HK:Hid (∀i av wr,NM w wr av l el up first i->q9 l el up first i=false->NM w wr av l el up first (i+1)):=a_ fun i av wr h e=>h.keep e;have H0:Hid (NM w w (.slice none 0 0) l el up first 0):=a_ ⟨bA _ _ _ _,fun k e=>(by cases e),Below.refl _ _⟩;have HS:Hid (∀i av wr,NM w wr av l el up first i->∃va vn vc,av=.slice va vn vc):=a_ fun i av wr h=>by
  obtain⟨an,n',ac,rfl⟩:=fT h.own;exact⟨_,_,_,rfl⟩
 clear hN hU;obtain⟨n,hn⟩:∃n,l.length=n:=⟨_,rfl⟩
 rw[hn]at HC HF hb Ez ⊢;clear hn;rcases hm with⟨rfl,rfl,rfl⟩|⟨rfl,rfl,rfl⟩|⟨rfl,rfl,rfl⟩|⟨rfl,rfl,rfl⟩|⟨rfl,rfl,rfl⟩;all_goals
  go_enter func11,ntmps11;go_wp2_with fail;go_loopw [9,10] (fun av iv wr=>∃i:Nat,iv=.int .i64 i/\i<=n/\NM w wr av l _ _ _ i) (fun _ iv _=>n-(RowKit.intOf iv).toNat)
  case atStart=>exact⟨0,rfl,aB _,H0.out⟩
  case round=>
   rename World=>WO
   obtain⟨i,rfl,GJ,hM⟩:=hrel;clear H0;by_cases hlt:i<n
   ·obtain⟨c0,c4⟩:=HC.out i WO hlt hM.low;obtain⟨va,vn,vc,rfl⟩:=HS.out _ _ _ hM;have hB:=a_ (HB.out i);have Nw:(i:Int)<n:=by omega
    have HM:=a_ hM;have hpl:=HL.out i;clear HC HB HF HS HL hM;generalize ma l i=nm at*
    generalize Gu l i=uu at*
    have hE:nm.toList.isEmpty=true\/nm.toList.isEmpty=false:=by cases nm.toList.isEmpty<;>simp
    rcases hE with hE|hE<;>rcases Decidable.em (uu=0)with rfl|huu<;>rcases dK i with rfl|h0
    all_goals first
     |(have tZ:=a_ (HK.out _ _ _ HM.out (by rw[hB.out];simp[*]));clear HK HM hB;go_wp2_with fail;exact⟨⟨_,by simp,by omega,tZ.out⟩,by simp only[RowKit.intOf];omega⟩)
     |(have HO:=a_ HM.out.own;have HA:=a_ (fun v7 w7 ho hg ha=>HM.out.add (w7:=w7) (v7:=v7) (by rw[hB.out];simp[*]) ho hg ha);clear HK HM hB;go_wp2_with(at_builtin;refine bu (w:=_) rfl _ _ 31 rfl 0 3 i0 _ 1 8 underlying31 hi hz0 hz1 hz2 rfl (by decide) _ _ _ rfl (HO.out.alloc _) ⟨WO.heap.size,0,none⟩ 1 1 [.int .i64 ((_:Nat):Int)] rfl rfl (kK _ _ _) (by simp[Value.oneCell']) (by unfold maxLen;omega) (by omega) (aB _) ?_;intro v7 w7 Xz YG _ Sl;have tZ:=a_ (HA.out _ _ Xz YG Sl);clear Xz YG Sl HA HO);exact⟨⟨_,by simp,by omega,tZ.out⟩,by simp only[RowKit.intOf];omega⟩)
   ·obtain rfl:i=n:=by omega
    obtain⟨va,vn,vc,rfl,hP⟩:=HF.out _ _ hM;have HP:=a_ hP;clear HF hM hP HC HB HL HK HS;go_wp2;go_ret;exact⟨_,_,_,rfl,HP.out⟩
end
section
variable{w w':World}{a:Addr}{doc:ByteArray}{R:List Int}
def Rc(w:World)(R:List Int)(e:Ending)(w':World):Prop:=∃va vn vc,e=.returned (.tuple #[.slice va vn vc,.int .i64 0,.int .i64 0,.int .i64 0])/\IR w' (.slice va vn vc) R/\Below w.heap.size w w'
theorem Ul{q:L}{path:List iE}{S:List oh×List Cd}(hq:parse q=.ok [path])(ho:Ac (JY 2) (gh.of path))(hS:jS 0 false (gh.of path)=S)(hz:S.2.length<=1000)(hcs:∀s∈S.1,∀x∈s.2.2,∃j c,x=((j:Nat):Int)/\S.2[j]?=some c/\XJ S.2 c)(gl:K.Gl w a)(hd:doc.size<=268435456)(hp:(K.eJ doc).2.1=0)(hR:∀ls ah TX,GK (K.eJ doc).1.length (Gu (K.eJ doc).1) 0 ls->sH (K.eJ doc).1 ls ah TX S=R):Z4 9 #[.string doc,.string (bs q)] w (Rc w R):=by
 refine(Ua gl hd hp hq ho hS hz hcs).mono ?_;rintro e w' ⟨ls,ah,TX,va,vn,vc,rfl,hl,hi,hb⟩;have:=hR ls ah TX hl;unfold sH at this;exact⟨va,vn,vc,rfl,by rw[<-this];exact hi,hb⟩
theorem pw{S:List oh}{C:List Cd}(h:∀s∈S,s.2.2=[]):∀s∈(S,C).1,∀x∈s.2.2,∃j c,x=((j:Nat):Int)/\(S,C).2[j]?=some c/\XJ (S,C).2 c:=fun s hs x hx=>by rw[h s hs]at hx;cases hx
variable(gl:K.Gl w a)(hd:doc.size<=268435456)(hp:(K.eJ doc).2.1=0)
include gl hd hp
theorem abg:Z4 9 #[.string doc,.string (bs qA)] w (Rc w [0]):=
 Ul Ub ⟨trivial,trivial⟩ (S:=([ld false],[])) rfl (by simp) (pw (by simp)) gl hd hp fun ls ah TX _=>aae (K.jB hp).1 (K.jB hp).2
theorem abh:Z4 9 #[.string doc,.string (bs qB)] w (Rc w (gP (K.eJ doc).1 true 0 false (K.eJ doc).1.length)):=
 Ul Uc ⟨trivial,trivial,trivial⟩ (S:=([ld false,ld false],[])) rfl (by simp) (pw (by simp)) gl hd hp fun ls ah TX _=>Gy (K.jB hp).1 (K.jB hp).2 true
theorem abj:Z4 9 #[.string doc,.string (bs qC)] w (Rc w (gP (K.eJ doc).1 true (-2) true (K.eJ doc).1.length)):=
 Ul Ud ⟨trivial,trivial⟩ (S:=([ld true],[])) rfl (by simp) (pw (by simp)) gl hd hp fun ls ah TX _=>Gx true
theorem abk:Z4 9 #[.string doc,.string (bs qD)] w (Rc w (gP (K.eJ doc).1 false (-2) true (K.eJ doc).1.length)):=
 Ul Ue ⟨trivial,trivial⟩ (S:=([mg true],[])) rfl (by simp) (pw (by simp)) gl hd hp fun ls ah TX _=>Gx false
theorem abl:Z4 9 #[.string doc,.string (bs qF)] w (Rc w (gP (K.eJ doc).1 true (-2) false (K.eJ doc).1.length)):=
 Ul Uf ⟨trivial,trivial,trivial⟩ (S:=([ld false,ld true],[])) rfl (by simp) (pw (by simp)) gl hd hp fun ls ah TX hl=>aag (K.jB hp).1 (K.jB hp).2 hl
theorem abm:Z4 9 #[.string doc,.string (bs qG)] w (Rc w (gP (K.eJ doc).1 false 0 false (K.eJ doc).1.length)):=
 Ul Ug ⟨trivial,trivial,trivial⟩ (S:=([ld false,mg false],[])) rfl (by simp) (pw (by simp)) gl hd hp fun ls ah TX _=>Gy (K.jB hp).1 (K.jB hp).2 false
theorem abn:Z4 9 #[.string doc,.string (bs qI)] w (Rc w []):=
 Ul Ui ⟨trivial,trivial⟩ (S:=([mg false],[])) rfl (by simp) (pw (by simp)) gl hd hp fun ls ah TX _=>aaf (K.jB hp).1 (K.jB hp).2
theorem abo:Z4 9 #[.string doc,.string (bs qH)] w (Rc w (gP (K.eJ doc).1 false (-2) true (K.eJ doc).1.length)):=by
 have leaf:∀s,(∀x∈s,x.2.2=[])->CP ⟨false,bs Cv,[],s,bs [],bs []⟩:=fun s hs=>⟨rfl,⟨by rw[fe];rfl,by rw[fe];rfl,by rw[fe];rfl⟩,hs⟩
 refine Ul Uh (S:=([(true,bs [42],[2]),mg false],Xg)) ?_ rfl (by simp[Xg]) ?_ gl hd hp fun ls ah TX _=>aah (K.jB hp).1 (K.jB hp).2
 ·simp[Ac,gh.of,pH,JY]
 ·intro s hs x hx;simp only[bM,bB,cm]at hs;rcases hs with rfl|rfl
  ·simp only[bF]at hx;subst hx;refine⟨2,_,rfl,rfl,Or.inr ⟨rfl,by rw[fe];rfl,fun y hy=>?_⟩⟩;simp only[bM,bB,cm]at hy;rcases hy with rfl|rfl
   ·exact⟨0,_,rfl,rfl,leaf _ (by simp)⟩
   ·exact⟨1,_,rfl,rfl,leaf _ (by simp)⟩
  ·simp at hx
end
section
variable{w w':World}{a:Addr}
def Um:ByteArray:=⟨#[60,97,62,60,98,47,62,120,60,98,32,107,61,39,49,39,47,62,60,47,97,62]⟩
def wJ:List K.Nd:=[⟨[97],[],[],[1,2,3],-1⟩,⟨[98],[],[],[],0⟩,⟨[],[],[120],[],0⟩,⟨[98],[([107],[49])],[],[],0⟩]
theorem GA:K.lB Um=([⟨1,[97],[],[],0⟩,⟨1,[98],[],[],3⟩,⟨2,[98],[],[],3⟩,⟨3,[],[],[120],7⟩,⟨1,[98],[([107],[49])],[],8⟩,⟨2,[98],[],[],8⟩,⟨2,[97],[],[],18⟩],0,0):=by rw[<-K.Tz];kernel_rfl
theorem Re{s:ByteArray}(h:(K.lB s).2.1=0):(K.ee s).err=0/\(K.ee s).l++(K.ee s).last=(K.lB s).1:=by
 unfold K.lB at h ⊢;by_cases he:(K.ee s).err=0
 ·rw[if_neg (by simpa using he)];exact⟨he,rfl⟩
 ·rw[if_pos he]at h;exact absurd h he
theorem zP:K.eJ Um=(wJ,0,0):=by
 obtain⟨h1,h2⟩:=Re (s:=Um) (by rw[GA]);unfold K.eJ;rw[h2,h1,GA];rfl
def cdZ:List Cd:=[⟨false,bs [61],[],[],bs [107],bs [49]⟩]
theorem aai{ls ah:List Int}{TX:ByteArray}:sH wJ ls ah TX ([(false,bs [97],[]),(false,bs [98],[0])],cdZ)=[3]:=by
 unfold sH;rw[xS];have e:jG wJ.length (lF wJ) (ma wJ) ls (NC wJ.length (lF wJ) (ma wJ) ls ah TX (zL wJ) cdZ) [(false,bs [97],[]),(false,bs [98],[0])] (-1) 1=[0]:=by
  show ry (fZ wJ.length (lF wJ) (ma wJ) ls _ false (bs [97]) [] [(-1:Int)])=[0];have:∀hb,fZ wJ.length (lF wJ) (ma wJ) ls hb false (bs [97]) [] [(-1:Int)]=[0]:=fun hb=>by
   unfold fZ;rw[jP];simp[List.filter,vP,ur,ma,fe,nodeAt,wJ]
  rw[this];simp[ry]
 rw[e];have:∀hb,(∀k,hb 0 k=(((zL wJ k).filter fun x=>x.1.toList==[107]).map (·.2)).any (JV (bs [61]) (bs [49])))->fZ wJ.length (lF wJ) (ma wJ) ls hb false (bs [98]) [0] [0]=[3]:=fun hb h=>by
  unfold fZ;have:iP wJ.length (lF wJ) ls false [0]=[1,2,3]:=by simp[iP,jY,lF,nodeAt,wJ]
  rw[this];simp[List.filter,vP,ur,ma,fe,nodeAt,wJ,h,zL,JV]
 show Lib.compact (ry (fZ wJ.length (lF wJ) (ma wJ) ls _ false (bs [98]) [0] [0]))=[3];rw[this _ fun k=>?_]
 ·simp[ry];rfl
 ·simp[NC,cdZ,fe,wT,ij,mj]
theorem abp(gl:K.Gl w a):Z4 9 #[.string Um,.string (bs qZ)] w (Rc w [3]):=by
 refine Ul Uj (S:=([(false,bs [97],[]),(false,bs [98],[0])],cdZ)) (by simp[Ac,gh.of,pZ,JY]) rfl (by simp[cdZ]) ?_ gl (by decide) (by rw[zP]) fun ls ah TX _=>by rw[zP];exact aai
 intro s hs x hx;simp only[bM,bB,cm]at hs;rcases hs with rfl|rfl
 ·simp at hx
 ·simp only[bF]at hx;subst hx;exact⟨0,_,rfl,rfl,Or.inl ⟨rfl,⟨by rw[fe];rfl,by rw[fe];rfl,by rw[fe];rfl⟩,fun s hs=>by cases hs⟩⟩
theorem GC(gl:K.Gl w a):Z4 8 #[] w fun e w'=>e=.returned (.bool true)/\Below w.heap.size w w':=by
 have H1:=a_ (abp gl);clear gl;go_enter func8,ntmps8;go_wp2_with(first
  |(go_at_call 9;refine H1.out.mono ?_;rintro e w1 ⟨va,vn,vc,rfl,⟨ai,ac,e,⟨k1,-⟩,hr⟩,hb⟩;obtain⟨rfl,rfl,rfl⟩:va=ai/\vn=1/\vc=ac:=(by cases e;exact⟨rfl,rfl,rfl⟩);obtain⟨g,off,rfl,-,c0⟩:=hr 0 3 rfl;have k2:1<=vc:=k1;rw[bG]at c0;have HB:=a_ hb;clear H1 hb hr e k1)
  |(go_at_call 7;refine(JB _ _).mono ?_;rintro e w2 ⟨rfl,rfl⟩))
 first|exact⟨rfl,HB.out⟩|(go_ret;exact⟨rfl,HB.out⟩)
end
section
variable{W w w':World}{a:Addr}{doc:ByteArray}{R:List Int}{l:List K.Nd}{g cap:Nat}{ps:List (Value×List Int)}{v u:Value}
structure Ky(W w:World)(l:List K.Nd)(g cap:Nat)(ps:List (Value×List Int)):Prop where
 low:Below W.heap.size W w
 nd:GG w (Z9 g l.length cap) l.length (lF l) (ma l)
 nu:XL w g l.length (sG l) (Gu l)
 ir:∀p∈ps,IR w p.1 p.2
theorem Ky.on(S:Ky W w l g cap ps)(h:Below w.heap.size w w'):Ky W w' l g cap ps:=by
 refine⟨S.low.trans (eG h S.low.size),S.nd.below h,⟨aq S.nu.1 h.size,fun k hk=>?_⟩,fun p hp=>(S.ir p hp).below h⟩;obtain⟨nm,ai,an,ac,ki,kn,kc,c0,c1,c2,c3,c4⟩:=S.nu.2 k hk;have e:∀j,w'.cell? ⟨g,j,none⟩=w.cell? ⟨g,j,none⟩:=fun j=>h.cell (by exact S.nu.1);exact⟨nm,ai,an,ac,ki,kn,kc,(e _).trans c0,(e _).trans c1,(e _).trans c2,(e _).trans c3,(e _).trans c4⟩
theorem Ky.add(S:Ky W w l g cap ps)(h:Below w.heap.size w w')(hi:IR w' v R):Ky W w' l g cap ((v,R)::ps):=by
 have T:=S.on h;refine⟨T.low,T.nd,T.nu,fun p hp=>?_⟩;rcases List.mem_cons.1 hp with rfl|hp
 ·exact hi
 ·exact T.ir p hp
def Ev(doc:ByteArray)(q:L)(w:World)(P:Option Addr->Nat->Nat->World->Prop):Prop:=Z4 9 #[.string doc,.string (bs q)] w fun e w'=>∃va vn vc,e=.returned (.tuple #[.slice va vn vc,.int .i64 0,.int .i64 0,.int .i64 0])/\Hid (P va vn vc w')
def Pk(g n cap:Nat)(el:Bool)(up:Int)(first:Bool)(w:World)(P:Option Addr->Nat->Nat->World->Prop):Prop:=Z4 11 #[Z9 g n cap,.bool el,.int .i64 up,.bool first] w fun e w'=>∃va vn vc,e=.returned (.slice va vn vc)/\Hid (P va vn vc w')
def In(v u:Value)(w:World)(P:World->Prop):Prop:=Z4 10 #[v,u] w fun e w'=>e=.returned (.bool true)/\Hid (P w')
theorem nP{q:L}{P:Option Addr->Nat->Nat->World->Prop}(gl:K.Gl W a)(S:Ky W w l g cap ps)(hq:K.Gl w a->Z4 9 #[.string doc,.string (bs q)] w (Rc w R))(h:∀va vn vc w',Ky W w' l g cap ((.slice va vn vc,R)::ps)->P va vn vc w'):Ev doc q w P:=by
 refine(hq (Kv gl S.low)).mono ?_;rintro e w' ⟨va,vn,vc,rfl,hi,hb⟩;exact⟨va,vn,vc,rfl,a_ (h _ _ _ _ (S.add hb hi))⟩
theorem vA{el first:Bool}{up:Int}{P:Option Addr->Nat->Nat->World->Prop}(S:Ky W w l g cap ps)(hb:l.length<=1000000000000)(hm:(el=true/\up=0/\first=false)\/(el=true/\up= -2/\first=true)\/(el=false/\up= -2/\first=true)\/(el=true/\up= -2/\first=false)\/(el=false/\up=0/\first=false))(h:∀va vn vc w',Ky W w' l g cap ((.slice va vn vc,gP l el up first l.length)::ps)->P va vn vc w'):Pk g l.length cap el up first w P:=by
 refine(Nl S.nd S.nu hb hm).mono ?_;rintro e w' ⟨va,vn,vc,rfl,hi,hb⟩;exact⟨va,vn,vc,rfl,a_ (h _ _ _ _ (S.add hb hi))⟩
theorem px{P:World->Prop}(S:Ky W w l g cap ps)(h1:(v,R)∈ps)(h2:(u,R)∈ps)(h:∀w',Ky W w' l g cap ps->P w'):In v u w P:=by
 refine(Uk (S.ir _ h1) (S.ir _ h2)).mono ?_;rintro e w' ⟨rfl,hb⟩;exact⟨by simp,a_ (h _ (S.on hb))⟩
def lX(W:World)(doc:ByteArray)(g n cap:Nat)(w:World):Prop:=
 Ev doc qA w fun a1 n1 c1 w=>Ev doc qB w fun a2 n2 c2 w=>Ev doc qC w fun a3 n3 c3 w=>Ev doc qD w fun a4 n4 c4 w=>Ev doc qF w fun a5 n5 c5 w=>Ev doc qG w fun a6 n6 c6 w=>Ev doc qH w fun a7 n7 c7 w=>Ev doc qI w fun a8 n8 c8 w=>n8=0/\
 Hid (In (.slice a1 n1 c1) (.slice (some ⟨w.heap.size,0,none⟩) 1 1) (w.alloc (.cells #[.int .i64 0] 3)) fun w=>
 Pk g n cap true 0 false w fun pa pn pc w=>In (.slice a2 n2 c2) (.slice pa pn pc) w fun w=>
 Pk g n cap true (-2) true w fun pa pn pc w=>In (.slice a3 n3 c3) (.slice pa pn pc) w fun w=>
 Pk g n cap false (-2) true w fun pa pn pc w=>In (.slice a4 n4 c4) (.slice pa pn pc) w fun w=>
 Pk g n cap true (-2) false w fun pa pn pc w=>In (.slice a5 n5 c5) (.slice pa pn pc) w fun w=>
 Pk g n cap false 0 false w fun pa pn pc w=>In (.slice a6 n6 c6) (.slice pa pn pc) w fun w=>
 In (.slice a7 n7 c7) (.slice a4 n4 c4) w fun w=>Z4 8 #[] w fun e w'=>e=.returned (.bool true)/\Below W.heap.size W w')
theorem chain(gl:K.Gl W a)(hd:doc.size<=268435456)(hp:(K.eJ doc).2.1=0)(hb:(K.eJ doc).1.length<=1000000000000)(S:Ky W w (K.eJ doc).1 g cap []):lX W doc g (K.eJ doc).1.length cap w:=by
 refine nP gl S (fun gl=>abg gl hd hp) fun a1 n1 c1 w S=>?_;refine nP gl S (fun gl=>abh gl hd hp) fun a2 n2 c2 w S=>?_;refine nP gl S (fun gl=>abj gl hd hp) fun a3 n3 c3 w S=>?_;refine nP gl S (fun gl=>abk gl hd hp) fun a4 n4 c4 w S=>?_;refine nP gl S (fun gl=>abl gl hd hp) fun a5 n5 c5 w S=>?_;refine nP gl S (fun gl=>abm gl hd hp) fun a6 n6 c6 w S=>?_;refine nP gl S (fun gl=>abo gl hd hp) fun a7 n7 c7 w S=>?_;refine nP gl S (fun gl=>abn gl hd hp) fun a8 n8 c8 w S=>?_;have hz:n8=0:=by
  obtain⟨x,y,e,-⟩:=S.ir _ (.head _);have e:Value.slice a8 n8 c8=.slice x 0 y:=e;cases e;rfl
 refine⟨hz,a_ ?_⟩;have aaj:IR (w.alloc (.cells #[.int .i64 0] 3)) (.slice (some ⟨w.heap.size,0,none⟩) 1 1) [0]:=by
  refine⟨_,_,rfl,⟨au _,by simp⟩,fun i x hx=>⟨_,_,rfl,by simp,?_⟩⟩;have:i=0:=by have:=(List.getElem?_eq_some_iff.1 hx).1;simpa using this
  subst this;cases hx;exact cell_of (dR w (.cells #[.int .i64 0] 3)) rfl
 have S:=S.add ((Below.refl _ w).alloc (au _) _) aaj;clear aaj hz;refine px (R:=[0]) S (by simp) (by simp) fun w S=>?_;refine vA S hb (by simp) fun pa pn pc w S=>px S (by simp) (.head _) fun w S=>?_;refine vA S hb (by simp) fun pa pn pc w S=>px S (by simp) (.head _) fun w S=>?_;refine vA S hb (by simp) fun pa pn pc w S=>px S (by simp) (.head _) fun w S=>?_;refine vA S hb (by simp) fun pa pn pc w S=>px S (by simp) (.head _) fun w S=>?_;refine vA S hb (by simp) fun pa pn pc w S=>px S (by simp) (.head _) fun w S=>?_;refine px (R:=gP (K.eJ doc).1 false (-2) true (K.eJ doc).1.length) S (by simp) (by simp) fun w S=>(GC (Kv gl S.low)).mono ?_;rintro e w' ⟨rfl,hb⟩;exact⟨rfl,(S.on hb).low⟩
def AxB(W:World)(doc:ByteArray):Prop:=Z4 5 #[.string doc] W fun e w=>∃no at_ v,(no !=0)=true/\e=.returned (.tuple #[v,.int .i64 no,.int .i64 at_])/\Hid (Z4 6 #[.string doc] w fun e w=>∃v at_,e=.returned (.tuple #[v,.int .i64 no,.int .i64 at_])/\Hid (Z4 8 #[] w fun e w'=>e=.returned (.bool true)/\Below W.heap.size W w'))
theorem aak(gl:K.Gl W a)(hd:doc.size<=268435456)(hp:(K.eJ doc).2.1≠0):AxB W doc:=by
 refine(K.qj doc W gl hd).mono ?_;rintro e w ⟨v,rfl,-,hb,-⟩;refine⟨_,_,_,by simpa using hp,rfl,a_ ((K.Cp doc w hd).mono ?_)⟩;rintro e w2 ⟨v2,rfl,-,hb2⟩;have b2:=hb.trans (eG hb2 hb.size);refine⟨_,_,rfl,a_ ((GC (Kv gl b2)).mono ?_)⟩;rintro e w3 ⟨rfl,hb3⟩;exact⟨rfl,b2.trans (eG hb3 b2.size)⟩
def AxG(W:World)(doc:ByteArray):Prop:=Z4 5 #[.string doc] W fun e w=>∃g n cap at_,e=.returned (.tuple #[Z9 g n cap,.int .i64 0,.int .i64 at_])/\Hid (Z4 6 #[.string doc] w fun e w=>∃v at_,e=.returned (.tuple #[v,.int .i64 0,.int .i64 at_])/\Hid (lX W doc g n cap w))
theorem Xh(gl:K.Gl W a)(hd:doc.size<=268435456)(hp:(K.eJ doc).2.1=0):AxG W doc:=by
 obtain⟨T,h0⟩:=K.jB hp;have aac:=K.Cm doc;have hlen:=K.DV (K.eJ doc).1;refine(K.qj doc W gl hd).mono ?_;rintro e w ⟨v,rfl,hN,hb,-⟩;obtain⟨g,cap,rfl,hg,hn,hU,-⟩:=Q7 hN h0 (by omega) fun n hn=>⟨by have:=K.JA _ n hn;omega,by
  obtain⟨k,hk⟩:=dg hn;have:=rE (K.eJ doc).1.length (n.kids.map fun(j:Nat)=>(j:Int)) (List.pairwise_map.2 ((T.nd k n hk).1.imp fun h e=>h (by omega))) fun x hx=>by
   obtain⟨j,hj,rfl⟩:=List.mem_map.1 hx;obtain⟨m,hm,-⟩:=(T.kid k n hk j).1 hj;have:=(List.getElem?_eq_some_iff.1 hm).1;omega
  rw[cJ]at this;omega⟩
 refine⟨g,_,cap,_,by rw[hp],a_ ((K.Cp doc w hd).mono ?_)⟩;rintro e w2 ⟨v2,rfl,-,hb2⟩;exact⟨_,_,by rw[hp],a_ (chain gl hd hp (by omega) (Ky.on ⟨hb,hn,hU,fun p hp=>by cases hp⟩ hb2))⟩
theorem aar(gl:K.Gl W a)(hd:doc.size<=268435456):Z4 3 #[.string doc] W fun e w'=>e=.returned (.bool true)/\Below W.heap.size W w':=by
 by_cases hp:(K.eJ doc).2.1=0
 ·have H:=a_ (Xh gl hd hp);clear gl hd hp;unfold AxG lX Ev Pk In at H;go_enter func3,ntmps3;go_wp2_with(first
   |(go_at_call 5;refine H.out.mono ?_;clear H;rintro e w ⟨g,n,cap,at_,rfl,H⟩)
   |(go_at_call 6;refine H.out.mono ?_;clear H;rintro e w ⟨v,at_,rfl,H⟩)
   |(go_at_call 7;refine(JB _ _).mono ?_;rintro e w' ⟨rfl,rfl⟩)
   |(go_at_call 9;refine H.out.mono ?_;clear H;rintro e w ⟨va,vn,vc,rfl,H⟩;(try(obtain⟨h8,H8⟩:=H.out;clear H;subst h8;rename Hid _=>H)))
   |(go_at_call 11;refine H.out.mono ?_;clear H;rintro e w ⟨va,vn,vc,rfl,H⟩)
   |(go_at_call 10;refine H.out.mono ?_;clear H;rintro e w ⟨rfl,H⟩)
   |(go_at_call 8;refine H.out.mono ?_;clear H;rintro e w ⟨rfl,H⟩))
  first|exact⟨rfl,H⟩|(go_ret;exact⟨rfl,H⟩)
 ·have H:=a_ (aak gl hd hp);clear gl hd hp;unfold AxB at H;go_enter func3,ntmps3;go_wp2_with(first
   |(go_at_call 5;refine H.out.mono ?_;clear H;rintro e w ⟨no,at_,v,hno,rfl,H⟩)
   |(go_at_call 6;refine H.out.mono ?_;clear H;rintro e w ⟨v,at_,rfl,H⟩)
   |(go_at_call 7;refine(JB _ _).mono ?_;rintro e w' ⟨rfl,rfl⟩)
   |(go_at_call 8;refine H.out.mono ?_;clear H;rintro e w ⟨rfl,H⟩))
  first|exact⟨rfl,H⟩|(go_ret;exact⟨rfl,H⟩)
end
end Go.Proofs.YtclgfepngpeifaaGreatDoor
