import Derived.Test.YtclgfepngpeifaaGreatDoorYA
import Derived.Test.YtclgfepngpeifaaGreatDoorYay
import Derived.Test.YtclgfepngpeifaaGreatDoorYaz
import Derived.Test.YtclgfepngpeifaaGreatDoorYaa
import Derived.Test.YtclgfepngpeifaaGreatDoorYah
set_option linter.unusedVariables false
set_option linter.unusedSimpArgs false
set_option maxHeartbeats 32000000
set_option maxRecDepth 100000
namespace Go.Proofs.YtclgfepngpeifaaGreatDoor
open Go.RowKit Go.Maps Go.Lib Go.Shelf Tryz
section
variable{l:List K.Nd}{ls ah:List Int}{hb:Int->Nat->Bool}{TX:ByteArray}{el first:Bool}{up:Int}{L:List Int}
def Ny(l:List K.Nd)(ls ah:List Int)(TX:ByteArray)(S:List pC×List Cd):List Int:=Lib.compact (uh (mb l.length (pR l) (tL l) ls (NU l.length (pR l) (tL l) ls ah TX (xL l) S.2) S.1 (-1)))
theorem wX(d:Bool):kM l.length (pR l) ls d [(-1:Int)]=if d=true then GN 0 l.length else [0]:=by
 unfold kM;cases d
 ·simp[lN]
 ·simp only[if_true,gU,aP];rfl
theorem Uz(s t:pC):mb l.length (pR l) (tL l) ls hb [s,t] (-1)=jx l.length (pR l) (tL l) ls hb t.1 t.2.1 t.2.2 (j7 l.length (pR l) (tL l) ls hb [s,t] (-1) 1):=rfl
theorem UA(s:pC):mb l.length (pR l) (tL l) ls hb [s] (-1)=jx l.length (pR l) (tL l) ls hb s.1 s.2.1 s.2.2 [-1]:=rfl
variable(T:K.pL l)(h0:0<l.length)(hl:GV l.length (Rh l) 0 ls)
include T h0
end
section
variable{w w':World}{v u:Value}{x y:List Int}{l:List K.Nd}
theorem DV(n:Int)(w:World):Z4 7 #[.int .i64 n] w (Z6 (.int .i64 n) w):=by
 go_enter func7,ntmps7;go_wp2;go_ret;exact⟨rfl,rfl⟩
end
section
variable{w w':World}{a:Addr}{doc:ByteArray}{R:List Int}
def EvR(w:World)(R:List Int)(e:Ending)(w':World):Prop:=∃va vn vc,e=.returned (.tuple #[.slice va vn vc,.int .i64 0,.int .i64 0,.int .i64 0])/\IR w' (.slice va vn vc) R/\Below w.heap.size w w'
theorem evr{q:L}{path:List iV}{S:List pC×List Cd}(hq:parse q=.ok [path])(ho:z8 (J6 2) (gw.of path))(hS:jW 0 false (gw.of path)=S)(hz:S.2.length<=1000)(hcs:∀s∈S.1,∀x∈s.2.2,∃j c,x=((j:Nat):Int)/\S.2[j]?=some c/\Zp S.2 c)(gl:K.Gl w a)(hd:doc.size<=268435456)(hp:(K.eZ doc).2.1=0)(hR:∀ls ah TX,GV (K.eZ doc).1.length (Rh (K.eZ doc).1) 0 ls->Ny (K.eZ doc).1 ls ah TX S=R):Z4 9 #[.string doc,.string (bs q)] w (EvR w R):=by
 refine(Ux gl hd hp hq ho hS hz hcs).mono ?_;rintro e w' ⟨ls,ah,TX,va,vn,vc,rfl,hl,hi,hb⟩;have:=hR ls ah TX hl;unfold Ny at this;exact⟨va,vn,vc,rfl,by rw[<-this];exact hi,hb⟩
variable(gl:K.Gl w a)(hd:doc.size<=268435456)(hp:(K.eZ doc).2.1=0)
include gl hd hp
end
section
variable{w w':World}{a:Addr}
def UB:ByteArray:=⟨#[60,97,62,60,98,47,62,120,60,98,32,107,61,39,49,39,47,62,60,47,97,62]⟩
def vZ:List K.Nd:=[⟨[97],[],[],[1,2,3],-1⟩,⟨[98],[],[],[],0⟩,⟨[],[],[120],[],0⟩,⟨[98],[([107],[49])],[],[],0⟩]
theorem GA:K.ly UB=([⟨1,[97],[],[],0⟩,⟨1,[98],[],[],3⟩,⟨2,[98],[],[],3⟩,⟨3,[],[],[120],7⟩,⟨1,[98],[([107],[49])],[],8⟩,⟨2,[98],[],[],8⟩,⟨2,[97],[],[],18⟩],0,0):=by rw[<-K.T6];kernel_rfl
theorem Rp{s:ByteArray}(h:(K.ly s).2.1=0):(K.ei s).err=0/\(K.ei s).l++(K.ei s).last=(K.ly s).1:=by
 unfold K.ly at h ⊢;by_cases he:(K.ei s).err=0
 ·rw[if_neg (by simpa using he)];exact⟨he,rfl⟩
 ·rw[if_pos he]at h;exact absurd h he
theorem zI:K.eZ UB=(vZ,0,0):=by
 obtain⟨h1,h2⟩:=Rp (s:=UB) (by rw[GA]);unfold K.eZ;rw[h2,h1,GA];rfl
def cdZ:List Cd:=[⟨false,bs [61],[],[],bs [107],bs [49]⟩]
theorem aap{ls ah:List Int}{TX:ByteArray}:Ny vZ ls ah TX ([(false,bs [97],[]),(false,bs [98],[0])],cdZ)=[3]:=by
 unfold Ny;rw[Uz];have e:j7 vZ.length (pR vZ) (tL vZ) ls (NU vZ.length (pR vZ) (tL vZ) ls ah TX (xL vZ) cdZ) [(false,bs [97],[]),(false,bs [98],[0])] (-1) 1=[0]:=by
  show uh (jx vZ.length (pR vZ) (tL vZ) ls _ false (bs [97]) [] [(-1:Int)])=[0];have:∀hb,jx vZ.length (pR vZ) (tL vZ) ls hb false (bs [97]) [] [(-1:Int)]=[0]:=fun hb=>by
   unfold jx;rw[wX];simp[List.filter,AW,xd,tL,fE,nodeAt,vZ]
  rw[this];simp[uh]
 rw[e];have:∀hb,(∀k,hb 0 k=(((xL vZ k).filter fun x=>x.1.toList==[107]).map (·.2)).any (J5 (bs [61]) (bs [49])))->jx vZ.length (pR vZ) (tL vZ) ls hb false (bs [98]) [0] [0]=[3]:=fun hb h=>by
  unfold jx;have:kM vZ.length (pR vZ) ls false [0]=[1,2,3]:=by simp[kM,lN,pR,nodeAt,vZ]
  rw[this];simp[List.filter,AW,xd,tL,fE,nodeAt,vZ,h,xL,J5]
 show Lib.compact (uh (jx vZ.length (pR vZ) (tL vZ) ls _ false (bs [98]) [0] [0]))=[3];rw[this _ fun k=>?_]
 ·simp[uh];rfl
 ·simp[NU,cdZ,fE,yy,iu,mb]
theorem abq(gl:K.Gl w a):Z4 9 #[.string UB,.string (bs qZ)] w (EvR w [3]):=by
 refine evr Uy (S:=([(false,bs [97],[]),(false,bs [98],[0])],cdZ)) (by simp[z8,gw.of,pZ,J6]) rfl (by simp[cdZ]) ?_ gl (by decide) (by rw[zI]) fun ls ah TX _=>by rw[zI];exact aap
 intro s hs x hx;simp only[bN,bC,cq]at hs;rcases hs with rfl|rfl
 ·simp at hx
 ·simp only[bG]at hx;subst hx;exact⟨0,_,rfl,rfl,Or.inl ⟨rfl,⟨by rw[fE];rfl,by rw[fE];rfl,by rw[fE];rfl⟩,fun s hs=>by cases hs⟩⟩
theorem GC(gl:K.Gl w a):Z4 8 #[] w fun e w'=>e=.returned (.bool true)/\Below w.heap.size w w':=by
 have H1:=a_ (abq gl);clear gl;go_enter func8,ntmps8;go_wp2_with(first
  |(go_at_call 9;refine H1.out.mono ?_;rintro e w1 ⟨va,vn,vc,rfl,⟨ai,ac,e,⟨k1,-⟩,hr⟩,hb⟩;obtain⟨rfl,rfl,rfl⟩:va=ai/\vn=1/\vc=ac:=(by cases e;exact⟨rfl,rfl,rfl⟩);obtain⟨g,off,rfl,-,c0⟩:=hr 0 3 rfl;have k2:1<=vc:=k1;rw[bH]at c0;have HB:=a_ hb;clear H1 hb hr e k1)
  |(go_at_call 7;refine(DV _ _).mono ?_;rintro e w2 ⟨rfl,rfl⟩))
 first|exact⟨rfl,HB.out⟩|(go_ret;exact⟨rfl,HB.out⟩)
end
section
variable{w w':World}{v u:Value}{x y:List Int}
theorem Rq(hx:IR w v x)(n:Int):Z4 14 #[v,.int .i64 n] w fun e w'=>e=.returned (.bool (decide (n∈x)))/\Below w.heap.size w w':=by
 obtain⟨ai,ac,rfl,⟨h1,h2⟩,hr⟩:=hx;have HK:Hid (∀i,i<x.length->∃g off p,ai=some ⟨g,off,none⟩/\w.cell? ⟨g,off+i,none⟩=some (.int .i64 p)/\x[i]?=some p):=a_ fun i hi=>by
  have e1:x[i]?=some (x[i]'(by omega)):=aF _;obtain⟨g,off,e,-,c⟩:=hr i _ e1;exact⟨g,off,_,e,c,e1⟩
 have HD:Hid (∀b:Bool,(b=true↔n∈x)->decide (n∈x)=b):=a_ fun b hb=>by cases b<;>simp_all
 have HE:Hid ((∀j,j<x.length->x[j]?≠some n)->¬n∈x):=a_ fun h hn=>by
  obtain⟨j,hj⟩:=di hn;exact h j (List.getElem?_eq_some_iff.1 hj).1 hj
 have HI:Hid (∀j,x[j]?=some n->n∈x):=a_ fun j h=>bP h;clear hr;generalize decide (n∈x)=D at*
 obtain⟨m,hm⟩:∃m,x.length=m:=⟨_,rfl⟩
 rw[hm]at HK HE h1 h2 ⊢;clear hm;go_enter func14,ntmps14;go_wp2_with fail;go_loopw [5] (fun iv wr=>∃i k:Nat,iv=.int .i64 i/\i<=m/\(∀j,j<i->x[j]?≠some n)/\wr=w.drewN k) (fun iv _=>m-(RowKit.intOf iv).toNat)
 case atStart=>exact⟨0,0,rfl,aB _,fun j h=>by omega,rfl⟩
 case round=>
  obtain⟨i,k,rfl,hi,hall,rfl⟩:=hrel;by_cases hlt:i<m
  ·obtain⟨g,off,p,rfl,c1,e1⟩:=HK.out i hlt;have d1:∀m,(w.drewN m).cell? ⟨g,off+i,none⟩=some (.int .i64 p):=fun m=>c1;have Lc:(i:Int)<m:=by omega
   have HA:=a_ hall;clear HK c1 hall;by_cases Yu:p=n
   ·have hne:(p==n)=true:=by simpa using Yu
    have hD:D=true:=HD.out true ⟨fun _=>HI.out i (by rw[e1,Yu]),fun _=>rfl⟩;subst hD;have HN:=a_ Yu;clear HE HD HI Yu;go_wp2;go_ret;exact⟨rfl,below_drewN (Below.refl _ w) _⟩
   ·have hne:(p==n)=false:=by simpa using Yu
    clear HE HD HI;go_wp2;refine⟨⟨i+1,_,by simp,by omega,fun j hj=>?_,rfl⟩,by simp only[RowKit.intOf];omega⟩;by_cases hji:j=i
    ·rw[hji,e1];intro e;exact Yu (aX e)
    ·exact HA.out j (by omega)
  ·obtain rfl:i=m:=by omega
   have hD:D=false:=HD.out false ⟨fun h=>(by cases h),fun h=>absurd h (HE.out hall)⟩;subst hD;clear HE HD HK HI hall;go_wp2;go_ret;exact⟨rfl,below_drewN (Below.refl _ w) _⟩
end
end Go.Proofs.YtclgfepngpeifaaGreatDoor
namespace Go.Proofs.YtclgfepngpeifaaGreatDoor
open Go.RowKit Tryz
set_option maxRecDepth 1000000 in
theorem GD(s:ByteArray)(w:World)(hs:s.size<=1125899906842624):
  Z4 13 #[.string s] w (Z6 (.int .i64 (Ch.bad s)) w):=by
 go_enter func13,ntmps13;go_wp2
 go_loop [3,4,5] (fun i _ _=>∃(pos fuel:Nat),i=.int .i64 pos/\Ch.eL s fuel pos=Ch.bad s/\s.size<pos+fuel/\pos<=s.size) (fun i _ _=>s.size-(intOf i).toNat)
 case atStart=>exact⟨0,s.size+1,rfl,rfl,by omega,by omega⟩
 case round=>
  obtain⟨pos,fuel,rfl,hc,hb,hl⟩:=hrel;obtain⟨f,rfl⟩:∃f,fuel=f+1:=⟨fuel-1,by omega⟩
  have HC:=a_ hc;clear hc;by_cases hp:pos<s.size
  ·have hwd:=Ch.ek s pos hp;have hat:=Ch.JM s pos hp;cases gZ:Ch.fQ s pos
   ·rw[gZ]at hat;simp only[aA,aQ]at hat;have HA:=a_ hat;clear hat;go_wp2_with(go_at_call 32;refine(pU _ _ _ hs hl).mono ?_;rintro e w' ⟨rfl,rfl⟩;rw[HA.out]);go_ret;refine⟨jT ?_,rfl⟩;have:=HC.out;simp only[Ch.eL,hp,gZ]at this;simp at this;omega
   ·rw[gZ]at hat;simp only[if_true]at hat;have HA:=a_ hat;clear hat;have hz:(((Utf8.decode s pos).2:Int)==0)=false:=by simp;omega
    go_wp2_with(go_at_call 32;refine(pU _ _ _ hs hl).mono ?_;rintro e w' ⟨rfl,rfl⟩;rw[HA.out])
    go_round
    case rel=>
     refine⟨pos+(Utf8.decode s pos).2,f,by go_num,?_,by omega,by omega⟩;have:=HC.out;simp only[Ch.eL,hp,gZ]at this;simpa using this
    case measure=>
     simp[intOf];omega
  ·go_wp2;go_ret;refine⟨jT ?_,rfl⟩;have:=HC.out;simp only[Ch.eL,hp]at this;simp at this;omega
end Go.Proofs.YtclgfepngpeifaaGreatDoor
namespace Go.Proofs.YtclgfepngpeifaaGreatDoor
open Go Tryz
section
variable{q l r t p R X T a b:L}{c d:UInt8}{cut:Bool}
theorem Nz(b:UInt8)(r:L):skip (b::r)=if [9,10,13,32].contains b=true then skip r else b::r:=by simp only[skip,Lib.trimLeftS,dn]
theorem GF(l:L):(bs l).size=l.length:=by simp[bs,ByteArray.size]
theorem jn(a b:L):K.Ch.joined (bs a) (bs b) (bs (a++b)):=⟨by simp[GF],fun k hk=>K.Ch.EX a b k (by simpa [GF]using hk),fun k=>by rw[GF];exact K.Ch.V5 a b k⟩
def Gd(l:L):Prop:=Ch.bad (bs l)=l.length
theorem Cn(hc:c.toNat<128)(r:L):Utf8.decode (bs (c::r)) 0=(c.toNat,1):=by
 have h0:=K.Ch.km c r;have:=Ch.fN (s:=bs (c::r)) (i:=0) (by show 0<=Ch.bz (K.Ch.txt (c::r)) 0;omega) (by show Ch.bz (K.Ch.txt (c::r)) 0<128;omega);rw[this];show ((Ch.bz (K.Ch.txt (c::r)) 0).toNat,1)=_;rw[h0];rfl
def Stop(T:L):Prop:=T=[]\/Ch.fQ (bs T) 0=false\/(Ch.eG ((Utf8.decode (bs T) 0).1:Int)=false/\Ch.fk ((Utf8.decode (bs T) 0).1:Int)=false)
theorem UC{pos:Nat}(hT:Stop T)(h:0<T.length):Ch.gG (bs (a++T)) (bs a).size=false:=by
 have hd:=K.Ch.wG (jn a T) (k:=0) (by rw[GF];exact h);rw[bH]at hd;unfold Ch.gG;rw[K.Ch.CM hd,hd];rcases hT with rfl|hT|⟨h1,h2⟩
 ·simp at h
 ·rw[hT];rfl
 ·rw[h1,h2];simp
theorem Rt(hT:Stop T):∀f p F,p<=a.length->a.length<p+f->(a++T).length<p+F->Ch.eL (bs a) f p=a.length->Ch.eN (bs (a++T)) F p=Ch.eN (bs a) f p:=by
 intro f;induction f with
 |zero=>intro p F h1 h2;omega
 |succ f ih=>
  intro p F h1 h2 h3 hb;have hj:=jn a T;have hsz:=hj.1;rw[ax]at h3;obtain⟨F,rfl⟩:∃k,F=k+1:=⟨F-1,by omega⟩
  by_cases hp:p<a.length
  ·have Sb:p<(bs a).size:=by rw[GF];exact hp
   have hw:=Ch.ek (bs a) p Sb;rw[Ch.eL.eq_2,if_pos Sb]at hb;cases gZ:Ch.fQ (bs a) p with
   |false=>rw[gZ]at hb;simp at hb;omega
   |true=>
    rw[if_pos gZ]at hb;have hd:=K.Ch.Kd hj Sb gZ;rw[Ch.eN.eq_2,Ch.eN.eq_2,if_pos (by rw[hsz];omega),if_pos Sb,K.Ch.EZ hd,hd];split
    ·exact ih _ _ (by rw[GF]at hw;omega) (by omega) (by rw[ax];omega) hb
    ·rfl
  ·obtain rfl:p=a.length:=by omega
   have e:Ch.eN (bs a) (f+1) a.length=a.length:=by rw[Ch.eN.eq_2,if_neg (by rw[GF];omega),GF]
   rw[e,Ch.eN.eq_2];split
   ·next h=>
    rw[GF,ax]at h;have hs:=UC (a:=a) (pos:=0) hT (by omega);rw[GF]at hs;rw[hs];simp
   ·next h=>rw[GF,ax]at h ⊢;omega
theorem XH(h:Gd l)(hT:Stop T):nm (l++T)=nm l:=by
 unfold nm Ch.name;exact Rt hT _ 0 _ (aB _) (by rw[GF];omega) (by rw[GF];omega) h
theorem xO(hc:c.toNat<128)(hb:Ch.eG (c.toNat:Int)=false)(r:L):nm (c::r)=0:=by
 unfold nm Ch.name;rw[Ch.eN.eq_2];have:Ch.gG (bs (c::r)) 0=false:=by
  unfold Ch.gG;rw[Cn hc];simp only[hb];simp
 rw[this];simp[GF]
theorem nu(c d:UInt8)(a b:L):Lib.hasPrefix (c::a) (d::b)=(d==c&&Lib.hasPrefix a b):=rfl
structure Vr(d:UInt8):Prop where
 lt:d.toNat<128
 nb:Ch.eG (d.toNat:Int)=false
 my:Ch.may (d.toNat:Int)=true
 n47:d≠47
 n33:d≠33
theorem lW{d:UInt8}(hd:Vr d)(r:L):part (d::r)=[d]:=by
 unfold part;rw[xO hd.lt hd.nb,nu,nu];have h1:(47==d)=false:=by simp;exact fun e=>hd.n47 e.symm
 have h2:(33==d)=false:=by simp;exact fun e=>hd.n33 e.symm
 rw[h1,h2];simp
theorem b47:(47:UInt8).toNat<128/\Ch.eG ((47:UInt8).toNat:Int)=false/\Ch.may ((47:UInt8).toNat:Int)=true:=by decide
theorem b33:(33:UInt8).toNat<128/\Ch.eG ((33:UInt8).toNat:Int)=false/\Ch.may ((33:UInt8).toNat:Int)=true:=by decide
theorem XI(r:L):part (47::r)=if Lib.hasPrefix r [47]=true then 47::r.take 1 else [47]:=by
 unfold part;rw[xO b47.1 b47.2.1,nu,nu];simp
theorem XJ(r:L):part (33::r)=if Lib.hasPrefix r [61]=true then 33::r.take 1 else [33]:=by
 unfold part;rw[xO b33.1 b33.2.1,nu,nu];simp
structure Wd(w:L):Prop where
 two:2<=w.length
 n47:w.head?≠some 47
 n33:w.head?≠some 33
theorem aaq:Wd wY:=⟨by decide,by decide,by decide⟩
theorem XK:Wd xV:=⟨by decide,by decide,by decide⟩
structure pw(t:L):Prop where
 gd:Gd t
 all:nm t=t.length
 ne:t≠[]
theorem Ru(hc:c.toNat<128)(hb:Ch.eG (c.toNat:Int)=false)(hg:Ch.fk (c.toNat:Int)=false)(r:L):Stop (c::r):=by
 refine Or.inr (Or.inr ?_);rw[Cn hc];exact⟨hb,hg⟩
structure Fn(X:L):Prop where
 st:Stop X
 no:Lib.hasPrefix (skip X) [40]=false
theorem Vs(h:pw t)(hX:Stop X):nm (t++X)=t.length:=by rw[XH h.gd hX,h.all]
theorem UD(h:pw t)(hX:Stop X):part (t++X)=t:=by
 have h0:0<t.length:=List.length_pos_iff.2 h.ne;unfold part;rw[Vs h hX,if_pos h0];simp
theorem GG(h:pw t)(hX:Fn X)(hw:Wd p):calls p (t++X)=false:=by
 unfold calls;rw[UD h hX.st];by_cases e:t=p
 ·subst e;rw[List.drop_left' rfl,hX.no];simp
 ·have:(t==p)=false:=by simpa using e
  rw[this];rfl
theorem UE(h:pw t)(hX:Fn X):name cut (t++X)=.ok (t,skip X):=by
 have h0:0<t.length:=List.length_pos_iff.2 h.ne;unfold name;rw[Vs h hX.st,GG h hX aaq,GG h hX XK,if_neg (by simp;exact h.ne)];unfold pass;simp
theorem iF(hc:[9,10,13,32].contains c=false)(r:L):skip (c::r)=c::r:=by rw[Nz,hc];simp
theorem Rv(hd:Vr d)(r:L):want cut [d] (d::r)=.ok (skip r):=by
 unfold want;rw[lW hd,if_pos rfl];rfl
theorem DW(hc:c.toNat<128)(hb:Ch.eG (c.toNat:Int)=false)(hg:Ch.fk (c.toNat:Int)=false)(hs:[9,10,13,32].contains c=false)(h4:c≠40)(r:L):Fn (c::r):=by
 refine⟨Ru hc hb hg r,?_⟩;rw[iF hs,nu];have:((40:UInt8)==c)=false:=by simpa using fun e:(40:UInt8)=c=>h4 e.symm
 rw[this];rfl
theorem NA(hc:c∉t)(r:L):(t++c::r).takeWhile (· !=c)=t:=by
 induction t with
 |nil=>simp
 |cons x t ih=>
  have hx:x≠c:=fun e=>hc (by rw[e];exact cu);have:=ih (fun h=>hc (dH _ h));rw[aZ,List.takeWhile_cons,if_pos (by simpa using hx),this]
theorem GH(hc:c∉t):jI cut c (c::(t++c::R))=.ok (t,skip R):=by
 unfold jI jo;rw[List.drop_one,List.tail_cons,NA hc,if_pos (by simp)];unfold pass;rw[show t.length+2=1+(t.length+1) by omega,<-List.drop_drop,List.drop_one,List.tail_cons,<-List.drop_drop,List.drop_left' rfl];rfl
theorem Rw(r:L):part (33::61::r)=[33,61]:=by rw[XJ];rfl
theorem Rx(r:L):part (47::47::r)=[47,47]:=by rw[XI];rfl
theorem Ry{l w q:L}(h:part l=q)(hq:q≠w):calls w l=false:=by
 unfold calls;rw[h];have:(q==w)=false:=by simpa using hq
 rw[this];rfl
theorem v_(ha:Gd a)(hb:Gd b):Gd (a++b):=by
 have h:=(K.Ch.LB (jn a b) ((bs a).size+1) 0 ((bs (a++b)).size+1) (aB _) (by omega) (by omega)).2 (by rw[GF];have:=ha;unfold Gd Ch.bad at this;rw[GF]at this;exact this);unfold Gd;unfold Gd at hb;rw[GF,hb]at h;rw[ax];exact h
theorem abr:Vr 42:=⟨by decide,by decide,by decide,by decide,by decide⟩
theorem aar:Vr 91:=⟨by decide,by decide,by decide,by decide,by decide⟩
theorem XL:Vr 93:=⟨by decide,by decide,by decide,by decide,by decide⟩
theorem aas:Vr 64:=⟨by decide,by decide,by decide,by decide,by decide⟩
theorem abt:Vr 61:=⟨by decide,by decide,by decide,by decide,by decide⟩
theorem abu:Vr 34:=⟨by decide,by decide,by decide,by decide,by decide⟩
def iJ(o:L)(v:L):L:=if o=lM then [93]else o++34::(v++[34,93])
theorem UF{o v:L}(ho:o=lM\/o=[61]\/o=[33,61]):Fn (iJ o v):=by
 unfold iJ;rcases ho with rfl|rfl|rfl
 ·exact DW (by decide) (by decide) (by decide) (by decide) (by decide) _
 ·exact DW (by decide) (by decide) (by decide) (by decide) (by decide) _
 ·exact DW (by decide) (by decide) (by decide) (by decide) (by decide) _
theorem NC{o v:L}(ho:o=lM\/o=[61]\/o=[33,61]):skip (iJ o v)=iJ o v:=by
 unfold iJ;rcases ho with rfl|rfl|rfl
 ·exact iF (by decide) _
 ·exact iF (by decide) _
 ·exact iF (by decide) _
theorem ND{o v:L}(ho:(o=lM/\v=[])\/o=[61]\/o=[33,61])(hv:34∉v):compared cut ⟨[],.nil,.nil,a,[]⟩ (iJ o v)=.ok (⟨o,.nil,.nil,a,v⟩,[93]):=by
 have hq:quoted cut (34::(v++[34,93]))=.ok (v,[93]):=by
  unfold quoted;rw[lW abu,if_pos rfl,GH hv,iF (by decide)]
 unfold compared iJ;rcases ho with⟨rfl,rfl⟩|rfl|rfl
 ·rw[if_pos rfl,lW XL,if_neg (by decide),if_neg (by decide)]
 ·rw[if_neg (show ¬([61]:L)=lM by decide)];show (if part (61::34::(v++[34,93]))=[61]then _ else _)=_;rw[lW abt,if_pos rfl];have:pass 1 (61::34::(v++[34,93]))=34::(v++[34,93]):=iF (by decide) _;show thn (quoted cut (pass 1 (61::34::(v++[34,93])))) _=_;rw[this,hq];rfl
 ·rw[if_neg (show ¬([33,61]:L)=lM by decide)];show (if part (33::61::34::(v++[34,93]))=[61]then _ else if part (33::61::34::(v++[34,93]))=[33,61]then _ else _)=_;rw[Rw,if_neg (by decide),if_pos rfl];have:pass 2 (33::61::34::(v++[34,93]))=34::(v++[34,93]):=iF (by decide) _;show thn (quoted cut (pass 2 (33::61::34::(v++[34,93])))) _=_;rw[this,hq];rfl
theorem NF{o v:L}{e8:Option (L->Rs gB)}(ha:pw a)(ho:(o=lM/\v=[])\/o=[61]\/o=[33,61])(hv:34∉v):cond cut e8 (64::(a++iJ o v))=.ok (⟨o,.nil,.nil,a,v⟩,[93]):=by
 have D7:o=lM\/o=[61]\/o=[33,61]:=ho.elim (fun h=>Or.inl h.1) Or.inr;have h1:one cut e8 (64::(a++iJ o v))=.ok (⟨o,.nil,.nil,a,v⟩,[93]):=by
  have hp:=lW aas (a++iJ o v);have hs:skip (a++iJ o v)=a++iJ o v:=by
   cases a with
   |nil=>exact absurd rfl ha.ne
   |cons c r=>
    refine iF ?_ _;cases hc:[9,10,13,32].contains c with
    |false=>rfl
    |true=>
     have h0:nm (c::r)=0:=by
      have:c=9\/c=10\/c=13\/c=32:=by simpa using hc
      rcases this with rfl|rfl|rfl|rfl<;>exact xO (by decide) (by decide) r
     have:=ha.all;rw[h0]at this;simp at this
  unfold one value attr;rw[Ry hp (by decide),if_neg (by decide),hp,if_neg (by decide),if_neg (by decide),if_pos rfl,Rv aas];simp only[oq,thn];rw[hs,UE ha (UF D7)];simp only;rw[NC D7,ND ho hv]
 have h9:∀word:L,word≠[93]->part [93]≠word:=fun word hw e=>hw (by rw[<-e,lW XL]);unfold cond both joined;simp only[thn,h1,if_neg (h9 Vw (by decide)),if_neg (h9 wOr (by decide))]
def Co(a o v:L):L:=47::47::42::91::64::(a++iJ o v)
def pAt(a o v:L):List iV:=[⟨true,[42],.cons o .nil .nil a v .nil⟩]
theorem Rz{o v:L}(ha:pw a)(ho:(o=lM/\v=[])\/o=[61]\/o=[33,61])(hv:34∉v)(hg:Gd v)(hl:a.length+v.length<=400):parse (Co a o v)=.ok [pAt a o v]:=by
 have gt:Gd (iJ o v):=by
  unfold iJ;rcases ho with⟨rfl,rfl⟩|rfl|rfl
  ·unfold Gd;decide
  ·exact v_ (a:=[61,34]) (by unfold Gd;decide) (v_ hg (by unfold Gd;decide))
  ·exact v_ (a:=[33,61,34]) (by unfold Gd;decide) (v_ hg (by unfold Gd;decide))
 have gq:Gd (Co a o v):=v_ (a:=[47,47,42,91,64]) (by unfold Gd;decide) (v_ ha.gd gt);have hc:cutAt (Co a o v)=Co a o v:=by unfold cutAt;rw[show Ch.bad (bs (Co a o v))=(Co a o v).length from gq,b9]
 have hn:¬500<(Co a o v).length:=by
  unfold Co iJ;rcases ho with⟨rfl,rfl⟩|rfl|rfl<;>simp at hl ⊢ <;>omega
 have hi:AA (Co a o v)=false:=by unfold AA;rw[hc];simp
 have hp:path false (pW false 8) (Co a o v)=.ok (pAt a o v,[]):=by
  unfold path im Co;rw[Rx,if_pos rfl];have e1:pass 2 (47::47::42::91::64::(a++iJ o v))=42::91::64::(a++iJ o v):=iF (by decide) _;simp only[thn,e1];unfold step test;rw[lW abr,if_pos rfl];have e2:pass 1 (42::91::64::(a++iJ o v))=91::64::(a++iJ o v):=iF (by decide) _;simp only[thn,e2];rw[show (91::64::(a++iJ o v)).length+1=((a++iJ o v).length+1+1)+1 by simp];have e3:gm false (pW false 8) ((a++iJ o v).length+1+1+1) (91::64::(a++iJ o v))=.ok ([⟨o,.nil,.nil,a,v⟩],[]):=by
   have e4:within false (pW false 8) [91] [93] (91::64::(a++iJ o v))=.ok (⟨o,.nil,.nil,a,v⟩,[]):=by
    unfold within;show oq (want false [91] (91::64::(a++iJ o v))) _=_;rw[Rv aar,iF (by decide)];simp only[oq];rw[KN,NF ha ho hv];simp only[thn];rw[Rv XL];rfl
   rw[gm.eq_2,lW aar,if_pos rfl,e4];simp only[thn];rw[gm.eq_2,tO,if_neg (by decide)]
  rw[e3];simp only[thn];rw[show ([]:L).length+1=0+1 by rfl,jJ.eq_2];have:fk ⟨true,[42],gR.of [⟨o,.nil,.nil,a,v⟩]⟩ []=false:=by unfold fk;rw[tO];rfl
  rw[this];rfl
 unfold parse query;rw[if_neg hn,hi,hc];have e0:pass 0 (Co a o v)=Co a o v:=iF (by decide) _;rw[e0,hp];simp only[thn];rw[show ([]:L).length+1=0+1 by rfl,jU.eq_2,tO,if_neg (by decide)];simp
end
end Go.Proofs.YtclgfepngpeifaaGreatDoor
namespace Go.Proofs.YtclgfepngpeifaaGreatDoor
open Go.RowKit Go.Maps Go.Lib Go.Shelf Tryz
section
variable{l:List K.Nd}{ls ah:List Int}{TX:ByteArray}{a o v:L}{w:World}{ad:Addr}{doc:ByteArray}
def uY(x:K.lK)(a o v:L):Bool:=x.any fun y=>y.1==a&&(o==lM||((y.2==v)==(o==[61])))
def wg(l:List K.Nd)(a o v:L):List Int:=((List.range l.length).filter fun k=>isE l k&&uY (nodeAt l k).attrs a o v).map fun(k:Nat)=>(k:Int)
theorem RA:(wg l a o v).Pairwise (· < ·):=by
 unfold wg;rw[List.pairwise_map];exact(List.pairwise_lt_range.filter _).imp fun h=>by omega
theorem KI{x:Int}:x∈wg l a o v↔∃k:Nat,x=k/\k<l.length/\isE l k=true/\uY (nodeAt l k).attrs a o v=true:=by
 unfold wg;simp only[List.mem_map,bU,List.mem_range,aT];exact⟨fun⟨k,⟨h1,h2⟩,e⟩=>⟨k,e.symm,h1,h2⟩,fun⟨k,e,h1,h2⟩=>⟨k,⟨h1,h2⟩,e.symm⟩⟩
def Yv(a o v:L):List Cd:=[⟨false,bs o,[],[],bs a,bs v⟩]
theorem RB(ha:a≠[])(ho:o=lM\/o=[61]\/o=[33,61])(k:Nat):NU l.length (pR l) (tL l) ls ah TX (xL l) (Yv a o v) 0 k=uY (nodeAt l k).attrs a o v:=by
 have h1:(o==[111,114])=false:=by rcases ho with rfl|rfl|rfl<;>rfl
 have h2:a.isEmpty=false:=by cases a;exact absurd rfl ha;rfl
 simp only[NU,Yv,yy,iu,mb,fE,h1,h2,Int.toNat_zero,List.getElem?_cons_zero,Option.map_some,dz,aA,aQ,List.getLast?_nil,cG,List.flatMap_nil,aP,aH,xL,uY,List.any_map,List.any_filter,List.filter_map];congr 1;funext y;simp[J5,fE]
theorem UG(ha:a≠[])(ho:o=lM\/o=[61]\/o=[33,61]):Ny l ls ah TX ([(true,bs [42],[0])],Yv a o v)=wg l a o v:=by
 unfold Ny;rw[UA];refine KE (wA _).1 RA fun x=>((wA _).2 x).trans ?_;rw[KI];show x∈jx _ _ _ _ _ true (bs [42]) [0] [-1]↔_;unfold jx;rw[wX,bU,if_pos rfl,Uv];unfold AW;rw[Rg];have e:∀k:Nat,(([0]:List Int).all fun c=>NU l.length (pR l) (tL l) ls ah TX (xL l) (Yv a o v) c ((k:Int).toNat))=uY (nodeAt l k).attrs a o v:=fun k=>by
  simp only[List.all_cons,List.all_nil,Bool.and_true,aH];exact RB ha ho k
 constructor
 ·rintro⟨⟨k,rfl,-,hk⟩,h⟩;rw[e,aH,aT]at h;exact⟨k,rfl,hk,h.1,h.2⟩
 ·rintro⟨k,rfl,hk,h1,h2⟩;refine⟨⟨k,rfl,aB _,hk⟩,?_⟩;rw[e,aH,h1,h2];rfl
theorem JH(gl:K.Gl w ad)(hd:doc.size<=268435456)(hp:(K.eZ doc).2.1=0)(ha:pw a)(ho:(o=lM/\v=[])\/o=[61]\/o=[33,61])(hv:34∉v)(hg:Gd v)(hl:a.length+v.length<=400):Z4 9 #[.string doc,.string (bs (Co a o v))] w (EvR w (wg (K.eZ doc).1 a o v)):=by
 have D7:o=lM\/o=[61]\/o=[33,61]:=ho.elim (fun h=>Or.inl h.1) Or.inr;refine evr (Rz ha ho hv hg hl) (S:=([(true,bs [42],[0])],Yv a o v)) (by simp[z8,gw.of,pAt,J6]) rfl (by simp[Yv]) ?_ gl hd hp fun ls ah TX _=>UG ha.ne D7;intro s hs x hx;simp only[bG]at hs;subst hs;simp only[bG]at hx;subst hx;refine⟨0,_,rfl,rfl,Or.inl ⟨rfl,?_,fun s hs=>by cases hs⟩⟩;unfold CG;rw[fE];rcases D7 with rfl|rfl|rfl<;>exact⟨rfl,rfl,rfl⟩
def l_(x:K.lK)(a v:L):Bool×Bool:=x.foldl (fun s y=>if y.1==a then(true,y.2==v)else s) (false,false)
theorem Cp{y:List UInt8×List UInt8}:∀(x p:K.lK),K.qI p (x++[y])->K.qI p x/\(p++x).any (fun b=>b.1==y.1)=false
 |[],p,h=>⟨trivial,by rw[aP];exact h.1⟩
 |z::x,p,h=>by
  obtain⟨h1,h2⟩:=Cp x (p++[z]) h.2;exact⟨⟨h.1,h1⟩,by simpa using h2⟩
theorem GI:∀(n:Nat) (x:K.lK),x.length=n->K.qI [] x->(l_ x a v).1=uY x a lM []/\((l_ x a v).1&&(l_ x a v).2)=uY x a [61] v/\((l_ x a v).1&&!(l_ x a v).2)=uY x a [33,61] v
 |0,x,hn,_=>by
  obtain rfl:=bK hn;exact⟨rfl,rfl,rfl⟩
 |n+1,x,hn,hd=>by
  obtain⟨x0,y,rfl⟩:∃x0 y,x=x0++[y]:=⟨x.dropLast,x.getLast (by intro e;simp[e]at hn),(List.dropLast_concat_getLast _).symm⟩
  obtain⟨d1,d2⟩:=Cp x0 [] hd;obtain⟨i1,i2,i3⟩:=GI n x0 (by simpa using hn) d1;have ef:l_ (x0++[y]) a v=if y.1==a then(true,y.2==v)else l_ x0 a v:=by simp[l_]
  have ea:∀o v,uY (x0++[y]) a o v=(uY x0 a o v||(y.1==a&&(o==lM||((y.2==v)==(o==[61]))))):=fun o v=>by simp[uY]
  rw[ef,ea,ea,ea];cases hy:y.1==a with
  |false=>simpa using⟨i1,i2,i3⟩
  |true=>
   have hya:y.1=a:=by simpa using hy
   have hno:∀o v,uY x0 a o v=false:=fun o v=>by
    rw[bI]at d2;unfold uY;rw[List.any_eq_false]at d2 ⊢;intro b hb;have:=d2 b hb;rw[hya]at this;simp only[Bool.not_eq_true]at this ⊢;rw[this];rfl
   rw[hno,hno,hno];have e1:((lM:L)==lM)=true:=rfl;have e2:(([61]:L)==lM)=false:=rfl;have e3:(([33,61]:L)==lM)=false:=rfl;have e4:(([61]:L)==[61])=true:=rfl;have e5:(([33,61]:L)==[61])=false:=rfl;simp only[e1,e2,e3,e4,e5,if_true];cases y.2==v<;>simp
theorem KJ{s:ByteArray}:∀f p,p<=s.size->s.size<p+f->Ch.eN s f p=s.size->Ch.eL s f p=s.size
 |0,p,h1,h2,_=>by omega
 |f+1,p,h1,h2,h=>by
  rw[Ch.eN.eq_2]at h;rw[Ch.eL.eq_2];split
  ·next hp=>
   rw[if_pos hp]at h;have hw:=Ch.ek s p hp;split at h
   ·next hn=>
    have gZ:Ch.fQ s p=true:=by
     unfold Ch.gG at hn;simp only[aT]at hn;exact hn.1
    rw[if_pos gZ];exact KJ f _ (by omega) (by omega) h
   ·omega
  ·rfl
end
section
variable{W w w':World}{a:Addr}{doc s t:ByteArray}{no:Int}
def AtB(W:World)(doc:ByteArray)(no:Int):Prop:=Z4 5 #[.string doc] W fun e w=>∃at_ v,e=.returned (.tuple #[v,.int .i64 no,.int .i64 at_])/\Hid (Z4 6 #[.string doc] w fun e w=>∃v at_,e=.returned (.tuple #[v,.int .i64 no,.int .i64 at_])/\Hid (Z4 8 #[] w fun e w'=>e=.returned (.bool true)/\Below W.heap.size W w'))
theorem atB(gl:K.Gl W a)(hd:doc.size<=268435456):AtB W doc (K.eZ doc).2.1:=by
 refine(K.qf doc W gl hd).mono ?_;rintro e w ⟨v,rfl,-,hb,-⟩;refine⟨_,_,rfl,a_ ((K.Cl doc w hd).mono ?_)⟩;rintro e w2 ⟨v2,rfl,-,hb2⟩;have b2:=hb.trans (eJ hb2 hb.size);refine⟨_,_,rfl,a_ ((GC (KG gl b2)).mono ?_)⟩;rintro e w3 ⟨rfl,hb3⟩;exact⟨rfl,b2.trans (eJ hb3 b2.size)⟩
def zJ(s t:ByteArray):Bool:=s.toList.isEmpty||decide (Ch.name s<s.size)||decide (Ch.bad t<t.size)||decide (400<s.size+t.size)
theorem tI:(s.toList.isEmpty=true/\zJ s t=true)\/(s.toList.isEmpty=false/\Ch.name s<s.size/\zJ s t=true)\/(s.toList.isEmpty=false/\¬Ch.name s<s.size/\Ch.bad t<t.size/\zJ s t=true)\/(s.toList.isEmpty=false/\¬Ch.name s<s.size/\¬Ch.bad t<t.size/\400<s.size+t.size/\zJ s t=true)\/(s.toList.isEmpty=false/\¬Ch.name s<s.size/\¬Ch.bad t<t.size/\¬400<s.size+t.size/\zJ s t=false):=by
 unfold zJ;cases s.toList.isEmpty<;>by_cases h2:Ch.name s<s.size<;>by_cases h3:Ch.bad t<t.size<;>by_cases h4:400<s.size+t.size<;>simp[h2,h3,h4]
theorem wj(hP:AtB W doc no)(Q:Nat->Bool->Prop)(q0:Q 0 (zJ s t))(qs:∀i b (h:i<t.size),Q i b->Q (i+1) (b||((((t[i]'h).toNat:Nat):Int)==34)))(qe:∀b,Q t.size b->no≠0\/b=true)(hs:s.size<=1125899906842624)(ht:t.size<=1125899906842624):
  Z4 4 #[.string doc,.string s,.string t] W fun e w'=>e=.returned (.bool true)/\Below W.heap.size W w':=by
 have H:=a_ hP;have HS:=a_ qs;have HE:=a_ qe;have HN:=a_ (fun W=>vh s W hs);have HV:=a_ (fun W=>GD t W ht);unfold AtB at H;have hc:=tI (s:=s) (t:=t);clear hP qs qe;generalize zJ s t=b0 at*
 generalize Ch.name s=ns at*
 generalize Ch.bad t=bt at*
 have hc':(s.toList.isEmpty=true/\b0=true)\/(s.toList.isEmpty=false/\(ns:Int)<s.size/\b0=true)\/(s.toList.isEmpty=false/\¬(ns:Int)<s.size/\(bt:Int)<t.size/\b0=true)\/(s.toList.isEmpty=false/\¬(ns:Int)<s.size/\¬(bt:Int)<t.size/\(400:Int)<s.size+t.size/\b0=true)\/(s.toList.isEmpty=false/\¬(ns:Int)<s.size/\¬(bt:Int)<t.size/\¬(400:Int)<s.size+t.size/\b0=false):=by
  rcases hc with h|h|h|h|h
  ·exact Or.inl h
  ·exact Or.inr (Or.inl ⟨h.1,by omega,h.2.2⟩)
  ·exact Or.inr (Or.inr (Or.inl ⟨h.1,by omega,by omega,h.2.2.2⟩))
  ·exact Or.inr (Or.inr (Or.inr (Or.inl ⟨h.1,by omega,by omega,by omega,h.2.2.2.2⟩)))
  ·exact Or.inr (Or.inr (Or.inr (Or.inr ⟨h.1,by omega,by omega,by omega,h.2.2.2.2⟩)))
 clear hc;rcases hc' with⟨h1,rfl⟩|⟨h1,h2,rfl⟩|⟨h1,h2,h3,rfl⟩|⟨h1,h2,h3,h4,rfl⟩|⟨h1,h2,h3,h4,rfl⟩;all_goals
  have H0:=a_ q0;clear q0;go_enter func4,ntmps4;go_wp2_with(first
   |(go_at_call 5;refine H.out.mono ?_;clear H;rintro e w ⟨at_,v,rfl,H⟩)
   |(go_at_call 6;refine H.out.mono ?_;clear H;rintro e w ⟨v,at_,rfl,H⟩)
   |(go_at_call 7;refine(DV _ _).mono ?_;rintro e w' ⟨rfl,rfl⟩)
   |(go_at_call 12;refine(HN.out _).mono ?_;rintro e w' ⟨rfl,rfl⟩)
   |(go_at_call 13;refine(HV.out _).mono ?_;rintro e w' ⟨rfl,rfl⟩))
  rename World=>WL
  go_loopw [13,14] (fun bv iv wr=>∃(i:Nat) (b:Bool),bv=.bool b/\iv=.int .i64 i/\i<=t.size/\Q i b/\wr=WL) (fun _ iv _=>t.size-(RowKit.intOf iv).toNat)
  case atStart=>first|exact⟨0,_,rfl,rfl,aB _,H0.out,rfl⟩|exact⟨0,false,aL Value.bool (by simp;omega),rfl,aB _,H0.out,rfl⟩
  case round=>
   obtain⟨i,b,rfl,rfl,hi,hQ,rfl⟩:=hrel;clear H0;by_cases hlt:i<t.size
   ·have HQ:=a_ (HS.out i b hlt hQ);have Lc:(i:Int)<t.size:=by omega
    clear HS HE hQ;cases b with
    |true=>
     go_wp2_with fail;exact⟨⟨i+1,_,rfl,by simp,by omega,HQ.out,trivial⟩,by simp only[RowKit.intOf];omega⟩
    |false=>
     go_wp2_with fail;exact⟨⟨i+1,_,rfl,by simp,by omega,by have:=HQ.out;rwa[Bool.false_or]at this,trivial⟩,by simp only[RowKit.intOf];omega⟩
   ·obtain rfl:i=t.size:=by omega
    have hE:(no !=0)=true\/((no !=0)=false/\b=true):=by
     rcases HE.out b hQ with h|h
     ·exact Or.inl (by simpa using h)
     ·by_cases h0:no=0
      ·exact Or.inr ⟨by simpa using h0,h⟩
      ·exact Or.inl (by simpa using h0)
    clear HS HE hQ;rcases hE with h0|⟨h0,rfl⟩;all_goals
     go_wp2_with(go_at_call 8;refine H.out.mono ?_;clear H;rintro e w ⟨rfl,H⟩);first|exact⟨rfl,H⟩|(go_ret;exact⟨rfl,H⟩)
end
section
variable{W w w':World}{ad:Addr}{doc s t:ByteArray}{R:List Int}{l:List K.Nd}{g cap:Nat}{ps:List (Value×List Int)}{v u:Value}{a o x:L}
structure RE(W w:World)(l:List K.Nd)(g:Nat)(ps:List (Value×List Int)):Prop where
 low:Below W.heap.size W w
 lt:g<w.heap.size
 at_:∀k,k<l.length->∃u,w.cell? ⟨g,k*5+1,none⟩=some u/\AR w u (xL l k)
 ir:∀p∈ps,IR w p.1 p.2
theorem RE.on(S:RE W w l g ps)(h:Below w.heap.size w w'):RE W w' l g ps:=by
 refine⟨S.low.trans (eJ h S.low.size),aq S.lt h.size,fun k hk=>?_,fun p hp=>(S.ir p hp).below h⟩;obtain⟨u,c,hr⟩:=S.at_ k hk;exact⟨u,(h.cell (by exact S.lt)).trans c,hr.gv (bc h)⟩
theorem RE.add(S:RE W w l g ps)(h:Below w.heap.size w w')(hi:IR w' v R):RE W w' l g ((v,R)::ps):=by
 have T:=S.on h;refine⟨T.low,T.lt,T.at_,fun p hp=>?_⟩;rcases List.mem_cons.1 hp with rfl|hp
 ·exact hi
 ·exact T.ir p hp
def EvS(doc q:ByteArray)(w:World)(P:Option Addr->Nat->Nat->World->Prop):Prop:=Z4 9 #[.string doc,.string q] w fun e w'=>∃va vn vc,e=.returned (.tuple #[.slice va vn vc,.int .i64 0,.int .i64 0,.int .i64 0])/\Hid (P va vn vc w')
theorem zK{q:ByteArray}{P:Option Addr->Nat->Nat->World->Prop}(gl:K.Gl W ad)(S:RE W w l g ps)(hq:K.Gl w ad->Z4 9 #[.string doc,.string q] w (EvR w R))(h:∀va vn vc w',RE W w' l g ((.slice va vn vc,R)::ps)->P va vn vc w'):EvS doc q w P:=by
 refine(hq (KG gl S.low)).mono ?_;rintro e w' ⟨va,vn,vc,rfl,hi,hb⟩;exact⟨va,vn,vc,rfl,a_ (h _ _ _ _ (S.add hb hi))⟩
structure Si(W:World)(l:List K.Nd)(g:Nat)(a v:L)(v1 v2 v3:Value)(w:World):Prop where
 st:RE W w l g [(v3,wg l a [33,61] v),(v2,wg l a [61] v),(v1,wg l a lM [])]
def AtG(W:World)(doc:ByteArray)(l:List K.Nd)(a v:L)(s t:ByteArray):Prop:=Z4 5 #[.string doc] W fun e w=>∃g cap at_,e=.returned (.tuple #[Z9 g l.length cap,.int .i64 0,.int .i64 at_])/\l.length<=cap/\Hid (Z4 6 #[.string doc] w fun e w=>∃v' at_,e=.returned (.tuple #[v',.int .i64 0,.int .i64 at_])/\
 Hid (EvS doc (⟨#[47,47,42,91,64]⟩++s++⟨#[93]⟩) w fun a1 n1 c1 w=>EvS doc (⟨#[47,47,42,91,64]⟩++s++⟨#[61,34]⟩++t++⟨#[34,93]⟩) w fun a2 n2 c2 w=>EvS doc (⟨#[47,47,42,91,64]⟩++s++⟨#[33,61,34]⟩++t++⟨#[34,93]⟩) w fun a3 n3 c3 w=>Si W l g a v (.slice a1 n1 c1) (.slice a2 n2 c2) (.slice a3 n3 c3) w))
theorem qO(x y:L):bs x++bs y=bs (x++y):=by
 apply cQ;simp[bs]
theorem atG{a v:L}(gl:K.Gl W ad)(hd:doc.size<=268435456)(hp:(K.eZ doc).2.1=0)(ha:pw a)(hv:34∉v)(hg:Gd v)(hl:a.length+v.length<=400):AtG W doc (K.eZ doc).1 a v (bs a) (bs v):=by
 obtain⟨T,h0⟩:=K.DI hp;have XF:=K.vY doc;have hlen:=K.xM (K.eZ doc).1;have e0:(⟨#[47,47,42,91,64]⟩:ByteArray)=bs [47,47,42,91,64]:=rfl;have e1:(⟨#[93]⟩:ByteArray)=bs [93]:=rfl;have e2:(⟨#[61,34]⟩:ByteArray)=bs [61,34]:=rfl;have e3:(⟨#[33,61,34]⟩:ByteArray)=bs [33,61,34]:=rfl;have e4:(⟨#[34,93]⟩:ByteArray)=bs [34,93]:=rfl;have q1:[47,47,42,91,64]++a++[93]=Co a lM []:=by simp[Co,iJ]
 have q2:[47,47,42,91,64]++a++[61,34]++v++[34,93]=Co a [61] v:=by simp[Co,iJ]
 have q3:[47,47,42,91,64]++a++[33,61,34]++v++[34,93]=Co a [33,61] v:=by simp[Co,iJ]
 refine(K.qf doc W gl hd).mono ?_;rintro e w ⟨v',rfl,hN,hb,-⟩;obtain⟨g,cap,rfl,XS,hn,hU,hat⟩:=Ri hN h0 (by omega) fun n hn=>⟨by have:=K.JF _ n hn;omega,by
  obtain⟨k,hk⟩:=di hn;have:=rh (K.eZ doc).1.length (n.kids.map fun(j:Nat)=>(j:Int)) (List.pairwise_map.2 ((T.nd k n hk).1.imp fun h e=>h (by omega))) fun x hx=>by
   obtain⟨j,hj,rfl⟩:=List.mem_map.1 hx;obtain⟨m,hm,-⟩:=(T.kid k n hk j).1 hj;have:=(List.getElem?_eq_some_iff.1 hm).1;omega
  rw[cL]at this;omega⟩
 have CD:(K.eZ doc).1.length<=cap:=by
  obtain⟨_,_,e,h,-⟩:=hn;cases e;exact h.1
 refine⟨g,cap,_,by rw[hp],CD,a_ ((K.Cl doc w hd).mono ?_)⟩;rintro e w2 ⟨v2,rfl,-,hb2⟩;refine⟨_,_,by rw[hp],a_ ?_⟩;have S:RE W w2 (K.eZ doc).1 g []:=RE.on ⟨hb,XS,hat,fun p hp=>by cases hp⟩ hb2;rw[e0,e1,e2,e3,e4,qO,qO,qO,qO,qO,qO,qO,qO,q1,q2,q3];refine zK gl S (fun gl=>JH gl hd hp ha (Or.inl ⟨rfl,rfl⟩) (by simp) rfl (by simp;omega)) fun a1 n1 c1 w S=>?_;refine zK gl S (fun gl=>JH gl hd hp ha (Or.inr (Or.inl rfl)) hv hg hl) fun a2 n2 c2 w S=>?_;exact zK gl S (fun gl=>JH gl hd hp ha (Or.inr (Or.inr rfl)) hv hg hl) fun a3 n3 c3 w S=>⟨S⟩
end
section
variable{W w w':World}{ad:Addr}{doc s t:ByteArray}{l:List K.Nd}{g cap k:Nat}{a v:L}{v1 v2 v3:Value}
theorem fold_succ{x:K.lK}{i:Nat}{y:List UInt8×List UInt8}(h:x[i]?=some y):l_ (x.take (i+1)) a v=if y.1==a then(true,y.2==v)else l_ (x.take i) a v:=by
 rw[cB,h];simp[l_]
def InN(W:World)(l:List K.Nd)(g:Nat)(a v:L)(v1 v2 v3:Value)(k:Nat)(b:Bool×Bool)(w:World):Prop:=Z4 14 #[v1,.int .i64 (k:Nat)] w fun e w=>e=.returned (.bool b.1)/\Hid (Z4 14 #[v2,.int .i64 (k:Nat)] w fun e w=>e=.returned (.bool (b.1&&b.2))/\Hid (Z4 14 #[v3,.int .i64 (k:Nat)] w fun e w=>e=.returned (.bool (b.1&&!b.2))/\Hid (Si W l g a v v1 v2 v3 w)))
theorem DX(hb:K.xu l)(hk:k<l.length)(o:L)(v:L):decide ((k:Int)∈wg l a o v)=uY (nodeAt l k).attrs a o v:=by
 rw[bD,decide_eq_true_iff,KI];constructor
 ·rintro⟨j,e,-,-,h⟩;obtain rfl:k=j:=by omega
  exact h
 ·intro h;refine⟨k,rfl,hk,?_,h⟩;unfold isE;cases hn:(nodeAt l k).name with
  |nil=>
   rw[hb _ (bP (nt hk)) hn]at h;cases h
  |cons _ _=>rfl
theorem Si.ask(S:Si W l g a v v1 v2 v3 w)(T:K.pL l)(hb:K.xu l)(hk:k<l.length):InN W l g a v v1 v2 v3 k (l_ (nodeAt l k).attrs a v) w:=by
 obtain⟨f1,f2,f3⟩:=GI (a:=a) (v:=v) _ (nodeAt l k).attrs rfl (T.nd k _ (nt hk)).2;unfold InN;rw[f2,f3,f1];refine(Rq (S.st.ir (v1,wg l a lM []) (by simp)) k).mono ?_;rintro e w1 ⟨rfl,b1⟩;have S:=S.st.on b1;refine⟨by rw[DX hb hk],a_ ((Rq (S.ir (v2,wg l a [61] v) (by simp)) k).mono ?_)⟩;rintro e w2 ⟨rfl,b2⟩;have S:=S.on b2;refine⟨by rw[DX hb hk],a_ ((Rq (S.ir (v3,wg l a [33,61] v) (by simp)) k).mono ?_)⟩;rintro e w3 ⟨rfl,b3⟩;exact⟨by rw[DX hb hk],a_ ⟨S.on b3⟩⟩
theorem Si.node(S:Si W l g a v v1 v2 v3 w)(hk:k<l.length):∃ai ac,w.cell? ⟨g,k*5+1,none⟩=some (.slice ai (nodeAt l k).attrs.length ac)/\(nodeAt l k).attrs.length<=ac/\(nodeAt l k).attrs.length<=1000000000000/\∀i,i<(nodeAt l k).attrs.length->∃ga n x,ai=some ⟨ga,0,none⟩/\w.cell? ⟨ga,i*2,none⟩=some (.string n)/\w.cell? ⟨ga,i*2+1,none⟩=some (.string x)/\l_ ((nodeAt l k).attrs.take (i+1)) a v=if n.toList==a then(true,x.toList==v)else l_ ((nodeAt l k).attrs.take i) a v:=by
 obtain⟨u,c,ai,ac,rfl,⟨h1,h2⟩,hr⟩:=S.st.at_ k hk;have e:(xL l k).length=(nodeAt l k).attrs.length:=by simp[xL]
 rw[e]at c h1 h2;refine⟨ai,ac,c,h1,h2,fun i hi=>?_⟩;have hx:(nodeAt l k).attrs[i]?=some ((nodeAt l k).attrs[i]):=aF hi;obtain⟨ga,e1,-,c0,c1⟩:=hr i (bs ((nodeAt l k).attrs[i]).1,bs ((nodeAt l k).attrs[i]).2) (by unfold xL;rw[bX,hx];rfl);refine⟨ga,_,_,e1,c0,c1,?_⟩;rw[fold_succ hx,fE,fE]
theorem JK(hP:AtG W doc l a v s t)(hA:∀w,Below W.heap.size W w->Z4 8 #[] w fun e w'=>e=.returned (.bool true)/\Below W.heap.size W w')(T:K.pL l)(hb:K.xu l)(hn:l.length<=1000000000000)(hsa:s.toList=a)(hta:t.toList=v)(h0:zJ s t=false)(hv:∀i (h:i<t.size),((((t[i]'h).toNat:Nat):Int)==34)=false)(hs:s.size<=1125899906842624)(ht:t.size<=1125899906842624):
  Z4 4 #[.string doc,.string s,.string t] W fun e w'=>e=.returned (.bool true)/\Below W.heap.size W w':=by
 subst hsa;subst hta;have H:=a_ hP;have HA:=a_ hA;have HN:=a_ (fun W=>vh s W hs);have HV:=a_ (fun W=>GD t W ht);have HB:=a_ hv;have HQ:=a_ (fun(g k:Nat) v1 v2 v3 w (S:Si W l g s.toList t.toList v1 v2 v3 w) (hk:k<l.length)=>S.ask T hb hk);have HM:=a_ (fun(g k:Nat) v1 v2 v3 w (S:Si W l g s.toList t.toList v1 v2 v3 w) (hk:k<l.length)=>S.node hk);have HL:=a_ (fun(g:Nat) v1 v2 v3 w (S:Si W l g s.toList t.toList v1 v2 v3 w)=>S.st.low);unfold AtG EvS at H;have hc:=tI (s:=s) (t:=t);rw[h0]at hc;simp only[aA,and_false,false_or,and_true]at hc;obtain⟨h1,h2,h3,h4⟩:=hc;clear hP hA hv h0 T hb;generalize Ch.name s=ns at*
 generalize Ch.bad t=bt at*
 have g2:¬(ns:Int)<s.size:=by omega
 have g3:¬(bt:Int)<t.size:=by omega
 have g4:¬(400:Int)<s.size+t.size:=by omega
 clear h2 h3 h4;obtain⟨n,D6⟩:∃n,l.length=n:=⟨_,rfl⟩
 rw[D6]at H HQ HM hn;clear D6;go_enter func4,ntmps4;go_wp2_with(first
  |(go_at_call 5;refine H.out.mono ?_;clear H;rintro e w ⟨g,cap,at_,rfl,CD,H⟩)
  |(go_at_call 6;refine H.out.mono ?_;clear H;rintro e w ⟨v',at_,rfl,H⟩)
  |(go_at_call 7;refine(DV _ _).mono ?_;rintro e w' ⟨rfl,rfl⟩)
  |(go_at_call 12;refine(HN.out _).mono ?_;rintro e w' ⟨rfl,rfl⟩)
  |(go_at_call 13;refine(HV.out _).mono ?_;rintro e w' ⟨rfl,rfl⟩))
 rename World=>WL
 go_loopw [13,14] (fun bv iv wr=>∃i:Nat,bv=.bool false/\iv=.int .i64 i/\i<=t.size/\wr=WL) (fun _ iv _=>t.size-(RowKit.intOf iv).toNat)
 case atStart=>exact⟨0,aL Value.bool (by simp;omega),rfl,aB _,rfl⟩
 case round=>
  obtain⟨i,rfl,rfl,hi,rfl⟩:=hrel;by_cases hlt:i<t.size
  ·have hne:=HB.out i hlt;have Lc:(i:Int)<t.size:=by omega
   clear HQ HM HL HB HA H;go_wp2_with fail;exact⟨⟨i+1,rfl,by simp,by omega,trivial⟩,by simp only[RowKit.intOf];omega⟩
  ·obtain rfl:i=t.size:=by omega
   clear HB;go_wp2_with(first
    |(go_at_call 9;refine H.out.mono ?_;clear H;rintro e w ⟨a1,n1,c1,rfl,H2⟩)
    |(go_at_call 9;refine H2.out.mono ?_;clear H2;rintro e w ⟨a2,n2,c2,rfl,H3⟩)
    |(go_at_call 9;refine H3.out.mono ?_;clear H3;rintro e w ⟨a3,n3,c3,rfl,H4⟩)
    |(go_at_call 7;refine(DV _ _).mono ?_;rintro e w' ⟨rfl,rfl⟩))
   go_loopw [27] (fun nv wr=>∃k:Nat,nv=.int .i64 k/\k<=n/\Si W l g s.toList t.toList (.slice a1 n1 c1) (.slice a2 n2 c2) (.slice a3 n3 c3) wr) (fun nv _=>n-(RowKit.intOf nv).toNat)
   case atStart=>exact⟨0,rfl,aB _,H4.out⟩
   case round=>
    rename World=>WO
    obtain⟨k,rfl,hk,hM⟩:=hrel;clear H4;by_cases hkn:k<n
    ·obtain⟨ai,ac,cA,m1,m2,hat⟩:=HM.out g k _ _ _ _ hM hkn;have HI:=a_ (HQ.out g k _ _ _ _ hM hkn);have HT:=a_ hat;unfold InN at HI;have hkk:(k:Int)<n:=by omega
     clear HQ HM HL HA HN HV hM hat;generalize (nodeAt l k).attrs=at_ at*
     obtain⟨F,hF⟩:∃F:Nat->Bool×Bool,∀i,l_ (at_.take i) s.toList t.toList=F i:=⟨_,fun _=>rfl⟩
     have e0:F 0=(false,false):=by rw[<-hF];rfl
     have em:l_ at_ s.toList t.toList=F at_.length:=by rw[<-hF,b9]
     rw[em]at HI;simp only[hF]at HT;clear hF em;generalize at_.length=m at*
     go_wp2_with fail;go_loopw [28,29,30] (fun hv iv kv wr=>∃i:Nat,kv=.int .i64 i/\i<=m/\hv=.bool (F i).1/\iv=.bool (F i).2/\wr=WO) (fun _ _ kv _=>m-(RowKit.intOf kv).toNat)
     case atStart=>exact⟨0,rfl,aB _,by rw[e0],by rw[e0],rfl⟩
     case round=>
      obtain⟨i,rfl,him,rfl,rfl,rfl⟩:=hrel;by_cases zQ:i<m
      ·obtain⟨ga,nm,x,rfl,k0,k1,hf⟩:=HT.out i zQ;have GK:(i:Int)<m:=by omega
       clear HT HI e0;cases hE:nm.toList==s.toList with
       |true=>
        have hf:F (i+1)=(true,x.toList==t.toList):=by rw[hf,hE];rfl
        have HF:=a_ hf;clear hf;go_wp2_with fail;exact⟨⟨i+1,by simp,by omega,by rw[HF.out],by rw[HF.out],trivial⟩,by simp only[RowKit.intOf];omega⟩
       |false=>
        have hf:F (i+1)=F i:=by rw[hf,hE];rfl
        have HF:=a_ hf;clear hf;go_wp2_with fail;exact⟨⟨i+1,by simp,by omega,by rw[HF.out],by rw[HF.out],trivial⟩,by simp only[RowKit.intOf];omega⟩
      ·obtain rfl:i=m:=by omega
       clear HT e0;generalize F i=bb at*
       obtain⟨bh,bi⟩:=bb;cases bh<;>cases bi
       all_goals
        go_wp2_with(go_at_call 14;refine HI.out.mono ?_;clear HI;rintro e w ⟨rfl,HI⟩);exact⟨⟨k+1,by simp,by omega,HI.out⟩,by simp only[RowKit.intOf];omega⟩
    ·obtain rfl:k=n:=by omega
     have HX:=a_ (HA.out _ (HL.out _ _ _ _ _ hM));clear HA HQ HM HL hM;go_wp2_with(go_at_call 8;refine HX.out.mono ?_;clear HX;rintro e w ⟨rfl,HX⟩);first|exact⟨rfl,HX⟩|(go_ret;exact⟨rfl,HX⟩)
end
section
variable{W:World}{ad:Addr}{doc s t:ByteArray}
theorem rN(s:ByteArray):bs s.toList=s:=by
 rw[ByteArray.toList_eq];rfl
theorem rO(s:ByteArray):s.toList.length=s.size:=by
 have:=gS s.toList;rw[rN]at this;exact this.symm
theorem XM(s:ByteArray)(i:Nat)(h:i<s.size):s.toList[i]?=some (s[i]'h):=by
 rw[ByteArray.toList_eq,dG,Array.getElem?_eq_getElem (by exact h)];rfl
theorem aat(gl:K.Gl W ad)(hd:doc.size<=268435456)(hs:s.size<=1125899906842624)(ht:t.size<=1125899906842624):Z4 4 #[.string doc,.string s,.string t] W fun e w'=>e=.returned (.bool true)/\Below W.heap.size W w':=by
 have hB:=atB gl hd;by_cases hp:(K.eZ doc).2.1=0
 ·by_cases h0:zJ s t=true
  ·exact wj hB (fun _ b=>b=true) h0 (fun i b _ e=>by rw[e];rfl) (fun b e=>Or.inr e) hs ht
  ·have h0:zJ s t=false:=by simpa using h0
   by_cases hq:∃(j:Nat) (h:j<t.size),((((t[j]'h).toNat:Nat):Int)==34)=true
   ·obtain⟨j,hj,he⟩:=hq;refine wj hB (fun i b=>j<i->b=true) (fun h=>by omega) (fun i b hi hb hji=>?_) (fun b hb=>Or.inr (hb hj)) hs ht;by_cases e:j=i
    ·subst e;rw[he,dF]
    ·rw[hb (by omega)];rfl
   ·have hv:∀i (h:i<t.size),((((t[i]'h).toNat:Nat):Int)==34)=false:=fun i h=>by
     cases e:((((t[i]'h).toNat:Nat):Int)==34)with
     |false=>rfl
     |true=>exact absurd ⟨i,h,e⟩ hq
    have hc:=tI (s:=s) (t:=t);rw[h0]at hc;simp only[aA,and_false,false_or,and_true]at hc;obtain⟨h1,h2,h3,h4⟩:=hc;have hn:Ch.name s=s.size:=by
     have:=K.Ch.nB s (s.size+1) 0 (aB _);have e:Ch.name s=Ch.eN s (s.size+1) 0:=rfl;omega
    have ha:pw s.toList:=by
     refine⟨?_,?_,fun e=>by rw[e]at h1;cases h1⟩
     ·unfold Gd;rw[rN,rO];exact KJ _ 0 (aB _) (by omega) hn
     ·unfold nm;rw[rN,rO];exact hn
    have hg:Gd t.toList:=by
     unfold Gd;rw[rN,rO];have:=Ch.xU t (t.size+1) 0 (aB _);have e:Ch.bad t=Ch.eL t (t.size+1) 0:=rfl;omega
    have Wm:(34:UInt8)∉t.toList:=fun h=>by
     obtain⟨i,hi⟩:=di h;have hl:=(List.getElem?_eq_some_iff.1 hi).1;rw[rO]at hl;rw[XM t i hl]at hi;have:=hv i hl;rw[aX hi]at this;cases this
    have XF:=K.vY doc;have hlen:=K.xM (K.eZ doc).1;have hG:=atG gl hd hp ha Wm hg (by rw[rO,rO];omega);rw[rN,rN]at hG;refine JK hG (fun w hw=>(GC (KG gl hw)).mono ?_) (K.DI hp).1 (K.JG doc) (by omega) rfl rfl h0 hv hs ht;rintro e w3 ⟨rfl,hb3⟩;exact⟨rfl,hw.trans (eJ hb3 hw.size)⟩
 ·exact wj hB (fun _ _=>True) trivial (fun _ _ _ _=>trivial) (fun b _=>Or.inl hp) hs ht
end
end Go.Proofs.YtclgfepngpeifaaGreatDoor
