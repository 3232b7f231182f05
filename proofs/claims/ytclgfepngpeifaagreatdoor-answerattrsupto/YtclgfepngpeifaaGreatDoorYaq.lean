import Derived.Test.YtclgfepngpeifaaGreatDoorYA
import Derived.Lib.DecodeN
import Derived.Shelf.Strconv.Clone
import Derived.Test.YtclgfepngpeifaaGreatDoorProg
import Derived.WalkKit
import Derived.Outline
import Derived.Test.YtclgfepngpeifaaGreatDoorYaj
import Derived.Test.YtclgfepngpeifaaGreatDoorYao
import Derived.Test.YtclgfepngpeifaaGreatDoorYah
set_option linter.unusedVariables false
set_option linter.unusedSimpArgs false
set_option maxHeartbeats 32000000
set_option maxRecDepth 100000
namespace Go.Proofs.YtclgfepngpeifaaGreatDoor
namespace K
open Go.RowKit Go.Maps Go.Lib Tryz
theorem IJ(s:ByteArray)(f lo hi a:Nat)(hf:(f=52/\a=3)\/(f=4/\a=0)\/(f=68/\a=4))(w:World)(hn:s.size=3)(x0 x1 x2:UInt8)(hs0:s[0]'(by omega)=x0)(hs1:s[1]'(by omega)=x1)(hs2:s[2]'(by omega)=x2)
  (hc0:w.cell? ⟨3,x0.toNat,none⟩=some (.int .u8 f)) (ha0:w.cell? ⟨4,2*a,none⟩=some (.int .u8 lo)) (ha1:w.cell? ⟨4,2*a+1,none⟩=some (.int .u8 hi)) (abR:4<w.heap.size):
  Z4 161 #[.string s] w (LL w (decide (x1.toNat<lo)||decide (hi<x1.toNat)||(decide (x2.toNat<128)||decide (191<x2.toNat)))):=by
 have l0:=x0.toNat_lt;have l1:=x1.toNat_lt;have l2:=x2.toNat_lt;have hz0:(0:Int)<(s.size:Int):=by omega
 have hz1:(1:Int)<(s.size:Int):=by omega
 have hz2:(2:Int)<(s.size:Int):=by omega
 by_cases hl:x1.toNat<lo
 ·have e1:(x1.toNat:Int)<(lo:Int):=by omega
  rw[show (decide (x1.toNat<lo)||decide (hi<x1.toNat)||(decide (x2.toNat<128)||decide (191<x2.toNat)))=true by simp[hl]];rcases hf with⟨rfl,rfl⟩|⟨rfl,rfl⟩|⟨rfl,rfl⟩;all_goals
   simp only[Nat.reduceMul,Nat.reduceAdd]at ha0 ha1;go_enter func161,ntmps161;go_wp2_with fail;go_quiet(fail);go_wp2;go_ret;exact⟨rfl,(below_drewN ((Below.refl _ w).alloc (au _) _) _)⟩
 ·have e1:¬((x1.toNat:Int)<(lo:Int)):=by omega
  have e1':decide ((x1.toNat:Int)<(lo:Int))=false:=by simpa using e1
  by_cases hh:hi<x1.toNat
  ·have e2:(hi:Int)<(x1.toNat:Int):=by omega
   rw[show (decide (x1.toNat<lo)||decide (hi<x1.toNat)||(decide (x2.toNat<128)||decide (191<x2.toNat)))=true by simp[hh]];rcases hf with⟨rfl,rfl⟩|⟨rfl,rfl⟩|⟨rfl,rfl⟩;all_goals
    simp only[Nat.reduceMul,Nat.reduceAdd]at ha0 ha1;go_enter func161,ntmps161;go_wp2_with fail;go_quiet(fail);go_wp2;go_ret;exact⟨rfl,(below_drewN ((Below.refl _ w).alloc (au _) _) _)⟩
  ·have e2:¬((hi:Int)<(x1.toNat:Int)):=by omega
   have e2':decide ((hi:Int)<(x1.toNat:Int))=false:=by simpa using e2
   by_cases hm:x2.toNat<128
   ·have e3:(x2.toNat:Int)<128:=by omega
    rw[show (decide (x1.toNat<lo)||decide (hi<x1.toNat)||(decide (x2.toNat<128)||decide (191<x2.toNat)))=true by simp[hm]];rcases hf with⟨rfl,rfl⟩|⟨rfl,rfl⟩|⟨rfl,rfl⟩;all_goals
     simp only[Nat.reduceMul,Nat.reduceAdd]at ha0 ha1;go_enter func161,ntmps161;go_wp2_with fail;go_quiet(fail);go_wp2;go_ret;exact⟨rfl,(below_drewN ((Below.refl _ w).alloc (au _) _) _)⟩
   ·have e3:¬((x2.toNat:Int)<128):=by omega
    by_cases hq:191<x2.toNat
    ·have e4:(191:Int)<(x2.toNat:Int):=by omega
     rw[show (decide (x1.toNat<lo)||decide (hi<x1.toNat)||(decide (x2.toNat<128)||decide (191<x2.toNat)))=true by simp[hq]];rcases hf with⟨rfl,rfl⟩|⟨rfl,rfl⟩|⟨rfl,rfl⟩;all_goals
      simp only[Nat.reduceMul,Nat.reduceAdd]at ha0 ha1;go_enter func161,ntmps161;go_wp2_with fail;go_quiet(fail);go_wp2;go_ret;exact⟨rfl,(below_drewN ((Below.refl _ w).alloc (au _) _) _)⟩
    ·have e4:¬((191:Int)<(x2.toNat:Int)):=by omega
     rw[show (decide (x1.toNat<lo)||decide (hi<x1.toNat)||(decide (x2.toNat<128)||decide (191<x2.toNat)))=false by simp[hl,hh,hm,hq]];rcases hf with⟨rfl,rfl⟩|⟨rfl,rfl⟩|⟨rfl,rfl⟩;all_goals
      simp only[Nat.reduceMul,Nat.reduceAdd]at ha0 ha1;go_enter func161,ntmps161;go_wp2_with fail;go_quiet(fail);go_wp2;go_ret;exact⟨rfl,(below_drewN ((Below.refl _ w).alloc (au _) _) _)⟩
theorem PX(s:ByteArray)(f:Nat)(hf:f=240\/f=241\/f=2\/f=19\/f=3\/f=35\/f=52\/f=4\/f=68)(w:World)(hn:0<s.size)(hfn:f%8<=s.size)(x0:UInt8)(hs0:s[0]'hn=x0)
  (hc0:w.cell? ⟨3,x0.toNat,none⟩=some (.int .u8 f)):
  Z4 161 #[.string s] w (LL w true):=by
 have l0:=x0.toNat_lt;have hz0:(0:Int)<(s.size:Int):=by omega
 have hz:((s.size:Int)==0)=false:=by
  have:(s.size:Int)≠0:=by omega
  simpa using this
 rcases hf with rfl|rfl|rfl|rfl|rfl|rfl|rfl|rfl|rfl;all_goals
  simp only[Nat.reduceMod]at hfn;go_enter func161,ntmps161;go_wp2;go_ret;exact⟨rfl,Below.refl _ _⟩
theorem Mm(s:ByteArray)(w:World)(hn:s.size=0):Z4 161 #[.string s] w (LL w false):=by
 go_enter func161,ntmps161;go_wp2;go_ret;exact⟨rfl,Below.refl _ _⟩
def Tk.full(t:ByteArray):Bool:=if t.size=0 then false else oC t.size (firstT (t.get! 0).toNat) (t.get! 1).toNat (t.get! 2).toNat
theorem rG{w:World}(hT:Utf8Tabs 3 4 w):4<w.heap.size:=by
 have h:=(hT.2 0 (by omega)).1;exact aD w _ h
theorem FH(t:ByteArray)(w:World)(hT:Utf8Tabs 3 4 w):Z4 161 #[.string t] w (LL w (Tk.full t)):=by
 have Wm:=rG hT;unfold Tk.full;by_cases h0:t.size=0
 ·rw[if_pos h0];exact Mm t w h0
 rw[if_neg h0];have hs0:t[0]'(by omega)=t.get! 0:=(Utf8W.get!_of_lt t 0 (by omega)).symm;have l0:=(t.get! 0).toNat_lt;have hc0:=hT.1 (t.get! 0).toNat (by omega);have NN:=firstT_cases (t.get! 0).toNat;generalize firstT (t.get! 0).toNat=f at*
 by_cases hb:f%8<=t.size
 ·rw[show oC t.size f (t.get! 1).toNat (t.get! 2).toNat=true by simp[oC,hb]];exact PX t f NN w (by omega) hb _ hs0 hc0
 have ha:=hT.2 (f/16) (by rcases NN with h|h|h|h|h|h|h|h|h<;>subst h<;>decide);by_cases h1:t.size=1
 ·rw[show oC t.size f (t.get! 1).toNat (t.get! 2).toNat=false by
   rw[h1]at hb ⊢;simp only[oC,dm,Bool.and_eq_false_iff,cV];exact⟨hb,Or.inl (by omega),Or.inl (by omega)⟩]
  exact Pc t f _ _ (f/16) (by rcases NN with h|h|h|h|h|h|h|h|h<;>subst h<;>first|omega|(simp at hb;omega)|simp) w h1 _ hs0 hc0 ha.1 ha.2 Wm
 have hs1:t[1]'(by omega)=t.get! 1:=(Utf8W.get!_of_lt t 1 (by omega)).symm;by_cases h2:t.size=2
 ·rw[show oC t.size f (t.get! 1).toNat (t.get! 2).toNat=(decide ((t.get! 1).toNat<accLo (f/16))||decide (accHi (f/16)<(t.get! 1).toNat)) by
   rw[h2]at hb ⊢;simp[oC,hb]]
  exact Pf t f _ _ (f/16) (by rcases NN with h|h|h|h|h|h|h|h|h<;>subst h<;>first|omega|(simp at hb;omega)|simp) w h2 _ _ hs0 hs1 hc0 ha.1 ha.2 Wm
 have h3:t.size=3:=by rcases NN with h|h|h|h|h|h|h|h|h<;>subst h<;>simp at hb<;>omega
 have hs2:t[2]'(by omega)=t.get! 2:=(Utf8W.get!_of_lt t 2 (by omega)).symm;rw[show oC t.size f (t.get! 1).toNat (t.get! 2).toNat=(decide ((t.get! 1).toNat<accLo (f/16))||decide (accHi (f/16)<(t.get! 1).toNat)||(decide ((t.get! 2).toNat<128)||decide (191<(t.get! 2).toNat))) by
                                                                              rw[h3]at hb ⊢;simp[oC,hb]]
 exact IJ t f _ _ (f/16) (by rcases NN with h|h|h|h|h|h|h|h|h<;>subst h<;>first|omega|(simp at hb;omega)|simp) w h3 _ _ _ hs0 hs1 hs2 hc0 ha.1 ha.2 Wm
end K
end Go.Proofs.YtclgfepngpeifaaGreatDoor
namespace Go.Proofs.YtclgfepngpeifaaGreatDoor
namespace K.Ch
open Go.Proofs.YtclgfepngpeifaaGreatDoor.Ch
open Go
theorem vM{s t:ByteArray}{i j:Nat}(h:i<s.size)(nb:Utf8.decode s i≠(65533,1))(hb:∀k,k<(Utf8.decode s i).2->bz s (i+k)=bz t (j+k)):Utf8.decode t j=Utf8.decode s i:=by
 have h0:0<=bz s i:=by unfold bz;rw[if_pos h];omega
 have RP:=r_ s i;have hw:=ek s i h;have b0:=hb 0 (by omega);simp only[bH]at b0;by_cases a1:bz s i<128
 ·rw[fN h0 a1,fN (by omega) (by omega),b0]
 by_cases a2:bz s i<192
 ·exact absurd (fx (Or.inl ⟨by omega,a2⟩)) nb
 by_cases a3:bz s i<224
 ·by_cases c1:cont s (i+1)
  ·have hd:=gD (by omega) a3 c1;by_cases hz:128<=acc s i (bz s i-192) 1
   ·rw[if_pos hz]at hd;rw[hd]at hb;have b1:=hb 1 (by simp);have d1:cont t (j+1):=by unfold cont at*;rw[<-b1];exact c1
    rw[gD (by omega) a3 c1,gD (by omega) (by omega) d1];simp only[acc,aG,b0,b1]
   ·rw[if_neg hz]at hd;exact absurd hd nb
  ·exact absurd (gJ (by omega) a3 c1) nb
 by_cases a4:bz s i<240
 ·by_cases c1:cont s (i+1)
  ·by_cases c2:cont s (i+2)
   ·have hd:=fG (by omega) a4 c1 c2;by_cases hz:2048<=acc s i (bz s i-224) 2/\Utf8.valid (acc s i (bz s i-224) 2)=true
    ·rw[if_pos hz]at hd;rw[hd]at hb;have b1:=hb 1 (by simp);have b2:=hb 2 (by simp);have d1:cont t (j+1):=by unfold cont at*;rw[<-b1];exact c1
     have d2:cont t (j+2):=by unfold cont at*;rw[<-b2];exact c2
     rw[fG (by omega) a4 c1 c2,fG (by omega) (by omega) d1 d2];simp only[acc,aG,Nat.reduceAdd,b0,b1,b2]
    ·rw[if_neg hz]at hd;exact absurd hd nb
   ·exact absurd (eQ (by omega) a4 (Or.inr c2)) nb
  ·exact absurd (eQ (by omega) a4 (Or.inl c1)) nb
 by_cases a5:bz s i<248
 ·by_cases c1:cont s (i+1)
  ·by_cases c2:cont s (i+2)
   ·by_cases c3:cont s (i+3)
    ·have hd:=gj (by omega) a5 c1 c2 c3;by_cases hz:65536<=acc s i (bz s i-240) 3/\Utf8.valid (acc s i (bz s i-240) 3)=true
     ·rw[if_pos hz]at hd;rw[hd]at hb;have b1:=hb 1 (by simp);have b2:=hb 2 (by simp);have b3:=hb 3 (by simp);have d1:cont t (j+1):=by unfold cont at*;rw[<-b1];exact c1
      have d2:cont t (j+2):=by unfold cont at*;rw[<-b2];exact c2
      have d3:cont t (j+3):=by unfold cont at*;rw[<-b3];exact c3
      rw[gj (by omega) a5 c1 c2 c3,gj (by omega) (by omega) d1 d2 d3];simp only[acc,aG,Nat.reduceAdd,b0,b1,b2,b3]
     ·rw[if_neg hz]at hd;exact absurd hd nb
    ·exact absurd (eF (by omega) a5 (Or.inr (Or.inr c3))) nb
   ·exact absurd (eF (by omega) a5 (Or.inr (Or.inl c2))) nb
  ·exact absurd (eF (by omega) a5 (Or.inl c1)) nb
 ·exact absurd (fx (Or.inr (by omega))) nb
theorem FI(t:ByteArray)(n:Nat):t.extract 0 n=txt (t.data.toList.take n):=by
 apply cQ;apply Array.ext';simp[txt,List.take_drop]
theorem tB(t:ByteArray)(n k:Nat)(_hn:n<=t.size):bz (t.extract 0 n) k=if k<n then bz t k else-1:=by
 have e:bz t k=bz (txt t.data.toList) k:=by rw[OY]
 rw[FI,nV,e,nV,bS];by_cases h:k<n
 ·simp[h]
 ·simp[h]
theorem Di(t:ByteArray)(h:0<t.size):Utf8.decode (t.extract 0 (Utf8.decode t 0).2) 0=Utf8.decode t 0:=by
 have hw:=ek t 0 h;by_cases nb:Utf8.decode t 0=(65533,1)
 ·rw[nb];show Utf8.decode (t.extract 0 1) 0=(65533,1);have h0:0<=bz t 0:=by unfold bz;rw[if_pos h];omega
  have RP:=r_ t 0;have Cw:128<=bz t 0:=by
   by_cases a:bz t 0<128
   ·rw[fN h0 a]at nb;simp only[cr]at nb;omega
   ·omega
  have b0:bz (t.extract 0 1) 0=bz t 0:=by rw[tB t 1 0 (by omega)];simp
  have b1:bz (t.extract 0 1) 1= -1:=by rw[tB t 1 1 (by omega)];simp
  have c1:¬cont (t.extract 0 1) (0+1):=by unfold cont;rw[aG,b1];omega
  by_cases a2:bz t 0<192
  ·exact fx (Or.inl ⟨by omega,by omega⟩)
  by_cases a3:bz t 0<224
  ·exact gJ (by omega) (by omega) c1
  by_cases a4:bz t 0<240
  ·exact eQ (by omega) (by omega) (Or.inl c1)
  by_cases a5:bz t 0<248
  ·exact eF (by omega) (by omega) (Or.inl c1)
  ·exact fx (Or.inr (by omega))
 ·refine vM h nb ?_;intro k hk;rw[aG,tB t _ k (by omega),if_pos hk]
theorem y_(t:ByteArray)(h:0<t.size):bad (t.extract 0 (Utf8.decode t 0).2)=if fQ t 0=true then(Utf8.decode t 0).2 else 0:=by
 have hw:=ek t 0 h;have hd:=Di t h;have ho:fQ (t.extract 0 (Utf8.decode t 0).2) 0=fQ t 0:=Kc hd;have hs:(t.extract 0 (Utf8.decode t 0).2).size=(Utf8.decode t 0).2:=by simp;omega
 generalize t.extract 0 (Utf8.decode t 0).2=u at*
 unfold bad;rw[eL.eq_2,if_pos (by omega),ho,hd,hs];split
 ·obtain⟨m,hm⟩:∃m,(Utf8.decode t 0).2=m+1:=⟨(Utf8.decode t 0).2-1,by omega⟩
  rw[hm,eL.eq_2,if_neg (by omega),hs,hm]
 ·rfl
end K.Ch
end Go.Proofs.YtclgfepngpeifaaGreatDoor
namespace Go.Proofs.YtclgfepngpeifaaGreatDoor
namespace K
open Go.RowKit Go.Maps Go.Lib Tryz
section
variable{F:Nat->Prop}{R:Nat}{w w':World}{s:Src}{p:Ptr}{st:St}{c:Int}
def Src.took(s:Src):Src×Int:=
 if s.rest.size=0 then({s with at_:=s.next},-1)
 else if Ch.fQ s.rest 0=true then({s with at_:=s.next,rest:=s.rest.extract (Utf8.decode s.rest 0).2 s.rest.size,next:=s.next+(Utf8.decode s.rest 0).2},((Utf8.decode s.rest 0).1:Int))
 else({s with at_:=s.next},-2)
def Src.more(s:Src):Bool:=!s.ended&&!Tk.full s.rest
theorem IK(hT:Utf8Tabs 3 4 w)(hb:Z5 w w'):Utf8Tabs 3 4 w':=by
 have h4:=rG hT;refine⟨fun c hc=>(hb.cell (by show 3<w.heap.size;omega)).trans (hT.1 c hc),fun i hi=>⟨(hb.cell (by show 4<w.heap.size;omega)).trans (hT.2 i hi).1,(hb.cell (by show 4<w.heap.size;omega)).trans (hT.2 i hi).2⟩⟩
def More(w:World)(m:Value):Prop:=w.cell? ⟨0,0,none⟩=some m
theorem Mn(h:fF F R w s p st)(hT:Utf8Tabs 3 4 w)(a:Addr)(hm:More w (.iface 289 (.pointer (some a))))(zO:s.more=true):
  Z4 116 #[Z8 R] w (Z7 (.tuple #[.int .i32 0,.iface 289 (.pointer (some a))]) w):=by
 have c0:w.cell? ⟨R,0,none⟩=some (.string s.rest):=h.cell 0 rfl;have c3:w.cell? ⟨R,3,none⟩=some (.bool s.ended):=h.cell 3 rfl;have hR:=h.lt R h.jz;have h4:=rG hT;simp only[Src.more,aT,Bool.not_eq_true']at zO;have hf:=FH s.rest w hT;rw[zO.2]at hf;rw[zO.1]at c3;unfold More at hm;have H:=a_ h;clear h hT zO;go_enter func116,ntmps116;go_wp2_with(go_at_call 161;refine hf.mono ?_;rintro e w1 ⟨rfl,k_⟩);have UL:w1.cell? ⟨0,0,none⟩=some (.iface 289 (.pointer (some a))):=(k_.cell (p:=⟨0,0,none⟩) (by show 0<w.heap.size;omega)).trans hm;go_region_held3 (fun W=>W.cell? ⟨0,0,none⟩=some (.iface 289 (.pointer (some a))))
  (first|exact UL)
  (fail)
 all_goals
  go_wp2
  go_ret2
  exact⟨rfl,k_.drew⟩
theorem Mp(hT:Utf8Tabs 3 4 w)(hR5:4<R)(i:Nat)(v:Value):Utf8Tabs 3 4 (w.setCell ⟨R,i,none⟩ v):=by
 refine⟨fun c hc=>?_,fun j hj=>⟨?_,?_⟩⟩
 ·rw[ar (ak w _ v 3 (by show 3≠R;omega))];exact hT.1 c hc
 ·rw[ar (ak w _ v 4 (by show 4≠R;omega))];exact(hT.2 j hj).1
 ·rw[ar (ak w _ v 4 (by show 4≠R;omega))];exact(hT.2 j hj).2
theorem Mq(h:fF F R w s p st)(hT:Utf8Tabs 3 4 w)(hR5:4<R)(h0:0<s.rest.size)(hz:s.rest.size<=1099511627776)(w1:World)(k_:Z5 w w1):
  Z4 162 #[.string s.rest] (w1.setCell ⟨R,2,none⟩ (.int .i64 s.next)) fun e w2=>e=.returned (.tuple #[.int .i32 ((Utf8.decode s.rest 0).1:Int),.int .i64 ((Utf8.decode s.rest 0).2:Int)])/\Below (w1.setCell ⟨R,2,none⟩ (.int .i64 s.next)).heap.size (w1.setCell ⟨R,2,none⟩ (.int .i64 s.next)) w2:=by
 have h1:=utf8_DecodeRuneInString s.rest _ (Mp (IK hT k_) hR5 2 (.int .i64 s.next));have e:Lib.decodeGo s.rest=Utf8.decode s.rest 0:=by unfold Lib.decodeGo;rw[if_neg (by omega)]
 rw[e]at h1;exact h1
end
section
variable{F:Nat->Prop}{R:Nat}{w w' w'':World}{s s':Src}{p:Ptr}{st:St}{c:Int}
def RF(F:Nat->Prop)(R:Nat)(w:World)(s:Src)(p:Ptr)(st:St)(w':World):Prop:=fF (Grow F w w') R w' s p st/\Frame F w w'/\∀k,k<w.heap.size->k≠R->w'.heap[k]?=w.heap[k]?
theorem RF.refl(h:fF F R w s p st):RF F R w s p st w:=⟨h.Pg,Frame.refl _ _,fun _ _ _=>rfl⟩
theorem RF.below(h:RF F R w s p st w')(hb:Z5 w' w''):RF F R w s p st w'':=
 ⟨(h.1.below hb).join h.2.1.size hb.size,h.2.1.trans (Frame.below hb),fun k hk hR=>(hb.block k (aq hk h.2.1.size)).trans (h.2.2 k hk hR)⟩
theorem RF.set(h:RF F R w s p st w')(i:Nat)(v:Value)(hc:(cellsOf s p st).setIfInBounds i v=cellsOf s' p st):RF F R w s' p st (w'.setCell ⟨R,i,none⟩ v):=by
 have hsz:(w'.setCell ⟨R,i,none⟩ v).heap.size=w'.heap.size:=by simp[World.setCell]
 have r:=h.1.scalar (s':=s') (ia:=st) i v hc (fun o=>o);have hG:∀k,Grow F w w' k->Grow F w (w'.setCell ⟨R,i,none⟩ v) k:=fun k hk=>by unfold Grow at*;rw[hsz];exact hk
 have ZF:∀k,Grow F w (w'.setCell ⟨R,i,none⟩ v) k->Grow F w w' k:=fun k hk=>by unfold Grow at*;rw[hsz]at hk;exact hk
 refine⟨r.mono hG (fun k hk=>r.lt k (ZF k hk)),⟨h.2.1.os,h.2.1.tape,h.2.1.output,by rw[hsz];exact h.2.1.size,fun k hk hf=>?_⟩,fun k hk hR=>?_⟩
 ·rw[ak _ _ _ _ ?_]
  ·exact h.2.1.block k hk hf
  ·intro e;have e':k=R:=e;subst e';rcases h.1.jz with x|x
   ·exact hf x
   ·omega
 ·rw[ak _ _ _ _ hR];exact h.2.2 k hk hR
def xD(F:Nat->Prop)(R:Nat)(w:World)(s:Src)(p:Ptr)(st:St)(e:Ending)(w':World):Prop:=
 e=.returned (.tuple #[.int .i32 s.took.2,.nilIface])/\RF F R w s.took.1 p st w'
theorem TL(h:fF F R w s p st)(hT:Utf8Tabs 3 4 w)(hR5:4<R)(hz:s.rest.size<=1099511627776)(hn:0<=s.next/\s.next<=1152921504606846976)(zO:s.more=false):
  Z4 116 #[Z8 R] w (xD F R w s p st):=by
 have c0:w.cell? ⟨R,0,none⟩=some (.string s.rest):=h.cell 0 rfl;have c1:w.cell? ⟨R,1,none⟩=some (.int .i64 s.next):=h.cell 1 rfl;have c2:w.cell? ⟨R,2,none⟩=some (.int .i64 s.at_):=h.cell 2 rfl;have c3:w.cell? ⟨R,3,none⟩=some (.bool s.ended):=h.cell 3 rfl;have f0:=h.free 0;have f1:=h.free 1;have f2:=h.free 2;have hR:=h.lt R h.jz;have Mr:=FH s.rest w hT;have Vc:=fun h0=>Mq h hT hR5 h0 hz;have qq:∀w1,Z5 w w1->RF F R w {s with at_:=s.next} p st (w1.setCell ⟨R,2,none⟩ (.int .i64 s.next)):=fun w1 b=>((RF.refl h).below b).set 2 _ rfl;have H:=a_ h;have HC:=a_ Vc;have HS:=a_ qq;clear h hT Vc qq;by_cases h0:s.rest.size=0
 ·have vz:s.took=({s with at_:=s.next},-1):=by simp[Src.took,h0]
  unfold xD;rw[vz];have he:s.rest.toList.isEmpty=true:=by
   rw[cJ];have:s.rest.data.toList=[]:=bK (by simpa using h0);rw[this];rfl
  clear vz h0 hz hn HC;rcases(dx s.ended).symm with hen|hen
  ·have LP:Tk.full s.rest=true:=by simp[Src.more,hen]at zO;exact zO
   rw[LP]at Mr;rw[hen]at c3;clear zO LP hen;go_enter func116,ntmps116;go_wp2_with(go_at_call 161;refine Mr.mono ?_;rintro e w1 ⟨rfl,k_⟩;have c0':=(k_.cell hR).trans c0;have c1':=(k_.cell hR).trans c1;have N8:=(k_.cell hR).trans c2;have Sn:w1.frozen? ⟨R,2,none⟩=false:=(dB (k_.block R hR)).trans f2)
   go_ret2
   exact⟨rfl,HS.out _ k_⟩
  ·rw[hen]at c3;clear zO hen;go_enter func116,ntmps116;go_wp2_with fail
   go_ret2
   exact⟨rfl,HS.out _ (Below.refl _ _)⟩
 ·have he:s.rest.toList.isEmpty=false:=by
   rw[cJ];cases hl:s.rest.data.toList with
   |nil=>exact absurd (by have:=aL List.length hl;simpa using this) h0
   |cons a b=>rfl
  have hw:=Ch.ek s.rest 0 (by omega);have hw1:1<=(Utf8.decode s.rest 0).2:=hw.2.1;have hw2:(Utf8.decode s.rest 0).2<=s.rest.size:=by omega
  have K5:=Ch.y_ s.rest (by omega);have HC2:=a_ (HC.out (by omega));clear HC;have HC:=HC2;clear HC2 hw;unfold xD;cases gZ:Ch.fQ s.rest 0
  ·have vz:s.took=({s with at_:=s.next},-2):=by simp[Src.took,h0,gZ]
   rw[vz];rw[gZ]at K5;simp only[aA,aQ]at K5;have ZR:=a_ K5;clear vz gZ K5 h0;rcases(dx s.ended).symm with hen|hen
   ·have LP:Tk.full s.rest=true:=by simp[Src.more,hen]at zO;exact zO
    rw[LP]at Mr;rw[hen]at c3;clear zO LP hen;go_enter func116,ntmps116;go_wp2_with(go_at_call 161;refine Mr.mono ?_;rintro e w1 ⟨rfl,k_⟩;have c0':=(k_.cell hR).trans c0;have c1':=(k_.cell hR).trans c1;have N8:=(k_.cell hR).trans c2;have Sn:w1.frozen? ⟨R,2,none⟩=false:=(dB (k_.block R hR)).trans f2);refine(HC.out w1 k_).mono ?_;rintro e w2 ⟨rfl,WJ⟩;have R2:=a_ ((HS.out w1 k_).below WJ);have d0:w2.cell? ⟨R,0,none⟩=some (.string s.rest):=R2.out.1.cell 0 rfl;have d1:w2.cell? ⟨R,1,none⟩=some (.int .i64 s.next):=R2.out.1.cell 1 rfl;have nS:=pV (s.rest.extract 0 (Utf8.decode s.rest 0).2) w2 (by simp;omega);rw[ZR.out]at nS;generalize ((Utf8.decode s.rest 0).1:Int)=rn at*
    generalize (Utf8.decode s.rest 0).2=wd at*
    go_wp2_with(go_at_call 47;refine nS.mono ?_;rintro e w3 ⟨rfl,NY⟩)
    go_ret2
    exact⟨rfl,R2.out.below NY⟩
   ·rw[hen]at c3;clear zO hen;go_enter func116,ntmps116;go_wp2_with fail;refine(HC.out w (Below.refl _ _)).mono ?_;rintro e w2 ⟨rfl,WJ⟩;have R2:=a_ ((HS.out w (Below.refl _ _)).below WJ);have d0:w2.cell? ⟨R,0,none⟩=some (.string s.rest):=R2.out.1.cell 0 rfl;have d1:w2.cell? ⟨R,1,none⟩=some (.int .i64 s.next):=R2.out.1.cell 1 rfl;have nS:=pV (s.rest.extract 0 (Utf8.decode s.rest 0).2) w2 (by simp;omega);rw[ZR.out]at nS;generalize ((Utf8.decode s.rest 0).1:Int)=rn at*
    generalize (Utf8.decode s.rest 0).2=wd at*
    go_wp2_with(go_at_call 47;refine nS.mono ?_;rintro e w3 ⟨rfl,NY⟩)
    go_ret2
    exact⟨rfl,R2.out.below NY⟩
  ·have vz:s.took=({s with at_:=s.next,rest:=s.rest.extract (Utf8.decode s.rest 0).2 s.rest.size,next:=s.next+(Utf8.decode s.rest 0).2},((Utf8.decode s.rest 0).1:Int)):=by simp[Src.took,h0,gZ]
   rw[vz];rw[gZ]at K5;simp only[if_true]at K5;have ZR:=a_ K5;clear vz gZ K5 h0;rcases(dx s.ended).symm with hen|hen
   ·have LP:Tk.full s.rest=true:=by simp[Src.more,hen]at zO;exact zO
    rw[LP]at Mr;rw[hen]at c3;clear zO LP hen;go_enter func116,ntmps116;go_wp2_with(go_at_call 161;refine Mr.mono ?_;rintro e w1 ⟨rfl,k_⟩;have c0':=(k_.cell hR).trans c0;have c1':=(k_.cell hR).trans c1;have N8:=(k_.cell hR).trans c2;have Sn:w1.frozen? ⟨R,2,none⟩=false:=(dB (k_.block R hR)).trans f2);refine(HC.out w1 k_).mono ?_;rintro e w2 ⟨rfl,WJ⟩;have R2:=a_ ((HS.out w1 k_).below WJ);have d0:w2.cell? ⟨R,0,none⟩=some (.string s.rest):=R2.out.1.cell 0 rfl;have d1:w2.cell? ⟨R,1,none⟩=some (.int .i64 s.next):=R2.out.1.cell 1 rfl;have nS:=pV (s.rest.extract 0 (Utf8.decode s.rest 0).2) w2 (by simp;omega);rw[ZR.out]at nS;go_wp2_with(go_at_call 47;refine nS.mono ?_;rintro e w3 ⟨rfl,NY⟩;have R3:=a_ (R2.out.below NY);have g0:w3.cell? ⟨R,0,none⟩=some (.string s.rest):=R3.out.1.cell 0 rfl;have g1:w3.cell? ⟨R,1,none⟩=some (.int .i64 s.next):=R3.out.1.cell 1 rfl;have q0:=R3.out.1.free 0;have q1:=R3.out.1.free 1)
    go_ret2
    refine⟨rfl,?_⟩;exact(R3.out.set (s':={s with at_:=s.next,rest:=s.rest.extract (Utf8.decode s.rest 0).2 s.rest.size}) 0 (.string (s.rest.extract (Utf8.decode s.rest 0).2 s.rest.size)) rfl).set 1 (.int .i64 (s.next+(Utf8.decode s.rest 0).2)) rfl
   ·rw[hen]at c3;clear zO hen;go_enter func116,ntmps116;go_wp2_with fail;refine(HC.out w (Below.refl _ _)).mono ?_;rintro e w2 ⟨rfl,WJ⟩;have R2:=a_ ((HS.out w (Below.refl _ _)).below WJ);have d0:w2.cell? ⟨R,0,none⟩=some (.string s.rest):=R2.out.1.cell 0 rfl;have d1:w2.cell? ⟨R,1,none⟩=some (.int .i64 s.next):=R2.out.1.cell 1 rfl;have nS:=pV (s.rest.extract 0 (Utf8.decode s.rest 0).2) w2 (by simp;omega);rw[ZR.out]at nS;go_wp2_with(go_at_call 47;refine nS.mono ?_;rintro e w3 ⟨rfl,NY⟩;have R3:=a_ (R2.out.below NY);have g0:w3.cell? ⟨R,0,none⟩=some (.string s.rest):=R3.out.1.cell 0 rfl;have g1:w3.cell? ⟨R,1,none⟩=some (.int .i64 s.next):=R3.out.1.cell 1 rfl;have q0:=R3.out.1.free 0;have q1:=R3.out.1.free 1)
    go_ret2
    refine⟨rfl,?_⟩;exact(R3.out.set (s':={s with at_:=s.next,rest:=s.rest.extract (Utf8.decode s.rest 0).2 s.rest.size}) 0 (.string (s.rest.extract (Utf8.decode s.rest 0).2 s.rest.size)) rfl).set 1 (.int .i64 (s.next+(Utf8.decode s.rest 0).2)) rfl
end
theorem kx(st:St)(i j:Rn):((st.clear i).run j).length<=(st.run j).length:=by simp only[St.clear,St.dV];split<;>simp
theorem kW(st:St)(j:Rn):(st.dZ.run j).length<=(st.run j).length:=by
 unfold St.dZ;split
 ·omega
 ·exact kx _ _ _
theorem kj(st:St):st.dZ.told.length<=st.told.length+1:=by
 unfold St.dZ;split
 ·omega
 ·simp[St.clear,St.dV]
theorem f_(st:St):st.dZ.attrs=st.attrs/\st.dZ.names=st.names/\st.dZ.quote=st.quote:=by unfold St.dZ;split<;>exact⟨rfl,rfl,rfl⟩
structure mj(st:St)(c:Int)(o:Out):Prop where
 run:∀i,(o.st.run i).length<=(st.run i).length+12
 told:o.st.told.length<=st.told.length+4
 attrs:o.st.attrs.length<=st.attrs.length+1
 names:o.st.names.length<=st.names.length+1
 quote:0<=st.quote->0<=o.st.quote
 ref:∀i k,o.res=.go (.ref i k)->(o.st.run .ref).length<=4
 neg:c= -1\/c= -2->0<=st.quote->∀pt,o.res≠ .go pt
theorem fW(st:St)(i:Rn)(c q:Int):(st.put i c q).told=st.told/\(st.put i c q).attrs=st.attrs/\(st.put i c q).names=st.names/\(st.put i c q).quote=st.quote:=⟨rfl,rfl,rfl,rfl⟩
theorem mj.gP{st:St}{c:Int}{no q:Int}:mj st c ⟨st,.fail no q⟩:=
 ⟨fun _=>by simp,by simp,by simp,by simp,fun h=>h,fun _ _ e=>(by cases e),fun _ _ _ e=>(by cases e)⟩
theorem mj.oD{st:St}{c:Int}{pt:Part}(h0:0<=c)(hr:∀i k,pt≠ .ref i k):mj st c ⟨st,.go pt⟩:=
 ⟨fun _=>by simp,by simp,by simp,by simp,fun h=>h,fun i k e=>absurd (by cases e;rfl) (hr i k),fun h=>by omega⟩
theorem mZ{c:Int}(h:Ch.eG c=true):0<=c:=by have:=(Ch.fD c).1 h;omega
theorem IL{c:Int}(h:Ch.fk c=true):0<=c:=by have:=(Ch.iK c).1 h;omega
theorem rH{c:Int}(h:Tk.blank c=true):0<=c:=by simp[Tk.blank]at h;omega
theorem mj.via{st fl:St}{c:Int}{pt:Part}(h0:0<=c)(hr:∀i k,pt≠ .ref i k)(h1:∀i,(fl.run i).length<=(st.run i).length+12)(h2:fl.told.length<=st.told.length+4)(h3:fl.attrs.length<=st.attrs.length+1)(h4:fl.names.length<=st.names.length+1)(h5:0<=st.quote->0<=fl.quote):mj st c ⟨fl,.go pt⟩:=
 ⟨h1,h2,h3,h4,h5,fun i k e=>absurd (by cases e;rfl) (hr i k),fun h=>by omega⟩
theorem oI(st:St)(c:Int)(pt:Part)(h0:0<=c)(hr:∀i k,pt≠ .ref i k):mj st c ⟨st.eI,.go pt⟩:=by
 refine .via h0 hr (fun i=>?_) ?_ ?_ ?_ ?_
 ·show (st.dZ.run i).length<=_;have:=kW st i;omega
 ·show (st.dZ.told++[_]).length<=_;have:=kj st;simp;omega
 ·show ([]:List (List UInt8×List UInt8)).length<=_;simp
 ·show ([]:List (List UInt8)).length<=_;simp
 ·show _->0<=st.dZ.quote;rw[(f_ st).2.2];exact id
theorem vN(st:St)(c:Int)(pt:Part)(h0:0<=c)(hr:∀i k,pt≠ .ref i k):mj st c ⟨st.fO,.go pt⟩:=by
 refine .via h0 hr (fun i=>?_) ?_ ?_ ?_ ?_
 ·show (st.dZ.run i).length<=_;have:=kW st i;omega
 ·show (st.dZ.told++[_]).length<=_;have:=kj st;simp;omega
 ·show st.dZ.attrs.length<=_;rw[(f_ st).1];omega
 ·show st.dZ.names.length<=_;rw[(f_ st).2.1];omega
 ·show _->0<=st.dZ.quote;rw[(f_ st).2.2];exact id
theorem uJ(st:St)(i:Rn)(c q d:Int)(pt:Part)(h0:0<=d)(hr:∀i k,pt≠ .ref i k):mj st d ⟨st.put i c q,.go pt⟩:=
 .via h0 hr (fun j=>by have:=iB st i j c q;omega) (by simp[fW]) (by simp[fW]) (by simp[fW]) (fun h=>h)
theorem wL(q:Int)(st:St)(c:Int):mj st c (jt q st c):=by
 unfold jt;split
 ·exact .oD (rH (by assumption)) (fun _ _=>by simp)
 split
 ·exact .oD (by omega) (fun _ _=>by simp)
 split
 ·exact oI st c _ (by omega) (fun _ _=>by simp)
 ·exact .gP
theorem mj.after{st fl:St}{c:Int}{o:Out}(h:mj fl c o)(h1:∀i,(o.st.run i).length<=(st.run i).length+12)(h2:fl.told.length<=st.told.length)(h3:fl.attrs.length<=st.attrs.length)(h4:o.st.names.length<=st.names.length+1)(h5:fl.quote=st.quote):mj st c o:=
 ⟨h1,by have:=h.told;omega,by have:=h.attrs;omega,h4,fun x=>h.quote (h5▸x),h.ref,fun x y=>h.neg x (h5▸y)⟩
theorem Dj(i:Rn)(k:Pl)(q:Int)(st:St)(c:Int):mj st c (fH i k q st c):=by
 unfold fH;split
 ·exact uJ st i c q c _ (mZ (by assumption)) (fun _ _=>by simp)
 ·exact .gP
theorem wM(q:Int)(st:St)(c:Int):mj st c (jK q st c):=by
 unfold jK;split
 ·exact .oD (rH (by assumption)) (fun _ _=>by simp)
 split
 ·exact .oD (by omega) (fun _ _=>by simp)
 ·exact .gP
theorem BG(q:Int)(st:St)(c:Int):(jK q st c).st=st:=by
 unfold jK;repeat' split
 all_goals rfl
theorem sM(q:Int)(st:St)(c:Int):mj st c (ib q st c):=by
 unfold ib;split
 ·exact .oD (by omega) (fun _ _=>by simp)
 split
 ·exact .gP
 ·exact .oD (by omega) (fun _ _=>by simp)
theorem uK(q:Int)(st:St)(c:Int):mj st c (iH q st c):=by
 unfold iH;split
 ·exact .oD (by omega) (fun _ _=>by simp)
 split
 ·exact .gP
 ·exact .oD (by omega) (fun _ _=>by simp)
theorem sN(q:Int)(st:St)(c:Int)(i:Rn):((fB q st c).st.run i).length<=(st.run i).length+4:=by
 unfold fB;repeat' split
 all_goals first|(exact iB st .text i c q)|(simp;done)
theorem qD(q:Int)(st:St)(c:Int):mj st c (fB q st c):=by
 unfold fB;split
 ·exact .oD (by omega) (fun _ _=>by simp)
 split
 ·exact .gP
 ·exact uJ st _ c q c _ (by omega) (fun _ _=>by simp)
theorem Ap(q:Int)(st:St)(c:Int)(i:Rn):((fC q st c).st.run i).length<=(st.run i).length+8:=by
 unfold fC;split
 ·simp
 ·have:=sN q (st.put .text 93 (q-1)) c i;have:=iB st .text i 93 (q-1);omega
theorem pK(q:Int)(st:St)(c:Int):(fB q st c).st.names=st.names:=by
 unfold fB;repeat' split
 all_goals rfl
theorem xm(q:Int)(st:St)(c:Int):(fC q st c).st.names=st.names:=by
 unfold fC;split
 ·rfl
 ·exact pK _ _ _
theorem qE(q:Int)(st:St)(c:Int):mj st c (fC q st c):=by
 unfold fC;split
 ·exact .oD (by omega) (fun _ _=>by simp)
 ·refine(qD q (st.put .text 93 (q-1)) c).after (fun i=>?_) (by simp[fW]) (by simp[fW]) ?_ rfl
  ·have:=sN q (st.put .text 93 (q-1)) c i;have:=iB st .text i 93 (q-1);omega
  ·rw[pK];simp[fW]
theorem FJ(st:St)(i:Rn)(k:Pl)(q:Int):mj st 38 ⟨(st.clear .ref).put .ref 38 q,.go (.ref i k)⟩:=by
 refine⟨fun j=>?_,by simp[fW,St.clear,St.dV],by simp[fW,St.clear,St.dV],by simp[fW,St.clear,St.dV],fun h=>h,fun _ _ _=>?_,fun h=>by omega⟩
 ·have h1:=iB (st.clear .ref) .ref j 38 q;have h2:=kx st .ref j;show (((st.clear .ref).put .ref 38 q).run j).length<=_;omega
 ·have h1:=iB (st.clear .ref) .ref .ref 38 q;have h2:((st.clear .ref).run .ref).length=0:=by simp[St.clear,St.dV]
  show (((st.clear .ref).put .ref 38 q).run .ref).length<=_;omega
theorem rI(k:Pl)(q:Int)(st:St)(c:Int):mj st c (step k q st c):=by
 cases k with
 |between=>
  simp only[step];split
  ·exact .via (by omega) (fun _ _=>by simp) (fun _=>by simp) (by simp) (by simp) (by simp) (fun h=>h)
  split
  ·rename_i e;subst e;exact FJ st _ _ q
  split
  ·refine⟨fun i=>?_,?_,?_,?_,?_,fun _ _ e=>(by cases e),fun _ _ _ e=>(by cases e)⟩
   ·show (st.dZ.run i).length<=_;have:=kW st i;omega
   ·show st.dZ.told.length<=_;have:=kj st;omega
   ·show st.dZ.attrs.length<=_;rw[(f_ st).1];omega
   ·show st.dZ.names.length<=_;rw[(f_ st).2.1];omega
   ·show _->0<=st.dZ.quote;rw[(f_ st).2.2];exact id
  split
  ·exact .gP
  ·refine⟨fun j=>?_,by simp[fW],by simp[fW],by simp[fW],fun h=>h,fun _ _ e=>(by cases e),fun h=>?_⟩
   ·have:=iB st .text j c q;show ((st.put .text c q).run j).length<=_;omega
   ·omega
 |less=>
  simp only[step];split
  ·exact .via (by omega) (fun _ _=>by simp) (fun i=>by have:=kx st .name i;omega) (by simp[St.clear,St.dV]) (by simp[St.clear,St.dV]) (by simp[St.clear,St.dV]) (fun h=>h)
  split
  ·exact .oD (by omega) (fun _ _=>by simp)
  split
  ·exact .oD (by omega) (fun _ _=>by simp)
  ·unfold fH;split
   ·refine .via (mZ (by assumption)) (fun _ _=>by simp) (fun i=>?_) (by simp[fW,St.clear,St.dV]) (by simp[fW,St.clear,St.dV]) (by simp[fW,St.clear,St.dV]) (fun h=>h);have h1:=iB (st.clear .name) .name i c q;have h2:=kx st .name i;omega
   ·exact⟨fun i=>by have:=kx st .name i;show ((st.clear .name).run i).length<=_;omega,by simp[St.clear,St.dV],by simp[St.clear,St.dV],by simp[St.clear,St.dV],fun h=>h,fun _ _ e=>(by cases e),fun _ _ _ e=>(by cases e)⟩
 |nW=>
  simp only[step];split
  ·exact .oD (by omega) (fun _ _=>by simp)
  split
  ·exact .oD (by omega) (fun _ _=>by simp)
  ·exact .gP
 |remark=>exact sM q st c
 |dash=>
  simp only[step];split
  ·exact .oD (by omega) (fun _ _=>by simp)
  ·exact sM q st c
 |ik=>
  simp only[step];split
  ·exact .oD (mZ (by assumption)) (fun _ _=>by simp)
  ·exact .gP
 |order=>exact uK q st c
 |mark=>
  simp only[step];split
  ·exact .oD (by omega) (fun _ _=>by simp)
  ·exact uK q st c
 |gM=>exact qD q st c
 |bracket=>exact qE q st c
 |brackets=>
  simp only[step];split
  ·exact .oD (by omega) (fun _ _=>by simp)
  ·refine(qE q (st.put .text 93 (q-2)) c).after (fun i=>?_) (by simp[fW]) (by simp[fW]) ?_ rfl
   ·have:=Ap q (st.put .text 93 (q-2)) c i;have:=iB st .text i 93 (q-2);omega
   ·rw[xm];simp[fW]
 |part=>exact wL q st c
 |eD=>
  simp only[step];split
  ·unfold fH;rw[if_pos (by assumption)];refine .via (mZ (by assumption)) (fun _ _=>by simp) (fun i=>?_) (by simp[fW,St.clear,St.dV]) (by simp[fW,St.clear,St.dV]) (by simp[fW,St.clear,St.dV]) (fun h=>h);have h1:=iB (st.clear .attr) .attr i c q;have h2:=kx st .attr i;omega
  ·exact wL q st c
 |js=>
  simp only[step];split
  ·exact .gP
  ·refine(wM q {st with names:=st.names++[st.run .attr]} c).after (fun i=>?_) (by simp) (by simp) ?_ rfl
   ·rw[BG];simp
   ·rw[BG];simp
 |qm=>exact wM q st c
 |kP=>
  simp only[step];split
  ·exact .oD (rH (by assumption)) (fun _ _=>by simp)
  split
  ·exact .via (by omega) (fun _ _=>by simp) (fun _=>by simp) (by simp) (by simp) (by simp) (fun _=>by show 0<=c;omega)
  ·exact .gP
 |iw=>
  simp only[step];split
  ·rename_i e;refine⟨fun i=>?_,by simp[St.addAttr,St.clear,St.dV],by simp[St.addAttr,St.clear,St.dV],by simp[St.addAttr,St.clear,St.dV],fun h=>h,fun _ _ e=>(by cases e),fun h h'=>by omega⟩;have:=kx {st with attrs:=st.attrs++[(st.run .attr,st.run .value)]} .value i;show ((St.clear {st with attrs:=st.attrs++[(st.run .attr,st.run .value)]} .value).run i).length<=_;refine aw this ?_;simp
  split
  ·rename_i e;subst e;exact FJ st _ _ q
  split
  ·exact .gP
  ·exact uJ st _ c q c _ (by omega) (fun _ _=>by simp)
 |im=>
  simp only[step];split
  ·refine .via (by omega) (fun _ _=>by simp) (fun i=>?_) ?_ ?_ ?_ ?_
   ·have h1:=(oI st 0 (.plain .between) (by omega) (fun _ _=>by simp)).run i;have h2:=kW st.eI i;have h3:(st.eI.run i).length<=(st.run i).length:=kW st i;show (st.eI.dZ.run i).length<=_;omega
   ·have h1:st.eI.told.length<=st.told.length+2:=by show (st.dZ.told++[_]).length<=_;have:=kj st;simp;omega
    have h2:=kj st.eI;show (st.eI.dZ.told++[_]).length<=_;simp;omega
   ·show st.eI.dZ.attrs.length<=_;rw[(f_ _).1];show ([]:List (List UInt8×List UInt8)).length<=_;simp
   ·show st.eI.dZ.names.length<=_;rw[(f_ _).2.1];show ([]:List (List UInt8)).length<=_;simp
   ·show _->0<=st.eI.dZ.quote;rw[(f_ _).2.2];show _->0<=st.dZ.quote;rw[(f_ _).2.2];exact id
  ·exact .gP
 |closing=>
  simp only[step];split
  ·exact .oD (rH (by assumption)) (fun _ _=>by simp)
  split
  ·exact vN st c _ (by omega) (fun _ _=>by simp)
  ·exact .gP
theorem FK(i j:Rn)(t:ByteArray)(q:Int):∀f pos st,((fT i t q f pos st).run j).length<=(st.run j).length+4*(t.size-pos):=by
 intro f;induction f with
 |zero=>intro pos st;simp[fT]
 |succ f ih=>
  intro pos st;unfold fT;split
  ·rename_i hp;have h1:=ih (pos+(Utf8.decode t pos).2) (st.put i ((Utf8.decode t pos).1:Int) q);have h2:=iB st i j ((Utf8.decode t pos).1:Int) q;have h3:=Ch.ek t pos hp;omega
  ·omega
theorem uL(i:Rn)(t:ByteArray)(q:Int):∀f pos st,(fT i t q f pos st).told=st.told/\(fT i t q f pos st).attrs=st.attrs/\(fT i t q f pos st).names=st.names/\(fT i t q f pos st).quote=st.quote:=by
 intro f;induction f with
 |zero=>intro pos st;exact⟨rfl,rfl,rfl,rfl⟩
 |succ f ih=>
  intro pos st;unfold fT;split
  ·exact ih _ _
  ·exact⟨rfl,rfl,rfl,rfl⟩
theorem Aq(i j:Rn)(t:ByteArray)(q:Int)(hj:j≠i):∀f pos st,(fT i t q f pos st).run j=st.run j:=by
 intro f;induction f with
 |zero=>intro pos st;rfl
 |succ f ih=>
  intro pos st;unfold fT;split
  ·rw[ih];simp[St.put,St.dV,hj]
  ·rfl
def Part.extra(pt:Part)(st:St):Nat:=match pt with| .ref _ _=>16*(st.run .ref).length+120|_=>0
structure sO(n:Nat)(pt:Part)(st:St):Prop where
 run:∀i,i≠ .ref->(st.run i).length+pt.extra st<=256*n
 ref:(st.run .ref).length<=256*n
 told:st.told.length<=4*n
 attrs:st.attrs.length<=n
 names:st.names.length<=n
 quote:0<=st.quote
 sound:pt.uB
theorem sO.aa9{n:Nat}{pt:Part}{st:St}(h:sO n pt st)(hn:n<=274877906944):st.PQ:=by
 refine⟨fun i=>?_,by have:=h.told;omega,by have:=h.attrs;omega,by have:=h.names;omega⟩;by_cases hi:i=.ref
 ·subst hi;have:=h.ref;omega
 ·have:=h.run i hi;omega
theorem sO.both{n:Nat}{pt:Part}{st:St}(h:sO n pt st)(hn:n<=274877906944):∀i k,pt=.ref i k->(st.run i).length+16*(st.run .ref).length+120<=70368744177664:=by
 rintro i k rfl;have h1:=h.run i h.sound;simp only[Part.extra]at h1;omega
theorem Dk(i:Rn)(k:Pl)(q:Int)(st:St)(c:Int):∀pt,(stName i k q st c).res=.go pt->pt.uB:=by
 intro pt e;unfold stName fH at e
 repeat' split at e
 all_goals first|(cases e;simp[Part.uB];done)|(cases e;done)|exact yO k q st c pt e
theorem sO.plain{n:Nat}{pt:Part}{st:St}{o:Out}{c:Int}(h:sO n pt st)(ha:mj st c o){jE:Part}(e:o.res=.go jE)(hs:jE.uB):sO (n+1) jE o.st:=by
 have hx:jE.extra o.st<=184:=by
  cases jE with
  |ref i k=>have:=ha.ref i k e;show 16*(o.st.run .ref).length+120<=184;omega
  |plain k=>exact aB _
  |word l k=>exact aB _
  |name i k=>exact aB _
 refine⟨fun i hi=>?_,?_,?_,?_,?_,ha.quote h.quote,hs⟩
 ·have:=h.run i hi;have:=ha.run i;omega
 ·have:=h.ref;have:=ha.run .ref;omega
 ·have:=h.told;have:=ha.told;omega
 ·have:=h.attrs;have:=ha.attrs;omega
 ·have:=h.names;have:=ha.names;omega
theorem qF(i:Rn)(k:Pl)(q:Int)(st:St)(c:Int):mj st c (stName i k q st c):=by
 unfold stName;split
 ·exact Dj i k q st c
 split
 ·rename_i h;refine uJ st i c q c _ ?_ (fun _ _=>by simp);simp only[bm]at h;exact h.elim mZ IL
 ·exact rI k q st c
theorem qG(x:UInt8)(l:List UInt8)(k:Pl)(q:Int)(st:St)(c:Int):mj st c (ll x l k q st c):=by
 unfold ll;split
 ·split
  ·exact .oD (by omega) (fun _ _=>by simp)
  ·exact .oD (by omega) (fun _ _=>by simp)
 ·exact .gP
theorem sO.step{n:Nat}{pt:Part}{st:St}{q c:Int}(h:sO n pt st){jE:Part}(e:(b_ pt q st c).res=.go jE):sO (n+1) jE (b_ pt q st c).st:=by
 cases pt with
 |plain k=>exact h.plain (rI k q st c) e (yO k q st c jE e)
 |word l k=>
  cases l with
  |nil=>exact absurd rfl h.sound.1
  |cons x l=>
   refine h.plain (qG x l k q st c) e ?_;have hl:=h.sound.2;simp only[b_,ll]at e;split at e
   ·split at e
    ·cases e;trivial
    ·cases e;exact⟨by assumption,by simp at hl;omega⟩
   ·cases e
 |name i k=>exact h.plain (qF i k q st c) e (Dk i k q st c jE e)
 |ref i k=>
  have hi:=h.sound;simp only[b_,nH]at e ⊢;split at e
  ·rename_i hc;rw[if_pos hc];split at e
   ·rename_i mO;rw[if_pos mO];have hp:=fun j=>iB st .ref j 59 q;have hsm:=fW st .ref 59 q;generalize st.put .ref 59 q=fl at*
    unfold jA at e ⊢;split at e
    ·rename_i hz;rw[if_pos hz];cases e;have Te:=Bl ⟨(fl.run .ref).toArray⟩ (((⟨(fl.run .ref).toArray⟩:ByteArray).size)+1) 0 [];have hsz:(⟨(fl.run .ref).toArray⟩:ByteArray).size=(fl.run .ref).length:=by show (fl.run .ref).toArray.size=_;simp
     have TF:(Ch.j5 ⟨(fl.run .ref).toArray⟩).1.length<=4*((fl.run .ref).length+1):=by unfold Ch.j5;rw[hsz]at Te ⊢;simpa using Te
     have htz:(⟨(Ch.j5 ⟨(fl.run .ref).toArray⟩).1.toArray⟩:ByteArray).size<=4*((fl.run .ref).length+1):=by show (Ch.j5 ⟨(fl.run .ref).toArray⟩).1.toArray.size<=_;simpa using TF
     generalize (⟨(Ch.j5 ⟨(fl.run .ref).toArray⟩).1.toArray⟩:ByteArray)=t at*
     have hpl:=fun j=>FK i j t (fl.eV .ref) (t.size+1) 0 fl;have JZ:=uL i t (fl.eV .ref) (t.size+1) 0 fl;refine⟨fun j hj=>?_,?_,?_,?_,?_,?_,trivial⟩
     ·show ((fT i t (fl.eV .ref) (t.size+1) 0 fl).run j).length+0<=_;have h1:=hpl j;have h2:=hp j;have h3:=hp .ref;have h4:=h.run j hj;simp only[Part.extra]at h4;omega
     ·show ((fT i t (fl.eV .ref) (t.size+1) 0 fl).run .ref).length<=_;rw[Aq i .ref t _ (Ne.symm hi)];have h1:=h.ref;have h2:=hp .ref;omega
     ·show (fT i t (fl.eV .ref) (t.size+1) 0 fl).told.length<=_;rw[JZ.1,hsm.1];have:=h.told;omega
     ·show (fT i t (fl.eV .ref) (t.size+1) 0 fl).attrs.length<=_;rw[JZ.2.1,hsm.2.1];have:=h.attrs;omega
     ·show (fT i t (fl.eV .ref) (t.size+1) 0 fl).names.length<=_;rw[JZ.2.2.1,hsm.2.2.1];have:=h.names;omega
     ·show 0<=(fT i t (fl.eV .ref) (t.size+1) 0 fl).quote;rw[JZ.2.2.2,hsm.2.2.2];exact h.quote
    ·cases e
   ·rename_i mO;rw[if_neg mO];cases e;have hp:=fun j=>iB st .ref j c q;refine⟨fun j hj=>?_,?_,aw h.told (by omega),aw h.attrs (by omega),aw h.names (by omega),h.quote,hi⟩
    ·have h1:=h.run j hj;have h2:=hp j;have h3:=hp .ref;have h4:((st.put .ref c q).run j)=st.run j:=by simp[St.put,St.dV,hj]
     simp only[Part.extra]at h1 ⊢;rw[h4];omega
    ·have h1:=h.ref;have h3:=hp .ref;show ((st.put .ref c q).run .ref).length<=_;omega
  ·cases e
end K
end Go.Proofs.YtclgfepngpeifaaGreatDoor
namespace Go.Proofs.YtclgfepngpeifaaGreatDoor
namespace K
open Go Go.Lib Tryz
def vO(n b0 b1 b2 b3:Nat):Nat×Nat:=
 if firstT b0=240 then(b0,1)else if firstT b0=241 then(65533,1)else slowN n b0 b1 b2 b3 (firstT b0%8) (accLo (firstT b0/16)) (accHi (firstT b0/16))
theorem n9(n b0 b1 b2 b3:Nat)(hn:1<=n)(h0:b0<256)(h1:b1<256)(h2:b2<256)(h3:b3<256):decodeN n b0 b1 b2 b3=vO n b0 b1 b2 b3:=by
 unfold vO;by_cases a1:b0<128
 ·have hf:firstT b0=240:=by simp[firstT,a1]
  rw[if_pos hf];unfold decodeN
  repeat' split
  all_goals first|(exfalso;omega)|(apply Prod.ext<;>simp only<;>omega)
 by_cases a2:b0<194
 ·have hf:firstT b0=241:=by simp[firstT,a1,a2]
  rw[hf,if_neg (by omega),if_pos rfl];unfold decodeN
  repeat' split
  all_goals first|(exfalso;omega)|(apply Prod.ext<;>simp only<;>omega)
 by_cases a3:b0<224
 ·have hf:firstT b0=2:=by simp[firstT,a1,a2,a3]
  rw[hf,if_neg (by omega),if_neg (by omega)];exact(slow_C2 n b0 b1 b2 b3 hn h1 h2 h3 (by omega)).symm
 by_cases a4:b0=224
 ·have hf:firstT b0=19:=by subst a4;rfl
  rw[hf,if_neg (by omega),if_neg (by omega)];exact(slow_E0 n b0 b1 b2 b3 hn h1 h2 h3 a4).symm
 by_cases a5:b0<237
 ·have hf:firstT b0=3:=by simp[firstT,a1,a2,a3,a4,a5]
  rw[hf,if_neg (by omega),if_neg (by omega)];exact(slow_E1 n b0 b1 b2 b3 hn h1 h2 h3 (by omega)).symm
 by_cases a6:b0=237
 ·have hf:firstT b0=35:=by subst a6;rfl
  rw[hf,if_neg (by omega),if_neg (by omega)];exact(slow_ED n b0 b1 b2 b3 hn h1 h2 h3 a6).symm
 by_cases a7:b0<240
 ·have hf:firstT b0=3:=by simp[firstT,a1,a2,a3,a4,a5,a6,a7]
  rw[hf,if_neg (by omega),if_neg (by omega)];exact(slow_E1 n b0 b1 b2 b3 hn h1 h2 h3 (by omega)).symm
 by_cases a8:b0=240
 ·have hf:firstT b0=52:=by subst a8;rfl
  rw[hf,if_neg (by omega),if_neg (by omega)];exact(slow_F0 n b0 b1 b2 b3 hn h1 h2 h3 a8).symm
 by_cases a9:b0<244
 ·have hf:firstT b0=4:=by simp[firstT,a1,a2,a3,a4,a5,a6,a7,a8,a9]
  rw[hf,if_neg (by omega),if_neg (by omega)];exact(slow_F1 n b0 b1 b2 b3 hn h1 h2 h3 (by omega)).symm
 by_cases a10:b0=244
 ·have hf:firstT b0=68:=by subst a10;rfl
  rw[hf,if_neg (by omega),if_neg (by omega)];exact(slow_F4 n b0 b1 b2 b3 hn h1 h2 h3 a10).symm
 ·have hf:firstT b0=241:=by simp[firstT,a1,a2,a3,a4,a5,a6,a7,a8,a9,a10]
  rw[hf,if_neg (by omega),if_pos rfl];unfold decodeN
  repeat' split
  all_goals first|(exfalso;omega)|(apply Prod.ext<;>simp only<;>omega)
theorem Ms(b:Nat):firstT b=240\/firstT b=241\/(2<=firstT b%8/\firstT b%8<=4):=by
 unfold firstT
 repeat' split
 all_goals omega
theorem IP(n m b0 b1 b2 b3 c1 c2 c3:Nat)(hn:1<=n)(hm:n<=m)(e1:1<n->c1=b1)(e2:2<n->c2=b2)(e3:3<n->c3=b3)(hf:oC n (firstT b0) b1 b2=true):
  oC m (firstT b0) c1 c2=true/\vO m b0 c1 c2 c3=vO n b0 b1 b2 b3:=by
 simp only[oC,bm,aT,aR]at hf ⊢;have hz:=Ms b0;unfold vO slowN;generalize firstT b0=f at*
 generalize accLo (f/16)=lo at*
 generalize accHi (f/16)=hi at*
 by_cases f1:f=240
 ·rw[if_pos f1,if_pos f1];exact⟨by omega,rfl⟩
 by_cases f2:f=241
 ·rw[if_neg f1,if_pos f2,if_neg f1,if_pos f2];exact⟨by omega,rfl⟩
 rw[if_neg f1,if_neg f2,if_neg f1,if_neg f2];have hz2:2<=f%8/\f%8<=4:=by omega
 clear hz f1 f2;generalize f%8=sz at*
 rcases hf with hf|⟨h1,h2⟩|⟨h1,h2⟩
 ·refine⟨Or.inl (by omega),?_⟩;have x1:=e1 (by omega);subst x1;rw[if_neg (by omega:¬m<sz),if_neg (by omega:¬n<sz)];by_cases z2:sz<=2
  ·simp only[z2,if_true]
  ·have x2:=e2 (by omega);subst x2;by_cases z3:sz<=3
   ·simp only[z2,z3,if_true,aQ]
   ·have x3:=e3 (by omega);subst x3;rfl
 ·have x1:=e1 (by omega);subst x1;refine⟨Or.inr (Or.inl ⟨by omega,h2⟩),?_⟩;simp only[h2,if_true]
  repeat' split
  all_goals rfl
 ·have x1:=e1 (by omega);have x2:=e2 (by omega);subst x1;subst x2;refine⟨Or.inr (Or.inr ⟨by omega,h2⟩),?_⟩;by_cases z:n<sz
  ·rw[if_pos z];by_cases y:m<sz
   ·rw[if_pos y]
   ·rw[if_neg y];by_cases u:c1<lo\/hi<c1
    ·rw[if_pos u]
    ·rw[if_neg u,if_neg (by omega),if_pos h2]
  ·rw[if_neg z,if_neg (by omega)];by_cases u:c1<lo\/hi<c1
   ·rw[if_pos u,if_pos u]
   ·rw[if_neg u,if_neg u];by_cases z2:sz<=2
    ·simp only[z2,if_true]
    ·simp only[z2,aQ,h2,if_true]
theorem xE(a b:ByteArray)(k:Nat)(h:k<a.size):(a++b).get! k=a.get! k:=by
 show (a++b).data[k]! =a.data[k]!;have h':k<a.data.size:=h;rw[dc];rw[getElem!_pos a.data k h',getElem!_pos (a.data++b.data) k (by simp;omega),Array.getElem_append_left h']
theorem PY(a b:ByteArray)(h:Tk.full a=true):Tk.full (a++b)=true/\Utf8.decode (a++b) 0=Utf8.decode a 0:=by
 have h0:0<a.size:=by
  by_cases e:a.size=0
  ·simp[Tk.full,e]at h
  ·omega
 have hs:(a++b).size=a.size+b.size:=cN;unfold Tk.full at h ⊢;rw[if_neg (by omega)]at h;rw[if_neg (by omega),hs,decode_at,decode_at,hs,xE a b 0 h0];rw[n9 _ _ _ _ _ (by omega) (bA _) (bA _) (bA _) (bA _),n9 _ _ _ _ _ (by omega) (bA _) (bA _) (bA _) (bA _)];exact IP a.size (a.size+b.size) _ _ _ _ _ _ _ (by omega) (by omega) (fun x=>by rw[xE a b _ x]) (fun x=>by rw[xE a b _ x]) (fun x=>by rw[xE a b _ x]) h
end K
end Go.Proofs.YtclgfepngpeifaaGreatDoor
namespace Go.Proofs.YtclgfepngpeifaaGreatDoor
namespace K
open Go.RowKit Go.Maps Go.Lib Tryz
inductive Ret|more|over|fail(no q:Int)
structure Rd where
 s:Src
 pt:Part
 st:St
 ret:Ret
def lu:Nat->Src->Part->St->Rd
 |0,s,pt,st=>⟨s,pt,st,.more⟩
 |n+1,s,pt,st=>if s.more=true then⟨s,pt,st,.more⟩else
  match (b_ pt s.took.1.at_ st s.took.2).res with
  | .go jE=>lu n s.took.1 jE (b_ pt s.took.1.at_ st s.took.2).st
  | .stop=>⟨s.took.1,pt,(b_ pt s.took.1.at_ st s.took.2).st,.over⟩
  | .fail no q=>⟨s.took.1,pt,(b_ pt s.took.1.at_ st s.took.2).st,.fail no q⟩
def reads(s:Src)(pt:Part)(st:St):Rd:=lu (s.rest.size+1) s pt st
def Src.bare(s:Src):Src:={s with now:=.nilFunc}
theorem Mu(s:Src):s.bare.took=(s.took.1.bare,s.took.2):=by
 unfold Src.took Src.bare;simp only;repeat' split
 all_goals rfl
theorem BH(s:Src):s.bare.more=s.more:=rfl
theorem lL(pt:Part)(q:Int)(st:St)(c:Int)(h:pt.uB)(hc:c= -1\/c= -2)(hq:0<=st.quote):∀jE,(b_ pt q st c).res≠ .go jE:=by
 cases pt with
 |plain k=>exact(rI k q st c).neg hc hq
 |word l k=>
  cases l with
  |nil=>exact absurd rfl h.1
  |cons x l=>exact(qG x l k q st c).neg hc hq
 |name i k=>exact(qF i k q st c).neg hc hq
 |ref i k=>
  intro jE e;simp only[b_,nH]at e;split at e
  ·rename_i hi;have:=rz hi;omega
  ·cases e
theorem lx{s:Src}{pt jE:Part}{st:St}{q:Int}(h:pt.uB)(hq:0<=st.quote)(e:(b_ pt q st s.took.2).res=.go jE):s.took.1.rest.size<s.rest.size/\s.rest.size≠0/\Ch.fQ s.rest 0=true:=by
 have hn:=lL pt q st s.took.2 h;unfold Src.took at hn e ⊢;split
 ·rename_i h0;rw[if_pos h0]at hn e;exact absurd e (hn (Or.inl rfl) hq jE)
 ·rename_i h0;rw[if_neg h0]at hn e;split
  ·rename_i h1;have:=Ch.ek s.rest 0 (by omega);refine⟨?_,h0,h1⟩;simp;omega
  ·rename_i h1;rw[if_neg h1]at hn e;exact absurd e (hn (Or.inr rfl) hq jE)
theorem BJ:∀(n m k:Nat) (s:Src) (pt:Part) (st:St),sO k pt st->s.rest.size<n->n<=m->lu m s pt st=lu n s pt st:=by
 intro n;induction n with
 |zero=>intro m k s pt st _ h;omega
 |succ n ih=>
  intro m k s pt st hl h hm;obtain⟨m,rfl⟩:∃j,m=j+1:=⟨m-1,by omega⟩
  simp only[lu];split
  ·rfl
  ·split
   ·rename_i jE e;have hk:=lx hl.sound hl.quote e;exact ih m (k+1) _ _ _ (hl.step e) (by omega) (by omega)
   ·rfl
   ·rfl
section
variable{F F':Nat->Prop}{R:Nat}{w w' w'':World}{s s':Src}{p:Ptr}{st:St}{c:Int}{a:Addr}{pt:Part}{v:Value}
structure Gl(w:World)(a:Addr):Prop where
 tabs:Utf8Tabs 3 4 w
 tab:Ls w
 more:More w (.iface 289 (.pointer (some a)))
 et:w.cell? ⟨1,0,none⟩=some (.iface 235 (.agg #[.pointer (some ⟨6,131,none⟩)]))
def Low(F:Nat->Prop):Prop:=∀k,k<=4->¬F k
theorem Gl.size(h:Gl w a):4<w.heap.size:=rG h.tabs
theorem Gl.frame(h:Gl w a)(fr:Frame F w w')(hl:Low F):Gl w' a:=by
 have h4:=h.size;have hb:∀k,k<=4->w'.heap[k]?=w.heap[k]?:=fun k hk=>fr.block k (by omega) (hl k hk);refine⟨⟨fun c hc=>?_,fun i hi=>⟨?_,?_⟩⟩,Bn h.tab fr (hl 2 (by omega)),?_,?_⟩
 ·exact(ar (hb 3 (by omega))).trans (h.tabs.1 c hc)
 ·exact(ar (hb 4 (by omega))).trans (h.tabs.2 i hi).1
 ·exact(ar (hb 4 (by omega))).trans (h.tabs.2 i hi).2
 ·exact(ar (hb 0 (by omega))).trans h.more
 ·exact(ar (hb 1 (by omega))).trans h.et
theorem Low.grow(hl:Low F)(h4:4<w.heap.size):Low (Grow F w w'):=fun k hk h=>h.elim (hl k hk) (fun x=>by omega)
theorem Low.lt(hl:Low F)(h:F R):4<R:=by
 by_cases e:R<=4
 ·exact absurd h (hl R e)
 ·omega
theorem fZ.keep(h:fZ F R w v pt)(hk:∀k,F k->k≠R->w'.heap[k]?=w.heap[k]?)(hF:∀k,F k->F' k):fZ F' R w' v pt:=by
 have bx:∀{b x t},pF F R w b x t->pF F' R w' b x t:=fun h=>⟨(hk _ h.2.1 h.2.2).trans h.1,hF _ h.2.1,h.2.2⟩
 cases pt with
 |plain k=>exact h
 |word l k=>obtain⟨b1,b2,e,x1,x2⟩:=h;exact⟨b1,b2,e,bx x1,bx x2⟩
 |name i k=>obtain⟨b1,b2,b3,e,x1,x2,x3⟩:=h;exact⟨b1,b2,b3,e,bx x1,bx x2,bx x3⟩
 |ref i k=>obtain⟨b1,b2,b3,e,x1,x2,x3⟩:=h;exact⟨b1,b2,b3,e,bx x1,bx x2,bx x3⟩
def RG(F:Nat->Prop)(R:Nat)(w:World)(s:Src)(p:Ptr)(st:St)(w':World):Prop:=fF (Grow F w w') R w' s p st/\Frame F w w'
theorem RG.refl(h:fF F R w s p st):RG F R w s p st w:=⟨h.Pg,Frame.refl _ _⟩
theorem RF.rg(h:RF F R w s p st w'):RG F R w s p st w':=⟨h.1,h.2.1⟩
theorem RG.below(h:RG F R w s p st w')(hb:Z5 w' w''):RG F R w s p st w'':=
 ⟨(h.1.below hb).join h.2.size hb.size,h.2.trans (Frame.below hb)⟩
theorem RG.on{p':Ptr}{ia:St}(h:RG F R w s p st w')(k:RG (Grow F w w') R w' s' p' ia w''):RG F R w s' p' ia w'':=
 ⟨k.1.join h.2.size k.2.size,h.2.trans k.2⟩
theorem RG.iff(h:RG F R w s p st w')(hF:∀k,F k↔F' k):RG F' R w s p st w':=by refine⟨h.1.mono (fun k hk=>hk.elim (fun x=>Or.inl ((hF k).1 x)) Or.inr) (fun k hk=>h.1.lt k (hk.elim (fun x=>Or.inl ((hF k).2 x)) Or.inr)),⟨h.2.os,h.2.tape,h.2.output,h.2.size,fun k hk hf=>h.2.block k hk (fun x=>hf ((hF k).1 x))⟩⟩
theorem RG.set(h:RG F R w s p st w')(i:Nat)(v:Value)(hc:(cellsOf s p st).setIfInBounds i v=cellsOf s' p st):RG F R w s' p st (w'.setCell ⟨R,i,none⟩ v):=by
 have hsz:(w'.setCell ⟨R,i,none⟩ v).heap.size=w'.heap.size:=by simp[World.setCell]
 have r:=h.1.scalar (s':=s') (ia:=st) i v hc (fun o=>o);have hG:∀k,Grow F w w' k->Grow F w (w'.setCell ⟨R,i,none⟩ v) k:=fun k hk=>by unfold Grow at*;rw[hsz];exact hk
 have ZF:∀k,Grow F w (w'.setCell ⟨R,i,none⟩ v) k->Grow F w w' k:=fun k hk=>by unfold Grow at*;rw[hsz]at hk;exact hk
 refine⟨r.mono hG (fun k hk=>r.lt k (ZF k hk)),⟨h.2.os,h.2.tape,h.2.output,by rw[hsz];exact h.2.size,fun k hk hf=>?_⟩⟩;rw[ak _ _ _ _ ?_]
 ·exact h.2.block k hk hf
 ·intro e;have e':k=R:=e;subst e';rcases h.1.jz with x|x
  ·exact hf x
  ·omega
theorem fZ.grow(h:fZ F R w' v pt)(_hs:w'.heap.size<=w''.heap.size)(hk:∀k,F k->k≠R->w''.heap[k]?=w'.heap[k]?):fZ (Grow F w' w'') R w'' v pt:=
 h.keep hk (fun _ x=>Or.inl x)
theorem fZ.func(h:fZ F R w v pt):∃f cs,v=.func (.func f) #[] cs:=by
 cases pt with
 |plain k=>exact⟨_,_,h⟩
 |word l k=>obtain⟨b1,b2,e,_⟩:=h;exact⟨_,_,e⟩
 |name i k=>obtain⟨b1,b2,b3,e,_⟩:=h;exact⟨_,_,e⟩
 |ref i k=>obtain⟨b1,b2,b3,e,_⟩:=h;exact⟨_,_,e⟩
def Src.Ok(s:Src):Prop:=0<=s.next/\s.next+s.rest.size<=1099511627776
def o_(F:Nat->Prop)(R:Nat)(w:World)(a:Addr)(m:Rd)(e:Ending)(w':World):Prop:=
 ∃v p',RG F R w {m.s with now:=v} p' m.st w'/\
  match m.ret with
  | .more=>e=.returned (.iface 289 (.pointer (some a)))/\fZ (Grow F w w') R w' v m.pt
  | .over=>e=.returned .nilIface/\v=.nilFunc
  | .fail no q=>e=.returned (mS no q)/\v=.nilFunc
def RI(F:Nat->Prop)(R:Nat)(w:World)(m:Rd)(N:Nat)(wr:World):Prop:=
 ∃(s':Src) (p':Ptr) (ia:St),RG F R w s' p' ia wr/\
  ((∃pt n,fZ (Grow F w wr) R wr s'.now pt/\sO n pt ia/\n+s'.rest.size<=N/\s'.Ok/\reads s'.bare pt ia=m)\/
   (s'.now=.nilFunc/\m.s=s'.bare/\m.st=ia/\m.ret=.over))
def rJ(R:Nat)(w:World):Nat:=
 (match w.cell? ⟨R,0,none⟩with|some (.string b)=>2*b.size|_=>0)+(match w.cell? ⟨R,4,none⟩with|some .nilFunc=>0|_=>1)
theorem ze(h:fF F R w s p st){f:Nat}{cs:Array Value}(e:s.now=.func (.func f) #[] cs):rJ R w=2*s.rest.size+1:=by
 have c0:w.cell? ⟨R,0,none⟩=some (.string s.rest):=h.cell 0 rfl;have c4:w.cell? ⟨R,4,none⟩=some s.now:=h.cell 4 rfl;simp only[rJ,c0,c4,e]
theorem FL(h:fF F R w s p st)(e:s.now=.nilFunc):rJ R w=2*s.rest.size:=by
 have c0:w.cell? ⟨R,0,none⟩=some (.string s.rest):=h.cell 0 rfl;have c4:w.cell? ⟨R,4,none⟩=some s.now:=h.cell 4 rfl;simp only[rJ,c0,c4,e,bH]
theorem FM(s:Src):s9 s.took.2:=by
 unfold Src.took;split
 ·exact Or.inr (Or.inl rfl)
 ·split
  ·rename_i h;simp only[Ch.fQ,aT]at h;exact Or.inl h.1
  ·exact Or.inr (Or.inr rfl)
theorem xF(s:Src):s.took.1.at_=s.next:=by
 unfold Src.took;repeat' split
 all_goals rfl
theorem Kn(h:s.Ok):s.took.1.Ok/\s.took.1.rest.size<=s.rest.size:=by
 unfold Src.took Src.Ok at*
 split
 ·exact⟨h,au _⟩
 ·split
  ·have:=Ch.ek s.rest 0 (by omega);simp only[bZ];omega
  ·exact⟨h,au _⟩
theorem zf(s:Src):s.took.1.now=s.now:=by
 unfold Src.took;repeat' split
 all_goals rfl
theorem IQ(h:s.more=true):reads s.bare pt st=⟨s.bare,pt,st,.more⟩:=by unfold reads lu;rw[BH,if_pos h]
theorem tC{n:Nat}(hl:sO n pt st)(h:s.more=false):
  reads s.bare pt st=match (b_ pt s.next st s.took.2).res with
   | .go jE=>reads s.took.1.bare jE (b_ pt s.next st s.took.2).st
   | .stop=>⟨s.took.1.bare,pt,(b_ pt s.next st s.took.2).st,.over⟩
   | .fail no q=>⟨s.took.1.bare,pt,(b_ pt s.next st s.took.2).st,.fail no q⟩:=by
 have ha:s.took.1.bare.at_=s.next:=xF s
 conv=>lhs;unfold reads
 simp only[lu,BH,h,aA,aQ,Mu,ha];generalize he:(b_ pt s.next st s.took.2).res=r;cases r with
 |go jE=>
  have hk:=lx hl.sound hl.quote he;exact BJ (s.took.1.rest.size+1) s.rest.size (n+1) s.took.1.bare _ _ (hl.step he) (Nat.lt_succ_self _) (by omega)
 |stop=>rfl
 |fail no q=>rfl
end
section
variable{F F':Nat->Prop}{R:Nat}{w w' w'' wr:World}{s s':Src}{p:Ptr}{st:St}{c:Int}{a:Addr}{pt:Part}{v:Value}{m:Rd}{N n:Nat}
structure Head(F:Nat->Prop)(R:Nat)(w:World)(m:Rd)(N:Nat)(wr:World)(s':Src)(p':Ptr)(ia:St)(pt:Part)(n:Nat):Prop where
 rg:RG F R w s' p' ia wr
 part:fZ (Grow F w wr) R wr s'.now pt
 Ko:sO n pt ia
 le:n+s'.rest.size<=N
 ok:s'.Ok
 eq:reads s'.bare pt ia=m
theorem Head.more(h:Head F R w m N wr s' p st pt n)(hm:s'.more=true)(hb:Z5 wr w'):o_ F R w a m (.returned (.iface 289 (.pointer (some a)))) w':=by
 have e:=(IQ hm).symm.trans h.eq;subst e;refine⟨s'.now,p,h.rg.below hb,rfl,?_⟩;exact h.part.keep (fun k hk _=>hb.block k (h.rg.1.lt k hk)) (fun k hk=>hk.elim Or.inl (fun x=>Or.inr ⟨x.1,aq x.2 hb.size⟩))
theorem Head.call(h:Head F R w m N wr s' p st pt n)(gl:Gl w a)(lo:Low F)(hN:N<=274877906944)(hr:RF (Grow F w wr) R wr s'.took.1 p st w'):
  ∃f cs,s'.now=.func (.func f) #[] cs/\(∀args w,(callFunc f args).run prog w=.ok (.enter f args) w)/\
   Z4 f (#[Z8 R,.int .i32 s'.took.2]++cs) w' (dW (Grow (Grow F w wr) wr w') R w' s'.took.1 (b_ pt s'.next st s'.took.2)):=by
 have hl:=h.rg.1.lt;have pa:fZ (Grow (Grow F w wr) wr w') R w' s'.took.1.now pt:=by
  rw[zf];exact h.part.grow hr.2.1.size (fun k hk hR=>hr.2.2 k (hl k hk) hR)
 have Mv:=gl.frame h.rg.2 lo;have TM:Low (Grow F w wr):=lo.grow gl.size;have gl2:=Mv.frame hr.2.1 TM;have lo2:Low (Grow (Grow F w wr) wr w'):=TM.grow Mv.size;have ht:=h.Ko.aa9 (by have:=h.le;omega);have gZ:=h.ok;have hc:=L6 pt _ hr.1 pa h.Ko.sound (FM s') ht (h.Ko.both (by have:=h.le;omega)) (by unfold Src.Fits;rw[xF];unfold Src.Ok at gZ;omega) gl2.tab (lo2 2 (by omega));rw[zf,xF]at hc;exact hc
theorem Head.go{p2:Ptr}{w2:World}{jE:Part}(h:Head F R w m N wr s' p st pt n)(hm:s'.more=false)(hr:RF (Grow F w wr) R wr s'.took.1 p st w')
  (he:(b_ pt s'.next st s'.took.2).res=.go jE) (hp:RG (Grow (Grow F w wr) wr w') R w' s'.took.1 p2 (b_ pt s'.next st s'.took.2).st w2) (hv:fZ (Grow (Grow (Grow F w wr) wr w') w' w2) R w2 v jE):
  Head F R w m N (w2.setCell ⟨R,4,none⟩ v) {s'.took.1 with now:=v} p2 (b_ pt s'.next st s'.took.2).st jE (n+1)/\s'.took.1.rest.size<s'.rest.size:=by
 have hk:=lx h.Ko.sound h.Ko.quote he;have ho:=Kn h.ok;have r2:RG F R w s'.took.1 p2 (b_ pt s'.next st s'.took.2).st w2:=(h.rg.on hr.rg).on (hp.iff (fun k=>Grow.trans h.rg.2.size hr.2.1.size k));refine⟨⟨r2.set (s':={s'.took.1 with now:=v}) 4 v rfl,?_,h.Ko.step he,?_,ho.1,?_⟩,hk.1⟩
 ·refine hv.keep (fun k _ hR=>ak _ _ _ _ hR) (fun k hk=>?_);have hsz:(w2.setCell ⟨R,4,none⟩ v).heap.size=w2.heap.size:=by simp[World.setCell]
  unfold Grow at hk ⊢;rw[hsz];have:=h.rg.2.size;have:=hr.2.1.size;have:=hp.2.size;rcases hk with((hk|hk)|hk)|hk
  ·exact Or.inl hk
  ·exact Or.inr (by omega)
  ·exact Or.inr (by omega)
  ·exact Or.inr (by omega)
 ·have:=h.le;show n+1+s'.took.1.rest.size<=N;omega
 ·rw[<-h.eq,tC h.Ko hm,he];rfl
theorem Head.stop{p2:Ptr}{w2:World}(h:Head F R w m N wr s' p st pt n)(hm:s'.more=false)(hr:RF (Grow F w wr) R wr s'.took.1 p st w')
  (he:(b_ pt s'.next st s'.took.2).res=.stop) (hp:RG (Grow (Grow F w wr) wr w') R w' s'.took.1 p2 (b_ pt s'.next st s'.took.2).st w2):
  RI F R w m N (w2.setCell ⟨R,4,none⟩ .nilFunc)/\rJ R (w2.setCell ⟨R,4,none⟩ .nilFunc)<2*s'.rest.size+1:=by
 have r2:RG F R w s'.took.1 p2 (b_ pt s'.next st s'.took.2).st w2:=(h.rg.on hr.rg).on (hp.iff (fun k=>Grow.trans h.rg.2.size hr.2.1.size k));have r3:=r2.set (s':={s'.took.1 with now:=.nilFunc}) 4 .nilFunc rfl;have ho:=Kn h.ok;have e:=h.eq;rw[tC h.Ko hm,he]at e;subst e;refine⟨⟨_,_,_,r3,Or.inr ⟨rfl,rfl,rfl,rfl⟩⟩,?_⟩;rw[FL r3.1 rfl];show 2*s'.took.1.rest.size<_;omega
theorem Head.fail{p2:Ptr}{w2:World}{no q:Int}(h:Head F R w m N wr s' p st pt n)(hm:s'.more=false)(hr:RF (Grow F w wr) R wr s'.took.1 p st w')
  (he:(b_ pt s'.next st s'.took.2).res=.fail no q) (hp:RG (Grow (Grow F w wr) wr w') R w' s'.took.1 p2 (b_ pt s'.next st s'.took.2).st w2):
  o_ F R w a m (.returned (mS no q)) (w2.setCell ⟨R,4,none⟩ .nilFunc):=by
 have r2:RG F R w s'.took.1 p2 (b_ pt s'.next st s'.took.2).st w2:=(h.rg.on hr.rg).on (hp.iff (fun k=>Grow.trans h.rg.2.size hr.2.1.size k));have r3:=r2.set (s':={s'.took.1 with now:=.nilFunc}) 4 .nilFunc rfl;have e:=h.eq;rw[tC h.Ko hm,he]at e;subst e;exact⟨.nilFunc,p2,r3,rfl,rfl⟩
theorem RI.over(hg:RG F R w s' p st wr)(h1:s'.now=.nilFunc)(h2:m.s=s'.bare)(h3:m.st=st)(h4:m.ret=.over):o_ F R w a m (.returned .nilIface) wr:=by
 obtain⟨r0,n0,a0,e0,nw,no0,f0,cl0⟩:=s';simp only at h1;subst h1;obtain⟨ms,mp,mst,mr⟩:=m;cases h2;cases h3;cases h4;exact⟨.nilFunc,p,hg,rfl,rfl⟩
theorem WK(f:Nat)(cs:Array Value)(w:World):(binOp .neq 100 (.func (.func f) #[] cs) .nilFunc).run prog w=.ok (.bool true) w:=by kernel_rfl
theorem TN(w:World):(binOp .neq 100 .nilFunc .nilFunc).run prog w=.ok (.bool false) w:=by kernel_rfl
theorem TP(h:fF F R w s p st)(Fu:fZ F R w s.now pt)(hl:sO n pt st)(gl:Gl w a)(lo:Low F)(hn:n+s.rest.size<=N)(hN:N<=274877906944)(gZ:s.Ok):
  Z4 65 #[Z8 R] w (o_ F R w a (reads s.bare pt st)):=by
 have h0:RI F R w (reads s.bare pt st) N w:=⟨s,p,st,RG.refl h,Or.inl ⟨pt,n,Fu.grow (au _) (fun _ _ _=>rfl),hl,hn,gZ,rfl⟩⟩
 generalize reads s.bare pt st=m at*
 have H0:=a_ h0;have GL:=a_ gl;have LO:=a_ lo;have hR4:=lo.lt h.jz;clear h Fu hl gl lo hn gZ h0;have hnf:=WK;have D6:=TN;go_enter func65,ntmps65;go_wp2;go_loopw [] (fun wr=>RI F R w m N wr) (fun wr=>rJ R wr)
 case atStart=>exact H0.out
 case round=>
  obtain⟨s',p',ia,rg,hc⟩:=hrel;rcases hc with⟨jE,n',Sb,hl',hle,PZ,heq⟩|⟨hno,hs,hst,hov⟩
  ·have hd:Head F R w m N wr s' p' ia jE n':=⟨rg,Sb,hl',hle,PZ,heq⟩
   obtain⟨f,cs,hf⟩:=Sb.func;have c4:wr.cell? ⟨R,4,none⟩=some s'.now:=rg.1.cell 4 rfl;have Mf:=ze rg.1 hf;rw[hf]at c4;have Mv:=GL.out.frame rg.2 LO.out;by_cases hm:s'.more=true
   ·have vz:=Mn rg.1 Mv.tabs a Mv.more hm;have HD:=a_ hd;clear hd rg Sb hl' heq hle PZ hf Mf Mv;go_wp2_with(go_at_call 116;refine vz.mono ?_;rintro e w1 ⟨rfl,b1⟩);go_ret;exact HD.out.more hm b1
   ·have tK:s'.more=false:=by simpa using hm
    have vz:=TL rg.1 Mv.tabs hR4 (by unfold Src.Ok at PZ;omega) (by unfold Src.Ok at PZ;omega) tK;have zN:=fun w1 (x:RF (Grow F w wr) R wr s'.took.1 p' ia w1)=>hd.call GL.out LO.out hN x;have HD:=a_ hd;have Yj:=a_ Mf;have HF:=a_ hf;have GM:=a_ zN;have P0:=zf s';rw[hf]at P0;clear hd rg Sb hl' heq hle PZ hf Mf Mv zN hm;unfold xD at vz;obtain⟨c,hc⟩:∃c,c=s'.took.2:=⟨_,rfl⟩
    have HC:=a_ hc;rw[<-hc]at vz GM;clear hc;go_wp2_with(go_at_call 116;refine vz.mono ?_;rintro e w1 ⟨rfl,rf1⟩;have c4':w1.cell? ⟨R,4,none⟩=some (.func (.func f) #[] cs):=by(rw[<-P0];exact rf1.1.cell 4 rfl));obtain⟨f',cs',hf',hen,eX⟩:=GM.out _ rf1;rw[HF.out]at hf';simp only[Value.func.injEq,Fn.func.injEq,dy]at hf';obtain⟨rfl,rfl⟩:=hf';rw[hen];go_wp2_with fail;refine eX.mono ?_;rintro e w2 ⟨p2,r2,lC,hP⟩;have rg2:RG (Grow (Grow F w wr) wr w1) R w1 s'.took.1 p2 (b_ jE s'.next ia c).st w2:=⟨r2,lC⟩
    have d4:w2.cell? ⟨R,4,none⟩=some (.func (.func f) #[] cs):=by rw[<-P0];exact r2.cell 4 rfl
    have f4:=r2.free 4;have RF1:=a_ rf1;have RG2:=a_ rg2;clear rf1 rg2 r2 lC GM vz eX c4' c4;generalize hres:(b_ jE s'.next ia c).res=res at hP;cases res with
    |go pt2=>
     obtain⟨v',rfl,hv'⟩:=hP;obtain⟨f2,GY,rfl⟩:=hv'.func;have ZS:=qw w2 ⟨R,4,none⟩ _ (.func (.func f2) #[] GY) rfl d4 f4;have E:=a_ (HD.out.go tK RF1.out (HC.out.symm▸hres) (HC.out.symm▸RG2.out) hv');clear hv';go_wp2
     go_roundw
     case rel=>
      obtain⟨G4,hlt⟩:=E.out;exact⟨_,_,_,G4.rg,Or.inl ⟨pt2,n'+1,G4.part,G4.Ko,G4.le,G4.ok,G4.eq⟩⟩
     case measure=>
      obtain⟨G4,hlt⟩:=E.out;rw[ze G4.rg.1 rfl,Yj.out];show 2*s'.took.1.rest.size+1<_;omega
    |stop=>
     simp only at hP;subst hP;have ZS:=qw w2 ⟨R,4,none⟩ _ .nilFunc rfl d4 f4;have E:=a_ (HD.out.stop tK RF1.out (HC.out.symm▸hres) (HC.out.symm▸RG2.out));go_wp2
     go_roundw
     case rel=>exact E.out.1
     case measure=>
      rw[Yj.out];exact E.out.2
    |fail no q=>
     simp only at hP;subst hP;have ZS:=qw w2 ⟨R,4,none⟩ _ .nilFunc rfl d4 f4;have E:=a_ (HD.out.fail (a:=a) tK RF1.out (HC.out.symm▸hres) (HC.out.symm▸RG2.out));unfold mS at*
     go_wp2;go_ret;exact E.out
  ·have c4:wr.cell? ⟨R,4,none⟩=some s'.now:=rg.1.cell 4 rfl;rw[hno]at c4;have E:=a_ (RI.over (a:=a) rg hno hs hst hov);clear rg hs hst hov;go_wp2;go_ret;exact E.out
end
end K
end Go.Proofs.YtclgfepngpeifaaGreatDoor
namespace Go.Proofs
open Go.Shelf
def Tryz.lays316_ren:Go.Shelf.Ren:=⟨fun|316=>163|n=>n,fun|0=>0|3=>3|4=>4|5=>5|9=>9|37=>101|127=>173|n=>n,fun|n=>n⟩
theorem Tryz.lays316:Go.Proofs.LaysM.n316 Tryz.prog Tryz.lays316_ren:={
 mixed:=by kernel_rfl
 f316:=Tryz.func163.trans (aL some (by kernel_rfl))
 t0:=Tryz.underlying0
 a0:=Tryz.isAgg0
 z0:=Tryz.sizeOf0
 v0:=Tryz.zeroValue0
 i0:=by kernel_rfl
 t3:=Tryz.underlying3
 a3:=Tryz.isAgg3
 z3:=Tryz.sizeOf3
 v3:=Tryz.zeroValue3
 i3:=by kernel_rfl
 t4:=Tryz.underlying4
 a4:=Tryz.isAgg4
 z4:=Tryz.sizeOf4
 v4:=Tryz.zeroValue4
 i4:=by kernel_rfl
 t5:=Tryz.underlying5
 a5:=Tryz.isAgg5
 z5:=Tryz.sizeOf5
 v5:=Tryz.zeroValue5
 i5:=by kernel_rfl
 t9:=Tryz.underlying9
 a9:=Tryz.isAgg9
 z9:=Tryz.sizeOf9
 v9:=Tryz.zeroValue9
 i9:=by kernel_rfl
 t37:=Tryz.underlying101
 a37:=Tryz.isAgg101
 z37:=Tryz.sizeOf101
 v37:=Tryz.zeroValue101
 i37:=by kernel_rfl
 t127:=Tryz.underlying173
 a127:=Tryz.isAgg173
 z127:=Tryz.sizeOf173
 v127:=Tryz.zeroValue173
 i127:=by kernel_rfl}
end Go.Proofs
namespace Go.Proofs.YtclgfepngpeifaaGreatDoor
namespace K
open Go.RowKit Tryz
theorem Mw(s:ByteArray)(w:World)(hlim:s.size<=281474976710656):
  Z4 119 #[.string s] w (Z7 (.string s) w):=by
 have hc:=Any.stringslite_Clone lays316 s w hlim;go_enter func119,ntmps119;go_wp2_with(go_at_call 163;refine hc.mono ?_;rintro e w1 ⟨rfl,b1⟩);go_ret;exact⟨rfl,b1⟩
end K
end Go.Proofs.YtclgfepngpeifaaGreatDoor
