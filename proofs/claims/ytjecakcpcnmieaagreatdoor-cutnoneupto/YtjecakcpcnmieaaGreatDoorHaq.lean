import Derived.Test.YtjecakcpcnmieaaGreatDoorHA
import Derived.Lib.DecodeN
import Derived.Shelf.Strconv.Clone
import Derived.Test.YtjecakcpcnmieaaGreatDoorProg
import Derived.WalkKit
import Derived.Outline
import Derived.Test.YtjecakcpcnmieaaGreatDoorHaj
import Derived.Test.YtjecakcpcnmieaaGreatDoorHao
import Derived.Test.YtjecakcpcnmieaaGreatDoorHai
set_option linter.unusedVariables false
set_option linter.unusedSimpArgs false
set_option maxHeartbeats 32000000
set_option maxRecDepth 100000
namespace Go.Proofs.YtjecakcpcnmieaaGreatDoor
namespace K
open Go.RowKit Go.Maps Go.Lib Tryz
theorem J5(s:ByteArray)(f lo hi a:Nat)(hf:(f=52/\a=3)\/(f=4/\a=0)\/(f=68/\a=4))(w:World)(hn:s.size=3)(x0 x1 x2:UInt8)(hs0:s[0]'(by omega)=x0)(hs1:s[1]'(by omega)=x1)(hs2:s[2]'(by omega)=x2)
  (hc0:w.cell? ⟨3,x0.toNat,none⟩=some (.int .u8 f)) (ha0:w.cell? ⟨4,2*a,none⟩=some (.int .u8 lo)) (ha1:w.cell? ⟨4,2*a+1,none⟩=some (.int .u8 hi)) (adI:4<w.heap.size):
  Z4 165 #[.string s] w (NE w (decide (x1.toNat<lo)||decide (hi<x1.toNat)||(decide (x2.toNat<128)||decide (191<x2.toNat)))):=by
 have l0:=x0.toNat_lt;have l1:=x1.toNat_lt;have l2:=x2.toNat_lt;have hz0:(0:Int)<(s.size:Int):=by omega
 have hz1:(1:Int)<(s.size:Int):=by omega
 have hz2:(2:Int)<(s.size:Int):=by omega
 by_cases hl:x1.toNat<lo
 ·have e1:(x1.toNat:Int)<(lo:Int):=by omega
  rw[show (decide (x1.toNat<lo)||decide (hi<x1.toNat)||(decide (x2.toNat<128)||decide (191<x2.toNat)))=true by simp[hl]];rcases hf with⟨rfl,rfl⟩|⟨rfl,rfl⟩|⟨rfl,rfl⟩;all_goals
   simp only[Nat.reduceMul,Nat.reduceAdd]at ha0 ha1;go_enter func165,ntmps165;go_wp2_with fail;go_quiet(fail);go_wp2;go_ret;exact⟨rfl,(below_drewN ((Below.refl _ w).alloc (ah _) _) _)⟩
 ·have e1:¬((x1.toNat:Int)<(lo:Int)):=by omega
  have e1':decide ((x1.toNat:Int)<(lo:Int))=false:=by simpa using e1
  by_cases hh:hi<x1.toNat
  ·have e2:(hi:Int)<(x1.toNat:Int):=by omega
   rw[show (decide (x1.toNat<lo)||decide (hi<x1.toNat)||(decide (x2.toNat<128)||decide (191<x2.toNat)))=true by simp[hh]];rcases hf with⟨rfl,rfl⟩|⟨rfl,rfl⟩|⟨rfl,rfl⟩;all_goals
    simp only[Nat.reduceMul,Nat.reduceAdd]at ha0 ha1;go_enter func165,ntmps165;go_wp2_with fail;go_quiet(fail);go_wp2;go_ret;exact⟨rfl,(below_drewN ((Below.refl _ w).alloc (ah _) _) _)⟩
  ·have e2:¬((hi:Int)<(x1.toNat:Int)):=by omega
   have e2':decide ((hi:Int)<(x1.toNat:Int))=false:=by simpa using e2
   by_cases hm:x2.toNat<128
   ·have e3:(x2.toNat:Int)<128:=by omega
    rw[show (decide (x1.toNat<lo)||decide (hi<x1.toNat)||(decide (x2.toNat<128)||decide (191<x2.toNat)))=true by simp[hm]];rcases hf with⟨rfl,rfl⟩|⟨rfl,rfl⟩|⟨rfl,rfl⟩;all_goals
     simp only[Nat.reduceMul,Nat.reduceAdd]at ha0 ha1;go_enter func165,ntmps165;go_wp2_with fail;go_quiet(fail);go_wp2;go_ret;exact⟨rfl,(below_drewN ((Below.refl _ w).alloc (ah _) _) _)⟩
   ·have e3:¬((x2.toNat:Int)<128):=by omega
    by_cases hq:191<x2.toNat
    ·have e4:(191:Int)<(x2.toNat:Int):=by omega
     rw[show (decide (x1.toNat<lo)||decide (hi<x1.toNat)||(decide (x2.toNat<128)||decide (191<x2.toNat)))=true by simp[hq]];rcases hf with⟨rfl,rfl⟩|⟨rfl,rfl⟩|⟨rfl,rfl⟩;all_goals
      simp only[Nat.reduceMul,Nat.reduceAdd]at ha0 ha1;go_enter func165,ntmps165;go_wp2_with fail;go_quiet(fail);go_wp2;go_ret;exact⟨rfl,(below_drewN ((Below.refl _ w).alloc (ah _) _) _)⟩
    ·have e4:¬((191:Int)<(x2.toNat:Int)):=by omega
     rw[show (decide (x1.toNat<lo)||decide (hi<x1.toNat)||(decide (x2.toNat<128)||decide (191<x2.toNat)))=false by simp[hl,hh,hm,hq]];rcases hf with⟨rfl,rfl⟩|⟨rfl,rfl⟩|⟨rfl,rfl⟩;all_goals
      simp only[Nat.reduceMul,Nat.reduceAdd]at ha0 ha1;go_enter func165,ntmps165;go_wp2_with fail;go_quiet(fail);go_wp2;go_ret;exact⟨rfl,(below_drewN ((Below.refl _ w).alloc (ah _) _) _)⟩
theorem SB(s:ByteArray)(f:Nat)(hf:f=240\/f=241\/f=2\/f=19\/f=3\/f=35\/f=52\/f=4\/f=68)(w:World)(hn:0<s.size)(hfn:f%8<=s.size)(x0:UInt8)(hs0:s[0]'hn=x0)
  (hc0:w.cell? ⟨3,x0.toNat,none⟩=some (.int .u8 f)):
  Z4 165 #[.string s] w (NE w true):=by
 have l0:=x0.toNat_lt;have hz0:(0:Int)<(s.size:Int):=by omega
 have hz:((s.size:Int)==0)=false:=by
  have:(s.size:Int)≠0:=by omega
  simpa using this
 rcases hf with rfl|rfl|rfl|rfl|rfl|rfl|rfl|rfl|rfl;all_goals
  simp only[Nat.reduceMod]at hfn;go_enter func165,ntmps165;go_wp2;go_ret;exact⟨rfl,Below.refl _ _⟩
theorem Oc(s:ByteArray)(w:World)(hn:s.size=0):Z4 165 #[.string s] w (NE w false):=by
 go_enter func165,ntmps165;go_wp2;go_ret;exact⟨rfl,Below.refl _ _⟩
def Tk.full(t:ByteArray):Bool:=if t.size=0 then false else pL t.size (firstT (t.get! 0).toNat) (t.get! 1).toNat (t.get! 2).toNat
theorem sS{w:World}(hT:Utf8Tabs 3 4 w):4<w.heap.size:=by
 have h:=(hT.2 0 (by omega)).1;exact bE w _ h
theorem GD(t:ByteArray)(w:World)(hT:Utf8Tabs 3 4 w):Z4 165 #[.string t] w (NE w (Tk.full t)):=by
 have h34:=sS hT;unfold Tk.full;by_cases h0:t.size=0
 ·rw[if_pos h0];exact Oc t w h0
 rw[if_neg h0];have hs0:t[0]'(by omega)=t.get! 0:=(Utf8W.get!_of_lt t 0 (by omega)).symm;have l0:=(t.get! 0).toNat_lt;have hc0:=hT.1 (t.get! 0).toNat (by omega);have hfc:=firstT_cases (t.get! 0).toNat;generalize firstT (t.get! 0).toNat=f at*
 by_cases hb:f%8<=t.size
 ·rw[show pL t.size f (t.get! 1).toNat (t.get! 2).toNat=true by simp[pL,hb]];exact SB t f hfc w (by omega) hb _ hs0 hc0
 have ha:=hT.2 (f/16) (by rcases hfc with h|h|h|h|h|h|h|h|h<;>subst h<;>decide);by_cases h1:t.size=1
 ·rw[show pL t.size f (t.get! 1).toNat (t.get! 2).toNat=false by
   rw[h1]at hb ⊢;simp only[pL,dC,Bool.and_eq_false_iff,cW];exact⟨hb,Or.inl (by omega),Or.inl (by omega)⟩]
  exact RH t f _ _ (f/16) (by rcases hfc with h|h|h|h|h|h|h|h|h<;>subst h<;>first|omega|(simp at hb;omega)|simp) w h1 _ hs0 hc0 ha.1 ha.2 h34
 have hs1:t[1]'(by omega)=t.get! 1:=(Utf8W.get!_of_lt t 1 (by omega)).symm;by_cases h2:t.size=2
 ·rw[show pL t.size f (t.get! 1).toNat (t.get! 2).toNat=(decide ((t.get! 1).toNat<accLo (f/16))||decide (accHi (f/16)<(t.get! 1).toNat)) by
   rw[h2]at hb ⊢;simp[pL,hb]]
  exact RJ t f _ _ (f/16) (by rcases hfc with h|h|h|h|h|h|h|h|h<;>subst h<;>first|omega|(simp at hb;omega)|simp) w h2 _ _ hs0 hs1 hc0 ha.1 ha.2 h34
 have h3:t.size=3:=by rcases hfc with h|h|h|h|h|h|h|h|h<;>subst h<;>simp at hb<;>omega
 have hs2:t[2]'(by omega)=t.get! 2:=(Utf8W.get!_of_lt t 2 (by omega)).symm;rw[show pL t.size f (t.get! 1).toNat (t.get! 2).toNat=(decide ((t.get! 1).toNat<accLo (f/16))||decide (accHi (f/16)<(t.get! 1).toNat)||(decide ((t.get! 2).toNat<128)||decide (191<(t.get! 2).toNat))) by
                                                                              rw[h3]at hb ⊢;simp[pL,hb]]
 exact J5 t f _ _ (f/16) (by rcases hfc with h|h|h|h|h|h|h|h|h<;>subst h<;>first|omega|(simp at hb;omega)|simp) w h3 _ _ _ hs0 hs1 hs2 hc0 ha.1 ha.2 h34
end K
end Go.Proofs.YtjecakcpcnmieaaGreatDoor
namespace Go.Proofs.YtjecakcpcnmieaaGreatDoor
namespace K.Ch
open Go.Proofs.YtjecakcpcnmieaaGreatDoor.Ch
open Go
theorem wX{s t:ByteArray}{i j:Nat}(h:i<s.size)(nb:Utf8.decode s i≠(65533,1))(hb:∀k,k<(Utf8.decode s i).2->bz s (i+k)=bz t (j+k)):Utf8.decode t j=Utf8.decode s i:=by
 have h0:0<=bz s i:=by unfold bz;rw[if_pos h];omega
 have hbd:=uQ s i;have hw:=fk s i h;have b0:=hb 0 (by omega);simp only[bH]at b0;by_cases a1:bz s i<128
 ·rw[g_ h0 a1,g_ (by omega) (by omega),b0]
 by_cases a2:bz s i<192
 ·exact absurd (fS (Or.inl ⟨by omega,a2⟩)) nb
 by_cases a3:bz s i<224
 ·by_cases c1:cont s (i+1)
  ·have hd:=iR (by omega) a3 c1;by_cases hz:128<=acc s i (bz s i-192) 1
   ·rw[if_pos hz]at hd;rw[hd]at hb;have b1:=hb 1 (by simp);have d1:cont t (j+1):=by unfold cont at*;rw[<-b1];exact c1
    rw[iR (by omega) a3 c1,iR (by omega) (by omega) d1];simp only[acc,ay,b0,b1]
   ·rw[if_neg hz]at hd;exact absurd hd nb
  ·exact absurd (ik (by omega) a3 c1) nb
 by_cases a4:bz s i<240
 ·by_cases c1:cont s (i+1)
  ·by_cases c2:cont s (i+2)
   ·have hd:=gM (by omega) a4 c1 c2;by_cases hz:2048<=acc s i (bz s i-224) 2/\Utf8.valid (acc s i (bz s i-224) 2)=true
    ·rw[if_pos hz]at hd;rw[hd]at hb;have b1:=hb 1 (by simp);have b2:=hb 2 (by simp);have d1:cont t (j+1):=by unfold cont at*;rw[<-b1];exact c1
     have d2:cont t (j+2):=by unfold cont at*;rw[<-b2];exact c2
     rw[gM (by omega) a4 c1 c2,gM (by omega) (by omega) d1 d2];simp only[acc,ay,Nat.reduceAdd,b0,b1,b2]
    ·rw[if_neg hz]at hd;exact absurd hd nb
   ·exact absurd (fA (by omega) a4 (Or.inr c2)) nb
  ·exact absurd (fA (by omega) a4 (Or.inl c1)) nb
 by_cases a5:bz s i<248
 ·by_cases c1:cont s (i+1)
  ·by_cases c2:cont s (i+2)
   ·by_cases c3:cont s (i+3)
    ·have hd:=iy (by omega) a5 c1 c2 c3;by_cases hz:65536<=acc s i (bz s i-240) 3/\Utf8.valid (acc s i (bz s i-240) 3)=true
     ·rw[if_pos hz]at hd;rw[hd]at hb;have b1:=hb 1 (by simp);have b2:=hb 2 (by simp);have b3:=hb 3 (by simp);have d1:cont t (j+1):=by unfold cont at*;rw[<-b1];exact c1
      have d2:cont t (j+2):=by unfold cont at*;rw[<-b2];exact c2
      have d3:cont t (j+3):=by unfold cont at*;rw[<-b3];exact c3
      rw[iy (by omega) a5 c1 c2 c3,iy (by omega) (by omega) d1 d2 d3];simp only[acc,ay,Nat.reduceAdd,b0,b1,b2,b3]
     ·rw[if_neg hz]at hd;exact absurd hd nb
    ·exact absurd (fh (by omega) a5 (Or.inr (Or.inr c3))) nb
   ·exact absurd (fh (by omega) a5 (Or.inr (Or.inl c2))) nb
  ·exact absurd (fh (by omega) a5 (Or.inl c1)) nb
 ·exact absurd (fS (Or.inr (by omega))) nb
theorem GF(t:ByteArray)(n:Nat):t.extract 0 n=txt (t.data.toList.take n):=by
 apply cM;apply Array.ext';simp[txt,List.take_drop]
theorem uD(t:ByteArray)(n k:Nat)(_hn:n<=t.size):bz (t.extract 0 n) k=if k<n then bz t k else-1:=by
 have e:bz t k=bz (txt t.data.toList) k:=by rw[Rw]
 rw[GF,wP,e,wP,bT];by_cases h:k<n
 ·simp[h]
 ·simp[h]
theorem Eb(t:ByteArray)(h:0<t.size):Utf8.decode (t.extract 0 (Utf8.decode t 0).2) 0=Utf8.decode t 0:=by
 have hw:=fk t 0 h;by_cases nb:Utf8.decode t 0=(65533,1)
 ·rw[nb];show Utf8.decode (t.extract 0 1) 0=(65533,1);have h0:0<=bz t 0:=by unfold bz;rw[if_pos h];omega
  have hbd:=uQ t 0;have yy:128<=bz t 0:=by
   by_cases a:bz t 0<128
   ·rw[g_ h0 a]at nb;simp only[bQ]at nb;omega
   ·omega
  have b0:bz (t.extract 0 1) 0=bz t 0:=by rw[uD t 1 0 (by omega)];simp
  have b1:bz (t.extract 0 1) 1= -1:=by rw[uD t 1 1 (by omega)];simp
  have c1:¬cont (t.extract 0 1) (0+1):=by unfold cont;rw[ay,b1];omega
  by_cases a2:bz t 0<192
  ·exact fS (Or.inl ⟨by omega,by omega⟩)
  by_cases a3:bz t 0<224
  ·exact ik (by omega) (by omega) c1
  by_cases a4:bz t 0<240
  ·exact fA (by omega) (by omega) (Or.inl c1)
  by_cases a5:bz t 0<248
  ·exact fh (by omega) (by omega) (Or.inl c1)
  ·exact fS (Or.inr (by omega))
 ·refine wX h nb ?_;intro k hk;rw[ay,uD t _ k (by omega),if_pos hk]
theorem zZ(t:ByteArray)(h:0<t.size):bad (t.extract 0 (Utf8.decode t 0).2)=if gY t 0=true then(Utf8.decode t 0).2 else 0:=by
 have hw:=fk t 0 h;have hd:=Eb t h;have ho:gY (t.extract 0 (Utf8.decode t 0).2) 0=gY t 0:=L0 hd;have hs:(t.extract 0 (Utf8.decode t 0).2).size=(Utf8.decode t 0).2:=by simp;omega
 generalize t.extract 0 (Utf8.decode t 0).2=u at*
 unfold bad;rw[mL.eq_2,if_pos (by omega),ho,hd,hs];split
 ·obtain⟨m,hm⟩:∃m,(Utf8.decode t 0).2=m+1:=⟨(Utf8.decode t 0).2-1,by omega⟩
  rw[hm,mL.eq_2,if_neg (by omega),hs,hm]
 ·rfl
end K.Ch
end Go.Proofs.YtjecakcpcnmieaaGreatDoor
namespace Go.Proofs.YtjecakcpcnmieaaGreatDoor
namespace K
open Go.RowKit Go.Maps Go.Lib Tryz
section
variable{F:Nat->Prop}{R:Nat}{w w':World}{s:Src}{p:jt}{st:St}{c:Int}
def Src.took(s:Src):Src×Int:=
 if s.rest.size=0 then({s with at_:=s.next},-1)
 else if Ch.gY s.rest 0=true then({s with at_:=s.next,rest:=s.rest.extract (Utf8.decode s.rest 0).2 s.rest.size,next:=s.next+(Utf8.decode s.rest 0).2},((Utf8.decode s.rest 0).1:Int))
 else({s with at_:=s.next},-2)
def Src.more(s:Src):Bool:=!s.ended&&!Tk.full s.rest
theorem J6(hT:Utf8Tabs 3 4 w)(hb:Z5 w w'):Utf8Tabs 3 4 w':=by
 have h4:=sS hT;refine⟨fun c hc=>(hb.cell (by show 3<w.heap.size;omega)).trans (hT.1 c hc),fun i hi=>⟨(hb.cell (by show 4<w.heap.size;omega)).trans (hT.2 i hi).1,(hb.cell (by show 4<w.heap.size;omega)).trans (hT.2 i hi).2⟩⟩
def More(w:World)(m:Value):Prop:=w.cell? ⟨0,0,none⟩=some m
theorem Od(h:gb F R w s p st)(hT:Utf8Tabs 3 4 w)(a:Addr)(hm:More w (.iface 339 (.pointer (some a))))(Cm:s.more=true):
  Z4 123 #[Z8 R] w (Z7 (.tuple #[.int .i32 0,.iface 339 (.pointer (some a))]) w):=by
 have c0:w.cell? ⟨R,0,none⟩=some (.string s.rest):=h.cell 0 rfl;have c3:w.cell? ⟨R,3,none⟩=some (.bool s.ended):=h.cell 3 rfl;have hR:=h.lt R h.j5;have h4:=sS hT;simp only[Src.more,aY,eB]at Cm;have hf:=GD s.rest w hT;rw[Cm.2]at hf;rw[Cm.1]at c3;unfold More at hm;have H:=a_ h;clear h hT Cm;go_enter func123,ntmps123;go_wp2_with(go_at_call 165;refine hf.mono ?_;rintro e w1 ⟨rfl,l_⟩);have U0:w1.cell? ⟨0,0,none⟩=some (.iface 339 (.pointer (some a))):=(l_.cell (p:=⟨0,0,none⟩) (by show 0<w.heap.size;omega)).trans hm;go_region_held3 (fun W=>W.cell? ⟨0,0,none⟩=some (.iface 339 (.pointer (some a))))
  (first|exact U0)
  (fail)
 all_goals
  go_wp2
  go_ret2
  exact⟨rfl,l_.drew⟩
theorem Oe(hT:Utf8Tabs 3 4 w)(hR5:4<R)(i:Nat)(v:Value):Utf8Tabs 3 4 (w.setCell ⟨R,i,none⟩ v):=by
 refine⟨fun c hc=>?_,fun j hj=>⟨?_,?_⟩⟩
 ·rw[aj (af w _ v 3 (by show 3≠R;omega))];exact hT.1 c hc
 ·rw[aj (af w _ v 4 (by show 4≠R;omega))];exact(hT.2 j hj).1
 ·rw[aj (af w _ v 4 (by show 4≠R;omega))];exact(hT.2 j hj).2
theorem Og(h:gb F R w s p st)(hT:Utf8Tabs 3 4 w)(hR5:4<R)(h0:0<s.rest.size)(hz:s.rest.size<=1099511627776)(w1:World)(l_:Z5 w w1):
  Z4 166 #[.string s.rest] (w1.setCell ⟨R,2,none⟩ (.int .i64 s.next)) fun e w2=>e=.returned (.tuple #[.int .i32 ((Utf8.decode s.rest 0).1:Int),.int .i64 ((Utf8.decode s.rest 0).2:Int)])/\Below (w1.setCell ⟨R,2,none⟩ (.int .i64 s.next)).heap.size (w1.setCell ⟨R,2,none⟩ (.int .i64 s.next)) w2:=by
 have h1:=utf8_DecodeRuneInString s.rest _ (Oe (J6 hT l_) hR5 2 (.int .i64 s.next));have e:Lib.decodeGo s.rest=Utf8.decode s.rest 0:=by unfold Lib.decodeGo;rw[if_neg (by omega)]
 rw[e]at h1;exact h1
end
section
variable{F:Nat->Prop}{R:Nat}{w w' w'':World}{s s':Src}{p:jt}{st:St}{c:Int}
def RF(F:Nat->Prop)(R:Nat)(w:World)(s:Src)(p:jt)(st:St)(w':World):Prop:=gb (Grow F w w') R w' s p st/\Frame F w w'/\∀k,k<w.heap.size->k≠R->w'.heap[k]?=w.heap[k]?
theorem RF.refl(h:gb F R w s p st):RF F R w s p st w:=⟨h.RM,Frame.refl _ _,fun _ _ _=>rfl⟩
theorem RF.below(h:RF F R w s p st w')(hb:Z5 w' w''):RF F R w s p st w'':=
 ⟨(h.1.below hb).join h.2.1.size hb.size,h.2.1.trans (Frame.below hb),fun k hk hR=>(hb.block k (ak hk h.2.1.size)).trans (h.2.2 k hk hR)⟩
theorem RF.set(h:RF F R w s p st w')(i:Nat)(v:Value)(hc:(cellsOf s p st).setIfInBounds i v=cellsOf s' p st):RF F R w s' p st (w'.setCell ⟨R,i,none⟩ v):=by
 have hsz:(w'.setCell ⟨R,i,none⟩ v).heap.size=w'.heap.size:=by simp[World.setCell]
 have r:=h.1.scalar (s':=s') (iJ:=st) i v hc (fun o=>o);have hG:∀k,Grow F w w' k->Grow F w (w'.setCell ⟨R,i,none⟩ v) k:=fun k hk=>by unfold Grow at*;rw[hsz];exact hk
 have hG':∀k,Grow F w (w'.setCell ⟨R,i,none⟩ v) k->Grow F w w' k:=fun k hk=>by unfold Grow at*;rw[hsz]at hk;exact hk
 refine⟨r.mono hG (fun k hk=>r.lt k (hG' k hk)),⟨h.2.1.os,h.2.1.tape,h.2.1.output,by rw[hsz];exact h.2.1.size,fun k hk hf=>?_⟩,fun k hk hR=>?_⟩
 ·rw[af _ _ _ _ ?_]
  ·exact h.2.1.block k hk hf
  ·intro e;have e':k=R:=e;subst e';rcases h.1.j5 with x|x
   ·exact hf x
   ·omega
 ·rw[af _ _ _ _ hR];exact h.2.2 k hk hR
def yC(F:Nat->Prop)(R:Nat)(w:World)(s:Src)(p:jt)(st:St)(e:Ending)(w':World):Prop:=
 e=.returned (.tuple #[.int .i32 s.took.2,.nilIface])/\RF F R w s.took.1 p st w'
theorem WD(h:gb F R w s p st)(hT:Utf8Tabs 3 4 w)(hR5:4<R)(hz:s.rest.size<=1099511627776)(hn:0<=s.next/\s.next<=1152921504606846976)(Cm:s.more=false):
  Z4 123 #[Z8 R] w (yC F R w s p st):=by
 have c0:w.cell? ⟨R,0,none⟩=some (.string s.rest):=h.cell 0 rfl;have c1:w.cell? ⟨R,1,none⟩=some (.int .i64 s.next):=h.cell 1 rfl;have c2:w.cell? ⟨R,2,none⟩=some (.int .i64 s.at_):=h.cell 2 rfl;have c3:w.cell? ⟨R,3,none⟩=some (.bool s.ended):=h.cell 3 rfl;have f0:=h.free 0;have f1:=h.free 1;have f2:=h.free 2;have hR:=h.lt R h.j5;have Oh:=GD s.rest w hT;have Ys:=fun h0=>Og h hT hR5 h0 hz;have rC:∀w1,Z5 w w1->RF F R w {s with at_:=s.next} p st (w1.setCell ⟨R,2,none⟩ (.int .i64 s.next)):=fun w1 b=>((RF.refl h).below b).set 2 _ rfl;have H:=a_ h;have HC:=a_ Ys;have HS:=a_ rC;clear h hT Ys rC;by_cases h0:s.rest.size=0
 ·have sq:s.took=({s with at_:=s.next},-1):=by simp[Src.took,h0]
  unfold yC;rw[sq];have he:s.rest.toList.isEmpty=true:=by
   rw[cH];have:s.rest.data.toList=[]:=aR (by simpa using h0);rw[this];rfl
  clear sq h0 hz hn HC;rcases(dM s.ended).symm with hen|hen
  ·have NI:Tk.full s.rest=true:=by simp[Src.more,hen]at Cm;exact Cm
   rw[NI]at Oh;rw[hen]at c3;clear Cm NI hen;go_enter func123,ntmps123;go_wp2_with(go_at_call 165;refine Oh.mono ?_;rintro e w1 ⟨rfl,l_⟩;have c0':=(l_.cell hR).trans c0;have c1':=(l_.cell hR).trans c1;have U1:=(l_.cell hR).trans c2;have U2:w1.frozen? ⟨R,2,none⟩=false:=(dU (l_.block R hR)).trans f2)
   go_ret2
   exact⟨rfl,HS.out _ l_⟩
  ·rw[hen]at c3;clear Cm hen;go_enter func123,ntmps123;go_wp2_with fail
   go_ret2
   exact⟨rfl,HS.out _ (Below.refl _ _)⟩
 ·have he:s.rest.toList.isEmpty=false:=by
   rw[cH];cases hl:s.rest.data.toList with
   |nil=>exact absurd (by have:=aC List.length hl;simpa using this) h0
   |cons a b=>rfl
  have hw:=Ch.fk s.rest 0 (by omega);have hw1:1<=(Utf8.decode s.rest 0).2:=hw.2.1;have hw2:(Utf8.decode s.rest 0).2<=s.rest.size:=by omega
  have Yt:=Ch.zZ s.rest (by omega);have AQ:=a_ (HC.out (by omega));clear HC;have HC:=AQ;clear AQ hw;unfold yC;cases jO:Ch.gY s.rest 0
  ·have sq:s.took=({s with at_:=s.next},-2):=by simp[Src.took,h0,jO]
   rw[sq];rw[jO]at Yt;simp only[aA,bf]at Yt;have HBF:=a_ Yt;clear sq jO Yt h0;rcases(dM s.ended).symm with hen|hen
   ·have NI:Tk.full s.rest=true:=by simp[Src.more,hen]at Cm;exact Cm
    rw[NI]at Oh;rw[hen]at c3;clear Cm NI hen;go_enter func123,ntmps123;go_wp2_with(go_at_call 165;refine Oh.mono ?_;rintro e w1 ⟨rfl,l_⟩;have c0':=(l_.cell hR).trans c0;have c1':=(l_.cell hR).trans c1;have U1:=(l_.cell hR).trans c2;have U2:w1.frozen? ⟨R,2,none⟩=false:=(dU (l_.block R hR)).trans f2);refine(HC.out w1 l_).mono ?_;rintro e w2 ⟨rfl,ZW⟩;have R2:=a_ ((HS.out w1 l_).below ZW);have d0:w2.cell? ⟨R,0,none⟩=some (.string s.rest):=R2.out.1.cell 0 rfl;have d1:w2.cell? ⟨R,1,none⟩=some (.int .i64 s.next):=R2.out.1.cell 1 rfl;have nH:=q8 (s.rest.extract 0 (Utf8.decode s.rest 0).2) w2 (by simp;omega);rw[HBF.out]at nH;generalize ((Utf8.decode s.rest 0).1:Int)=rn at*
    generalize (Utf8.decode s.rest 0).2=wd at*
    go_wp2_with(go_at_call 110;refine nH.mono ?_;rintro e w3 ⟨rfl,P7⟩)
    go_ret2
    exact⟨rfl,R2.out.below P7⟩
   ·rw[hen]at c3;clear Cm hen;go_enter func123,ntmps123;go_wp2_with fail;refine(HC.out w (Below.refl _ _)).mono ?_;rintro e w2 ⟨rfl,ZW⟩;have R2:=a_ ((HS.out w (Below.refl _ _)).below ZW);have d0:w2.cell? ⟨R,0,none⟩=some (.string s.rest):=R2.out.1.cell 0 rfl;have d1:w2.cell? ⟨R,1,none⟩=some (.int .i64 s.next):=R2.out.1.cell 1 rfl;have nH:=q8 (s.rest.extract 0 (Utf8.decode s.rest 0).2) w2 (by simp;omega);rw[HBF.out]at nH;generalize ((Utf8.decode s.rest 0).1:Int)=rn at*
    generalize (Utf8.decode s.rest 0).2=wd at*
    go_wp2_with(go_at_call 110;refine nH.mono ?_;rintro e w3 ⟨rfl,P7⟩)
    go_ret2
    exact⟨rfl,R2.out.below P7⟩
  ·have sq:s.took=({s with at_:=s.next,rest:=s.rest.extract (Utf8.decode s.rest 0).2 s.rest.size,next:=s.next+(Utf8.decode s.rest 0).2},((Utf8.decode s.rest 0).1:Int)):=by simp[Src.took,h0,jO]
   rw[sq];rw[jO]at Yt;simp only[if_true]at Yt;have HBF:=a_ Yt;clear sq jO Yt h0;rcases(dM s.ended).symm with hen|hen
   ·have NI:Tk.full s.rest=true:=by simp[Src.more,hen]at Cm;exact Cm
    rw[NI]at Oh;rw[hen]at c3;clear Cm NI hen;go_enter func123,ntmps123;go_wp2_with(go_at_call 165;refine Oh.mono ?_;rintro e w1 ⟨rfl,l_⟩;have c0':=(l_.cell hR).trans c0;have c1':=(l_.cell hR).trans c1;have U1:=(l_.cell hR).trans c2;have U2:w1.frozen? ⟨R,2,none⟩=false:=(dU (l_.block R hR)).trans f2);refine(HC.out w1 l_).mono ?_;rintro e w2 ⟨rfl,ZW⟩;have R2:=a_ ((HS.out w1 l_).below ZW);have d0:w2.cell? ⟨R,0,none⟩=some (.string s.rest):=R2.out.1.cell 0 rfl;have d1:w2.cell? ⟨R,1,none⟩=some (.int .i64 s.next):=R2.out.1.cell 1 rfl;have nH:=q8 (s.rest.extract 0 (Utf8.decode s.rest 0).2) w2 (by simp;omega);rw[HBF.out]at nH;go_wp2_with(go_at_call 110;refine nH.mono ?_;rintro e w3 ⟨rfl,P7⟩;have R3:=a_ (R2.out.below P7);have g0:w3.cell? ⟨R,0,none⟩=some (.string s.rest):=R3.out.1.cell 0 rfl;have g1:w3.cell? ⟨R,1,none⟩=some (.int .i64 s.next):=R3.out.1.cell 1 rfl;have q0:=R3.out.1.free 0;have q1:=R3.out.1.free 1)
    go_ret2
    refine⟨rfl,?_⟩;exact(R3.out.set (s':={s with at_:=s.next,rest:=s.rest.extract (Utf8.decode s.rest 0).2 s.rest.size}) 0 (.string (s.rest.extract (Utf8.decode s.rest 0).2 s.rest.size)) rfl).set 1 (.int .i64 (s.next+(Utf8.decode s.rest 0).2)) rfl
   ·rw[hen]at c3;clear Cm hen;go_enter func123,ntmps123;go_wp2_with fail;refine(HC.out w (Below.refl _ _)).mono ?_;rintro e w2 ⟨rfl,ZW⟩;have R2:=a_ ((HS.out w (Below.refl _ _)).below ZW);have d0:w2.cell? ⟨R,0,none⟩=some (.string s.rest):=R2.out.1.cell 0 rfl;have d1:w2.cell? ⟨R,1,none⟩=some (.int .i64 s.next):=R2.out.1.cell 1 rfl;have nH:=q8 (s.rest.extract 0 (Utf8.decode s.rest 0).2) w2 (by simp;omega);rw[HBF.out]at nH;go_wp2_with(go_at_call 110;refine nH.mono ?_;rintro e w3 ⟨rfl,P7⟩;have R3:=a_ (R2.out.below P7);have g0:w3.cell? ⟨R,0,none⟩=some (.string s.rest):=R3.out.1.cell 0 rfl;have g1:w3.cell? ⟨R,1,none⟩=some (.int .i64 s.next):=R3.out.1.cell 1 rfl;have q0:=R3.out.1.free 0;have q1:=R3.out.1.free 1)
    go_ret2
    refine⟨rfl,?_⟩;exact(R3.out.set (s':={s with at_:=s.next,rest:=s.rest.extract (Utf8.decode s.rest 0).2 s.rest.size}) 0 (.string (s.rest.extract (Utf8.decode s.rest 0).2 s.rest.size)) rfl).set 1 (.int .i64 (s.next+(Utf8.decode s.rest 0).2)) rfl
end
theorem lz(st:St)(i j:Rn):((st.clear i).run j).length<=(st.run j).length:=by simp only[St.clear,St.eH];split<;>simp
theorem lZ(st:St)(j:Rn):(st.eK.run j).length<=(st.run j).length:=by
 unfold St.eK;split
 ·omega
 ·exact lz _ _ _
theorem lf(st:St):st.eK.told.length<=st.told.length+1:=by
 unfold St.eK;split
 ·omega
 ·simp[St.clear,St.eH]
theorem gK(st:St):st.eK.b_=st.b_/\st.eK.names=st.names/\st.eK.quote=st.quote:=by unfold St.eK;split<;>exact⟨rfl,rfl,rfl⟩
structure nN(st:St)(c:Int)(o:Out):Prop where
 run:∀i,(o.st.run i).length<=(st.run i).length+12
 told:o.st.told.length<=st.told.length+4
 b_:o.st.b_.length<=st.b_.length+1
 names:o.st.names.length<=st.names.length+1
 quote:0<=st.quote->0<=o.st.quote
 ref:∀i k,o.res=.go (.ref i k)->(o.st.run .ref).length<=4
 neg:c= -1\/c= -2->0<=st.quote->∀pt,o.res≠ .go pt
theorem gF(st:St)(i:Rn)(c q:Int):(st.put i c q).told=st.told/\(st.put i c q).b_=st.b_/\(st.put i c q).names=st.names/\(st.put i c q).quote=st.quote:=⟨rfl,rfl,rfl,rfl⟩
theorem nN.iC{st:St}{c:Int}{no q:Int}:nN st c ⟨st,.fail no q⟩:=
 ⟨fun _=>by simp,by simp,by simp,by simp,fun h=>h,fun _ _ e=>(by cases e),fun _ _ _ e=>(by cases e)⟩
theorem nN.pM{st:St}{c:Int}{pt:Part}(h0:0<=c)(hr:∀i k,pt≠ .ref i k):nN st c ⟨st,.go pt⟩:=
 ⟨fun _=>by simp,by simp,by simp,by simp,fun h=>h,fun i k e=>absurd (by cases e;rfl) (hr i k),fun h=>by omega⟩
theorem oI{c:Int}(h:Ch.fw c=true):0<=c:=by have:=(Ch.fT c).1 h;omega
theorem J7{c:Int}(h:Ch.gz c=true):0<=c:=by have:=(Ch.jq c).1 h;omega
theorem sT{c:Int}(h:Tk.blank c=true):0<=c:=by simp[Tk.blank]at h;omega
theorem nN.via{st fM:St}{c:Int}{pt:Part}(h0:0<=c)(hr:∀i k,pt≠ .ref i k)(h1:∀i,(fM.run i).length<=(st.run i).length+12)(h2:fM.told.length<=st.told.length+4)(h3:fM.b_.length<=st.b_.length+1)(h4:fM.names.length<=st.names.length+1)(h5:0<=st.quote->0<=fM.quote):nN st c ⟨fM,.go pt⟩:=
 ⟨h1,h2,h3,h4,h5,fun i k e=>absurd (by cases e;rfl) (hr i k),fun h=>by omega⟩
theorem pQ(st:St)(c:Int)(pt:Part)(h0:0<=c)(hr:∀i k,pt≠ .ref i k):nN st c ⟨st.fo,.go pt⟩:=by
 refine .via h0 hr (fun i=>?_) ?_ ?_ ?_ ?_
 ·show (st.eK.run i).length<=_;have:=lZ st i;omega
 ·show (st.eK.told++[_]).length<=_;have:=lf st;simp;omega
 ·show ([]:List (List UInt8×List UInt8)).length<=_;simp
 ·show ([]:List (List UInt8)).length<=_;simp
 ·show _->0<=st.eK.quote;rw[(gK st).2.2];exact id
theorem wY(st:St)(c:Int)(pt:Part)(h0:0<=c)(hr:∀i k,pt≠ .ref i k):nN st c ⟨st.gv,.go pt⟩:=by
 refine .via h0 hr (fun i=>?_) ?_ ?_ ?_ ?_
 ·show (st.eK.run i).length<=_;have:=lZ st i;omega
 ·show (st.eK.told++[_]).length<=_;have:=lf st;simp;omega
 ·show st.eK.b_.length<=_;rw[(gK st).1];omega
 ·show st.eK.names.length<=_;rw[(gK st).2.1];omega
 ·show _->0<=st.eK.quote;rw[(gK st).2.2];exact id
theorem vL(st:St)(i:Rn)(c q d:Int)(pt:Part)(h0:0<=d)(hr:∀i k,pt≠ .ref i k):nN st d ⟨st.put i c q,.go pt⟩:=
 .via h0 hr (fun j=>by have:=ja st i j c q;omega) (by simp[gF]) (by simp[gF]) (by simp[gF]) (fun h=>h)
theorem xI(q:Int)(st:St)(c:Int):nN st c (jS q st c):=by
 unfold jS;split
 ·exact .pM (sT (by assumption)) (fun _ _=>by simp)
 split
 ·exact .pM (by omega) (fun _ _=>by simp)
 split
 ·exact pQ st c _ (by omega) (fun _ _=>by simp)
 ·exact .iC
theorem nN.after{st fM:St}{c:Int}{o:Out}(h:nN fM c o)(h1:∀i,(o.st.run i).length<=(st.run i).length+12)(h2:fM.told.length<=st.told.length)(h3:fM.b_.length<=st.b_.length)(h4:o.st.names.length<=st.names.length+1)(h5:fM.quote=st.quote):nN st c o:=
 ⟨h1,by have:=h.told;omega,by have:=h.b_;omega,h4,fun x=>h.quote (h5▸x),h.ref,fun x y=>h.neg x (h5▸y)⟩
theorem Ec(i:Rn)(k:Pl)(q:Int)(st:St)(c:Int):nN st c (gh i k q st c):=by
 unfold gh;split
 ·exact vL st i c q c _ (oI (by assumption)) (fun _ _=>by simp)
 ·exact .iC
theorem xJ(q:Int)(st:St)(c:Int):nN st c (kq q st c):=by
 unfold kq;split
 ·exact .pM (sT (by assumption)) (fun _ _=>by simp)
 split
 ·exact .pM (by omega) (fun _ _=>by simp)
 ·exact .iC
theorem Cn(q:Int)(st:St)(c:Int):(kq q st c).st=st:=by
 unfold kq;repeat' split
 all_goals rfl
theorem ub(q:Int)(st:St)(c:Int):nN st c (iL q st c):=by
 unfold iL;split
 ·exact .pM (by omega) (fun _ _=>by simp)
 split
 ·exact .iC
 ·exact .pM (by omega) (fun _ _=>by simp)
theorem vM(q:Int)(st:St)(c:Int):nN st c (jg q st c):=by
 unfold jg;split
 ·exact .pM (by omega) (fun _ _=>by simp)
 split
 ·exact .iC
 ·exact .pM (by omega) (fun _ _=>by simp)
theorem ud(q:Int)(st:St)(c:Int)(i:Rn):((fY q st c).st.run i).length<=(st.run i).length+4:=by
 unfold fY;repeat' split
 all_goals first|(exact ja st .text i c q)|(simp;done)
theorem rL(q:Int)(st:St)(c:Int):nN st c (fY q st c):=by
 unfold fY;split
 ·exact .pM (by omega) (fun _ _=>by simp)
 split
 ·exact .iC
 ·exact vL st _ c q c _ (by omega) (fun _ _=>by simp)
theorem Bk(q:Int)(st:St)(c:Int)(i:Rn):((fZ q st c).st.run i).length<=(st.run i).length+8:=by
 unfold fZ;split
 ·simp
 ·have:=ud q (st.put .text 93 (q-1)) c i;have:=ja st .text i 93 (q-1);omega
theorem qM(q:Int)(st:St)(c:Int):(fY q st c).st.names=st.names:=by
 unfold fY;repeat' split
 all_goals rfl
theorem yl(q:Int)(st:St)(c:Int):(fZ q st c).st.names=st.names:=by
 unfold fZ;split
 ·rfl
 ·exact qM _ _ _
theorem rM(q:Int)(st:St)(c:Int):nN st c (fZ q st c):=by
 unfold fZ;split
 ·exact .pM (by omega) (fun _ _=>by simp)
 ·refine(rL q (st.put .text 93 (q-1)) c).after (fun i=>?_) (by simp[gF]) (by simp[gF]) ?_ rfl
  ·have:=ud q (st.put .text 93 (q-1)) c i;have:=ja st .text i 93 (q-1);omega
  ·rw[qM];simp[gF]
theorem GG(st:St)(i:Rn)(k:Pl)(q:Int):nN st 38 ⟨(st.clear .ref).put .ref 38 q,.go (.ref i k)⟩:=by
 refine⟨fun j=>?_,by simp[gF,St.clear,St.eH],by simp[gF,St.clear,St.eH],by simp[gF,St.clear,St.eH],fun h=>h,fun _ _ _=>?_,fun h=>by omega⟩
 ·have h1:=ja (st.clear .ref) .ref j 38 q;have h2:=lz st .ref j;show (((st.clear .ref).put .ref 38 q).run j).length<=_;omega
 ·have h1:=ja (st.clear .ref) .ref .ref 38 q;have h2:((st.clear .ref).run .ref).length=0:=by simp[St.clear,St.eH]
  show (((st.clear .ref).put .ref 38 q).run .ref).length<=_;omega
theorem sU(k:Pl)(q:Int)(st:St)(c:Int):nN st c (step k q st c):=by
 cases k with
 |between=>
  simp only[step];split
  ·exact .via (by omega) (fun _ _=>by simp) (fun _=>by simp) (by simp) (by simp) (by simp) (fun h=>h)
  split
  ·rename_i e;subst e;exact GG st _ _ q
  split
  ·refine⟨fun i=>?_,?_,?_,?_,?_,fun _ _ e=>(by cases e),fun _ _ _ e=>(by cases e)⟩
   ·show (st.eK.run i).length<=_;have:=lZ st i;omega
   ·show st.eK.told.length<=_;have:=lf st;omega
   ·show st.eK.b_.length<=_;rw[(gK st).1];omega
   ·show st.eK.names.length<=_;rw[(gK st).2.1];omega
   ·show _->0<=st.eK.quote;rw[(gK st).2.2];exact id
  split
  ·exact .iC
  ·refine⟨fun j=>?_,by simp[gF],by simp[gF],by simp[gF],fun h=>h,fun _ _ e=>(by cases e),fun h=>?_⟩
   ·have:=ja st .text j c q;show ((st.put .text c q).run j).length<=_;omega
   ·omega
 |less=>
  simp only[step];split
  ·exact .via (by omega) (fun _ _=>by simp) (fun i=>by have:=lz st .name i;omega) (by simp[St.clear,St.eH]) (by simp[St.clear,St.eH]) (by simp[St.clear,St.eH]) (fun h=>h)
  split
  ·exact .pM (by omega) (fun _ _=>by simp)
  split
  ·exact .pM (by omega) (fun _ _=>by simp)
  ·unfold gh;split
   ·refine .via (oI (by assumption)) (fun _ _=>by simp) (fun i=>?_) (by simp[gF,St.clear,St.eH]) (by simp[gF,St.clear,St.eH]) (by simp[gF,St.clear,St.eH]) (fun h=>h);have h1:=ja (st.clear .name) .name i c q;have h2:=lz st .name i;omega
   ·exact⟨fun i=>by have:=lz st .name i;show ((st.clear .name).run i).length<=_;omega,by simp[St.clear,St.eH],by simp[St.clear,St.eH],by simp[St.clear,St.eH],fun h=>h,fun _ _ e=>(by cases e),fun _ _ _ e=>(by cases e)⟩
 |oT=>
  simp only[step];split
  ·exact .pM (by omega) (fun _ _=>by simp)
  split
  ·exact .pM (by omega) (fun _ _=>by simp)
  ·exact .iC
 |remark=>exact ub q st c
 |DN=>
  simp only[step];split
  ·exact .pM (by omega) (fun _ _=>by simp)
  ·exact ub q st c
 |iP=>
  simp only[step];split
  ·exact .pM (oI (by assumption)) (fun _ _=>by simp)
  ·exact .iC
 |order=>exact vM q st c
 |mark=>
  simp only[step];split
  ·exact .pM (by omega) (fun _ _=>by simp)
  ·exact vM q st c
 |iB=>exact rL q st c
 |bracket=>exact rM q st c
 |brackets=>
  simp only[step];split
  ·exact .pM (by omega) (fun _ _=>by simp)
  ·refine(rM q (st.put .text 93 (q-2)) c).after (fun i=>?_) (by simp[gF]) (by simp[gF]) ?_ rfl
   ·have:=Bk q (st.put .text 93 (q-2)) c i;have:=ja st .text i 93 (q-2);omega
   ·rw[yl];simp[gF]
 |part=>exact xI q st c
 |eY=>
  simp only[step];split
  ·unfold gh;rw[if_pos (by assumption)];refine .via (oI (by assumption)) (fun _ _=>by simp) (fun i=>?_) (by simp[gF,St.clear,St.eH]) (by simp[gF,St.clear,St.eH]) (by simp[gF,St.clear,St.eH]) (fun h=>h);have h1:=ja (st.clear .attr) .attr i c q;have h2:=lz st .attr i;omega
  ·exact xI q st c
 |jR=>
  simp only[step];split
  ·exact .iC
  ·refine(xJ q {st with names:=st.names++[st.run .attr]} c).after (fun i=>?_) (by simp) (by simp) ?_ rfl
   ·rw[Cn];simp
   ·rw[Cn];simp
 |rz=>exact xJ q st c
 |lU=>
  simp only[step];split
  ·exact .pM (sT (by assumption)) (fun _ _=>by simp)
  split
  ·exact .via (by omega) (fun _ _=>by simp) (fun _=>by simp) (by simp) (by simp) (by simp) (fun _=>by show 0<=c;omega)
  ·exact .iC
 |iW=>
  simp only[step];split
  ·rename_i e;refine⟨fun i=>?_,by simp[St.addAttr,St.clear,St.eH],by simp[St.addAttr,St.clear,St.eH],by simp[St.addAttr,St.clear,St.eH],fun h=>h,fun _ _ e=>(by cases e),fun h h'=>by omega⟩;have:=lz {st with b_:=st.b_++[(st.run .attr,st.run .value)]} .value i;show ((St.clear {st with b_:=st.b_++[(st.run .attr,st.run .value)]} .value).run i).length<=_;refine ar this ?_;simp
  split
  ·rename_i e;subst e;exact GG st _ _ q
  split
  ·exact .iC
  ·exact vL st _ c q c _ (by omega) (fun _ _=>by simp)
 |jL=>
  simp only[step];split
  ·refine .via (by omega) (fun _ _=>by simp) (fun i=>?_) ?_ ?_ ?_ ?_
   ·have h1:=(pQ st 0 (.plain .between) (by omega) (fun _ _=>by simp)).run i;have h2:=lZ st.fo i;have h3:(st.fo.run i).length<=(st.run i).length:=lZ st i;show (st.fo.eK.run i).length<=_;omega
   ·have h1:st.fo.told.length<=st.told.length+2:=by show (st.eK.told++[_]).length<=_;have:=lf st;simp;omega
    have h2:=lf st.fo;show (st.fo.eK.told++[_]).length<=_;simp;omega
   ·show st.fo.eK.b_.length<=_;rw[(gK _).1];show ([]:List (List UInt8×List UInt8)).length<=_;simp
   ·show st.fo.eK.names.length<=_;rw[(gK _).2.1];show ([]:List (List UInt8)).length<=_;simp
   ·show _->0<=st.fo.eK.quote;rw[(gK _).2.2];show _->0<=st.eK.quote;rw[(gK _).2.2];exact id
  ·exact .iC
 |closing=>
  simp only[step];split
  ·exact .pM (sT (by assumption)) (fun _ _=>by simp)
  split
  ·exact wY st c _ (by omega) (fun _ _=>by simp)
  ·exact .iC
theorem GH(i j:Rn)(t:ByteArray)(q:Int):∀f pos st,((gB i t q f pos st).run j).length<=(st.run j).length+4*(t.size-pos):=by
 intro f;induction f with
 |zero=>intro pos st;simp[gB]
 |succ f ih=>
  intro pos st;unfold gB;split
  ·rename_i hp;have h1:=ih (pos+(Utf8.decode t pos).2) (st.put i ((Utf8.decode t pos).1:Int) q);have h2:=ja st i j ((Utf8.decode t pos).1:Int) q;have h3:=Ch.fk t pos hp;omega
  ·omega
theorem vN(i:Rn)(t:ByteArray)(q:Int):∀f pos st,(gB i t q f pos st).told=st.told/\(gB i t q f pos st).b_=st.b_/\(gB i t q f pos st).names=st.names/\(gB i t q f pos st).quote=st.quote:=by
 intro f;induction f with
 |zero=>intro pos st;exact⟨rfl,rfl,rfl,rfl⟩
 |succ f ih=>
  intro pos st;unfold gB;split
  ·exact ih _ _
  ·exact⟨rfl,rfl,rfl,rfl⟩
theorem Bl(i j:Rn)(t:ByteArray)(q:Int)(hj:j≠i):∀f pos st,(gB i t q f pos st).run j=st.run j:=by
 intro f;induction f with
 |zero=>intro pos st;rfl
 |succ f ih=>
  intro pos st;unfold gB;split
  ·rw[ih];simp[St.put,St.eH,hj]
  ·rfl
def Part.extra(pt:Part)(st:St):Nat:=match pt with| .ref _ _=>16*(st.run .ref).length+120|_=>0
structure ue(n:Nat)(pt:Part)(st:St):Prop where
 run:∀i,i≠ .ref->(st.run i).length+pt.extra st<=256*n
 ref:(st.run .ref).length<=256*n
 told:st.told.length<=4*n
 b_:st.b_.length<=n
 names:st.names.length<=n
 quote:0<=st.quote
 sound:pt.Sound
theorem ue.acN{n:Nat}{pt:Part}{st:St}(h:ue n pt st)(hn:n<=274877906944):st.Sw:=by
 refine⟨fun i=>?_,by have:=h.told;omega,by have:=h.b_;omega,by have:=h.names;omega⟩;by_cases hi:i=.ref
 ·subst hi;have:=h.ref;omega
 ·have:=h.run i hi;omega
theorem ue.both{n:Nat}{pt:Part}{st:St}(h:ue n pt st)(hn:n<=274877906944):∀i k,pt=.ref i k->(st.run i).length+16*(st.run .ref).length+120<=70368744177664:=by
 rintro i k rfl;have h1:=h.run i h.sound;simp only[Part.extra]at h1;omega
theorem Ed(i:Rn)(k:Pl)(q:Int)(st:St)(c:Int):∀pt,(stName i k q st c).res=.go pt->pt.Sound:=by
 intro pt e;unfold stName gh at e
 repeat' split at e
 all_goals first|(cases e;simp[Part.Sound];done)|(cases e;done)|exact zO k q st c pt e
theorem ue.plain{n:Nat}{pt:Part}{st:St}{o:Out}{c:Int}(h:ue n pt st)(ha:nN st c o){j_:Part}(e:o.res=.go j_)(hs:j_.Sound):ue (n+1) j_ o.st:=by
 have hx:j_.extra o.st<=184:=by
  cases j_ with
  |ref i k=>have:=ha.ref i k e;show 16*(o.st.run .ref).length+120<=184;omega
  |plain k=>exact ax _
  |word l k=>exact ax _
  |name i k=>exact ax _
 refine⟨fun i hi=>?_,?_,?_,?_,?_,ha.quote h.quote,hs⟩
 ·have:=h.run i hi;have:=ha.run i;omega
 ·have:=h.ref;have:=ha.run .ref;omega
 ·have:=h.told;have:=ha.told;omega
 ·have:=h.b_;have:=ha.b_;omega
 ·have:=h.names;have:=ha.names;omega
theorem rN(i:Rn)(k:Pl)(q:Int)(st:St)(c:Int):nN st c (stName i k q st c):=by
 unfold stName;split
 ·exact Ec i k q st c
 split
 ·rename_i h;refine vL st i c q c _ ?_ (fun _ _=>by simp);simp only[bw]at h;exact h.elim oI J7
 ·exact sU k q st c
theorem rO(x:UInt8)(l:List UInt8)(k:Pl)(q:Int)(st:St)(c:Int):nN st c (mv x l k q st c):=by
 unfold mv;split
 ·split
  ·exact .pM (by omega) (fun _ _=>by simp)
  ·exact .pM (by omega) (fun _ _=>by simp)
 ·exact .iC
theorem ue.step{n:Nat}{pt:Part}{st:St}{q c:Int}(h:ue n pt st){j_:Part}(e:(d_ pt q st c).res=.go j_):ue (n+1) j_ (d_ pt q st c).st:=by
 cases pt with
 |plain k=>exact h.plain (sU k q st c) e (zO k q st c j_ e)
 |word l k=>
  cases l with
  |nil=>exact absurd rfl h.sound.1
  |cons x l=>
   refine h.plain (rO x l k q st c) e ?_;have hl:=h.sound.2;simp only[d_,mv]at e;split at e
   ·split at e
    ·cases e;trivial
    ·cases e;exact⟨by assumption,by simp at hl;omega⟩
   ·cases e
 |name i k=>exact h.plain (rN i k q st c) e (Ed i k q st c j_ e)
 |ref i k=>
  have hi:=h.sound;simp only[d_,oY]at e ⊢;split at e
  ·rename_i hc;rw[if_pos hc];split at e
   ·rename_i oy;rw[if_pos oy];have hp:=fun j=>ja st .ref j 59 q;have hsm:=gF st .ref 59 q;generalize st.put .ref 59 q=fM at*
    unfold jX at e ⊢;split at e
    ·rename_i hz;rw[if_pos hz];cases e;have hul:=Ca ⟨(fM.run .ref).toArray⟩ (((⟨(fM.run .ref).toArray⟩:ByteArray).size)+1) 0 [];have hsz:(⟨(fM.run .ref).toArray⟩:ByteArray).size=(fM.run .ref).length:=by show (fM.run .ref).toArray.size=_;simp
     have Wx:(Ch.kP ⟨(fM.run .ref).toArray⟩).1.length<=4*((fM.run .ref).length+1):=by unfold Ch.kP;rw[hsz]at hul ⊢;simpa using hul
     have htz:(⟨(Ch.kP ⟨(fM.run .ref).toArray⟩).1.toArray⟩:ByteArray).size<=4*((fM.run .ref).length+1):=by show (Ch.kP ⟨(fM.run .ref).toArray⟩).1.toArray.size<=_;simpa using Wx
     generalize (⟨(Ch.kP ⟨(fM.run .ref).toArray⟩).1.toArray⟩:ByteArray)=t at*
     have hpl:=fun j=>GH i j t (fM.fD .ref) (t.size+1) 0 fM;have Yj:=vN i t (fM.fD .ref) (t.size+1) 0 fM;refine⟨fun j hj=>?_,?_,?_,?_,?_,?_,trivial⟩
     ·show ((gB i t (fM.fD .ref) (t.size+1) 0 fM).run j).length+0<=_;have h1:=hpl j;have h2:=hp j;have h3:=hp .ref;have h4:=h.run j hj;simp only[Part.extra]at h4;omega
     ·show ((gB i t (fM.fD .ref) (t.size+1) 0 fM).run .ref).length<=_;rw[Bl i .ref t _ (Ne.symm hi)];have h1:=h.ref;have h2:=hp .ref;omega
     ·show (gB i t (fM.fD .ref) (t.size+1) 0 fM).told.length<=_;rw[Yj.1,hsm.1];have:=h.told;omega
     ·show (gB i t (fM.fD .ref) (t.size+1) 0 fM).b_.length<=_;rw[Yj.2.1,hsm.2.1];have:=h.b_;omega
     ·show (gB i t (fM.fD .ref) (t.size+1) 0 fM).names.length<=_;rw[Yj.2.2.1,hsm.2.2.1];have:=h.names;omega
     ·show 0<=(gB i t (fM.fD .ref) (t.size+1) 0 fM).quote;rw[Yj.2.2.2,hsm.2.2.2];exact h.quote
    ·cases e
   ·rename_i oy;rw[if_neg oy];cases e;have hp:=fun j=>ja st .ref j c q;refine⟨fun j hj=>?_,?_,ar h.told (by omega),ar h.b_ (by omega),ar h.names (by omega),h.quote,hi⟩
    ·have h1:=h.run j hj;have h2:=hp j;have h3:=hp .ref;have h4:((st.put .ref c q).run j)=st.run j:=by simp[St.put,St.eH,hj]
     simp only[Part.extra]at h1 ⊢;rw[h4];omega
    ·have h1:=h.ref;have h3:=hp .ref;show ((st.put .ref c q).run .ref).length<=_;omega
  ·cases e
end K
end Go.Proofs.YtjecakcpcnmieaaGreatDoor
namespace Go.Proofs.YtjecakcpcnmieaaGreatDoor
namespace K
open Go Go.Lib Tryz
def wZ(n b0 b1 b2 b3:Nat):Nat×Nat:=
 if firstT b0=240 then(b0,1)else if firstT b0=241 then(65533,1)else slowN n b0 b1 b2 b3 (firstT b0%8) (accLo (firstT b0/16)) (accHi (firstT b0/16))
theorem po(n b0 b1 b2 b3:Nat)(hn:1<=n)(h0:b0<256)(h1:b1<256)(h2:b2<256)(h3:b3<256):decodeN n b0 b1 b2 b3=wZ n b0 b1 b2 b3:=by
 unfold wZ;by_cases a1:b0<128
 ·have hf:firstT b0=240:=by simp[firstT,a1]
  rw[if_pos hf];unfold decodeN
  repeat' split
  all_goals first|(exfalso;omega)|(apply Prod.ext<;>simp only<;>omega)
 by_cases a2:b0<194
 ·have hf:firstT b0=241:=by simp[firstT,a1,a2]
  rw[hf,if_neg (by omega),if_pos rfl];unfold decodeN
  repeat' split
  all_goals first|(exfalso;omega)|(apply Prod.ext<;>simp only<;>omega)
 by_cases a3:b0<224
 ·have hf:firstT b0=2:=by simp[firstT,a1,a2,a3]
  rw[hf,if_neg (by omega),if_neg (by omega)];exact(slow_C2 n b0 b1 b2 b3 hn h1 h2 h3 (by omega)).symm
 by_cases a4:b0=224
 ·have hf:firstT b0=19:=by subst a4;rfl
  rw[hf,if_neg (by omega),if_neg (by omega)];exact(slow_E0 n b0 b1 b2 b3 hn h1 h2 h3 a4).symm
 by_cases a5:b0<237
 ·have hf:firstT b0=3:=by simp[firstT,a1,a2,a3,a4,a5]
  rw[hf,if_neg (by omega),if_neg (by omega)];exact(slow_E1 n b0 b1 b2 b3 hn h1 h2 h3 (by omega)).symm
 by_cases a6:b0=237
 ·have hf:firstT b0=35:=by subst a6;rfl
  rw[hf,if_neg (by omega),if_neg (by omega)];exact(slow_ED n b0 b1 b2 b3 hn h1 h2 h3 a6).symm
 by_cases a7:b0<240
 ·have hf:firstT b0=3:=by simp[firstT,a1,a2,a3,a4,a5,a6,a7]
  rw[hf,if_neg (by omega),if_neg (by omega)];exact(slow_E1 n b0 b1 b2 b3 hn h1 h2 h3 (by omega)).symm
 by_cases a8:b0=240
 ·have hf:firstT b0=52:=by subst a8;rfl
  rw[hf,if_neg (by omega),if_neg (by omega)];exact(slow_F0 n b0 b1 b2 b3 hn h1 h2 h3 a8).symm
 by_cases a9:b0<244
 ·have hf:firstT b0=4:=by simp[firstT,a1,a2,a3,a4,a5,a6,a7,a8,a9]
  rw[hf,if_neg (by omega),if_neg (by omega)];exact(slow_F1 n b0 b1 b2 b3 hn h1 h2 h3 (by omega)).symm
 by_cases a10:b0=244
 ·have hf:firstT b0=68:=by subst a10;rfl
  rw[hf,if_neg (by omega),if_neg (by omega)];exact(slow_F4 n b0 b1 b2 b3 hn h1 h2 h3 a10).symm
 ·have hf:firstT b0=241:=by simp[firstT,a1,a2,a3,a4,a5,a6,a7,a8,a9,a10]
  rw[hf,if_neg (by omega),if_pos rfl];unfold decodeN
  repeat' split
  all_goals first|(exfalso;omega)|(apply Prod.ext<;>simp only<;>omega)
theorem Oi(b:Nat):firstT b=240\/firstT b=241\/(2<=firstT b%8/\firstT b%8<=4):=by
 unfold firstT
 repeat' split
 all_goals omega
theorem J8(n m b0 b1 b2 b3 c1 c2 c3:Nat)(hn:1<=n)(hm:n<=m)(e1:1<n->c1=b1)(e2:2<n->c2=b2)(e3:3<n->c3=b3)(hf:pL n (firstT b0) b1 b2=true):
  pL m (firstT b0) c1 c2=true/\wZ m b0 c1 c2 c3=wZ n b0 b1 b2 b3:=by
 simp only[pL,bw,aY,ba]at hf ⊢;have hz:=Oi b0;unfold wZ slowN;generalize firstT b0=f at*
 generalize accLo (f/16)=lo at*
 generalize accHi (f/16)=hi at*
 by_cases f1:f=240
 ·rw[if_pos f1,if_pos f1];exact⟨by omega,rfl⟩
 by_cases f2:f=241
 ·rw[if_neg f1,if_pos f2,if_neg f1,if_pos f2];exact⟨by omega,rfl⟩
 rw[if_neg f1,if_neg f2,if_neg f1,if_neg f2];have hz2:2<=f%8/\f%8<=4:=by omega
 clear hz f1 f2;generalize f%8=sz at*
 rcases hf with hf|⟨h1,h2⟩|⟨h1,h2⟩
 ·refine⟨Or.inl (by omega),?_⟩;have x1:=e1 (by omega);subst x1;rw[if_neg (by omega:¬m<sz),if_neg (by omega:¬n<sz)];by_cases z2:sz<=2
  ·simp only[z2,if_true]
  ·have x2:=e2 (by omega);subst x2;by_cases z3:sz<=3
   ·simp only[z2,z3,if_true,bf]
   ·have x3:=e3 (by omega);subst x3;rfl
 ·have x1:=e1 (by omega);subst x1;refine⟨Or.inr (Or.inl ⟨by omega,h2⟩),?_⟩;simp only[h2,if_true]
  repeat' split
  all_goals rfl
 ·have x1:=e1 (by omega);have x2:=e2 (by omega);subst x1;subst x2;refine⟨Or.inr (Or.inr ⟨by omega,h2⟩),?_⟩;by_cases z:n<sz
  ·rw[if_pos z];by_cases y:m<sz
   ·rw[if_pos y]
   ·rw[if_neg y];by_cases u:c1<lo\/hi<c1
    ·rw[if_pos u]
    ·rw[if_neg u,if_neg (by omega),if_pos h2]
  ·rw[if_neg z,if_neg (by omega)];by_cases u:c1<lo\/hi<c1
   ·rw[if_pos u,if_pos u]
   ·rw[if_neg u,if_neg u];by_cases z2:sz<=2
    ·simp only[z2,if_true]
    ·simp only[z2,bf,h2,if_true]
theorem yD(a b:ByteArray)(k:Nat)(h:k<a.size):(a++b).get! k=a.get! k:=by
 show (a++b).data[k]! =a.data[k]!;have h':k<a.data.size:=h;rw[dx];rw[getElem!_pos a.data k h',getElem!_pos (a.data++b.data) k (by simp;omega),Array.getElem_append_left h']
theorem SD(a b:ByteArray)(h:Tk.full a=true):Tk.full (a++b)=true/\Utf8.decode (a++b) 0=Utf8.decode a 0:=by
 have h0:0<a.size:=by
  by_cases e:a.size=0
  ·simp[Tk.full,e]at h
  ·omega
 have hs:(a++b).size=a.size+b.size:=cA;unfold Tk.full at h ⊢;rw[if_neg (by omega)]at h;rw[if_neg (by omega),hs,decode_at,decode_at,hs,yD a b 0 h0];rw[po _ _ _ _ _ (by omega) (bN _) (bN _) (bN _) (bN _),po _ _ _ _ _ (by omega) (bN _) (bN _) (bN _) (bN _)];exact J8 a.size (a.size+b.size) _ _ _ _ _ _ _ (by omega) (by omega) (fun x=>by rw[yD a b _ x]) (fun x=>by rw[yD a b _ x]) (fun x=>by rw[yD a b _ x]) h
end K
end Go.Proofs.YtjecakcpcnmieaaGreatDoor
namespace Go.Proofs.YtjecakcpcnmieaaGreatDoor
namespace K
open Go.RowKit Go.Maps Go.Lib Tryz
inductive Ret|more|over|fail(no q:Int)
structure Rd where
 s:Src
 pt:Part
 st:St
 ret:Ret
def mz:Nat->Src->Part->St->Rd
 |0,s,pt,st=>⟨s,pt,st,.more⟩
 |n+1,s,pt,st=>if s.more=true then⟨s,pt,st,.more⟩else
  match (d_ pt s.took.1.at_ st s.took.2).res with
  | .go j_=>mz n s.took.1 j_ (d_ pt s.took.1.at_ st s.took.2).st
  | .stop=>⟨s.took.1,pt,(d_ pt s.took.1.at_ st s.took.2).st,.over⟩
  | .fail no q=>⟨s.took.1,pt,(d_ pt s.took.1.at_ st s.took.2).st,.fail no q⟩
def reads(s:Src)(pt:Part)(st:St):Rd:=mz (s.rest.size+1) s pt st
def Src.bare(s:Src):Src:={s with now:=.nilFunc}
theorem Oj(s:Src):s.bare.took=(s.took.1.bare,s.took.2):=by
 unfold Src.took Src.bare;simp only;repeat' split
 all_goals rfl
theorem Co(s:Src):s.bare.more=s.more:=rfl
theorem mV(pt:Part)(q:Int)(st:St)(c:Int)(h:pt.Sound)(hc:c= -1\/c= -2)(hq:0<=st.quote):∀j_,(d_ pt q st c).res≠ .go j_:=by
 cases pt with
 |plain k=>exact(sU k q st c).neg hc hq
 |word l k=>
  cases l with
  |nil=>exact absurd rfl h.1
  |cons x l=>exact(rO x l k q st c).neg hc hq
 |name i k=>exact(rN i k q st c).neg hc hq
 |ref i k=>
  intro j_ e;simp only[d_,oY]at e;split at e
  ·rename_i hi;have:=sN hi;omega
  ·cases e
theorem mB{s:Src}{pt j_:Part}{st:St}{q:Int}(h:pt.Sound)(hq:0<=st.quote)(e:(d_ pt q st s.took.2).res=.go j_):s.took.1.rest.size<s.rest.size/\s.rest.size≠0/\Ch.gY s.rest 0=true:=by
 have hn:=mV pt q st s.took.2 h;unfold Src.took at hn e ⊢;split
 ·rename_i h0;rw[if_pos h0]at hn e;exact absurd e (hn (Or.inl rfl) hq j_)
 ·rename_i h0;rw[if_neg h0]at hn e;split
  ·rename_i h1;have:=Ch.fk s.rest 0 (by omega);refine⟨?_,h0,h1⟩;simp;omega
  ·rename_i h1;rw[if_neg h1]at hn e;exact absurd e (hn (Or.inr rfl) hq j_)
theorem Cp:∀(n m k:Nat) (s:Src) (pt:Part) (st:St),ue k pt st->s.rest.size<n->n<=m->mz m s pt st=mz n s pt st:=by
 intro n;induction n with
 |zero=>intro m k s pt st _ h;omega
 |succ n ih=>
  intro m k s pt st hl h hm;obtain⟨m,rfl⟩:∃j,m=j+1:=⟨m-1,by omega⟩
  simp only[mz];split
  ·rfl
  ·split
   ·rename_i j_ e;have hk:=mB hl.sound hl.quote e;exact ih m (k+1) _ _ _ (hl.step e) (by omega) (by omega)
   ·rfl
   ·rfl
section
variable{F F':Nat->Prop}{R:Nat}{w w' w'':World}{s s':Src}{p:jt}{st:St}{c:Int}{a:Addr}{pt:Part}{v:Value}
structure Gl(w:World)(a:Addr):Prop where
 tabs:Utf8Tabs 3 4 w
 tab:EW w
 more:More w (.iface 339 (.pointer (some a)))
 et:w.cell? ⟨1,0,none⟩=some (.iface 254 (.agg #[.pointer (some ⟨9,100,none⟩)]))
def Low(F:Nat->Prop):Prop:=∀k,k<=4->¬F k
theorem Gl.size(h:Gl w a):4<w.heap.size:=sS h.tabs
theorem Gl.frame(h:Gl w a)(fr:Frame F w w')(hl:Low F):Gl w' a:=by
 have h4:=h.size;have hb:∀k,k<=4->w'.heap[k]?=w.heap[k]?:=fun k hk=>fr.block k (by omega) (hl k hk);refine⟨⟨fun c hc=>?_,fun i hi=>⟨?_,?_⟩⟩,Cb h.tab fr (hl 2 (by omega)),?_,?_⟩
 ·exact(aj (hb 3 (by omega))).trans (h.tabs.1 c hc)
 ·exact(aj (hb 4 (by omega))).trans (h.tabs.2 i hi).1
 ·exact(aj (hb 4 (by omega))).trans (h.tabs.2 i hi).2
 ·exact(aj (hb 0 (by omega))).trans h.more
 ·exact(aj (hb 1 (by omega))).trans h.et
theorem Low.grow(hl:Low F)(h4:4<w.heap.size):Low (Grow F w w'):=fun k hk h=>h.elim (hl k hk) (fun x=>by omega)
theorem Low.lt(hl:Low F)(h:F R):4<R:=by
 by_cases e:R<=4
 ·exact absurd h (hl R e)
 ·omega
theorem gJ.keep(h:gJ F R w v pt)(hk:∀k,F k->k≠R->w'.heap[k]?=w.heap[k]?)(hF:∀k,F k->F' k):gJ F' R w' v pt:=by
 have bx:∀{b x t},qG F R w b x t->qG F' R w' b x t:=fun h=>⟨(hk _ h.2.1 h.2.2).trans h.1,hF _ h.2.1,h.2.2⟩
 cases pt with
 |plain k=>exact h
 |word l k=>obtain⟨b1,b2,e,x1,x2⟩:=h;exact⟨b1,b2,e,bx x1,bx x2⟩
 |name i k=>obtain⟨b1,b2,b3,e,x1,x2,x3⟩:=h;exact⟨b1,b2,b3,e,bx x1,bx x2,bx x3⟩
 |ref i k=>obtain⟨b1,b2,b3,e,x1,x2,x3⟩:=h;exact⟨b1,b2,b3,e,bx x1,bx x2,bx x3⟩
def RG(F:Nat->Prop)(R:Nat)(w:World)(s:Src)(p:jt)(st:St)(w':World):Prop:=gb (Grow F w w') R w' s p st/\Frame F w w'
theorem RG.refl(h:gb F R w s p st):RG F R w s p st w:=⟨h.RM,Frame.refl _ _⟩
theorem RF.rg(h:RF F R w s p st w'):RG F R w s p st w':=⟨h.1,h.2.1⟩
theorem RG.below(h:RG F R w s p st w')(hb:Z5 w' w''):RG F R w s p st w'':=
 ⟨(h.1.below hb).join h.2.size hb.size,h.2.trans (Frame.below hb)⟩
theorem RG.on{p':jt}{iJ:St}(h:RG F R w s p st w')(k:RG (Grow F w w') R w' s' p' iJ w''):RG F R w s' p' iJ w'':=
 ⟨k.1.join h.2.size k.2.size,h.2.trans k.2⟩
theorem RG.iff(h:RG F R w s p st w')(hF:∀k,F k↔F' k):RG F' R w s p st w':=by refine⟨h.1.mono (fun k hk=>hk.elim (fun x=>Or.inl ((hF k).1 x)) Or.inr) (fun k hk=>h.1.lt k (hk.elim (fun x=>Or.inl ((hF k).2 x)) Or.inr)),⟨h.2.os,h.2.tape,h.2.output,h.2.size,fun k hk hf=>h.2.block k hk (fun x=>hf ((hF k).1 x))⟩⟩
theorem RG.set(h:RG F R w s p st w')(i:Nat)(v:Value)(hc:(cellsOf s p st).setIfInBounds i v=cellsOf s' p st):RG F R w s' p st (w'.setCell ⟨R,i,none⟩ v):=by
 have hsz:(w'.setCell ⟨R,i,none⟩ v).heap.size=w'.heap.size:=by simp[World.setCell]
 have r:=h.1.scalar (s':=s') (iJ:=st) i v hc (fun o=>o);have hG:∀k,Grow F w w' k->Grow F w (w'.setCell ⟨R,i,none⟩ v) k:=fun k hk=>by unfold Grow at*;rw[hsz];exact hk
 have hG':∀k,Grow F w (w'.setCell ⟨R,i,none⟩ v) k->Grow F w w' k:=fun k hk=>by unfold Grow at*;rw[hsz]at hk;exact hk
 refine⟨r.mono hG (fun k hk=>r.lt k (hG' k hk)),⟨h.2.os,h.2.tape,h.2.output,by rw[hsz];exact h.2.size,fun k hk hf=>?_⟩⟩;rw[af _ _ _ _ ?_]
 ·exact h.2.block k hk hf
 ·intro e;have e':k=R:=e;subst e';rcases h.1.j5 with x|x
  ·exact hf x
  ·omega
theorem gJ.grow(h:gJ F R w' v pt)(_hs:w'.heap.size<=w''.heap.size)(hk:∀k,F k->k≠R->w''.heap[k]?=w'.heap[k]?):gJ (Grow F w' w'') R w'' v pt:=
 h.keep hk (fun _ x=>Or.inl x)
theorem gJ.func(h:gJ F R w v pt):∃f cs,v=.func (.func f) #[] cs:=by
 cases pt with
 |plain k=>exact⟨_,_,h⟩
 |word l k=>obtain⟨b1,b2,e,_⟩:=h;exact⟨_,_,e⟩
 |name i k=>obtain⟨b1,b2,b3,e,_⟩:=h;exact⟨_,_,e⟩
 |ref i k=>obtain⟨b1,b2,b3,e,_⟩:=h;exact⟨_,_,e⟩
def Src.Ok(s:Src):Prop:=0<=s.next/\s.next+s.rest.size<=1099511627776
def qo(F:Nat->Prop)(R:Nat)(w:World)(a:Addr)(m:Rd)(e:Ending)(w':World):Prop:=
 ∃v p',RG F R w {m.s with now:=v} p' m.st w'/\
  match m.ret with
  | .more=>e=.returned (.iface 339 (.pointer (some a)))/\gJ (Grow F w w') R w' v m.pt
  | .over=>e=.returned .nilIface/\v=.nilFunc
  | .fail no q=>e=.returned (oD no q)/\v=.nilFunc
def RI(F:Nat->Prop)(R:Nat)(w:World)(m:Rd)(N:Nat)(wr:World):Prop:=
 ∃(s':Src) (p':jt) (iJ:St),RG F R w s' p' iJ wr/\
  ((∃pt n,gJ (Grow F w wr) R wr s'.now pt/\ue n pt iJ/\n+s'.rest.size<=N/\s'.Ok/\reads s'.bare pt iJ=m)\/
   (s'.now=.nilFunc/\m.s=s'.bare/\m.st=iJ/\m.ret=.over))
def sV(R:Nat)(w:World):Nat:=
 (match w.cell? ⟨R,0,none⟩with|some (.string b)=>2*b.size|_=>0)+(match w.cell? ⟨R,4,none⟩with|some .nilFunc=>0|_=>1)
theorem z6(h:gb F R w s p st){f:Nat}{cs:Array Value}(e:s.now=.func (.func f) #[] cs):sV R w=2*s.rest.size+1:=by
 have c0:w.cell? ⟨R,0,none⟩=some (.string s.rest):=h.cell 0 rfl;have c4:w.cell? ⟨R,4,none⟩=some s.now:=h.cell 4 rfl;simp only[sV,c0,c4,e]
theorem GJ(h:gb F R w s p st)(e:s.now=.nilFunc):sV R w=2*s.rest.size:=by
 have c0:w.cell? ⟨R,0,none⟩=some (.string s.rest):=h.cell 0 rfl;have c4:w.cell? ⟨R,4,none⟩=some s.now:=h.cell 4 rfl;simp only[sV,c0,c4,e,bH]
theorem GK(s:Src):ux s.took.2:=by
 unfold Src.took;split
 ·exact Or.inr (Or.inl rfl)
 ·split
  ·rename_i h;simp only[Ch.gY,aY]at h;exact Or.inl h.1
  ·exact Or.inr (Or.inr rfl)
theorem yE(s:Src):s.took.1.at_=s.next:=by
 unfold Src.took;repeat' split
 all_goals rfl
theorem L_(h:s.Ok):s.took.1.Ok/\s.took.1.rest.size<=s.rest.size:=by
 unfold Src.took Src.Ok at*
 split
 ·exact⟨h,ah _⟩
 ·split
  ·have:=Ch.fk s.rest 0 (by omega);simp only[cw];omega
  ·exact⟨h,ah _⟩
theorem z7(s:Src):s.took.1.now=s.now:=by
 unfold Src.took;repeat' split
 all_goals rfl
theorem J9(h:s.more=true):reads s.bare pt st=⟨s.bare,pt,st,.more⟩:=by unfold reads mz;rw[Co,if_pos h]
theorem uE{n:Nat}(hl:ue n pt st)(h:s.more=false):
  reads s.bare pt st=match (d_ pt s.next st s.took.2).res with
   | .go j_=>reads s.took.1.bare j_ (d_ pt s.next st s.took.2).st
   | .stop=>⟨s.took.1.bare,pt,(d_ pt s.next st s.took.2).st,.over⟩
   | .fail no q=>⟨s.took.1.bare,pt,(d_ pt s.next st s.took.2).st,.fail no q⟩:=by
 have ha:s.took.1.bare.at_=s.next:=yE s
 conv=>lhs;unfold reads
 simp only[mz,Co,h,aA,bf,Oj,ha];generalize he:(d_ pt s.next st s.took.2).res=r;cases r with
 |go j_=>
  have hk:=mB hl.sound hl.quote he;exact Cp (s.took.1.rest.size+1) s.rest.size (n+1) s.took.1.bare _ _ (hl.step he) (Nat.lt_succ_self _) (by omega)
 |stop=>rfl
 |fail no q=>rfl
end
section
variable{F F':Nat->Prop}{R:Nat}{w w' w'' wr:World}{s s':Src}{p:jt}{st:St}{c:Int}{a:Addr}{pt:Part}{v:Value}{m:Rd}{N n:Nat}
structure Head(F:Nat->Prop)(R:Nat)(w:World)(m:Rd)(N:Nat)(wr:World)(s':Src)(p':jt)(iJ:St)(pt:Part)(n:Nat):Prop where
 rg:RG F R w s' p' iJ wr
 part:gJ (Grow F w wr) R wr s'.now pt
 lim:ue n pt iJ
 le:n+s'.rest.size<=N
 ok:s'.Ok
 eq:reads s'.bare pt iJ=m
theorem Head.more(h:Head F R w m N wr s' p st pt n)(hm:s'.more=true)(hb:Z5 wr w'):qo F R w a m (.returned (.iface 339 (.pointer (some a)))) w':=by
 have e:=(J9 hm).symm.trans h.eq;subst e;refine⟨s'.now,p,h.rg.below hb,rfl,?_⟩;exact h.part.keep (fun k hk _=>hb.block k (h.rg.1.lt k hk)) (fun k hk=>hk.elim Or.inl (fun x=>Or.inr ⟨x.1,ak x.2 hb.size⟩))
theorem Head.call(h:Head F R w m N wr s' p st pt n)(gl:Gl w a)(lo:Low F)(hN:N<=274877906944)(hr:RF (Grow F w wr) R wr s'.took.1 p st w'):
  ∃f cs,s'.now=.func (.func f) #[] cs/\(∀args w,(callFunc f args).run prog w=.ok (.enter f args) w)/\
   Z4 f (#[Z8 R,.int .i32 s'.took.2]++cs) w' (eJ (Grow (Grow F w wr) wr w') R w' s'.took.1 (d_ pt s'.next st s'.took.2)):=by
 have hl:=h.rg.1.lt;have pa:gJ (Grow (Grow F w wr) wr w') R w' s'.took.1.now pt:=by
  rw[z7];exact h.part.grow hr.2.1.size (fun k hk hR=>hr.2.2 k (hl k hk) hR)
 have GM:=gl.frame h.rg.2 lo;have SF:Low (Grow F w wr):=lo.grow gl.size;have gl2:=GM.frame hr.2.1 SF;have lo2:Low (Grow (Grow F w wr) wr w'):=SF.grow GM.size;have ht:=h.lim.acN (by have:=h.le;omega);have jO:=h.ok;have hc:=NW pt _ hr.1 pa h.lim.sound (GK s') ht (h.lim.both (by have:=h.le;omega)) (by unfold Src.Fits;rw[yE];unfold Src.Ok at jO;omega) gl2.tab (lo2 2 (by omega));rw[z7,yE]at hc;exact hc
theorem Head.go{p2:jt}{w2:World}{j_:Part}(h:Head F R w m N wr s' p st pt n)(hm:s'.more=false)(hr:RF (Grow F w wr) R wr s'.took.1 p st w')
  (he:(d_ pt s'.next st s'.took.2).res=.go j_) (hp:RG (Grow (Grow F w wr) wr w') R w' s'.took.1 p2 (d_ pt s'.next st s'.took.2).st w2) (hv:gJ (Grow (Grow (Grow F w wr) wr w') w' w2) R w2 v j_):
  Head F R w m N (w2.setCell ⟨R,4,none⟩ v) {s'.took.1 with now:=v} p2 (d_ pt s'.next st s'.took.2).st j_ (n+1)/\s'.took.1.rest.size<s'.rest.size:=by
 have hk:=mB h.lim.sound h.lim.quote he;have ho:=L_ h.ok;have r2:RG F R w s'.took.1 p2 (d_ pt s'.next st s'.took.2).st w2:=(h.rg.on hr.rg).on (hp.iff (fun k=>Grow.trans h.rg.2.size hr.2.1.size k));refine⟨⟨r2.set (s':={s'.took.1 with now:=v}) 4 v rfl,?_,h.lim.step he,?_,ho.1,?_⟩,hk.1⟩
 ·refine hv.keep (fun k _ hR=>af _ _ _ _ hR) (fun k hk=>?_);have hsz:(w2.setCell ⟨R,4,none⟩ v).heap.size=w2.heap.size:=by simp[World.setCell]
  unfold Grow at hk ⊢;rw[hsz];have:=h.rg.2.size;have:=hr.2.1.size;have:=hp.2.size;rcases hk with((hk|hk)|hk)|hk
  ·exact Or.inl hk
  ·exact Or.inr (by omega)
  ·exact Or.inr (by omega)
  ·exact Or.inr (by omega)
 ·have:=h.le;show n+1+s'.took.1.rest.size<=N;omega
 ·rw[<-h.eq,uE h.lim hm,he];rfl
theorem Head.stop{p2:jt}{w2:World}(h:Head F R w m N wr s' p st pt n)(hm:s'.more=false)(hr:RF (Grow F w wr) R wr s'.took.1 p st w')
  (he:(d_ pt s'.next st s'.took.2).res=.stop) (hp:RG (Grow (Grow F w wr) wr w') R w' s'.took.1 p2 (d_ pt s'.next st s'.took.2).st w2):
  RI F R w m N (w2.setCell ⟨R,4,none⟩ .nilFunc)/\sV R (w2.setCell ⟨R,4,none⟩ .nilFunc)<2*s'.rest.size+1:=by
 have r2:RG F R w s'.took.1 p2 (d_ pt s'.next st s'.took.2).st w2:=(h.rg.on hr.rg).on (hp.iff (fun k=>Grow.trans h.rg.2.size hr.2.1.size k));have r3:=r2.set (s':={s'.took.1 with now:=.nilFunc}) 4 .nilFunc rfl;have ho:=L_ h.ok;have e:=h.eq;rw[uE h.lim hm,he]at e;subst e;refine⟨⟨_,_,_,r3,Or.inr ⟨rfl,rfl,rfl,rfl⟩⟩,?_⟩;rw[GJ r3.1 rfl];show 2*s'.took.1.rest.size<_;omega
theorem Head.fail{p2:jt}{w2:World}{no q:Int}(h:Head F R w m N wr s' p st pt n)(hm:s'.more=false)(hr:RF (Grow F w wr) R wr s'.took.1 p st w')
  (he:(d_ pt s'.next st s'.took.2).res=.fail no q) (hp:RG (Grow (Grow F w wr) wr w') R w' s'.took.1 p2 (d_ pt s'.next st s'.took.2).st w2):
  qo F R w a m (.returned (oD no q)) (w2.setCell ⟨R,4,none⟩ .nilFunc):=by
 have r2:RG F R w s'.took.1 p2 (d_ pt s'.next st s'.took.2).st w2:=(h.rg.on hr.rg).on (hp.iff (fun k=>Grow.trans h.rg.2.size hr.2.1.size k));have r3:=r2.set (s':={s'.took.1 with now:=.nilFunc}) 4 .nilFunc rfl;have e:=h.eq;rw[uE h.lim hm,he]at e;subst e;exact⟨.nilFunc,p2,r3,rfl,rfl⟩
theorem RI.over(hg:RG F R w s' p st wr)(h1:s'.now=.nilFunc)(h2:m.s=s'.bare)(h3:m.st=st)(h4:m.ret=.over):qo F R w a m (.returned .nilIface) wr:=by
 obtain⟨r0,n0,a0,e0,nw,no0,f0,cl0⟩:=s';simp only at h1;subst h1;obtain⟨ms,mp,mst,mr⟩:=m;cases h2;cases h3;cases h4;exact⟨.nilFunc,p,hg,rfl,rfl⟩
theorem ZX(f:Nat)(cs:Array Value)(w:World):(binOp .neq 128 (.func (.func f) #[] cs) .nilFunc).run prog w=.ok (.bool true) w:=by kernel_rfl
theorem WE(w:World):(binOp .neq 128 .nilFunc .nilFunc).run prog w=.ok (.bool false) w:=by kernel_rfl
theorem WG(h:gb F R w s p st)(Gp:gJ F R w s.now pt)(hl:ue n pt st)(gl:Gl w a)(lo:Low F)(hn:n+s.rest.size<=N)(hN:N<=274877906944)(jO:s.Ok):
  Z4 87 #[Z8 R] w (qo F R w a (reads s.bare pt st)):=by
 have h0:RI F R w (reads s.bare pt st) N w:=⟨s,p,st,RG.refl h,Or.inl ⟨pt,n,Gp.grow (ah _) (fun _ _ _=>rfl),hl,hn,jO,rfl⟩⟩
 generalize reads s.bare pt st=m at*
 have H0:=a_ h0;have GL:=a_ gl;have LO:=a_ lo;have hR4:=lo.lt h.j5;clear h Gp hl gl lo hn jO h0;have hnf:=ZX;have Jg:=WE;go_enter func87,ntmps87;go_wp2;go_loopw [] (fun wr=>RI F R w m N wr) (fun wr=>sV R wr)
 case atStart=>exact H0.out
 case round=>
  obtain⟨s',p',iJ,rg,hc⟩:=hrel;rcases hc with⟨j_,n',hp',hl',hle,SG,heq⟩|⟨hno,hs,hst,hov⟩
  ·have hd:Head F R w m N wr s' p' iJ j_ n':=⟨rg,hp',hl',hle,SG,heq⟩
   obtain⟨f,cs,hf⟩:=hp'.func;have c4:wr.cell? ⟨R,4,none⟩=some s'.now:=rg.1.cell 4 rfl;have N7:=z6 rg.1 hf;rw[hf]at c4;have GM:=GL.out.frame rg.2 LO.out;by_cases hm:s'.more=true
   ·have sq:=Od rg.1 GM.tabs a GM.more hm;have HD:=a_ hd;clear hd rg hp' hl' heq hle SG hf N7 GM;go_wp2_with(go_at_call 123;refine sq.mono ?_;rintro e w1 ⟨rfl,b1⟩);go_ret;exact HD.out.more hm b1
   ·have tD:s'.more=false:=by simpa using hm
    have sq:=WD rg.1 GM.tabs hR4 (by unfold Src.Ok at SG;omega) (by unfold Src.Ok at SG;omega) tD;have qQ:=fun w1 (x:RF (Grow F w wr) R wr s'.took.1 p' iJ w1)=>hd.call GL.out LO.out hN x;have HD:=a_ hd;have HMU:=a_ N7;have HF:=a_ hf;have AR:=a_ qQ;have SH:=z7 s';rw[hf]at SH;clear hd rg hp' hl' heq hle SG hf N7 GM qQ hm;unfold yC at sq;obtain⟨c,hc⟩:∃c,c=s'.took.2:=⟨_,rfl⟩
    have HC:=a_ hc;rw[<-hc]at sq AR;clear hc;go_wp2_with(go_at_call 123;refine sq.mono ?_;rintro e w1 ⟨rfl,rf1⟩;have c4':w1.cell? ⟨R,4,none⟩=some (.func (.func f) #[] cs):=by(rw[<-SH];exact rf1.1.cell 4 rfl));obtain⟨f',cs',hf',hen,fg⟩:=AR.out _ rf1;rw[HF.out]at hf';simp only[Value.func.injEq,Fn.func.injEq,dN]at hf';obtain⟨rfl,rfl⟩:=hf';rw[hen];go_wp2_with fail;refine fg.mono ?_;rintro e w2 ⟨p2,r2,tO,hP⟩;have rg2:RG (Grow (Grow F w wr) wr w1) R w1 s'.took.1 p2 (d_ j_ s'.next iJ c).st w2:=⟨r2,tO⟩
    have d4:w2.cell? ⟨R,4,none⟩=some (.func (.func f) #[] cs):=by rw[<-SH];exact r2.cell 4 rfl
    have f4:=r2.free 4;have RF1:=a_ rf1;have RG2:=a_ rg2;clear rf1 rg2 r2 tO AR sq fg c4' c4;generalize hres:(d_ j_ s'.next iJ c).res=res at hP;cases res with
    |go pt2=>
     obtain⟨v',rfl,hv'⟩:=hP;obtain⟨f2,IC,rfl⟩:=hv'.func;have abn:=rE w2 ⟨R,4,none⟩ _ (.func (.func f2) #[] IC) rfl d4 f4;have E:=a_ (HD.out.go tD RF1.out (HC.out.symm▸hres) (HC.out.symm▸RG2.out) hv');clear hv';go_wp2
     go_roundw
     case rel=>
      obtain⟨Fg,hlt⟩:=E.out;exact⟨_,_,_,Fg.rg,Or.inl ⟨pt2,n'+1,Fg.part,Fg.lim,Fg.le,Fg.ok,Fg.eq⟩⟩
     case measure=>
      obtain⟨Fg,hlt⟩:=E.out;rw[z6 Fg.rg.1 rfl,HMU.out];show 2*s'.took.1.rest.size+1<_;omega
    |stop=>
     simp only at hP;subst hP;have abn:=rE w2 ⟨R,4,none⟩ _ .nilFunc rfl d4 f4;have E:=a_ (HD.out.stop tD RF1.out (HC.out.symm▸hres) (HC.out.symm▸RG2.out));go_wp2
     go_roundw
     case rel=>exact E.out.1
     case measure=>
      rw[HMU.out];exact E.out.2
    |fail no q=>
     simp only at hP;subst hP;have abn:=rE w2 ⟨R,4,none⟩ _ .nilFunc rfl d4 f4;have E:=a_ (HD.out.fail (a:=a) tD RF1.out (HC.out.symm▸hres) (HC.out.symm▸RG2.out));unfold oD at*
     go_wp2;go_ret;exact E.out
  ·have c4:wr.cell? ⟨R,4,none⟩=some s'.now:=rg.1.cell 4 rfl;rw[hno]at c4;have E:=a_ (RI.over (a:=a) rg hno hs hst hov);clear rg hs hst hov;go_wp2;go_ret;exact E.out
end
end K
end Go.Proofs.YtjecakcpcnmieaaGreatDoor
namespace Go.Proofs
open Go.Shelf
def Tryz.lays316_ren:Go.Shelf.Ren:=⟨fun|316=>167|n=>n,fun|0=>0|3=>3|4=>4|5=>5|9=>9|37=>49|127=>155|n=>n,fun|n=>n⟩
theorem Tryz.lays316:Go.Proofs.LaysM.n316 Tryz.prog Tryz.lays316_ren:={
 mixed:=by kernel_rfl
 f316:=Tryz.func167.trans (aC some (by kernel_rfl))
 t0:=Tryz.underlying0
 a0:=Tryz.isAgg0
 z0:=Tryz.sizeOf0
 v0:=Tryz.zeroValue0
 i0:=by kernel_rfl
 t3:=Tryz.underlying3
 a3:=Tryz.isAgg3
 z3:=Tryz.sizeOf3
 v3:=Tryz.zeroValue3
 i3:=by kernel_rfl
 t4:=Tryz.underlying4
 a4:=Tryz.isAgg4
 z4:=Tryz.sizeOf4
 v4:=Tryz.zeroValue4
 i4:=by kernel_rfl
 t5:=Tryz.underlying5
 a5:=Tryz.isAgg5
 z5:=Tryz.sizeOf5
 v5:=Tryz.zeroValue5
 i5:=by kernel_rfl
 t9:=Tryz.underlying9
 a9:=Tryz.isAgg9
 z9:=Tryz.sizeOf9
 v9:=Tryz.zeroValue9
 i9:=by kernel_rfl
 t37:=Tryz.underlying49
 a37:=Tryz.isAgg49
 z37:=Tryz.sizeOf49
 v37:=Tryz.zeroValue49
 i37:=by kernel_rfl
 t127:=Tryz.underlying155
 a127:=Tryz.isAgg155
 z127:=Tryz.sizeOf155
 v127:=Tryz.zeroValue155
 i127:=by kernel_rfl}
end Go.Proofs
namespace Go.Proofs.YtjecakcpcnmieaaGreatDoor
namespace K
open Go.RowKit Tryz
theorem Ol(s:ByteArray)(w:World)(hlim:s.size<=281474976710656):
  Z4 126 #[.string s] w (Z7 (.string s) w):=by
 have hc:=Any.stringslite_Clone lays316 s w hlim;go_enter func126,ntmps126;go_wp2_with(go_at_call 167;refine hc.mono ?_;rintro e w1 ⟨rfl,b1⟩);go_ret;exact⟨rfl,b1⟩
end K
end Go.Proofs.YtjecakcpcnmieaaGreatDoor
