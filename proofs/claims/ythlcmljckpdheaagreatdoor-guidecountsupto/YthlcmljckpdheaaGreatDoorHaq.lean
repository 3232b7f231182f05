import Derived.Test.YthlcmljckpdheaaGreatDoorHA
import Derived.Lib.DecodeN
import Derived.Shelf.Strconv.Clone
import Derived.Test.YthlcmljckpdheaaGreatDoorProg
import Derived.WalkKit
import Derived.Outline
import Derived.Test.YthlcmljckpdheaaGreatDoorHaj
import Derived.Test.YthlcmljckpdheaaGreatDoorHao
import Derived.Test.YthlcmljckpdheaaGreatDoorHai
set_option linter.unusedVariables false
set_option linter.unusedSimpArgs false
set_option maxHeartbeats 32000000
set_option maxRecDepth 100000
namespace Go.Proofs.YthlcmljckpdheaaGreatDoor
namespace K
open Go.RowKit Go.Maps Go.Lib Tryz
theorem Im(s:ByteArray)(f lo hi a:Nat)(hf:(f=52/\a=3)\/(f=4/\a=0)\/(f=68/\a=4))(w:World)(hn:s.size=3)(x0 x1 x2:UInt8)(hs0:s[0]'(by omega)=x0)(hs1:s[1]'(by omega)=x1)(hs2:s[2]'(by omega)=x2)
  (hc0:w.cell? ⟨4,x0.toNat,none⟩=some (.int .u8 f)) (ha0:w.cell? ⟨5,2*a,none⟩=some (.int .u8 lo)) (ha1:w.cell? ⟨5,2*a+1,none⟩=some (.int .u8 hi)) (acn:5<w.heap.size):
  Z4 158 #[.string s] w (LF w (decide (x1.toNat<lo)||decide (hi<x1.toNat)||(decide (x2.toNat<128)||decide (191<x2.toNat)))):=by
 have l0:=x0.toNat_lt;have l1:=x1.toNat_lt;have l2:=x2.toNat_lt;have hz0:(0:Int)<(s.size:Int):=by omega
 have hz1:(1:Int)<(s.size:Int):=by omega
 have hz2:(2:Int)<(s.size:Int):=by omega
 by_cases hl:x1.toNat<lo
 ·have e1:(x1.toNat:Int)<(lo:Int):=by omega
  rw[show (decide (x1.toNat<lo)||decide (hi<x1.toNat)||(decide (x2.toNat<128)||decide (191<x2.toNat)))=true by simp[hl]];rcases hf with⟨rfl,rfl⟩|⟨rfl,rfl⟩|⟨rfl,rfl⟩;all_goals
   simp only[Nat.reduceMul,Nat.reduceAdd]at ha0 ha1;go_enter func158,ntmps158;go_wp2_with fail;go_quiet(fail);go_wp2;go_ret;exact⟨rfl,(below_drewN ((Below.refl _ w).alloc (aj _) _) _)⟩
 ·have e1:¬((x1.toNat:Int)<(lo:Int)):=by omega
  have e1':decide ((x1.toNat:Int)<(lo:Int))=false:=by simpa using e1
  by_cases hh:hi<x1.toNat
  ·have e2:(hi:Int)<(x1.toNat:Int):=by omega
   rw[show (decide (x1.toNat<lo)||decide (hi<x1.toNat)||(decide (x2.toNat<128)||decide (191<x2.toNat)))=true by simp[hh]];rcases hf with⟨rfl,rfl⟩|⟨rfl,rfl⟩|⟨rfl,rfl⟩;all_goals
    simp only[Nat.reduceMul,Nat.reduceAdd]at ha0 ha1;go_enter func158,ntmps158;go_wp2_with fail;go_quiet(fail);go_wp2;go_ret;exact⟨rfl,(below_drewN ((Below.refl _ w).alloc (aj _) _) _)⟩
  ·have e2:¬((hi:Int)<(x1.toNat:Int)):=by omega
   have e2':decide ((hi:Int)<(x1.toNat:Int))=false:=by simpa using e2
   by_cases hm:x2.toNat<128
   ·have e3:(x2.toNat:Int)<128:=by omega
    rw[show (decide (x1.toNat<lo)||decide (hi<x1.toNat)||(decide (x2.toNat<128)||decide (191<x2.toNat)))=true by simp[hm]];rcases hf with⟨rfl,rfl⟩|⟨rfl,rfl⟩|⟨rfl,rfl⟩;all_goals
     simp only[Nat.reduceMul,Nat.reduceAdd]at ha0 ha1;go_enter func158,ntmps158;go_wp2_with fail;go_quiet(fail);go_wp2;go_ret;exact⟨rfl,(below_drewN ((Below.refl _ w).alloc (aj _) _) _)⟩
   ·have e3:¬((x2.toNat:Int)<128):=by omega
    by_cases hq:191<x2.toNat
    ·have e4:(191:Int)<(x2.toNat:Int):=by omega
     rw[show (decide (x1.toNat<lo)||decide (hi<x1.toNat)||(decide (x2.toNat<128)||decide (191<x2.toNat)))=true by simp[hq]];rcases hf with⟨rfl,rfl⟩|⟨rfl,rfl⟩|⟨rfl,rfl⟩;all_goals
      simp only[Nat.reduceMul,Nat.reduceAdd]at ha0 ha1;go_enter func158,ntmps158;go_wp2_with fail;go_quiet(fail);go_wp2;go_ret;exact⟨rfl,(below_drewN ((Below.refl _ w).alloc (aj _) _) _)⟩
    ·have e4:¬((191:Int)<(x2.toNat:Int)):=by omega
     rw[show (decide (x1.toNat<lo)||decide (hi<x1.toNat)||(decide (x2.toNat<128)||decide (191<x2.toNat)))=false by simp[hl,hh,hm,hq]];rcases hf with⟨rfl,rfl⟩|⟨rfl,rfl⟩|⟨rfl,rfl⟩;all_goals
      simp only[Nat.reduceMul,Nat.reduceAdd]at ha0 ha1;go_enter func158,ntmps158;go_wp2_with fail;go_quiet(fail);go_wp2;go_ret;exact⟨rfl,(below_drewN ((Below.refl _ w).alloc (aj _) _) _)⟩
theorem PY(s:ByteArray)(f:Nat)(hf:f=240\/f=241\/f=2\/f=19\/f=3\/f=35\/f=52\/f=4\/f=68)(w:World)(hn:0<s.size)(hfn:f%8<=s.size)(x0:UInt8)(hs0:s[0]'hn=x0)
  (hc0:w.cell? ⟨4,x0.toNat,none⟩=some (.int .u8 f)):
  Z4 158 #[.string s] w (LF w true):=by
 have l0:=x0.toNat_lt;have hz0:(0:Int)<(s.size:Int):=by omega
 have hz:((s.size:Int)==0)=false:=by
  have:(s.size:Int)≠0:=by omega
  simpa using this
 rcases hf with rfl|rfl|rfl|rfl|rfl|rfl|rfl|rfl|rfl;all_goals
  simp only[Nat.reduceMod]at hfn;go_enter func158,ntmps158;go_wp2;go_ret;exact⟨rfl,Below.refl _ _⟩
theorem Mc(s:ByteArray)(w:World)(hn:s.size=0):Z4 158 #[.string s] w (LF w false):=by
 go_enter func158,ntmps158;go_wp2;go_ret;exact⟨rfl,Below.refl _ _⟩
def Tk.full(t:ByteArray):Bool:=if t.size=0 then false else po t.size (firstT (t.get! 0).toNat) (t.get! 1).toNat (t.get! 2).toNat
theorem rX{w:World}(hT:Utf8Tabs 4 5 w):5<w.heap.size:=by
 have h:=(hT.2 0 (by omega)).1;exact aU w _ h
theorem Fe(t:ByteArray)(w:World)(hT:Utf8Tabs 4 5 w):Z4 158 #[.string t] w (LF w (Tk.full t)):=by
 have ZH:=rX hT;unfold Tk.full;by_cases h0:t.size=0
 ·rw[if_pos h0];exact Mc t w h0
 rw[if_neg h0];have hs0:t[0]'(by omega)=t.get! 0:=(Utf8W.get!_of_lt t 0 (by omega)).symm;have l0:=(t.get! 0).toNat_lt;have hc0:=hT.1 (t.get! 0).toNat (by omega);have YS:=firstT_cases (t.get! 0).toNat;generalize firstT (t.get! 0).toNat=f at*
 by_cases hb:f%8<=t.size
 ·rw[show po t.size f (t.get! 1).toNat (t.get! 2).toNat=true by simp[po,hb]];exact PY t f YS w (by omega) hb _ hs0 hc0
 have ha:=hT.2 (f/16) (by rcases YS with h|h|h|h|h|h|h|h|h<;>subst h<;>decide);by_cases h1:t.size=1
 ·rw[show po t.size f (t.get! 1).toNat (t.get! 2).toNat=false by
   rw[h1]at hb ⊢;simp only[po,dB,Bool.and_eq_false_iff,cX];exact⟨hb,Or.inl (by omega),Or.inl (by omega)⟩]
  exact Pj t f _ _ (f/16) (by rcases YS with h|h|h|h|h|h|h|h|h<;>subst h<;>first|omega|(simp at hb;omega)|simp) w h1 _ hs0 hc0 ha.1 ha.2 ZH
 have hs1:t[1]'(by omega)=t.get! 1:=(Utf8W.get!_of_lt t 1 (by omega)).symm;by_cases h2:t.size=2
 ·rw[show po t.size f (t.get! 1).toNat (t.get! 2).toNat=(decide ((t.get! 1).toNat<accLo (f/16))||decide (accHi (f/16)<(t.get! 1).toNat)) by
   rw[h2]at hb ⊢;simp[po,hb]]
  exact Pm t f _ _ (f/16) (by rcases YS with h|h|h|h|h|h|h|h|h<;>subst h<;>first|omega|(simp at hb;omega)|simp) w h2 _ _ hs0 hs1 hc0 ha.1 ha.2 ZH
 have h3:t.size=3:=by rcases YS with h|h|h|h|h|h|h|h|h<;>subst h<;>simp at hb<;>omega
 have hs2:t[2]'(by omega)=t.get! 2:=(Utf8W.get!_of_lt t 2 (by omega)).symm;rw[show po t.size f (t.get! 1).toNat (t.get! 2).toNat=(decide ((t.get! 1).toNat<accLo (f/16))||decide (accHi (f/16)<(t.get! 1).toNat)||(decide ((t.get! 2).toNat<128)||decide (191<(t.get! 2).toNat))) by
                                                                              rw[h3]at hb ⊢;simp[po,hb]]
 exact Im t f _ _ (f/16) (by rcases YS with h|h|h|h|h|h|h|h|h<;>subst h<;>first|omega|(simp at hb;omega)|simp) w h3 _ _ _ hs0 hs1 hs2 hc0 ha.1 ha.2 ZH
end K
end Go.Proofs.YthlcmljckpdheaaGreatDoor
namespace Go.Proofs.YthlcmljckpdheaaGreatDoor
namespace K.Ch
open Go.Proofs.YthlcmljckpdheaaGreatDoor.Ch
open Go
theorem vU{s t:ByteArray}{i j:Nat}(h:i<s.size)(nb:Utf8.decode s i≠(65533,1))(hb:∀k,k<(Utf8.decode s i).2->bz s (i+k)=bz t (j+k)):Utf8.decode t j=Utf8.decode s i:=by
 have h0:0<=bz s i:=by unfold bz;rw[if_pos h];omega
 have YA:=tZ s i;have hw:=fo s i h;have b0:=hb 0 (by omega);simp only[bN]at b0;by_cases a1:bz s i<128
 ·rw[gM h0 a1,gM (by omega) (by omega),b0]
 by_cases a2:bz s i<192
 ·exact absurd (fN (Or.inl ⟨by omega,a2⟩)) nb
 by_cases a3:bz s i<224
 ·by_cases c1:cont s (i+1)
  ·have hd:=iN (by omega) a3 c1;by_cases hz:128<=acc s i (bz s i-192) 1
   ·rw[if_pos hz]at hd;rw[hd]at hb;have b1:=hb 1 (by simp);have d1:cont t (j+1):=by unfold cont at*;rw[<-b1];exact c1
    rw[iN (by omega) a3 c1,iN (by omega) (by omega) d1];simp only[acc,ax,b0,b1]
   ·rw[if_neg hz]at hd;exact absurd hd nb
  ·exact absurd (ie (by omega) a3 c1) nb
 by_cases a4:bz s i<240
 ·by_cases c1:cont s (i+1)
  ·by_cases c2:cont s (i+2)
   ·have hd:=gJ (by omega) a4 c1 c2;by_cases hz:2048<=acc s i (bz s i-224) 2/\Utf8.valid (acc s i (bz s i-224) 2)=true
    ·rw[if_pos hz]at hd;rw[hd]at hb;have b1:=hb 1 (by simp);have b2:=hb 2 (by simp);have d1:cont t (j+1):=by unfold cont at*;rw[<-b1];exact c1
     have d2:cont t (j+2):=by unfold cont at*;rw[<-b2];exact c2
     rw[gJ (by omega) a4 c1 c2,gJ (by omega) (by omega) d1 d2];simp only[acc,ax,Nat.reduceAdd,b0,b1,b2]
    ·rw[if_neg hz]at hd;exact absurd hd nb
   ·exact absurd (fE (by omega) a4 (Or.inr c2)) nb
  ·exact absurd (fE (by omega) a4 (Or.inl c1)) nb
 by_cases a5:bz s i<248
 ·by_cases c1:cont s (i+1)
  ·by_cases c2:cont s (i+2)
   ·by_cases c3:cont s (i+3)
    ·have hd:=il (by omega) a5 c1 c2 c3;by_cases hz:65536<=acc s i (bz s i-240) 3/\Utf8.valid (acc s i (bz s i-240) 3)=true
     ·rw[if_pos hz]at hd;rw[hd]at hb;have b1:=hb 1 (by simp);have b2:=hb 2 (by simp);have b3:=hb 3 (by simp);have d1:cont t (j+1):=by unfold cont at*;rw[<-b1];exact c1
      have d2:cont t (j+2):=by unfold cont at*;rw[<-b2];exact c2
      have d3:cont t (j+3):=by unfold cont at*;rw[<-b3];exact c3
      rw[il (by omega) a5 c1 c2 c3,il (by omega) (by omega) d1 d2 d3];simp only[acc,ax,Nat.reduceAdd,b0,b1,b2,b3]
     ·rw[if_neg hz]at hd;exact absurd hd nb
    ·exact absurd (fq (by omega) a5 (Or.inr (Or.inr c3))) nb
   ·exact absurd (fq (by omega) a5 (Or.inr (Or.inl c2))) nb
  ·exact absurd (fq (by omega) a5 (Or.inl c1)) nb
 ·exact absurd (fN (Or.inr (by omega))) nb
theorem Ff(t:ByteArray)(n:Nat):t.extract 0 n=txt (t.data.toList.take n):=by
 apply cq;apply dX;simp[txt,List.take_drop]
theorem tJ(t:ByteArray)(n k:Nat)(_hn:n<=t.size):bz (t.extract 0 n) k=if k<n then bz t k else-1:=by
 have e:bz t k=bz (txt t.data.toList) k:=by rw[Pb]
 rw[Ff,tB,e,tB,bW];by_cases h:k<n
 ·simp[h]
 ·simp[h]
theorem CY(t:ByteArray)(h:0<t.size):Utf8.decode (t.extract 0 (Utf8.decode t 0).2) 0=Utf8.decode t 0:=by
 have hw:=fo t 0 h;by_cases nb:Utf8.decode t 0=(65533,1)
 ·rw[nb];show Utf8.decode (t.extract 0 1) 0=(65533,1);have h0:0<=bz t 0:=by unfold bz;rw[if_pos h];omega
  have YA:=tZ t 0;have Ct:128<=bz t 0:=by
   by_cases a:bz t 0<128
   ·rw[gM h0 a]at nb;simp only[cw]at nb;omega
   ·omega
  have b0:bz (t.extract 0 1) 0=bz t 0:=by rw[tJ t 1 0 (by omega)];simp
  have b1:bz (t.extract 0 1) 1= -1:=by rw[tJ t 1 1 (by omega)];simp
  have c1:¬cont (t.extract 0 1) (0+1):=by unfold cont;rw[ax,b1];omega
  by_cases a2:bz t 0<192
  ·exact fN (Or.inl ⟨by omega,by omega⟩)
  by_cases a3:bz t 0<224
  ·exact ie (by omega) (by omega) c1
  by_cases a4:bz t 0<240
  ·exact fE (by omega) (by omega) (Or.inl c1)
  by_cases a5:bz t 0<248
  ·exact fq (by omega) (by omega) (Or.inl c1)
  ·exact fN (Or.inr (by omega))
 ·refine vU h nb ?_;intro k hk;rw[ax,tJ t _ k (by omega),if_pos hk]
theorem yV(t:ByteArray)(h:0<t.size):bad (t.extract 0 (Utf8.decode t 0).2)=if gW t 0=true then(Utf8.decode t 0).2 else 0:=by
 have hw:=fo t 0 h;have hd:=CY t h;have ho:gW (t.extract 0 (Utf8.decode t 0).2) 0=gW t 0:=JX hd;have hs:(t.extract 0 (Utf8.decode t 0).2).size=(Utf8.decode t 0).2:=by simp;omega
 generalize t.extract 0 (Utf8.decode t 0).2=u at*
 unfold bad;rw[l9.eq_2,if_pos (by omega),ho,hd,hs];split
 ·obtain⟨m,hm⟩:∃m,(Utf8.decode t 0).2=m+1:=⟨(Utf8.decode t 0).2-1,by omega⟩
  rw[hm,l9.eq_2,if_neg (by omega),hs,hm]
 ·rfl
end K.Ch
end Go.Proofs.YthlcmljckpdheaaGreatDoor
namespace Go.Proofs.YthlcmljckpdheaaGreatDoor
namespace K
open Go.RowKit Go.Maps Go.Lib Tryz
section
variable{F:Nat->Prop}{R:Nat}{w w':World}{s:Src}{p:jl}{st:St}{c:Int}
def Src.took(s:Src):Src×Int:=
 if s.rest.size=0 then({s with at_:=s.next},-1)
 else if Ch.gW s.rest 0=true then({s with at_:=s.next,rest:=s.rest.extract (Utf8.decode s.rest 0).2 s.rest.size,next:=s.next+(Utf8.decode s.rest 0).2},((Utf8.decode s.rest 0).1:Int))
 else({s with at_:=s.next},-2)
def Src.more(s:Src):Bool:=!s.ended&&!Tk.full s.rest
theorem Io(hT:Utf8Tabs 4 5 w)(hb:Z5 w w'):Utf8Tabs 4 5 w':=by
 have h4:=rX hT;refine⟨fun c hc=>(hb.cell (by show 4<w.heap.size;omega)).trans (hT.1 c hc),fun i hi=>⟨(hb.cell (by show 5<w.heap.size;omega)).trans (hT.2 i hi).1,(hb.cell (by show 5<w.heap.size;omega)).trans (hT.2 i hi).2⟩⟩
def More(w:World)(m:Value):Prop:=w.cell? ⟨0,0,none⟩=some m
theorem Md(h:fV F R w s p st)(hT:Utf8Tabs 4 5 w)(a:Addr)(hm:More w (.iface 329 (.pointer (some a))))(A7:s.more=true):
  Z4 104 #[Z8 R] w (Z7 (.tuple #[.int .i32 0,.iface 329 (.pointer (some a))]) w):=by
 have c0:w.cell? ⟨R,0,none⟩=some (.string s.rest):=h.cell 0 rfl;have c3:w.cell? ⟨R,3,none⟩=some (.bool s.ended):=h.cell 3 rfl;have hR:=h.lt R h.jP;have h4:=rX hT;simp only[Src.more,aV,Bool.not_eq_true']at A7;have hf:=Fe s.rest w hT;rw[A7.2]at hf;rw[A7.1]at c3;unfold More at hm;have H:=a_ h;clear h hT A7;go_enter func104,ntmps104;go_wp2_with(go_at_call 158;refine hf.mono ?_;rintro e w1 ⟨rfl,lI⟩);have Sh:w1.cell? ⟨0,0,none⟩=some (.iface 329 (.pointer (some a))):=(lI.cell (p:=⟨0,0,none⟩) (by show 0<w.heap.size;omega)).trans hm;go_region_held3 (fun W=>W.cell? ⟨0,0,none⟩=some (.iface 329 (.pointer (some a))))
  (first|exact Sh)
  (fail)
 all_goals
  go_wp2
  go_ret2
  exact⟨rfl,lI.drew⟩
theorem Me(hT:Utf8Tabs 4 5 w)(hR5:5<R)(i:Nat)(v:Value):Utf8Tabs 4 5 (w.setCell ⟨R,i,none⟩ v):=by
 refine⟨fun c hc=>?_,fun j hj=>⟨?_,?_⟩⟩
 ·rw[ag (ae w _ v 4 (by show 4≠R;omega))];exact hT.1 c hc
 ·rw[ag (ae w _ v 5 (by show 5≠R;omega))];exact(hT.2 j hj).1
 ·rw[ag (ae w _ v 5 (by show 5≠R;omega))];exact(hT.2 j hj).2
theorem Mf(h:fV F R w s p st)(hT:Utf8Tabs 4 5 w)(hR5:5<R)(h0:0<s.rest.size)(hz:s.rest.size<=1099511627776)(w1:World)(lI:Z5 w w1):
  Z4 159 #[.string s.rest] (w1.setCell ⟨R,2,none⟩ (.int .i64 s.next)) fun e w2=>e=.returned (.tuple #[.int .i32 ((Utf8.decode s.rest 0).1:Int),.int .i64 ((Utf8.decode s.rest 0).2:Int)])/\Below (w1.setCell ⟨R,2,none⟩ (.int .i64 s.next)).heap.size (w1.setCell ⟨R,2,none⟩ (.int .i64 s.next)) w2:=by
 have h1:=utf8_DecodeRuneInString s.rest _ (Me (Io hT lI) hR5 2 (.int .i64 s.next));have e:Lib.decodeGo s.rest=Utf8.decode s.rest 0:=by unfold Lib.decodeGo;rw[if_neg (by omega)]
 rw[e]at h1;exact h1
end
section
variable{F:Nat->Prop}{R:Nat}{w w' w'':World}{s s':Src}{p:jl}{st:St}{c:Int}
def RF(F:Nat->Prop)(R:Nat)(w:World)(s:Src)(p:jl)(st:St)(w':World):Prop:=fV (Grow F w w') R w' s p st/\Frame F w w'/\∀k,k<w.heap.size->k≠R->w'.heap[k]?=w.heap[k]?
theorem RF.refl(h:fV F R w s p st):RF F R w s p st w:=⟨h.Pn,Frame.refl _ _,fun _ _ _=>rfl⟩
theorem RF.below(h:RF F R w s p st w')(hb:Z5 w' w''):RF F R w s p st w'':=
 ⟨(h.1.below hb).join h.2.1.size hb.size,h.2.1.trans (Frame.below hb),fun k hk hR=>(hb.block k (ah hk h.2.1.size)).trans (h.2.2 k hk hR)⟩
theorem RF.set(h:RF F R w s p st w')(i:Nat)(v:Value)(hc:(cellsOf s p st).setIfInBounds i v=cellsOf s' p st):RF F R w s' p st (w'.setCell ⟨R,i,none⟩ v):=by
 have hsz:(w'.setCell ⟨R,i,none⟩ v).heap.size=w'.heap.size:=by simp[World.setCell]
 have r:=h.1.scalar (s':=s') (iG:=st) i v hc (fun o=>o);have hG:∀k,Grow F w w' k->Grow F w (w'.setCell ⟨R,i,none⟩ v) k:=fun k hk=>by unfold Grow at*;rw[hsz];exact hk
 have ZT:∀k,Grow F w (w'.setCell ⟨R,i,none⟩ v) k->Grow F w w' k:=fun k hk=>by unfold Grow at*;rw[hsz]at hk;exact hk
 refine⟨r.mono hG (fun k hk=>r.lt k (ZT k hk)),⟨h.2.1.os,h.2.1.tape,h.2.1.output,by rw[hsz];exact h.2.1.size,fun k hk hf=>?_⟩,fun k hk hR=>?_⟩
 ·rw[ae _ _ _ _ ?_]
  ·exact h.2.1.block k hk hf
  ·intro e;have e':k=R:=e;subst e';rcases h.1.jP with x|x
   ·exact hf x
   ·omega
 ·rw[ae _ _ _ _ hR];exact h.2.2 k hk hR
def xz(F:Nat->Prop)(R:Nat)(w:World)(s:Src)(p:jl)(st:St)(e:Ending)(w':World):Prop:=
 e=.returned (.tuple #[.int .i32 s.took.2,.nilIface])/\RF F R w s.took.1 p st w'
theorem Un(h:fV F R w s p st)(hT:Utf8Tabs 4 5 w)(hR5:5<R)(hz:s.rest.size<=1099511627776)(hn:0<=s.next/\s.next<=1152921504606846976)(A7:s.more=false):
  Z4 104 #[Z8 R] w (xz F R w s p st):=by
 have c0:w.cell? ⟨R,0,none⟩=some (.string s.rest):=h.cell 0 rfl;have c1:w.cell? ⟨R,1,none⟩=some (.int .i64 s.next):=h.cell 1 rfl;have c2:w.cell? ⟨R,2,none⟩=some (.int .i64 s.at_):=h.cell 2 rfl;have c3:w.cell? ⟨R,3,none⟩=some (.bool s.ended):=h.cell 3 rfl;have f0:=h.free 0;have f1:=h.free 1;have f2:=h.free 2;have hR:=h.lt R h.jP;have Mg:=Fe s.rest w hT;have VH:=fun h0=>Mf h hT hR5 h0 hz;have qV:∀w1,Z5 w w1->RF F R w {s with at_:=s.next} p st (w1.setCell ⟨R,2,none⟩ (.int .i64 s.next)):=fun w1 b=>((RF.refl h).below b).set 2 _ rfl;have H:=a_ h;have HC:=a_ VH;have HS:=a_ qV;clear h hT VH qV;by_cases h0:s.rest.size=0
 ·have rH:s.took=({s with at_:=s.next},-1):=by simp[Src.took,h0]
  unfold xz;rw[rH];have he:s.rest.toList.isEmpty=true:=by
   rw[cG];have:s.rest.data.toList=[]:=aY (by simpa using h0);rw[this];rfl
  clear rH h0 hz hn HC;rcases(dL s.ended).symm with hen|hen
  ·have LJ:Tk.full s.rest=true:=by simp[Src.more,hen]at A7;exact A7
   rw[LJ]at Mg;rw[hen]at c3;clear A7 LJ hen;go_enter func104,ntmps104;go_wp2_with(go_at_call 158;refine Mg.mono ?_;rintro e w1 ⟨rfl,lI⟩;have c0':=(lI.cell hR).trans c0;have c1':=(lI.cell hR).trans c1;have Si:=(lI.cell hR).trans c2;have Sj:w1.frozen? ⟨R,2,none⟩=false:=(dR (lI.block R hR)).trans f2)
   go_ret2
   exact⟨rfl,HS.out _ lI⟩
  ·rw[hen]at c3;clear A7 hen;go_enter func104,ntmps104;go_wp2_with fail
   go_ret2
   exact⟨rfl,HS.out _ (Below.refl _ _)⟩
 ·have he:s.rest.toList.isEmpty=false:=by
   rw[cG];cases hl:s.rest.data.toList with
   |nil=>exact absurd (by have:=aA List.length hl;simpa using this) h0
   |cons a b=>rfl
  have hw:=Ch.fo s.rest 0 (by omega);have hw1:1<=(Utf8.decode s.rest 0).2:=hw.2.1;have hw2:(Utf8.decode s.rest 0).2<=s.rest.size:=by omega
  have VJ:=Ch.yV s.rest (by omega);have zF:=a_ (HC.out (by omega));clear HC;have HC:=zF;clear zF hw;unfold xz;cases iM:Ch.gW s.rest 0
  ·have rH:s.took=({s with at_:=s.next},-2):=by simp[Src.took,h0,iM]
   rw[rH];rw[iM]at VJ;simp only[ay,bf]at VJ;have HBF:=a_ VJ;clear rH iM VJ h0;rcases(dL s.ended).symm with hen|hen
   ·have LJ:Tk.full s.rest=true:=by simp[Src.more,hen]at A7;exact A7
    rw[LJ]at Mg;rw[hen]at c3;clear A7 LJ hen;go_enter func104,ntmps104;go_wp2_with(go_at_call 158;refine Mg.mono ?_;rintro e w1 ⟨rfl,lI⟩;have c0':=(lI.cell hR).trans c0;have c1':=(lI.cell hR).trans c1;have Si:=(lI.cell hR).trans c2;have Sj:w1.frozen? ⟨R,2,none⟩=false:=(dR (lI.block R hR)).trans f2);refine(HC.out w1 lI).mono ?_;rintro e w2 ⟨rfl,Xv⟩;have R2:=a_ ((HS.out w1 lI).below Xv);have d0:w2.cell? ⟨R,0,none⟩=some (.string s.rest):=R2.out.1.cell 0 rfl;have d1:w2.cell? ⟨R,1,none⟩=some (.int .i64 s.next):=R2.out.1.cell 1 rfl;have oM:=qC (s.rest.extract 0 (Utf8.decode s.rest 0).2) w2 (by simp;omega);rw[HBF.out]at oM;generalize ((Utf8.decode s.rest 0).1:Int)=rn at*
    generalize (Utf8.decode s.rest 0).2=wd at*
    go_wp2_with(go_at_call 41;refine oM.mono ?_;rintro e w3 ⟨rfl,NL⟩)
    go_ret2
    exact⟨rfl,R2.out.below NL⟩
   ·rw[hen]at c3;clear A7 hen;go_enter func104,ntmps104;go_wp2_with fail;refine(HC.out w (Below.refl _ _)).mono ?_;rintro e w2 ⟨rfl,Xv⟩;have R2:=a_ ((HS.out w (Below.refl _ _)).below Xv);have d0:w2.cell? ⟨R,0,none⟩=some (.string s.rest):=R2.out.1.cell 0 rfl;have d1:w2.cell? ⟨R,1,none⟩=some (.int .i64 s.next):=R2.out.1.cell 1 rfl;have oM:=qC (s.rest.extract 0 (Utf8.decode s.rest 0).2) w2 (by simp;omega);rw[HBF.out]at oM;generalize ((Utf8.decode s.rest 0).1:Int)=rn at*
    generalize (Utf8.decode s.rest 0).2=wd at*
    go_wp2_with(go_at_call 41;refine oM.mono ?_;rintro e w3 ⟨rfl,NL⟩)
    go_ret2
    exact⟨rfl,R2.out.below NL⟩
  ·have rH:s.took=({s with at_:=s.next,rest:=s.rest.extract (Utf8.decode s.rest 0).2 s.rest.size,next:=s.next+(Utf8.decode s.rest 0).2},((Utf8.decode s.rest 0).1:Int)):=by simp[Src.took,h0,iM]
   rw[rH];rw[iM]at VJ;simp only[if_true]at VJ;have HBF:=a_ VJ;clear rH iM VJ h0;rcases(dL s.ended).symm with hen|hen
   ·have LJ:Tk.full s.rest=true:=by simp[Src.more,hen]at A7;exact A7
    rw[LJ]at Mg;rw[hen]at c3;clear A7 LJ hen;go_enter func104,ntmps104;go_wp2_with(go_at_call 158;refine Mg.mono ?_;rintro e w1 ⟨rfl,lI⟩;have c0':=(lI.cell hR).trans c0;have c1':=(lI.cell hR).trans c1;have Si:=(lI.cell hR).trans c2;have Sj:w1.frozen? ⟨R,2,none⟩=false:=(dR (lI.block R hR)).trans f2);refine(HC.out w1 lI).mono ?_;rintro e w2 ⟨rfl,Xv⟩;have R2:=a_ ((HS.out w1 lI).below Xv);have d0:w2.cell? ⟨R,0,none⟩=some (.string s.rest):=R2.out.1.cell 0 rfl;have d1:w2.cell? ⟨R,1,none⟩=some (.int .i64 s.next):=R2.out.1.cell 1 rfl;have oM:=qC (s.rest.extract 0 (Utf8.decode s.rest 0).2) w2 (by simp;omega);rw[HBF.out]at oM;go_wp2_with(go_at_call 41;refine oM.mono ?_;rintro e w3 ⟨rfl,NL⟩;have R3:=a_ (R2.out.below NL);have g0:w3.cell? ⟨R,0,none⟩=some (.string s.rest):=R3.out.1.cell 0 rfl;have g1:w3.cell? ⟨R,1,none⟩=some (.int .i64 s.next):=R3.out.1.cell 1 rfl;have q0:=R3.out.1.free 0;have q1:=R3.out.1.free 1)
    go_ret2
    refine⟨rfl,?_⟩;exact(R3.out.set (s':={s with at_:=s.next,rest:=s.rest.extract (Utf8.decode s.rest 0).2 s.rest.size}) 0 (.string (s.rest.extract (Utf8.decode s.rest 0).2 s.rest.size)) rfl).set 1 (.int .i64 (s.next+(Utf8.decode s.rest 0).2)) rfl
   ·rw[hen]at c3;clear A7 hen;go_enter func104,ntmps104;go_wp2_with fail;refine(HC.out w (Below.refl _ _)).mono ?_;rintro e w2 ⟨rfl,Xv⟩;have R2:=a_ ((HS.out w (Below.refl _ _)).below Xv);have d0:w2.cell? ⟨R,0,none⟩=some (.string s.rest):=R2.out.1.cell 0 rfl;have d1:w2.cell? ⟨R,1,none⟩=some (.int .i64 s.next):=R2.out.1.cell 1 rfl;have oM:=qC (s.rest.extract 0 (Utf8.decode s.rest 0).2) w2 (by simp;omega);rw[HBF.out]at oM;go_wp2_with(go_at_call 41;refine oM.mono ?_;rintro e w3 ⟨rfl,NL⟩;have R3:=a_ (R2.out.below NL);have g0:w3.cell? ⟨R,0,none⟩=some (.string s.rest):=R3.out.1.cell 0 rfl;have g1:w3.cell? ⟨R,1,none⟩=some (.int .i64 s.next):=R3.out.1.cell 1 rfl;have q0:=R3.out.1.free 0;have q1:=R3.out.1.free 1)
    go_ret2
    refine⟨rfl,?_⟩;exact(R3.out.set (s':={s with at_:=s.next,rest:=s.rest.extract (Utf8.decode s.rest 0).2 s.rest.size}) 0 (.string (s.rest.extract (Utf8.decode s.rest 0).2 s.rest.size)) rfl).set 1 (.int .i64 (s.next+(Utf8.decode s.rest 0).2)) rfl
end
theorem kR(st:St)(i j:Rn):((st.clear i).run j).length<=(st.run j).length:=by simp only[St.clear,St.eI];split<;>simp
theorem lC(st:St)(j:Rn):(st.eK.run j).length<=(st.run j).length:=by
 unfold St.eK;split
 ·omega
 ·exact kR _ _ _
theorem kH(st:St):st.eK.told.length<=st.told.length+1:=by
 unfold St.eK;split
 ·omega
 ·simp[St.clear,St.eI]
theorem gH(st:St):st.eK.d_=st.d_/\st.eK.names=st.names/\st.eK.quote=st.quote:=by unfold St.eK;split<;>exact⟨rfl,rfl,rfl⟩
structure nj(st:St)(c:Int)(o:Out):Prop where
 run:∀i,(o.st.run i).length<=(st.run i).length+12
 told:o.st.told.length<=st.told.length+4
 d_:o.st.d_.length<=st.d_.length+1
 names:o.st.names.length<=st.names.length+1
 quote:0<=st.quote->0<=o.st.quote
 ref:∀i k,o.res=.go (.ref i k)->(o.st.run .ref).length<=4
 neg:c= -1\/c= -2->0<=st.quote->∀pt,o.res≠ .go pt
theorem gz(st:St)(i:Rn)(c q:Int):(st.put i c q).told=st.told/\(st.put i c q).d_=st.d_/\(st.put i c q).names=st.names/\(st.put i c q).quote=st.quote:=⟨rfl,rfl,rfl,rfl⟩
theorem nj.iw{st:St}{c:Int}{no q:Int}:nj st c ⟨st,.fail no q⟩:=
 ⟨fun _=>by simp,by simp,by simp,by simp,fun h=>h,fun _ _ e=>(by cases e),fun _ _ _ e=>(by cases e)⟩
theorem nj.pq{st:St}{c:Int}{pt:Part}(h0:0<=c)(hr:∀i k,pt≠ .ref i k):nj st c ⟨st,.go pt⟩:=
 ⟨fun _=>by simp,by simp,by simp,by simp,fun h=>h,fun i k e=>absurd (by cases e;rfl) (hr i k),fun h=>by omega⟩
theorem nZ{c:Int}(h:Ch.ft c=true):0<=c:=by have:=(Ch.fT c).1 h;omega
theorem Ip{c:Int}(h:Ch.gj c=true):0<=c:=by have:=(Ch.jh c).1 h;omega
theorem rY{c:Int}(h:Tk.blank c=true):0<=c:=by simp[Tk.blank]at h;omega
theorem nj.via{st fI:St}{c:Int}{pt:Part}(h0:0<=c)(hr:∀i k,pt≠ .ref i k)(h1:∀i,(fI.run i).length<=(st.run i).length+12)(h2:fI.told.length<=st.told.length+4)(h3:fI.d_.length<=st.d_.length+1)(h4:fI.names.length<=st.names.length+1)(h5:0<=st.quote->0<=fI.quote):nj st c ⟨fI,.go pt⟩:=
 ⟨h1,h2,h3,h4,h5,fun i k e=>absurd (by cases e;rfl) (hr i k),fun h=>by omega⟩
theorem py(st:St)(c:Int)(pt:Part)(h0:0<=c)(hr:∀i k,pt≠ .ref i k):nj st c ⟨st.fl,.go pt⟩:=by
 refine .via h0 hr (fun i=>?_) ?_ ?_ ?_ ?_
 ·show (st.eK.run i).length<=_;have:=lC st i;omega
 ·show (st.eK.told++[_]).length<=_;have:=kH st;simp;omega
 ·show ([]:List (List UInt8×List UInt8)).length<=_;simp
 ·show ([]:List (List UInt8)).length<=_;simp
 ·show _->0<=st.eK.quote;rw[(gH st).2.2];exact id
theorem vV(st:St)(c:Int)(pt:Part)(h0:0<=c)(hr:∀i k,pt≠ .ref i k):nj st c ⟨st.gh,.go pt⟩:=by
 refine .via h0 hr (fun i=>?_) ?_ ?_ ?_ ?_
 ·show (st.eK.run i).length<=_;have:=lC st i;omega
 ·show (st.eK.told++[_]).length<=_;have:=kH st;simp;omega
 ·show st.eK.d_.length<=_;rw[(gH st).1];omega
 ·show st.eK.names.length<=_;rw[(gH st).2.1];omega
 ·show _->0<=st.eK.quote;rw[(gH st).2.2];exact id
theorem uR(st:St)(i:Rn)(c q d:Int)(pt:Part)(h0:0<=d)(hr:∀i k,pt≠ .ref i k):nj st d ⟨st.put i c q,.go pt⟩:=
 .via h0 hr (fun j=>by have:=iY st i j c q;omega) (by simp[gz]) (by simp[gz]) (by simp[gz]) (fun h=>h)
theorem wN(q:Int)(st:St)(c:Int):nj st c (jM q st c):=by
 unfold jM;split
 ·exact .pq (rY (by assumption)) (fun _ _=>by simp)
 split
 ·exact .pq (by omega) (fun _ _=>by simp)
 split
 ·exact py st c _ (by omega) (fun _ _=>by simp)
 ·exact .iw
theorem nj.after{st fI:St}{c:Int}{o:Out}(h:nj fI c o)(h1:∀i,(o.st.run i).length<=(st.run i).length+12)(h2:fI.told.length<=st.told.length)(h3:fI.d_.length<=st.d_.length)(h4:o.st.names.length<=st.names.length+1)(h5:fI.quote=st.quote):nj st c o:=
 ⟨h1,by have:=h.told;omega,by have:=h.d_;omega,h4,fun x=>h.quote (h5▸x),h.ref,fun x y=>h.neg x (h5▸y)⟩
theorem CZ(i:Rn)(k:Pl)(q:Int)(st:St)(c:Int):nj st c (fX i k q st c):=by
 unfold fX;split
 ·exact uR st i c q c _ (nZ (by assumption)) (fun _ _=>by simp)
 ·exact .iw
theorem wO(q:Int)(st:St)(c:Int):nj st c (jX q st c):=by
 unfold jX;split
 ·exact .pq (rY (by assumption)) (fun _ _=>by simp)
 split
 ·exact .pq (by omega) (fun _ _=>by simp)
 ·exact .iw
theorem A8(q:Int)(st:St)(c:Int):(jX q st c).st=st:=by
 unfold jX;repeat' split
 all_goals rfl
theorem sU(q:Int)(st:St)(c:Int):nj st c (iH q st c):=by
 unfold iH;split
 ·exact .pq (by omega) (fun _ _=>by simp)
 split
 ·exact .iw
 ·exact .pq (by omega) (fun _ _=>by simp)
theorem uS(q:Int)(st:St)(c:Int):nj st c (jd q st c):=by
 unfold jd;split
 ·exact .pq (by omega) (fun _ _=>by simp)
 split
 ·exact .iw
 ·exact .pq (by omega) (fun _ _=>by simp)
theorem sV(q:Int)(st:St)(c:Int)(i:Rn):((fR q st c).st.run i).length<=(st.run i).length+4:=by
 unfold fR;repeat' split
 all_goals first|(exact iY st .text i c q)|(simp;done)
theorem rb(q:Int)(st:St)(c:Int):nj st c (fR q st c):=by
 unfold fR;split
 ·exact .pq (by omega) (fun _ _=>by simp)
 split
 ·exact .iw
 ·exact uR st _ c q c _ (by omega) (fun _ _=>by simp)
theorem Aa(q:Int)(st:St)(c:Int)(i:Rn):((fS q st c).st.run i).length<=(st.run i).length+8:=by
 unfold fS;split
 ·simp
 ·have:=sV q (st.put .text 93 (q-1)) c i;have:=iY st .text i 93 (q-1);omega
theorem qo(q:Int)(st:St)(c:Int):(fR q st c).st.names=st.names:=by
 unfold fR;repeat' split
 all_goals rfl
theorem xg(q:Int)(st:St)(c:Int):(fS q st c).st.names=st.names:=by
 unfold fS;split
 ·rfl
 ·exact qo _ _ _
theorem rh(q:Int)(st:St)(c:Int):nj st c (fS q st c):=by
 unfold fS;split
 ·exact .pq (by omega) (fun _ _=>by simp)
 ·refine(rb q (st.put .text 93 (q-1)) c).after (fun i=>?_) (by simp[gz]) (by simp[gz]) ?_ rfl
  ·have:=sV q (st.put .text 93 (q-1)) c i;have:=iY st .text i 93 (q-1);omega
  ·rw[qo];simp[gz]
theorem Fg(st:St)(i:Rn)(k:Pl)(q:Int):nj st 38 ⟨(st.clear .ref).put .ref 38 q,.go (.ref i k)⟩:=by
 refine⟨fun j=>?_,by simp[gz,St.clear,St.eI],by simp[gz,St.clear,St.eI],by simp[gz,St.clear,St.eI],fun h=>h,fun _ _ _=>?_,fun h=>by omega⟩
 ·have h1:=iY (st.clear .ref) .ref j 38 q;have h2:=kR st .ref j;show (((st.clear .ref).put .ref 38 q).run j).length<=_;omega
 ·have h1:=iY (st.clear .ref) .ref .ref 38 q;have h2:((st.clear .ref).run .ref).length=0:=by simp[St.clear,St.eI]
  show (((st.clear .ref).put .ref 38 q).run .ref).length<=_;omega
theorem rZ(k:Pl)(q:Int)(st:St)(c:Int):nj st c (step k q st c):=by
 cases k with
 |between=>
  simp only[step];split
  ·exact .via (by omega) (fun _ _=>by simp) (fun _=>by simp) (by simp) (by simp) (by simp) (fun h=>h)
  split
  ·rename_i e;subst e;exact Fg st _ _ q
  split
  ·refine⟨fun i=>?_,?_,?_,?_,?_,fun _ _ e=>(by cases e),fun _ _ _ e=>(by cases e)⟩
   ·show (st.eK.run i).length<=_;have:=lC st i;omega
   ·show st.eK.told.length<=_;have:=kH st;omega
   ·show st.eK.d_.length<=_;rw[(gH st).1];omega
   ·show st.eK.names.length<=_;rw[(gH st).2.1];omega
   ·show _->0<=st.eK.quote;rw[(gH st).2.2];exact id
  split
  ·exact .iw
  ·refine⟨fun j=>?_,by simp[gz],by simp[gz],by simp[gz],fun h=>h,fun _ _ e=>(by cases e),fun h=>?_⟩
   ·have:=iY st .text j c q;show ((st.put .text c q).run j).length<=_;omega
   ·omega
 |less=>
  simp only[step];split
  ·exact .via (by omega) (fun _ _=>by simp) (fun i=>by have:=kR st .name i;omega) (by simp[St.clear,St.eI]) (by simp[St.clear,St.eI]) (by simp[St.clear,St.eI]) (fun h=>h)
  split
  ·exact .pq (by omega) (fun _ _=>by simp)
  split
  ·exact .pq (by omega) (fun _ _=>by simp)
  ·unfold fX;split
   ·refine .via (nZ (by assumption)) (fun _ _=>by simp) (fun i=>?_) (by simp[gz,St.clear,St.eI]) (by simp[gz,St.clear,St.eI]) (by simp[gz,St.clear,St.eI]) (fun h=>h);have h1:=iY (st.clear .name) .name i c q;have h2:=kR st .name i;omega
   ·exact⟨fun i=>by have:=kR st .name i;show ((st.clear .name).run i).length<=_;omega,by simp[St.clear,St.eI],by simp[St.clear,St.eI],by simp[St.clear,St.eI],fun h=>h,fun _ _ e=>(by cases e),fun _ _ _ e=>(by cases e)⟩
 |oV=>
  simp only[step];split
  ·exact .pq (by omega) (fun _ _=>by simp)
  split
  ·exact .pq (by omega) (fun _ _=>by simp)
  ·exact .iw
 |remark=>exact sU q st c
 |CC=>
  simp only[step];split
  ·exact .pq (by omega) (fun _ _=>by simp)
  ·exact sU q st c
 |iK=>
  simp only[step];split
  ·exact .pq (nZ (by assumption)) (fun _ _=>by simp)
  ·exact .iw
 |order=>exact uS q st c
 |mark=>
  simp only[step];split
  ·exact .pq (by omega) (fun _ _=>by simp)
  ·exact uS q st c
 |iu=>exact rb q st c
 |bracket=>exact rh q st c
 |brackets=>
  simp only[step];split
  ·exact .pq (by omega) (fun _ _=>by simp)
  ·refine(rh q (st.put .text 93 (q-2)) c).after (fun i=>?_) (by simp[gz]) (by simp[gz]) ?_ rfl
   ·have:=Aa q (st.put .text 93 (q-2)) c i;have:=iY st .text i 93 (q-2);omega
   ·rw[xg];simp[gz]
 |part=>exact wN q st c
 |fh=>
  simp only[step];split
  ·unfold fX;rw[if_pos (by assumption)];refine .via (nZ (by assumption)) (fun _ _=>by simp) (fun i=>?_) (by simp[gz,St.clear,St.eI]) (by simp[gz,St.clear,St.eI]) (by simp[gz,St.clear,St.eI]) (fun h=>h);have h1:=iY (st.clear .attr) .attr i c q;have h2:=kR st .attr i;omega
  ·exact wN q st c
 |jL=>
  simp only[step];split
  ·exact .iw
  ·refine(wO q {st with names:=st.names++[st.run .attr]} c).after (fun i=>?_) (by simp) (by simp) ?_ rfl
   ·rw[A8];simp
   ·rw[A8];simp
 |qR=>exact wO q st c
 |lx=>
  simp only[step];split
  ·exact .pq (rY (by assumption)) (fun _ _=>by simp)
  split
  ·exact .via (by omega) (fun _ _=>by simp) (fun _=>by simp) (by simp) (by simp) (by simp) (fun _=>by show 0<=c;omega)
  ·exact .iw
 |iP=>
  simp only[step];split
  ·rename_i e;refine⟨fun i=>?_,by simp[St.iW,St.clear,St.eI],by simp[St.iW,St.clear,St.eI],by simp[St.iW,St.clear,St.eI],fun h=>h,fun _ _ e=>(by cases e),fun h h'=>by omega⟩;have:=kR {st with d_:=st.d_++[(st.run .attr,st.run .value)]} .value i;show ((St.clear {st with d_:=st.d_++[(st.run .attr,st.run .value)]} .value).run i).length<=_;refine aw this ?_;simp
  split
  ·rename_i e;subst e;exact Fg st _ _ q
  split
  ·exact .iw
  ·exact uR st _ c q c _ (by omega) (fun _ _=>by simp)
 |jF=>
  simp only[step];split
  ·refine .via (by omega) (fun _ _=>by simp) (fun i=>?_) ?_ ?_ ?_ ?_
   ·have h1:=(py st 0 (.plain .between) (by omega) (fun _ _=>by simp)).run i;have h2:=lC st.fl i;have h3:(st.fl.run i).length<=(st.run i).length:=lC st i;show (st.fl.eK.run i).length<=_;omega
   ·have h1:st.fl.told.length<=st.told.length+2:=by show (st.eK.told++[_]).length<=_;have:=kH st;simp;omega
    have h2:=kH st.fl;show (st.fl.eK.told++[_]).length<=_;simp;omega
   ·show st.fl.eK.d_.length<=_;rw[(gH _).1];show ([]:List (List UInt8×List UInt8)).length<=_;simp
   ·show st.fl.eK.names.length<=_;rw[(gH _).2.1];show ([]:List (List UInt8)).length<=_;simp
   ·show _->0<=st.fl.eK.quote;rw[(gH _).2.2];show _->0<=st.eK.quote;rw[(gH _).2.2];exact id
  ·exact .iw
 |closing=>
  simp only[step];split
  ·exact .pq (rY (by assumption)) (fun _ _=>by simp)
  split
  ·exact vV st c _ (by omega) (fun _ _=>by simp)
  ·exact .iw
theorem Fh(i j:Rn)(t:ByteArray)(q:Int):∀f pos st,((gv i t q f pos st).run j).length<=(st.run j).length+4*(t.size-pos):=by
 intro f;induction f with
 |zero=>intro pos st;simp[gv]
 |succ f ih=>
  intro pos st;unfold gv;split
  ·rename_i hp;have h1:=ih (pos+(Utf8.decode t pos).2) (st.put i ((Utf8.decode t pos).1:Int) q);have h2:=iY st i j ((Utf8.decode t pos).1:Int) q;have h3:=Ch.fo t pos hp;omega
  ·omega
theorem uT(i:Rn)(t:ByteArray)(q:Int):∀f pos st,(gv i t q f pos st).told=st.told/\(gv i t q f pos st).d_=st.d_/\(gv i t q f pos st).names=st.names/\(gv i t q f pos st).quote=st.quote:=by
 intro f;induction f with
 |zero=>intro pos st;exact⟨rfl,rfl,rfl,rfl⟩
 |succ f ih=>
  intro pos st;unfold gv;split
  ·exact ih _ _
  ·exact⟨rfl,rfl,rfl,rfl⟩
theorem Ab(i j:Rn)(t:ByteArray)(q:Int)(hj:j≠i):∀f pos st,(gv i t q f pos st).run j=st.run j:=by
 intro f;induction f with
 |zero=>intro pos st;rfl
 |succ f ih=>
  intro pos st;unfold gv;split
  ·rw[ih];simp[St.put,St.eI,hj]
  ·rfl
def Part.extra(pt:Part)(st:St):Nat:=match pt with| .ref _ _=>16*(st.run .ref).length+120|_=>0
structure sW(n:Nat)(pt:Part)(st:St):Prop where
 run:∀i,i≠ .ref->(st.run i).length+pt.extra st<=256*n
 ref:(st.run .ref).length<=256*n
 told:st.told.length<=4*n
 d_:st.d_.length<=n
 names:st.names.length<=n
 quote:0<=st.quote
 sound:pt.Sound
theorem sW.abr{n:Nat}{pt:Part}{st:St}(h:sW n pt st)(hn:n<=274877906944):st.PU:=by
 refine⟨fun i=>?_,by have:=h.told;omega,by have:=h.d_;omega,by have:=h.names;omega⟩;by_cases hi:i=.ref
 ·subst hi;have:=h.ref;omega
 ·have:=h.run i hi;omega
theorem sW.both{n:Nat}{pt:Part}{st:St}(h:sW n pt st)(hn:n<=274877906944):∀i k,pt=.ref i k->(st.run i).length+16*(st.run .ref).length+120<=70368744177664:=by
 rintro i k rfl;have h1:=h.run i h.sound;simp only[Part.extra]at h1;omega
theorem C0(i:Rn)(k:Pl)(q:Int)(st:St)(c:Int):∀pt,(stName i k q st c).res=.go pt->pt.Sound:=by
 intro pt e;unfold stName fX at e
 repeat' split at e
 all_goals first|(cases e;simp[Part.Sound];done)|(cases e;done)|exact yK k q st c pt e
theorem sW.plain{n:Nat}{pt:Part}{st:St}{o:Out}{c:Int}(h:sW n pt st)(ha:nj st c o){jT:Part}(e:o.res=.go jT)(hs:jT.Sound):sW (n+1) jT o.st:=by
 have hx:jT.extra o.st<=184:=by
  cases jT with
  |ref i k=>have:=ha.ref i k e;show 16*(o.st.run .ref).length+120<=184;omega
  |plain k=>exact aq _
  |word l k=>exact aq _
  |name i k=>exact aq _
 refine⟨fun i hi=>?_,?_,?_,?_,?_,ha.quote h.quote,hs⟩
 ·have:=h.run i hi;have:=ha.run i;omega
 ·have:=h.ref;have:=ha.run .ref;omega
 ·have:=h.told;have:=ha.told;omega
 ·have:=h.d_;have:=ha.d_;omega
 ·have:=h.names;have:=ha.names;omega
theorem ri(i:Rn)(k:Pl)(q:Int)(st:St)(c:Int):nj st c (stName i k q st c):=by
 unfold stName;split
 ·exact CZ i k q st c
 split
 ·rename_i h;refine uR st i c q c _ ?_ (fun _ _=>by simp);simp only[bE]at h;exact h.elim nZ Ip
 ·exact rZ k q st c
theorem rj(x:UInt8)(l:List UInt8)(k:Pl)(q:Int)(st:St)(c:Int):nj st c (lT x l k q st c):=by
 unfold lT;split
 ·split
  ·exact .pq (by omega) (fun _ _=>by simp)
  ·exact .pq (by omega) (fun _ _=>by simp)
 ·exact .iw
theorem sW.step{n:Nat}{pt:Part}{st:St}{q c:Int}(h:sW n pt st){jT:Part}(e:(b_ pt q st c).res=.go jT):sW (n+1) jT (b_ pt q st c).st:=by
 cases pt with
 |plain k=>exact h.plain (rZ k q st c) e (yK k q st c jT e)
 |word l k=>
  cases l with
  |nil=>exact absurd rfl h.sound.1
  |cons x l=>
   refine h.plain (rj x l k q st c) e ?_;have hl:=h.sound.2;simp only[b_,lT]at e;split at e
   ·split at e
    ·cases e;trivial
    ·cases e;exact⟨by assumption,by simp at hl;omega⟩
   ·cases e
 |name i k=>exact h.plain (ri i k q st c) e (C0 i k q st c jT e)
 |ref i k=>
  have hi:=h.sound;simp only[b_,oB]at e ⊢;split at e
  ·rename_i hc;rw[if_pos hc];split at e
   ·rename_i nQ;rw[if_pos nQ];have hp:=fun j=>iY st .ref j 59 q;have hsm:=gz st .ref 59 q;generalize st.put .ref 59 q=fI at*
    unfold jQ at e ⊢;split at e
    ·rename_i hz;rw[if_pos hz];cases e;have Sq:=AQ ⟨(fI.run .ref).toArray⟩ (((⟨(fI.run .ref).toArray⟩:ByteArray).size)+1) 0 [];have hsz:(⟨(fI.run .ref).toArray⟩:ByteArray).size=(fI.run .ref).length:=by show (fI.run .ref).toArray.size=_;simp
     have Ui:(Ch.kx ⟨(fI.run .ref).toArray⟩).1.length<=4*((fI.run .ref).length+1):=by unfold Ch.kx;rw[hsz]at Sq ⊢;simpa using Sq
     have htz:(⟨(Ch.kx ⟨(fI.run .ref).toArray⟩).1.toArray⟩:ByteArray).size<=4*((fI.run .ref).length+1):=by show (Ch.kx ⟨(fI.run .ref).toArray⟩).1.toArray.size<=_;simpa using Ui
     generalize (⟨(Ch.kx ⟨(fI.run .ref).toArray⟩).1.toArray⟩:ByteArray)=t at*
     have hpl:=fun j=>Fh i j t (fI.fD .ref) (t.size+1) 0 fI;have Vz:=uT i t (fI.fD .ref) (t.size+1) 0 fI;refine⟨fun j hj=>?_,?_,?_,?_,?_,?_,trivial⟩
     ·show ((gv i t (fI.fD .ref) (t.size+1) 0 fI).run j).length+0<=_;have h1:=hpl j;have h2:=hp j;have h3:=hp .ref;have h4:=h.run j hj;simp only[Part.extra]at h4;omega
     ·show ((gv i t (fI.fD .ref) (t.size+1) 0 fI).run .ref).length<=_;rw[Ab i .ref t _ (Ne.symm hi)];have h1:=h.ref;have h2:=hp .ref;omega
     ·show (gv i t (fI.fD .ref) (t.size+1) 0 fI).told.length<=_;rw[Vz.1,hsm.1];have:=h.told;omega
     ·show (gv i t (fI.fD .ref) (t.size+1) 0 fI).d_.length<=_;rw[Vz.2.1,hsm.2.1];have:=h.d_;omega
     ·show (gv i t (fI.fD .ref) (t.size+1) 0 fI).names.length<=_;rw[Vz.2.2.1,hsm.2.2.1];have:=h.names;omega
     ·show 0<=(gv i t (fI.fD .ref) (t.size+1) 0 fI).quote;rw[Vz.2.2.2,hsm.2.2.2];exact h.quote
    ·cases e
   ·rename_i nQ;rw[if_neg nQ];cases e;have hp:=fun j=>iY st .ref j c q;refine⟨fun j hj=>?_,?_,aw h.told (by omega),aw h.d_ (by omega),aw h.names (by omega),h.quote,hi⟩
    ·have h1:=h.run j hj;have h2:=hp j;have h3:=hp .ref;have h4:((st.put .ref c q).run j)=st.run j:=by simp[St.put,St.eI,hj]
     simp only[Part.extra]at h1 ⊢;rw[h4];omega
    ·have h1:=h.ref;have h3:=hp .ref;show ((st.put .ref c q).run .ref).length<=_;omega
  ·cases e
end K
end Go.Proofs.YthlcmljckpdheaaGreatDoor
namespace Go.Proofs.YthlcmljckpdheaaGreatDoor
namespace K
open Go Go.Lib Tryz
def vW(n b0 b1 b2 b3:Nat):Nat×Nat:=
 if firstT b0=240 then(b0,1)else if firstT b0=241 then(65533,1)else slowN n b0 b1 b2 b3 (firstT b0%8) (accLo (firstT b0/16)) (accHi (firstT b0/16))
theorem oZ(n b0 b1 b2 b3:Nat)(hn:1<=n)(h0:b0<256)(h1:b1<256)(h2:b2<256)(h3:b3<256):decodeN n b0 b1 b2 b3=vW n b0 b1 b2 b3:=by
 unfold vW;by_cases a1:b0<128
 ·have hf:firstT b0=240:=by simp[firstT,a1]
  rw[if_pos hf];unfold decodeN
  repeat' split
  all_goals first|(exfalso;omega)|(apply Prod.ext<;>simp only<;>omega)
 by_cases a2:b0<194
 ·have hf:firstT b0=241:=by simp[firstT,a1,a2]
  rw[hf,if_neg (by omega),if_pos rfl];unfold decodeN
  repeat' split
  all_goals first|(exfalso;omega)|(apply Prod.ext<;>simp only<;>omega)
 by_cases a3:b0<224
 ·have hf:firstT b0=2:=by simp[firstT,a1,a2,a3]
  rw[hf,if_neg (by omega),if_neg (by omega)];exact(slow_C2 n b0 b1 b2 b3 hn h1 h2 h3 (by omega)).symm
 by_cases a4:b0=224
 ·have hf:firstT b0=19:=by subst a4;rfl
  rw[hf,if_neg (by omega),if_neg (by omega)];exact(slow_E0 n b0 b1 b2 b3 hn h1 h2 h3 a4).symm
 by_cases a5:b0<237
 ·have hf:firstT b0=3:=by simp[firstT,a1,a2,a3,a4,a5]
  rw[hf,if_neg (by omega),if_neg (by omega)];exact(slow_E1 n b0 b1 b2 b3 hn h1 h2 h3 (by omega)).symm
 by_cases a6:b0=237
 ·have hf:firstT b0=35:=by subst a6;rfl
  rw[hf,if_neg (by omega),if_neg (by omega)];exact(slow_ED n b0 b1 b2 b3 hn h1 h2 h3 a6).symm
 by_cases a7:b0<240
 ·have hf:firstT b0=3:=by simp[firstT,a1,a2,a3,a4,a5,a6,a7]
  rw[hf,if_neg (by omega),if_neg (by omega)];exact(slow_E1 n b0 b1 b2 b3 hn h1 h2 h3 (by omega)).symm
 by_cases a8:b0=240
 ·have hf:firstT b0=52:=by subst a8;rfl
  rw[hf,if_neg (by omega),if_neg (by omega)];exact(slow_F0 n b0 b1 b2 b3 hn h1 h2 h3 a8).symm
 by_cases a9:b0<244
 ·have hf:firstT b0=4:=by simp[firstT,a1,a2,a3,a4,a5,a6,a7,a8,a9]
  rw[hf,if_neg (by omega),if_neg (by omega)];exact(slow_F1 n b0 b1 b2 b3 hn h1 h2 h3 (by omega)).symm
 by_cases a10:b0=244
 ·have hf:firstT b0=68:=by subst a10;rfl
  rw[hf,if_neg (by omega),if_neg (by omega)];exact(slow_F4 n b0 b1 b2 b3 hn h1 h2 h3 a10).symm
 ·have hf:firstT b0=241:=by simp[firstT,a1,a2,a3,a4,a5,a6,a7,a8,a9,a10]
  rw[hf,if_neg (by omega),if_pos rfl];unfold decodeN
  repeat' split
  all_goals first|(exfalso;omega)|(apply Prod.ext<;>simp only<;>omega)
theorem Mh(b:Nat):firstT b=240\/firstT b=241\/(2<=firstT b%8/\firstT b%8<=4):=by
 unfold firstT
 repeat' split
 all_goals omega
theorem Iq(n m b0 b1 b2 b3 c1 c2 c3:Nat)(hn:1<=n)(hm:n<=m)(e1:1<n->c1=b1)(e2:2<n->c2=b2)(e3:3<n->c3=b3)(hf:po n (firstT b0) b1 b2=true):
  po m (firstT b0) c1 c2=true/\vW m b0 c1 c2 c3=vW n b0 b1 b2 b3:=by
 simp only[po,bE,aV,aW]at hf ⊢;have hz:=Mh b0;unfold vW slowN;generalize firstT b0=f at*
 generalize accLo (f/16)=lo at*
 generalize accHi (f/16)=hi at*
 by_cases f1:f=240
 ·rw[if_pos f1,if_pos f1];exact⟨by omega,rfl⟩
 by_cases f2:f=241
 ·rw[if_neg f1,if_pos f2,if_neg f1,if_pos f2];exact⟨by omega,rfl⟩
 rw[if_neg f1,if_neg f2,if_neg f1,if_neg f2];have hz2:2<=f%8/\f%8<=4:=by omega
 clear hz f1 f2;generalize f%8=sz at*
 rcases hf with hf|⟨h1,h2⟩|⟨h1,h2⟩
 ·refine⟨Or.inl (by omega),?_⟩;have x1:=e1 (by omega);subst x1;rw[if_neg (by omega:¬m<sz),if_neg (by omega:¬n<sz)];by_cases z2:sz<=2
  ·simp only[z2,if_true]
  ·have x2:=e2 (by omega);subst x2;by_cases z3:sz<=3
   ·simp only[z2,z3,if_true,bf]
   ·have x3:=e3 (by omega);subst x3;rfl
 ·have x1:=e1 (by omega);subst x1;refine⟨Or.inr (Or.inl ⟨by omega,h2⟩),?_⟩;simp only[h2,if_true]
  repeat' split
  all_goals rfl
 ·have x1:=e1 (by omega);have x2:=e2 (by omega);subst x1;subst x2;refine⟨Or.inr (Or.inr ⟨by omega,h2⟩),?_⟩;by_cases z:n<sz
  ·rw[if_pos z];by_cases y:m<sz
   ·rw[if_pos y]
   ·rw[if_neg y];by_cases u:c1<lo\/hi<c1
    ·rw[if_pos u]
    ·rw[if_neg u,if_neg (by omega),if_pos h2]
  ·rw[if_neg z,if_neg (by omega)];by_cases u:c1<lo\/hi<c1
   ·rw[if_pos u,if_pos u]
   ·rw[if_neg u,if_neg u];by_cases z2:sz<=2
    ·simp only[z2,if_true]
    ·simp only[z2,bf,h2,if_true]
theorem xA(a b:ByteArray)(k:Nat)(h:k<a.size):(a++b).get! k=a.get! k:=by
 show (a++b).data[k]! =a.data[k]!;have h':k<a.data.size:=h;rw[dt];rw[getElem!_pos a.data k h',getElem!_pos (a.data++b.data) k (by simp;omega),Array.getElem_append_left h']
theorem PZ(a b:ByteArray)(h:Tk.full a=true):Tk.full (a++b)=true/\Utf8.decode (a++b) 0=Utf8.decode a 0:=by
 have h0:0<a.size:=by
  by_cases e:a.size=0
  ·simp[Tk.full,e]at h
  ·omega
 have hs:(a++b).size=a.size+b.size:=cH;unfold Tk.full at h ⊢;rw[if_neg (by omega)]at h;rw[if_neg (by omega),hs,decode_at,decode_at,hs,xA a b 0 h0];rw[oZ _ _ _ _ _ (by omega) (bL _) (bL _) (bL _) (bL _),oZ _ _ _ _ _ (by omega) (bL _) (bL _) (bL _) (bL _)];exact Iq a.size (a.size+b.size) _ _ _ _ _ _ _ (by omega) (by omega) (fun x=>by rw[xA a b _ x]) (fun x=>by rw[xA a b _ x]) (fun x=>by rw[xA a b _ x]) h
end K
end Go.Proofs.YthlcmljckpdheaaGreatDoor
namespace Go.Proofs.YthlcmljckpdheaaGreatDoor
namespace K
open Go.RowKit Go.Maps Go.Lib Tryz
inductive Ret|more|over|fail(no q:Int)
structure Rd where
 s:Src
 pt:Part
 st:St
 ret:Ret
def lV:Nat->Src->Part->St->Rd
 |0,s,pt,st=>⟨s,pt,st,.more⟩
 |n+1,s,pt,st=>if s.more=true then⟨s,pt,st,.more⟩else
  match (b_ pt s.took.1.at_ st s.took.2).res with
  | .go jT=>lV n s.took.1 jT (b_ pt s.took.1.at_ st s.took.2).st
  | .stop=>⟨s.took.1,pt,(b_ pt s.took.1.at_ st s.took.2).st,.over⟩
  | .fail no q=>⟨s.took.1,pt,(b_ pt s.took.1.at_ st s.took.2).st,.fail no q⟩
def reads(s:Src)(pt:Part)(st:St):Rd:=lV (s.rest.size+1) s pt st
def Src.bare(s:Src):Src:={s with now:=.nilFunc}
theorem Mi(s:Src):s.bare.took=(s.took.1.bare,s.took.2):=by
 unfold Src.took Src.bare;simp only;repeat' split
 all_goals rfl
theorem A9(s:Src):s.bare.more=s.more:=rfl
theorem ml(pt:Part)(q:Int)(st:St)(c:Int)(h:pt.Sound)(hc:c= -1\/c= -2)(hq:0<=st.quote):∀jT,(b_ pt q st c).res≠ .go jT:=by
 cases pt with
 |plain k=>exact(rZ k q st c).neg hc hq
 |word l k=>
  cases l with
  |nil=>exact absurd rfl h.1
  |cons x l=>exact(rj x l k q st c).neg hc hq
 |name i k=>exact(ri i k q st c).neg hc hq
 |ref i k=>
  intro jT e;simp only[b_,oB]at e;split at e
  ·rename_i hi;have:=rT hi;omega
  ·cases e
theorem lX{s:Src}{pt jT:Part}{st:St}{q:Int}(h:pt.Sound)(hq:0<=st.quote)(e:(b_ pt q st s.took.2).res=.go jT):s.took.1.rest.size<s.rest.size/\s.rest.size≠0/\Ch.gW s.rest 0=true:=by
 have hn:=ml pt q st s.took.2 h;unfold Src.took at hn e ⊢;split
 ·rename_i h0;rw[if_pos h0]at hn e;exact absurd e (hn (Or.inl rfl) hq jT)
 ·rename_i h0;rw[if_neg h0]at hn e;split
  ·rename_i h1;have:=Ch.fo s.rest 0 (by omega);refine⟨?_,h0,h1⟩;simp;omega
  ·rename_i h1;rw[if_neg h1]at hn e;exact absurd e (hn (Or.inr rfl) hq jT)
theorem A_:∀(n m k:Nat) (s:Src) (pt:Part) (st:St),sW k pt st->s.rest.size<n->n<=m->lV m s pt st=lV n s pt st:=by
 intro n;induction n with
 |zero=>intro m k s pt st _ h;omega
 |succ n ih=>
  intro m k s pt st hl h hm;obtain⟨m,rfl⟩:∃j,m=j+1:=⟨m-1,by omega⟩
  simp only[lV];split
  ·rfl
  ·split
   ·rename_i jT e;have hk:=lX hl.sound hl.quote e;exact ih m (k+1) _ _ _ (hl.step e) (by omega) (by omega)
   ·rfl
   ·rfl
section
variable{F F':Nat->Prop}{R:Nat}{w w' w'':World}{s s':Src}{p:jl}{st:St}{c:Int}{a:Addr}{pt:Part}{v:Value}
structure Gl(w:World)(a:Addr):Prop where
 tabs:Utf8Tabs 4 5 w
 tab:DG w
 more:More w (.iface 329 (.pointer (some a)))
 et:w.cell? ⟨1,0,none⟩=some (.iface 248 (.agg #[.pointer (some ⟨9,133,none⟩)]))
def Low(F:Nat->Prop):Prop:=∀k,k<=5->¬F k
theorem Gl.size(h:Gl w a):5<w.heap.size:=rX h.tabs
theorem Gl.frame(h:Gl w a)(fr:Frame F w w')(hl:Low F):Gl w' a:=by
 have h4:=h.size;have hb:∀k,k<=5->w'.heap[k]?=w.heap[k]?:=fun k hk=>fr.block k (by omega) (hl k hk);refine⟨⟨fun c hc=>?_,fun i hi=>⟨?_,?_⟩⟩,AR h.tab fr (hl 3 (by omega)),?_,?_⟩
 ·exact(ag (hb 4 (by omega))).trans (h.tabs.1 c hc)
 ·exact(ag (hb 5 (by omega))).trans (h.tabs.2 i hi).1
 ·exact(ag (hb 5 (by omega))).trans (h.tabs.2 i hi).2
 ·exact(ag (hb 0 (by omega))).trans h.more
 ·exact(ag (hb 1 (by omega))).trans h.et
theorem Low.grow(hl:Low F)(h4:5<w.heap.size):Low (Grow F w w'):=fun k hk h=>h.elim (hl k hk) (fun x=>by omega)
theorem Low.lt(hl:Low F)(h:F R):5<R:=by
 by_cases e:R<=5
 ·exact absurd h (hl R e)
 ·omega
theorem gG.keep(h:gG F R w v pt)(hk:∀k,F k->k≠R->w'.heap[k]?=w.heap[k]?)(hF:∀k,F k->F' k):gG F' R w' v pt:=by
 have bx:∀{b x t},qh F R w b x t->qh F' R w' b x t:=fun h=>⟨(hk _ h.2.1 h.2.2).trans h.1,hF _ h.2.1,h.2.2⟩
 cases pt with
 |plain k=>exact h
 |word l k=>obtain⟨b1,b2,e,x1,x2⟩:=h;exact⟨b1,b2,e,bx x1,bx x2⟩
 |name i k=>obtain⟨b1,b2,b3,e,x1,x2,x3⟩:=h;exact⟨b1,b2,b3,e,bx x1,bx x2,bx x3⟩
 |ref i k=>obtain⟨b1,b2,b3,e,x1,x2,x3⟩:=h;exact⟨b1,b2,b3,e,bx x1,bx x2,bx x3⟩
def RG(F:Nat->Prop)(R:Nat)(w:World)(s:Src)(p:jl)(st:St)(w':World):Prop:=fV (Grow F w w') R w' s p st/\Frame F w w'
theorem RG.refl(h:fV F R w s p st):RG F R w s p st w:=⟨h.Pn,Frame.refl _ _⟩
theorem RF.rg(h:RF F R w s p st w'):RG F R w s p st w':=⟨h.1,h.2.1⟩
theorem RG.below(h:RG F R w s p st w')(hb:Z5 w' w''):RG F R w s p st w'':=
 ⟨(h.1.below hb).join h.2.size hb.size,h.2.trans (Frame.below hb)⟩
theorem RG.on{p':jl}{iG:St}(h:RG F R w s p st w')(k:RG (Grow F w w') R w' s' p' iG w''):RG F R w s' p' iG w'':=
 ⟨k.1.join h.2.size k.2.size,h.2.trans k.2⟩
theorem RG.iff(h:RG F R w s p st w')(hF:∀k,F k↔F' k):RG F' R w s p st w':=by refine⟨h.1.mono (fun k hk=>hk.elim (fun x=>Or.inl ((hF k).1 x)) Or.inr) (fun k hk=>h.1.lt k (hk.elim (fun x=>Or.inl ((hF k).2 x)) Or.inr)),⟨h.2.os,h.2.tape,h.2.output,h.2.size,fun k hk hf=>h.2.block k hk (fun x=>hf ((hF k).1 x))⟩⟩
theorem RG.set(h:RG F R w s p st w')(i:Nat)(v:Value)(hc:(cellsOf s p st).setIfInBounds i v=cellsOf s' p st):RG F R w s' p st (w'.setCell ⟨R,i,none⟩ v):=by
 have hsz:(w'.setCell ⟨R,i,none⟩ v).heap.size=w'.heap.size:=by simp[World.setCell]
 have r:=h.1.scalar (s':=s') (iG:=st) i v hc (fun o=>o);have hG:∀k,Grow F w w' k->Grow F w (w'.setCell ⟨R,i,none⟩ v) k:=fun k hk=>by unfold Grow at*;rw[hsz];exact hk
 have ZT:∀k,Grow F w (w'.setCell ⟨R,i,none⟩ v) k->Grow F w w' k:=fun k hk=>by unfold Grow at*;rw[hsz]at hk;exact hk
 refine⟨r.mono hG (fun k hk=>r.lt k (ZT k hk)),⟨h.2.os,h.2.tape,h.2.output,by rw[hsz];exact h.2.size,fun k hk hf=>?_⟩⟩;rw[ae _ _ _ _ ?_]
 ·exact h.2.block k hk hf
 ·intro e;have e':k=R:=e;subst e';rcases h.1.jP with x|x
  ·exact hf x
  ·omega
theorem gG.grow(h:gG F R w' v pt)(_hs:w'.heap.size<=w''.heap.size)(hk:∀k,F k->k≠R->w''.heap[k]?=w'.heap[k]?):gG (Grow F w' w'') R w'' v pt:=
 h.keep hk (fun _ x=>Or.inl x)
theorem gG.func(h:gG F R w v pt):∃f cs,v=.func (.func f) #[] cs:=by
 cases pt with
 |plain k=>exact⟨_,_,h⟩
 |word l k=>obtain⟨b1,b2,e,_⟩:=h;exact⟨_,_,e⟩
 |name i k=>obtain⟨b1,b2,b3,e,_⟩:=h;exact⟨_,_,e⟩
 |ref i k=>obtain⟨b1,b2,b3,e,_⟩:=h;exact⟨_,_,e⟩
def Src.Ok(s:Src):Prop:=0<=s.next/\s.next+s.rest.size<=1099511627776
def pX(F:Nat->Prop)(R:Nat)(w:World)(a:Addr)(m:Rd)(e:Ending)(w':World):Prop:=
 ∃v p',RG F R w {m.s with now:=v} p' m.st w'/\
  match m.ret with
  | .more=>e=.returned (.iface 329 (.pointer (some a)))/\gG (Grow F w w') R w' v m.pt
  | .over=>e=.returned .nilIface/\v=.nilFunc
  | .fail no q=>e=.returned (nT no q)/\v=.nilFunc
def RI(F:Nat->Prop)(R:Nat)(w:World)(m:Rd)(N:Nat)(wr:World):Prop:=
 ∃(s':Src) (p':jl) (iG:St),RG F R w s' p' iG wr/\
  ((∃pt n,gG (Grow F w wr) R wr s'.now pt/\sW n pt iG/\n+s'.rest.size<=N/\s'.Ok/\reads s'.bare pt iG=m)\/
   (s'.now=.nilFunc/\m.s=s'.bare/\m.st=iG/\m.ret=.over))
def r_(R:Nat)(w:World):Nat:=
 (match w.cell? ⟨R,0,none⟩with|some (.string b)=>2*b.size|_=>0)+(match w.cell? ⟨R,4,none⟩with|some .nilFunc=>0|_=>1)
theorem yX(h:fV F R w s p st){f:Nat}{cs:Array Value}(e:s.now=.func (.func f) #[] cs):r_ R w=2*s.rest.size+1:=by
 have c0:w.cell? ⟨R,0,none⟩=some (.string s.rest):=h.cell 0 rfl;have c4:w.cell? ⟨R,4,none⟩=some s.now:=h.cell 4 rfl;simp only[r_,c0,c4,e]
theorem Fi(h:fV F R w s p st)(e:s.now=.nilFunc):r_ R w=2*s.rest.size:=by
 have c0:w.cell? ⟨R,0,none⟩=some (.string s.rest):=h.cell 0 rfl;have c4:w.cell? ⟨R,4,none⟩=some s.now:=h.cell 4 rfl;simp only[r_,c0,c4,e,bN]
theorem Fj(s:Src):tD s.took.2:=by
 unfold Src.took;split
 ·exact Or.inr (Or.inl rfl)
 ·split
  ·rename_i h;simp only[Ch.gW,aV]at h;exact Or.inl h.1
  ·exact Or.inr (Or.inr rfl)
theorem xB(s:Src):s.took.1.at_=s.next:=by
 unfold Src.took;repeat' split
 all_goals rfl
theorem J6(h:s.Ok):s.took.1.Ok/\s.took.1.rest.size<=s.rest.size:=by
 unfold Src.took Src.Ok at*
 split
 ·exact⟨h,aj _⟩
 ·split
  ·have:=Ch.fo s.rest 0 (by omega);simp only[cv];omega
  ·exact⟨h,aj _⟩
theorem yY(s:Src):s.took.1.now=s.now:=by
 unfold Src.took;repeat' split
 all_goals rfl
theorem Ir(h:s.more=true):reads s.bare pt st=⟨s.bare,pt,st,.more⟩:=by unfold reads lV;rw[A9,if_pos h]
theorem tK{n:Nat}(hl:sW n pt st)(h:s.more=false):
  reads s.bare pt st=match (b_ pt s.next st s.took.2).res with
   | .go jT=>reads s.took.1.bare jT (b_ pt s.next st s.took.2).st
   | .stop=>⟨s.took.1.bare,pt,(b_ pt s.next st s.took.2).st,.over⟩
   | .fail no q=>⟨s.took.1.bare,pt,(b_ pt s.next st s.took.2).st,.fail no q⟩:=by
 have ha:s.took.1.bare.at_=s.next:=xB s
 conv=>lhs;unfold reads
 simp only[lV,A9,h,ay,bf,Mi,ha];generalize he:(b_ pt s.next st s.took.2).res=r;cases r with
 |go jT=>
  have hk:=lX hl.sound hl.quote he;exact A_ (s.took.1.rest.size+1) s.rest.size (n+1) s.took.1.bare _ _ (hl.step he) (Nat.lt_succ_self _) (by omega)
 |stop=>rfl
 |fail no q=>rfl
end
section
variable{F F':Nat->Prop}{R:Nat}{w w' w'' wr:World}{s s':Src}{p:jl}{st:St}{c:Int}{a:Addr}{pt:Part}{v:Value}{m:Rd}{N n:Nat}
structure Head(F:Nat->Prop)(R:Nat)(w:World)(m:Rd)(N:Nat)(wr:World)(s':Src)(p':jl)(iG:St)(pt:Part)(n:Nat):Prop where
 rg:RG F R w s' p' iG wr
 part:gG (Grow F w wr) R wr s'.now pt
 lim:sW n pt iG
 le:n+s'.rest.size<=N
 ok:s'.Ok
 eq:reads s'.bare pt iG=m
theorem Head.more(h:Head F R w m N wr s' p st pt n)(hm:s'.more=true)(hb:Z5 wr w'):pX F R w a m (.returned (.iface 329 (.pointer (some a)))) w':=by
 have e:=(Ir hm).symm.trans h.eq;subst e;refine⟨s'.now,p,h.rg.below hb,rfl,?_⟩;exact h.part.keep (fun k hk _=>hb.block k (h.rg.1.lt k hk)) (fun k hk=>hk.elim Or.inl (fun x=>Or.inr ⟨x.1,ah x.2 hb.size⟩))
theorem Head.call(h:Head F R w m N wr s' p st pt n)(gl:Gl w a)(lo:Low F)(hN:N<=274877906944)(hr:RF (Grow F w wr) R wr s'.took.1 p st w'):
  ∃f cs,s'.now=.func (.func f) #[] cs/\(∀args w,(callFunc f args).run prog w=.ok (.enter f args) w)/\
   Z4 f (#[Z8 R,.int .i32 s'.took.2]++cs) w' (eJ (Grow (Grow F w wr) wr w') R w' s'.took.1 (b_ pt s'.next st s'.took.2)):=by
 have hl:=h.rg.1.lt;have pa:gG (Grow (Grow F w wr) wr w') R w' s'.took.1.now pt:=by
  rw[yY];exact h.part.grow hr.2.1.size (fun k hk hR=>hr.2.2 k (hl k hk) hR)
 have Mj:=gl.frame h.rg.2 lo;have Uo:Low (Grow F w wr):=lo.grow gl.size;have gl2:=Mj.frame hr.2.1 Uo;have lo2:Low (Grow (Grow F w wr) wr w'):=Uo.grow Mj.size;have ht:=h.lim.abr (by have:=h.le;omega);have iM:=h.ok;have hc:=LW pt _ hr.1 pa h.lim.sound (Fj s') ht (h.lim.both (by have:=h.le;omega)) (by unfold Src.Fits;rw[xB];unfold Src.Ok at iM;omega) gl2.tab (lo2 3 (by omega));rw[yY,xB]at hc;exact hc
theorem Head.go{p2:jl}{w2:World}{jT:Part}(h:Head F R w m N wr s' p st pt n)(hm:s'.more=false)(hr:RF (Grow F w wr) R wr s'.took.1 p st w')
  (he:(b_ pt s'.next st s'.took.2).res=.go jT) (hp:RG (Grow (Grow F w wr) wr w') R w' s'.took.1 p2 (b_ pt s'.next st s'.took.2).st w2) (hv:gG (Grow (Grow (Grow F w wr) wr w') w' w2) R w2 v jT):
  Head F R w m N (w2.setCell ⟨R,4,none⟩ v) {s'.took.1 with now:=v} p2 (b_ pt s'.next st s'.took.2).st jT (n+1)/\s'.took.1.rest.size<s'.rest.size:=by
 have hk:=lX h.lim.sound h.lim.quote he;have ho:=J6 h.ok;have r2:RG F R w s'.took.1 p2 (b_ pt s'.next st s'.took.2).st w2:=(h.rg.on hr.rg).on (hp.iff (fun k=>Grow.trans h.rg.2.size hr.2.1.size k));refine⟨⟨r2.set (s':={s'.took.1 with now:=v}) 4 v rfl,?_,h.lim.step he,?_,ho.1,?_⟩,hk.1⟩
 ·refine hv.keep (fun k _ hR=>ae _ _ _ _ hR) (fun k hk=>?_);have hsz:(w2.setCell ⟨R,4,none⟩ v).heap.size=w2.heap.size:=by simp[World.setCell]
  unfold Grow at hk ⊢;rw[hsz];have:=h.rg.2.size;have:=hr.2.1.size;have:=hp.2.size;rcases hk with((hk|hk)|hk)|hk
  ·exact Or.inl hk
  ·exact Or.inr (by omega)
  ·exact Or.inr (by omega)
  ·exact Or.inr (by omega)
 ·have:=h.le;show n+1+s'.took.1.rest.size<=N;omega
 ·rw[<-h.eq,tK h.lim hm,he];rfl
theorem Head.stop{p2:jl}{w2:World}(h:Head F R w m N wr s' p st pt n)(hm:s'.more=false)(hr:RF (Grow F w wr) R wr s'.took.1 p st w')
  (he:(b_ pt s'.next st s'.took.2).res=.stop) (hp:RG (Grow (Grow F w wr) wr w') R w' s'.took.1 p2 (b_ pt s'.next st s'.took.2).st w2):
  RI F R w m N (w2.setCell ⟨R,4,none⟩ .nilFunc)/\r_ R (w2.setCell ⟨R,4,none⟩ .nilFunc)<2*s'.rest.size+1:=by
 have r2:RG F R w s'.took.1 p2 (b_ pt s'.next st s'.took.2).st w2:=(h.rg.on hr.rg).on (hp.iff (fun k=>Grow.trans h.rg.2.size hr.2.1.size k));have r3:=r2.set (s':={s'.took.1 with now:=.nilFunc}) 4 .nilFunc rfl;have ho:=J6 h.ok;have e:=h.eq;rw[tK h.lim hm,he]at e;subst e;refine⟨⟨_,_,_,r3,Or.inr ⟨rfl,rfl,rfl,rfl⟩⟩,?_⟩;rw[Fi r3.1 rfl];show 2*s'.took.1.rest.size<_;omega
theorem Head.fail{p2:jl}{w2:World}{no q:Int}(h:Head F R w m N wr s' p st pt n)(hm:s'.more=false)(hr:RF (Grow F w wr) R wr s'.took.1 p st w')
  (he:(b_ pt s'.next st s'.took.2).res=.fail no q) (hp:RG (Grow (Grow F w wr) wr w') R w' s'.took.1 p2 (b_ pt s'.next st s'.took.2).st w2):
  pX F R w a m (.returned (nT no q)) (w2.setCell ⟨R,4,none⟩ .nilFunc):=by
 have r2:RG F R w s'.took.1 p2 (b_ pt s'.next st s'.took.2).st w2:=(h.rg.on hr.rg).on (hp.iff (fun k=>Grow.trans h.rg.2.size hr.2.1.size k));have r3:=r2.set (s':={s'.took.1 with now:=.nilFunc}) 4 .nilFunc rfl;have e:=h.eq;rw[tK h.lim hm,he]at e;subst e;exact⟨.nilFunc,p2,r3,rfl,rfl⟩
theorem RI.over(hg:RG F R w s' p st wr)(h1:s'.now=.nilFunc)(h2:m.s=s'.bare)(h3:m.st=st)(h4:m.ret=.over):pX F R w a m (.returned .nilIface) wr:=by
 obtain⟨r0,n0,a0,e0,nw,no0,f0,cl0⟩:=s';simp only at h1;subst h1;obtain⟨ms,mp,mst,mr⟩:=m;cases h2;cases h3;cases h4;exact⟨.nilFunc,p,hg,rfl,rfl⟩
theorem Xw(f:Nat)(cs:Array Value)(w:World):(binOp .neq 100 (.func (.func f) #[] cs) .nilFunc).run prog w=.ok (.bool true) w:=by kernel_rfl
theorem Up(w:World):(binOp .neq 100 .nilFunc .nilFunc).run prog w=.ok (.bool false) w:=by kernel_rfl
theorem Uq(h:fV F R w s p st)(z7:gG F R w s.now pt)(hl:sW n pt st)(gl:Gl w a)(lo:Low F)(hn:n+s.rest.size<=N)(hN:N<=274877906944)(iM:s.Ok):
  Z4 61 #[Z8 R] w (pX F R w a (reads s.bare pt st)):=by
 have h0:RI F R w (reads s.bare pt st) N w:=⟨s,p,st,RG.refl h,Or.inl ⟨pt,n,z7.grow (aj _) (fun _ _ _=>rfl),hl,hn,iM,rfl⟩⟩
 generalize reads s.bare pt st=m at*
 have H0:=a_ h0;have GL:=a_ gl;have LO:=a_ lo;have hR4:=lo.lt h.jP;clear h z7 hl gl lo hn iM h0;have hnf:=Xw;have K5:=Up;go_enter func61,ntmps61;go_wp2;go_loopw [] (fun wr=>RI F R w m N wr) (fun wr=>r_ R wr)
 case atStart=>exact H0.out
 case round=>
  obtain⟨s',p',iG,rg,hc⟩:=hrel;rcases hc with⟨jT,n',ZY,hl',hle,P0,heq⟩|⟨hno,hs,hst,hov⟩
  ·have hd:Head F R w m N wr s' p' iG jT n':=⟨rg,ZY,hl',hle,P0,heq⟩
   obtain⟨f,cs,hf⟩:=ZY.func;have c4:wr.cell? ⟨R,4,none⟩=some s'.now:=rg.1.cell 4 rfl;have L6:=yX rg.1 hf;rw[hf]at c4;have Mj:=GL.out.frame rg.2 LO.out;by_cases hm:s'.more=true
   ·have rH:=Md rg.1 Mj.tabs a Mj.more hm;have HD:=a_ hd;clear hd rg ZY hl' heq hle P0 hf L6 Mj;go_wp2_with(go_at_call 104;refine rH.mono ?_;rintro e w1 ⟨rfl,b1⟩);go_ret;exact HD.out.more hm b1
   ·have sD:s'.more=false:=by simpa using hm
    have rH:=Un rg.1 Mj.tabs hR4 (by unfold Src.Ok at P0;omega) (by unfold Src.Ok at P0;omega) sD;have Ap:=fun w1 (x:RF (Grow F w wr) R wr s'.took.1 p' iG w1)=>hd.call GL.out LO.out hN x;have HD:=a_ hd;have YT:=a_ L6;have HF:=a_ hf;have KG:=a_ Ap;have P7:=yY s';rw[hf]at P7;clear hd rg ZY hl' heq hle P0 hf L6 Mj Ap hm;unfold xz at rH;obtain⟨c,hc⟩:∃c,c=s'.took.2:=⟨_,rfl⟩
    have HC:=a_ hc;rw[<-hc]at rH KG;clear hc;go_wp2_with(go_at_call 104;refine rH.mono ?_;rintro e w1 ⟨rfl,rf1⟩;have c4':w1.cell? ⟨R,4,none⟩=some (.func (.func f) #[] cs):=by(rw[<-P7];exact rf1.1.cell 4 rfl));obtain⟨f',cs',hf',hen,fy⟩:=KG.out _ rf1;rw[HF.out]at hf';simp only[Value.func.injEq,Fn.func.injEq,dG]at hf';obtain⟨rfl,rfl⟩:=hf';rw[hen];go_wp2_with fail;refine fy.mono ?_;rintro e w2 ⟨p2,r2,tY,hP⟩;have rg2:RG (Grow (Grow F w wr) wr w1) R w1 s'.took.1 p2 (b_ jT s'.next iG c).st w2:=⟨r2,tY⟩
    have d4:w2.cell? ⟨R,4,none⟩=some (.func (.func f) #[] cs):=by rw[<-P7];exact r2.cell 4 rfl
    have f4:=r2.free 4;have RF1:=a_ rf1;have RG2:=a_ rg2;clear rf1 rg2 r2 tY KG rH fy c4' c4;generalize hres:(b_ jT s'.next iG c).res=res at hP;cases res with
    |go pt2=>
     obtain⟨v',rfl,hv'⟩:=hP;obtain⟨f2,Gm,rfl⟩:=hv'.func;have aaa:=qX w2 ⟨R,4,none⟩ _ (.func (.func f2) #[] Gm) rfl d4 f4;have E:=a_ (HD.out.go sD RF1.out (HC.out.symm▸hres) (HC.out.symm▸RG2.out) hv');clear hv';go_wp2
     go_roundw
     case rel=>
      obtain⟨Gf,hlt⟩:=E.out;exact⟨_,_,_,Gf.rg,Or.inl ⟨pt2,n'+1,Gf.part,Gf.lim,Gf.le,Gf.ok,Gf.eq⟩⟩
     case measure=>
      obtain⟨Gf,hlt⟩:=E.out;rw[yX Gf.rg.1 rfl,YT.out];show 2*s'.took.1.rest.size+1<_;omega
    |stop=>
     simp only at hP;subst hP;have aaa:=qX w2 ⟨R,4,none⟩ _ .nilFunc rfl d4 f4;have E:=a_ (HD.out.stop sD RF1.out (HC.out.symm▸hres) (HC.out.symm▸RG2.out));go_wp2
     go_roundw
     case rel=>exact E.out.1
     case measure=>
      rw[YT.out];exact E.out.2
    |fail no q=>
     simp only at hP;subst hP;have aaa:=qX w2 ⟨R,4,none⟩ _ .nilFunc rfl d4 f4;have E:=a_ (HD.out.fail (a:=a) sD RF1.out (HC.out.symm▸hres) (HC.out.symm▸RG2.out));unfold nT at*
     go_wp2;go_ret;exact E.out
  ·have c4:wr.cell? ⟨R,4,none⟩=some s'.now:=rg.1.cell 4 rfl;rw[hno]at c4;have E:=a_ (RI.over (a:=a) rg hno hs hst hov);clear rg hs hst hov;go_wp2;go_ret;exact E.out
end
end K
end Go.Proofs.YthlcmljckpdheaaGreatDoor
namespace Go.Proofs
open Go.Shelf
def Tryz.lays316_ren:Go.Shelf.Ren:=⟨fun|316=>160|n=>n,fun|0=>0|3=>3|4=>4|5=>5|9=>9|37=>101|127=>180|n=>n,fun|n=>n⟩
theorem Tryz.lays316:Go.Proofs.LaysM.n316 Tryz.prog Tryz.lays316_ren:={
 mixed:=by kernel_rfl
 f316:=Tryz.func160.trans (aA some (by kernel_rfl))
 t0:=Tryz.underlying0
 a0:=Tryz.isAgg0
 z0:=Tryz.sizeOf0
 v0:=Tryz.zeroValue0
 i0:=by kernel_rfl
 t3:=Tryz.underlying3
 a3:=Tryz.isAgg3
 z3:=Tryz.sizeOf3
 v3:=Tryz.zeroValue3
 i3:=by kernel_rfl
 t4:=Tryz.underlying4
 a4:=Tryz.isAgg4
 z4:=Tryz.sizeOf4
 v4:=Tryz.zeroValue4
 i4:=by kernel_rfl
 t5:=Tryz.underlying5
 a5:=Tryz.isAgg5
 z5:=Tryz.sizeOf5
 v5:=Tryz.zeroValue5
 i5:=by kernel_rfl
 t9:=Tryz.underlying9
 a9:=Tryz.isAgg9
 z9:=Tryz.sizeOf9
 v9:=Tryz.zeroValue9
 i9:=by kernel_rfl
 t37:=Tryz.underlying101
 a37:=Tryz.isAgg101
 z37:=Tryz.sizeOf101
 v37:=Tryz.zeroValue101
 i37:=by kernel_rfl
 t127:=Tryz.underlying180
 a127:=Tryz.isAgg180
 z127:=Tryz.sizeOf180
 v127:=Tryz.zeroValue180
 i127:=by kernel_rfl}
end Go.Proofs
namespace Go.Proofs.YthlcmljckpdheaaGreatDoor
namespace K
open Go.RowKit Tryz
theorem Ml(s:ByteArray)(w:World)(hlim:s.size<=281474976710656):
  Z4 107 #[.string s] w (Z7 (.string s) w):=by
 have hc:=Any.stringslite_Clone lays316 s w hlim;go_enter func107,ntmps107;go_wp2_with(go_at_call 160;refine hc.mono ?_;rintro e w1 ⟨rfl,b1⟩);go_ret;exact⟨rfl,b1⟩
end K
end Go.Proofs.YthlcmljckpdheaaGreatDoor
