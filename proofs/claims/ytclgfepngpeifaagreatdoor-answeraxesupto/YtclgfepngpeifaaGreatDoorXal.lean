import Derived.Test.YtclgfepngpeifaaGreatDoorXA
import Derived.Deep.RegionLaw
import Derived.Test.YtclgfepngpeifaaGreatDoorXaj
set_option linter.unusedVariables false
set_option linter.unusedSimpArgs false
set_option maxHeartbeats 32000000
set_option maxRecDepth 100000
namespace Go.Proofs.YtclgfepngpeifaaGreatDoor
namespace K
open Go.RowKit Go.Maps Tryz
section
variable{F:Nat->Prop}{R:Nat}{w w':World}{s:Src}{p:Ptr}{st:St}{c:Int}
theorem fB.mono{F':Nat->Prop}(h:fB F R w s p st)(h1:∀k,F k->F' k)(h2:∀k,F' k->k<w.heap.size):fB F' R w s p st:=
 ⟨h.blk,h1 R h.jt,h2,h.own.frame (fun _ _ _=>rfl) h1⟩
theorem fB.join{a b:World}(h:fB (Grow (Grow F a b) b w) R w s p st)(h1:a.heap.size<=b.heap.size)(h2:b.heap.size<=w.heap.size):fB (Grow F a w) R w s p st:=
 h.mono (fun k hk=>(Grow.trans h1 h2 k).1 hk) (fun k hk=>h.lt k ((Grow.trans h1 h2 k).2 hk))
def TG(R:Nat)(ao:Option Addr)(n cap:Nat)(q:Int)(l:List UInt8)(W:World):Prop:=
 W.cell? ⟨R,9,none⟩=some (.slice ao n cap)/\W.cell? ⟨R,8,none⟩=some (.int .i64 q)/\W.ownsRow 0 5 1 (.slice ao n cap) l.length (Lib.byteCells l)
theorem Pn{ao:Option Addr}{n cap:Nat}{q:Int}{l:List UInt8}{W:World}(h:TG R ao n cap q l W)(o:Obj):TG R ao n cap q l (W.alloc o):=
 ⟨dV o h.1,dV o h.2.1,h.2.2.alloc o⟩
theorem V1{ao:Option Addr}{n cap:Nat}{q:Int}{l:List UInt8}{W:World}(hR:(Value.slice ao n cap).ownBlock≠some R)(h:TG R ao n cap q l W)(u:Value):TG R ao n cap q l (W.setCell ⟨R,5,none⟩ u):=
 ⟨lu u h.1 (by decide),lu u h.2.1 (by decide),jm h.2.2 _ _ hR⟩
theorem Y9(w1:World)(i:Nat)(a:Value):(∀x,x≠R->(w1.setCell ⟨R,i,none⟩ a).heap[x]?=w1.heap[x]?)/\(w1.setCell ⟨R,i,none⟩ a).heap.size=w1.heap.size:=
 ⟨fun x hx=>ak _ _ _ _ hx,by simp[World.setCell]⟩
theorem uI{w1 o}{v':Value}(h:fB F R w s p st){cs:List Value}(hc:w.ownsRow 0 56 5 p.told st.told.length cs)(hT:k_ F R w p.attrs st.told cs)
  (hg:(w.drew.alloc o).grownBy w1 p.told.ownBlock) (ho:w1.ownsRow 0 56 5 v' (st.told.length+1) (cs++eB ⟨2,st.run .name,[],[],st.fP⟩ (.slice none 0 0))) (hat:v'.ownBlock=p.told.ownBlock\/v'.ownBlock=some (w.heap.size+1)):
  ∃p',fB (Grow F w (w1.setCell ⟨R,5,none⟩ v')) R (w1.setCell ⟨R,5,none⟩ v') s p' {st with told:=st.told++[⟨2,st.run .name,[],[],st.fP⟩]}/\Frame F w (w1.setCell ⟨R,5,none⟩ v'):=by
 have hR:=h.lt R h.jt;obtain⟨hk,hsz⟩:=Y9 (R:=R) w1 5 v';have hb1:=fF h.blk (fun e=>(h.own.gK R e).2 rfl) hg;have hb:=eh (i:=5) hb1 v';have hK:Kept R p.told.ownBlock w _:=xG (R:=R) hg hsz hk rfl rfl rfl;have hne:∀k,v'.ownBlock=some k->k≠R:=CY h.own hR hat;generalize w1.setCell ⟨R,5,none⟩ v'=w' at*
 have o1:=h.own.tell h.lt h.jt hc hT hK v' ⟨2,st.run .name,[],[],st.fP⟩ rfl (dW ho fun k e=>hk k (hne k e)) (CZ hat);have s9:∀k,Grow F w w' k->k<w'.heap.size:=iu h.lt hK.size;refine⟨_,⟨?_,Or.inl h.jt,s9,o1⟩,hK.frame h.own h.jt⟩;rw[hb];rfl
theorem l6(h:fB F R w s p st)(hs:st.told.length<=1099511627780):
  Z4 149 #[Z8 R] w fun e w'=>e=.returned (.tuple #[])/\∃p',fB (Grow F w w') R w' s p' st.fI/\Frame F w w':=by
 have eR:=oZ h (by omega);have hsl:st.dX.told.length<=1099511627790:=by unfold St.dX;split<;>first|omega|(simp[St.clear,St.dT];omega)
 have hst:st.fI={st.dX with told:=st.dX.told++[⟨2,st.dX.run .name,[],[],st.dX.fP⟩]}:=by
  unfold St.fI St.dX;split<;>rfl
 have HST:=a_ hst;generalize st.dX=fg at*
 clear hst;obtain⟨i0,hi,hz0,hz1,hz2⟩:=aY CX;have H:=a_ h;clear h;go_enter func149,ntmps149;go_wp2_with(go_at_call 62;refine eR.mono ?_;rintro e w1 ⟨rfl,p1,h1,xl,en1,en2⟩;clear en1 en2);clear eR;obtain⟨ao,cap,hv⟩:=dS (h1.own.run .name);have uj:w1.ownsRow 0 5 1 (.slice ao (fg.run .name).length cap) (fg.run .name).length (Lib.byteCells (fg.run .name)):=by rw[<-hv];exact h1.own.run .name
 have Ab:(Value.slice ao (fg.run .name).length cap).ownBlock≠some R:=by rw[<-hv];exact fun e=>(h1.own.jg .name R e).2 rfl
 obtain⟨cs,hc,hT⟩:=h1.own.told;obtain⟨ti,tc,E7⟩:=dS hc;have Y_:(Value.slice ti fg.told.length tc).ownBlock≠some R:=by rw[<-E7];exact fun e=>(h1.own.gK R e).2 rfl
 have c5:w1.cell? ⟨R,5,none⟩=some (.slice ti fg.told.length tc):=by rw[<-E7];exact h1.cell 5 rfl
 have c9:w1.cell? ⟨R,9,none⟩=some (.slice ao (fg.run .name).length cap):=by rw[<-hv];exact h1.cell 9 rfl
 have c8:w1.cell? ⟨R,8,none⟩=some (.int .i64 fg.fP):=h1.cell 8 rfl;have hcv:∀W:World,W.ownsRow 0 5 1 (.slice ao (fg.run .name).length cap) (fg.run .name).length (Lib.byteCells (fg.run .name))->(convert 101 9 (.slice ao (fg.run .name).length cap)).run prog W=.ok (.string ⟨(fg.run .name).toArray⟩) W:=fun W h=>kR h;have HT:Hid (w1.ownsRow 0 56 5 (.slice ti fg.told.length tc) fg.told.length cs):=by rw[<-E7];exact hc
 have HL:=a_ uj;have T0:Hid (TG R ao (fg.run .name).length cap fg.fP (fg.run .name) w1.drew):=⟨c9,c8,HL.out.drew⟩
 have T1:Hid (∀o,TG R ao (fg.run .name).length cap fg.fP (fg.run .name) (w1.drew.alloc o)):=fun o=>Pn T0.out o;have hlt:=h1.lt R h1.jt;have H1:=a_ h1;have HC:=a_ hc;have HTT:=a_ hT;have HV:=a_ E7;clear h1 hc hT uj hv E7;have VX:=hcv w1.drew HL.out.drew;go_region_law
  (first|(
   refine eL rfl (.tmp 8) (.tmp 20) 47 rfl 56 i0 _ 5 72 underlying47 hi hz0 hz1 hz2 rfl (by decide) (.slice ti fg.told.length tc) fg.told.length cs (by simp[Act.eval,Act.put]) (HT.out.drew.alloc _) ⟨w1.heap.size,0,none⟩ 1 1 (eB ⟨2,fg.run .name,[],[],fg.fP⟩ (.slice none 0 0)) (by simp[Act.eval,Act.put]) rfl (yH _ _ _) (oY _ _ rfl) (by unfold maxLen;omega) (by omega) ?_;intro v' w2 ho hg hat;obtain⟨sP,cap',rfl⟩:=dS ho;have hb1:=fF H1.out.blk Y_ hg;have c5':w2.cell? ⟨R,5,none⟩=some (p1.told):=cell_of hb1 rfl;have c9':w2.cell? ⟨R,9,none⟩=some (.slice ao (fg.run .name).length cap):=(cell_of hb1 rfl).trans ((H1.out.cell 9 rfl).symm.trans c9);have c8':w2.cell? ⟨R,8,none⟩=some (.int .i64 fg.fP):=cell_of hb1 rfl;have f5':=dY (i:=5) hb1;have T2:Hid (TG R ao (fg.run .name).length cap fg.fP (fg.run .name) w2):=⟨c9',c8',oC (HL.out.drew.alloc _) (HT.out.drew.alloc _) (by decide) hg⟩
   have T3:Hid (∀v,TG R ao (fg.run .name).length cap fg.fP (fg.run .name) (w2.setCell ⟨R,5,none⟩ v)):=fun v=>V1 Ab T2.out v;have HO:=a_ ho;have HG:=a_ hg;have HA:=a_ hat;clear ho hg hat hb1))
 all_goals
  go_wp2
  go_end0
  obtain⟨p2,r2,f2⟩:=uI H1.out HC.out HTT.out (by rw[HV.out];exact HG.out) HO.out (by rw[HV.out];simpa using HA.out);rw[HST.out];exact⟨rfl,p2,r2.join xl.size f2.size,xl.trans f2⟩
end
end K
end Go.Proofs.YtclgfepngpeifaaGreatDoor
