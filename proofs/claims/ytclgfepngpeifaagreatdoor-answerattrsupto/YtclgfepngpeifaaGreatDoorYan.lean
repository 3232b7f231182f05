import Derived.Test.YtclgfepngpeifaaGreatDoorYA
import Derived.Deep.RegionLaw
import Derived.Test.YtclgfepngpeifaaGreatDoorYal
set_option linter.unusedVariables false
set_option linter.unusedSimpArgs false
set_option maxHeartbeats 32000000
set_option maxRecDepth 100000
namespace Go.Proofs.YtclgfepngpeifaaGreatDoor
namespace K
open Go.RowKit Go.Maps Tryz
section
variable{F:Nat->Prop}{R:Nat}{w w':World}{s:Src}{p:Ptr}{st:St}{c:Int}
def TO(R:Nat)(ao:Option Addr)(n cap:Nat)(q:Int)(l:List UInt8)(ai:Option Addr)(an ac:Nat)(W:World):Prop:=
 W.cell? ⟨R,9,none⟩=some (.slice ao n cap)/\W.cell? ⟨R,8,none⟩=some (.int .i64 q)/\W.cell? ⟨R,11,none⟩=some (.slice ai an ac)/\W.ownsRow 0 5 1 (.slice ao n cap) l.length (Lib.byteCells l)
theorem PF{ao:Option Addr}{n cap:Nat}{q:Int}{l:List UInt8}{ai:Option Addr}{an ac:Nat}{W:World}(h:TO R ao n cap q l ai an ac W)(o:Obj):TO R ao n cap q l ai an ac (W.alloc o):=
 ⟨dX o h.1,dX o h.2.1,dX o h.2.2.1,h.2.2.2.alloc o⟩
theorem Wx{ao:Option Addr}{n cap:Nat}{q:Int}{l:List UInt8}{ai:Option Addr}{an ac:Nat}{W:World}(hR:(Value.slice ao n cap).ownBlock≠some R)(h:TO R ao n cap q l ai an ac W)(u:Value):TO R ao n cap q l ai an ac (W.setCell ⟨R,5,none⟩ u):=
 ⟨lj u h.1 (by decide),lj u h.2.1 (by decide),lj u h.2.2.1 (by decide),jr h.2.2.2 _ _ hR⟩
theorem uz{w1 o}{v':Value}(h:fF F R w s p st){cs:List Value}(hc:w.ownsRow 0 56 5 p.told st.told.length cs)(hT:k9 F R w p.attrs st.told cs)
  (hg:(w.drew.alloc o).grownBy w1 p.told.ownBlock) (ho:w1.ownsRow 0 56 5 v' (st.told.length+1) (cs++eH ⟨1,st.run .name,st.attrs,[],st.fV⟩ p.attrs)) (hat:v'.ownBlock=p.told.ownBlock\/v'.ownBlock=some (w.heap.size+1)):
  ∃p',fF (Grow F w (((w1.setCell ⟨R,5,none⟩ v').setCell ⟨R,11,none⟩ (.slice none 0 0)).setCell ⟨R,12,none⟩ (.map none))) R (((w1.setCell ⟨R,5,none⟩ v').setCell ⟨R,11,none⟩ (.slice none 0 0)).setCell ⟨R,12,none⟩ (.map none)) s p' {st with told:=st.told++[⟨1,st.run .name,st.attrs,[],st.fV⟩],attrs:=[],names:=[]}/\Frame F w (((w1.setCell ⟨R,5,none⟩ v').setCell ⟨R,11,none⟩ (.slice none 0 0)).setCell ⟨R,12,none⟩ (.map none)):=by
 have hR:=h.lt R h.jz;obtain⟨hk,hsz⟩:=Pm (R:=R) w1 5 11 12 v' (.slice none 0 0) (.map none);have hb1:=fL h.blk (fun e=>(h.own.gV R e).2 rfl) hg;have hb:=ej (i:=12) (ej (i:=11) (ej (i:=5) hb1 v') (.slice none 0 0)) (.map none);have hK:Kept R p.told.ownBlock w _:=xB (R:=R) hg hsz hk rfl rfl rfl;have hne:∀k,v'.ownBlock=some k->k≠R:=CX h.own hR hat;generalize ((w1.setCell ⟨R,5,none⟩ v').setCell ⟨R,11,none⟩ (.slice none 0 0)).setCell ⟨R,12,none⟩ (.map none)=w' at*
 have o1:=h.own.Pk h.lt h.jz hc hT hK v' ⟨1,st.run .name,st.attrs,[],st.fV⟩ rfl (dY ho fun k e=>hk k (hne k e)) (CY hat);have sT:∀k,Grow F w w' k->k<w'.heap.size:=iA h.lt hK.size;refine⟨_,⟨?_,Or.inl h.jz,sT,o1⟩,hK.frame h.own h.jz⟩;rw[hb];rfl
theorem pG(h:fF F R w s p st)(hs:st.told.length<=1099511627780):
  Z4 156 #[Z8 R] w fun e w'=>e=.returned (.tuple #[])/\∃p',fF (Grow F w w') R w' s p' st.eI/\Frame F w w':=by
 have eX:=o6 h (by omega);have hsl:st.dZ.told.length<=1099511627790:=by unfold St.dZ;split<;>first|omega|(simp[St.clear,St.dV];omega)
 have hst:st.eI={st.dZ with told:=st.dZ.told++[⟨1,st.dZ.run .name,st.dZ.attrs,[],st.dZ.fV⟩],attrs:=[],names:=[]}:=by
  unfold St.eI St.dZ;split<;>rfl
 have HST:=a_ hst;generalize st.dZ=fl at*
 clear hst;obtain⟨i0,hi,hz0,hz1,hz2⟩:=aY CW;have H:=a_ h;clear h;go_enter func156,ntmps156;go_wp2_with(go_at_call 62;refine eX.mono ?_;rintro e w1 ⟨rfl,p1,h1,xb,en1,en2⟩;clear en1 en2);clear eX;obtain⟨ao,cap,hv⟩:=dU (h1.own.run .name);have t_:w1.ownsRow 0 5 1 (.slice ao (fl.run .name).length cap) (fl.run .name).length (Lib.byteCells (fl.run .name)):=by rw[<-hv];exact h1.own.run .name
 have zZ:(Value.slice ao (fl.run .name).length cap).ownBlock≠some R:=by rw[<-hv];exact fun e=>(h1.own.jk .name R e).2 rfl
 obtain⟨ai,ac,l8⟩:=dU h1.own.attrs;obtain⟨cs,hc,hT⟩:=h1.own.told;obtain⟨ti,tc,E_⟩:=dU hc;have ZB:(Value.slice ti fl.told.length tc).ownBlock≠some R:=by rw[<-E_];exact fun e=>(h1.own.gV R e).2 rfl
 have c5:w1.cell? ⟨R,5,none⟩=some (.slice ti fl.told.length tc):=by rw[<-E_];exact h1.cell 5 rfl
 have c9:w1.cell? ⟨R,9,none⟩=some (.slice ao (fl.run .name).length cap):=by rw[<-hv];exact h1.cell 9 rfl
 have c8:w1.cell? ⟨R,8,none⟩=some (.int .i64 fl.fV):=h1.cell 8 rfl;have c11:w1.cell? ⟨R,11,none⟩=some (.slice ai fl.attrs.length ac):=by rw[<-l8];exact h1.cell 11 rfl
 have hcv:∀W:World,W.ownsRow 0 5 1 (.slice ao (fl.run .name).length cap) (fl.run .name).length (Lib.byteCells (fl.run .name))->(convert 101 9 (.slice ao (fl.run .name).length cap)).run prog W=.ok (.string ⟨(fl.run .name).toArray⟩) W:=fun W h=>kQ h;have HT:Hid (w1.ownsRow 0 56 5 (.slice ti fl.told.length tc) fl.told.length cs):=by rw[<-E_];exact hc
 have HL:=a_ t_;have T0:Hid (TO R ao (fl.run .name).length cap fl.fV (fl.run .name) ai fl.attrs.length ac w1.drew):=⟨c9,c8,c11,HL.out.drew⟩
 have T1:Hid (∀o,TO R ao (fl.run .name).length cap fl.fV (fl.run .name) ai fl.attrs.length ac (w1.drew.alloc o)):=fun o=>PF T0.out o;have hlt:=h1.lt R h1.jz;have H1:=a_ h1;have HC:=a_ hc;have HTT:=a_ hT;have HV:=a_ E_;have HAV:=a_ l8;clear h1 hc hT t_ hv E_ l8;have Wr:=hcv w1.drew HL.out.drew;go_region_law
  (first|(
   refine eP rfl (.tmp 8) (.tmp 24) 47 rfl 56 i0 _ 5 72 underlying47 hi hz0 hz1 hz2 rfl (by decide) (.slice ti fl.told.length tc) fl.told.length cs (by simp[Act.eval,Act.put]) (HT.out.drew.alloc _) ⟨w1.heap.size,0,none⟩ 1 1 (eH ⟨1,fl.run .name,fl.attrs,[],fl.fV⟩ (.slice ai fl.attrs.length ac)) (by simp[Act.eval,Act.put]) rfl (yB _ _ _) (oZ _ _ rfl) (by unfold maxLen;omega) (by omega) ?_;intro v' w2 ho hg hat;obtain⟨sA,cap',rfl⟩:=dU ho;have hb1:=fL H1.out.blk ZB hg;have c5':w2.cell? ⟨R,5,none⟩=some (p1.told):=cell_of hb1 rfl;have c9':w2.cell? ⟨R,9,none⟩=some (.slice ao (fl.run .name).length cap):=(cell_of hb1 rfl).trans ((H1.out.cell 9 rfl).symm.trans c9);have ZC:w2.cell? ⟨R,11,none⟩=some (.slice ai fl.attrs.length ac):=(cell_of hb1 rfl).trans ((H1.out.cell 11 rfl).symm.trans c11);have c8':w2.cell? ⟨R,8,none⟩=some (.int .i64 fl.fV):=cell_of hb1 rfl;have abL:w2.cell? ⟨R,12,none⟩=some p1.names:=cell_of hb1 rfl;have f5':=d_ (i:=5) hb1;have aaZ:=d_ (i:=11) hb1;have abM:=d_ (i:=12) hb1;have T2:Hid (TO R ao (fl.run .name).length cap fl.fV (fl.run .name) ai fl.attrs.length ac w2):=⟨c9',c8',ZC,oG (HL.out.drew.alloc _) (HT.out.drew.alloc _) (by decide) hg⟩
   have T3:Hid (∀v,TO R ao (fl.run .name).length cap fl.fV (fl.run .name) ai fl.attrs.length ac (w2.setCell ⟨R,5,none⟩ v)):=fun v=>Wx zZ T2.out v;have HO:=a_ ho;have HG:=a_ hg;have HA:=a_ hat;clear ho hg hat hb1))
 all_goals
  go_wp2
  go_end0
  obtain⟨p2,r2,f2⟩:=uz H1.out HC.out HTT.out (by rw[HV.out];exact HG.out) (by rw[HAV.out];exact HO.out) (by rw[HV.out];simpa using HA.out);rw[HST.out];exact⟨rfl,p2,r2.join xb.size f2.size,xb.trans f2⟩
end
end K
end Go.Proofs.YtclgfepngpeifaaGreatDoor
