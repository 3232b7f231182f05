import Derived.Test.YthlcmljckpdheaaGreatDoorHA
import Derived.Deep.RegionLaw
import Derived.Test.YthlcmljckpdheaaGreatDoorHal
set_option linter.unusedVariables false
set_option linter.unusedSimpArgs false
set_option maxHeartbeats 32000000
set_option maxRecDepth 100000
namespace Go.Proofs.YthlcmljckpdheaaGreatDoor
namespace K
open Go.RowKit Go.Maps Tryz
section
variable{F:Nat->Prop}{R:Nat}{w w':World}{s:Src}{p:jl}{st:St}{c:Int}
def TO(R:Nat)(ao:Option Addr)(n cap:Nat)(q:Int)(l:List UInt8)(ai:Option Addr)(an ac:Nat)(W:World):Prop:=
 W.cell? ⟨R,9,none⟩=some (.slice ao n cap)/\W.cell? ⟨R,8,none⟩=some (.int .i64 q)/\W.cell? ⟨R,11,none⟩=some (.slice ai an ac)/\W.ownsRow 0 5 1 (.slice ao n cap) l.length (Lib.byteCells l)
theorem PN{ao:Option Addr}{n cap:Nat}{q:Int}{l:List UInt8}{ai:Option Addr}{an ac:Nat}{W:World}(h:TO R ao n cap q l ai an ac W)(o:Obj):TO R ao n cap q l ai an ac (W.alloc o):=
 ⟨eG o h.1,eG o h.2.1,eG o h.2.2.1,h.2.2.2.alloc o⟩
theorem Xl{ao:Option Addr}{n cap:Nat}{q:Int}{l:List UInt8}{ai:Option Addr}{an ac:Nat}{W:World}(hR:(Value.slice ao n cap).ownBlock≠some R)(h:TO R ao n cap q l ai an ac W)(u:Value):TO R ao n cap q l ai an ac (W.setCell ⟨R,5,none⟩ u):=
 ⟨lR u h.1 (by decide),lR u h.2.1 (by decide),lR u h.2.2.1 (by decide),jK h.2.2.2 _ _ hR⟩
theorem uI{w1 o}{v':Value}(h:fV F R w s p st){cs:List Value}(hc:w.ownsRow 0 67 5 p.told st.told.length cs)(hT:lH F R w p.d_ st.told cs)
  (hg:(w.drew.alloc o).grownBy w1 p.told.ownBlock) (ho:w1.ownsRow 0 67 5 v' (st.told.length+1) (cs++fk ⟨1,st.run .name,st.d_,[],st.gy⟩ p.d_)) (hat:v'.ownBlock=p.told.ownBlock\/v'.ownBlock=some (w.heap.size+1)):
  ∃p',fV (Grow F w (((w1.setCell ⟨R,5,none⟩ v').setCell ⟨R,11,none⟩ (.slice none 0 0)).setCell ⟨R,12,none⟩ (.map none))) R (((w1.setCell ⟨R,5,none⟩ v').setCell ⟨R,11,none⟩ (.slice none 0 0)).setCell ⟨R,12,none⟩ (.map none)) s p' {st with told:=st.told++[⟨1,st.run .name,st.d_,[],st.gy⟩],d_:=[],names:=[]}/\Frame F w (((w1.setCell ⟨R,5,none⟩ v').setCell ⟨R,11,none⟩ (.slice none 0 0)).setCell ⟨R,12,none⟩ (.map none)):=by
 have hR:=h.lt R h.jP;obtain⟨hk,hsz⟩:=Pr (R:=R) w1 5 11 12 v' (.slice none 0 0) (.map none);have hb1:=f_ h.blk (fun e=>(h.own.iy R e).2 rfl) hg;have hb:=fe (i:=12) (fe (i:=11) (fe (i:=5) hb1 v') (.slice none 0 0)) (.map none);have hK:Kept R p.told.ownBlock w _:=xx (R:=R) hg hsz hk rfl rfl rfl;have hne:∀k,v'.ownBlock=some k->k≠R:=CH h.own hR hat;generalize ((w1.setCell ⟨R,5,none⟩ v').setCell ⟨R,11,none⟩ (.slice none 0 0)).setCell ⟨R,12,none⟩ (.map none)=w' at*
 have o1:=h.own.Pq h.lt h.jP hc hT hK v' ⟨1,st.run .name,st.d_,[],st.gy⟩ rfl (eH ho fun k e=>hk k (hne k e)) (CJ hat);have sw:∀k,Grow F w w' k->k<w'.heap.size:=iX h.lt hK.size;refine⟨_,⟨?_,Or.inl h.jP,sw,o1⟩,hK.frame h.own h.jP⟩;rw[hb];rfl
theorem qi(h:fV F R w s p st)(hs:st.told.length<=1099511627780):
  Z4 153 #[Z8 R] w fun e w'=>e=.returned (.tuple #[])/\∃p',fV (Grow F w w') R w' s p' st.fl/\Frame F w w':=by
 have fy:=pR h (by omega);have hsl:st.eK.told.length<=1099511627790:=by unfold St.eK;split<;>first|omega|(simp[St.clear,St.eI];omega)
 have hst:st.fl={st.eK with told:=st.eK.told++[⟨1,st.eK.run .name,st.eK.d_,[],st.eK.gy⟩],d_:=[],names:=[]}:=by
  unfold St.fl St.eK;split<;>rfl
 have HST:=a_ hst;generalize st.eK=fI at*
 clear hst;obtain⟨i0,hi,hz0,hz1,hz2⟩:=aZ CG;have H:=a_ h;clear h;go_enter func153,ntmps153;go_wp2_with(go_at_call 58;refine fy.mono ?_;rintro e w1 ⟨rfl,p1,h1,w_,en1,en2⟩;clear en1 en2);clear fy;obtain⟨ao,cap,hv⟩:=eF (h1.own.run .name);have Gh:w1.ownsRow 0 5 1 (.slice ao (fI.run .name).length cap) (fI.run .name).length (Lib.byteCells (fI.run .name)):=by rw[<-hv];exact h1.own.run .name
 have Li:(Value.slice ao (fI.run .name).length cap).ownBlock≠some R:=by rw[<-hv];exact fun e=>(h1.own.jE .name R e).2 rfl
 obtain⟨ai,ac,ng⟩:=eF h1.own.d_;obtain⟨cs,hc,hT⟩:=h1.own.told;obtain⟨ti,tc,EJ⟩:=eF hc;have ZN:(Value.slice ti fI.told.length tc).ownBlock≠some R:=by rw[<-EJ];exact fun e=>(h1.own.iy R e).2 rfl
 have c5:w1.cell? ⟨R,5,none⟩=some (.slice ti fI.told.length tc):=by rw[<-EJ];exact h1.cell 5 rfl
 have c9:w1.cell? ⟨R,9,none⟩=some (.slice ao (fI.run .name).length cap):=by rw[<-hv];exact h1.cell 9 rfl
 have c8:w1.cell? ⟨R,8,none⟩=some (.int .i64 fI.gy):=h1.cell 8 rfl;have c11:w1.cell? ⟨R,11,none⟩=some (.slice ai fI.d_.length ac):=by rw[<-ng];exact h1.cell 11 rfl
 have hcv:∀W:World,W.ownsRow 0 5 1 (.slice ao (fI.run .name).length cap) (fI.run .name).length (Lib.byteCells (fI.run .name))->(convert 101 9 (.slice ao (fI.run .name).length cap)).run prog W=.ok (.string ⟨(fI.run .name).toArray⟩) W:=fun W h=>jW h;have HT:Hid (w1.ownsRow 0 67 5 (.slice ti fI.told.length tc) fI.told.length cs):=by rw[<-EJ];exact hc
 have HL:=a_ Gh;have T0:Hid (TO R ao (fI.run .name).length cap fI.gy (fI.run .name) ai fI.d_.length ac w1.drew):=⟨c9,c8,c11,HL.out.drew⟩
 have T1:Hid (∀o,TO R ao (fI.run .name).length cap fI.gy (fI.run .name) ai fI.d_.length ac (w1.drew.alloc o)):=fun o=>PN T0.out o;have hlt:=h1.lt R h1.jP;have H1:=a_ h1;have HC:=a_ hc;have HTT:=a_ hT;have HV:=a_ EJ;have HAV:=a_ ng;clear h1 hc hT Gh hv EJ ng;have Xf:=hcv w1.drew HL.out.drew;go_region_law
  (first|(
   refine fA rfl (.tmp 8) (.tmp 24) 59 rfl 67 i0 _ 5 72 underlying59 hi hz0 hz1 hz2 rfl (by decide) (.slice ti fI.told.length tc) fI.told.length cs (by simp[Act.eval,Act.put]) (HT.out.drew.alloc _) ⟨w1.heap.size,0,none⟩ 1 1 (fk ⟨1,fI.run .name,fI.d_,[],fI.gy⟩ (.slice ai fI.d_.length ac)) (by simp[Act.eval,Act.put]) rfl (yx _ _ _) (pQ _ _ rfl) (by unfold maxLen;omega) (by omega) ?_;intro v' w2 ho hg hat;obtain⟨tC,cap',rfl⟩:=eF ho;have hb1:=f_ H1.out.blk ZN hg;have c5':w2.cell? ⟨R,5,none⟩=some (p1.told):=cell_of hb1 rfl;have c9':w2.cell? ⟨R,9,none⟩=some (.slice ao (fI.run .name).length cap):=(cell_of hb1 rfl).trans ((H1.out.cell 9 rfl).symm.trans c9);have ZO:w2.cell? ⟨R,11,none⟩=some (.slice ai fI.d_.length ac):=(cell_of hb1 rfl).trans ((H1.out.cell 11 rfl).symm.trans c11);have c8':w2.cell? ⟨R,8,none⟩=some (.int .i64 fI.gy):=cell_of hb1 rfl;have acg:w2.cell? ⟨R,12,none⟩=some p1.names:=cell_of hb1 rfl;have f5':=eR (i:=5) hb1;have abg:=eR (i:=11) hb1;have ach:=eR (i:=12) hb1;have T2:Hid (TO R ao (fI.run .name).length cap fI.gy (fI.run .name) ai fI.d_.length ac w2):=⟨c9',c8',ZO,pw (HL.out.drew.alloc _) (HT.out.drew.alloc _) (by decide) hg⟩
   have T3:Hid (∀v,TO R ao (fI.run .name).length cap fI.gy (fI.run .name) ai fI.d_.length ac (w2.setCell ⟨R,5,none⟩ v)):=fun v=>Xl Li T2.out v;have HO:=a_ ho;have HG:=a_ hg;have HA:=a_ hat;clear ho hg hat hb1))
 all_goals
  go_wp2
  go_end0
  obtain⟨p2,r2,f2⟩:=uI H1.out HC.out HTT.out (by rw[HV.out];exact HG.out) (by rw[HAV.out];exact HO.out) (by rw[HV.out];simpa using HA.out);rw[HST.out];exact⟨rfl,p2,r2.join w_.size f2.size,w_.trans f2⟩
end
end K
end Go.Proofs.YthlcmljckpdheaaGreatDoor
