import Derived.Test.YtjecakcpcnmieaaGreatDoorHA
import Derived.Deep.RegionLaw
import Derived.Test.YtjecakcpcnmieaaGreatDoorHaj
set_option linter.unusedVariables false
set_option linter.unusedSimpArgs false
set_option maxHeartbeats 32000000
set_option maxRecDepth 100000
namespace Go.Proofs.YtjecakcpcnmieaaGreatDoor
namespace K
open Go.RowKit Go.Maps Tryz
section
variable{F:Nat->Prop}{R:Nat}{w w':World}{s:Src}{p:jt}{st:St}{c:Int}
theorem gb.mono{F':Nat->Prop}(h:gb F R w s p st)(h1:∀k,F k->F' k)(h2:∀k,F' k->k<w.heap.size):gb F' R w s p st:=
 ⟨h.blk,h1 R h.j5,h2,h.own.frame (fun _ _ _=>rfl) h1⟩
theorem gb.join{a b:World}(h:gb (Grow (Grow F a b) b w) R w s p st)(h1:a.heap.size<=b.heap.size)(h2:b.heap.size<=w.heap.size):gb (Grow F a w) R w s p st:=
 h.mono (fun k hk=>(Grow.trans h1 h2 k).1 hk) (fun k hk=>h.lt k ((Grow.trans h1 h2 k).2 hk))
def TG(R:Nat)(ao:Option Addr)(n cap:Nat)(q:Int)(l:List UInt8)(W:World):Prop:=
 W.cell? ⟨R,9,none⟩=some (.slice ao n cap)/\W.cell? ⟨R,8,none⟩=some (.int .i64 q)/\W.ownsRow 0 5 1 (.slice ao n cap) l.length (Lib.byteCells l)
theorem Si{ao:Option Addr}{n cap:Nat}{q:Int}{l:List UInt8}{W:World}(h:TG R ao n cap q l W)(o:Obj):TG R ao n cap q l (W.alloc o):=
 ⟨eF o h.1,eF o h.2.1,h.2.2.alloc o⟩
theorem ZK{ao:Option Addr}{n cap:Nat}{q:Int}{l:List UInt8}{W:World}(hR:(Value.slice ao n cap).ownBlock≠some R)(h:TG R ao n cap q l W)(u:Value):TG R ao n cap q l (W.setCell ⟨R,5,none⟩ u):=
 ⟨mq u h.1 (by decide),mq u h.2.1 (by decide),jQ h.2.2 _ _ hR⟩
theorem abc(w1:World)(i:Nat)(a:Value):(∀x,x≠R->(w1.setCell ⟨R,i,none⟩ a).heap[x]?=w1.heap[x]?)/\(w1.setCell ⟨R,i,none⟩ a).heap.size=w1.heap.size:=
 ⟨fun x hx=>af _ _ _ _ hx,by simp[World.setCell]⟩
theorem vC{w1 o}{v':Value}(h:gb F R w s p st){cs:List Value}(hc:w.ownsRow 0 56 5 p.told st.told.length cs)(hT:nh F R w p.b_ st.told cs)
  (hg:(w.drew.alloc o).grownBy w1 p.told.ownBlock) (ho:w1.ownsRow 0 56 5 v' (st.told.length+1) (cs++fq ⟨2,st.run .name,[],[],st.gD⟩ (.slice none 0 0))) (hat:v'.ownBlock=p.told.ownBlock\/v'.ownBlock=some (w.heap.size+1)):
  ∃p',gb (Grow F w (w1.setCell ⟨R,5,none⟩ v')) R (w1.setCell ⟨R,5,none⟩ v') s p' {st with told:=st.told++[⟨2,st.run .name,[],[],st.gD⟩]}/\Frame F w (w1.setCell ⟨R,5,none⟩ v'):=by
 have hR:=h.lt R h.j5;obtain⟨hk,hsz⟩:=abc (R:=R) w1 5 v';have hb1:=gm h.blk (fun e=>(h.own.iD R e).2 rfl) hg;have hb:=eV (i:=5) hb1 v';have hK:Kept R p.told.ownBlock w _:=yA (R:=R) hg hsz hk rfl rfl rfl;have hne:∀k,v'.ownBlock=some k->k≠R:=DV h.own hR hat;generalize w1.setCell ⟨R,5,none⟩ v'=w' at*
 have o1:=h.own.tell h.lt h.j5 hc hT hK v' ⟨2,st.run .name,[],[],st.gD⟩ rfl (eI ho fun k e=>hk k (hne k e)) (DW hat);have tq:∀k,Grow F w w' k->k<w'.heap.size:=i_ h.lt hK.size;refine⟨_,⟨?_,Or.inl h.j5,tq,o1⟩,hK.frame h.own h.j5⟩;rw[hb];rfl
theorem nB(h:gb F R w s p st)(hs:st.told.length<=1099511627780):
  Z4 153 #[Z8 R] w fun e w'=>e=.returned (.tuple #[])/\∃p',gb (Grow F w w') R w' s p' st.gv/\Frame F w w':=by
 have fg:=qg h (by omega);have hsl:st.eK.told.length<=1099511627790:=by unfold St.eK;split<;>first|omega|(simp[St.clear,St.eH];omega)
 have hst:st.gv={st.eK with told:=st.eK.told++[⟨2,st.eK.run .name,[],[],st.eK.gD⟩]}:=by
  unfold St.gv St.eK;split<;>rfl
 have HST:=a_ hst;generalize st.eK=fM at*
 clear hst;obtain⟨i0,hi,hz0,hz1,hz2⟩:=bk DT;have H:=a_ h;clear h;go_enter func153,ntmps153;go_wp2_with(go_at_call 84;refine fg.mono ?_;rintro e w1 ⟨rfl,p1,h1,vd,en1,en2⟩;clear en1 en2);clear fg;obtain⟨ao,cap,hv⟩:=eE (h1.own.run .name);have tR:w1.ownsRow 0 5 1 (.slice ao (fM.run .name).length cap) (fM.run .name).length (Lib.byteCells (fM.run .name)):=by rw[<-hv];exact h1.own.run .name
 have Nf:(Value.slice ao (fM.run .name).length cap).ownBlock≠some R:=by rw[<-hv];exact fun e=>(h1.own.jJ .name R e).2 rfl
 obtain⟨cs,hc,hT⟩:=h1.own.told;obtain⟨ti,tc,F9⟩:=eE hc;have hRt:(Value.slice ti fM.told.length tc).ownBlock≠some R:=by rw[<-F9];exact fun e=>(h1.own.iD R e).2 rfl
 have c5:w1.cell? ⟨R,5,none⟩=some (.slice ti fM.told.length tc):=by rw[<-F9];exact h1.cell 5 rfl
 have c9:w1.cell? ⟨R,9,none⟩=some (.slice ao (fM.run .name).length cap):=by rw[<-hv];exact h1.cell 9 rfl
 have c8:w1.cell? ⟨R,8,none⟩=some (.int .i64 fM.gD):=h1.cell 8 rfl;have hcv:∀W:World,W.ownsRow 0 5 1 (.slice ao (fM.run .name).length cap) (fM.run .name).length (Lib.byteCells (fM.run .name))->(convert 49 9 (.slice ao (fM.run .name).length cap)).run prog W=.ok (.string ⟨(fM.run .name).toArray⟩) W:=fun W h=>ko h;have HT:Hid (w1.ownsRow 0 56 5 (.slice ti fM.told.length tc) fM.told.length cs):=by rw[<-F9];exact hc
 have HL:=a_ tR;have T0:Hid (TG R ao (fM.run .name).length cap fM.gD (fM.run .name) w1.drew):=⟨c9,c8,HL.out.drew⟩
 have T1:Hid (∀o,TG R ao (fM.run .name).length cap fM.gD (fM.run .name) (w1.drew.alloc o)):=fun o=>Si T0.out o;have hlt:=h1.lt R h1.j5;have H1:=a_ h1;have HC:=a_ hc;have HTT:=a_ hT;have HV:=a_ F9;clear h1 hc hT tR hv F9;have ZH:=hcv w1.drew HL.out.drew;go_region_law
  (first|(
   refine fJ rfl (.tmp 8) (.tmp 20) 45 rfl 56 i0 _ 5 72 underlying45 hi hz0 hz1 hz2 rfl (by decide) (.slice ti fM.told.length tc) fM.told.length cs (by simp[Act.eval,Act.put]) (HT.out.drew.alloc _) ⟨w1.heap.size,0,none⟩ 1 1 (fq ⟨2,fM.run .name,[],[],fM.gD⟩ (.slice none 0 0)) (by simp[Act.eval,Act.put]) rfl (zB _ _ _) (qf _ _ rfl) (by unfold maxLen;omega) (by omega) ?_;intro v' w2 ho hg hat;obtain⟨uw,cap',rfl⟩:=eE ho;have hb1:=gm H1.out.blk hRt hg;have c5':w2.cell? ⟨R,5,none⟩=some (p1.told):=cell_of hb1 rfl;have c9':w2.cell? ⟨R,9,none⟩=some (.slice ao (fM.run .name).length cap):=(cell_of hb1 rfl).trans ((H1.out.cell 9 rfl).symm.trans c9);have c8':w2.cell? ⟨R,8,none⟩=some (.int .i64 fM.gD):=cell_of hb1 rfl;have f5':=eP (i:=5) hb1;have T2:Hid (TG R ao (fM.run .name).length cap fM.gD (fM.run .name) w2):=⟨c9',c8',pO (HL.out.drew.alloc _) (HT.out.drew.alloc _) (by decide) hg⟩
   have T3:Hid (∀v,TG R ao (fM.run .name).length cap fM.gD (fM.run .name) (w2.setCell ⟨R,5,none⟩ v)):=fun v=>ZK Nf T2.out v;have HO:=a_ ho;have HG:=a_ hg;have HA:=a_ hat;clear ho hg hat hb1))
 all_goals
  go_wp2
  go_end0
  obtain⟨p2,r2,f2⟩:=vC H1.out HC.out HTT.out (by rw[HV.out];exact HG.out) HO.out (by rw[HV.out];simpa using HA.out);rw[HST.out];exact⟨rfl,p2,r2.join vd.size f2.size,vd.trans f2⟩
end
end K
end Go.Proofs.YtjecakcpcnmieaaGreatDoor
