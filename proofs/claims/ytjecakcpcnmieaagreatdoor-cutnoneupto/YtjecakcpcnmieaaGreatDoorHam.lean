import Derived.Test.YtjecakcpcnmieaaGreatDoorHA
import Derived.Deep.RegionLaw
import Derived.Test.YtjecakcpcnmieaaGreatDoorHal
set_option linter.unusedVariables false
set_option linter.unusedSimpArgs false
set_option maxHeartbeats 32000000
set_option maxRecDepth 100000
namespace Go.Proofs.YtjecakcpcnmieaaGreatDoor
namespace K
open Go.RowKit Go.Maps Tryz
section
variable{F:Nat->Prop}{R:Nat}{w w':World}{s:Src}{p:jt}{st:St}{c:Int}
theorem Own.Sj(h:Own F R w p st)(hlt:∀k,F k->k<w.heap.size)(hR:F R)
  (hK:Kept R p.b_.ownBlock w w') (v:Value) (a:List UInt8×List UInt8) (ho:w'.ownsRow 0 143 2 v (st.b_.length+1) (eG st.b_++[eZ a.1,eZ a.2])) (hat:v.ownBlock=p.b_.ownBlock\/∀k,v.ownBlock=some k->w.heap.size<=k):
  Own (Grow F w w') R w' {p with b_:=v} {st with b_:=st.b_++[a]}:=by
 have keep:∀k,F k->k≠R->p.b_.ownBlock≠some k->w'.heap[k]?=w.heap[k]?:=fun k a b c=>hK.block k (hlt k a) b (fun e=>c e.symm);obtain⟨cs,hc,hT⟩:=h.told;refine⟨fun i=>eI (h.run i) fun k e=>keep k (h.jJ i k e).1 (h.jJ i k e).2 (lu (h.run i) h.b_ (by decide) e),fun i k e=>⟨Or.inl (h.jJ i k e).1,(h.jJ i k e).2⟩,h.apart,
  ⟨cs,eI hc fun k e=>keep k (h.iD k e).1 (h.iD k e).2 (lu hc h.b_ (by decide) e),?_⟩,fun k e=>⟨Or.inl (h.iD k e).1,(h.iD k e).2⟩,?_,?_,?_⟩
 ·refine hT.frame fun k n xs v' PZ hv a b c=>⟨keep k a b c,Or.inl a,?_⟩
  rcases hat with e2|e2
  ·show v.ownBlock≠some k;rw[e2];exact c
  ·intro e;have h1:=e2 k e;have h2:=hlt k a;omega
 ·rw[ae];have:eG (st.b_++[a])=eG st.b_++[eZ a.1,eZ a.2]:=by simp[eG]
  show w'.ownsRow 0 143 2 v (st.b_.length+1) (eG (st.b_++[a]));rw[this];exact ho
 ·intro k e;rcases hat with e2|e2
  ·have e3:p.b_.ownBlock=some k:=by rw[<-e2];exact e
   exact⟨Or.inl (h.fe k e3).1,(h.fe k e3).2⟩
  ·have h1:=e2 k e;have h2:=hlt R hR;obtain⟨c,hc⟩:=fX ho e;exact⟨Or.inr ⟨h1,(Array.getElem?_eq_some_iff.1 hc).1⟩,by omega⟩
 ·rcases h.names with hn|⟨b,h1,h2,h3,h4⟩
  ·exact Or.inl hn
  ·exact Or.inr ⟨b,h1,Or.inl h2,h3,zA h4 (keep b h2 h3 (DL h.b_ h4))⟩
def TA(R:Nat)(ao:Option Addr)(n cap:Nat)(bo:Option Addr)(m B8:Nat)(l k:List UInt8)(W:World):Prop:=
 W.cell? ⟨R,13,none⟩=some (.slice ao n cap)/\W.cell? ⟨R,15,none⟩=some (.slice bo m B8)/\W.ownsRow 0 5 1 (.slice ao n cap) l.length (Lib.byteCells l)/\W.ownsRow 0 5 1 (.slice bo m B8) k.length (Lib.byteCells k)
theorem zH{w:World}{R i:Nat}{v:Value}(u:Value)(h:w.cell? ⟨R,i,none⟩=some v)(hi:i≠11):(w.setCell ⟨R,11,none⟩ u).cell? ⟨R,i,none⟩=some v:=by
 rw[cP]
 ·exact h
 ·simp[hi]
theorem Sk{ao bo:Option Addr}{n cap m B8:Nat}{l k:List UInt8}{W:World}(h:TA R ao n cap bo m B8 l k W)(o:Obj):TA R ao n cap bo m B8 l k (W.alloc o):=
 ⟨eF o h.1,eF o h.2.1,h.2.2.1.alloc o,h.2.2.2.alloc o⟩
theorem ZL{ao bo:Option Addr}{n cap m B8:Nat}{l k:List UInt8}{W:World}(hR:(Value.slice ao n cap).ownBlock≠some R)(Nf:(Value.slice bo m B8).ownBlock≠some R)(h:TA R ao n cap bo m B8 l k W)(u:Value):TA R ao n cap bo m B8 l k (W.setCell ⟨R,11,none⟩ u):=
 ⟨zH u h.1 (by decide),zH u h.2.1 (by decide),jQ h.2.2.1 _ _ hR,jQ h.2.2.2 _ _ Nf⟩
theorem NN(w:World)(a b:List UInt8):∀j u,[eZ a,eZ b][j]?=some u->(w.alloc (.cells #[eZ a,eZ b] 143)).cell? ((⟨w.heap.size,0,none⟩:Addr).add j)=some u:=by
 intro j u hu;rw[dH,ay,cell_of (bu w _) (v:=u)];show ([eZ a,eZ b].toArray)[j]?=some u;rw[cz];exact hu
theorem F_(a b:List UInt8):∀u∈[eZ a,eZ b],u.oneCell'=true:=by
 intro u hu;simp only[cE,cn,cK]at hu;rcases hu with rfl|rfl<;>rfl
theorem Sl(h:Own F R w p st)(hR:R<w.heap.size){v:Value}(hat:v.ownBlock=p.b_.ownBlock\/v.ownBlock=some (w.heap.size+1)):∀k,v.ownBlock=some k->k≠R:=by
 intro k e;rcases hat with e2|e2
 ·rw[e2]at e;exact(h.fe k e).2
 ·rw[e2]at e;cases e;omega
theorem Sm{v:Value}(hat:v.ownBlock=p.b_.ownBlock\/v.ownBlock=some (w.heap.size+1)):v.ownBlock=p.b_.ownBlock\/∀k,v.ownBlock=some k->w.heap.size<=k:=by
 rcases hat with e2|e2
 ·exact Or.inl e2
 ·exact Or.inr fun k e=>by rw[e2]at e;cases e;omega
theorem Kept.ZM(h:Kept R p.b_.ownBlock w w')(ho:Own F R w p st)(hR:F R):Frame F w w':=
 ⟨h.os,h.tape,h.output,h.size,fun k hl hf=>h.block k hl (fun e=>hf (e▸hR)) (fun e=>hf (ho.fe k e.symm).1)⟩
theorem Bd{w1 o}{v':Value}(h:gb F R w s p st)
  (hg:(w.drew.alloc o).grownBy w1 p.b_.ownBlock) (ho:w1.ownsRow 0 143 2 v' (st.b_.length+1) (eG st.b_++[eZ (st.run .attr),eZ (st.run .value)])) (hat:v'.ownBlock=p.b_.ownBlock\/v'.ownBlock=some (w.heap.size+1)):
  ∃p',gb (Grow F w (((w1.setCell ⟨R,11,none⟩ v').setCell ⟨R,15,none⟩ (.slice none 0 0)).setCell ⟨R,16,none⟩ (.int .i64 0))) R (((w1.setCell ⟨R,11,none⟩ v').setCell ⟨R,15,none⟩ (.slice none 0 0)).setCell ⟨R,16,none⟩ (.int .i64 0)) s p' st.addAttr/\Frame F w (((w1.setCell ⟨R,11,none⟩ v').setCell ⟨R,15,none⟩ (.slice none 0 0)).setCell ⟨R,16,none⟩ (.int .i64 0)):=by
 have hR:=h.lt R h.j5;obtain⟨hk,hsz⟩:=RT (R:=R) w1 11 15 16 v' (.slice none 0 0) (.int .i64 0);have hb1:=gm h.blk (fun e=>(h.own.fe R e).2 rfl) hg;have hb:=eV (i:=16) (eV (i:=15) (eV (i:=11) hb1 v') (.slice none 0 0)) (.int .i64 0);have hK:Kept R p.b_.ownBlock w _:=yA (R:=R) hg hsz hk rfl rfl rfl;have hne:∀k,v'.ownBlock=some k->k≠R:=Sl h.own hR hat;generalize ((w1.setCell ⟨R,11,none⟩ v').setCell ⟨R,15,none⟩ (.slice none 0 0)).setCell ⟨R,16,none⟩ (.int .i64 0)=w' at*
 have o1:=h.own.Sj h.lt h.j5 hK v' (st.run .attr,st.run .value) (eI ho fun k e=>hk k (hne k e)) (Sm hat);have tq:∀k,Grow F w w' k->k<w'.heap.size:=i_ h.lt hK.size;refine⟨_,⟨?_,Or.inl h.j5,tq,o1.clear tq (Or.inl h.j5) .value⟩,hK.ZM h.own h.j5⟩;rw[hb];rfl
theorem Ga(h:gb F R w s p st)(hs:st.b_.length<=1099511627780):
  Z4 262 #[Z8 R] w fun e w'=>e=.returned (.tuple #[])/\∃p',gb (Grow F w w') R w' s p' st.addAttr/\Frame F w w':=by
 obtain⟨i0,hi,hz0,hz1,hz2⟩:=bk ZF;obtain⟨ao,cap,hv⟩:=eE (h.own.run .attr);obtain⟨bo,B8,hw⟩:=eE (h.own.run .value);obtain⟨ti,tc,F9⟩:=eE h.own.b_;have tR:w.ownsRow 0 5 1 (.slice ao (st.run .attr).length cap) (st.run .attr).length (Lib.byteCells (st.run .attr)):=by rw[<-hv];exact h.own.run .attr
 have hl2:w.ownsRow 0 5 1 (.slice bo (st.run .value).length B8) (st.run .value).length (Lib.byteCells (st.run .value)):=by rw[<-hw];exact h.own.run .value
 have Nf:(Value.slice ao (st.run .attr).length cap).ownBlock≠some R:=by rw[<-hv];exact fun e=>(h.own.jJ .attr R e).2 rfl
 have hR3:(Value.slice bo (st.run .value).length B8).ownBlock≠some R:=by rw[<-hw];exact fun e=>(h.own.jJ .value R e).2 rfl
 have hRt:(Value.slice ti st.b_.length tc).ownBlock≠some R:=by rw[<-F9];exact fun e=>(h.own.fe R e).2 rfl
 have c11:w.cell? ⟨R,11,none⟩=some (.slice ti st.b_.length tc):=by rw[<-F9];exact h.cell 11 rfl
 have c13:w.cell? ⟨R,13,none⟩=some (.slice ao (st.run .attr).length cap):=by rw[<-hv];exact h.cell 13 rfl
 have c15:w.cell? ⟨R,15,none⟩=some (.slice bo (st.run .value).length B8):=by rw[<-hw];exact h.cell 15 rfl
 have hcv:∀W:World,W.ownsRow 0 5 1 (.slice ao (st.run .attr).length cap) (st.run .attr).length (Lib.byteCells (st.run .attr))->(convert 49 9 (.slice ao (st.run .attr).length cap)).run prog W=.ok (.string ⟨(st.run .attr).toArray⟩) W:=fun W h=>ko h;have acA:∀W:World,W.ownsRow 0 5 1 (.slice bo (st.run .value).length B8) (st.run .value).length (Lib.byteCells (st.run .value))->(convert 49 9 (.slice bo (st.run .value).length B8)).run prog W=.ok (.string ⟨(st.run .value).toArray⟩) W:=fun W h=>ko h;have HT:Hid (w.ownsRow 0 143 2 (.slice ti st.b_.length tc) st.b_.length (eG st.b_)):=by rw[<-F9];exact h.own.b_
 have HL:=a_ tR;have HM:=a_ hl2;have T0:Hid (TA R ao (st.run .attr).length cap bo (st.run .value).length B8 (st.run .attr) (st.run .value) w.drew):=⟨c13,c15,HL.out.drew,HM.out.drew⟩
 have T1:Hid (∀o,TA R ao (st.run .attr).length cap bo (st.run .value).length B8 (st.run .attr) (st.run .value) (w.drew.alloc o)):=fun o=>Sk T0.out o;have hlt:=h.lt R h.j5;have H1:=a_ h;have HV:=a_ F9;clear h tR hl2 hv hw F9;have ZH:=hcv w.drew HL.out.drew;have ady:=acA w.drew HM.out.drew;go_enter func262,ntmps262;go_wp2_with fail;go_region_law
  (first|(
   refine fJ rfl (.tmp 6) (.tmp 20) 54 rfl 143 i0 _ 2 32 underlying54 hi hz0 hz1 hz2 rfl (by decide) (.slice ti st.b_.length tc) st.b_.length (eG st.b_) (by simp[Act.eval,Act.put]) (HT.out.drew.alloc _) ⟨w.heap.size,0,none⟩ 1 1 [eZ (st.run .attr),eZ (st.run .value)] (by simp[Act.eval,Act.put]) rfl (NN _ _ _) (F_ _ _) (by unfold maxLen;omega) (by omega) ?_;intro v' w2 ho hg hat;obtain⟨uw,cap',rfl⟩:=eE ho;have hb1:=gm H1.out.blk hRt hg;have abd:w2.cell? ⟨R,11,none⟩=some (p.b_):=cell_of hb1 rfl;have acB:w2.cell? ⟨R,13,none⟩=some (.slice ao (st.run .attr).length cap):=(cell_of hb1 rfl).trans ((H1.out.cell 13 rfl).symm.trans c13);have acC:w2.cell? ⟨R,15,none⟩=some (.slice bo (st.run .value).length B8):=(cell_of hb1 rfl).trans ((H1.out.cell 15 rfl).symm.trans c15);have adz:w2.cell? ⟨R,16,none⟩=some (.int .i64 (st.fD .value)):=cell_of hb1 rfl;have acD:=eP (i:=11) hb1;have adA:=eP (i:=15) hb1;have adB:=eP (i:=16) hb1;have T2:Hid (TA R ao (st.run .attr).length cap bo (st.run .value).length B8 (st.run .attr) (st.run .value) w2):=⟨acB,acC,pO (HL.out.drew.alloc _) (HT.out.drew.alloc _) (by decide) hg,pO (HM.out.drew.alloc _) (HT.out.drew.alloc _) (by decide) hg⟩
   have T3:Hid (∀v,TA R ao (st.run .attr).length cap bo (st.run .value).length B8 (st.run .attr) (st.run .value) (w2.setCell ⟨R,11,none⟩ v)):=fun v=>ZL Nf hR3 T2.out v;have HO:=a_ ho;have HG:=a_ hg;have HA:=a_ hat;clear ho hg hat hb1))
 all_goals
  go_wp2
  go_end0
  obtain⟨p2,r2,f2⟩:=Bd H1.out (by rw[HV.out];exact HG.out) HO.out (by rw[HV.out];simpa using HA.out);exact⟨rfl,p2,r2,f2⟩
end
end K
end Go.Proofs.YtjecakcpcnmieaaGreatDoor
