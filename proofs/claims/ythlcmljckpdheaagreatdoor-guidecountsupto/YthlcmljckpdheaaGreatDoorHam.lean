import Derived.Test.YthlcmljckpdheaaGreatDoorHA
import Derived.Deep.RegionLaw
import Derived.Test.YthlcmljckpdheaaGreatDoorHal
set_option linter.unusedVariables false
set_option linter.unusedSimpArgs false
set_option maxHeartbeats 32000000
set_option maxRecDepth 100000
namespace Go.Proofs.YthlcmljckpdheaaGreatDoor
namespace K
open Go.RowKit Go.Maps Tryz
section
variable{F:Nat->Prop}{R:Nat}{w w':World}{s:Src}{p:jl}{st:St}{c:Int}
theorem Own.PH(h:Own F R w p st)(hlt:∀k,F k->k<w.heap.size)(hR:F R)
  (hK:Kept R p.d_.ownBlock w w') (v:Value) (a:List UInt8×List UInt8) (ho:w'.ownsRow 0 326 2 v (st.d_.length+1) (eQ st.d_++[e8 a.1,e8 a.2])) (hat:v.ownBlock=p.d_.ownBlock\/∀k,v.ownBlock=some k->w.heap.size<=k):
  Own (Grow F w w') R w' {p with d_:=v} {st with d_:=st.d_++[a]}:=by
 have keep:∀k,F k->k≠R->p.d_.ownBlock≠some k->w'.heap[k]?=w.heap[k]?:=fun k a b c=>hK.block k (hlt k a) b (fun e=>c e.symm);obtain⟨cs,hc,hT⟩:=h.told;refine⟨fun i=>eH (h.run i) fun k e=>keep k (h.jE i k e).1 (h.jE i k e).2 (kQ (h.run i) h.d_ (by decide) e),fun i k e=>⟨Or.inl (h.jE i k e).1,(h.jE i k e).2⟩,h.apart,
  ⟨cs,eH hc fun k e=>keep k (h.iy k e).1 (h.iy k e).2 (kQ hc h.d_ (by decide) e),?_⟩,fun k e=>⟨Or.inl (h.iy k e).1,(h.iy k e).2⟩,?_,?_,?_⟩
 ·refine hT.frame fun k n xs v' NI hv a b c=>⟨keep k a b c,Or.inl a,?_⟩
  rcases hat with e2|e2
  ·show v.ownBlock≠some k;rw[e2];exact c
  ·intro e;have h1:=e2 k e;have h2:=hlt k a;omega
 ·rw[af];have:eQ (st.d_++[a])=eQ st.d_++[e8 a.1,e8 a.2]:=by simp[eQ]
  show w'.ownsRow 0 326 2 v (st.d_.length+1) (eQ (st.d_++[a]));rw[this];exact ho
 ·intro k e;rcases hat with e2|e2
  ·have e3:p.d_.ownBlock=some k:=by rw[<-e2];exact e
   exact⟨Or.inl (h.fg k e3).1,(h.fg k e3).2⟩
  ·have h1:=e2 k e;have h2:=hlt R hR;obtain⟨c,hc⟩:=fW ho e;exact⟨Or.inr ⟨h1,(Array.getElem?_eq_some_iff.1 hc).1⟩,by omega⟩
 ·rcases h.names with hn|⟨b,h1,h2,h3,h4⟩
  ·exact Or.inl hn
  ·exact Or.inr ⟨b,h1,Or.inl h2,h3,yw h4 (keep b h2 h3 (Cz h.d_ h4))⟩
def TA(R:Nat)(ao:Option Addr)(n cap:Nat)(bo:Option Addr)(m AL:Nat)(l k:List UInt8)(W:World):Prop:=
 W.cell? ⟨R,13,none⟩=some (.slice ao n cap)/\W.cell? ⟨R,15,none⟩=some (.slice bo m AL)/\W.ownsRow 0 5 1 (.slice ao n cap) l.length (Lib.byteCells l)/\W.ownsRow 0 5 1 (.slice bo m AL) k.length (Lib.byteCells k)
theorem yD{w:World}{R i:Nat}{v:Value}(u:Value)(h:w.cell? ⟨R,i,none⟩=some v)(hi:i≠11):(w.setCell ⟨R,11,none⟩ u).cell? ⟨R,i,none⟩=some v:=by
 rw[cQ]
 ·exact h
 ·simp[hi]
theorem PJ{ao bo:Option Addr}{n cap m AL:Nat}{l k:List UInt8}{W:World}(h:TA R ao n cap bo m AL l k W)(o:Obj):TA R ao n cap bo m AL l k (W.alloc o):=
 ⟨eG o h.1,eG o h.2.1,h.2.2.1.alloc o,h.2.2.2.alloc o⟩
theorem Xj{ao bo:Option Addr}{n cap m AL:Nat}{l k:List UInt8}{W:World}(hR:(Value.slice ao n cap).ownBlock≠some R)(Li:(Value.slice bo m AL).ownBlock≠some R)(h:TA R ao n cap bo m AL l k W)(u:Value):TA R ao n cap bo m AL l k (W.setCell ⟨R,11,none⟩ u):=
 ⟨yD u h.1 (by decide),yD u h.2.1 (by decide),jK h.2.2.1 _ _ hR,jK h.2.2.2 _ _ Li⟩
theorem LM(w:World)(a b:List UInt8):∀j u,[e8 a,e8 b][j]?=some u->(w.alloc (.cells #[e8 a,e8 b] 326)).cell? ((⟨w.heap.size,0,none⟩:Addr).add j)=some u:=by
 intro j u hu;rw[dv,ax,cell_of (bD w _) (v:=u)];show ([e8 a,e8 b].toArray)[j]?=some u;rw[cd];exact hu
theorem EK(a b:List UInt8):∀u∈[e8 a,e8 b],u.oneCell'=true:=by
 intro u hu;simp only[cM,cn,cS]at hu;rcases hu with rfl|rfl<;>rfl
theorem PK(h:Own F R w p st)(hR:R<w.heap.size){v:Value}(hat:v.ownBlock=p.d_.ownBlock\/v.ownBlock=some (w.heap.size+1)):∀k,v.ownBlock=some k->k≠R:=by
 intro k e;rcases hat with e2|e2
 ·rw[e2]at e;exact(h.fg k e).2
 ·rw[e2]at e;cases e;omega
theorem PL{v:Value}(hat:v.ownBlock=p.d_.ownBlock\/v.ownBlock=some (w.heap.size+1)):v.ownBlock=p.d_.ownBlock\/∀k,v.ownBlock=some k->w.heap.size<=k:=by
 rcases hat with e2|e2
 ·exact Or.inl e2
 ·exact Or.inr fun k e=>by rw[e2]at e;cases e;omega
theorem Kept.Xk(h:Kept R p.d_.ownBlock w w')(ho:Own F R w p st)(hR:F R):Frame F w w':=
 ⟨h.os,h.tape,h.output,h.size,fun k hl hf=>h.block k hl (fun e=>hf (e▸hR)) (fun e=>hf (ho.fg k e.symm).1)⟩
theorem zW{w1 o}{v':Value}(h:fV F R w s p st)
  (hg:(w.drew.alloc o).grownBy w1 p.d_.ownBlock) (ho:w1.ownsRow 0 326 2 v' (st.d_.length+1) (eQ st.d_++[e8 (st.run .attr),e8 (st.run .value)])) (hat:v'.ownBlock=p.d_.ownBlock\/v'.ownBlock=some (w.heap.size+1)):
  ∃p',fV (Grow F w (((w1.setCell ⟨R,11,none⟩ v').setCell ⟨R,15,none⟩ (.slice none 0 0)).setCell ⟨R,16,none⟩ (.int .i64 0))) R (((w1.setCell ⟨R,11,none⟩ v').setCell ⟨R,15,none⟩ (.slice none 0 0)).setCell ⟨R,16,none⟩ (.int .i64 0)) s p' st.iW/\Frame F w (((w1.setCell ⟨R,11,none⟩ v').setCell ⟨R,15,none⟩ (.slice none 0 0)).setCell ⟨R,16,none⟩ (.int .i64 0)):=by
 have hR:=h.lt R h.jP;obtain⟨hk,hsz⟩:=Pr (R:=R) w1 11 15 16 v' (.slice none 0 0) (.int .i64 0);have hb1:=f_ h.blk (fun e=>(h.own.fg R e).2 rfl) hg;have hb:=fe (i:=16) (fe (i:=15) (fe (i:=11) hb1 v') (.slice none 0 0)) (.int .i64 0);have hK:Kept R p.d_.ownBlock w _:=xx (R:=R) hg hsz hk rfl rfl rfl;have hne:∀k,v'.ownBlock=some k->k≠R:=PK h.own hR hat;generalize ((w1.setCell ⟨R,11,none⟩ v').setCell ⟨R,15,none⟩ (.slice none 0 0)).setCell ⟨R,16,none⟩ (.int .i64 0)=w' at*
 have o1:=h.own.PH h.lt h.jP hK v' (st.run .attr,st.run .value) (eH ho fun k e=>hk k (hne k e)) (PL hat);have sw:∀k,Grow F w w' k->k<w'.heap.size:=iX h.lt hK.size;refine⟨_,⟨?_,Or.inl h.jP,sw,o1.clear sw (Or.inl h.jP) .value⟩,hK.Xk h.own h.jP⟩;rw[hb];rfl
theorem EL(h:fV F R w s p st)(hs:st.d_.length<=1099511627780):
  Z4 255 #[Z8 R] w fun e w'=>e=.returned (.tuple #[])/\∃p',fV (Grow F w w') R w' s p' st.iW/\Frame F w w':=by
 obtain⟨i0,hi,hz0,hz1,hz2⟩:=aZ Xd;obtain⟨ao,cap,hv⟩:=eF (h.own.run .attr);obtain⟨bo,AL,hw⟩:=eF (h.own.run .value);obtain⟨ti,tc,EJ⟩:=eF h.own.d_;have Gh:w.ownsRow 0 5 1 (.slice ao (st.run .attr).length cap) (st.run .attr).length (Lib.byteCells (st.run .attr)):=by rw[<-hv];exact h.own.run .attr
 have hl2:w.ownsRow 0 5 1 (.slice bo (st.run .value).length AL) (st.run .value).length (Lib.byteCells (st.run .value)):=by rw[<-hw];exact h.own.run .value
 have Li:(Value.slice ao (st.run .attr).length cap).ownBlock≠some R:=by rw[<-hv];exact fun e=>(h.own.jE .attr R e).2 rfl
 have hR3:(Value.slice bo (st.run .value).length AL).ownBlock≠some R:=by rw[<-hw];exact fun e=>(h.own.jE .value R e).2 rfl
 have ZN:(Value.slice ti st.d_.length tc).ownBlock≠some R:=by rw[<-EJ];exact fun e=>(h.own.fg R e).2 rfl
 have c11:w.cell? ⟨R,11,none⟩=some (.slice ti st.d_.length tc):=by rw[<-EJ];exact h.cell 11 rfl
 have c13:w.cell? ⟨R,13,none⟩=some (.slice ao (st.run .attr).length cap):=by rw[<-hv];exact h.cell 13 rfl
 have c15:w.cell? ⟨R,15,none⟩=some (.slice bo (st.run .value).length AL):=by rw[<-hw];exact h.cell 15 rfl
 have hcv:∀W:World,W.ownsRow 0 5 1 (.slice ao (st.run .attr).length cap) (st.run .attr).length (Lib.byteCells (st.run .attr))->(convert 101 9 (.slice ao (st.run .attr).length cap)).run prog W=.ok (.string ⟨(st.run .attr).toArray⟩) W:=fun W h=>jW h;have abd:∀W:World,W.ownsRow 0 5 1 (.slice bo (st.run .value).length AL) (st.run .value).length (Lib.byteCells (st.run .value))->(convert 101 9 (.slice bo (st.run .value).length AL)).run prog W=.ok (.string ⟨(st.run .value).toArray⟩) W:=fun W h=>jW h;have HT:Hid (w.ownsRow 0 326 2 (.slice ti st.d_.length tc) st.d_.length (eQ st.d_)):=by rw[<-EJ];exact h.own.d_
 have HL:=a_ Gh;have HM:=a_ hl2;have T0:Hid (TA R ao (st.run .attr).length cap bo (st.run .value).length AL (st.run .attr) (st.run .value) w.drew):=⟨c13,c15,HL.out.drew,HM.out.drew⟩
 have T1:Hid (∀o,TA R ao (st.run .attr).length cap bo (st.run .value).length AL (st.run .attr) (st.run .value) (w.drew.alloc o)):=fun o=>PJ T0.out o;have hlt:=h.lt R h.jP;have H1:=a_ h;have HV:=a_ EJ;clear h Gh hl2 hv hw EJ;have Xf:=hcv w.drew HL.out.drew;have acb:=abd w.drew HM.out.drew;go_enter func255,ntmps255;go_wp2_with fail;go_region_law
  (first|(
   refine fA rfl (.tmp 6) (.tmp 20) 42 rfl 326 i0 _ 2 32 underlying42 hi hz0 hz1 hz2 rfl (by decide) (.slice ti st.d_.length tc) st.d_.length (eQ st.d_) (by simp[Act.eval,Act.put]) (HT.out.drew.alloc _) ⟨w.heap.size,0,none⟩ 1 1 [e8 (st.run .attr),e8 (st.run .value)] (by simp[Act.eval,Act.put]) rfl (LM _ _ _) (EK _ _) (by unfold maxLen;omega) (by omega) ?_;intro v' w2 ho hg hat;obtain⟨tC,cap',rfl⟩:=eF ho;have hb1:=f_ H1.out.blk ZN hg;have ZO:w2.cell? ⟨R,11,none⟩=some (p.d_):=cell_of hb1 rfl;have abe:w2.cell? ⟨R,13,none⟩=some (.slice ao (st.run .attr).length cap):=(cell_of hb1 rfl).trans ((H1.out.cell 13 rfl).symm.trans c13);have abf:w2.cell? ⟨R,15,none⟩=some (.slice bo (st.run .value).length AL):=(cell_of hb1 rfl).trans ((H1.out.cell 15 rfl).symm.trans c15);have acd:w2.cell? ⟨R,16,none⟩=some (.int .i64 (st.fD .value)):=cell_of hb1 rfl;have abg:=eR (i:=11) hb1;have ace:=eR (i:=15) hb1;have acf:=eR (i:=16) hb1;have T2:Hid (TA R ao (st.run .attr).length cap bo (st.run .value).length AL (st.run .attr) (st.run .value) w2):=⟨abe,abf,pw (HL.out.drew.alloc _) (HT.out.drew.alloc _) (by decide) hg,pw (HM.out.drew.alloc _) (HT.out.drew.alloc _) (by decide) hg⟩
   have T3:Hid (∀v,TA R ao (st.run .attr).length cap bo (st.run .value).length AL (st.run .attr) (st.run .value) (w2.setCell ⟨R,11,none⟩ v)):=fun v=>Xj Li hR3 T2.out v;have HO:=a_ ho;have HG:=a_ hg;have HA:=a_ hat;clear ho hg hat hb1))
 all_goals
  go_wp2
  go_end0
  obtain⟨p2,r2,f2⟩:=zW H1.out (by rw[HV.out];exact HG.out) HO.out (by rw[HV.out];simpa using HA.out);exact⟨rfl,p2,r2,f2⟩
end
end K
end Go.Proofs.YthlcmljckpdheaaGreatDoor
