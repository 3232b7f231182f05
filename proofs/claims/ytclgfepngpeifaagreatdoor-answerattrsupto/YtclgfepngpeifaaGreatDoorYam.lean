import Derived.Test.YtclgfepngpeifaaGreatDoorYA
import Derived.Deep.RegionLaw
import Derived.Test.YtclgfepngpeifaaGreatDoorYal
set_option linter.unusedVariables false
set_option linter.unusedSimpArgs false
set_option maxHeartbeats 32000000
set_option maxRecDepth 100000
namespace Go.Proofs.YtclgfepngpeifaaGreatDoor
namespace K
open Go.RowKit Go.Maps Tryz
section
variable{F:Nat->Prop}{R:Nat}{w w':World}{s:Src}{p:Ptr}{st:St}{c:Int}
theorem Own.PA(h:Own F R w p st)(hlt:∀k,F k->k<w.heap.size)(hR:F R)
  (hK:Kept R p.attrs.ownBlock w w') (v:Value) (a:List UInt8×List UInt8) (ho:w'.ownsRow 0 42 2 v (st.attrs.length+1) (ee st.attrs++[eA a.1,eA a.2])) (hat:v.ownBlock=p.attrs.ownBlock\/∀k,v.ownBlock=some k->w.heap.size<=k):
  Own (Grow F w w') R w' {p with attrs:=v} {st with attrs:=st.attrs++[a]}:=by
 have keep:∀k,F k->k≠R->p.attrs.ownBlock≠some k->w'.heap[k]?=w.heap[k]?:=fun k a b c=>hK.block k (hlt k a) b (fun e=>c e.symm);obtain⟨cs,hc,hT⟩:=h.told;refine⟨fun i=>dY (h.run i) fun k e=>keep k (h.jk i k e).1 (h.jk i k e).2 (ku (h.run i) h.attrs (by decide) e),fun i k e=>⟨Or.inl (h.jk i k e).1,(h.jk i k e).2⟩,h.apart,
  ⟨cs,dY hc fun k e=>keep k (h.gV k e).1 (h.gV k e).2 (ku hc h.attrs (by decide) e),?_⟩,fun k e=>⟨Or.inl (h.gV k e).1,(h.gV k e).2⟩,?_,?_,?_⟩
 ·refine hT.frame fun k n xs v' D7 hv a b c=>⟨keep k a b c,Or.inl a,?_⟩
  rcases hat with e2|e2
  ·show v.ownBlock≠some k;rw[e2];exact c
  ·intro e;have h1:=e2 k e;have h2:=hlt k a;omega
 ·rw[ax];have:ee (st.attrs++[a])=ee st.attrs++[eA a.1,eA a.2]:=by simp[ee]
  show w'.ownsRow 0 42 2 v (st.attrs.length+1) (ee (st.attrs++[a]));rw[this];exact ho
 ·intro k e;rcases hat with e2|e2
  ·have e3:p.attrs.ownBlock=some k:=by rw[<-e2];exact e
   exact⟨Or.inl (h.eB k e3).1,(h.eB k e3).2⟩
  ·have h1:=e2 k e;have h2:=hlt R hR;obtain⟨c,hc⟩:=fA ho e;exact⟨Or.inr ⟨h1,(Array.getElem?_eq_some_iff.1 hc).1⟩,by omega⟩
 ·rcases h.names with hn|⟨b,h1,h2,h3,h4⟩
  ·exact Or.inl hn
  ·exact Or.inr ⟨b,h1,Or.inl h2,h3,yA h4 (keep b h2 h3 (CR h.attrs h4))⟩
def TA(R:Nat)(ao:Option Addr)(n cap:Nat)(bo:Option Addr)(m Bi:Nat)(l k:List UInt8)(W:World):Prop:=
 W.cell? ⟨R,13,none⟩=some (.slice ao n cap)/\W.cell? ⟨R,15,none⟩=some (.slice bo m Bi)/\W.ownsRow 0 5 1 (.slice ao n cap) l.length (Lib.byteCells l)/\W.ownsRow 0 5 1 (.slice bo m Bi) k.length (Lib.byteCells k)
theorem yH{w:World}{R i:Nat}{v:Value}(u:Value)(h:w.cell? ⟨R,i,none⟩=some v)(hi:i≠11):(w.setCell ⟨R,11,none⟩ u).cell? ⟨R,i,none⟩=some v:=by
 rw[dw]
 ·exact h
 ·simp[hi]
theorem PB{ao bo:Option Addr}{n cap m Bi:Nat}{l k:List UInt8}{W:World}(h:TA R ao n cap bo m Bi l k W)(o:Obj):TA R ao n cap bo m Bi l k (W.alloc o):=
 ⟨dX o h.1,dX o h.2.1,h.2.2.1.alloc o,h.2.2.2.alloc o⟩
theorem Wv{ao bo:Option Addr}{n cap m Bi:Nat}{l k:List UInt8}{W:World}(hR:(Value.slice ao n cap).ownBlock≠some R)(zZ:(Value.slice bo m Bi).ownBlock≠some R)(h:TA R ao n cap bo m Bi l k W)(u:Value):TA R ao n cap bo m Bi l k (W.setCell ⟨R,11,none⟩ u):=
 ⟨yH u h.1 (by decide),yH u h.2.1 (by decide),jr h.2.2.1 _ _ hR,jr h.2.2.2 _ _ zZ⟩
theorem LU(w:World)(a b:List UInt8):∀j u,[eA a,eA b][j]?=some u->(w.alloc (.cells #[eA a,eA b] 42)).cell? ((⟨w.heap.size,0,none⟩:Addr).add j)=some u:=by
 intro j u hu;rw[dg,aG,cell_of (bf w _) (v:=u)];show ([eA a,eA b].toArray)[j]?=some u;rw[cw];exact hu
theorem Fa(a b:List UInt8):∀u∈[eA a,eA b],u.oneCell'=true:=by
 intro u hu;simp only[bN,bC,cq]at hu;rcases hu with rfl|rfl<;>rfl
theorem PC(h:Own F R w p st)(hR:R<w.heap.size){v:Value}(hat:v.ownBlock=p.attrs.ownBlock\/v.ownBlock=some (w.heap.size+1)):∀k,v.ownBlock=some k->k≠R:=by
 intro k e;rcases hat with e2|e2
 ·rw[e2]at e;exact(h.eB k e).2
 ·rw[e2]at e;cases e;omega
theorem PD{v:Value}(hat:v.ownBlock=p.attrs.ownBlock\/v.ownBlock=some (w.heap.size+1)):v.ownBlock=p.attrs.ownBlock\/∀k,v.ownBlock=some k->w.heap.size<=k:=by
 rcases hat with e2|e2
 ·exact Or.inl e2
 ·exact Or.inr fun k e=>by rw[e2]at e;cases e;omega
theorem Kept.Ww(h:Kept R p.attrs.ownBlock w w')(ho:Own F R w p st)(hR:F R):Frame F w w':=
 ⟨h.os,h.tape,h.output,h.size,fun k hl hf=>h.block k hl (fun e=>hf (e▸hR)) (fun e=>hf (ho.eB k e.symm).1)⟩
theorem Ah{w1 o}{v':Value}(h:fF F R w s p st)
  (hg:(w.drew.alloc o).grownBy w1 p.attrs.ownBlock) (ho:w1.ownsRow 0 42 2 v' (st.attrs.length+1) (ee st.attrs++[eA (st.run .attr),eA (st.run .value)])) (hat:v'.ownBlock=p.attrs.ownBlock\/v'.ownBlock=some (w.heap.size+1)):
  ∃p',fF (Grow F w (((w1.setCell ⟨R,11,none⟩ v').setCell ⟨R,15,none⟩ (.slice none 0 0)).setCell ⟨R,16,none⟩ (.int .i64 0))) R (((w1.setCell ⟨R,11,none⟩ v').setCell ⟨R,15,none⟩ (.slice none 0 0)).setCell ⟨R,16,none⟩ (.int .i64 0)) s p' st.addAttr/\Frame F w (((w1.setCell ⟨R,11,none⟩ v').setCell ⟨R,15,none⟩ (.slice none 0 0)).setCell ⟨R,16,none⟩ (.int .i64 0)):=by
 have hR:=h.lt R h.jz;obtain⟨hk,hsz⟩:=Pm (R:=R) w1 11 15 16 v' (.slice none 0 0) (.int .i64 0);have hb1:=fL h.blk (fun e=>(h.own.eB R e).2 rfl) hg;have hb:=ej (i:=16) (ej (i:=15) (ej (i:=11) hb1 v') (.slice none 0 0)) (.int .i64 0);have hK:Kept R p.attrs.ownBlock w _:=xB (R:=R) hg hsz hk rfl rfl rfl;have hne:∀k,v'.ownBlock=some k->k≠R:=PC h.own hR hat;generalize ((w1.setCell ⟨R,11,none⟩ v').setCell ⟨R,15,none⟩ (.slice none 0 0)).setCell ⟨R,16,none⟩ (.int .i64 0)=w' at*
 have o1:=h.own.PA h.lt h.jz hK v' (st.run .attr,st.run .value) (dY ho fun k e=>hk k (hne k e)) (PD hat);have sT:∀k,Grow F w w' k->k<w'.heap.size:=iA h.lt hK.size;refine⟨_,⟨?_,Or.inl h.jz,sT,o1.clear sT (Or.inl h.jz) .value⟩,hK.Ww h.own h.jz⟩;rw[hb];rfl
theorem Fb(h:fF F R w s p st)(hs:st.attrs.length<=1099511627780):
  Z4 227 #[Z8 R] w fun e w'=>e=.returned (.tuple #[])/\∃p',fF (Grow F w w') R w' s p' st.addAttr/\Frame F w w':=by
 obtain⟨i0,hi,hz0,hz1,hz2⟩:=aY Wp;obtain⟨ao,cap,hv⟩:=dU (h.own.run .attr);obtain⟨bo,Bi,hw⟩:=dU (h.own.run .value);obtain⟨ti,tc,E_⟩:=dU h.own.attrs;have t_:w.ownsRow 0 5 1 (.slice ao (st.run .attr).length cap) (st.run .attr).length (Lib.byteCells (st.run .attr)):=by rw[<-hv];exact h.own.run .attr
 have hl2:w.ownsRow 0 5 1 (.slice bo (st.run .value).length Bi) (st.run .value).length (Lib.byteCells (st.run .value)):=by rw[<-hw];exact h.own.run .value
 have zZ:(Value.slice ao (st.run .attr).length cap).ownBlock≠some R:=by rw[<-hv];exact fun e=>(h.own.jk .attr R e).2 rfl
 have hR3:(Value.slice bo (st.run .value).length Bi).ownBlock≠some R:=by rw[<-hw];exact fun e=>(h.own.jk .value R e).2 rfl
 have ZB:(Value.slice ti st.attrs.length tc).ownBlock≠some R:=by rw[<-E_];exact fun e=>(h.own.eB R e).2 rfl
 have c11:w.cell? ⟨R,11,none⟩=some (.slice ti st.attrs.length tc):=by rw[<-E_];exact h.cell 11 rfl
 have c13:w.cell? ⟨R,13,none⟩=some (.slice ao (st.run .attr).length cap):=by rw[<-hv];exact h.cell 13 rfl
 have c15:w.cell? ⟨R,15,none⟩=some (.slice bo (st.run .value).length Bi):=by rw[<-hw];exact h.cell 15 rfl
 have hcv:∀W:World,W.ownsRow 0 5 1 (.slice ao (st.run .attr).length cap) (st.run .attr).length (Lib.byteCells (st.run .attr))->(convert 101 9 (.slice ao (st.run .attr).length cap)).run prog W=.ok (.string ⟨(st.run .attr).toArray⟩) W:=fun W h=>kQ h;have aaW:∀W:World,W.ownsRow 0 5 1 (.slice bo (st.run .value).length Bi) (st.run .value).length (Lib.byteCells (st.run .value))->(convert 101 9 (.slice bo (st.run .value).length Bi)).run prog W=.ok (.string ⟨(st.run .value).toArray⟩) W:=fun W h=>kQ h;have HT:Hid (w.ownsRow 0 42 2 (.slice ti st.attrs.length tc) st.attrs.length (ee st.attrs)):=by rw[<-E_];exact h.own.attrs
 have HL:=a_ t_;have HM:=a_ hl2;have T0:Hid (TA R ao (st.run .attr).length cap bo (st.run .value).length Bi (st.run .attr) (st.run .value) w.drew):=⟨c13,c15,HL.out.drew,HM.out.drew⟩
 have T1:Hid (∀o,TA R ao (st.run .attr).length cap bo (st.run .value).length Bi (st.run .attr) (st.run .value) (w.drew.alloc o)):=fun o=>PB T0.out o;have hlt:=h.lt R h.jz;have H1:=a_ h;have HV:=a_ E_;clear h t_ hl2 hv hw E_;have Wr:=hcv w.drew HL.out.drew;have abH:=aaW w.drew HM.out.drew;go_enter func227,ntmps227;go_wp2_with fail;go_region_law
  (first|(
   refine eP rfl (.tmp 6) (.tmp 20) 38 rfl 42 i0 _ 2 32 underlying38 hi hz0 hz1 hz2 rfl (by decide) (.slice ti st.attrs.length tc) st.attrs.length (ee st.attrs) (by simp[Act.eval,Act.put]) (HT.out.drew.alloc _) ⟨w.heap.size,0,none⟩ 1 1 [eA (st.run .attr),eA (st.run .value)] (by simp[Act.eval,Act.put]) rfl (LU _ _ _) (Fa _ _) (by unfold maxLen;omega) (by omega) ?_;intro v' w2 ho hg hat;obtain⟨sA,cap',rfl⟩:=dU ho;have hb1:=fL H1.out.blk ZB hg;have ZC:w2.cell? ⟨R,11,none⟩=some (p.attrs):=cell_of hb1 rfl;have aaX:w2.cell? ⟨R,13,none⟩=some (.slice ao (st.run .attr).length cap):=(cell_of hb1 rfl).trans ((H1.out.cell 13 rfl).symm.trans c13);have aaY:w2.cell? ⟨R,15,none⟩=some (.slice bo (st.run .value).length Bi):=(cell_of hb1 rfl).trans ((H1.out.cell 15 rfl).symm.trans c15);have abI:w2.cell? ⟨R,16,none⟩=some (.int .i64 (st.eV .value)):=cell_of hb1 rfl;have aaZ:=d_ (i:=11) hb1;have abJ:=d_ (i:=15) hb1;have abK:=d_ (i:=16) hb1;have T2:Hid (TA R ao (st.run .attr).length cap bo (st.run .value).length Bi (st.run .attr) (st.run .value) w2):=⟨aaX,aaY,oG (HL.out.drew.alloc _) (HT.out.drew.alloc _) (by decide) hg,oG (HM.out.drew.alloc _) (HT.out.drew.alloc _) (by decide) hg⟩
   have T3:Hid (∀v,TA R ao (st.run .attr).length cap bo (st.run .value).length Bi (st.run .attr) (st.run .value) (w2.setCell ⟨R,11,none⟩ v)):=fun v=>Wv zZ hR3 T2.out v;have HO:=a_ ho;have HG:=a_ hg;have HA:=a_ hat;clear ho hg hat hb1))
 all_goals
  go_wp2
  go_end0
  obtain⟨p2,r2,f2⟩:=Ah H1.out (by rw[HV.out];exact HG.out) HO.out (by rw[HV.out];simpa using HA.out);exact⟨rfl,p2,r2,f2⟩
end
end K
end Go.Proofs.YtclgfepngpeifaaGreatDoor
