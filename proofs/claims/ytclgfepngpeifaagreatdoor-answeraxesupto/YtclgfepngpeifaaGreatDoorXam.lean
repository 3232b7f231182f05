import Derived.Test.YtclgfepngpeifaaGreatDoorXA
import Derived.Deep.RegionLaw
import Derived.Test.YtclgfepngpeifaaGreatDoorXal
set_option linter.unusedVariables false
set_option linter.unusedSimpArgs false
set_option maxHeartbeats 32000000
set_option maxRecDepth 100000
namespace Go.Proofs.YtclgfepngpeifaaGreatDoor
namespace K
open Go.RowKit Go.Maps Tryz
section
variable{F:Nat->Prop}{R:Nat}{w w':World}{s:Src}{p:Ptr}{st:St}{c:Int}
theorem Own.Po(h:Own F R w p st)(hlt:∀k,F k->k<w.heap.size)(hR:F R)
  (hK:Kept R p.attrs.ownBlock w w') (v:Value) (a:List UInt8×List UInt8) (ho:w'.ownsRow 0 42 2 v (st.attrs.length+1) (d_ st.attrs++[eu a.1,eu a.2])) (hat:v.ownBlock=p.attrs.ownBlock\/∀k,v.ownBlock=some k->w.heap.size<=k):
  Own (Grow F w w') R w' {p with attrs:=v} {st with attrs:=st.attrs++[a]}:=by
 have keep:∀k,F k->k≠R->p.attrs.ownBlock≠some k->w'.heap[k]?=w.heap[k]?:=fun k a b c=>hK.block k (hlt k a) b (fun e=>c e.symm);obtain⟨cs,hc,hT⟩:=h.told;refine⟨fun i=>dW (h.run i) fun k e=>keep k (h.jg i k e).1 (h.jg i k e).2 (kj (h.run i) h.attrs (by decide) e),fun i k e=>⟨Or.inl (h.jg i k e).1,(h.jg i k e).2⟩,h.apart,
  ⟨cs,dW hc fun k e=>keep k (h.gK k e).1 (h.gK k e).2 (kj hc h.attrs (by decide) e),?_⟩,fun k e=>⟨Or.inl (h.gK k e).1,(h.gK k e).2⟩,?_,?_,?_⟩
 ·refine hT.frame fun k n xs v' NF hv a b c=>⟨keep k a b c,Or.inl a,?_⟩
  rcases hat with e2|e2
  ·show v.ownBlock≠some k;rw[e2];exact c
  ·intro e;have h1:=e2 k e;have h2:=hlt k a;omega
 ·rw[ax];have:d_ (st.attrs++[a])=d_ st.attrs++[eu a.1,eu a.2]:=by simp[d_]
  show w'.ownsRow 0 42 2 v (st.attrs.length+1) (d_ (st.attrs++[a]));rw[this];exact ho
 ·intro k e;rcases hat with e2|e2
  ·have e3:p.attrs.ownBlock=some k:=by rw[<-e2];exact e
   exact⟨Or.inl (h.ew k e3).1,(h.ew k e3).2⟩
  ·have h1:=e2 k e;have h2:=hlt R hR;obtain⟨c,hc⟩:=fq ho e;exact⟨Or.inr ⟨h1,(Array.getElem?_eq_some_iff.1 hc).1⟩,by omega⟩
 ·rcases h.names with hn|⟨b,h1,h2,h3,h4⟩
  ·exact Or.inl hn
  ·exact Or.inr ⟨b,h1,Or.inl h2,h3,yG h4 (keep b h2 h3 (CT h.attrs h4))⟩
def TA(R:Nat)(ao:Option Addr)(n cap:Nat)(bo:Option Addr)(m Bk:Nat)(l k:List UInt8)(W:World):Prop:=
 W.cell? ⟨R,13,none⟩=some (.slice ao n cap)/\W.cell? ⟨R,15,none⟩=some (.slice bo m Bk)/\W.ownsRow 0 5 1 (.slice ao n cap) l.length (Lib.byteCells l)/\W.ownsRow 0 5 1 (.slice bo m Bk) k.length (Lib.byteCells k)
theorem yN{w:World}{R i:Nat}{v:Value}(u:Value)(h:w.cell? ⟨R,i,none⟩=some v)(hi:i≠11):(w.setCell ⟨R,11,none⟩ u).cell? ⟨R,i,none⟩=some v:=by
 rw[dt]
 ·exact h
 ·simp[hi]
theorem Pp{ao bo:Option Addr}{n cap m Bk:Nat}{l k:List UInt8}{W:World}(h:TA R ao n cap bo m Bk l k W)(o:Obj):TA R ao n cap bo m Bk l k (W.alloc o):=
 ⟨dV o h.1,dV o h.2.1,h.2.2.1.alloc o,h.2.2.2.alloc o⟩
theorem V2{ao bo:Option Addr}{n cap m Bk:Nat}{l k:List UInt8}{W:World}(hR:(Value.slice ao n cap).ownBlock≠some R)(Ab:(Value.slice bo m Bk).ownBlock≠some R)(h:TA R ao n cap bo m Bk l k W)(u:Value):TA R ao n cap bo m Bk l k (W.setCell ⟨R,11,none⟩ u):=
 ⟨yN u h.1 (by decide),yN u h.2.1 (by decide),jm h.2.2.1 _ _ hR,jm h.2.2.2 _ _ Ab⟩
theorem LF(w:World)(a b:List UInt8):∀j u,[eu a,eu b][j]?=some u->(w.alloc (.cells #[eu a,eu b] 42)).cell? ((⟨w.heap.size,0,none⟩:Addr).add j)=some u:=by
 intro j u hu;rw[cZ,aG,cell_of (bf w _) (v:=u)];show ([eu a,eu b].toArray)[j]?=some u;rw[cu];exact hu
theorem E8(a b:List UInt8):∀u∈[eu a,eu b],u.oneCell'=true:=by
 intro u hu;simp only[bM,bB,cm]at hu;rcases hu with rfl|rfl<;>rfl
theorem Pq(h:Own F R w p st)(hR:R<w.heap.size){v:Value}(hat:v.ownBlock=p.attrs.ownBlock\/v.ownBlock=some (w.heap.size+1)):∀k,v.ownBlock=some k->k≠R:=by
 intro k e;rcases hat with e2|e2
 ·rw[e2]at e;exact(h.ew k e).2
 ·rw[e2]at e;cases e;omega
theorem Pr{v:Value}(hat:v.ownBlock=p.attrs.ownBlock\/v.ownBlock=some (w.heap.size+1)):v.ownBlock=p.attrs.ownBlock\/∀k,v.ownBlock=some k->w.heap.size<=k:=by
 rcases hat with e2|e2
 ·exact Or.inl e2
 ·exact Or.inr fun k e=>by rw[e2]at e;cases e;omega
theorem Kept.V3(h:Kept R p.attrs.ownBlock w w')(ho:Own F R w p st)(hR:F R):Frame F w w':=
 ⟨h.os,h.tape,h.output,h.size,fun k hl hf=>h.block k hl (fun e=>hf (e▸hR)) (fun e=>hf (ho.ew k e.symm).1)⟩
theorem Ak{w1 o}{v':Value}(h:fB F R w s p st)
  (hg:(w.drew.alloc o).grownBy w1 p.attrs.ownBlock) (ho:w1.ownsRow 0 42 2 v' (st.attrs.length+1) (d_ st.attrs++[eu (st.run .attr),eu (st.run .value)])) (hat:v'.ownBlock=p.attrs.ownBlock\/v'.ownBlock=some (w.heap.size+1)):
  ∃p',fB (Grow F w (((w1.setCell ⟨R,11,none⟩ v').setCell ⟨R,15,none⟩ (.slice none 0 0)).setCell ⟨R,16,none⟩ (.int .i64 0))) R (((w1.setCell ⟨R,11,none⟩ v').setCell ⟨R,15,none⟩ (.slice none 0 0)).setCell ⟨R,16,none⟩ (.int .i64 0)) s p' st.addAttr/\Frame F w (((w1.setCell ⟨R,11,none⟩ v').setCell ⟨R,15,none⟩ (.slice none 0 0)).setCell ⟨R,16,none⟩ (.int .i64 0)):=by
 have hR:=h.lt R h.jt;obtain⟨hk,hsz⟩:=O7 (R:=R) w1 11 15 16 v' (.slice none 0 0) (.int .i64 0);have hb1:=fF h.blk (fun e=>(h.own.ew R e).2 rfl) hg;have hb:=eh (i:=16) (eh (i:=15) (eh (i:=11) hb1 v') (.slice none 0 0)) (.int .i64 0);have hK:Kept R p.attrs.ownBlock w _:=xG (R:=R) hg hsz hk rfl rfl rfl;have hne:∀k,v'.ownBlock=some k->k≠R:=Pq h.own hR hat;generalize ((w1.setCell ⟨R,11,none⟩ v').setCell ⟨R,15,none⟩ (.slice none 0 0)).setCell ⟨R,16,none⟩ (.int .i64 0)=w' at*
 have o1:=h.own.Po h.lt h.jt hK v' (st.run .attr,st.run .value) (dW ho fun k e=>hk k (hne k e)) (Pr hat);have s9:∀k,Grow F w w' k->k<w'.heap.size:=iu h.lt hK.size;refine⟨_,⟨?_,Or.inl h.jt,s9,o1.clear s9 (Or.inl h.jt) .value⟩,hK.V3 h.own h.jt⟩;rw[hb];rfl
theorem E9(h:fB F R w s p st)(hs:st.attrs.length<=1099511627780):
  Z4 227 #[Z8 R] w fun e w'=>e=.returned (.tuple #[])/\∃p',fB (Grow F w w') R w' s p' st.addAttr/\Frame F w w':=by
 obtain⟨i0,hi,hz0,hz1,hz2⟩:=aY VU;obtain⟨ao,cap,hv⟩:=dS (h.own.run .attr);obtain⟨bo,Bk,hw⟩:=dS (h.own.run .value);obtain⟨ti,tc,E7⟩:=dS h.own.attrs;have uj:w.ownsRow 0 5 1 (.slice ao (st.run .attr).length cap) (st.run .attr).length (Lib.byteCells (st.run .attr)):=by rw[<-hv];exact h.own.run .attr
 have hl2:w.ownsRow 0 5 1 (.slice bo (st.run .value).length Bk) (st.run .value).length (Lib.byteCells (st.run .value)):=by rw[<-hw];exact h.own.run .value
 have Ab:(Value.slice ao (st.run .attr).length cap).ownBlock≠some R:=by rw[<-hv];exact fun e=>(h.own.jg .attr R e).2 rfl
 have hR3:(Value.slice bo (st.run .value).length Bk).ownBlock≠some R:=by rw[<-hw];exact fun e=>(h.own.jg .value R e).2 rfl
 have Y_:(Value.slice ti st.attrs.length tc).ownBlock≠some R:=by rw[<-E7];exact fun e=>(h.own.ew R e).2 rfl
 have c11:w.cell? ⟨R,11,none⟩=some (.slice ti st.attrs.length tc):=by rw[<-E7];exact h.cell 11 rfl
 have c13:w.cell? ⟨R,13,none⟩=some (.slice ao (st.run .attr).length cap):=by rw[<-hv];exact h.cell 13 rfl
 have c15:w.cell? ⟨R,15,none⟩=some (.slice bo (st.run .value).length Bk):=by rw[<-hw];exact h.cell 15 rfl
 have hcv:∀W:World,W.ownsRow 0 5 1 (.slice ao (st.run .attr).length cap) (st.run .attr).length (Lib.byteCells (st.run .attr))->(convert 101 9 (.slice ao (st.run .attr).length cap)).run prog W=.ok (.string ⟨(st.run .attr).toArray⟩) W:=fun W h=>kR h;have aaN:∀W:World,W.ownsRow 0 5 1 (.slice bo (st.run .value).length Bk) (st.run .value).length (Lib.byteCells (st.run .value))->(convert 101 9 (.slice bo (st.run .value).length Bk)).run prog W=.ok (.string ⟨(st.run .value).toArray⟩) W:=fun W h=>kR h;have HT:Hid (w.ownsRow 0 42 2 (.slice ti st.attrs.length tc) st.attrs.length (d_ st.attrs)):=by rw[<-E7];exact h.own.attrs
 have HL:=a_ uj;have HM:=a_ hl2;have T0:Hid (TA R ao (st.run .attr).length cap bo (st.run .value).length Bk (st.run .attr) (st.run .value) w.drew):=⟨c13,c15,HL.out.drew,HM.out.drew⟩
 have T1:Hid (∀o,TA R ao (st.run .attr).length cap bo (st.run .value).length Bk (st.run .attr) (st.run .value) (w.drew.alloc o)):=fun o=>Pp T0.out o;have hlt:=h.lt R h.jt;have H1:=a_ h;have HV:=a_ E7;clear h uj hl2 hv hw E7;have VX:=hcv w.drew HL.out.drew;have abD:=aaN w.drew HM.out.drew;go_enter func227,ntmps227;go_wp2_with fail;go_region_law
  (first|(
   refine eL rfl (.tmp 6) (.tmp 20) 38 rfl 42 i0 _ 2 32 underlying38 hi hz0 hz1 hz2 rfl (by decide) (.slice ti st.attrs.length tc) st.attrs.length (d_ st.attrs) (by simp[Act.eval,Act.put]) (HT.out.drew.alloc _) ⟨w.heap.size,0,none⟩ 1 1 [eu (st.run .attr),eu (st.run .value)] (by simp[Act.eval,Act.put]) rfl (LF _ _ _) (E8 _ _) (by unfold maxLen;omega) (by omega) ?_;intro v' w2 ho hg hat;obtain⟨sP,cap',rfl⟩:=dS ho;have hb1:=fF H1.out.blk Y_ hg;have Za:w2.cell? ⟨R,11,none⟩=some (p.attrs):=cell_of hb1 rfl;have aaO:w2.cell? ⟨R,13,none⟩=some (.slice ao (st.run .attr).length cap):=(cell_of hb1 rfl).trans ((H1.out.cell 13 rfl).symm.trans c13);have aaP:w2.cell? ⟨R,15,none⟩=some (.slice bo (st.run .value).length Bk):=(cell_of hb1 rfl).trans ((H1.out.cell 15 rfl).symm.trans c15);have abE:w2.cell? ⟨R,16,none⟩=some (.int .i64 (st.eP .value)):=cell_of hb1 rfl;have aaQ:=dY (i:=11) hb1;have abF:=dY (i:=15) hb1;have abG:=dY (i:=16) hb1;have T2:Hid (TA R ao (st.run .attr).length cap bo (st.run .value).length Bk (st.run .attr) (st.run .value) w2):=⟨aaO,aaP,oC (HL.out.drew.alloc _) (HT.out.drew.alloc _) (by decide) hg,oC (HM.out.drew.alloc _) (HT.out.drew.alloc _) (by decide) hg⟩
   have T3:Hid (∀v,TA R ao (st.run .attr).length cap bo (st.run .value).length Bk (st.run .attr) (st.run .value) (w2.setCell ⟨R,11,none⟩ v)):=fun v=>V2 Ab hR3 T2.out v;have HO:=a_ ho;have HG:=a_ hg;have HA:=a_ hat;clear ho hg hat hb1))
 all_goals
  go_wp2
  go_end0
  obtain⟨p2,r2,f2⟩:=Ak H1.out (by rw[HV.out];exact HG.out) HO.out (by rw[HV.out];simpa using HA.out);exact⟨rfl,p2,r2,f2⟩
end
end K
end Go.Proofs.YtclgfepngpeifaaGreatDoor
