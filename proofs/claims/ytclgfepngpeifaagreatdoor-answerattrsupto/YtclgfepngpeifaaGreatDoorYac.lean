import Derived.Test.YtclgfepngpeifaaGreatDoorYA
import Derived.Test.YtclgfepngpeifaaGreatDoorYab
set_option linter.unusedVariables false
set_option linter.unusedSimpArgs false
set_option maxHeartbeats 32000000
set_option maxRecDepth 100000
namespace Go.Proofs.YtclgfepngpeifaaGreatDoor
open Go.RowKit Go.Maps Go.Lib Tryz
section
variable{w w' w1 w2:World}{F G:Nat->Prop}{R:Nat}{t l l':L}{wh n:Nat}
theorem sq{g:Nat}:∀(vs:List Value) (o:Nat) (w w':World),w.heap[g]?=w'.heap[g]?->(w.setCells g o vs).heap[g]?=(w'.setCells g o vs).heap[g]?
 |[],_,_,_,h=>h
 |v::vs,o,w,w',h=>sq vs (o+1) _ _ (by
  show (w.setCell ⟨g,o,none⟩ v).heap[g]?=(w'.setCell ⟨g,o,none⟩ v).heap[g]?;simp only[World.setCell,Array.getElem?_modify,h])
theorem qa{e:TypeId}{sz k:Nat}{v:Value}{xs:List Value}(h:w.ownsRow 0 e sz v (k+1) xs):∃g cap,v=Z9 g (k+1) cap:=by
 rcases h.2 with⟨_,e2⟩|⟨g,cap,cur,rfl,_⟩
 ·omega
 ·exact⟨g,cap,rfl⟩
theorem Sx{nb:Nat}(h:w.heap[nb]?=some (.cells #[.string ⟨#[]⟩,.slice none 0 0,.slice none 0 0,.string ⟨#[]⟩,.string ⟨#[]⟩] 146 (0,0))):∀j u,[Value.string ⟨#[]⟩,.slice none 0 0,.slice none 0 0,.string ⟨#[]⟩,.string ⟨#[]⟩][j]?=some u->w.cell? ((⟨nb,0,none⟩:Addr).add j)=some u:=by
 intro j u hu;rw[dg,aG,cell_of h (v:=u)];rw[cw];exact hu
theorem VC:∀u∈[Value.string ⟨#[]⟩,.slice none 0 0,.slice none 0 0,.string ⟨#[]⟩,.string ⟨#[]⟩],u.oneCell'=true:=by
 intro u hu;simp only[bN,bC,cq]at hu;rcases hu with rfl|rfl|rfl|rfl|rfl<;>rfl
theorem YC(x1 x4 x5:ByteArray)(k s:Option Addr)(a b c d:Nat):(#[Value.string x1,.slice k a b,.slice s c d,.string x4,.string x5]).all (·.oneCell')=true:=all_oneCell_toArray (cs:=[Value.string x1,.slice k a b,.slice s c d,.string x4,.string x5]) (by
 intro u hu;simp only[bN,bC,cq]at hu;rcases hu with rfl|rfl|rfl|rfl|rfl<;>rfl)
theorem Er{lo Bs Br g cap:Nat}{pi:Option Addr}{pc:Nat}{d:Bool}{te:L}{ps:List gB}{p:gB}{vk vs:Value}{W W6 WF:World}{xs:List (gB×Value×Value)}(fr:Fr (fun k=>k=R) w W)(rd:RD R t wh n W l)(hR:R<lo)(hB:Bs<lo)(Od:Br<lo)(Oe:R≠Bs)(NL:R≠Br)(VA:Bs≠Br)(px:lo<=w.heap.size)
  (gp:GP lo 144 146 W (.slice pi ps.length pc) ps) (hbr:W.heap[Br]?=some (.cells #[ptr R] 170 (0,0))) (YD:W.heap[Bs]?=some (.cells #[.bool d,.string (bs te),.slice pi ps.length pc] 144 (0,0))) (x1:xs.map (·.1)=ps) (x3:∀x∈xs,pP W (fun b=>lo<=b/\some b≠(Value.slice pi ps.length pc).ownBlock) 144 146 x.2.1 x.1.kids/\p9 W (fun b=>lo<=b/\some b≠(Value.slice pi ps.length pc).ownBlock) 144 146 x.2.2 x.1.steps)
  (hv:pP W (fun b=>lo<=b/\some b≠(Value.slice pi ps.length pc).ownBlock) 144 146 vk p.kids/\p9 W (fun b=>lo<=b/\some b≠(Value.slice pi ps.length pc).ownBlock) 144 146 vs p.steps)
  (ho:W6.ownsRow 0 146 5 (Z9 g (ps.length+1) cap) (ps.length+1) (jq xs++[.string ⟨#[]⟩,.slice none 0 0,.slice none 0 0,.string ⟨#[]⟩,.string ⟨#[]⟩])) (hgr:W.grownBy W6 (Value.slice pi ps.length pc).ownBlock) (hat:(Z9 g (ps.length+1) cap).ownBlock=(Value.slice pi ps.length pc).ownBlock\/(Z9 g (ps.length+1) cap).ownBlock=some W.heap.size)
  (h1:WF.heap[g]?=(W6.setCells g (ps.length*5) [.string (bs p.op),vk,vs,.string (bs p.attr),.string (bs p.text)]).heap[g]?) (h2:WF.heap[Bs]?=some (.cells #[.bool d,.string (bs te),Z9 g (ps.length+1) cap] 144 (0,0))) (h3:∀b,b≠g->b≠Bs->WF.heap[b]?=W6.heap[b]?) (h4:WF.os=W6.os/\WF.tape=W6.tape/\WF.output=W6.output/\WF.heap.size=W6.heap.size):
  RD R t wh n WF l/\AH lo Bs Br R d te ps WF p/\Fr (fun k=>k=R\/k=Bs\/lo<=k) w WF:=by
 have hlen:(jq xs).length=ps.length*5:=by rw[x7,<-x1,cL]
 obtain⟨q1,q2⟩:=x_ (ys:=[.string (bs p.op),vk,vs,.string (bs p.attr),.string (bs p.text)]) ho hlen rfl rfl;have Og:lo<=g:=by
  rcases hat with e|e
  ·exact gp.own g e.symm
  ·have e:g=W.heap.size:=aX e;have:=fr.size;omega
 obtain⟨r1,r2,r3,r4⟩:=lF (g:=g) [.string (bs p.op),vk,vs,.string (bs p.attr),.string (bs p.text)] (ps.length*5) W6;have aaA:W.grownBy (W6.setCells g (ps.length*5) [.string (bs p.op),vk,vs,.string (bs p.attr),.string (bs p.text)]) (Value.slice pi ps.length pc).ownBlock:=by
  refine⟨r1.trans hgr.os,r2.trans hgr.tape,r3.trans hgr.output,by rw[r4];exact hgr.size,fun b hb hne=>?_⟩;rw[fq (fun e=>?_),hgr.block b hb hne];subst e;rcases hat with e|e
  ·exact hne e
  ·have e2:b=W.heap.size:=aX e;omega
 have gp7:=gp.push (s:=p) x1 x3 hv (aw px fr.size) q1 aaA hat;have f7:Fr (fun k=>k=Bs) (W6.setCells g (ps.length*5) [.string (bs p.op),vk,vs,.string (bs p.attr),.string (bs p.text)]) WF:=by
  refine⟨h4.1.trans r1.symm,h4.2.1.trans r2.symm,h4.2.2.1.trans r3.symm,by rw[r4,h4.2.2.2];exact au _,fun b hb hne=>?_⟩;by_cases hbg:b=g
  ·subst hbg;exact h1
  ·rw[h3 b hbg hne,fq hbg]
 have keep:∀b,b<lo->b≠Bs->b<W.heap.size->WF.heap[b]?=W.heap[b]?:=fun b hb hne hl=>by
  rw[h3 b (by omega) hne];exact hgr.block b hl (fun e=>by have:=gp.own b e.symm;omega)
 have gpF:=gp7.fr f7 fun k e _=>by omega
 have hz:W.heap.size<=WF.heap.size:=by rw[h4.2.2.2];exact hgr.size
 refine⟨⟨(keep R hR Oe rd.lt).trans rd.blk,rd.wZ,rd.tw,rd.Cv,rd.n8⟩,⟨_,_,h2,gpF,(keep Br Od (fun e=>VA e.symm) (dS hbr)).trans hbr⟩,?_⟩;refine⟨h4.1.trans (hgr.os.trans fr.os),h4.2.1.trans (hgr.tape.trans fr.tape),h4.2.2.1.trans (hgr.output.trans fr.output),aw fr.size hz,fun b hb hne=>?_⟩;have hb1:b≠R:=fun e=>hne (Or.inl e);have hb2:b≠Bs:=fun e=>hne (Or.inr (Or.inl e));have hb3:b<lo:=by apply Nat.lt_of_not_le;exact fun e=>hne (Or.inr (Or.inr e))
 rw[keep b hb3 hb2 (aq hb fr.size),fr.block b hb hb1]
theorem Oh{Bs Br lo pc:Nat}{pi:Option Addr}{d:Bool}{te:L}{ps:List gB}{f:L->Rs gB}{p:gB}{l2:L}(hc:x9 R t wh n f)(h:RD R t wh n w l)(hs:w.heap[Bs]?=some (.cells #[.bool d,.string (bs te),.slice pi ps.length pc] 144 (0,0)))(hr:w.heap[Br]?=some (.cells #[ptr R] 170 (0,0)))(hg:GP lo 144 146 w (.slice pi ps.length pc) ps)(hR:R<lo)(hB:Bs<lo)(Od:Br<lo)(Oe:R≠Bs)(NL:R≠Br)(VA:Bs≠Br)(px:lo<=w.heap.size)(hn:ps.length<=500)(hf:f l=.ok (p,l2)):Z4 177 #[ptr Bs,ptr Br] w fun e w'=>e=.returned (.tuple #[])/\RD R t wh n w' l2/\AH lo Bs Br R d te ps w' p/\Fr (fun k=>k=R\/k=Bs\/lo<=k) w w':=by
 have c0:w.cell? ⟨Br,0,none⟩=some (ptr R):=cell_of hr rfl;have Sw:∀k,(Value.slice pi ps.length pc).ownBlock=some k->k<w.heap.size:=fun k e=>by obtain⟨xs,_,h2,_⟩:=hg.ex;exact eu h2 e
 have HK:Hid (∀W,Fr (fun k=>k=R) w W->W.cell? ⟨Br,0,none⟩=some (ptr R)/\W.cell? ⟨Bs,2,none⟩=some (.slice pi ps.length pc)/\W.heap[Bs]?=some (.cells #[.bool d,.string (bs te),.slice pi ps.length pc] 144 (0,0))/\W.heap[Br]?=some (.cells #[ptr R] 170 (0,0))/\GP lo 144 146 W (.slice pi ps.length pc) ps):=fun W hW=>by
  have h1:=(hW.block Br (dS hr) (fun e=>NL e.symm)).trans hr;have h2:=(hW.block Bs (dS hs) (fun e=>Oe e.symm)).trans hs;exact⟨cell_of h1 rfl,cell_of h2 rfl,h2,h1,hg.fr hW fun k e _=>by omega⟩
 have HC:Hid (∀W,Fr (fun _=>False) w W->Z4 178 #[ptr R] W (Ends R t wh n (PV (fun b=>W.heap.size<=b) 144 146) W (.ok (p,l2)))):=fun W hW=>by have:=hc W l (h.fr hW (fun x=>x));rw[hf]at this;exact this
 have YE:Hid (∀W W3 v,Fr (fun _=>False) w W->PV (fun b=>W.heap.size<=b) 144 146 W3 v p->∃ki nk kc si ns sc,v=.agg #[.string (bs p.op),.slice ki nk kc,.slice si ns sc,.string (bs p.attr),.string (bs p.text)]/\Hid (pP W3 (fun b=>lo<=b/\some b≠(Value.slice pi ps.length pc).ownBlock) 144 146 (.slice ki nk kc) p.kids/\p9 W3 (fun b=>lo<=b/\some b≠(Value.slice pi ps.length pc).ownBlock) 144 146 (.slice si ns sc) p.steps)):=fun W W3 v hW hv=>by
  obtain⟨vk,vs,rfl,a1,a2⟩:=hv;obtain⟨ki,kc,rfl⟩:=sl.shape a1;obtain⟨si,sc,rfl⟩:=sl.shape a2;have hm:Move (fun b=>W.heap.size<=b) (fun b=>lo<=b/\some b≠(Value.slice pi ps.length pc).ownBlock) W3 W3:=fun b ha _=>⟨⟨aw (aw px hW.size) ha,fun e=>by have:=Sw b e.symm;have:=hW.size;omega⟩,rfl⟩
  exact⟨ki,_,kc,si,_,sc,rfl,a1.move hm,a2.move hm⟩
 have HN:Hid (R<lo/\Bs<lo/\Br<lo/\R≠Bs/\R≠Br/\Bs≠Br/\lo<=w.heap.size):=⟨hR,hB,Od,Oe,NL,VA,px⟩
 have YB:Fr (fun _=>False) w w.drew:=(Fr.refl _ w).drewN 1;obtain⟨i0,hi,hz0,hz1,hz2⟩:=aY Ob;have hi5:(prog.info? 146).map (·.size)=some 5:=by rw[hi];simpa using hz1
 have hkk:(ps.length:Int)<((ps.length+1:Nat):Int):=by omega
 have aaB:(ps.length:Int)<(ps.length:Int)+1:=by omega
 clear hc h hs hr hg hf Sw;go_enter func177,ntmps177;go_wp2_with fail;refine wp_region_held_drew (S:=(fun W=>W.cell? ⟨Br,0,none⟩=some (ptr R))) (by kernel_rfl) c0 (fun hHeld=>?_);generalize w.drew=W0 at*
 have fr:=YB;clear YB;refine wpAnyH_take (i:=0) (v:=?_) rfl (by kernel_rfl) (by kernel_rfl) (by kernel_rfl) (fun _ _ _ h=>h) (Or.inl ⟨by rfl,?_⟩) (by assumption) ?_
 rotate_left
 ·(intro w hSw;(try dsimp only at hSw);go_simp;(try with_reducible rfl))
 (try simp only[Act.put,ae,af,aj])
 refine wpAnyH_take (i:=2) (v:=?_) rfl (by kernel_rfl) (by kernel_rfl) (by kernel_rfl) (fun _ _ _ h=>h) (Or.inl ⟨by rfl,?_⟩) (by assumption) ?_
 rotate_left
 ·(intro w hSw;(try dsimp only at hSw);go_simp;(try with_reducible rfl))
 (try simp only[Act.put,ae,af,aj])
 refine wpAnyH_ready (rs:=[1,3,5]) (by kernel_rfl) (by simp) ?_;refine AllReadyH.cons rfl (fun K hK=>?_) (AllReadyH.cons rfl (fun K hK=>?_) (AllReadyH.cons rfl (fun K hK=>?_) AllReadyH.nil));have ud:=(HK.out _ (by first|exact fr|exact fr.mono fun _ x=>x.elim)).2.1
 go_simp
 refine hK.out _ _ hHeld (fun _=>?_);clear hK K ud
 (try simp only[Act.put,ae,af,aj])
 refine wpAnyH_take (i:=4) (v:=?_) rfl (by kernel_rfl) (by kernel_rfl) (by kernel_rfl) (fun _ _ _ h=>h) (Or.inl ⟨by rfl,?_⟩) (by assumption) ?_
 rotate_left
 ·(intro w hSw;(try dsimp only at hSw);go_simp;(try with_reducible rfl))
 (try simp only[Act.put,ae,af,aj])
 refine wpAnyH_ready (rs:=[3,5]) (by kernel_rfl) (by simp) ?_;refine AllReadyH.cons rfl (fun K hK=>?_) (AllReadyH.cons rfl (fun K hK=>?_) AllReadyH.nil);have hcc:=HC.out _ fr
 go_simp
 refine hcc.mono ?_;clear hcc;rintro e W3 ⟨v,rfl,hv,rd,jC⟩;obtain⟨ki,nk,kc,si,ns,sc,rfl,HV⟩:=YE.out _ _ _ fr hv;clear hv;have fr:Fr (fun k=>k=R) w W3:=(fr.mono (fun _ x=>x.elim)).same jC;clear jC;refine hK.out _ _ (HK.out _ fr).1 (fun hHeld=>?_);clear hK K
 (try simp only[Act.put,ae,af,aj])
 refine wpAnyH_ready (rs:=[5]) (by kernel_rfl) (by simp) ?_;refine AllReadyH.cons rfl (fun K hK=>?_) AllReadyH.nil
 go_simp
 refine hK.out _ _ (dX _ hHeld) (fun hHeld=>?_);clear hK K
 (try simp only[Act.put,ae,af,aj])
 have sj:=dT W3 (.cells #[.string ⟨#[]⟩,.slice none 0 0,.slice none 0 0,.string ⟨#[]⟩,.string ⟨#[]⟩] 146);have w_:lo<=W3.heap.size:=aw px fr.size;have fr:=fr.alloc (.cells #[.string ⟨#[]⟩,.slice none 0 0,.slice none 0 0,.string ⟨#[]⟩,.string ⟨#[]⟩] 146);have rd:=rd.fr ((Fr.refl (fun _=>False) W3).alloc (.cells #[.string ⟨#[]⟩,.slice none 0 0,.slice none 0 0,.string ⟨#[]⟩,.string ⟨#[]⟩] 146)) (fun x=>x);have HV:=a_ (ya HV.out (.cells #[.string ⟨#[]⟩,.slice none 0 0,.slice none 0 0,.string ⟨#[]⟩,.string ⟨#[]⟩] 146));generalize UO:W3.heap.size=nb at*
 generalize W3.alloc (.cells #[.string ⟨#[]⟩,.slice none 0 0,.slice none 0 0,.string ⟨#[]⟩,.string ⟨#[]⟩] 146)=W5 at*
 rotate_left 1
 go_simp
 refine hK.out _ _ (dX _ hHeld) (fun hHeld=>?_);clear hK K
 (try simp only[Act.put,ae,af,aj])
 have sj:=dT W0 (.cells #[.string ⟨#[]⟩,.slice none 0 0,.slice none 0 0,.string ⟨#[]⟩,.string ⟨#[]⟩] 146);have w_:lo<=W0.heap.size:=aw px fr.size;have fr:=fr.alloc (.cells #[.string ⟨#[]⟩,.slice none 0 0,.slice none 0 0,.string ⟨#[]⟩,.string ⟨#[]⟩] 146);generalize UO:W0.heap.size=nb at*
 generalize W0.alloc (.cells #[.string ⟨#[]⟩,.slice none 0 0,.slice none 0 0,.string ⟨#[]⟩,.string ⟨#[]⟩] 146)=W5 at*
 refine wpAnyH_ready (rs:=[3]) (by kernel_rfl) (by simp) ?_;refine AllReadyH.cons rfl (fun K hK=>?_) AllReadyH.nil;have hcc:=HC.out _ fr
 go_simp
 refine hcc.mono ?_;clear hcc;rintro e W3 ⟨v,rfl,hv,rd,jC⟩;obtain⟨ki,nk,kc,si,ns,sc,rfl,HV⟩:=YE.out _ _ _ fr hv;clear hv;have sj:=(jC.block nb (dS sj) (fun e=>by have:=HN.out;omega)).trans sj;have fr:Fr (fun k=>k=R) w W3:=(fr.mono (fun _ x=>x.elim)).same jC;clear jC;refine hK.out _ _ (HK.out _ fr).1 (fun hHeld=>?_);clear hK K
 (try simp only[Act.put,ae,af,aj])
 rotate_left 1
 have hcc:=HC.out _ fr
 go_simp
 refine hcc.mono ?_;clear hcc;rintro e W3 ⟨v,rfl,hv,rd,jC⟩;obtain⟨ki,nk,kc,si,ns,sc,rfl,HV⟩:=YE.out _ _ _ fr hv;clear hv;have fr:Fr (fun k=>k=R) w W3:=(fr.mono (fun _ x=>x.elim)).same jC;clear jC;refine hK.out _ _ (HK.out _ fr).1 (fun hHeld=>?_);clear hK K
 (try simp only[Act.put,ae,af,aj])
 refine wpAnyH_ready (rs:=[1,5]) (by kernel_rfl) (by simp) ?_;refine AllReadyH.cons rfl (fun K hK=>?_) (AllReadyH.cons rfl (fun K hK=>?_) AllReadyH.nil);have ud:=(HK.out _ (by first|exact fr|exact fr.mono fun _ x=>x.elim)).2.1
 go_simp
 refine hK.out _ _ hHeld (fun _=>?_);clear hK K ud
 (try simp only[Act.put,ae,af,aj])
 refine wpAnyH_take (i:=4) (v:=?_) rfl (by kernel_rfl) (by kernel_rfl) (by kernel_rfl) (fun _ _ _ h=>h) (Or.inl ⟨by rfl,?_⟩) (by assumption) ?_
 rotate_left
 ·(intro w hSw;(try dsimp only at hSw);go_simp;(try with_reducible rfl))
 (try simp only[Act.put,ae,af,aj])
 refine wpAnyH_ready (rs:=[5]) (by kernel_rfl) (by simp) ?_;refine AllReadyH.cons rfl (fun K hK=>?_) AllReadyH.nil
 go_simp
 refine hK.out _ _ (dX _ hHeld) (fun hHeld=>?_);clear hK K
 (try simp only[Act.put,ae,af,aj])
 have sj:=dT W3 (.cells #[.string ⟨#[]⟩,.slice none 0 0,.slice none 0 0,.string ⟨#[]⟩,.string ⟨#[]⟩] 146);have w_:lo<=W3.heap.size:=aw px fr.size;have fr:=fr.alloc (.cells #[.string ⟨#[]⟩,.slice none 0 0,.slice none 0 0,.string ⟨#[]⟩,.string ⟨#[]⟩] 146);have rd:=rd.fr ((Fr.refl (fun _=>False) W3).alloc (.cells #[.string ⟨#[]⟩,.slice none 0 0,.slice none 0 0,.string ⟨#[]⟩,.string ⟨#[]⟩] 146)) (fun x=>x);have HV:=a_ (ya HV.out (.cells #[.string ⟨#[]⟩,.slice none 0 0,.slice none 0 0,.string ⟨#[]⟩,.string ⟨#[]⟩] 146));generalize UO:W3.heap.size=nb at*
 generalize W3.alloc (.cells #[.string ⟨#[]⟩,.slice none 0 0,.slice none 0 0,.string ⟨#[]⟩,.string ⟨#[]⟩] 146)=W5 at*
 rotate_left 1
 go_simp
 refine hK.out _ _ (dX _ hHeld) (fun hHeld=>?_);clear hK K
 (try simp only[Act.put,ae,af,aj])
 have sj:=dT W3 (.cells #[.string ⟨#[]⟩,.slice none 0 0,.slice none 0 0,.string ⟨#[]⟩,.string ⟨#[]⟩] 146);have w_:lo<=W3.heap.size:=aw px fr.size;have fr:=fr.alloc (.cells #[.string ⟨#[]⟩,.slice none 0 0,.slice none 0 0,.string ⟨#[]⟩,.string ⟨#[]⟩] 146);have rd:=rd.fr ((Fr.refl (fun _=>False) W3).alloc (.cells #[.string ⟨#[]⟩,.slice none 0 0,.slice none 0 0,.string ⟨#[]⟩,.string ⟨#[]⟩] 146)) (fun x=>x);have HV:=a_ (ya HV.out (.cells #[.string ⟨#[]⟩,.slice none 0 0,.slice none 0 0,.string ⟨#[]⟩,.string ⟨#[]⟩] 146));generalize UO:W3.heap.size=nb at*
 generalize W3.alloc (.cells #[.string ⟨#[]⟩,.slice none 0 0,.slice none 0 0,.string ⟨#[]⟩,.string ⟨#[]⟩] 146)=W5 at*
 refine wpAnyH_ready (rs:=[1]) (by kernel_rfl) (by simp) ?_;refine AllReadyH.cons rfl (fun K hK=>?_) AllReadyH.nil;have ud:=(HK.out _ (by first|exact fr|exact fr.mono fun _ x=>x.elim)).2.1
 go_simp
 refine hK.out _ _ hHeld (fun _=>?_);clear hK K ud
 (try simp only[Act.put,ae,af,aj])
 refine wpAnyH_take (i:=4) (v:=?_) rfl (by kernel_rfl) (by kernel_rfl) (by kernel_rfl) (fun _ _ _ h=>h) (Or.inl ⟨by rfl,?_⟩) (by assumption) ?_
 rotate_left
 ·(intro w hSw;(try dsimp only at hSw);go_simp;(try with_reducible rfl))
 (try simp only[Act.put,ae,af,aj])
 rotate_left 1
 go_simp
 refine hK.out _ _ (dX _ hHeld) (fun hHeld=>?_);clear hK K
 (try simp only[Act.put,ae,af,aj])
 have sj:=dT W0 (.cells #[.string ⟨#[]⟩,.slice none 0 0,.slice none 0 0,.string ⟨#[]⟩,.string ⟨#[]⟩] 146);have w_:lo<=W0.heap.size:=aw px fr.size;have fr:=fr.alloc (.cells #[.string ⟨#[]⟩,.slice none 0 0,.slice none 0 0,.string ⟨#[]⟩,.string ⟨#[]⟩] 146);generalize UO:W0.heap.size=nb at*
 generalize W0.alloc (.cells #[.string ⟨#[]⟩,.slice none 0 0,.slice none 0 0,.string ⟨#[]⟩,.string ⟨#[]⟩] 146)=W5 at*
 refine wpAnyH_ready (rs:=[1,3]) (by kernel_rfl) (by simp) ?_;refine AllReadyH.cons rfl (fun K hK=>?_) (AllReadyH.cons rfl (fun K hK=>?_) AllReadyH.nil);have ud:=(HK.out _ (by first|exact fr|exact fr.mono fun _ x=>x.elim)).2.1
 go_simp
 refine hK.out _ _ hHeld (fun _=>?_);clear hK K ud
 (try simp only[Act.put,ae,af,aj])
 refine wpAnyH_take (i:=4) (v:=?_) rfl (by kernel_rfl) (by kernel_rfl) (by kernel_rfl) (fun _ _ _ h=>h) (Or.inl ⟨by rfl,?_⟩) (by assumption) ?_
 rotate_left
 ·(intro w hSw;(try dsimp only at hSw);go_simp;(try with_reducible rfl))
 (try simp only[Act.put,ae,af,aj])
 refine wpAnyH_ready (rs:=[3]) (by kernel_rfl) (by simp) ?_;refine AllReadyH.cons rfl (fun K hK=>?_) AllReadyH.nil;have hcc:=HC.out _ fr
 go_simp
 refine hcc.mono ?_;clear hcc;rintro e W3 ⟨v,rfl,hv,rd,jC⟩;obtain⟨ki,nk,kc,si,ns,sc,rfl,HV⟩:=YE.out _ _ _ fr hv;clear hv;have sj:=(jC.block nb (dS sj) (fun e=>by have:=HN.out;omega)).trans sj;have fr:Fr (fun k=>k=R) w W3:=(fr.mono (fun _ x=>x.elim)).same jC;clear jC;refine hK.out _ _ (HK.out _ fr).1 (fun hHeld=>?_);clear hK K
 (try simp only[Act.put,ae,af,aj])
 rotate_left 1
 have hcc:=HC.out _ fr
 go_simp
 refine hcc.mono ?_;clear hcc;rintro e W3 ⟨v,rfl,hv,rd,jC⟩;obtain⟨ki,nk,kc,si,ns,sc,rfl,HV⟩:=YE.out _ _ _ fr hv;clear hv;have sj:=(jC.block nb (dS sj) (fun e=>by have:=HN.out;omega)).trans sj;have fr:Fr (fun k=>k=R) w W3:=(fr.mono (fun _ x=>x.elim)).same jC;clear jC;refine hK.out _ _ (HK.out _ fr).1 (fun hHeld=>?_);clear hK K
 (try simp only[Act.put,ae,af,aj])
 refine wpAnyH_ready (rs:=[1]) (by kernel_rfl) (by simp) ?_;refine AllReadyH.cons rfl (fun K hK=>?_) AllReadyH.nil;have ud:=(HK.out _ (by first|exact fr|exact fr.mono fun _ x=>x.elim)).2.1
 go_simp
 refine hK.out _ _ hHeld (fun _=>?_);clear hK K ud
 (try simp only[Act.put,ae,af,aj])
 refine wpAnyH_take (i:=4) (v:=?_) rfl (by kernel_rfl) (by kernel_rfl) (by kernel_rfl) (fun _ _ _ h=>h) (Or.inl ⟨by rfl,?_⟩) (by assumption) ?_
 rotate_left
 ·(intro w hSw;(try dsimp only at hSw);go_simp;(try with_reducible rfl))
 (try simp only[Act.put,ae,af,aj])
 rotate_left 1
 all_goals
  obtain⟨-,-,YD,hbr,gp⟩:=HK.out _ fr;obtain⟨xs,x1,x2,x3⟩:=gp.ex;have X3:=a_ x3;have GPH:=a_ gp;clear x3 gp;refine wpAnyH_ready (rs:=[6]) (by kernel_rfl) (by simp) ?_;refine AllReadyH.cons rfl (fun K hK=>?_) AllReadyH.nil;refine eP rfl (.tmp 3) (.tmp 7) 142 rfl 146 i0 _ 5 96 underlying142 hi hz0 hz1 hz2 rfl (by decide) (.slice pi ps.length pc) ps.length (jq xs) (by simp[Act.eval]) x2 ⟨nb,0,none⟩ 1 1 [.string ⟨#[]⟩,.slice none 0 0,.slice none 0 0,.string ⟨#[]⟩,.string ⟨#[]⟩] (by simp[Act.eval]) rfl (Sx sj) VC (by unfold maxLen;omega) (by omega) ?_;intro v' W6 ho hgr hat;obtain⟨g,cap,rfl⟩:=qa ho;have hrow:∀b,b<lo->b<W3.heap.size\/True->some b≠(Value.slice pi ps.length pc).ownBlock:=fun b hb _ e=>by have:=GPH.out.own b e.symm;omega
  have b6r:=(hgr.block Br (dS hbr) (hrow Br HN.out.2.2.1 (Or.inr trivial))).trans hbr;have b6s:=(hgr.block Bs (dS YD) (hrow Bs HN.out.2.1 (Or.inr trivial))).trans YD;refine hK.out _ _ (cell_of b6r rfl) (fun hHeld=>?_);clear hK K
  (try simp only[Act.put,ae,af,aj])
  refine wpAnyH_take (i:=7) (v:=?_) rfl (by kernel_rfl) (by kernel_rfl) (by kernel_rfl) (fun _ _ _ h=>h) (Or.inl ⟨by rfl,?_⟩) (by assumption) ?_
  rotate_left
  ·(intro w hSw;(try dsimp only at hSw);go_simp;(try with_reducible rfl))
  (try simp only[Act.put,ae,af,aj])
  refine wpAnyH_take (i:=9) (v:=?_) rfl (by kernel_rfl) (by kernel_rfl) (by kernel_rfl) (fun _ _ _ h=>h) (Or.inl ⟨by rfl,?_⟩) (by assumption) ?_
  rotate_left
  ·(intro w hSw;(try dsimp only at hSw);go_simp;(try with_reducible rfl))
  (try simp only[Act.put,ae,af,aj])
  have hlen:(jq xs).length=ps.length*5:=by rw[x7,<-x1,cL]
  have Sm:W6.there g (ps.length*5) 5:=(x_ (ys:=[.string (bs p.op),.slice ki nk kc,.slice si ns sc,.string (bs p.attr),.string (bs p.text)]) ho hlen rfl rfl).2;have zR:g≠Bs:=fun e=>by
   have:lo<=g:=by
    rcases hat with e|e
    ·exact GPH.out.own g e.symm
    ·have e2:g=_:=aX e;have:=fr.size;have:=HN.out;omega
   have:=HN.out;omega
  have hgR:g≠Br:=fun e=>by
   have:lo<=g:=by
    rcases hat with e|e
    ·exact GPH.out.own g e.symm
    ·have e2:g=_:=aX e;have:=fr.size;have:=HN.out;omega
   have:=HN.out;omega
  have GM:Hid (∀WF,WF.heap[g]?=(W6.setCells g (ps.length*5) [.string (bs p.op),.slice ki nk kc,.slice si ns sc,.string (bs p.attr),.string (bs p.text)]).heap[g]?->WF.heap[Bs]?=some (.cells #[.bool d,.string (bs te),Z9 g (ps.length+1) cap] 144 (0,0))->(∀b,b≠g->b≠Bs->WF.heap[b]?=W6.heap[b]?)->(WF.os=W6.os/\WF.tape=W6.tape/\WF.output=W6.output/\WF.heap.size=W6.heap.size)->RD R t wh n WF l2/\AH lo Bs Br R d te ps WF p/\Fr (fun k=>k=R\/k=Bs\/lo<=k) w WF):=fun WF h1 h2 h3 h4=>by
   obtain⟨n1,n2,n3,n4,n5,n6,n7⟩:=HN.out;exact Er fr rd n1 n2 n3 n4 n5 n6 n7 GPH.out hbr YD x1 X3.out HV.out ho hgr hat h1 h2 h3 h4
  have HO:=a_ ho;clear ho hgr hat hrow hlen x1 x2 hbr YD hkk aaB;refine wpAnyH_ready (rs:=[8,10]) (by kernel_rfl) (by simp) ?_;refine AllReadyH.cons rfl (fun K hK=>?_) (AllReadyH.cons rfl (fun K hK=>?_) AllReadyH.nil)
  ·refine p_ rfl 146 (.tmp 9) (.tmp 5) rfl g (ps.length*5) #[.string (bs p.op),.slice ki nk kc,.slice si ns sc,.string (bs p.attr),.string (bs p.text)] (by simp[Act.eval]) (by simp[Act.eval]) Sm hi5 (YC _ _ _ _ _ _ _ _ _) ?_;have b7r:=(fq (fun e=>hgR e.symm) [.string (bs p.op),.slice ki nk kc,.slice si ns sc,.string (bs p.attr),.string (bs p.text)] (ps.length*5) W6).trans b6r;have b7s:=(fq (fun e=>zR e.symm) [.string (bs p.op),.slice ki nk kc,.slice si ns sc,.string (bs p.attr),.string (bs p.text)] (ps.length*5) W6).trans b6s;have H7:=lF (g:=g) [.string (bs p.op),.slice ki nk kc,.slice si ns sc,.string (bs p.attr),.string (bs p.text)] (ps.length*5) W6;have H8:=a_ (fun b (hb:b≠g)=>fq hb [.string (bs p.op),.slice ki nk kc,.slice si ns sc,.string (bs p.attr),.string (bs p.text)] (ps.length*5) W6);have H7:=a_ H7;refine hK.out _ _ (cell_of b7r rfl) (fun hHeld=>?_);clear hK K
   (try simp only[Act.put,ae,af,aj])
   generalize W6.setCells g (ps.length*5) [.string (bs p.op),.slice ki nk kc,.slice si ns sc,.string (bs p.attr),.string (bs p.text)]=W7 at*
   refine wpAnyH_ready (rs:=[10]) (by kernel_rfl) (by simp) ?_;refine AllReadyH.cons rfl (fun K hK=>?_) AllReadyH.nil;have c7:=cell_of (i:=2) b7s rfl;have f7:=d_ (i:=2) b7s
   go_simp
   have b8r:=(ak W7 ⟨Bs,2,none⟩ (Z9 g (ps.length+1) cap) Br (fun e=>HN.out.2.2.2.2.2.1 e.symm)).trans b7r;refine hK.out _ _ (cell_of b8r rfl) (fun hHeld=>?_);clear hK K;refine wpAnyH_done (by kernel_rfl) ?_ _;obtain⟨q1,q2,q3⟩:=GM.out (W7.setCell ⟨Bs,2,none⟩ (Z9 g (ps.length+1) cap)) (ak _ _ _ _ zR) (ej b7s _) (fun b h1 h2=>(ak _ _ _ _ h2).trans (H8.out b h1)) ⟨H7.out.1,H7.out.2.1,H7.out.2.2.1,by rw[<-H7.out.2.2.2];simp[World.setCell]⟩
   go_end0
   exact⟨rfl,q1,q2,q3⟩
  ·have c7:=cell_of (i:=2) b6s rfl;have f7:=d_ (i:=2) b6s
   go_simp
   have b8r:=(ak W6 ⟨Bs,2,none⟩ (Z9 g (ps.length+1) cap) Br (fun e=>HN.out.2.2.2.2.2.1 e.symm)).trans b6r;have b8s:=ej (i:=2) b6s (Z9 g (ps.length+1) cap);have b8g:=ak W6 ⟨Bs,2,none⟩ (Z9 g (ps.length+1) cap) g zR;have H8:=a_ (fun b (hb:b≠Bs)=>ak W6 ⟨Bs,2,none⟩ (Z9 g (ps.length+1) cap) b hb);have ht8:(W6.setCell ⟨Bs,2,none⟩ (Z9 g (ps.length+1) cap)).there g (ps.length*5) 5:=fun j hj=>by
    have e1:(W6.setCell ⟨Bs,2,none⟩ (Z9 g (ps.length+1) cap)).cell? ⟨g,ps.length*5+j,none⟩=W6.cell? ⟨g,ps.length*5+j,none⟩:=ar b8g;obtain⟨cur,zS⟩:=fA HO.out (k:=g) rfl;exact⟨by rw[e1];exact(Sm j hj).1,d_ (b8g.trans zS)⟩
   have h8z:Hid ((W6.setCell ⟨Bs,2,none⟩ (Z9 g (ps.length+1) cap)).heap.size=W6.heap.size):=by simp[World.setCell,Hid]
   have h8o:Hid ((W6.setCell ⟨Bs,2,none⟩ (Z9 g (ps.length+1) cap)).os=W6.os/\(W6.setCell ⟨Bs,2,none⟩ (Z9 g (ps.length+1) cap)).tape=W6.tape/\(W6.setCell ⟨Bs,2,none⟩ (Z9 g (ps.length+1) cap)).output=W6.output):=⟨rfl,rfl,rfl⟩
   refine hK.out _ _ (cell_of b8r rfl) (fun hHeld=>?_);clear hK K
   (try simp only[Act.put,ae,af,aj])
   generalize W6.setCell ⟨Bs,2,none⟩ (Z9 g (ps.length+1) cap)=W8 at*
   refine wpAnyH_ready (rs:=[8]) (by kernel_rfl) (by simp) ?_;refine AllReadyH.cons rfl (fun K hK=>?_) AllReadyH.nil;refine p_ rfl 146 (.tmp 9) (.tmp 5) rfl g (ps.length*5) #[.string (bs p.op),.slice ki nk kc,.slice si ns sc,.string (bs p.attr),.string (bs p.text)] (by simp[Act.eval]) (by simp[Act.eval]) ht8 hi5 (YC _ _ _ _ _ _ _ _ _) ?_;have H9:=lF (g:=g) [.string (bs p.op),.slice ki nk kc,.slice si ns sc,.string (bs p.attr),.string (bs p.text)] (ps.length*5) W8;have b9r:=(fq (fun e=>hgR e.symm) [.string (bs p.op),.slice ki nk kc,.slice si ns sc,.string (bs p.attr),.string (bs p.text)] (ps.length*5) W8).trans b8r;have b9s:=(fq (fun e=>zR e.symm) [.string (bs p.op),.slice ki nk kc,.slice si ns sc,.string (bs p.attr),.string (bs p.text)] (ps.length*5) W8).trans b8s;refine hK.out _ _ (cell_of b9r rfl) (fun hHeld=>?_);clear hK K;refine wpAnyH_done (by kernel_rfl) ?_ _;obtain⟨q1,q2,q3⟩:=GM.out (W8.setCells g (ps.length*5) [.string (bs p.op),.slice ki nk kc,.slice si ns sc,.string (bs p.attr),.string (bs p.text)]) (sq _ _ _ _ b8g) b9s (fun b h1 h2=>(fq h1 _ _ _).trans (H8.out b h2)) ⟨H9.1.trans h8o.out.1,H9.2.1.trans h8o.out.2.1,H9.2.2.1.trans h8o.out.2.2,H9.2.2.2.trans h8z.out⟩
   go_end0
   exact⟨rfl,q1,q2,q3⟩
end
section
variable{w w' w1 w2:World}{F G:Nat->Prop}{R:Nat}{t l l':L}{wh n:Nat}{e8:Option (L->Rs gB)}
def qc(R:Nat)(t:L)(wh n:Nat)(e8:Option (L->Rs gB)):Prop:=(e8=none/\n=8)\/∃f,e8=some f/\n<8/\(∀l,gC l (f l))/\x9 R t wh (n+1) f
theorem qc.wZ(h:qc R t wh n e8):tU e8:=by
 rcases h with⟨rfl,_⟩|⟨f,rfl,_,hs,_⟩
 ·intro f e;cases e
 ·intro g e;cases e;exact hs
theorem Oi:∀args w,(callFunc 177 args).run prog w=.ok (.enter 177 args) w:=enters_of func177 (by kernel_rfl) rfl
theorem Es{Bs Br lo pc:Nat}{pi:Option Addr}{d:Bool}{te:L}{ps:List gB}(hi:qc R t wh n e8)(h:RD R t wh n w l)(hs:w.heap[Bs]?=some (.cells #[.bool d,.string (bs te),.slice pi ps.length pc] 144 (0,0)))(hr:w.heap[Br]?=some (.cells #[ptr R] 170 (0,0)))(hg:GP lo 144 146 w (.slice pi ps.length pc) ps)(hR:R<lo)(hB:Bs<lo)(Od:Br<lo)(Oe:R≠Bs)(NL:R≠Br)(VA:Bs≠Br)(px:lo<=w.heap.size)(hn:ps.length<=500):
  Z4 176 #[ptr R,.string ⟨#[91]⟩,.string ⟨#[93]⟩,.func (.func 177) #[] #[ptr Bs,ptr Br]] w (Lays R t wh n (fun k=>k=R\/k=Bs\/lo<=k) (AH lo Bs Br R d te ps) w (within (eo t wh) e8 [91] [93] l)):=by
 rcases hi with⟨rfl,rfl⟩|⟨f,rfl,hn8,RT,hc⟩
 ·exact(wo (o:=[91]) (s:=[93]) h).mono fun e w' x=>⟨x.1,x.2.mono fun k e=>Or.inl e⟩
 ·refine AG (o:=[91]) (s:=[93]) (k:=177) h hn8 (Or.inl rfl) Oi (fun W l1 _ rd fr=>?_) (fun W W' p hx fr=>?_)
  ·have hs':=(fr.block Bs (dS hs) (fun e=>Oe e.symm)).trans hs;have XR:=(fr.block Br (dS hr) (fun e=>NL e.symm)).trans hr;have XS:=hg.fr fr fun k e _=>by omega
   have NJ:Fr (fun k=>k=R\/k=Bs\/lo<=k) w W:=fr.mono fun k e=>Or.inl e;cases hf:f l1 with
   |error y=>exact(Oc (F:=fun k=>k=R\/k=Bs\/lo<=k) hc rd hs' XR XS hR hB Od Oe NL VA (aw px fr.size) hn hf fun k e=>Or.inl e).mono fun e w' x=>⟨x.1,NJ.same x.2⟩
   |ok z=>exact(Oh hc rd hs' XR XS hR hB Od Oe NL VA (aw px fr.size) hn (p:=z.1) (l2:=z.2) hf).mono fun e w' x=>⟨x.1,x.2.1,x.2.2.1,NJ.same x.2.2.2⟩
  ·obtain⟨pi,pc,a1,a2,a3⟩:=hx;exact⟨pi,pc,(fr.block Bs (dS a1) (fun e=>Oe e.symm)).trans a1,a2.fr fr (fun k e _=>by omega),(fr.block Br (dS a3) (fun e=>NL e.symm)).trans a3⟩
theorem Fr.restrict{F G:Nat->Prop}(h:Fr F w w')(hk:∀k,k<w.heap.size->F k->G k):Fr G w w':=⟨h.os,h.tape,h.output,h.size,fun k hl hg=>h.block k hl (fun x=>hg (hk k hl x))⟩
def uZ(R:Nat)(t:L)(W:World):Nat:=t.length-(RowKit.intOf ((W.cell? ⟨R,2,none⟩).getD (.int .i64 0))).toNat
theorem RD.uZ(h:RD R t wh n w l):uZ R t w=l.length:=by
 have c2:w.cell? ⟨R,2,none⟩=some (.int .i64 ((t.length-l.length:Nat):Int)):=cell_of h.blk rfl;have:=h.le;unfold Proofs.YtclgfepngpeifaaGreatDoor.uZ;rw[c2];simp[RowKit.intOf];omega
theorem Sy{α β γ:Type}(x:Rs α)(f:α->L->Rs β)(g:β->L->Rs γ):thn (thn x f) g=thn x fun a l=>thn (f a l) g:=by
 cases x with
 |error y=>rfl
 |ok z=>rfl
theorem aaC{b:Nat}{x y z:Value}{ty:TypeId}(a c e:Value)(h:w.heap[b]?=some (.cells #[x,y,z] ty (0,0))):∃W,((w.setCell ⟨b,0,none⟩ a).setCell ⟨b,1,none⟩ c).setCell ⟨b,2,none⟩ e=W/\W.heap[b]?=some (.cells #[a,c,e] ty (0,0))/\Fr (fun k=>k=b) w W:=
 ⟨_,rfl,ej (i:=2) (ej (i:=1) (ej (i:=0) h a) c) e,(((Fr.refl (fun k=>k=b) w).set ⟨b,0,none⟩ a (fun _=>rfl)).set ⟨b,1,none⟩ c (fun _=>rfl)).set ⟨b,2,none⟩ e (fun _=>rfl)⟩
theorem KU{cut:Bool}{fu:Nat}(hp:part l≠[91]):gm cut e8 fu l=.ok ([],l):=by
 cases fu with
 |zero=>rfl
 |succ f=>unfold gm;rw[if_neg hp]
structure LI(R:Nat)(t:L)(wh n:Nat)(e8:Option (L->Rs gB))(w:World)(Bs:Nat)(d:Bool)(te:L)(l1:L)(wr:World)(ps:List gB)(lc:L)(pi:Option Addr)(pc:Nat):Prop where
 rd:RD R t wh n wr lc
 VD:wr.heap[Bs]?=some (.cells #[.bool d,.string (bs te),.slice pi ps.length pc] 144 (0,0))
 br:wr.heap[w.heap.size]?=some (.cells #[ptr R] 170 (0,0))
 bq:wr.heap[w.heap.size+1]?=some (.cells #[.bool false,.string ⟨#[]⟩,.slice none 0 0] 144 (0,0))
 gp:GP (Bs+1) 144 146 wr (.slice pi ps.length pc) ps
 fr:Fr (fun k=>k=R\/w.heap.size<=k) w wr
 lo:w.heap.size+1<Bs
 eq:∃fu,lc.length<fu/\gm (eo t wh) e8 (l1.length+1) l1=thn (gm (eo t wh) e8 fu lc) fun qs l=> .ok (ps++qs,l)
 sm:ps.length+lc.length<=500
 nl:ps=[]->(Value.slice pi ps.length pc)=fo
theorem LI.next{Bs:Nat}{d:Bool}{te l1 lc l2:L}{wr w2:World}{ps:List gB}{pi:Option Addr}{pc:Nat}{p:gB}(hR:R<w.heap.size)(hi:qc R t wh n e8)(h:LI R t wh n e8 w Bs d te l1 wr ps lc pi pc)(hp:part lc=[91])(hw:within (eo t wh) e8 [91] [93] lc=.ok (p,l2))(rd:RD R t wh n w2 l2)(ha:AH (Bs+1) Bs w.heap.size R d te ps w2 p)(fr:Fr (fun k=>k=R\/k=Bs\/Bs+1<=k) wr w2):
  (∃pi pc,LI R t wh n e8 w Bs d te l1 w2 (ps++[p]) l2 pi pc)/\l2.length<lc.length:=by
 obtain⟨pi',pc',a1,a2,a3⟩:=ha;obtain⟨fu,e1,e2⟩:=h.eq;have hlt:=KP hi.wZ (by decide) hw;have px:=h.lo;refine⟨⟨pi',pc',rd,by simpa using a1,a3,(fr.block _ (dS h.bq) (by omega)).trans h.bq,by simpa using a2,h.fr.trans fr (fun i hi x=>by omega),h.lo,?_,by have:=h.sm;simp;omega,fun e=>by simp at e⟩,hlt⟩;cases fu with
 |zero=>omega
 |succ fu=>
  refine⟨fu,by omega,?_⟩;rw[e2]
  conv=>lhs;rw[gm,if_pos hp,hw]
  simp only[thn,Sy];cases gm (eo t wh) e8 fu l2 with
  |error y=>rfl
  |ok z=>simp
theorem LI.er{Bs:Nat}{d:Bool}{te l1 lc:L}{wr:World}{ps:List gB}{pi:Option Addr}{pc:Nat}{y:Nat×Nat}(h:LI R t wh n e8 w Bs d te l1 wr ps lc pi pc)(hp:part lc=[91])(hw:within (eo t wh) e8 [91] [93] lc=.error y):gm (eo t wh) e8 (l1.length+1) l1=.error y:=by
 obtain⟨fu,e1,e2⟩:=h.eq;cases fu with
 |zero=>omega
 |succ fu=>rw[e2,gm,if_pos hp,hw];rfl
theorem LI.out{Bs:Nat}{d:Bool}{te l1 lc:L}{wr:World}{ps:List gB}{pi:Option Addr}{pc:Nat}(h:LI R t wh n e8 w Bs d te l1 wr ps lc pi pc)(hp:part lc≠[91]):gm (eo t wh) e8 (l1.length+1) l1=.ok (ps,lc):=by
 obtain⟨fu,e1,e2⟩:=h.eq;rw[e2,KU hp];simp[thn]
theorem LI.last{Bs:Nat}{d:Bool}{te l1 lc:L}{wr:World}{ps:List gB}{pi:Option Addr}{pc:Nat}(hR:R<w.heap.size)(h:LI R t wh n e8 w Bs d te l1 wr ps lc pi pc)(hp:part lc≠[91]){w5:World}(fr:Fr (fun k=>k=w.heap.size+1) wr w5):
  ∃v,.agg #[.bool d,.string (bs te),.slice pi ps.length pc]=v/\SV (fun b=>w.heap.size<=b) 144 146 w5 v ⟨d,te,gR.of ps⟩/\RD R t wh n w5 lc/\Fr (fun k=>k=R) w w5:=by
 have px:=h.lo;have g5:=(h.gp.fr fr fun k e _=>by omega).done (by have:=h.sm;omega) h.nl;exact⟨_,rfl,⟨_,rfl,g5.move fun b hb _=>⟨by omega,rfl⟩⟩,h.rd.fr fr (by omega),(h.fr.trans fr (fun i hi x=>by omega)).trans (G:=fun _=>False) (Fr.refl _ _) (fun _ _ x=>x.elim)|>.restrict (fun k hk x=>by omega)⟩
theorem oU(d:Bool)(hi:qc R t wh n e8)(h:RD R t wh n w l):Z4 132 #[ptr R,.bool d] w (Ends R t wh n (SV (fun b=>w.heap.size<=b) 144 146) w (step (eo t wh) e8 d l)):=by
 have HT:Hid (∀W,Z5 w W->Z4 175 #[ptr R] W (Ends R t wh n VS W (test (eo t wh) l))):=fun W hW=>Sv (h.below hW);have HB:Hid (∀o1 o2,Z5 w ((w.alloc o1).alloc o2)):=fun o1 o2=>((Below.refl _ w).alloc (au _) o1).alloc (by simp) o2;unfold step;cases hx:test (eo t wh) l with
 |error y=>
  rw[hx]at HT;simp only[thn];clear hx h;go_enter func132,ntmps132;go_wp2_with(first|(go_at_call 175;refine(HT.out _ (HB.out _ _)).mono ?_;rintro e w2 ⟨rfl,fr⟩));exact⟨rfl,rfl,(Fr.below (HB.out _ _)).same fr⟩
 |ok z=>
  obtain⟨te,l1⟩:=z;rw[hx]at HT;have hR:=h.lt;have hsm:l1.length<=500:=by have:=(Eg l te l1 hx).length_le;have:=h.le;have:=h.tw;have:=h.Cv;omega
  have HL:Hid (∀w2,RD R t wh n w2 l1->Fr (fun k=>k=R) ((w.alloc (.cells #[ptr R] 170)).alloc (.cells #[.bool false,.string ⟨#[]⟩,.slice none 0 0] 144)) w2->LI R t wh n e8 w w2.heap.size d te l1 (w2.alloc (.cells #[.bool d,.string (bs te),.slice none 0 0] 144)) [] l1 none 0):=fun w2 rd fr=>by
   have hz:w.heap.size+2<=w2.heap.size:=by have:=fr.size;simp at this;omega
   have f1:Fr (fun _=>False) w2 (w2.alloc (.cells #[.bool d,.string (bs te),.slice none 0 0] 144)):=(Fr.refl _ _).alloc _;have q1:w2.heap[w.heap.size]?=some (.cells #[ptr R] 170 (0,0)):=by rw[fr.block w.heap.size (by simp;omega) (by omega),ay _ _ _ (by simp)];exact dT _ _
   have q2:w2.heap[w.heap.size+1]?=some (.cells #[.bool false,.string ⟨#[]⟩,.slice none 0 0] 144 (0,0)):=by
    rw[fr.block (w.heap.size+1) (by simp) (by omega)];have:=dT (w.alloc (.cells #[ptr R] 170)) (.cells #[.bool false,.string ⟨#[]⟩,.slice none 0 0] 144);simpa using this
   exact⟨rd.fr f1 (fun x=>x),dT _ _,(ay _ _ _ (by omega)).trans q1,(ay _ _ _ (by omega)).trans q2,GP.zero,(((Fr.below (HB.out _ _)).same fr).alloc _).mono (fun k e=>Or.inl e),by omega,⟨l1.length+1,by omega,by
    cases gm (eo t wh) e8 (l1.length+1) l1 with
    |error y=>rfl
    |ok z=>rfl⟩,by simpa using hsm,fun _=>rfl⟩
  have HI:=a_ hi;simp only[thn];clear hx h hsm hi;obtain⟨X,hX⟩:∃X,(thn (gm (eo t wh) e8 (l1.length+1) l1) fun ps l=>(.ok (⟨d,te,gR.of ps⟩,l):Rs iV))=X:=⟨_,rfl⟩
  simp only[thn]at hX;rw[hX];have HX:=a_ hX;clear hX;have YF:∀(fn:Fn) (first cap:Array Value) (w:World),(Instr.makeFunc fn first cap).run prog w=.ok (.func fn first cap) w:=fun _ _ _ _=>rfl;go_enter func132,ntmps132;go_wp2_with(first|(go_at_call 175;refine(HT.out _ (HB.out _ _)).mono ?_;rintro e w2 ⟨v,rfl,rfl,rd,fr⟩));have hL:=HL.out w2 rd fr;have HL0:=a_ hL;clear rd fr hL;generalize w2.heap.size=Bs at*
  generalize w2.alloc (.cells #[.bool d,.string (bs te),.slice none 0 0] 144)=WL at*
  go_loopw [10,11,12,13,14,15] (fun _ _ _ _ _ _ wr=>∃ps lc pi pc,LI R t wh n e8 w Bs d te l1 wr ps lc pi pc) (fun _ _ _ _ _ _ wr=>uZ R t wr)
  case atStart=>exact⟨_,_,_,_,HL0.out⟩
  case round=>
   rename World=>WO
   obtain⟨ps,lc,pi,pc,hL⟩:=hrel;have HP:=a_ (jD hL.rd);have HL1:=a_ hL;have c0:WO.cell? ⟨w.heap.size,0,none⟩=some (ptr R):=cell_of hL.br rfl;have HU:Hid (∀W,Z5 WO W->W.cell? ⟨w.heap.size,0,none⟩=some (ptr R)/\LI R t wh n e8 w Bs d te l1 W ps lc pi pc):=fun W hW=>by
    have f1:Fr (fun _=>False) WO W:=Fr.below hW;have b1:=(f1.block _ (dS hL.br) (fun x=>x)).trans hL.br;exact⟨cell_of b1 rfl,hL.rd.fr f1 (fun x=>x),(f1.block _ (dS hL.VD) (fun x=>x)).trans hL.VD,b1,(f1.block _ (dS hL.bq) (fun x=>x)).trans hL.bq,hL.gp.fr f1 (fun _ x _=>x.elim),hL.fr.trans f1 (fun _ _ x=>x.elim),hL.lo,hL.eq,hL.sm,hL.nl⟩
   have zT:uZ R t WO=lc.length:=hL.rd.uZ;clear hL;by_cases hp:part lc=[91]
   ·have hb:((bs (part lc)).toList==[91])=true:=by rw[fE,hp];rfl
    generalize bs (part lc)=S at*
    have HW:Hid (∀W,LI R t wh n e8 w Bs d te l1 W ps lc pi pc->Z4 176 #[ptr R,.string ⟨#[91]⟩,.string ⟨#[93]⟩,.func (.func 177) #[] #[ptr Bs,ptr w.heap.size]] W (Lays R t wh n (fun k=>k=R\/k=Bs\/Bs+1<=k) (AH (Bs+1) Bs w.heap.size R d te ps) W (within (eo t wh) e8 [91] [93] lc))):=fun W hW=>by
     have:=hW.lo;have:=hW.sm;exact Es HI.out hW.rd hW.VD hW.br hW.gp (by omega) (by omega) (by omega) (by omega) (by omega) (by omega) (dS hW.VD) (by omega)
    cases hw:within (eo t wh) e8 [91] [93] lc with
    |error y=>
     rw[hw]at HW;have hX:=HX.out;rw[HL1.out.er hp hw]at hX;simp only at hX;subst hX;have HLO:=a_ HL1.out.lo;clear hw hp;go_wp2_with(first|(go_at_call 135;refine HP.out.mono ?_;rintro e w3 ⟨rfl,hb3⟩;obtain⟨c3,hL3⟩:=HU.out _ hb3)|(go_at_call 176;refine(HW.out _ hL3).mono ?_;rintro e w4 ⟨rfl,iD⟩));refine⟨rfl,rfl,?_⟩;have:=HLO.out;exact(hL3.fr.trans iD (fun i hi x=>by omega)).restrict (fun k hk x=>by omega)
    |ok z=>
     obtain⟨p,l2⟩:=z;rw[hw]at HW;have G8:=a_ (fun W w2 (hW:LI R t wh n e8 w Bs d te l1 W ps lc pi pc) rd ha fr=>LI.next hR HI.out hW hp hw (w2:=w2) rd ha fr);clear hw hp;go_wp2_with(first|(go_at_call 135;refine HP.out.mono ?_;rintro e w3 ⟨rfl,hb3⟩;obtain⟨c3,hL3⟩:=HU.out _ hb3)|(go_at_call 176;refine(HW.out _ hL3).mono ?_;rintro e w4 ⟨rfl,ji,ha4,iD⟩));obtain⟨⟨pi',pc',hL4⟩,hlt⟩:=G8.out _ _ hL3 ji ha4 iD;exact⟨⟨_,_,_,_,hL4⟩,by rw[hL4.rd.uZ,zT];exact hlt⟩
   ·have hb:((bs (part lc)).toList==[91])=false:=by rw[fE];simpa using hp
    generalize bs (part lc)=S at*
    have hX:=HX.out;rw[HL1.out.out hp]at hX;simp only at hX;subst hX;have HLS:=a_ (fun W w5 (hW:LI R t wh n e8 w Bs d te l1 W ps lc pi pc) (fr:Fr (fun k=>k=w.heap.size+1) W w5)=>hW.last hR hp fr);clear hp;have YG:Hid (∀W,LI R t wh n e8 w Bs d te l1 W ps lc pi pc->(W.cell? ⟨Bs,0,none⟩=some (.bool d)/\W.cell? ⟨Bs,1,none⟩=some (.string (bs te))/\W.cell? ⟨Bs,2,none⟩=some (.slice pi ps.length pc))/\(W.cell? ⟨w.heap.size+1,0,none⟩=some (.bool false)/\W.cell? ⟨w.heap.size+1,1,none⟩=some (.string ⟨#[]⟩)/\W.cell? ⟨w.heap.size+1,2,none⟩=some (.slice none 0 0))/\(W.frozen? ⟨w.heap.size+1,0,none⟩=false/\W.frozen? ⟨w.heap.size+1,1,none⟩=false/\W.frozen? ⟨w.heap.size+1,2,none⟩=false)):=fun W hW=>
     ⟨⟨cell_of hW.VD rfl,cell_of hW.VD rfl,cell_of hW.VD rfl⟩,⟨cell_of hW.bq rfl,cell_of hW.bq rfl,cell_of hW.bq rfl⟩,d_ hW.bq,d_ hW.bq,d_ hW.bq⟩
    go_wp2_with(first|(go_at_call 135;refine HP.out.mono ?_;rintro e w3 ⟨rfl,hb3⟩;obtain⟨c3,hL3⟩:=HU.out _ hb3;obtain⟨⟨x0,x1,x2⟩,⟨y0,y1,y2⟩,z0,z1,z2⟩:=YG.out _ hL3));obtain⟨W5,ld,r5,lD⟩:=aaC (.bool d) (.string (bs te)) (.slice pi ps.length pc) hL3.bq;rw[ld];clear ld x0 x1 x2 y0 y1 y2 z0 z1 z2 c3;have k0:=cell_of (i:=0) r5 rfl;have k1:=cell_of (i:=1) r5 rfl;have k2:=cell_of (i:=2) r5 rfl;obtain⟨v,hv,sv,rR,vt⟩:=HLS.out _ _ hL3 lD;subst hv;refine aJ (v:=.agg #[.bool d,.string (bs te),.slice pi ps.length pc]) (by simp[results,results132,go_sem,k0,k1,k2]) rfl ⟨_,rfl,sv,rR,vt⟩
end
section
variable{w w' w1 w2 W0 W2 W4:World}{F G:Nat->Prop}{R lo:Nat}{t l l':L}{wh n:Nat}{e8:Option (L->Rs gB)}{tS tP:TypeId}{v v' vp vk vs:Value}
theorem lG(cs:List Value)(ty:TypeId)(w:World):∀j u,cs[j]?=some u->(w.alloc (.cells cs.toArray ty)).cell? ((⟨w.heap.size,0,none⟩:Addr).add j)=some u:=by
 intro j u hu;rw[dg,aG,cell_of (bf w _) (v:=u)];rw[cw];exact hu
theorem yb(cs:List Value)(ty:TypeId)(sz:Nat)(w:World)(h:cs.length=sz)(hs:0<sz):(w.alloc (.cells cs.toArray ty)).ownsRow 0 ty sz (.slice (some ⟨w.heap.size,0,none⟩) 1 1) 1 cs:=
 ⟨by omega,Or.inr ⟨w.heap.size,1,cs.toArray,rfl,aB _,bf w _,by decide,by decide,by simp;omega,by simp[bT,h]⟩⟩
theorem GS.first{s:iV}(px:lo<=w.heap.size)(sv:pP w (fun b=>lo<=b) tS tP vp s.gm):GS lo tS tP (w.alloc (.cells #[.bool s.deep,.string (bs s.test),vp] tS)) (.slice (some ⟨w.heap.size,0,none⟩) 1 1) [s]:=
 ⟨⟨[(s,vp)],rfl,yb [.bool s.deep,.string (bs s.test),vp] tS 3 w rfl (by decide),fun x hx=>by
   obtain rfl:x=(s,vp):=by simpa using hx
   exact sv.move fun b hb hl=>⟨⟨hb,fun e=>by have:b=w.heap.size:=aX e;omega⟩,ay _ _ _ hl⟩⟩,fun k e=>by have:w.heap.size=k:=aX e;omega⟩
theorem GP.first{s:gB}(px:lo<=w.heap.size)(sv:pP w (fun b=>lo<=b) tS tP vk s.kids/\p9 w (fun b=>lo<=b) tS tP vs s.steps):GP lo tS tP (w.alloc (.cells #[.string (bs s.op),vk,vs,.string (bs s.attr),.string (bs s.text)] tP)) (.slice (some ⟨w.heap.size,0,none⟩) 1 1) [s]:=
 ⟨⟨[(s,vk,vs)],rfl,yb [.string (bs s.op),vk,vs,.string (bs s.attr),.string (bs s.text)] tP 5 w rfl (by decide),fun x hx=>by
   obtain rfl:x=(s,vk,vs):=by simpa using hx
   have hm:Move (fun b=>lo<=b) (fun b=>lo<=b/\some b≠(Value.slice (some ⟨w.heap.size,0,none⟩) 1 1).ownBlock) w (w.alloc (.cells #[.string (bs s.op),vk,vs,.string (bs s.attr),.string (bs s.text)] tP)):=fun b hb hl=>⟨⟨hb,fun e=>by have:b=w.heap.size:=aX e;omega⟩,ay _ _ _ hl⟩
   exact⟨sv.1.move hm,sv.2.move hm⟩⟩,fun k e=>by have:w.heap.size=k:=aX e;omega⟩
theorem GS.lt{ls:List iV}(h:GS lo tS tP w v ls){k:Nat}(e:v.ownBlock=some k):k<w.heap.size:=by obtain⟨xs,_,h2,_⟩:=h.ex;exact eu h2 e
theorem GP.lt{ls:List gB}(h:GP lo tS tP w v ls){k:Nat}(e:v.ownBlock=some k):k<w.heap.size:=by obtain⟨xs,_,h2,_⟩:=h.ex;exact eu h2 e
theorem yc{row:Option Nat}(hg:w1.grownBy w2 row)(hr:∀k,row=some k->lo<=k):Fr (fun k=>k=R\/lo<=k) w1 w2:=
 ⟨hg.os,hg.tape,hg.output,hg.size,fun k hk hf=>hg.block k hk (fun e=>hf (Or.inr (hr k e.symm)))⟩
theorem GS.G9{ls:List iV}{s:iV}(h:GS lo tS tP W0 v ls)(fr:Fr (fun k=>k=R) W0 W2)(hR:R<lo)(px:lo<=W0.heap.size)(sv:pP W2 (fun b=>W0.heap.size<=b) tS tP vp s.gm)(o:Obj):
  ∃xs,(W2.alloc o).ownsRow 0 tS 3 v ls.length (ie xs)/\∀v' W4,W4.ownsRow 0 tS 3 v' (ls.length+1) (ie xs++[.bool s.deep,.string (bs s.test),vp])->(W2.alloc o).grownBy W4 v.ownBlock->(v'.ownBlock=v.ownBlock\/v'.ownBlock=some (W2.alloc o).heap.size)->GS lo tS tP W4 v' (ls++[s])/\Fr (fun k=>k=R\/lo<=k) W0 W4/\Fr (fun k=>lo<=k) W2 W4:=by
 have g3:=h.fr (fr.alloc o) fun k e _=>by omega
 obtain⟨xs,x1,x2,x3⟩:=g3.ex;refine⟨xs,x2,fun v' W4 ho hg hat=>⟨g3.push x1 x3 (sv.move fun b hb hl=>⟨⟨by omega,fun e=>by have:=h.lt e.symm;omega⟩,ay _ _ _ hl⟩) (by have:=fr.size;simp;omega) ho hg hat,?_,?_⟩⟩
 ·exact((fr.alloc o).mono fun k e=>Or.inl e).same (yc hg fun k e=>h.own k e)
 ·exact((Fr.refl _ W2).alloc o).same ⟨hg.os,hg.tape,hg.output,hg.size,fun k hk hf=>hg.block k hk (fun e=>hf (h.own k e.symm))⟩
theorem GP.G9{ls:List gB}{s:gB}(h:GP lo tS tP W0 v ls)(fr:Fr (fun k=>k=R) W0 W2)(hR:R<lo)(px:lo<=W0.heap.size)(sv:pP W2 (fun b=>W0.heap.size<=b) tS tP vk s.kids/\p9 W2 (fun b=>W0.heap.size<=b) tS tP vs s.steps)(o:Obj):
  ∃xs,(W2.alloc o).ownsRow 0 tP 5 v ls.length (jq xs)/\∀v' W4,W4.ownsRow 0 tP 5 v' (ls.length+1) (jq xs++[.string (bs s.op),vk,vs,.string (bs s.attr),.string (bs s.text)])->(W2.alloc o).grownBy W4 v.ownBlock->(v'.ownBlock=v.ownBlock\/v'.ownBlock=some (W2.alloc o).heap.size)->GP lo tS tP W4 v' (ls++[s])/\Fr (fun k=>k=R\/lo<=k) W0 W4/\Fr (fun k=>lo<=k) W2 W4:=by
 have g3:=h.fr (fr.alloc o) fun k e _=>by omega
 obtain⟨xs,x1,x2,x3⟩:=g3.ex;have hm:Move (fun b=>W0.heap.size<=b) (fun b=>lo<=b/\some b≠v.ownBlock) W2 (W2.alloc o):=fun b hb hl=>⟨⟨by omega,fun e=>by have:=h.lt e.symm;omega⟩,ay _ _ _ hl⟩
 refine⟨xs,x2,fun v' W4 ho hg hat=>⟨g3.push x1 x3 ⟨sv.1.move hm,sv.2.move hm⟩ (by have:=fr.size;simp;omega) ho hg hat,?_,?_⟩⟩
 ·exact((fr.alloc o).mono fun k e=>Or.inl e).same (yc hg fun k e=>h.own k e)
 ·exact((Fr.refl _ W2).alloc o).same ⟨hg.os,hg.tape,hg.output,hg.size,fun k hk hf=>hg.block k hk (fun e=>hf (h.own k e.symm))⟩
theorem GS.last{ls:List iV}{s:iV}(h:GS lo tS tP w v (ls++[s])):∃g cap,v=Z9 g (ls.length+1) cap/\w.cell? ⟨g,ls.length*3+1,none⟩=some (.string (bs s.test)):=by
 obtain⟨xs,h1,h2,h3⟩:=h.ex;rw[ax]at h2;obtain⟨g,cap,rfl⟩:=qa h2;obtain⟨x,hx,rfl⟩:=vr (k:=ls.length) (s:=s) h1 (by simp);exact⟨g,cap,rfl,iG h2 (jV xs _ x 1 _ hx rfl)⟩
theorem AJ{ls:List iV}{s:iV}{g cap:Nat}(h:RD R t wh n w l)(hc:w.cell? ⟨g,ls.length*3+1,none⟩=some (.string (bs s.test)))(hn:ls.length<=500):Z4 134 #[ptr R,Z9 g (ls.length+1) cap] w (Z7 (.bool (fk s l)) w):=by
 have HP:=a_ (jD h);have HC:Hid (∀W,Z5 w W->W.cell? ⟨g,ls.length*3+1,none⟩=some (.string (bs s.test))):=fun W hW=>(ar (hW.block g (aD w _ hc))).trans hc;have hw1:IntKind.i64.wrap (((ls.length+1:Nat):Int)-1)=(ls.length:Int):=by rw[aM];omega
 have hw2:IntKind.i64.wrap (((ls.length:Int)+1)-1)=(ls.length:Int):=by rw[aM];omega
 have ny:(ls.length:Int)<((ls.length+1:Nat):Int):=by omega
 have hk2:(ls.length:Int)<(ls.length:Int)+1:=by omega
 obtain⟨b0,hb0⟩:∃b,(s.test==[35])=b:=⟨_,rfl⟩
 obtain⟨b1,hb1⟩:∃b,(part l==[47])=b:=⟨_,rfl⟩
 obtain⟨b2,hb2⟩:∃b,(part l==[47,47])=b:=⟨_,rfl⟩
 have hgo:fk s l=(!b0&&(b1||b2)):=by unfold fk;rw[hb1,hb2,bne,hb0]
 have e0:((bs s.test).toList==[35])=b0:=by rw[fE];exact hb0
 have e1:((bs (part l)).toList==[47])=b1:=by rw[fE];exact hb1
 have e2:((bs (part l)).toList==[47,47])=b2:=by rw[fE];exact hb2
 rw[hgo];generalize bs (part l)=S at*
 generalize bs s.test=T at*
 generalize ls.length=k at*
 clear h hgo hb0 hb1 hb2 hc;cases b0<;>cases b1<;>cases b2
 all_goals
  go_enter func134,ntmps134;go_wp2_with(first|(go_at_call 135;refine HP.out.mono ?_;rintro e w1 ⟨rfl,hb⟩;have hc1:=HC.out _ hb));go_ret;exact⟨rfl,hb⟩
theorem KV{ls:List iV}{s:iV}(h:RD R t wh n w l)(hg:GS lo 144 146 w v (ls++[s]))(hn:ls.length<=500):Z4 134 #[ptr R,v] w (Z7 (.bool (fk s l)) w):=by
 obtain⟨g,cap,rfl,hc⟩:=hg.last;exact AJ h hc hn
end
section
variable{w w' w1 w2 W0 W2 W4:World}{F G:Nat->Prop}{R lo:Nat}{t l l':L}{wh n:Nat}{e8:Option (L->Rs gB)}{v v' vp vk vs:Value}
theorem iL{α β:Type}(a:α)(l:L)(f:α->L->Rs β):thn (.ok (a,l)) f=f a l:=rfl
theorem oV{α β:Type}(y:Nat×Nat)(f:α->L->Rs β):thn (.error y) f=.error y:=rfl
structure PI(R:Nat)(t:L)(wh n:Nat)(e8:Option (L->Rs gB))(w:World)(X:Rs (List iV))(wr:World)(v:Value)(ls:List iV)(s:iV)(lc:L):Prop where
 rd:RD R t wh n wr lc
 gs:GS w.heap.size 144 146 wr v (ls++[s])
 fr:Fr (fun k=>k=R\/w.heap.size<=k) w wr
 eq:∃fu,lc.length<fu/\X=thn (jJ (eo t wh) e8 fu s lc) fun qs l=> .ok (ls++s::qs,l)
 sm:ls.length+1+lc.length<=501
 lt:R<w.heap.size
theorem PI.below{X:Rs (List iV)}{wr W:World}{ls:List iV}{s:iV}{lc:L}(h:PI R t wh n e8 w X wr v ls s lc)(hb:Z5 wr W):PI R t wh n e8 w X W v ls s lc:=
 ⟨h.rd.below hb,h.gs.fr (Fr.below (F:=fun _=>False) hb) (fun _ x _=>x.elim),h.fr.on hb,h.eq,h.sm,h.lt⟩
theorem PI.go{X:Rs (List iV)}{wr:World}{ls:List iV}{s:iV}{lc:L}(h:PI R t wh n e8 w X wr v ls s lc)(hg:fk s lc=true):
  (∀y,im (eo t wh) lc=.error y->X=.error y)/\∀d l1,im (eo t wh) lc=.ok (d,l1)->l1.length<lc.length/\(∀y,step (eo t wh) e8 d l1=.error y->X=.error y)/\
   ∀s' l2,step (eo t wh) e8 d l1=.ok (s',l2)->l2<:+l1->∃fu,l2.length<fu/\X=thn (jJ (eo t wh) e8 fu s' l2) fun qs l=> .ok ((ls++[s])++s'::qs,l):=by
 obtain⟨fu,e1,e2⟩:=h.eq;cases fu with
 |zero=>omega
 |succ fu=>
  rw[jJ,if_pos hg]at e2;refine⟨fun y hy=>by rw[e2,hy];rfl,fun d l1 hy=>⟨pX hy,fun y hz=>by rw[e2,hy];simp only[iL,oV,hz],fun s' l2 hz hs=>⟨fu,by have:=hs.length_le;have:=pX hy;omega,?_⟩⟩⟩;rw[e2,hy];simp only[iL,hz];cases jJ (eo t wh) e8 fu s' l2 with
  |error y=>rfl
  |ok z=>obtain⟨za,zb⟩:=z;simp only[iL,aV,aZ,bI]
theorem PI.stop{X:Rs (List iV)}{wr:World}{ls:List iV}{s:iV}{lc:L}(h:PI R t wh n e8 w X wr v ls s lc)(hg:fk s lc=false):X=.ok (ls++[s],lc):=by
 obtain⟨fu,e1,e2⟩:=h.eq;rw[e2];cases fu with
 |zero=>omega
 |succ fu=>rw[jJ,if_neg (by rw[hg];simp)];rfl
def SL(A:Nat->Prop)(w:World)(v:Value)(ls:List iV):Prop:=p9 w A 144 146 v (gw.of ls)
theorem JU(hi:qc R t wh n e8)(h:RD R t wh n w l):Z4 85 #[ptr R] w (Ends R t wh n (SL (fun b=>w.heap.size<=b)) w (path (eo t wh) e8 l)):=by
 have YH:=a_ (p8 h);have hR:=h.lt;have h5:l.length<=500:=by have:=h.le;have:=h.tw;have:=h.Cv;omega
 unfold path;cases hx:im (eo t wh) l with
 |error y=>
  rw[hx]at YH;simp only[thn];clear hx h;go_enter func85,ntmps85;go_wp2_with(first|(go_at_call 133;refine YH.out.mono ?_;rintro e w2 ⟨rfl,fr⟩));exact⟨rfl,rfl,fr⟩
 |ok z=>
  obtain⟨d,l1⟩:=z;rw[hx]at YH;have HST:Hid (∀W,RD R t wh n W l1->Z4 132 #[ptr R,.bool d] W (Ends R t wh n (SV (fun b=>W.heap.size<=b) 144 146) W (step (eo t wh) e8 d l1))):=fun W hW=>oU d hi hW;have t_:=(qQ l d l1 hx).length_le;have YI:=pX hx;simp only[thn];clear hx h;cases hy:step (eo t wh) e8 d l1 with
  |error y=>
   rw[hy]at HST;clear hy;go_enter func85,ntmps85;go_wp2_with(first|(go_at_call 133;refine YH.out.mono ?_;rintro e w2 ⟨v,rfl,rfl,rd,fr⟩)|(go_at_call 132;refine(HST.out _ rd).mono ?_;rintro e w3 ⟨rfl,jC⟩));exact⟨rfl,rfl,fr.same jC⟩
  |ok z=>
   obtain⟨s,l2⟩:=z;rw[hy]at HST;have hl2:=(kJ hi.wZ d l1 s l2 hy).length_le;simp only;obtain⟨X,hX⟩:∃X,(thn (jJ (eo t wh) e8 (l2.length+1) s l2) fun ss l=>(.ok (s::ss,l):Rs (List iV)))=X:=⟨_,rfl⟩
   have hX':=hX;simp only[thn]at hX;rw[hX];clear hX;have HL:Hid (∀W1 W2 v,Fr (fun k=>k=R) w W1->Fr (fun k=>k=R) W1 W2->RD R t wh n W2 l2->SV (fun b=>W1.heap.size<=b) 144 146 W2 v s->∃te vi vn vc,v=.agg #[.bool s.deep,.string te,.slice vi vn vc]/\PI R t wh n e8 w X (W2.alloc (.cells #[.bool s.deep,.string te,.slice vi vn vc] 144)) (.slice (some ⟨W2.heap.size,0,none⟩) 1 1) [] s l2):=fun W1 W2 v f1 f2 rd sv=>by
    obtain⟨vp,rfl,sp⟩:=sv;obtain⟨vi,vc,rfl⟩:=sl.shape sp;refine⟨_,vi,_,vc,rfl,rd.fr ((Fr.refl (fun _=>False) W2).alloc _) (fun x=>x),GS.first (lo:=w.heap.size) (aw f1.size f2.size) (sp.move fun b hb _=>⟨aw f1.size hb,rfl⟩),((f1.same f2).alloc _).mono (fun k e=>Or.inl e),⟨l2.length+1,by omega,by rw[<-hX'];rfl⟩,by simp;omega,hR⟩
   have HI:=a_ hi;clear hy hX' hi;obtain⟨i0,hi,hz0,hz1,hz2⟩:=aY Oa;go_enter func85,ntmps85;go_wp2_with(first|(go_at_call 133;refine YH.out.mono ?_;rintro e w2 ⟨v,rfl,rfl,rd,fr⟩)|(go_at_call 132;refine(HST.out _ rd).mono ?_;rintro e w3 ⟨v,rfl,YJ,sY,jC⟩;obtain⟨te,vi,vn,vc,rfl,hP⟩:=HL.out _ _ _ fr jC sY YJ;have HP0:=a_ hP;clear hP YJ));clear rd sY fr jC;go_loopw [3,9,10,11,12,13,14,15,16,17,18] (fun u3 _ _ _ _ _ _ _ _ _ _ wr=>∃ls s lc,PI R t wh n e8 w X wr u3 ls s lc) (fun _ _ _ _ _ _ _ _ _ _ _ wr=>uZ R t wr)
   case atStart=>exact⟨_,_,_,HP0.out⟩
   case round=>
    rename World=>WO
    obtain⟨ls,s,lc,hP⟩:=hrel;have HG:=a_ (KV hP.rd hP.gs (by have:=hP.sm;omega));have zT:uZ R t WO=lc.length:=hP.rd.uZ;have Sz:=a_ hP;obtain⟨bg,hbg⟩:∃b,fk s lc=b:=⟨_,rfl⟩
    rw[hbg]at HG;cases bg with
    |false=>
     have hX:=hP.stop hbg;subst hX;have HE:Hid (∀W,Z5 WO W->SL (fun b=>w.heap.size<=b) W u3 (ls++[s])/\RD R t wh n W lc/\Fr (fun k=>k=R) w W):=fun W hW=>by
      have q:=Sz.out.below hW;exact⟨q.gs.done (by have:=q.sm;simp;omega) (fun e=>by simp at e),q.rd,q.fr.restrict (fun k hk x=>by omega)⟩
     clear hP hbg;go_wp2_with(first|(go_at_call 134;refine HG.out.mono ?_;rintro e w4 ⟨rfl,hb4⟩));obtain⟨e1,e2,e3⟩:=HE.out _ hb4;go_ret;exact⟨_,rfl,e1,e2,e3⟩
    |true=>
     have hgo:=hP.go hbg;have sZ:Hid (∀W,RD R t wh n W lc->Z4 133 #[ptr R] W (Ends R t wh n VB W (im (eo t wh) lc))):=fun W hW=>p8 hW;clear hP hbg;cases hs1:im (eo t wh) lc with
     |error y=>
      have hX:=hgo.1 y hs1;subst hX;rw[hs1]at sZ;clear hs1 hgo;go_wp2_with(first|(go_at_call 134;refine HG.out.mono ?_;rintro e w4 ⟨rfl,hb4⟩;have ji:=Sz.out.rd.below hb4)|(go_at_call 133;refine(sZ.out _ ji).mono ?_;rintro e w5 ⟨rfl,lD⟩));exact⟨rfl,rfl,((Sz.out.fr.on hb4).trans lD (fun i hi x=>Or.inl x)).restrict (fun k hk x=>by omega)⟩
     |ok z=>
      obtain⟨d1,l3⟩:=z;obtain⟨aaD,zU,zV⟩:=hgo.2 d1 l3 hs1;rw[hs1]at sZ;have rS:Hid (∀W,RD R t wh n W l3->Z4 132 #[ptr R,.bool d1] W (Ends R t wh n (SV (fun b=>W.heap.size<=b) 144 146) W (step (eo t wh) e8 d1 l3))):=fun W hW=>oU d1 HI.out hW;clear hs1 hgo;cases hs2:step (eo t wh) e8 d1 l3 with
      |error y=>
       have hX:=zU y hs2;subst hX;rw[hs2]at rS;clear hs2 zU zV;go_wp2_with(first|(go_at_call 134;refine HG.out.mono ?_;rintro e w4 ⟨rfl,hb4⟩;have ji:=Sz.out.rd.below hb4)|(go_at_call 133;refine(sZ.out _ ji).mono ?_;rintro e w5 ⟨v5,rfl,rfl,rR,lD⟩)|(go_at_call 132;refine(rS.out _ rR).mono ?_;rintro e w6 ⟨rfl,vt⟩));exact⟨rfl,rfl,((Sz.out.fr.on hb4).trans (lD.same vt) (fun i hi x=>Or.inl x)).restrict (fun k hk x=>by omega)⟩
      |ok z=>
       obtain⟨s',l4⟩:=z;rw[hs2]at rS;have RT:=kJ HI.out.wZ d1 l3 s' l4 hs2;have hl4:=RT.length_le;have G8:=a_ (zV s' l4 hs2 RT);clear hs2 zU zV;have qd:Hid (∀W1 W2 W3 v,Z5 WO W1->Fr (fun k=>k=R) W1 W2->Fr (fun k=>k=R) W2 W3->RD R t wh n W3 l4->SV (fun b=>W2.heap.size<=b) 144 146 W3 v s'->∃te vi vn vc,v=.agg #[.bool s'.deep,.string te,.slice vi vn vc]/\∃xs,(W3.alloc (.cells #[.bool s'.deep,.string te,.slice vi vn vc] 144)).ownsRow 0 144 3 u3 (ls.length+1) (ie xs)/\∀v' W4,W4.ownsRow 0 144 3 v' (ls.length+1+1) (ie xs++[.bool s'.deep,.string te,.slice vi vn vc])->(W3.alloc (.cells #[.bool s'.deep,.string te,.slice vi vn vc] 144)).grownBy W4 u3.ownBlock->(v'.ownBlock=u3.ownBlock\/v'.ownBlock=some (W3.heap.size+1))->PI R t wh n e8 w X W4 v' (ls++[s]) s' l4):=fun W1 W2 W3 v b1 f2 f3 rd sv=>by
        obtain⟨vp,rfl,sp⟩:=sv;obtain⟨vi,vc,rfl⟩:=sl.shape sp;have q:=Sz.out.below b1;have hz:=q.fr.size;obtain⟨xs,x1,x2⟩:=(q.gs.fr f2 (fun k e _=>by omega)).G9 f3 hR (aw hz f2.size) sp (.cells #[.bool s'.deep,.string (bs s'.test),.slice vi s'.gm.len vc] 144);rw[ax]at x1 x2;refine⟨_,vi,_,vc,rfl,xs,x1,fun v' W4 ho hg hat=>?_⟩;obtain⟨g1,g2,g3⟩:=x2 v' W4 ho hg (by simpa using hat);exact⟨rd.fr g3 (by omega),g1,(q.fr.trans f2 (fun i hi x=>Or.inl x)).same g2,G8.out,by have:=q.sm;simp;omega,hR⟩
       go_wp2_with(first|(go_at_call 134;refine HG.out.mono ?_;rintro e w4 ⟨rfl,hb4⟩;have ji:=Sz.out.rd.below hb4)|(go_at_call 133;refine(sZ.out _ ji).mono ?_;rintro e w5 ⟨v5,rfl,rfl,rR,lD⟩)|(go_at_call 132;refine(rS.out _ rR).mono ?_;rintro e w6 ⟨v6,rfl,JV,SA,vt⟩;obtain⟨KW,KX,KY,KZ,rfl,xs,hx1,hx2⟩:=qd.out _ _ _ _ hb4 lD vt SA JV;have K4:=a_ hx2;clear hx2 JV)|(at_builtin;refine bw _ rfl (.tmp 12) (.tmp 17) 85 rfl 0 144 i0 _ 3 48 underlying85 hi hz0 hz1 hz2 rfl (by decide) u3 (ls.length+1) (ie xs) rfl hx1 ⟨w6.heap.size,0,none⟩ 1 1 [.bool s'.deep,.string KW,.slice KX KY KZ] rfl rfl (lG _ _ _) ?c2 ?c3 ?c4 (aB _) ?_))
       case c2=>
        intro u hu;simp only[bN,bC,cq]at hu;rcases hu with rfl|rfl|rfl<;>rfl
       case c3=>have:=Sz.out.sm;unfold maxLen;omega
       case c4=>have:=Sz.out.sm;omega
       intro v' w7 ho hg _ hat;have hP7:=K4.out v' w7 ho hg (by simpa using hat);go_wp2;exact⟨⟨_,_,_,hP7⟩,by rw[hP7.rd.uZ,zT];omega⟩
end
section
variable{w w' w1 w2 W0 W2 W4:World}{F G:Nat->Prop}{R lo:Nat}{t l l':L}{wh n:Nat}{e8:Option (L->Rs gB)}{v v' vp vk vs:Value}{tS tP:TypeId}
theorem PV.move{A A':Nat->Prop}{p:gB}(hm:Move A A' w w')(h:PV A tS tP w v p):PV A' tS tP w' v p:=by
 obtain⟨vk,vs,rfl,h1,h2⟩:=h;exact⟨vk,vs,rfl,h1.move hm,h2.move hm⟩
theorem PV.shape{A:Nat->Prop}{p:gB}(h:PV A tS tP w v p):∃ki nk kc si ns sc,v=.agg #[.string (bs p.op),.slice ki nk kc,.slice si ns sc,.string (bs p.attr),.string (bs p.text)]/\pP w A tS tP (.slice ki nk kc) p.kids/\p9 w A tS tP (.slice si ns sc) p.steps:=by
 obtain⟨vk,vs,rfl,a1,a2⟩:=h;obtain⟨ki,kc,rfl⟩:=sl.shape a1;obtain⟨si,sc,rfl⟩:=sl.shape a2;exact⟨ki,_,kc,si,_,sc,rfl,a1,a2⟩
theorem pN{b:Nat}{x0 x1 x2 x3 x4:Value}{ty:TypeId}(a c e f g:Value)(h:w.heap[b]?=some (.cells #[x0,x1,x2,x3,x4] ty (0,0))):∃W,((((w.setCell ⟨b,0,none⟩ a).setCell ⟨b,1,none⟩ c).setCell ⟨b,2,none⟩ e).setCell ⟨b,3,none⟩ f).setCell ⟨b,4,none⟩ g=W/\W.heap[b]?=some (.cells #[a,c,e,f,g] ty (0,0))/\Fr (fun k=>k=b) w W:=
 ⟨_,rfl,ej (i:=4) (ej (i:=3) (ej (i:=2) (ej (i:=1) (ej (i:=0) h a) c) e) f) g,(((((Fr.refl (fun k=>k=b) w).set ⟨b,0,none⟩ a (fun _=>rfl)).set ⟨b,1,none⟩ c (fun _=>rfl)).set ⟨b,2,none⟩ e (fun _=>rfl)).set ⟨b,3,none⟩ f (fun _=>rfl)).set ⟨b,4,none⟩ g (fun _=>rfl)⟩
abbrev eY:Array Value:=#[.string ⟨#[]⟩,.slice none 0 0,.slice none 0 0,.string ⟨#[]⟩,.string ⟨#[]⟩]
theorem eU{b:Nat}{x0 x1 x2 x3 x4:Value}{ty:TypeId}(h:w.heap[b]?=some (.cells #[x0,x1,x2,x3,x4] ty (0,0))):(w.cell? ⟨b,0,none⟩=some x0/\w.cell? ⟨b,1,none⟩=some x1/\w.cell? ⟨b,2,none⟩=some x2/\w.cell? ⟨b,3,none⟩=some x3/\w.cell? ⟨b,4,none⟩=some x4)/\(w.frozen? ⟨b,0,none⟩=false/\w.frozen? ⟨b,1,none⟩=false/\w.frozen? ⟨b,2,none⟩=false/\w.frozen? ⟨b,3,none⟩=false/\w.frozen? ⟨b,4,none⟩=false):=
 ⟨⟨cell_of h rfl,cell_of h rfl,cell_of h rfl,cell_of h rfl,cell_of h rfl⟩,d_ h,d_ h,d_ h,d_ h,d_ h⟩
def VE(R:Nat)(t:L)(wh n:Nat)(k:FuncId)(read:L->Rs gB):Prop:=∀W l,RD R t wh n W l->Z4 k #[ptr R] W (Ends R t wh n (PV (fun b=>W.heap.size<=b) 144 146) W (read l))
structure JI(R:Nat)(t:L)(wh n:Nat)(word:L)(read:L->Rs gB)(w:World)(X:Rs gB)(wr:World)(v:Value)(ps:List gB)(lc:L):Prop where
 rd:RD R t wh n wr lc
 gp:GP (w.heap.size+1) 144 146 wr v ps
 bq:wr.heap[w.heap.size]?=some (.cells eY 146 (0,0))
 fr:Fr (fun k=>k=R\/w.heap.size<=k) w wr
 eq:∃fu,lc.length<fu/\X=thn (j_ word read fu lc) fun qs l=> .ok (⟨word,gR.of (ps++qs),.nil,[],[]⟩,l)
 sm:ps.length+lc.length<=501
 ne:ps≠[]
 lt:R<w.heap.size
variable{word:L}{read:L->Rs gB}{X:Rs gB}{wr W:World}{ps:List gB}{lc:L}
theorem JI.keep(h:JI R t wh n word read w X wr v ps lc)(hf:Fr (fun _=>False) wr W):JI R t wh n word read w X W v ps lc:=
 ⟨h.rd.fr hf (fun x=>x),h.gp.fr hf (fun _ x _=>x.elim),(hf.block _ (dS h.bq) (fun x=>x)).trans h.bq,h.fr.trans hf (fun _ _ x=>x.elim),h.eq,h.sm,h.ne,h.lt⟩
theorem JI.stop(h:JI R t wh n word read w X wr v ps lc)(hg:part lc≠word):X=.ok (⟨word,gR.of ps,.nil,[],[]⟩,lc):=by
 obtain⟨fu,e1,e2⟩:=h.eq;rw[e2];cases fu with
 |zero=>omega
 |succ fu=>rw[j_,if_neg hg];simp only[iL,aP]
theorem JI.go(h:JI R t wh n word read w X wr v ps lc)(hg:part lc=word)(hw:word≠[])(hs:∀l,gC l (read l)):
  (∀y,read (pass word.length lc)=.error y->X=.error y)/\∀p l2,read (pass word.length lc)=.ok (p,l2)->l2.length<lc.length/\∃fu,l2.length<fu/\X=thn (j_ word read fu l2) fun qs l=> .ok (⟨word,gR.of ((ps++[p])++qs),.nil,[],[]⟩,l):=by
 obtain⟨fu,e1,e2⟩:=h.eq;cases fu with
 |zero=>omega
 |succ fu=>
  rw[j_,if_pos hg]at e2;refine⟨fun y hy=>by rw[e2,hy];rfl,fun p l2 hy=>?_⟩;have h1:=(hs _ p l2 hy).length_le;have h2:=xw (n:=word.length) (l:=lc) (by cases word;exact absurd rfl hw;simp) (xx hg hw);refine⟨by omega,fu,by omega,?_⟩;rw[e2,hy];simp only[iL];cases j_ word read fu l2 with
  |error y=>rfl
  |ok z=>obtain⟨za,zb⟩:=z;simp only[iL,aV,aZ,bI]
theorem JI.fin{w4 W5:World}{ui:Option Addr}{uc:Nat}(h:JI R t wh n word read w X wr (.slice ui ps.length uc) ps lc)(f4:Fr (fun k=>k=R) wr w4)(ji:RD R t wh n w4 lc)(f5:Fr (fun k=>k=w.heap.size) w4 W5):
  PV (fun b=>w.heap.size<=b) 144 146 W5 (.agg #[.string (bs word),.slice ui ps.length uc,.slice none 0 0,.string ⟨#[]⟩,.string ⟨#[]⟩]) ⟨word,gR.of ps,.nil,[],[]⟩/\RD R t wh n W5 lc/\Fr (fun k=>k=R) w W5:=by
 have hlt:=h.lt;have g:=((h.gp.fr f4 (fun k e _=>by omega)).fr f5 (fun k e _=>by omega)).done (by have:=h.sm;omega) (fun e=>absurd e h.ne);exact⟨⟨_,_,rfl,g.move fun b hb _=>⟨by omega,rfl⟩,Or.inl ⟨rfl,rfl⟩⟩,ji.fr f5 (by omega),((h.fr.trans f4 (fun i hi x=>Or.inl x)).trans f5 (fun i hi x=>Or.inr (by omega))).restrict (fun k hk x=>by omega)⟩
theorem AK{k:FuncId}(hw:word≠[])(hen:∀args w,(callFunc k args).run prog w=.ok (.enter k args) w)(hr:VE R t wh n k read)(hs:∀l,gC l (read l))(h:RD R t wh n w l):
  Z4 200 #[ptr R,.string ⟨word.toArray⟩,.func (.func k) #[ptr R] #[]] w (Ends R t wh n (PV (fun b=>w.heap.size<=b) 144 146) w (joined word read l)):=by
 have hR:=h.lt;have h5:l.length<=500:=by have:=h.le;have:=h.tw;have:=h.Cv;omega
 have f0:Fr (fun _=>False) w (w.alloc (.cells eY 146)):=(Fr.refl _ w).alloc _;have YK:=a_ (hr (w.alloc (.cells eY 146)) l (h.fr f0 (fun x=>x)));have HZ:Hid ((w.alloc (.cells eY 146)).heap[w.heap.size]?=some (.cells eY 146 (0,0))):=dT _ _;have hsz:(w.alloc (.cells eY 146)).heap.size=w.heap.size+1:=by simp
 unfold joined;cases hx:read l with
 |error y=>
  rw[hx]at YK;simp only[oV];clear hx h;go_enter func200,ntmps200;go_wp2_with fail;refine YK.out.mono ?_;rintro e w2 ⟨rfl,fr⟩;go_wp2;exact⟨rfl,rfl,(f0.mono fun _ x=>x.elim).same fr⟩
 |ok z=>
  obtain⟨p,l1⟩:=z;rw[hx]at YK;have t_:=(hs l p l1 hx).length_le;simp only[iL];clear hx h;have CA:Hid (∀W,RD R t wh n W l1->Z4 135 #[ptr R] W (Z7 (.string (bs (part l1))) W)):=fun W hW=>jD hW;by_cases hp:part l1=word
  ·rw[if_pos hp];have hb:((bs (part l1)).toList==word)=true:=by rw[fE,hp];simp
   obtain⟨X,hX⟩:∃X,(thn (j_ word read (l1.length+1) l1) fun qs l=>(.ok (⟨word,gR.of (p::qs),.nil,[],[]⟩,l):Rs gB))=X:=⟨_,rfl⟩
   rw[hX];have HJ:Hid (∀W1 W2 W3 ki nk kc si ns sc,Fr (fun k=>k=R) (w.alloc (.cells eY 146)) W1->RD R t wh n W1 l1->pP W1 (fun b=>(w.alloc (.cells eY 146)).heap.size<=b) 144 146 (.slice ki nk kc) p.kids/\p9 W1 (fun b=>(w.alloc (.cells eY 146)).heap.size<=b) 144 146 (.slice si ns sc) p.steps->W2=W1.alloc (.cells #[.string (bs p.op),.slice ki nk kc,.slice si ns sc,.string (bs p.attr),.string (bs p.text)] 146)->Z5 W2 W3->W3.heap[W1.heap.size]?=some (.cells #[.string (bs p.op),.slice ki nk kc,.slice si ns sc,.string (bs p.attr),.string (bs p.text)] 146 (0,0))/\JI R t wh n word read w X (W3.alloc (.cells #[.string (bs p.op),.slice ki nk kc,.slice si ns sc,.string (bs p.attr),.string (bs p.text)] 146)) (.slice (some ⟨W3.heap.size,0,none⟩) 1 1) [p] l1):=fun W1 W2 W3 ki nk kc si ns sc f1 rd sv e2 b3=>by
    subst e2;have f2:Fr (fun _=>False) W1 W3:=((Fr.refl _ W1).alloc _).same (Fr.below b3);have hz1:=f1.size;rw[hsz]at hz1;have g1:=(f1.block w.heap.size (by rw[hsz];omega) (by omega)).trans HZ.out;have g3:=(f2.block _ (dS g1) (fun x=>x)).trans g1;refine⟨(b3.block _ (by simp)).trans (dT _ _),?_⟩;have f4:Fr (fun _=>False) W3 (W3.alloc (.cells #[.string (bs p.op),.slice ki nk kc,.slice si ns sc,.string (bs p.attr),.string (bs p.text)] 146)):=(Fr.refl _ W3).alloc _;have hm:Move (fun b=>(w.alloc (.cells eY 146)).heap.size<=b) (fun b=>w.heap.size+1<=b) W1 W3:=fun b hb hl=>⟨by rw[hsz]at hb;exact hb,f2.block b hl (fun x=>x)⟩
    exact⟨(rd.fr f2 (fun x=>x)).fr f4 (fun x=>x),GP.first (aw hz1 f2.size) ⟨sv.1.move hm,sv.2.move hm⟩,(f4.block _ (dS g3) (fun x=>x)).trans g3,(((f0.mono fun _ x=>x.elim).same (f1.mono (G:=fun k=>k=R\/w.heap.size<=k) fun _ x=>Or.inl x)).trans f2 (fun _ _ x=>x.elim)).trans f4 (fun _ _ x=>x.elim),⟨l1.length+1,by omega,by rw[<-hX];rfl⟩,by simp;omega,by simp,hR⟩
   have HFB:Hid (∀W1 o1 W3,Below (World.alloc W1 o1).heap.size (W1.alloc o1) W3->RD R t wh n W1 l1->True):=fun _ _ _ _ _=>trivial;have HRA:Hid (∀W1 o1,RD R t wh n W1 l1->RD R t wh n (World.alloc W1 o1) l1):=fun W1 o1 hW=>hW.fr ((Fr.refl (fun _=>False) W1).alloc o1) (fun x=>x);clear hX hp;obtain⟨i0,hi,hz0,hz1,hz2⟩:=aY Ob;generalize bs (part l1)=S at*
   go_enter func200,ntmps200;go_wp2_with fail;refine YK.out.mono ?_;rintro e w2 ⟨v2,rfl,UQ,rQ,lC⟩;obtain⟨ki,nk,kc,si,ns,sc,rfl,UR⟩:=UQ.shape;have SV2:=a_ UR;clear UR UQ;go_wp2_with(first|(go_at_call 135;refine(CA.out _ (HRA.out _ _ rQ)).mono ?_;rintro e w3 ⟨rfl,hb3⟩;obtain⟨K5,hJ⟩:=HJ.out _ _ _ _ _ _ _ _ _ lC rQ SV2.out rfl hb3;have HJ0:=a_ hJ;clear hJ;obtain⟨⟨c0,c1,c2,c3,c4⟩,-⟩:=eU K5));clear c0 c1 c2 c3 c4 K5 rQ lC hb3 hb;generalize (World.alloc w3 _)=W0 at*
   generalize (Value.slice (some ⟨w3.heap.size,0,none⟩) 1 1)=V0 at*
   go_loopw [8,18,19,20,21,22,23,24,25] (fun u8 _ _ _ _ _ _ _ _ wr=>∃ps lc,JI R t wh n word read w X wr u8 ps lc) (fun _ _ _ _ _ _ _ _ _ wr=>uZ R t wr)
   case atStart=>exact⟨_,_,HJ0.out⟩
   case round=>
    rename World=>WO
    obtain⟨ps,lc,hJ⟩:=hrel;have zT:uZ R t WO=lc.length:=hJ.rd.uZ;have VF:=a_ hJ;obtain⟨b,hb⟩:∃b,decide (part lc=word)=b:=⟨_,rfl⟩
    have HT:=a_ (oT word hJ.rd b hb);cases b with
    |false=>
     have hX:=hJ.stop (by simpa using hb);subst hX;simp only[aA,aQ]at HT;obtain⟨ui,uc,rfl⟩:∃ai cap,u8=.slice ai ps.length cap:=by obtain⟨xs,_,h2,_⟩:=hJ.gp.ex;exact dU h2
     clear hb hJ;have HQ:Hid (∀w4,Fr (fun k=>k=R) WO w4->w4.heap[w.heap.size]?=some (.cells eY 146 (0,0))):=fun w4 f4=>(f4.block _ (dS VF.out.bq) (by omega)).trans VF.out.bq;go_wp2_with(first|(go_at_call 86;refine HT.out.mono ?_;rintro e w4 ⟨rfl,ji,iD⟩;have XT:=HQ.out _ iD;obtain⟨⟨c0,c1,c2,c3,c4⟩,g0,g1,g2,g3,g4⟩:=eU XT));obtain⟨W5,ld,r5,lD⟩:=pN (.string ⟨word.toArray⟩) (.slice ui ps.length uc) (.slice none 0 0) (.string ⟨#[]⟩) (.string ⟨#[]⟩) XT;rw[ld];clear ld c0 c1 c2 c3 c4 g0 g1 g2 g3 g4;obtain⟨⟨k0,k1,k2,k3,k4⟩,-⟩:=eU r5;obtain⟨q1,q2,q3⟩:=VF.out.fin iD ji lD;refine aJ (v:=.agg #[.string ⟨word.toArray⟩,.slice ui ps.length uc,.slice none 0 0,.string ⟨#[]⟩,.string ⟨#[]⟩]) (by simp[results,results200,go_sem,k0,k1,k2,k3,k4]) rfl ⟨_,rfl,q1,q2,q3⟩
    |true=>
     have hp:part lc=word:=by simpa using hb
     have hgo:=hJ.go hp hw hs;simp only[if_true]at HT;have DZ:Hid (∀W,RD R t wh n W (pass word.length lc)->Z4 k #[ptr R] W (Ends R t wh n (PV (fun b=>W.heap.size<=b) 144 146) W (read (pass word.length lc)))):=fun W hW=>hr W _ hW;clear hb hJ hp;cases hy:read (pass word.length lc)with
     |error y=>
      have hX:=hgo.1 y hy;subst hX;rw[hy]at DZ;clear hy hgo;go_wp2_with(first|(go_at_call 86;refine HT.out.mono ?_;rintro e w4 ⟨rfl,ji,iD⟩));refine(DZ.out _ ji).mono ?_;rintro e w5 ⟨rfl,lD⟩;go_wp2;exact⟨rfl,rfl,(VF.out.fr.trans (iD.same lD) (fun i hi x=>Or.inl x)).restrict (fun k hk x=>by omega)⟩
     |ok z=>
      obtain⟨p2,l2⟩:=z;obtain⟨hlt,G8⟩:=hgo.2 p2 l2 hy;have G8:=a_ G8;rw[hy]at DZ;clear hy hgo;have qd:Hid (∀W1 W2 ki nk kc si ns sc,Fr (fun k=>k=R) WO W1->Fr (fun k=>k=R) W1 W2->RD R t wh n W2 l2->pP W2 (fun b=>W1.heap.size<=b) 144 146 (.slice ki nk kc) p2.kids/\p9 W2 (fun b=>W1.heap.size<=b) 144 146 (.slice si ns sc) p2.steps->∃xs,(W2.alloc (.cells #[.string (bs p2.op),.slice ki nk kc,.slice si ns sc,.string (bs p2.attr),.string (bs p2.text)] 146)).ownsRow 0 146 5 u8 ps.length (jq xs)/\∀v' W4,W4.ownsRow 0 146 5 v' (ps.length+1) (jq xs++[.string (bs p2.op),.slice ki nk kc,.slice si ns sc,.string (bs p2.attr),.string (bs p2.text)])->(W2.alloc (.cells #[.string (bs p2.op),.slice ki nk kc,.slice si ns sc,.string (bs p2.attr),.string (bs p2.text)] 146)).grownBy W4 u8.ownBlock->(v'.ownBlock=u8.ownBlock\/v'.ownBlock=some (W2.heap.size+1))->JI R t wh n word read w X W4 v' (ps++[p2]) l2):=fun W1 W2 ki nk kc si ns sc f1 f2 rd sv=>by
       have q:=VF.out;have hz:=q.fr.size;have hzq:=dS q.bq;obtain⟨xs,x1,x2⟩:=(q.gp.fr f1 (fun k e _=>by omega)).G9 f2 (by omega) (aw hzq f1.size) sv (.cells #[.string (bs p2.op),.slice ki nk kc,.slice si ns sc,.string (bs p2.attr),.string (bs p2.text)] 146);refine⟨xs,x1,fun v' W4 ho hg hat=>?_⟩;obtain⟨g1,g2,g3⟩:=x2 v' W4 ho hg (by simpa using hat);have SB:=(f1.block _ hzq (by omega)).trans q.bq;have bq2:=(g2.block _ (dS SB) (by omega)).trans SB;exact⟨rd.fr g3 (by omega),g1,bq2,(q.fr.trans f1 (fun i hi x=>Or.inl x)).trans g2 (fun i hi x=>by omega),G8.out,by have:=q.sm;simp;omega,by simp,hR⟩
      go_wp2_with(first|(go_at_call 86;refine HT.out.mono ?_;rintro e w4 ⟨rfl,ji,iD⟩));refine(DZ.out _ ji).mono ?_;rintro e w5 ⟨v5,rfl,YL,rR,lD⟩;obtain⟨ki5,nk5,kc5,si5,ns5,sc5,rfl,YM⟩:=YL.shape;obtain⟨xs,hx1,hx2⟩:=qd.out _ _ _ _ _ _ _ _ iD lD rR YM;have K4:=a_ hx2;clear hx2 YM YL;go_wp2_with(first|(at_builtin;refine bw _ rfl (.tmp 21) (.tmp 24) 142 rfl 0 146 i0 _ 5 96 underlying142 hi hz0 hz1 hz2 rfl (by decide) u8 ps.length (jq xs) rfl hx1 ⟨w5.heap.size,0,none⟩ 1 1 [.string (bs p2.op),.slice ki5 nk5 kc5,.slice si5 ns5 sc5,.string (bs p2.attr),.string (bs p2.text)] rfl rfl (lG _ _ _) ?c2 ?c3 ?c4 (aB _) ?_))
      case c2=>
       intro u hu;simp only[bN,bC,cq]at hu;rcases hu with rfl|rfl|rfl|rfl|rfl<;>rfl
      case c3=>have:=VF.out.sm;unfold maxLen;omega
      case c4=>have:=VF.out.sm;omega
      intro v' w7 ho hg _ hat;have hJ7:=K4.out v' w7 ho hg (by simpa using hat);go_wp2;exact⟨⟨_,_,hJ7⟩,by rw[hJ7.rd.uZ,zT];omega⟩
  ·rw[if_neg hp];have hb:((bs (part l1)).toList==word)=false:=by rw[fE];simpa using hp
   have HJ:Hid (∀W1 W2 W3 ki nk kc si ns sc,Fr (fun k=>k=R) (w.alloc (.cells eY 146)) W1->RD R t wh n W1 l1->pP W1 (fun b=>(w.alloc (.cells eY 146)).heap.size<=b) 144 146 (.slice ki nk kc) p.kids/\p9 W1 (fun b=>(w.alloc (.cells eY 146)).heap.size<=b) 144 146 (.slice si ns sc) p.steps->W2=W1.alloc (.cells #[.string (bs p.op),.slice ki nk kc,.slice si ns sc,.string (bs p.attr),.string (bs p.text)] 146)->Z5 W2 W3->W3.heap[W1.heap.size]?=some (.cells #[.string (bs p.op),.slice ki nk kc,.slice si ns sc,.string (bs p.attr),.string (bs p.text)] 146 (0,0))/\W3.heap[w.heap.size]?=some (.cells eY 146 (0,0))/\∀W5,Fr (fun k=>k=w.heap.size) W3 W5->PV (fun b=>w.heap.size<=b) 144 146 W5 (.agg #[.string (bs p.op),.slice ki nk kc,.slice si ns sc,.string (bs p.attr),.string (bs p.text)]) p/\RD R t wh n W5 l1/\Fr (fun k=>k=R) w W5):=fun W1 W2 W3 ki nk kc si ns sc f1 rd sv e2 b3=>by
    subst e2;have f2:Fr (fun _=>False) W1 W3:=((Fr.refl _ W1).alloc _).same (Fr.below b3);have hz1:=f1.size;rw[hsz]at hz1;have g1:=(f1.block w.heap.size (by rw[hsz];omega) (by omega)).trans HZ.out;have g3:=(f2.block _ (dS g1) (fun x=>x)).trans g1;refine⟨(b3.block _ (by simp)).trans (dT _ _),g3,fun W5 f5=>?_⟩;have hm:Move (fun b=>(w.alloc (.cells eY 146)).heap.size<=b) (fun b=>w.heap.size<=b) W1 W5:=fun b hb hl=>⟨by rw[hsz]at hb;omega,by rw[hsz]at hb;exact(f5.block b (aq hl f2.size) (by omega)).trans (f2.block b hl (fun x=>x))⟩
    exact⟨⟨_,_,rfl,sv.1.move hm,sv.2.move hm⟩,(rd.fr f2 (fun x=>x)).fr f5 (by omega),((((f0.mono fun _ x=>x.elim).same (f1.mono (G:=fun k=>k=R\/w.heap.size<=k) fun _ x=>Or.inl x)).trans f2 (fun _ _ x=>x.elim)).trans f5 (fun i hi x=>Or.inr (by omega))).restrict (fun k hk x=>by omega)⟩
   have HRA:Hid (∀W1 o1,RD R t wh n W1 l1->RD R t wh n (World.alloc W1 o1) l1):=fun W1 o1 hW=>hW.fr ((Fr.refl (fun _=>False) W1).alloc o1) (fun x=>x);clear hp;generalize bs (part l1)=S at*
   go_enter func200,ntmps200;go_wp2_with fail;refine YK.out.mono ?_;rintro e w2 ⟨v2,rfl,UQ,rQ,lC⟩;obtain⟨ki,nk,kc,si,ns,sc,rfl,UR⟩:=UQ.shape;have SV2:=a_ UR;clear UR UQ;go_wp2_with(first|(go_at_call 135;refine(CA.out _ (HRA.out _ _ rQ)).mono ?_;rintro e w3 ⟨rfl,hb3⟩;obtain⟨K5,py,hJ⟩:=HJ.out _ _ _ _ _ _ _ _ _ lC rQ SV2.out rfl hb3;have HJ0:=a_ hJ;clear hJ;obtain⟨⟨c0,c1,c2,c3,c4⟩,-⟩:=eU K5;obtain⟨⟨d0,d1,d2,d3,d4⟩,g0,g1,g2,g3,g4⟩:=eU py));obtain⟨W5,ld,r5,lD⟩:=pN (.string (bs p.op)) (.slice ki nk kc) (.slice si ns sc) (.string (bs p.attr)) (.string (bs p.text)) py;rw[ld];clear ld c0 c1 c2 c3 c4 g0 g1 g2 g3 g4 d0 d1 d2 d3 d4;obtain⟨⟨k0,k1,k2,k3,k4⟩,-⟩:=eU r5;obtain⟨q1,q2,q3⟩:=HJ0.out _ lD;refine aJ (v:=.agg #[.string (bs p.op),.slice ki nk kc,.slice si ns sc,.string (bs p.attr),.string (bs p.text)]) (by simp[results,results200,go_sem,k0,k1,k2,k3,k4]) rfl ⟨_,rfl,q1,q2,q3⟩
end
section
variable{w w' w1 w2 W0 W2 W4:World}{F G P:Nat->Prop}{R lo:Nat}{t l l':L}{wh n:Nat}{e8:Option (L->Rs gB)}{v v' vp vk vs:Value}{tS tP:TypeId}
structure GX(P:Nat->Prop)(tS tP:TypeId)(w:World)(v:Value)(l:List iV):Prop where
 ex:∃xs:List (iV×Value),xs.map (·.1)=l/\w.ownsRow 0 tS 3 v l.length (ie xs)/\∀x∈xs,pP w (fun b=>P b/\some b≠v.ownBlock) tS tP x.2 x.1.gm
 own:∀k,v.ownBlock=some k->P k
theorem GS.toX{ls:List iV}(h:GS lo tS tP w v ls)(hP:∀b,lo<=b->b<w.heap.size->P b):GX P tS tP w v ls:=by
 obtain⟨xs,h1,h2,h3⟩:=h.ex;exact⟨⟨xs,h1,h2,fun x hx=>(h3 x hx).move fun b ha hl=>⟨⟨hP b ha.1 hl,ha.2⟩,rfl⟩⟩,fun k e=>hP k (h.own k e) (eu h2 e)⟩
theorem GX.lt{ls:List iV}(h:GX P tS tP w v ls){k:Nat}(e:v.ownBlock=some k):k<w.heap.size:=by obtain⟨xs,_,h2,_⟩:=h.ex;exact eu h2 e
theorem GX.fr{ls:List iV}(h:GX P tS tP w v ls)(hf:Fr F w w')(hF:∀k,F k->¬P k):GX P tS tP w' v ls:=by
 obtain⟨xs,h1,h2,h3⟩:=h.ex;have hb:∀b,P b->b<w.heap.size->w'.heap[b]?=w.heap[b]?:=fun b h1 h2=>hf.block b h2 (fun x=>hF b x h1);exact⟨⟨xs,h1,dY h2 fun k e=>hb k (h.own k e) (eu h2 e),fun x hx=>(h3 x hx).move fun b ha hl=>⟨ha,hb b ha.1 hl⟩⟩,h.own⟩
theorem GX.done{ls:List iV}(h:GX P tS tP w v ls)(hn:ls.length<=1000)(hne:ls=[]->v=fo):p9 w P tS tP v (gw.of ls):=by
 obtain⟨xs,h1,h2,h3⟩:=h.ex;unfold p9;rw[gw.vq];obtain⟨ai,cap,rfl⟩:=dU h2;rcases h2.2 with⟨e,e2⟩|⟨g,cap',cur,e1,h0,hg,hr⟩
 ·exact Or.inl ⟨e2,e⟩
 ·cases e1;by_cases hz:ls.length=0
  ·have:=hne (List.length_eq_zero_iff.1 hz);cases this
  refine Or.inr ⟨g,cap,cur,rfl,h.own g rfl,hg,hn,by omega,Cz g ls 0 fun k s hk=>?_⟩;obtain⟨x,hx,rfl⟩:=vr h1 hk;rw[aG];exact⟨iG h2 (jV xs k x 0 _ hx rfl),iG h2 (jV xs k x 1 _ hx rfl),x.2,iG h2 (jV xs k x 2 _ hx rfl),(h3 x (mM hx)).move fun b ha _=>⟨ha.1,rfl⟩⟩
theorem GX.G9{ls:List iV}{s:iV}(h:GX P tS tP W0 v ls)(fr:Fr (fun k=>k=R) W0 W2)(hR:¬P R)(hP:∀b,W0.heap.size<=b->P b)(sv:pP W2 (fun b=>W0.heap.size<=b) tS tP vp s.gm)(o:Obj):
  ∃xs,(W2.alloc o).ownsRow 0 tS 3 v ls.length (ie xs)/\∀v' W4,W4.ownsRow 0 tS 3 v' (ls.length+1) (ie xs++[.bool s.deep,.string (bs s.test),vp])->(W2.alloc o).grownBy W4 v.ownBlock->(v'.ownBlock=v.ownBlock\/v'.ownBlock=some (W2.alloc o).heap.size)->GX P tS tP W4 v' (ls++[s])/\Fr (fun k=>k=R\/P k) W0 W4/\Fr P W2 W4:=by
 have g3:=h.fr (fr.alloc o) fun k e=>e▸hR;obtain⟨xs,x1,x2,x3⟩:=g3.ex;refine⟨xs,x2,fun v' W4 ho hg hat=>⟨⟨⟨xs++[(s,vp)],by rw[bF,x1];rfl,by rw[ax,x8];exact ho,fun x hx=>?_⟩,fun k e=>?_⟩,?_,?_⟩⟩
 ·have hz:=fr.size;have hm:Move (fun b=>P b/\some b≠v.ownBlock) (fun b=>P b/\some b≠v'.ownBlock) (W2.alloc o) W4:=fun b ha hl=>⟨⟨ha.1,by rcases hat with e|e<;>rw[e];exact ha.2;intro x;cases x;omega⟩,hg.block b hl ha.2⟩
  rcases List.mem_append.1 hx with hx|hx
  ·exact(x3 x hx).move hm
  ·obtain rfl:x=(s,vp):=by simpa using hx
   exact(sv.move (A':=fun b=>P b/\some b≠v.ownBlock) (w':=W2.alloc o) fun b hb hl=>⟨⟨hP b hb,fun e=>by have:=h.lt e.symm;omega⟩,ay _ _ _ hl⟩).move hm
 ·rcases hat with x|x
  ·exact h.own k (x▸e)
  ·rw[x]at e;cases e;exact hP _ (by have:=fr.size;simp;omega)
 ·exact((fr.alloc o).mono fun k e=>Or.inl e).same ⟨hg.os,hg.tape,hg.output,hg.size,fun k hk hf=>hg.block k hk (fun e=>hf (Or.inr (h.own k e.symm)))⟩
 ·exact((Fr.refl _ W2).alloc o).same ⟨hg.os,hg.tape,hg.output,hg.size,fun k hk hf=>hg.block k hk (fun e=>hf (h.own k e.symm))⟩
theorem GX.last{ls:List iV}{s:iV}(h:GX P tS tP w v (ls++[s])):∃g cap,v=Z9 g (ls.length+1) cap/\w.cell? ⟨g,ls.length*3+1,none⟩=some (.string (bs s.test)):=by
 obtain⟨xs,h1,h2,h3⟩:=h.ex;rw[ax]at h2;obtain⟨g,cap,rfl⟩:=qa h2;obtain⟨x,hx,rfl⟩:=vr (k:=ls.length) (s:=s) h1 (by simp);exact⟨g,cap,rfl,iG h2 (jV xs _ x 1 _ hx rfl)⟩
end
section
variable{w w' w1 w2 W0 W1 W2 W3 W4 WO wr W:World}{F G:Nat->Prop}{R lo Bp:Nat}{t l l':L}{wh n:Nat}{e8:Option (L->Rs gB)}{v v' vp vk vs:Value}{X:Rs gB}
theorem vv(d:Bool)(te:ByteArray)(vi:Option Addr)(vn vc:Nat):∀u∈[Value.bool d,.string te,.slice vi vn vc],u.oneCell'=true:=by
 intro u hu;simp only[bN,bC,cq]at hu;rcases hu with rfl|rfl|rfl<;>rfl
def AL(w:World)(Bp b:Nat):Prop:=w.heap.size+1<=b/\b≠Bp
abbrev s5(v:Value)(a:ByteArray):Array Value:=#[.string ⟨#[]⟩,.slice none 0 0,v,.string a,.string ⟨#[]⟩]
structure VI(R:Nat)(t:L)(wh n:Nat)(e8:Option (L->Rs gB))(w:World)(Bp:Nat)(X:Rs gB)(wr:World)(v:Value)(ls:List iV)(s:iV)(lc:L):Prop where
 rd:RD R t wh n wr lc
 bp:wr.heap[Bp]?=some (.cells (s5 v ⟨#[]⟩) 146 (0,0))
 bq:wr.heap[w.heap.size]?=some (.cells eY 146 (0,0))
 gx:GX (AL w Bp) 144 146 wr v (ls++[s])
 fr:Fr (fun k=>k=R\/w.heap.size<=k) w wr
 eq:∃fu,lc.length<fu/\X=thn (kI (eo t wh) e8 fu s lc) fun x l=> .ok (⟨[],.nil,gw.of (ls++s::x.1),x.2,[]⟩,l)
 sm:ls.length+1+lc.length<=501
 lt:R<w.heap.size
 lp:w.heap.size<Bp
variable{ls:List iV}{s:iV}{lc:L}
theorem VI.stop(h:VI R t wh n e8 w Bp X wr v ls s lc)(hg:fk s lc=false):X=.ok (⟨[],.nil,gw.of (ls++[s]),[],[]⟩,lc):=by
 obtain⟨fu,e1,e2⟩:=h.eq;rw[e2];cases fu with
 |zero=>omega
 |succ fu=>rw[kI,if_neg (by rw[hg];simp)];rfl
theorem VI.go(h:VI R t wh n e8 w Bp X wr v ls s lc)(hg:fk s lc=true):
  (∀y,im (eo t wh) lc=.error y->X=.error y)/\∀d l1,im (eo t wh) lc=.ok (d,l1)->l1.length<lc.length/\
   (d=false/\part l1=[64]->(∀y,attr (eo t wh) l1=.error y->X=.error y)/\∀a l2,attr (eo t wh) l1=.ok (a,l2)->X=.ok (⟨[],.nil,gw.of (ls++[s]),a,[]⟩,l2))/\
   (¬(d=false/\part l1=[64])->(∀y,step (eo t wh) e8 d l1=.error y->X=.error y)/\
   ∀s' l2,step (eo t wh) e8 d l1=.ok (s',l2)->l2<:+l1->∃fu,l2.length<fu/\X=thn (kI (eo t wh) e8 fu s' l2) fun x l=> .ok (⟨[],.nil,gw.of ((ls++[s])++s'::x.1),x.2,[]⟩,l)):=by
 obtain⟨fu,e1,e2⟩:=h.eq;cases fu with
 |zero=>omega
 |succ fu=>
  rw[kI,if_pos hg]at e2;refine⟨fun y hy=>by rw[e2,hy];rfl,fun d l1 hy=>⟨pX hy,fun hc=>?_,fun hc=>?_⟩⟩
  ·rw[hy]at e2;simp only[iL]at e2;rw[if_pos hc]at e2;exact⟨fun y hz=>by rw[e2,hz];rfl,fun a l2 hz=>by rw[e2,hz];rfl⟩
  ·rw[hy]at e2;simp only[iL]at e2;rw[if_neg hc]at e2;refine⟨fun y hz=>by rw[e2,hz];rfl,fun s' l2 hz hs=>⟨fu,by have:=hs.length_le;have:=pX hy;omega,?_⟩⟩;rw[e2,hz];simp only[iL];cases kI (eo t wh) e8 fu s' l2 with
   |error y=>rfl
   |ok z=>obtain⟨⟨za,zb⟩,zc⟩:=z;simp only[iL,aV,aZ,bI]
theorem VI.parts(h:VI R t wh n e8 w Bp X wr v ls s lc)(f:Fr (fun k=>k=R) wr W){l1:L}(rd:RD R t wh n W l1):RD R t wh n W l1/\W.heap[Bp]?=some (.cells (s5 v ⟨#[]⟩) 146 (0,0))/\W.heap[w.heap.size]?=some (.cells eY 146 (0,0))/\GX (AL w Bp) 144 146 W v (ls++[s])/\Fr (fun k=>k=R\/w.heap.size<=k) w W:=by
 have hlt:=h.lt;have XU:=h.lp;exact⟨rd,(f.block _ (dS h.bp) (by omega)).trans h.bp,(f.block _ (dS h.bq) (by omega)).trans h.bq,h.gx.fr f (fun k e x=>by unfold AL at x;omega),h.fr.trans f (fun _ _ x=>Or.inl x)⟩
theorem JW{W5:World}{g cap:Nat}{s':iV}{l4:L}{vi:Option Addr}{vc:Nat}(h0:VI R t wh n e8 w Bp X wr (Z9 g (ls.length+1) cap) ls s lc)(hR:R<w.heap.size)(f1:Fr (fun _=>False) W5 W1)(f3:Fr (fun k=>k=R) W1 W3)(rd:RD R t wh n W3 l4)(sp:pP W3 (fun b=>W1.heap.size<=b) 144 146 (.slice vi s'.gm.len vc) s'.gm)
  (AO:W5.heap[Bp]?=some (.cells (s5 (Z9 g (ls.length+1) cap) ⟨#[]⟩) 146 (0,0))) (zW:W5.heap[w.heap.size]?=some (.cells eY 146 (0,0))) (Oj:GX (AL w Bp) 144 146 W5 (Z9 g (ls.length+1) cap) (ls++[s])) (lD:Fr (fun k=>k=R\/w.heap.size<=k) w W5)
  (Ec:∃fu,l4.length<fu/\X=thn (kI (eo t wh) e8 fu s' l4) fun x l=> .ok (⟨[],.nil,gw.of ((ls++[s])++s'::x.1),x.2,[]⟩,l)) (hlt:l4.length<lc.length):
  ∃xs,(W3.alloc (.cells #[.bool s'.deep,.string (bs s'.test),.slice vi s'.gm.len vc] 144)).ownsRow 0 144 3 (Z9 g (ls.length+1) cap) (ls.length+1) (ie xs)/\∀v' W4,W4.ownsRow 0 144 3 v' (ls.length+1+1) (ie xs++[.bool s'.deep,.string (bs s'.test),.slice vi s'.gm.len vc])->(W3.alloc (.cells #[.bool s'.deep,.string (bs s'.test),.slice vi s'.gm.len vc] 144)).grownBy W4 (Z9 g (ls.length+1) cap).ownBlock->(v'.ownBlock=(Z9 g (ls.length+1) cap).ownBlock\/v'.ownBlock=some (W3.heap.size+1))->W4.heap[Bp]?=some (.cells (s5 (Z9 g (ls.length+1) cap) ⟨#[]⟩) 146 (0,0))/\VI R t wh n e8 w Bp X (W4.setCell ⟨Bp,2,none⟩ v') v' (ls++[s]) s' l4:=by
 have XU:=h0.lp;have hBl:=dS AO;have bp1:=(f1.block _ hBl (fun x=>x)).trans AO;have SB:=(f1.block _ (dS zW) (fun x=>x)).trans zW;have hB1:=dS bp1;have gx1:=Oj.fr f1 (fun _ x=>x.elim);obtain⟨xs,x1,x2⟩:=gx1.G9 f3 (by unfold AL;omega) (fun b hb=>by unfold AL;omega) sp (.cells #[.bool s'.deep,.string (bs s'.test),.slice vi s'.gm.len vc] 144);rw[ax]at x1 x2;refine⟨xs,x1,fun v' W4 ho hg hat=>?_⟩;obtain⟨g1,g2,g3⟩:=x2 v' W4 ho hg (by simpa using hat);have US:=(g2.block _ hB1 (by unfold AL;omega)).trans bp1;have XT:=(g2.block _ (dS SB) (by unfold AL;omega)).trans SB;refine⟨US,?_⟩;have f5:Fr (fun k=>k=Bp) W4 (W4.setCell ⟨Bp,2,none⟩ v'):=(Fr.refl (fun k=>k=Bp) W4).set ⟨Bp,2,none⟩ v' (fun _=>rfl);exact⟨(rd.fr g3 (by unfold AL;omega)).fr f5 (by omega),ej US _,(f5.block _ (dS XT) (by omega)).trans XT,g1.fr f5 (fun k e x=>x.2 e),((lD.trans f1 (fun _ _ x=>x.elim)).trans g2 (fun i hi x=>by unfold AL at x;omega)).trans f5 (fun i hi x=>by omega),Ec,by have:=h0.sm;simp;omega,hR,XU⟩
theorem Ol{a:L}{l1:L}{W5:World}(hR:R<w.heap.size)(XU:w.heap.size<Bp)(hsm:ls.length<=500)(rd:RD R t wh n W l1)(gx:GX (AL w Bp) 144 146 W v (ls++[s]))(fr:Fr (fun k=>k=R\/w.heap.size<=k) w W)(f5:Fr (fun k=>k=w.heap.size\/k=Bp) W W5):
  PV (fun b=>w.heap.size<=b) 144 146 W5 (.agg #[.string ⟨#[]⟩,.slice none 0 0,v,.string (bs a),.string ⟨#[]⟩]) ⟨[],.nil,gw.of (ls++[s]),a,[]⟩/\RD R t wh n W5 l1/\Fr (fun k=>k=R) w W5:=by
 have g:=(gx.fr f5 (fun k e x=>by unfold AL at x;omega)).done (by simp;omega) (fun e=>by simp at e);exact⟨⟨_,_,rfl,Or.inl ⟨rfl,rfl⟩,g.move fun b hb _=>⟨by unfold AL at hb;omega,rfl⟩⟩,rd.fr f5 (by omega),(fr.trans f5 (fun i hi x=>by omega)).restrict (fun k hk x=>by omega)⟩
theorem VI.Om(h:VI R t wh n e8 w Bp X wr v [] s lc):∃g cap ls s lc,VI R t wh n e8 w Bp X wr (Z9 g (List.length ls+1) cap) ls s lc:=by
 obtain⟨g,cap,rfl,_⟩:=h.gx.last;exact⟨g,cap,[],s,lc,h⟩
theorem AP(d:Bool)(hi:qc R t wh n e8)(h:RD R t wh n w l):Z4 226 #[ptr R,.bool d] w (Ends R t wh n (PV (fun b=>w.heap.size<=b) 144 146) w (oP (eo t wh) e8 d l)):=by
 have hR:=h.lt;have h5:l.length<=500:=by have:=h.le;have:=h.tw;have:=h.Cv;omega
 have f0:Fr (fun _=>False) w (w.alloc (.cells eY 146)):=(Fr.refl _ w).alloc _;have HST:=a_ (oU d hi (h.fr f0 (fun x=>x)));have HZ:Hid ((w.alloc (.cells eY 146)).heap[w.heap.size]?=some (.cells eY 146 (0,0))):=dT _ _;have hsz:(w.alloc (.cells eY 146)).heap.size=w.heap.size+1:=by simp
 unfold oP;cases hx:step (eo t wh) e8 d l with
 |error y=>
  rw[hx]at HST;simp only[oV];clear hx h;go_enter func226,ntmps226;go_wp2_with(first|(go_at_call 132;refine HST.out.mono ?_;rintro e w2 ⟨rfl,fr⟩));exact⟨rfl,rfl,(f0.mono fun _ x=>x.elim).same fr⟩
 |ok z=>
  obtain⟨s0,l1⟩:=z;rw[hx]at HST;have t_:=(kJ hi.wZ d l s0 l1 hx).length_le;simp only[iL];clear hx h;obtain⟨X,hX⟩:∃X,(thn (kI (eo t wh) e8 (l1.length+1) s0 l1) fun x l=>(.ok (⟨[],.nil,gw.of (s0::x.1),x.2,[]⟩,l):Rs gB))=X:=⟨_,rfl⟩
  rw[hX];have HV0:Hid (∀W1 v,Fr (fun k=>k=R) (w.alloc (.cells eY 146)) W1->RD R t wh n W1 l1->SV (fun b=>(w.alloc (.cells eY 146)).heap.size<=b) 144 146 W1 v s0->∃te vi vn vc,v=.agg #[.bool s0.deep,.string te,.slice vi vn vc]/\VI R t wh n e8 w (W1.heap.size+1) X ((W1.alloc (.cells #[.bool s0.deep,.string te,.slice vi vn vc] 144)).alloc (.cells (s5 (.slice (some ⟨W1.heap.size,0,none⟩) 1 1) ⟨#[]⟩) 146)) (.slice (some ⟨W1.heap.size,0,none⟩) 1 1) [] s0 l1):=fun W1 v f1 rd sv=>by
   obtain⟨vp,rfl,sp⟩:=sv;obtain⟨vi,vc,rfl⟩:=sl.shape sp;refine⟨_,vi,_,vc,rfl,?_⟩;have hz1:=f1.size;rw[hsz]at hz1;rw[hsz]at sp;have g1:=(f1.block w.heap.size (by rw[hsz];omega) (by omega)).trans HZ.out;have gs:=GS.first (lo:=w.heap.size+1) (s:=s0) hz1 sp;have fa:Fr (fun _=>False) W1 (W1.alloc (.cells #[.bool s0.deep,.string (bs s0.test),.slice vi s0.gm.len vc] 144)):=(Fr.refl _ W1).alloc _;have fb:=fa.alloc (.cells (s5 (.slice (some ⟨W1.heap.size,0,none⟩) 1 1) ⟨#[]⟩) 146);have fb2:Fr (fun _=>False) (W1.alloc (.cells #[.bool s0.deep,.string (bs s0.test),.slice vi s0.gm.len vc] 144)) ((W1.alloc (.cells #[.bool s0.deep,.string (bs s0.test),.slice vi s0.gm.len vc] 144)).alloc (.cells (s5 (.slice (some ⟨W1.heap.size,0,none⟩) 1 1) ⟨#[]⟩) 146)):=(Fr.refl _ _).alloc _;have gx:=(gs.toX (P:=AL w (W1.heap.size+1)) (fun b hb hl=>⟨hb,by simp at hl;omega⟩)).fr fb2 (fun _ x=>x.elim);have nb:=dT (W1.alloc (.cells #[.bool s0.deep,.string (bs s0.test),.slice vi s0.gm.len vc] 144)) (.cells (s5 (.slice (some ⟨W1.heap.size,0,none⟩) 1 1) ⟨#[]⟩) 146);exact⟨rd.fr fb (fun x=>x),by simpa using nb,(fb.block _ (dS g1) (fun x=>x)).trans g1,gx,((f0.mono fun _ x=>x.elim).same (f1.mono (G:=fun k=>k=R\/w.heap.size<=k) fun _ x=>Or.inl x)).trans fb (fun _ _ x=>x.elim),⟨l1.length+1,by omega,by rw[<-hX];rfl⟩,by simp;omega,hR,by omega⟩
  have HI:=a_ hi;clear hX hi;obtain⟨i0,hi,hz0,hz1,hz2⟩:=aY Oa;have YF:∀(x:Bool) (w:World),(Op.unary .not (.bool x)).run prog w=.ok (.bool (!x)) w:=fun _ _=>rfl;go_enter func226,ntmps226;go_wp2_with(first|(go_at_call 132;refine HST.out.mono ?_;rintro e w2 ⟨v2,rfl,UR,rQ,lC⟩;obtain⟨te,vi,vn,vc,rfl,hV⟩:=HV0.out _ _ lC rQ UR;have HV:=a_ hV;clear hV UR));clear rQ lC;generalize hBp:w2.heap.size+1=Bp at*
  generalize (Value.slice (some ⟨w2.heap.size,0,none⟩) 1 1)=V0 at*
  generalize (World.alloc (World.alloc w2 _) _)=WS at*
  go_loopw [6,12,13,14,15,16,17,18,19,20,21,22,23,24,25,26,27,28,29,30,31,32,33,34,35] (fun _ _ _ _ _ _ _ _ _ _ _ _ _ _ _ _ _ _ _ _ _ _ _ _ _ wr=>∃g cap ls s lc,VI R t wh n e8 w Bp X wr (Z9 g (List.length ls+1) cap) ls s lc) (fun _ _ _ _ _ _ _ _ _ _ _ _ _ _ _ _ _ _ _ _ _ _ _ _ _ wr=>uZ R t wr)
  case atStart=>exact HV.out.Om
  case round=>
   rename World=>WO
   obtain⟨g,cap,ls,s,lc,hV⟩:=hrel;have zT:uZ R t WO=lc.length:=hV.rd.uZ;have K7:=a_ hV;have hsm:=hV.sm;have XU:=hV.lp;have c0:=cell_of (i:=2) hV.bp rfl;obtain⟨g1,aaE,hv1,hc1⟩:=hV.gx.last;obtain⟨YN,YO⟩:g=g1/\cap=aaE:=by simpa using hv1
   subst YN;subst YO;have HG:=a_ (AJ (cap:=cap) hV.rd hc1 (by omega));obtain⟨bg,hbg⟩:∃b,fk s lc=b:=⟨_,rfl⟩
   rw[hbg]at HG;clear hv1 hc1;cases bg with
   |false=>
    have hX:=hV.stop hbg;subst hX;clear hV hbg;have HE:Hid (∀W,Z5 WO W->RD R t wh n W lc/\W.heap[Bp]?=some (.cells (s5 (Z9 g (ls.length+1) cap) ⟨#[]⟩) 146 (0,0))/\W.heap[w.heap.size]?=some (.cells eY 146 (0,0))/\GX (AL w Bp) 144 146 W (Z9 g (ls.length+1) cap) (ls++[s])/\Fr (fun k=>k=R\/w.heap.size<=k) w W):=fun W hW=>K7.out.parts (Fr.below hW) (K7.out.rd.below hW);go_wp2_with(first|(go_at_call 134;refine HG.out.mono ?_;rintro e w4 ⟨rfl,hb4⟩;obtain⟨ji,US,zW,gx4,iD⟩:=HE.out _ hb4;obtain⟨⟨x0,x1,x2,x3,x4⟩,-⟩:=eU US;obtain⟨⟨y0,y1,y2,y3,y4⟩,z0,z1,z2,z3,z4⟩:=eU zW));have ue:Hid (∀W5,Fr (fun k=>k=w.heap.size) w4 W5->PV (fun b=>w.heap.size<=b) 144 146 W5 (.agg #[.string ⟨#[]⟩,.slice none 0 0,Z9 g (ls.length+1) cap,.string ⟨#[]⟩,.string ⟨#[]⟩]) ⟨[],.nil,gw.of (ls++[s]),[],[]⟩/\RD R t wh n W5 lc/\Fr (fun k=>k=R) w W5):=fun W5 f=>Ol (a:=[]) hR XU (by omega) ji gx4 iD (f.mono fun k e=>Or.inl e);clear x0 x1 x2 x3 x4 y0 y1 y2 y3 y4 z0 z1 z2 z3 z4;obtain⟨W5,ld,r5,kE⟩:=pN (.string ⟨#[]⟩) (.slice none 0 0) (Z9 g (ls.length+1) cap) (.string ⟨#[]⟩) (.string ⟨#[]⟩) zW;rw[ld];clear ld;obtain⟨⟨k0,k1,k2,k3,k4⟩,-⟩:=eU r5;obtain⟨q1,q2,q3⟩:=ue.out _ kE;refine aJ (v:=.agg #[.string ⟨#[]⟩,.slice none 0 0,Z9 g (ls.length+1) cap,.string ⟨#[]⟩,.string ⟨#[]⟩]) (by simp[results,results226,go_sem,k0,k1,k2,k3,k4]) rfl ⟨_,rfl,q1,q2,q3⟩
   |true=>
    have hgo:=hV.go hbg;have sZ:Hid (∀W,RD R t wh n W lc->Z4 133 #[ptr R] W (Ends R t wh n VB W (im (eo t wh) lc))):=fun W hW=>p8 hW;clear hV hbg;cases hs1:im (eo t wh) lc with
    |error y=>
     have hX:=hgo.1 y hs1;subst hX;rw[hs1]at sZ;clear hs1 hgo;go_wp2_with(first|(go_at_call 134;refine HG.out.mono ?_;rintro e w4 ⟨rfl,hb4⟩;have ji:=K7.out.rd.below hb4)|(go_at_call 133;refine(sZ.out _ ji).mono ?_;rintro e w5 ⟨rfl,lD⟩));exact⟨rfl,rfl,((K7.out.fr.on hb4).trans lD (fun i hi x=>Or.inl x)).restrict (fun k hk x=>by omega)⟩
    |ok z=>
     obtain⟨d1,l3⟩:=z;obtain⟨aaD,hgA,XV⟩:=hgo.2 d1 l3 hs1;rw[hs1]at sZ;clear hs1 hgo;have XW:Hid (∀W4 W5,Z5 WO W4->Fr (fun k=>k=R) W4 W5->RD R t wh n W5 l3->RD R t wh n W5 l3/\W5.heap[Bp]?=some (.cells (s5 (Z9 g (ls.length+1) cap) ⟨#[]⟩) 146 (0,0))/\W5.heap[w.heap.size]?=some (.cells eY 146 (0,0))/\GX (AL w Bp) 144 146 W5 (Z9 g (ls.length+1) cap) (ls++[s])/\Fr (fun k=>k=R\/w.heap.size<=k) w W5):=fun W4 W5 b4 f5 rd=>K7.out.parts ((Fr.below b4).same f5) rd;have HS6:Hid (∀W5 W6,(RD R t wh n W5 l3/\W5.heap[Bp]?=some (.cells (s5 (Z9 g (ls.length+1) cap) ⟨#[]⟩) 146 (0,0))/\W5.heap[w.heap.size]?=some (.cells eY 146 (0,0))/\GX (AL w Bp) 144 146 W5 (Z9 g (ls.length+1) cap) (ls++[s])/\Fr (fun k=>k=R\/w.heap.size<=k) w W5)->Z5 W5 W6->RD R t wh n W6 l3/\W6.heap[Bp]?=some (.cells (s5 (Z9 g (ls.length+1) cap) ⟨#[]⟩) 146 (0,0))/\W6.heap[w.heap.size]?=some (.cells eY 146 (0,0))/\GX (AL w Bp) 144 146 W6 (Z9 g (ls.length+1) cap) (ls++[s])/\Fr (fun k=>k=R\/w.heap.size<=k) w W6):=fun W5 W6 h b=>⟨h.1.below b,(b.block _ (dS h.2.1)).trans h.2.1,(b.block _ (dS h.2.2.1)).trans h.2.2.1,h.2.2.2.1.fr (Fr.below (F:=fun _=>False) b) (fun _ x=>x.elim),h.2.2.2.2.on b⟩
     have CA:Hid (∀W,RD R t wh n W l3->Z4 135 #[ptr R] W (Z7 (.string (bs (part l3))) W)):=fun W hW=>jD hW;by_cases hat:d1=false/\part l3=[64]
     ·obtain⟨SC,YP⟩:=hgA hat;have hq:((bs (part l3)).toList==[64])=true:=by rw[fE,hat.2];rfl
      have hd1:=hat.1;subst hd1;generalize bs (part l3)=S at*
      clear hgA XV hat;have rT:Hid (∀W,RD R t wh n W l3->Z4 225 #[ptr R] W (Ends R t wh n VS W (attr (eo t wh) l3))):=fun W hW=>JS hW;cases ha:attr (eo t wh) l3 with
      |error y=>
       have hX:=SC y ha;subst hX;rw[ha]at rT;clear ha SC YP;go_wp2_with(first|(go_at_call 134;refine HG.out.mono ?_;rintro e w4 ⟨rfl,hb4⟩;have ji:=K7.out.rd.below hb4)|(go_at_call 133;refine(sZ.out _ ji).mono ?_;rintro e w5 ⟨v5,rfl,rfl,rR,lD⟩;have hs5:=XW.out _ _ hb4 lD rR)|(go_at_call 135;refine(CA.out _ hs5.1).mono ?_;rintro e On ⟨rfl,ma⟩;have SD:=HS6.out _ _ hs5 ma)|(go_at_call 225;refine(rT.out _ SD.1).mono ?_;rintro e w7 ⟨rfl,fr7⟩));exact⟨rfl,rfl,(SD.2.2.2.2.trans fr7 (fun i hi x=>Or.inl x)).restrict (fun k hk x=>by omega)⟩
      |ok z=>
       obtain⟨a,l4⟩:=z;have hX:=YP a l4 ha;subst hX;rw[ha]at rT;clear ha SC YP;have HS7:Hid (∀W6 W7,(RD R t wh n W6 l3/\W6.heap[Bp]?=some (.cells (s5 (Z9 g (ls.length+1) cap) ⟨#[]⟩) 146 (0,0))/\W6.heap[w.heap.size]?=some (.cells eY 146 (0,0))/\GX (AL w Bp) 144 146 W6 (Z9 g (ls.length+1) cap) (ls++[s])/\Fr (fun k=>k=R\/w.heap.size<=k) w W6)->Fr (fun k=>k=R) W6 W7->RD R t wh n W7 l4->W7.heap[Bp]?=some (.cells (s5 (Z9 g (ls.length+1) cap) ⟨#[]⟩) 146 (0,0))/\W7.heap[w.heap.size]?=some (.cells eY 146 (0,0))/\(W7.setCell ⟨Bp,3,none⟩ (.string (bs a))).heap[Bp]?=some (.cells (s5 (Z9 g (ls.length+1) cap) (bs a)) 146 (0,0))/\(W7.setCell ⟨Bp,3,none⟩ (.string (bs a))).heap[w.heap.size]?=some (.cells eY 146 (0,0))/\∀W8,Fr (fun k=>k=w.heap.size) (W7.setCell ⟨Bp,3,none⟩ (.string (bs a))) W8->PV (fun b=>w.heap.size<=b) 144 146 W8 (.agg #[.string ⟨#[]⟩,.slice none 0 0,Z9 g (ls.length+1) cap,.string (bs a),.string ⟨#[]⟩]) ⟨[],.nil,gw.of (ls++[s]),a,[]⟩/\RD R t wh n W8 l4/\Fr (fun k=>k=R) w W8):=fun W6 W7 h6 f7 rd7=>by
        have b7:=(f7.block _ (dS h6.2.1) (by omega)).trans h6.2.1;have q7:=(f7.block _ (dS h6.2.2.1) (by omega)).trans h6.2.2.1;have fs:Fr (fun k=>k=w.heap.size\/k=Bp) W7 (W7.setCell ⟨Bp,3,none⟩ (.string (bs a))):=(Fr.refl (fun k=>k=w.heap.size\/k=Bp) W7).set ⟨Bp,3,none⟩ (.string (bs a)) (fun _=>Or.inr rfl);refine⟨b7,q7,ej b7 _,(ak W7 ⟨Bp,3,none⟩ (.string (bs a)) w.heap.size (show w.heap.size≠Bp by omega)).trans q7,fun W8 f8=>?_⟩;exact Ol hR XU (by omega) rd7 (h6.2.2.2.1.fr f7 (fun k e x=>by unfold AL at x;omega)) (h6.2.2.2.2.trans f7 (fun _ _ x=>Or.inl x)) (fs.same (f8.mono fun k e=>Or.inl e))
       go_wp2_with(first|(go_at_call 134;refine HG.out.mono ?_;rintro e w4 ⟨rfl,hb4⟩;have ji:=K7.out.rd.below hb4)|(go_at_call 133;refine(sZ.out _ ji).mono ?_;rintro e w5 ⟨v5,rfl,rfl,rR,lD⟩;have hs5:=XW.out _ _ hb4 lD rR)|(go_at_call 135;refine(CA.out _ hs5.1).mono ?_;rintro e On ⟨rfl,ma⟩;have SD:=HS6.out _ _ hs5 ma)|(go_at_call 225;refine(rT.out _ SD.1).mono ?_;rintro e w7 ⟨v7,rfl,rfl,rd7,fr7⟩;obtain⟨bp7,bq7,bp8,zW,hfn⟩:=HS7.out _ _ SD fr7 rd7;have ue:=a_ hfn;clear hfn;obtain⟨⟨x0,x1,x2,x3,x4⟩,u0,u1,u2,u3,u4⟩:=eU bp7;obtain⟨⟨a0,a1,a2,a3,a4⟩,-⟩:=eU bp8;obtain⟨⟨y0,y1,y2,y3,y4⟩,z0,z1,z2,z3,z4⟩:=eU zW));clear x0 x1 x2 x3 x4 y0 y1 y2 y3 y4 z0 z1 z2 z3 z4 u0 u1 u2 u3 u4 a0 a1 a2 a3 a4;obtain⟨W5,ld,r5,kE⟩:=pN (.string ⟨#[]⟩) (.slice none 0 0) (Z9 g (ls.length+1) cap) (.string (bs a)) (.string ⟨#[]⟩) zW;rw[ld];clear ld;obtain⟨⟨k0,k1,k2,k3,k4⟩,-⟩:=eU r5;obtain⟨q1,q2,q3⟩:=ue.out _ kE;refine aJ (v:=.agg #[.string ⟨#[]⟩,.slice none 0 0,Z9 g (ls.length+1) cap,.string (bs a),.string ⟨#[]⟩]) (by simp[results,results226,go_sem,k0,k1,k2,k3,k4]) rfl ⟨_,rfl,q1,q2,q3⟩
     ·obtain⟨zU,zV⟩:=XV hat;clear hgA XV;cases d1 with
      |true=>
       clear hat CA;cases hs2:step (eo t wh) e8 true l3 with
       |error y=>
        have hX:=zU y hs2;subst hX;clear zU zV;go_wp2_with(first|(go_at_call 134;refine HG.out.mono ?_;rintro e w4 ⟨rfl,hb4⟩;have ji:=K7.out.rd.below hb4)|(go_at_call 133;refine(sZ.out _ ji).mono ?_;rintro e w5 ⟨v5,rfl,rfl,rR,lD⟩;have hs5:=XW.out _ _ hb4 lD rR));obtain⟨ye,AO,zW,Oj,yf⟩:=hs5;have Oo:Hid (∀W,Fr (fun _=>False) w5 W->W.cell? ⟨Bp,2,none⟩=some (Z9 g (ls.length+1) cap)):=fun W hW=>cell_of ((hW.block Bp (dS AO) (fun x=>x)).trans AO) rfl;have rS:Hid (∀W,Fr (fun _=>False) w5 W->Z4 132 #[ptr R,.bool true] W (Ends R t wh n (SV (fun b=>W.heap.size<=b) 144 146) W (.error y))):=fun W hW=>by rw[<-hs2];exact oU true HI.out (ye.fr hW (fun x=>x))
        have YQ:Hid (∀W W',Fr (fun _=>False) w5 W->Fr (fun k=>k=R) W W'->Fr (fun k=>k=R) w W'):=fun W W' f1 f2=>((yf.trans f1 (fun _ _ x=>x.elim)).trans f2 (fun _ _ x=>Or.inl x)).restrict (fun k hk x=>by omega);clear hs2 ye AO zW Oj yf;generalize w5=W5 at*
        have yg:Fr (fun _=>False) W5 W5.drew:=(Fr.refl _ W5).drewN 1;refine wp_region_held_drew (S:=fun _=>True) (by kernel_rfl) trivial (fun hHeld=>?_);generalize W5.drew=W5d at*
        have fr:=yg;clear yg;refine wpAnyH_take (i:=0) (v:=?_) rfl (by kernel_rfl) (by kernel_rfl) (by kernel_rfl) (fun _ _ _ h=>h) (Or.inl ⟨by rfl,?_⟩) (by assumption) ?_
        rotate_left
        ·(intro w hSw;(try dsimp only at hSw);go_simp;(try with_reducible rfl))
        (try simp only[Act.put,ae,af,aj])
        refine wpAnyH_take (i:=2) (v:=?_) rfl (by kernel_rfl) (by kernel_rfl) (by kernel_rfl) (fun _ _ _ h=>h) (Or.inl ⟨by rfl,?_⟩) (by assumption) ?_
        rotate_left
        ·(intro w hSw;(try dsimp only at hSw);go_simp;(try with_reducible rfl))
        (try simp only[Act.put,ae,af,aj])
        refine wpAnyH_take (i:=3) (v:=?_) rfl (by kernel_rfl) (by kernel_rfl) (by kernel_rfl) (fun _ _ _ h=>h) (Or.inl ⟨by rfl,?_⟩) (by assumption) ?_
        rotate_left
        ·(intro w hSw;(try dsimp only at hSw);go_simp;(try with_reducible rfl))
        (try simp only[Act.put,ae,af,aj])
        refine wpAnyH_ready (rs:=[1,4]) (by kernel_rfl) (by simp) ?_;refine AllReadyH.cons rfl (fun K hK=>?_) (AllReadyH.cons rfl (fun K hK=>?_) AllReadyH.nil);have ud:=Oo.out _ fr
        go_simp
        refine hK.out _ _ trivial (fun hHeld=>?_);clear hK K ud
        (try simp only[Act.put,ae,af,aj])
        refine wpAnyH_ready (rs:=[4]) (by kernel_rfl) (by simp) ?_;refine AllReadyH.cons rfl (fun K hK=>?_) AllReadyH.nil;have hcc:=rS.out _ fr
        go_simp
        refine hcc.mono ?_;rintro e w6 ⟨rfl,vt⟩;exact⟨rfl,rfl,YQ.out _ _ fr vt⟩;have hcc:=rS.out _ fr
        go_simp
        refine hcc.mono ?_;rintro e w6 ⟨rfl,vt⟩;exact⟨rfl,rfl,YQ.out _ _ fr vt⟩
       |ok z=>
        obtain⟨s',l4⟩:=z;have RT:=kJ HI.out.wZ true l3 s' l4 hs2;have hl4:=RT.length_le;have G8:=a_ (zV s' l4 hs2 RT);clear zU zV;go_wp2_with(first|(go_at_call 134;refine HG.out.mono ?_;rintro e w4 ⟨rfl,hb4⟩;have ji:=K7.out.rd.below hb4)|(go_at_call 133;refine(sZ.out _ ji).mono ?_;rintro e w5 ⟨v5,rfl,rfl,rR,lD⟩;have hs5:=XW.out _ _ hb4 lD rR));obtain⟨ye,AO,zW,Oj,yf⟩:=hs5;have Oo:Hid (∀W,Fr (fun k=>k=R) w5 W->W.cell? ⟨Bp,2,none⟩=some (Z9 g (ls.length+1) cap)):=fun W hW=>cell_of ((hW.block Bp (dS AO) (by omega)).trans AO) rfl;have rS:Hid (∀W,Fr (fun _=>False) w5 W->Z4 132 #[ptr R,.bool true] W (Ends R t wh n (SV (fun b=>W.heap.size<=b) 144 146) W (.ok (s',l4)))):=fun W hW=>by rw[<-hs2];exact oU true HI.out (ye.fr hW (fun x=>x))
        have qd:Hid (∀W1 W3 v,Fr (fun _=>False) w5 W1->Fr (fun k=>k=R) W1 W3->RD R t wh n W3 l4->SV (fun b=>W1.heap.size<=b) 144 146 W3 v s'->∃te vi vn vc,v=.agg #[.bool s'.deep,.string te,.slice vi vn vc]/\Hid (∃xs,(W3.alloc (.cells #[.bool s'.deep,.string te,.slice vi vn vc] 144)).ownsRow 0 144 3 (Z9 g (ls.length+1) cap) (ls.length+1) (ie xs)/\∀v' W4,W4.ownsRow 0 144 3 v' (ls.length+1+1) (ie xs++[.bool s'.deep,.string te,.slice vi vn vc])->(W3.alloc (.cells #[.bool s'.deep,.string te,.slice vi vn vc] 144)).grownBy W4 (Z9 g (ls.length+1) cap).ownBlock->(v'.ownBlock=(Z9 g (ls.length+1) cap).ownBlock\/v'.ownBlock=some (W3.heap.size+1))->W4.heap[Bp]?=some (.cells #[.string ⟨#[]⟩,.slice none 0 0,Z9 g (ls.length+1) cap,.string ⟨#[]⟩,.string ⟨#[]⟩] 146 (0,0))/\VI R t wh n e8 w Bp X (W4.setCell ⟨Bp,2,none⟩ v') v' (ls++[s]) s' l4)):=fun W1 W3 v f1 f3 rd sv=>by
         obtain⟨vp,rfl,sp⟩:=sv;obtain⟨vi,vc,rfl⟩:=sl.shape sp;refine⟨_,vi,_,vc,rfl,?_⟩;exact JW K7.out hR f1 f3 rd sp AO zW Oj yf G8.out (by omega)
        clear hs2 ye AO zW Oj yf;generalize w5=W5 at*
        have yg:Fr (fun _=>False) W5 W5.drew:=(Fr.refl _ W5).drewN 1;refine wp_region_held_drew (S:=fun _=>True) (by kernel_rfl) trivial (fun hHeld=>?_);generalize W5.drew=W5d at*
        have fr:=yg;clear yg;refine wpAnyH_take (i:=0) (v:=?_) rfl (by kernel_rfl) (by kernel_rfl) (by kernel_rfl) (fun _ _ _ h=>h) (Or.inl ⟨by rfl,?_⟩) (by assumption) ?_
        rotate_left
        ·(intro w hSw;(try dsimp only at hSw);go_simp;(try with_reducible rfl))
        (try simp only[Act.put,ae,af,aj])
        refine wpAnyH_take (i:=2) (v:=?_) rfl (by kernel_rfl) (by kernel_rfl) (by kernel_rfl) (fun _ _ _ h=>h) (Or.inl ⟨by rfl,?_⟩) (by assumption) ?_
        rotate_left
        ·(intro w hSw;(try dsimp only at hSw);go_simp;(try with_reducible rfl))
        (try simp only[Act.put,ae,af,aj])
        refine wpAnyH_take (i:=3) (v:=?_) rfl (by kernel_rfl) (by kernel_rfl) (by kernel_rfl) (fun _ _ _ h=>h) (Or.inl ⟨by rfl,?_⟩) (by assumption) ?_
        rotate_left
        ·(intro w hSw;(try dsimp only at hSw);go_simp;(try with_reducible rfl))
        (try simp only[Act.put,ae,af,aj])
        refine wpAnyH_ready (rs:=[1,4]) (by kernel_rfl) (by simp) ?_;refine AllReadyH.cons rfl (fun K hK=>?_) (AllReadyH.cons rfl (fun K hK=>?_) AllReadyH.nil);have ud:=Oo.out _ (by first|exact fr|exact fr.mono fun _ x=>x.elim)
        go_simp
        refine hK.out _ _ trivial (fun hHeld=>?_);clear hK K ud
        (try simp only[Act.put,ae,af,aj])
        refine wpAnyH_ready (rs:=[4]) (by kernel_rfl) (by simp) ?_;refine AllReadyH.cons rfl (fun K hK=>?_) AllReadyH.nil;have hcc:=rS.out _ fr
        go_simp
        refine hcc.mono ?_;clear hcc;rintro e w6 ⟨v6,rfl,JV,SA,vt⟩;obtain⟨KW,KX,KY,KZ,rfl,YR⟩:=qd.out _ _ _ fr vt SA JV;clear JV;have fr:Fr (fun k=>k=R) W5 w6:=(fr.mono (fun _ x=>x.elim)).same vt;refine hK.out _ _ trivial (fun hHeld=>?_);clear hK K
        (try simp only[Act.put,ae,af,aj])
        refine wpAnyH_ready (rs:=[5]) (by kernel_rfl) (by simp) ?_;refine AllReadyH.cons rfl (fun K hK=>?_) AllReadyH.nil
        go_simp
        refine hK.out _ _ trivial (fun hHeld=>?_);clear hK K
        (try simp only[Act.put,ae,af,aj])
        have fr:=fr.alloc (.cells #[.bool s'.deep,.string KW,.slice KX KY KZ] 144)
        rotate_left 1
        have hcc:=rS.out _ fr
        go_simp
        refine hcc.mono ?_;clear hcc;rintro e w6 ⟨v6,rfl,JV,SA,vt⟩;obtain⟨KW,KX,KY,KZ,rfl,YR⟩:=qd.out _ _ _ fr vt SA JV;clear JV;have fr:Fr (fun k=>k=R) W5 w6:=(fr.mono (fun _ x=>x.elim)).same vt;refine hK.out _ _ trivial (fun hHeld=>?_);clear hK K
        (try simp only[Act.put,ae,af,aj])
        refine wpAnyH_ready (rs:=[1,5]) (by kernel_rfl) (by simp) ?_;refine AllReadyH.cons rfl (fun K hK=>?_) (AllReadyH.cons rfl (fun K hK=>?_) AllReadyH.nil);have ud:=Oo.out _ (by first|exact fr|exact fr.mono fun _ x=>x.elim)
        go_simp
        refine hK.out _ _ trivial (fun hHeld=>?_);clear hK K ud
        (try simp only[Act.put,ae,af,aj])
        refine wpAnyH_ready (rs:=[5]) (by kernel_rfl) (by simp) ?_;refine AllReadyH.cons rfl (fun K hK=>?_) AllReadyH.nil
        go_simp
        refine hK.out _ _ trivial (fun hHeld=>?_);clear hK K
        (try simp only[Act.put,ae,af,aj])
        have fr:=fr.alloc (.cells #[.bool s'.deep,.string KW,.slice KX KY KZ] 144)
        rotate_left 1
        go_simp
        refine hK.out _ _ trivial (fun hHeld=>?_);clear hK K
        (try simp only[Act.put,ae,af,aj])
        have fr:=fr.alloc (.cells #[.bool s'.deep,.string KW,.slice KX KY KZ] 144);refine wpAnyH_ready (rs:=[1]) (by kernel_rfl) (by simp) ?_;refine AllReadyH.cons rfl (fun K hK=>?_) AllReadyH.nil;have ud:=Oo.out _ (by first|exact fr|exact fr.mono fun _ x=>x.elim)
        go_simp
        refine hK.out _ _ trivial (fun hHeld=>?_);clear hK K ud
        (try simp only[Act.put,ae,af,aj])
        rotate_left 1
        all_goals
         obtain⟨xs,hx1,K4⟩:=YR.out;have K4:=a_ K4;refine wpAnyH_ready (rs:=[6]) (by kernel_rfl) (by simp) ?_;refine AllReadyH.cons rfl (fun K hK=>?_) AllReadyH.nil;refine eP rfl (.tmp 29) (.tmp 33) 85 rfl 144 i0 _ 3 48 underlying85 hi hz0 hz1 hz2 rfl (by decide) (Z9 g (ls.length+1) cap) (ls.length+1) (ie xs) (by simp[Act.eval]) hx1 ⟨w6.heap.size,0,none⟩ 1 1 [.bool s'.deep,.string KW,.slice KX KY KZ] (by simp[Act.eval]) rfl (lG _ _ _) (vv _ _ _ _ _) (by unfold maxLen;omega) (by omega) ?_;intro v' w7 ho hg hat;obtain⟨g',cap',rfl⟩:=qa ho;obtain⟨b7,YS⟩:=K4.out _ w7 ho hg (by simpa using hat);have HVI:=a_ YS;have c7:=cell_of (i:=2) b7 rfl;have f7:=d_ (i:=2) b7;clear YS ho hg hat;refine hK.out _ _ trivial (fun hHeld=>?_);clear hK K
         (try simp only[Act.put,ae,af,aj])
         refine wpAnyH_take (i:=7) (v:=?_) rfl (by kernel_rfl) (by kernel_rfl) (by kernel_rfl) (fun _ _ _ h=>h) (Or.inl ⟨by rfl,?_⟩) (by assumption) ?_
         rotate_left
         ·(intro w hSw;(try dsimp only at hSw);go_simp;(try with_reducible rfl))
         (try simp only[Act.put,ae,af,aj])
         refine wpAnyH_ready (rs:=[8]) (by kernel_rfl) (by simp) ?_;refine AllReadyH.cons rfl (fun K hK=>?_) AllReadyH.nil
         go_simp
         refine hK.out _ _ trivial (fun hHeld=>?_);clear hK K;refine wpAnyH_done (by kernel_rfl) ?_ _;have hV:=HVI.out;simp only[Exit.then,Exit.inBlock];have hm:uZ R t (w7.setCell ⟨Bp,2,none⟩ (Z9 g' (ls.length+1+1) cap'))<uZ R t WO:=by rw[hV.rd.uZ,zT];omega
         have hE:∃g2 SF YT s2 lc2,VI R t wh n e8 w Bp X (w7.setCell ⟨Bp,2,none⟩ (Z9 g' (ls.length+1+1) cap')) (Z9 g2 (List.length YT+1) SF) YT s2 lc2:=⟨g',cap',ls++[s],s',l4,by simpa using hV⟩
         exact⟨⟨_,_,_,_,_,_,_,_,_,_,_,_,_,_,_,_,_,_,_,_,_,_,_,_,_,hE,rfl⟩,hm⟩
      |false=>
       have hq:((bs (part l3)).toList==[64])=false:=by rw[fE];simpa using hat
       generalize bs (part l3)=S at*
       clear hat;cases hs2:step (eo t wh) e8 false l3 with
       |error y=>
        have hX:=zU y hs2;subst hX;clear zU zV;go_wp2_with(first|(go_at_call 134;refine HG.out.mono ?_;rintro e w4 ⟨rfl,hb4⟩;have ji:=K7.out.rd.below hb4)|(go_at_call 133;refine(sZ.out _ ji).mono ?_;rintro e w5 ⟨v5,rfl,rfl,rR,lD⟩;have hs5:=XW.out _ _ hb4 lD rR)|(go_at_call 135;refine(CA.out _ hs5.1).mono ?_;rintro e On ⟨rfl,ma⟩;have SD:=HS6.out _ _ hs5 ma));obtain⟨ye,AO,zW,Oj,yf⟩:=SD;have Oo:Hid (∀W,Fr (fun _=>False) On W->W.cell? ⟨Bp,2,none⟩=some (Z9 g (ls.length+1) cap)):=fun W hW=>cell_of ((hW.block Bp (dS AO) (fun x=>x)).trans AO) rfl;have rS:Hid (∀W,Fr (fun _=>False) On W->Z4 132 #[ptr R,.bool false] W (Ends R t wh n (SV (fun b=>W.heap.size<=b) 144 146) W (.error y))):=fun W hW=>by rw[<-hs2];exact oU false HI.out (ye.fr hW (fun x=>x))
        have YQ:Hid (∀W W',Fr (fun _=>False) On W->Fr (fun k=>k=R) W W'->Fr (fun k=>k=R) w W'):=fun W W' f1 f2=>((yf.trans f1 (fun _ _ x=>x.elim)).trans f2 (fun _ _ x=>Or.inl x)).restrict (fun k hk x=>by omega);clear hs2 ye AO zW Oj yf;generalize On=W5 at*
        have yg:Fr (fun _=>False) W5 W5.drew:=(Fr.refl _ W5).drewN 1;refine wp_region_held_drew (S:=fun _=>True) (by kernel_rfl) trivial (fun hHeld=>?_);generalize W5.drew=W5d at*
        have fr:=yg;clear yg;refine wpAnyH_take (i:=0) (v:=?_) rfl (by kernel_rfl) (by kernel_rfl) (by kernel_rfl) (fun _ _ _ h=>h) (Or.inl ⟨by rfl,?_⟩) (by assumption) ?_
        rotate_left
        ·(intro w hSw;(try dsimp only at hSw);go_simp;(try with_reducible rfl))
        (try simp only[Act.put,ae,af,aj])
        refine wpAnyH_take (i:=2) (v:=?_) rfl (by kernel_rfl) (by kernel_rfl) (by kernel_rfl) (fun _ _ _ h=>h) (Or.inl ⟨by rfl,?_⟩) (by assumption) ?_
        rotate_left
        ·(intro w hSw;(try dsimp only at hSw);go_simp;(try with_reducible rfl))
        (try simp only[Act.put,ae,af,aj])
        refine wpAnyH_take (i:=3) (v:=?_) rfl (by kernel_rfl) (by kernel_rfl) (by kernel_rfl) (fun _ _ _ h=>h) (Or.inl ⟨by rfl,?_⟩) (by assumption) ?_
        rotate_left
        ·(intro w hSw;(try dsimp only at hSw);go_simp;(try with_reducible rfl))
        (try simp only[Act.put,ae,af,aj])
        refine wpAnyH_ready (rs:=[1,4]) (by kernel_rfl) (by simp) ?_;refine AllReadyH.cons rfl (fun K hK=>?_) (AllReadyH.cons rfl (fun K hK=>?_) AllReadyH.nil);have ud:=Oo.out _ fr
        go_simp
        refine hK.out _ _ trivial (fun hHeld=>?_);clear hK K ud
        (try simp only[Act.put,ae,af,aj])
        refine wpAnyH_ready (rs:=[4]) (by kernel_rfl) (by simp) ?_;refine AllReadyH.cons rfl (fun K hK=>?_) AllReadyH.nil;have hcc:=rS.out _ fr
        go_simp
        refine hcc.mono ?_;rintro e w6 ⟨rfl,vt⟩;exact⟨rfl,rfl,YQ.out _ _ fr vt⟩;have hcc:=rS.out _ fr
        go_simp
        refine hcc.mono ?_;rintro e w6 ⟨rfl,vt⟩;exact⟨rfl,rfl,YQ.out _ _ fr vt⟩
       |ok z=>
        obtain⟨s',l4⟩:=z;have RT:=kJ HI.out.wZ false l3 s' l4 hs2;have hl4:=RT.length_le;have G8:=a_ (zV s' l4 hs2 RT);clear zU zV;go_wp2_with(first|(go_at_call 134;refine HG.out.mono ?_;rintro e w4 ⟨rfl,hb4⟩;have ji:=K7.out.rd.below hb4)|(go_at_call 133;refine(sZ.out _ ji).mono ?_;rintro e w5 ⟨v5,rfl,rfl,rR,lD⟩;have hs5:=XW.out _ _ hb4 lD rR)|(go_at_call 135;refine(CA.out _ hs5.1).mono ?_;rintro e On ⟨rfl,ma⟩;have SD:=HS6.out _ _ hs5 ma));obtain⟨ye,AO,zW,Oj,yf⟩:=SD;have Oo:Hid (∀W,Fr (fun k=>k=R) On W->W.cell? ⟨Bp,2,none⟩=some (Z9 g (ls.length+1) cap)):=fun W hW=>cell_of ((hW.block Bp (dS AO) (by omega)).trans AO) rfl;have rS:Hid (∀W,Fr (fun _=>False) On W->Z4 132 #[ptr R,.bool false] W (Ends R t wh n (SV (fun b=>W.heap.size<=b) 144 146) W (.ok (s',l4)))):=fun W hW=>by rw[<-hs2];exact oU false HI.out (ye.fr hW (fun x=>x))
        have qd:Hid (∀W1 W3 v,Fr (fun _=>False) On W1->Fr (fun k=>k=R) W1 W3->RD R t wh n W3 l4->SV (fun b=>W1.heap.size<=b) 144 146 W3 v s'->∃te vi vn vc,v=.agg #[.bool s'.deep,.string te,.slice vi vn vc]/\Hid (∃xs,(W3.alloc (.cells #[.bool s'.deep,.string te,.slice vi vn vc] 144)).ownsRow 0 144 3 (Z9 g (ls.length+1) cap) (ls.length+1) (ie xs)/\∀v' W4,W4.ownsRow 0 144 3 v' (ls.length+1+1) (ie xs++[.bool s'.deep,.string te,.slice vi vn vc])->(W3.alloc (.cells #[.bool s'.deep,.string te,.slice vi vn vc] 144)).grownBy W4 (Z9 g (ls.length+1) cap).ownBlock->(v'.ownBlock=(Z9 g (ls.length+1) cap).ownBlock\/v'.ownBlock=some (W3.heap.size+1))->W4.heap[Bp]?=some (.cells #[.string ⟨#[]⟩,.slice none 0 0,Z9 g (ls.length+1) cap,.string ⟨#[]⟩,.string ⟨#[]⟩] 146 (0,0))/\VI R t wh n e8 w Bp X (W4.setCell ⟨Bp,2,none⟩ v') v' (ls++[s]) s' l4)):=fun W1 W3 v f1 f3 rd sv=>by
         obtain⟨vp,rfl,sp⟩:=sv;obtain⟨vi,vc,rfl⟩:=sl.shape sp;refine⟨_,vi,_,vc,rfl,?_⟩;exact JW K7.out hR f1 f3 rd sp AO zW Oj yf G8.out (by omega)
        clear hs2 ye AO zW Oj yf;generalize On=W5 at*
        have yg:Fr (fun _=>False) W5 W5.drew:=(Fr.refl _ W5).drewN 1;refine wp_region_held_drew (S:=fun _=>True) (by kernel_rfl) trivial (fun hHeld=>?_);generalize W5.drew=W5d at*
        have fr:=yg;clear yg;refine wpAnyH_take (i:=0) (v:=?_) rfl (by kernel_rfl) (by kernel_rfl) (by kernel_rfl) (fun _ _ _ h=>h) (Or.inl ⟨by rfl,?_⟩) (by assumption) ?_
        rotate_left
        ·(intro w hSw;(try dsimp only at hSw);go_simp;(try with_reducible rfl))
        (try simp only[Act.put,ae,af,aj])
        refine wpAnyH_take (i:=2) (v:=?_) rfl (by kernel_rfl) (by kernel_rfl) (by kernel_rfl) (fun _ _ _ h=>h) (Or.inl ⟨by rfl,?_⟩) (by assumption) ?_
        rotate_left
        ·(intro w hSw;(try dsimp only at hSw);go_simp;(try with_reducible rfl))
        (try simp only[Act.put,ae,af,aj])
        refine wpAnyH_take (i:=3) (v:=?_) rfl (by kernel_rfl) (by kernel_rfl) (by kernel_rfl) (fun _ _ _ h=>h) (Or.inl ⟨by rfl,?_⟩) (by assumption) ?_
        rotate_left
        ·(intro w hSw;(try dsimp only at hSw);go_simp;(try with_reducible rfl))
        (try simp only[Act.put,ae,af,aj])
        refine wpAnyH_ready (rs:=[1,4]) (by kernel_rfl) (by simp) ?_;refine AllReadyH.cons rfl (fun K hK=>?_) (AllReadyH.cons rfl (fun K hK=>?_) AllReadyH.nil);have ud:=Oo.out _ (by first|exact fr|exact fr.mono fun _ x=>x.elim)
        go_simp
        refine hK.out _ _ trivial (fun hHeld=>?_);clear hK K ud
        (try simp only[Act.put,ae,af,aj])
        refine wpAnyH_ready (rs:=[4]) (by kernel_rfl) (by simp) ?_;refine AllReadyH.cons rfl (fun K hK=>?_) AllReadyH.nil;have hcc:=rS.out _ fr
        go_simp
        refine hcc.mono ?_;clear hcc;rintro e w6 ⟨v6,rfl,JV,SA,vt⟩;obtain⟨KW,KX,KY,KZ,rfl,YR⟩:=qd.out _ _ _ fr vt SA JV;clear JV;have fr:Fr (fun k=>k=R) W5 w6:=(fr.mono (fun _ x=>x.elim)).same vt;refine hK.out _ _ trivial (fun hHeld=>?_);clear hK K
        (try simp only[Act.put,ae,af,aj])
        refine wpAnyH_ready (rs:=[5]) (by kernel_rfl) (by simp) ?_;refine AllReadyH.cons rfl (fun K hK=>?_) AllReadyH.nil
        go_simp
        refine hK.out _ _ trivial (fun hHeld=>?_);clear hK K
        (try simp only[Act.put,ae,af,aj])
        have fr:=fr.alloc (.cells #[.bool s'.deep,.string KW,.slice KX KY KZ] 144)
        rotate_left 1
        have hcc:=rS.out _ fr
        go_simp
        refine hcc.mono ?_;clear hcc;rintro e w6 ⟨v6,rfl,JV,SA,vt⟩;obtain⟨KW,KX,KY,KZ,rfl,YR⟩:=qd.out _ _ _ fr vt SA JV;clear JV;have fr:Fr (fun k=>k=R) W5 w6:=(fr.mono (fun _ x=>x.elim)).same vt;refine hK.out _ _ trivial (fun hHeld=>?_);clear hK K
        (try simp only[Act.put,ae,af,aj])
        refine wpAnyH_ready (rs:=[1,5]) (by kernel_rfl) (by simp) ?_;refine AllReadyH.cons rfl (fun K hK=>?_) (AllReadyH.cons rfl (fun K hK=>?_) AllReadyH.nil);have ud:=Oo.out _ (by first|exact fr|exact fr.mono fun _ x=>x.elim)
        go_simp
        refine hK.out _ _ trivial (fun hHeld=>?_);clear hK K ud
        (try simp only[Act.put,ae,af,aj])
        refine wpAnyH_ready (rs:=[5]) (by kernel_rfl) (by simp) ?_;refine AllReadyH.cons rfl (fun K hK=>?_) AllReadyH.nil
        go_simp
        refine hK.out _ _ trivial (fun hHeld=>?_);clear hK K
        (try simp only[Act.put,ae,af,aj])
        have fr:=fr.alloc (.cells #[.bool s'.deep,.string KW,.slice KX KY KZ] 144)
        rotate_left 1
        go_simp
        refine hK.out _ _ trivial (fun hHeld=>?_);clear hK K
        (try simp only[Act.put,ae,af,aj])
        have fr:=fr.alloc (.cells #[.bool s'.deep,.string KW,.slice KX KY KZ] 144);refine wpAnyH_ready (rs:=[1]) (by kernel_rfl) (by simp) ?_;refine AllReadyH.cons rfl (fun K hK=>?_) AllReadyH.nil;have ud:=Oo.out _ (by first|exact fr|exact fr.mono fun _ x=>x.elim)
        go_simp
        refine hK.out _ _ trivial (fun hHeld=>?_);clear hK K ud
        (try simp only[Act.put,ae,af,aj])
        rotate_left 1
        all_goals
         obtain⟨xs,hx1,K4⟩:=YR.out;have K4:=a_ K4;refine wpAnyH_ready (rs:=[6]) (by kernel_rfl) (by simp) ?_;refine AllReadyH.cons rfl (fun K hK=>?_) AllReadyH.nil;refine eP rfl (.tmp 29) (.tmp 33) 85 rfl 144 i0 _ 3 48 underlying85 hi hz0 hz1 hz2 rfl (by decide) (Z9 g (ls.length+1) cap) (ls.length+1) (ie xs) (by simp[Act.eval]) hx1 ⟨w6.heap.size,0,none⟩ 1 1 [.bool s'.deep,.string KW,.slice KX KY KZ] (by simp[Act.eval]) rfl (lG _ _ _) (vv _ _ _ _ _) (by unfold maxLen;omega) (by omega) ?_;intro v' w7 ho hg hat;obtain⟨g',cap',rfl⟩:=qa ho;obtain⟨b7,YS⟩:=K4.out _ w7 ho hg (by simpa using hat);have HVI:=a_ YS;have c7:=cell_of (i:=2) b7 rfl;have f7:=d_ (i:=2) b7;clear YS ho hg hat;refine hK.out _ _ trivial (fun hHeld=>?_);clear hK K
         (try simp only[Act.put,ae,af,aj])
         refine wpAnyH_take (i:=7) (v:=?_) rfl (by kernel_rfl) (by kernel_rfl) (by kernel_rfl) (fun _ _ _ h=>h) (Or.inl ⟨by rfl,?_⟩) (by assumption) ?_
         rotate_left
         ·(intro w hSw;(try dsimp only at hSw);go_simp;(try with_reducible rfl))
         (try simp only[Act.put,ae,af,aj])
         refine wpAnyH_ready (rs:=[8]) (by kernel_rfl) (by simp) ?_;refine AllReadyH.cons rfl (fun K hK=>?_) AllReadyH.nil
         go_simp
         refine hK.out _ _ trivial (fun hHeld=>?_);clear hK K;refine wpAnyH_done (by kernel_rfl) ?_ _;have hV:=HVI.out;simp only[Exit.then,Exit.inBlock];have hm:uZ R t (w7.setCell ⟨Bp,2,none⟩ (Z9 g' (ls.length+1+1) cap'))<uZ R t WO:=by rw[hV.rd.uZ,zT];omega
         have hE:∃g2 SF YT s2 lc2,VI R t wh n e8 w Bp X (w7.setCell ⟨Bp,2,none⟩ (Z9 g' (ls.length+1+1) cap')) (Z9 g2 (List.length YT+1) SF) YT s2 lc2:=⟨g',cap',ls++[s],s',l4,by simpa using hV⟩
         exact⟨⟨_,_,_,_,_,_,_,_,_,_,_,_,_,_,_,_,_,_,_,_,_,_,_,_,_,hE,rfl⟩,hm⟩
end
end Go.Proofs.YtclgfepngpeifaaGreatDoor
