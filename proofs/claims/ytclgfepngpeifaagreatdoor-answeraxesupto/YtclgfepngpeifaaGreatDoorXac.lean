import Derived.Test.YtclgfepngpeifaaGreatDoorXA
import Derived.Test.YtclgfepngpeifaaGreatDoorXab
set_option linter.unusedVariables false
set_option linter.unusedSimpArgs false
set_option maxHeartbeats 32000000
set_option maxRecDepth 100000
namespace Go.Proofs.YtclgfepngpeifaaGreatDoor
open Go.RowKit Go.Maps Go.Lib Tryz
section
variable{w w' w1 w2:World}{F G:Nat->Prop}{R:Nat}{t l l':L}{wh n:Nat}
theorem sL{g:Nat}:∀(vs:List Value) (o:Nat) (w w':World),w.heap[g]?=w'.heap[g]?->(w.setCells g o vs).heap[g]?=(w'.setCells g o vs).heap[g]?
 |[],_,_,_,h=>h
 |v::vs,o,w,w',h=>sL vs (o+1) _ _ (by
  show (w.setCell ⟨g,o,none⟩ v).heap[g]?=(w'.setCell ⟨g,o,none⟩ v).heap[g]?;simp only[World.setCell,Array.getElem?_modify,h])
theorem qg{e:TypeId}{sz k:Nat}{v:Value}{xs:List Value}(h:w.ownsRow 0 e sz v (k+1) xs):∃g cap,v=Z9 g (k+1) cap:=by
 rcases h.2 with⟨_,e2⟩|⟨g,cap,cur,rfl,_⟩
 ·omega
 ·exact⟨g,cap,rfl⟩
theorem RU{nb:Nat}(h:w.heap[nb]?=some (.cells #[.string ⟨#[]⟩,.slice none 0 0,.slice none 0 0,.string ⟨#[]⟩,.string ⟨#[]⟩] 146 (0,0))):∀j u,[Value.string ⟨#[]⟩,.slice none 0 0,.slice none 0 0,.string ⟨#[]⟩,.string ⟨#[]⟩][j]?=some u->w.cell? ((⟨nb,0,none⟩:Addr).add j)=some u:=by
 intro j u hu;rw[cZ,aG,cell_of h (v:=u)];rw[cu];exact hu
theorem Ve:∀u∈[Value.string ⟨#[]⟩,.slice none 0 0,.slice none 0 0,.string ⟨#[]⟩,.string ⟨#[]⟩],u.oneCell'=true:=by
 intro u hu;simp only[bM,bB,cm]at hu;rcases hu with rfl|rfl|rfl|rfl|rfl<;>rfl
theorem Ya(x1 x4 x5:ByteArray)(k s:Option Addr)(a b c d:Nat):(#[Value.string x1,.slice k a b,.slice s c d,.string x4,.string x5]).all (·.oneCell')=true:=all_oneCell_toArray (cs:=[Value.string x1,.slice k a b,.slice s c d,.string x4,.string x5]) (by
 intro u hu;simp only[bM,bB,cm]at hu;rcases hu with rfl|rfl|rfl|rfl|rfl<;>rfl)
theorem Eo{lo Bs Br g cap:Nat}{pi:Option Addr}{pc:Nat}{d:Bool}{te:L}{ps:List gz}{p:gz}{vk vs:Value}{W W6 WF:World}{xs:List (gz×Value×Value)}(fr:Fr (fun k=>k=R) w W)(rd:RD R t wh n W l)(hR:R<lo)(hB:Bs<lo)(N1:Br<lo)(N3:R≠Bs)(Nt:R≠Br)(Vd:Bs≠Br)(py:lo<=w.heap.size)
  (gp:GP lo 144 146 W (.slice pi ps.length pc) ps) (hbr:W.heap[Br]?=some (.cells #[ptr R] 170 (0,0))) (Yb:W.heap[Bs]?=some (.cells #[.bool d,.string (bs te),.slice pi ps.length pc] 144 (0,0))) (x1:xs.map (·.1)=ps) (x3:∀x∈xs,pV W (fun b=>lo<=b/\some b≠(Value.slice pi ps.length pc).ownBlock) 144 146 x.2.1 x.1.kids/\qd W (fun b=>lo<=b/\some b≠(Value.slice pi ps.length pc).ownBlock) 144 146 x.2.2 x.1.steps)
  (hv:pV W (fun b=>lo<=b/\some b≠(Value.slice pi ps.length pc).ownBlock) 144 146 vk p.kids/\qd W (fun b=>lo<=b/\some b≠(Value.slice pi ps.length pc).ownBlock) 144 146 vs p.steps)
  (ho:W6.ownsRow 0 146 5 (Z9 g (ps.length+1) cap) (ps.length+1) (jl xs++[.string ⟨#[]⟩,.slice none 0 0,.slice none 0 0,.string ⟨#[]⟩,.string ⟨#[]⟩])) (hgr:W.grownBy W6 (Value.slice pi ps.length pc).ownBlock) (hat:(Z9 g (ps.length+1) cap).ownBlock=(Value.slice pi ps.length pc).ownBlock\/(Z9 g (ps.length+1) cap).ownBlock=some W.heap.size)
  (h1:WF.heap[g]?=(W6.setCells g (ps.length*5) [.string (bs p.op),vk,vs,.string (bs p.attr),.string (bs p.text)]).heap[g]?) (h2:WF.heap[Bs]?=some (.cells #[.bool d,.string (bs te),Z9 g (ps.length+1) cap] 144 (0,0))) (h3:∀b,b≠g->b≠Bs->WF.heap[b]?=W6.heap[b]?) (h4:WF.os=W6.os/\WF.tape=W6.tape/\WF.output=W6.output/\WF.heap.size=W6.heap.size):
  RD R t wh n WF l/\AL lo Bs Br R d te ps WF p/\Fr (fun k=>k=R\/k=Bs\/lo<=k) w WF:=by
 have hlen:(jl xs).length=ps.length*5:=by rw[yb,<-x1,cJ]
 obtain⟨q1,q2⟩:=yf (ys:=[.string (bs p.op),vk,vs,.string (bs p.attr),.string (bs p.text)]) ho hlen rfl rfl;have N4:lo<=g:=by
  rcases hat with e|e
  ·exact gp.own g e.symm
  ·have e:g=W.heap.size:=aX e;have:=fr.size;omega
 obtain⟨r1,r2,r3,r4⟩:=lK (g:=g) [.string (bs p.op),vk,vs,.string (bs p.attr),.string (bs p.text)] (ps.length*5) W6;have aas:W.grownBy (W6.setCells g (ps.length*5) [.string (bs p.op),vk,vs,.string (bs p.attr),.string (bs p.text)]) (Value.slice pi ps.length pc).ownBlock:=by
  refine⟨r1.trans hgr.os,r2.trans hgr.tape,r3.trans hgr.output,by rw[r4];exact hgr.size,fun b hb hne=>?_⟩;rw[fk (fun e=>?_),hgr.block b hb hne];subst e;rcases hat with e|e
  ·exact hne e
  ·have e2:b=W.heap.size:=aX e;omega
 have gp7:=gp.push (s:=p) x1 x3 hv (aw py fr.size) q1 aas hat;have f7:Fr (fun k=>k=Bs) (W6.setCells g (ps.length*5) [.string (bs p.op),vk,vs,.string (bs p.attr),.string (bs p.text)]) WF:=by
  refine⟨h4.1.trans r1.symm,h4.2.1.trans r2.symm,h4.2.2.1.trans r3.symm,by rw[r4,h4.2.2.2];exact au _,fun b hb hne=>?_⟩;by_cases hbg:b=g
  ·subst hbg;exact h1
  ·rw[h3 b hbg hne,fk hbg]
 have keep:∀b,b<lo->b≠Bs->b<W.heap.size->WF.heap[b]?=W.heap[b]?:=fun b hb hne hl=>by
  rw[h3 b (by omega) hne];exact hgr.block b hl (fun e=>by have:=gp.own b e.symm;omega)
 have gpF:=gp7.fr f7 fun k e _=>by omega
 have hz:W.heap.size<=WF.heap.size:=by rw[h4.2.2.2];exact hgr.size
 refine⟨⟨(keep R hR N3 rd.lt).trans rd.blk,rd.xh,rd.tw,rd.Cz,rd.n8⟩,⟨_,_,h2,gpF,(keep Br N1 (fun e=>Vd e.symm) (dQ hbr)).trans hbr⟩,?_⟩;refine⟨h4.1.trans (hgr.os.trans fr.os),h4.2.1.trans (hgr.tape.trans fr.tape),h4.2.2.1.trans (hgr.output.trans fr.output),aw fr.size hz,fun b hb hne=>?_⟩;have hb1:b≠R:=fun e=>hne (Or.inl e);have hb2:b≠Bs:=fun e=>hne (Or.inr (Or.inl e));have hb3:b<lo:=by apply Nat.lt_of_not_le;exact fun e=>hne (Or.inr (Or.inr e))
 rw[keep b hb3 hb2 (aq hb fr.size),fr.block b hb hb1]
theorem N5{Bs Br lo pc:Nat}{pi:Option Addr}{d:Bool}{te:L}{ps:List gz}{f:L->Rs gz}{p:gz}{l2:L}(hc:ye R t wh n f)(h:RD R t wh n w l)(hs:w.heap[Bs]?=some (.cells #[.bool d,.string (bs te),.slice pi ps.length pc] 144 (0,0)))(hr:w.heap[Br]?=some (.cells #[ptr R] 170 (0,0)))(hg:GP lo 144 146 w (.slice pi ps.length pc) ps)(hR:R<lo)(hB:Bs<lo)(N1:Br<lo)(N3:R≠Bs)(Nt:R≠Br)(Vd:Bs≠Br)(py:lo<=w.heap.size)(hn:ps.length<=500)(hf:f l=.ok (p,l2)):Z4 177 #[ptr Bs,ptr Br] w fun e w'=>e=.returned (.tuple #[])/\RD R t wh n w' l2/\AL lo Bs Br R d te ps w' p/\Fr (fun k=>k=R\/k=Bs\/lo<=k) w w':=by
 have c0:w.cell? ⟨Br,0,none⟩=some (ptr R):=cell_of hr rfl;have RT:∀k,(Value.slice pi ps.length pc).ownBlock=some k->k<w.heap.size:=fun k e=>by obtain⟨xs,_,h2,_⟩:=hg.ex;exact ej h2 e
 have HK:Hid (∀W,Fr (fun k=>k=R) w W->W.cell? ⟨Br,0,none⟩=some (ptr R)/\W.cell? ⟨Bs,2,none⟩=some (.slice pi ps.length pc)/\W.heap[Bs]?=some (.cells #[.bool d,.string (bs te),.slice pi ps.length pc] 144 (0,0))/\W.heap[Br]?=some (.cells #[ptr R] 170 (0,0))/\GP lo 144 146 W (.slice pi ps.length pc) ps):=fun W hW=>by
  have h1:=(hW.block Br (dQ hr) (fun e=>Nt e.symm)).trans hr;have h2:=(hW.block Bs (dQ hs) (fun e=>N3 e.symm)).trans hs;exact⟨cell_of h1 rfl,cell_of h2 rfl,h2,h1,hg.fr hW fun k e _=>by omega⟩
 have HC:Hid (∀W,Fr (fun _=>False) w W->Z4 178 #[ptr R] W (Ends R t wh n (PV (fun b=>W.heap.size<=b) 144 146) W (.ok (p,l2)))):=fun W hW=>by have:=hc W l (h.fr hW (fun x=>x));rw[hf]at this;exact this
 have Yc:Hid (∀W W3 v,Fr (fun _=>False) w W->PV (fun b=>W.heap.size<=b) 144 146 W3 v p->∃ki nk kc si ns sc,v=.agg #[.string (bs p.op),.slice ki nk kc,.slice si ns sc,.string (bs p.attr),.string (bs p.text)]/\Hid (pV W3 (fun b=>lo<=b/\some b≠(Value.slice pi ps.length pc).ownBlock) 144 146 (.slice ki nk kc) p.kids/\qd W3 (fun b=>lo<=b/\some b≠(Value.slice pi ps.length pc).ownBlock) 144 146 (.slice si ns sc) p.steps)):=fun W W3 v hW hv=>by
  obtain⟨vk,vs,rfl,a1,a2⟩:=hv;obtain⟨ki,kc,rfl⟩:=sl.shape a1;obtain⟨si,sc,rfl⟩:=sl.shape a2;have hm:Move (fun b=>W.heap.size<=b) (fun b=>lo<=b/\some b≠(Value.slice pi ps.length pc).ownBlock) W3 W3:=fun b ha _=>⟨⟨aw (aw py hW.size) ha,fun e=>by have:=RT b e.symm;have:=hW.size;omega⟩,rfl⟩
  exact⟨ki,_,kc,si,_,sc,rfl,a1.move hm,a2.move hm⟩
 have HN:Hid (R<lo/\Bs<lo/\Br<lo/\R≠Bs/\R≠Br/\Bs≠Br/\lo<=w.heap.size):=⟨hR,hB,N1,N3,Nt,Vd,py⟩
 have X_:Fr (fun _=>False) w w.drew:=(Fr.refl _ w).drewN 1;obtain⟨i0,hi,hz0,hz1,hz2⟩:=aY NZ;have hi5:(prog.info? 146).map (·.size)=some 5:=by rw[hi];simpa using hz1
 have hkk:(ps.length:Int)<((ps.length+1:Nat):Int):=by omega
 have aat:(ps.length:Int)<(ps.length:Int)+1:=by omega
 clear hc h hs hr hg hf RT;go_enter func177,ntmps177;go_wp2_with fail;refine wp_region_held_drew (S:=(fun W=>W.cell? ⟨Br,0,none⟩=some (ptr R))) (by kernel_rfl) c0 (fun hHeld=>?_);generalize w.drew=W0 at*
 have fr:=X_;clear X_;refine wpAnyH_take (i:=0) (v:=?_) rfl (by kernel_rfl) (by kernel_rfl) (by kernel_rfl) (fun _ _ _ h=>h) (Or.inl ⟨by rfl,?_⟩) (by assumption) ?_
 rotate_left
 ·(intro w hSw;(try dsimp only at hSw);go_simp;(try with_reducible rfl))
 (try simp only[Act.put,ae,af,aj])
 refine wpAnyH_take (i:=2) (v:=?_) rfl (by kernel_rfl) (by kernel_rfl) (by kernel_rfl) (fun _ _ _ h=>h) (Or.inl ⟨by rfl,?_⟩) (by assumption) ?_
 rotate_left
 ·(intro w hSw;(try dsimp only at hSw);go_simp;(try with_reducible rfl))
 (try simp only[Act.put,ae,af,aj])
 refine wpAnyH_ready (rs:=[1,3,5]) (by kernel_rfl) (by simp) ?_;refine AllReadyH.cons rfl (fun K hK=>?_) (AllReadyH.cons rfl (fun K hK=>?_) (AllReadyH.cons rfl (fun K hK=>?_) AllReadyH.nil));have uo:=(HK.out _ (by first|exact fr|exact fr.mono fun _ x=>x.elim)).2.1
 go_simp
 refine hK.out _ _ hHeld (fun _=>?_);clear hK K uo
 (try simp only[Act.put,ae,af,aj])
 refine wpAnyH_take (i:=4) (v:=?_) rfl (by kernel_rfl) (by kernel_rfl) (by kernel_rfl) (fun _ _ _ h=>h) (Or.inl ⟨by rfl,?_⟩) (by assumption) ?_
 rotate_left
 ·(intro w hSw;(try dsimp only at hSw);go_simp;(try with_reducible rfl))
 (try simp only[Act.put,ae,af,aj])
 refine wpAnyH_ready (rs:=[3,5]) (by kernel_rfl) (by simp) ?_;refine AllReadyH.cons rfl (fun K hK=>?_) (AllReadyH.cons rfl (fun K hK=>?_) AllReadyH.nil);have hcc:=HC.out _ fr
 go_simp
 refine hcc.mono ?_;clear hcc;rintro e W3 ⟨v,rfl,hv,rd,jy⟩;obtain⟨ki,nk,kc,si,ns,sc,rfl,HV⟩:=Yc.out _ _ _ fr hv;clear hv;have fr:Fr (fun k=>k=R) w W3:=(fr.mono (fun _ x=>x.elim)).same jy;clear jy;refine hK.out _ _ (HK.out _ fr).1 (fun hHeld=>?_);clear hK K
 (try simp only[Act.put,ae,af,aj])
 refine wpAnyH_ready (rs:=[5]) (by kernel_rfl) (by simp) ?_;refine AllReadyH.cons rfl (fun K hK=>?_) AllReadyH.nil
 go_simp
 refine hK.out _ _ (dV _ hHeld) (fun hHeld=>?_);clear hK K
 (try simp only[Act.put,ae,af,aj])
 have sJ:=dR W3 (.cells #[.string ⟨#[]⟩,.slice none 0 0,.slice none 0 0,.string ⟨#[]⟩,.string ⟨#[]⟩] 146);have xk:lo<=W3.heap.size:=aw py fr.size;have fr:=fr.alloc (.cells #[.string ⟨#[]⟩,.slice none 0 0,.slice none 0 0,.string ⟨#[]⟩,.string ⟨#[]⟩] 146);have rd:=rd.fr ((Fr.refl (fun _=>False) W3).alloc (.cells #[.string ⟨#[]⟩,.slice none 0 0,.slice none 0 0,.string ⟨#[]⟩,.string ⟨#[]⟩] 146)) (fun x=>x);have HV:=a_ (yg HV.out (.cells #[.string ⟨#[]⟩,.slice none 0 0,.slice none 0 0,.string ⟨#[]⟩,.string ⟨#[]⟩] 146));generalize Ut:W3.heap.size=nb at*
 generalize W3.alloc (.cells #[.string ⟨#[]⟩,.slice none 0 0,.slice none 0 0,.string ⟨#[]⟩,.string ⟨#[]⟩] 146)=W5 at*
 rotate_left 1
 go_simp
 refine hK.out _ _ (dV _ hHeld) (fun hHeld=>?_);clear hK K
 (try simp only[Act.put,ae,af,aj])
 have sJ:=dR W0 (.cells #[.string ⟨#[]⟩,.slice none 0 0,.slice none 0 0,.string ⟨#[]⟩,.string ⟨#[]⟩] 146);have xk:lo<=W0.heap.size:=aw py fr.size;have fr:=fr.alloc (.cells #[.string ⟨#[]⟩,.slice none 0 0,.slice none 0 0,.string ⟨#[]⟩,.string ⟨#[]⟩] 146);generalize Ut:W0.heap.size=nb at*
 generalize W0.alloc (.cells #[.string ⟨#[]⟩,.slice none 0 0,.slice none 0 0,.string ⟨#[]⟩,.string ⟨#[]⟩] 146)=W5 at*
 refine wpAnyH_ready (rs:=[3]) (by kernel_rfl) (by simp) ?_;refine AllReadyH.cons rfl (fun K hK=>?_) AllReadyH.nil;have hcc:=HC.out _ fr
 go_simp
 refine hcc.mono ?_;clear hcc;rintro e W3 ⟨v,rfl,hv,rd,jy⟩;obtain⟨ki,nk,kc,si,ns,sc,rfl,HV⟩:=Yc.out _ _ _ fr hv;clear hv;have sJ:=(jy.block nb (dQ sJ) (fun e=>by have:=HN.out;omega)).trans sJ;have fr:Fr (fun k=>k=R) w W3:=(fr.mono (fun _ x=>x.elim)).same jy;clear jy;refine hK.out _ _ (HK.out _ fr).1 (fun hHeld=>?_);clear hK K
 (try simp only[Act.put,ae,af,aj])
 rotate_left 1
 have hcc:=HC.out _ fr
 go_simp
 refine hcc.mono ?_;clear hcc;rintro e W3 ⟨v,rfl,hv,rd,jy⟩;obtain⟨ki,nk,kc,si,ns,sc,rfl,HV⟩:=Yc.out _ _ _ fr hv;clear hv;have fr:Fr (fun k=>k=R) w W3:=(fr.mono (fun _ x=>x.elim)).same jy;clear jy;refine hK.out _ _ (HK.out _ fr).1 (fun hHeld=>?_);clear hK K
 (try simp only[Act.put,ae,af,aj])
 refine wpAnyH_ready (rs:=[1,5]) (by kernel_rfl) (by simp) ?_;refine AllReadyH.cons rfl (fun K hK=>?_) (AllReadyH.cons rfl (fun K hK=>?_) AllReadyH.nil);have uo:=(HK.out _ (by first|exact fr|exact fr.mono fun _ x=>x.elim)).2.1
 go_simp
 refine hK.out _ _ hHeld (fun _=>?_);clear hK K uo
 (try simp only[Act.put,ae,af,aj])
 refine wpAnyH_take (i:=4) (v:=?_) rfl (by kernel_rfl) (by kernel_rfl) (by kernel_rfl) (fun _ _ _ h=>h) (Or.inl ⟨by rfl,?_⟩) (by assumption) ?_
 rotate_left
 ·(intro w hSw;(try dsimp only at hSw);go_simp;(try with_reducible rfl))
 (try simp only[Act.put,ae,af,aj])
 refine wpAnyH_ready (rs:=[5]) (by kernel_rfl) (by simp) ?_;refine AllReadyH.cons rfl (fun K hK=>?_) AllReadyH.nil
 go_simp
 refine hK.out _ _ (dV _ hHeld) (fun hHeld=>?_);clear hK K
 (try simp only[Act.put,ae,af,aj])
 have sJ:=dR W3 (.cells #[.string ⟨#[]⟩,.slice none 0 0,.slice none 0 0,.string ⟨#[]⟩,.string ⟨#[]⟩] 146);have xk:lo<=W3.heap.size:=aw py fr.size;have fr:=fr.alloc (.cells #[.string ⟨#[]⟩,.slice none 0 0,.slice none 0 0,.string ⟨#[]⟩,.string ⟨#[]⟩] 146);have rd:=rd.fr ((Fr.refl (fun _=>False) W3).alloc (.cells #[.string ⟨#[]⟩,.slice none 0 0,.slice none 0 0,.string ⟨#[]⟩,.string ⟨#[]⟩] 146)) (fun x=>x);have HV:=a_ (yg HV.out (.cells #[.string ⟨#[]⟩,.slice none 0 0,.slice none 0 0,.string ⟨#[]⟩,.string ⟨#[]⟩] 146));generalize Ut:W3.heap.size=nb at*
 generalize W3.alloc (.cells #[.string ⟨#[]⟩,.slice none 0 0,.slice none 0 0,.string ⟨#[]⟩,.string ⟨#[]⟩] 146)=W5 at*
 rotate_left 1
 go_simp
 refine hK.out _ _ (dV _ hHeld) (fun hHeld=>?_);clear hK K
 (try simp only[Act.put,ae,af,aj])
 have sJ:=dR W3 (.cells #[.string ⟨#[]⟩,.slice none 0 0,.slice none 0 0,.string ⟨#[]⟩,.string ⟨#[]⟩] 146);have xk:lo<=W3.heap.size:=aw py fr.size;have fr:=fr.alloc (.cells #[.string ⟨#[]⟩,.slice none 0 0,.slice none 0 0,.string ⟨#[]⟩,.string ⟨#[]⟩] 146);have rd:=rd.fr ((Fr.refl (fun _=>False) W3).alloc (.cells #[.string ⟨#[]⟩,.slice none 0 0,.slice none 0 0,.string ⟨#[]⟩,.string ⟨#[]⟩] 146)) (fun x=>x);have HV:=a_ (yg HV.out (.cells #[.string ⟨#[]⟩,.slice none 0 0,.slice none 0 0,.string ⟨#[]⟩,.string ⟨#[]⟩] 146));generalize Ut:W3.heap.size=nb at*
 generalize W3.alloc (.cells #[.string ⟨#[]⟩,.slice none 0 0,.slice none 0 0,.string ⟨#[]⟩,.string ⟨#[]⟩] 146)=W5 at*
 refine wpAnyH_ready (rs:=[1]) (by kernel_rfl) (by simp) ?_;refine AllReadyH.cons rfl (fun K hK=>?_) AllReadyH.nil;have uo:=(HK.out _ (by first|exact fr|exact fr.mono fun _ x=>x.elim)).2.1
 go_simp
 refine hK.out _ _ hHeld (fun _=>?_);clear hK K uo
 (try simp only[Act.put,ae,af,aj])
 refine wpAnyH_take (i:=4) (v:=?_) rfl (by kernel_rfl) (by kernel_rfl) (by kernel_rfl) (fun _ _ _ h=>h) (Or.inl ⟨by rfl,?_⟩) (by assumption) ?_
 rotate_left
 ·(intro w hSw;(try dsimp only at hSw);go_simp;(try with_reducible rfl))
 (try simp only[Act.put,ae,af,aj])
 rotate_left 1
 go_simp
 refine hK.out _ _ (dV _ hHeld) (fun hHeld=>?_);clear hK K
 (try simp only[Act.put,ae,af,aj])
 have sJ:=dR W0 (.cells #[.string ⟨#[]⟩,.slice none 0 0,.slice none 0 0,.string ⟨#[]⟩,.string ⟨#[]⟩] 146);have xk:lo<=W0.heap.size:=aw py fr.size;have fr:=fr.alloc (.cells #[.string ⟨#[]⟩,.slice none 0 0,.slice none 0 0,.string ⟨#[]⟩,.string ⟨#[]⟩] 146);generalize Ut:W0.heap.size=nb at*
 generalize W0.alloc (.cells #[.string ⟨#[]⟩,.slice none 0 0,.slice none 0 0,.string ⟨#[]⟩,.string ⟨#[]⟩] 146)=W5 at*
 refine wpAnyH_ready (rs:=[1,3]) (by kernel_rfl) (by simp) ?_;refine AllReadyH.cons rfl (fun K hK=>?_) (AllReadyH.cons rfl (fun K hK=>?_) AllReadyH.nil);have uo:=(HK.out _ (by first|exact fr|exact fr.mono fun _ x=>x.elim)).2.1
 go_simp
 refine hK.out _ _ hHeld (fun _=>?_);clear hK K uo
 (try simp only[Act.put,ae,af,aj])
 refine wpAnyH_take (i:=4) (v:=?_) rfl (by kernel_rfl) (by kernel_rfl) (by kernel_rfl) (fun _ _ _ h=>h) (Or.inl ⟨by rfl,?_⟩) (by assumption) ?_
 rotate_left
 ·(intro w hSw;(try dsimp only at hSw);go_simp;(try with_reducible rfl))
 (try simp only[Act.put,ae,af,aj])
 refine wpAnyH_ready (rs:=[3]) (by kernel_rfl) (by simp) ?_;refine AllReadyH.cons rfl (fun K hK=>?_) AllReadyH.nil;have hcc:=HC.out _ fr
 go_simp
 refine hcc.mono ?_;clear hcc;rintro e W3 ⟨v,rfl,hv,rd,jy⟩;obtain⟨ki,nk,kc,si,ns,sc,rfl,HV⟩:=Yc.out _ _ _ fr hv;clear hv;have sJ:=(jy.block nb (dQ sJ) (fun e=>by have:=HN.out;omega)).trans sJ;have fr:Fr (fun k=>k=R) w W3:=(fr.mono (fun _ x=>x.elim)).same jy;clear jy;refine hK.out _ _ (HK.out _ fr).1 (fun hHeld=>?_);clear hK K
 (try simp only[Act.put,ae,af,aj])
 rotate_left 1
 have hcc:=HC.out _ fr
 go_simp
 refine hcc.mono ?_;clear hcc;rintro e W3 ⟨v,rfl,hv,rd,jy⟩;obtain⟨ki,nk,kc,si,ns,sc,rfl,HV⟩:=Yc.out _ _ _ fr hv;clear hv;have sJ:=(jy.block nb (dQ sJ) (fun e=>by have:=HN.out;omega)).trans sJ;have fr:Fr (fun k=>k=R) w W3:=(fr.mono (fun _ x=>x.elim)).same jy;clear jy;refine hK.out _ _ (HK.out _ fr).1 (fun hHeld=>?_);clear hK K
 (try simp only[Act.put,ae,af,aj])
 refine wpAnyH_ready (rs:=[1]) (by kernel_rfl) (by simp) ?_;refine AllReadyH.cons rfl (fun K hK=>?_) AllReadyH.nil;have uo:=(HK.out _ (by first|exact fr|exact fr.mono fun _ x=>x.elim)).2.1
 go_simp
 refine hK.out _ _ hHeld (fun _=>?_);clear hK K uo
 (try simp only[Act.put,ae,af,aj])
 refine wpAnyH_take (i:=4) (v:=?_) rfl (by kernel_rfl) (by kernel_rfl) (by kernel_rfl) (fun _ _ _ h=>h) (Or.inl ⟨by rfl,?_⟩) (by assumption) ?_
 rotate_left
 ·(intro w hSw;(try dsimp only at hSw);go_simp;(try with_reducible rfl))
 (try simp only[Act.put,ae,af,aj])
 rotate_left 1
 all_goals
  obtain⟨-,-,Yb,hbr,gp⟩:=HK.out _ fr;obtain⟨xs,x1,x2,x3⟩:=gp.ex;have X3:=a_ x3;have GPH:=a_ gp;clear x3 gp;refine wpAnyH_ready (rs:=[6]) (by kernel_rfl) (by simp) ?_;refine AllReadyH.cons rfl (fun K hK=>?_) AllReadyH.nil;refine eL rfl (.tmp 3) (.tmp 7) 142 rfl 146 i0 _ 5 96 underlying142 hi hz0 hz1 hz2 rfl (by decide) (.slice pi ps.length pc) ps.length (jl xs) (by simp[Act.eval]) x2 ⟨nb,0,none⟩ 1 1 [.string ⟨#[]⟩,.slice none 0 0,.slice none 0 0,.string ⟨#[]⟩,.string ⟨#[]⟩] (by simp[Act.eval]) rfl (RU sJ) Ve (by unfold maxLen;omega) (by omega) ?_;intro v' W6 ho hgr hat;obtain⟨g,cap,rfl⟩:=qg ho;have hrow:∀b,b<lo->b<W3.heap.size\/True->some b≠(Value.slice pi ps.length pc).ownBlock:=fun b hb _ e=>by have:=GPH.out.own b e.symm;omega
  have b6r:=(hgr.block Br (dQ hbr) (hrow Br HN.out.2.2.1 (Or.inr trivial))).trans hbr;have b6s:=(hgr.block Bs (dQ Yb) (hrow Bs HN.out.2.1 (Or.inr trivial))).trans Yb;refine hK.out _ _ (cell_of b6r rfl) (fun hHeld=>?_);clear hK K
  (try simp only[Act.put,ae,af,aj])
  refine wpAnyH_take (i:=7) (v:=?_) rfl (by kernel_rfl) (by kernel_rfl) (by kernel_rfl) (fun _ _ _ h=>h) (Or.inl ⟨by rfl,?_⟩) (by assumption) ?_
  rotate_left
  ·(intro w hSw;(try dsimp only at hSw);go_simp;(try with_reducible rfl))
  (try simp only[Act.put,ae,af,aj])
  refine wpAnyH_take (i:=9) (v:=?_) rfl (by kernel_rfl) (by kernel_rfl) (by kernel_rfl) (fun _ _ _ h=>h) (Or.inl ⟨by rfl,?_⟩) (by assumption) ?_
  rotate_left
  ·(intro w hSw;(try dsimp only at hSw);go_simp;(try with_reducible rfl))
  (try simp only[Act.put,ae,af,aj])
  have hlen:(jl xs).length=ps.length*5:=by rw[yb,<-x1,cJ]
  have RJ:W6.there g (ps.length*5) 5:=(yf (ys:=[.string (bs p.op),.slice ki nk kc,.slice si ns sc,.string (bs p.attr),.string (bs p.text)]) ho hlen rfl rfl).2;have zV:g≠Bs:=fun e=>by
   have:lo<=g:=by
    rcases hat with e|e
    ·exact GPH.out.own g e.symm
    ·have e2:g=_:=aX e;have:=fr.size;have:=HN.out;omega
   have:=HN.out;omega
  have hgR:g≠Br:=fun e=>by
   have:lo<=g:=by
    rcases hat with e|e
    ·exact GPH.out.own g e.symm
    ·have e2:g=_:=aX e;have:=fr.size;have:=HN.out;omega
   have:=HN.out;omega
  have GF:Hid (∀WF,WF.heap[g]?=(W6.setCells g (ps.length*5) [.string (bs p.op),.slice ki nk kc,.slice si ns sc,.string (bs p.attr),.string (bs p.text)]).heap[g]?->WF.heap[Bs]?=some (.cells #[.bool d,.string (bs te),Z9 g (ps.length+1) cap] 144 (0,0))->(∀b,b≠g->b≠Bs->WF.heap[b]?=W6.heap[b]?)->(WF.os=W6.os/\WF.tape=W6.tape/\WF.output=W6.output/\WF.heap.size=W6.heap.size)->RD R t wh n WF l2/\AL lo Bs Br R d te ps WF p/\Fr (fun k=>k=R\/k=Bs\/lo<=k) w WF):=fun WF h1 h2 h3 h4=>by
   obtain⟨n1,n2,n3,n4,n5,n6,n7⟩:=HN.out;exact Eo fr rd n1 n2 n3 n4 n5 n6 n7 GPH.out hbr Yb x1 X3.out HV.out ho hgr hat h1 h2 h3 h4
  have HO:=a_ ho;clear ho hgr hat hrow hlen x1 x2 hbr Yb hkk aat;refine wpAnyH_ready (rs:=[8,10]) (by kernel_rfl) (by simp) ?_;refine AllReadyH.cons rfl (fun K hK=>?_) (AllReadyH.cons rfl (fun K hK=>?_) AllReadyH.nil)
  ·refine qf rfl 146 (.tmp 9) (.tmp 5) rfl g (ps.length*5) #[.string (bs p.op),.slice ki nk kc,.slice si ns sc,.string (bs p.attr),.string (bs p.text)] (by simp[Act.eval]) (by simp[Act.eval]) RJ hi5 (Ya _ _ _ _ _ _ _ _ _) ?_;have b7r:=(fk (fun e=>hgR e.symm) [.string (bs p.op),.slice ki nk kc,.slice si ns sc,.string (bs p.attr),.string (bs p.text)] (ps.length*5) W6).trans b6r;have b7s:=(fk (fun e=>zV e.symm) [.string (bs p.op),.slice ki nk kc,.slice si ns sc,.string (bs p.attr),.string (bs p.text)] (ps.length*5) W6).trans b6s;have H7:=lK (g:=g) [.string (bs p.op),.slice ki nk kc,.slice si ns sc,.string (bs p.attr),.string (bs p.text)] (ps.length*5) W6;have H8:=a_ (fun b (hb:b≠g)=>fk hb [.string (bs p.op),.slice ki nk kc,.slice si ns sc,.string (bs p.attr),.string (bs p.text)] (ps.length*5) W6);have H7:=a_ H7;refine hK.out _ _ (cell_of b7r rfl) (fun hHeld=>?_);clear hK K
   (try simp only[Act.put,ae,af,aj])
   generalize W6.setCells g (ps.length*5) [.string (bs p.op),.slice ki nk kc,.slice si ns sc,.string (bs p.attr),.string (bs p.text)]=W7 at*
   refine wpAnyH_ready (rs:=[10]) (by kernel_rfl) (by simp) ?_;refine AllReadyH.cons rfl (fun K hK=>?_) AllReadyH.nil;have c7:=cell_of (i:=2) b7s rfl;have f7:=dY (i:=2) b7s
   go_simp
   have b8r:=(ak W7 ⟨Bs,2,none⟩ (Z9 g (ps.length+1) cap) Br (fun e=>HN.out.2.2.2.2.2.1 e.symm)).trans b7r;refine hK.out _ _ (cell_of b8r rfl) (fun hHeld=>?_);clear hK K;refine wpAnyH_done (by kernel_rfl) ?_ _;obtain⟨q1,q2,q3⟩:=GF.out (W7.setCell ⟨Bs,2,none⟩ (Z9 g (ps.length+1) cap)) (ak _ _ _ _ zV) (eh b7s _) (fun b h1 h2=>(ak _ _ _ _ h2).trans (H8.out b h1)) ⟨H7.out.1,H7.out.2.1,H7.out.2.2.1,by rw[<-H7.out.2.2.2];simp[World.setCell]⟩
   go_end0
   exact⟨rfl,q1,q2,q3⟩
  ·have c7:=cell_of (i:=2) b6s rfl;have f7:=dY (i:=2) b6s
   go_simp
   have b8r:=(ak W6 ⟨Bs,2,none⟩ (Z9 g (ps.length+1) cap) Br (fun e=>HN.out.2.2.2.2.2.1 e.symm)).trans b6r;have b8s:=eh (i:=2) b6s (Z9 g (ps.length+1) cap);have b8g:=ak W6 ⟨Bs,2,none⟩ (Z9 g (ps.length+1) cap) g zV;have H8:=a_ (fun b (hb:b≠Bs)=>ak W6 ⟨Bs,2,none⟩ (Z9 g (ps.length+1) cap) b hb);have ht8:(W6.setCell ⟨Bs,2,none⟩ (Z9 g (ps.length+1) cap)).there g (ps.length*5) 5:=fun j hj=>by
    have e1:(W6.setCell ⟨Bs,2,none⟩ (Z9 g (ps.length+1) cap)).cell? ⟨g,ps.length*5+j,none⟩=W6.cell? ⟨g,ps.length*5+j,none⟩:=ar b8g;obtain⟨cur,zW⟩:=fq HO.out (k:=g) rfl;exact⟨by rw[e1];exact(RJ j hj).1,dY (b8g.trans zW)⟩
   have h8z:Hid ((W6.setCell ⟨Bs,2,none⟩ (Z9 g (ps.length+1) cap)).heap.size=W6.heap.size):=by simp[World.setCell,Hid]
   have h8o:Hid ((W6.setCell ⟨Bs,2,none⟩ (Z9 g (ps.length+1) cap)).os=W6.os/\(W6.setCell ⟨Bs,2,none⟩ (Z9 g (ps.length+1) cap)).tape=W6.tape/\(W6.setCell ⟨Bs,2,none⟩ (Z9 g (ps.length+1) cap)).output=W6.output):=⟨rfl,rfl,rfl⟩
   refine hK.out _ _ (cell_of b8r rfl) (fun hHeld=>?_);clear hK K
   (try simp only[Act.put,ae,af,aj])
   generalize W6.setCell ⟨Bs,2,none⟩ (Z9 g (ps.length+1) cap)=W8 at*
   refine wpAnyH_ready (rs:=[8]) (by kernel_rfl) (by simp) ?_;refine AllReadyH.cons rfl (fun K hK=>?_) AllReadyH.nil;refine qf rfl 146 (.tmp 9) (.tmp 5) rfl g (ps.length*5) #[.string (bs p.op),.slice ki nk kc,.slice si ns sc,.string (bs p.attr),.string (bs p.text)] (by simp[Act.eval]) (by simp[Act.eval]) ht8 hi5 (Ya _ _ _ _ _ _ _ _ _) ?_;have H9:=lK (g:=g) [.string (bs p.op),.slice ki nk kc,.slice si ns sc,.string (bs p.attr),.string (bs p.text)] (ps.length*5) W8;have b9r:=(fk (fun e=>hgR e.symm) [.string (bs p.op),.slice ki nk kc,.slice si ns sc,.string (bs p.attr),.string (bs p.text)] (ps.length*5) W8).trans b8r;have b9s:=(fk (fun e=>zV e.symm) [.string (bs p.op),.slice ki nk kc,.slice si ns sc,.string (bs p.attr),.string (bs p.text)] (ps.length*5) W8).trans b8s;refine hK.out _ _ (cell_of b9r rfl) (fun hHeld=>?_);clear hK K;refine wpAnyH_done (by kernel_rfl) ?_ _;obtain⟨q1,q2,q3⟩:=GF.out (W8.setCells g (ps.length*5) [.string (bs p.op),.slice ki nk kc,.slice si ns sc,.string (bs p.attr),.string (bs p.text)]) (sL _ _ _ _ b8g) b9s (fun b h1 h2=>(fk h1 _ _ _).trans (H8.out b h2)) ⟨H9.1.trans h8o.out.1,H9.2.1.trans h8o.out.2.1,H9.2.2.1.trans h8o.out.2.2,H9.2.2.2.trans h8z.out⟩
   go_end0
   exact⟨rfl,q1,q2,q3⟩
end
section
variable{w w' w1 w2:World}{F G:Nat->Prop}{R:Nat}{t l l':L}{wh n:Nat}{eW:Option (L->Rs gz)}
def qh(R:Nat)(t:L)(wh n:Nat)(eW:Option (L->Rs gz)):Prop:=(eW=none/\n=8)\/∃f,eW=some f/\n<8/\(∀l,gy l (f l))/\ye R t wh (n+1) f
theorem qh.xh(h:qh R t wh n eW):ub eW:=by
 rcases h with⟨rfl,_⟩|⟨f,rfl,_,hs,_⟩
 ·intro f e;cases e
 ·intro g e;cases e;exact hs
theorem N6:∀args w,(callFunc 177 args).run prog w=.ok (.enter 177 args) w:=enters_of func177 (by kernel_rfl) rfl
theorem Ep{Bs Br lo pc:Nat}{pi:Option Addr}{d:Bool}{te:L}{ps:List gz}(hi:qh R t wh n eW)(h:RD R t wh n w l)(hs:w.heap[Bs]?=some (.cells #[.bool d,.string (bs te),.slice pi ps.length pc] 144 (0,0)))(hr:w.heap[Br]?=some (.cells #[ptr R] 170 (0,0)))(hg:GP lo 144 146 w (.slice pi ps.length pc) ps)(hR:R<lo)(hB:Bs<lo)(N1:Br<lo)(N3:R≠Bs)(Nt:R≠Br)(Vd:Bs≠Br)(py:lo<=w.heap.size)(hn:ps.length<=500):
  Z4 176 #[ptr R,.string ⟨#[91]⟩,.string ⟨#[93]⟩,.func (.func 177) #[] #[ptr Bs,ptr Br]] w (Lays R t wh n (fun k=>k=R\/k=Bs\/lo<=k) (AL lo Bs Br R d te ps) w (within (ei t wh) eW [91] [93] l)):=by
 rcases hi with⟨rfl,rfl⟩|⟨f,rfl,hn8,Rl,hc⟩
 ·exact(wM (o:=[91]) (s:=[93]) h).mono fun e w' x=>⟨x.1,x.2.mono fun k e=>Or.inl e⟩
 ·refine AK (o:=[91]) (s:=[93]) (k:=177) h hn8 (Or.inl rfl) N6 (fun W l1 _ rd fr=>?_) (fun W W' p hx fr=>?_)
  ·have hs':=(fr.block Bs (dQ hs) (fun e=>N3 e.symm)).trans hs;have Xm:=(fr.block Br (dQ hr) (fun e=>Nt e.symm)).trans hr;have hg':=hg.fr fr fun k e _=>by omega
   have Nr:Fr (fun k=>k=R\/k=Bs\/lo<=k) w W:=fr.mono fun k e=>Or.inl e;cases hf:f l1 with
   |error y=>exact(N0 (F:=fun k=>k=R\/k=Bs\/lo<=k) hc rd hs' Xm hg' hR hB N1 N3 Nt Vd (aw py fr.size) hn hf fun k e=>Or.inl e).mono fun e w' x=>⟨x.1,Nr.same x.2⟩
   |ok z=>exact(N5 hc rd hs' Xm hg' hR hB N1 N3 Nt Vd (aw py fr.size) hn (p:=z.1) (l2:=z.2) hf).mono fun e w' x=>⟨x.1,x.2.1,x.2.2.1,Nr.same x.2.2.2⟩
  ·obtain⟨pi,pc,a1,a2,a3⟩:=hx;exact⟨pi,pc,(fr.block Bs (dQ a1) (fun e=>N3 e.symm)).trans a1,a2.fr fr (fun k e _=>by omega),(fr.block Br (dQ a3) (fun e=>Nt e.symm)).trans a3⟩
theorem Fr.restrict{F G:Nat->Prop}(h:Fr F w w')(hk:∀k,k<w.heap.size->F k->G k):Fr G w w':=⟨h.os,h.tape,h.output,h.size,fun k hl hg=>h.block k hl (fun x=>hg (hk k hl x))⟩
def vB(R:Nat)(t:L)(W:World):Nat:=t.length-(RowKit.intOf ((W.cell? ⟨R,2,none⟩).getD (.int .i64 0))).toNat
theorem RD.vB(h:RD R t wh n w l):vB R t w=l.length:=by
 have c2:w.cell? ⟨R,2,none⟩=some (.int .i64 ((t.length-l.length:Nat):Int)):=cell_of h.blk rfl;have:=h.le;unfold Proofs.YtclgfepngpeifaaGreatDoor.vB;rw[c2];simp[RowKit.intOf];omega
theorem RV{α β γ:Type}(x:Rs α)(f:α->L->Rs β)(g:β->L->Rs γ):thn (thn x f) g=thn x fun a l=>thn (f a l) g:=by
 cases x with
 |error y=>rfl
 |ok z=>rfl
theorem aau{b:Nat}{x y z:Value}{ty:TypeId}(a c e:Value)(h:w.heap[b]?=some (.cells #[x,y,z] ty (0,0))):∃W,((w.setCell ⟨b,0,none⟩ a).setCell ⟨b,1,none⟩ c).setCell ⟨b,2,none⟩ e=W/\W.heap[b]?=some (.cells #[a,c,e] ty (0,0))/\Fr (fun k=>k=b) w W:=
 ⟨_,rfl,eh (i:=2) (eh (i:=1) (eh (i:=0) h a) c) e,(((Fr.refl (fun k=>k=b) w).set ⟨b,0,none⟩ a (fun _=>rfl)).set ⟨b,1,none⟩ c (fun _=>rfl)).set ⟨b,2,none⟩ e (fun _=>rfl)⟩
theorem KI{cut:Bool}{fu:Nat}(hp:part l≠[91]):gu cut eW fu l=.ok ([],l):=by
 cases fu with
 |zero=>rfl
 |succ f=>unfold gu;rw[if_neg hp]
structure LI(R:Nat)(t:L)(wh n:Nat)(eW:Option (L->Rs gz))(w:World)(Bs:Nat)(d:Bool)(te:L)(l1:L)(wr:World)(ps:List gz)(lc:L)(pi:Option Addr)(pc:Nat):Prop where
 rd:RD R t wh n wr lc
 Vf:wr.heap[Bs]?=some (.cells #[.bool d,.string (bs te),.slice pi ps.length pc] 144 (0,0))
 br:wr.heap[w.heap.size]?=some (.cells #[ptr R] 170 (0,0))
 bq:wr.heap[w.heap.size+1]?=some (.cells #[.bool false,.string ⟨#[]⟩,.slice none 0 0] 144 (0,0))
 gp:GP (Bs+1) 144 146 wr (.slice pi ps.length pc) ps
 fr:Fr (fun k=>k=R\/w.heap.size<=k) w wr
 lo:w.heap.size+1<Bs
 eq:∃fu,lc.length<fu/\gu (ei t wh) eW (l1.length+1) l1=thn (gu (ei t wh) eW fu lc) fun qs l=> .ok (ps++qs,l)
 sm:ps.length+lc.length<=500
 nl:ps=[]->(Value.slice pi ps.length pc)=fh
theorem LI.next{Bs:Nat}{d:Bool}{te l1 lc l2:L}{wr w2:World}{ps:List gz}{pi:Option Addr}{pc:Nat}{p:gz}(hR:R<w.heap.size)(hi:qh R t wh n eW)(h:LI R t wh n eW w Bs d te l1 wr ps lc pi pc)(hp:part lc=[91])(hw:within (ei t wh) eW [91] [93] lc=.ok (p,l2))(rd:RD R t wh n w2 l2)(ha:AL (Bs+1) Bs w.heap.size R d te ps w2 p)(fr:Fr (fun k=>k=R\/k=Bs\/Bs+1<=k) wr w2):
  (∃pi pc,LI R t wh n eW w Bs d te l1 w2 (ps++[p]) l2 pi pc)/\l2.length<lc.length:=by
 obtain⟨pi',pc',a1,a2,a3⟩:=ha;obtain⟨fu,e1,e2⟩:=h.eq;have hlt:=KD hi.xh (by decide) hw;have py:=h.lo;refine⟨⟨pi',pc',rd,by simpa using a1,a3,(fr.block _ (dQ h.bq) (by omega)).trans h.bq,by simpa using a2,h.fr.trans fr (fun i hi x=>by omega),h.lo,?_,by have:=h.sm;simp;omega,fun e=>by simp at e⟩,hlt⟩;cases fu with
 |zero=>omega
 |succ fu=>
  refine⟨fu,by omega,?_⟩;rw[e2]
  conv=>lhs;rw[gu,if_pos hp,hw]
  simp only[thn,RV];cases gu (ei t wh) eW fu l2 with
  |error y=>rfl
  |ok z=>simp
theorem LI.er{Bs:Nat}{d:Bool}{te l1 lc:L}{wr:World}{ps:List gz}{pi:Option Addr}{pc:Nat}{y:Nat×Nat}(h:LI R t wh n eW w Bs d te l1 wr ps lc pi pc)(hp:part lc=[91])(hw:within (ei t wh) eW [91] [93] lc=.error y):gu (ei t wh) eW (l1.length+1) l1=.error y:=by
 obtain⟨fu,e1,e2⟩:=h.eq;cases fu with
 |zero=>omega
 |succ fu=>rw[e2,gu,if_pos hp,hw];rfl
theorem LI.out{Bs:Nat}{d:Bool}{te l1 lc:L}{wr:World}{ps:List gz}{pi:Option Addr}{pc:Nat}(h:LI R t wh n eW w Bs d te l1 wr ps lc pi pc)(hp:part lc≠[91]):gu (ei t wh) eW (l1.length+1) l1=.ok (ps,lc):=by
 obtain⟨fu,e1,e2⟩:=h.eq;rw[e2,KI hp];simp[thn]
theorem LI.last{Bs:Nat}{d:Bool}{te l1 lc:L}{wr:World}{ps:List gz}{pi:Option Addr}{pc:Nat}(hR:R<w.heap.size)(h:LI R t wh n eW w Bs d te l1 wr ps lc pi pc)(hp:part lc≠[91]){w5:World}(fr:Fr (fun k=>k=w.heap.size+1) wr w5):
  ∃v,.agg #[.bool d,.string (bs te),.slice pi ps.length pc]=v/\SV (fun b=>w.heap.size<=b) 144 146 w5 v ⟨d,te,gR.of ps⟩/\RD R t wh n w5 lc/\Fr (fun k=>k=R) w w5:=by
 have py:=h.lo;have g5:=(h.gp.fr fr fun k e _=>by omega).done (by have:=h.sm;omega) h.nl;exact⟨_,rfl,⟨_,rfl,g5.move fun b hb _=>⟨by omega,rfl⟩⟩,h.rd.fr fr (by omega),(h.fr.trans fr (fun i hi x=>by omega)).trans (G:=fun _=>False) (Fr.refl _ _) (fun _ _ x=>x.elim)|>.restrict (fun k hk x=>by omega)⟩
theorem oQ(d:Bool)(hi:qh R t wh n eW)(h:RD R t wh n w l):Z4 132 #[ptr R,.bool d] w (Ends R t wh n (SV (fun b=>w.heap.size<=b) 144 146) w (step (ei t wh) eW d l)):=by
 have HT:Hid (∀W,Z5 w W->Z4 175 #[ptr R] W (Ends R t wh n VS W (test (ei t wh) l))):=fun W hW=>RQ (h.below hW);have HB:Hid (∀o1 o2,Z5 w ((w.alloc o1).alloc o2)):=fun o1 o2=>((Below.refl _ w).alloc (au _) o1).alloc (by simp) o2;unfold step;cases hx:test (ei t wh) l with
 |error y=>
  rw[hx]at HT;simp only[thn];clear hx h;go_enter func132,ntmps132;go_wp2_with(first|(go_at_call 175;refine(HT.out _ (HB.out _ _)).mono ?_;rintro e w2 ⟨rfl,fr⟩));exact⟨rfl,rfl,(Fr.below (HB.out _ _)).same fr⟩
 |ok z=>
  obtain⟨te,l1⟩:=z;rw[hx]at HT;have hR:=h.lt;have hsm:l1.length<=500:=by have:=(Ed l te l1 hx).length_le;have:=h.le;have:=h.tw;have:=h.Cz;omega
  have HL:Hid (∀w2,RD R t wh n w2 l1->Fr (fun k=>k=R) ((w.alloc (.cells #[ptr R] 170)).alloc (.cells #[.bool false,.string ⟨#[]⟩,.slice none 0 0] 144)) w2->LI R t wh n eW w w2.heap.size d te l1 (w2.alloc (.cells #[.bool d,.string (bs te),.slice none 0 0] 144)) [] l1 none 0):=fun w2 rd fr=>by
   have hz:w.heap.size+2<=w2.heap.size:=by have:=fr.size;simp at this;omega
   have f1:Fr (fun _=>False) w2 (w2.alloc (.cells #[.bool d,.string (bs te),.slice none 0 0] 144)):=(Fr.refl _ _).alloc _;have q1:w2.heap[w.heap.size]?=some (.cells #[ptr R] 170 (0,0)):=by rw[fr.block w.heap.size (by simp;omega) (by omega),ay _ _ _ (by simp)];exact dR _ _
   have q2:w2.heap[w.heap.size+1]?=some (.cells #[.bool false,.string ⟨#[]⟩,.slice none 0 0] 144 (0,0)):=by
    rw[fr.block (w.heap.size+1) (by simp) (by omega)];have:=dR (w.alloc (.cells #[ptr R] 170)) (.cells #[.bool false,.string ⟨#[]⟩,.slice none 0 0] 144);simpa using this
   exact⟨rd.fr f1 (fun x=>x),dR _ _,(ay _ _ _ (by omega)).trans q1,(ay _ _ _ (by omega)).trans q2,GP.zero,(((Fr.below (HB.out _ _)).same fr).alloc _).mono (fun k e=>Or.inl e),by omega,⟨l1.length+1,by omega,by
    cases gu (ei t wh) eW (l1.length+1) l1 with
    |error y=>rfl
    |ok z=>rfl⟩,by simpa using hsm,fun _=>rfl⟩
  have HI:=a_ hi;simp only[thn];clear hx h hsm hi;obtain⟨X,hX⟩:∃X,(thn (gu (ei t wh) eW (l1.length+1) l1) fun ps l=>(.ok (⟨d,te,gR.of ps⟩,l):Rs iE))=X:=⟨_,rfl⟩
  simp only[thn]at hX;rw[hX];have HX:=a_ hX;clear hX;have Yd:∀(fn:Fn) (first cap:Array Value) (w:World),(Instr.makeFunc fn first cap).run prog w=.ok (.func fn first cap) w:=fun _ _ _ _=>rfl;go_enter func132,ntmps132;go_wp2_with(first|(go_at_call 175;refine(HT.out _ (HB.out _ _)).mono ?_;rintro e w2 ⟨v,rfl,rfl,rd,fr⟩));have hL:=HL.out w2 rd fr;have HL0:=a_ hL;clear rd fr hL;generalize w2.heap.size=Bs at*
  generalize w2.alloc (.cells #[.bool d,.string (bs te),.slice none 0 0] 144)=WL at*
  go_loopw [10,11,12,13,14,15] (fun _ _ _ _ _ _ wr=>∃ps lc pi pc,LI R t wh n eW w Bs d te l1 wr ps lc pi pc) (fun _ _ _ _ _ _ wr=>vB R t wr)
  case atStart=>exact⟨_,_,_,_,HL0.out⟩
  case round=>
   rename World=>WO
   obtain⟨ps,lc,pi,pc,hL⟩:=hrel;have HP:=a_ (jA hL.rd);have HL1:=a_ hL;have c0:WO.cell? ⟨w.heap.size,0,none⟩=some (ptr R):=cell_of hL.br rfl;have HU:Hid (∀W,Z5 WO W->W.cell? ⟨w.heap.size,0,none⟩=some (ptr R)/\LI R t wh n eW w Bs d te l1 W ps lc pi pc):=fun W hW=>by
    have f1:Fr (fun _=>False) WO W:=Fr.below hW;have b1:=(f1.block _ (dQ hL.br) (fun x=>x)).trans hL.br;exact⟨cell_of b1 rfl,hL.rd.fr f1 (fun x=>x),(f1.block _ (dQ hL.Vf) (fun x=>x)).trans hL.Vf,b1,(f1.block _ (dQ hL.bq) (fun x=>x)).trans hL.bq,hL.gp.fr f1 (fun _ x _=>x.elim),hL.fr.trans f1 (fun _ _ x=>x.elim),hL.lo,hL.eq,hL.sm,hL.nl⟩
   have zX:vB R t WO=lc.length:=hL.rd.vB;clear hL;by_cases hp:part lc=[91]
   ·have hb:((bs (part lc)).toList==[91])=true:=by rw[fe,hp];rfl
    generalize bs (part lc)=S at*
    have HW:Hid (∀W,LI R t wh n eW w Bs d te l1 W ps lc pi pc->Z4 176 #[ptr R,.string ⟨#[91]⟩,.string ⟨#[93]⟩,.func (.func 177) #[] #[ptr Bs,ptr w.heap.size]] W (Lays R t wh n (fun k=>k=R\/k=Bs\/Bs+1<=k) (AL (Bs+1) Bs w.heap.size R d te ps) W (within (ei t wh) eW [91] [93] lc))):=fun W hW=>by
     have:=hW.lo;have:=hW.sm;exact Ep HI.out hW.rd hW.Vf hW.br hW.gp (by omega) (by omega) (by omega) (by omega) (by omega) (by omega) (dQ hW.Vf) (by omega)
    cases hw:within (ei t wh) eW [91] [93] lc with
    |error y=>
     rw[hw]at HW;have hX:=HX.out;rw[HL1.out.er hp hw]at hX;simp only at hX;subst hX;have HLO:=a_ HL1.out.lo;clear hw hp;go_wp2_with(first|(go_at_call 135;refine HP.out.mono ?_;rintro e w3 ⟨rfl,hb3⟩;obtain⟨c3,hL3⟩:=HU.out _ hb3)|(go_at_call 176;refine(HW.out _ hL3).mono ?_;rintro e w4 ⟨rfl,iz⟩));refine⟨rfl,rfl,?_⟩;have:=HLO.out;exact(hL3.fr.trans iz (fun i hi x=>by omega)).restrict (fun k hk x=>by omega)
    |ok z=>
     obtain⟨p,l2⟩:=z;rw[hw]at HW;have G6:=a_ (fun W w2 (hW:LI R t wh n eW w Bs d te l1 W ps lc pi pc) rd ha fr=>LI.next hR HI.out hW hp hw (w2:=w2) rd ha fr);clear hw hp;go_wp2_with(first|(go_at_call 135;refine HP.out.mono ?_;rintro e w3 ⟨rfl,hb3⟩;obtain⟨c3,hL3⟩:=HU.out _ hb3)|(go_at_call 176;refine(HW.out _ hL3).mono ?_;rintro e w4 ⟨rfl,jf,ha4,iz⟩));obtain⟨⟨pi',pc',hL4⟩,hlt⟩:=G6.out _ _ hL3 jf ha4 iz;exact⟨⟨_,_,_,_,hL4⟩,by rw[hL4.rd.vB,zX];exact hlt⟩
   ·have hb:((bs (part lc)).toList==[91])=false:=by rw[fe];simpa using hp
    generalize bs (part lc)=S at*
    have hX:=HX.out;rw[HL1.out.out hp]at hX;simp only at hX;subst hX;have HLS:=a_ (fun W w5 (hW:LI R t wh n eW w Bs d te l1 W ps lc pi pc) (fr:Fr (fun k=>k=w.heap.size+1) W w5)=>hW.last hR hp fr);clear hp;have Ye:Hid (∀W,LI R t wh n eW w Bs d te l1 W ps lc pi pc->(W.cell? ⟨Bs,0,none⟩=some (.bool d)/\W.cell? ⟨Bs,1,none⟩=some (.string (bs te))/\W.cell? ⟨Bs,2,none⟩=some (.slice pi ps.length pc))/\(W.cell? ⟨w.heap.size+1,0,none⟩=some (.bool false)/\W.cell? ⟨w.heap.size+1,1,none⟩=some (.string ⟨#[]⟩)/\W.cell? ⟨w.heap.size+1,2,none⟩=some (.slice none 0 0))/\(W.frozen? ⟨w.heap.size+1,0,none⟩=false/\W.frozen? ⟨w.heap.size+1,1,none⟩=false/\W.frozen? ⟨w.heap.size+1,2,none⟩=false)):=fun W hW=>
     ⟨⟨cell_of hW.Vf rfl,cell_of hW.Vf rfl,cell_of hW.Vf rfl⟩,⟨cell_of hW.bq rfl,cell_of hW.bq rfl,cell_of hW.bq rfl⟩,dY hW.bq,dY hW.bq,dY hW.bq⟩
    go_wp2_with(first|(go_at_call 135;refine HP.out.mono ?_;rintro e w3 ⟨rfl,hb3⟩;obtain⟨c3,hL3⟩:=HU.out _ hb3;obtain⟨⟨x0,x1,x2⟩,⟨y0,y1,y2⟩,z0,z1,z2⟩:=Ye.out _ hL3));obtain⟨W5,lg,r5,lJ⟩:=aau (.bool d) (.string (bs te)) (.slice pi ps.length pc) hL3.bq;rw[lg];clear lg x0 x1 x2 y0 y1 y2 z0 z1 z2 c3;have k0:=cell_of (i:=0) r5 rfl;have k1:=cell_of (i:=1) r5 rfl;have k2:=cell_of (i:=2) r5 rfl;obtain⟨v,hv,sv,sf,vK⟩:=HLS.out _ _ hL3 lJ;subst hv;refine aJ (v:=.agg #[.bool d,.string (bs te),.slice pi ps.length pc]) (by simp[results,results132,go_sem,k0,k1,k2]) rfl ⟨_,rfl,sv,sf,vK⟩
end
section
variable{w w' w1 w2 W0 W2 W4:World}{F G:Nat->Prop}{R lo:Nat}{t l l':L}{wh n:Nat}{eW:Option (L->Rs gz)}{tS tP:TypeId}{v v' vp vk vs:Value}
theorem kK(cs:List Value)(ty:TypeId)(w:World):∀j u,cs[j]?=some u->(w.alloc (.cells cs.toArray ty)).cell? ((⟨w.heap.size,0,none⟩:Addr).add j)=some u:=by
 intro j u hu;rw[cZ,aG,cell_of (bf w _) (v:=u)];rw[cu];exact hu
theorem yh(cs:List Value)(ty:TypeId)(sz:Nat)(w:World)(h:cs.length=sz)(hs:0<sz):(w.alloc (.cells cs.toArray ty)).ownsRow 0 ty sz (.slice (some ⟨w.heap.size,0,none⟩) 1 1) 1 cs:=
 ⟨by omega,Or.inr ⟨w.heap.size,1,cs.toArray,rfl,aB _,bf w _,by decide,by decide,by simp;omega,by simp[bS,h]⟩⟩
theorem GS.first{s:iE}(py:lo<=w.heap.size)(sv:pV w (fun b=>lo<=b) tS tP vp s.gu):GS lo tS tP (w.alloc (.cells #[.bool s.deep,.string (bs s.test),vp] tS)) (.slice (some ⟨w.heap.size,0,none⟩) 1 1) [s]:=
 ⟨⟨[(s,vp)],rfl,yh [.bool s.deep,.string (bs s.test),vp] tS 3 w rfl (by decide),fun x hx=>by
   obtain rfl:x=(s,vp):=by simpa using hx
   exact sv.move fun b hb hl=>⟨⟨hb,fun e=>by have:b=w.heap.size:=aX e;omega⟩,ay _ _ _ hl⟩⟩,fun k e=>by have:w.heap.size=k:=aX e;omega⟩
theorem GP.first{s:gz}(py:lo<=w.heap.size)(sv:pV w (fun b=>lo<=b) tS tP vk s.kids/\qd w (fun b=>lo<=b) tS tP vs s.steps):GP lo tS tP (w.alloc (.cells #[.string (bs s.op),vk,vs,.string (bs s.attr),.string (bs s.text)] tP)) (.slice (some ⟨w.heap.size,0,none⟩) 1 1) [s]:=
 ⟨⟨[(s,vk,vs)],rfl,yh [.string (bs s.op),vk,vs,.string (bs s.attr),.string (bs s.text)] tP 5 w rfl (by decide),fun x hx=>by
   obtain rfl:x=(s,vk,vs):=by simpa using hx
   have hm:Move (fun b=>lo<=b) (fun b=>lo<=b/\some b≠(Value.slice (some ⟨w.heap.size,0,none⟩) 1 1).ownBlock) w (w.alloc (.cells #[.string (bs s.op),vk,vs,.string (bs s.attr),.string (bs s.text)] tP)):=fun b hb hl=>⟨⟨hb,fun e=>by have:b=w.heap.size:=aX e;omega⟩,ay _ _ _ hl⟩
   exact⟨sv.1.move hm,sv.2.move hm⟩⟩,fun k e=>by have:w.heap.size=k:=aX e;omega⟩
theorem GS.lt{ls:List iE}(h:GS lo tS tP w v ls){k:Nat}(e:v.ownBlock=some k):k<w.heap.size:=by obtain⟨xs,_,h2,_⟩:=h.ex;exact ej h2 e
theorem GP.lt{ls:List gz}(h:GP lo tS tP w v ls){k:Nat}(e:v.ownBlock=some k):k<w.heap.size:=by obtain⟨xs,_,h2,_⟩:=h.ex;exact ej h2 e
theorem yi{row:Option Nat}(hg:w1.grownBy w2 row)(hr:∀k,row=some k->lo<=k):Fr (fun k=>k=R\/lo<=k) w1 w2:=
 ⟨hg.os,hg.tape,hg.output,hg.size,fun k hk hf=>hg.block k hk (fun e=>hf (Or.inr (hr k e.symm)))⟩
theorem GS.G7{ls:List iE}{s:iE}(h:GS lo tS tP W0 v ls)(fr:Fr (fun k=>k=R) W0 W2)(hR:R<lo)(py:lo<=W0.heap.size)(sv:pV W2 (fun b=>W0.heap.size<=b) tS tP vp s.gu)(o:Obj):
  ∃xs,(W2.alloc o).ownsRow 0 tS 3 v ls.length (gZ xs)/\∀v' W4,W4.ownsRow 0 tS 3 v' (ls.length+1) (gZ xs++[.bool s.deep,.string (bs s.test),vp])->(W2.alloc o).grownBy W4 v.ownBlock->(v'.ownBlock=v.ownBlock\/v'.ownBlock=some (W2.alloc o).heap.size)->GS lo tS tP W4 v' (ls++[s])/\Fr (fun k=>k=R\/lo<=k) W0 W4/\Fr (fun k=>lo<=k) W2 W4:=by
 have g3:=h.fr (fr.alloc o) fun k e _=>by omega
 obtain⟨xs,x1,x2,x3⟩:=g3.ex;refine⟨xs,x2,fun v' W4 ho hg hat=>⟨g3.push x1 x3 (sv.move fun b hb hl=>⟨⟨by omega,fun e=>by have:=h.lt e.symm;omega⟩,ay _ _ _ hl⟩) (by have:=fr.size;simp;omega) ho hg hat,?_,?_⟩⟩
 ·exact((fr.alloc o).mono fun k e=>Or.inl e).same (yi hg fun k e=>h.own k e)
 ·exact((Fr.refl _ W2).alloc o).same ⟨hg.os,hg.tape,hg.output,hg.size,fun k hk hf=>hg.block k hk (fun e=>hf (h.own k e.symm))⟩
theorem GP.G7{ls:List gz}{s:gz}(h:GP lo tS tP W0 v ls)(fr:Fr (fun k=>k=R) W0 W2)(hR:R<lo)(py:lo<=W0.heap.size)(sv:pV W2 (fun b=>W0.heap.size<=b) tS tP vk s.kids/\qd W2 (fun b=>W0.heap.size<=b) tS tP vs s.steps)(o:Obj):
  ∃xs,(W2.alloc o).ownsRow 0 tP 5 v ls.length (jl xs)/\∀v' W4,W4.ownsRow 0 tP 5 v' (ls.length+1) (jl xs++[.string (bs s.op),vk,vs,.string (bs s.attr),.string (bs s.text)])->(W2.alloc o).grownBy W4 v.ownBlock->(v'.ownBlock=v.ownBlock\/v'.ownBlock=some (W2.alloc o).heap.size)->GP lo tS tP W4 v' (ls++[s])/\Fr (fun k=>k=R\/lo<=k) W0 W4/\Fr (fun k=>lo<=k) W2 W4:=by
 have g3:=h.fr (fr.alloc o) fun k e _=>by omega
 obtain⟨xs,x1,x2,x3⟩:=g3.ex;have hm:Move (fun b=>W0.heap.size<=b) (fun b=>lo<=b/\some b≠v.ownBlock) W2 (W2.alloc o):=fun b hb hl=>⟨⟨by omega,fun e=>by have:=h.lt e.symm;omega⟩,ay _ _ _ hl⟩
 refine⟨xs,x2,fun v' W4 ho hg hat=>⟨g3.push x1 x3 ⟨sv.1.move hm,sv.2.move hm⟩ (by have:=fr.size;simp;omega) ho hg hat,?_,?_⟩⟩
 ·exact((fr.alloc o).mono fun k e=>Or.inl e).same (yi hg fun k e=>h.own k e)
 ·exact((Fr.refl _ W2).alloc o).same ⟨hg.os,hg.tape,hg.output,hg.size,fun k hk hf=>hg.block k hk (fun e=>hf (h.own k e.symm))⟩
theorem GS.last{ls:List iE}{s:iE}(h:GS lo tS tP w v (ls++[s])):∃g cap,v=Z9 g (ls.length+1) cap/\w.cell? ⟨g,ls.length*3+1,none⟩=some (.string (bs s.test)):=by
 obtain⟨xs,h1,h2,h3⟩:=h.ex;rw[ax]at h2;obtain⟨g,cap,rfl⟩:=qg h2;obtain⟨x,hx,rfl⟩:=vJ (k:=ls.length) (s:=s) h1 (by simp);exact⟨g,cap,rfl,iB h2 (jR xs _ x 1 _ hx rfl)⟩
theorem AO{ls:List iE}{s:iE}{g cap:Nat}(h:RD R t wh n w l)(hc:w.cell? ⟨g,ls.length*3+1,none⟩=some (.string (bs s.test)))(hn:ls.length<=500):Z4 134 #[ptr R,Z9 g (ls.length+1) cap] w (Z7 (.bool (fy s l)) w):=by
 have HP:=a_ (jA h);have HC:Hid (∀W,Z5 w W->W.cell? ⟨g,ls.length*3+1,none⟩=some (.string (bs s.test))):=fun W hW=>(ar (hW.block g (aD w _ hc))).trans hc;have hw1:IntKind.i64.wrap (((ls.length+1:Nat):Int)-1)=(ls.length:Int):=by rw[aM];omega
 have hw2:IntKind.i64.wrap (((ls.length:Int)+1)-1)=(ls.length:Int):=by rw[aM];omega
 have ny:(ls.length:Int)<((ls.length+1:Nat):Int):=by omega
 have hk2:(ls.length:Int)<(ls.length:Int)+1:=by omega
 obtain⟨b0,hb0⟩:∃b,(s.test==[35])=b:=⟨_,rfl⟩
 obtain⟨b1,hb1⟩:∃b,(part l==[47])=b:=⟨_,rfl⟩
 obtain⟨b2,hb2⟩:∃b,(part l==[47,47])=b:=⟨_,rfl⟩
 have hgo:fy s l=(!b0&&(b1||b2)):=by unfold fy;rw[hb1,hb2,bne,hb0]
 have e0:((bs s.test).toList==[35])=b0:=by rw[fe];exact hb0
 have e1:((bs (part l)).toList==[47])=b1:=by rw[fe];exact hb1
 have e2:((bs (part l)).toList==[47,47])=b2:=by rw[fe];exact hb2
 rw[hgo];generalize bs (part l)=S at*
 generalize bs s.test=T at*
 generalize ls.length=k at*
 clear h hgo hb0 hb1 hb2 hc;cases b0<;>cases b1<;>cases b2
 all_goals
  go_enter func134,ntmps134;go_wp2_with(first|(go_at_call 135;refine HP.out.mono ?_;rintro e w1 ⟨rfl,hb⟩;have hc1:=HC.out _ hb));go_ret;exact⟨rfl,hb⟩
theorem KJ{ls:List iE}{s:iE}(h:RD R t wh n w l)(hg:GS lo 144 146 w v (ls++[s]))(hn:ls.length<=500):Z4 134 #[ptr R,v] w (Z7 (.bool (fy s l)) w):=by
 obtain⟨g,cap,rfl,hc⟩:=hg.last;exact AO h hc hn
end
section
variable{w w' w1 w2 W0 W2 W4:World}{F G:Nat->Prop}{R lo:Nat}{t l l':L}{wh n:Nat}{eW:Option (L->Rs gz)}{v v' vp vk vs:Value}
theorem iI{α β:Type}(a:α)(l:L)(f:α->L->Rs β):thn (.ok (a,l)) f=f a l:=rfl
theorem oT{α β:Type}(y:Nat×Nat)(f:α->L->Rs β):thn (.error y) f=.error y:=rfl
structure PI(R:Nat)(t:L)(wh n:Nat)(eW:Option (L->Rs gz))(w:World)(X:Rs (List iE))(wr:World)(v:Value)(ls:List iE)(s:iE)(lc:L):Prop where
 rd:RD R t wh n wr lc
 gs:GS w.heap.size 144 146 wr v (ls++[s])
 fr:Fr (fun k=>k=R\/w.heap.size<=k) w wr
 eq:∃fu,lc.length<fu/\X=thn (j6 (ei t wh) eW fu s lc) fun qs l=> .ok (ls++s::qs,l)
 sm:ls.length+1+lc.length<=501
 lt:R<w.heap.size
theorem PI.below{X:Rs (List iE)}{wr W:World}{ls:List iE}{s:iE}{lc:L}(h:PI R t wh n eW w X wr v ls s lc)(hb:Z5 wr W):PI R t wh n eW w X W v ls s lc:=
 ⟨h.rd.below hb,h.gs.fr (Fr.below (F:=fun _=>False) hb) (fun _ x _=>x.elim),h.fr.on hb,h.eq,h.sm,h.lt⟩
theorem PI.go{X:Rs (List iE)}{wr:World}{ls:List iE}{s:iE}{lc:L}(h:PI R t wh n eW w X wr v ls s lc)(hg:fy s lc=true):
  (∀y,iy (ei t wh) lc=.error y->X=.error y)/\∀d l1,iy (ei t wh) lc=.ok (d,l1)->l1.length<lc.length/\(∀y,step (ei t wh) eW d l1=.error y->X=.error y)/\
   ∀s' l2,step (ei t wh) eW d l1=.ok (s',l2)->l2<:+l1->∃fu,l2.length<fu/\X=thn (j6 (ei t wh) eW fu s' l2) fun qs l=> .ok ((ls++[s])++s'::qs,l):=by
 obtain⟨fu,e1,e2⟩:=h.eq;cases fu with
 |zero=>omega
 |succ fu=>
  rw[j6,if_pos hg]at e2;refine⟨fun y hy=>by rw[e2,hy];rfl,fun d l1 hy=>⟨p8 hy,fun y hz=>by rw[e2,hy];simp only[iI,oT,hz],fun s' l2 hz hs=>⟨fu,by have:=hs.length_le;have:=p8 hy;omega,?_⟩⟩⟩;rw[e2,hy];simp only[iI,hz];cases j6 (ei t wh) eW fu s' l2 with
  |error y=>rfl
  |ok z=>obtain⟨za,zb⟩:=z;simp only[iI,aV,aZ,bH]
theorem PI.stop{X:Rs (List iE)}{wr:World}{ls:List iE}{s:iE}{lc:L}(h:PI R t wh n eW w X wr v ls s lc)(hg:fy s lc=false):X=.ok (ls++[s],lc):=by
 obtain⟨fu,e1,e2⟩:=h.eq;rw[e2];cases fu with
 |zero=>omega
 |succ fu=>rw[j6,if_neg (by rw[hg];simp)];rfl
def SL(A:Nat->Prop)(w:World)(v:Value)(ls:List iE):Prop:=qd w A 144 146 v (gh.of ls)
theorem JN(hi:qh R t wh n eW)(h:RD R t wh n w l):Z4 85 #[ptr R] w (Ends R t wh n (SL (fun b=>w.heap.size<=b)) w (path (ei t wh) eW l)):=by
 have Yf:=a_ (qc h);have hR:=h.lt;have h5:l.length<=500:=by have:=h.le;have:=h.tw;have:=h.Cz;omega
 unfold path;cases hx:iy (ei t wh) l with
 |error y=>
  rw[hx]at Yf;simp only[thn];clear hx h;go_enter func85,ntmps85;go_wp2_with(first|(go_at_call 133;refine Yf.out.mono ?_;rintro e w2 ⟨rfl,fr⟩));exact⟨rfl,rfl,fr⟩
 |ok z=>
  obtain⟨d,l1⟩:=z;rw[hx]at Yf;have HST:Hid (∀W,RD R t wh n W l1->Z4 132 #[ptr R,.bool d] W (Ends R t wh n (SV (fun b=>W.heap.size<=b) 144 146) W (step (ei t wh) eW d l1))):=fun W hW=>oQ d hi hW;have uj:=(rh l d l1 hx).length_le;have Yg:=p8 hx;simp only[thn];clear hx h;cases hy:step (ei t wh) eW d l1 with
  |error y=>
   rw[hy]at HST;clear hy;go_enter func85,ntmps85;go_wp2_with(first|(go_at_call 133;refine Yf.out.mono ?_;rintro e w2 ⟨v,rfl,rfl,rd,fr⟩)|(go_at_call 132;refine(HST.out _ rd).mono ?_;rintro e w3 ⟨rfl,jy⟩));exact⟨rfl,rfl,fr.same jy⟩
  |ok z=>
   obtain⟨s,l2⟩:=z;rw[hy]at HST;have hl2:=(kJ hi.xh d l1 s l2 hy).length_le;simp only;obtain⟨X,hX⟩:∃X,(thn (j6 (ei t wh) eW (l2.length+1) s l2) fun ss l=>(.ok (s::ss,l):Rs (List iE)))=X:=⟨_,rfl⟩
   have hX':=hX;simp only[thn]at hX;rw[hX];clear hX;have HL:Hid (∀W1 W2 v,Fr (fun k=>k=R) w W1->Fr (fun k=>k=R) W1 W2->RD R t wh n W2 l2->SV (fun b=>W1.heap.size<=b) 144 146 W2 v s->∃te vi vn vc,v=.agg #[.bool s.deep,.string te,.slice vi vn vc]/\PI R t wh n eW w X (W2.alloc (.cells #[.bool s.deep,.string te,.slice vi vn vc] 144)) (.slice (some ⟨W2.heap.size,0,none⟩) 1 1) [] s l2):=fun W1 W2 v f1 f2 rd sv=>by
    obtain⟨vp,rfl,sp⟩:=sv;obtain⟨vi,vc,rfl⟩:=sl.shape sp;refine⟨_,vi,_,vc,rfl,rd.fr ((Fr.refl (fun _=>False) W2).alloc _) (fun x=>x),GS.first (lo:=w.heap.size) (aw f1.size f2.size) (sp.move fun b hb _=>⟨aw f1.size hb,rfl⟩),((f1.same f2).alloc _).mono (fun k e=>Or.inl e),⟨l2.length+1,by omega,by rw[<-hX'];rfl⟩,by simp;omega,hR⟩
   have HI:=a_ hi;clear hy hX' hi;obtain⟨i0,hi,hz0,hz1,hz2⟩:=aY NY;go_enter func85,ntmps85;go_wp2_with(first|(go_at_call 133;refine Yf.out.mono ?_;rintro e w2 ⟨v,rfl,rfl,rd,fr⟩)|(go_at_call 132;refine(HST.out _ rd).mono ?_;rintro e w3 ⟨v,rfl,Yh,tu,jy⟩;obtain⟨te,vi,vn,vc,rfl,hP⟩:=HL.out _ _ _ fr jy tu Yh;have HP0:=a_ hP;clear hP Yh));clear rd tu fr jy;go_loopw [3,9,10,11,12,13,14,15,16,17,18] (fun u3 _ _ _ _ _ _ _ _ _ _ wr=>∃ls s lc,PI R t wh n eW w X wr u3 ls s lc) (fun _ _ _ _ _ _ _ _ _ _ _ wr=>vB R t wr)
   case atStart=>exact⟨_,_,_,HP0.out⟩
   case round=>
    rename World=>WO
    obtain⟨ls,s,lc,hP⟩:=hrel;have HG:=a_ (KJ hP.rd hP.gs (by have:=hP.sm;omega));have zX:vB R t WO=lc.length:=hP.rd.vB;have RX:=a_ hP;obtain⟨bg,hbg⟩:∃b,fy s lc=b:=⟨_,rfl⟩
    rw[hbg]at HG;cases bg with
    |false=>
     have hX:=hP.stop hbg;subst hX;have HE:Hid (∀W,Z5 WO W->SL (fun b=>w.heap.size<=b) W u3 (ls++[s])/\RD R t wh n W lc/\Fr (fun k=>k=R) w W):=fun W hW=>by
      have q:=RX.out.below hW;exact⟨q.gs.done (by have:=q.sm;simp;omega) (fun e=>by simp at e),q.rd,q.fr.restrict (fun k hk x=>by omega)⟩
     clear hP hbg;go_wp2_with(first|(go_at_call 134;refine HG.out.mono ?_;rintro e w4 ⟨rfl,hb4⟩));obtain⟨e1,e2,e3⟩:=HE.out _ hb4;go_ret;exact⟨_,rfl,e1,e2,e3⟩
    |true=>
     have hgo:=hP.go hbg;have tB:Hid (∀W,RD R t wh n W lc->Z4 133 #[ptr R] W (Ends R t wh n VB W (iy (ei t wh) lc))):=fun W hW=>qc hW;clear hP hbg;cases hs1:iy (ei t wh) lc with
     |error y=>
      have hX:=hgo.1 y hs1;subst hX;rw[hs1]at tB;clear hs1 hgo;go_wp2_with(first|(go_at_call 134;refine HG.out.mono ?_;rintro e w4 ⟨rfl,hb4⟩;have jf:=RX.out.rd.below hb4)|(go_at_call 133;refine(tB.out _ jf).mono ?_;rintro e w5 ⟨rfl,lJ⟩));exact⟨rfl,rfl,((RX.out.fr.on hb4).trans lJ (fun i hi x=>Or.inl x)).restrict (fun k hk x=>by omega)⟩
     |ok z=>
      obtain⟨d1,l3⟩:=z;obtain⟨aav,zY,zZ⟩:=hgo.2 d1 l3 hs1;rw[hs1]at tB;have sj:Hid (∀W,RD R t wh n W l3->Z4 132 #[ptr R,.bool d1] W (Ends R t wh n (SV (fun b=>W.heap.size<=b) 144 146) W (step (ei t wh) eW d1 l3))):=fun W hW=>oQ d1 HI.out hW;clear hs1 hgo;cases hs2:step (ei t wh) eW d1 l3 with
      |error y=>
       have hX:=zY y hs2;subst hX;rw[hs2]at sj;clear hs2 zY zZ;go_wp2_with(first|(go_at_call 134;refine HG.out.mono ?_;rintro e w4 ⟨rfl,hb4⟩;have jf:=RX.out.rd.below hb4)|(go_at_call 133;refine(tB.out _ jf).mono ?_;rintro e w5 ⟨v5,rfl,rfl,sf,lJ⟩)|(go_at_call 132;refine(sj.out _ sf).mono ?_;rintro e w6 ⟨rfl,vK⟩));exact⟨rfl,rfl,((RX.out.fr.on hb4).trans (lJ.same vK) (fun i hi x=>Or.inl x)).restrict (fun k hk x=>by omega)⟩
      |ok z=>
       obtain⟨s',l4⟩:=z;rw[hs2]at sj;have Rl:=kJ HI.out.xh d1 l3 s' l4 hs2;have hl4:=Rl.length_le;have G6:=a_ (zZ s' l4 hs2 Rl);clear hs2 zY zZ;have qi:Hid (∀W1 W2 W3 v,Z5 WO W1->Fr (fun k=>k=R) W1 W2->Fr (fun k=>k=R) W2 W3->RD R t wh n W3 l4->SV (fun b=>W2.heap.size<=b) 144 146 W3 v s'->∃te vi vn vc,v=.agg #[.bool s'.deep,.string te,.slice vi vn vc]/\∃xs,(W3.alloc (.cells #[.bool s'.deep,.string te,.slice vi vn vc] 144)).ownsRow 0 144 3 u3 (ls.length+1) (gZ xs)/\∀v' W4,W4.ownsRow 0 144 3 v' (ls.length+1+1) (gZ xs++[.bool s'.deep,.string te,.slice vi vn vc])->(W3.alloc (.cells #[.bool s'.deep,.string te,.slice vi vn vc] 144)).grownBy W4 u3.ownBlock->(v'.ownBlock=u3.ownBlock\/v'.ownBlock=some (W3.heap.size+1))->PI R t wh n eW w X W4 v' (ls++[s]) s' l4):=fun W1 W2 W3 v b1 f2 f3 rd sv=>by
        obtain⟨vp,rfl,sp⟩:=sv;obtain⟨vi,vc,rfl⟩:=sl.shape sp;have q:=RX.out.below b1;have hz:=q.fr.size;obtain⟨xs,x1,x2⟩:=(q.gs.fr f2 (fun k e _=>by omega)).G7 f3 hR (aw hz f2.size) sp (.cells #[.bool s'.deep,.string (bs s'.test),.slice vi s'.gu.len vc] 144);rw[ax]at x1 x2;refine⟨_,vi,_,vc,rfl,xs,x1,fun v' W4 ho hg hat=>?_⟩;obtain⟨g1,g2,g3⟩:=x2 v' W4 ho hg (by simpa using hat);exact⟨rd.fr g3 (by omega),g1,(q.fr.trans f2 (fun i hi x=>Or.inl x)).same g2,G6.out,by have:=q.sm;simp;omega,hR⟩
       go_wp2_with(first|(go_at_call 134;refine HG.out.mono ?_;rintro e w4 ⟨rfl,hb4⟩;have jf:=RX.out.rd.below hb4)|(go_at_call 133;refine(tB.out _ jf).mono ?_;rintro e w5 ⟨v5,rfl,rfl,sf,lJ⟩)|(go_at_call 132;refine(sj.out _ sf).mono ?_;rintro e w6 ⟨v6,rfl,JO,RY,vK⟩;obtain⟨KL,KM,KN,KP,rfl,xs,hx1,hx2⟩:=qi.out _ _ _ _ hb4 lJ vK RY JO;have KQ:=a_ hx2;clear hx2 JO)|(at_builtin;refine bu _ rfl (.tmp 12) (.tmp 17) 85 rfl 0 144 i0 _ 3 48 underlying85 hi hz0 hz1 hz2 rfl (by decide) u3 (ls.length+1) (gZ xs) rfl hx1 ⟨w6.heap.size,0,none⟩ 1 1 [.bool s'.deep,.string KL,.slice KM KN KP] rfl rfl (kK _ _ _) ?c2 ?c3 ?c4 (aB _) ?_))
       case c2=>
        intro u hu;simp only[bM,bB,cm]at hu;rcases hu with rfl|rfl|rfl<;>rfl
       case c3=>have:=RX.out.sm;unfold maxLen;omega
       case c4=>have:=RX.out.sm;omega
       intro v' w7 ho hg _ hat;have hP7:=KQ.out v' w7 ho hg (by simpa using hat);go_wp2;exact⟨⟨_,_,_,hP7⟩,by rw[hP7.rd.vB,zX];omega⟩
end
section
variable{w w' w1 w2 W0 W2 W4:World}{F G:Nat->Prop}{R lo:Nat}{t l l':L}{wh n:Nat}{eW:Option (L->Rs gz)}{v v' vp vk vs:Value}{tS tP:TypeId}
theorem PV.move{A A':Nat->Prop}{p:gz}(hm:Move A A' w w')(h:PV A tS tP w v p):PV A' tS tP w' v p:=by
 obtain⟨vk,vs,rfl,h1,h2⟩:=h;exact⟨vk,vs,rfl,h1.move hm,h2.move hm⟩
theorem PV.shape{A:Nat->Prop}{p:gz}(h:PV A tS tP w v p):∃ki nk kc si ns sc,v=.agg #[.string (bs p.op),.slice ki nk kc,.slice si ns sc,.string (bs p.attr),.string (bs p.text)]/\pV w A tS tP (.slice ki nk kc) p.kids/\qd w A tS tP (.slice si ns sc) p.steps:=by
 obtain⟨vk,vs,rfl,a1,a2⟩:=h;obtain⟨ki,kc,rfl⟩:=sl.shape a1;obtain⟨si,sc,rfl⟩:=sl.shape a2;exact⟨ki,_,kc,si,_,sc,rfl,a1,a2⟩
theorem pT{b:Nat}{x0 x1 x2 x3 x4:Value}{ty:TypeId}(a c e f g:Value)(h:w.heap[b]?=some (.cells #[x0,x1,x2,x3,x4] ty (0,0))):∃W,((((w.setCell ⟨b,0,none⟩ a).setCell ⟨b,1,none⟩ c).setCell ⟨b,2,none⟩ e).setCell ⟨b,3,none⟩ f).setCell ⟨b,4,none⟩ g=W/\W.heap[b]?=some (.cells #[a,c,e,f,g] ty (0,0))/\Fr (fun k=>k=b) w W:=
 ⟨_,rfl,eh (i:=4) (eh (i:=3) (eh (i:=2) (eh (i:=1) (eh (i:=0) h a) c) e) f) g,(((((Fr.refl (fun k=>k=b) w).set ⟨b,0,none⟩ a (fun _=>rfl)).set ⟨b,1,none⟩ c (fun _=>rfl)).set ⟨b,2,none⟩ e (fun _=>rfl)).set ⟨b,3,none⟩ f (fun _=>rfl)).set ⟨b,4,none⟩ g (fun _=>rfl)⟩
abbrev eU:Array Value:=#[.string ⟨#[]⟩,.slice none 0 0,.slice none 0 0,.string ⟨#[]⟩,.string ⟨#[]⟩]
theorem eO{b:Nat}{x0 x1 x2 x3 x4:Value}{ty:TypeId}(h:w.heap[b]?=some (.cells #[x0,x1,x2,x3,x4] ty (0,0))):(w.cell? ⟨b,0,none⟩=some x0/\w.cell? ⟨b,1,none⟩=some x1/\w.cell? ⟨b,2,none⟩=some x2/\w.cell? ⟨b,3,none⟩=some x3/\w.cell? ⟨b,4,none⟩=some x4)/\(w.frozen? ⟨b,0,none⟩=false/\w.frozen? ⟨b,1,none⟩=false/\w.frozen? ⟨b,2,none⟩=false/\w.frozen? ⟨b,3,none⟩=false/\w.frozen? ⟨b,4,none⟩=false):=
 ⟨⟨cell_of h rfl,cell_of h rfl,cell_of h rfl,cell_of h rfl,cell_of h rfl⟩,dY h,dY h,dY h,dY h,dY h⟩
def Vg(R:Nat)(t:L)(wh n:Nat)(k:FuncId)(read:L->Rs gz):Prop:=∀W l,RD R t wh n W l->Z4 k #[ptr R] W (Ends R t wh n (PV (fun b=>W.heap.size<=b) 144 146) W (read l))
structure JI(R:Nat)(t:L)(wh n:Nat)(word:L)(read:L->Rs gz)(w:World)(X:Rs gz)(wr:World)(v:Value)(ps:List gz)(lc:L):Prop where
 rd:RD R t wh n wr lc
 gp:GP (w.heap.size+1) 144 146 wr v ps
 bq:wr.heap[w.heap.size]?=some (.cells eU 146 (0,0))
 fr:Fr (fun k=>k=R\/w.heap.size<=k) w wr
 eq:∃fu,lc.length<fu/\X=thn (j7 word read fu lc) fun qs l=> .ok (⟨word,gR.of (ps++qs),.nil,[],[]⟩,l)
 sm:ps.length+lc.length<=501
 ne:ps≠[]
 lt:R<w.heap.size
variable{word:L}{read:L->Rs gz}{X:Rs gz}{wr W:World}{ps:List gz}{lc:L}
theorem JI.keep(h:JI R t wh n word read w X wr v ps lc)(hf:Fr (fun _=>False) wr W):JI R t wh n word read w X W v ps lc:=
 ⟨h.rd.fr hf (fun x=>x),h.gp.fr hf (fun _ x _=>x.elim),(hf.block _ (dQ h.bq) (fun x=>x)).trans h.bq,h.fr.trans hf (fun _ _ x=>x.elim),h.eq,h.sm,h.ne,h.lt⟩
theorem JI.stop(h:JI R t wh n word read w X wr v ps lc)(hg:part lc≠word):X=.ok (⟨word,gR.of ps,.nil,[],[]⟩,lc):=by
 obtain⟨fu,e1,e2⟩:=h.eq;rw[e2];cases fu with
 |zero=>omega
 |succ fu=>rw[j7,if_neg hg];simp only[iI,aP]
theorem JI.go(h:JI R t wh n word read w X wr v ps lc)(hg:part lc=word)(hw:word≠[])(hs:∀l,gy l (read l)):
  (∀y,read (pass word.length lc)=.error y->X=.error y)/\∀p l2,read (pass word.length lc)=.ok (p,l2)->l2.length<lc.length/\∃fu,l2.length<fu/\X=thn (j7 word read fu l2) fun qs l=> .ok (⟨word,gR.of ((ps++[p])++qs),.nil,[],[]⟩,l):=by
 obtain⟨fu,e1,e2⟩:=h.eq;cases fu with
 |zero=>omega
 |succ fu=>
  rw[j7,if_pos hg]at e2;refine⟨fun y hy=>by rw[e2,hy];rfl,fun p l2 hy=>?_⟩;have h1:=(hs _ p l2 hy).length_le;have h2:=xB (n:=word.length) (l:=lc) (by cases word;exact absurd rfl hw;simp) (xC hg hw);refine⟨by omega,fu,by omega,?_⟩;rw[e2,hy];simp only[iI];cases j7 word read fu l2 with
  |error y=>rfl
  |ok z=>obtain⟨za,zb⟩:=z;simp only[iI,aV,aZ,bH]
theorem JI.fin{w4 W5:World}{ui:Option Addr}{uc:Nat}(h:JI R t wh n word read w X wr (.slice ui ps.length uc) ps lc)(f4:Fr (fun k=>k=R) wr w4)(jf:RD R t wh n w4 lc)(f5:Fr (fun k=>k=w.heap.size) w4 W5):
  PV (fun b=>w.heap.size<=b) 144 146 W5 (.agg #[.string (bs word),.slice ui ps.length uc,.slice none 0 0,.string ⟨#[]⟩,.string ⟨#[]⟩]) ⟨word,gR.of ps,.nil,[],[]⟩/\RD R t wh n W5 lc/\Fr (fun k=>k=R) w W5:=by
 have hlt:=h.lt;have g:=((h.gp.fr f4 (fun k e _=>by omega)).fr f5 (fun k e _=>by omega)).done (by have:=h.sm;omega) (fun e=>absurd e h.ne);exact⟨⟨_,_,rfl,g.move fun b hb _=>⟨by omega,rfl⟩,Or.inl ⟨rfl,rfl⟩⟩,jf.fr f5 (by omega),((h.fr.trans f4 (fun i hi x=>Or.inl x)).trans f5 (fun i hi x=>Or.inr (by omega))).restrict (fun k hk x=>by omega)⟩
theorem AP{k:FuncId}(hw:word≠[])(hen:∀args w,(callFunc k args).run prog w=.ok (.enter k args) w)(hr:Vg R t wh n k read)(hs:∀l,gy l (read l))(h:RD R t wh n w l):
  Z4 200 #[ptr R,.string ⟨word.toArray⟩,.func (.func k) #[ptr R] #[]] w (Ends R t wh n (PV (fun b=>w.heap.size<=b) 144 146) w (joined word read l)):=by
 have hR:=h.lt;have h5:l.length<=500:=by have:=h.le;have:=h.tw;have:=h.Cz;omega
 have f0:Fr (fun _=>False) w (w.alloc (.cells eU 146)):=(Fr.refl _ w).alloc _;have Yi:=a_ (hr (w.alloc (.cells eU 146)) l (h.fr f0 (fun x=>x)));have HZ:Hid ((w.alloc (.cells eU 146)).heap[w.heap.size]?=some (.cells eU 146 (0,0))):=dR _ _;have hsz:(w.alloc (.cells eU 146)).heap.size=w.heap.size+1:=by simp
 unfold joined;cases hx:read l with
 |error y=>
  rw[hx]at Yi;simp only[oT];clear hx h;go_enter func200,ntmps200;go_wp2_with fail;refine Yi.out.mono ?_;rintro e w2 ⟨rfl,fr⟩;go_wp2;exact⟨rfl,rfl,(f0.mono fun _ x=>x.elim).same fr⟩
 |ok z=>
  obtain⟨p,l1⟩:=z;rw[hx]at Yi;have uj:=(hs l p l1 hx).length_le;simp only[iI];clear hx h;have CD:Hid (∀W,RD R t wh n W l1->Z4 135 #[ptr R] W (Z7 (.string (bs (part l1))) W)):=fun W hW=>jA hW;by_cases hp:part l1=word
  ·rw[if_pos hp];have hb:((bs (part l1)).toList==word)=true:=by rw[fe,hp];simp
   obtain⟨X,hX⟩:∃X,(thn (j7 word read (l1.length+1) l1) fun qs l=>(.ok (⟨word,gR.of (p::qs),.nil,[],[]⟩,l):Rs gz))=X:=⟨_,rfl⟩
   rw[hX];have HJ:Hid (∀W1 W2 W3 ki nk kc si ns sc,Fr (fun k=>k=R) (w.alloc (.cells eU 146)) W1->RD R t wh n W1 l1->pV W1 (fun b=>(w.alloc (.cells eU 146)).heap.size<=b) 144 146 (.slice ki nk kc) p.kids/\qd W1 (fun b=>(w.alloc (.cells eU 146)).heap.size<=b) 144 146 (.slice si ns sc) p.steps->W2=W1.alloc (.cells #[.string (bs p.op),.slice ki nk kc,.slice si ns sc,.string (bs p.attr),.string (bs p.text)] 146)->Z5 W2 W3->W3.heap[W1.heap.size]?=some (.cells #[.string (bs p.op),.slice ki nk kc,.slice si ns sc,.string (bs p.attr),.string (bs p.text)] 146 (0,0))/\JI R t wh n word read w X (W3.alloc (.cells #[.string (bs p.op),.slice ki nk kc,.slice si ns sc,.string (bs p.attr),.string (bs p.text)] 146)) (.slice (some ⟨W3.heap.size,0,none⟩) 1 1) [p] l1):=fun W1 W2 W3 ki nk kc si ns sc f1 rd sv e2 b3=>by
    subst e2;have f2:Fr (fun _=>False) W1 W3:=((Fr.refl _ W1).alloc _).same (Fr.below b3);have hz1:=f1.size;rw[hsz]at hz1;have g1:=(f1.block w.heap.size (by rw[hsz];omega) (by omega)).trans HZ.out;have g3:=(f2.block _ (dQ g1) (fun x=>x)).trans g1;refine⟨(b3.block _ (by simp)).trans (dR _ _),?_⟩;have f4:Fr (fun _=>False) W3 (W3.alloc (.cells #[.string (bs p.op),.slice ki nk kc,.slice si ns sc,.string (bs p.attr),.string (bs p.text)] 146)):=(Fr.refl _ W3).alloc _;have hm:Move (fun b=>(w.alloc (.cells eU 146)).heap.size<=b) (fun b=>w.heap.size+1<=b) W1 W3:=fun b hb hl=>⟨by rw[hsz]at hb;exact hb,f2.block b hl (fun x=>x)⟩
    exact⟨(rd.fr f2 (fun x=>x)).fr f4 (fun x=>x),GP.first (aw hz1 f2.size) ⟨sv.1.move hm,sv.2.move hm⟩,(f4.block _ (dQ g3) (fun x=>x)).trans g3,(((f0.mono fun _ x=>x.elim).same (f1.mono (G:=fun k=>k=R\/w.heap.size<=k) fun _ x=>Or.inl x)).trans f2 (fun _ _ x=>x.elim)).trans f4 (fun _ _ x=>x.elim),⟨l1.length+1,by omega,by rw[<-hX];rfl⟩,by simp;omega,by simp,hR⟩
   have HFB:Hid (∀W1 o1 W3,Below (World.alloc W1 o1).heap.size (W1.alloc o1) W3->RD R t wh n W1 l1->True):=fun _ _ _ _ _=>trivial;have HRA:Hid (∀W1 o1,RD R t wh n W1 l1->RD R t wh n (World.alloc W1 o1) l1):=fun W1 o1 hW=>hW.fr ((Fr.refl (fun _=>False) W1).alloc o1) (fun x=>x);clear hX hp;obtain⟨i0,hi,hz0,hz1,hz2⟩:=aY NZ;generalize bs (part l1)=S at*
   go_enter func200,ntmps200;go_wp2_with fail;refine Yi.out.mono ?_;rintro e w2 ⟨v2,rfl,Uu,r_,lI⟩;obtain⟨ki,nk,kc,si,ns,sc,rfl,Uv⟩:=Uu.shape;have SV2:=a_ Uv;clear Uv Uu;go_wp2_with(first|(go_at_call 135;refine(CD.out _ (HRA.out _ _ r_)).mono ?_;rintro e w3 ⟨rfl,hb3⟩;obtain⟨KS,hJ⟩:=HJ.out _ _ _ _ _ _ _ _ _ lI r_ SV2.out rfl hb3;have HJ0:=a_ hJ;clear hJ;obtain⟨⟨c0,c1,c2,c3,c4⟩,-⟩:=eO KS));clear c0 c1 c2 c3 c4 KS r_ lI hb3 hb;generalize (World.alloc w3 _)=W0 at*
   generalize (Value.slice (some ⟨w3.heap.size,0,none⟩) 1 1)=V0 at*
   go_loopw [8,18,19,20,21,22,23,24,25] (fun u8 _ _ _ _ _ _ _ _ wr=>∃ps lc,JI R t wh n word read w X wr u8 ps lc) (fun _ _ _ _ _ _ _ _ _ wr=>vB R t wr)
   case atStart=>exact⟨_,_,HJ0.out⟩
   case round=>
    rename World=>WO
    obtain⟨ps,lc,hJ⟩:=hrel;have zX:vB R t WO=lc.length:=hJ.rd.vB;have Vh:=a_ hJ;obtain⟨b,hb⟩:∃b,decide (part lc=word)=b:=⟨_,rfl⟩
    have HT:=a_ (oP word hJ.rd b hb);cases b with
    |false=>
     have hX:=hJ.stop (by simpa using hb);subst hX;simp only[aA,aQ]at HT;obtain⟨ui,uc,rfl⟩:∃ai cap,u8=.slice ai ps.length cap:=by obtain⟨xs,_,h2,_⟩:=hJ.gp.ex;exact dS h2
     clear hb hJ;have HQ:Hid (∀w4,Fr (fun k=>k=R) WO w4->w4.heap[w.heap.size]?=some (.cells eU 146 (0,0))):=fun w4 f4=>(f4.block _ (dQ Vh.out.bq) (by omega)).trans Vh.out.bq;go_wp2_with(first|(go_at_call 86;refine HT.out.mono ?_;rintro e w4 ⟨rfl,jf,iz⟩;have Xn:=HQ.out _ iz;obtain⟨⟨c0,c1,c2,c3,c4⟩,g0,g1,g2,g3,g4⟩:=eO Xn));obtain⟨W5,lg,r5,lJ⟩:=pT (.string ⟨word.toArray⟩) (.slice ui ps.length uc) (.slice none 0 0) (.string ⟨#[]⟩) (.string ⟨#[]⟩) Xn;rw[lg];clear lg c0 c1 c2 c3 c4 g0 g1 g2 g3 g4;obtain⟨⟨k0,k1,k2,k3,k4⟩,-⟩:=eO r5;obtain⟨q1,q2,q3⟩:=Vh.out.fin iz jf lJ;refine aJ (v:=.agg #[.string ⟨word.toArray⟩,.slice ui ps.length uc,.slice none 0 0,.string ⟨#[]⟩,.string ⟨#[]⟩]) (by simp[results,results200,go_sem,k0,k1,k2,k3,k4]) rfl ⟨_,rfl,q1,q2,q3⟩
    |true=>
     have hp:part lc=word:=by simpa using hb
     have hgo:=hJ.go hp hw hs;simp only[if_true]at HT;have DY:Hid (∀W,RD R t wh n W (pass word.length lc)->Z4 k #[ptr R] W (Ends R t wh n (PV (fun b=>W.heap.size<=b) 144 146) W (read (pass word.length lc)))):=fun W hW=>hr W _ hW;clear hb hJ hp;cases hy:read (pass word.length lc)with
     |error y=>
      have hX:=hgo.1 y hy;subst hX;rw[hy]at DY;clear hy hgo;go_wp2_with(first|(go_at_call 86;refine HT.out.mono ?_;rintro e w4 ⟨rfl,jf,iz⟩));refine(DY.out _ jf).mono ?_;rintro e w5 ⟨rfl,lJ⟩;go_wp2;exact⟨rfl,rfl,(Vh.out.fr.trans (iz.same lJ) (fun i hi x=>Or.inl x)).restrict (fun k hk x=>by omega)⟩
     |ok z=>
      obtain⟨p2,l2⟩:=z;obtain⟨hlt,G6⟩:=hgo.2 p2 l2 hy;have G6:=a_ G6;rw[hy]at DY;clear hy hgo;have qi:Hid (∀W1 W2 ki nk kc si ns sc,Fr (fun k=>k=R) WO W1->Fr (fun k=>k=R) W1 W2->RD R t wh n W2 l2->pV W2 (fun b=>W1.heap.size<=b) 144 146 (.slice ki nk kc) p2.kids/\qd W2 (fun b=>W1.heap.size<=b) 144 146 (.slice si ns sc) p2.steps->∃xs,(W2.alloc (.cells #[.string (bs p2.op),.slice ki nk kc,.slice si ns sc,.string (bs p2.attr),.string (bs p2.text)] 146)).ownsRow 0 146 5 u8 ps.length (jl xs)/\∀v' W4,W4.ownsRow 0 146 5 v' (ps.length+1) (jl xs++[.string (bs p2.op),.slice ki nk kc,.slice si ns sc,.string (bs p2.attr),.string (bs p2.text)])->(W2.alloc (.cells #[.string (bs p2.op),.slice ki nk kc,.slice si ns sc,.string (bs p2.attr),.string (bs p2.text)] 146)).grownBy W4 u8.ownBlock->(v'.ownBlock=u8.ownBlock\/v'.ownBlock=some (W2.heap.size+1))->JI R t wh n word read w X W4 v' (ps++[p2]) l2):=fun W1 W2 ki nk kc si ns sc f1 f2 rd sv=>by
       have q:=Vh.out;have hz:=q.fr.size;have hzq:=dQ q.bq;obtain⟨xs,x1,x2⟩:=(q.gp.fr f1 (fun k e _=>by omega)).G7 f2 (by omega) (aw hzq f1.size) sv (.cells #[.string (bs p2.op),.slice ki nk kc,.slice si ns sc,.string (bs p2.attr),.string (bs p2.text)] 146);refine⟨xs,x1,fun v' W4 ho hg hat=>?_⟩;obtain⟨g1,g2,g3⟩:=x2 v' W4 ho hg (by simpa using hat);have RZ:=(f1.block _ hzq (by omega)).trans q.bq;have bq2:=(g2.block _ (dQ RZ) (by omega)).trans RZ;exact⟨rd.fr g3 (by omega),g1,bq2,(q.fr.trans f1 (fun i hi x=>Or.inl x)).trans g2 (fun i hi x=>by omega),G6.out,by have:=q.sm;simp;omega,by simp,hR⟩
      go_wp2_with(first|(go_at_call 86;refine HT.out.mono ?_;rintro e w4 ⟨rfl,jf,iz⟩));refine(DY.out _ jf).mono ?_;rintro e w5 ⟨v5,rfl,Yj,sf,lJ⟩;obtain⟨ki5,nk5,kc5,si5,ns5,sc5,rfl,Yk⟩:=Yj.shape;obtain⟨xs,hx1,hx2⟩:=qi.out _ _ _ _ _ _ _ _ iz lJ sf Yk;have KQ:=a_ hx2;clear hx2 Yk Yj;go_wp2_with(first|(at_builtin;refine bu _ rfl (.tmp 21) (.tmp 24) 142 rfl 0 146 i0 _ 5 96 underlying142 hi hz0 hz1 hz2 rfl (by decide) u8 ps.length (jl xs) rfl hx1 ⟨w5.heap.size,0,none⟩ 1 1 [.string (bs p2.op),.slice ki5 nk5 kc5,.slice si5 ns5 sc5,.string (bs p2.attr),.string (bs p2.text)] rfl rfl (kK _ _ _) ?c2 ?c3 ?c4 (aB _) ?_))
      case c2=>
       intro u hu;simp only[bM,bB,cm]at hu;rcases hu with rfl|rfl|rfl|rfl|rfl<;>rfl
      case c3=>have:=Vh.out.sm;unfold maxLen;omega
      case c4=>have:=Vh.out.sm;omega
      intro v' w7 ho hg _ hat;have hJ7:=KQ.out v' w7 ho hg (by simpa using hat);go_wp2;exact⟨⟨_,_,hJ7⟩,by rw[hJ7.rd.vB,zX];omega⟩
  ·rw[if_neg hp];have hb:((bs (part l1)).toList==word)=false:=by rw[fe];simpa using hp
   have HJ:Hid (∀W1 W2 W3 ki nk kc si ns sc,Fr (fun k=>k=R) (w.alloc (.cells eU 146)) W1->RD R t wh n W1 l1->pV W1 (fun b=>(w.alloc (.cells eU 146)).heap.size<=b) 144 146 (.slice ki nk kc) p.kids/\qd W1 (fun b=>(w.alloc (.cells eU 146)).heap.size<=b) 144 146 (.slice si ns sc) p.steps->W2=W1.alloc (.cells #[.string (bs p.op),.slice ki nk kc,.slice si ns sc,.string (bs p.attr),.string (bs p.text)] 146)->Z5 W2 W3->W3.heap[W1.heap.size]?=some (.cells #[.string (bs p.op),.slice ki nk kc,.slice si ns sc,.string (bs p.attr),.string (bs p.text)] 146 (0,0))/\W3.heap[w.heap.size]?=some (.cells eU 146 (0,0))/\∀W5,Fr (fun k=>k=w.heap.size) W3 W5->PV (fun b=>w.heap.size<=b) 144 146 W5 (.agg #[.string (bs p.op),.slice ki nk kc,.slice si ns sc,.string (bs p.attr),.string (bs p.text)]) p/\RD R t wh n W5 l1/\Fr (fun k=>k=R) w W5):=fun W1 W2 W3 ki nk kc si ns sc f1 rd sv e2 b3=>by
    subst e2;have f2:Fr (fun _=>False) W1 W3:=((Fr.refl _ W1).alloc _).same (Fr.below b3);have hz1:=f1.size;rw[hsz]at hz1;have g1:=(f1.block w.heap.size (by rw[hsz];omega) (by omega)).trans HZ.out;have g3:=(f2.block _ (dQ g1) (fun x=>x)).trans g1;refine⟨(b3.block _ (by simp)).trans (dR _ _),g3,fun W5 f5=>?_⟩;have hm:Move (fun b=>(w.alloc (.cells eU 146)).heap.size<=b) (fun b=>w.heap.size<=b) W1 W5:=fun b hb hl=>⟨by rw[hsz]at hb;omega,by rw[hsz]at hb;exact(f5.block b (aq hl f2.size) (by omega)).trans (f2.block b hl (fun x=>x))⟩
    exact⟨⟨_,_,rfl,sv.1.move hm,sv.2.move hm⟩,(rd.fr f2 (fun x=>x)).fr f5 (by omega),((((f0.mono fun _ x=>x.elim).same (f1.mono (G:=fun k=>k=R\/w.heap.size<=k) fun _ x=>Or.inl x)).trans f2 (fun _ _ x=>x.elim)).trans f5 (fun i hi x=>Or.inr (by omega))).restrict (fun k hk x=>by omega)⟩
   have HRA:Hid (∀W1 o1,RD R t wh n W1 l1->RD R t wh n (World.alloc W1 o1) l1):=fun W1 o1 hW=>hW.fr ((Fr.refl (fun _=>False) W1).alloc o1) (fun x=>x);clear hp;generalize bs (part l1)=S at*
   go_enter func200,ntmps200;go_wp2_with fail;refine Yi.out.mono ?_;rintro e w2 ⟨v2,rfl,Uu,r_,lI⟩;obtain⟨ki,nk,kc,si,ns,sc,rfl,Uv⟩:=Uu.shape;have SV2:=a_ Uv;clear Uv Uu;go_wp2_with(first|(go_at_call 135;refine(CD.out _ (HRA.out _ _ r_)).mono ?_;rintro e w3 ⟨rfl,hb3⟩;obtain⟨KS,pz,hJ⟩:=HJ.out _ _ _ _ _ _ _ _ _ lI r_ SV2.out rfl hb3;have HJ0:=a_ hJ;clear hJ;obtain⟨⟨c0,c1,c2,c3,c4⟩,-⟩:=eO KS;obtain⟨⟨d0,d1,d2,d3,d4⟩,g0,g1,g2,g3,g4⟩:=eO pz));obtain⟨W5,lg,r5,lJ⟩:=pT (.string (bs p.op)) (.slice ki nk kc) (.slice si ns sc) (.string (bs p.attr)) (.string (bs p.text)) pz;rw[lg];clear lg c0 c1 c2 c3 c4 g0 g1 g2 g3 g4 d0 d1 d2 d3 d4;obtain⟨⟨k0,k1,k2,k3,k4⟩,-⟩:=eO r5;obtain⟨q1,q2,q3⟩:=HJ0.out _ lJ;refine aJ (v:=.agg #[.string (bs p.op),.slice ki nk kc,.slice si ns sc,.string (bs p.attr),.string (bs p.text)]) (by simp[results,results200,go_sem,k0,k1,k2,k3,k4]) rfl ⟨_,rfl,q1,q2,q3⟩
end
section
variable{w w' w1 w2 W0 W2 W4:World}{F G P:Nat->Prop}{R lo:Nat}{t l l':L}{wh n:Nat}{eW:Option (L->Rs gz)}{v v' vp vk vs:Value}{tS tP:TypeId}
structure GX(P:Nat->Prop)(tS tP:TypeId)(w:World)(v:Value)(l:List iE):Prop where
 ex:∃xs:List (iE×Value),xs.map (·.1)=l/\w.ownsRow 0 tS 3 v l.length (gZ xs)/\∀x∈xs,pV w (fun b=>P b/\some b≠v.ownBlock) tS tP x.2 x.1.gu
 own:∀k,v.ownBlock=some k->P k
theorem GS.toX{ls:List iE}(h:GS lo tS tP w v ls)(hP:∀b,lo<=b->b<w.heap.size->P b):GX P tS tP w v ls:=by
 obtain⟨xs,h1,h2,h3⟩:=h.ex;exact⟨⟨xs,h1,h2,fun x hx=>(h3 x hx).move fun b ha hl=>⟨⟨hP b ha.1 hl,ha.2⟩,rfl⟩⟩,fun k e=>hP k (h.own k e) (ej h2 e)⟩
theorem GX.lt{ls:List iE}(h:GX P tS tP w v ls){k:Nat}(e:v.ownBlock=some k):k<w.heap.size:=by obtain⟨xs,_,h2,_⟩:=h.ex;exact ej h2 e
theorem GX.fr{ls:List iE}(h:GX P tS tP w v ls)(hf:Fr F w w')(hF:∀k,F k->¬P k):GX P tS tP w' v ls:=by
 obtain⟨xs,h1,h2,h3⟩:=h.ex;have hb:∀b,P b->b<w.heap.size->w'.heap[b]?=w.heap[b]?:=fun b h1 h2=>hf.block b h2 (fun x=>hF b x h1);exact⟨⟨xs,h1,dW h2 fun k e=>hb k (h.own k e) (ej h2 e),fun x hx=>(h3 x hx).move fun b ha hl=>⟨ha,hb b ha.1 hl⟩⟩,h.own⟩
theorem GX.done{ls:List iE}(h:GX P tS tP w v ls)(hn:ls.length<=1000)(hne:ls=[]->v=fh):qd w P tS tP v (gh.of ls):=by
 obtain⟨xs,h1,h2,h3⟩:=h.ex;unfold qd;rw[gh.vI];obtain⟨ai,cap,rfl⟩:=dS h2;rcases h2.2 with⟨e,e2⟩|⟨g,cap',cur,e1,h0,hg,hr⟩
 ·exact Or.inl ⟨e2,e⟩
 ·cases e1;by_cases hz:ls.length=0
  ·have:=hne (List.length_eq_zero_iff.1 hz);cases this
  refine Or.inr ⟨g,cap,cur,rfl,h.own g rfl,hg,hn,by omega,CC g ls 0 fun k s hk=>?_⟩;obtain⟨x,hx,rfl⟩:=vJ h1 hk;rw[aG];exact⟨iB h2 (jR xs k x 0 _ hx rfl),iB h2 (jR xs k x 1 _ hx rfl),x.2,iB h2 (jR xs k x 2 _ hx rfl),(h3 x (mN hx)).move fun b ha _=>⟨ha.1,rfl⟩⟩
theorem GX.G7{ls:List iE}{s:iE}(h:GX P tS tP W0 v ls)(fr:Fr (fun k=>k=R) W0 W2)(hR:¬P R)(hP:∀b,W0.heap.size<=b->P b)(sv:pV W2 (fun b=>W0.heap.size<=b) tS tP vp s.gu)(o:Obj):
  ∃xs,(W2.alloc o).ownsRow 0 tS 3 v ls.length (gZ xs)/\∀v' W4,W4.ownsRow 0 tS 3 v' (ls.length+1) (gZ xs++[.bool s.deep,.string (bs s.test),vp])->(W2.alloc o).grownBy W4 v.ownBlock->(v'.ownBlock=v.ownBlock\/v'.ownBlock=some (W2.alloc o).heap.size)->GX P tS tP W4 v' (ls++[s])/\Fr (fun k=>k=R\/P k) W0 W4/\Fr P W2 W4:=by
 have g3:=h.fr (fr.alloc o) fun k e=>e▸hR;obtain⟨xs,x1,x2,x3⟩:=g3.ex;refine⟨xs,x2,fun v' W4 ho hg hat=>⟨⟨⟨xs++[(s,vp)],by rw[bE,x1];rfl,by rw[ax,yc];exact ho,fun x hx=>?_⟩,fun k e=>?_⟩,?_,?_⟩⟩
 ·have hz:=fr.size;have hm:Move (fun b=>P b/\some b≠v.ownBlock) (fun b=>P b/\some b≠v'.ownBlock) (W2.alloc o) W4:=fun b ha hl=>⟨⟨ha.1,by rcases hat with e|e<;>rw[e];exact ha.2;intro x;cases x;omega⟩,hg.block b hl ha.2⟩
  rcases List.mem_append.1 hx with hx|hx
  ·exact(x3 x hx).move hm
  ·obtain rfl:x=(s,vp):=by simpa using hx
   exact(sv.move (A':=fun b=>P b/\some b≠v.ownBlock) (w':=W2.alloc o) fun b hb hl=>⟨⟨hP b hb,fun e=>by have:=h.lt e.symm;omega⟩,ay _ _ _ hl⟩).move hm
 ·rcases hat with x|x
  ·exact h.own k (x▸e)
  ·rw[x]at e;cases e;exact hP _ (by have:=fr.size;simp;omega)
 ·exact((fr.alloc o).mono fun k e=>Or.inl e).same ⟨hg.os,hg.tape,hg.output,hg.size,fun k hk hf=>hg.block k hk (fun e=>hf (Or.inr (h.own k e.symm)))⟩
 ·exact((Fr.refl _ W2).alloc o).same ⟨hg.os,hg.tape,hg.output,hg.size,fun k hk hf=>hg.block k hk (fun e=>hf (h.own k e.symm))⟩
theorem GX.last{ls:List iE}{s:iE}(h:GX P tS tP w v (ls++[s])):∃g cap,v=Z9 g (ls.length+1) cap/\w.cell? ⟨g,ls.length*3+1,none⟩=some (.string (bs s.test)):=by
 obtain⟨xs,h1,h2,h3⟩:=h.ex;rw[ax]at h2;obtain⟨g,cap,rfl⟩:=qg h2;obtain⟨x,hx,rfl⟩:=vJ (k:=ls.length) (s:=s) h1 (by simp);exact⟨g,cap,rfl,iB h2 (jR xs _ x 1 _ hx rfl)⟩
end
section
variable{w w' w1 w2 W0 W1 W2 W3 W4 WO wr W:World}{F G:Nat->Prop}{R lo Bp:Nat}{t l l':L}{wh n:Nat}{eW:Option (L->Rs gz)}{v v' vp vk vs:Value}{X:Rs gz}
theorem vL(d:Bool)(te:ByteArray)(vi:Option Addr)(vn vc:Nat):∀u∈[Value.bool d,.string te,.slice vi vn vc],u.oneCell'=true:=by
 intro u hu;simp only[bM,bB,cm]at hu;rcases hu with rfl|rfl|rfl<;>rfl
def AQ(w:World)(Bp b:Nat):Prop:=w.heap.size+1<=b/\b≠Bp
abbrev tC(v:Value)(a:ByteArray):Array Value:=#[.string ⟨#[]⟩,.slice none 0 0,v,.string a,.string ⟨#[]⟩]
structure VI(R:Nat)(t:L)(wh n:Nat)(eW:Option (L->Rs gz))(w:World)(Bp:Nat)(X:Rs gz)(wr:World)(v:Value)(ls:List iE)(s:iE)(lc:L):Prop where
 rd:RD R t wh n wr lc
 bp:wr.heap[Bp]?=some (.cells (tC v ⟨#[]⟩) 146 (0,0))
 bq:wr.heap[w.heap.size]?=some (.cells eU 146 (0,0))
 gx:GX (AQ w Bp) 144 146 wr v (ls++[s])
 fr:Fr (fun k=>k=R\/w.heap.size<=k) w wr
 eq:∃fu,lc.length<fu/\X=thn (kI (ei t wh) eW fu s lc) fun x l=> .ok (⟨[],.nil,gh.of (ls++s::x.1),x.2,[]⟩,l)
 sm:ls.length+1+lc.length<=501
 lt:R<w.heap.size
 lp:w.heap.size<Bp
variable{ls:List iE}{s:iE}{lc:L}
theorem VI.stop(h:VI R t wh n eW w Bp X wr v ls s lc)(hg:fy s lc=false):X=.ok (⟨[],.nil,gh.of (ls++[s]),[],[]⟩,lc):=by
 obtain⟨fu,e1,e2⟩:=h.eq;rw[e2];cases fu with
 |zero=>omega
 |succ fu=>rw[kI,if_neg (by rw[hg];simp)];rfl
theorem VI.go(h:VI R t wh n eW w Bp X wr v ls s lc)(hg:fy s lc=true):
  (∀y,iy (ei t wh) lc=.error y->X=.error y)/\∀d l1,iy (ei t wh) lc=.ok (d,l1)->l1.length<lc.length/\
   (d=false/\part l1=[64]->(∀y,attr (ei t wh) l1=.error y->X=.error y)/\∀a l2,attr (ei t wh) l1=.ok (a,l2)->X=.ok (⟨[],.nil,gh.of (ls++[s]),a,[]⟩,l2))/\
   (¬(d=false/\part l1=[64])->(∀y,step (ei t wh) eW d l1=.error y->X=.error y)/\
   ∀s' l2,step (ei t wh) eW d l1=.ok (s',l2)->l2<:+l1->∃fu,l2.length<fu/\X=thn (kI (ei t wh) eW fu s' l2) fun x l=> .ok (⟨[],.nil,gh.of ((ls++[s])++s'::x.1),x.2,[]⟩,l)):=by
 obtain⟨fu,e1,e2⟩:=h.eq;cases fu with
 |zero=>omega
 |succ fu=>
  rw[kI,if_pos hg]at e2;refine⟨fun y hy=>by rw[e2,hy];rfl,fun d l1 hy=>⟨p8 hy,fun hc=>?_,fun hc=>?_⟩⟩
  ·rw[hy]at e2;simp only[iI]at e2;rw[if_pos hc]at e2;exact⟨fun y hz=>by rw[e2,hz];rfl,fun a l2 hz=>by rw[e2,hz];rfl⟩
  ·rw[hy]at e2;simp only[iI]at e2;rw[if_neg hc]at e2;refine⟨fun y hz=>by rw[e2,hz];rfl,fun s' l2 hz hs=>⟨fu,by have:=hs.length_le;have:=p8 hy;omega,?_⟩⟩;rw[e2,hz];simp only[iI];cases kI (ei t wh) eW fu s' l2 with
   |error y=>rfl
   |ok z=>obtain⟨⟨za,zb⟩,zc⟩:=z;simp only[iI,aV,aZ,bH]
theorem VI.parts(h:VI R t wh n eW w Bp X wr v ls s lc)(f:Fr (fun k=>k=R) wr W){l1:L}(rd:RD R t wh n W l1):RD R t wh n W l1/\W.heap[Bp]?=some (.cells (tC v ⟨#[]⟩) 146 (0,0))/\W.heap[w.heap.size]?=some (.cells eU 146 (0,0))/\GX (AQ w Bp) 144 146 W v (ls++[s])/\Fr (fun k=>k=R\/w.heap.size<=k) w W:=by
 have hlt:=h.lt;have Xo:=h.lp;exact⟨rd,(f.block _ (dQ h.bp) (by omega)).trans h.bp,(f.block _ (dQ h.bq) (by omega)).trans h.bq,h.gx.fr f (fun k e x=>by unfold AQ at x;omega),h.fr.trans f (fun _ _ x=>Or.inl x)⟩
theorem JP{W5:World}{g cap:Nat}{s':iE}{l4:L}{vi:Option Addr}{vc:Nat}(h0:VI R t wh n eW w Bp X wr (Z9 g (ls.length+1) cap) ls s lc)(hR:R<w.heap.size)(f1:Fr (fun _=>False) W5 W1)(f3:Fr (fun k=>k=R) W1 W3)(rd:RD R t wh n W3 l4)(sp:pV W3 (fun b=>W1.heap.size<=b) 144 146 (.slice vi s'.gu.len vc) s'.gu)
  (AU:W5.heap[Bp]?=some (.cells (tC (Z9 g (ls.length+1) cap) ⟨#[]⟩) 146 (0,0))) (z8:W5.heap[w.heap.size]?=some (.cells eU 146 (0,0))) (N7:GX (AQ w Bp) 144 146 W5 (Z9 g (ls.length+1) cap) (ls++[s])) (lJ:Fr (fun k=>k=R\/w.heap.size<=k) w W5)
  (D_:∃fu,l4.length<fu/\X=thn (kI (ei t wh) eW fu s' l4) fun x l=> .ok (⟨[],.nil,gh.of ((ls++[s])++s'::x.1),x.2,[]⟩,l)) (hlt:l4.length<lc.length):
  ∃xs,(W3.alloc (.cells #[.bool s'.deep,.string (bs s'.test),.slice vi s'.gu.len vc] 144)).ownsRow 0 144 3 (Z9 g (ls.length+1) cap) (ls.length+1) (gZ xs)/\∀v' W4,W4.ownsRow 0 144 3 v' (ls.length+1+1) (gZ xs++[.bool s'.deep,.string (bs s'.test),.slice vi s'.gu.len vc])->(W3.alloc (.cells #[.bool s'.deep,.string (bs s'.test),.slice vi s'.gu.len vc] 144)).grownBy W4 (Z9 g (ls.length+1) cap).ownBlock->(v'.ownBlock=(Z9 g (ls.length+1) cap).ownBlock\/v'.ownBlock=some (W3.heap.size+1))->W4.heap[Bp]?=some (.cells (tC (Z9 g (ls.length+1) cap) ⟨#[]⟩) 146 (0,0))/\VI R t wh n eW w Bp X (W4.setCell ⟨Bp,2,none⟩ v') v' (ls++[s]) s' l4:=by
 have Xo:=h0.lp;have hBl:=dQ AU;have bp1:=(f1.block _ hBl (fun x=>x)).trans AU;have RZ:=(f1.block _ (dQ z8) (fun x=>x)).trans z8;have hB1:=dQ bp1;have gx1:=N7.fr f1 (fun _ x=>x.elim);obtain⟨xs,x1,x2⟩:=gx1.G7 f3 (by unfold AQ;omega) (fun b hb=>by unfold AQ;omega) sp (.cells #[.bool s'.deep,.string (bs s'.test),.slice vi s'.gu.len vc] 144);rw[ax]at x1 x2;refine⟨xs,x1,fun v' W4 ho hg hat=>?_⟩;obtain⟨g1,g2,g3⟩:=x2 v' W4 ho hg (by simpa using hat);have Uw:=(g2.block _ hB1 (by unfold AQ;omega)).trans bp1;have Xn:=(g2.block _ (dQ RZ) (by unfold AQ;omega)).trans RZ;refine⟨Uw,?_⟩;have f5:Fr (fun k=>k=Bp) W4 (W4.setCell ⟨Bp,2,none⟩ v'):=(Fr.refl (fun k=>k=Bp) W4).set ⟨Bp,2,none⟩ v' (fun _=>rfl);exact⟨(rd.fr g3 (by unfold AQ;omega)).fr f5 (by omega),eh Uw _,(f5.block _ (dQ Xn) (by omega)).trans Xn,g1.fr f5 (fun k e x=>x.2 e),((lJ.trans f1 (fun _ _ x=>x.elim)).trans g2 (fun i hi x=>by unfold AQ at x;omega)).trans f5 (fun i hi x=>by omega),D_,by have:=h0.sm;simp;omega,hR,Xo⟩
theorem N8{a:L}{l1:L}{W5:World}(hR:R<w.heap.size)(Xo:w.heap.size<Bp)(hsm:ls.length<=500)(rd:RD R t wh n W l1)(gx:GX (AQ w Bp) 144 146 W v (ls++[s]))(fr:Fr (fun k=>k=R\/w.heap.size<=k) w W)(f5:Fr (fun k=>k=w.heap.size\/k=Bp) W W5):
  PV (fun b=>w.heap.size<=b) 144 146 W5 (.agg #[.string ⟨#[]⟩,.slice none 0 0,v,.string (bs a),.string ⟨#[]⟩]) ⟨[],.nil,gh.of (ls++[s]),a,[]⟩/\RD R t wh n W5 l1/\Fr (fun k=>k=R) w W5:=by
 have g:=(gx.fr f5 (fun k e x=>by unfold AQ at x;omega)).done (by simp;omega) (fun e=>by simp at e);exact⟨⟨_,_,rfl,Or.inl ⟨rfl,rfl⟩,g.move fun b hb _=>⟨by unfold AQ at hb;omega,rfl⟩⟩,rd.fr f5 (by omega),(fr.trans f5 (fun i hi x=>by omega)).restrict (fun k hk x=>by omega)⟩
theorem VI.N9(h:VI R t wh n eW w Bp X wr v [] s lc):∃g cap ls s lc,VI R t wh n eW w Bp X wr (Z9 g (List.length ls+1) cap) ls s lc:=by
 obtain⟨g,cap,rfl,_⟩:=h.gx.last;exact⟨g,cap,[],s,lc,h⟩
theorem AV(d:Bool)(hi:qh R t wh n eW)(h:RD R t wh n w l):Z4 226 #[ptr R,.bool d] w (Ends R t wh n (PV (fun b=>w.heap.size<=b) 144 146) w (oN (ei t wh) eW d l)):=by
 have hR:=h.lt;have h5:l.length<=500:=by have:=h.le;have:=h.tw;have:=h.Cz;omega
 have f0:Fr (fun _=>False) w (w.alloc (.cells eU 146)):=(Fr.refl _ w).alloc _;have HST:=a_ (oQ d hi (h.fr f0 (fun x=>x)));have HZ:Hid ((w.alloc (.cells eU 146)).heap[w.heap.size]?=some (.cells eU 146 (0,0))):=dR _ _;have hsz:(w.alloc (.cells eU 146)).heap.size=w.heap.size+1:=by simp
 unfold oN;cases hx:step (ei t wh) eW d l with
 |error y=>
  rw[hx]at HST;simp only[oT];clear hx h;go_enter func226,ntmps226;go_wp2_with(first|(go_at_call 132;refine HST.out.mono ?_;rintro e w2 ⟨rfl,fr⟩));exact⟨rfl,rfl,(f0.mono fun _ x=>x.elim).same fr⟩
 |ok z=>
  obtain⟨s0,l1⟩:=z;rw[hx]at HST;have uj:=(kJ hi.xh d l s0 l1 hx).length_le;simp only[iI];clear hx h;obtain⟨X,hX⟩:∃X,(thn (kI (ei t wh) eW (l1.length+1) s0 l1) fun x l=>(.ok (⟨[],.nil,gh.of (s0::x.1),x.2,[]⟩,l):Rs gz))=X:=⟨_,rfl⟩
  rw[hX];have HV0:Hid (∀W1 v,Fr (fun k=>k=R) (w.alloc (.cells eU 146)) W1->RD R t wh n W1 l1->SV (fun b=>(w.alloc (.cells eU 146)).heap.size<=b) 144 146 W1 v s0->∃te vi vn vc,v=.agg #[.bool s0.deep,.string te,.slice vi vn vc]/\VI R t wh n eW w (W1.heap.size+1) X ((W1.alloc (.cells #[.bool s0.deep,.string te,.slice vi vn vc] 144)).alloc (.cells (tC (.slice (some ⟨W1.heap.size,0,none⟩) 1 1) ⟨#[]⟩) 146)) (.slice (some ⟨W1.heap.size,0,none⟩) 1 1) [] s0 l1):=fun W1 v f1 rd sv=>by
   obtain⟨vp,rfl,sp⟩:=sv;obtain⟨vi,vc,rfl⟩:=sl.shape sp;refine⟨_,vi,_,vc,rfl,?_⟩;have hz1:=f1.size;rw[hsz]at hz1;rw[hsz]at sp;have g1:=(f1.block w.heap.size (by rw[hsz];omega) (by omega)).trans HZ.out;have gs:=GS.first (lo:=w.heap.size+1) (s:=s0) hz1 sp;have fa:Fr (fun _=>False) W1 (W1.alloc (.cells #[.bool s0.deep,.string (bs s0.test),.slice vi s0.gu.len vc] 144)):=(Fr.refl _ W1).alloc _;have fb:=fa.alloc (.cells (tC (.slice (some ⟨W1.heap.size,0,none⟩) 1 1) ⟨#[]⟩) 146);have fb2:Fr (fun _=>False) (W1.alloc (.cells #[.bool s0.deep,.string (bs s0.test),.slice vi s0.gu.len vc] 144)) ((W1.alloc (.cells #[.bool s0.deep,.string (bs s0.test),.slice vi s0.gu.len vc] 144)).alloc (.cells (tC (.slice (some ⟨W1.heap.size,0,none⟩) 1 1) ⟨#[]⟩) 146)):=(Fr.refl _ _).alloc _;have gx:=(gs.toX (P:=AQ w (W1.heap.size+1)) (fun b hb hl=>⟨hb,by simp at hl;omega⟩)).fr fb2 (fun _ x=>x.elim);have nb:=dR (W1.alloc (.cells #[.bool s0.deep,.string (bs s0.test),.slice vi s0.gu.len vc] 144)) (.cells (tC (.slice (some ⟨W1.heap.size,0,none⟩) 1 1) ⟨#[]⟩) 146);exact⟨rd.fr fb (fun x=>x),by simpa using nb,(fb.block _ (dQ g1) (fun x=>x)).trans g1,gx,((f0.mono fun _ x=>x.elim).same (f1.mono (G:=fun k=>k=R\/w.heap.size<=k) fun _ x=>Or.inl x)).trans fb (fun _ _ x=>x.elim),⟨l1.length+1,by omega,by rw[<-hX];rfl⟩,by simp;omega,hR,by omega⟩
  have HI:=a_ hi;clear hX hi;obtain⟨i0,hi,hz0,hz1,hz2⟩:=aY NY;have Yd:∀(x:Bool) (w:World),(Op.unary .not (.bool x)).run prog w=.ok (.bool (!x)) w:=fun _ _=>rfl;go_enter func226,ntmps226;go_wp2_with(first|(go_at_call 132;refine HST.out.mono ?_;rintro e w2 ⟨v2,rfl,Uv,r_,lI⟩;obtain⟨te,vi,vn,vc,rfl,hV⟩:=HV0.out _ _ lI r_ Uv;have HV:=a_ hV;clear hV Uv));clear r_ lI;generalize hBp:w2.heap.size+1=Bp at*
  generalize (Value.slice (some ⟨w2.heap.size,0,none⟩) 1 1)=V0 at*
  generalize (World.alloc (World.alloc w2 _) _)=WS at*
  go_loopw [6,12,13,14,15,16,17,18,19,20,21,22,23,24,25,26,27,28,29,30,31,32,33,34,35] (fun _ _ _ _ _ _ _ _ _ _ _ _ _ _ _ _ _ _ _ _ _ _ _ _ _ wr=>∃g cap ls s lc,VI R t wh n eW w Bp X wr (Z9 g (List.length ls+1) cap) ls s lc) (fun _ _ _ _ _ _ _ _ _ _ _ _ _ _ _ _ _ _ _ _ _ _ _ _ _ wr=>vB R t wr)
  case atStart=>exact HV.out.N9
  case round=>
   rename World=>WO
   obtain⟨g,cap,ls,s,lc,hV⟩:=hrel;have zX:vB R t WO=lc.length:=hV.rd.vB;have KT:=a_ hV;have hsm:=hV.sm;have Xo:=hV.lp;have c0:=cell_of (i:=2) hV.bp rfl;obtain⟨g1,aaw,hv1,hc1⟩:=hV.gx.last;obtain⟨Yl,Ym⟩:g=g1/\cap=aaw:=by simpa using hv1
   subst Yl;subst Ym;have HG:=a_ (AO (cap:=cap) hV.rd hc1 (by omega));obtain⟨bg,hbg⟩:∃b,fy s lc=b:=⟨_,rfl⟩
   rw[hbg]at HG;clear hv1 hc1;cases bg with
   |false=>
    have hX:=hV.stop hbg;subst hX;clear hV hbg;have HE:Hid (∀W,Z5 WO W->RD R t wh n W lc/\W.heap[Bp]?=some (.cells (tC (Z9 g (ls.length+1) cap) ⟨#[]⟩) 146 (0,0))/\W.heap[w.heap.size]?=some (.cells eU 146 (0,0))/\GX (AQ w Bp) 144 146 W (Z9 g (ls.length+1) cap) (ls++[s])/\Fr (fun k=>k=R\/w.heap.size<=k) w W):=fun W hW=>KT.out.parts (Fr.below hW) (KT.out.rd.below hW);go_wp2_with(first|(go_at_call 134;refine HG.out.mono ?_;rintro e w4 ⟨rfl,hb4⟩;obtain⟨jf,Uw,z8,gx4,iz⟩:=HE.out _ hb4;obtain⟨⟨x0,x1,x2,x3,x4⟩,-⟩:=eO Uw;obtain⟨⟨y0,y1,y2,y3,y4⟩,z0,z1,z2,z3,z4⟩:=eO z8));have uq:Hid (∀W5,Fr (fun k=>k=w.heap.size) w4 W5->PV (fun b=>w.heap.size<=b) 144 146 W5 (.agg #[.string ⟨#[]⟩,.slice none 0 0,Z9 g (ls.length+1) cap,.string ⟨#[]⟩,.string ⟨#[]⟩]) ⟨[],.nil,gh.of (ls++[s]),[],[]⟩/\RD R t wh n W5 lc/\Fr (fun k=>k=R) w W5):=fun W5 f=>N8 (a:=[]) hR Xo (by omega) jf gx4 iz (f.mono fun k e=>Or.inl e);clear x0 x1 x2 x3 x4 y0 y1 y2 y3 y4 z0 z1 z2 z3 z4;obtain⟨W5,lg,r5,kC⟩:=pT (.string ⟨#[]⟩) (.slice none 0 0) (Z9 g (ls.length+1) cap) (.string ⟨#[]⟩) (.string ⟨#[]⟩) z8;rw[lg];clear lg;obtain⟨⟨k0,k1,k2,k3,k4⟩,-⟩:=eO r5;obtain⟨q1,q2,q3⟩:=uq.out _ kC;refine aJ (v:=.agg #[.string ⟨#[]⟩,.slice none 0 0,Z9 g (ls.length+1) cap,.string ⟨#[]⟩,.string ⟨#[]⟩]) (by simp[results,results226,go_sem,k0,k1,k2,k3,k4]) rfl ⟨_,rfl,q1,q2,q3⟩
   |true=>
    have hgo:=hV.go hbg;have tB:Hid (∀W,RD R t wh n W lc->Z4 133 #[ptr R] W (Ends R t wh n VB W (iy (ei t wh) lc))):=fun W hW=>qc hW;clear hV hbg;cases hs1:iy (ei t wh) lc with
    |error y=>
     have hX:=hgo.1 y hs1;subst hX;rw[hs1]at tB;clear hs1 hgo;go_wp2_with(first|(go_at_call 134;refine HG.out.mono ?_;rintro e w4 ⟨rfl,hb4⟩;have jf:=KT.out.rd.below hb4)|(go_at_call 133;refine(tB.out _ jf).mono ?_;rintro e w5 ⟨rfl,lJ⟩));exact⟨rfl,rfl,((KT.out.fr.on hb4).trans lJ (fun i hi x=>Or.inl x)).restrict (fun k hk x=>by omega)⟩
    |ok z=>
     obtain⟨d1,l3⟩:=z;obtain⟨aav,hgA,Xp⟩:=hgo.2 d1 l3 hs1;rw[hs1]at tB;clear hs1 hgo;have Xq:Hid (∀W4 W5,Z5 WO W4->Fr (fun k=>k=R) W4 W5->RD R t wh n W5 l3->RD R t wh n W5 l3/\W5.heap[Bp]?=some (.cells (tC (Z9 g (ls.length+1) cap) ⟨#[]⟩) 146 (0,0))/\W5.heap[w.heap.size]?=some (.cells eU 146 (0,0))/\GX (AQ w Bp) 144 146 W5 (Z9 g (ls.length+1) cap) (ls++[s])/\Fr (fun k=>k=R\/w.heap.size<=k) w W5):=fun W4 W5 b4 f5 rd=>KT.out.parts ((Fr.below b4).same f5) rd;have HS6:Hid (∀W5 W6,(RD R t wh n W5 l3/\W5.heap[Bp]?=some (.cells (tC (Z9 g (ls.length+1) cap) ⟨#[]⟩) 146 (0,0))/\W5.heap[w.heap.size]?=some (.cells eU 146 (0,0))/\GX (AQ w Bp) 144 146 W5 (Z9 g (ls.length+1) cap) (ls++[s])/\Fr (fun k=>k=R\/w.heap.size<=k) w W5)->Z5 W5 W6->RD R t wh n W6 l3/\W6.heap[Bp]?=some (.cells (tC (Z9 g (ls.length+1) cap) ⟨#[]⟩) 146 (0,0))/\W6.heap[w.heap.size]?=some (.cells eU 146 (0,0))/\GX (AQ w Bp) 144 146 W6 (Z9 g (ls.length+1) cap) (ls++[s])/\Fr (fun k=>k=R\/w.heap.size<=k) w W6):=fun W5 W6 h b=>⟨h.1.below b,(b.block _ (dQ h.2.1)).trans h.2.1,(b.block _ (dQ h.2.2.1)).trans h.2.2.1,h.2.2.2.1.fr (Fr.below (F:=fun _=>False) b) (fun _ x=>x.elim),h.2.2.2.2.on b⟩
     have CD:Hid (∀W,RD R t wh n W l3->Z4 135 #[ptr R] W (Z7 (.string (bs (part l3))) W)):=fun W hW=>jA hW;by_cases hat:d1=false/\part l3=[64]
     ·obtain⟨R_,Yn⟩:=hgA hat;have hq:((bs (part l3)).toList==[64])=true:=by rw[fe,hat.2];rfl
      have hd1:=hat.1;subst hd1;generalize bs (part l3)=S at*
      clear hgA Xp hat;have sq:Hid (∀W,RD R t wh n W l3->Z4 225 #[ptr R] W (Ends R t wh n VS W (attr (ei t wh) l3))):=fun W hW=>JL hW;cases ha:attr (ei t wh) l3 with
      |error y=>
       have hX:=R_ y ha;subst hX;rw[ha]at sq;clear ha R_ Yn;go_wp2_with(first|(go_at_call 134;refine HG.out.mono ?_;rintro e w4 ⟨rfl,hb4⟩;have jf:=KT.out.rd.below hb4)|(go_at_call 133;refine(tB.out _ jf).mono ?_;rintro e w5 ⟨v5,rfl,rfl,sf,lJ⟩;have hs5:=Xq.out _ _ hb4 lJ sf)|(go_at_call 135;refine(CD.out _ hs5.1).mono ?_;rintro e N_ ⟨rfl,mh⟩;have Sb:=HS6.out _ _ hs5 mh)|(go_at_call 225;refine(sq.out _ Sb.1).mono ?_;rintro e w7 ⟨rfl,fr7⟩));exact⟨rfl,rfl,(Sb.2.2.2.2.trans fr7 (fun i hi x=>Or.inl x)).restrict (fun k hk x=>by omega)⟩
      |ok z=>
       obtain⟨a,l4⟩:=z;have hX:=Yn a l4 ha;subst hX;rw[ha]at sq;clear ha R_ Yn;have HS7:Hid (∀W6 W7,(RD R t wh n W6 l3/\W6.heap[Bp]?=some (.cells (tC (Z9 g (ls.length+1) cap) ⟨#[]⟩) 146 (0,0))/\W6.heap[w.heap.size]?=some (.cells eU 146 (0,0))/\GX (AQ w Bp) 144 146 W6 (Z9 g (ls.length+1) cap) (ls++[s])/\Fr (fun k=>k=R\/w.heap.size<=k) w W6)->Fr (fun k=>k=R) W6 W7->RD R t wh n W7 l4->W7.heap[Bp]?=some (.cells (tC (Z9 g (ls.length+1) cap) ⟨#[]⟩) 146 (0,0))/\W7.heap[w.heap.size]?=some (.cells eU 146 (0,0))/\(W7.setCell ⟨Bp,3,none⟩ (.string (bs a))).heap[Bp]?=some (.cells (tC (Z9 g (ls.length+1) cap) (bs a)) 146 (0,0))/\(W7.setCell ⟨Bp,3,none⟩ (.string (bs a))).heap[w.heap.size]?=some (.cells eU 146 (0,0))/\∀W8,Fr (fun k=>k=w.heap.size) (W7.setCell ⟨Bp,3,none⟩ (.string (bs a))) W8->PV (fun b=>w.heap.size<=b) 144 146 W8 (.agg #[.string ⟨#[]⟩,.slice none 0 0,Z9 g (ls.length+1) cap,.string (bs a),.string ⟨#[]⟩]) ⟨[],.nil,gh.of (ls++[s]),a,[]⟩/\RD R t wh n W8 l4/\Fr (fun k=>k=R) w W8):=fun W6 W7 h6 f7 rd7=>by
        have b7:=(f7.block _ (dQ h6.2.1) (by omega)).trans h6.2.1;have q7:=(f7.block _ (dQ h6.2.2.1) (by omega)).trans h6.2.2.1;have fs:Fr (fun k=>k=w.heap.size\/k=Bp) W7 (W7.setCell ⟨Bp,3,none⟩ (.string (bs a))):=(Fr.refl (fun k=>k=w.heap.size\/k=Bp) W7).set ⟨Bp,3,none⟩ (.string (bs a)) (fun _=>Or.inr rfl);refine⟨b7,q7,eh b7 _,(ak W7 ⟨Bp,3,none⟩ (.string (bs a)) w.heap.size (show w.heap.size≠Bp by omega)).trans q7,fun W8 f8=>?_⟩;exact N8 hR Xo (by omega) rd7 (h6.2.2.2.1.fr f7 (fun k e x=>by unfold AQ at x;omega)) (h6.2.2.2.2.trans f7 (fun _ _ x=>Or.inl x)) (fs.same (f8.mono fun k e=>Or.inl e))
       go_wp2_with(first|(go_at_call 134;refine HG.out.mono ?_;rintro e w4 ⟨rfl,hb4⟩;have jf:=KT.out.rd.below hb4)|(go_at_call 133;refine(tB.out _ jf).mono ?_;rintro e w5 ⟨v5,rfl,rfl,sf,lJ⟩;have hs5:=Xq.out _ _ hb4 lJ sf)|(go_at_call 135;refine(CD.out _ hs5.1).mono ?_;rintro e N_ ⟨rfl,mh⟩;have Sb:=HS6.out _ _ hs5 mh)|(go_at_call 225;refine(sq.out _ Sb.1).mono ?_;rintro e w7 ⟨v7,rfl,rfl,rd7,fr7⟩;obtain⟨bp7,bq7,bp8,z8,hfn⟩:=HS7.out _ _ Sb fr7 rd7;have uq:=a_ hfn;clear hfn;obtain⟨⟨x0,x1,x2,x3,x4⟩,u0,u1,u2,u3,u4⟩:=eO bp7;obtain⟨⟨a0,a1,a2,a3,a4⟩,-⟩:=eO bp8;obtain⟨⟨y0,y1,y2,y3,y4⟩,z0,z1,z2,z3,z4⟩:=eO z8));clear x0 x1 x2 x3 x4 y0 y1 y2 y3 y4 z0 z1 z2 z3 z4 u0 u1 u2 u3 u4 a0 a1 a2 a3 a4;obtain⟨W5,lg,r5,kC⟩:=pT (.string ⟨#[]⟩) (.slice none 0 0) (Z9 g (ls.length+1) cap) (.string (bs a)) (.string ⟨#[]⟩) z8;rw[lg];clear lg;obtain⟨⟨k0,k1,k2,k3,k4⟩,-⟩:=eO r5;obtain⟨q1,q2,q3⟩:=uq.out _ kC;refine aJ (v:=.agg #[.string ⟨#[]⟩,.slice none 0 0,Z9 g (ls.length+1) cap,.string (bs a),.string ⟨#[]⟩]) (by simp[results,results226,go_sem,k0,k1,k2,k3,k4]) rfl ⟨_,rfl,q1,q2,q3⟩
     ·obtain⟨zY,zZ⟩:=Xp hat;clear hgA Xp;cases d1 with
      |true=>
       clear hat CD;cases hs2:step (ei t wh) eW true l3 with
       |error y=>
        have hX:=zY y hs2;subst hX;clear zY zZ;go_wp2_with(first|(go_at_call 134;refine HG.out.mono ?_;rintro e w4 ⟨rfl,hb4⟩;have jf:=KT.out.rd.below hb4)|(go_at_call 133;refine(tB.out _ jf).mono ?_;rintro e w5 ⟨v5,rfl,rfl,sf,lJ⟩;have hs5:=Xq.out _ _ hb4 lJ sf));obtain⟨yj,AU,z8,N7,yl⟩:=hs5;have Oa:Hid (∀W,Fr (fun _=>False) w5 W->W.cell? ⟨Bp,2,none⟩=some (Z9 g (ls.length+1) cap)):=fun W hW=>cell_of ((hW.block Bp (dQ AU) (fun x=>x)).trans AU) rfl;have sj:Hid (∀W,Fr (fun _=>False) w5 W->Z4 132 #[ptr R,.bool true] W (Ends R t wh n (SV (fun b=>W.heap.size<=b) 144 146) W (.error y))):=fun W hW=>by rw[<-hs2];exact oQ true HI.out (yj.fr hW (fun x=>x))
        have Yo:Hid (∀W W',Fr (fun _=>False) w5 W->Fr (fun k=>k=R) W W'->Fr (fun k=>k=R) w W'):=fun W W' f1 f2=>((yl.trans f1 (fun _ _ x=>x.elim)).trans f2 (fun _ _ x=>Or.inl x)).restrict (fun k hk x=>by omega);clear hs2 yj AU z8 N7 yl;generalize w5=W5 at*
        have ym:Fr (fun _=>False) W5 W5.drew:=(Fr.refl _ W5).drewN 1;refine wp_region_held_drew (S:=fun _=>True) (by kernel_rfl) trivial (fun hHeld=>?_);generalize W5.drew=W5d at*
        have fr:=ym;clear ym;refine wpAnyH_take (i:=0) (v:=?_) rfl (by kernel_rfl) (by kernel_rfl) (by kernel_rfl) (fun _ _ _ h=>h) (Or.inl ⟨by rfl,?_⟩) (by assumption) ?_
        rotate_left
        ·(intro w hSw;(try dsimp only at hSw);go_simp;(try with_reducible rfl))
        (try simp only[Act.put,ae,af,aj])
        refine wpAnyH_take (i:=2) (v:=?_) rfl (by kernel_rfl) (by kernel_rfl) (by kernel_rfl) (fun _ _ _ h=>h) (Or.inl ⟨by rfl,?_⟩) (by assumption) ?_
        rotate_left
        ·(intro w hSw;(try dsimp only at hSw);go_simp;(try with_reducible rfl))
        (try simp only[Act.put,ae,af,aj])
        refine wpAnyH_take (i:=3) (v:=?_) rfl (by kernel_rfl) (by kernel_rfl) (by kernel_rfl) (fun _ _ _ h=>h) (Or.inl ⟨by rfl,?_⟩) (by assumption) ?_
        rotate_left
        ·(intro w hSw;(try dsimp only at hSw);go_simp;(try with_reducible rfl))
        (try simp only[Act.put,ae,af,aj])
        refine wpAnyH_ready (rs:=[1,4]) (by kernel_rfl) (by simp) ?_;refine AllReadyH.cons rfl (fun K hK=>?_) (AllReadyH.cons rfl (fun K hK=>?_) AllReadyH.nil);have uo:=Oa.out _ fr
        go_simp
        refine hK.out _ _ trivial (fun hHeld=>?_);clear hK K uo
        (try simp only[Act.put,ae,af,aj])
        refine wpAnyH_ready (rs:=[4]) (by kernel_rfl) (by simp) ?_;refine AllReadyH.cons rfl (fun K hK=>?_) AllReadyH.nil;have hcc:=sj.out _ fr
        go_simp
        refine hcc.mono ?_;rintro e w6 ⟨rfl,vK⟩;exact⟨rfl,rfl,Yo.out _ _ fr vK⟩;have hcc:=sj.out _ fr
        go_simp
        refine hcc.mono ?_;rintro e w6 ⟨rfl,vK⟩;exact⟨rfl,rfl,Yo.out _ _ fr vK⟩
       |ok z=>
        obtain⟨s',l4⟩:=z;have Rl:=kJ HI.out.xh true l3 s' l4 hs2;have hl4:=Rl.length_le;have G6:=a_ (zZ s' l4 hs2 Rl);clear zY zZ;go_wp2_with(first|(go_at_call 134;refine HG.out.mono ?_;rintro e w4 ⟨rfl,hb4⟩;have jf:=KT.out.rd.below hb4)|(go_at_call 133;refine(tB.out _ jf).mono ?_;rintro e w5 ⟨v5,rfl,rfl,sf,lJ⟩;have hs5:=Xq.out _ _ hb4 lJ sf));obtain⟨yj,AU,z8,N7,yl⟩:=hs5;have Oa:Hid (∀W,Fr (fun k=>k=R) w5 W->W.cell? ⟨Bp,2,none⟩=some (Z9 g (ls.length+1) cap)):=fun W hW=>cell_of ((hW.block Bp (dQ AU) (by omega)).trans AU) rfl;have sj:Hid (∀W,Fr (fun _=>False) w5 W->Z4 132 #[ptr R,.bool true] W (Ends R t wh n (SV (fun b=>W.heap.size<=b) 144 146) W (.ok (s',l4)))):=fun W hW=>by rw[<-hs2];exact oQ true HI.out (yj.fr hW (fun x=>x))
        have qi:Hid (∀W1 W3 v,Fr (fun _=>False) w5 W1->Fr (fun k=>k=R) W1 W3->RD R t wh n W3 l4->SV (fun b=>W1.heap.size<=b) 144 146 W3 v s'->∃te vi vn vc,v=.agg #[.bool s'.deep,.string te,.slice vi vn vc]/\Hid (∃xs,(W3.alloc (.cells #[.bool s'.deep,.string te,.slice vi vn vc] 144)).ownsRow 0 144 3 (Z9 g (ls.length+1) cap) (ls.length+1) (gZ xs)/\∀v' W4,W4.ownsRow 0 144 3 v' (ls.length+1+1) (gZ xs++[.bool s'.deep,.string te,.slice vi vn vc])->(W3.alloc (.cells #[.bool s'.deep,.string te,.slice vi vn vc] 144)).grownBy W4 (Z9 g (ls.length+1) cap).ownBlock->(v'.ownBlock=(Z9 g (ls.length+1) cap).ownBlock\/v'.ownBlock=some (W3.heap.size+1))->W4.heap[Bp]?=some (.cells #[.string ⟨#[]⟩,.slice none 0 0,Z9 g (ls.length+1) cap,.string ⟨#[]⟩,.string ⟨#[]⟩] 146 (0,0))/\VI R t wh n eW w Bp X (W4.setCell ⟨Bp,2,none⟩ v') v' (ls++[s]) s' l4)):=fun W1 W3 v f1 f3 rd sv=>by
         obtain⟨vp,rfl,sp⟩:=sv;obtain⟨vi,vc,rfl⟩:=sl.shape sp;refine⟨_,vi,_,vc,rfl,?_⟩;exact JP KT.out hR f1 f3 rd sp AU z8 N7 yl G6.out (by omega)
        clear hs2 yj AU z8 N7 yl;generalize w5=W5 at*
        have ym:Fr (fun _=>False) W5 W5.drew:=(Fr.refl _ W5).drewN 1;refine wp_region_held_drew (S:=fun _=>True) (by kernel_rfl) trivial (fun hHeld=>?_);generalize W5.drew=W5d at*
        have fr:=ym;clear ym;refine wpAnyH_take (i:=0) (v:=?_) rfl (by kernel_rfl) (by kernel_rfl) (by kernel_rfl) (fun _ _ _ h=>h) (Or.inl ⟨by rfl,?_⟩) (by assumption) ?_
        rotate_left
        ·(intro w hSw;(try dsimp only at hSw);go_simp;(try with_reducible rfl))
        (try simp only[Act.put,ae,af,aj])
        refine wpAnyH_take (i:=2) (v:=?_) rfl (by kernel_rfl) (by kernel_rfl) (by kernel_rfl) (fun _ _ _ h=>h) (Or.inl ⟨by rfl,?_⟩) (by assumption) ?_
        rotate_left
        ·(intro w hSw;(try dsimp only at hSw);go_simp;(try with_reducible rfl))
        (try simp only[Act.put,ae,af,aj])
        refine wpAnyH_take (i:=3) (v:=?_) rfl (by kernel_rfl) (by kernel_rfl) (by kernel_rfl) (fun _ _ _ h=>h) (Or.inl ⟨by rfl,?_⟩) (by assumption) ?_
        rotate_left
        ·(intro w hSw;(try dsimp only at hSw);go_simp;(try with_reducible rfl))
        (try simp only[Act.put,ae,af,aj])
        refine wpAnyH_ready (rs:=[1,4]) (by kernel_rfl) (by simp) ?_;refine AllReadyH.cons rfl (fun K hK=>?_) (AllReadyH.cons rfl (fun K hK=>?_) AllReadyH.nil);have uo:=Oa.out _ (by first|exact fr|exact fr.mono fun _ x=>x.elim)
        go_simp
        refine hK.out _ _ trivial (fun hHeld=>?_);clear hK K uo
        (try simp only[Act.put,ae,af,aj])
        refine wpAnyH_ready (rs:=[4]) (by kernel_rfl) (by simp) ?_;refine AllReadyH.cons rfl (fun K hK=>?_) AllReadyH.nil;have hcc:=sj.out _ fr
        go_simp
        refine hcc.mono ?_;clear hcc;rintro e w6 ⟨v6,rfl,JO,RY,vK⟩;obtain⟨KL,KM,KN,KP,rfl,Yp⟩:=qi.out _ _ _ fr vK RY JO;clear JO;have fr:Fr (fun k=>k=R) W5 w6:=(fr.mono (fun _ x=>x.elim)).same vK;refine hK.out _ _ trivial (fun hHeld=>?_);clear hK K
        (try simp only[Act.put,ae,af,aj])
        refine wpAnyH_ready (rs:=[5]) (by kernel_rfl) (by simp) ?_;refine AllReadyH.cons rfl (fun K hK=>?_) AllReadyH.nil
        go_simp
        refine hK.out _ _ trivial (fun hHeld=>?_);clear hK K
        (try simp only[Act.put,ae,af,aj])
        have fr:=fr.alloc (.cells #[.bool s'.deep,.string KL,.slice KM KN KP] 144)
        rotate_left 1
        have hcc:=sj.out _ fr
        go_simp
        refine hcc.mono ?_;clear hcc;rintro e w6 ⟨v6,rfl,JO,RY,vK⟩;obtain⟨KL,KM,KN,KP,rfl,Yp⟩:=qi.out _ _ _ fr vK RY JO;clear JO;have fr:Fr (fun k=>k=R) W5 w6:=(fr.mono (fun _ x=>x.elim)).same vK;refine hK.out _ _ trivial (fun hHeld=>?_);clear hK K
        (try simp only[Act.put,ae,af,aj])
        refine wpAnyH_ready (rs:=[1,5]) (by kernel_rfl) (by simp) ?_;refine AllReadyH.cons rfl (fun K hK=>?_) (AllReadyH.cons rfl (fun K hK=>?_) AllReadyH.nil);have uo:=Oa.out _ (by first|exact fr|exact fr.mono fun _ x=>x.elim)
        go_simp
        refine hK.out _ _ trivial (fun hHeld=>?_);clear hK K uo
        (try simp only[Act.put,ae,af,aj])
        refine wpAnyH_ready (rs:=[5]) (by kernel_rfl) (by simp) ?_;refine AllReadyH.cons rfl (fun K hK=>?_) AllReadyH.nil
        go_simp
        refine hK.out _ _ trivial (fun hHeld=>?_);clear hK K
        (try simp only[Act.put,ae,af,aj])
        have fr:=fr.alloc (.cells #[.bool s'.deep,.string KL,.slice KM KN KP] 144)
        rotate_left 1
        go_simp
        refine hK.out _ _ trivial (fun hHeld=>?_);clear hK K
        (try simp only[Act.put,ae,af,aj])
        have fr:=fr.alloc (.cells #[.bool s'.deep,.string KL,.slice KM KN KP] 144);refine wpAnyH_ready (rs:=[1]) (by kernel_rfl) (by simp) ?_;refine AllReadyH.cons rfl (fun K hK=>?_) AllReadyH.nil;have uo:=Oa.out _ (by first|exact fr|exact fr.mono fun _ x=>x.elim)
        go_simp
        refine hK.out _ _ trivial (fun hHeld=>?_);clear hK K uo
        (try simp only[Act.put,ae,af,aj])
        rotate_left 1
        all_goals
         obtain⟨xs,hx1,KQ⟩:=Yp.out;have KQ:=a_ KQ;refine wpAnyH_ready (rs:=[6]) (by kernel_rfl) (by simp) ?_;refine AllReadyH.cons rfl (fun K hK=>?_) AllReadyH.nil;refine eL rfl (.tmp 29) (.tmp 33) 85 rfl 144 i0 _ 3 48 underlying85 hi hz0 hz1 hz2 rfl (by decide) (Z9 g (ls.length+1) cap) (ls.length+1) (gZ xs) (by simp[Act.eval]) hx1 ⟨w6.heap.size,0,none⟩ 1 1 [.bool s'.deep,.string KL,.slice KM KN KP] (by simp[Act.eval]) rfl (kK _ _ _) (vL _ _ _ _ _) (by unfold maxLen;omega) (by omega) ?_;intro v' w7 ho hg hat;obtain⟨g',cap',rfl⟩:=qg ho;obtain⟨b7,Yq⟩:=KQ.out _ w7 ho hg (by simpa using hat);have HVI:=a_ Yq;have c7:=cell_of (i:=2) b7 rfl;have f7:=dY (i:=2) b7;clear Yq ho hg hat;refine hK.out _ _ trivial (fun hHeld=>?_);clear hK K
         (try simp only[Act.put,ae,af,aj])
         refine wpAnyH_take (i:=7) (v:=?_) rfl (by kernel_rfl) (by kernel_rfl) (by kernel_rfl) (fun _ _ _ h=>h) (Or.inl ⟨by rfl,?_⟩) (by assumption) ?_
         rotate_left
         ·(intro w hSw;(try dsimp only at hSw);go_simp;(try with_reducible rfl))
         (try simp only[Act.put,ae,af,aj])
         refine wpAnyH_ready (rs:=[8]) (by kernel_rfl) (by simp) ?_;refine AllReadyH.cons rfl (fun K hK=>?_) AllReadyH.nil
         go_simp
         refine hK.out _ _ trivial (fun hHeld=>?_);clear hK K;refine wpAnyH_done (by kernel_rfl) ?_ _;have hV:=HVI.out;simp only[Exit.then,Exit.inBlock];have hm:vB R t (w7.setCell ⟨Bp,2,none⟩ (Z9 g' (ls.length+1+1) cap'))<vB R t WO:=by rw[hV.rd.vB,zX];omega
         have hE:∃g2 Sd Yr s2 lc2,VI R t wh n eW w Bp X (w7.setCell ⟨Bp,2,none⟩ (Z9 g' (ls.length+1+1) cap')) (Z9 g2 (List.length Yr+1) Sd) Yr s2 lc2:=⟨g',cap',ls++[s],s',l4,by simpa using hV⟩
         exact⟨⟨_,_,_,_,_,_,_,_,_,_,_,_,_,_,_,_,_,_,_,_,_,_,_,_,_,hE,rfl⟩,hm⟩
      |false=>
       have hq:((bs (part l3)).toList==[64])=false:=by rw[fe];simpa using hat
       generalize bs (part l3)=S at*
       clear hat;cases hs2:step (ei t wh) eW false l3 with
       |error y=>
        have hX:=zY y hs2;subst hX;clear zY zZ;go_wp2_with(first|(go_at_call 134;refine HG.out.mono ?_;rintro e w4 ⟨rfl,hb4⟩;have jf:=KT.out.rd.below hb4)|(go_at_call 133;refine(tB.out _ jf).mono ?_;rintro e w5 ⟨v5,rfl,rfl,sf,lJ⟩;have hs5:=Xq.out _ _ hb4 lJ sf)|(go_at_call 135;refine(CD.out _ hs5.1).mono ?_;rintro e N_ ⟨rfl,mh⟩;have Sb:=HS6.out _ _ hs5 mh));obtain⟨yj,AU,z8,N7,yl⟩:=Sb;have Oa:Hid (∀W,Fr (fun _=>False) N_ W->W.cell? ⟨Bp,2,none⟩=some (Z9 g (ls.length+1) cap)):=fun W hW=>cell_of ((hW.block Bp (dQ AU) (fun x=>x)).trans AU) rfl;have sj:Hid (∀W,Fr (fun _=>False) N_ W->Z4 132 #[ptr R,.bool false] W (Ends R t wh n (SV (fun b=>W.heap.size<=b) 144 146) W (.error y))):=fun W hW=>by rw[<-hs2];exact oQ false HI.out (yj.fr hW (fun x=>x))
        have Yo:Hid (∀W W',Fr (fun _=>False) N_ W->Fr (fun k=>k=R) W W'->Fr (fun k=>k=R) w W'):=fun W W' f1 f2=>((yl.trans f1 (fun _ _ x=>x.elim)).trans f2 (fun _ _ x=>Or.inl x)).restrict (fun k hk x=>by omega);clear hs2 yj AU z8 N7 yl;generalize N_=W5 at*
        have ym:Fr (fun _=>False) W5 W5.drew:=(Fr.refl _ W5).drewN 1;refine wp_region_held_drew (S:=fun _=>True) (by kernel_rfl) trivial (fun hHeld=>?_);generalize W5.drew=W5d at*
        have fr:=ym;clear ym;refine wpAnyH_take (i:=0) (v:=?_) rfl (by kernel_rfl) (by kernel_rfl) (by kernel_rfl) (fun _ _ _ h=>h) (Or.inl ⟨by rfl,?_⟩) (by assumption) ?_
        rotate_left
        ·(intro w hSw;(try dsimp only at hSw);go_simp;(try with_reducible rfl))
        (try simp only[Act.put,ae,af,aj])
        refine wpAnyH_take (i:=2) (v:=?_) rfl (by kernel_rfl) (by kernel_rfl) (by kernel_rfl) (fun _ _ _ h=>h) (Or.inl ⟨by rfl,?_⟩) (by assumption) ?_
        rotate_left
        ·(intro w hSw;(try dsimp only at hSw);go_simp;(try with_reducible rfl))
        (try simp only[Act.put,ae,af,aj])
        refine wpAnyH_take (i:=3) (v:=?_) rfl (by kernel_rfl) (by kernel_rfl) (by kernel_rfl) (fun _ _ _ h=>h) (Or.inl ⟨by rfl,?_⟩) (by assumption) ?_
        rotate_left
        ·(intro w hSw;(try dsimp only at hSw);go_simp;(try with_reducible rfl))
        (try simp only[Act.put,ae,af,aj])
        refine wpAnyH_ready (rs:=[1,4]) (by kernel_rfl) (by simp) ?_;refine AllReadyH.cons rfl (fun K hK=>?_) (AllReadyH.cons rfl (fun K hK=>?_) AllReadyH.nil);have uo:=Oa.out _ fr
        go_simp
        refine hK.out _ _ trivial (fun hHeld=>?_);clear hK K uo
        (try simp only[Act.put,ae,af,aj])
        refine wpAnyH_ready (rs:=[4]) (by kernel_rfl) (by simp) ?_;refine AllReadyH.cons rfl (fun K hK=>?_) AllReadyH.nil;have hcc:=sj.out _ fr
        go_simp
        refine hcc.mono ?_;rintro e w6 ⟨rfl,vK⟩;exact⟨rfl,rfl,Yo.out _ _ fr vK⟩;have hcc:=sj.out _ fr
        go_simp
        refine hcc.mono ?_;rintro e w6 ⟨rfl,vK⟩;exact⟨rfl,rfl,Yo.out _ _ fr vK⟩
       |ok z=>
        obtain⟨s',l4⟩:=z;have Rl:=kJ HI.out.xh false l3 s' l4 hs2;have hl4:=Rl.length_le;have G6:=a_ (zZ s' l4 hs2 Rl);clear zY zZ;go_wp2_with(first|(go_at_call 134;refine HG.out.mono ?_;rintro e w4 ⟨rfl,hb4⟩;have jf:=KT.out.rd.below hb4)|(go_at_call 133;refine(tB.out _ jf).mono ?_;rintro e w5 ⟨v5,rfl,rfl,sf,lJ⟩;have hs5:=Xq.out _ _ hb4 lJ sf)|(go_at_call 135;refine(CD.out _ hs5.1).mono ?_;rintro e N_ ⟨rfl,mh⟩;have Sb:=HS6.out _ _ hs5 mh));obtain⟨yj,AU,z8,N7,yl⟩:=Sb;have Oa:Hid (∀W,Fr (fun k=>k=R) N_ W->W.cell? ⟨Bp,2,none⟩=some (Z9 g (ls.length+1) cap)):=fun W hW=>cell_of ((hW.block Bp (dQ AU) (by omega)).trans AU) rfl;have sj:Hid (∀W,Fr (fun _=>False) N_ W->Z4 132 #[ptr R,.bool false] W (Ends R t wh n (SV (fun b=>W.heap.size<=b) 144 146) W (.ok (s',l4)))):=fun W hW=>by rw[<-hs2];exact oQ false HI.out (yj.fr hW (fun x=>x))
        have qi:Hid (∀W1 W3 v,Fr (fun _=>False) N_ W1->Fr (fun k=>k=R) W1 W3->RD R t wh n W3 l4->SV (fun b=>W1.heap.size<=b) 144 146 W3 v s'->∃te vi vn vc,v=.agg #[.bool s'.deep,.string te,.slice vi vn vc]/\Hid (∃xs,(W3.alloc (.cells #[.bool s'.deep,.string te,.slice vi vn vc] 144)).ownsRow 0 144 3 (Z9 g (ls.length+1) cap) (ls.length+1) (gZ xs)/\∀v' W4,W4.ownsRow 0 144 3 v' (ls.length+1+1) (gZ xs++[.bool s'.deep,.string te,.slice vi vn vc])->(W3.alloc (.cells #[.bool s'.deep,.string te,.slice vi vn vc] 144)).grownBy W4 (Z9 g (ls.length+1) cap).ownBlock->(v'.ownBlock=(Z9 g (ls.length+1) cap).ownBlock\/v'.ownBlock=some (W3.heap.size+1))->W4.heap[Bp]?=some (.cells #[.string ⟨#[]⟩,.slice none 0 0,Z9 g (ls.length+1) cap,.string ⟨#[]⟩,.string ⟨#[]⟩] 146 (0,0))/\VI R t wh n eW w Bp X (W4.setCell ⟨Bp,2,none⟩ v') v' (ls++[s]) s' l4)):=fun W1 W3 v f1 f3 rd sv=>by
         obtain⟨vp,rfl,sp⟩:=sv;obtain⟨vi,vc,rfl⟩:=sl.shape sp;refine⟨_,vi,_,vc,rfl,?_⟩;exact JP KT.out hR f1 f3 rd sp AU z8 N7 yl G6.out (by omega)
        clear hs2 yj AU z8 N7 yl;generalize N_=W5 at*
        have ym:Fr (fun _=>False) W5 W5.drew:=(Fr.refl _ W5).drewN 1;refine wp_region_held_drew (S:=fun _=>True) (by kernel_rfl) trivial (fun hHeld=>?_);generalize W5.drew=W5d at*
        have fr:=ym;clear ym;refine wpAnyH_take (i:=0) (v:=?_) rfl (by kernel_rfl) (by kernel_rfl) (by kernel_rfl) (fun _ _ _ h=>h) (Or.inl ⟨by rfl,?_⟩) (by assumption) ?_
        rotate_left
        ·(intro w hSw;(try dsimp only at hSw);go_simp;(try with_reducible rfl))
        (try simp only[Act.put,ae,af,aj])
        refine wpAnyH_take (i:=2) (v:=?_) rfl (by kernel_rfl) (by kernel_rfl) (by kernel_rfl) (fun _ _ _ h=>h) (Or.inl ⟨by rfl,?_⟩) (by assumption) ?_
        rotate_left
        ·(intro w hSw;(try dsimp only at hSw);go_simp;(try with_reducible rfl))
        (try simp only[Act.put,ae,af,aj])
        refine wpAnyH_take (i:=3) (v:=?_) rfl (by kernel_rfl) (by kernel_rfl) (by kernel_rfl) (fun _ _ _ h=>h) (Or.inl ⟨by rfl,?_⟩) (by assumption) ?_
        rotate_left
        ·(intro w hSw;(try dsimp only at hSw);go_simp;(try with_reducible rfl))
        (try simp only[Act.put,ae,af,aj])
        refine wpAnyH_ready (rs:=[1,4]) (by kernel_rfl) (by simp) ?_;refine AllReadyH.cons rfl (fun K hK=>?_) (AllReadyH.cons rfl (fun K hK=>?_) AllReadyH.nil);have uo:=Oa.out _ (by first|exact fr|exact fr.mono fun _ x=>x.elim)
        go_simp
        refine hK.out _ _ trivial (fun hHeld=>?_);clear hK K uo
        (try simp only[Act.put,ae,af,aj])
        refine wpAnyH_ready (rs:=[4]) (by kernel_rfl) (by simp) ?_;refine AllReadyH.cons rfl (fun K hK=>?_) AllReadyH.nil;have hcc:=sj.out _ fr
        go_simp
        refine hcc.mono ?_;clear hcc;rintro e w6 ⟨v6,rfl,JO,RY,vK⟩;obtain⟨KL,KM,KN,KP,rfl,Yp⟩:=qi.out _ _ _ fr vK RY JO;clear JO;have fr:Fr (fun k=>k=R) W5 w6:=(fr.mono (fun _ x=>x.elim)).same vK;refine hK.out _ _ trivial (fun hHeld=>?_);clear hK K
        (try simp only[Act.put,ae,af,aj])
        refine wpAnyH_ready (rs:=[5]) (by kernel_rfl) (by simp) ?_;refine AllReadyH.cons rfl (fun K hK=>?_) AllReadyH.nil
        go_simp
        refine hK.out _ _ trivial (fun hHeld=>?_);clear hK K
        (try simp only[Act.put,ae,af,aj])
        have fr:=fr.alloc (.cells #[.bool s'.deep,.string KL,.slice KM KN KP] 144)
        rotate_left 1
        have hcc:=sj.out _ fr
        go_simp
        refine hcc.mono ?_;clear hcc;rintro e w6 ⟨v6,rfl,JO,RY,vK⟩;obtain⟨KL,KM,KN,KP,rfl,Yp⟩:=qi.out _ _ _ fr vK RY JO;clear JO;have fr:Fr (fun k=>k=R) W5 w6:=(fr.mono (fun _ x=>x.elim)).same vK;refine hK.out _ _ trivial (fun hHeld=>?_);clear hK K
        (try simp only[Act.put,ae,af,aj])
        refine wpAnyH_ready (rs:=[1,5]) (by kernel_rfl) (by simp) ?_;refine AllReadyH.cons rfl (fun K hK=>?_) (AllReadyH.cons rfl (fun K hK=>?_) AllReadyH.nil);have uo:=Oa.out _ (by first|exact fr|exact fr.mono fun _ x=>x.elim)
        go_simp
        refine hK.out _ _ trivial (fun hHeld=>?_);clear hK K uo
        (try simp only[Act.put,ae,af,aj])
        refine wpAnyH_ready (rs:=[5]) (by kernel_rfl) (by simp) ?_;refine AllReadyH.cons rfl (fun K hK=>?_) AllReadyH.nil
        go_simp
        refine hK.out _ _ trivial (fun hHeld=>?_);clear hK K
        (try simp only[Act.put,ae,af,aj])
        have fr:=fr.alloc (.cells #[.bool s'.deep,.string KL,.slice KM KN KP] 144)
        rotate_left 1
        go_simp
        refine hK.out _ _ trivial (fun hHeld=>?_);clear hK K
        (try simp only[Act.put,ae,af,aj])
        have fr:=fr.alloc (.cells #[.bool s'.deep,.string KL,.slice KM KN KP] 144);refine wpAnyH_ready (rs:=[1]) (by kernel_rfl) (by simp) ?_;refine AllReadyH.cons rfl (fun K hK=>?_) AllReadyH.nil;have uo:=Oa.out _ (by first|exact fr|exact fr.mono fun _ x=>x.elim)
        go_simp
        refine hK.out _ _ trivial (fun hHeld=>?_);clear hK K uo
        (try simp only[Act.put,ae,af,aj])
        rotate_left 1
        all_goals
         obtain⟨xs,hx1,KQ⟩:=Yp.out;have KQ:=a_ KQ;refine wpAnyH_ready (rs:=[6]) (by kernel_rfl) (by simp) ?_;refine AllReadyH.cons rfl (fun K hK=>?_) AllReadyH.nil;refine eL rfl (.tmp 29) (.tmp 33) 85 rfl 144 i0 _ 3 48 underlying85 hi hz0 hz1 hz2 rfl (by decide) (Z9 g (ls.length+1) cap) (ls.length+1) (gZ xs) (by simp[Act.eval]) hx1 ⟨w6.heap.size,0,none⟩ 1 1 [.bool s'.deep,.string KL,.slice KM KN KP] (by simp[Act.eval]) rfl (kK _ _ _) (vL _ _ _ _ _) (by unfold maxLen;omega) (by omega) ?_;intro v' w7 ho hg hat;obtain⟨g',cap',rfl⟩:=qg ho;obtain⟨b7,Yq⟩:=KQ.out _ w7 ho hg (by simpa using hat);have HVI:=a_ Yq;have c7:=cell_of (i:=2) b7 rfl;have f7:=dY (i:=2) b7;clear Yq ho hg hat;refine hK.out _ _ trivial (fun hHeld=>?_);clear hK K
         (try simp only[Act.put,ae,af,aj])
         refine wpAnyH_take (i:=7) (v:=?_) rfl (by kernel_rfl) (by kernel_rfl) (by kernel_rfl) (fun _ _ _ h=>h) (Or.inl ⟨by rfl,?_⟩) (by assumption) ?_
         rotate_left
         ·(intro w hSw;(try dsimp only at hSw);go_simp;(try with_reducible rfl))
         (try simp only[Act.put,ae,af,aj])
         refine wpAnyH_ready (rs:=[8]) (by kernel_rfl) (by simp) ?_;refine AllReadyH.cons rfl (fun K hK=>?_) AllReadyH.nil
         go_simp
         refine hK.out _ _ trivial (fun hHeld=>?_);clear hK K;refine wpAnyH_done (by kernel_rfl) ?_ _;have hV:=HVI.out;simp only[Exit.then,Exit.inBlock];have hm:vB R t (w7.setCell ⟨Bp,2,none⟩ (Z9 g' (ls.length+1+1) cap'))<vB R t WO:=by rw[hV.rd.vB,zX];omega
         have hE:∃g2 Sd Yr s2 lc2,VI R t wh n eW w Bp X (w7.setCell ⟨Bp,2,none⟩ (Z9 g' (ls.length+1+1) cap')) (Z9 g2 (List.length Yr+1) Sd) Yr s2 lc2:=⟨g',cap',ls++[s],s',l4,by simpa using hV⟩
         exact⟨⟨_,_,_,_,_,_,_,_,_,_,_,_,_,_,_,_,_,_,_,_,_,_,_,_,_,hE,rfl⟩,hm⟩
end
end Go.Proofs.YtclgfepngpeifaaGreatDoor
