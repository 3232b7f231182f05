import Derived.Test.YtclgfepngpeifaaGreatDoorXA
import Derived.Test.YtclgfepngpeifaaGreatDoorXac
set_option linter.unusedVariables false
set_option linter.unusedSimpArgs false
set_option maxHeartbeats 32000000
set_option maxRecDepth 100000
namespace Go.Proofs.YtclgfepngpeifaaGreatDoor
open Go.RowKit Go.Maps Go.Lib Tryz
section
variable{w w' w1 w2 W0 W1 W2 W3 W4 WO wr W W5:World}{A F G:Nat->Prop}{R lo Bp:Nat}{t l l':L}{wh n:Nat}{eW:Option (L->Rs gz)}{v v' vp vk vs:Value}{X:Rs gz}{p:gz}
theorem CF(hR:R<w.heap.size)(pv:PV (fun b=>w.heap.size+1<=b) 144 146 W v p)(rd:RD R t wh n W l)(fr:Fr (fun k=>k=R\/w.heap.size<=k) w W)(f5:Fr (fun k=>k=w.heap.size) W W5):PV (fun b=>w.heap.size<=b) 144 146 W5 v p/\RD R t wh n W5 l/\Fr (fun k=>k=R) w W5:=
 ⟨pv.move fun b hb hl=>⟨by omega,f5.block b hl (by omega)⟩,rd.fr f5 (by omega),(fr.trans f5 (fun i hi x=>by omega)).restrict (fun k hk x=>by omega)⟩
structure tD(R:Nat)(t:L)(wh n:Nat)(w W:World)(l:L):Prop where
 rd:RD R t wh n W l
 bq:W.heap[w.heap.size]?=some (.cells eU 146 (0,0))
 fr:Fr (fun k=>k=R\/w.heap.size<=k) w W
 sz:w.heap.size+1<=W.heap.size
 lt:R<w.heap.size
theorem tD.start(h:RD R t wh n w l):tD R t wh n w (w.alloc (.cells eU 146)) l:=
 ⟨h.fr ((Fr.refl (fun _=>False) w).alloc _) (fun x=>x),dR _ _,((Fr.refl (fun _=>False) w).alloc _).mono (fun _ x=>x.elim),by simp,h.lt⟩
theorem tD.on(h:tD R t wh n w W l)(f:Fr (fun k=>k=R) W W1)(rd:RD R t wh n W1 l'):tD R t wh n w W1 l':=by
 have:=h.lt;exact⟨rd,(f.block _ (dQ h.bq) (by omega)).trans h.bq,h.fr.trans f (fun _ _ x=>Or.inl x),aw h.sz f.size,h.lt⟩
theorem tD.KU(h:tD R t wh n w W l)(f:Fr (fun k=>k=R) W W1):Fr (fun k=>k=R) w W1:=by
 have:=h.lt;exact(h.fr.trans f (fun _ _ x=>Or.inl x)).restrict (fun k hk x=>by omega)
theorem tD.fin(h:tD R t wh n w W l)(f:Fr (fun k=>k=R) W W1)(rd:RD R t wh n W1 l')(pv:PV (fun b=>W.heap.size<=b) 144 146 W1 v p):∃ki nk kc si ns sc,v=.agg #[.string (bs p.op),.slice ki nk kc,.slice si ns sc,.string (bs p.attr),.string (bs p.text)]/\W1.heap[w.heap.size]?=some (.cells eU 146 (0,0))/\∀W5,Fr (fun k=>k=w.heap.size) W1 W5->PV (fun b=>w.heap.size<=b) 144 146 W5 (.agg #[.string (bs p.op),.slice ki nk kc,.slice si ns sc,.string (bs p.attr),.string (bs p.text)]) p/\RD R t wh n W5 l'/\Fr (fun k=>k=R) w W5:=by
 have h1:=h.on f rd;have pv1:PV (fun b=>w.heap.size+1<=b) 144 146 W1 v p:=pv.move fun b hb _=>⟨aw h.sz hb,rfl⟩
 obtain⟨ki,nk,kc,si,ns,sc,rfl,a1,a2⟩:=pv1.shape;exact⟨ki,nk,kc,si,ns,sc,rfl,h1.bq,fun W5 f5=>CF h.lt pv1 rd h1.fr f5⟩
theorem Vi(hi:qh R t wh n eW)(h:RD R t wh n w l):Z4 224 #[ptr R] w (Ends R t wh n (PV (fun b=>w.heap.size<=b) 144 146) w (dot (ei t wh) eW l)):=by
 have B0:=a_ (tD.start h);generalize hW0:w.alloc (.cells eU 146)=W0 at*
 unfold dot;cases hx:want (ei t wh) [46] l with
 |error y=>
  have HW:=a_ (rq hx B0.out.rd);simp only[oM];clear hx h;go_enter func224,ntmps224;go_wp2_with(first|(go_at_call 179;(try rw[hW0]);refine HW.out.mono ?_;rintro e w2 ⟨rfl,fr⟩));exact⟨rfl,rfl,B0.out.KU fr⟩
 |ok l1=>
  have HW:=a_ (rp hx B0.out.rd);simp only[oM];clear hx h;obtain⟨b,hb⟩:∃b,decide (part l1=[47,47])=b:=⟨_,rfl⟩
  have HT:Hid (∀W,RD R t wh n W l1->Z4 86 #[ptr R,.string ⟨#[47,47]⟩] W fun e w'=>e=.returned (.bool b)/\RD R t wh n w' (if b=true then pass 2 l1 else l1)/\Fr (fun k=>k=R) W w'):=fun W hW=>oP [47,47] hW b hb;cases b with
  |false=>
   rw[if_neg (by simpa using hb)];simp only[aA,aQ]at HT;clear hb;have HF:Hid (∀W1 W2,Fr (fun k=>k=R) W0 W1->Fr (fun k=>k=R) W1 W2->RD R t wh n W2 l1->W2.heap[w.heap.size]?=some (.cells eU 146 (0,0))/\∀W5,Fr (fun k=>k=w.heap.size) W2 W5->PV (fun b=>w.heap.size<=b) 144 146 W5 (.agg #[.string ⟨#[]⟩,.slice none 0 0,.slice none 0 0,.string ⟨#[]⟩,.string ⟨#[]⟩]) ⟨[],.nil,.nil,[],[]⟩/\RD R t wh n W5 l1/\Fr (fun k=>k=R) w W5):=fun W1 W2 f1 f2 rd=>by
    have h1:=B0.out.on (f1.same f2) rd;exact⟨h1.bq,fun W5 f5=>CF h1.lt ⟨_,_,rfl,Or.inl ⟨rfl,rfl⟩,Or.inl ⟨rfl,rfl⟩⟩ rd h1.fr f5⟩
   go_enter func224,ntmps224;go_wp2_with(first|(go_at_call 179;(try rw[hW0]);refine HW.out.mono ?_;rintro e w2 ⟨rfl,rd,fr⟩)|(go_at_call 86;refine(HT.out _ rd).mono ?_;rintro e w3 ⟨rfl,tu,jy⟩;obtain⟨pz,hf⟩:=HF.out _ _ fr jy tu;have uq:=a_ hf;clear hf;obtain⟨⟨y0,y1,y2,y3,y4⟩,z0,z1,z2,z3,z4⟩:=eO pz));obtain⟨W5,lg,r5,kC⟩:=pT (.string ⟨#[]⟩) (.slice none 0 0) (.slice none 0 0) (.string ⟨#[]⟩) (.string ⟨#[]⟩) pz;rw[lg];clear lg y0 y1 y2 y3 y4 z0 z1 z2 z3 z4;obtain⟨⟨k0,k1,k2,k3,k4⟩,-⟩:=eO r5;obtain⟨q1,q2,q3⟩:=uq.out _ kC;refine aJ (v:=.agg #[.string ⟨#[]⟩,.slice none 0 0,.slice none 0 0,.string ⟨#[]⟩,.string ⟨#[]⟩]) (by simp[results,results224,go_sem,k0,k1,k2,k3,k4]) rfl ⟨_,rfl,q1,q2,q3⟩
  |true=>
   rw[if_pos (by simpa using hb)];simp only[if_true]at HT;clear hb;have HV:Hid (∀W,RD R t wh n W (pass 2 l1)->Z4 226 #[ptr R,.bool true] W (Ends R t wh n (PV (fun b=>W.heap.size<=b) 144 146) W (oN (ei t wh) eW true (pass 2 l1)))):=fun W hW=>AV true hi hW;cases hy:oN (ei t wh) eW true (pass 2 l1)with
   |error y=>
    rw[hy]at HV;clear hy;go_enter func224,ntmps224;go_wp2_with(first|(go_at_call 179;(try rw[hW0]);refine HW.out.mono ?_;rintro e w2 ⟨rfl,rd,fr⟩)|(go_at_call 86;refine(HT.out _ rd).mono ?_;rintro e w3 ⟨rfl,tu,jy⟩)|(go_at_call 226;refine(HV.out _ tu).mono ?_;rintro e w4 ⟨rfl,iz⟩));exact⟨rfl,rfl,B0.out.KU ((fr.same jy).same iz)⟩
   |ok z=>
    obtain⟨p,l2⟩:=z;rw[hy]at HV;clear hy;have HF:Hid (∀W1 W2 W3 v,Fr (fun k=>k=R) W0 W1->Fr (fun k=>k=R) W1 W2->RD R t wh n W2 (pass 2 l1)->Fr (fun k=>k=R) W2 W3->RD R t wh n W3 l2->PV (fun b=>W2.heap.size<=b) 144 146 W3 v p->_):=fun W1 W2 W3 v f1 f2 rd f3 tu pv=>(B0.out.on (f1.same f2) rd).fin f3 tu pv;go_enter func224,ntmps224;go_wp2_with(first|(go_at_call 179;(try rw[hW0]);refine HW.out.mono ?_;rintro e w2 ⟨rfl,rd,fr⟩)|(go_at_call 86;refine(HT.out _ rd).mono ?_;rintro e w3 ⟨rfl,tu,jy⟩)|(go_at_call 226;refine(HV.out _ tu).mono ?_;rintro e w4 ⟨v4,rfl,AW,jf,iz⟩;obtain⟨ki,nk,kc,si,ns,sc,rfl,pz,hf⟩:=HF.out _ _ _ _ fr jy tu iz jf AW;have uq:=a_ hf;clear hf AW;obtain⟨⟨y0,y1,y2,y3,y4⟩,z0,z1,z2,z3,z4⟩:=eO pz));obtain⟨W5,lg,r5,kC⟩:=pT (.string (bs p.op)) (.slice ki nk kc) (.slice si ns sc) (.string (bs p.attr)) (.string (bs p.text)) pz;rw[lg];clear lg y0 y1 y2 y3 y4 z0 z1 z2 z3 z4;obtain⟨⟨k0,k1,k2,k3,k4⟩,-⟩:=eO r5;obtain⟨q1,q2,q3⟩:=uq.out _ kC;refine aJ (v:=.agg #[.string (bs p.op),.slice ki nk kc,.slice si ns sc,.string (bs p.attr),.string (bs p.text)]) (by simp[results,results224,go_sem,k0,k1,k2,k3,k4]) rfl ⟨_,rfl,q1,q2,q3⟩
end
section
variable{w w' w1 w2 W0 W1 W2 W3 W4 WO wr W W5:World}{A F G:Nat->Prop}{R lo Bp:Nat}{t l l':L}{wh n:Nat}{eW:Option (L->Rs gz)}{v v' vp vk vs:Value}{X:Rs gz}{p:gz}
theorem Ob(hi:qh R t wh n eW)(h:RD R t wh n w l):Z4 220 #[ptr R] w (Ends R t wh n (PV (fun b=>w.heap.size<=b) 144 146) w (value (ei t wh) eW l)):=by
 have B0:=a_ (tD.start h);generalize hW0:w.alloc (.cells eU 146)=W0 at*
 have HP:=a_ (jA B0.out.rd);have Xr:Hid (∀W,Z5 W0 W->tD R t wh n w W l):=fun W hW=>B0.out.on (Fr.below hW) (B0.out.rd.below hW);unfold value;by_cases h1:part l=[46]
 ·rw[if_pos h1];have e1:((bs (part l)).toList==[46])=true:=by rw[fe,h1];rfl
  generalize bs (part l)=S at*
  have HD:Hid (∀W,RD R t wh n W l->Z4 224 #[ptr R] W (Ends R t wh n (PV (fun b=>W.heap.size<=b) 144 146) W (dot (ei t wh) eW l))):=fun W hW=>Vi hi hW;clear h h1;cases hy:dot (ei t wh) eW l with
  |error y=>
   rw[hy]at HD;clear hy;go_enter func220,ntmps220;go_wp2_with(first|(go_at_call 135;(try rw[hW0]);refine HP.out.mono ?_;rintro e w2 ⟨rfl,hb⟩;have B1:=Xr.out _ hb)|(go_at_call 224;refine(HD.out _ B1.rd).mono ?_;rintro e w4 ⟨rfl,iz⟩));exact⟨rfl,rfl,B1.KU iz⟩
  |ok z=>
   obtain⟨p,l2⟩:=z;rw[hy]at HD;clear hy;go_enter func220,ntmps220;go_wp2_with(first|(go_at_call 135;(try rw[hW0]);refine HP.out.mono ?_;rintro e w2 ⟨rfl,hb⟩;have B1:=Xr.out _ hb)|(go_at_call 224;refine(HD.out _ B1.rd).mono ?_;rintro e w4 ⟨v4,rfl,AW,jf,iz⟩;obtain⟨ki,nk,kc,si,ns,sc,rfl,pz,hf⟩:=B1.fin iz jf AW;clear AW;have uq:=a_ hf;clear hf;obtain⟨⟨y0,y1,y2,y3,y4⟩,z0,z1,z2,z3,z4⟩:=eO pz));obtain⟨W5,lg,r5,kC⟩:=pT (.string (bs p.op)) (.slice ki nk kc) (.slice si ns sc) (.string (bs p.attr)) (.string (bs p.text)) pz;rw[lg];clear lg y0 y1 y2 y3 y4 z0 z1 z2 z3 z4;obtain⟨⟨k0,k1,k2,k3,k4⟩,-⟩:=eO r5;obtain⟨q1,q2,q3⟩:=uq.out _ kC;refine aJ (v:=.agg #[.string (bs p.op),.slice ki nk kc,.slice si ns sc,.string (bs p.attr),.string (bs p.text)]) (by simp[results,results220,go_sem,k0,k1,k2,k3,k4]) rfl ⟨_,rfl,q1,q2,q3⟩
 ·rw[if_neg h1];have e1:((bs (part l)).toList==[46])=false:=by rw[fe];simpa using h1
  by_cases h2:part l=[64]
  ·rw[if_pos h2];have e2:((bs (part l)).toList==[64])=true:=by rw[fe,h2];rfl
   generalize bs (part l)=S at*
   have HD:Hid (∀W,RD R t wh n W l->Z4 225 #[ptr R] W (Ends R t wh n VS W (attr (ei t wh) l))):=fun W hW=>JL hW;clear h h1 h2;cases hy:attr (ei t wh) l with
   |error y=>
    rw[hy]at HD;clear hy;simp only[oT];go_enter func220,ntmps220;go_wp2_with(first|(go_at_call 135;(try rw[hW0]);refine HP.out.mono ?_;rintro e w2 ⟨rfl,hb⟩;have B1:=Xr.out _ hb)|(go_at_call 225;refine(HD.out _ B1.rd).mono ?_;rintro e w4 ⟨rfl,iz⟩));exact⟨rfl,rfl,B1.KU iz⟩
   |ok z=>
    obtain⟨a,l2⟩:=z;rw[hy]at HD;clear hy;simp only[iI];have HF:Hid (∀W1 W2,tD R t wh n w W1 l->Fr (fun k=>k=R) W1 W2->RD R t wh n W2 l2->W2.heap[w.heap.size]?=some (.cells eU 146 (0,0))/\∀W5,Fr (fun k=>k=w.heap.size) W2 W5->PV (fun b=>w.heap.size<=b) 144 146 W5 (.agg #[.string ⟨#[]⟩,.slice none 0 0,.slice none 0 0,.string (bs a),.string ⟨#[]⟩]) ⟨[],.nil,.nil,a,[]⟩/\RD R t wh n W5 l2/\Fr (fun k=>k=R) w W5):=fun W1 W2 b1 f2 rd=>by
     have h1:=b1.on f2 rd;exact⟨h1.bq,fun W5 f5=>CF h1.lt ⟨_,_,rfl,Or.inl ⟨rfl,rfl⟩,Or.inl ⟨rfl,rfl⟩⟩ rd h1.fr f5⟩
    go_enter func220,ntmps220;go_wp2_with(first|(go_at_call 135;(try rw[hW0]);refine HP.out.mono ?_;rintro e w2 ⟨rfl,hb⟩;have B1:=Xr.out _ hb)|(go_at_call 225;refine(HD.out _ B1.rd).mono ?_;rintro e w4 ⟨v4,rfl,rfl,jf,iz⟩;obtain⟨pz,hf⟩:=HF.out _ _ B1 iz jf;have uq:=a_ hf;clear hf;obtain⟨⟨y0,y1,y2,y3,y4⟩,z0,z1,z2,z3,z4⟩:=eO pz));obtain⟨W5,lg,r5,kC⟩:=pT (.string ⟨#[]⟩) (.slice none 0 0) (.slice none 0 0) (.string (bs a)) (.string ⟨#[]⟩) pz;rw[lg];clear lg y0 y1 y2 y3 y4 z0 z1 z2 z3 z4;obtain⟨⟨k0,k1,k2,k3,k4⟩,-⟩:=eO r5;obtain⟨q1,q2,q3⟩:=uq.out _ kC;refine aJ (v:=.agg #[.string ⟨#[]⟩,.slice none 0 0,.slice none 0 0,.string (bs a),.string ⟨#[]⟩]) (by simp[results,results220,go_sem,k0,k1,k2,k3,k4]) rfl ⟨_,rfl,q1,q2,q3⟩
  ·rw[if_neg h2];have e2:((bs (part l)).toList==[64])=false:=by rw[fe];simpa using h2
   generalize bs (part l)=S at*
   have HD:Hid (∀W,RD R t wh n W l->Z4 226 #[ptr R,.bool false] W (Ends R t wh n (PV (fun b=>W.heap.size<=b) 144 146) W (oN (ei t wh) eW false l))):=fun W hW=>AV false hi hW;clear h h1 h2;cases hy:oN (ei t wh) eW false l with
   |error y=>
    rw[hy]at HD;clear hy;go_enter func220,ntmps220;go_wp2_with(first|(go_at_call 135;(try rw[hW0]);refine HP.out.mono ?_;rintro e w2 ⟨rfl,hb⟩;have B1:=Xr.out _ hb)|(go_at_call 226;refine(HD.out _ B1.rd).mono ?_;rintro e w4 ⟨rfl,iz⟩));exact⟨rfl,rfl,B1.KU iz⟩
   |ok z=>
    obtain⟨p,l2⟩:=z;rw[hy]at HD;clear hy;go_enter func220,ntmps220;go_wp2_with(first|(go_at_call 135;(try rw[hW0]);refine HP.out.mono ?_;rintro e w2 ⟨rfl,hb⟩;have B1:=Xr.out _ hb)|(go_at_call 226;refine(HD.out _ B1.rd).mono ?_;rintro e w4 ⟨v4,rfl,AW,jf,iz⟩;obtain⟨ki,nk,kc,si,ns,sc,rfl,pz,hf⟩:=B1.fin iz jf AW;clear AW;have uq:=a_ hf;clear hf;obtain⟨⟨y0,y1,y2,y3,y4⟩,z0,z1,z2,z3,z4⟩:=eO pz));obtain⟨W5,lg,r5,kC⟩:=pT (.string (bs p.op)) (.slice ki nk kc) (.slice si ns sc) (.string (bs p.attr)) (.string (bs p.text)) pz;rw[lg];clear lg y0 y1 y2 y3 y4 z0 z1 z2 z3 z4;obtain⟨⟨k0,k1,k2,k3,k4⟩,-⟩:=eO r5;obtain⟨q1,q2,q3⟩:=uq.out _ kC;refine aJ (v:=.agg #[.string (bs p.op),.slice ki nk kc,.slice si ns sc,.string (bs p.attr),.string (bs p.text)]) (by simp[results,results220,go_sem,k0,k1,k2,k3,k4]) rfl ⟨_,rfl,q1,q2,q3⟩
structure CI(R:Nat)(t:L)(wh n:Nat)(w wr:World)(p:gz)(vk vs:Value)(l:L)(i:Nat):Prop where
 rd:RD R t wh n wr l
 bv:wr.heap[w.heap.size]?=some (.cells #[.string ⟨#[104,97,115]⟩,vk,vs,.string (bs p.attr),.string (bs p.text)] 146 (0,0))
 bq:wr.heap[w.heap.size+1]?=some (.cells eU 146 (0,0))
 bo:wr.heap[w.heap.size+2]?=some (.cells #[.string ⟨#[61]⟩,.string ⟨#[33,61]⟩] 9 (0,0))
 fr:Fr (fun k=>k=R\/w.heap.size<=k) w wr
 n1:1<=i->part l≠[61]
 n2:2<=i->part l≠[33,61]
 lt:R<w.heap.size
theorem CI.on{i j:Nat}(h:CI R t wh n w wr p vk vs l i)(f:Fr (fun k=>k=R) wr W)(rd:RD R t wh n W l)(n1:1<=j->part l≠[61])(n2:2<=j->part l≠[33,61]):CI R t wh n w W p vk vs l j:=by
 have:=h.lt;exact⟨rd,(f.block _ (dQ h.bv) (by omega)).trans h.bv,(f.block _ (dQ h.bq) (by omega)).trans h.bq,(f.block _ (dQ h.bo) (by omega)).trans h.bo,h.fr.trans f (fun _ _ x=>Or.inl x),n1,n2,h.lt⟩
theorem G8{p':gz}{l1:L}(hR:R<w.heap.size)(hA:¬A R)(hv:pV w A 144 146 vk p'.kids/\qd w A 144 146 vs p'.steps)(rd:RD R t wh n W l1)(fr:Fr (fun k=>k=R\/w.heap.size<=k) w W)(f5:Fr (fun k=>w.heap.size<=k) W W5):PV A 144 146 W5 (.agg #[.string (bs p'.op),vk,vs,.string (bs p'.attr),.string (bs p'.text)]) p'/\RD R t wh n W5 l1/\Fr (fun k=>k=R) w W5:=by
 have f:Fr (fun k=>k=R) w W5:=(fr.trans f5 (fun i hi x=>Or.inr x)).restrict (fun k hk x=>by omega);have hm:Move A A w W5:=fun b hb hl=>⟨hb,f.block b hl (fun e=>hA (e▸hb))⟩
 exact⟨⟨_,_,rfl,hv.1.move hm,hv.2.move hm⟩,rd.fr f5 (by omega),f⟩
theorem Er{ki si:Option Addr}{nk kc ns sc:Nat}(hA:¬A R)(h:RD R t wh n w l)(hv:pV w A 144 146 (.slice ki nk kc) p.kids/\qd w A 144 146 (.slice si ns sc) p.steps):
  Z4 219 #[ptr R,.agg #[.string (bs p.op),.slice ki nk kc,.slice si ns sc,.string (bs p.attr),.string (bs p.text)]] w (Ends R t wh n (PV A 144 146) w (compared (ei t wh) p l)):=by
 have hR:=h.lt;have HC0:Hid (CI R t wh n w (((w.alloc (.cells #[.string ⟨#[104,97,115]⟩,.slice ki nk kc,.slice si ns sc,.string (bs p.attr),.string (bs p.text)] 146)).alloc (.cells eU 146)).alloc (.cells #[.string ⟨#[61]⟩,.string ⟨#[33,61]⟩] 9)) p (.slice ki nk kc) (.slice si ns sc) l 0):=by
  have f:Fr (fun _=>False) w (((w.alloc (.cells #[.string ⟨#[104,97,115]⟩,.slice ki nk kc,.slice si ns sc,.string (bs p.attr),.string (bs p.text)] 146)).alloc (.cells eU 146)).alloc (.cells #[.string ⟨#[61]⟩,.string ⟨#[33,61]⟩] 9)):=(((Fr.refl _ w).alloc _).alloc _).alloc _;refine⟨h.fr f (fun x=>x),?_,?_,?_,f.mono (fun _ x=>x.elim),fun e=>by omega,fun e=>by omega,hR⟩
  ·rw[ay _ _ _ (by simp;omega),ay _ _ _ (by simp)];exact dR _ _
  ·rw[ay _ _ _ (by simp)];have:=dR (w.alloc (.cells #[.string ⟨#[104,97,115]⟩,.slice ki nk kc,.slice si ns sc,.string (bs p.attr),.string (bs p.text)] 146)) (.cells eU 146);simpa using this
  ·have:=dR ((w.alloc (.cells #[.string ⟨#[104,97,115]⟩,.slice ki nk kc,.slice si ns sc,.string (bs p.attr),.string (bs p.text)] 146)).alloc (.cells eU 146)) (.cells #[.string ⟨#[61]⟩,.string ⟨#[33,61]⟩] 9);simpa using this
 have HV:=a_ hv;have G9:=a_ hA;obtain⟨Y,hY⟩:∃Y,compared (ei t wh) p l=Y:=⟨_,rfl⟩
 rw[hY];have HY:=a_ hY;clear hY hv h hA;go_enter func219,ntmps219;go_wp2_with fail;generalize (World.alloc (World.alloc (World.alloc w _) _) _)=WS at*
 go_loopw [6,10,11,12,13,14,15,16,17,18,19,20,21,22] (fun _ u10 _ _ _ _ _ _ _ _ _ _ _ _ wr=>∃i:Nat,u10=.int .i64 i/\i<=2/\CI R t wh n w wr p (.slice ki nk kc) (.slice si ns sc) l i) (fun _ u10 _ _ _ _ _ _ _ _ _ _ _ _ _=>2-(RowKit.intOf u10).toNat)
 case atStart=>exact⟨0,rfl,by omega,HC0.out⟩
 case round=>
  rename World=>WO
  obtain⟨i,rfl,GU,hC⟩:=hrel;have DZ:=a_ hC;have o0:WO.cell? ⟨w.heap.size+1+1,0,none⟩=some (.string ⟨#[61]⟩):=cell_of hC.bo rfl;have o1:WO.cell? ⟨w.heap.size+1+1,1,none⟩=some (.string ⟨#[33,61]⟩):=cell_of hC.bo rfl
  match i,GU,hC,DZ with
  |0,_,hC,DZ=>
   obtain⟨b,hb⟩:∃b,decide (part l=[61])=b:=⟨_,rfl⟩
   have HT:=a_ (oP [61] hC.rd b hb);cases b with
   |true=>
    have hp:part l=[61]:=by simpa using hb
    simp only[if_true]at HT;have hY:=HY.out;rw[compared,if_pos hp]at hY;have HQ:Hid (∀W,RD R t wh n W (pass 1 l)->Z4 223 #[ptr R] W (Ends R t wh n VS W (quoted (ei t wh) (pass 1 l)))):=fun W hW=>AJ hW;clear hb hp hC;cases hq:quoted (ei t wh) (pass 1 l)with
    |error y=>
     rw[hq]at HQ hY;simp only[oT]at hY;subst hY;clear hq;go_wp2_with(first|(go_at_call 86;refine HT.out.mono ?_;rintro e w4 ⟨rfl,jf,iz⟩)|(go_at_call 223;refine(HQ.out _ jf).mono ?_;rintro e w5 ⟨rfl,lJ⟩));exact⟨rfl,rfl,(DZ.out.fr.trans (iz.same lJ) (fun i hi x=>Or.inl x)).restrict (fun k hk x=>by omega)⟩
    |ok z=>
     obtain⟨tx,l2⟩:=z;rw[hq]at HQ hY;simp only[iI]at hY;subst hY;clear hq;have HS:Hid (∀W4 W5,Fr (fun k=>k=R) WO W4->Fr (fun k=>k=R) W4 W5->RD R t wh n W5 l2->W5.heap[w.heap.size]?=some (.cells #[.string ⟨#[104,97,115]⟩,.slice ki nk kc,.slice si ns sc,.string (bs p.attr),.string (bs p.text)] 146 (0,0))/\∃W6,(W5.setCell ⟨w.heap.size,0,none⟩ (.string ⟨#[61]⟩)).setCell ⟨w.heap.size,4,none⟩ (.string (bs tx))=W6/\W6.heap[w.heap.size]?=some (.cells #[.string ⟨#[61]⟩,.slice ki nk kc,.slice si ns sc,.string (bs p.attr),.string (bs tx)] 146 (0,0))/\(W5.setCell ⟨w.heap.size,0,none⟩ (.string ⟨#[61]⟩)).heap[w.heap.size]?=some (.cells #[.string ⟨#[61]⟩,.slice ki nk kc,.slice si ns sc,.string (bs p.attr),.string (bs p.text)] 146 (0,0))/\W6.heap[w.heap.size+1]?=some (.cells eU 146 (0,0))/\∀W7,Fr (fun k=>k=w.heap.size+1) W6 W7->PV A 144 146 W7 (.agg #[.string ⟨#[61]⟩,.slice ki nk kc,.slice si ns sc,.string (bs p.attr),.string (bs tx)]) ⟨[61],p.kids,p.steps,p.attr,tx⟩/\RD R t wh n W7 l2/\Fr (fun k=>k=R) w W7):=fun W4 W5 f4 f5 rd=>by
      have q:=DZ.out;have f:=f4.same f5;have b5:=(f.block _ (dQ q.bv) (by omega)).trans q.bv;have b5q:=(f.block _ (dQ q.bq) (by omega)).trans q.bq;have fs:Fr (fun k=>w.heap.size<=k) W5 ((W5.setCell ⟨w.heap.size,0,none⟩ (.string ⟨#[61]⟩)).setCell ⟨w.heap.size,4,none⟩ (.string (bs tx))):=((Fr.refl (fun k=>w.heap.size<=k) W5).set ⟨w.heap.size,0,none⟩ (.string ⟨#[61]⟩) (fun _=>au _)).set ⟨w.heap.size,4,none⟩ (.string (bs tx)) (fun _=>au _);refine⟨b5,_,rfl,eh (i:=4) (eh (i:=0) b5 _) _,eh (i:=0) b5 _,?_,fun W7 f7=>?_⟩
      ·rw[ak _ _ _ _ (show w.heap.size+1≠w.heap.size by omega),ak _ _ _ _ (show w.heap.size+1≠w.heap.size by omega)];exact b5q
      ·exact G8 (p':=⟨[61],p.kids,p.steps,p.attr,tx⟩) hR G9.out HV.out rd (q.fr.trans f (fun _ _ x=>Or.inl x)) (fs.same (f7.mono fun k e=>by omega))
     go_wp2_with(first|(go_at_call 86;refine HT.out.mono ?_;rintro e w4 ⟨rfl,jf,iz⟩)|(go_at_call 223;refine(HQ.out _ jf).mono ?_;rintro e w5 ⟨v5,rfl,rfl,sf,lJ⟩;obtain⟨bv5,W6,hW6,bv6,Vj,pz,hf⟩:=HS.out _ _ iz lJ sf;have uq:=a_ hf;clear hf;obtain⟨⟨a0,a1,a2,a3,a4⟩,b0,b1,b2,b3,b4⟩:=eO bv5;obtain⟨⟨a0',a1',a2',a3',a4'⟩,b0',b1',b2',b3',b4'⟩:=eO Vj;obtain⟨⟨g0,g1,g2,g3,g4⟩,-⟩:=eO bv6;obtain⟨⟨y0,y1,y2,y3,y4⟩,z0,z1,z2,z3,z4⟩:=eO pz));obtain⟨W5,lg,r5,kC⟩:=pT (.string ⟨#[61]⟩) (.slice ki nk kc) (.slice si ns sc) (.string (bs p.attr)) (.string (bs tx)) pz;rw[lg];clear lg y0 y1 y2 y3 y4 z0 z1 z2 z3 z4;obtain⟨⟨k0,k1,k2,k3,k4⟩,-⟩:=eO r5;obtain⟨q1,q2,q3⟩:=uq.out _ kC;refine aJ (v:=.agg #[.string ⟨#[61]⟩,.slice ki nk kc,.slice si ns sc,.string (bs p.attr),.string (bs tx)]) (by simp[results,results219,go_sem,k0,k1,k2,k3,k4]) rfl ⟨_,rfl,q1,q2,q3⟩
   |false=>
    have hp:part l≠[61]:=by simpa using hb
    simp only[aA,aQ]at HT;have HN:Hid (∀W,Fr (fun k=>k=R) WO W->RD R t wh n W l->CI R t wh n w W p (.slice ki nk kc) (.slice si ns sc) l 1):=fun W f rd=>DZ.out.on f rd (fun _=>hp) (fun e=>by omega);clear hb hp hC;go_wp2_with(first|(go_at_call 86;refine HT.out.mono ?_;rintro e w4 ⟨rfl,jf,iz⟩;have hN:=HN.out _ iz jf));exact⟨⟨1,by first|rfl|decide,by omega,hN⟩,by simp[RowKit.intOf]⟩
  |1,_,hC,DZ=>
   obtain⟨b,hb⟩:∃b,decide (part l=[33,61])=b:=⟨_,rfl⟩
   have HT:=a_ (oP [33,61] hC.rd b hb);cases b with
   |true=>
    have hp:part l=[33,61]:=by simpa using hb
    simp only[if_true]at HT;have hY:=HY.out;rw[compared,if_neg (hC.n1 (by omega)),if_pos hp]at hY;have HQ:Hid (∀W,RD R t wh n W (pass 2 l)->Z4 223 #[ptr R] W (Ends R t wh n VS W (quoted (ei t wh) (pass 2 l)))):=fun W hW=>AJ hW;clear hb hp hC;cases hq:quoted (ei t wh) (pass 2 l)with
    |error y=>
     rw[hq]at HQ hY;simp only[oT]at hY;subst hY;clear hq;go_wp2_with(first|(go_at_call 86;refine HT.out.mono ?_;rintro e w4 ⟨rfl,jf,iz⟩)|(go_at_call 223;refine(HQ.out _ jf).mono ?_;rintro e w5 ⟨rfl,lJ⟩));exact⟨rfl,rfl,(DZ.out.fr.trans (iz.same lJ) (fun i hi x=>Or.inl x)).restrict (fun k hk x=>by omega)⟩
    |ok z=>
     obtain⟨tx,l2⟩:=z;rw[hq]at HQ hY;simp only[iI]at hY;subst hY;clear hq;have HS:Hid (∀W4 W5,Fr (fun k=>k=R) WO W4->Fr (fun k=>k=R) W4 W5->RD R t wh n W5 l2->W5.heap[w.heap.size]?=some (.cells #[.string ⟨#[104,97,115]⟩,.slice ki nk kc,.slice si ns sc,.string (bs p.attr),.string (bs p.text)] 146 (0,0))/\∃W6,(W5.setCell ⟨w.heap.size,0,none⟩ (.string ⟨#[33,61]⟩)).setCell ⟨w.heap.size,4,none⟩ (.string (bs tx))=W6/\W6.heap[w.heap.size]?=some (.cells #[.string ⟨#[33,61]⟩,.slice ki nk kc,.slice si ns sc,.string (bs p.attr),.string (bs tx)] 146 (0,0))/\(W5.setCell ⟨w.heap.size,0,none⟩ (.string ⟨#[33,61]⟩)).heap[w.heap.size]?=some (.cells #[.string ⟨#[33,61]⟩,.slice ki nk kc,.slice si ns sc,.string (bs p.attr),.string (bs p.text)] 146 (0,0))/\W6.heap[w.heap.size+1]?=some (.cells eU 146 (0,0))/\∀W7,Fr (fun k=>k=w.heap.size+1) W6 W7->PV A 144 146 W7 (.agg #[.string ⟨#[33,61]⟩,.slice ki nk kc,.slice si ns sc,.string (bs p.attr),.string (bs tx)]) ⟨[33,61],p.kids,p.steps,p.attr,tx⟩/\RD R t wh n W7 l2/\Fr (fun k=>k=R) w W7):=fun W4 W5 f4 f5 rd=>by
      have q:=DZ.out;have f:=f4.same f5;have b5:=(f.block _ (dQ q.bv) (by omega)).trans q.bv;have b5q:=(f.block _ (dQ q.bq) (by omega)).trans q.bq;have fs:Fr (fun k=>w.heap.size<=k) W5 ((W5.setCell ⟨w.heap.size,0,none⟩ (.string ⟨#[33,61]⟩)).setCell ⟨w.heap.size,4,none⟩ (.string (bs tx))):=((Fr.refl (fun k=>w.heap.size<=k) W5).set ⟨w.heap.size,0,none⟩ (.string ⟨#[33,61]⟩) (fun _=>au _)).set ⟨w.heap.size,4,none⟩ (.string (bs tx)) (fun _=>au _);refine⟨b5,_,rfl,eh (i:=4) (eh (i:=0) b5 _) _,eh (i:=0) b5 _,?_,fun W7 f7=>?_⟩
      ·rw[ak _ _ _ _ (show w.heap.size+1≠w.heap.size by omega),ak _ _ _ _ (show w.heap.size+1≠w.heap.size by omega)];exact b5q
      ·exact G8 (p':=⟨[33,61],p.kids,p.steps,p.attr,tx⟩) hR G9.out HV.out rd (q.fr.trans f (fun _ _ x=>Or.inl x)) (fs.same (f7.mono fun k e=>by omega))
     go_wp2_with(first|(go_at_call 86;refine HT.out.mono ?_;rintro e w4 ⟨rfl,jf,iz⟩)|(go_at_call 223;refine(HQ.out _ jf).mono ?_;rintro e w5 ⟨v5,rfl,rfl,sf,lJ⟩;obtain⟨bv5,W6,hW6,bv6,Vj,pz,hf⟩:=HS.out _ _ iz lJ sf;have uq:=a_ hf;clear hf;obtain⟨⟨a0,a1,a2,a3,a4⟩,b0,b1,b2,b3,b4⟩:=eO bv5;obtain⟨⟨a0',a1',a2',a3',a4'⟩,b0',b1',b2',b3',b4'⟩:=eO Vj;obtain⟨⟨g0,g1,g2,g3,g4⟩,-⟩:=eO bv6;obtain⟨⟨y0,y1,y2,y3,y4⟩,z0,z1,z2,z3,z4⟩:=eO pz));obtain⟨W5,lg,r5,kC⟩:=pT (.string ⟨#[33,61]⟩) (.slice ki nk kc) (.slice si ns sc) (.string (bs p.attr)) (.string (bs tx)) pz;rw[lg];clear lg y0 y1 y2 y3 y4 z0 z1 z2 z3 z4;obtain⟨⟨k0,k1,k2,k3,k4⟩,-⟩:=eO r5;obtain⟨q1,q2,q3⟩:=uq.out _ kC;refine aJ (v:=.agg #[.string ⟨#[33,61]⟩,.slice ki nk kc,.slice si ns sc,.string (bs p.attr),.string (bs tx)]) (by simp[results,results219,go_sem,k0,k1,k2,k3,k4]) rfl ⟨_,rfl,q1,q2,q3⟩
   |false=>
    have hp:part l≠[33,61]:=by simpa using hb
    simp only[aA,aQ]at HT;have HN:Hid (∀W,Fr (fun k=>k=R) WO W->RD R t wh n W l->CI R t wh n w W p (.slice ki nk kc) (.slice si ns sc) l 2):=fun W f rd=>DZ.out.on f rd (fun _=>DZ.out.n1 (by omega)) (fun _=>hp);clear hb hp hC;go_wp2_with(first|(go_at_call 86;refine HT.out.mono ?_;rintro e w4 ⟨rfl,jf,iz⟩;have hN:=HN.out _ iz jf));exact⟨⟨2,by first|rfl|decide,by omega,hN⟩,by simp[RowKit.intOf]⟩
  |2,_,hC,DZ=>
   have hY:=HY.out;rw[compared,if_neg (hC.n1 (by omega)),if_neg (hC.n2 (by omega))]at hY;subst hY;obtain⟨⟨a0,a1,a2,a3,a4⟩,-⟩:=eO hC.bv;have pz:=hC.bq;obtain⟨⟨y0,y1,y2,y3,y4⟩,z0,z1,z2,z3,z4⟩:=eO pz;have uq:Hid (∀W7,Fr (fun k=>k=w.heap.size+1) WO W7->PV A 144 146 W7 (.agg #[.string ⟨#[104,97,115]⟩,.slice ki nk kc,.slice si ns sc,.string (bs p.attr),.string (bs p.text)]) ⟨Cv,p.kids,p.steps,p.attr,p.text⟩/\RD R t wh n W7 l/\Fr (fun k=>k=R) w W7):=fun W7 f7=>G8 (p':=⟨Cv,p.kids,p.steps,p.attr,p.text⟩) hR G9.out HV.out DZ.out.rd DZ.out.fr (f7.mono fun k e=>by omega);clear hC;go_wp2_with fail;obtain⟨W5,lg,r5,kC⟩:=pT (.string ⟨#[104,97,115]⟩) (.slice ki nk kc) (.slice si ns sc) (.string (bs p.attr)) (.string (bs p.text)) pz;rw[lg];clear lg y0 y1 y2 y3 y4 z0 z1 z2 z3 z4;obtain⟨⟨k0,k1,k2,k3,k4⟩,-⟩:=eO r5;obtain⟨q1,q2,q3⟩:=uq.out _ kC;refine aJ (v:=.agg #[.string ⟨#[104,97,115]⟩,.slice ki nk kc,.slice si ns sc,.string (bs p.attr),.string (bs p.text)]) (by simp[results,results219,go_sem,k0,k1,k2,k3,k4]) rfl ⟨_,rfl,q1,q2,q3⟩
end
section
variable{w w' w1 w2 W0 W1 W2 W3 W4 WO wr W W5:World}{A F G:Nat->Prop}{R lo Bp Br:Nat}{t l l':L}{wh n:Nat}{eW:Option (L->Rs gz)}{v v' vp vk vs:Value}{X:Rs gz}{p:gz}
def Ux(lo Bp:Nat)(w:World)(p:gz):Prop:=∃ki nk kc si ns sc,w.heap[Bp]?=some (.cells #[.string (bs p.op),.slice ki nk kc,.slice si ns sc,.string (bs p.attr),.string (bs p.text)] 146 (0,0))/\pV w (fun b=>lo<=b) 144 146 (.slice ki nk kc) p.kids/\qd w (fun b=>lo<=b) 144 146 (.slice si ns sc) p.steps
theorem Ux.fr(h:Ux lo Bp w p)(f:Fr F w w')(h1:¬F Bp)(h2:∀k,F k->k<lo):Ux lo Bp w' p:=by
 obtain⟨ki,nk,kc,si,ns,sc,a1,a2,a3⟩:=h;have hm:Move (fun b=>lo<=b) (fun b=>lo<=b) w w':=fun b hb hl=>⟨hb,f.block b hl (fun x=>by have:=h2 b x;omega)⟩
 exact⟨ki,nk,kc,si,ns,sc,(f.block _ (dQ a1) h1).trans a1,a2.move hm,a3.move hm⟩
theorem Se{x0 x1 x2 x3 x4:Value}{f:L->Rs gz}(hc:ye R t wh n f)(h:RD R t wh n w l)(hr:w.heap[Br]?=some (.cells #[ptr R] 170 (0,0)))(hb:w.heap[Bp]?=some (.cells #[x0,x1,x2,x3,x4] 146 (0,0)))(Xt:R≠Bp)(py:lo<=w.heap.size)(hp:Bp<lo):
  Z4 218 #[ptr Br,ptr Bp] w (Lays R t wh n (fun k=>k=R\/k=Bp) (Ux lo Bp) w (f l)):=by
 have HC:=a_ (hc w l h);have c0:w.cell? ⟨Br,0,none⟩=some (ptr R):=cell_of hr rfl;cases hf:f l with
 |error y=>
  rw[hf]at HC;clear hc h hr hb hf;go_enter func218,ntmps218;go_wp2_with(first|(go_at_call 178;refine HC.out.mono ?_;rintro e w2 ⟨rfl,fr⟩));exact⟨rfl,rfl,fr.mono fun k e=>Or.inl e⟩
 |ok z=>
  obtain⟨p,l2⟩:=z;rw[hf]at HC;have HE:Hid (∀W v,Fr (fun k=>k=R) w W->RD R t wh n W l2->PV (fun b=>w.heap.size<=b) 144 146 W v p->∃ki nk kc si ns sc,v=.agg #[.string (bs p.op),.slice ki nk kc,.slice si ns sc,.string (bs p.attr),.string (bs p.text)]/\W.heap[Bp]?=some (.cells #[x0,x1,x2,x3,x4] 146 (0,0))/\∀W5,Fr (fun k=>k=Bp) W W5->W5.heap[Bp]?=some (.cells #[.string (bs p.op),.slice ki nk kc,.slice si ns sc,.string (bs p.attr),.string (bs p.text)] 146 (0,0))->RD R t wh n W5 l2/\Ux lo Bp W5 p/\Fr (fun k=>k=R\/k=Bp) w W5):=fun W v fr rd pv=>by
   obtain⟨ki,nk,kc,si,ns,sc,rfl,a1,a2⟩:=pv.shape;refine⟨ki,nk,kc,si,ns,sc,rfl,(fr.block _ (dQ hb) (fun e=>Xt e.symm)).trans hb,fun W5 f5 r5=>?_⟩;have hm:Move (fun b=>w.heap.size<=b) (fun b=>lo<=b) W W5:=fun b hb hl=>⟨by omega,f5.block b hl (by omega)⟩
   exact⟨rd.fr f5 Xt,⟨ki,nk,kc,si,ns,sc,r5,a1.move hm,a2.move hm⟩,(fr.mono fun k e=>Or.inl e).same (f5.mono fun k e=>Or.inr e)⟩
  clear hc h hr hb hf;go_enter func218,ntmps218;go_wp2_with(first|(go_at_call 178;refine HC.out.mono ?_;rintro e w2 ⟨v2,rfl,Uu,r_,lI⟩;obtain⟨ki,nk,kc,si,ns,sc,rfl,bp2,hf⟩:=HE.out _ _ lI r_ Uu;have HF:=a_ hf;clear hf Uu;obtain⟨⟨y0,y1,y2,y3,y4⟩,z0,z1,z2,z3,z4⟩:=eO bp2));obtain⟨W5,lg,r5,f5⟩:=pT (.string (bs p.op)) (.slice ki nk kc) (.slice si ns sc) (.string (bs p.attr)) (.string (bs p.text)) bp2;rw[lg];obtain⟨q1,q2,q3⟩:=HF.out _ f5 r5
  go_end0
  exact⟨rfl,q1,q2,q3⟩
theorem Oc:∀args w,(callFunc 218 args).run prog w=.ok (.enter 218 args) w:=enters_of func218 (by kernel_rfl) rfl
theorem G_{x0 x1 x2 x3 x4:Value}(hi:qh R t wh n eW)(h:RD R t wh n w l)(hr:w.heap[Br]?=some (.cells #[ptr R] 170 (0,0)))(hb:w.heap[Bp]?=some (.cells #[x0,x1,x2,x3,x4] 146 (0,0)))(Xt:R≠Bp)(Nt:R≠Br)(hRl:R<lo)(py:lo<=w.heap.size)(hp:Bp<lo):
  Z4 176 #[ptr R,.string ⟨#[40]⟩,.string ⟨#[41]⟩,.func (.func 218) #[] #[ptr Br,ptr Bp]] w (Lays R t wh n (fun k=>k=R\/k=Bp) (Ux lo Bp) w (within (ei t wh) eW [40] [41] l)):=by
 rcases hi with⟨rfl,rfl⟩|⟨f,rfl,hn8,Rl,hc⟩
 ·exact(wM (o:=[40]) (s:=[41]) h).mono fun e w' x=>⟨x.1,x.2.mono fun k e=>Or.inl e⟩
 ·refine AK (o:=[40]) (s:=[41]) (k:=218) h hn8 (Or.inl rfl) Oc (fun W l1 _ rd fr=>?_) (fun W W' p hx fr=>hx.fr fr (fun e=>Xt e.symm) (fun k e=>by omega));have Xm:=(fr.block Br (dQ hr) (fun e=>Nt e.symm)).trans hr;have hb':=(fr.block Bp (dQ hb) (fun e=>Xt e.symm)).trans hb;refine(Se (lo:=lo) hc rd Xm hb' Xt (aw py fr.size) hp).mono fun e w' x=>?_;have Nr:Fr (fun k=>k=R\/k=Bp) w W:=fr.mono fun k e=>Or.inl e;cases hf:f l1 with
  |error y=>rw[hf]at x;exact⟨x.1,Nr.same x.2⟩
  |ok z=>rw[hf]at x;exact⟨x.1,x.2.1,x.2.2.1,Nr.same x.2.2.2⟩
structure OI(R:Nat)(t:L)(wh n:Nat)(w W:World)(l:L):Prop where
 rd:RD R t wh n W l
 br:W.heap[w.heap.size]?=some (.cells #[ptr R] 170 (0,0))
 bq:W.heap[w.heap.size+1]?=some (.cells eU 146 (0,0))
 bp:W.heap[w.heap.size+1+1]?=some (.cells eU 146 (0,0))
 fr:Fr (fun k=>k=R\/w.heap.size<=k) w W
 sz:w.heap.size+3<=W.heap.size
 lt:R<w.heap.size
theorem OI.start(h:RD R t wh n w l):OI R t wh n w (((w.alloc (.cells #[ptr R] 170)).alloc (.cells eU 146)).alloc (.cells eU 146)) l:=by
 have f:Fr (fun _=>False) w (((w.alloc (.cells #[ptr R] 170)).alloc (.cells eU 146)).alloc (.cells eU 146)):=(((Fr.refl _ w).alloc _).alloc _).alloc _;refine⟨h.fr f (fun x=>x),?_,?_,?_,f.mono (fun _ x=>x.elim),by simp,h.lt⟩
 ·rw[ay _ _ _ (by simp;omega),ay _ _ _ (by simp)];exact dR _ _
 ·rw[ay _ _ _ (by simp)];have:=dR (w.alloc (.cells #[ptr R] 170)) (.cells eU 146);simpa using this
 ·have:=dR ((w.alloc (.cells #[ptr R] 170)).alloc (.cells eU 146)) (.cells eU 146);simpa using this
theorem OI.on(h:OI R t wh n w W l)(f:Fr (fun k=>k=R) W W1)(rd:RD R t wh n W1 l'):OI R t wh n w W1 l':=by
 have:=h.lt;exact⟨rd,(f.block _ (dQ h.br) (by omega)).trans h.br,(f.block _ (dQ h.bq) (by omega)).trans h.bq,(f.block _ (dQ h.bp) (by omega)).trans h.bp,h.fr.trans f (fun _ _ x=>Or.inl x),aw h.sz f.size,h.lt⟩
theorem OI.below(h:OI R t wh n w W l)(b:Z5 W W1):OI R t wh n w W1 l:=h.on (Fr.below b) (h.rd.below b)
theorem OI.c0(h:OI R t wh n w W l):W.cell? ⟨w.heap.size,0,none⟩=some (ptr R):=cell_of h.br rfl
theorem OI.KU(h:OI R t wh n w W l)(f:Fr (fun k=>k=R\/k=w.heap.size+1+1) W W1):Fr (fun k=>k=R) w W1:=by
 have:=h.lt;exact(h.fr.trans f (fun _ _ x=>by omega)).restrict (fun k hk x=>by omega)
theorem OI.put(h:OI R t wh n w W l)(f:Fr (fun k=>k=R\/k=w.heap.size+1+1) W W1)(rd:RD R t wh n W1 l')(hp:Ux (w.heap.size+3) (w.heap.size+1+1) W1 p):∃ki nk kc si ns sc,W1.heap[w.heap.size+1+1]?=some (.cells #[.string (bs p.op),.slice ki nk kc,.slice si ns sc,.string (bs p.attr),.string (bs p.text)] 146 (0,0))/\W1.heap[w.heap.size+1]?=some (.cells eU 146 (0,0))/\
  (∀W5,Fr (fun k=>k=w.heap.size+1) W1 W5->PV (fun b=>w.heap.size<=b) 144 146 W5 (.agg #[.string (bs p.op),.slice ki nk kc,.slice si ns sc,.string (bs p.attr),.string (bs p.text)]) p/\RD R t wh n W5 l'/\Fr (fun k=>k=R) w W5)/\
  ((W1.alloc (.cells #[.string (bs p.op),.slice ki nk kc,.slice si ns sc,.string (bs p.attr),.string (bs p.text)] 146)).heap[w.heap.size+1]?=some (.cells eU 146 (0,0))/\∀W5,Fr (fun k=>k=w.heap.size+1) (W1.alloc (.cells #[.string (bs p.op),.slice ki nk kc,.slice si ns sc,.string (bs p.attr),.string (bs p.text)] 146)) W5->PV (fun b=>w.heap.size<=b) 144 146 W5 (.agg #[.string ⟨#[110,111,116]⟩,.slice (some ⟨W1.heap.size,0,none⟩) 1 1,.slice none 0 0,.string ⟨#[]⟩,.string ⟨#[]⟩]) ⟨xZ,gR.of [p],.nil,[],[]⟩/\RD R t wh n W5 l'/\Fr (fun k=>k=R) w W5):=by
 obtain⟨ki,nk,kc,si,ns,sc,a1,a2,a3⟩:=hp;have hlt:=h.lt;have RZ:=(f.block _ (dQ h.bq) (by omega)).trans h.bq;have f1:Fr (fun k=>k=R\/w.heap.size<=k) w W1:=h.fr.trans f (fun _ _ x=>by omega);have hz1:w.heap.size+3<=W1.heap.size:=aw h.sz f.size;refine⟨ki,nk,kc,si,ns,sc,a1,RZ,fun W5 f5=>?_,?_,fun W5 f5=>?_⟩
 ·have hm:Move (fun b=>w.heap.size+3<=b) (fun b=>w.heap.size<=b) W1 W5:=fun b hb hl=>⟨by omega,f5.block b hl (by omega)⟩
  exact⟨⟨_,_,rfl,a2.move hm,a3.move hm⟩,rd.fr f5 (by omega),(f1.trans f5 (fun i hi x=>by omega)).restrict (fun k hk x=>by omega)⟩
 ·exact(ay _ _ _ (dQ RZ)).trans RZ
 ·have fa:Fr (fun _=>False) W1 (W1.alloc (.cells #[.string (bs p.op),.slice ki nk kc,.slice si ns sc,.string (bs p.attr),.string (bs p.text)] 146)):=(Fr.refl _ W1).alloc _;have g:=((GP.first (lo:=w.heap.size+3) (s:=p) hz1 ⟨a2,a3⟩).fr f5 (fun k e _=>by omega)).done (by simp) (fun e=>by simp at e);exact⟨⟨_,_,rfl,g.move fun b hb _=>⟨by omega,rfl⟩,Or.inl ⟨rfl,rfl⟩⟩,(rd.fr fa (fun x=>x)).fr f5 (by omega),((f1.trans fa (fun _ _ x=>x.elim)).trans f5 (fun i hi x=>by omega)).restrict (fun k hk x=>by omega)⟩
theorem Vk(hi:qh R t wh n eW)(h:RD R t wh n w l):Z4 212 #[ptr R] w (Ends R t wh n (PV (fun b=>w.heap.size<=b) 144 146) w (one (ei t wh) eW l)):=by
 have B0:=a_ (OI.start h);have hR:=h.lt;have Yd:∀(fn:Fn) (first cap:Array Value) (w:World),(Instr.makeFunc fn first cap).run prog w=.ok (.func fn first cap) w:=fun _ _ _ _=>rfl;generalize hW0:((w.alloc (.cells #[ptr R] 170)).alloc (.cells eU 146)).alloc (.cells eU 146)=W0 at*
 have c0:=B0.out.c0;obtain⟨bn,Es⟩:∃b,calls xZ l=b:=⟨_,rfl⟩
 have Uy:Hid (Z4 198 #[ptr R,.string ⟨#[110,111,116]⟩] W0 (Z7 (.bool bn) W0)):=by have:=ya xZ B0.out.rd;rw[Es]at this;exact this
 have KV:Hid (∀W l,OI R t wh n w W l->Z4 176 #[ptr R,.string ⟨#[40]⟩,.string ⟨#[41]⟩,.func (.func 218) #[] #[ptr w.heap.size,ptr (w.heap.size+1+1)]] W (Lays R t wh n (fun k=>k=R\/k=w.heap.size+1+1) (Ux (w.heap.size+3) (w.heap.size+1+1)) W (within (ei t wh) eW [40] [41] l))):=fun W l hW=>G_ hi hW.rd hW.br hW.bp (by omega) (by omega) (by omega) hW.sz (by omega);have HI:=a_ hi;clear hi h;unfold one;cases bn with
 |true=>
  rw[if_pos Es];have HW:Hid (∀W,RD R t wh n W l->Z4 179 #[ptr R,.string ⟨#[110,111,116]⟩] W fun e w'=>match want (ei t wh) xZ l with
   | .ok l'=>e=.returned (.tuple #[])/\RD R t wh n w' l'/\Fr (fun k=>k=R) W w'
   | .error y=>ou R t y W e w'):=fun W hW=>uk xZ hW
  clear Es;cases hx:want (ei t wh) xZ l with
  |error y=>
   simp only[hx]at HW;simp only[oM];clear hx;go_enter func212,ntmps212;go_wp2_with(first|(go_at_call 198;(try rw[hW0]);refine Uy.out.mono ?_;rintro e w2 ⟨rfl,hb2⟩;have O2:=B0.out.below hb2;have c2:=O2.c0)|(go_at_call 179;refine(HW.out _ O2.rd).mono ?_;rintro e w3 ⟨rfl,jy⟩));exact⟨rfl,rfl,O2.KU (jy.mono fun k e=>Or.inl e)⟩
  |ok l1=>
   simp only[hx]at HW;simp only[oM];clear hx;have KV:=KV.out;cases hy:within (ei t wh) eW [40] [41] l1 with
   |error y=>
    have KW:Hid (∀W,OI R t wh n w W l1->_):=fun W hW=>KV W l1 hW;rw[hy]at KW;simp only[oT];clear hy KV;go_enter func212,ntmps212;go_wp2_with(first|(go_at_call 198;(try rw[hW0]);refine Uy.out.mono ?_;rintro e w2 ⟨rfl,hb2⟩;have O2:=B0.out.below hb2;have c2:=O2.c0)|(go_at_call 179;refine(HW.out _ O2.rd).mono ?_;rintro e w3 ⟨rfl,tu,jy⟩;have O3:=O2.on jy tu;have c3:=O3.c0)|(go_at_call 176;refine(KW.out _ O3).mono ?_;rintro e w4 ⟨rfl,iz⟩));exact⟨rfl,rfl,O3.KU iz⟩
   |ok z=>
    obtain⟨p,l2⟩:=z;have KW:Hid (∀W,OI R t wh n w W l1->_):=fun W hW=>KV W l1 hW;rw[hy]at KW;simp only[iI];clear hy KV;go_enter func212,ntmps212;go_wp2_with(first|(go_at_call 198;(try rw[hW0]);refine Uy.out.mono ?_;rintro e w2 ⟨rfl,hb2⟩;have O2:=B0.out.below hb2;have c2:=O2.c0)|(go_at_call 179;refine(HW.out _ O2.rd).mono ?_;rintro e w3 ⟨rfl,tu,jy⟩;have O3:=O2.on jy tu;have c3:=O3.c0)|(go_at_call 176;refine(KW.out _ O3).mono ?_;rintro e w4 ⟨rfl,jf,Ys,iz⟩;obtain⟨ki,nk,kc,si,ns,sc,Uw,Xn,-,pz,hf⟩:=O3.put iz jf Ys;have uq:=a_ hf;clear hf Ys;obtain⟨⟨a0,a1,a2,a3,a4⟩,-⟩:=eO Uw;obtain⟨⟨y0,y1,y2,y3,y4⟩,z0,z1,z2,z3,z4⟩:=eO pz));obtain⟨W5,lg,r5,kC⟩:=pT (.string ⟨#[110,111,116]⟩) (.slice (some ⟨w4.heap.size,0,none⟩) 1 1) (.slice none 0 0) (.string ⟨#[]⟩) (.string ⟨#[]⟩) pz;rw[lg];clear lg y0 y1 y2 y3 y4 z0 z1 z2 z3 z4;obtain⟨⟨k0,k1,k2,k3,k4⟩,-⟩:=eO r5;obtain⟨q1,q2,q3⟩:=uq.out _ kC;refine aJ (v:=.agg #[.string ⟨#[110,111,116]⟩,.slice (some ⟨w4.heap.size,0,none⟩) 1 1,.slice none 0 0,.string ⟨#[]⟩,.string ⟨#[]⟩]) (by simp[results,results212,go_sem,k0,k1,k2,k3,k4]) rfl ⟨_,rfl,q1,q2,q3⟩
 |false=>
  rw[if_neg (by rw[Es];simp)];have CD:Hid (∀W,RD R t wh n W l->Z4 135 #[ptr R] W (Z7 (.string (bs (part l))) W)):=fun W hW=>jA hW;clear Es;by_cases hp:part l=[40]
  ·rw[if_pos hp];have hq:((bs (part l)).toList==[40])=true:=by rw[fe,hp];rfl
   generalize bs (part l)=S at*
   have KV:=KV.out;clear hp;cases hy:within (ei t wh) eW [40] [41] l with
   |error y=>
    have KW:Hid (∀W,OI R t wh n w W l->_):=fun W hW=>KV W l hW;rw[hy]at KW;clear hy KV;go_enter func212,ntmps212;go_wp2_with(first|(go_at_call 198;(try rw[hW0]);refine Uy.out.mono ?_;rintro e w2 ⟨rfl,hb2⟩;have O2:=B0.out.below hb2;have c2:=O2.c0)|(go_at_call 135;refine(CD.out _ O2.rd).mono ?_;rintro e w3 ⟨rfl,hb3⟩;have O3:=O2.below hb3;have c3:=O3.c0)|(go_at_call 176;refine(KW.out _ O3).mono ?_;rintro e w4 ⟨rfl,iz⟩));exact⟨rfl,rfl,O3.KU iz⟩
   |ok z=>
    obtain⟨p,l2⟩:=z;have KW:Hid (∀W,OI R t wh n w W l->_):=fun W hW=>KV W l hW;rw[hy]at KW;clear hy KV;go_enter func212,ntmps212;go_wp2_with(first|(go_at_call 198;(try rw[hW0]);refine Uy.out.mono ?_;rintro e w2 ⟨rfl,hb2⟩;have O2:=B0.out.below hb2;have c2:=O2.c0)|(go_at_call 135;refine(CD.out _ O2.rd).mono ?_;rintro e w3 ⟨rfl,hb3⟩;have O3:=O2.below hb3;have c3:=O3.c0)|(go_at_call 176;refine(KW.out _ O3).mono ?_;rintro e w4 ⟨rfl,jf,Ys,iz⟩;obtain⟨ki,nk,kc,si,ns,sc,Uw,pz,hf,-⟩:=O3.put iz jf Ys;have uq:=a_ hf;clear hf Ys;obtain⟨⟨a0,a1,a2,a3,a4⟩,-⟩:=eO Uw;obtain⟨⟨y0,y1,y2,y3,y4⟩,z0,z1,z2,z3,z4⟩:=eO pz));obtain⟨W5,lg,r5,kC⟩:=pT (.string (bs p.op)) (.slice ki nk kc) (.slice si ns sc) (.string (bs p.attr)) (.string (bs p.text)) pz;rw[lg];clear lg y0 y1 y2 y3 y4 z0 z1 z2 z3 z4;obtain⟨⟨k0,k1,k2,k3,k4⟩,-⟩:=eO r5;obtain⟨q1,q2,q3⟩:=uq.out _ kC;refine aJ (v:=.agg #[.string (bs p.op),.slice ki nk kc,.slice si ns sc,.string (bs p.attr),.string (bs p.text)]) (by simp[results,results212,go_sem,k0,k1,k2,k3,k4]) rfl ⟨_,rfl,q1,q2,q3⟩
  ·rw[if_neg hp];have hq:((bs (part l)).toList==[40])=false:=by rw[fe];simpa using hp
   generalize bs (part l)=S at*
   clear hp KV;have Yt:Hid (∀W,RD R t wh n W l->Z4 220 #[ptr R] W (Ends R t wh n (PV (fun b=>W.heap.size<=b) 144 146) W (value (ei t wh) eW l))):=fun W hW=>Ob HI.out hW;cases hy:value (ei t wh) eW l with
   |error y=>
    rw[hy]at Yt;simp only[oT];clear hy;go_enter func212,ntmps212;go_wp2_with(first|(go_at_call 198;(try rw[hW0]);refine Uy.out.mono ?_;rintro e w2 ⟨rfl,hb2⟩;have O2:=B0.out.below hb2;have c2:=O2.c0)|(go_at_call 135;refine(CD.out _ O2.rd).mono ?_;rintro e w3 ⟨rfl,hb3⟩;have O3:=O2.below hb3;have c3:=O3.c0));have hv:=Yt.out w3.drew (O3.rd.fr (F:=fun _=>False) ((Fr.refl _ w3).drewN 1) (fun x=>x));refine wp_region_held_drew (S:=fun W=>W.cell? ⟨w.heap.size,0,none⟩=some (ptr R)) (by kernel_rfl) c3 (fun hHeld=>?_);refine wpAnyH_take (i:=0) (v:=?_) rfl (by kernel_rfl) (by kernel_rfl) (by kernel_rfl) (fun _ _ _ h=>h) (Or.inl ⟨by rfl,?_⟩) (by assumption) ?_
    rotate_left
    ·(intro w hSw;(try dsimp only at hSw);go_simp;(try with_reducible rfl))
    (try simp only[Act.put,ae,af,aj])
    refine wpAnyH_take (i:=1) (v:=?_) rfl (by kernel_rfl) (by kernel_rfl) (by kernel_rfl) (fun _ _ _ h=>h) (Or.inl ⟨by rfl,?_⟩) (by assumption) ?_
    rotate_left
    ·(intro w hSw;(try dsimp only at hSw);go_simp;(try with_reducible rfl))
    (try simp only[Act.put,ae,af,aj])
    refine wpAnyH_ready (rs:=[2]) (by kernel_rfl) (by simp) ?_;refine AllReadyH.cons rfl (fun K hK=>?_) AllReadyH.nil
    go_simp
    refine hv.mono ?_;rintro e w4 ⟨rfl,iz⟩;exact⟨rfl,rfl,O3.KU (Fr.mono ⟨iz.os,iz.tape,iz.output,iz.size,iz.block⟩ fun k e=>Or.inl e)⟩
   |ok z=>
    obtain⟨p,l2⟩:=z;rw[hy]at Yt;simp only[iI];clear hy;have HCO:Hid (∀W0 W ki nk kc si ns sc,OI R t wh n w W0 l->Fr (fun k=>k=R) W0 W->RD R t wh n W l2->pV W (fun b=>W0.heap.size<=b) 144 146 (.slice ki nk kc) p.kids/\qd W (fun b=>W0.heap.size<=b) 144 146 (.slice si ns sc) p.steps->Z4 219 #[ptr R,.agg #[.string (bs p.op),.slice ki nk kc,.slice si ns sc,.string (bs p.attr),.string (bs p.text)]] W (Ends R t wh n (PV (fun b=>W0.heap.size<=b) 144 146) W (compared (ei t wh) p l2))):=fun W0 W ki nk kc si ns sc h0 f rd hv=>Er (by have:=h0.rd.lt;omega) rd hv;cases hz:compared (ei t wh) p l2 with
    |error y=>
     rw[hz]at HCO;clear hz;go_enter func212,ntmps212;go_wp2_with(first|(go_at_call 198;(try rw[hW0]);refine Uy.out.mono ?_;rintro e w2 ⟨rfl,hb2⟩;have O2:=B0.out.below hb2;have c2:=O2.c0)|(go_at_call 135;refine(CD.out _ O2.rd).mono ?_;rintro e w3 ⟨rfl,hb3⟩;have O3:=O2.below hb3;have c3:=O3.c0));have Sf:OI R t wh n w w3.drew l:=O3.on ((Fr.refl (fun k=>k=R) w3).drewN 1) (O3.rd.fr (F:=fun _=>False) ((Fr.refl _ w3).drewN 1) (fun x=>x));refine wp_region_held_drew (S:=fun W=>W.cell? ⟨w.heap.size,0,none⟩=some (ptr R)) (by kernel_rfl) c3 (fun hHeld=>?_);generalize w3.drew=W3 at*
     refine wpAnyH_take (i:=0) (v:=?_) rfl (by kernel_rfl) (by kernel_rfl) (by kernel_rfl) (fun _ _ _ h=>h) (Or.inl ⟨by rfl,?_⟩) (by assumption) ?_
     rotate_left
     ·(intro w hSw;(try dsimp only at hSw);go_simp;(try with_reducible rfl))
     (try simp only[Act.put,ae,af,aj])
     refine wpAnyH_take (i:=1) (v:=?_) rfl (by kernel_rfl) (by kernel_rfl) (by kernel_rfl) (fun _ _ _ h=>h) (Or.inl ⟨by rfl,?_⟩) (by assumption) ?_
     rotate_left
     ·(intro w hSw;(try dsimp only at hSw);go_simp;(try with_reducible rfl))
     (try simp only[Act.put,ae,af,aj])
     refine wpAnyH_ready (rs:=[2]) (by kernel_rfl) (by simp) ?_;refine AllReadyH.cons rfl (fun K hK=>?_) AllReadyH.nil;have hv:=Yt.out _ Sf.rd
     go_simp
     refine hv.mono ?_;clear hv;rintro e w4 ⟨v4,rfl,AW,jf,iz⟩;obtain⟨ki,nk,kc,si,ns,sc,rfl,Yu⟩:=AW.shape;refine hK.out _ _ (Sf.on iz jf).c0 (fun hHeld=>?_);clear hK K AW
     (try simp only[Act.put,ae,af,aj])
     refine wpAnyH_ready (rs:=[3]) (by kernel_rfl) (by simp) ?_;refine AllReadyH.cons rfl (fun K hK=>?_) AllReadyH.nil;have hc:=HCO.out _ _ _ _ _ _ _ _ Sf iz jf Yu;clear Yu
     go_simp
     refine hc.mono ?_;clear hc;rintro e w5 ⟨rfl,lJ⟩;exact⟨rfl,rfl,Sf.KU ((iz.same lJ).mono fun k e=>Or.inl e)⟩
    |ok z=>
     obtain⟨p2,l3⟩:=z;rw[hz]at HCO;clear hz;have HFI:Hid (∀W0 W v,OI R t wh n w W0 l->Fr (fun k=>k=R) W0 W->RD R t wh n W l3->PV (fun b=>W0.heap.size<=b) 144 146 W v p2->∃ki nk kc si ns sc,v=.agg #[.string (bs p2.op),.slice ki nk kc,.slice si ns sc,.string (bs p2.attr),.string (bs p2.text)]/\W.heap[w.heap.size]?=some (.cells #[ptr R] 170 (0,0))/\W.heap[w.heap.size+1]?=some (.cells eU 146 (0,0))/\∀W5,Fr (fun k=>k=w.heap.size+1) W W5->PV (fun b=>w.heap.size<=b) 144 146 W5 (.agg #[.string (bs p2.op),.slice ki nk kc,.slice si ns sc,.string (bs p2.attr),.string (bs p2.text)]) p2/\RD R t wh n W5 l3/\Fr (fun k=>k=R) w W5):=fun W0 W v h0 f rd pv=>by
      obtain⟨ki,nk,kc,si,ns,sc,rfl,a1,a2⟩:=pv.shape;have h1:=h0.on f rd;have hsz:=h0.sz;refine⟨ki,nk,kc,si,ns,sc,rfl,h1.br,h1.bq,fun W5 f5=>?_⟩;have hm:Move (fun b=>W0.heap.size<=b) (fun b=>w.heap.size<=b) W W5:=fun b hb hl=>⟨by omega,f5.block b hl (by omega)⟩
      exact⟨⟨_,_,rfl,a1.move hm,a2.move hm⟩,rd.fr f5 (by omega),(h1.fr.trans f5 (fun i hi x=>by omega)).restrict (fun k hk x=>by omega)⟩
     go_enter func212,ntmps212;go_wp2_with(first|(go_at_call 198;(try rw[hW0]);refine Uy.out.mono ?_;rintro e w2 ⟨rfl,hb2⟩;have O2:=B0.out.below hb2;have c2:=O2.c0)|(go_at_call 135;refine(CD.out _ O2.rd).mono ?_;rintro e w3 ⟨rfl,hb3⟩;have O3:=O2.below hb3;have c3:=O3.c0));have Sf:OI R t wh n w w3.drew l:=O3.on ((Fr.refl (fun k=>k=R) w3).drewN 1) (O3.rd.fr (F:=fun _=>False) ((Fr.refl _ w3).drewN 1) (fun x=>x));refine wp_region_held_drew (S:=fun W=>W.cell? ⟨w.heap.size,0,none⟩=some (ptr R)) (by kernel_rfl) c3 (fun hHeld=>?_);generalize w3.drew=W3 at*
     refine wpAnyH_take (i:=0) (v:=?_) rfl (by kernel_rfl) (by kernel_rfl) (by kernel_rfl) (fun _ _ _ h=>h) (Or.inl ⟨by rfl,?_⟩) (by assumption) ?_
     rotate_left
     ·(intro w hSw;(try dsimp only at hSw);go_simp;(try with_reducible rfl))
     (try simp only[Act.put,ae,af,aj])
     refine wpAnyH_take (i:=1) (v:=?_) rfl (by kernel_rfl) (by kernel_rfl) (by kernel_rfl) (fun _ _ _ h=>h) (Or.inl ⟨by rfl,?_⟩) (by assumption) ?_
     rotate_left
     ·(intro w hSw;(try dsimp only at hSw);go_simp;(try with_reducible rfl))
     (try simp only[Act.put,ae,af,aj])
     refine wpAnyH_ready (rs:=[2]) (by kernel_rfl) (by simp) ?_;refine AllReadyH.cons rfl (fun K hK=>?_) AllReadyH.nil;have hv:=Yt.out _ Sf.rd
     go_simp
     refine hv.mono ?_;clear hv;rintro e w4 ⟨v4,rfl,AW,jf,iz⟩;obtain⟨ki,nk,kc,si,ns,sc,rfl,Yu⟩:=AW.shape;refine hK.out _ _ (Sf.on iz jf).c0 (fun hHeld=>?_);clear hK K AW
     (try simp only[Act.put,ae,af,aj])
     refine wpAnyH_ready (rs:=[3]) (by kernel_rfl) (by simp) ?_;refine AllReadyH.cons rfl (fun K hK=>?_) AllReadyH.nil;have hc:=HCO.out _ _ _ _ _ _ _ _ Sf iz jf Yu;clear Yu
     go_simp
     refine hc.mono ?_;clear hc;rintro e w5 ⟨v5,rfl,Yj,sf,lJ⟩;obtain⟨ki2,nk2,kc2,si2,ns2,sc2,rfl,br5,z8,hf⟩:=HFI.out _ _ _ Sf (iz.same lJ) sf Yj;have uq:=a_ hf;clear hf Yj;refine hK.out _ _ (cell_of br5 rfl) (fun hHeld=>?_);clear hK K
     (try simp only[Act.put,ae,af,aj])
     refine wpAnyH_ready (rs:=[4]) (by kernel_rfl) (by simp) ?_;refine AllReadyH.cons rfl (fun K hK=>?_) AllReadyH.nil;obtain⟨⟨y0,y1,y2,y3,y4⟩,z0,z1,z2,z3,z4⟩:=eO z8
     go_simp
     obtain⟨W5,lg,r5,kC⟩:=pT (.string (bs p2.op)) (.slice ki2 nk2 kc2) (.slice si2 ns2 sc2) (.string (bs p2.attr)) (.string (bs p2.text)) z8;rw[lg];clear lg y0 y1 y2 y3 y4 z0 z1 z2 z3 z4;have br6:=(kC.block _ (dQ br5) (by omega)).trans br5;refine hK.out _ _ (cell_of br6 rfl) (fun hHeld=>?_);clear hK K;refine wpAnyH_done (by kernel_rfl) ?_ _;obtain⟨⟨k0,k1,k2,k3,k4⟩,-⟩:=eO r5;obtain⟨q1,q2,q3⟩:=uq.out _ kC;go_wp2;refine aJ (v:=.agg #[.string (bs p2.op),.slice ki2 nk2 kc2,.slice si2 ns2 sc2,.string (bs p2.attr),.string (bs p2.text)]) (by simp[results,results212,go_sem,k0,k1,k2,k3,k4]) rfl ⟨_,rfl,q1,q2,q3⟩
end
section
variable{w w' w1 w2 W0 W1 W2 W3 W4 WO wr W W5:World}{A F G:Nat->Prop}{R lo Bp Br:Nat}{t l l':L}{wh n:Nat}{eW:Option (L->Rs gz)}{v v' vp vk vs:Value}{X:Rs gz}{p:gz}
theorem Od:∀args w,(callFunc 212 args).run prog w=.ok (.enter 212 args) w:=enters_of func212 (by kernel_rfl) rfl
theorem Sh(hi:qh R t wh n eW)(h:RD R t wh n w l):Z4 201 #[ptr R] w (Ends R t wh n (PV (fun b=>w.heap.size<=b) 144 146) w (both (ei t wh) eW l)):=by
 have B0:=a_ (tD.start h);have Yd:∀(fn:Fn) (first cap:Array Value) (w:World),(Instr.makeFunc fn first cap).run prog w=.ok (.func fn first cap) w:=fun _ _ _ _=>rfl;generalize hW0:w.alloc (.cells eU 146)=W0 at*
 have HJ:Hid (Z4 200 #[ptr R,.string ⟨#[97,110,100]⟩,.func (.func 212) #[ptr R] #[]] W0 (Ends R t wh n (PV (fun b=>W0.heap.size<=b) 144 146) W0 (both (ei t wh) eW l))):=AP (word:=X5) (by decide) Od (fun W l hW=>Vk hi hW) (Cx hi.xh) B0.out.rd;clear hi h;cases hy:both (ei t wh) eW l with
 |error y=>
  rw[hy]at HJ;clear hy;go_enter func201,ntmps201;go_wp2_with(first|(go_at_call 200;(try rw[hW0]);refine HJ.out.mono ?_;rintro e w4 ⟨rfl,iz⟩));exact⟨rfl,rfl,B0.out.KU iz⟩
 |ok z=>
  obtain⟨p,l2⟩:=z;rw[hy]at HJ;clear hy;go_enter func201,ntmps201;go_wp2_with(first|(go_at_call 200;(try rw[hW0]);refine HJ.out.mono ?_;rintro e w4 ⟨v4,rfl,AW,jf,iz⟩;obtain⟨ki,nk,kc,si,ns,sc,rfl,pz,hf⟩:=B0.out.fin iz jf AW;clear AW;have uq:=a_ hf;clear hf;obtain⟨⟨y0,y1,y2,y3,y4⟩,z0,z1,z2,z3,z4⟩:=eO pz));obtain⟨W5,lg,r5,kC⟩:=pT (.string (bs p.op)) (.slice ki nk kc) (.slice si ns sc) (.string (bs p.attr)) (.string (bs p.text)) pz;rw[lg];clear lg y0 y1 y2 y3 y4 z0 z1 z2 z3 z4;obtain⟨⟨k0,k1,k2,k3,k4⟩,-⟩:=eO r5;obtain⟨q1,q2,q3⟩:=uq.out _ kC;refine aJ (v:=.agg #[.string (bs p.op),.slice ki nk kc,.slice si ns sc,.string (bs p.attr),.string (bs p.text)]) (by simp[results,results201,go_sem,k0,k1,k2,k3,k4]) rfl ⟨_,rfl,q1,q2,q3⟩
theorem Oe:∀args w,(callFunc 201 args).run prog w=.ok (.enter 201 args) w:=enters_of func201 (by kernel_rfl) rfl
theorem JQ(hi:qh R t wh n eW)(h:RD R t wh n w l):Z4 178 #[ptr R] w (Ends R t wh n (PV (fun b=>w.heap.size<=b) 144 146) w (cond (ei t wh) eW l)):=by
 have B0:=a_ (tD.start h);have Yd:∀(fn:Fn) (first cap:Array Value) (w:World),(Instr.makeFunc fn first cap).run prog w=.ok (.func fn first cap) w:=fun _ _ _ _=>rfl;generalize hW0:w.alloc (.cells eU 146)=W0 at*
 have HJ:Hid (Z4 200 #[ptr R,.string ⟨#[111,114]⟩,.func (.func 201) #[ptr R] #[]] W0 (Ends R t wh n (PV (fun b=>W0.heap.size<=b) 144 146) W0 (cond (ei t wh) eW l))):=AP (word:=X4) (by decide) Oe (fun W l hW=>Sh hi hW) (fun l=>tj (Cx hi.xh) l) B0.out.rd;clear hi h;cases hy:cond (ei t wh) eW l with
 |error y=>
  rw[hy]at HJ;clear hy;go_enter func178,ntmps178;go_wp2_with(first|(go_at_call 200;(try rw[hW0]);refine HJ.out.mono ?_;rintro e w4 ⟨rfl,iz⟩));exact⟨rfl,rfl,B0.out.KU iz⟩
 |ok z=>
  obtain⟨p,l2⟩:=z;rw[hy]at HJ;clear hy;go_enter func178,ntmps178;go_wp2_with(first|(go_at_call 200;(try rw[hW0]);refine HJ.out.mono ?_;rintro e w4 ⟨v4,rfl,AW,jf,iz⟩;obtain⟨ki,nk,kc,si,ns,sc,rfl,pz,hf⟩:=B0.out.fin iz jf AW;clear AW;have uq:=a_ hf;clear hf;obtain⟨⟨y0,y1,y2,y3,y4⟩,z0,z1,z2,z3,z4⟩:=eO pz));obtain⟨W5,lg,r5,kC⟩:=pT (.string (bs p.op)) (.slice ki nk kc) (.slice si ns sc) (.string (bs p.attr)) (.string (bs p.text)) pz;rw[lg];clear lg y0 y1 y2 y3 y4 z0 z1 z2 z3 z4;obtain⟨⟨k0,k1,k2,k3,k4⟩,-⟩:=eO r5;obtain⟨q1,q2,q3⟩:=uq.out _ kC;refine aJ (v:=.agg #[.string (bs p.op),.slice ki nk kc,.slice si ns sc,.string (bs p.attr),.string (bs p.text)]) (by simp[results,results178,go_sem,k0,k1,k2,k3,k4]) rfl ⟨_,rfl,q1,q2,q3⟩
theorem AX:∀d,d<=8->ye R t wh (8-d) (x6 (ei t wh) d)/\qh R t wh (8-d) (vH (ei t wh) d)
 |0,_=>by
  have hi:qh R t wh 8 (vH (ei t wh) 0):=Or.inl ⟨rfl,rfl⟩;exact⟨fun W l h=>JQ hi h,hi⟩
 |d+1,hd=>by
  have ih:=(AX d (by omega)).1;have hi:qh R t wh (8-(d+1)) (vH (ei t wh) (d+1)):=Or.inr ⟨x6 (ei t wh) d,rfl,by omega,tk d,by rw[show 8-(d+1)+1=8-d by omega];exact ih⟩;exact⟨fun W l h=>JQ hi h,hi⟩
theorem in8:qh R t wh 0 (vH (ei t wh) 8):=(AX 8 (by omega)).2
end
section
variable{w w' w1 w2 W0 W1 W2 W3 W4 WO wr W W5:World}{A A' F G:Nat->Prop}{R lo:Nat}{t l l':L}{wh n:Nat}{v v' vp:Value}{tQ tS tP:TypeId}
def QS(w:World)(A:Nat->Prop)(tQ tS tP:TypeId)(v:Value)(l:List (List iE)):Prop:=sl w A tQ v l.length fun g=>∀i p,l[i]?=some p->∃u,w.cell? ⟨g,i,none⟩=some u/\qd w A tS tP u (gh.of p)
theorem QS.move{l:List (List iE)}(hm:Move A A' w w')(h:QS w A tQ tS tP v l):QS w' A' tQ tS tP v l:=
 sl.move hm h fun g ha hl hr i p hi=>by
  obtain⟨u,h1,h2⟩:=hr i p hi;exact⟨u,(ar (hm g ha hl).2).trans h1,h2.move hm⟩
structure GQ(lo:Nat)(tQ tS tP:TypeId)(w:World)(v:Value)(l:List (List iE)):Prop where
 ex:∃xs:List (List iE×Value),xs.map (·.1)=l/\w.ownsRow 0 tQ 1 v l.length (xs.map (·.2))/\∀x∈xs,qd w (fun b=>lo<=b/\some b≠v.ownBlock) tS tP x.2 (gh.of x.1)
 own:∀k,v.ownBlock=some k->lo<=k
variable{lq:List (List iE)}{p:List iE}
theorem GQ.lt(h:GQ lo tQ tS tP w v lq){k:Nat}(e:v.ownBlock=some k):k<w.heap.size:=by obtain⟨xs,_,h2,_⟩:=h.ex;exact ej h2 e
theorem GQ.fr(h:GQ lo tQ tS tP w v lq)(hf:Fr F w w')(hF:∀k,F k->k<w.heap.size->k<lo):GQ lo tQ tS tP w' v lq:=by
 obtain⟨xs,h1,h2,h3⟩:=h.ex;have hb:∀b,lo<=b->b<w.heap.size->w'.heap[b]?=w.heap[b]?:=fun b h1 h2=>hf.block b h2 (fun x=>by have:=hF b x h2;omega);exact⟨⟨xs,h1,dW h2 fun k e=>hb k (h.own k e) (ej h2 e),fun x hx=>(h3 x hx).move fun b ha hl=>⟨ha,hb b ha.1 hl⟩⟩,h.own⟩
theorem GQ.first(py:lo<=w.heap.size)(sv:qd w (fun b=>lo<=b) tS tP vp (gh.of p)):GQ lo tQ tS tP (w.alloc (.cells #[vp] tQ)) (.slice (some ⟨w.heap.size,0,none⟩) 1 1) [p]:=
 ⟨⟨[(p,vp)],rfl,yh [vp] tQ 1 w rfl (by decide),fun x hx=>by
   obtain rfl:x=(p,vp):=by simpa using hx
   exact sv.move fun b hb hl=>⟨⟨hb,fun e=>by have:b=w.heap.size:=aX e;omega⟩,ay _ _ _ hl⟩⟩,fun k e=>by have:w.heap.size=k:=aX e;omega⟩
theorem GQ.G7(h:GQ lo tQ tS tP W0 v lq)(fr:Fr (fun k=>k=R) W0 W2)(hR:R<lo)(py:lo<=W0.heap.size)(sv:qd W2 (fun b=>W0.heap.size<=b) tS tP vp (gh.of p))(o:Obj):
  ∃xs,(W2.alloc o).ownsRow 0 tQ 1 v lq.length xs/\∀v' W4,W4.ownsRow 0 tQ 1 v' (lq.length+1) (xs++[vp])->(W2.alloc o).grownBy W4 v.ownBlock->(v'.ownBlock=v.ownBlock\/v'.ownBlock=some (W2.alloc o).heap.size)->GQ lo tQ tS tP W4 v' (lq++[p])/\Fr (fun k=>k=R\/lo<=k) W0 W4/\Fr (fun k=>lo<=k) W2 W4:=by
 have g3:=h.fr (fr.alloc o) fun k e _=>by omega
 obtain⟨xs,x1,x2,x3⟩:=g3.ex;refine⟨_,x2,fun v' W4 ho hg hat=>⟨⟨⟨xs++[(p,vp)],by rw[bE,x1];rfl,by rw[ax,bE];exact ho,fun x hx=>?_⟩,fun k e=>?_⟩,?_,?_⟩⟩
 ·have hz:=fr.size;have hm:Move (fun b=>lo<=b/\some b≠v.ownBlock) (fun b=>lo<=b/\some b≠v'.ownBlock) (W2.alloc o) W4:=fun b ha hl=>⟨⟨ha.1,by rcases hat with e|e<;>rw[e];exact ha.2;intro x;cases x;omega⟩,hg.block b hl ha.2⟩
  rcases List.mem_append.1 hx with hx|hx
  ·exact(x3 x hx).move hm
  ·obtain rfl:x=(p,vp):=by simpa using hx
   exact(sv.move (A':=fun b=>lo<=b/\some b≠v.ownBlock) (w':=W2.alloc o) fun b hb hl=>⟨⟨by omega,fun e=>by have:=h.lt e.symm;omega⟩,ay _ _ _ hl⟩).move hm
 ·rcases hat with x|x
  ·exact h.own k (x▸e)
  ·rw[x]at e;cases e;have:=fr.size;simp;omega
 ·exact((fr.alloc o).mono fun k e=>Or.inl e).same (yi hg fun k e=>h.own k e)
 ·exact((Fr.refl _ W2).alloc o).same ⟨hg.os,hg.tape,hg.output,hg.size,fun k hk hf=>hg.block k hk (fun e=>hf (h.own k e.symm))⟩
theorem GQ.done(h:GQ lo tQ tS tP w v lq)(hn:lq.length<=1000)(hne:lq≠[]):QS w (fun b=>lo<=b) tQ tS tP v lq:=by
 obtain⟨xs,h1,h2,h3⟩:=h.ex;obtain⟨ai,cap,rfl⟩:=dS h2;have hz:lq.length≠0:=fun e=>hne (List.length_eq_zero_iff.1 e);rcases h2.2 with⟨e,e2⟩|⟨g,cap',cur,e1,h0,hg,hr⟩
 ·omega
 ·cases e1;refine Or.inr ⟨g,cap,cur,rfl,h.own g rfl,hg,hn,by omega,fun k s hk=>?_⟩;obtain⟨x,hx,rfl⟩:=vJ h1 hk;exact⟨x.2,iB h2 (by rw[bW,hx];rfl),(h3 x (mN hx)).move fun b ha _=>⟨ha.1,rfl⟩⟩
theorem Vl:(prog.info? 85).map (fun i=>(i.zero,i.size,i.bytes))=some (some (.slice none 0 0),1,24):=by kernel_rfl
structure QI(R:Nat)(t:L)(wh:Nat)(w:World)(X:Rs (List (List iE)))(wr:World)(v:Value)(ls:List (List iE))(lc:L):Prop where
 rd:RD R t wh 0 wr lc
 gq:GQ w.heap.size 85 144 146 wr v ls
 fr:Fr (fun k=>k=R\/w.heap.size<=k) w wr
 eq:∃fu,lc.length<fu/\X=thn (ku (ei t wh) fu lc) fun qs l=>if l=[]/\ei t wh=false then .ok (ls++qs,l)else .error (bad (ei t wh) l)
 sm:ls.length+lc.length<=501
 ne:ls≠[]
 lt:R<w.heap.size
variable{X:Rs (List (List iE))}{ls:List (List iE)}{lc:L}
theorem QI.stop(h:QI R t wh w X wr v ls lc)(hg:part lc≠[124]):X=if lc=[]/\ei t wh=false then .ok (ls,lc)else .error (bad (ei t wh) lc):=by
 obtain⟨fu,e1,e2⟩:=h.eq;rw[e2];cases fu with
 |zero=>omega
 |succ fu=>rw[ku,if_neg hg];simp only[iI,aP]
theorem QI.go(h:QI R t wh w X wr v ls lc)(hg:part lc=[124]):
  (∀y,path (ei t wh) (vH (ei t wh) 8) (pass 1 lc)=.error y->X=.error y)/\∀p l2,path (ei t wh) (vH (ei t wh) 8) (pass 1 lc)=.ok (p,l2)->l2.length<lc.length/\∃fu,l2.length<fu/\X=thn (ku (ei t wh) fu l2) fun qs l=>if l=[]/\ei t wh=false then .ok ((ls++[p])++qs,l)else .error (bad (ei t wh) l):=by
 obtain⟨fu,e1,e2⟩:=h.eq;cases fu with
 |zero=>omega
 |succ fu=>
  rw[ku,if_pos hg]at e2;refine⟨fun y hy=>by rw[e2,hy];rfl,fun p l2 hy=>?_⟩;have h1:=(Ee (Eh 8) _ p l2 hy).length_le;have h2:=xB (n:=1) (l:=lc) (by decide) (xC hg (by decide));refine⟨by omega,fu,by omega,?_⟩;rw[e2,hy];simp only[iI];cases ku (ei t wh) fu l2 with
  |error y=>rfl
  |ok z=>obtain⟨za,zb⟩:=z;simp only[iI,aV,aZ,bH]
def QV(A:Nat->Prop)(w:World)(v:Value)(ls:List (List iE)):Prop:=QS w A 85 144 146 v ls
theorem Og(h:RD R t wh 0 w l):Z4 48 #[ptr R] w (Ends R t wh 0 (QV (fun b=>w.heap.size<=b)) w (query (ei t wh) l)):=by
 have Vb:Hid (Z4 84 #[ptr R,.int .i64 0] w fun e w'=>e=.returned (.tuple #[])/\RD R t wh 0 w' (pass 0 l)/\Fr (fun k=>k=R) w w'):=xD 0 h (aB _);have hR:=h.lt;have h5:(pass 0 l).length<=500:=by have:=(jr 0 l).length_le;have:=h.le;have:=h.tw;have:=h.Cz;omega
 have G1:=h.tw;have CD:Hid (∀W,RD R t wh 0 W (pass 0 l)->Z4 85 #[ptr R] W (Ends R t wh 0 (SL (fun b=>W.heap.size<=b)) W (path (ei t wh) (vH (ei t wh) 8) (pass 0 l)))):=fun W hW=>JN in8 hW;unfold query;cases hx:path (ei t wh) (vH (ei t wh) 8) (pass 0 l)with
 |error y=>
  rw[hx]at CD;simp only[oT];clear hx h;go_enter func48,ntmps48;go_wp2_with(first|(go_at_call 84;refine Vb.out.mono ?_;rintro e w2 ⟨rfl,rd,fr⟩)|(go_at_call 85;refine(CD.out _ rd).mono ?_;rintro e w3 ⟨rfl,jy⟩));exact⟨rfl,rfl,fr.same jy⟩
 |ok z=>
  obtain⟨p,l1⟩:=z;rw[hx]at CD;have uj:=(Ee (Eh 8) _ p l1 hx).length_le;simp only[iI];clear hx h;obtain⟨X,hX⟩:∃X,(thn (ku (ei t wh) (l1.length+1) l1) fun ps l=>if l=[]/\ei t wh=false then(.ok (p::ps,l):Rs (List (List iE)))else .error (bad (ei t wh) l))=X:=⟨_,rfl⟩
  rw[hX];have HQ0:Hid (∀W1 W2 v,Fr (fun k=>k=R) w W1->Fr (fun k=>k=R) W1 W2->RD R t wh 0 W2 l1->SL (fun b=>W1.heap.size<=b) W2 v p->∃vi vn vc,v=.slice vi vn vc/\QI R t wh w X (W2.alloc (.cells #[.slice vi vn vc] 85)) (.slice (some ⟨W2.heap.size,0,none⟩) 1 1) [p] l1):=fun W1 W2 v f1 f2 rd sv=>by
   obtain⟨vi,vc,rfl⟩:=sl.shape sv;have fa:Fr (fun _=>False) W2 (W2.alloc (.cells #[.slice vi (gh.of p).len vc] 85)):=(Fr.refl _ W2).alloc _;exact⟨vi,_,vc,rfl,rd.fr fa (fun x=>x),GQ.first (aw f1.size f2.size) (qd.move (fun b hb _=>⟨aw f1.size hb,rfl⟩) sv),((f1.same f2).mono (fun _ x=>Or.inl x)).trans fa (fun _ _ x=>x.elim),⟨l1.length+1,by omega,by rw[<-hX];rfl⟩,by simp;omega,by simp,hR⟩
  clear hX;obtain⟨i0,hi,hz0,hz1,hz2⟩:=aY Vl;go_enter func48,ntmps48;go_wp2_with(first|(go_at_call 84;refine Vb.out.mono ?_;rintro e w2 ⟨rfl,rd,fr⟩)|(go_at_call 85;refine(CD.out _ rd).mono ?_;rintro e w3 ⟨v3,rfl,Yh,tu,jy⟩;obtain⟨vi,vn,vc,rfl,hQ⟩:=HQ0.out _ _ _ fr jy tu Yh;have HQ:=a_ hQ;clear hQ Yh));clear rd tu fr jy;generalize (World.alloc w3 _)=WS at*
  generalize (Value.slice (some ⟨w3.heap.size,0,none⟩) 1 1)=V0 at*
  go_loopw [3,9,10,11,12,13,14,15] (fun u3 _ _ _ _ _ _ _ wr=>∃ls lc,QI R t wh w X wr u3 ls lc) (fun _ _ _ _ _ _ _ _ wr=>vB R t wr)
  case atStart=>exact⟨_,_,HQ.out⟩
  case round=>
   rename World=>WO
   obtain⟨ls,lc,hQ⟩:=hrel;have zX:vB R t WO=lc.length:=hQ.rd.vB;have Xu:=a_ hQ;obtain⟨b,hb⟩:∃b,decide (part lc=[124])=b:=⟨_,rfl⟩
   have HT:=a_ (oP [124] hQ.rd b hb);cases b with
   |true=>
    have hp:part lc=[124]:=by simpa using hb
    have hgo:=hQ.go hp;simp only[if_true]at HT;have HT:Hid (Z4 86 #[ptr R,.string ⟨#[124]⟩] WO fun e w'=>e=.returned (.bool true)/\RD R t wh 0 w' (pass 1 lc)/\Fr (fun k=>k=R) WO w'):=HT;have HP2:Hid (∀W,RD R t wh 0 W (pass 1 lc)->Z4 85 #[ptr R] W (Ends R t wh 0 (SL (fun b=>W.heap.size<=b)) W (path (ei t wh) (vH (ei t wh) 8) (pass 1 lc)))):=fun W hW=>JN in8 hW;clear hb hQ hp;cases hy:path (ei t wh) (vH (ei t wh) 8) (pass 1 lc)with
    |error y=>
     have hX:=hgo.1 y hy;subst hX;rw[hy]at HP2;clear hy hgo;go_wp2_with(first|(go_at_call 86;refine HT.out.mono ?_;rintro e w4 ⟨rfl,jf,iz⟩)|(go_at_call 85;refine(HP2.out _ jf).mono ?_;rintro e w5 ⟨rfl,lJ⟩));exact⟨rfl,rfl,(Xu.out.fr.trans (iz.same lJ) (fun i hi x=>Or.inl x)).restrict (fun k hk x=>by omega)⟩
    |ok z=>
     obtain⟨p2,l2⟩:=z;obtain⟨hlt,G6⟩:=hgo.2 p2 l2 hy;have G6:=a_ G6;rw[hy]at HP2;clear hy hgo;have qi:Hid (∀W1 W2 v,Fr (fun k=>k=R) WO W1->Fr (fun k=>k=R) W1 W2->RD R t wh 0 W2 l2->SL (fun b=>W1.heap.size<=b) W2 v p2->∃vi vn vc,v=.slice vi vn vc/\∃xs,(W2.alloc (.cells #[.slice vi vn vc] 85)).ownsRow 0 85 1 u3 ls.length xs/\∀v' W4,W4.ownsRow 0 85 1 v' (ls.length+1) (xs++[.slice vi vn vc])->(W2.alloc (.cells #[.slice vi vn vc] 85)).grownBy W4 u3.ownBlock->(v'.ownBlock=u3.ownBlock\/v'.ownBlock=some (W2.heap.size+1))->QI R t wh w X W4 v' (ls++[p2]) l2):=fun W1 W2 v f1 f2 rd sv=>by
      obtain⟨vi,vc,rfl⟩:=sl.shape sv;have q:=Xu.out;have hz:=q.fr.size;obtain⟨xs,x1,x2⟩:=(q.gq.fr f1 (fun k e _=>by omega)).G7 f2 hR (aw hz f1.size) sv (.cells #[.slice vi (gh.of p2).len vc] 85);refine⟨vi,_,vc,rfl,xs,x1,fun v' W4 ho hg hat=>?_⟩;obtain⟨g1,g2,g3⟩:=x2 v' W4 ho hg (by simpa using hat);exact⟨rd.fr g3 (by omega),g1,(q.fr.trans f1 (fun i hi x=>Or.inl x)).trans g2 (fun i hi x=>by omega),G6.out,by have:=q.sm;simp;omega,by simp,hR⟩
     go_wp2_with(first|(go_at_call 86;refine HT.out.mono ?_;rintro e w4 ⟨rfl,jf,iz⟩)|(go_at_call 85;refine(HP2.out _ jf).mono ?_;rintro e w5 ⟨v5,rfl,Yk,sf,lJ⟩;obtain⟨vi5,vn5,vc5,rfl,xs,hx1,hx2⟩:=qi.out _ _ _ iz lJ sf Yk;have KQ:=a_ hx2;clear hx2 Yk)|(at_builtin;refine bu _ rfl (.tmp 11) (.tmp 14) 74 rfl 0 85 i0 _ 1 24 underlying74 hi hz0 hz1 hz2 rfl (by decide) u3 ls.length xs rfl hx1 ⟨w5.heap.size,0,none⟩ 1 1 [.slice vi5 vn5 vc5] rfl rfl (kK _ _ _) ?c2 ?c3 ?c4 (aB _) ?_))
     case c2=>intro u hu;simp only[bM,bB,cm]at hu;subst hu;rfl
     case c3=>have:=Xu.out.sm;unfold maxLen;omega
     case c4=>have:=Xu.out.sm;omega
     intro v' w7 ho hg _ hat;have hQ7:=KQ.out v' w7 ho hg (by simpa using hat);go_wp2;exact⟨⟨_,_,hQ7⟩,by rw[hQ7.rd.vB,zX];omega⟩
   |false=>
    have hX:=hQ.stop (by simpa using hb);simp only[aA,aQ]at HT;have HT:Hid (Z4 86 #[ptr R,.string ⟨#[124]⟩] WO fun e w'=>e=.returned (.bool false)/\RD R t wh 0 w' lc/\Fr (fun k=>k=R) WO w'):=HT;have hle:=hQ.rd.le;clear hb hQ;by_cases hend:lc=[]/\ei t wh=false
    ·rw[if_pos hend]at hX;subst hX;have hlt:decide (t.length-lc.length<wh)=false:=by rw[hend.1];simpa [ei]using hend.2
     have Ej:decide (((t.length-lc.length:Nat):Int)<(wh:Int))=false:=by rw[hend.1];have:=hend.2;simp[ei]at this;simp;omega
     clear hend;have HCC:Hid (∀W,RD R t wh 0 W lc->W.cell? ⟨R,1,none⟩=some (.int .i64 wh)/\W.cell? ⟨R,2,none⟩=some (.int .i64 ((t.length-lc.length:Nat):Int))):=fun W hW=>⟨cell_of hW.blk rfl,cell_of hW.blk rfl⟩
     generalize t.length-lc.length=K at*
     go_wp2_with(first|(go_at_call 86;refine HT.out.mono ?_;rintro e w4 ⟨rfl,jf,iz⟩;obtain⟨c1,c2⟩:=HCC.out _ jf));go_quiet(fail);go_wp2;go_ret;have q:=Xu.out;have f5:Fr (fun k=>k=R) WO (w4.drewN nq):=iz.drewN nq;exact⟨_,rfl,((q.gq.fr f5 (fun k e _=>by omega)).done (by have:=q.sm;omega) q.ne),jf.fr (F:=fun _=>False) ((Fr.refl _ w4).drewN nq) (fun x=>x),(q.fr.trans f5 (fun i hi x=>Or.inl x)).restrict (fun k hk x=>by omega)⟩
    ·rw[if_neg hend]at hX;subst hX;have Yv:t.length-lc.length<wh:=by
      by_cases hlc:lc=[]
      ·have:ei t wh=true:=by cases hcc:ei t wh;exact absurd ⟨hlc,hcc⟩ hend;rfl
       simp[ei]at this;omega
      ·have:0<lc.length:=by cases lc;exact absurd rfl hlc;simp
       omega
     have hlt:decide (t.length-lc.length<wh)=true:=by simpa using Yv
     have Ej:decide (((t.length-lc.length:Nat):Int)<(wh:Int))=true:=by simp;omega
     clear hend Yv;have HCC:Hid (∀W,RD R t wh 0 W lc->W.cell? ⟨R,1,none⟩=some (.int .i64 wh)/\W.cell? ⟨R,2,none⟩=some (.int .i64 ((t.length-lc.length:Nat):Int))):=fun W hW=>⟨cell_of hW.blk rfl,cell_of hW.blk rfl⟩
     have RO:Hid (∀W,RD R t wh 0 W lc->Z4 87 #[ptr R] W (ou R t (bad (ei t wh) lc) W)):=fun W hW=>uf hW;generalize t.length-lc.length=K at*
     go_wp2_with(first|(go_at_call 86;refine HT.out.mono ?_;rintro e w4 ⟨rfl,jf,iz⟩;obtain⟨c1,c2⟩:=HCC.out _ jf));go_quiet(fail);have sf:RD R t wh 0 (w4.drewN nq) lc:=jf.fr (F:=fun _=>False) ((Fr.refl _ w4).drewN nq) (fun x=>x);go_wp2_with(first|(go_at_call 87;refine(RO.out _ sf).mono ?_;rintro e w6 ⟨rfl,vK⟩));exact⟨rfl,rfl,(Xu.out.fr.trans ((iz.drewN nq).same vK) (fun i hi x=>Or.inl x)).restrict (fun k hk x=>by omega)⟩
end
section
variable{w w' w1 w2 W0 W1 W2 W3 W4 WO wr W W5:World}{A A' F G:Nat->Prop}{R lo:Nat}{t l l':L}{wh n:Nat}{v v' vp:Value}
theorem Ha(w:World):(Instr.typeAssert .nilIface 20 122 true).run prog w=.ok (.tuple #[.agg #[.int .i64 0,.int .i64 0],.bool false]) w:=by kernel_rfl
theorem Hb(a b:Value)(w:World):(Instr.typeAssert (.iface 122 (.agg #[a,b])) 20 122 true).run prog w=.ok (.tuple #[.agg #[a,b],.bool true]) w:=by kernel_rfl
theorem Hc(a b c:Nat)(w:World):CallsD prog 46 #[ptr a,ptr b,ptr c] .returning w fun e u' w'=>e=.returned (.tuple #[])/\u'=.returning/\w'=w.alloc (.cells #[.int .i64 0,.int .i64 0] 122):=by
 refine callsD_of_wpS func46 rfl fun Yw cs hu=>?_;apply wpS_seq;apply wpS_region;simp[wpOpsS,go_sem,recoverD,hu,ntmps46,Exit.thenS,Ha,Array.replicate];apply wpS_seq;apply wpS_region;simp[wpOpsS,go_sem,Exit.thenS];refine wpS_cond (t:=false) (by simp[Act.eval]) ?_;simp only[aA,aQ];refine wpS_of_wp (wp_skip ?_);cases Yw;simp_all[bodyPostS,results,results46]
theorem KX(a b c:Nat)(no at_:Int)(w:World){x y z:Value}(ha:w.heap[a]?=some (.cells #[x] 74 (0,0)))(hb:w.heap[b]?=some (.cells #[y] 23 (0,0)))(hc:w.heap[c]?=some (.cells #[z] 3 (0,0)))(hab:a≠b)(Xv:a≠c)(Vm:b≠c):
  CallsD prog 46 #[ptr a,ptr b,ptr c] (.panicking [{v:=.iface 122 (.agg #[.int .i64 no,.int .i64 at_]),recovered:=false}]) w fun e u' w'=>e=.returned (.tuple #[])/\u'=.panicking [{v:=.iface 122 (.agg #[.int .i64 no,.int .i64 at_]),recovered:=true}]/\
   w'.heap[a]?=some (.cells #[.slice none 0 0] 74 (0,0))/\w'.heap[b]?=some (.cells #[.int .i64 no] 23 (0,0))/\w'.heap[c]?=some (.cells #[.int .i64 at_] 3 (0,0))/\Fr (fun k=>k=a\/k=b\/k=c) w w':=by
 refine callsD_of_wpS func46 rfl fun Yw cs hu=>?_;apply wpS_seq;apply wpS_region;simp[wpOpsS,go_sem,recoverD,hu,ntmps46,Exit.thenS,Hb,Array.replicate];apply wpS_seq;apply wpS_region;simp[wpOpsS,go_sem,Exit.thenS];refine wpS_cond (t:=true) (by simp[Act.eval]) ?_;simp only[if_true];have hla:=dQ ha;have hlb:=dQ hb;have hlc:=dQ hc;have he:(w.alloc (.cells #[.int .i64 no,.int .i64 at_] 122)).heap[w.heap.size]?=some (.cells #[.int .i64 no,.int .i64 at_] 122 (0,0)):=dR _ _;have f0:Fr (fun k=>k=a\/k=b\/k=c) w (w.alloc (.cells #[.int .i64 no,.int .i64 at_] 122)):=(Fr.refl _ w).alloc _;have ha0:=(ay w (.cells #[.int .i64 no,.int .i64 at_] 122) a hla).trans ha;have hb0:=(ay w (.cells #[.int .i64 no,.int .i64 at_] 122) b hlb).trans hb;have hc0:=(ay w (.cells #[.int .i64 no,.int .i64 at_] 122) c hlc).trans hc;generalize w.alloc (.cells #[.int .i64 no,.int .i64 at_] 122)=X at*
 refine wpS_of_wp ?_;have e0:X.drew.heap[w.heap.size]?=some (.cells #[.int .i64 no,.int .i64 at_] 122 (0,0)):=he;have hae:w.heap.size≠a:=by omega
 have U_:w.heap.size≠b:=by omega
 have hce:w.heap.size≠c:=by omega
 have xl:Fr (fun k=>k=a\/k=b\/k=c) w (((X.drew.setCell ⟨a,0,none⟩ (.slice none 0 0)).setCell ⟨b,0,none⟩ (.int .i64 no)).setCell ⟨c,0,none⟩ (.int .i64 at_)):=((Fr.set (Fr.set (Fr.drewN f0 1) ⟨a,0,none⟩ (.slice none 0 0) (fun _=>Or.inl rfl)) ⟨b,0,none⟩ (.int .i64 no) (fun _=>Or.inr (Or.inl rfl))).set ⟨c,0,none⟩ (.int .i64 at_) (fun _=>Or.inr (Or.inr rfl)))
 have a1:(X.drew.setCell ⟨a,0,none⟩ (.slice none 0 0)).heap[a]?=some (.cells #[.slice none 0 0] 74 (0,0)):=eh (i:=0) (w:=X.drew) ha0 _;have e1:=(ak X.drew ⟨a,0,none⟩ (.slice none 0 0) w.heap.size hae).trans e0;have b1:(X.drew.setCell ⟨a,0,none⟩ (.slice none 0 0)).heap[b]?=some (.cells #[y] 23 (0,0)):=(ak X.drew ⟨a,0,none⟩ (.slice none 0 0) b (fun e=>hab e.symm)).trans hb0;have c1:(X.drew.setCell ⟨a,0,none⟩ (.slice none 0 0)).heap[c]?=some (.cells #[z] 3 (0,0)):=(ak X.drew ⟨a,0,none⟩ (.slice none 0 0) c (fun e=>Xv e.symm)).trans hc0;generalize hX1:X.drew.setCell ⟨a,0,none⟩ (.slice none 0 0)=X1 at*
 have a2:=(ak X1 ⟨b,0,none⟩ (.int .i64 no) a hab).trans a1;have e2:=(ak X1 ⟨b,0,none⟩ (.int .i64 no) w.heap.size U_).trans e1;have b2:(X1.setCell ⟨b,0,none⟩ (.int .i64 no)).heap[b]?=some (.cells #[.int .i64 no] 23 (0,0)):=eh (i:=0) b1 _;have c2:=(ak X1 ⟨b,0,none⟩ (.int .i64 no) c (fun e=>Vm e.symm)).trans c1;generalize Yx:X1.setCell ⟨b,0,none⟩ (.int .i64 no)=X2 at*
 have a3:=(ak X2 ⟨c,0,none⟩ (.int .i64 at_) a Xv).trans a2;have e3:=(ak X2 ⟨c,0,none⟩ (.int .i64 at_) w.heap.size hce).trans e2;have b3:=(ak X2 ⟨c,0,none⟩ (.int .i64 at_) b Vm).trans b2;have c3:(X2.setCell ⟨c,0,none⟩ (.int .i64 at_)).heap[c]?=some (.cells #[.int .i64 at_] 3 (0,0)):=eh (i:=0) c2 _;have HS:Hid (∀W:World,W.heap[w.heap.size]?=some (.cells #[.int .i64 no,.int .i64 at_] 122 (0,0))->W.cell? ⟨w.heap.size,0,none⟩=some (.int .i64 no)/\W.cell? ⟨w.heap.size,1,none⟩=some (.int .i64 at_)):=fun W hW=>⟨cell_of hW rfl,cell_of hW rfl⟩
 have ka:=cell_of (i:=0) ha0 rfl;have fa:=dY (i:=0) ha0;have kb:=cell_of (i:=0) b1 rfl;have fb:=dY (i:=0) b1;have kc:=cell_of (i:=0) c2 rfl;have fc:=dY (i:=0) c2;refine wp_region_held_drew (S:=fun W=>W.cell? ⟨w.heap.size,0,none⟩=some (.int .i64 no)/\W.cell? ⟨w.heap.size,1,none⟩=some (.int .i64 at_)) (by kernel_rfl) (HS.out _ e0) (fun hHeld=>?_);refine wpAnyH_take (i:=0) (v:=?_) rfl (by kernel_rfl) (by kernel_rfl) (by kernel_rfl) (fun _ _ _ h=>h) (Or.inl ⟨by rfl,?_⟩) (by assumption) ?_
 rotate_left
 ·(intro w hSw;(try dsimp only at hSw);go_simp;(try with_reducible rfl))
 (try simp only[Act.put,ae,af,aj])
 refine wpAnyH_take (i:=1) (v:=?_) rfl (by kernel_rfl) (by kernel_rfl) (by kernel_rfl) (fun _ _ _ h=>h) (Or.inl ⟨by rfl,?_⟩) (by assumption) ?_
 rotate_left
 ·(intro w hSw;(try dsimp only at hSw);go_simp;(try with_reducible rfl))
 (try simp only[Act.put,ae,af,aj])
 refine wpAnyH_take (i:=2) (v:=?_) rfl (by kernel_rfl) (by kernel_rfl) (by kernel_rfl) (fun _ _ _ h=>h) (Or.inl ⟨by rfl,?_⟩) (by assumption) ?_
 rotate_left
 ·(intro w hSw;(try dsimp only at hSw);go_simp;(try with_reducible rfl))
 (try simp only[Act.put,ae,af,aj])
 refine wpAnyH_take (i:=3) (v:=?_) rfl (by kernel_rfl) (by kernel_rfl) (by kernel_rfl) (fun _ _ _ h=>h) (Or.inl ⟨by rfl,?_⟩) (by assumption) ?_
 rotate_left
 ·(intro w hSw;(try dsimp only at hSw);go_simp;(try with_reducible rfl))
 (try simp only[Act.put,ae,af,aj])
 refine wpAnyH_ready (rs:=[4]) (by kernel_rfl) (by simp) ?_;refine AllReadyH.cons rfl (fun K hK=>?_) AllReadyH.nil
 go_simp
 (try rw[hX1])
 refine hK.out _ _ (HS.out _ e1) (fun hHeld=>?_);clear hK K
 (try simp only[Act.put,ae,af,aj])
 refine wpAnyH_ready (rs:=[5]) (by kernel_rfl) (by simp) ?_;refine AllReadyH.cons rfl (fun K hK=>?_) AllReadyH.nil
 go_simp
 (try rw[Yx])
 refine hK.out _ _ (HS.out _ e2) (fun hHeld=>?_);clear hK K
 (try simp only[Act.put,ae,af,aj])
 refine wpAnyH_ready (rs:=[6]) (by kernel_rfl) (by simp) ?_;refine AllReadyH.cons rfl (fun K hK=>?_) AllReadyH.nil
 go_simp
 refine hK.out _ _ (HS.out _ e3) (fun hHeld=>?_);clear hK K;refine wpAnyH_done (by kernel_rfl) ?_ _;simp[bodyPostS,results,results46,a3,b3,c3,xl]
end
section
variable{w w' w1 w2 W0 W1 W2 W3 W4 WO wr W W5:World}{A A' F G:Nat->Prop}{R lo:Nat}{t l l':L}{wh n:Nat}{v v' vp:Value}
def PE(w:World)(x:Except (Nat×Nat) (List (List iE)))(e:Ending)(w':World):Prop:=Z5 w w'/\match x with
 | .ok ls=>∃v,e=.returned (.tuple #[v,.int .i64 0,.int .i64 0])/\QV (fun b=>w.heap.size<=b) w' v ls
 | .error y=>e=.returned (.tuple #[.slice none 0 0,.int .i64 y.1,.int .i64 y.2])
theorem Vn(q:L):Ch.bad (bs q)<=q.length:=by have:=Ch.GZ (bs q) ((bs q).size+1) 0 (aB _);rw[gY]at this;unfold Ch.bad;rw[gY];exact this
theorem KY{a:Nat}(h1:w.heap[a]?=some (.cells #[.slice none 0 0] 74 (0,0)))(h2:w.heap[a+1]?=some (.cells #[.int .i64 0] 23 (0,0)))(h3:w.heap[a+1+1]?=some (.cells #[.int .i64 0] 3 (0,0)))(v:Value):∃W,((w.setCell ⟨a,0,none⟩ v).setCell ⟨a+1,0,none⟩ (.int .i64 0)).setCell ⟨a+1+1,0,none⟩ (.int .i64 0)=W/\W.heap[a]?=some (.cells #[v] 74 (0,0))/\W.heap[a+1]?=some (.cells #[.int .i64 0] 23 (0,0))/\W.heap[a+1+1]?=some (.cells #[.int .i64 0] 3 (0,0))/\
  (w.setCell ⟨a,0,none⟩ v).heap[a+1]?=some (.cells #[.int .i64 0] 23 (0,0))/\((w.setCell ⟨a,0,none⟩ v).setCell ⟨a+1,0,none⟩ (.int .i64 0)).heap[a+1+1]?=some (.cells #[.int .i64 0] 3 (0,0))/\Fr (fun k=>k=a\/k=a+1\/k=a+1+1) w W:=by
 have b1:=(ak w ⟨a,0,none⟩ v (a+1) (show a+1≠a by omega)).trans h2;have c1:=(ak w ⟨a,0,none⟩ v (a+1+1) (show a+1+1≠a by omega)).trans h3;have c2:=(ak (w.setCell ⟨a,0,none⟩ v) ⟨a+1,0,none⟩ (.int .i64 0) (a+1+1) (show a+1+1≠a+1 by omega)).trans c1;refine⟨_,rfl,?_,?_,eh (i:=0) c2 _,b1,c2,((Fr.set (Fr.set (Fr.refl (fun k=>k=a\/k=a+1\/k=a+1+1) w) ⟨a,0,none⟩ v (fun _=>Or.inl rfl)) ⟨a+1,0,none⟩ (.int .i64 0) (fun _=>Or.inr (Or.inl rfl))).set ⟨a+1+1,0,none⟩ (.int .i64 0) (fun _=>Or.inr (Or.inr rfl)))⟩
 ·rw[ak _ _ _ _ (show a≠a+1+1 by omega),ak _ _ _ _ (show a≠a+1 by omega)];exact eh (i:=0) h1 v
 ·rw[ak _ _ _ _ (show a+1≠a+1+1 by omega)];exact eh (i:=0) b1 _
theorem qj(q:L)(w:World):Z4 25 #[.string (bs q)] w (PE w (parse q)):=by
 have hz:=gY q;have Yd:∀(fn:Fn) (first cap:Array Value) (w:World),(Instr.makeFunc fn first cap).run prog w=.ok (.func fn first cap) w:=fun _ _ _ _=>rfl;by_cases h5:500<q.length
 ·rw[parse,if_pos h5];have hd:decide ((500:Int)<(q.length:Int))=true:=by simp;omega
  have G2:decide (500<q.length)=true:=by simpa using h5
  generalize bs q=S at*
  generalize q.length=N at*
  go_enter_defers func25,ntmps25
  go_wp2;have hB:Z5 w (((w.alloc (.cells #[.slice none 0 0] 74)).alloc (.cells #[.int .i64 1] 23)).alloc (.cells #[.int .i64 0] 3)):=(((Below.refl _ w).alloc (au _) _).alloc (by simp) _).alloc (by simp;omega) _;simp[bodyPostD,Leaves,settle,results,results25,go_sem,PE,hB]
 ·rw[parse,if_neg h5];have hd:decide ((500:Int)<(q.length:Int))=false:=by simp;omega
  have G2:decide (500<q.length)=false:=by simpa using h5
  have hbl:=Vn q;have HBD:Hid (∀W,Z4 47 #[.string (bs q)] W (Z7 (.int .i64 (Ch.bad (bs q))) W)):=fun W=>p7 (bs q) W (by rw[hz];omega);have hsl:∀W,(Instr.slice 9 (.string (bs q)) none (some (.int .i64 (Ch.bad (bs q):Int))) none).run prog W=.ok (.string (bs (cutAt q))) W:=p_ q (Ch.bad (bs q)) hbl;have zS:(cutAt q).length<=q.length:=by unfold cutAt;rw[bI];omega
  have hcut:ei (cutAt q) q.length=JE q:=rfl;have HQ:Hid (∀W:World,Z4 48 #[ptr W.heap.size] (W.alloc (.cells #[.string (bs (cutAt q)),.int .i64 q.length,.int .i64 0,.int .i64 0] 125)) (Ends W.heap.size (cutAt q) q.length 0 (QV (fun b=>(W.alloc (.cells #[.string (bs (cutAt q)),.int .i64 q.length,.int .i64 0,.int .i64 0] 125)).heap.size<=b)) (W.alloc (.cells #[.string (bs (cutAt q)),.int .i64 q.length,.int .i64 0,.int .i64 0] 125)) (query (JE q) (cutAt q)))):=fun W=>by
   rw[<-hcut];refine Og ⟨?_,aO _,zS,by omega,by omega⟩;have:=dR W (.cells #[.string (bs (cutAt q)),.int .i64 q.length,.int .i64 0,.int .i64 0] 125);simpa using this
  generalize Ch.bad (bs q)=BD at*
  generalize bs q=S at*
  generalize q.length=N at*
  generalize JE q=ct at*
  generalize cutAt q=t at*
  have Yy:Hid (∀W1:World,Below (w.heap.size+3) (((w.alloc (.cells #[.slice none 0 0] 74)).alloc (.cells #[.int .i64 0] 23)).alloc (.cells #[.int .i64 0] 3)) W1->W1.heap[w.heap.size]?=some (.cells #[.slice none 0 0] 74 (0,0))/\W1.heap[w.heap.size+1]?=some (.cells #[.int .i64 0] 23 (0,0))/\W1.heap[w.heap.size+1+1]?=some (.cells #[.int .i64 0] 3 (0,0))/\w.heap.size+3<=W1.heap.size/\Z5 w W1):=fun W1 hb=>by
   have h1:=dR (w.alloc (.cells #[.slice none 0 0] 74)) (.cells #[.int .i64 0] 23);have h2:=dR ((w.alloc (.cells #[.slice none 0 0] 74)).alloc (.cells #[.int .i64 0] 23)) (.cells #[.int .i64 0] 3);refine⟨?_,?_,?_,by have:=hb.size;simpa using this,((((Below.refl _ w).alloc (au _) _).alloc (by simp) _).alloc (by simp;omega) _).trans (eG hb (by omega))⟩
   ·rw[hb.block _ (by omega),ay _ _ _ (by simp;omega),ay _ _ _ (by simp)];exact dR _ _
   ·rw[hb.block _ (by omega),ay _ _ _ (by simp)];simpa using h1
   ·rw[hb.block _ (by omega)];simpa using h2
  have HB3:Hid (∀W2 W3:World,Below (((w.alloc (.cells #[.slice none 0 0] 74)).alloc (.cells #[.int .i64 0] 23)).alloc (.cells #[.int .i64 0] 3)).heap.size (((w.alloc (.cells #[.slice none 0 0] 74)).alloc (.cells #[.int .i64 0] 23)).alloc (.cells #[.int .i64 0] 3)) W2->Fr (fun k=>k=W2.heap.size) (W2.alloc (.cells #[.string (bs t),.int .i64 N,.int .i64 0,.int .i64 0] 125)) W3->(W3.heap[w.heap.size]?=some (.cells #[.slice none 0 0] 74 (0,0))/\W3.heap[w.heap.size+1]?=some (.cells #[.int .i64 0] 23 (0,0))/\W3.heap[w.heap.size+1+1]?=some (.cells #[.int .i64 0] 3 (0,0)))/\w.heap.size+3<=W2.heap.size/\Z5 w W3):=fun W2 W3 hb f=>by
   obtain⟨h1,h2,h3,h4,h5⟩:=Yy.out W2 (by simpa using hb);have f2:Fr (fun k=>k=W2.heap.size) W2 W3:=((Fr.refl _ W2).alloc _).same f;exact⟨⟨(f2.block _ (by omega) (by omega)).trans h1,(f2.block _ (by omega) (by omega)).trans h2,(f2.block _ (by omega) (by omega)).trans h3⟩,h4,h5.trans (f2.up (K:=w.heap.size) (fun k e=>by omega) (by omega))⟩
  cases hx:query ct t with
  |error y=>
   rw[hx]at HQ;simp only;clear hx h5 hbl zS hcut
   go_enter_defers func25,ntmps25
   go_wp2_with(first|(go_at_call 47;refine(HBD.out _).mono ?_;rintro e w2 ⟨rfl,hb2⟩)|(go_at_call 48;refine(HQ.out _).mono ?_;rintro e w3 ⟨rfl,jy⟩));obtain⟨⟨h1,h2,h3⟩,hz2,hB⟩:=HB3.out _ _ hb2 jy;refine leaves_cons (f:=46) (args:=#[ptr w.heap.size,ptr (w.heap.size+1),ptr (w.heap.size+1+1)]) (by simp) (by simp[go_sem]) ?_;refine(KX w.heap.size (w.heap.size+1) (w.heap.size+1+1) _ _ _ h1 h2 h3 (by omega) (by omega) (by omega)).mono ?_;rintro e u' w4 ⟨rfl,rfl,k1,k2,k3,f4⟩;have hB4:Z5 w w4:=hB.trans (f4.up (K:=w.heap.size) (fun k e=>by omega) hB.size);have c1:=cell_of (i:=0) k1 rfl;have c2:=cell_of (i:=0) k2 rfl;have c3:=cell_of (i:=0) k3 rfl;simp[Leaves,settle,results,results25,go_sem,c1,c2,c3,PE,hB4]
  |ok z=>
   obtain⟨ls,l1⟩:=z;rw[hx]at HQ;simp only;clear hx h5 hbl zS hcut
   go_enter_defers func25,ntmps25
   go_wp2_with(first|(go_at_call 47;refine(HBD.out _).mono ?_;rintro e w2 ⟨rfl,hb2⟩)|(go_at_call 48;refine(HQ.out _).mono ?_;rintro e w3 ⟨v3,rfl,qv3,tu,jy⟩;obtain⟨⟨h1,h2,h3⟩,hz2,hB⟩:=HB3.out _ _ hb2 jy;obtain⟨vi,vc,rfl⟩:=sl.shape qv3;have QVH:=a_ qv3;clear qv3;obtain⟨W4,Uz,Oh,UA,h3',h2b,h3b,f4⟩:=KY h1 h2 h3 (.slice vi ls.length vc);have x1:=cell_of (i:=0) h1 rfl;have y1:=dY (i:=0) h1;have x2:=cell_of (i:=0) h2b rfl;have y2:=dY (i:=0) h2b;have x3:=cell_of (i:=0) h3b rfl;have y3:=dY (i:=0) h3b));refine leaves_cons (f:=46) (args:=#[ptr w.heap.size,ptr (w.heap.size+1),ptr (w.heap.size+1+1)]) (by simp) (by simp[go_sem]) ?_;refine(Hc w.heap.size (w.heap.size+1) (w.heap.size+1+1) _).mono ?_;rintro e u' w5 ⟨rfl,rfl,rfl⟩;have c1:=dV (.cells #[.int .i64 0,.int .i64 0] 122) (cell_of (i:=0) Oh rfl);have c2:=dV (.cells #[.int .i64 0,.int .i64 0] 122) (cell_of (i:=0) UA rfl);have c3:=dV (.cells #[.int .i64 0,.int .i64 0] 122) (cell_of (i:=0) h3' rfl);have f5:=f4.alloc (.cells #[.int .i64 0,.int .i64 0] 122);have hB5:Z5 w (W4.alloc (.cells #[.int .i64 0,.int .i64 0] 122)):=hB.trans (f5.up (K:=w.heap.size) (fun k e=>by omega) hB.size);have qv5:QV (fun b=>w.heap.size<=b) (W4.alloc (.cells #[.int .i64 0,.int .i64 0] 122)) (.slice vi ls.length vc) ls:=QS.move (fun b hb hl=>(fun(hb':w2.heap.size+1<=b)=>⟨by omega,f5.block b hl (by omega)⟩) (by simpa using hb)) QVH.out;simp[Leaves,settle,results,results25,go_sem,c1,c2,c3,PE,hB5,qv5]
end
end Go.Proofs.YtclgfepngpeifaaGreatDoor
