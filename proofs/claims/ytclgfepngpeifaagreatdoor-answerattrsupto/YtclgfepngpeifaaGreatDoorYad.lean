import Derived.Test.YtclgfepngpeifaaGreatDoorYA
import Derived.Test.YtclgfepngpeifaaGreatDoorYac
set_option linter.unusedVariables false
set_option linter.unusedSimpArgs false
set_option maxHeartbeats 32000000
set_option maxRecDepth 100000
namespace Go.Proofs.YtclgfepngpeifaaGreatDoor
open Go.RowKit Go.Maps Go.Lib Tryz
section
variable{w w' w1 w2 W0 W1 W2 W3 W4 WO wr W W5:World}{A F G:Nat->Prop}{R lo Bp:Nat}{t l l':L}{wh n:Nat}{e8:Option (L->Rs gB)}{v v' vp vk vs:Value}{X:Rs gB}{p:gB}
theorem CB(hR:R<w.heap.size)(pv:PV (fun b=>w.heap.size+1<=b) 144 146 W v p)(rd:RD R t wh n W l)(fr:Fr (fun k=>k=R\/w.heap.size<=k) w W)(f5:Fr (fun k=>k=w.heap.size) W W5):PV (fun b=>w.heap.size<=b) 144 146 W5 v p/\RD R t wh n W5 l/\Fr (fun k=>k=R) w W5:=
 ⟨pv.move fun b hb hl=>⟨by omega,f5.block b hl (by omega)⟩,rd.fr f5 (by omega),(fr.trans f5 (fun i hi x=>by omega)).restrict (fun k hk x=>by omega)⟩
structure s6(R:Nat)(t:L)(wh n:Nat)(w W:World)(l:L):Prop where
 rd:RD R t wh n W l
 bq:W.heap[w.heap.size]?=some (.cells eY 146 (0,0))
 fr:Fr (fun k=>k=R\/w.heap.size<=k) w W
 sz:w.heap.size+1<=W.heap.size
 lt:R<w.heap.size
theorem s6.start(h:RD R t wh n w l):s6 R t wh n w (w.alloc (.cells eY 146)) l:=
 ⟨h.fr ((Fr.refl (fun _=>False) w).alloc _) (fun x=>x),dT _ _,((Fr.refl (fun _=>False) w).alloc _).mono (fun _ x=>x.elim),by simp,h.lt⟩
theorem s6.on(h:s6 R t wh n w W l)(f:Fr (fun k=>k=R) W W1)(rd:RD R t wh n W1 l'):s6 R t wh n w W1 l':=by
 have:=h.lt;exact⟨rd,(f.block _ (dS h.bq) (by omega)).trans h.bq,h.fr.trans f (fun _ _ x=>Or.inl x),aw h.sz f.size,h.lt⟩
theorem s6.K8(h:s6 R t wh n w W l)(f:Fr (fun k=>k=R) W W1):Fr (fun k=>k=R) w W1:=by
 have:=h.lt;exact(h.fr.trans f (fun _ _ x=>Or.inl x)).restrict (fun k hk x=>by omega)
theorem s6.fin(h:s6 R t wh n w W l)(f:Fr (fun k=>k=R) W W1)(rd:RD R t wh n W1 l')(pv:PV (fun b=>W.heap.size<=b) 144 146 W1 v p):∃ki nk kc si ns sc,v=.agg #[.string (bs p.op),.slice ki nk kc,.slice si ns sc,.string (bs p.attr),.string (bs p.text)]/\W1.heap[w.heap.size]?=some (.cells eY 146 (0,0))/\∀W5,Fr (fun k=>k=w.heap.size) W1 W5->PV (fun b=>w.heap.size<=b) 144 146 W5 (.agg #[.string (bs p.op),.slice ki nk kc,.slice si ns sc,.string (bs p.attr),.string (bs p.text)]) p/\RD R t wh n W5 l'/\Fr (fun k=>k=R) w W5:=by
 have h1:=h.on f rd;have pv1:PV (fun b=>w.heap.size+1<=b) 144 146 W1 v p:=pv.move fun b hb _=>⟨aw h.sz hb,rfl⟩
 obtain⟨ki,nk,kc,si,ns,sc,rfl,a1,a2⟩:=pv1.shape;exact⟨ki,nk,kc,si,ns,sc,rfl,h1.bq,fun W5 f5=>CB h.lt pv1 rd h1.fr f5⟩
theorem VG(hi:qc R t wh n e8)(h:RD R t wh n w l):Z4 224 #[ptr R] w (Ends R t wh n (PV (fun b=>w.heap.size<=b) 144 146) w (dot (eo t wh) e8 l)):=by
 have B0:=a_ (s6.start h);generalize hW0:w.alloc (.cells eY 146)=W0 at*
 unfold dot;cases hx:want (eo t wh) [46] l with
 |error y=>
  have HW:=a_ (qW hx B0.out.rd);simp only[oq];clear hx h;go_enter func224,ntmps224;go_wp2_with(first|(go_at_call 179;(try rw[hW0]);refine HW.out.mono ?_;rintro e w2 ⟨rfl,fr⟩));exact⟨rfl,rfl,B0.out.K8 fr⟩
 |ok l1=>
  have HW:=a_ (qV hx B0.out.rd);simp only[oq];clear hx h;obtain⟨b,hb⟩:∃b,decide (part l1=[47,47])=b:=⟨_,rfl⟩
  have HT:Hid (∀W,RD R t wh n W l1->Z4 86 #[ptr R,.string ⟨#[47,47]⟩] W fun e w'=>e=.returned (.bool b)/\RD R t wh n w' (if b=true then pass 2 l1 else l1)/\Fr (fun k=>k=R) W w'):=fun W hW=>oT [47,47] hW b hb;cases b with
  |false=>
   rw[if_neg (by simpa using hb)];simp only[aA,aQ]at HT;clear hb;have HF:Hid (∀W1 W2,Fr (fun k=>k=R) W0 W1->Fr (fun k=>k=R) W1 W2->RD R t wh n W2 l1->W2.heap[w.heap.size]?=some (.cells eY 146 (0,0))/\∀W5,Fr (fun k=>k=w.heap.size) W2 W5->PV (fun b=>w.heap.size<=b) 144 146 W5 (.agg #[.string ⟨#[]⟩,.slice none 0 0,.slice none 0 0,.string ⟨#[]⟩,.string ⟨#[]⟩]) ⟨[],.nil,.nil,[],[]⟩/\RD R t wh n W5 l1/\Fr (fun k=>k=R) w W5):=fun W1 W2 f1 f2 rd=>by
    have h1:=B0.out.on (f1.same f2) rd;exact⟨h1.bq,fun W5 f5=>CB h1.lt ⟨_,_,rfl,Or.inl ⟨rfl,rfl⟩,Or.inl ⟨rfl,rfl⟩⟩ rd h1.fr f5⟩
   go_enter func224,ntmps224;go_wp2_with(first|(go_at_call 179;(try rw[hW0]);refine HW.out.mono ?_;rintro e w2 ⟨rfl,rd,fr⟩)|(go_at_call 86;refine(HT.out _ rd).mono ?_;rintro e w3 ⟨rfl,sY,jC⟩;obtain⟨py,hf⟩:=HF.out _ _ fr jC sY;have ue:=a_ hf;clear hf;obtain⟨⟨y0,y1,y2,y3,y4⟩,z0,z1,z2,z3,z4⟩:=eU py));obtain⟨W5,ld,r5,kE⟩:=pN (.string ⟨#[]⟩) (.slice none 0 0) (.slice none 0 0) (.string ⟨#[]⟩) (.string ⟨#[]⟩) py;rw[ld];clear ld y0 y1 y2 y3 y4 z0 z1 z2 z3 z4;obtain⟨⟨k0,k1,k2,k3,k4⟩,-⟩:=eU r5;obtain⟨q1,q2,q3⟩:=ue.out _ kE;refine aJ (v:=.agg #[.string ⟨#[]⟩,.slice none 0 0,.slice none 0 0,.string ⟨#[]⟩,.string ⟨#[]⟩]) (by simp[results,results224,go_sem,k0,k1,k2,k3,k4]) rfl ⟨_,rfl,q1,q2,q3⟩
  |true=>
   rw[if_pos (by simpa using hb)];simp only[if_true]at HT;clear hb;have HV:Hid (∀W,RD R t wh n W (pass 2 l1)->Z4 226 #[ptr R,.bool true] W (Ends R t wh n (PV (fun b=>W.heap.size<=b) 144 146) W (oP (eo t wh) e8 true (pass 2 l1)))):=fun W hW=>AP true hi hW;cases hy:oP (eo t wh) e8 true (pass 2 l1)with
   |error y=>
    rw[hy]at HV;clear hy;go_enter func224,ntmps224;go_wp2_with(first|(go_at_call 179;(try rw[hW0]);refine HW.out.mono ?_;rintro e w2 ⟨rfl,rd,fr⟩)|(go_at_call 86;refine(HT.out _ rd).mono ?_;rintro e w3 ⟨rfl,sY,jC⟩)|(go_at_call 226;refine(HV.out _ sY).mono ?_;rintro e w4 ⟨rfl,iD⟩));exact⟨rfl,rfl,B0.out.K8 ((fr.same jC).same iD)⟩
   |ok z=>
    obtain⟨p,l2⟩:=z;rw[hy]at HV;clear hy;have HF:Hid (∀W1 W2 W3 v,Fr (fun k=>k=R) W0 W1->Fr (fun k=>k=R) W1 W2->RD R t wh n W2 (pass 2 l1)->Fr (fun k=>k=R) W2 W3->RD R t wh n W3 l2->PV (fun b=>W2.heap.size<=b) 144 146 W3 v p->_):=fun W1 W2 W3 v f1 f2 rd f3 sY pv=>(B0.out.on (f1.same f2) rd).fin f3 sY pv;go_enter func224,ntmps224;go_wp2_with(first|(go_at_call 179;(try rw[hW0]);refine HW.out.mono ?_;rintro e w2 ⟨rfl,rd,fr⟩)|(go_at_call 86;refine(HT.out _ rd).mono ?_;rintro e w3 ⟨rfl,sY,jC⟩)|(go_at_call 226;refine(HV.out _ sY).mono ?_;rintro e w4 ⟨v4,rfl,AQ,ji,iD⟩;obtain⟨ki,nk,kc,si,ns,sc,rfl,py,hf⟩:=HF.out _ _ _ _ fr jC sY iD ji AQ;have ue:=a_ hf;clear hf AQ;obtain⟨⟨y0,y1,y2,y3,y4⟩,z0,z1,z2,z3,z4⟩:=eU py));obtain⟨W5,ld,r5,kE⟩:=pN (.string (bs p.op)) (.slice ki nk kc) (.slice si ns sc) (.string (bs p.attr)) (.string (bs p.text)) py;rw[ld];clear ld y0 y1 y2 y3 y4 z0 z1 z2 z3 z4;obtain⟨⟨k0,k1,k2,k3,k4⟩,-⟩:=eU r5;obtain⟨q1,q2,q3⟩:=ue.out _ kE;refine aJ (v:=.agg #[.string (bs p.op),.slice ki nk kc,.slice si ns sc,.string (bs p.attr),.string (bs p.text)]) (by simp[results,results224,go_sem,k0,k1,k2,k3,k4]) rfl ⟨_,rfl,q1,q2,q3⟩
end
section
variable{w w' w1 w2 W0 W1 W2 W3 W4 WO wr W W5:World}{A F G:Nat->Prop}{R lo Bp:Nat}{t l l':L}{wh n:Nat}{e8:Option (L->Rs gB)}{v v' vp vk vs:Value}{X:Rs gB}{p:gB}
theorem Oq(hi:qc R t wh n e8)(h:RD R t wh n w l):Z4 220 #[ptr R] w (Ends R t wh n (PV (fun b=>w.heap.size<=b) 144 146) w (value (eo t wh) e8 l)):=by
 have B0:=a_ (s6.start h);generalize hW0:w.alloc (.cells eY 146)=W0 at*
 have HP:=a_ (jD B0.out.rd);have XX:Hid (∀W,Z5 W0 W->s6 R t wh n w W l):=fun W hW=>B0.out.on (Fr.below hW) (B0.out.rd.below hW);unfold value;by_cases h1:part l=[46]
 ·rw[if_pos h1];have e1:((bs (part l)).toList==[46])=true:=by rw[fE,h1];rfl
  generalize bs (part l)=S at*
  have HD:Hid (∀W,RD R t wh n W l->Z4 224 #[ptr R] W (Ends R t wh n (PV (fun b=>W.heap.size<=b) 144 146) W (dot (eo t wh) e8 l))):=fun W hW=>VG hi hW;clear h h1;cases hy:dot (eo t wh) e8 l with
  |error y=>
   rw[hy]at HD;clear hy;go_enter func220,ntmps220;go_wp2_with(first|(go_at_call 135;(try rw[hW0]);refine HP.out.mono ?_;rintro e w2 ⟨rfl,hb⟩;have B1:=XX.out _ hb)|(go_at_call 224;refine(HD.out _ B1.rd).mono ?_;rintro e w4 ⟨rfl,iD⟩));exact⟨rfl,rfl,B1.K8 iD⟩
  |ok z=>
   obtain⟨p,l2⟩:=z;rw[hy]at HD;clear hy;go_enter func220,ntmps220;go_wp2_with(first|(go_at_call 135;(try rw[hW0]);refine HP.out.mono ?_;rintro e w2 ⟨rfl,hb⟩;have B1:=XX.out _ hb)|(go_at_call 224;refine(HD.out _ B1.rd).mono ?_;rintro e w4 ⟨v4,rfl,AQ,ji,iD⟩;obtain⟨ki,nk,kc,si,ns,sc,rfl,py,hf⟩:=B1.fin iD ji AQ;clear AQ;have ue:=a_ hf;clear hf;obtain⟨⟨y0,y1,y2,y3,y4⟩,z0,z1,z2,z3,z4⟩:=eU py));obtain⟨W5,ld,r5,kE⟩:=pN (.string (bs p.op)) (.slice ki nk kc) (.slice si ns sc) (.string (bs p.attr)) (.string (bs p.text)) py;rw[ld];clear ld y0 y1 y2 y3 y4 z0 z1 z2 z3 z4;obtain⟨⟨k0,k1,k2,k3,k4⟩,-⟩:=eU r5;obtain⟨q1,q2,q3⟩:=ue.out _ kE;refine aJ (v:=.agg #[.string (bs p.op),.slice ki nk kc,.slice si ns sc,.string (bs p.attr),.string (bs p.text)]) (by simp[results,results220,go_sem,k0,k1,k2,k3,k4]) rfl ⟨_,rfl,q1,q2,q3⟩
 ·rw[if_neg h1];have e1:((bs (part l)).toList==[46])=false:=by rw[fE];simpa using h1
  by_cases h2:part l=[64]
  ·rw[if_pos h2];have e2:((bs (part l)).toList==[64])=true:=by rw[fE,h2];rfl
   generalize bs (part l)=S at*
   have HD:Hid (∀W,RD R t wh n W l->Z4 225 #[ptr R] W (Ends R t wh n VS W (attr (eo t wh) l))):=fun W hW=>JS hW;clear h h1 h2;cases hy:attr (eo t wh) l with
   |error y=>
    rw[hy]at HD;clear hy;simp only[oV];go_enter func220,ntmps220;go_wp2_with(first|(go_at_call 135;(try rw[hW0]);refine HP.out.mono ?_;rintro e w2 ⟨rfl,hb⟩;have B1:=XX.out _ hb)|(go_at_call 225;refine(HD.out _ B1.rd).mono ?_;rintro e w4 ⟨rfl,iD⟩));exact⟨rfl,rfl,B1.K8 iD⟩
   |ok z=>
    obtain⟨a,l2⟩:=z;rw[hy]at HD;clear hy;simp only[iL];have HF:Hid (∀W1 W2,s6 R t wh n w W1 l->Fr (fun k=>k=R) W1 W2->RD R t wh n W2 l2->W2.heap[w.heap.size]?=some (.cells eY 146 (0,0))/\∀W5,Fr (fun k=>k=w.heap.size) W2 W5->PV (fun b=>w.heap.size<=b) 144 146 W5 (.agg #[.string ⟨#[]⟩,.slice none 0 0,.slice none 0 0,.string (bs a),.string ⟨#[]⟩]) ⟨[],.nil,.nil,a,[]⟩/\RD R t wh n W5 l2/\Fr (fun k=>k=R) w W5):=fun W1 W2 b1 f2 rd=>by
     have h1:=b1.on f2 rd;exact⟨h1.bq,fun W5 f5=>CB h1.lt ⟨_,_,rfl,Or.inl ⟨rfl,rfl⟩,Or.inl ⟨rfl,rfl⟩⟩ rd h1.fr f5⟩
    go_enter func220,ntmps220;go_wp2_with(first|(go_at_call 135;(try rw[hW0]);refine HP.out.mono ?_;rintro e w2 ⟨rfl,hb⟩;have B1:=XX.out _ hb)|(go_at_call 225;refine(HD.out _ B1.rd).mono ?_;rintro e w4 ⟨v4,rfl,rfl,ji,iD⟩;obtain⟨py,hf⟩:=HF.out _ _ B1 iD ji;have ue:=a_ hf;clear hf;obtain⟨⟨y0,y1,y2,y3,y4⟩,z0,z1,z2,z3,z4⟩:=eU py));obtain⟨W5,ld,r5,kE⟩:=pN (.string ⟨#[]⟩) (.slice none 0 0) (.slice none 0 0) (.string (bs a)) (.string ⟨#[]⟩) py;rw[ld];clear ld y0 y1 y2 y3 y4 z0 z1 z2 z3 z4;obtain⟨⟨k0,k1,k2,k3,k4⟩,-⟩:=eU r5;obtain⟨q1,q2,q3⟩:=ue.out _ kE;refine aJ (v:=.agg #[.string ⟨#[]⟩,.slice none 0 0,.slice none 0 0,.string (bs a),.string ⟨#[]⟩]) (by simp[results,results220,go_sem,k0,k1,k2,k3,k4]) rfl ⟨_,rfl,q1,q2,q3⟩
  ·rw[if_neg h2];have e2:((bs (part l)).toList==[64])=false:=by rw[fE];simpa using h2
   generalize bs (part l)=S at*
   have HD:Hid (∀W,RD R t wh n W l->Z4 226 #[ptr R,.bool false] W (Ends R t wh n (PV (fun b=>W.heap.size<=b) 144 146) W (oP (eo t wh) e8 false l))):=fun W hW=>AP false hi hW;clear h h1 h2;cases hy:oP (eo t wh) e8 false l with
   |error y=>
    rw[hy]at HD;clear hy;go_enter func220,ntmps220;go_wp2_with(first|(go_at_call 135;(try rw[hW0]);refine HP.out.mono ?_;rintro e w2 ⟨rfl,hb⟩;have B1:=XX.out _ hb)|(go_at_call 226;refine(HD.out _ B1.rd).mono ?_;rintro e w4 ⟨rfl,iD⟩));exact⟨rfl,rfl,B1.K8 iD⟩
   |ok z=>
    obtain⟨p,l2⟩:=z;rw[hy]at HD;clear hy;go_enter func220,ntmps220;go_wp2_with(first|(go_at_call 135;(try rw[hW0]);refine HP.out.mono ?_;rintro e w2 ⟨rfl,hb⟩;have B1:=XX.out _ hb)|(go_at_call 226;refine(HD.out _ B1.rd).mono ?_;rintro e w4 ⟨v4,rfl,AQ,ji,iD⟩;obtain⟨ki,nk,kc,si,ns,sc,rfl,py,hf⟩:=B1.fin iD ji AQ;clear AQ;have ue:=a_ hf;clear hf;obtain⟨⟨y0,y1,y2,y3,y4⟩,z0,z1,z2,z3,z4⟩:=eU py));obtain⟨W5,ld,r5,kE⟩:=pN (.string (bs p.op)) (.slice ki nk kc) (.slice si ns sc) (.string (bs p.attr)) (.string (bs p.text)) py;rw[ld];clear ld y0 y1 y2 y3 y4 z0 z1 z2 z3 z4;obtain⟨⟨k0,k1,k2,k3,k4⟩,-⟩:=eU r5;obtain⟨q1,q2,q3⟩:=ue.out _ kE;refine aJ (v:=.agg #[.string (bs p.op),.slice ki nk kc,.slice si ns sc,.string (bs p.attr),.string (bs p.text)]) (by simp[results,results220,go_sem,k0,k1,k2,k3,k4]) rfl ⟨_,rfl,q1,q2,q3⟩
structure CI(R:Nat)(t:L)(wh n:Nat)(w wr:World)(p:gB)(vk vs:Value)(l:L)(i:Nat):Prop where
 rd:RD R t wh n wr l
 bv:wr.heap[w.heap.size]?=some (.cells #[.string ⟨#[104,97,115]⟩,vk,vs,.string (bs p.attr),.string (bs p.text)] 146 (0,0))
 bq:wr.heap[w.heap.size+1]?=some (.cells eY 146 (0,0))
 bo:wr.heap[w.heap.size+2]?=some (.cells #[.string ⟨#[61]⟩,.string ⟨#[33,61]⟩] 9 (0,0))
 fr:Fr (fun k=>k=R\/w.heap.size<=k) w wr
 n1:1<=i->part l≠[61]
 n2:2<=i->part l≠[33,61]
 lt:R<w.heap.size
theorem CI.on{i j:Nat}(h:CI R t wh n w wr p vk vs l i)(f:Fr (fun k=>k=R) wr W)(rd:RD R t wh n W l)(n1:1<=j->part l≠[61])(n2:2<=j->part l≠[33,61]):CI R t wh n w W p vk vs l j:=by
 have:=h.lt;exact⟨rd,(f.block _ (dS h.bv) (by omega)).trans h.bv,(f.block _ (dS h.bq) (by omega)).trans h.bq,(f.block _ (dS h.bo) (by omega)).trans h.bo,h.fr.trans f (fun _ _ x=>Or.inl x),n1,n2,h.lt⟩
theorem G_{p':gB}{l1:L}(hR:R<w.heap.size)(hA:¬A R)(hv:pP w A 144 146 vk p'.kids/\p9 w A 144 146 vs p'.steps)(rd:RD R t wh n W l1)(fr:Fr (fun k=>k=R\/w.heap.size<=k) w W)(f5:Fr (fun k=>w.heap.size<=k) W W5):PV A 144 146 W5 (.agg #[.string (bs p'.op),vk,vs,.string (bs p'.attr),.string (bs p'.text)]) p'/\RD R t wh n W5 l1/\Fr (fun k=>k=R) w W5:=by
 have f:Fr (fun k=>k=R) w W5:=(fr.trans f5 (fun i hi x=>Or.inr x)).restrict (fun k hk x=>by omega);have hm:Move A A w W5:=fun b hb hl=>⟨hb,f.block b hl (fun e=>hA (e▸hb))⟩
 exact⟨⟨_,_,rfl,hv.1.move hm,hv.2.move hm⟩,rd.fr f5 (by omega),f⟩
theorem Et{ki si:Option Addr}{nk kc ns sc:Nat}(hA:¬A R)(h:RD R t wh n w l)(hv:pP w A 144 146 (.slice ki nk kc) p.kids/\p9 w A 144 146 (.slice si ns sc) p.steps):
  Z4 219 #[ptr R,.agg #[.string (bs p.op),.slice ki nk kc,.slice si ns sc,.string (bs p.attr),.string (bs p.text)]] w (Ends R t wh n (PV A 144 146) w (compared (eo t wh) p l)):=by
 have hR:=h.lt;have HC0:Hid (CI R t wh n w (((w.alloc (.cells #[.string ⟨#[104,97,115]⟩,.slice ki nk kc,.slice si ns sc,.string (bs p.attr),.string (bs p.text)] 146)).alloc (.cells eY 146)).alloc (.cells #[.string ⟨#[61]⟩,.string ⟨#[33,61]⟩] 9)) p (.slice ki nk kc) (.slice si ns sc) l 0):=by
  have f:Fr (fun _=>False) w (((w.alloc (.cells #[.string ⟨#[104,97,115]⟩,.slice ki nk kc,.slice si ns sc,.string (bs p.attr),.string (bs p.text)] 146)).alloc (.cells eY 146)).alloc (.cells #[.string ⟨#[61]⟩,.string ⟨#[33,61]⟩] 9)):=(((Fr.refl _ w).alloc _).alloc _).alloc _;refine⟨h.fr f (fun x=>x),?_,?_,?_,f.mono (fun _ x=>x.elim),fun e=>by omega,fun e=>by omega,hR⟩
  ·rw[ay _ _ _ (by simp;omega),ay _ _ _ (by simp)];exact dT _ _
  ·rw[ay _ _ _ (by simp)];have:=dT (w.alloc (.cells #[.string ⟨#[104,97,115]⟩,.slice ki nk kc,.slice si ns sc,.string (bs p.attr),.string (bs p.text)] 146)) (.cells eY 146);simpa using this
  ·have:=dT ((w.alloc (.cells #[.string ⟨#[104,97,115]⟩,.slice ki nk kc,.slice si ns sc,.string (bs p.attr),.string (bs p.text)] 146)).alloc (.cells eY 146)) (.cells #[.string ⟨#[61]⟩,.string ⟨#[33,61]⟩] 9);simpa using this
 have HV:=a_ hv;have Ha:=a_ hA;obtain⟨Y,hY⟩:∃Y,compared (eo t wh) p l=Y:=⟨_,rfl⟩
 rw[hY];have HY:=a_ hY;clear hY hv h hA;go_enter func219,ntmps219;go_wp2_with fail;generalize (World.alloc (World.alloc (World.alloc w _) _) _)=WS at*
 go_loopw [6,10,11,12,13,14,15,16,17,18,19,20,21,22] (fun _ u10 _ _ _ _ _ _ _ _ _ _ _ _ wr=>∃i:Nat,u10=.int .i64 i/\i<=2/\CI R t wh n w wr p (.slice ki nk kc) (.slice si ns sc) l i) (fun _ u10 _ _ _ _ _ _ _ _ _ _ _ _ _=>2-(RowKit.intOf u10).toNat)
 case atStart=>exact⟨0,rfl,by omega,HC0.out⟩
 case round=>
  rename World=>WO
  obtain⟨i,rfl,GK,hC⟩:=hrel;have D3:=a_ hC;have o0:WO.cell? ⟨w.heap.size+1+1,0,none⟩=some (.string ⟨#[61]⟩):=cell_of hC.bo rfl;have o1:WO.cell? ⟨w.heap.size+1+1,1,none⟩=some (.string ⟨#[33,61]⟩):=cell_of hC.bo rfl
  match i,GK,hC,D3 with
  |0,_,hC,D3=>
   obtain⟨b,hb⟩:∃b,decide (part l=[61])=b:=⟨_,rfl⟩
   have HT:=a_ (oT [61] hC.rd b hb);cases b with
   |true=>
    have hp:part l=[61]:=by simpa using hb
    simp only[if_true]at HT;have hY:=HY.out;rw[compared,if_pos hp]at hY;have HQ:Hid (∀W,RD R t wh n W (pass 1 l)->Z4 223 #[ptr R] W (Ends R t wh n VS W (quoted (eo t wh) (pass 1 l)))):=fun W hW=>AF hW;clear hb hp hC;cases hq:quoted (eo t wh) (pass 1 l)with
    |error y=>
     rw[hq]at HQ hY;simp only[oV]at hY;subst hY;clear hq;go_wp2_with(first|(go_at_call 86;refine HT.out.mono ?_;rintro e w4 ⟨rfl,ji,iD⟩)|(go_at_call 223;refine(HQ.out _ ji).mono ?_;rintro e w5 ⟨rfl,lD⟩));exact⟨rfl,rfl,(D3.out.fr.trans (iD.same lD) (fun i hi x=>Or.inl x)).restrict (fun k hk x=>by omega)⟩
    |ok z=>
     obtain⟨tx,l2⟩:=z;rw[hq]at HQ hY;simp only[iL]at hY;subst hY;clear hq;have HS:Hid (∀W4 W5,Fr (fun k=>k=R) WO W4->Fr (fun k=>k=R) W4 W5->RD R t wh n W5 l2->W5.heap[w.heap.size]?=some (.cells #[.string ⟨#[104,97,115]⟩,.slice ki nk kc,.slice si ns sc,.string (bs p.attr),.string (bs p.text)] 146 (0,0))/\∃W6,(W5.setCell ⟨w.heap.size,0,none⟩ (.string ⟨#[61]⟩)).setCell ⟨w.heap.size,4,none⟩ (.string (bs tx))=W6/\W6.heap[w.heap.size]?=some (.cells #[.string ⟨#[61]⟩,.slice ki nk kc,.slice si ns sc,.string (bs p.attr),.string (bs tx)] 146 (0,0))/\(W5.setCell ⟨w.heap.size,0,none⟩ (.string ⟨#[61]⟩)).heap[w.heap.size]?=some (.cells #[.string ⟨#[61]⟩,.slice ki nk kc,.slice si ns sc,.string (bs p.attr),.string (bs p.text)] 146 (0,0))/\W6.heap[w.heap.size+1]?=some (.cells eY 146 (0,0))/\∀W7,Fr (fun k=>k=w.heap.size+1) W6 W7->PV A 144 146 W7 (.agg #[.string ⟨#[61]⟩,.slice ki nk kc,.slice si ns sc,.string (bs p.attr),.string (bs tx)]) ⟨[61],p.kids,p.steps,p.attr,tx⟩/\RD R t wh n W7 l2/\Fr (fun k=>k=R) w W7):=fun W4 W5 f4 f5 rd=>by
      have q:=D3.out;have f:=f4.same f5;have b5:=(f.block _ (dS q.bv) (by omega)).trans q.bv;have b5q:=(f.block _ (dS q.bq) (by omega)).trans q.bq;have fs:Fr (fun k=>w.heap.size<=k) W5 ((W5.setCell ⟨w.heap.size,0,none⟩ (.string ⟨#[61]⟩)).setCell ⟨w.heap.size,4,none⟩ (.string (bs tx))):=((Fr.refl (fun k=>w.heap.size<=k) W5).set ⟨w.heap.size,0,none⟩ (.string ⟨#[61]⟩) (fun _=>au _)).set ⟨w.heap.size,4,none⟩ (.string (bs tx)) (fun _=>au _);refine⟨b5,_,rfl,ej (i:=4) (ej (i:=0) b5 _) _,ej (i:=0) b5 _,?_,fun W7 f7=>?_⟩
      ·rw[ak _ _ _ _ (show w.heap.size+1≠w.heap.size by omega),ak _ _ _ _ (show w.heap.size+1≠w.heap.size by omega)];exact b5q
      ·exact G_ (p':=⟨[61],p.kids,p.steps,p.attr,tx⟩) hR Ha.out HV.out rd (q.fr.trans f (fun _ _ x=>Or.inl x)) (fs.same (f7.mono fun k e=>by omega))
     go_wp2_with(first|(go_at_call 86;refine HT.out.mono ?_;rintro e w4 ⟨rfl,ji,iD⟩)|(go_at_call 223;refine(HQ.out _ ji).mono ?_;rintro e w5 ⟨v5,rfl,rfl,rR,lD⟩;obtain⟨bv5,W6,hW6,bv6,VH,py,hf⟩:=HS.out _ _ iD lD rR;have ue:=a_ hf;clear hf;obtain⟨⟨a0,a1,a2,a3,a4⟩,b0,b1,b2,b3,b4⟩:=eU bv5;obtain⟨⟨a0',a1',a2',a3',a4'⟩,b0',b1',b2',b3',b4'⟩:=eU VH;obtain⟨⟨g0,g1,g2,g3,g4⟩,-⟩:=eU bv6;obtain⟨⟨y0,y1,y2,y3,y4⟩,z0,z1,z2,z3,z4⟩:=eU py));obtain⟨W5,ld,r5,kE⟩:=pN (.string ⟨#[61]⟩) (.slice ki nk kc) (.slice si ns sc) (.string (bs p.attr)) (.string (bs tx)) py;rw[ld];clear ld y0 y1 y2 y3 y4 z0 z1 z2 z3 z4;obtain⟨⟨k0,k1,k2,k3,k4⟩,-⟩:=eU r5;obtain⟨q1,q2,q3⟩:=ue.out _ kE;refine aJ (v:=.agg #[.string ⟨#[61]⟩,.slice ki nk kc,.slice si ns sc,.string (bs p.attr),.string (bs tx)]) (by simp[results,results219,go_sem,k0,k1,k2,k3,k4]) rfl ⟨_,rfl,q1,q2,q3⟩
   |false=>
    have hp:part l≠[61]:=by simpa using hb
    simp only[aA,aQ]at HT;have HN:Hid (∀W,Fr (fun k=>k=R) WO W->RD R t wh n W l->CI R t wh n w W p (.slice ki nk kc) (.slice si ns sc) l 1):=fun W f rd=>D3.out.on f rd (fun _=>hp) (fun e=>by omega);clear hb hp hC;go_wp2_with(first|(go_at_call 86;refine HT.out.mono ?_;rintro e w4 ⟨rfl,ji,iD⟩;have hN:=HN.out _ iD ji));exact⟨⟨1,by first|rfl|decide,by omega,hN⟩,by simp[RowKit.intOf]⟩
  |1,_,hC,D3=>
   obtain⟨b,hb⟩:∃b,decide (part l=[33,61])=b:=⟨_,rfl⟩
   have HT:=a_ (oT [33,61] hC.rd b hb);cases b with
   |true=>
    have hp:part l=[33,61]:=by simpa using hb
    simp only[if_true]at HT;have hY:=HY.out;rw[compared,if_neg (hC.n1 (by omega)),if_pos hp]at hY;have HQ:Hid (∀W,RD R t wh n W (pass 2 l)->Z4 223 #[ptr R] W (Ends R t wh n VS W (quoted (eo t wh) (pass 2 l)))):=fun W hW=>AF hW;clear hb hp hC;cases hq:quoted (eo t wh) (pass 2 l)with
    |error y=>
     rw[hq]at HQ hY;simp only[oV]at hY;subst hY;clear hq;go_wp2_with(first|(go_at_call 86;refine HT.out.mono ?_;rintro e w4 ⟨rfl,ji,iD⟩)|(go_at_call 223;refine(HQ.out _ ji).mono ?_;rintro e w5 ⟨rfl,lD⟩));exact⟨rfl,rfl,(D3.out.fr.trans (iD.same lD) (fun i hi x=>Or.inl x)).restrict (fun k hk x=>by omega)⟩
    |ok z=>
     obtain⟨tx,l2⟩:=z;rw[hq]at HQ hY;simp only[iL]at hY;subst hY;clear hq;have HS:Hid (∀W4 W5,Fr (fun k=>k=R) WO W4->Fr (fun k=>k=R) W4 W5->RD R t wh n W5 l2->W5.heap[w.heap.size]?=some (.cells #[.string ⟨#[104,97,115]⟩,.slice ki nk kc,.slice si ns sc,.string (bs p.attr),.string (bs p.text)] 146 (0,0))/\∃W6,(W5.setCell ⟨w.heap.size,0,none⟩ (.string ⟨#[33,61]⟩)).setCell ⟨w.heap.size,4,none⟩ (.string (bs tx))=W6/\W6.heap[w.heap.size]?=some (.cells #[.string ⟨#[33,61]⟩,.slice ki nk kc,.slice si ns sc,.string (bs p.attr),.string (bs tx)] 146 (0,0))/\(W5.setCell ⟨w.heap.size,0,none⟩ (.string ⟨#[33,61]⟩)).heap[w.heap.size]?=some (.cells #[.string ⟨#[33,61]⟩,.slice ki nk kc,.slice si ns sc,.string (bs p.attr),.string (bs p.text)] 146 (0,0))/\W6.heap[w.heap.size+1]?=some (.cells eY 146 (0,0))/\∀W7,Fr (fun k=>k=w.heap.size+1) W6 W7->PV A 144 146 W7 (.agg #[.string ⟨#[33,61]⟩,.slice ki nk kc,.slice si ns sc,.string (bs p.attr),.string (bs tx)]) ⟨[33,61],p.kids,p.steps,p.attr,tx⟩/\RD R t wh n W7 l2/\Fr (fun k=>k=R) w W7):=fun W4 W5 f4 f5 rd=>by
      have q:=D3.out;have f:=f4.same f5;have b5:=(f.block _ (dS q.bv) (by omega)).trans q.bv;have b5q:=(f.block _ (dS q.bq) (by omega)).trans q.bq;have fs:Fr (fun k=>w.heap.size<=k) W5 ((W5.setCell ⟨w.heap.size,0,none⟩ (.string ⟨#[33,61]⟩)).setCell ⟨w.heap.size,4,none⟩ (.string (bs tx))):=((Fr.refl (fun k=>w.heap.size<=k) W5).set ⟨w.heap.size,0,none⟩ (.string ⟨#[33,61]⟩) (fun _=>au _)).set ⟨w.heap.size,4,none⟩ (.string (bs tx)) (fun _=>au _);refine⟨b5,_,rfl,ej (i:=4) (ej (i:=0) b5 _) _,ej (i:=0) b5 _,?_,fun W7 f7=>?_⟩
      ·rw[ak _ _ _ _ (show w.heap.size+1≠w.heap.size by omega),ak _ _ _ _ (show w.heap.size+1≠w.heap.size by omega)];exact b5q
      ·exact G_ (p':=⟨[33,61],p.kids,p.steps,p.attr,tx⟩) hR Ha.out HV.out rd (q.fr.trans f (fun _ _ x=>Or.inl x)) (fs.same (f7.mono fun k e=>by omega))
     go_wp2_with(first|(go_at_call 86;refine HT.out.mono ?_;rintro e w4 ⟨rfl,ji,iD⟩)|(go_at_call 223;refine(HQ.out _ ji).mono ?_;rintro e w5 ⟨v5,rfl,rfl,rR,lD⟩;obtain⟨bv5,W6,hW6,bv6,VH,py,hf⟩:=HS.out _ _ iD lD rR;have ue:=a_ hf;clear hf;obtain⟨⟨a0,a1,a2,a3,a4⟩,b0,b1,b2,b3,b4⟩:=eU bv5;obtain⟨⟨a0',a1',a2',a3',a4'⟩,b0',b1',b2',b3',b4'⟩:=eU VH;obtain⟨⟨g0,g1,g2,g3,g4⟩,-⟩:=eU bv6;obtain⟨⟨y0,y1,y2,y3,y4⟩,z0,z1,z2,z3,z4⟩:=eU py));obtain⟨W5,ld,r5,kE⟩:=pN (.string ⟨#[33,61]⟩) (.slice ki nk kc) (.slice si ns sc) (.string (bs p.attr)) (.string (bs tx)) py;rw[ld];clear ld y0 y1 y2 y3 y4 z0 z1 z2 z3 z4;obtain⟨⟨k0,k1,k2,k3,k4⟩,-⟩:=eU r5;obtain⟨q1,q2,q3⟩:=ue.out _ kE;refine aJ (v:=.agg #[.string ⟨#[33,61]⟩,.slice ki nk kc,.slice si ns sc,.string (bs p.attr),.string (bs tx)]) (by simp[results,results219,go_sem,k0,k1,k2,k3,k4]) rfl ⟨_,rfl,q1,q2,q3⟩
   |false=>
    have hp:part l≠[33,61]:=by simpa using hb
    simp only[aA,aQ]at HT;have HN:Hid (∀W,Fr (fun k=>k=R) WO W->RD R t wh n W l->CI R t wh n w W p (.slice ki nk kc) (.slice si ns sc) l 2):=fun W f rd=>D3.out.on f rd (fun _=>D3.out.n1 (by omega)) (fun _=>hp);clear hb hp hC;go_wp2_with(first|(go_at_call 86;refine HT.out.mono ?_;rintro e w4 ⟨rfl,ji,iD⟩;have hN:=HN.out _ iD ji));exact⟨⟨2,by first|rfl|decide,by omega,hN⟩,by simp[RowKit.intOf]⟩
  |2,_,hC,D3=>
   have hY:=HY.out;rw[compared,if_neg (hC.n1 (by omega)),if_neg (hC.n2 (by omega))]at hY;subst hY;obtain⟨⟨a0,a1,a2,a3,a4⟩,-⟩:=eU hC.bv;have py:=hC.bq;obtain⟨⟨y0,y1,y2,y3,y4⟩,z0,z1,z2,z3,z4⟩:=eU py;have ue:Hid (∀W7,Fr (fun k=>k=w.heap.size+1) WO W7->PV A 144 146 W7 (.agg #[.string ⟨#[104,97,115]⟩,.slice ki nk kc,.slice si ns sc,.string (bs p.attr),.string (bs p.text)]) ⟨lM,p.kids,p.steps,p.attr,p.text⟩/\RD R t wh n W7 l/\Fr (fun k=>k=R) w W7):=fun W7 f7=>G_ (p':=⟨lM,p.kids,p.steps,p.attr,p.text⟩) hR Ha.out HV.out D3.out.rd D3.out.fr (f7.mono fun k e=>by omega);clear hC;go_wp2_with fail;obtain⟨W5,ld,r5,kE⟩:=pN (.string ⟨#[104,97,115]⟩) (.slice ki nk kc) (.slice si ns sc) (.string (bs p.attr)) (.string (bs p.text)) py;rw[ld];clear ld y0 y1 y2 y3 y4 z0 z1 z2 z3 z4;obtain⟨⟨k0,k1,k2,k3,k4⟩,-⟩:=eU r5;obtain⟨q1,q2,q3⟩:=ue.out _ kE;refine aJ (v:=.agg #[.string ⟨#[104,97,115]⟩,.slice ki nk kc,.slice si ns sc,.string (bs p.attr),.string (bs p.text)]) (by simp[results,results219,go_sem,k0,k1,k2,k3,k4]) rfl ⟨_,rfl,q1,q2,q3⟩
end
section
variable{w w' w1 w2 W0 W1 W2 W3 W4 WO wr W W5:World}{A F G:Nat->Prop}{R lo Bp Br:Nat}{t l l':L}{wh n:Nat}{e8:Option (L->Rs gB)}{v v' vp vk vs:Value}{X:Rs gB}{p:gB}
def UT(lo Bp:Nat)(w:World)(p:gB):Prop:=∃ki nk kc si ns sc,w.heap[Bp]?=some (.cells #[.string (bs p.op),.slice ki nk kc,.slice si ns sc,.string (bs p.attr),.string (bs p.text)] 146 (0,0))/\pP w (fun b=>lo<=b) 144 146 (.slice ki nk kc) p.kids/\p9 w (fun b=>lo<=b) 144 146 (.slice si ns sc) p.steps
theorem UT.fr(h:UT lo Bp w p)(f:Fr F w w')(h1:¬F Bp)(h2:∀k,F k->k<lo):UT lo Bp w' p:=by
 obtain⟨ki,nk,kc,si,ns,sc,a1,a2,a3⟩:=h;have hm:Move (fun b=>lo<=b) (fun b=>lo<=b) w w':=fun b hb hl=>⟨hb,f.block b hl (fun x=>by have:=h2 b x;omega)⟩
 exact⟨ki,nk,kc,si,ns,sc,(f.block _ (dS a1) h1).trans a1,a2.move hm,a3.move hm⟩
theorem SG{x0 x1 x2 x3 x4:Value}{f:L->Rs gB}(hc:x9 R t wh n f)(h:RD R t wh n w l)(hr:w.heap[Br]?=some (.cells #[ptr R] 170 (0,0)))(hb:w.heap[Bp]?=some (.cells #[x0,x1,x2,x3,x4] 146 (0,0)))(XY:R≠Bp)(px:lo<=w.heap.size)(hp:Bp<lo):
  Z4 218 #[ptr Br,ptr Bp] w (Lays R t wh n (fun k=>k=R\/k=Bp) (UT lo Bp) w (f l)):=by
 have HC:=a_ (hc w l h);have c0:w.cell? ⟨Br,0,none⟩=some (ptr R):=cell_of hr rfl;cases hf:f l with
 |error y=>
  rw[hf]at HC;clear hc h hr hb hf;go_enter func218,ntmps218;go_wp2_with(first|(go_at_call 178;refine HC.out.mono ?_;rintro e w2 ⟨rfl,fr⟩));exact⟨rfl,rfl,fr.mono fun k e=>Or.inl e⟩
 |ok z=>
  obtain⟨p,l2⟩:=z;rw[hf]at HC;have HE:Hid (∀W v,Fr (fun k=>k=R) w W->RD R t wh n W l2->PV (fun b=>w.heap.size<=b) 144 146 W v p->∃ki nk kc si ns sc,v=.agg #[.string (bs p.op),.slice ki nk kc,.slice si ns sc,.string (bs p.attr),.string (bs p.text)]/\W.heap[Bp]?=some (.cells #[x0,x1,x2,x3,x4] 146 (0,0))/\∀W5,Fr (fun k=>k=Bp) W W5->W5.heap[Bp]?=some (.cells #[.string (bs p.op),.slice ki nk kc,.slice si ns sc,.string (bs p.attr),.string (bs p.text)] 146 (0,0))->RD R t wh n W5 l2/\UT lo Bp W5 p/\Fr (fun k=>k=R\/k=Bp) w W5):=fun W v fr rd pv=>by
   obtain⟨ki,nk,kc,si,ns,sc,rfl,a1,a2⟩:=pv.shape;refine⟨ki,nk,kc,si,ns,sc,rfl,(fr.block _ (dS hb) (fun e=>XY e.symm)).trans hb,fun W5 f5 r5=>?_⟩;have hm:Move (fun b=>w.heap.size<=b) (fun b=>lo<=b) W W5:=fun b hb hl=>⟨by omega,f5.block b hl (by omega)⟩
   exact⟨rd.fr f5 XY,⟨ki,nk,kc,si,ns,sc,r5,a1.move hm,a2.move hm⟩,(fr.mono fun k e=>Or.inl e).same (f5.mono fun k e=>Or.inr e)⟩
  clear hc h hr hb hf;go_enter func218,ntmps218;go_wp2_with(first|(go_at_call 178;refine HC.out.mono ?_;rintro e w2 ⟨v2,rfl,UQ,rQ,lC⟩;obtain⟨ki,nk,kc,si,ns,sc,rfl,bp2,hf⟩:=HE.out _ _ lC rQ UQ;have HF:=a_ hf;clear hf UQ;obtain⟨⟨y0,y1,y2,y3,y4⟩,z0,z1,z2,z3,z4⟩:=eU bp2));obtain⟨W5,ld,r5,f5⟩:=pN (.string (bs p.op)) (.slice ki nk kc) (.slice si ns sc) (.string (bs p.attr)) (.string (bs p.text)) bp2;rw[ld];obtain⟨q1,q2,q3⟩:=HF.out _ f5 r5
  go_end0
  exact⟨rfl,q1,q2,q3⟩
theorem Ot:∀args w,(callFunc 218 args).run prog w=.ok (.enter 218 args) w:=enters_of func218 (by kernel_rfl) rfl
theorem Hb{x0 x1 x2 x3 x4:Value}(hi:qc R t wh n e8)(h:RD R t wh n w l)(hr:w.heap[Br]?=some (.cells #[ptr R] 170 (0,0)))(hb:w.heap[Bp]?=some (.cells #[x0,x1,x2,x3,x4] 146 (0,0)))(XY:R≠Bp)(NL:R≠Br)(hRl:R<lo)(px:lo<=w.heap.size)(hp:Bp<lo):
  Z4 176 #[ptr R,.string ⟨#[40]⟩,.string ⟨#[41]⟩,.func (.func 218) #[] #[ptr Br,ptr Bp]] w (Lays R t wh n (fun k=>k=R\/k=Bp) (UT lo Bp) w (within (eo t wh) e8 [40] [41] l)):=by
 rcases hi with⟨rfl,rfl⟩|⟨f,rfl,hn8,RT,hc⟩
 ·exact(wo (o:=[40]) (s:=[41]) h).mono fun e w' x=>⟨x.1,x.2.mono fun k e=>Or.inl e⟩
 ·refine AG (o:=[40]) (s:=[41]) (k:=218) h hn8 (Or.inl rfl) Ot (fun W l1 _ rd fr=>?_) (fun W W' p hx fr=>hx.fr fr (fun e=>XY e.symm) (fun k e=>by omega));have XR:=(fr.block Br (dS hr) (fun e=>NL e.symm)).trans hr;have hb':=(fr.block Bp (dS hb) (fun e=>XY e.symm)).trans hb;refine(SG (lo:=lo) hc rd XR hb' XY (aw px fr.size) hp).mono fun e w' x=>?_;have NJ:Fr (fun k=>k=R\/k=Bp) w W:=fr.mono fun k e=>Or.inl e;cases hf:f l1 with
  |error y=>rw[hf]at x;exact⟨x.1,NJ.same x.2⟩
  |ok z=>rw[hf]at x;exact⟨x.1,x.2.1,x.2.2.1,NJ.same x.2.2.2⟩
structure OI(R:Nat)(t:L)(wh n:Nat)(w W:World)(l:L):Prop where
 rd:RD R t wh n W l
 br:W.heap[w.heap.size]?=some (.cells #[ptr R] 170 (0,0))
 bq:W.heap[w.heap.size+1]?=some (.cells eY 146 (0,0))
 bp:W.heap[w.heap.size+1+1]?=some (.cells eY 146 (0,0))
 fr:Fr (fun k=>k=R\/w.heap.size<=k) w W
 sz:w.heap.size+3<=W.heap.size
 lt:R<w.heap.size
theorem OI.start(h:RD R t wh n w l):OI R t wh n w (((w.alloc (.cells #[ptr R] 170)).alloc (.cells eY 146)).alloc (.cells eY 146)) l:=by
 have f:Fr (fun _=>False) w (((w.alloc (.cells #[ptr R] 170)).alloc (.cells eY 146)).alloc (.cells eY 146)):=(((Fr.refl _ w).alloc _).alloc _).alloc _;refine⟨h.fr f (fun x=>x),?_,?_,?_,f.mono (fun _ x=>x.elim),by simp,h.lt⟩
 ·rw[ay _ _ _ (by simp;omega),ay _ _ _ (by simp)];exact dT _ _
 ·rw[ay _ _ _ (by simp)];have:=dT (w.alloc (.cells #[ptr R] 170)) (.cells eY 146);simpa using this
 ·have:=dT ((w.alloc (.cells #[ptr R] 170)).alloc (.cells eY 146)) (.cells eY 146);simpa using this
theorem OI.on(h:OI R t wh n w W l)(f:Fr (fun k=>k=R) W W1)(rd:RD R t wh n W1 l'):OI R t wh n w W1 l':=by
 have:=h.lt;exact⟨rd,(f.block _ (dS h.br) (by omega)).trans h.br,(f.block _ (dS h.bq) (by omega)).trans h.bq,(f.block _ (dS h.bp) (by omega)).trans h.bp,h.fr.trans f (fun _ _ x=>Or.inl x),aw h.sz f.size,h.lt⟩
theorem OI.below(h:OI R t wh n w W l)(b:Z5 W W1):OI R t wh n w W1 l:=h.on (Fr.below b) (h.rd.below b)
theorem OI.c0(h:OI R t wh n w W l):W.cell? ⟨w.heap.size,0,none⟩=some (ptr R):=cell_of h.br rfl
theorem OI.K8(h:OI R t wh n w W l)(f:Fr (fun k=>k=R\/k=w.heap.size+1+1) W W1):Fr (fun k=>k=R) w W1:=by
 have:=h.lt;exact(h.fr.trans f (fun _ _ x=>by omega)).restrict (fun k hk x=>by omega)
theorem OI.put(h:OI R t wh n w W l)(f:Fr (fun k=>k=R\/k=w.heap.size+1+1) W W1)(rd:RD R t wh n W1 l')(hp:UT (w.heap.size+3) (w.heap.size+1+1) W1 p):∃ki nk kc si ns sc,W1.heap[w.heap.size+1+1]?=some (.cells #[.string (bs p.op),.slice ki nk kc,.slice si ns sc,.string (bs p.attr),.string (bs p.text)] 146 (0,0))/\W1.heap[w.heap.size+1]?=some (.cells eY 146 (0,0))/\
  (∀W5,Fr (fun k=>k=w.heap.size+1) W1 W5->PV (fun b=>w.heap.size<=b) 144 146 W5 (.agg #[.string (bs p.op),.slice ki nk kc,.slice si ns sc,.string (bs p.attr),.string (bs p.text)]) p/\RD R t wh n W5 l'/\Fr (fun k=>k=R) w W5)/\
  ((W1.alloc (.cells #[.string (bs p.op),.slice ki nk kc,.slice si ns sc,.string (bs p.attr),.string (bs p.text)] 146)).heap[w.heap.size+1]?=some (.cells eY 146 (0,0))/\∀W5,Fr (fun k=>k=w.heap.size+1) (W1.alloc (.cells #[.string (bs p.op),.slice ki nk kc,.slice si ns sc,.string (bs p.attr),.string (bs p.text)] 146)) W5->PV (fun b=>w.heap.size<=b) 144 146 W5 (.agg #[.string ⟨#[110,111,116]⟩,.slice (some ⟨W1.heap.size,0,none⟩) 1 1,.slice none 0 0,.string ⟨#[]⟩,.string ⟨#[]⟩]) ⟨wY,gR.of [p],.nil,[],[]⟩/\RD R t wh n W5 l'/\Fr (fun k=>k=R) w W5):=by
 obtain⟨ki,nk,kc,si,ns,sc,a1,a2,a3⟩:=hp;have hlt:=h.lt;have SB:=(f.block _ (dS h.bq) (by omega)).trans h.bq;have f1:Fr (fun k=>k=R\/w.heap.size<=k) w W1:=h.fr.trans f (fun _ _ x=>by omega);have hz1:w.heap.size+3<=W1.heap.size:=aw h.sz f.size;refine⟨ki,nk,kc,si,ns,sc,a1,SB,fun W5 f5=>?_,?_,fun W5 f5=>?_⟩
 ·have hm:Move (fun b=>w.heap.size+3<=b) (fun b=>w.heap.size<=b) W1 W5:=fun b hb hl=>⟨by omega,f5.block b hl (by omega)⟩
  exact⟨⟨_,_,rfl,a2.move hm,a3.move hm⟩,rd.fr f5 (by omega),(f1.trans f5 (fun i hi x=>by omega)).restrict (fun k hk x=>by omega)⟩
 ·exact(ay _ _ _ (dS SB)).trans SB
 ·have fa:Fr (fun _=>False) W1 (W1.alloc (.cells #[.string (bs p.op),.slice ki nk kc,.slice si ns sc,.string (bs p.attr),.string (bs p.text)] 146)):=(Fr.refl _ W1).alloc _;have g:=((GP.first (lo:=w.heap.size+3) (s:=p) hz1 ⟨a2,a3⟩).fr f5 (fun k e _=>by omega)).done (by simp) (fun e=>by simp at e);exact⟨⟨_,_,rfl,g.move fun b hb _=>⟨by omega,rfl⟩,Or.inl ⟨rfl,rfl⟩⟩,(rd.fr fa (fun x=>x)).fr f5 (by omega),((f1.trans fa (fun _ _ x=>x.elim)).trans f5 (fun i hi x=>by omega)).restrict (fun k hk x=>by omega)⟩
theorem VJ(hi:qc R t wh n e8)(h:RD R t wh n w l):Z4 212 #[ptr R] w (Ends R t wh n (PV (fun b=>w.heap.size<=b) 144 146) w (one (eo t wh) e8 l)):=by
 have B0:=a_ (OI.start h);have hR:=h.lt;have YF:∀(fn:Fn) (first cap:Array Value) (w:World),(Instr.makeFunc fn first cap).run prog w=.ok (.func fn first cap) w:=fun _ _ _ _=>rfl;generalize hW0:((w.alloc (.cells #[ptr R] 170)).alloc (.cells eY 146)).alloc (.cells eY 146)=W0 at*
 have c0:=B0.out.c0;obtain⟨bn,Eu⟩:∃b,calls wY l=b:=⟨_,rfl⟩
 have UU:Hid (Z4 198 #[ptr R,.string ⟨#[110,111,116]⟩] W0 (Z7 (.bool bn) W0)):=by have:=x6 wY B0.out.rd;rw[Eu]at this;exact this
 have K9:Hid (∀W l,OI R t wh n w W l->Z4 176 #[ptr R,.string ⟨#[40]⟩,.string ⟨#[41]⟩,.func (.func 218) #[] #[ptr w.heap.size,ptr (w.heap.size+1+1)]] W (Lays R t wh n (fun k=>k=R\/k=w.heap.size+1+1) (UT (w.heap.size+3) (w.heap.size+1+1)) W (within (eo t wh) e8 [40] [41] l))):=fun W l hW=>Hb hi hW.rd hW.br hW.bp (by omega) (by omega) (by omega) hW.sz (by omega);have HI:=a_ hi;clear hi h;unfold one;cases bn with
 |true=>
  rw[if_pos Eu];have HW:Hid (∀W,RD R t wh n W l->Z4 179 #[ptr R,.string ⟨#[110,111,116]⟩] W fun e w'=>match want (eo t wh) wY l with
   | .ok l'=>e=.returned (.tuple #[])/\RD R t wh n w' l'/\Fr (fun k=>k=R) W w'
   | .error y=>oy R t y W e w'):=fun W hW=>ua wY hW
  clear Eu;cases hx:want (eo t wh) wY l with
  |error y=>
   simp only[hx]at HW;simp only[oq];clear hx;go_enter func212,ntmps212;go_wp2_with(first|(go_at_call 198;(try rw[hW0]);refine UU.out.mono ?_;rintro e w2 ⟨rfl,hb2⟩;have O2:=B0.out.below hb2;have c2:=O2.c0)|(go_at_call 179;refine(HW.out _ O2.rd).mono ?_;rintro e w3 ⟨rfl,jC⟩));exact⟨rfl,rfl,O2.K8 (jC.mono fun k e=>Or.inl e)⟩
  |ok l1=>
   simp only[hx]at HW;simp only[oq];clear hx;have K9:=K9.out;cases hy:within (eo t wh) e8 [40] [41] l1 with
   |error y=>
    have K_:Hid (∀W,OI R t wh n w W l1->_):=fun W hW=>K9 W l1 hW;rw[hy]at K_;simp only[oV];clear hy K9;go_enter func212,ntmps212;go_wp2_with(first|(go_at_call 198;(try rw[hW0]);refine UU.out.mono ?_;rintro e w2 ⟨rfl,hb2⟩;have O2:=B0.out.below hb2;have c2:=O2.c0)|(go_at_call 179;refine(HW.out _ O2.rd).mono ?_;rintro e w3 ⟨rfl,sY,jC⟩;have O3:=O2.on jC sY;have c3:=O3.c0)|(go_at_call 176;refine(K_.out _ O3).mono ?_;rintro e w4 ⟨rfl,iD⟩));exact⟨rfl,rfl,O3.K8 iD⟩
   |ok z=>
    obtain⟨p,l2⟩:=z;have K_:Hid (∀W,OI R t wh n w W l1->_):=fun W hW=>K9 W l1 hW;rw[hy]at K_;simp only[iL];clear hy K9;go_enter func212,ntmps212;go_wp2_with(first|(go_at_call 198;(try rw[hW0]);refine UU.out.mono ?_;rintro e w2 ⟨rfl,hb2⟩;have O2:=B0.out.below hb2;have c2:=O2.c0)|(go_at_call 179;refine(HW.out _ O2.rd).mono ?_;rintro e w3 ⟨rfl,sY,jC⟩;have O3:=O2.on jC sY;have c3:=O3.c0)|(go_at_call 176;refine(K_.out _ O3).mono ?_;rintro e w4 ⟨rfl,ji,YU,iD⟩;obtain⟨ki,nk,kc,si,ns,sc,US,XT,-,py,hf⟩:=O3.put iD ji YU;have ue:=a_ hf;clear hf YU;obtain⟨⟨a0,a1,a2,a3,a4⟩,-⟩:=eU US;obtain⟨⟨y0,y1,y2,y3,y4⟩,z0,z1,z2,z3,z4⟩:=eU py));obtain⟨W5,ld,r5,kE⟩:=pN (.string ⟨#[110,111,116]⟩) (.slice (some ⟨w4.heap.size,0,none⟩) 1 1) (.slice none 0 0) (.string ⟨#[]⟩) (.string ⟨#[]⟩) py;rw[ld];clear ld y0 y1 y2 y3 y4 z0 z1 z2 z3 z4;obtain⟨⟨k0,k1,k2,k3,k4⟩,-⟩:=eU r5;obtain⟨q1,q2,q3⟩:=ue.out _ kE;refine aJ (v:=.agg #[.string ⟨#[110,111,116]⟩,.slice (some ⟨w4.heap.size,0,none⟩) 1 1,.slice none 0 0,.string ⟨#[]⟩,.string ⟨#[]⟩]) (by simp[results,results212,go_sem,k0,k1,k2,k3,k4]) rfl ⟨_,rfl,q1,q2,q3⟩
 |false=>
  rw[if_neg (by rw[Eu];simp)];have CA:Hid (∀W,RD R t wh n W l->Z4 135 #[ptr R] W (Z7 (.string (bs (part l))) W)):=fun W hW=>jD hW;clear Eu;by_cases hp:part l=[40]
  ·rw[if_pos hp];have hq:((bs (part l)).toList==[40])=true:=by rw[fE,hp];rfl
   generalize bs (part l)=S at*
   have K9:=K9.out;clear hp;cases hy:within (eo t wh) e8 [40] [41] l with
   |error y=>
    have K_:Hid (∀W,OI R t wh n w W l->_):=fun W hW=>K9 W l hW;rw[hy]at K_;clear hy K9;go_enter func212,ntmps212;go_wp2_with(first|(go_at_call 198;(try rw[hW0]);refine UU.out.mono ?_;rintro e w2 ⟨rfl,hb2⟩;have O2:=B0.out.below hb2;have c2:=O2.c0)|(go_at_call 135;refine(CA.out _ O2.rd).mono ?_;rintro e w3 ⟨rfl,hb3⟩;have O3:=O2.below hb3;have c3:=O3.c0)|(go_at_call 176;refine(K_.out _ O3).mono ?_;rintro e w4 ⟨rfl,iD⟩));exact⟨rfl,rfl,O3.K8 iD⟩
   |ok z=>
    obtain⟨p,l2⟩:=z;have K_:Hid (∀W,OI R t wh n w W l->_):=fun W hW=>K9 W l hW;rw[hy]at K_;clear hy K9;go_enter func212,ntmps212;go_wp2_with(first|(go_at_call 198;(try rw[hW0]);refine UU.out.mono ?_;rintro e w2 ⟨rfl,hb2⟩;have O2:=B0.out.below hb2;have c2:=O2.c0)|(go_at_call 135;refine(CA.out _ O2.rd).mono ?_;rintro e w3 ⟨rfl,hb3⟩;have O3:=O2.below hb3;have c3:=O3.c0)|(go_at_call 176;refine(K_.out _ O3).mono ?_;rintro e w4 ⟨rfl,ji,YU,iD⟩;obtain⟨ki,nk,kc,si,ns,sc,US,py,hf,-⟩:=O3.put iD ji YU;have ue:=a_ hf;clear hf YU;obtain⟨⟨a0,a1,a2,a3,a4⟩,-⟩:=eU US;obtain⟨⟨y0,y1,y2,y3,y4⟩,z0,z1,z2,z3,z4⟩:=eU py));obtain⟨W5,ld,r5,kE⟩:=pN (.string (bs p.op)) (.slice ki nk kc) (.slice si ns sc) (.string (bs p.attr)) (.string (bs p.text)) py;rw[ld];clear ld y0 y1 y2 y3 y4 z0 z1 z2 z3 z4;obtain⟨⟨k0,k1,k2,k3,k4⟩,-⟩:=eU r5;obtain⟨q1,q2,q3⟩:=ue.out _ kE;refine aJ (v:=.agg #[.string (bs p.op),.slice ki nk kc,.slice si ns sc,.string (bs p.attr),.string (bs p.text)]) (by simp[results,results212,go_sem,k0,k1,k2,k3,k4]) rfl ⟨_,rfl,q1,q2,q3⟩
  ·rw[if_neg hp];have hq:((bs (part l)).toList==[40])=false:=by rw[fE];simpa using hp
   generalize bs (part l)=S at*
   clear hp K9;have YV:Hid (∀W,RD R t wh n W l->Z4 220 #[ptr R] W (Ends R t wh n (PV (fun b=>W.heap.size<=b) 144 146) W (value (eo t wh) e8 l))):=fun W hW=>Oq HI.out hW;cases hy:value (eo t wh) e8 l with
   |error y=>
    rw[hy]at YV;simp only[oV];clear hy;go_enter func212,ntmps212;go_wp2_with(first|(go_at_call 198;(try rw[hW0]);refine UU.out.mono ?_;rintro e w2 ⟨rfl,hb2⟩;have O2:=B0.out.below hb2;have c2:=O2.c0)|(go_at_call 135;refine(CA.out _ O2.rd).mono ?_;rintro e w3 ⟨rfl,hb3⟩;have O3:=O2.below hb3;have c3:=O3.c0));have hv:=YV.out w3.drew (O3.rd.fr (F:=fun _=>False) ((Fr.refl _ w3).drewN 1) (fun x=>x));refine wp_region_held_drew (S:=fun W=>W.cell? ⟨w.heap.size,0,none⟩=some (ptr R)) (by kernel_rfl) c3 (fun hHeld=>?_);refine wpAnyH_take (i:=0) (v:=?_) rfl (by kernel_rfl) (by kernel_rfl) (by kernel_rfl) (fun _ _ _ h=>h) (Or.inl ⟨by rfl,?_⟩) (by assumption) ?_
    rotate_left
    ·(intro w hSw;(try dsimp only at hSw);go_simp;(try with_reducible rfl))
    (try simp only[Act.put,ae,af,aj])
    refine wpAnyH_take (i:=1) (v:=?_) rfl (by kernel_rfl) (by kernel_rfl) (by kernel_rfl) (fun _ _ _ h=>h) (Or.inl ⟨by rfl,?_⟩) (by assumption) ?_
    rotate_left
    ·(intro w hSw;(try dsimp only at hSw);go_simp;(try with_reducible rfl))
    (try simp only[Act.put,ae,af,aj])
    refine wpAnyH_ready (rs:=[2]) (by kernel_rfl) (by simp) ?_;refine AllReadyH.cons rfl (fun K hK=>?_) AllReadyH.nil
    go_simp
    refine hv.mono ?_;rintro e w4 ⟨rfl,iD⟩;exact⟨rfl,rfl,O3.K8 (Fr.mono ⟨iD.os,iD.tape,iD.output,iD.size,iD.block⟩ fun k e=>Or.inl e)⟩
   |ok z=>
    obtain⟨p,l2⟩:=z;rw[hy]at YV;simp only[iL];clear hy;have HCO:Hid (∀W0 W ki nk kc si ns sc,OI R t wh n w W0 l->Fr (fun k=>k=R) W0 W->RD R t wh n W l2->pP W (fun b=>W0.heap.size<=b) 144 146 (.slice ki nk kc) p.kids/\p9 W (fun b=>W0.heap.size<=b) 144 146 (.slice si ns sc) p.steps->Z4 219 #[ptr R,.agg #[.string (bs p.op),.slice ki nk kc,.slice si ns sc,.string (bs p.attr),.string (bs p.text)]] W (Ends R t wh n (PV (fun b=>W0.heap.size<=b) 144 146) W (compared (eo t wh) p l2))):=fun W0 W ki nk kc si ns sc h0 f rd hv=>Et (by have:=h0.rd.lt;omega) rd hv;cases hz:compared (eo t wh) p l2 with
    |error y=>
     rw[hz]at HCO;clear hz;go_enter func212,ntmps212;go_wp2_with(first|(go_at_call 198;(try rw[hW0]);refine UU.out.mono ?_;rintro e w2 ⟨rfl,hb2⟩;have O2:=B0.out.below hb2;have c2:=O2.c0)|(go_at_call 135;refine(CA.out _ O2.rd).mono ?_;rintro e w3 ⟨rfl,hb3⟩;have O3:=O2.below hb3;have c3:=O3.c0));have SH:OI R t wh n w w3.drew l:=O3.on ((Fr.refl (fun k=>k=R) w3).drewN 1) (O3.rd.fr (F:=fun _=>False) ((Fr.refl _ w3).drewN 1) (fun x=>x));refine wp_region_held_drew (S:=fun W=>W.cell? ⟨w.heap.size,0,none⟩=some (ptr R)) (by kernel_rfl) c3 (fun hHeld=>?_);generalize w3.drew=W3 at*
     refine wpAnyH_take (i:=0) (v:=?_) rfl (by kernel_rfl) (by kernel_rfl) (by kernel_rfl) (fun _ _ _ h=>h) (Or.inl ⟨by rfl,?_⟩) (by assumption) ?_
     rotate_left
     ·(intro w hSw;(try dsimp only at hSw);go_simp;(try with_reducible rfl))
     (try simp only[Act.put,ae,af,aj])
     refine wpAnyH_take (i:=1) (v:=?_) rfl (by kernel_rfl) (by kernel_rfl) (by kernel_rfl) (fun _ _ _ h=>h) (Or.inl ⟨by rfl,?_⟩) (by assumption) ?_
     rotate_left
     ·(intro w hSw;(try dsimp only at hSw);go_simp;(try with_reducible rfl))
     (try simp only[Act.put,ae,af,aj])
     refine wpAnyH_ready (rs:=[2]) (by kernel_rfl) (by simp) ?_;refine AllReadyH.cons rfl (fun K hK=>?_) AllReadyH.nil;have hv:=YV.out _ SH.rd
     go_simp
     refine hv.mono ?_;clear hv;rintro e w4 ⟨v4,rfl,AQ,ji,iD⟩;obtain⟨ki,nk,kc,si,ns,sc,rfl,YW⟩:=AQ.shape;refine hK.out _ _ (SH.on iD ji).c0 (fun hHeld=>?_);clear hK K AQ
     (try simp only[Act.put,ae,af,aj])
     refine wpAnyH_ready (rs:=[3]) (by kernel_rfl) (by simp) ?_;refine AllReadyH.cons rfl (fun K hK=>?_) AllReadyH.nil;have hc:=HCO.out _ _ _ _ _ _ _ _ SH iD ji YW;clear YW
     go_simp
     refine hc.mono ?_;clear hc;rintro e w5 ⟨rfl,lD⟩;exact⟨rfl,rfl,SH.K8 ((iD.same lD).mono fun k e=>Or.inl e)⟩
    |ok z=>
     obtain⟨p2,l3⟩:=z;rw[hz]at HCO;clear hz;have HFI:Hid (∀W0 W v,OI R t wh n w W0 l->Fr (fun k=>k=R) W0 W->RD R t wh n W l3->PV (fun b=>W0.heap.size<=b) 144 146 W v p2->∃ki nk kc si ns sc,v=.agg #[.string (bs p2.op),.slice ki nk kc,.slice si ns sc,.string (bs p2.attr),.string (bs p2.text)]/\W.heap[w.heap.size]?=some (.cells #[ptr R] 170 (0,0))/\W.heap[w.heap.size+1]?=some (.cells eY 146 (0,0))/\∀W5,Fr (fun k=>k=w.heap.size+1) W W5->PV (fun b=>w.heap.size<=b) 144 146 W5 (.agg #[.string (bs p2.op),.slice ki nk kc,.slice si ns sc,.string (bs p2.attr),.string (bs p2.text)]) p2/\RD R t wh n W5 l3/\Fr (fun k=>k=R) w W5):=fun W0 W v h0 f rd pv=>by
      obtain⟨ki,nk,kc,si,ns,sc,rfl,a1,a2⟩:=pv.shape;have h1:=h0.on f rd;have hsz:=h0.sz;refine⟨ki,nk,kc,si,ns,sc,rfl,h1.br,h1.bq,fun W5 f5=>?_⟩;have hm:Move (fun b=>W0.heap.size<=b) (fun b=>w.heap.size<=b) W W5:=fun b hb hl=>⟨by omega,f5.block b hl (by omega)⟩
      exact⟨⟨_,_,rfl,a1.move hm,a2.move hm⟩,rd.fr f5 (by omega),(h1.fr.trans f5 (fun i hi x=>by omega)).restrict (fun k hk x=>by omega)⟩
     go_enter func212,ntmps212;go_wp2_with(first|(go_at_call 198;(try rw[hW0]);refine UU.out.mono ?_;rintro e w2 ⟨rfl,hb2⟩;have O2:=B0.out.below hb2;have c2:=O2.c0)|(go_at_call 135;refine(CA.out _ O2.rd).mono ?_;rintro e w3 ⟨rfl,hb3⟩;have O3:=O2.below hb3;have c3:=O3.c0));have SH:OI R t wh n w w3.drew l:=O3.on ((Fr.refl (fun k=>k=R) w3).drewN 1) (O3.rd.fr (F:=fun _=>False) ((Fr.refl _ w3).drewN 1) (fun x=>x));refine wp_region_held_drew (S:=fun W=>W.cell? ⟨w.heap.size,0,none⟩=some (ptr R)) (by kernel_rfl) c3 (fun hHeld=>?_);generalize w3.drew=W3 at*
     refine wpAnyH_take (i:=0) (v:=?_) rfl (by kernel_rfl) (by kernel_rfl) (by kernel_rfl) (fun _ _ _ h=>h) (Or.inl ⟨by rfl,?_⟩) (by assumption) ?_
     rotate_left
     ·(intro w hSw;(try dsimp only at hSw);go_simp;(try with_reducible rfl))
     (try simp only[Act.put,ae,af,aj])
     refine wpAnyH_take (i:=1) (v:=?_) rfl (by kernel_rfl) (by kernel_rfl) (by kernel_rfl) (fun _ _ _ h=>h) (Or.inl ⟨by rfl,?_⟩) (by assumption) ?_
     rotate_left
     ·(intro w hSw;(try dsimp only at hSw);go_simp;(try with_reducible rfl))
     (try simp only[Act.put,ae,af,aj])
     refine wpAnyH_ready (rs:=[2]) (by kernel_rfl) (by simp) ?_;refine AllReadyH.cons rfl (fun K hK=>?_) AllReadyH.nil;have hv:=YV.out _ SH.rd
     go_simp
     refine hv.mono ?_;clear hv;rintro e w4 ⟨v4,rfl,AQ,ji,iD⟩;obtain⟨ki,nk,kc,si,ns,sc,rfl,YW⟩:=AQ.shape;refine hK.out _ _ (SH.on iD ji).c0 (fun hHeld=>?_);clear hK K AQ
     (try simp only[Act.put,ae,af,aj])
     refine wpAnyH_ready (rs:=[3]) (by kernel_rfl) (by simp) ?_;refine AllReadyH.cons rfl (fun K hK=>?_) AllReadyH.nil;have hc:=HCO.out _ _ _ _ _ _ _ _ SH iD ji YW;clear YW
     go_simp
     refine hc.mono ?_;clear hc;rintro e w5 ⟨v5,rfl,YL,rR,lD⟩;obtain⟨ki2,nk2,kc2,si2,ns2,sc2,rfl,br5,zW,hf⟩:=HFI.out _ _ _ SH (iD.same lD) rR YL;have ue:=a_ hf;clear hf YL;refine hK.out _ _ (cell_of br5 rfl) (fun hHeld=>?_);clear hK K
     (try simp only[Act.put,ae,af,aj])
     refine wpAnyH_ready (rs:=[4]) (by kernel_rfl) (by simp) ?_;refine AllReadyH.cons rfl (fun K hK=>?_) AllReadyH.nil;obtain⟨⟨y0,y1,y2,y3,y4⟩,z0,z1,z2,z3,z4⟩:=eU zW
     go_simp
     obtain⟨W5,ld,r5,kE⟩:=pN (.string (bs p2.op)) (.slice ki2 nk2 kc2) (.slice si2 ns2 sc2) (.string (bs p2.attr)) (.string (bs p2.text)) zW;rw[ld];clear ld y0 y1 y2 y3 y4 z0 z1 z2 z3 z4;have br6:=(kE.block _ (dS br5) (by omega)).trans br5;refine hK.out _ _ (cell_of br6 rfl) (fun hHeld=>?_);clear hK K;refine wpAnyH_done (by kernel_rfl) ?_ _;obtain⟨⟨k0,k1,k2,k3,k4⟩,-⟩:=eU r5;obtain⟨q1,q2,q3⟩:=ue.out _ kE;go_wp2;refine aJ (v:=.agg #[.string (bs p2.op),.slice ki2 nk2 kc2,.slice si2 ns2 sc2,.string (bs p2.attr),.string (bs p2.text)]) (by simp[results,results212,go_sem,k0,k1,k2,k3,k4]) rfl ⟨_,rfl,q1,q2,q3⟩
end
section
variable{w w' w1 w2 W0 W1 W2 W3 W4 WO wr W W5:World}{A F G:Nat->Prop}{R lo Bp Br:Nat}{t l l':L}{wh n:Nat}{e8:Option (L->Rs gB)}{v v' vp vk vs:Value}{X:Rs gB}{p:gB}
theorem Ou:∀args w,(callFunc 212 args).run prog w=.ok (.enter 212 args) w:=enters_of func212 (by kernel_rfl) rfl
theorem SI(hi:qc R t wh n e8)(h:RD R t wh n w l):Z4 201 #[ptr R] w (Ends R t wh n (PV (fun b=>w.heap.size<=b) 144 146) w (both (eo t wh) e8 l)):=by
 have B0:=a_ (s6.start h);have YF:∀(fn:Fn) (first cap:Array Value) (w:World),(Instr.makeFunc fn first cap).run prog w=.ok (.func fn first cap) w:=fun _ _ _ _=>rfl;generalize hW0:w.alloc (.cells eY 146)=W0 at*
 have HJ:Hid (Z4 200 #[ptr R,.string ⟨#[97,110,100]⟩,.func (.func 212) #[ptr R] #[]] W0 (Ends R t wh n (PV (fun b=>W0.heap.size<=b) 144 146) W0 (both (eo t wh) e8 l))):=AK (word:=Vw) (by decide) Ou (fun W l hW=>VJ hi hW) (Cu hi.wZ) B0.out.rd;clear hi h;cases hy:both (eo t wh) e8 l with
 |error y=>
  rw[hy]at HJ;clear hy;go_enter func201,ntmps201;go_wp2_with(first|(go_at_call 200;(try rw[hW0]);refine HJ.out.mono ?_;rintro e w4 ⟨rfl,iD⟩));exact⟨rfl,rfl,B0.out.K8 iD⟩
 |ok z=>
  obtain⟨p,l2⟩:=z;rw[hy]at HJ;clear hy;go_enter func201,ntmps201;go_wp2_with(first|(go_at_call 200;(try rw[hW0]);refine HJ.out.mono ?_;rintro e w4 ⟨v4,rfl,AQ,ji,iD⟩;obtain⟨ki,nk,kc,si,ns,sc,rfl,py,hf⟩:=B0.out.fin iD ji AQ;clear AQ;have ue:=a_ hf;clear hf;obtain⟨⟨y0,y1,y2,y3,y4⟩,z0,z1,z2,z3,z4⟩:=eU py));obtain⟨W5,ld,r5,kE⟩:=pN (.string (bs p.op)) (.slice ki nk kc) (.slice si ns sc) (.string (bs p.attr)) (.string (bs p.text)) py;rw[ld];clear ld y0 y1 y2 y3 y4 z0 z1 z2 z3 z4;obtain⟨⟨k0,k1,k2,k3,k4⟩,-⟩:=eU r5;obtain⟨q1,q2,q3⟩:=ue.out _ kE;refine aJ (v:=.agg #[.string (bs p.op),.slice ki nk kc,.slice si ns sc,.string (bs p.attr),.string (bs p.text)]) (by simp[results,results201,go_sem,k0,k1,k2,k3,k4]) rfl ⟨_,rfl,q1,q2,q3⟩
theorem Ov:∀args w,(callFunc 201 args).run prog w=.ok (.enter 201 args) w:=enters_of func201 (by kernel_rfl) rfl
theorem JY(hi:qc R t wh n e8)(h:RD R t wh n w l):Z4 178 #[ptr R] w (Ends R t wh n (PV (fun b=>w.heap.size<=b) 144 146) w (cond (eo t wh) e8 l)):=by
 have B0:=a_ (s6.start h);have YF:∀(fn:Fn) (first cap:Array Value) (w:World),(Instr.makeFunc fn first cap).run prog w=.ok (.func fn first cap) w:=fun _ _ _ _=>rfl;generalize hW0:w.alloc (.cells eY 146)=W0 at*
 have HJ:Hid (Z4 200 #[ptr R,.string ⟨#[111,114]⟩,.func (.func 201) #[ptr R] #[]] W0 (Ends R t wh n (PV (fun b=>W0.heap.size<=b) 144 146) W0 (cond (eo t wh) e8 l))):=AK (word:=wOr) (by decide) Ov (fun W l hW=>SI hi hW) (fun l=>sV (Cu hi.wZ) l) B0.out.rd;clear hi h;cases hy:cond (eo t wh) e8 l with
 |error y=>
  rw[hy]at HJ;clear hy;go_enter func178,ntmps178;go_wp2_with(first|(go_at_call 200;(try rw[hW0]);refine HJ.out.mono ?_;rintro e w4 ⟨rfl,iD⟩));exact⟨rfl,rfl,B0.out.K8 iD⟩
 |ok z=>
  obtain⟨p,l2⟩:=z;rw[hy]at HJ;clear hy;go_enter func178,ntmps178;go_wp2_with(first|(go_at_call 200;(try rw[hW0]);refine HJ.out.mono ?_;rintro e w4 ⟨v4,rfl,AQ,ji,iD⟩;obtain⟨ki,nk,kc,si,ns,sc,rfl,py,hf⟩:=B0.out.fin iD ji AQ;clear AQ;have ue:=a_ hf;clear hf;obtain⟨⟨y0,y1,y2,y3,y4⟩,z0,z1,z2,z3,z4⟩:=eU py));obtain⟨W5,ld,r5,kE⟩:=pN (.string (bs p.op)) (.slice ki nk kc) (.slice si ns sc) (.string (bs p.attr)) (.string (bs p.text)) py;rw[ld];clear ld y0 y1 y2 y3 y4 z0 z1 z2 z3 z4;obtain⟨⟨k0,k1,k2,k3,k4⟩,-⟩:=eU r5;obtain⟨q1,q2,q3⟩:=ue.out _ kE;refine aJ (v:=.agg #[.string (bs p.op),.slice ki nk kc,.slice si ns sc,.string (bs p.attr),.string (bs p.text)]) (by simp[results,results178,go_sem,k0,k1,k2,k3,k4]) rfl ⟨_,rfl,q1,q2,q3⟩
theorem AU:∀d,d<=8->x9 R t wh (8-d) (vo (eo t wh) d)/\qc R t wh (8-d) (pW (eo t wh) d)
 |0,_=>by
  have hi:qc R t wh 8 (pW (eo t wh) 0):=Or.inl ⟨rfl,rfl⟩;exact⟨fun W l h=>JY hi h,hi⟩
 |d+1,hd=>by
  have ih:=(AU d (by omega)).1;have hi:qc R t wh (8-(d+1)) (pW (eo t wh) (d+1)):=Or.inr ⟨vo (eo t wh) d,rfl,by omega,sW d,by rw[show 8-(d+1)+1=8-d by omega];exact ih⟩;exact⟨fun W l h=>JY hi h,hi⟩
theorem in8:qc R t wh 0 (pW (eo t wh) 8):=(AU 8 (by omega)).2
end
section
variable{w w' w1 w2 W0 W1 W2 W3 W4 WO wr W W5:World}{A A' F G:Nat->Prop}{R lo:Nat}{t l l':L}{wh n:Nat}{v v' vp:Value}{tQ tS tP:TypeId}
def QS(w:World)(A:Nat->Prop)(tQ tS tP:TypeId)(v:Value)(l:List (List iV)):Prop:=sl w A tQ v l.length fun g=>∀i p,l[i]?=some p->∃u,w.cell? ⟨g,i,none⟩=some u/\p9 w A tS tP u (gw.of p)
theorem QS.move{l:List (List iV)}(hm:Move A A' w w')(h:QS w A tQ tS tP v l):QS w' A' tQ tS tP v l:=
 sl.move hm h fun g ha hl hr i p hi=>by
  obtain⟨u,h1,h2⟩:=hr i p hi;exact⟨u,(ar (hm g ha hl).2).trans h1,h2.move hm⟩
structure GQ(lo:Nat)(tQ tS tP:TypeId)(w:World)(v:Value)(l:List (List iV)):Prop where
 ex:∃xs:List (List iV×Value),xs.map (·.1)=l/\w.ownsRow 0 tQ 1 v l.length (xs.map (·.2))/\∀x∈xs,p9 w (fun b=>lo<=b/\some b≠v.ownBlock) tS tP x.2 (gw.of x.1)
 own:∀k,v.ownBlock=some k->lo<=k
variable{lq:List (List iV)}{p:List iV}
theorem GQ.lt(h:GQ lo tQ tS tP w v lq){k:Nat}(e:v.ownBlock=some k):k<w.heap.size:=by obtain⟨xs,_,h2,_⟩:=h.ex;exact eu h2 e
theorem GQ.fr(h:GQ lo tQ tS tP w v lq)(hf:Fr F w w')(hF:∀k,F k->k<w.heap.size->k<lo):GQ lo tQ tS tP w' v lq:=by
 obtain⟨xs,h1,h2,h3⟩:=h.ex;have hb:∀b,lo<=b->b<w.heap.size->w'.heap[b]?=w.heap[b]?:=fun b h1 h2=>hf.block b h2 (fun x=>by have:=hF b x h2;omega);exact⟨⟨xs,h1,dY h2 fun k e=>hb k (h.own k e) (eu h2 e),fun x hx=>(h3 x hx).move fun b ha hl=>⟨ha,hb b ha.1 hl⟩⟩,h.own⟩
theorem GQ.first(px:lo<=w.heap.size)(sv:p9 w (fun b=>lo<=b) tS tP vp (gw.of p)):GQ lo tQ tS tP (w.alloc (.cells #[vp] tQ)) (.slice (some ⟨w.heap.size,0,none⟩) 1 1) [p]:=
 ⟨⟨[(p,vp)],rfl,yb [vp] tQ 1 w rfl (by decide),fun x hx=>by
   obtain rfl:x=(p,vp):=by simpa using hx
   exact sv.move fun b hb hl=>⟨⟨hb,fun e=>by have:b=w.heap.size:=aX e;omega⟩,ay _ _ _ hl⟩⟩,fun k e=>by have:w.heap.size=k:=aX e;omega⟩
theorem GQ.G9(h:GQ lo tQ tS tP W0 v lq)(fr:Fr (fun k=>k=R) W0 W2)(hR:R<lo)(px:lo<=W0.heap.size)(sv:p9 W2 (fun b=>W0.heap.size<=b) tS tP vp (gw.of p))(o:Obj):
  ∃xs,(W2.alloc o).ownsRow 0 tQ 1 v lq.length xs/\∀v' W4,W4.ownsRow 0 tQ 1 v' (lq.length+1) (xs++[vp])->(W2.alloc o).grownBy W4 v.ownBlock->(v'.ownBlock=v.ownBlock\/v'.ownBlock=some (W2.alloc o).heap.size)->GQ lo tQ tS tP W4 v' (lq++[p])/\Fr (fun k=>k=R\/lo<=k) W0 W4/\Fr (fun k=>lo<=k) W2 W4:=by
 have g3:=h.fr (fr.alloc o) fun k e _=>by omega
 obtain⟨xs,x1,x2,x3⟩:=g3.ex;refine⟨_,x2,fun v' W4 ho hg hat=>⟨⟨⟨xs++[(p,vp)],by rw[bF,x1];rfl,by rw[ax,bF];exact ho,fun x hx=>?_⟩,fun k e=>?_⟩,?_,?_⟩⟩
 ·have hz:=fr.size;have hm:Move (fun b=>lo<=b/\some b≠v.ownBlock) (fun b=>lo<=b/\some b≠v'.ownBlock) (W2.alloc o) W4:=fun b ha hl=>⟨⟨ha.1,by rcases hat with e|e<;>rw[e];exact ha.2;intro x;cases x;omega⟩,hg.block b hl ha.2⟩
  rcases List.mem_append.1 hx with hx|hx
  ·exact(x3 x hx).move hm
  ·obtain rfl:x=(p,vp):=by simpa using hx
   exact(sv.move (A':=fun b=>lo<=b/\some b≠v.ownBlock) (w':=W2.alloc o) fun b hb hl=>⟨⟨by omega,fun e=>by have:=h.lt e.symm;omega⟩,ay _ _ _ hl⟩).move hm
 ·rcases hat with x|x
  ·exact h.own k (x▸e)
  ·rw[x]at e;cases e;have:=fr.size;simp;omega
 ·exact((fr.alloc o).mono fun k e=>Or.inl e).same (yc hg fun k e=>h.own k e)
 ·exact((Fr.refl _ W2).alloc o).same ⟨hg.os,hg.tape,hg.output,hg.size,fun k hk hf=>hg.block k hk (fun e=>hf (h.own k e.symm))⟩
theorem GQ.done(h:GQ lo tQ tS tP w v lq)(hn:lq.length<=1000)(hne:lq≠[]):QS w (fun b=>lo<=b) tQ tS tP v lq:=by
 obtain⟨xs,h1,h2,h3⟩:=h.ex;obtain⟨ai,cap,rfl⟩:=dU h2;have hz:lq.length≠0:=fun e=>hne (List.length_eq_zero_iff.1 e);rcases h2.2 with⟨e,e2⟩|⟨g,cap',cur,e1,h0,hg,hr⟩
 ·omega
 ·cases e1;refine Or.inr ⟨g,cap,cur,rfl,h.own g rfl,hg,hn,by omega,fun k s hk=>?_⟩;obtain⟨x,hx,rfl⟩:=vr h1 hk;exact⟨x.2,iG h2 (by rw[bX,hx];rfl),(h3 x (mM hx)).move fun b ha _=>⟨ha.1,rfl⟩⟩
theorem VK:(prog.info? 85).map (fun i=>(i.zero,i.size,i.bytes))=some (some (.slice none 0 0),1,24):=by kernel_rfl
structure QI(R:Nat)(t:L)(wh:Nat)(w:World)(X:Rs (List (List iV)))(wr:World)(v:Value)(ls:List (List iV))(lc:L):Prop where
 rd:RD R t wh 0 wr lc
 gq:GQ w.heap.size 85 144 146 wr v ls
 fr:Fr (fun k=>k=R\/w.heap.size<=k) w wr
 eq:∃fu,lc.length<fu/\X=thn (jU (eo t wh) fu lc) fun qs l=>if l=[]/\eo t wh=false then .ok (ls++qs,l)else .error (bad (eo t wh) l)
 sm:ls.length+lc.length<=501
 ne:ls≠[]
 lt:R<w.heap.size
variable{X:Rs (List (List iV))}{ls:List (List iV)}{lc:L}
theorem QI.stop(h:QI R t wh w X wr v ls lc)(hg:part lc≠[124]):X=if lc=[]/\eo t wh=false then .ok (ls,lc)else .error (bad (eo t wh) lc):=by
 obtain⟨fu,e1,e2⟩:=h.eq;rw[e2];cases fu with
 |zero=>omega
 |succ fu=>rw[jU,if_neg hg];simp only[iL,aP]
theorem QI.go(h:QI R t wh w X wr v ls lc)(hg:part lc=[124]):
  (∀y,path (eo t wh) (pW (eo t wh) 8) (pass 1 lc)=.error y->X=.error y)/\∀p l2,path (eo t wh) (pW (eo t wh) 8) (pass 1 lc)=.ok (p,l2)->l2.length<lc.length/\∃fu,l2.length<fu/\X=thn (jU (eo t wh) fu l2) fun qs l=>if l=[]/\eo t wh=false then .ok ((ls++[p])++qs,l)else .error (bad (eo t wh) l):=by
 obtain⟨fu,e1,e2⟩:=h.eq;cases fu with
 |zero=>omega
 |succ fu=>
  rw[jU,if_pos hg]at e2;refine⟨fun y hy=>by rw[e2,hy];rfl,fun p l2 hy=>?_⟩;have h1:=(Eh (Ek 8) _ p l2 hy).length_le;have h2:=xw (n:=1) (l:=lc) (by decide) (xx hg (by decide));refine⟨by omega,fu,by omega,?_⟩;rw[e2,hy];simp only[iL];cases jU (eo t wh) fu l2 with
  |error y=>rfl
  |ok z=>obtain⟨za,zb⟩:=z;simp only[iL,aV,aZ,bI]
def QV(A:Nat->Prop)(w:World)(v:Value)(ls:List (List iV)):Prop:=QS w A 85 144 146 v ls
theorem Ow(h:RD R t wh 0 w l):Z4 48 #[ptr R] w (Ends R t wh 0 (QV (fun b=>w.heap.size<=b)) w (query (eo t wh) l)):=by
 have Vy:Hid (Z4 84 #[ptr R,.int .i64 0] w fun e w'=>e=.returned (.tuple #[])/\RD R t wh 0 w' (pass 0 l)/\Fr (fun k=>k=R) w w'):=xy 0 h (aB _);have hR:=h.lt;have h5:(pass 0 l).length<=500:=by have:=(jw 0 l).length_le;have:=h.le;have:=h.tw;have:=h.Cv;omega
 have G3:=h.tw;have CA:Hid (∀W,RD R t wh 0 W (pass 0 l)->Z4 85 #[ptr R] W (Ends R t wh 0 (SL (fun b=>W.heap.size<=b)) W (path (eo t wh) (pW (eo t wh) 8) (pass 0 l)))):=fun W hW=>JU in8 hW;unfold query;cases hx:path (eo t wh) (pW (eo t wh) 8) (pass 0 l)with
 |error y=>
  rw[hx]at CA;simp only[oV];clear hx h;go_enter func48,ntmps48;go_wp2_with(first|(go_at_call 84;refine Vy.out.mono ?_;rintro e w2 ⟨rfl,rd,fr⟩)|(go_at_call 85;refine(CA.out _ rd).mono ?_;rintro e w3 ⟨rfl,jC⟩));exact⟨rfl,rfl,fr.same jC⟩
 |ok z=>
  obtain⟨p,l1⟩:=z;rw[hx]at CA;have t_:=(Eh (Ek 8) _ p l1 hx).length_le;simp only[iL];clear hx h;obtain⟨X,hX⟩:∃X,(thn (jU (eo t wh) (l1.length+1) l1) fun ps l=>if l=[]/\eo t wh=false then(.ok (p::ps,l):Rs (List (List iV)))else .error (bad (eo t wh) l))=X:=⟨_,rfl⟩
  rw[hX];have HQ0:Hid (∀W1 W2 v,Fr (fun k=>k=R) w W1->Fr (fun k=>k=R) W1 W2->RD R t wh 0 W2 l1->SL (fun b=>W1.heap.size<=b) W2 v p->∃vi vn vc,v=.slice vi vn vc/\QI R t wh w X (W2.alloc (.cells #[.slice vi vn vc] 85)) (.slice (some ⟨W2.heap.size,0,none⟩) 1 1) [p] l1):=fun W1 W2 v f1 f2 rd sv=>by
   obtain⟨vi,vc,rfl⟩:=sl.shape sv;have fa:Fr (fun _=>False) W2 (W2.alloc (.cells #[.slice vi (gw.of p).len vc] 85)):=(Fr.refl _ W2).alloc _;exact⟨vi,_,vc,rfl,rd.fr fa (fun x=>x),GQ.first (aw f1.size f2.size) (p9.move (fun b hb _=>⟨aw f1.size hb,rfl⟩) sv),((f1.same f2).mono (fun _ x=>Or.inl x)).trans fa (fun _ _ x=>x.elim),⟨l1.length+1,by omega,by rw[<-hX];rfl⟩,by simp;omega,by simp,hR⟩
  clear hX;obtain⟨i0,hi,hz0,hz1,hz2⟩:=aY VK;go_enter func48,ntmps48;go_wp2_with(first|(go_at_call 84;refine Vy.out.mono ?_;rintro e w2 ⟨rfl,rd,fr⟩)|(go_at_call 85;refine(CA.out _ rd).mono ?_;rintro e w3 ⟨v3,rfl,YJ,sY,jC⟩;obtain⟨vi,vn,vc,rfl,hQ⟩:=HQ0.out _ _ _ fr jC sY YJ;have HQ:=a_ hQ;clear hQ YJ));clear rd sY fr jC;generalize (World.alloc w3 _)=WS at*
  generalize (Value.slice (some ⟨w3.heap.size,0,none⟩) 1 1)=V0 at*
  go_loopw [3,9,10,11,12,13,14,15] (fun u3 _ _ _ _ _ _ _ wr=>∃ls lc,QI R t wh w X wr u3 ls lc) (fun _ _ _ _ _ _ _ _ wr=>uZ R t wr)
  case atStart=>exact⟨_,_,HQ.out⟩
  case round=>
   rename World=>WO
   obtain⟨ls,lc,hQ⟩:=hrel;have zT:uZ R t WO=lc.length:=hQ.rd.uZ;have XZ:=a_ hQ;obtain⟨b,hb⟩:∃b,decide (part lc=[124])=b:=⟨_,rfl⟩
   have HT:=a_ (oT [124] hQ.rd b hb);cases b with
   |true=>
    have hp:part lc=[124]:=by simpa using hb
    have hgo:=hQ.go hp;simp only[if_true]at HT;have HT:Hid (Z4 86 #[ptr R,.string ⟨#[124]⟩] WO fun e w'=>e=.returned (.bool true)/\RD R t wh 0 w' (pass 1 lc)/\Fr (fun k=>k=R) WO w'):=HT;have HP2:Hid (∀W,RD R t wh 0 W (pass 1 lc)->Z4 85 #[ptr R] W (Ends R t wh 0 (SL (fun b=>W.heap.size<=b)) W (path (eo t wh) (pW (eo t wh) 8) (pass 1 lc)))):=fun W hW=>JU in8 hW;clear hb hQ hp;cases hy:path (eo t wh) (pW (eo t wh) 8) (pass 1 lc)with
    |error y=>
     have hX:=hgo.1 y hy;subst hX;rw[hy]at HP2;clear hy hgo;go_wp2_with(first|(go_at_call 86;refine HT.out.mono ?_;rintro e w4 ⟨rfl,ji,iD⟩)|(go_at_call 85;refine(HP2.out _ ji).mono ?_;rintro e w5 ⟨rfl,lD⟩));exact⟨rfl,rfl,(XZ.out.fr.trans (iD.same lD) (fun i hi x=>Or.inl x)).restrict (fun k hk x=>by omega)⟩
    |ok z=>
     obtain⟨p2,l2⟩:=z;obtain⟨hlt,G8⟩:=hgo.2 p2 l2 hy;have G8:=a_ G8;rw[hy]at HP2;clear hy hgo;have qd:Hid (∀W1 W2 v,Fr (fun k=>k=R) WO W1->Fr (fun k=>k=R) W1 W2->RD R t wh 0 W2 l2->SL (fun b=>W1.heap.size<=b) W2 v p2->∃vi vn vc,v=.slice vi vn vc/\∃xs,(W2.alloc (.cells #[.slice vi vn vc] 85)).ownsRow 0 85 1 u3 ls.length xs/\∀v' W4,W4.ownsRow 0 85 1 v' (ls.length+1) (xs++[.slice vi vn vc])->(W2.alloc (.cells #[.slice vi vn vc] 85)).grownBy W4 u3.ownBlock->(v'.ownBlock=u3.ownBlock\/v'.ownBlock=some (W2.heap.size+1))->QI R t wh w X W4 v' (ls++[p2]) l2):=fun W1 W2 v f1 f2 rd sv=>by
      obtain⟨vi,vc,rfl⟩:=sl.shape sv;have q:=XZ.out;have hz:=q.fr.size;obtain⟨xs,x1,x2⟩:=(q.gq.fr f1 (fun k e _=>by omega)).G9 f2 hR (aw hz f1.size) sv (.cells #[.slice vi (gw.of p2).len vc] 85);refine⟨vi,_,vc,rfl,xs,x1,fun v' W4 ho hg hat=>?_⟩;obtain⟨g1,g2,g3⟩:=x2 v' W4 ho hg (by simpa using hat);exact⟨rd.fr g3 (by omega),g1,(q.fr.trans f1 (fun i hi x=>Or.inl x)).trans g2 (fun i hi x=>by omega),G8.out,by have:=q.sm;simp;omega,by simp,hR⟩
     go_wp2_with(first|(go_at_call 86;refine HT.out.mono ?_;rintro e w4 ⟨rfl,ji,iD⟩)|(go_at_call 85;refine(HP2.out _ ji).mono ?_;rintro e w5 ⟨v5,rfl,YM,rR,lD⟩;obtain⟨vi5,vn5,vc5,rfl,xs,hx1,hx2⟩:=qd.out _ _ _ iD lD rR YM;have K4:=a_ hx2;clear hx2 YM)|(at_builtin;refine bw _ rfl (.tmp 11) (.tmp 14) 74 rfl 0 85 i0 _ 1 24 underlying74 hi hz0 hz1 hz2 rfl (by decide) u3 ls.length xs rfl hx1 ⟨w5.heap.size,0,none⟩ 1 1 [.slice vi5 vn5 vc5] rfl rfl (lG _ _ _) ?c2 ?c3 ?c4 (aB _) ?_))
     case c2=>intro u hu;simp only[bN,bC,cq]at hu;subst hu;rfl
     case c3=>have:=XZ.out.sm;unfold maxLen;omega
     case c4=>have:=XZ.out.sm;omega
     intro v' w7 ho hg _ hat;have hQ7:=K4.out v' w7 ho hg (by simpa using hat);go_wp2;exact⟨⟨_,_,hQ7⟩,by rw[hQ7.rd.uZ,zT];omega⟩
   |false=>
    have hX:=hQ.stop (by simpa using hb);simp only[aA,aQ]at HT;have HT:Hid (Z4 86 #[ptr R,.string ⟨#[124]⟩] WO fun e w'=>e=.returned (.bool false)/\RD R t wh 0 w' lc/\Fr (fun k=>k=R) WO w'):=HT;have hle:=hQ.rd.le;clear hb hQ;by_cases hend:lc=[]/\eo t wh=false
    ·rw[if_pos hend]at hX;subst hX;have hlt:decide (t.length-lc.length<wh)=false:=by rw[hend.1];simpa [eo]using hend.2
     have zQ:decide (((t.length-lc.length:Nat):Int)<(wh:Int))=false:=by rw[hend.1];have:=hend.2;simp[eo]at this;simp;omega
     clear hend;have HCC:Hid (∀W,RD R t wh 0 W lc->W.cell? ⟨R,1,none⟩=some (.int .i64 wh)/\W.cell? ⟨R,2,none⟩=some (.int .i64 ((t.length-lc.length:Nat):Int))):=fun W hW=>⟨cell_of hW.blk rfl,cell_of hW.blk rfl⟩
     generalize t.length-lc.length=K at*
     go_wp2_with(first|(go_at_call 86;refine HT.out.mono ?_;rintro e w4 ⟨rfl,ji,iD⟩;obtain⟨c1,c2⟩:=HCC.out _ ji));go_quiet(fail);go_wp2;go_ret;have q:=XZ.out;have f5:Fr (fun k=>k=R) WO (w4.drewN nq):=iD.drewN nq;exact⟨_,rfl,((q.gq.fr f5 (fun k e _=>by omega)).done (by have:=q.sm;omega) q.ne),ji.fr (F:=fun _=>False) ((Fr.refl _ w4).drewN nq) (fun x=>x),(q.fr.trans f5 (fun i hi x=>Or.inl x)).restrict (fun k hk x=>by omega)⟩
    ·rw[if_neg hend]at hX;subst hX;have YX:t.length-lc.length<wh:=by
      by_cases hlc:lc=[]
      ·have:eo t wh=true:=by cases hcc:eo t wh;exact absurd ⟨hlc,hcc⟩ hend;rfl
       simp[eo]at this;omega
      ·have:0<lc.length:=by cases lc;exact absurd rfl hlc;simp
       omega
     have hlt:decide (t.length-lc.length<wh)=true:=by simpa using YX
     have zQ:decide (((t.length-lc.length:Nat):Int)<(wh:Int))=true:=by simp;omega
     clear hend YX;have HCC:Hid (∀W,RD R t wh 0 W lc->W.cell? ⟨R,1,none⟩=some (.int .i64 wh)/\W.cell? ⟨R,2,none⟩=some (.int .i64 ((t.length-lc.length:Nat):Int))):=fun W hW=>⟨cell_of hW.blk rfl,cell_of hW.blk rfl⟩
     have Sr:Hid (∀W,RD R t wh 0 W lc->Z4 87 #[ptr R] W (oy R t (bad (eo t wh) lc) W)):=fun W hW=>tX hW;generalize t.length-lc.length=K at*
     go_wp2_with(first|(go_at_call 86;refine HT.out.mono ?_;rintro e w4 ⟨rfl,ji,iD⟩;obtain⟨c1,c2⟩:=HCC.out _ ji));go_quiet(fail);have rR:RD R t wh 0 (w4.drewN nq) lc:=ji.fr (F:=fun _=>False) ((Fr.refl _ w4).drewN nq) (fun x=>x);go_wp2_with(first|(go_at_call 87;refine(Sr.out _ rR).mono ?_;rintro e w6 ⟨rfl,vt⟩));exact⟨rfl,rfl,(XZ.out.fr.trans ((iD.drewN nq).same vt) (fun i hi x=>Or.inl x)).restrict (fun k hk x=>by omega)⟩
end
section
variable{w w' w1 w2 W0 W1 W2 W3 W4 WO wr W W5:World}{A A' F G:Nat->Prop}{R lo:Nat}{t l l':L}{wh n:Nat}{v v' vp:Value}
theorem Hc(w:World):(Instr.typeAssert .nilIface 20 122 true).run prog w=.ok (.tuple #[.agg #[.int .i64 0,.int .i64 0],.bool false]) w:=by kernel_rfl
theorem Hd(a b:Value)(w:World):(Instr.typeAssert (.iface 122 (.agg #[a,b])) 20 122 true).run prog w=.ok (.tuple #[.agg #[a,b],.bool true]) w:=by kernel_rfl
theorem He(a b c:Nat)(w:World):CallsD prog 46 #[ptr a,ptr b,ptr c] .returning w fun e u' w'=>e=.returned (.tuple #[])/\u'=.returning/\w'=w.alloc (.cells #[.int .i64 0,.int .i64 0] 122):=by
 refine callsD_of_wpS func46 rfl fun YY cs hu=>?_;apply wpS_seq;apply wpS_region;simp[wpOpsS,go_sem,recoverD,hu,ntmps46,Exit.thenS,Hc,Array.replicate];apply wpS_seq;apply wpS_region;simp[wpOpsS,go_sem,Exit.thenS];refine wpS_cond (t:=false) (by simp[Act.eval]) ?_;simp only[aA,aQ];refine wpS_of_wp (wp_skip ?_);cases YY;simp_all[bodyPostS,results,results46]
theorem La(a b c:Nat)(no at_:Int)(w:World){x y z:Value}(ha:w.heap[a]?=some (.cells #[x] 74 (0,0)))(hb:w.heap[b]?=some (.cells #[y] 23 (0,0)))(hc:w.heap[c]?=some (.cells #[z] 3 (0,0)))(hab:a≠b)(X0:a≠c)(VL:b≠c):
  CallsD prog 46 #[ptr a,ptr b,ptr c] (.panicking [{v:=.iface 122 (.agg #[.int .i64 no,.int .i64 at_]),recovered:=false}]) w fun e u' w'=>e=.returned (.tuple #[])/\u'=.panicking [{v:=.iface 122 (.agg #[.int .i64 no,.int .i64 at_]),recovered:=true}]/\
   w'.heap[a]?=some (.cells #[.slice none 0 0] 74 (0,0))/\w'.heap[b]?=some (.cells #[.int .i64 no] 23 (0,0))/\w'.heap[c]?=some (.cells #[.int .i64 at_] 3 (0,0))/\Fr (fun k=>k=a\/k=b\/k=c) w w':=by
 refine callsD_of_wpS func46 rfl fun YY cs hu=>?_;apply wpS_seq;apply wpS_region;simp[wpOpsS,go_sem,recoverD,hu,ntmps46,Exit.thenS,Hd,Array.replicate];apply wpS_seq;apply wpS_region;simp[wpOpsS,go_sem,Exit.thenS];refine wpS_cond (t:=true) (by simp[Act.eval]) ?_;simp only[if_true];have hla:=dS ha;have hlb:=dS hb;have hlc:=dS hc;have he:(w.alloc (.cells #[.int .i64 no,.int .i64 at_] 122)).heap[w.heap.size]?=some (.cells #[.int .i64 no,.int .i64 at_] 122 (0,0)):=dT _ _;have f0:Fr (fun k=>k=a\/k=b\/k=c) w (w.alloc (.cells #[.int .i64 no,.int .i64 at_] 122)):=(Fr.refl _ w).alloc _;have ha0:=(ay w (.cells #[.int .i64 no,.int .i64 at_] 122) a hla).trans ha;have hb0:=(ay w (.cells #[.int .i64 no,.int .i64 at_] 122) b hlb).trans hb;have hc0:=(ay w (.cells #[.int .i64 no,.int .i64 at_] 122) c hlc).trans hc;generalize w.alloc (.cells #[.int .i64 no,.int .i64 at_] 122)=X at*
 refine wpS_of_wp ?_;have e0:X.drew.heap[w.heap.size]?=some (.cells #[.int .i64 no,.int .i64 at_] 122 (0,0)):=he;have hae:w.heap.size≠a:=by omega
 have Vv:w.heap.size≠b:=by omega
 have hce:w.heap.size≠c:=by omega
 have xb:Fr (fun k=>k=a\/k=b\/k=c) w (((X.drew.setCell ⟨a,0,none⟩ (.slice none 0 0)).setCell ⟨b,0,none⟩ (.int .i64 no)).setCell ⟨c,0,none⟩ (.int .i64 at_)):=((Fr.set (Fr.set (Fr.drewN f0 1) ⟨a,0,none⟩ (.slice none 0 0) (fun _=>Or.inl rfl)) ⟨b,0,none⟩ (.int .i64 no) (fun _=>Or.inr (Or.inl rfl))).set ⟨c,0,none⟩ (.int .i64 at_) (fun _=>Or.inr (Or.inr rfl)))
 have a1:(X.drew.setCell ⟨a,0,none⟩ (.slice none 0 0)).heap[a]?=some (.cells #[.slice none 0 0] 74 (0,0)):=ej (i:=0) (w:=X.drew) ha0 _;have e1:=(ak X.drew ⟨a,0,none⟩ (.slice none 0 0) w.heap.size hae).trans e0;have b1:(X.drew.setCell ⟨a,0,none⟩ (.slice none 0 0)).heap[b]?=some (.cells #[y] 23 (0,0)):=(ak X.drew ⟨a,0,none⟩ (.slice none 0 0) b (fun e=>hab e.symm)).trans hb0;have c1:(X.drew.setCell ⟨a,0,none⟩ (.slice none 0 0)).heap[c]?=some (.cells #[z] 3 (0,0)):=(ak X.drew ⟨a,0,none⟩ (.slice none 0 0) c (fun e=>X0 e.symm)).trans hc0;generalize hX1:X.drew.setCell ⟨a,0,none⟩ (.slice none 0 0)=X1 at*
 have a2:=(ak X1 ⟨b,0,none⟩ (.int .i64 no) a hab).trans a1;have e2:=(ak X1 ⟨b,0,none⟩ (.int .i64 no) w.heap.size Vv).trans e1;have b2:(X1.setCell ⟨b,0,none⟩ (.int .i64 no)).heap[b]?=some (.cells #[.int .i64 no] 23 (0,0)):=ej (i:=0) b1 _;have c2:=(ak X1 ⟨b,0,none⟩ (.int .i64 no) c (fun e=>VL e.symm)).trans c1;generalize YZ:X1.setCell ⟨b,0,none⟩ (.int .i64 no)=X2 at*
 have a3:=(ak X2 ⟨c,0,none⟩ (.int .i64 at_) a X0).trans a2;have e3:=(ak X2 ⟨c,0,none⟩ (.int .i64 at_) w.heap.size hce).trans e2;have b3:=(ak X2 ⟨c,0,none⟩ (.int .i64 at_) b VL).trans b2;have c3:(X2.setCell ⟨c,0,none⟩ (.int .i64 at_)).heap[c]?=some (.cells #[.int .i64 at_] 3 (0,0)):=ej (i:=0) c2 _;have HS:Hid (∀W:World,W.heap[w.heap.size]?=some (.cells #[.int .i64 no,.int .i64 at_] 122 (0,0))->W.cell? ⟨w.heap.size,0,none⟩=some (.int .i64 no)/\W.cell? ⟨w.heap.size,1,none⟩=some (.int .i64 at_)):=fun W hW=>⟨cell_of hW rfl,cell_of hW rfl⟩
 have ka:=cell_of (i:=0) ha0 rfl;have fa:=d_ (i:=0) ha0;have kb:=cell_of (i:=0) b1 rfl;have fb:=d_ (i:=0) b1;have kc:=cell_of (i:=0) c2 rfl;have fc:=d_ (i:=0) c2;refine wp_region_held_drew (S:=fun W=>W.cell? ⟨w.heap.size,0,none⟩=some (.int .i64 no)/\W.cell? ⟨w.heap.size,1,none⟩=some (.int .i64 at_)) (by kernel_rfl) (HS.out _ e0) (fun hHeld=>?_);refine wpAnyH_take (i:=0) (v:=?_) rfl (by kernel_rfl) (by kernel_rfl) (by kernel_rfl) (fun _ _ _ h=>h) (Or.inl ⟨by rfl,?_⟩) (by assumption) ?_
 rotate_left
 ·(intro w hSw;(try dsimp only at hSw);go_simp;(try with_reducible rfl))
 (try simp only[Act.put,ae,af,aj])
 refine wpAnyH_take (i:=1) (v:=?_) rfl (by kernel_rfl) (by kernel_rfl) (by kernel_rfl) (fun _ _ _ h=>h) (Or.inl ⟨by rfl,?_⟩) (by assumption) ?_
 rotate_left
 ·(intro w hSw;(try dsimp only at hSw);go_simp;(try with_reducible rfl))
 (try simp only[Act.put,ae,af,aj])
 refine wpAnyH_take (i:=2) (v:=?_) rfl (by kernel_rfl) (by kernel_rfl) (by kernel_rfl) (fun _ _ _ h=>h) (Or.inl ⟨by rfl,?_⟩) (by assumption) ?_
 rotate_left
 ·(intro w hSw;(try dsimp only at hSw);go_simp;(try with_reducible rfl))
 (try simp only[Act.put,ae,af,aj])
 refine wpAnyH_take (i:=3) (v:=?_) rfl (by kernel_rfl) (by kernel_rfl) (by kernel_rfl) (fun _ _ _ h=>h) (Or.inl ⟨by rfl,?_⟩) (by assumption) ?_
 rotate_left
 ·(intro w hSw;(try dsimp only at hSw);go_simp;(try with_reducible rfl))
 (try simp only[Act.put,ae,af,aj])
 refine wpAnyH_ready (rs:=[4]) (by kernel_rfl) (by simp) ?_;refine AllReadyH.cons rfl (fun K hK=>?_) AllReadyH.nil
 go_simp
 (try rw[hX1])
 refine hK.out _ _ (HS.out _ e1) (fun hHeld=>?_);clear hK K
 (try simp only[Act.put,ae,af,aj])
 refine wpAnyH_ready (rs:=[5]) (by kernel_rfl) (by simp) ?_;refine AllReadyH.cons rfl (fun K hK=>?_) AllReadyH.nil
 go_simp
 (try rw[YZ])
 refine hK.out _ _ (HS.out _ e2) (fun hHeld=>?_);clear hK K
 (try simp only[Act.put,ae,af,aj])
 refine wpAnyH_ready (rs:=[6]) (by kernel_rfl) (by simp) ?_;refine AllReadyH.cons rfl (fun K hK=>?_) AllReadyH.nil
 go_simp
 refine hK.out _ _ (HS.out _ e3) (fun hHeld=>?_);clear hK K;refine wpAnyH_done (by kernel_rfl) ?_ _;simp[bodyPostS,results,results46,a3,b3,c3,xb]
end
section
variable{w w' w1 w2 W0 W1 W2 W3 W4 WO wr W W5:World}{A A' F G:Nat->Prop}{R lo:Nat}{t l l':L}{wh n:Nat}{v v' vp:Value}
def PE(w:World)(x:Except (Nat×Nat) (List (List iV)))(e:Ending)(w':World):Prop:=Z5 w w'/\match x with
 | .ok ls=>∃v,e=.returned (.tuple #[v,.int .i64 0,.int .i64 0])/\QV (fun b=>w.heap.size<=b) w' v ls
 | .error y=>e=.returned (.tuple #[.slice none 0 0,.int .i64 y.1,.int .i64 y.2])
theorem VM(q:L):Ch.bad (bs q)<=q.length:=by have:=Ch.xU (bs q) ((bs q).size+1) 0 (aB _);rw[gS]at this;unfold Ch.bad;rw[gS];exact this
theorem Lb{a:Nat}(h1:w.heap[a]?=some (.cells #[.slice none 0 0] 74 (0,0)))(h2:w.heap[a+1]?=some (.cells #[.int .i64 0] 23 (0,0)))(h3:w.heap[a+1+1]?=some (.cells #[.int .i64 0] 3 (0,0)))(v:Value):∃W,((w.setCell ⟨a,0,none⟩ v).setCell ⟨a+1,0,none⟩ (.int .i64 0)).setCell ⟨a+1+1,0,none⟩ (.int .i64 0)=W/\W.heap[a]?=some (.cells #[v] 74 (0,0))/\W.heap[a+1]?=some (.cells #[.int .i64 0] 23 (0,0))/\W.heap[a+1+1]?=some (.cells #[.int .i64 0] 3 (0,0))/\
  (w.setCell ⟨a,0,none⟩ v).heap[a+1]?=some (.cells #[.int .i64 0] 23 (0,0))/\((w.setCell ⟨a,0,none⟩ v).setCell ⟨a+1,0,none⟩ (.int .i64 0)).heap[a+1+1]?=some (.cells #[.int .i64 0] 3 (0,0))/\Fr (fun k=>k=a\/k=a+1\/k=a+1+1) w W:=by
 have b1:=(ak w ⟨a,0,none⟩ v (a+1) (show a+1≠a by omega)).trans h2;have c1:=(ak w ⟨a,0,none⟩ v (a+1+1) (show a+1+1≠a by omega)).trans h3;have c2:=(ak (w.setCell ⟨a,0,none⟩ v) ⟨a+1,0,none⟩ (.int .i64 0) (a+1+1) (show a+1+1≠a+1 by omega)).trans c1;refine⟨_,rfl,?_,?_,ej (i:=0) c2 _,b1,c2,((Fr.set (Fr.set (Fr.refl (fun k=>k=a\/k=a+1\/k=a+1+1) w) ⟨a,0,none⟩ v (fun _=>Or.inl rfl)) ⟨a+1,0,none⟩ (.int .i64 0) (fun _=>Or.inr (Or.inl rfl))).set ⟨a+1+1,0,none⟩ (.int .i64 0) (fun _=>Or.inr (Or.inr rfl)))⟩
 ·rw[ak _ _ _ _ (show a≠a+1+1 by omega),ak _ _ _ _ (show a≠a+1 by omega)];exact ej (i:=0) h1 v
 ·rw[ak _ _ _ _ (show a+1≠a+1+1 by omega)];exact ej (i:=0) b1 _
theorem qf(q:L)(w:World):Z4 25 #[.string (bs q)] w (PE w (parse q)):=by
 have hz:=gS q;have YF:∀(fn:Fn) (first cap:Array Value) (w:World),(Instr.makeFunc fn first cap).run prog w=.ok (.func fn first cap) w:=fun _ _ _ _=>rfl;by_cases h5:500<q.length
 ·rw[parse,if_pos h5];have hd:decide ((500:Int)<(q.length:Int))=true:=by simp;omega
  have G4:decide (500<q.length)=true:=by simpa using h5
  generalize bs q=S at*
  generalize q.length=N at*
  go_enter_defers func25,ntmps25
  go_wp2;have hB:Z5 w (((w.alloc (.cells #[.slice none 0 0] 74)).alloc (.cells #[.int .i64 1] 23)).alloc (.cells #[.int .i64 0] 3)):=(((Below.refl _ w).alloc (au _) _).alloc (by simp) _).alloc (by simp;omega) _;simp[bodyPostD,Leaves,settle,results,results25,go_sem,PE,hB]
 ·rw[parse,if_neg h5];have hd:decide ((500:Int)<(q.length:Int))=false:=by simp;omega
  have G4:decide (500<q.length)=false:=by simpa using h5
  have hbl:=VM q;have HBD:Hid (∀W,Z4 47 #[.string (bs q)] W (Z7 (.int .i64 (Ch.bad (bs q))) W)):=fun W=>pV (bs q) W (by rw[hz];omega);have hsl:∀W,(Instr.slice 9 (.string (bs q)) none (some (.int .i64 (Ch.bad (bs q):Int))) none).run prog W=.ok (.string (bs (cutAt q))) W:=pY q (Ch.bad (bs q)) hbl;have zN:(cutAt q).length<=q.length:=by unfold cutAt;rw[bJ];omega
  have hcut:eo (cutAt q) q.length=AA q:=rfl;have HQ:Hid (∀W:World,Z4 48 #[ptr W.heap.size] (W.alloc (.cells #[.string (bs (cutAt q)),.int .i64 q.length,.int .i64 0,.int .i64 0] 125)) (Ends W.heap.size (cutAt q) q.length 0 (QV (fun b=>(W.alloc (.cells #[.string (bs (cutAt q)),.int .i64 q.length,.int .i64 0,.int .i64 0] 125)).heap.size<=b)) (W.alloc (.cells #[.string (bs (cutAt q)),.int .i64 q.length,.int .i64 0,.int .i64 0] 125)) (query (AA q) (cutAt q)))):=fun W=>by
   rw[<-hcut];refine Ow ⟨?_,aO _,zN,by omega,by omega⟩;have:=dT W (.cells #[.string (bs (cutAt q)),.int .i64 q.length,.int .i64 0,.int .i64 0] 125);simpa using this
  generalize Ch.bad (bs q)=BD at*
  generalize bs q=S at*
  generalize q.length=N at*
  generalize AA q=ct at*
  generalize cutAt q=t at*
  have Y0:Hid (∀W1:World,Below (w.heap.size+3) (((w.alloc (.cells #[.slice none 0 0] 74)).alloc (.cells #[.int .i64 0] 23)).alloc (.cells #[.int .i64 0] 3)) W1->W1.heap[w.heap.size]?=some (.cells #[.slice none 0 0] 74 (0,0))/\W1.heap[w.heap.size+1]?=some (.cells #[.int .i64 0] 23 (0,0))/\W1.heap[w.heap.size+1+1]?=some (.cells #[.int .i64 0] 3 (0,0))/\w.heap.size+3<=W1.heap.size/\Z5 w W1):=fun W1 hb=>by
   have h1:=dT (w.alloc (.cells #[.slice none 0 0] 74)) (.cells #[.int .i64 0] 23);have h2:=dT ((w.alloc (.cells #[.slice none 0 0] 74)).alloc (.cells #[.int .i64 0] 23)) (.cells #[.int .i64 0] 3);refine⟨?_,?_,?_,by have:=hb.size;simpa using this,((((Below.refl _ w).alloc (au _) _).alloc (by simp) _).alloc (by simp;omega) _).trans (eJ hb (by omega))⟩
   ·rw[hb.block _ (by omega),ay _ _ _ (by simp;omega),ay _ _ _ (by simp)];exact dT _ _
   ·rw[hb.block _ (by omega),ay _ _ _ (by simp)];simpa using h1
   ·rw[hb.block _ (by omega)];simpa using h2
  have HB3:Hid (∀W2 W3:World,Below (((w.alloc (.cells #[.slice none 0 0] 74)).alloc (.cells #[.int .i64 0] 23)).alloc (.cells #[.int .i64 0] 3)).heap.size (((w.alloc (.cells #[.slice none 0 0] 74)).alloc (.cells #[.int .i64 0] 23)).alloc (.cells #[.int .i64 0] 3)) W2->Fr (fun k=>k=W2.heap.size) (W2.alloc (.cells #[.string (bs t),.int .i64 N,.int .i64 0,.int .i64 0] 125)) W3->(W3.heap[w.heap.size]?=some (.cells #[.slice none 0 0] 74 (0,0))/\W3.heap[w.heap.size+1]?=some (.cells #[.int .i64 0] 23 (0,0))/\W3.heap[w.heap.size+1+1]?=some (.cells #[.int .i64 0] 3 (0,0)))/\w.heap.size+3<=W2.heap.size/\Z5 w W3):=fun W2 W3 hb f=>by
   obtain⟨h1,h2,h3,h4,h5⟩:=Y0.out W2 (by simpa using hb);have f2:Fr (fun k=>k=W2.heap.size) W2 W3:=((Fr.refl _ W2).alloc _).same f;exact⟨⟨(f2.block _ (by omega) (by omega)).trans h1,(f2.block _ (by omega) (by omega)).trans h2,(f2.block _ (by omega) (by omega)).trans h3⟩,h4,h5.trans (f2.up (K:=w.heap.size) (fun k e=>by omega) (by omega))⟩
  cases hx:query ct t with
  |error y=>
   rw[hx]at HQ;simp only;clear hx h5 hbl zN hcut
   go_enter_defers func25,ntmps25
   go_wp2_with(first|(go_at_call 47;refine(HBD.out _).mono ?_;rintro e w2 ⟨rfl,hb2⟩)|(go_at_call 48;refine(HQ.out _).mono ?_;rintro e w3 ⟨rfl,jC⟩));obtain⟨⟨h1,h2,h3⟩,hz2,hB⟩:=HB3.out _ _ hb2 jC;refine leaves_cons (f:=46) (args:=#[ptr w.heap.size,ptr (w.heap.size+1),ptr (w.heap.size+1+1)]) (by simp) (by simp[go_sem]) ?_;refine(La w.heap.size (w.heap.size+1) (w.heap.size+1+1) _ _ _ h1 h2 h3 (by omega) (by omega) (by omega)).mono ?_;rintro e u' w4 ⟨rfl,rfl,k1,k2,k3,f4⟩;have hB4:Z5 w w4:=hB.trans (f4.up (K:=w.heap.size) (fun k e=>by omega) hB.size);have c1:=cell_of (i:=0) k1 rfl;have c2:=cell_of (i:=0) k2 rfl;have c3:=cell_of (i:=0) k3 rfl;simp[Leaves,settle,results,results25,go_sem,c1,c2,c3,PE,hB4]
  |ok z=>
   obtain⟨ls,l1⟩:=z;rw[hx]at HQ;simp only;clear hx h5 hbl zN hcut
   go_enter_defers func25,ntmps25
   go_wp2_with(first|(go_at_call 47;refine(HBD.out _).mono ?_;rintro e w2 ⟨rfl,hb2⟩)|(go_at_call 48;refine(HQ.out _).mono ?_;rintro e w3 ⟨v3,rfl,qv3,sY,jC⟩;obtain⟨⟨h1,h2,h3⟩,hz2,hB⟩:=HB3.out _ _ hb2 jC;obtain⟨vi,vc,rfl⟩:=sl.shape qv3;have QVH:=a_ qv3;clear qv3;obtain⟨W4,UW,Ox,UX,h3',h2b,h3b,f4⟩:=Lb h1 h2 h3 (.slice vi ls.length vc);have x1:=cell_of (i:=0) h1 rfl;have y1:=d_ (i:=0) h1;have x2:=cell_of (i:=0) h2b rfl;have y2:=d_ (i:=0) h2b;have x3:=cell_of (i:=0) h3b rfl;have y3:=d_ (i:=0) h3b));refine leaves_cons (f:=46) (args:=#[ptr w.heap.size,ptr (w.heap.size+1),ptr (w.heap.size+1+1)]) (by simp) (by simp[go_sem]) ?_;refine(He w.heap.size (w.heap.size+1) (w.heap.size+1+1) _).mono ?_;rintro e u' w5 ⟨rfl,rfl,rfl⟩;have c1:=dX (.cells #[.int .i64 0,.int .i64 0] 122) (cell_of (i:=0) Ox rfl);have c2:=dX (.cells #[.int .i64 0,.int .i64 0] 122) (cell_of (i:=0) UX rfl);have c3:=dX (.cells #[.int .i64 0,.int .i64 0] 122) (cell_of (i:=0) h3' rfl);have f5:=f4.alloc (.cells #[.int .i64 0,.int .i64 0] 122);have hB5:Z5 w (W4.alloc (.cells #[.int .i64 0,.int .i64 0] 122)):=hB.trans (f5.up (K:=w.heap.size) (fun k e=>by omega) hB.size);have qv5:QV (fun b=>w.heap.size<=b) (W4.alloc (.cells #[.int .i64 0,.int .i64 0] 122)) (.slice vi ls.length vc) ls:=QS.move (fun b hb hl=>(fun(hb':w2.heap.size+1<=b)=>⟨by omega,f5.block b hl (by omega)⟩) (by simpa using hb)) QVH.out;simp[Leaves,settle,results,results25,go_sem,c1,c2,c3,PE,hB5,qv5]
end
end Go.Proofs.YtclgfepngpeifaaGreatDoor
