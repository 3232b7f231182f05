import Derived.Test.YtclgfepngpeifaaGreatDoorXA
import Derived.Test.YtclgfepngpeifaaGreatDoorXaw
import Derived.Test.YtclgfepngpeifaaGreatDoorXau
import Derived.Test.YtclgfepngpeifaaGreatDoorXak
set_option linter.unusedVariables false
set_option linter.unusedSimpArgs false
set_option maxHeartbeats 32000000
set_option maxRecDepth 100000
namespace Go.Proofs.YtclgfepngpeifaaGreatDoor
namespace K
open Go.RowKit Go.Maps Go.Lib Tryz
section
variable{A K K':Nat->Prop}{w w' w1:World}{nv ov:Value}{av kv:Nat->Value}{g:Gr}{Y:Nat}{er q:Int}
structure fW(A K:Nat->Prop)(Y:Nat)(w:World)(g:Gr)(er q:Int)(nv ov:Value)(av kv:Nat->Value):Prop where
 blk:w.heap[Y]?=some (.cells #[nv,ov,.int .i64 er,.int .i64 q] 68 (0,0))
 nodes:gX 120 212 A K w nv g.nodes av kv
 opens:w.ownsRow 0 3 1 ov g.stack.length (e8 g.stack.reverse)
 ji:∀k,ov.ownBlock=some k->K k/\nv.ownBlock≠some k/\∀i,i<g.nodes.length->(kv i).ownBlock≠some k
 nA:¬A Y
 nK:¬K Y
 rY:∀k,A k->¬K k
 lt:∀k,K k->k<w.heap.size
 sD:∀k,A k->k<w.heap.size
theorem fW.cell(h:fW A K Y w g er q nv ov av kv)(i:Nat){u:Value}(e:#[nv,ov,.int .i64 er,.int .i64 q][i]?=some u):w.cell? ⟨Y,i,none⟩=some u:=cell_of h.blk e
theorem dZ.Jt{W:World}{l:List Nd}(h:dZ w W)(hn:gX 120 212 A K w nv l av kv):gX 120 212 A K W nv l av kv:=hn.frame (fun k hk _=>h.keep k hk) (fun k hk _=>h.keep k hk) (fun _ _ x=>x)
theorem fW.keep{W:World}(h:fW A K Y w g er q nv ov av kv)(hM:dZ w W):fW A K Y W g er q nv ov av kv:=
 ⟨(hM.keep Y (dQ h.blk)).trans h.blk,hM.Jt h.nodes,dW h.opens fun k e=>hM.keep k (ej h.opens e),h.ji,h.nA,h.nK,h.rY,fun k x=>aq (h.lt k x) hM.size,fun k x=>aq (h.sD k x) hM.size⟩
theorem im(h:fW A K Y w g er q nv ov av kv)(e p:Int):
  Z4 24 #[Z8 Y,.int .i64 e,.int .i64 p] w fun en w'=>en=.returned (.tuple #[])/\fW A K Y w' g (if er=0 then e else er) (if er=0 then p else q) nv ov av kv/\Frame (fun k=>k=Y) w w':=by
 have c2:w.cell? ⟨Y,2,none⟩=some (.int .i64 er):=h.cell 2 rfl;have c3:w.cell? ⟨Y,3,none⟩=some (.int .i64 q):=h.cell 3 rfl;have f2:=dY (i:=2) h.blk;have f3:∀v,(w.setCell ⟨Y,2,none⟩ v).frozen? ⟨Y,3,none⟩=false:=fun v=>dY (i:=3) (eh (i:=2) h.blk v);have c3':∀v,(w.setCell ⟨Y,2,none⟩ v).cell? ⟨Y,3,none⟩=some (.int .i64 q):=fun v=>cell_of (eh (i:=2) h.blk v) rfl;have H:=a_ h;clear h;by_cases h0:er=0
 ·rw[if_pos h0,if_pos h0];have e0:(er==0)=true:=by simpa using h0
  clear h0;go_enter func24,ntmps24;go_wp2
  (try simp only[Exit.inBlock,Exit.then])
  first
  |(refine bP (aN rfl _ _ _) rfl ?_)
  |(refine aJ (aN rfl _ _ _) rfl ?_)
  have keep:∀b,b≠Y->((w.setCell ⟨Y,2,none⟩ (.int .i64 e)).setCell ⟨Y,3,none⟩ (.int .i64 p)).heap[b]?=w.heap[b]?:=fun b hb=>by rw[ak _ _ _ _ hb,ak _ _ _ _ hb]
  have hz:((w.setCell ⟨Y,2,none⟩ (.int .i64 e)).setCell ⟨Y,3,none⟩ (.int .i64 p)).heap.size=w.heap.size:=by simp[World.setCell]
  have h:=H.out;refine⟨rfl,⟨?_,h.nodes.frame (fun b _ hA=>keep b (fun e=>h.nA (by rw[<-e];exact hA))) (fun b _ hK=>keep b (fun e=>h.nK (by rw[<-e];exact hK))) (fun _ _ x=>x),dW h.opens fun k e=>keep k (fun x=>h.nK (by rw[<-x];exact(h.ji k e).1)),h.ji,h.nA,h.nK,h.rY,fun b hb=>by rw[hz];exact h.lt b hb,fun b hb=>by rw[hz];exact h.sD b hb⟩,⟨rfl,rfl,rfl,by rw[hz];exact au _,fun b _ hb=>keep b hb⟩⟩;rw[eh (eh h.blk _) _];rfl
 ·rw[if_neg h0,if_neg h0];have e0:(er==0)=false:=by simpa using h0
  clear h0;go_enter func24,ntmps24;go_wp2
  (try simp only[Exit.inBlock,Exit.then])
  first
  |(refine bP (aN rfl _ _ _) rfl ?_)
  |(refine aJ (aN rfl _ _ _) rfl ?_)
  exact⟨rfl,H.out,⟨rfl,rfl,rfl,au _,fun _ _ _=>rfl⟩⟩
theorem fW.top(h:fW A K Y w g er q nv ov av kv){k:Nat}{st:List Nat}(hs:g.stack=k::st):∃gO cO,ov=Z9 gO (st.length+1) cO/\w.cell? ⟨gO,st.length,none⟩=some (.int .i64 k)/\st.length+1<=maxLen:=by
 have ho:=h.opens;rw[hs]at ho;rcases ho.2 with⟨_,e⟩|⟨gO,cO,cur,e1,_,hg,h1,h2,h3,h4⟩
 ·simp at e
 ·refine⟨gO,cO,by rw[e1];rfl,?_,by simp only[aC]at h1;omega⟩;refine cell_of hg ?_;have h5:(e8 (k::st).reverse)[st.length]?=some (.int .i64 k):=by simp[e8]
  rw[<-h4,bR]at h5;split at h5
  ·simpa using h5
  ·cases h5
theorem l8(h:fW A K Y w g er q nv ov av kv):Z4 43 #[Z8 Y] w fun en w'=>en=.returned (.int .i64 (iD g.stack))/\dZ w w':=by
 cases hs:g.stack with
 |nil=>
  have c1:∃oo oc,w.cell? ⟨Y,1,none⟩=some (.slice oo 0 oc):=by
   have ho:=h.opens;rw[hs]at ho;obtain⟨oo,oc,e⟩:=dS ho;exact⟨oo,oc,by rw[<-show ov=.slice oo 0 oc from e];exact h.cell 1 rfl⟩
  obtain⟨oo,oc,c1⟩:=c1;clear h hs;go_enter func43,ntmps43;go_wp2;go_ret;exact⟨rfl,dZ.refl w⟩
 |cons k st=>
  obtain⟨gO,cO,e,x,hmx⟩:=h.top hs;have c1:w.cell? ⟨Y,1,none⟩=some (Z9 gO (st.length+1) cO):=by rw[<-e];exact h.cell 1 rfl
  have hl:(st.length:Int)+1<=9223372036854775807:=by have:maxLen=9223372036854775807:=rfl;omega
  generalize hM:st.length+1=M at c1;have e0:((M:Int)==0)=false:=by simp;omega
  have e0n:(M==0)=false:=by simp;omega
  have e0d:decide (M=0)=false:=by simp;omega
  have hw:IntKind.i64.wrap ((M:Int)-1)=(st.length:Int):=by rw[aM];omega
  have T6:wrap64 (st.length:Int)=(st.length:Int):=by unfold wrap64;omega
  have hlt:(st.length:Int)<M:=by omega
  have HM:=a_ hM;clear h hs e hM;go_enter func43,ntmps43;go_wp2_with fail;go_quiet(fail);go_wp2;go_ret;exact⟨rfl,(dZ.refl w).drewN _⟩
end
section
variable{A K K':Nat->Prop}{w w' w1 w2 W1:World}{nv ov v' a:Value}{av kv:Nat->Value}{g:Gr}{Y:Nat}{er q:Int}{n:Nd}
theorem QW:(prog.info? 120).map (fun i=>(i.zero,i.size,i.bytes))=some (some (.agg #[.string ⟨#[]⟩,.slice none 0 0,.string ⟨#[]⟩,.slice none 0 0,.int .i64 0]),5,88):=by kernel_rfl
theorem fW.Gn(h:fW A K Y w g er q nv ov av kv)(hK:∀k,k<w.heap.size->K k->K' k)(nK:¬K' Y)(rY:∀k,A k->¬K' k)(lt:∀k,K' k->k<w.heap.size):fW A K' Y w g er q nv ov av kv:=
 ⟨h.blk,h.nodes.frame (fun _ _ _=>rfl) (fun _ _ _=>rfl) hK,h.opens,fun k e=>⟨hK k (ej h.opens e) (h.ji k e).1,(h.ji k e).2⟩,h.nA,nK,rY,lt,h.sD⟩
theorem xd{o2:Obj}(h:fW A K Y w g er q nv ov av kv)(hM:dZ w W1)(ha:w.ownsRow 0 212 2 a n.attrs.length (d_ n.attrs))(mz:∀k,a.ownBlock=some k->A k)(hk:n.kids=[])
  (hg:(W1.drew.alloc o2).grownBy w2 nv.ownBlock) (ho:w2.ownsRow 0 120 5 v' (g.nodes.length+1) (eZ av kv 0 g.nodes++gM n a fh)) (hat:v'.ownBlock=nv.ownBlock\/v'.ownBlock=some (W1.drew.alloc o2).heap.size):
  fW A (Grow K w (w2.setCell ⟨Y,0,none⟩ v')) Y (w2.setCell ⟨Y,0,none⟩ v') ⟨g.nodes++[n],g.stack⟩ er q v' ov (upd av g.nodes.length a) (upd kv g.nodes.length fh)/\Frame (fun k=>k=Y\/K k) w (w2.setCell ⟨Y,0,none⟩ v')/\
  (∀b,w.heap.size<=b->b<W1.heap.size->(w2.setCell ⟨Y,0,none⟩ v').heap[b]?=W1.heap[b]?):=by
 have xz:=dQ h.blk;have DS:dZ w (W1.drew.alloc o2):=(hM.drewN 1).alloc o2;have hz:(W1.drew.alloc o2).heap.size=W1.heap.size+1:=by simp
 have hzw:=hM.size;have Z1:nv.ownBlock≠some Y:=fun e=>h.nK (h.nodes.nz Y e);have hp:=(DS.Jt h.nodes).push h.rY (fun k x=>aq (h.lt k x) DS.size) (fun k x=>aq (h.sD k x) DS.size) (dW ha fun k e=>DS.keep k (ej ha e)) mz hk hg ho hat;have hz2:w2.heap.size=(w2.setCell ⟨Y,0,none⟩ v').heap.size:=by simp[World.setCell]
 have zV:=hg.size;have keep:∀b,b<(W1.drew.alloc o2).heap.size->b≠Y->nv.ownBlock≠some b->(w2.setCell ⟨Y,0,none⟩ v').heap[b]?=(W1.drew.alloc o2).heap[b]?:=fun b hb h1 h2=>by rw[ak _ _ _ _ h1];exact hg.block b hb (fun e=>h2 e.symm)
 have hY2:w2.heap[Y]?=some (.cells #[nv,ov,.int .i64 er,.int .i64 q] 68 (0,0)):=by rw[hg.block Y (by omega) (fun e=>Z1 e.symm),DS.keep Y xz];exact h.blk
 have fr:Frame (fun k=>k=Y\/K k) w (w2.setCell ⟨Y,0,none⟩ v'):=⟨hg.os.trans DS.os,hg.tape.trans DS.tape,hg.output.trans DS.output,by omega,fun b hb hf=>by
  rw[keep b (by omega) (fun e=>hf (Or.inl e)) (fun e=>hf (Or.inr (h.nodes.nz b e)))];exact DS.keep b hb⟩
 refine⟨⟨?_,?_,?_,?_,h.nA,?_,?_,?_,fun k x=>by have:=h.sD k x;omega⟩,fr,?_⟩
 ·rw[eh hY2];rfl
 ·refine hp.frame (fun k _ x=>ak _ _ _ _ (fun e=>h.nA (by have e':k=Y:=e;rw[<-e'];exact x))) (fun k _ x=>ak _ _ _ _ (fun e=>?_)) (fun k hk x=>?_)
  ·have e':k=Y:=e;rcases x with x|x
   ·exact h.nK (by rw[<-e'];exact x)
   ·omega
  ·rcases x with x|x
   ·exact Or.inl x
   ·exact Or.inr ⟨by omega,hk⟩
 ·refine dW h.opens fun k e=>?_;have hl:=ej h.opens e;rw[keep k (by omega) (fun x=>h.nK (by rw[<-x];exact(h.ji k e).1)) (h.ji k e).2.1];exact DS.keep k hl
 ·intro k e;have hl:=ej h.opens e;refine⟨Or.inl (h.ji k e).1,?_,fun i hi=>?_⟩
  ·rcases hat with e2|e2
   ·rw[e2];exact(h.ji k e).2.1
   ·rw[e2];intro x;simp only[bK]at x;omega
  ·simp only[ax,aC,aI]at hi;by_cases h1:i=g.nodes.length
   ·subst h1;rw[upd_same];intro x;cases x
   ·rw[fl _ _ h1];exact(h.ji k e).2.2 i (by omega)
 ·rintro(x|x)
  ·exact h.nK x
  ·omega
 ·rintro k hA (x|x)
  ·exact h.rY k hA x
  ·have:=h.sD k hA;omega
 ·rintro k (x|x)
  ·have:=h.lt k x;omega
  ·exact x.2
 ·intro b h1 h2;rw[keep b (by omega) (by omega) (fun e=>by have:=h.lt b (h.nodes.nz b e);omega)];exact ay _ _ _ h2
theorem Ju{o:Obj}{k j gN nc:Nat}{m:Nd}(h:fW A K Y w g er q nv ov av kv)(hM:dZ w W1)(hm:g.nodes[k]?=some m)(pW:nv=Z9 gN g.nodes.length nc)
  (hg:(W1.alloc o).grownBy w2 (kv k).ownBlock) (ho:w2.ownsRow 0 3 1 v' (m.kids.length+1) (e8 m.kids++[.int .i64 j])) (hat:v'.ownBlock=(kv k).ownBlock\/v'.ownBlock=some (W1.alloc o).heap.size):
  fW A (Grow K w (w2.setCell ⟨gN,k*5+3,none⟩ v')) Y (w2.setCell ⟨gN,k*5+3,none⟩ v') ⟨fJ g.nodes k j,g.stack⟩ er q nv ov av (upd kv k v')/\Frame K w (w2.setCell ⟨gN,k*5+3,none⟩ v'):=by
 have xz:=dQ h.blk;have hk:k<g.nodes.length:=(List.getElem?_eq_some_iff.1 hm).1;have DS:dZ w (W1.alloc o):=hM.alloc o;have hz:(W1.alloc o).heap.size=W1.heap.size+1:=by simp
 have hzw:=hM.size;have Jh:K gN:=h.nodes.nz gN (by rw[pW];rfl);have hp:=(DS.Jt h.nodes).fJ (j:=j) h.rY (fun i x=>aq (h.lt i x) DS.size) (fun i x=>aq (h.sD i x) DS.size) pW hm hg ho hat;have hz2:w2.heap.size=(w2.setCell ⟨gN,k*5+3,none⟩ v').heap.size:=by simp[World.setCell]
 have zV:=hg.size;have keep:∀b,b<(W1.alloc o).heap.size->b≠gN->(kv k).ownBlock≠some b->(w2.setCell ⟨gN,k*5+3,none⟩ v').heap[b]?=(W1.alloc o).heap[b]?:=fun b hb h1 h2=>by rw[ak _ _ _ _ h1];exact hg.block b hb (fun e=>h2 e.symm)
 have fr:Frame K w (w2.setCell ⟨gN,k*5+3,none⟩ v'):=⟨hg.os.trans DS.os,hg.tape.trans DS.tape,hg.output.trans DS.output,by omega,fun b hb hf=>by
  rw[keep b (by omega) (fun e=>hf (by rw[e];exact Jh)) (fun e=>hf (h.nodes.my k b hk e).1)];exact DS.keep b hb⟩
 refine⟨⟨?_,?_,?_,?_,h.nA,?_,?_,?_,fun k x=>by have:=h.sD k x;omega⟩,fr⟩
 ·rw[fr.block Y xz h.nK];exact h.blk
 ·refine hp.frame (fun _ _ _=>rfl) (fun _ _ _=>rfl) (fun i hi x=>?_);rcases x with x|x
  ·exact Or.inl x
  ·exact Or.inr ⟨by omega,hi⟩
 ·refine dW h.opens fun i e=>?_;have hl:=ej h.opens e;rw[keep i (by omega) (fun x=>(h.ji i e).2.1 (by rw[pW,x];rfl)) ((h.ji i e).2.2 k hk)];exact DS.keep i hl
 ·intro i e;have hl:=ej h.opens e;refine⟨Or.inl (h.ji i e).1,(h.ji i e).2.1,fun i2 GU=>?_⟩;rw[fK]at GU;by_cases h1:i2=k
  ·subst h1;rw[upd_same];rcases hat with e2|e2
   ·rw[e2];exact(h.ji i e).2.2 i2 hk
   ·rw[e2];intro x;simp only[bK]at x;omega
  ·rw[fl _ _ h1];exact(h.ji i e).2.2 i2 GU
 ·rintro(x|x)
  ·exact h.nK x
  ·omega
 ·rintro i hA (x|x)
  ·exact h.rY i hA x
  ·have:=h.sD i hA;omega
 ·rintro i (x|x)
  ·have:=h.lt i x;omega
  ·exact x.2
end
section
variable{A K K':Nat->Prop}{w w' w1 w2 W1:World}{nv ov v' a:Value}{av kv:Nat->Value}{g:Gr}{Y:Nat}{er q:Int}{n:Nd}
theorem vq(w:World)(v:Value):∀j u,[v][j]?=some u->(w.alloc (.cells #[v] 3)).cell? ((⟨w.heap.size,0,none⟩:Addr).add j)=some u:=by
 intro j u hu;rw[cZ,aG,cell_of (bf w _) (v:=u)];rw[<-hu];simp
theorem xO(z:Int):∀u∈[Value.int .i64 z],u.oneCell'=true:=by
 intro u hu;simp only[bM,bB,cm]at hu;subst hu;rfl
theorem Gp{k:Nat}{st:List Nat}{m:Nd}{W3 w5:World}{o:Obj}{ki:Option Addr}{kc gN nc2:Nat}{v5:Value}{avx:Nat->Value}(h:fW A K Y w g er q nv ov av kv)(hs:g.stack=k::st)(hm:g.nodes[k]?=some m)
  (p1:fW A (Grow K w W3) Y W3 ⟨g.nodes++[{n with up:=(k:Int)}],g.stack⟩ er q (Z9 gN (g.nodes.length+1) nc2) ov avx (upd kv g.nodes.length fh)) (p2:Frame (fun k=>k=Y\/K k) w W3) (KA:(g.nodes++[{n with up:=(k:Int)}])[k]?=some m) (vC:kv k=.slice ki m.kids.length kc)
  (hg:(W3.drew.alloc o).grownBy w5 (Value.slice ki m.kids.length kc).ownBlock) (ho:w5.ownsRow 0 3 1 v5 (m.kids.length+1) (e8 m.kids++[.int .i64 g.nodes.length])) (hat:v5.ownBlock=(Value.slice ki m.kids.length kc).ownBlock\/v5.ownBlock=some (W3.drew.alloc o).heap.size):
  Ending.returned (.tuple #[])=Ending.returned (.tuple #[])/\∃jX je jQ,fW A (Grow K w (w5.setCell ⟨gN,k*5+3,none⟩ v5)) Y (w5.setCell ⟨gN,k*5+3,none⟩ v5) (g.put n) er q jX ov je jQ/\Frame (fun k=>k=Y\/K k) w (w5.setCell ⟨gN,k*5+3,none⟩ v5):=by
 have vS:k<g.nodes.length:=(List.getElem?_eq_some_iff.1 hm).1;have hku:(upd kv g.nodes.length fh) k=.slice ki m.kids.length kc:=by rw[fl _ _ (by omega)];exact vC
 have xz:=dQ h.blk;obtain⟨r1,r2⟩:=Ju (j:=g.nodes.length) (gN:=gN) (nc:=nc2) p1 ((dZ.refl W3).drewN 1) KA (by simp) (by rw[hku];exact hg) ho (by rw[hku];exact hat);have OG:=p2.size;have abR:=r2.size;have fr:Frame (fun k=>k=Y\/K k) w (w5.setCell ⟨gN,k*5+3,none⟩ v5):=⟨r2.os.trans p2.os,r2.tape.trans p2.tape,r2.output.trans p2.output,by omega,fun b hb hf=>by
  rw[r2.block b (by omega) (fun x=>by
   rcases x with x|x
   ·exact hf (Or.inr x)
   ·omega)]
  exact p2.block b hb hf⟩
 have Ji:g.put n=⟨fJ (g.nodes++[{n with up:=(k:Int)}]) k g.nodes.length,g.stack⟩:=by unfold Gr.put;rw[hs];simp only;rw[s7 _ _ _ _ vS]
 rw[Ji];refine⟨rfl,_,_,_,r1.Gn (fun b hb x=>?_) ?_ ?_ (iu h.lt fr.size),fr⟩
 ·rcases x with(x|x)|x
  ·exact Or.inl x
  ·exact Or.inr ⟨x.1,hb⟩
  ·exact Or.inr ⟨by omega,hb⟩
 ·rintro(x|x)
  ·exact h.nK x
  ·omega
 ·rintro b hA (x|x)
  ·exact h.rY b hA x
  ·have:=h.sD b hA;omega
theorem M9(h:fW A K Y w g er q nv ov av kv)(hs:g.stack=[])(n:Nd)(a:Value)(z:Int)(ha:w.ownsRow 0 212 2 a n.attrs.length (d_ n.attrs))(mz:∀k,a.ownBlock=some k->A k)(hn:n.kids=[])(hb:g.nodes.length<=17179869184):
  Z4 44 #[Z8 Y,.agg #[.string ⟨n.name.toArray⟩,a,.string ⟨n.text.toArray⟩,.slice none 0 0,.int .i64 z]] w fun en w'=>en=.returned (.tuple #[])/\∃jX je jQ,fW A (Grow K w w') Y w' (g.put n) er q jX ov je jQ/\Frame (fun k=>k=Y\/K k) w w':=by
 obtain⟨ai,ac,l9⟩:=dS ha;obtain⟨ni,nc,pW⟩:=dS h.nodes.row;subst l9;subst pW;have og:∀o:Obj,Z4 43 #[Z8 Y] (w.alloc o) fun en w'=>en=.returned (.int .i64 (-1))/\dZ (w.alloc o) w':=fun o=>by
  have:=l8 (h.keep ((dZ.refl w).alloc o));rw[hs]at this;exact this
 have xz:=dQ h.blk;have Z1:(Value.slice ni g.nodes.length nc).ownBlock≠some Y:=fun e=>h.nK (h.nodes.nz Y e);have hnB:(Value.slice ni g.nodes.length nc).ownBlock≠some w.heap.size:=fun e=>by have:=h.lt _ (h.nodes.nz _ e);omega
 obtain⟨i0,hi,hz0,hz1,hz2⟩:=aY QW;have zJ:=a_ og;have HA:=a_ ha;have G9:=a_ mz;have H:=a_ h;clear og h ha mz;go_enter func44,ntmps44;go_wp2_with fail;refine(zJ.out _).mono ?_;rintro e w1 ⟨rfl,m1⟩;have vr:w1.heap[w.heap.size]?=some (.cells #[.string ⟨n.name.toArray⟩,.slice ai (List.length n.attrs) ac,.string ⟨n.text.toArray⟩,.slice none 0 0,.int .i64 z] 120):=(m1.keep w.heap.size (by simp)).trans (dR w _);have b4:=cell_of (i:=4) vr rfl;have f4:=dY (i:=4) vr;have qy:=eh (i:=4) vr (.int .i64 (-1));have M_:dZ w w1:=((dZ.refl w).alloc _).trans m1;have hM:dZ w (w1.setCell ⟨w.heap.size,4,none⟩ (.int .i64 (-1))):=⟨M_.os,M_.tape,M_.output,by have:=M_.size;simpa [World.setCell]using this,fun b hb=>by rw[ak _ _ _ _ (show b≠w.heap.size by omega)];exact M_.keep b hb⟩
 have y0:(w1.setCell ⟨w.heap.size,4,none⟩ (.int .i64 (-1))).cell? ⟨Y,0,none⟩=some (.slice ni g.nodes.length nc):=(H.out.keep hM).cell 0 rfl;have HM:=a_ hM;have WW:=a_ qy;clear m1 M_ hM qy;go_wp2_with fail;clear b4 f4 y0;generalize w1.setCell ⟨w.heap.size,4,none⟩ (.int .i64 (-1))=W1 at*
 have eA:W1.heap[w.heap.size]?=some (.cells #[.string ⟨n.name.toArray⟩,.slice ai (List.length n.attrs) ac,.string ⟨n.text.toArray⟩,.slice none 0 0,.int .i64 (-1)] 120):=WW.out;have hr1:=H.out.keep HM.out;have n0:=cell_of (i:=0) eA rfl;have n1:=cell_of (i:=1) eA rfl;have n2:=cell_of (i:=2) eA rfl;have n3:=cell_of (i:=3) eA rfl;have n4:=cell_of (i:=4) eA rfl;have x0:W1.cell? ⟨Y,0,none⟩=some (.slice ni g.nodes.length nc):=hr1.cell 0 rfl;have ZS:∀o:Obj,(W1.alloc o).cell? ⟨Y,0,none⟩=some (.slice ni g.nodes.length nc):=fun o=>dV o x0;have hbl:w.heap.size<W1.heap.size:=dQ eA;have WX:=a_ hr1.blk;have DY:=a_ hr1.nodes.row;have wF:=a_ eA;have f0:=dY (i:=0) hr1.blk;clear eA hr1 vr;go_region_law
  (first|(
   refine eL rfl (.tmp 17) (.tmp 19) 26 rfl 120 i0 _ 5 88 underlying26 hi hz0 hz1 hz2 rfl (by decide) (.slice ni g.nodes.length nc) g.nodes.length (eZ av kv 0 g.nodes) (by simp[Act.eval,Act.put]) (DY.out.drew.alloc _) ⟨W1.heap.size,0,none⟩ 1 1 (gM {n with up:= -1} (.slice ai (List.length n.attrs) ac) fh) (by simp[Act.eval,Act.put]) rfl (xN _ _ _ _ _) (DL _ _ _ rfl rfl) (by unfold maxLen;omega) (by omega) ?_;intro v' w2 ho hg hat;obtain⟨sP,cap',rfl⟩:=dS ho;have hb1:=fF WX.out Z1 hg;have ZT:w2.cell? ⟨Y,0,none⟩=some (.slice ni g.nodes.length nc):=cell_of hb1 rfl;have ZU:=dY (i:=0) hb1;have HO:=a_ ho;have HG:=a_ hg;have sq:=a_ hat;clear ho hg hat hb1))
 all_goals
  obtain⟨p1,p2,p3⟩:=xd (n:={n with up:= -1}) H.out HM.out HA.out G9.out hn HG.out HO.out sq.out;have WY:(w2.setCell ⟨Y,0,none⟩ (.slice sP (g.nodes.length+1) cap')).heap[w.heap.size]?=some (.cells #[.string ⟨n.name.toArray⟩,.slice ai (List.length n.attrs) ac,.string ⟨n.text.toArray⟩,.slice none 0 0,.int .i64 (-1)] 120):=(p3 w.heap.size (au _) hbl).trans wF.out;have z4:=cell_of (i:=4) WY rfl;have P1:=a_ p1;have P2:=a_ p2;have Yy:=a_ WY;clear p1 p2 p3 WY ZT ZU n0 n1 n2 n3 n4 x0 ZS f0;go_wp2
  (try simp only[Exit.inBlock,Exit.then])
  first
  |(refine bP (aN rfl _ _ _) rfl ?_)
  |(refine aJ (aN rfl _ _ _) rfl ?_)
  have Ji:g.put n=⟨g.nodes++[{n with up:= -1}],g.stack⟩:=by unfold Gr.put;rw[hs]
  rw[Ji];exact⟨rfl,_,_,_,P1.out,P2.out⟩
theorem Na(h:fW A K Y w g er q nv ov av kv)(k:Nat)(st:List Nat)(m:Nd)(hs:g.stack=k::st)(hm:g.nodes[k]?=some m)(hb2:m.kids.length<=17179869184)(n:Nd)(a:Value)(z:Int)(ha:w.ownsRow 0 212 2 a n.attrs.length (d_ n.attrs))(mz:∀k,a.ownBlock=some k->A k)(hn:n.kids=[])(hb:g.nodes.length<=17179869184):
  Z4 44 #[Z8 Y,.agg #[.string ⟨n.name.toArray⟩,a,.string ⟨n.text.toArray⟩,.slice none 0 0,.int .i64 z]] w fun en w'=>en=.returned (.tuple #[])/\∃jX je jQ,fW A (Grow K w w') Y w' (g.put n) er q jX ov je jQ/\Frame (fun k=>k=Y\/K k) w w':=by
 obtain⟨ai,ac,l9⟩:=dS ha;obtain⟨ni,nc,pW⟩:=dS h.nodes.row;subst l9;subst pW;have og:∀o:Obj,Z4 43 #[Z8 Y] (w.alloc o) fun en w'=>en=.returned (.int .i64 ((k:Int)))/\dZ (w.alloc o) w':=fun o=>by
  have:=l8 (h.keep ((dZ.refl w).alloc o));rw[hs]at this;exact this
 have vS:k<g.nodes.length:=(List.getElem?_eq_some_iff.1 hm).1;obtain⟨j0,hj,Rt,ED,D3⟩:=aY uw;have xz:=dQ h.blk;have Z1:(Value.slice ni g.nodes.length nc).ownBlock≠some Y:=fun e=>h.nK (h.nodes.nz Y e);have hnB:(Value.slice ni g.nodes.length nc).ownBlock≠some w.heap.size:=fun e=>by have:=h.lt _ (h.nodes.nz _ e);omega
 obtain⟨i0,hi,hz0,hz1,hz2⟩:=aY QW;have zJ:=a_ og;have HA:=a_ ha;have G9:=a_ mz;have H:=a_ h;clear og h ha mz;go_enter func44,ntmps44;go_wp2_with fail;refine(zJ.out _).mono ?_;rintro e w1 ⟨rfl,m1⟩;have vr:w1.heap[w.heap.size]?=some (.cells #[.string ⟨n.name.toArray⟩,.slice ai (List.length n.attrs) ac,.string ⟨n.text.toArray⟩,.slice none 0 0,.int .i64 z] 120):=(m1.keep w.heap.size (by simp)).trans (dR w _);have b4:=cell_of (i:=4) vr rfl;have f4:=dY (i:=4) vr;have qy:=eh (i:=4) vr (.int .i64 ((k:Int)));have M_:dZ w w1:=((dZ.refl w).alloc _).trans m1;have hM:dZ w (w1.setCell ⟨w.heap.size,4,none⟩ (.int .i64 ((k:Int)))):=⟨M_.os,M_.tape,M_.output,by have:=M_.size;simpa [World.setCell]using this,fun b hb=>by rw[ak _ _ _ _ (show b≠w.heap.size by omega)];exact M_.keep b hb⟩
 have y0:(w1.setCell ⟨w.heap.size,4,none⟩ (.int .i64 ((k:Int)))).cell? ⟨Y,0,none⟩=some (.slice ni g.nodes.length nc):=(H.out.keep hM).cell 0 rfl;have HM:=a_ hM;have WW:=a_ qy;clear m1 M_ hM qy;go_wp2_with fail;clear b4 f4 y0;generalize w1.setCell ⟨w.heap.size,4,none⟩ (.int .i64 ((k:Int)))=W1 at*
 have eA:W1.heap[w.heap.size]?=some (.cells #[.string ⟨n.name.toArray⟩,.slice ai (List.length n.attrs) ac,.string ⟨n.text.toArray⟩,.slice none 0 0,.int .i64 ((k:Int))] 120):=WW.out;have hr1:=H.out.keep HM.out;have n0:=cell_of (i:=0) eA rfl;have n1:=cell_of (i:=1) eA rfl;have n2:=cell_of (i:=2) eA rfl;have n3:=cell_of (i:=3) eA rfl;have n4:=cell_of (i:=4) eA rfl;have x0:W1.cell? ⟨Y,0,none⟩=some (.slice ni g.nodes.length nc):=hr1.cell 0 rfl;have ZS:∀o:Obj,(W1.alloc o).cell? ⟨Y,0,none⟩=some (.slice ni g.nodes.length nc):=fun o=>dV o x0;have hbl:w.heap.size<W1.heap.size:=dQ eA;have WX:=a_ hr1.blk;have DY:=a_ hr1.nodes.row;have wF:=a_ eA;have f0:=dY (i:=0) hr1.blk;clear eA hr1 vr;go_region_law
  (first|(
   refine eL rfl (.tmp 17) (.tmp 19) 26 rfl 120 i0 _ 5 88 underlying26 hi hz0 hz1 hz2 rfl (by decide) (.slice ni g.nodes.length nc) g.nodes.length (eZ av kv 0 g.nodes) (by simp[Act.eval,Act.put]) (DY.out.drew.alloc _) ⟨W1.heap.size,0,none⟩ 1 1 (gM {n with up:=(k:Int)} (.slice ai (List.length n.attrs) ac) fh) (by simp[Act.eval,Act.put]) rfl (xN _ _ _ _ _) (DL _ _ _ rfl rfl) (by unfold maxLen;omega) (by omega) ?_;intro v' w2 ho hg hat;obtain⟨sP,cap',rfl⟩:=dS ho;have hb1:=fF WX.out Z1 hg;have ZT:w2.cell? ⟨Y,0,none⟩=some (.slice ni g.nodes.length nc):=cell_of hb1 rfl;have ZU:=dY (i:=0) hb1;have HO:=a_ ho;have HG:=a_ hg;have sq:=a_ hat;clear ho hg hat hb1))
 all_goals
  obtain⟨p1,p2,p3⟩:=xd (n:={n with up:=(k:Int)}) H.out HM.out HA.out G9.out hn HG.out HO.out sq.out;have WY:(w2.setCell ⟨Y,0,none⟩ (.slice sP (g.nodes.length+1) cap')).heap[w.heap.size]?=some (.cells #[.string ⟨n.name.toArray⟩,.slice ai (List.length n.attrs) ac,.string ⟨n.text.toArray⟩,.slice none 0 0,.int .i64 ((k:Int))] 120):=(p3 w.heap.size (au _) hbl).trans wF.out;have z4:=cell_of (i:=4) WY rfl;have P1:=a_ p1;have P2:=a_ p2;have Yy:=a_ WY;clear p1 p2 p3 WY ZT ZU n0 n1 n2 n3 n4 x0 ZS f0;go_wp2_with fail;generalize w2.setCell ⟨Y,0,none⟩ (.slice sP (g.nodes.length+1) cap')=W3 at*
  have KA:(g.nodes++[{n with up:=(k:Int)}])[k]?=some m:=by rw[aU vS];exact hm
  have AA:=P1.out.nodes.kid k m KA;obtain⟨gN,nc2,hv3,_,Jh,_,_,_,m3,_⟩:=P1.out.nodes.cells k m KA;rw[fl _ _ (by omega)]at m3 AA;obtain⟨ki,kc,vC⟩:=dS AA;rw[vC]at m3 AA;simp only[ax,aC,aI,aG]at hv3;obtain⟨hao,Oo⟩:sP=some ⟨gN,0,none⟩/\cap'=nc2:=by simpa using hv3
  subst hao;subst Oo;have y0:W3.cell? ⟨Y,0,none⟩=some (Z9 gN (g.nodes.length+1) cap'):=P1.out.cell 0 rfl;have Z2:∀o:Obj,(W3.alloc o).cell? ⟨Y,0,none⟩=some (Z9 gN (g.nodes.length+1) cap'):=fun o=>dV o y0;have z4a:∀o:Obj,(W3.alloc o).cell? ⟨w.heap.size,4,none⟩=some (.int .i64 k):=fun o=>dV o z4;have m3a:∀o:Obj,(W3.alloc o).cell? ⟨gN,k*5+3,none⟩=some (.slice ki m.kids.length kc):=fun o=>dV o m3;have XV:(k:Int)<((g.nodes.length+1:Nat):Int):=by omega
  have abS:(k:Int)<(g.nodes.length:Int)+1:=by omega
  have hkY:(Value.slice ki m.kids.length kc).ownBlock≠some Y:=fun e=>P1.out.nK (P1.out.nodes.my k Y (by simp only[ax];omega) (by rw[fl _ _ (by omega),vC];exact e)).1;have hkg:(Value.slice ki m.kids.length kc).ownBlock≠some gN:=fun e=>(P1.out.nodes.my k gN (by simp only[ax];omega) (by rw[fl _ _ (by omega),vC];exact e)).2 rfl;have hkB:(Value.slice ki m.kids.length kc).ownBlock≠some w.heap.size:=fun e=>by
   have h1:=H.out.nodes.my k w.heap.size vS (by rw[vC];exact e);have:=H.out.lt _ h1.1;omega
  obtain⟨cur,zW⟩:=fq P1.out.nodes.row (k:=gN) rfl;have hgY:gN≠Y:=fun e=>P1.out.nK (e▸Jh);have Xp:gN≠w.heap.size:=fun e=>by
   rcases sq.out with x|x
   ·exact hnB (by rw[<-x,<-e];rfl)
   ·have x':gN=W1.heap.size+1:=by simpa [Value.ownBlock]using x
    omega
  have HK3:=a_ AA;have Jk:=a_ zW;have Z3:=a_ P1.out.blk;have V6:=a_ vC;have vo:=a_ KA;clear AA zW vC KA hv3;refine wp_region_held_drew (S:=(fun W=>W.cell? ⟨Y,0,none⟩=some (Z9 gN (g.nodes.length+1) cap')/\W.cell? ⟨w.heap.size,4,none⟩=some (.int .i64 k))) (by kernel_rfl) ⟨y0,z4⟩ (fun hHeld=>?_);refine wpAnyH_take (i:=0) (v:=?_) rfl (by kernel_rfl) (by kernel_rfl) (by kernel_rfl) (fun _ _ _ h=>h) (Or.inl ⟨by rfl,?_⟩) (by assumption) ?_
  rotate_left
  ·(intro w hSw;(try dsimp only at hSw);go_simp;(try with_reducible rfl))
  (try simp only[Act.put,ae,af,aj])
  refine wpAnyH_take (i:=1) (v:=?_) rfl (by kernel_rfl) (by kernel_rfl) (by kernel_rfl) (fun _ _ _ h=>h) (Or.inl ⟨by rfl,?_⟩) (by assumption) ?_
  rotate_left
  ·(intro w hSw;(try dsimp only at hSw);go_simp;(try with_reducible rfl))
  (try simp only[Act.put,ae,af,aj])
  refine wpAnyH_take (i:=2) (v:=?_) rfl (by kernel_rfl) (by kernel_rfl) (by kernel_rfl) (fun _ _ _ h=>h) (Or.inl ⟨by rfl,?_⟩) (by assumption) ?_
  rotate_left
  ·(intro w hSw;(try dsimp only at hSw);go_simp;(try with_reducible rfl))
  (try simp only[Act.put,ae,af,aj])
  refine wpAnyH_take (i:=3) (v:=?_) rfl (by kernel_rfl) (by kernel_rfl) (by kernel_rfl) (fun _ _ _ h=>h) (Or.inl ⟨by rfl,?_⟩) (by assumption) ?_
  rotate_left
  ·(intro w hSw;(try dsimp only at hSw);go_simp;(try with_reducible rfl))
  (try simp only[Act.put,ae,af,aj])
  refine wpAnyH_take (i:=4) (v:=?_) rfl (by kernel_rfl) (by kernel_rfl) (by kernel_rfl) (fun _ _ _ h=>h) (Or.inl ⟨by rfl,?_⟩) (by assumption) ?_
  rotate_left
  ·(intro w hSw;(try dsimp only at hSw);go_simp;(try with_reducible rfl))
  (try simp only[Act.put,ae,af,aj])
  refine wpAnyH_take (i:=5) (v:=?_) rfl (by kernel_rfl) (by kernel_rfl) (by kernel_rfl) (fun _ _ _ h=>h) (Or.inl ⟨by rfl,?_⟩) (by assumption) ?_
  rotate_left
  ·(intro w hSw;(try dsimp only at hSw);go_simp;(try with_reducible rfl))
  (try simp only[Act.put,ae,af,aj])
  refine wpAnyH_take (i:=6) (v:=?_) rfl (by kernel_rfl) (by kernel_rfl) (by kernel_rfl) (fun _ _ _ h=>h) (Or.inl ⟨by rfl,?_⟩) (by assumption) ?_
  rotate_left
  ·(intro w hSw;(try dsimp only at hSw);go_simp;(try with_reducible rfl))
  (try simp only[Act.put,ae,af,aj])
  refine wpAnyH_take (i:=7) (v:=?_) rfl (by kernel_rfl) (by kernel_rfl) (by kernel_rfl) (fun _ _ _ h=>h) (Or.inl ⟨by rfl,?_⟩) (by assumption) ?_
  rotate_left
  ·(intro w hSw;(try dsimp only at hSw);go_simp;(try with_reducible rfl))
  (try simp only[Act.put,ae,af,aj])
  refine wpAnyH_take (i:=8) (v:=?_) rfl (by kernel_rfl) (by kernel_rfl) (by kernel_rfl) (fun _ _ _ h=>h) (Or.inl ⟨by rfl,?_⟩) (by assumption) ?_
  rotate_left
  ·(intro w hSw;(try dsimp only at hSw);go_simp;(try with_reducible rfl))
  (try simp only[Act.put,ae,af,aj])
  refine wpAnyH_take (i:=9) (v:=?_) rfl (by kernel_rfl) (by kernel_rfl) (by kernel_rfl) (fun _ _ _ h=>h) (Or.inl ⟨by rfl,?_⟩) (by assumption) ?_
  rotate_left
  ·(intro w hSw;(try dsimp only at hSw);go_simp;(try with_reducible rfl))
  (try simp only[Act.put,ae,af,aj])
  refine wpAnyH_take (i:=10) (v:=?_) rfl (by kernel_rfl) (by kernel_rfl) (by kernel_rfl) (fun _ _ _ h=>h) (Or.inl ⟨by rfl,?_⟩) (by assumption) ?_
  rotate_left
  ·(intro w hSw;(try dsimp only at hSw);go_simp;(try with_reducible rfl))
  (try simp only[Act.put,ae,af,aj])
  refine wpAnyH_take (i:=11) (v:=?_) rfl (by kernel_rfl) (by kernel_rfl) (by kernel_rfl) (fun _ _ _ h=>h) (Or.inl ⟨by rfl,?_⟩) (by assumption) ?_
  rotate_left
  ·(intro w hSw;(try dsimp only at hSw);go_simp;(try with_reducible rfl))
  (try simp only[Act.put,ae,af,aj])
  refine wpAnyH_take (i:=12) (v:=?_) rfl (by kernel_rfl) (by kernel_rfl) (by kernel_rfl) (fun _ _ _ h=>h) (Or.inl ⟨by rfl,?_⟩) (by assumption) ?_
  rotate_left
  ·(intro w hSw;(try dsimp only at hSw);go_simp;(try with_reducible rfl))
  (try simp only[Act.put,ae,af,aj])
  refine wpAnyH_take (i:=13) (v:=?_) rfl (by kernel_rfl) (by kernel_rfl) (by kernel_rfl) (fun _ _ _ h=>h) (Or.inl ⟨by rfl,?_⟩) (by assumption) ?_
  rotate_left
  ·(intro w hSw;(try dsimp only at hSw);go_simp;(try with_reducible rfl))
  (try simp only[Act.put,ae,af,aj])
  refine wpAnyH_take (i:=15) (v:=?_) rfl (by kernel_rfl) (by kernel_rfl) (by kernel_rfl) (fun _ _ _ h=>h) (Or.inl ⟨by rfl,?_⟩) (by assumption) ?_
  rotate_left
  ·(intro w hSw;(try dsimp only at hSw);go_simp;(try with_reducible rfl))
  (try simp only[Act.put,ae,af,aj])
  refine wpAnyH_ready (rs:=[14,16]) (by kernel_rfl) (by simp) ?_;refine AllReadyH.cons rfl (fun K hK=>?_) (AllReadyH.cons rfl (fun K hK=>?_) AllReadyH.nil)
  ·go_simp
   refine hK.out _ _ ⟨y0,z4⟩ (fun hHeld=>?_);clear hK K
   (try simp only[Act.put,ae,af,aj])
   refine wpAnyH_ready (rs:=[16]) (by kernel_rfl) (by simp) ?_;refine AllReadyH.cons rfl (fun K hK=>?_) AllReadyH.nil
   go_simp
   refine hK.out _ _ ⟨Z2 _,z4a _⟩ (fun hHeld=>?_);clear hK K
   (try simp only[Act.put,ae,af,aj])
   refine wpAnyH_ready (rs:=[17]) (by kernel_rfl) (by simp) ?_;refine AllReadyH.cons rfl (fun K hK=>?_) AllReadyH.nil;refine eL rfl (.tmp 40) (.tmp 42) 31 rfl 3 j0 _ 1 8 underlying31 hj Rt ED D3 rfl (by decide) (.slice ki m.kids.length kc) m.kids.length (e8 m.kids) (by simp[Act.eval,Act.put]) (HK3.out.drew.alloc _) ⟨W3.heap.size,0,none⟩ 1 1 [.int .i64 g.nodes.length] (by simp[Act.eval,Act.put]) rfl (vq _ _) (xO _) (by unfold maxLen;omega) (by omega) ?_;intro v' w5 ho hg hat;obtain⟨ao5,aba,rfl⟩:=dS ho;have Z_:=fF Z3.out hkY hg;have mh:=fF Yy.out hkB hg;have WZ:=fF Jk.out hkg hg;have y0':w5.cell? ⟨Y,0,none⟩=some (Z9 gN (g.nodes.length+1) cap'):=cell_of Z_ rfl;have z4':w5.cell? ⟨w.heap.size,4,none⟩=some (.int .i64 k):=cell_of mh rfl;have y0s:∀u,(w5.setCell ⟨gN,k*5+3,none⟩ u).cell? ⟨Y,0,none⟩=some (Z9 gN (g.nodes.length+1) cap'):=fun u=>(ar (ak _ _ _ _ (fun e=>hgY e.symm))).trans y0';have z4s:∀u,(w5.setCell ⟨gN,k*5+3,none⟩ u).cell? ⟨w.heap.size,4,none⟩=some (.int .i64 k):=fun u=>(ar (ak _ _ _ _ (fun e=>Xp e.symm))).trans z4';have m3':w5.cell? ⟨gN,k*5+3,none⟩=some (.slice ki m.kids.length kc):=(ar (by rw[WZ,Jk.out])).trans m3;have f3':=dY (i:=k*5+3) WZ;have HO5:=a_ ho;have HG5:=a_ hg;have W9:=a_ hat;clear ho hg hat Z_ mh WZ;refine hK.out _ _ ⟨y0',z4'⟩ (fun hHeld=>?_);clear hK K
   (try simp only[Act.put,ae,af,aj])
   refine wpAnyH_take (i:=18) (v:=?_) rfl (by kernel_rfl) (by kernel_rfl) (by kernel_rfl) (fun _ _ _ h=>h) (Or.inl ⟨by rfl,?_⟩) (by assumption) ?_
   rotate_left
   ·(intro w hSw;(try dsimp only at hSw);go_simp;(try with_reducible rfl))
   (try simp only[Act.put,ae,af,aj])
   refine wpAnyH_take (i:=19) (v:=?_) rfl (by kernel_rfl) (by kernel_rfl) (by kernel_rfl) (fun _ _ _ h=>h) (Or.inl ⟨by rfl,?_⟩) (by assumption) ?_
   rotate_left
   ·(intro w hSw;(try dsimp only at hSw);go_simp;(try with_reducible rfl))
   (try simp only[Act.put,ae,af,aj])
   refine wpAnyH_ready (rs:=[20]) (by kernel_rfl) (by simp) ?_;refine AllReadyH.cons rfl (fun K hK=>?_) AllReadyH.nil
   go_simp
   refine hK.out _ _ ⟨y0s _,z4s _⟩ (fun hHeld=>?_);clear hK K
   (try simp only[Act.put,ae,af,aj])
   refine wpAnyH_done (by kernel_rfl) ?_ _;go_wp2
   (try simp only[Exit.inBlock,Exit.then])
   first
   |(refine bP (aN rfl _ _ _) rfl ?_)
   |(refine aJ (aN rfl _ _ _) rfl ?_)
   obtain⟨q1,q2,q3,q4,q5,q6⟩:=Gp H.out hs hm P1.out P2.out vo.out V6.out HG5.out HO5.out W9.out;first|exact⟨q1,q2,q3,q4,q5,q6⟩|exact⟨q1,⟨q2,q3,q4,q5⟩,q6⟩
  ·go_simp
   refine hK.out _ _ ⟨Z2 _,z4a _⟩ (fun hHeld=>?_);clear hK K
   (try simp only[Act.put,ae,af,aj])
   refine wpAnyH_ready (rs:=[14]) (by kernel_rfl) (by simp) ?_;refine AllReadyH.cons rfl (fun K hK=>?_) AllReadyH.nil
   go_simp
   refine hK.out _ _ ⟨Z2 _,z4a _⟩ (fun hHeld=>?_);clear hK K
   (try simp only[Act.put,ae,af,aj])
   refine wpAnyH_ready (rs:=[17]) (by kernel_rfl) (by simp) ?_;refine AllReadyH.cons rfl (fun K hK=>?_) AllReadyH.nil;refine eL rfl (.tmp 40) (.tmp 42) 31 rfl 3 j0 _ 1 8 underlying31 hj Rt ED D3 rfl (by decide) (.slice ki m.kids.length kc) m.kids.length (e8 m.kids) (by simp[Act.eval,Act.put]) (HK3.out.drew.alloc _) ⟨W3.heap.size,0,none⟩ 1 1 [.int .i64 g.nodes.length] (by simp[Act.eval,Act.put]) rfl (vq _ _) (xO _) (by unfold maxLen;omega) (by omega) ?_;intro v' w5 ho hg hat;obtain⟨ao5,aba,rfl⟩:=dS ho;have Z_:=fF Z3.out hkY hg;have mh:=fF Yy.out hkB hg;have WZ:=fF Jk.out hkg hg;have y0':w5.cell? ⟨Y,0,none⟩=some (Z9 gN (g.nodes.length+1) cap'):=cell_of Z_ rfl;have z4':w5.cell? ⟨w.heap.size,4,none⟩=some (.int .i64 k):=cell_of mh rfl;have y0s:∀u,(w5.setCell ⟨gN,k*5+3,none⟩ u).cell? ⟨Y,0,none⟩=some (Z9 gN (g.nodes.length+1) cap'):=fun u=>(ar (ak _ _ _ _ (fun e=>hgY e.symm))).trans y0';have z4s:∀u,(w5.setCell ⟨gN,k*5+3,none⟩ u).cell? ⟨w.heap.size,4,none⟩=some (.int .i64 k):=fun u=>(ar (ak _ _ _ _ (fun e=>Xp e.symm))).trans z4';have m3':w5.cell? ⟨gN,k*5+3,none⟩=some (.slice ki m.kids.length kc):=(ar (by rw[WZ,Jk.out])).trans m3;have f3':=dY (i:=k*5+3) WZ;have HO5:=a_ ho;have HG5:=a_ hg;have W9:=a_ hat;clear ho hg hat Z_ mh WZ;refine hK.out _ _ ⟨y0',z4'⟩ (fun hHeld=>?_);clear hK K
   (try simp only[Act.put,ae,af,aj])
   refine wpAnyH_take (i:=18) (v:=?_) rfl (by kernel_rfl) (by kernel_rfl) (by kernel_rfl) (fun _ _ _ h=>h) (Or.inl ⟨by rfl,?_⟩) (by assumption) ?_
   rotate_left
   ·(intro w hSw;(try dsimp only at hSw);go_simp;(try with_reducible rfl))
   (try simp only[Act.put,ae,af,aj])
   refine wpAnyH_take (i:=19) (v:=?_) rfl (by kernel_rfl) (by kernel_rfl) (by kernel_rfl) (fun _ _ _ h=>h) (Or.inl ⟨by rfl,?_⟩) (by assumption) ?_
   rotate_left
   ·(intro w hSw;(try dsimp only at hSw);go_simp;(try with_reducible rfl))
   (try simp only[Act.put,ae,af,aj])
   refine wpAnyH_ready (rs:=[20]) (by kernel_rfl) (by simp) ?_;refine AllReadyH.cons rfl (fun K hK=>?_) AllReadyH.nil
   go_simp
   refine hK.out _ _ ⟨y0s _,z4s _⟩ (fun hHeld=>?_);clear hK K
   (try simp only[Act.put,ae,af,aj])
   refine wpAnyH_done (by kernel_rfl) ?_ _;go_wp2
   (try simp only[Exit.inBlock,Exit.then])
   first
   |(refine bP (aN rfl _ _ _) rfl ?_)
   |(refine aJ (aN rfl _ _ _) rfl ?_)
   obtain⟨q1,q2,q3,q4,q5,q6⟩:=Gp H.out hs hm P1.out P2.out vo.out V6.out HG5.out HO5.out W9.out;first|exact⟨q1,q2,q3,q4,q5,q6⟩|exact⟨q1,⟨q2,q3,q4,q5⟩,q6⟩
end
section
variable{A K K':Nat->Prop}{w w' w1 w2 W1:World}{nv ov v' a:Value}{av kv:Nat->Value}{g:Gr}{Y:Nat}{er q:Int}{n:Nd}
theorem DT(h:fW A K Y w g er q nv ov av kv)(wf:g.Wf)(hk:lD g)(n:Nd)(a:Value)(z:Int)(ha:w.ownsRow 0 212 2 a n.attrs.length (d_ n.attrs))(mz:∀k,a.ownBlock=some k->A k)(hn:n.kids=[])(hb:g.nodes.length<=17179869184):
  Z4 44 #[Z8 Y,.agg #[.string ⟨n.name.toArray⟩,a,.string ⟨n.text.toArray⟩,.slice none 0 0,.int .i64 z]] w fun en w'=>en=.returned (.tuple #[])/\∃jX je jQ,fW A (Grow K w w') Y w' (g.put n) er q jX ov je jQ/\Frame (fun k=>k=Y\/K k) w w':=by
 cases hs:g.stack with
 |nil=>exact M9 h hs n a z ha mz hn hb
 |cons k st=>
  obtain⟨m,hm,_,_⟩:=wf.top hs;exact Na h k st m hs hm (aw (hk k m hm) hb) n a z ha mz hn hb
theorem wH(s:ByteArray)(w:World)(hz:s.size<=9223372036854775807):Z4 45 #[.string s] w (Z6 (.bool (s.data.toList.all fun c=>iQ c.toNat)) w):=by
 go_enter func45,ntmps45;go_wp2_with fail;go_loopw [3] (fun iv wr=>∃i:Nat,iv=.int .i64 i/\i<=s.size/\wr=w/\((s.data.toList.take i).all fun c=>iQ c.toNat)=true) (fun iv _=>s.size-(RowKit.intOf iv).toNat)
 case atStart=>exact⟨0,rfl,aB _,rfl,rfl⟩
 case round=>
  obtain⟨i,rfl,hi,hwr,hall⟩:=hrel;have abb:=hwr.symm;clear hwr;subst abb;by_cases hlt:i<s.size
  ·have hdec:decide ((i:Int)<s.size)=true:=by simp;omega
   have Gi:decide (i<s.size)=true:=by simp;omega
   have Nw:(i:Int)<s.size:=by omega
   have hl:s.data.toList.length=s.size:=by simp
   have hget:s.data.toList[i]'(by omega)=s[i]:=by simp[ByteArray.getElem_eq_getElem_data]
   have hbl:=yJ (s[i]).toNat (bw _) w;have QX:s.data.toList.take (i+1)=s.data.toList.take i++[s[i]]:=by rw[<-hget];exact dM (by omega)
   cases Nb:iQ (s[i]).toNat
   ·have QY:(s.data.toList.all fun c=>iQ c.toNat)=false:=by
     rw[Bool.eq_false_iff];intro h;have h2:=List.all_eq_true.1 h (s[i]) (by rw[<-hget];exact bQ _);rw[Nb]at h2;cases h2
    rw[Nb]at hbl;have HF:=a_ QY;have TH:=a_ hbl;clear QY hbl QX hget hall;go_wp2_with fail;refine TH.out.mono ?_;rintro e wx ⟨rfl,hwx⟩;have T7:=hwx.symm;clear hwx;subst T7;go_wp2;go_ret;exact⟨by rw[HF.out];rfl,rfl⟩
   ·have U5:((s.data.toList.take (i+1)).all fun c=>iQ c.toNat)=true:=by
     rw[QX,List.all_append,hall];simp[Nb]
    rw[Nb]at hbl;have HN:=a_ U5;have TH:=a_ hbl;clear U5 hbl QX hget hall;go_wp2_with fail;refine TH.out.mono ?_;rintro e wx ⟨rfl,hwx⟩;have T7:=hwx.symm;clear hwx;subst T7;go_wp2
    go_roundw
    case rel=>exact⟨i+1,by simp,by omega,by first|rfl|trivial,HN.out⟩
    case measure=>simp only[RowKit.intOf];omega
  ·have hdec:decide ((i:Int)<s.size)=false:=by simp;omega
   have Gi:decide (i<s.size)=false:=by simp;omega
   have he:i=s.size:=by omega
   have hl:s.data.toList.length=s.size:=by simp
   rw[he,<-hl,bZ]at hall;have WV:=a_ hall;clear hall;go_wp2;go_ret;exact⟨by rw[WV.out];rfl,rfl⟩
end
section
variable{A K K':Nat->Prop}{w w' w1 w2 W1:World}{nv ov v' a:Value}{av kv:Nat->Value}{g:Gr}{Y:Nat}{er q:Int}{n:Nd}
structure BR(A K:Nat->Prop)(Y:Nat)(w:World)(g:Gr)(er q:Int):Prop where
 ex:∃nv ov av kv,fW A K Y w g er q nv ov av kv
 kids:lD g
 wf:g.Wf
theorem BR.keep{W:World}(h:BR A K Y w g er q)(hM:dZ w W):BR A K Y W g er q:=by
 obtain⟨⟨nv,ov,av,kv,h1⟩,h3,h4⟩:=h;exact⟨⟨nv,ov,av,kv,h1.keep hM⟩,h3,h4⟩
def q8(g:Gr)(er q:Int)(t:eX):Gr×Int×Int:=if er≠0 then(g,er,q)else if(g.take t).1≠0 then(g,(g.take t).1,t.at_)else((g.take t).2,0,q)
def Kt(A K:Nat->Prop)(Y:Nat)(w:World)(x:Gr×Int×Int)(e:Ending)(w':World):Prop:=e=.returned (.tuple #[])/\BR A (Grow K w w') Y w' x.1 x.2.1 x.2.2/\Frame (fun k=>k=Y\/K k) w w'
theorem Nc(h:fW A K Y w g er q nv ov av kv)(he:er≠0)(t:eX)(ai:Option Addr)(an ac:Nat):
  Z4 23 #[Z8 Y,.agg #[.int .i64 t.kind,.string ⟨t.name.toArray⟩,.slice ai an ac,.string ⟨t.text.toArray⟩,.int .i64 t.at_]] w fun e w'=>e=.returned (.tuple #[])/\dZ w w':=by
 have c2:∀o:Obj,(w.alloc o).cell? ⟨Y,2,none⟩=some (.int .i64 er):=fun o=>dV o (h.cell 2 rfl);have e0:(er !=0)=true:=by simpa using he
 clear h he;go_enter func23,ntmps23;go_wp2
 (try simp only[Exit.inBlock,Exit.then])
 first
 |(refine bP (aN rfl _ _ _) rfl ?_)
 |(refine aJ (aN rfl _ _ _) rfl ?_)
 exact⟨rfl,(dZ.refl w).alloc _⟩
theorem nt{F:Nat->Prop}(hM:dZ w w1)(fr:Frame F w1 w2):Frame F w w2:=hM.frame.trans' fr
theorem Jv(h:fW A K Y w g 0 q nv ov av kv)(t:eX)(hs:g.stack=[])(hn:g.nodes≠[])(ai:Option Addr)(an ac:Nat):Z4 23 #[Z8 Y,.agg #[.int .i64 1,.string ⟨t.name.toArray⟩,.slice ai an ac,.string ⟨t.text.toArray⟩,.int .i64 t.at_]] w fun e w'=>e=.returned (.tuple #[])/\fW A K Y w' g 7 t.at_ nv ov av kv/\Frame (fun k=>k=Y) w w':=by
 obtain⟨ni,nc,pW⟩:=dS h.nodes.row;obtain⟨oi,oc,hov⟩:=dS h.opens;subst pW;subst hov;have k8:iD g.stack= -1:=by rw[hs];rfl
 have hl:decide (0<g.nodes.length)=true:=by
  cases hg:g.nodes with
  |nil=>exact absurd hg hn
  |cons a l=>simp
 clear hs hn;have og:∀o:Obj,Z4 43 #[Z8 Y] (w.alloc o) fun en w'=>en=.returned (.int .i64 (-1))/\dZ (w.alloc o) w':=fun o=>by
  have:=l8 (h.keep ((dZ.refl w).alloc o));rw[k8]at this;exact this
 have c2:∀o:Obj,(w.alloc o).cell? ⟨Y,2,none⟩=some (.int .i64 0):=fun o=>dV o (h.cell 2 rfl);have zJ:=a_ og;have H:=a_ h;clear og h k8;go_enter func23,ntmps23;go_wp2_with fail;refine(zJ.out _).mono ?_;rintro e w1 ⟨rfl,m1⟩;have hM:dZ w w1:=((dZ.refl w).alloc _).trans m1;have eA:w1.heap[w.heap.size]?=some (.cells #[.int .i64 1,.string ⟨t.name.toArray⟩,.slice ai an ac,.string ⟨t.text.toArray⟩,.int .i64 t.at_] 72):=(m1.keep w.heap.size (by simp)).trans (dR w _);have r1:=H.out.keep hM;have d0:w1.cell? ⟨Y,0,none⟩=some (.slice ni g.nodes.length nc):=r1.cell 0 rfl;have d1:w1.cell? ⟨Y,1,none⟩=some (.slice oi g.stack.length oc):=r1.cell 1 rfl;have b0:=cell_of (i:=0) eA rfl;have b1:=cell_of (i:=1) eA rfl;have b2:=cell_of (i:=2) eA rfl;have b3:=cell_of (i:=3) eA rfl;have b4:=cell_of (i:=4) eA rfl;have HM:=a_ hM;have wF:=a_ eA;have R1:=a_ r1;clear r1 hM eA m1;have nO:=fun e p=>im R1.out e p;have HF:=a_ nO;clear nO;go_wp2_with(first|(go_at_call 24;refine(HF.out _ _).mono ?_;rintro e w2 ⟨rfl,r2,f2⟩;have R2:=a_ r2;have F2:=a_ f2;clear r2 f2))
 (try simp only[Exit.inBlock,Exit.then])
 first
 |(refine bP (aN rfl _ _ _) rfl ?_)
 |(refine aJ (aN rfl _ _ _) rfl ?_)
 exact⟨rfl,R2.out,nt (by first|exact HM.out|exact HM.out.drewN _) F2.out⟩
theorem Jw(h:fW A K Y w g 0 q nv ov av kv)(t:eX)(k:Nat)(st:List Nat)(hs:g.stack=k::st)(hd:30<=g.stack.length)(ai:Option Addr)(an ac:Nat):Z4 23 #[Z8 Y,.agg #[.int .i64 1,.string ⟨t.name.toArray⟩,.slice ai an ac,.string ⟨t.text.toArray⟩,.int .i64 t.at_]] w fun e w'=>e=.returned (.tuple #[])/\fW A K Y w' g 8 t.at_ nv ov av kv/\Frame (fun k=>k=Y) w w':=by
 obtain⟨ni,nc,pW⟩:=dS h.nodes.row;obtain⟨oi,oc,hov⟩:=dS h.opens;subst pW;subst hov;have k8:iD g.stack=(k:Int):=by rw[hs];rfl
 have hd1:decide (30<=g.stack.length)=true:=by simp;omega
 have G2:¬((g.stack.length:Int)<30):=by omega
 have hd3:(30:Int)<=(g.stack.length:Int):=by omega
 have UO:¬((k:Int)<0):=by omega
 clear hs hd;have og:∀o:Obj,Z4 43 #[Z8 Y] (w.alloc o) fun en w'=>en=.returned (.int .i64 ((k:Int)))/\dZ (w.alloc o) w':=fun o=>by
  have:=l8 (h.keep ((dZ.refl w).alloc o));rw[k8]at this;exact this
 have c2:∀o:Obj,(w.alloc o).cell? ⟨Y,2,none⟩=some (.int .i64 0):=fun o=>dV o (h.cell 2 rfl);have zJ:=a_ og;have H:=a_ h;clear og h k8;go_enter func23,ntmps23;go_wp2_with fail;refine(zJ.out _).mono ?_;rintro e w1 ⟨rfl,m1⟩;have hM:dZ w w1:=((dZ.refl w).alloc _).trans m1;have eA:w1.heap[w.heap.size]?=some (.cells #[.int .i64 1,.string ⟨t.name.toArray⟩,.slice ai an ac,.string ⟨t.text.toArray⟩,.int .i64 t.at_] 72):=(m1.keep w.heap.size (by simp)).trans (dR w _);have r1:=H.out.keep hM;have d0:w1.cell? ⟨Y,0,none⟩=some (.slice ni g.nodes.length nc):=r1.cell 0 rfl;have d1:w1.cell? ⟨Y,1,none⟩=some (.slice oi g.stack.length oc):=r1.cell 1 rfl;have b0:=cell_of (i:=0) eA rfl;have b1:=cell_of (i:=1) eA rfl;have b2:=cell_of (i:=2) eA rfl;have b3:=cell_of (i:=3) eA rfl;have b4:=cell_of (i:=4) eA rfl;have HM:=a_ hM;have wF:=a_ eA;have R1:=a_ r1;clear r1 hM eA m1;have nO:=fun e p=>im R1.out e p;have HF:=a_ nO;clear nO;go_wp2_with(first|(go_at_call 24;refine(HF.out _ _).mono ?_;rintro e w2 ⟨rfl,r2,f2⟩;have R2:=a_ r2;have F2:=a_ f2;clear r2 f2))
 (try simp only[Exit.inBlock,Exit.then])
 first
 |(refine bP (aN rfl _ _ _) rfl ?_)
 |(refine aJ (aN rfl _ _ _) rfl ?_)
 exact⟨rfl,R2.out,nt (by first|exact HM.out|exact HM.out.drewN _) F2.out⟩
theorem Jy(h:fW A K Y w g 0 q nv ov av kv)(t:eX)(hs:g.stack=[])(ai:Option Addr)(an ac:Nat):Z4 23 #[Z8 Y,.agg #[.int .i64 2,.string ⟨t.name.toArray⟩,.slice ai an ac,.string ⟨t.text.toArray⟩,.int .i64 t.at_]] w fun e w'=>e=.returned (.tuple #[])/\fW A K Y w' g 6 t.at_ nv ov av kv/\Frame (fun k=>k=Y) w w':=by
 obtain⟨ni,nc,pW⟩:=dS h.nodes.row;obtain⟨oi,oc,hov⟩:=dS h.opens;subst pW;subst hov;have k8:iD g.stack= -1:=by rw[hs];rfl
 clear hs;have og:∀o:Obj,Z4 43 #[Z8 Y] (w.alloc o) fun en w'=>en=.returned (.int .i64 (-1))/\dZ (w.alloc o) w':=fun o=>by
  have:=l8 (h.keep ((dZ.refl w).alloc o));rw[k8]at this;exact this
 have c2:∀o:Obj,(w.alloc o).cell? ⟨Y,2,none⟩=some (.int .i64 0):=fun o=>dV o (h.cell 2 rfl);have zJ:=a_ og;have H:=a_ h;clear og h k8;go_enter func23,ntmps23;go_wp2_with fail;refine(zJ.out _).mono ?_;rintro e w1 ⟨rfl,m1⟩;have hM:dZ w w1:=((dZ.refl w).alloc _).trans m1;have eA:w1.heap[w.heap.size]?=some (.cells #[.int .i64 2,.string ⟨t.name.toArray⟩,.slice ai an ac,.string ⟨t.text.toArray⟩,.int .i64 t.at_] 72):=(m1.keep w.heap.size (by simp)).trans (dR w _);have r1:=H.out.keep hM;have d0:w1.cell? ⟨Y,0,none⟩=some (.slice ni g.nodes.length nc):=r1.cell 0 rfl;have d1:w1.cell? ⟨Y,1,none⟩=some (.slice oi g.stack.length oc):=r1.cell 1 rfl;have b0:=cell_of (i:=0) eA rfl;have b1:=cell_of (i:=1) eA rfl;have b2:=cell_of (i:=2) eA rfl;have b3:=cell_of (i:=3) eA rfl;have b4:=cell_of (i:=4) eA rfl;have HM:=a_ hM;have wF:=a_ eA;have R1:=a_ r1;clear r1 hM eA m1;have nO:=fun nq e p=>im (R1.out.keep ((dZ.refl w1).drewN nq)) e p;have HF:=a_ nO;clear nO;go_wp2_with fail;go_quiet(fail);go_wp2_with(first|(go_at_call 24;refine(HF.out _ _ _).mono ?_;rintro e w2 ⟨rfl,r2,f2⟩;have R2:=a_ r2;have F2:=a_ f2;clear r2 f2))
 (try simp only[Exit.inBlock,Exit.then])
 first
 |(refine bP (aN rfl _ _ _) rfl ?_)
 |(refine aJ (aN rfl _ _ _) rfl ?_)
 exact⟨rfl,R2.out,nt (HM.out.drewN _) F2.out⟩
theorem Gq(h:fW A K Y w g 0 q nv ov av kv)(t:eX)(k:Nat)(st:List Nat)(m:Nd)(hs:g.stack=k::st)(hm:g.nodes[k]?=some m)(hne:m.name≠t.name)(ai:Option Addr)(an ac:Nat):Z4 23 #[Z8 Y,.agg #[.int .i64 2,.string ⟨t.name.toArray⟩,.slice ai an ac,.string ⟨t.text.toArray⟩,.int .i64 t.at_]] w fun e w'=>e=.returned (.tuple #[])/\fW A K Y w' g 6 t.at_ nv ov av kv/\Frame (fun k=>k=Y) w w':=by
 obtain⟨gN,nc,pW,hmx,Jh,m0,_⟩:=h.nodes.cells k m hm;obtain⟨oi,oc,hov⟩:=dS h.opens;subst pW;subst hov;have k8:iD g.stack=(k:Int):=by rw[hs];rfl
 have vS:k<g.nodes.length:=(List.getElem?_eq_some_iff.1 hm).1;have XV:(k:Int)<g.nodes.length:=by omega
 have UO:¬((k:Int)<0):=by omega
 have ri:(m.name==t.name)=false:=by simpa using hne
 have sw:gN<w.heap.size:=aD w _ m0;have M0:=a_ m0;clear hs hm hne m0;have og:∀o:Obj,Z4 43 #[Z8 Y] (w.alloc o) fun en w'=>en=.returned (.int .i64 ((k:Int)))/\dZ (w.alloc o) w':=fun o=>by
  have:=l8 (h.keep ((dZ.refl w).alloc o));rw[k8]at this;exact this
 have c2:∀o:Obj,(w.alloc o).cell? ⟨Y,2,none⟩=some (.int .i64 0):=fun o=>dV o (h.cell 2 rfl);have zJ:=a_ og;have H:=a_ h;clear og h k8;go_enter func23,ntmps23;go_wp2_with fail;refine(zJ.out _).mono ?_;rintro e w1 ⟨rfl,m1⟩;have hM:dZ w w1:=((dZ.refl w).alloc _).trans m1;have eA:w1.heap[w.heap.size]?=some (.cells #[.int .i64 2,.string ⟨t.name.toArray⟩,.slice ai an ac,.string ⟨t.text.toArray⟩,.int .i64 t.at_] 72):=(m1.keep w.heap.size (by simp)).trans (dR w _);have r1:=H.out.keep hM;have d0:w1.cell? ⟨Y,0,none⟩=some (Z9 gN g.nodes.length nc):=r1.cell 0 rfl;have d1:w1.cell? ⟨Y,1,none⟩=some (.slice oi g.stack.length oc):=r1.cell 1 rfl;have b0:=cell_of (i:=0) eA rfl;have b1:=cell_of (i:=1) eA rfl;have b2:=cell_of (i:=2) eA rfl;have b3:=cell_of (i:=3) eA rfl;have b4:=cell_of (i:=4) eA rfl;have HM:=a_ hM;have wF:=a_ eA;have R1:=a_ r1;clear r1 hM eA m1;have e0:w1.cell? ⟨gN,k*5,none⟩=some (.string ⟨m.name.toArray⟩):=(ar (HM.out.keep gN sw)).trans M0.out;have nO:=fun nq e p=>im (R1.out.keep ((dZ.refl w1).drewN nq)) e p;have HF:=a_ nO;clear nO;go_wp2_with fail;go_quiet(fail);go_wp2_with(first|(go_at_call 24;refine(HF.out _ _ _).mono ?_;rintro e w2 ⟨rfl,r2,f2⟩;have R2:=a_ r2;have F2:=a_ f2;clear r2 f2))
 (try simp only[Exit.inBlock,Exit.then])
 first
 |(refine bP (aN rfl _ _ _) rfl ?_)
 |(refine aJ (aN rfl _ _ _) rfl ?_)
 exact⟨rfl,R2.out,nt (HM.out.drewN _) F2.out⟩
theorem xA(h:fW A K Y w g 0 q nv ov av kv)(t:eX)(ny:t.kind≠1)(hk2:t.kind≠2)(hs:g.stack=[])(hbl:gC t.text=true)(hz:t.text.length<=9223372036854775807)(ai:Option Addr)(an ac:Nat):Z4 23 #[Z8 Y,.agg #[.int .i64 t.kind,.string ⟨t.name.toArray⟩,.slice ai an ac,.string ⟨t.text.toArray⟩,.int .i64 t.at_]] w fun e w'=>e=.returned (.tuple #[])/\dZ w w':=by
 obtain⟨ni,nc,pW⟩:=dS h.nodes.row;obtain⟨oi,oc,hov⟩:=dS h.opens;subst pW;subst hov;have k8:iD g.stack= -1:=by rw[hs];rfl
 have Nb:∀W,Z4 45 #[.string ⟨t.text.toArray⟩] W (Z6 (.bool true) W):=fun W=>by
  have h1:=wH ⟨t.text.toArray⟩ W (by simpa [ByteArray.size]using hz);have h2:((⟨t.text.toArray⟩:ByteArray).data.toList.all fun c=>iQ c.toNat)=true:=by
   have h3:(⟨t.text.toArray⟩:ByteArray).data.toList=t.text:=by simp
   rw[h3];unfold gC at hbl;simpa using hbl
  rw[h2]at h1;exact h1
 have HBV:=a_ Nb;have e1:(t.kind==1)=false:=by simpa using ny
 have e2:(t.kind==2)=false:=by simpa using hk2
 clear hs hbl Nb ny hk2 hz;have og:∀o:Obj,Z4 43 #[Z8 Y] (w.alloc o) fun en w'=>en=.returned (.int .i64 (-1))/\dZ (w.alloc o) w':=fun o=>by
  have:=l8 (h.keep ((dZ.refl w).alloc o));rw[k8]at this;exact this
 have c2:∀o:Obj,(w.alloc o).cell? ⟨Y,2,none⟩=some (.int .i64 0):=fun o=>dV o (h.cell 2 rfl);have zJ:=a_ og;have H:=a_ h;clear og h k8;go_enter func23,ntmps23;go_wp2_with fail;refine(zJ.out _).mono ?_;rintro e w1 ⟨rfl,m1⟩;have hM:dZ w w1:=((dZ.refl w).alloc _).trans m1;have eA:w1.heap[w.heap.size]?=some (.cells #[.int .i64 t.kind,.string ⟨t.name.toArray⟩,.slice ai an ac,.string ⟨t.text.toArray⟩,.int .i64 t.at_] 72):=(m1.keep w.heap.size (by simp)).trans (dR w _);have r1:=H.out.keep hM;have d0:w1.cell? ⟨Y,0,none⟩=some (.slice ni g.nodes.length nc):=r1.cell 0 rfl;have d1:w1.cell? ⟨Y,1,none⟩=some (.slice oi g.stack.length oc):=r1.cell 1 rfl;have b0:=cell_of (i:=0) eA rfl;have b1:=cell_of (i:=1) eA rfl;have b2:=cell_of (i:=2) eA rfl;have b3:=cell_of (i:=3) eA rfl;have b4:=cell_of (i:=4) eA rfl;have HM:=a_ hM;have wF:=a_ eA;have R1:=a_ r1;clear r1 hM eA m1;go_wp2_with(first|(go_at_call 45;refine(HBV.out _).mono ?_;rintro e wx ⟨rfl,hwx⟩;have T7:=hwx.symm;clear hwx;subst T7))
 (try simp only[Exit.inBlock,Exit.then])
 first
 |(refine bP (aN rfl _ _ _) rfl ?_)
 |(refine aJ (aN rfl _ _ _) rfl ?_)
 exact⟨rfl,HM.out⟩
theorem AE(h:fW A K Y w g 0 q nv ov av kv)(t:eX)(ny:t.kind≠1)(hk2:t.kind≠2)(hs:g.stack=[])(hbl:¬gC t.text=true)(hz:t.text.length<=9223372036854775807)(ai:Option Addr)(an ac:Nat):Z4 23 #[Z8 Y,.agg #[.int .i64 t.kind,.string ⟨t.name.toArray⟩,.slice ai an ac,.string ⟨t.text.toArray⟩,.int .i64 t.at_]] w fun e w'=>e=.returned (.tuple #[])/\fW A K Y w' g 7 t.at_ nv ov av kv/\Frame (fun k=>k=Y) w w':=by
 obtain⟨ni,nc,pW⟩:=dS h.nodes.row;obtain⟨oi,oc,hov⟩:=dS h.opens;subst pW;subst hov;have k8:iD g.stack= -1:=by rw[hs];rfl
 have Nb:∀W,Z4 45 #[.string ⟨t.text.toArray⟩] W (Z6 (.bool false) W):=fun W=>by
  have h1:=wH ⟨t.text.toArray⟩ W (by simpa [ByteArray.size]using hz);have h2:((⟨t.text.toArray⟩:ByteArray).data.toList.all fun c=>iQ c.toNat)=false:=by
   have h3:(⟨t.text.toArray⟩:ByteArray).data.toList=t.text:=by simp
   rw[h3];unfold gC at hbl;simpa using hbl
  rw[h2]at h1;exact h1
 have HBV:=a_ Nb;have e1:(t.kind==1)=false:=by simpa using ny
 have e2:(t.kind==2)=false:=by simpa using hk2
 clear hs hbl Nb ny hk2 hz;have og:∀o:Obj,Z4 43 #[Z8 Y] (w.alloc o) fun en w'=>en=.returned (.int .i64 (-1))/\dZ (w.alloc o) w':=fun o=>by
  have:=l8 (h.keep ((dZ.refl w).alloc o));rw[k8]at this;exact this
 have c2:∀o:Obj,(w.alloc o).cell? ⟨Y,2,none⟩=some (.int .i64 0):=fun o=>dV o (h.cell 2 rfl);have zJ:=a_ og;have H:=a_ h;clear og h k8;go_enter func23,ntmps23;go_wp2_with fail;refine(zJ.out _).mono ?_;rintro e w1 ⟨rfl,m1⟩;have hM:dZ w w1:=((dZ.refl w).alloc _).trans m1;have eA:w1.heap[w.heap.size]?=some (.cells #[.int .i64 t.kind,.string ⟨t.name.toArray⟩,.slice ai an ac,.string ⟨t.text.toArray⟩,.int .i64 t.at_] 72):=(m1.keep w.heap.size (by simp)).trans (dR w _);have r1:=H.out.keep hM;have d0:w1.cell? ⟨Y,0,none⟩=some (.slice ni g.nodes.length nc):=r1.cell 0 rfl;have d1:w1.cell? ⟨Y,1,none⟩=some (.slice oi g.stack.length oc):=r1.cell 1 rfl;have b0:=cell_of (i:=0) eA rfl;have b1:=cell_of (i:=1) eA rfl;have b2:=cell_of (i:=2) eA rfl;have b3:=cell_of (i:=3) eA rfl;have b4:=cell_of (i:=4) eA rfl;have HM:=a_ hM;have wF:=a_ eA;have R1:=a_ r1;clear r1 hM eA m1;have nO:=fun e p=>im R1.out e p;have HF:=a_ nO;clear nO;go_wp2_with(first|(go_at_call 24;refine(HF.out _ _).mono ?_;rintro e w2 ⟨rfl,r2,f2⟩;have R2:=a_ r2;have F2:=a_ f2;clear r2 f2)|(go_at_call 45;refine(HBV.out _).mono ?_;rintro e wx ⟨rfl,hwx⟩;have T7:=hwx.symm;clear hwx;subst T7))
 (try simp only[Exit.inBlock,Exit.then])
 first
 |(refine bP (aN rfl _ _ _) rfl ?_)
 |(refine aJ (aN rfl _ _ _) rfl ?_)
 exact⟨rfl,R2.out,nt (by first|exact HM.out|exact HM.out.drewN _) F2.out⟩
end
section
variable{A K K':Nat->Prop}{w w' w1 w2 W1:World}{nv ov v' a:Value}{av kv:Nat->Value}{g:Gr}{Y:Nat}{er q:Int}{n:Nd}
theorem fW.lift{g':Gr}{jX vt:Value}{je jQ:Nat->Value}{er' q':Int}(h:fW A K Y w g er q nv ov av kv)(hM:dZ w w1)(r:fW A (Grow K w1 w2) Y w2 g' er' q' jX vt je jQ)(fr:Frame (fun k=>k=Y\/K k) w1 w2):
  fW A (Grow K w w2) Y w2 g' er' q' jX vt je jQ/\Frame (fun k=>k=Y\/K k) w w2:=by
 have hz:=hM.size;have hz2:=fr.size;have xz:=dQ h.blk;refine⟨r.Gn (fun k hk x=>?_) ?_ ?_ (iu h.lt (by omega)),hM.frame.trans' fr⟩
 ·rcases x with x|x
  ·exact Or.inl x
  ·exact Or.inr ⟨by omega,hk⟩
 ·rintro(x|x)
  ·exact h.nK x
  ·omega
 ·rintro k hA (x|x)
  ·exact h.rY k hA x
  ·have:=h.sD k hA;omega
theorem QZ(h:fW A K Y w g 0 q nv ov av kv)(wf:g.Wf)(NL:lD g)(hb:g.nodes.length<=17179869184)(t:eX)(ny:t.kind≠1)(hk2:t.kind≠2)(k:Nat)(st:List Nat)(hs:g.stack=k::st)(hz:t.text.length<=9223372036854775807)(ai:Option Addr)(an ac:Nat):
  Z4 23 #[Z8 Y,.agg #[.int .i64 t.kind,.string ⟨t.name.toArray⟩,.slice ai an ac,.string ⟨t.text.toArray⟩,.int .i64 t.at_]] w fun e w'=>e=.returned (.tuple #[])/\∃jX je jQ,fW A (Grow K w w') Y w' (g.put (ja t)) 0 q jX ov je jQ/\Frame (fun k=>k=Y\/K k) w w':=by
 have k8:iD g.stack=(k:Int):=by rw[hs];rfl
 have og:∀o:Obj,Z4 43 #[Z8 Y] (w.alloc o) fun en w'=>en=.returned (.int .i64 (k:Int))/\dZ (w.alloc o) w':=fun o=>by
  have:=l8 (h.keep ((dZ.refl w).alloc o));rw[k8]at this;exact this
 have Nb:∀W,∃bb,Z4 45 #[.string ⟨t.text.toArray⟩] W (Z6 (.bool bb) W):=fun W=>⟨_,wH ⟨t.text.toArray⟩ W (by simpa [ByteArray.size]using hz)⟩
 have c2:∀o:Obj,(w.alloc o).cell? ⟨Y,2,none⟩=some (.int .i64 0):=fun o=>dV o (h.cell 2 rfl);have e1:(t.kind==1)=false:=by simpa using ny
 have e2:(t.kind==2)=false:=by simpa using hk2
 have UO:¬((k:Int)<0):=by omega
 have zJ:=a_ og;have HBV:=a_ Nb;have HWF:=a_ wf;have HKD:=a_ NL;have H:=a_ h;clear og h k8 Nb ny hk2 hs wf NL;go_enter func23,ntmps23;go_wp2_with fail;refine(zJ.out _).mono ?_;rintro e w1 ⟨rfl,m1⟩;have hM:dZ w w1:=((dZ.refl w).alloc _).trans m1;have eA:w1.heap[w.heap.size]?=some (.cells #[.int .i64 t.kind,.string ⟨t.name.toArray⟩,.slice ai an ac,.string ⟨t.text.toArray⟩,.int .i64 t.at_] 72):=(m1.keep w.heap.size (by simp)).trans (dR w _);have b0:=cell_of (i:=0) eA rfl;have b3:=cell_of (i:=3) eA rfl;have hput:=DT (H.out.keep hM) HWF.out HKD.out (ja t) (.slice none 0 0) 0 ⟨rfl,Or.inl ⟨rfl,rfl⟩⟩ (fun k e=>by cases e) rfl hb;obtain⟨bb,hbl⟩:=HBV.out w1;have HP:=a_ hput;have HM:=a_ hM;have TH:=a_ hbl;clear hM eA m1 hput hbl;cases bb;all_goals
  go_wp2_with(first|(go_at_call 45;refine TH.out.mono ?_;rintro e wx ⟨rfl,hwx⟩;have T7:=hwx.symm;clear hwx;subst T7)|(go_at_call 44;refine HP.out.mono ?_;rintro e w2 ⟨rfl,jX,je,jQ,r2,f2⟩;have R2:=a_ r2;have F2:=a_ f2;clear r2 f2))
  (try simp only[Exit.inBlock,Exit.then])
  first
  |(refine bP (aN rfl _ _ _) rfl ?_)
  |(refine aJ (aN rfl _ _ _) rfl ?_)
  obtain⟨q1,q2⟩:=H.out.lift HM.out R2.out F2.out;first|exact⟨rfl,jX,je,jQ,q1,q2⟩|exact⟨rfl,⟨jX,je,jQ,q1⟩,q2⟩
theorem Q0{gO n c:Nat}{xs:List Value}(h:w.ownsRow 0 3 1 (Z9 gO (n+1) c) (n+1) xs):w.ownsRow 0 3 1 (Z9 gO n c) n (xs.take n):=by
 rcases h.2 with⟨e,_⟩|⟨g',c',cur,e,h0,hg,h1,h2,h3,h4⟩
 ·cases e
 ·cases e;refine⟨?_,Or.inr ⟨gO,c,cur,rfl,h0,hg,by omega,h2,h3,?_⟩⟩
  ·have:=h.1;rw[bI];omega
  ·rw[<-h4,List.take_take];congr 1;omega
theorem fW.W_(h:fW A K Y w g er q nv ov av kv)(vt:Value)(st:List Nat)(ho:w.ownsRow 0 3 1 vt st.length (e8 st.reverse))(hK:∀k,vt.ownBlock=some k->K k/\nv.ownBlock≠some k/\∀i,i<g.nodes.length->(kv i).ownBlock≠some k):
  fW A K Y (w.setCell ⟨Y,1,none⟩ vt) ⟨g.nodes,st⟩ er q nv vt av kv/\Frame (fun k=>k=Y) w (w.setCell ⟨Y,1,none⟩ vt):=by
 have keep:∀b,b≠Y->(w.setCell ⟨Y,1,none⟩ vt).heap[b]?=w.heap[b]?:=fun b hb=>ak _ _ _ _ hb;have hz:(w.setCell ⟨Y,1,none⟩ vt).heap.size=w.heap.size:=by simp[World.setCell]
 refine⟨⟨?_,h.nodes.frame (fun b _ hA=>keep b (fun e=>h.nA (by rw[<-e];exact hA))) (fun b _ hK=>keep b (fun e=>h.nK (by rw[<-e];exact hK))) (fun _ _ x=>x),dW ho fun k e=>keep k (fun x=>h.nK (by rw[<-x];exact(hK k e).1)),hK,h.nA,h.nK,h.rY,fun b hb=>by rw[hz];exact h.lt b hb,fun b hb=>by rw[hz];exact h.sD b hb⟩,⟨rfl,rfl,rfl,by rw[hz];exact au _,fun b _ hb=>keep b hb⟩⟩;rw[eh h.blk];rfl
theorem Nf(L M cO:Nat)(hM:L+1=M)(hc:L+1<=cO)(hm:(L:Int)+1<=9223372036854775807):IntKind.i64.wrap ((M:Int)-1)=(L:Int)/\wrap64 (L:Int)=(L:Int)/\(L:Int)<=cO/\L<=cO:=by refine⟨by rw[aM];omega,by unfold wrap64;omega,by omega,by omega⟩
theorem Jz(h:fW A K Y w g 0 q nv ov av kv)(t:eX)(k:Nat)(st:List Nat)(m:Nd)(hs:g.stack=k::st)(hm:g.nodes[k]?=some m)(hne:m.name=t.name)(ai:Option Addr)(an ac:Nat):
  Z4 23 #[Z8 Y,.agg #[.int .i64 2,.string ⟨t.name.toArray⟩,.slice ai an ac,.string ⟨t.text.toArray⟩,.int .i64 t.at_]] w fun e w'=>e=.returned (.tuple #[])/\∃vt,fW A K Y w' ⟨g.nodes,st⟩ 0 q nv vt av kv/\Frame (fun k=>k=Y) w w':=by
 obtain⟨gN,nc,pW,hmx,Jh,m0,_⟩:=h.nodes.cells k m hm;obtain⟨gO,cO,hov,_,zT⟩:=h.top hs;have hop:=h.opens;rw[hs,hov]at hop;have aaa:=Q0 hop;have Ez:st.length+1<=cO:=by
  rcases hop.2 with⟨e,_⟩|⟨g',c',cur,e,h0,hg,h1,h2,h3,h4⟩
  ·cases e
  ·cases e;exact h1
 subst pW;have k8:iD g.stack=(k:Int):=by rw[hs];rfl
 have vS:k<g.nodes.length:=(List.getElem?_eq_some_iff.1 hm).1;have XV:(k:Int)<g.nodes.length:=by omega
 have UO:¬((k:Int)<0):=by omega
 have abT:decide ((k:Int)<0)=false:=by simp
 have ri:(m.name==t.name)=true:=by simpa using hne
 have sw:gN<w.heap.size:=aD w _ m0;have og:∀o:Obj,Z4 43 #[Z8 Y] (w.alloc o) fun en w'=>en=.returned (.int .i64 (k:Int))/\dZ (w.alloc o) w':=fun o=>by
  have:=l8 (h.keep ((dZ.refl w).alloc o));rw[k8]at this;exact this
 have c2:∀o:Obj,(w.alloc o).cell? ⟨Y,2,none⟩=some (.int .i64 0):=fun o=>dV o (h.cell 2 rfl);have ZM:(st.length:Int)+1<=9223372036854775807:=by have:maxLen=9223372036854775807:=rfl;omega
 have zJ:=a_ og;have H:=a_ h;have M0:=a_ m0;have HOV:=a_ hov;clear og h k8 m0 hne hm hov hop;go_enter func23,ntmps23;go_wp2_with fail;refine(zJ.out _).mono ?_;rintro e w1 ⟨rfl,m1⟩;have hM:dZ w w1:=((dZ.refl w).alloc _).trans m1;have eA:w1.heap[w.heap.size]?=some (.cells #[.int .i64 2,.string ⟨t.name.toArray⟩,.slice ai an ac,.string ⟨t.text.toArray⟩,.int .i64 t.at_] 72):=(m1.keep w.heap.size (by simp)).trans (dR w _);have r1:=H.out.keep hM;have d0:w1.cell? ⟨Y,0,none⟩=some (Z9 gN g.nodes.length nc):=r1.cell 0 rfl;have d1:w1.cell? ⟨Y,1,none⟩=some (Z9 gO (st.length+1) cO):=by rw[<-HOV.out];exact r1.cell 1 rfl
 have b0:=cell_of (i:=0) eA rfl;have b1:=cell_of (i:=1) eA rfl;have e0:w1.cell? ⟨gN,k*5,none⟩=some (.string ⟨m.name.toArray⟩):=(ar (hM.keep gN sw)).trans M0.out;have f1:=dY (i:=1) r1.blk;generalize T8:st.length+1=M at d1;obtain⟨hw,T6,hLc,hLn⟩:=Nf st.length M cO T8 Ez ZM;have vo:=a_ T8;have XY:=a_ aaa;have abU:=a_ Ez;have HM:=a_ hM;have wF:=a_ eA;have R1:=a_ r1;clear r1 hM eA m1 T8 aaa Ez;generalize hLL:st.length=L at hw T6 hLc hLn;have HLL:=a_ hLL;clear hLL;go_wp2_with fail;go_quiet(fail);go_wp2_with fail;obtain⟨W2,hW2⟩:∃W,w1.drewN nq=W:=⟨_,rfl⟩
 rw[hW2];have tZ:dZ w1 W2:=by rw[<-hW2];exact(dZ.refl w1).drewN _
 have r2:=R1.out.keep tZ;have g1:W2.cell? ⟨Y,1,none⟩=some (Z9 gO M cO):=by rw[<-hW2];exact d1
 have f1':=dY (i:=1) r2.blk;have R2:=a_ r2;have HM2:=a_ tZ;clear r2 tZ hW2 d0 d1 e0 b0 b1 f1;go_region_law (fail);all_goals
  go_wp2
  (try simp only[Exit.inBlock,Exit.then])
  first
  |(refine bP (aN rfl _ _ _) rfl ?_)
  |(refine aJ (aN rfl _ _ _) rfl ?_)
  have hL:=HLL.out;subst hL;have l5:(e8 (k::st).reverse).take st.length=e8 st.reverse:=by
   rw[dO];unfold e8;rw[bE,List.take_append_of_le_length (by simp),bS (by simp)]
  have aab:dZ w W2:=HM.out.trans HM2.out;have abc:W2.ownsRow 0 3 1 (Z9 gO st.length cO) st.length (e8 st.reverse):=by
   rw[<-l5];exact dW XY.out fun b e=>aab.keep b (ej XY.out e)
  obtain⟨s1,s2⟩:=R2.out.W_ (Z9 gO st.length cO) st abc (fun b e=>H.out.ji b (by rw[HOV.out];exact e));have hD:dZ (W2.setCell ⟨Y,1,none⟩ (Z9 gO st.length cO)) (W2.setCell ⟨Y,1,none⟩ (Z9 gO st.length cO)).drew:=(dZ.refl _).drewN 1;exact⟨rfl,_,s1.keep hD,(aab.frame.trans' s2).trans' hD.frame⟩
end
section
variable{A K K':Nat->Prop}{w w' w1 w2 w3 W1:World}{nv ov v' a:Value}{av kv:Nat->Value}{g:Gr}{Y:Nat}{er q:Int}{n:Nd}
theorem Cl(l:Nat)(M:Nat)(hM:M=l+1)(hb:l<=17179869184):IntKind.i64.wrap ((M:Int)-1)=(l:Int)/\wrap64 (l:Int)=(l:Int):=by refine⟨by rw[aM];omega,by unfold wrap64;omega⟩
theorem xe{o:Obj}{k:Nat}(h:fW A K Y w g er q nv ov av kv)(hg:(w.drew.alloc o).grownBy w2 ov.ownBlock)(ho:w2.ownsRow 0 3 1 v' (g.stack.length+1) (e8 g.stack.reverse++[.int .i64 k]))(hat:v'.ownBlock=ov.ownBlock\/v'.ownBlock=some (w.drew.alloc o).heap.size):
  fW A (Grow K w (w2.setCell ⟨Y,1,none⟩ v')) Y (w2.setCell ⟨Y,1,none⟩ v') ⟨g.nodes,k::g.stack⟩ er q nv v' av kv/\Frame (fun k=>k=Y\/K k) w (w2.setCell ⟨Y,1,none⟩ v'):=by
 have xz:=dQ h.blk;have hM:dZ w (w.drew.alloc o):=((dZ.refl w).drewN 1).alloc o;have hz:(w.drew.alloc o).heap.size=w.heap.size+1:=by simp
 have zV:=hg.size;have hoY:ov.ownBlock≠some Y:=fun e=>h.nK (h.ji Y e).1
 --all but the row of open elements is kept
 have keep:∀b,b<w.heap.size->ov.ownBlock≠some b->w2.heap[b]?=w.heap[b]?:=fun b hb hne=>(hg.block b (by omega) (fun e=>hne e.symm)).trans (hM.keep b hb);have hvb:∀b,v'.ownBlock=some b->(K b\/b=w.heap.size+1)/\nv.ownBlock≠some b/\∀i,i<g.nodes.length->(kv i).ownBlock≠some b:=by
  intro b e;rcases hat with e2|e2
  ·rw[e2]at e;exact⟨Or.inl (h.ji b e).1,(h.ji b e).2⟩
  ·rw[e2]at e;have eb:b=w.heap.size+1:=by simp only[bK]at e;omega
   refine⟨Or.inr eb,fun x=>?_,fun i hi x=>?_⟩
   ·have:=h.lt b (h.nodes.nz b x);omega
   ·have:=h.lt b (h.nodes.my i b hi x).1;omega
 have h2:fW A (Grow K w w2) Y w2 ⟨g.nodes,k::g.stack⟩ er q nv v' av kv->True:=fun _=>trivial;have pX:gX 120 212 A (Grow K w w2) w2 nv g.nodes av kv:=by
  have row:w2.ownsRow 0 120 5 nv g.nodes.length (eZ av kv 0 g.nodes):=dW h.nodes.row fun b e=>keep b (ej h.nodes.row e) (fun x=>(h.ji b x).2.1 e);refine⟨row,fun b e=>Or.inl (h.nodes.nz b e),fun i m hi=>dW (h.nodes.attr i m hi) fun b e=>keep b (ej (h.nodes.attr i m hi) e) (fun x=>h.rY b (h.nodes.vg i b (List.getElem?_eq_some_iff.1 hi).1 e) (h.ji b x).1),h.nodes.vg,
   fun i m hi=>dW (h.nodes.kid i m hi) fun b e=>keep b (ej (h.nodes.kid i m hi) e) (fun x=>(h.ji b x).2.2 i (List.getElem?_eq_some_iff.1 hi).1 e),fun i b hi e=>⟨Or.inl (h.nodes.my i b hi e).1,(h.nodes.my i b hi e).2⟩,h.nodes.apart,h.nodes.TV⟩
 have qy:∀b,b≠Y->(w2.setCell ⟨Y,1,none⟩ v').heap[b]?=w2.heap[b]?:=fun b hb=>ak _ _ _ _ hb;have hzz:(w2.setCell ⟨Y,1,none⟩ v').heap.size=w2.heap.size:=by simp[World.setCell]
 have abd:¬Grow K w w2 Y:=by
  rintro(x|x)
  ·exact h.nK x
  ·omega
 have hKK:∀b,Grow K w w2 b->Grow K w (w2.setCell ⟨Y,1,none⟩ v') b:=fun b x=>x.elim Or.inl (fun y=>Or.inr ⟨y.1,by rw[hzz];exact y.2⟩);refine⟨⟨?_,pX.frame (fun b _ x=>qy b (fun e=>h.nA (by rw[<-e];exact x))) (fun b _ x=>qy b (fun e=>abd (by rw[<-e];exact x))) (fun b _ x=>hKK b x),?_,?_,h.nA,?_,?_,?_,fun b x=>by have:=h.sD b x;omega⟩,⟨hg.os.trans hM.os,hg.tape.trans hM.tape,hg.output.trans hM.output,by omega,fun b hb hf=>?_⟩⟩
 ·rw[eh ((keep Y xz hoY).trans h.blk)];rfl
 ·have e1:e8 (k::g.stack).reverse=e8 g.stack.reverse++[.int .i64 k]:=by simp[e8]
  rw[e1];refine dW ho fun b e=>qy b (fun x=>?_);rcases(hvb b e).1 with y|y
  ·exact h.nK (by rw[<-x];exact y)
  ·omega
 ·intro b e;refine⟨?_,(hvb b e).2⟩;rcases(hvb b e).1 with y|y
  ·exact Or.inl y
  ·refine Or.inr ⟨by omega,?_⟩;have:=ej ho e;omega
 ·rintro(x|x)
  ·exact h.nK x
  ·omega
 ·rintro b hA (x|x)
  ·exact h.rY b hA x
  ·have:=h.sD b hA;omega
 ·rintro b (x|x)
  ·have:=h.lt b x;omega
  ·exact x.2
 ·rw[qy b (fun e=>hf (Or.inl e))];exact keep b hb (fun e=>hf (Or.inr (h.ji b e).1))
theorem Gs(h:fW A K Y w g 0 q nv ov av kv)(wf:g.Wf)(NL:lD g)(hb:g.nodes.length<=17179869184)(t:eX)(va:Value)(ha:w.ownsRow 0 212 2 va t.attrs.length (d_ t.attrs))(mz:∀k,va.ownBlock=some k->A k)(hs:g.stack=[])(hn:g.nodes=[])(hd:g.stack.length<30):
  Z4 23 #[Z8 Y,.agg #[.int .i64 1,.string ⟨t.name.toArray⟩,va,.string ⟨t.text.toArray⟩,.int .i64 t.at_]] w fun e w'=>e=.returned (.tuple #[])/\∃jX vt je jQ,fW A (Grow K w w') Y w' { (g.put (elemOf t))with stack:=g.nodes.length::g.stack} 0 q jX vt je jQ/\Frame (fun k=>k=Y\/K k) w w':=by
 obtain⟨ai,ac,l9⟩:=dS ha;obtain⟨ni,nc,pW⟩:=dS h.nodes.row;obtain⟨oi,oc,hov⟩:=dS h.opens;subst l9;subst pW;subst hov;have k8:iD g.stack= -1:=by rw[hs];rfl
 have hl0:decide (0<g.nodes.length)=false:=by rw[hn];rfl
 clear hn hs;have og:∀o:Obj,Z4 43 #[Z8 Y] (w.alloc o) fun en w'=>en=.returned (.int .i64 (-1))/\dZ (w.alloc o) w':=fun o=>by
  have:=l8 (h.keep ((dZ.refl w).alloc o));rw[k8]at this;exact this
 have c2:∀o:Obj,(w.alloc o).cell? ⟨Y,2,none⟩=some (.int .i64 0):=fun o=>dV o (h.cell 2 rfl);have hd1:decide (30<=g.stack.length)=false:=by simp;omega
 have G2:(g.stack.length:Int)<30:=by omega
 obtain⟨j0,hj,Rt,ED,D3⟩:=aY uw;have zJ:=a_ og;have HWF:=a_ wf;have HKD:=a_ NL;have HA:=a_ ha;have G9:=a_ mz;have H:=a_ h;clear og h k8 wf NL ha mz;go_enter func23,ntmps23;go_wp2_with fail;refine(zJ.out _).mono ?_;rintro e w1 ⟨rfl,m1⟩;have hM:dZ w w1:=((dZ.refl w).alloc _).trans m1;have eA:w1.heap[w.heap.size]?=some (.cells #[.int .i64 1,.string ⟨t.name.toArray⟩,.slice ai (List.length t.attrs) ac,.string ⟨t.text.toArray⟩,.int .i64 t.at_] 72):=(m1.keep w.heap.size (by simp)).trans (dR w _);have r1:=H.out.keep hM;have d0:w1.cell? ⟨Y,0,none⟩=some (.slice ni g.nodes.length nc):=r1.cell 0 rfl;have d1:w1.cell? ⟨Y,1,none⟩=some (.slice oi g.stack.length oc):=r1.cell 1 rfl;have b0:=cell_of (i:=0) eA rfl;have b1:=cell_of (i:=1) eA rfl;have b2:=cell_of (i:=2) eA rfl;have hput:=DT r1 HWF.out HKD.out (elemOf t) (.slice ai (List.length t.attrs) ac) 0 (dW HA.out fun b e=>hM.keep b (ej HA.out e)) G9.out rfl hb;have HP:=a_ hput;have HM:=a_ hM;clear r1 hM eA m1 hput;go_wp2_with(first|(go_at_call 44;refine HP.out.mono ?_;rintro e w2 ⟨rfl,nv2,av2,kv2,r2,f2⟩;obtain⟨n2,NU,Xa⟩:=dS r2.nodes.row;subst Xa;have y0:=r2.cell 0 rfl;have y1:=r2.cell 1 rfl;have R2:=a_ r2;have F2:=a_ f2;clear r2 f2 d0 d1 b0 b1 b2));have hst:(g.put (elemOf t)).stack=g.stack:=mH _ _;obtain⟨hw,T6⟩:=Cl g.nodes.length (g.put (elemOf t)).nodes.length (lW _ _) hb;have hop:=R2.out.opens;rw[hst]at hop;have XY:=a_ hop;have WX:=a_ R2.out.blk;have hoY:(Value.slice oi g.stack.length oc).ownBlock≠some Y:=fun e=>R2.out.nK (R2.out.ji Y e).1;have Z2:∀o:Obj,(w2.alloc o).cell? ⟨Y,0,none⟩=some (.slice n2 (g.put (elemOf t)).nodes.length NU):=fun o=>dV o y0;have y1a:∀o:Obj,(w2.alloc o).cell? ⟨Y,1,none⟩=some (.slice oi g.stack.length oc):=fun o=>dV o y1;have f1:=dY (i:=1) R2.out.blk;have HST:=a_ hst;clear hop hst c2;generalize T8:(g.put (elemOf t)).nodes.length=M at*
 have vo:=a_ T8;clear T8;go_region_law
  (first|(
   refine eL rfl (.tmp 74) (.tmp 81) 31 rfl 3 j0 _ 1 8 underlying31 hj Rt ED D3 rfl (by decide) (.slice oi g.stack.length oc) g.stack.length (e8 g.stack.reverse) (by simp[Act.eval,Act.put]) (XY.out.drew.alloc _) ⟨w2.heap.size,0,none⟩ 1 1 [.int .i64 g.nodes.length] (by simp[Act.eval,Act.put]) rfl (vq _ _) (xO _) (by unfold maxLen;omega) (by omega) ?_;intro v' w3 ho hg hat;obtain⟨T9,DU,rfl⟩:=dS ho;have Xb:=fF WX.out hoY hg;have y1':w3.cell? ⟨Y,1,none⟩=some (.slice oi g.stack.length oc):=cell_of Xb rfl;have f1':=dY (i:=1) Xb;have HO3:=a_ ho;have HG3:=a_ hg;have Xc:=a_ hat;clear ho hg hat Xb))
 all_goals
  go_wp2
  (try simp only[Exit.inBlock,Exit.then])
  first
  |(refine bP (aN rfl _ _ _) rfl ?_)
  |(refine aJ (aN rfl _ _ _) rfl ?_)
  have tZ:=vo.out;subst tZ;obtain⟨s1,s2⟩:=xe (k:=g.nodes.length) R2.out HG3.out (by rw[HST.out];exact HO3.out) Xc.out;have e4:({ (g.put (elemOf t))with stack:=g.nodes.length::g.stack}:Gr)=⟨(g.put (elemOf t)).nodes,g.nodes.length::(g.put (elemOf t)).stack⟩:=by rw[HST.out]
  have lI:Frame (fun k=>k=Y\/K k) w1 (w3.setCell ⟨Y,1,none⟩ (.slice T9 (g.stack.length+1) DU)):=by
   refine⟨s2.os.trans F2.out.os,s2.tape.trans F2.out.tape,s2.output.trans F2.out.output,aw F2.out.size s2.size,fun b hb2 hf=>?_⟩;rw[s2.block b (aq hb2 F2.out.size) (fun x=>by
    rcases x with x|x|x
    ·exact hf (Or.inl x)
    ·exact hf (Or.inr x)
    ·omega)]
   exact F2.out.block b hb2 hf
  have s3:fW A (Grow K w1 (w3.setCell ⟨Y,1,none⟩ (.slice T9 (g.stack.length+1) DU))) Y (w3.setCell ⟨Y,1,none⟩ (.slice T9 (g.stack.length+1) DU)) ⟨(g.put (elemOf t)).nodes,g.nodes.length::(g.put (elemOf t)).stack⟩ 0 q (.slice n2 (g.put (elemOf t)).nodes.length NU) (.slice T9 (g.stack.length+1) DU) av2 kv2:=by
   have r1:=H.out.keep HM.out;have xz:=dQ r1.blk;have z1:=F2.out.size;refine s1.Gn (fun b hb2 x=>?_) ?_ ?_ (iu r1.lt lI.size)
   ·rcases x with(x|x)|x
    ·exact Or.inl x
    ·exact Or.inr ⟨x.1,hb2⟩
    ·exact Or.inr ⟨by omega,hb2⟩
   ·rintro(x|x)
    ·exact r1.nK x
    ·omega
   ·rintro b hA (x|x)
    ·exact r1.rY b hA x
    ·have:=r1.sD b hA;omega
  obtain⟨q1,q2⟩:=H.out.lift HM.out s3 lI;rw[e4];first|exact⟨rfl,_,_,_,_,q1,q2⟩|exact⟨rfl,⟨_,_,_,_,q1⟩,q2⟩
theorem Gt(h:fW A K Y w g 0 q nv ov av kv)(wf:g.Wf)(NL:lD g)(hb:g.nodes.length<=17179869184)(t:eX)(va:Value)(ha:w.ownsRow 0 212 2 va t.attrs.length (d_ t.attrs))(mz:∀k,va.ownBlock=some k->A k)(k:Nat)(st:List Nat)(hs:g.stack=k::st)(hd:g.stack.length<30):
  Z4 23 #[Z8 Y,.agg #[.int .i64 1,.string ⟨t.name.toArray⟩,va,.string ⟨t.text.toArray⟩,.int .i64 t.at_]] w fun e w'=>e=.returned (.tuple #[])/\∃jX vt je jQ,fW A (Grow K w w') Y w' { (g.put (elemOf t))with stack:=g.nodes.length::g.stack} 0 q jX vt je jQ/\Frame (fun k=>k=Y\/K k) w w':=by
 obtain⟨ai,ac,l9⟩:=dS ha;obtain⟨ni,nc,pW⟩:=dS h.nodes.row;obtain⟨oi,oc,hov⟩:=dS h.opens;subst l9;subst pW;subst hov;have k8:iD g.stack=(k:Int):=by rw[hs];rfl
 have UO:decide ((k:Int)<0)=false:=by simp
 have ny:¬((k:Int)<0):=by omega
 clear hs;have og:∀o:Obj,Z4 43 #[Z8 Y] (w.alloc o) fun en w'=>en=.returned (.int .i64 ((k:Int)))/\dZ (w.alloc o) w':=fun o=>by
  have:=l8 (h.keep ((dZ.refl w).alloc o));rw[k8]at this;exact this
 have c2:∀o:Obj,(w.alloc o).cell? ⟨Y,2,none⟩=some (.int .i64 0):=fun o=>dV o (h.cell 2 rfl);have hd1:decide (30<=g.stack.length)=false:=by simp;omega
 have G2:(g.stack.length:Int)<30:=by omega
 obtain⟨j0,hj,Rt,ED,D3⟩:=aY uw;have zJ:=a_ og;have HWF:=a_ wf;have HKD:=a_ NL;have HA:=a_ ha;have G9:=a_ mz;have H:=a_ h;clear og h k8 wf NL ha mz;go_enter func23,ntmps23;go_wp2_with fail;refine(zJ.out _).mono ?_;rintro e w1 ⟨rfl,m1⟩;have hM:dZ w w1:=((dZ.refl w).alloc _).trans m1;have eA:w1.heap[w.heap.size]?=some (.cells #[.int .i64 1,.string ⟨t.name.toArray⟩,.slice ai (List.length t.attrs) ac,.string ⟨t.text.toArray⟩,.int .i64 t.at_] 72):=(m1.keep w.heap.size (by simp)).trans (dR w _);have r1:=H.out.keep hM;have d0:w1.cell? ⟨Y,0,none⟩=some (.slice ni g.nodes.length nc):=r1.cell 0 rfl;have d1:w1.cell? ⟨Y,1,none⟩=some (.slice oi g.stack.length oc):=r1.cell 1 rfl;have b0:=cell_of (i:=0) eA rfl;have b1:=cell_of (i:=1) eA rfl;have b2:=cell_of (i:=2) eA rfl;have hput:=DT r1 HWF.out HKD.out (elemOf t) (.slice ai (List.length t.attrs) ac) 0 (dW HA.out fun b e=>hM.keep b (ej HA.out e)) G9.out rfl hb;have HP:=a_ hput;have HM:=a_ hM;clear r1 hM eA m1 hput;go_wp2_with(first|(go_at_call 44;refine HP.out.mono ?_;rintro e w2 ⟨rfl,nv2,av2,kv2,r2,f2⟩;obtain⟨n2,NU,Xa⟩:=dS r2.nodes.row;subst Xa;have y0:=r2.cell 0 rfl;have y1:=r2.cell 1 rfl;have R2:=a_ r2;have F2:=a_ f2;clear r2 f2 d0 d1 b0 b1 b2));have hst:(g.put (elemOf t)).stack=g.stack:=mH _ _;obtain⟨hw,T6⟩:=Cl g.nodes.length (g.put (elemOf t)).nodes.length (lW _ _) hb;have hop:=R2.out.opens;rw[hst]at hop;have XY:=a_ hop;have WX:=a_ R2.out.blk;have hoY:(Value.slice oi g.stack.length oc).ownBlock≠some Y:=fun e=>R2.out.nK (R2.out.ji Y e).1;have Z2:∀o:Obj,(w2.alloc o).cell? ⟨Y,0,none⟩=some (.slice n2 (g.put (elemOf t)).nodes.length NU):=fun o=>dV o y0;have y1a:∀o:Obj,(w2.alloc o).cell? ⟨Y,1,none⟩=some (.slice oi g.stack.length oc):=fun o=>dV o y1;have f1:=dY (i:=1) R2.out.blk;have HST:=a_ hst;clear hop hst c2;generalize T8:(g.put (elemOf t)).nodes.length=M at*
 have vo:=a_ T8;clear T8;go_region_law
  (first|(
   refine eL rfl (.tmp 74) (.tmp 81) 31 rfl 3 j0 _ 1 8 underlying31 hj Rt ED D3 rfl (by decide) (.slice oi g.stack.length oc) g.stack.length (e8 g.stack.reverse) (by simp[Act.eval,Act.put]) (XY.out.drew.alloc _) ⟨w2.heap.size,0,none⟩ 1 1 [.int .i64 g.nodes.length] (by simp[Act.eval,Act.put]) rfl (vq _ _) (xO _) (by unfold maxLen;omega) (by omega) ?_;intro v' w3 ho hg hat;obtain⟨T9,DU,rfl⟩:=dS ho;have Xb:=fF WX.out hoY hg;have y1':w3.cell? ⟨Y,1,none⟩=some (.slice oi g.stack.length oc):=cell_of Xb rfl;have f1':=dY (i:=1) Xb;have HO3:=a_ ho;have HG3:=a_ hg;have Xc:=a_ hat;clear ho hg hat Xb))
 all_goals
  go_wp2
  (try simp only[Exit.inBlock,Exit.then])
  first
  |(refine bP (aN rfl _ _ _) rfl ?_)
  |(refine aJ (aN rfl _ _ _) rfl ?_)
  have tZ:=vo.out;subst tZ;obtain⟨s1,s2⟩:=xe (k:=g.nodes.length) R2.out HG3.out (by rw[HST.out];exact HO3.out) Xc.out;have e4:({ (g.put (elemOf t))with stack:=g.nodes.length::g.stack}:Gr)=⟨(g.put (elemOf t)).nodes,g.nodes.length::(g.put (elemOf t)).stack⟩:=by rw[HST.out]
  have lI:Frame (fun k=>k=Y\/K k) w1 (w3.setCell ⟨Y,1,none⟩ (.slice T9 (g.stack.length+1) DU)):=by
   refine⟨s2.os.trans F2.out.os,s2.tape.trans F2.out.tape,s2.output.trans F2.out.output,aw F2.out.size s2.size,fun b hb2 hf=>?_⟩;rw[s2.block b (aq hb2 F2.out.size) (fun x=>by
    rcases x with x|x|x
    ·exact hf (Or.inl x)
    ·exact hf (Or.inr x)
    ·omega)]
   exact F2.out.block b hb2 hf
  have s3:fW A (Grow K w1 (w3.setCell ⟨Y,1,none⟩ (.slice T9 (g.stack.length+1) DU))) Y (w3.setCell ⟨Y,1,none⟩ (.slice T9 (g.stack.length+1) DU)) ⟨(g.put (elemOf t)).nodes,g.nodes.length::(g.put (elemOf t)).stack⟩ 0 q (.slice n2 (g.put (elemOf t)).nodes.length NU) (.slice T9 (g.stack.length+1) DU) av2 kv2:=by
   have r1:=H.out.keep HM.out;have xz:=dQ r1.blk;have z1:=F2.out.size;refine s1.Gn (fun b hb2 x=>?_) ?_ ?_ (iu r1.lt lI.size)
   ·rcases x with(x|x)|x
    ·exact Or.inl x
    ·exact Or.inr ⟨x.1,hb2⟩
    ·exact Or.inr ⟨by omega,hb2⟩
   ·rintro(x|x)
    ·exact r1.nK x
    ·omega
   ·rintro b hA (x|x)
    ·exact r1.rY b hA x
    ·have:=r1.sD b hA;omega
  obtain⟨q1,q2⟩:=H.out.lift HM.out s3 lI;rw[e4];first|exact⟨rfl,_,_,_,_,q1,q2⟩|exact⟨rfl,⟨_,_,_,_,q1⟩,q2⟩
end
end K
end Go.Proofs.YtclgfepngpeifaaGreatDoor
