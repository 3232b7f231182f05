import Derived.Test.YtclgfepngpeifaaGreatDoorYA
import Derived.Test.YtclgfepngpeifaaGreatDoorYaw
import Derived.Test.YtclgfepngpeifaaGreatDoorYau
import Derived.Test.YtclgfepngpeifaaGreatDoorYak
set_option linter.unusedVariables false
set_option linter.unusedSimpArgs false
set_option maxHeartbeats 32000000
set_option maxRecDepth 100000
namespace Go.Proofs.YtclgfepngpeifaaGreatDoor
namespace K
open Go.RowKit Go.Maps Go.Lib Tryz
section
variable{A K K':Nat->Prop}{w w' w1:World}{nv ov:Value}{av kv:Nat->Value}{g:Gr}{Y:Nat}{er q:Int}
structure gb(A K:Nat->Prop)(Y:Nat)(w:World)(g:Gr)(er q:Int)(nv ov:Value)(av kv:Nat->Value):Prop where
 blk:w.heap[Y]?=some (.cells #[nv,ov,.int .i64 er,.int .i64 q] 68 (0,0))
 nodes:ic 120 212 A K w nv g.nodes av kv
 opens:w.ownsRow 0 3 1 ov g.stack.length (fj g.stack.reverse)
 jm:∀k,ov.ownBlock=some k->K k/\nv.ownBlock≠some k/\∀i,i<g.nodes.length->(kv i).ownBlock≠some k
 nA:¬A Y
 nK:¬K Y
 rM:∀k,A k->¬K k
 lt:∀k,K k->k<w.heap.size
 rZ:∀k,A k->k<w.heap.size
theorem gb.cell(h:gb A K Y w g er q nv ov av kv)(i:Nat){u:Value}(e:#[nv,ov,.int .i64 er,.int .i64 q][i]?=some u):w.cell? ⟨Y,i,none⟩=some u:=cell_of h.blk e
theorem ed.Jz{W:World}{l:List Nd}(h:ed w W)(hn:ic 120 212 A K w nv l av kv):ic 120 212 A K W nv l av kv:=hn.frame (fun k hk _=>h.keep k hk) (fun k hk _=>h.keep k hk) (fun _ _ x=>x)
theorem gb.keep{W:World}(h:gb A K Y w g er q nv ov av kv)(hM:ed w W):gb A K Y W g er q nv ov av kv:=
 ⟨(hM.keep Y (dS h.blk)).trans h.blk,hM.Jz h.nodes,dY h.opens fun k e=>hM.keep k (eu h.opens e),h.jm,h.nA,h.nK,h.rM,fun k x=>aq (h.lt k x) hM.size,fun k x=>aq (h.rZ k x) hM.size⟩
theorem iz(h:gb A K Y w g er q nv ov av kv)(e p:Int):
  Z4 24 #[Z8 Y,.int .i64 e,.int .i64 p] w fun en w'=>en=.returned (.tuple #[])/\gb A K Y w' g (if er=0 then e else er) (if er=0 then p else q) nv ov av kv/\Frame (fun k=>k=Y) w w':=by
 have c2:w.cell? ⟨Y,2,none⟩=some (.int .i64 er):=h.cell 2 rfl;have c3:w.cell? ⟨Y,3,none⟩=some (.int .i64 q):=h.cell 3 rfl;have f2:=d_ (i:=2) h.blk;have f3:∀v,(w.setCell ⟨Y,2,none⟩ v).frozen? ⟨Y,3,none⟩=false:=fun v=>d_ (i:=3) (ej (i:=2) h.blk v);have c3':∀v,(w.setCell ⟨Y,2,none⟩ v).cell? ⟨Y,3,none⟩=some (.int .i64 q):=fun v=>cell_of (ej (i:=2) h.blk v) rfl;have H:=a_ h;clear h;by_cases h0:er=0
 ·rw[if_pos h0,if_pos h0];have e0:(er==0)=true:=by simpa using h0
  clear h0;go_enter func24,ntmps24;go_wp2
  (try simp only[Exit.inBlock,Exit.then])
  first
  |(refine bQ (aN rfl _ _ _) rfl ?_)
  |(refine aJ (aN rfl _ _ _) rfl ?_)
  have keep:∀b,b≠Y->((w.setCell ⟨Y,2,none⟩ (.int .i64 e)).setCell ⟨Y,3,none⟩ (.int .i64 p)).heap[b]?=w.heap[b]?:=fun b hb=>by rw[ak _ _ _ _ hb,ak _ _ _ _ hb]
  have hz:((w.setCell ⟨Y,2,none⟩ (.int .i64 e)).setCell ⟨Y,3,none⟩ (.int .i64 p)).heap.size=w.heap.size:=by simp[World.setCell]
  have h:=H.out;refine⟨rfl,⟨?_,h.nodes.frame (fun b _ hA=>keep b (fun e=>h.nA (by rw[<-e];exact hA))) (fun b _ hK=>keep b (fun e=>h.nK (by rw[<-e];exact hK))) (fun _ _ x=>x),dY h.opens fun k e=>keep k (fun x=>h.nK (by rw[<-x];exact(h.jm k e).1)),h.jm,h.nA,h.nK,h.rM,fun b hb=>by rw[hz];exact h.lt b hb,fun b hb=>by rw[hz];exact h.rZ b hb⟩,⟨rfl,rfl,rfl,by rw[hz];exact au _,fun b _ hb=>keep b hb⟩⟩;rw[ej (ej h.blk _) _];rfl
 ·rw[if_neg h0,if_neg h0];have e0:(er==0)=false:=by simpa using h0
  clear h0;go_enter func24,ntmps24;go_wp2
  (try simp only[Exit.inBlock,Exit.then])
  first
  |(refine bQ (aN rfl _ _ _) rfl ?_)
  |(refine aJ (aN rfl _ _ _) rfl ?_)
  exact⟨rfl,H.out,⟨rfl,rfl,rfl,au _,fun _ _ _=>rfl⟩⟩
theorem gb.top(h:gb A K Y w g er q nv ov av kv){k:Nat}{st:List Nat}(hs:g.stack=k::st):∃gO cO,ov=Z9 gO (st.length+1) cO/\w.cell? ⟨gO,st.length,none⟩=some (.int .i64 k)/\st.length+1<=maxLen:=by
 have ho:=h.opens;rw[hs]at ho;rcases ho.2 with⟨_,e⟩|⟨gO,cO,cur,e1,_,hg,h1,h2,h3,h4⟩
 ·simp at e
 ·refine⟨gO,cO,by rw[e1];rfl,?_,by simp only[aC]at h1;omega⟩;refine cell_of hg ?_;have h5:(fj (k::st).reverse)[st.length]?=some (.int .i64 k):=by simp[fj]
  rw[<-h4,bS]at h5;split at h5
  ·simpa using h5
  ·cases h5
theorem l7(h:gb A K Y w g er q nv ov av kv):Z4 43 #[Z8 Y] w fun en w'=>en=.returned (.int .i64 (iI g.stack))/\ed w w':=by
 cases hs:g.stack with
 |nil=>
  have c1:∃oo oc,w.cell? ⟨Y,1,none⟩=some (.slice oo 0 oc):=by
   have ho:=h.opens;rw[hs]at ho;obtain⟨oo,oc,e⟩:=dU ho;exact⟨oo,oc,by rw[<-show ov=.slice oo 0 oc from e];exact h.cell 1 rfl⟩
  obtain⟨oo,oc,c1⟩:=c1;clear h hs;go_enter func43,ntmps43;go_wp2;go_ret;exact⟨rfl,ed.refl w⟩
 |cons k st=>
  obtain⟨gO,cO,e,x,hmx⟩:=h.top hs;have c1:w.cell? ⟨Y,1,none⟩=some (Z9 gO (st.length+1) cO):=by rw[<-e];exact h.cell 1 rfl
  have hl:(st.length:Int)+1<=9223372036854775807:=by have:maxLen=9223372036854775807:=rfl;omega
  generalize hM:st.length+1=M at c1;have e0:((M:Int)==0)=false:=by simp;omega
  have e0n:(M==0)=false:=by simp;omega
  have e0d:decide (M=0)=false:=by simp;omega
  have hw:IntKind.i64.wrap ((M:Int)-1)=(st.length:Int):=by rw[aM];omega
  have Ur:wrap64 (st.length:Int)=(st.length:Int):=by unfold wrap64;omega
  have hlt:(st.length:Int)<M:=by omega
  have HM:=a_ hM;clear h hs e hM;go_enter func43,ntmps43;go_wp2_with fail;go_quiet(fail);go_wp2;go_ret;exact⟨rfl,(ed.refl w).drewN _⟩
end
section
variable{A K K':Nat->Prop}{w w' w1 w2 W1:World}{nv ov v' a:Value}{av kv:Nat->Value}{g:Gr}{Y:Nat}{er q:Int}{n:Nd}
theorem Ra:(prog.info? 120).map (fun i=>(i.zero,i.size,i.bytes))=some (some (.agg #[.string ⟨#[]⟩,.slice none 0 0,.string ⟨#[]⟩,.slice none 0 0,.int .i64 0]),5,88):=by kernel_rfl
theorem gb.Gt(h:gb A K Y w g er q nv ov av kv)(hK:∀k,k<w.heap.size->K k->K' k)(nK:¬K' Y)(rM:∀k,A k->¬K' k)(lt:∀k,K' k->k<w.heap.size):gb A K' Y w g er q nv ov av kv:=
 ⟨h.blk,h.nodes.frame (fun _ _ _=>rfl) (fun _ _ _=>rfl) hK,h.opens,fun k e=>⟨hK k (eu h.opens e) (h.jm k e).1,(h.jm k e).2⟩,h.nA,nK,rM,lt,h.rZ⟩
theorem wS{o2:Obj}(h:gb A K Y w g er q nv ov av kv)(hM:ed w W1)(ha:w.ownsRow 0 212 2 a n.attrs.length (ee n.attrs))(mq:∀k,a.ownBlock=some k->A k)(hk:n.kids=[])
  (hg:(W1.drew.alloc o2).grownBy w2 nv.ownBlock) (ho:w2.ownsRow 0 120 5 v' (g.nodes.length+1) (fh av kv 0 g.nodes++gX n a fo)) (hat:v'.ownBlock=nv.ownBlock\/v'.ownBlock=some (W1.drew.alloc o2).heap.size):
  gb A (Grow K w (w2.setCell ⟨Y,0,none⟩ v')) Y (w2.setCell ⟨Y,0,none⟩ v') ⟨g.nodes++[n],g.stack⟩ er q v' ov (upd av g.nodes.length a) (upd kv g.nodes.length fo)/\Frame (fun k=>k=Y\/K k) w (w2.setCell ⟨Y,0,none⟩ v')/\
  (∀b,w.heap.size<=b->b<W1.heap.size->(w2.setCell ⟨Y,0,none⟩ v').heap[b]?=W1.heap[b]?):=by
 have xr:=dS h.blk;have DS:ed w (W1.drew.alloc o2):=(hM.drewN 1).alloc o2;have hz:(W1.drew.alloc o2).heap.size=W1.heap.size+1:=by simp
 have hzw:=hM.size;have hnY:nv.ownBlock≠some Y:=fun e=>h.nK (h.nodes.nz Y e);have hp:=(DS.Jz h.nodes).push h.rM (fun k x=>aq (h.lt k x) DS.size) (fun k x=>aq (h.rZ k x) DS.size) (dY ha fun k e=>DS.keep k (eu ha e)) mq hk hg ho hat;have hz2:w2.heap.size=(w2.setCell ⟨Y,0,none⟩ v').heap.size:=by simp[World.setCell]
 have zR:=hg.size;have keep:∀b,b<(W1.drew.alloc o2).heap.size->b≠Y->nv.ownBlock≠some b->(w2.setCell ⟨Y,0,none⟩ v').heap[b]?=(W1.drew.alloc o2).heap[b]?:=fun b hb h1 h2=>by rw[ak _ _ _ _ h1];exact hg.block b hb (fun e=>h2 e.symm)
 have hY2:w2.heap[Y]?=some (.cells #[nv,ov,.int .i64 er,.int .i64 q] 68 (0,0)):=by rw[hg.block Y (by omega) (fun e=>hnY e.symm),DS.keep Y xr];exact h.blk
 have fr:Frame (fun k=>k=Y\/K k) w (w2.setCell ⟨Y,0,none⟩ v'):=⟨hg.os.trans DS.os,hg.tape.trans DS.tape,hg.output.trans DS.output,by omega,fun b hb hf=>by
  rw[keep b (by omega) (fun e=>hf (Or.inl e)) (fun e=>hf (Or.inr (h.nodes.nz b e)))];exact DS.keep b hb⟩
 refine⟨⟨?_,?_,?_,?_,h.nA,?_,?_,?_,fun k x=>by have:=h.rZ k x;omega⟩,fr,?_⟩
 ·rw[ej hY2];rfl
 ·refine hp.frame (fun k _ x=>ak _ _ _ _ (fun e=>h.nA (by have e':k=Y:=e;rw[<-e'];exact x))) (fun k _ x=>ak _ _ _ _ (fun e=>?_)) (fun k hk x=>?_)
  ·have e':k=Y:=e;rcases x with x|x
   ·exact h.nK (by rw[<-e'];exact x)
   ·omega
  ·rcases x with x|x
   ·exact Or.inl x
   ·exact Or.inr ⟨by omega,hk⟩
 ·refine dY h.opens fun k e=>?_;have hl:=eu h.opens e;rw[keep k (by omega) (fun x=>h.nK (by rw[<-x];exact(h.jm k e).1)) (h.jm k e).2.1];exact DS.keep k hl
 ·intro k e;have hl:=eu h.opens e;refine⟨Or.inl (h.jm k e).1,?_,fun i hi=>?_⟩
  ·rcases hat with e2|e2
   ·rw[e2];exact(h.jm k e).2.1
   ·rw[e2];intro x;simp only[bL]at x;omega
  ·simp only[ax,aC,aI]at hi;by_cases h1:i=g.nodes.length
   ·subst h1;rw[upd_same];intro x;cases x
   ·rw[fw _ _ h1];exact(h.jm k e).2.2 i (by omega)
 ·rintro(x|x)
  ·exact h.nK x
  ·omega
 ·rintro k hA (x|x)
  ·exact h.rM k hA x
  ·have:=h.rZ k hA;omega
 ·rintro k (x|x)
  ·have:=h.lt k x;omega
  ·exact x.2
 ·intro b h1 h2;rw[keep b (by omega) (by omega) (fun e=>by have:=h.lt b (h.nodes.nz b e);omega)];exact ay _ _ _ h2
theorem JA{o:Obj}{k j gN nc:Nat}{m:Nd}(h:gb A K Y w g er q nv ov av kv)(hM:ed w W1)(hm:g.nodes[k]?=some m)(pQ:nv=Z9 gN g.nodes.length nc)
  (hg:(W1.alloc o).grownBy w2 (kv k).ownBlock) (ho:w2.ownsRow 0 3 1 v' (m.kids.length+1) (fj m.kids++[.int .i64 j])) (hat:v'.ownBlock=(kv k).ownBlock\/v'.ownBlock=some (W1.alloc o).heap.size):
  gb A (Grow K w (w2.setCell ⟨gN,k*5+3,none⟩ v')) Y (w2.setCell ⟨gN,k*5+3,none⟩ v') ⟨fJ g.nodes k j,g.stack⟩ er q nv ov av (upd kv k v')/\Frame K w (w2.setCell ⟨gN,k*5+3,none⟩ v'):=by
 have xr:=dS h.blk;have hk:k<g.nodes.length:=(List.getElem?_eq_some_iff.1 hm).1;have DS:ed w (W1.alloc o):=hM.alloc o;have hz:(W1.alloc o).heap.size=W1.heap.size+1:=by simp
 have hzw:=hM.size;have Jm:K gN:=h.nodes.nz gN (by rw[pQ];rfl);have hp:=(DS.Jz h.nodes).fJ (j:=j) h.rM (fun i x=>aq (h.lt i x) DS.size) (fun i x=>aq (h.rZ i x) DS.size) pQ hm hg ho hat;have hz2:w2.heap.size=(w2.setCell ⟨gN,k*5+3,none⟩ v').heap.size:=by simp[World.setCell]
 have zR:=hg.size;have keep:∀b,b<(W1.alloc o).heap.size->b≠gN->(kv k).ownBlock≠some b->(w2.setCell ⟨gN,k*5+3,none⟩ v').heap[b]?=(W1.alloc o).heap[b]?:=fun b hb h1 h2=>by rw[ak _ _ _ _ h1];exact hg.block b hb (fun e=>h2 e.symm)
 have fr:Frame K w (w2.setCell ⟨gN,k*5+3,none⟩ v'):=⟨hg.os.trans DS.os,hg.tape.trans DS.tape,hg.output.trans DS.output,by omega,fun b hb hf=>by
  rw[keep b (by omega) (fun e=>hf (by rw[e];exact Jm)) (fun e=>hf (h.nodes.mo k b hk e).1)];exact DS.keep b hb⟩
 refine⟨⟨?_,?_,?_,?_,h.nA,?_,?_,?_,fun k x=>by have:=h.rZ k x;omega⟩,fr⟩
 ·rw[fr.block Y xr h.nK];exact h.blk
 ·refine hp.frame (fun _ _ _=>rfl) (fun _ _ _=>rfl) (fun i hi x=>?_);rcases x with x|x
  ·exact Or.inl x
  ·exact Or.inr ⟨by omega,hi⟩
 ·refine dY h.opens fun i e=>?_;have hl:=eu h.opens e;rw[keep i (by omega) (fun x=>(h.jm i e).2.1 (by rw[pQ,x];rfl)) ((h.jm i e).2.2 k hk)];exact DS.keep i hl
 ·intro i e;have hl:=eu h.opens e;refine⟨Or.inl (h.jm i e).1,(h.jm i e).2.1,fun i2 GK=>?_⟩;rw[fP]at GK;by_cases h1:i2=k
  ·subst h1;rw[upd_same];rcases hat with e2|e2
   ·rw[e2];exact(h.jm i e).2.2 i2 hk
   ·rw[e2];intro x;simp only[bL]at x;omega
  ·rw[fw _ _ h1];exact(h.jm i e).2.2 i2 GK
 ·rintro(x|x)
  ·exact h.nK x
  ·omega
 ·rintro i hA (x|x)
  ·exact h.rM i hA x
  ·have:=h.rZ i hA;omega
 ·rintro i (x|x)
  ·have:=h.lt i x;omega
  ·exact x.2
end
section
variable{A K K':Nat->Prop}{w w' w1 w2 W1:World}{nv ov v' a:Value}{av kv:Nat->Value}{g:Gr}{Y:Nat}{er q:Int}{n:Nd}
theorem uV(w:World)(v:Value):∀j u,[v][j]?=some u->(w.alloc (.cells #[v] 3)).cell? ((⟨w.heap.size,0,none⟩:Addr).add j)=some u:=by
 intro j u hu;rw[dg,aG,cell_of (bf w _) (v:=u)];rw[<-hu];simp
theorem xJ(z:Int):∀u∈[Value.int .i64 z],u.oneCell'=true:=by
 intro u hu;simp only[bN,bC,cq]at hu;subst hu;rfl
theorem Gu{k:Nat}{st:List Nat}{m:Nd}{W3 w5:World}{o:Obj}{ki:Option Addr}{kc gN nc2:Nat}{v5:Value}{avx:Nat->Value}(h:gb A K Y w g er q nv ov av kv)(hs:g.stack=k::st)(hm:g.nodes[k]?=some m)
  (p1:gb A (Grow K w W3) Y W3 ⟨g.nodes++[{n with up:=(k:Int)}],g.stack⟩ er q (Z9 gN (g.nodes.length+1) nc2) ov avx (upd kv g.nodes.length fo)) (p2:Frame (fun k=>k=Y\/K k) w W3) (KM:(g.nodes++[{n with up:=(k:Int)}])[k]?=some m) (u_:kv k=.slice ki m.kids.length kc)
  (hg:(W3.drew.alloc o).grownBy w5 (Value.slice ki m.kids.length kc).ownBlock) (ho:w5.ownsRow 0 3 1 v5 (m.kids.length+1) (fj m.kids++[.int .i64 g.nodes.length])) (hat:v5.ownBlock=(Value.slice ki m.kids.length kc).ownBlock\/v5.ownBlock=some (W3.drew.alloc o).heap.size):
  Ending.returned (.tuple #[])=Ending.returned (.tuple #[])/\∃j4 jh jS,gb A (Grow K w (w5.setCell ⟨gN,k*5+3,none⟩ v5)) Y (w5.setCell ⟨gN,k*5+3,none⟩ v5) (g.put n) er q j4 ov jh jS/\Frame (fun k=>k=Y\/K k) w (w5.setCell ⟨gN,k*5+3,none⟩ v5):=by
 have vB:k<g.nodes.length:=(List.getElem?_eq_some_iff.1 hm).1;have hku:(upd kv g.nodes.length fo) k=.slice ki m.kids.length kc:=by rw[fw _ _ (by omega)];exact u_
 have xr:=dS h.blk;obtain⟨r1,r2⟩:=JA (j:=g.nodes.length) (gN:=gN) (nc:=nc2) p1 ((ed.refl W3).drewN 1) KM (by simp) (by rw[hku];exact hg) ho (by rw[hku];exact hat);have OW:=p2.size;have abV:=r2.size;have fr:Frame (fun k=>k=Y\/K k) w (w5.setCell ⟨gN,k*5+3,none⟩ v5):=⟨r2.os.trans p2.os,r2.tape.trans p2.tape,r2.output.trans p2.output,by omega,fun b hb hf=>by
  rw[r2.block b (by omega) (fun x=>by
   rcases x with x|x
   ·exact hf (Or.inr x)
   ·omega)]
  exact p2.block b hb hf⟩
 have Jn:g.put n=⟨fJ (g.nodes++[{n with up:=(k:Int)}]) k g.nodes.length,g.stack⟩:=by unfold Gr.put;rw[hs];simp only;rw[sR _ _ _ _ vB]
 rw[Jn];refine⟨rfl,_,_,_,r1.Gt (fun b hb x=>?_) ?_ ?_ (iA h.lt fr.size),fr⟩
 ·rcases x with(x|x)|x
  ·exact Or.inl x
  ·exact Or.inr ⟨x.1,hb⟩
  ·exact Or.inr ⟨by omega,hb⟩
 ·rintro(x|x)
  ·exact h.nK x
  ·omega
 ·rintro b hA (x|x)
  ·exact h.rM b hA x
  ·have:=h.rZ b hA;omega
theorem Nl(h:gb A K Y w g er q nv ov av kv)(hs:g.stack=[])(n:Nd)(a:Value)(z:Int)(ha:w.ownsRow 0 212 2 a n.attrs.length (ee n.attrs))(mq:∀k,a.ownBlock=some k->A k)(hn:n.kids=[])(hb:g.nodes.length<=17179869184):
  Z4 44 #[Z8 Y,.agg #[.string ⟨n.name.toArray⟩,a,.string ⟨n.text.toArray⟩,.slice none 0 0,.int .i64 z]] w fun en w'=>en=.returned (.tuple #[])/\∃j4 jh jS,gb A (Grow K w w') Y w' (g.put n) er q j4 ov jh jS/\Frame (fun k=>k=Y\/K k) w w':=by
 obtain⟨ai,ac,l8⟩:=dU ha;obtain⟨ni,nc,pQ⟩:=dU h.nodes.row;subst l8;subst pQ;have om:∀o:Obj,Z4 43 #[Z8 Y] (w.alloc o) fun en w'=>en=.returned (.int .i64 (-1))/\ed (w.alloc o) w':=fun o=>by
  have:=l7 (h.keep ((ed.refl w).alloc o));rw[hs]at this;exact this
 have xr:=dS h.blk;have hnY:(Value.slice ni g.nodes.length nc).ownBlock≠some Y:=fun e=>h.nK (h.nodes.nz Y e);have hnB:(Value.slice ni g.nodes.length nc).ownBlock≠some w.heap.size:=fun e=>by have:=h.lt _ (h.nodes.nz _ e);omega
 obtain⟨i0,hi,hz0,hz1,hz2⟩:=aY Ra;have zE:=a_ om;have HA:=a_ ha;have Ha:=a_ mq;have H:=a_ h;clear om h ha mq;go_enter func44,ntmps44;go_wp2_with fail;refine(zE.out _).mono ?_;rintro e w1 ⟨rfl,m1⟩;have uW:w1.heap[w.heap.size]?=some (.cells #[.string ⟨n.name.toArray⟩,.slice ai (List.length n.attrs) ac,.string ⟨n.text.toArray⟩,.slice none 0 0,.int .i64 z] 120):=(m1.keep w.heap.size (by simp)).trans (dT w _);have b4:=cell_of (i:=4) uW rfl;have f4:=d_ (i:=4) uW;have qq:=ej (i:=4) uW (.int .i64 (-1));have Nn:ed w w1:=((ed.refl w).alloc _).trans m1;have hM:ed w (w1.setCell ⟨w.heap.size,4,none⟩ (.int .i64 (-1))):=⟨Nn.os,Nn.tape,Nn.output,by have:=Nn.size;simpa [World.setCell]using this,fun b hb=>by rw[ak _ _ _ _ (show b≠w.heap.size by omega)];exact Nn.keep b hb⟩
 have y0:(w1.setCell ⟨w.heap.size,4,none⟩ (.int .i64 (-1))).cell? ⟨Y,0,none⟩=some (.slice ni g.nodes.length nc):=(H.out.keep hM).cell 0 rfl;have HM:=a_ hM;have Xu:=a_ qq;clear m1 Nn hM qq;go_wp2_with fail;clear b4 f4 y0;generalize w1.setCell ⟨w.heap.size,4,none⟩ (.int .i64 (-1))=W1 at*
 have eE:W1.heap[w.heap.size]?=some (.cells #[.string ⟨n.name.toArray⟩,.slice ai (List.length n.attrs) ac,.string ⟨n.text.toArray⟩,.slice none 0 0,.int .i64 (-1)] 120):=Xu.out;have hr1:=H.out.keep HM.out;have n0:=cell_of (i:=0) eE rfl;have n1:=cell_of (i:=1) eE rfl;have n2:=cell_of (i:=2) eE rfl;have n3:=cell_of (i:=3) eE rfl;have n4:=cell_of (i:=4) eE rfl;have x0:W1.cell? ⟨Y,0,none⟩=some (.slice ni g.nodes.length nc):=hr1.cell 0 rfl;have x0a:∀o:Obj,(W1.alloc o).cell? ⟨Y,0,none⟩=some (.slice ni g.nodes.length nc):=fun o=>dX o x0;have hbl:w.heap.size<W1.heap.size:=dS eE;have Xv:=a_ hr1.blk;have DZ:=a_ hr1.nodes.row;have vU:=a_ eE;have f0:=d_ (i:=0) hr1.blk;clear eE hr1 uW;go_region_law
  (first|(
   refine eP rfl (.tmp 17) (.tmp 19) 26 rfl 120 i0 _ 5 88 underlying26 hi hz0 hz1 hz2 rfl (by decide) (.slice ni g.nodes.length nc) g.nodes.length (fh av kv 0 g.nodes) (by simp[Act.eval,Act.put]) (DZ.out.drew.alloc _) ⟨W1.heap.size,0,none⟩ 1 1 (gX {n with up:= -1} (.slice ai (List.length n.attrs) ac) fo) (by simp[Act.eval,Act.put]) rfl (xI _ _ _ _ _) (DL _ _ _ rfl rfl) (by unfold maxLen;omega) (by omega) ?_;intro v' w2 ho hg hat;obtain⟨sA,cap',rfl⟩:=dU ho;have hb1:=fL Xv.out hnY hg;have x0':w2.cell? ⟨Y,0,none⟩=some (.slice ni g.nodes.length nc):=cell_of hb1 rfl;have f0':=d_ (i:=0) hb1;have HO:=a_ ho;have HG:=a_ hg;have rT:=a_ hat;clear ho hg hat hb1))
 all_goals
  obtain⟨p1,p2,p3⟩:=wS (n:={n with up:= -1}) H.out HM.out HA.out Ha.out hn HG.out HO.out rT.out;have Xw:(w2.setCell ⟨Y,0,none⟩ (.slice sA (g.nodes.length+1) cap')).heap[w.heap.size]?=some (.cells #[.string ⟨n.name.toArray⟩,.slice ai (List.length n.attrs) ac,.string ⟨n.text.toArray⟩,.slice none 0 0,.int .i64 (-1)] 120):=(p3 w.heap.size (au _) hbl).trans vU.out;have z4:=cell_of (i:=4) Xw rfl;have P1:=a_ p1;have P2:=a_ p2;have Y0:=a_ Xw;clear p1 p2 p3 Xw x0' f0' n0 n1 n2 n3 n4 x0 x0a f0;go_wp2
  (try simp only[Exit.inBlock,Exit.then])
  first
  |(refine bQ (aN rfl _ _ _) rfl ?_)
  |(refine aJ (aN rfl _ _ _) rfl ?_)
  have Jn:g.put n=⟨g.nodes++[{n with up:= -1}],g.stack⟩:=by unfold Gr.put;rw[hs]
  rw[Jn];exact⟨rfl,_,_,_,P1.out,P2.out⟩
theorem Np(h:gb A K Y w g er q nv ov av kv)(k:Nat)(st:List Nat)(m:Nd)(hs:g.stack=k::st)(hm:g.nodes[k]?=some m)(hb2:m.kids.length<=17179869184)(n:Nd)(a:Value)(z:Int)(ha:w.ownsRow 0 212 2 a n.attrs.length (ee n.attrs))(mq:∀k,a.ownBlock=some k->A k)(hn:n.kids=[])(hb:g.nodes.length<=17179869184):
  Z4 44 #[Z8 Y,.agg #[.string ⟨n.name.toArray⟩,a,.string ⟨n.text.toArray⟩,.slice none 0 0,.int .i64 z]] w fun en w'=>en=.returned (.tuple #[])/\∃j4 jh jS,gb A (Grow K w w') Y w' (g.put n) er q j4 ov jh jS/\Frame (fun k=>k=Y\/K k) w w':=by
 obtain⟨ai,ac,l8⟩:=dU ha;obtain⟨ni,nc,pQ⟩:=dU h.nodes.row;subst l8;subst pQ;have om:∀o:Obj,Z4 43 #[Z8 Y] (w.alloc o) fun en w'=>en=.returned (.int .i64 ((k:Int)))/\ed (w.alloc o) w':=fun o=>by
  have:=l7 (h.keep ((ed.refl w).alloc o));rw[hs]at this;exact this
 have vB:k<g.nodes.length:=(List.getElem?_eq_some_iff.1 hm).1;obtain⟨j0,hj,RZ,ED,D4⟩:=aY wu;have xr:=dS h.blk;have hnY:(Value.slice ni g.nodes.length nc).ownBlock≠some Y:=fun e=>h.nK (h.nodes.nz Y e);have hnB:(Value.slice ni g.nodes.length nc).ownBlock≠some w.heap.size:=fun e=>by have:=h.lt _ (h.nodes.nz _ e);omega
 obtain⟨i0,hi,hz0,hz1,hz2⟩:=aY Ra;have zE:=a_ om;have HA:=a_ ha;have Ha:=a_ mq;have H:=a_ h;clear om h ha mq;go_enter func44,ntmps44;go_wp2_with fail;refine(zE.out _).mono ?_;rintro e w1 ⟨rfl,m1⟩;have uW:w1.heap[w.heap.size]?=some (.cells #[.string ⟨n.name.toArray⟩,.slice ai (List.length n.attrs) ac,.string ⟨n.text.toArray⟩,.slice none 0 0,.int .i64 z] 120):=(m1.keep w.heap.size (by simp)).trans (dT w _);have b4:=cell_of (i:=4) uW rfl;have f4:=d_ (i:=4) uW;have qq:=ej (i:=4) uW (.int .i64 ((k:Int)));have Nn:ed w w1:=((ed.refl w).alloc _).trans m1;have hM:ed w (w1.setCell ⟨w.heap.size,4,none⟩ (.int .i64 ((k:Int)))):=⟨Nn.os,Nn.tape,Nn.output,by have:=Nn.size;simpa [World.setCell]using this,fun b hb=>by rw[ak _ _ _ _ (show b≠w.heap.size by omega)];exact Nn.keep b hb⟩
 have y0:(w1.setCell ⟨w.heap.size,4,none⟩ (.int .i64 ((k:Int)))).cell? ⟨Y,0,none⟩=some (.slice ni g.nodes.length nc):=(H.out.keep hM).cell 0 rfl;have HM:=a_ hM;have Xu:=a_ qq;clear m1 Nn hM qq;go_wp2_with fail;clear b4 f4 y0;generalize w1.setCell ⟨w.heap.size,4,none⟩ (.int .i64 ((k:Int)))=W1 at*
 have eE:W1.heap[w.heap.size]?=some (.cells #[.string ⟨n.name.toArray⟩,.slice ai (List.length n.attrs) ac,.string ⟨n.text.toArray⟩,.slice none 0 0,.int .i64 ((k:Int))] 120):=Xu.out;have hr1:=H.out.keep HM.out;have n0:=cell_of (i:=0) eE rfl;have n1:=cell_of (i:=1) eE rfl;have n2:=cell_of (i:=2) eE rfl;have n3:=cell_of (i:=3) eE rfl;have n4:=cell_of (i:=4) eE rfl;have x0:W1.cell? ⟨Y,0,none⟩=some (.slice ni g.nodes.length nc):=hr1.cell 0 rfl;have x0a:∀o:Obj,(W1.alloc o).cell? ⟨Y,0,none⟩=some (.slice ni g.nodes.length nc):=fun o=>dX o x0;have hbl:w.heap.size<W1.heap.size:=dS eE;have Xv:=a_ hr1.blk;have DZ:=a_ hr1.nodes.row;have vU:=a_ eE;have f0:=d_ (i:=0) hr1.blk;clear eE hr1 uW;go_region_law
  (first|(
   refine eP rfl (.tmp 17) (.tmp 19) 26 rfl 120 i0 _ 5 88 underlying26 hi hz0 hz1 hz2 rfl (by decide) (.slice ni g.nodes.length nc) g.nodes.length (fh av kv 0 g.nodes) (by simp[Act.eval,Act.put]) (DZ.out.drew.alloc _) ⟨W1.heap.size,0,none⟩ 1 1 (gX {n with up:=(k:Int)} (.slice ai (List.length n.attrs) ac) fo) (by simp[Act.eval,Act.put]) rfl (xI _ _ _ _ _) (DL _ _ _ rfl rfl) (by unfold maxLen;omega) (by omega) ?_;intro v' w2 ho hg hat;obtain⟨sA,cap',rfl⟩:=dU ho;have hb1:=fL Xv.out hnY hg;have x0':w2.cell? ⟨Y,0,none⟩=some (.slice ni g.nodes.length nc):=cell_of hb1 rfl;have f0':=d_ (i:=0) hb1;have HO:=a_ ho;have HG:=a_ hg;have rT:=a_ hat;clear ho hg hat hb1))
 all_goals
  obtain⟨p1,p2,p3⟩:=wS (n:={n with up:=(k:Int)}) H.out HM.out HA.out Ha.out hn HG.out HO.out rT.out;have Xw:(w2.setCell ⟨Y,0,none⟩ (.slice sA (g.nodes.length+1) cap')).heap[w.heap.size]?=some (.cells #[.string ⟨n.name.toArray⟩,.slice ai (List.length n.attrs) ac,.string ⟨n.text.toArray⟩,.slice none 0 0,.int .i64 ((k:Int))] 120):=(p3 w.heap.size (au _) hbl).trans vU.out;have z4:=cell_of (i:=4) Xw rfl;have P1:=a_ p1;have P2:=a_ p2;have Y0:=a_ Xw;clear p1 p2 p3 Xw x0' f0' n0 n1 n2 n3 n4 x0 x0a f0;go_wp2_with fail;generalize w2.setCell ⟨Y,0,none⟩ (.slice sA (g.nodes.length+1) cap')=W3 at*
  have KM:(g.nodes++[{n with up:=(k:Int)}])[k]?=some m:=by rw[aU vB];exact hm
  have Ax:=P1.out.nodes.kid k m KM;obtain⟨gN,nc2,hv3,_,Jm,_,_,_,m3,_⟩:=P1.out.nodes.cells k m KM;rw[fw _ _ (by omega)]at m3 Ax;obtain⟨ki,kc,u_⟩:=dU Ax;rw[u_]at m3 Ax;simp only[ax,aC,aI,aG]at hv3;obtain⟨hao,OD⟩:sA=some ⟨gN,0,none⟩/\cap'=nc2:=by simpa using hv3
  subst hao;subst OD;have y0:W3.cell? ⟨Y,0,none⟩=some (Z9 gN (g.nodes.length+1) cap'):=P1.out.cell 0 rfl;have y0a:∀o:Obj,(W3.alloc o).cell? ⟨Y,0,none⟩=some (Z9 gN (g.nodes.length+1) cap'):=fun o=>dX o y0;have z4a:∀o:Obj,(W3.alloc o).cell? ⟨w.heap.size,4,none⟩=some (.int .i64 k):=fun o=>dX o z4;have m3a:∀o:Obj,(W3.alloc o).cell? ⟨gN,k*5+3,none⟩=some (.slice ki m.kids.length kc):=fun o=>dX o m3;have Yp:(k:Int)<((g.nodes.length+1:Nat):Int):=by omega
  have abW:(k:Int)<(g.nodes.length:Int)+1:=by omega
  have hkY:(Value.slice ki m.kids.length kc).ownBlock≠some Y:=fun e=>P1.out.nK (P1.out.nodes.mo k Y (by simp only[ax];omega) (by rw[fw _ _ (by omega),u_];exact e)).1;have hkg:(Value.slice ki m.kids.length kc).ownBlock≠some gN:=fun e=>(P1.out.nodes.mo k gN (by simp only[ax];omega) (by rw[fw _ _ (by omega),u_];exact e)).2 rfl;have hkB:(Value.slice ki m.kids.length kc).ownBlock≠some w.heap.size:=fun e=>by
   have h1:=H.out.nodes.mo k w.heap.size vB (by rw[u_];exact e);have:=H.out.lt _ h1.1;omega
  obtain⟨cur,zS⟩:=fA P1.out.nodes.row (k:=gN) rfl;have hgY:gN≠Y:=fun e=>P1.out.nK (e▸Jm);have XV:gN≠w.heap.size:=fun e=>by
   rcases rT.out with x|x
   ·exact hnB (by rw[<-x,<-e];rfl)
   ·have x':gN=W1.heap.size+1:=by simpa [Value.ownBlock]using x
    omega
  have HK3:=a_ Ax;have Jp:=a_ zS;have aak:=a_ P1.out.blk;have Wz:=a_ u_;have uU:=a_ KM;clear Ax zS u_ KM hv3;refine wp_region_held_drew (S:=(fun W=>W.cell? ⟨Y,0,none⟩=some (Z9 gN (g.nodes.length+1) cap')/\W.cell? ⟨w.heap.size,4,none⟩=some (.int .i64 k))) (by kernel_rfl) ⟨y0,z4⟩ (fun hHeld=>?_);refine wpAnyH_take (i:=0) (v:=?_) rfl (by kernel_rfl) (by kernel_rfl) (by kernel_rfl) (fun _ _ _ h=>h) (Or.inl ⟨by rfl,?_⟩) (by assumption) ?_
  rotate_left
  ·(intro w hSw;(try dsimp only at hSw);go_simp;(try with_reducible rfl))
  (try simp only[Act.put,ae,af,aj])
  refine wpAnyH_take (i:=1) (v:=?_) rfl (by kernel_rfl) (by kernel_rfl) (by kernel_rfl) (fun _ _ _ h=>h) (Or.inl ⟨by rfl,?_⟩) (by assumption) ?_
  rotate_left
  ·(intro w hSw;(try dsimp only at hSw);go_simp;(try with_reducible rfl))
  (try simp only[Act.put,ae,af,aj])
  refine wpAnyH_take (i:=2) (v:=?_) rfl (by kernel_rfl) (by kernel_rfl) (by kernel_rfl) (fun _ _ _ h=>h) (Or.inl ⟨by rfl,?_⟩) (by assumption) ?_
  rotate_left
  ·(intro w hSw;(try dsimp only at hSw);go_simp;(try with_reducible rfl))
  (try simp only[Act.put,ae,af,aj])
  refine wpAnyH_take (i:=3) (v:=?_) rfl (by kernel_rfl) (by kernel_rfl) (by kernel_rfl) (fun _ _ _ h=>h) (Or.inl ⟨by rfl,?_⟩) (by assumption) ?_
  rotate_left
  ·(intro w hSw;(try dsimp only at hSw);go_simp;(try with_reducible rfl))
  (try simp only[Act.put,ae,af,aj])
  refine wpAnyH_take (i:=4) (v:=?_) rfl (by kernel_rfl) (by kernel_rfl) (by kernel_rfl) (fun _ _ _ h=>h) (Or.inl ⟨by rfl,?_⟩) (by assumption) ?_
  rotate_left
  ·(intro w hSw;(try dsimp only at hSw);go_simp;(try with_reducible rfl))
  (try simp only[Act.put,ae,af,aj])
  refine wpAnyH_take (i:=5) (v:=?_) rfl (by kernel_rfl) (by kernel_rfl) (by kernel_rfl) (fun _ _ _ h=>h) (Or.inl ⟨by rfl,?_⟩) (by assumption) ?_
  rotate_left
  ·(intro w hSw;(try dsimp only at hSw);go_simp;(try with_reducible rfl))
  (try simp only[Act.put,ae,af,aj])
  refine wpAnyH_take (i:=6) (v:=?_) rfl (by kernel_rfl) (by kernel_rfl) (by kernel_rfl) (fun _ _ _ h=>h) (Or.inl ⟨by rfl,?_⟩) (by assumption) ?_
  rotate_left
  ·(intro w hSw;(try dsimp only at hSw);go_simp;(try with_reducible rfl))
  (try simp only[Act.put,ae,af,aj])
  refine wpAnyH_take (i:=7) (v:=?_) rfl (by kernel_rfl) (by kernel_rfl) (by kernel_rfl) (fun _ _ _ h=>h) (Or.inl ⟨by rfl,?_⟩) (by assumption) ?_
  rotate_left
  ·(intro w hSw;(try dsimp only at hSw);go_simp;(try with_reducible rfl))
  (try simp only[Act.put,ae,af,aj])
  refine wpAnyH_take (i:=8) (v:=?_) rfl (by kernel_rfl) (by kernel_rfl) (by kernel_rfl) (fun _ _ _ h=>h) (Or.inl ⟨by rfl,?_⟩) (by assumption) ?_
  rotate_left
  ·(intro w hSw;(try dsimp only at hSw);go_simp;(try with_reducible rfl))
  (try simp only[Act.put,ae,af,aj])
  refine wpAnyH_take (i:=9) (v:=?_) rfl (by kernel_rfl) (by kernel_rfl) (by kernel_rfl) (fun _ _ _ h=>h) (Or.inl ⟨by rfl,?_⟩) (by assumption) ?_
  rotate_left
  ·(intro w hSw;(try dsimp only at hSw);go_simp;(try with_reducible rfl))
  (try simp only[Act.put,ae,af,aj])
  refine wpAnyH_take (i:=10) (v:=?_) rfl (by kernel_rfl) (by kernel_rfl) (by kernel_rfl) (fun _ _ _ h=>h) (Or.inl ⟨by rfl,?_⟩) (by assumption) ?_
  rotate_left
  ·(intro w hSw;(try dsimp only at hSw);go_simp;(try with_reducible rfl))
  (try simp only[Act.put,ae,af,aj])
  refine wpAnyH_take (i:=11) (v:=?_) rfl (by kernel_rfl) (by kernel_rfl) (by kernel_rfl) (fun _ _ _ h=>h) (Or.inl ⟨by rfl,?_⟩) (by assumption) ?_
  rotate_left
  ·(intro w hSw;(try dsimp only at hSw);go_simp;(try with_reducible rfl))
  (try simp only[Act.put,ae,af,aj])
  refine wpAnyH_take (i:=12) (v:=?_) rfl (by kernel_rfl) (by kernel_rfl) (by kernel_rfl) (fun _ _ _ h=>h) (Or.inl ⟨by rfl,?_⟩) (by assumption) ?_
  rotate_left
  ·(intro w hSw;(try dsimp only at hSw);go_simp;(try with_reducible rfl))
  (try simp only[Act.put,ae,af,aj])
  refine wpAnyH_take (i:=13) (v:=?_) rfl (by kernel_rfl) (by kernel_rfl) (by kernel_rfl) (fun _ _ _ h=>h) (Or.inl ⟨by rfl,?_⟩) (by assumption) ?_
  rotate_left
  ·(intro w hSw;(try dsimp only at hSw);go_simp;(try with_reducible rfl))
  (try simp only[Act.put,ae,af,aj])
  refine wpAnyH_take (i:=15) (v:=?_) rfl (by kernel_rfl) (by kernel_rfl) (by kernel_rfl) (fun _ _ _ h=>h) (Or.inl ⟨by rfl,?_⟩) (by assumption) ?_
  rotate_left
  ·(intro w hSw;(try dsimp only at hSw);go_simp;(try with_reducible rfl))
  (try simp only[Act.put,ae,af,aj])
  refine wpAnyH_ready (rs:=[14,16]) (by kernel_rfl) (by simp) ?_;refine AllReadyH.cons rfl (fun K hK=>?_) (AllReadyH.cons rfl (fun K hK=>?_) AllReadyH.nil)
  ·go_simp
   refine hK.out _ _ ⟨y0,z4⟩ (fun hHeld=>?_);clear hK K
   (try simp only[Act.put,ae,af,aj])
   refine wpAnyH_ready (rs:=[16]) (by kernel_rfl) (by simp) ?_;refine AllReadyH.cons rfl (fun K hK=>?_) AllReadyH.nil
   go_simp
   refine hK.out _ _ ⟨y0a _,z4a _⟩ (fun hHeld=>?_);clear hK K
   (try simp only[Act.put,ae,af,aj])
   refine wpAnyH_ready (rs:=[17]) (by kernel_rfl) (by simp) ?_;refine AllReadyH.cons rfl (fun K hK=>?_) AllReadyH.nil;refine eP rfl (.tmp 40) (.tmp 42) 31 rfl 3 j0 _ 1 8 underlying31 hj RZ ED D4 rfl (by decide) (.slice ki m.kids.length kc) m.kids.length (fj m.kids) (by simp[Act.eval,Act.put]) (HK3.out.drew.alloc _) ⟨W3.heap.size,0,none⟩ 1 1 [.int .i64 g.nodes.length] (by simp[Act.eval,Act.put]) rfl (uV _ _) (xJ _) (by unfold maxLen;omega) (by omega) ?_;intro v' w5 ho hg hat;obtain⟨ao5,abk,rfl⟩:=dU ho;have hy5:=fL aak.out hkY hg;have ma:=fL Y0.out hkB hg;have Xx:=fL Jp.out hkg hg;have y0':w5.cell? ⟨Y,0,none⟩=some (Z9 gN (g.nodes.length+1) cap'):=cell_of hy5 rfl;have z4':w5.cell? ⟨w.heap.size,4,none⟩=some (.int .i64 k):=cell_of ma rfl;have y0s:∀u,(w5.setCell ⟨gN,k*5+3,none⟩ u).cell? ⟨Y,0,none⟩=some (Z9 gN (g.nodes.length+1) cap'):=fun u=>(ar (ak _ _ _ _ (fun e=>hgY e.symm))).trans y0';have z4s:∀u,(w5.setCell ⟨gN,k*5+3,none⟩ u).cell? ⟨w.heap.size,4,none⟩=some (.int .i64 k):=fun u=>(ar (ak _ _ _ _ (fun e=>XV e.symm))).trans z4';have m3':w5.cell? ⟨gN,k*5+3,none⟩=some (.slice ki m.kids.length kc):=(ar (by rw[Xx,Jp.out])).trans m3;have f3':=d_ (i:=k*5+3) Xx;have HO5:=a_ ho;have HG5:=a_ hg;have Xy:=a_ hat;clear ho hg hat hy5 ma Xx;refine hK.out _ _ ⟨y0',z4'⟩ (fun hHeld=>?_);clear hK K
   (try simp only[Act.put,ae,af,aj])
   refine wpAnyH_take (i:=18) (v:=?_) rfl (by kernel_rfl) (by kernel_rfl) (by kernel_rfl) (fun _ _ _ h=>h) (Or.inl ⟨by rfl,?_⟩) (by assumption) ?_
   rotate_left
   ·(intro w hSw;(try dsimp only at hSw);go_simp;(try with_reducible rfl))
   (try simp only[Act.put,ae,af,aj])
   refine wpAnyH_take (i:=19) (v:=?_) rfl (by kernel_rfl) (by kernel_rfl) (by kernel_rfl) (fun _ _ _ h=>h) (Or.inl ⟨by rfl,?_⟩) (by assumption) ?_
   rotate_left
   ·(intro w hSw;(try dsimp only at hSw);go_simp;(try with_reducible rfl))
   (try simp only[Act.put,ae,af,aj])
   refine wpAnyH_ready (rs:=[20]) (by kernel_rfl) (by simp) ?_;refine AllReadyH.cons rfl (fun K hK=>?_) AllReadyH.nil
   go_simp
   refine hK.out _ _ ⟨y0s _,z4s _⟩ (fun hHeld=>?_);clear hK K
   (try simp only[Act.put,ae,af,aj])
   refine wpAnyH_done (by kernel_rfl) ?_ _;go_wp2
   (try simp only[Exit.inBlock,Exit.then])
   first
   |(refine bQ (aN rfl _ _ _) rfl ?_)
   |(refine aJ (aN rfl _ _ _) rfl ?_)
   obtain⟨q1,q2,q3,q4,q5,q6⟩:=Gu H.out hs hm P1.out P2.out uU.out Wz.out HG5.out HO5.out Xy.out;first|exact⟨q1,q2,q3,q4,q5,q6⟩|exact⟨q1,⟨q2,q3,q4,q5⟩,q6⟩
  ·go_simp
   refine hK.out _ _ ⟨y0a _,z4a _⟩ (fun hHeld=>?_);clear hK K
   (try simp only[Act.put,ae,af,aj])
   refine wpAnyH_ready (rs:=[14]) (by kernel_rfl) (by simp) ?_;refine AllReadyH.cons rfl (fun K hK=>?_) AllReadyH.nil
   go_simp
   refine hK.out _ _ ⟨y0a _,z4a _⟩ (fun hHeld=>?_);clear hK K
   (try simp only[Act.put,ae,af,aj])
   refine wpAnyH_ready (rs:=[17]) (by kernel_rfl) (by simp) ?_;refine AllReadyH.cons rfl (fun K hK=>?_) AllReadyH.nil;refine eP rfl (.tmp 40) (.tmp 42) 31 rfl 3 j0 _ 1 8 underlying31 hj RZ ED D4 rfl (by decide) (.slice ki m.kids.length kc) m.kids.length (fj m.kids) (by simp[Act.eval,Act.put]) (HK3.out.drew.alloc _) ⟨W3.heap.size,0,none⟩ 1 1 [.int .i64 g.nodes.length] (by simp[Act.eval,Act.put]) rfl (uV _ _) (xJ _) (by unfold maxLen;omega) (by omega) ?_;intro v' w5 ho hg hat;obtain⟨ao5,abk,rfl⟩:=dU ho;have hy5:=fL aak.out hkY hg;have ma:=fL Y0.out hkB hg;have Xx:=fL Jp.out hkg hg;have y0':w5.cell? ⟨Y,0,none⟩=some (Z9 gN (g.nodes.length+1) cap'):=cell_of hy5 rfl;have z4':w5.cell? ⟨w.heap.size,4,none⟩=some (.int .i64 k):=cell_of ma rfl;have y0s:∀u,(w5.setCell ⟨gN,k*5+3,none⟩ u).cell? ⟨Y,0,none⟩=some (Z9 gN (g.nodes.length+1) cap'):=fun u=>(ar (ak _ _ _ _ (fun e=>hgY e.symm))).trans y0';have z4s:∀u,(w5.setCell ⟨gN,k*5+3,none⟩ u).cell? ⟨w.heap.size,4,none⟩=some (.int .i64 k):=fun u=>(ar (ak _ _ _ _ (fun e=>XV e.symm))).trans z4';have m3':w5.cell? ⟨gN,k*5+3,none⟩=some (.slice ki m.kids.length kc):=(ar (by rw[Xx,Jp.out])).trans m3;have f3':=d_ (i:=k*5+3) Xx;have HO5:=a_ ho;have HG5:=a_ hg;have Xy:=a_ hat;clear ho hg hat hy5 ma Xx;refine hK.out _ _ ⟨y0',z4'⟩ (fun hHeld=>?_);clear hK K
   (try simp only[Act.put,ae,af,aj])
   refine wpAnyH_take (i:=18) (v:=?_) rfl (by kernel_rfl) (by kernel_rfl) (by kernel_rfl) (fun _ _ _ h=>h) (Or.inl ⟨by rfl,?_⟩) (by assumption) ?_
   rotate_left
   ·(intro w hSw;(try dsimp only at hSw);go_simp;(try with_reducible rfl))
   (try simp only[Act.put,ae,af,aj])
   refine wpAnyH_take (i:=19) (v:=?_) rfl (by kernel_rfl) (by kernel_rfl) (by kernel_rfl) (fun _ _ _ h=>h) (Or.inl ⟨by rfl,?_⟩) (by assumption) ?_
   rotate_left
   ·(intro w hSw;(try dsimp only at hSw);go_simp;(try with_reducible rfl))
   (try simp only[Act.put,ae,af,aj])
   refine wpAnyH_ready (rs:=[20]) (by kernel_rfl) (by simp) ?_;refine AllReadyH.cons rfl (fun K hK=>?_) AllReadyH.nil
   go_simp
   refine hK.out _ _ ⟨y0s _,z4s _⟩ (fun hHeld=>?_);clear hK K
   (try simp only[Act.put,ae,af,aj])
   refine wpAnyH_done (by kernel_rfl) ?_ _;go_wp2
   (try simp only[Exit.inBlock,Exit.then])
   first
   |(refine bQ (aN rfl _ _ _) rfl ?_)
   |(refine aJ (aN rfl _ _ _) rfl ?_)
   obtain⟨q1,q2,q3,q4,q5,q6⟩:=Gu H.out hs hm P1.out P2.out uU.out Wz.out HG5.out HO5.out Xy.out;first|exact⟨q1,q2,q3,q4,q5,q6⟩|exact⟨q1,⟨q2,q3,q4,q5⟩,q6⟩
end
section
variable{A K K':Nat->Prop}{w w' w1 w2 W1:World}{nv ov v' a:Value}{av kv:Nat->Value}{g:Gr}{Y:Nat}{er q:Int}{n:Nd}
theorem DT(h:gb A K Y w g er q nv ov av kv)(wf:g.Wf)(hk:lA g)(n:Nd)(a:Value)(z:Int)(ha:w.ownsRow 0 212 2 a n.attrs.length (ee n.attrs))(mq:∀k,a.ownBlock=some k->A k)(hn:n.kids=[])(hb:g.nodes.length<=17179869184):
  Z4 44 #[Z8 Y,.agg #[.string ⟨n.name.toArray⟩,a,.string ⟨n.text.toArray⟩,.slice none 0 0,.int .i64 z]] w fun en w'=>en=.returned (.tuple #[])/\∃j4 jh jS,gb A (Grow K w w') Y w' (g.put n) er q j4 ov jh jS/\Frame (fun k=>k=Y\/K k) w w':=by
 cases hs:g.stack with
 |nil=>exact Nl h hs n a z ha mq hn hb
 |cons k st=>
  obtain⟨m,hm,_,_⟩:=wf.top hs;exact Np h k st m hs hm (aw (hk k m hm) hb) n a z ha mq hn hb
theorem vX(s:ByteArray)(w:World)(hz:s.size<=9223372036854775807):Z4 45 #[.string s] w (Z6 (.bool (s.data.toList.all fun c=>iT c.toNat)) w):=by
 go_enter func45,ntmps45;go_wp2_with fail;go_loopw [3] (fun iv wr=>∃i:Nat,iv=.int .i64 i/\i<=s.size/\wr=w/\((s.data.toList.take i).all fun c=>iT c.toNat)=true) (fun iv _=>s.size-(RowKit.intOf iv).toNat)
 case atStart=>exact⟨0,rfl,aB _,rfl,rfl⟩
 case round=>
  obtain⟨i,rfl,hi,hwr,hall⟩:=hrel;have abl:=hwr.symm;clear hwr;subst abl;by_cases hlt:i<s.size
  ·have hdec:decide ((i:Int)<s.size)=true:=by simp;omega
   have Gn:decide (i<s.size)=true:=by simp;omega
   have Lc:(i:Int)<s.size:=by omega
   have hl:s.data.toList.length=s.size:=by simp
   have hget:s.data.toList[i]'(by omega)=s[i]:=by simp[ByteArray.getElem_eq_getElem_data]
   have hbl:=yD (s[i]).toNat (bA _) w;have Rb:s.data.toList.take (i+1)=s.data.toList.take i++[s[i]]:=by rw[<-hget];exact dO (by omega)
   cases Nq:iT (s[i]).toNat
   ·have Rc:(s.data.toList.all fun c=>iT c.toNat)=false:=by
     rw[Bool.eq_false_iff];intro h;have h2:=List.all_eq_true.1 h (s[i]) (by rw[<-hget];exact bR _);rw[Nq]at h2;cases h2
    rw[Nq]at hbl;have HF:=a_ Rc;have Ub:=a_ hbl;clear Rc hbl Rb hget hall;go_wp2_with fail;refine Ub.out.mono ?_;rintro e wx ⟨rfl,hwx⟩;have Us:=hwx.symm;clear hwx;subst Us;go_wp2;go_ret;exact⟨by rw[HF.out];rfl,rfl⟩
   ·have Vo:((s.data.toList.take (i+1)).all fun c=>iT c.toNat)=true:=by
     rw[Rb,List.all_append,hall];simp[Nq]
    rw[Nq]at hbl;have HN:=a_ Vo;have Ub:=a_ hbl;clear Vo hbl Rb hget hall;go_wp2_with fail;refine Ub.out.mono ?_;rintro e wx ⟨rfl,hwx⟩;have Us:=hwx.symm;clear hwx;subst Us;go_wp2
    go_roundw
    case rel=>exact⟨i+1,by simp,by omega,by first|rfl|trivial,HN.out⟩
    case measure=>simp only[RowKit.intOf];omega
  ·have hdec:decide ((i:Int)<s.size)=false:=by simp;omega
   have Gn:decide (i<s.size)=false:=by simp;omega
   have he:i=s.size:=by omega
   have hl:s.data.toList.length=s.size:=by simp
   rw[he,<-hl,b9]at hall;have Xt:=a_ hall;clear hall;go_wp2;go_ret;exact⟨by rw[Xt.out];rfl,rfl⟩
end
section
variable{A K K':Nat->Prop}{w w' w1 w2 W1:World}{nv ov v' a:Value}{av kv:Nat->Value}{g:Gr}{Y:Nat}{er q:Int}{n:Nd}
structure BR(A K:Nat->Prop)(Y:Nat)(w:World)(g:Gr)(er q:Int):Prop where
 ex:∃nv ov av kv,gb A K Y w g er q nv ov av kv
 kids:lA g
 wf:g.Wf
theorem BR.keep{W:World}(h:BR A K Y w g er q)(hM:ed w W):BR A K Y W g er q:=by
 obtain⟨⟨nv,ov,av,kv,h1⟩,h3,h4⟩:=h;exact⟨⟨nv,ov,av,kv,h1.keep hM⟩,h3,h4⟩
def qN(g:Gr)(er q:Int)(t:fe):Gr×Int×Int:=if er≠0 then(g,er,q)else if(g.take t).1≠0 then(g,(g.take t).1,t.at_)else((g.take t).2,0,q)
def KD(A K:Nat->Prop)(Y:Nat)(w:World)(x:Gr×Int×Int)(e:Ending)(w':World):Prop:=e=.returned (.tuple #[])/\BR A (Grow K w w') Y w' x.1 x.2.1 x.2.2/\Frame (fun k=>k=Y\/K k) w w'
theorem Nr(h:gb A K Y w g er q nv ov av kv)(he:er≠0)(t:fe)(ai:Option Addr)(an ac:Nat):
  Z4 23 #[Z8 Y,.agg #[.int .i64 t.kind,.string ⟨t.name.toArray⟩,.slice ai an ac,.string ⟨t.text.toArray⟩,.int .i64 t.at_]] w fun e w'=>e=.returned (.tuple #[])/\ed w w':=by
 have c2:∀o:Obj,(w.alloc o).cell? ⟨Y,2,none⟩=some (.int .i64 er):=fun o=>dX o (h.cell 2 rfl);have e0:(er !=0)=true:=by simpa using he
 clear h he;go_enter func23,ntmps23;go_wp2
 (try simp only[Exit.inBlock,Exit.then])
 first
 |(refine bQ (aN rfl _ _ _) rfl ?_)
 |(refine aJ (aN rfl _ _ _) rfl ?_)
 exact⟨rfl,(ed.refl w).alloc _⟩
theorem nr{F:Nat->Prop}(hM:ed w w1)(fr:Frame F w1 w2):Frame F w w2:=hM.frame.trans' fr
theorem JB(h:gb A K Y w g 0 q nv ov av kv)(t:fe)(hs:g.stack=[])(hn:g.nodes≠[])(ai:Option Addr)(an ac:Nat):Z4 23 #[Z8 Y,.agg #[.int .i64 1,.string ⟨t.name.toArray⟩,.slice ai an ac,.string ⟨t.text.toArray⟩,.int .i64 t.at_]] w fun e w'=>e=.returned (.tuple #[])/\gb A K Y w' g 7 t.at_ nv ov av kv/\Frame (fun k=>k=Y) w w':=by
 obtain⟨ni,nc,pQ⟩:=dU h.nodes.row;obtain⟨oi,oc,hov⟩:=dU h.opens;subst pQ;subst hov;have kZ:iI g.stack= -1:=by rw[hs];rfl
 have hl:decide (0<g.nodes.length)=true:=by
  cases hg:g.nodes with
  |nil=>exact absurd hg hn
  |cons a l=>simp
 clear hs hn;have om:∀o:Obj,Z4 43 #[Z8 Y] (w.alloc o) fun en w'=>en=.returned (.int .i64 (-1))/\ed (w.alloc o) w':=fun o=>by
  have:=l7 (h.keep ((ed.refl w).alloc o));rw[kZ]at this;exact this
 have c2:∀o:Obj,(w.alloc o).cell? ⟨Y,2,none⟩=some (.int .i64 0):=fun o=>dX o (h.cell 2 rfl);have zE:=a_ om;have H:=a_ h;clear om h kZ;go_enter func23,ntmps23;go_wp2_with fail;refine(zE.out _).mono ?_;rintro e w1 ⟨rfl,m1⟩;have hM:ed w w1:=((ed.refl w).alloc _).trans m1;have eE:w1.heap[w.heap.size]?=some (.cells #[.int .i64 1,.string ⟨t.name.toArray⟩,.slice ai an ac,.string ⟨t.text.toArray⟩,.int .i64 t.at_] 72):=(m1.keep w.heap.size (by simp)).trans (dT w _);have r1:=H.out.keep hM;have d0:w1.cell? ⟨Y,0,none⟩=some (.slice ni g.nodes.length nc):=r1.cell 0 rfl;have d1:w1.cell? ⟨Y,1,none⟩=some (.slice oi g.stack.length oc):=r1.cell 1 rfl;have b0:=cell_of (i:=0) eE rfl;have b1:=cell_of (i:=1) eE rfl;have b2:=cell_of (i:=2) eE rfl;have b3:=cell_of (i:=3) eE rfl;have b4:=cell_of (i:=4) eE rfl;have HM:=a_ hM;have vU:=a_ eE;have R1:=a_ r1;clear r1 hM eE m1;have nQ:=fun e p=>iz R1.out e p;have HF:=a_ nQ;clear nQ;go_wp2_with(first|(go_at_call 24;refine(HF.out _ _).mono ?_;rintro e w2 ⟨rfl,r2,f2⟩;have R2:=a_ r2;have F2:=a_ f2;clear r2 f2))
 (try simp only[Exit.inBlock,Exit.then])
 first
 |(refine bQ (aN rfl _ _ _) rfl ?_)
 |(refine aJ (aN rfl _ _ _) rfl ?_)
 exact⟨rfl,R2.out,nr (by first|exact HM.out|exact HM.out.drewN _) F2.out⟩
theorem JC(h:gb A K Y w g 0 q nv ov av kv)(t:fe)(k:Nat)(st:List Nat)(hs:g.stack=k::st)(hd:30<=g.stack.length)(ai:Option Addr)(an ac:Nat):Z4 23 #[Z8 Y,.agg #[.int .i64 1,.string ⟨t.name.toArray⟩,.slice ai an ac,.string ⟨t.text.toArray⟩,.int .i64 t.at_]] w fun e w'=>e=.returned (.tuple #[])/\gb A K Y w' g 8 t.at_ nv ov av kv/\Frame (fun k=>k=Y) w w':=by
 obtain⟨ni,nc,pQ⟩:=dU h.nodes.row;obtain⟨oi,oc,hov⟩:=dU h.opens;subst pQ;subst hov;have kZ:iI g.stack=(k:Int):=by rw[hs];rfl
 have hd1:decide (30<=g.stack.length)=true:=by simp;omega
 have G4:¬((g.stack.length:Int)<30):=by omega
 have hd3:(30:Int)<=(g.stack.length:Int):=by omega
 have U_:¬((k:Int)<0):=by omega
 clear hs hd;have om:∀o:Obj,Z4 43 #[Z8 Y] (w.alloc o) fun en w'=>en=.returned (.int .i64 ((k:Int)))/\ed (w.alloc o) w':=fun o=>by
  have:=l7 (h.keep ((ed.refl w).alloc o));rw[kZ]at this;exact this
 have c2:∀o:Obj,(w.alloc o).cell? ⟨Y,2,none⟩=some (.int .i64 0):=fun o=>dX o (h.cell 2 rfl);have zE:=a_ om;have H:=a_ h;clear om h kZ;go_enter func23,ntmps23;go_wp2_with fail;refine(zE.out _).mono ?_;rintro e w1 ⟨rfl,m1⟩;have hM:ed w w1:=((ed.refl w).alloc _).trans m1;have eE:w1.heap[w.heap.size]?=some (.cells #[.int .i64 1,.string ⟨t.name.toArray⟩,.slice ai an ac,.string ⟨t.text.toArray⟩,.int .i64 t.at_] 72):=(m1.keep w.heap.size (by simp)).trans (dT w _);have r1:=H.out.keep hM;have d0:w1.cell? ⟨Y,0,none⟩=some (.slice ni g.nodes.length nc):=r1.cell 0 rfl;have d1:w1.cell? ⟨Y,1,none⟩=some (.slice oi g.stack.length oc):=r1.cell 1 rfl;have b0:=cell_of (i:=0) eE rfl;have b1:=cell_of (i:=1) eE rfl;have b2:=cell_of (i:=2) eE rfl;have b3:=cell_of (i:=3) eE rfl;have b4:=cell_of (i:=4) eE rfl;have HM:=a_ hM;have vU:=a_ eE;have R1:=a_ r1;clear r1 hM eE m1;have nQ:=fun e p=>iz R1.out e p;have HF:=a_ nQ;clear nQ;go_wp2_with(first|(go_at_call 24;refine(HF.out _ _).mono ?_;rintro e w2 ⟨rfl,r2,f2⟩;have R2:=a_ r2;have F2:=a_ f2;clear r2 f2))
 (try simp only[Exit.inBlock,Exit.then])
 first
 |(refine bQ (aN rfl _ _ _) rfl ?_)
 |(refine aJ (aN rfl _ _ _) rfl ?_)
 exact⟨rfl,R2.out,nr (by first|exact HM.out|exact HM.out.drewN _) F2.out⟩
theorem JD(h:gb A K Y w g 0 q nv ov av kv)(t:fe)(hs:g.stack=[])(ai:Option Addr)(an ac:Nat):Z4 23 #[Z8 Y,.agg #[.int .i64 2,.string ⟨t.name.toArray⟩,.slice ai an ac,.string ⟨t.text.toArray⟩,.int .i64 t.at_]] w fun e w'=>e=.returned (.tuple #[])/\gb A K Y w' g 6 t.at_ nv ov av kv/\Frame (fun k=>k=Y) w w':=by
 obtain⟨ni,nc,pQ⟩:=dU h.nodes.row;obtain⟨oi,oc,hov⟩:=dU h.opens;subst pQ;subst hov;have kZ:iI g.stack= -1:=by rw[hs];rfl
 clear hs;have om:∀o:Obj,Z4 43 #[Z8 Y] (w.alloc o) fun en w'=>en=.returned (.int .i64 (-1))/\ed (w.alloc o) w':=fun o=>by
  have:=l7 (h.keep ((ed.refl w).alloc o));rw[kZ]at this;exact this
 have c2:∀o:Obj,(w.alloc o).cell? ⟨Y,2,none⟩=some (.int .i64 0):=fun o=>dX o (h.cell 2 rfl);have zE:=a_ om;have H:=a_ h;clear om h kZ;go_enter func23,ntmps23;go_wp2_with fail;refine(zE.out _).mono ?_;rintro e w1 ⟨rfl,m1⟩;have hM:ed w w1:=((ed.refl w).alloc _).trans m1;have eE:w1.heap[w.heap.size]?=some (.cells #[.int .i64 2,.string ⟨t.name.toArray⟩,.slice ai an ac,.string ⟨t.text.toArray⟩,.int .i64 t.at_] 72):=(m1.keep w.heap.size (by simp)).trans (dT w _);have r1:=H.out.keep hM;have d0:w1.cell? ⟨Y,0,none⟩=some (.slice ni g.nodes.length nc):=r1.cell 0 rfl;have d1:w1.cell? ⟨Y,1,none⟩=some (.slice oi g.stack.length oc):=r1.cell 1 rfl;have b0:=cell_of (i:=0) eE rfl;have b1:=cell_of (i:=1) eE rfl;have b2:=cell_of (i:=2) eE rfl;have b3:=cell_of (i:=3) eE rfl;have b4:=cell_of (i:=4) eE rfl;have HM:=a_ hM;have vU:=a_ eE;have R1:=a_ r1;clear r1 hM eE m1;have nQ:=fun nq e p=>iz (R1.out.keep ((ed.refl w1).drewN nq)) e p;have HF:=a_ nQ;clear nQ;go_wp2_with fail;go_quiet(fail);go_wp2_with(first|(go_at_call 24;refine(HF.out _ _ _).mono ?_;rintro e w2 ⟨rfl,r2,f2⟩;have R2:=a_ r2;have F2:=a_ f2;clear r2 f2))
 (try simp only[Exit.inBlock,Exit.then])
 first
 |(refine bQ (aN rfl _ _ _) rfl ?_)
 |(refine aJ (aN rfl _ _ _) rfl ?_)
 exact⟨rfl,R2.out,nr (HM.out.drewN _) F2.out⟩
theorem Gv(h:gb A K Y w g 0 q nv ov av kv)(t:fe)(k:Nat)(st:List Nat)(m:Nd)(hs:g.stack=k::st)(hm:g.nodes[k]?=some m)(hne:m.name≠t.name)(ai:Option Addr)(an ac:Nat):Z4 23 #[Z8 Y,.agg #[.int .i64 2,.string ⟨t.name.toArray⟩,.slice ai an ac,.string ⟨t.text.toArray⟩,.int .i64 t.at_]] w fun e w'=>e=.returned (.tuple #[])/\gb A K Y w' g 6 t.at_ nv ov av kv/\Frame (fun k=>k=Y) w w':=by
 obtain⟨gN,nc,pQ,hmx,Jm,m0,_⟩:=h.nodes.cells k m hm;obtain⟨oi,oc,hov⟩:=dU h.opens;subst pQ;subst hov;have kZ:iI g.stack=(k:Int):=by rw[hs];rfl
 have vB:k<g.nodes.length:=(List.getElem?_eq_some_iff.1 hm).1;have Yp:(k:Int)<g.nodes.length:=by omega
 have U_:¬((k:Int)<0):=by omega
 have qR:(m.name==t.name)=false:=by simpa using hne
 have rV:gN<w.heap.size:=aD w _ m0;have M0:=a_ m0;clear hs hm hne m0;have om:∀o:Obj,Z4 43 #[Z8 Y] (w.alloc o) fun en w'=>en=.returned (.int .i64 ((k:Int)))/\ed (w.alloc o) w':=fun o=>by
  have:=l7 (h.keep ((ed.refl w).alloc o));rw[kZ]at this;exact this
 have c2:∀o:Obj,(w.alloc o).cell? ⟨Y,2,none⟩=some (.int .i64 0):=fun o=>dX o (h.cell 2 rfl);have zE:=a_ om;have H:=a_ h;clear om h kZ;go_enter func23,ntmps23;go_wp2_with fail;refine(zE.out _).mono ?_;rintro e w1 ⟨rfl,m1⟩;have hM:ed w w1:=((ed.refl w).alloc _).trans m1;have eE:w1.heap[w.heap.size]?=some (.cells #[.int .i64 2,.string ⟨t.name.toArray⟩,.slice ai an ac,.string ⟨t.text.toArray⟩,.int .i64 t.at_] 72):=(m1.keep w.heap.size (by simp)).trans (dT w _);have r1:=H.out.keep hM;have d0:w1.cell? ⟨Y,0,none⟩=some (Z9 gN g.nodes.length nc):=r1.cell 0 rfl;have d1:w1.cell? ⟨Y,1,none⟩=some (.slice oi g.stack.length oc):=r1.cell 1 rfl;have b0:=cell_of (i:=0) eE rfl;have b1:=cell_of (i:=1) eE rfl;have b2:=cell_of (i:=2) eE rfl;have b3:=cell_of (i:=3) eE rfl;have b4:=cell_of (i:=4) eE rfl;have HM:=a_ hM;have vU:=a_ eE;have R1:=a_ r1;clear r1 hM eE m1;have e0:w1.cell? ⟨gN,k*5,none⟩=some (.string ⟨m.name.toArray⟩):=(ar (HM.out.keep gN rV)).trans M0.out;have nQ:=fun nq e p=>iz (R1.out.keep ((ed.refl w1).drewN nq)) e p;have HF:=a_ nQ;clear nQ;go_wp2_with fail;go_quiet(fail);go_wp2_with(first|(go_at_call 24;refine(HF.out _ _ _).mono ?_;rintro e w2 ⟨rfl,r2,f2⟩;have R2:=a_ r2;have F2:=a_ f2;clear r2 f2))
 (try simp only[Exit.inBlock,Exit.then])
 first
 |(refine bQ (aN rfl _ _ _) rfl ?_)
 |(refine aJ (aN rfl _ _ _) rfl ?_)
 exact⟨rfl,R2.out,nr (HM.out.drewN _) F2.out⟩
theorem xt(h:gb A K Y w g 0 q nv ov av kv)(t:fe)(ny:t.kind≠1)(hk2:t.kind≠2)(hs:g.stack=[])(hbl:gI t.text=true)(hz:t.text.length<=9223372036854775807)(ai:Option Addr)(an ac:Nat):Z4 23 #[Z8 Y,.agg #[.int .i64 t.kind,.string ⟨t.name.toArray⟩,.slice ai an ac,.string ⟨t.text.toArray⟩,.int .i64 t.at_]] w fun e w'=>e=.returned (.tuple #[])/\ed w w':=by
 obtain⟨ni,nc,pQ⟩:=dU h.nodes.row;obtain⟨oi,oc,hov⟩:=dU h.opens;subst pQ;subst hov;have kZ:iI g.stack= -1:=by rw[hs];rfl
 have Nq:∀W,Z4 45 #[.string ⟨t.text.toArray⟩] W (Z6 (.bool true) W):=fun W=>by
  have h1:=vX ⟨t.text.toArray⟩ W (by simpa [ByteArray.size]using hz);have h2:((⟨t.text.toArray⟩:ByteArray).data.toList.all fun c=>iT c.toNat)=true:=by
   have h3:(⟨t.text.toArray⟩:ByteArray).data.toList=t.text:=by simp
   rw[h3];unfold gI at hbl;simpa using hbl
  rw[h2]at h1;exact h1
 have HBV:=a_ Nq;have e1:(t.kind==1)=false:=by simpa using ny
 have e2:(t.kind==2)=false:=by simpa using hk2
 clear hs hbl Nq ny hk2 hz;have om:∀o:Obj,Z4 43 #[Z8 Y] (w.alloc o) fun en w'=>en=.returned (.int .i64 (-1))/\ed (w.alloc o) w':=fun o=>by
  have:=l7 (h.keep ((ed.refl w).alloc o));rw[kZ]at this;exact this
 have c2:∀o:Obj,(w.alloc o).cell? ⟨Y,2,none⟩=some (.int .i64 0):=fun o=>dX o (h.cell 2 rfl);have zE:=a_ om;have H:=a_ h;clear om h kZ;go_enter func23,ntmps23;go_wp2_with fail;refine(zE.out _).mono ?_;rintro e w1 ⟨rfl,m1⟩;have hM:ed w w1:=((ed.refl w).alloc _).trans m1;have eE:w1.heap[w.heap.size]?=some (.cells #[.int .i64 t.kind,.string ⟨t.name.toArray⟩,.slice ai an ac,.string ⟨t.text.toArray⟩,.int .i64 t.at_] 72):=(m1.keep w.heap.size (by simp)).trans (dT w _);have r1:=H.out.keep hM;have d0:w1.cell? ⟨Y,0,none⟩=some (.slice ni g.nodes.length nc):=r1.cell 0 rfl;have d1:w1.cell? ⟨Y,1,none⟩=some (.slice oi g.stack.length oc):=r1.cell 1 rfl;have b0:=cell_of (i:=0) eE rfl;have b1:=cell_of (i:=1) eE rfl;have b2:=cell_of (i:=2) eE rfl;have b3:=cell_of (i:=3) eE rfl;have b4:=cell_of (i:=4) eE rfl;have HM:=a_ hM;have vU:=a_ eE;have R1:=a_ r1;clear r1 hM eE m1;go_wp2_with(first|(go_at_call 45;refine(HBV.out _).mono ?_;rintro e wx ⟨rfl,hwx⟩;have Us:=hwx.symm;clear hwx;subst Us))
 (try simp only[Exit.inBlock,Exit.then])
 first
 |(refine bQ (aN rfl _ _ _) rfl ?_)
 |(refine aJ (aN rfl _ _ _) rfl ?_)
 exact⟨rfl,HM.out⟩
theorem Az(h:gb A K Y w g 0 q nv ov av kv)(t:fe)(ny:t.kind≠1)(hk2:t.kind≠2)(hs:g.stack=[])(hbl:¬gI t.text=true)(hz:t.text.length<=9223372036854775807)(ai:Option Addr)(an ac:Nat):Z4 23 #[Z8 Y,.agg #[.int .i64 t.kind,.string ⟨t.name.toArray⟩,.slice ai an ac,.string ⟨t.text.toArray⟩,.int .i64 t.at_]] w fun e w'=>e=.returned (.tuple #[])/\gb A K Y w' g 7 t.at_ nv ov av kv/\Frame (fun k=>k=Y) w w':=by
 obtain⟨ni,nc,pQ⟩:=dU h.nodes.row;obtain⟨oi,oc,hov⟩:=dU h.opens;subst pQ;subst hov;have kZ:iI g.stack= -1:=by rw[hs];rfl
 have Nq:∀W,Z4 45 #[.string ⟨t.text.toArray⟩] W (Z6 (.bool false) W):=fun W=>by
  have h1:=vX ⟨t.text.toArray⟩ W (by simpa [ByteArray.size]using hz);have h2:((⟨t.text.toArray⟩:ByteArray).data.toList.all fun c=>iT c.toNat)=false:=by
   have h3:(⟨t.text.toArray⟩:ByteArray).data.toList=t.text:=by simp
   rw[h3];unfold gI at hbl;simpa using hbl
  rw[h2]at h1;exact h1
 have HBV:=a_ Nq;have e1:(t.kind==1)=false:=by simpa using ny
 have e2:(t.kind==2)=false:=by simpa using hk2
 clear hs hbl Nq ny hk2 hz;have om:∀o:Obj,Z4 43 #[Z8 Y] (w.alloc o) fun en w'=>en=.returned (.int .i64 (-1))/\ed (w.alloc o) w':=fun o=>by
  have:=l7 (h.keep ((ed.refl w).alloc o));rw[kZ]at this;exact this
 have c2:∀o:Obj,(w.alloc o).cell? ⟨Y,2,none⟩=some (.int .i64 0):=fun o=>dX o (h.cell 2 rfl);have zE:=a_ om;have H:=a_ h;clear om h kZ;go_enter func23,ntmps23;go_wp2_with fail;refine(zE.out _).mono ?_;rintro e w1 ⟨rfl,m1⟩;have hM:ed w w1:=((ed.refl w).alloc _).trans m1;have eE:w1.heap[w.heap.size]?=some (.cells #[.int .i64 t.kind,.string ⟨t.name.toArray⟩,.slice ai an ac,.string ⟨t.text.toArray⟩,.int .i64 t.at_] 72):=(m1.keep w.heap.size (by simp)).trans (dT w _);have r1:=H.out.keep hM;have d0:w1.cell? ⟨Y,0,none⟩=some (.slice ni g.nodes.length nc):=r1.cell 0 rfl;have d1:w1.cell? ⟨Y,1,none⟩=some (.slice oi g.stack.length oc):=r1.cell 1 rfl;have b0:=cell_of (i:=0) eE rfl;have b1:=cell_of (i:=1) eE rfl;have b2:=cell_of (i:=2) eE rfl;have b3:=cell_of (i:=3) eE rfl;have b4:=cell_of (i:=4) eE rfl;have HM:=a_ hM;have vU:=a_ eE;have R1:=a_ r1;clear r1 hM eE m1;have nQ:=fun e p=>iz R1.out e p;have HF:=a_ nQ;clear nQ;go_wp2_with(first|(go_at_call 24;refine(HF.out _ _).mono ?_;rintro e w2 ⟨rfl,r2,f2⟩;have R2:=a_ r2;have F2:=a_ f2;clear r2 f2)|(go_at_call 45;refine(HBV.out _).mono ?_;rintro e wx ⟨rfl,hwx⟩;have Us:=hwx.symm;clear hwx;subst Us))
 (try simp only[Exit.inBlock,Exit.then])
 first
 |(refine bQ (aN rfl _ _ _) rfl ?_)
 |(refine aJ (aN rfl _ _ _) rfl ?_)
 exact⟨rfl,R2.out,nr (by first|exact HM.out|exact HM.out.drewN _) F2.out⟩
end
section
variable{A K K':Nat->Prop}{w w' w1 w2 W1:World}{nv ov v' a:Value}{av kv:Nat->Value}{g:Gr}{Y:Nat}{er q:Int}{n:Nd}
theorem gb.lift{g':Gr}{j4 uX:Value}{jh jS:Nat->Value}{er' q':Int}(h:gb A K Y w g er q nv ov av kv)(hM:ed w w1)(r:gb A (Grow K w1 w2) Y w2 g' er' q' j4 uX jh jS)(fr:Frame (fun k=>k=Y\/K k) w1 w2):
  gb A (Grow K w w2) Y w2 g' er' q' j4 uX jh jS/\Frame (fun k=>k=Y\/K k) w w2:=by
 have hz:=hM.size;have hz2:=fr.size;have xr:=dS h.blk;refine⟨r.Gt (fun k hk x=>?_) ?_ ?_ (iA h.lt (by omega)),hM.frame.trans' fr⟩
 ·rcases x with x|x
  ·exact Or.inl x
  ·exact Or.inr ⟨by omega,hk⟩
 ·rintro(x|x)
  ·exact h.nK x
  ·omega
 ·rintro k hA (x|x)
  ·exact h.rM k hA x
  ·have:=h.rZ k hA;omega
theorem Re(h:gb A K Y w g 0 q nv ov av kv)(wf:g.Wf)(N1:lA g)(hb:g.nodes.length<=17179869184)(t:fe)(ny:t.kind≠1)(hk2:t.kind≠2)(k:Nat)(st:List Nat)(hs:g.stack=k::st)(hz:t.text.length<=9223372036854775807)(ai:Option Addr)(an ac:Nat):
  Z4 23 #[Z8 Y,.agg #[.int .i64 t.kind,.string ⟨t.name.toArray⟩,.slice ai an ac,.string ⟨t.text.toArray⟩,.int .i64 t.at_]] w fun e w'=>e=.returned (.tuple #[])/\∃j4 jh jS,gb A (Grow K w w') Y w' (g.put (jd t)) 0 q j4 ov jh jS/\Frame (fun k=>k=Y\/K k) w w':=by
 have kZ:iI g.stack=(k:Int):=by rw[hs];rfl
 have om:∀o:Obj,Z4 43 #[Z8 Y] (w.alloc o) fun en w'=>en=.returned (.int .i64 (k:Int))/\ed (w.alloc o) w':=fun o=>by
  have:=l7 (h.keep ((ed.refl w).alloc o));rw[kZ]at this;exact this
 have Nq:∀W,∃bb,Z4 45 #[.string ⟨t.text.toArray⟩] W (Z6 (.bool bb) W):=fun W=>⟨_,vX ⟨t.text.toArray⟩ W (by simpa [ByteArray.size]using hz)⟩
 have c2:∀o:Obj,(w.alloc o).cell? ⟨Y,2,none⟩=some (.int .i64 0):=fun o=>dX o (h.cell 2 rfl);have e1:(t.kind==1)=false:=by simpa using ny
 have e2:(t.kind==2)=false:=by simpa using hk2
 have U_:¬((k:Int)<0):=by omega
 have zE:=a_ om;have HBV:=a_ Nq;have HWF:=a_ wf;have HKD:=a_ N1;have H:=a_ h;clear om h kZ Nq ny hk2 hs wf N1;go_enter func23,ntmps23;go_wp2_with fail;refine(zE.out _).mono ?_;rintro e w1 ⟨rfl,m1⟩;have hM:ed w w1:=((ed.refl w).alloc _).trans m1;have eE:w1.heap[w.heap.size]?=some (.cells #[.int .i64 t.kind,.string ⟨t.name.toArray⟩,.slice ai an ac,.string ⟨t.text.toArray⟩,.int .i64 t.at_] 72):=(m1.keep w.heap.size (by simp)).trans (dT w _);have b0:=cell_of (i:=0) eE rfl;have b3:=cell_of (i:=3) eE rfl;have hput:=DT (H.out.keep hM) HWF.out HKD.out (jd t) (.slice none 0 0) 0 ⟨rfl,Or.inl ⟨rfl,rfl⟩⟩ (fun k e=>by cases e) rfl hb;obtain⟨bb,hbl⟩:=HBV.out w1;have HP:=a_ hput;have HM:=a_ hM;have Ub:=a_ hbl;clear hM eE m1 hput hbl;cases bb;all_goals
  go_wp2_with(first|(go_at_call 45;refine Ub.out.mono ?_;rintro e wx ⟨rfl,hwx⟩;have Us:=hwx.symm;clear hwx;subst Us)|(go_at_call 44;refine HP.out.mono ?_;rintro e w2 ⟨rfl,j4,jh,jS,r2,f2⟩;have R2:=a_ r2;have F2:=a_ f2;clear r2 f2))
  (try simp only[Exit.inBlock,Exit.then])
  first
  |(refine bQ (aN rfl _ _ _) rfl ?_)
  |(refine aJ (aN rfl _ _ _) rfl ?_)
  obtain⟨q1,q2⟩:=H.out.lift HM.out R2.out F2.out;first|exact⟨rfl,j4,jh,jS,q1,q2⟩|exact⟨rfl,⟨j4,jh,jS,q1⟩,q2⟩
theorem Rf{gO n c:Nat}{xs:List Value}(h:w.ownsRow 0 3 1 (Z9 gO (n+1) c) (n+1) xs):w.ownsRow 0 3 1 (Z9 gO n c) n (xs.take n):=by
 rcases h.2 with⟨e,_⟩|⟨g',c',cur,e,h0,hg,h1,h2,h3,h4⟩
 ·cases e
 ·cases e;refine⟨?_,Or.inr ⟨gO,c,cur,rfl,h0,hg,by omega,h2,h3,?_⟩⟩
  ·have:=h.1;rw[bJ];omega
  ·rw[<-h4,List.take_take];congr 1;omega
theorem gb.Xz(h:gb A K Y w g er q nv ov av kv)(uX:Value)(st:List Nat)(ho:w.ownsRow 0 3 1 uX st.length (fj st.reverse))(hK:∀k,uX.ownBlock=some k->K k/\nv.ownBlock≠some k/\∀i,i<g.nodes.length->(kv i).ownBlock≠some k):
  gb A K Y (w.setCell ⟨Y,1,none⟩ uX) ⟨g.nodes,st⟩ er q nv uX av kv/\Frame (fun k=>k=Y) w (w.setCell ⟨Y,1,none⟩ uX):=by
 have keep:∀b,b≠Y->(w.setCell ⟨Y,1,none⟩ uX).heap[b]?=w.heap[b]?:=fun b hb=>ak _ _ _ _ hb;have hz:(w.setCell ⟨Y,1,none⟩ uX).heap.size=w.heap.size:=by simp[World.setCell]
 refine⟨⟨?_,h.nodes.frame (fun b _ hA=>keep b (fun e=>h.nA (by rw[<-e];exact hA))) (fun b _ hK=>keep b (fun e=>h.nK (by rw[<-e];exact hK))) (fun _ _ x=>x),dY ho fun k e=>keep k (fun x=>h.nK (by rw[<-x];exact(hK k e).1)),hK,h.nA,h.nK,h.rM,fun b hb=>by rw[hz];exact h.lt b hb,fun b hb=>by rw[hz];exact h.rZ b hb⟩,⟨rfl,rfl,rfl,by rw[hz];exact au _,fun b _ hb=>keep b hb⟩⟩;rw[ej h.blk];rfl
theorem Ns(L M cO:Nat)(hM:L+1=M)(hc:L+1<=cO)(hm:(L:Int)+1<=9223372036854775807):IntKind.i64.wrap ((M:Int)-1)=(L:Int)/\wrap64 (L:Int)=(L:Int)/\(L:Int)<=cO/\L<=cO:=by refine⟨by rw[aM];omega,by unfold wrap64;omega,by omega,by omega⟩
theorem JE(h:gb A K Y w g 0 q nv ov av kv)(t:fe)(k:Nat)(st:List Nat)(m:Nd)(hs:g.stack=k::st)(hm:g.nodes[k]?=some m)(hne:m.name=t.name)(ai:Option Addr)(an ac:Nat):
  Z4 23 #[Z8 Y,.agg #[.int .i64 2,.string ⟨t.name.toArray⟩,.slice ai an ac,.string ⟨t.text.toArray⟩,.int .i64 t.at_]] w fun e w'=>e=.returned (.tuple #[])/\∃uX,gb A K Y w' ⟨g.nodes,st⟩ 0 q nv uX av kv/\Frame (fun k=>k=Y) w w':=by
 obtain⟨gN,nc,pQ,hmx,Jm,m0,_⟩:=h.nodes.cells k m hm;obtain⟨gO,cO,hov,_,zO⟩:=h.top hs;have hop:=h.opens;rw[hs,hov]at hop;have aal:=Rf hop;have CD:st.length+1<=cO:=by
  rcases hop.2 with⟨e,_⟩|⟨g',c',cur,e,h0,hg,h1,h2,h3,h4⟩
  ·cases e
  ·cases e;exact h1
 subst pQ;have kZ:iI g.stack=(k:Int):=by rw[hs];rfl
 have vB:k<g.nodes.length:=(List.getElem?_eq_some_iff.1 hm).1;have Yp:(k:Int)<g.nodes.length:=by omega
 have U_:¬((k:Int)<0):=by omega
 have abX:decide ((k:Int)<0)=false:=by simp
 have qR:(m.name==t.name)=true:=by simpa using hne
 have rV:gN<w.heap.size:=aD w _ m0;have om:∀o:Obj,Z4 43 #[Z8 Y] (w.alloc o) fun en w'=>en=.returned (.int .i64 (k:Int))/\ed (w.alloc o) w':=fun o=>by
  have:=l7 (h.keep ((ed.refl w).alloc o));rw[kZ]at this;exact this
 have c2:∀o:Obj,(w.alloc o).cell? ⟨Y,2,none⟩=some (.int .i64 0):=fun o=>dX o (h.cell 2 rfl);have hmi:(st.length:Int)+1<=9223372036854775807:=by have:maxLen=9223372036854775807:=rfl;omega
 have zE:=a_ om;have H:=a_ h;have M0:=a_ m0;have HOV:=a_ hov;clear om h kZ m0 hne hm hov hop;go_enter func23,ntmps23;go_wp2_with fail;refine(zE.out _).mono ?_;rintro e w1 ⟨rfl,m1⟩;have hM:ed w w1:=((ed.refl w).alloc _).trans m1;have eE:w1.heap[w.heap.size]?=some (.cells #[.int .i64 2,.string ⟨t.name.toArray⟩,.slice ai an ac,.string ⟨t.text.toArray⟩,.int .i64 t.at_] 72):=(m1.keep w.heap.size (by simp)).trans (dT w _);have r1:=H.out.keep hM;have d0:w1.cell? ⟨Y,0,none⟩=some (Z9 gN g.nodes.length nc):=r1.cell 0 rfl;have d1:w1.cell? ⟨Y,1,none⟩=some (Z9 gO (st.length+1) cO):=by rw[<-HOV.out];exact r1.cell 1 rfl
 have b0:=cell_of (i:=0) eE rfl;have b1:=cell_of (i:=1) eE rfl;have e0:w1.cell? ⟨gN,k*5,none⟩=some (.string ⟨m.name.toArray⟩):=(ar (hM.keep gN rV)).trans M0.out;have f1:=d_ (i:=1) r1.blk;generalize Ut:st.length+1=M at d1;obtain⟨hw,Ur,hLc,hLn⟩:=Ns st.length M cO Ut CD hmi;have uU:=a_ Ut;have Ys:=a_ aal;have abY:=a_ CD;have HM:=a_ hM;have vU:=a_ eE;have R1:=a_ r1;clear r1 hM eE m1 Ut aal CD;generalize hLL:st.length=L at hw Ur hLc hLn;have HLL:=a_ hLL;clear hLL;go_wp2_with fail;go_quiet(fail);go_wp2_with fail;obtain⟨W2,hW2⟩:∃W,w1.drewN nq=W:=⟨_,rfl⟩
 rw[hW2];have wR:ed w1 W2:=by rw[<-hW2];exact(ed.refl w1).drewN _
 have r2:=R1.out.keep wR;have g1:W2.cell? ⟨Y,1,none⟩=some (Z9 gO M cO):=by rw[<-hW2];exact d1
 have f1':=d_ (i:=1) r2.blk;have R2:=a_ r2;have HM2:=a_ wR;clear r2 wR hW2 d0 d1 e0 b0 b1 f1;go_region_law (fail);all_goals
  go_wp2
  (try simp only[Exit.inBlock,Exit.then])
  first
  |(refine bQ (aN rfl _ _ _) rfl ?_)
  |(refine aJ (aN rfl _ _ _) rfl ?_)
  have hL:=HLL.out;subst hL;have lZ:(fj (k::st).reverse).take st.length=fj st.reverse:=by
   rw[dQ];unfold fj;rw[bF,List.take_append_of_le_length (by simp),bT (by simp)]
  have aam:ed w W2:=HM.out.trans HM2.out;have abm:W2.ownsRow 0 3 1 (Z9 gO st.length cO) st.length (fj st.reverse):=by
   rw[<-lZ];exact dY Ys.out fun b e=>aam.keep b (eu Ys.out e)
  obtain⟨s1,s2⟩:=R2.out.Xz (Z9 gO st.length cO) st abm (fun b e=>H.out.jm b (by rw[HOV.out];exact e));have hD:ed (W2.setCell ⟨Y,1,none⟩ (Z9 gO st.length cO)) (W2.setCell ⟨Y,1,none⟩ (Z9 gO st.length cO)).drew:=(ed.refl _).drewN 1;exact⟨rfl,_,s1.keep hD,(aam.frame.trans' s2).trans' hD.frame⟩
end
section
variable{A K K':Nat->Prop}{w w' w1 w2 w3 W1:World}{nv ov v' a:Value}{av kv:Nat->Value}{g:Gr}{Y:Nat}{er q:Int}{n:Nd}
theorem Cf(l:Nat)(M:Nat)(hM:M=l+1)(hb:l<=17179869184):IntKind.i64.wrap ((M:Int)-1)=(l:Int)/\wrap64 (l:Int)=(l:Int):=by refine⟨by rw[aM];omega,by unfold wrap64;omega⟩
theorem wT{o:Obj}{k:Nat}(h:gb A K Y w g er q nv ov av kv)(hg:(w.drew.alloc o).grownBy w2 ov.ownBlock)(ho:w2.ownsRow 0 3 1 v' (g.stack.length+1) (fj g.stack.reverse++[.int .i64 k]))(hat:v'.ownBlock=ov.ownBlock\/v'.ownBlock=some (w.drew.alloc o).heap.size):
  gb A (Grow K w (w2.setCell ⟨Y,1,none⟩ v')) Y (w2.setCell ⟨Y,1,none⟩ v') ⟨g.nodes,k::g.stack⟩ er q nv v' av kv/\Frame (fun k=>k=Y\/K k) w (w2.setCell ⟨Y,1,none⟩ v'):=by
 have xr:=dS h.blk;have hM:ed w (w.drew.alloc o):=((ed.refl w).drewN 1).alloc o;have hz:(w.drew.alloc o).heap.size=w.heap.size+1:=by simp
 have zR:=hg.size;have hoY:ov.ownBlock≠some Y:=fun e=>h.nK (h.jm Y e).1
 --all but the row of open elements is kept
 have keep:∀b,b<w.heap.size->ov.ownBlock≠some b->w2.heap[b]?=w.heap[b]?:=fun b hb hne=>(hg.block b (by omega) (fun e=>hne e.symm)).trans (hM.keep b hb);have hvb:∀b,v'.ownBlock=some b->(K b\/b=w.heap.size+1)/\nv.ownBlock≠some b/\∀i,i<g.nodes.length->(kv i).ownBlock≠some b:=by
  intro b e;rcases hat with e2|e2
  ·rw[e2]at e;exact⟨Or.inl (h.jm b e).1,(h.jm b e).2⟩
  ·rw[e2]at e;have eb:b=w.heap.size+1:=by simp only[bL]at e;omega
   refine⟨Or.inr eb,fun x=>?_,fun i hi x=>?_⟩
   ·have:=h.lt b (h.nodes.nz b x);omega
   ·have:=h.lt b (h.nodes.mo i b hi x).1;omega
 have h2:gb A (Grow K w w2) Y w2 ⟨g.nodes,k::g.stack⟩ er q nv v' av kv->True:=fun _=>trivial;have pS:ic 120 212 A (Grow K w w2) w2 nv g.nodes av kv:=by
  have row:w2.ownsRow 0 120 5 nv g.nodes.length (fh av kv 0 g.nodes):=dY h.nodes.row fun b e=>keep b (eu h.nodes.row e) (fun x=>(h.jm b x).2.1 e);refine⟨row,fun b e=>Or.inl (h.nodes.nz b e),fun i m hi=>dY (h.nodes.attr i m hi) fun b e=>keep b (eu (h.nodes.attr i m hi) e) (fun x=>h.rM b (h.nodes.uS i b (List.getElem?_eq_some_iff.1 hi).1 e) (h.jm b x).1),h.nodes.uS,
   fun i m hi=>dY (h.nodes.kid i m hi) fun b e=>keep b (eu (h.nodes.kid i m hi) e) (fun x=>(h.jm b x).2.2 i (List.getElem?_eq_some_iff.1 hi).1 e),fun i b hi e=>⟨Or.inl (h.nodes.mo i b hi e).1,(h.nodes.mo i b hi e).2⟩,h.nodes.apart,h.nodes.Un⟩
 have qq:∀b,b≠Y->(w2.setCell ⟨Y,1,none⟩ v').heap[b]?=w2.heap[b]?:=fun b hb=>ak _ _ _ _ hb;have hzz:(w2.setCell ⟨Y,1,none⟩ v').heap.size=w2.heap.size:=by simp[World.setCell]
 have abn:¬Grow K w w2 Y:=by
  rintro(x|x)
  ·exact h.nK x
  ·omega
 have hKK:∀b,Grow K w w2 b->Grow K w (w2.setCell ⟨Y,1,none⟩ v') b:=fun b x=>x.elim Or.inl (fun y=>Or.inr ⟨y.1,by rw[hzz];exact y.2⟩);refine⟨⟨?_,pS.frame (fun b _ x=>qq b (fun e=>h.nA (by rw[<-e];exact x))) (fun b _ x=>qq b (fun e=>abn (by rw[<-e];exact x))) (fun b _ x=>hKK b x),?_,?_,h.nA,?_,?_,?_,fun b x=>by have:=h.rZ b x;omega⟩,⟨hg.os.trans hM.os,hg.tape.trans hM.tape,hg.output.trans hM.output,by omega,fun b hb hf=>?_⟩⟩
 ·rw[ej ((keep Y xr hoY).trans h.blk)];rfl
 ·have e1:fj (k::g.stack).reverse=fj g.stack.reverse++[.int .i64 k]:=by simp[fj]
  rw[e1];refine dY ho fun b e=>qq b (fun x=>?_);rcases(hvb b e).1 with y|y
  ·exact h.nK (by rw[<-x];exact y)
  ·omega
 ·intro b e;refine⟨?_,(hvb b e).2⟩;rcases(hvb b e).1 with y|y
  ·exact Or.inl y
  ·refine Or.inr ⟨by omega,?_⟩;have:=eu ho e;omega
 ·rintro(x|x)
  ·exact h.nK x
  ·omega
 ·rintro b hA (x|x)
  ·exact h.rM b hA x
  ·have:=h.rZ b hA;omega
 ·rintro b (x|x)
  ·have:=h.lt b x;omega
  ·exact x.2
 ·rw[qq b (fun e=>hf (Or.inl e))];exact keep b hb (fun e=>hf (Or.inr (h.jm b e).1))
theorem Gw(h:gb A K Y w g 0 q nv ov av kv)(wf:g.Wf)(N1:lA g)(hb:g.nodes.length<=17179869184)(t:fe)(va:Value)(ha:w.ownsRow 0 212 2 va t.attrs.length (ee t.attrs))(mq:∀k,va.ownBlock=some k->A k)(hs:g.stack=[])(hn:g.nodes=[])(hd:g.stack.length<30):
  Z4 23 #[Z8 Y,.agg #[.int .i64 1,.string ⟨t.name.toArray⟩,va,.string ⟨t.text.toArray⟩,.int .i64 t.at_]] w fun e w'=>e=.returned (.tuple #[])/\∃j4 uX jh jS,gb A (Grow K w w') Y w' { (g.put (elemOf t))with stack:=g.nodes.length::g.stack} 0 q j4 uX jh jS/\Frame (fun k=>k=Y\/K k) w w':=by
 obtain⟨ai,ac,l8⟩:=dU ha;obtain⟨ni,nc,pQ⟩:=dU h.nodes.row;obtain⟨oi,oc,hov⟩:=dU h.opens;subst l8;subst pQ;subst hov;have kZ:iI g.stack= -1:=by rw[hs];rfl
 have hl0:decide (0<g.nodes.length)=false:=by rw[hn];rfl
 clear hn hs;have om:∀o:Obj,Z4 43 #[Z8 Y] (w.alloc o) fun en w'=>en=.returned (.int .i64 (-1))/\ed (w.alloc o) w':=fun o=>by
  have:=l7 (h.keep ((ed.refl w).alloc o));rw[kZ]at this;exact this
 have c2:∀o:Obj,(w.alloc o).cell? ⟨Y,2,none⟩=some (.int .i64 0):=fun o=>dX o (h.cell 2 rfl);have hd1:decide (30<=g.stack.length)=false:=by simp;omega
 have G4:(g.stack.length:Int)<30:=by omega
 obtain⟨j0,hj,RZ,ED,D4⟩:=aY wu;have zE:=a_ om;have HWF:=a_ wf;have HKD:=a_ N1;have HA:=a_ ha;have Ha:=a_ mq;have H:=a_ h;clear om h kZ wf N1 ha mq;go_enter func23,ntmps23;go_wp2_with fail;refine(zE.out _).mono ?_;rintro e w1 ⟨rfl,m1⟩;have hM:ed w w1:=((ed.refl w).alloc _).trans m1;have eE:w1.heap[w.heap.size]?=some (.cells #[.int .i64 1,.string ⟨t.name.toArray⟩,.slice ai (List.length t.attrs) ac,.string ⟨t.text.toArray⟩,.int .i64 t.at_] 72):=(m1.keep w.heap.size (by simp)).trans (dT w _);have r1:=H.out.keep hM;have d0:w1.cell? ⟨Y,0,none⟩=some (.slice ni g.nodes.length nc):=r1.cell 0 rfl;have d1:w1.cell? ⟨Y,1,none⟩=some (.slice oi g.stack.length oc):=r1.cell 1 rfl;have b0:=cell_of (i:=0) eE rfl;have b1:=cell_of (i:=1) eE rfl;have b2:=cell_of (i:=2) eE rfl;have hput:=DT r1 HWF.out HKD.out (elemOf t) (.slice ai (List.length t.attrs) ac) 0 (dY HA.out fun b e=>hM.keep b (eu HA.out e)) Ha.out rfl hb;have HP:=a_ hput;have HM:=a_ hM;clear r1 hM eE m1 hput;go_wp2_with(first|(go_at_call 44;refine HP.out.mono ?_;rintro e w2 ⟨rfl,nv2,av2,kv2,r2,f2⟩;obtain⟨n2,N8,XA⟩:=dU r2.nodes.row;subst XA;have y0:=r2.cell 0 rfl;have y1:=r2.cell 1 rfl;have R2:=a_ r2;have F2:=a_ f2;clear r2 f2 d0 d1 b0 b1 b2));have hst:(g.put (elemOf t)).stack=g.stack:=mG _ _;obtain⟨hw,Ur⟩:=Cf g.nodes.length (g.put (elemOf t)).nodes.length (lV _ _) hb;have hop:=R2.out.opens;rw[hst]at hop;have Ys:=a_ hop;have Xv:=a_ R2.out.blk;have hoY:(Value.slice oi g.stack.length oc).ownBlock≠some Y:=fun e=>R2.out.nK (R2.out.jm Y e).1;have y0a:∀o:Obj,(w2.alloc o).cell? ⟨Y,0,none⟩=some (.slice n2 (g.put (elemOf t)).nodes.length N8):=fun o=>dX o y0;have y1a:∀o:Obj,(w2.alloc o).cell? ⟨Y,1,none⟩=some (.slice oi g.stack.length oc):=fun o=>dX o y1;have f1:=d_ (i:=1) R2.out.blk;have HST:=a_ hst;clear hop hst c2;generalize Ut:(g.put (elemOf t)).nodes.length=M at*
 have uU:=a_ Ut;clear Ut;go_region_law
  (first|(
   refine eP rfl (.tmp 74) (.tmp 81) 31 rfl 3 j0 _ 1 8 underlying31 hj RZ ED D4 rfl (by decide) (.slice oi g.stack.length oc) g.stack.length (fj g.stack.reverse) (by simp[Act.eval,Act.put]) (Ys.out.drew.alloc _) ⟨w2.heap.size,0,none⟩ 1 1 [.int .i64 g.nodes.length] (by simp[Act.eval,Act.put]) rfl (uV _ _) (xJ _) (by unfold maxLen;omega) (by omega) ?_;intro v' w3 ho hg hat;obtain⟨Uu,DU,rfl⟩:=dU ho;have XB:=fL Xv.out hoY hg;have y1':w3.cell? ⟨Y,1,none⟩=some (.slice oi g.stack.length oc):=cell_of XB rfl;have f1':=d_ (i:=1) XB;have HO3:=a_ ho;have HG3:=a_ hg;have XC:=a_ hat;clear ho hg hat XB))
 all_goals
  go_wp2
  (try simp only[Exit.inBlock,Exit.then])
  first
  |(refine bQ (aN rfl _ _ _) rfl ?_)
  |(refine aJ (aN rfl _ _ _) rfl ?_)
  have wR:=uU.out;subst wR;obtain⟨s1,s2⟩:=wT (k:=g.nodes.length) R2.out HG3.out (by rw[HST.out];exact HO3.out) XC.out;have e4:({ (g.put (elemOf t))with stack:=g.nodes.length::g.stack}:Gr)=⟨(g.put (elemOf t)).nodes,g.nodes.length::(g.put (elemOf t)).stack⟩:=by rw[HST.out]
  have lC:Frame (fun k=>k=Y\/K k) w1 (w3.setCell ⟨Y,1,none⟩ (.slice Uu (g.stack.length+1) DU)):=by
   refine⟨s2.os.trans F2.out.os,s2.tape.trans F2.out.tape,s2.output.trans F2.out.output,aw F2.out.size s2.size,fun b hb2 hf=>?_⟩;rw[s2.block b (aq hb2 F2.out.size) (fun x=>by
    rcases x with x|x|x
    ·exact hf (Or.inl x)
    ·exact hf (Or.inr x)
    ·omega)]
   exact F2.out.block b hb2 hf
  have s3:gb A (Grow K w1 (w3.setCell ⟨Y,1,none⟩ (.slice Uu (g.stack.length+1) DU))) Y (w3.setCell ⟨Y,1,none⟩ (.slice Uu (g.stack.length+1) DU)) ⟨(g.put (elemOf t)).nodes,g.nodes.length::(g.put (elemOf t)).stack⟩ 0 q (.slice n2 (g.put (elemOf t)).nodes.length N8) (.slice Uu (g.stack.length+1) DU) av2 kv2:=by
   have r1:=H.out.keep HM.out;have xr:=dS r1.blk;have z1:=F2.out.size;refine s1.Gt (fun b hb2 x=>?_) ?_ ?_ (iA r1.lt lC.size)
   ·rcases x with(x|x)|x
    ·exact Or.inl x
    ·exact Or.inr ⟨x.1,hb2⟩
    ·exact Or.inr ⟨by omega,hb2⟩
   ·rintro(x|x)
    ·exact r1.nK x
    ·omega
   ·rintro b hA (x|x)
    ·exact r1.rM b hA x
    ·have:=r1.rZ b hA;omega
  obtain⟨q1,q2⟩:=H.out.lift HM.out s3 lC;rw[e4];first|exact⟨rfl,_,_,_,_,q1,q2⟩|exact⟨rfl,⟨_,_,_,_,q1⟩,q2⟩
theorem Gx(h:gb A K Y w g 0 q nv ov av kv)(wf:g.Wf)(N1:lA g)(hb:g.nodes.length<=17179869184)(t:fe)(va:Value)(ha:w.ownsRow 0 212 2 va t.attrs.length (ee t.attrs))(mq:∀k,va.ownBlock=some k->A k)(k:Nat)(st:List Nat)(hs:g.stack=k::st)(hd:g.stack.length<30):
  Z4 23 #[Z8 Y,.agg #[.int .i64 1,.string ⟨t.name.toArray⟩,va,.string ⟨t.text.toArray⟩,.int .i64 t.at_]] w fun e w'=>e=.returned (.tuple #[])/\∃j4 uX jh jS,gb A (Grow K w w') Y w' { (g.put (elemOf t))with stack:=g.nodes.length::g.stack} 0 q j4 uX jh jS/\Frame (fun k=>k=Y\/K k) w w':=by
 obtain⟨ai,ac,l8⟩:=dU ha;obtain⟨ni,nc,pQ⟩:=dU h.nodes.row;obtain⟨oi,oc,hov⟩:=dU h.opens;subst l8;subst pQ;subst hov;have kZ:iI g.stack=(k:Int):=by rw[hs];rfl
 have U_:decide ((k:Int)<0)=false:=by simp
 have ny:¬((k:Int)<0):=by omega
 clear hs;have om:∀o:Obj,Z4 43 #[Z8 Y] (w.alloc o) fun en w'=>en=.returned (.int .i64 ((k:Int)))/\ed (w.alloc o) w':=fun o=>by
  have:=l7 (h.keep ((ed.refl w).alloc o));rw[kZ]at this;exact this
 have c2:∀o:Obj,(w.alloc o).cell? ⟨Y,2,none⟩=some (.int .i64 0):=fun o=>dX o (h.cell 2 rfl);have hd1:decide (30<=g.stack.length)=false:=by simp;omega
 have G4:(g.stack.length:Int)<30:=by omega
 obtain⟨j0,hj,RZ,ED,D4⟩:=aY wu;have zE:=a_ om;have HWF:=a_ wf;have HKD:=a_ N1;have HA:=a_ ha;have Ha:=a_ mq;have H:=a_ h;clear om h kZ wf N1 ha mq;go_enter func23,ntmps23;go_wp2_with fail;refine(zE.out _).mono ?_;rintro e w1 ⟨rfl,m1⟩;have hM:ed w w1:=((ed.refl w).alloc _).trans m1;have eE:w1.heap[w.heap.size]?=some (.cells #[.int .i64 1,.string ⟨t.name.toArray⟩,.slice ai (List.length t.attrs) ac,.string ⟨t.text.toArray⟩,.int .i64 t.at_] 72):=(m1.keep w.heap.size (by simp)).trans (dT w _);have r1:=H.out.keep hM;have d0:w1.cell? ⟨Y,0,none⟩=some (.slice ni g.nodes.length nc):=r1.cell 0 rfl;have d1:w1.cell? ⟨Y,1,none⟩=some (.slice oi g.stack.length oc):=r1.cell 1 rfl;have b0:=cell_of (i:=0) eE rfl;have b1:=cell_of (i:=1) eE rfl;have b2:=cell_of (i:=2) eE rfl;have hput:=DT r1 HWF.out HKD.out (elemOf t) (.slice ai (List.length t.attrs) ac) 0 (dY HA.out fun b e=>hM.keep b (eu HA.out e)) Ha.out rfl hb;have HP:=a_ hput;have HM:=a_ hM;clear r1 hM eE m1 hput;go_wp2_with(first|(go_at_call 44;refine HP.out.mono ?_;rintro e w2 ⟨rfl,nv2,av2,kv2,r2,f2⟩;obtain⟨n2,N8,XA⟩:=dU r2.nodes.row;subst XA;have y0:=r2.cell 0 rfl;have y1:=r2.cell 1 rfl;have R2:=a_ r2;have F2:=a_ f2;clear r2 f2 d0 d1 b0 b1 b2));have hst:(g.put (elemOf t)).stack=g.stack:=mG _ _;obtain⟨hw,Ur⟩:=Cf g.nodes.length (g.put (elemOf t)).nodes.length (lV _ _) hb;have hop:=R2.out.opens;rw[hst]at hop;have Ys:=a_ hop;have Xv:=a_ R2.out.blk;have hoY:(Value.slice oi g.stack.length oc).ownBlock≠some Y:=fun e=>R2.out.nK (R2.out.jm Y e).1;have y0a:∀o:Obj,(w2.alloc o).cell? ⟨Y,0,none⟩=some (.slice n2 (g.put (elemOf t)).nodes.length N8):=fun o=>dX o y0;have y1a:∀o:Obj,(w2.alloc o).cell? ⟨Y,1,none⟩=some (.slice oi g.stack.length oc):=fun o=>dX o y1;have f1:=d_ (i:=1) R2.out.blk;have HST:=a_ hst;clear hop hst c2;generalize Ut:(g.put (elemOf t)).nodes.length=M at*
 have uU:=a_ Ut;clear Ut;go_region_law
  (first|(
   refine eP rfl (.tmp 74) (.tmp 81) 31 rfl 3 j0 _ 1 8 underlying31 hj RZ ED D4 rfl (by decide) (.slice oi g.stack.length oc) g.stack.length (fj g.stack.reverse) (by simp[Act.eval,Act.put]) (Ys.out.drew.alloc _) ⟨w2.heap.size,0,none⟩ 1 1 [.int .i64 g.nodes.length] (by simp[Act.eval,Act.put]) rfl (uV _ _) (xJ _) (by unfold maxLen;omega) (by omega) ?_;intro v' w3 ho hg hat;obtain⟨Uu,DU,rfl⟩:=dU ho;have XB:=fL Xv.out hoY hg;have y1':w3.cell? ⟨Y,1,none⟩=some (.slice oi g.stack.length oc):=cell_of XB rfl;have f1':=d_ (i:=1) XB;have HO3:=a_ ho;have HG3:=a_ hg;have XC:=a_ hat;clear ho hg hat XB))
 all_goals
  go_wp2
  (try simp only[Exit.inBlock,Exit.then])
  first
  |(refine bQ (aN rfl _ _ _) rfl ?_)
  |(refine aJ (aN rfl _ _ _) rfl ?_)
  have wR:=uU.out;subst wR;obtain⟨s1,s2⟩:=wT (k:=g.nodes.length) R2.out HG3.out (by rw[HST.out];exact HO3.out) XC.out;have e4:({ (g.put (elemOf t))with stack:=g.nodes.length::g.stack}:Gr)=⟨(g.put (elemOf t)).nodes,g.nodes.length::(g.put (elemOf t)).stack⟩:=by rw[HST.out]
  have lC:Frame (fun k=>k=Y\/K k) w1 (w3.setCell ⟨Y,1,none⟩ (.slice Uu (g.stack.length+1) DU)):=by
   refine⟨s2.os.trans F2.out.os,s2.tape.trans F2.out.tape,s2.output.trans F2.out.output,aw F2.out.size s2.size,fun b hb2 hf=>?_⟩;rw[s2.block b (aq hb2 F2.out.size) (fun x=>by
    rcases x with x|x|x
    ·exact hf (Or.inl x)
    ·exact hf (Or.inr x)
    ·omega)]
   exact F2.out.block b hb2 hf
  have s3:gb A (Grow K w1 (w3.setCell ⟨Y,1,none⟩ (.slice Uu (g.stack.length+1) DU))) Y (w3.setCell ⟨Y,1,none⟩ (.slice Uu (g.stack.length+1) DU)) ⟨(g.put (elemOf t)).nodes,g.nodes.length::(g.put (elemOf t)).stack⟩ 0 q (.slice n2 (g.put (elemOf t)).nodes.length N8) (.slice Uu (g.stack.length+1) DU) av2 kv2:=by
   have r1:=H.out.keep HM.out;have xr:=dS r1.blk;have z1:=F2.out.size;refine s1.Gt (fun b hb2 x=>?_) ?_ ?_ (iA r1.lt lC.size)
   ·rcases x with(x|x)|x
    ·exact Or.inl x
    ·exact Or.inr ⟨x.1,hb2⟩
    ·exact Or.inr ⟨by omega,hb2⟩
   ·rintro(x|x)
    ·exact r1.nK x
    ·omega
   ·rintro b hA (x|x)
    ·exact r1.rM b hA x
    ·have:=r1.rZ b hA;omega
  obtain⟨q1,q2⟩:=H.out.lift HM.out s3 lC;rw[e4];first|exact⟨rfl,_,_,_,_,q1,q2⟩|exact⟨rfl,⟨_,_,_,_,q1⟩,q2⟩
end
end K
end Go.Proofs.YtclgfepngpeifaaGreatDoor
