import Derived.Test.YthlcmljckpdheaaGreatDoorHA
import Derived.Test.YthlcmljckpdheaaGreatDoorHaw
import Derived.Test.YthlcmljckpdheaaGreatDoorHau
import Derived.Test.YthlcmljckpdheaaGreatDoorHak
set_option linter.unusedVariables false
set_option linter.unusedSimpArgs false
set_option maxHeartbeats 32000000
set_option maxRecDepth 100000
namespace Go.Proofs.YthlcmljckpdheaaGreatDoor
namespace K
open Go.RowKit Go.Maps Go.Lib Tryz
section
variable{A K K':Nat->Prop}{w w' w1:World}{nv ov:Value}{av kv:Nat->Value}{g:Gr}{Y:Nat}{er q:Int}
structure gI(A K:Nat->Prop)(Y:Nat)(w:World)(g:Gr)(er q:Int)(nv ov:Value)(av kv:Nat->Value):Prop where
 blk:w.heap[Y]?=some (.cells #[nv,ov,.int .i64 er,.int .i64 q] 83 (0,0))
 nodes:ic 53 219 A K w nv g.nodes av kv
 opens:w.ownsRow 0 3 1 ov g.stack.length (fL g.stack.reverse)
 jH:∀k,ov.ownBlock=some k->K k/\nv.ownBlock≠some k/\∀i,i<g.nodes.length->(kv i).ownBlock≠some k
 nA:¬A Y
 nK:¬K Y
 sq:∀k,A k->¬K k
 lt:∀k,K k->k<w.heap.size
 sH:∀k,A k->k<w.heap.size
theorem gI.cell(h:gI A K Y w g er q nv ov av kv)(i:Nat){u:Value}(e:#[nv,ov,.int .i64 er,.int .i64 q][i]?=some u):w.cell? ⟨Y,i,none⟩=some u:=cell_of h.blk e
theorem eN.Jf{W:World}{l:List Nd}(h:eN w W)(hn:ic 53 219 A K w nv l av kv):ic 53 219 A K W nv l av kv:=hn.frame (fun k hk _=>h.keep k hk) (fun k hk _=>h.keep k hk) (fun _ _ x=>x)
theorem gI.keep{W:World}(h:gI A K Y w g er q nv ov av kv)(hM:eN w W):gI A K Y W g er q nv ov av kv:=
 ⟨(hM.keep Y (eO h.blk)).trans h.blk,hM.Jf h.nodes,eH h.opens fun k e=>hM.keep k (eW h.opens e),h.jH,h.nA,h.nK,h.sq,fun k x=>ah (h.lt k x) hM.size,fun k x=>ah (h.sH k x) hM.size⟩
theorem iR(h:gI A K Y w g er q nv ov av kv)(e p:Int):
  Z4 23 #[Z8 Y,.int .i64 e,.int .i64 p] w fun en w'=>en=.returned (.tuple #[])/\gI A K Y w' g (if er=0 then e else er) (if er=0 then p else q) nv ov av kv/\Frame (fun k=>k=Y) w w':=by
 have c2:w.cell? ⟨Y,2,none⟩=some (.int .i64 er):=h.cell 2 rfl;have c3:w.cell? ⟨Y,3,none⟩=some (.int .i64 q):=h.cell 3 rfl;have f2:=eR (i:=2) h.blk;have f3:∀v,(w.setCell ⟨Y,2,none⟩ v).frozen? ⟨Y,3,none⟩=false:=fun v=>eR (i:=3) (fe (i:=2) h.blk v);have c3':∀v,(w.setCell ⟨Y,2,none⟩ v).cell? ⟨Y,3,none⟩=some (.int .i64 q):=fun v=>cell_of (fe (i:=2) h.blk v) rfl;have H:=a_ h;clear h;by_cases h0:er=0
 ·rw[if_pos h0,if_pos h0];have e0:(er==0)=true:=by simpa using h0
  clear h0;go_enter func23,ntmps23;go_wp2
  (try simp only[Exit.inBlock,Exit.then])
  first
  |(refine bS (aN rfl _ _ _) rfl ?_)
  |(refine ba (aN rfl _ _ _) rfl ?_)
  have keep:∀b,b≠Y->((w.setCell ⟨Y,2,none⟩ (.int .i64 e)).setCell ⟨Y,3,none⟩ (.int .i64 p)).heap[b]?=w.heap[b]?:=fun b hb=>by rw[ae _ _ _ _ hb,ae _ _ _ _ hb]
  have hz:((w.setCell ⟨Y,2,none⟩ (.int .i64 e)).setCell ⟨Y,3,none⟩ (.int .i64 p)).heap.size=w.heap.size:=by simp[World.setCell]
  have h:=H.out;refine⟨rfl,⟨?_,h.nodes.frame (fun b _ hA=>keep b (fun e=>h.nA (by rw[<-e];exact hA))) (fun b _ hK=>keep b (fun e=>h.nK (by rw[<-e];exact hK))) (fun _ _ x=>x),eH h.opens fun k e=>keep k (fun x=>h.nK (by rw[<-x];exact(h.jH k e).1)),h.jH,h.nA,h.nK,h.sq,fun b hb=>by rw[hz];exact h.lt b hb,fun b hb=>by rw[hz];exact h.sH b hb⟩,⟨rfl,rfl,rfl,by rw[hz];exact aj _,fun b _ hb=>keep b hb⟩⟩;rw[fe (fe h.blk _) _];rfl
 ·rw[if_neg h0,if_neg h0];have e0:(er==0)=false:=by simpa using h0
  clear h0;go_enter func23,ntmps23;go_wp2
  (try simp only[Exit.inBlock,Exit.then])
  first
  |(refine bS (aN rfl _ _ _) rfl ?_)
  |(refine ba (aN rfl _ _ _) rfl ?_)
  exact⟨rfl,H.out,⟨rfl,rfl,rfl,aj _,fun _ _ _=>rfl⟩⟩
theorem gI.top(h:gI A K Y w g er q nv ov av kv){k:Nat}{st:List Nat}(hs:g.stack=k::st):∃gO cO,ov=Z9 gO (st.length+1) cO/\w.cell? ⟨gO,st.length,none⟩=some (.int .i64 k)/\st.length+1<=maxLen:=by
 have ho:=h.opens;rw[hs]at ho;rcases ho.2 with⟨_,e⟩|⟨gO,cO,cur,e1,_,hg,h1,h2,h3,h4⟩
 ·simp at e
 ·refine⟨gO,cO,by rw[e1];rfl,?_,by simp only[au]at h1;omega⟩;refine cell_of hg ?_;have h5:(fL (k::st).reverse)[st.length]?=some (.int .i64 k):=by simp[fL]
  rw[<-h4,bW]at h5;split at h5
  ·simpa using h5
  ·cases h5
theorem mV(h:gI A K Y w g er q nv ov av kv):Z4 37 #[Z8 Y] w fun en w'=>en=.returned (.int .i64 (je g.stack))/\eN w w':=by
 cases hs:g.stack with
 |nil=>
  have c1:∃oo oc,w.cell? ⟨Y,1,none⟩=some (.slice oo 0 oc):=by
   have ho:=h.opens;rw[hs]at ho;obtain⟨oo,oc,e⟩:=eF ho;exact⟨oo,oc,by rw[<-show ov=.slice oo 0 oc from e];exact h.cell 1 rfl⟩
  obtain⟨oo,oc,c1⟩:=c1;clear h hs;go_enter func37,ntmps37;go_wp2;go_ret;exact⟨rfl,eN.refl w⟩
 |cons k st=>
  obtain⟨gO,cO,e,x,hmx⟩:=h.top hs;have c1:w.cell? ⟨Y,1,none⟩=some (Z9 gO (st.length+1) cO):=by rw[<-e];exact h.cell 1 rfl
  have hl:(st.length:Int)+1<=9223372036854775807:=by have:maxLen=9223372036854775807:=rfl;omega
  generalize hM:st.length+1=M at c1;have e0:((M:Int)==0)=false:=by simp;omega
  have e0n:(M==0)=false:=by simp;omega
  have e0d:decide (M=0)=false:=by simp;omega
  have hw:IntKind.i64.wrap ((M:Int)-1)=(st.length:Int):=by rw[aI];omega
  have U1:wrap64 (st.length:Int)=(st.length:Int):=by unfold wrap64;omega
  have hlt:(st.length:Int)<M:=by omega
  have HM:=a_ hM;clear h hs e hM;go_enter func37,ntmps37;go_wp2_with fail;go_quiet(fail);go_wp2;go_ret;exact⟨rfl,(eN.refl w).drewN _⟩
end
section
variable{A K K':Nat->Prop}{w w' w1 w2 W1:World}{nv ov v' a:Value}{av kv:Nat->Value}{g:Gr}{Y:Nat}{er q:Int}{n:Nd}
theorem Re:(prog.info? 53).map (fun i=>(i.zero,i.size,i.bytes))=some (some (.agg #[.string ⟨#[]⟩,.slice none 0 0,.string ⟨#[]⟩,.slice none 0 0,.int .i64 0]),5,88):=by kernel_rfl
theorem gI.FW(h:gI A K Y w g er q nv ov av kv)(hK:∀k,k<w.heap.size->K k->K' k)(nK:¬K' Y)(sq:∀k,A k->¬K' k)(lt:∀k,K' k->k<w.heap.size):gI A K' Y w g er q nv ov av kv:=
 ⟨h.blk,h.nodes.frame (fun _ _ _=>rfl) (fun _ _ _=>rfl) hK,h.opens,fun k e=>⟨hK k (eW h.opens e) (h.jH k e).1,(h.jH k e).2⟩,h.nA,nK,sq,lt,h.sH⟩
theorem wU{o2:Obj}(h:gI A K Y w g er q nv ov av kv)(hM:eN w W1)(ha:w.ownsRow 0 219 2 a n.d_.length (eQ n.d_))(nu:∀k,a.ownBlock=some k->A k)(hk:n.kids=[])
  (hg:(W1.drew.alloc o2).grownBy w2 nv.ownBlock) (ho:w2.ownsRow 0 53 5 v' (g.nodes.length+1) (fH av kv 0 g.nodes++iA n a fK)) (hat:v'.ownBlock=nv.ownBlock\/v'.ownBlock=some (W1.drew.alloc o2).heap.size):
  gI A (Grow K w (w2.setCell ⟨Y,0,none⟩ v')) Y (w2.setCell ⟨Y,0,none⟩ v') ⟨g.nodes++[n],g.stack⟩ er q v' ov (upd av g.nodes.length a) (upd kv g.nodes.length fK)/\Frame (fun k=>k=Y\/K k) w (w2.setCell ⟨Y,0,none⟩ v')/\
  (∀b,w.heap.size<=b->b<W1.heap.size->(w2.setCell ⟨Y,0,none⟩ v').heap[b]?=W1.heap[b]?):=by
 have xm:=eO h.blk;have Dq:eN w (W1.drew.alloc o2):=(hM.drewN 1).alloc o2;have hz:(W1.drew.alloc o2).heap.size=W1.heap.size+1:=by simp
 have hzw:=hM.size;have hnY:nv.ownBlock≠some Y:=fun e=>h.nK (h.nodes.ou Y e);have hp:=(Dq.Jf h.nodes).push h.sq (fun k x=>ah (h.lt k x) Dq.size) (fun k x=>ah (h.sH k x) Dq.size) (eH ha fun k e=>Dq.keep k (eW ha e)) nu hk hg ho hat;have hz2:w2.heap.size=(w2.setCell ⟨Y,0,none⟩ v').heap.size:=by simp[World.setCell]
 have hgs:=hg.size;have keep:∀b,b<(W1.drew.alloc o2).heap.size->b≠Y->nv.ownBlock≠some b->(w2.setCell ⟨Y,0,none⟩ v').heap[b]?=(W1.drew.alloc o2).heap[b]?:=fun b hb h1 h2=>by rw[ae _ _ _ _ h1];exact hg.block b hb (fun e=>h2 e.symm)
 have hY2:w2.heap[Y]?=some (.cells #[nv,ov,.int .i64 er,.int .i64 q] 83 (0,0)):=by rw[hg.block Y (by omega) (fun e=>hnY e.symm),Dq.keep Y xm];exact h.blk
 have fr:Frame (fun k=>k=Y\/K k) w (w2.setCell ⟨Y,0,none⟩ v'):=⟨hg.os.trans Dq.os,hg.tape.trans Dq.tape,hg.output.trans Dq.output,by omega,fun b hb hf=>by
  rw[keep b (by omega) (fun e=>hf (Or.inl e)) (fun e=>hf (Or.inr (h.nodes.ou b e)))];exact Dq.keep b hb⟩
 refine⟨⟨?_,?_,?_,?_,h.nA,?_,?_,?_,fun k x=>by have:=h.sH k x;omega⟩,fr,?_⟩
 ·rw[fe hY2];rfl
 ·refine hp.frame (fun k _ x=>ae _ _ _ _ (fun e=>h.nA (by have e':k=Y:=e;rw[<-e'];exact x))) (fun k _ x=>ae _ _ _ _ (fun e=>?_)) (fun k hk x=>?_)
  ·have e':k=Y:=e;rcases x with x|x
   ·exact h.nK (by rw[<-e'];exact x)
   ·omega
  ·rcases x with x|x
   ·exact Or.inl x
   ·exact Or.inr ⟨by omega,hk⟩
 ·refine eH h.opens fun k e=>?_;have hl:=eW h.opens e;rw[keep k (by omega) (fun x=>h.nK (by rw[<-x];exact(h.jH k e).1)) (h.jH k e).2.1];exact Dq.keep k hl
 ·intro k e;have hl:=eW h.opens e;refine⟨Or.inl (h.jH k e).1,?_,fun i hi=>?_⟩
  ·rcases hat with e2|e2
   ·rw[e2];exact(h.jH k e).2.1
   ·rw[e2];intro x;simp only[aX]at x;omega
  ·simp only[af,au,aF]at hi;by_cases h1:i=g.nodes.length
   ·subst h1;rw[upd_same];intro x;cases x
   ·rw[fM _ _ h1];exact(h.jH k e).2.2 i (by omega)
 ·rintro(x|x)
  ·exact h.nK x
  ·omega
 ·rintro k hA (x|x)
  ·exact h.sq k hA x
  ·have:=h.sH k hA;omega
 ·rintro k (x|x)
  ·have:=h.lt k x;omega
  ·exact x.2
 ·intro b h1 h2;rw[keep b (by omega) (by omega) (fun e=>by have:=h.lt b (h.nodes.ou b e);omega)];exact ak _ _ _ h2
theorem Jg{o:Obj}{k j gN nc:Nat}{m:Nd}(h:gI A K Y w g er q nv ov av kv)(hM:eN w W1)(hm:g.nodes[k]?=some m)(qy:nv=Z9 gN g.nodes.length nc)
  (hg:(W1.alloc o).grownBy w2 (kv k).ownBlock) (ho:w2.ownsRow 0 3 1 v' (m.kids.length+1) (fL m.kids++[.int .i64 j])) (hat:v'.ownBlock=(kv k).ownBlock\/v'.ownBlock=some (W1.alloc o).heap.size):
  gI A (Grow K w (w2.setCell ⟨gN,k*5+3,none⟩ v')) Y (w2.setCell ⟨gN,k*5+3,none⟩ v') ⟨fU g.nodes k j,g.stack⟩ er q nv ov av (upd kv k v')/\Frame K w (w2.setCell ⟨gN,k*5+3,none⟩ v'):=by
 have xm:=eO h.blk;have hk:k<g.nodes.length:=(List.getElem?_eq_some_iff.1 hm).1;have Dq:eN w (W1.alloc o):=hM.alloc o;have hz:(W1.alloc o).heap.size=W1.heap.size+1:=by simp
 have hzw:=hM.size;have I4:K gN:=h.nodes.ou gN (by rw[qy];rfl);have hp:=(Dq.Jf h.nodes).fU (j:=j) h.sq (fun i x=>ah (h.lt i x) Dq.size) (fun i x=>ah (h.sH i x) Dq.size) qy hm hg ho hat;have hz2:w2.heap.size=(w2.setCell ⟨gN,k*5+3,none⟩ v').heap.size:=by simp[World.setCell]
 have hgs:=hg.size;have keep:∀b,b<(W1.alloc o).heap.size->b≠gN->(kv k).ownBlock≠some b->(w2.setCell ⟨gN,k*5+3,none⟩ v').heap[b]?=(W1.alloc o).heap[b]?:=fun b hb h1 h2=>by rw[ae _ _ _ _ h1];exact hg.block b hb (fun e=>h2 e.symm)
 have fr:Frame K w (w2.setCell ⟨gN,k*5+3,none⟩ v'):=⟨hg.os.trans Dq.os,hg.tape.trans Dq.tape,hg.output.trans Dq.output,by omega,fun b hb hf=>by
  rw[keep b (by omega) (fun e=>hf (by rw[e];exact I4)) (fun e=>hf (h.nodes.nt k b hk e).1)];exact Dq.keep b hb⟩
 refine⟨⟨?_,?_,?_,?_,h.nA,?_,?_,?_,fun k x=>by have:=h.sH k x;omega⟩,fr⟩
 ·rw[fr.block Y xm h.nK];exact h.blk
 ·refine hp.frame (fun _ _ _=>rfl) (fun _ _ _=>rfl) (fun i hi x=>?_);rcases x with x|x
  ·exact Or.inl x
  ·exact Or.inr ⟨by omega,hi⟩
 ·refine eH h.opens fun i e=>?_;have hl:=eW h.opens e;rw[keep i (by omega) (fun x=>(h.jH i e).2.1 (by rw[qy,x];rfl)) ((h.jH i e).2.2 k hk)];exact Dq.keep i hl
 ·intro i e;have hl:=eW h.opens e;refine⟨Or.inl (h.jH i e).1,(h.jH i e).2.1,fun i2 NR=>?_⟩;rw[gi]at NR;by_cases h1:i2=k
  ·subst h1;rw[upd_same];rcases hat with e2|e2
   ·rw[e2];exact(h.jH i e).2.2 i2 hk
   ·rw[e2];intro x;simp only[aX]at x;omega
  ·rw[fM _ _ h1];exact(h.jH i e).2.2 i2 NR
 ·rintro(x|x)
  ·exact h.nK x
  ·omega
 ·rintro i hA (x|x)
  ·exact h.sq i hA x
  ·have:=h.sH i hA;omega
 ·rintro i (x|x)
  ·have:=h.lt i x;omega
  ·exact x.2
end
section
variable{A K K':Nat->Prop}{w w' w1 w2 W1:World}{nv ov v' a:Value}{av kv:Nat->Value}{g:Gr}{Y:Nat}{er q:Int}{n:Nd}
theorem vh(w:World)(v:Value):∀j u,[v][j]?=some u->(w.alloc (.cells #[v] 3)).cell? ((⟨w.heap.size,0,none⟩:Addr).add j)=some u:=by
 intro j u hu;rw[dv,ax,cell_of (bD w _) (v:=u)];rw[<-hu];simp
theorem xG(z:Int):∀u∈[Value.int .i64 z],u.oneCell'=true:=by
 intro u hu;simp only[cM,cn,cS]at hu;subst hu;rfl
theorem FX{k:Nat}{st:List Nat}{m:Nd}{W3 w5:World}{o:Obj}{ki:Option Addr}{kc gN nc2:Nat}{v5:Value}{avx:Nat->Value}(h:gI A K Y w g er q nv ov av kv)(hs:g.stack=k::st)(hm:g.nodes[k]?=some m)
  (p1:gI A (Grow K w W3) Y W3 ⟨g.nodes++[{n with up:=(k:Int)}],g.stack⟩ er q (Z9 gN (g.nodes.length+1) nc2) ov avx (upd kv g.nodes.length fK)) (p2:Frame (fun k=>k=Y\/K k) w W3) (DS:(g.nodes++[{n with up:=(k:Int)}])[k]?=some m) (vw:kv k=.slice ki m.kids.length kc)
  (hg:(W3.drew.alloc o).grownBy w5 (Value.slice ki m.kids.length kc).ownBlock) (ho:w5.ownsRow 0 3 1 v5 (m.kids.length+1) (fL m.kids++[.int .i64 g.nodes.length])) (hat:v5.ownBlock=(Value.slice ki m.kids.length kc).ownBlock\/v5.ownBlock=some (W3.drew.alloc o).heap.size):
  Ending.returned (.tuple #[])=Ending.returned (.tuple #[])/\∃kq jS j9,gI A (Grow K w (w5.setCell ⟨gN,k*5+3,none⟩ v5)) Y (w5.setCell ⟨gN,k*5+3,none⟩ v5) (g.put n) er q kq ov jS j9/\Frame (fun k=>k=Y\/K k) w (w5.setCell ⟨gN,k*5+3,none⟩ v5):=by
 have mN:k<g.nodes.length:=(List.getElem?_eq_some_iff.1 hm).1;have hku:(upd kv g.nodes.length fK) k=.slice ki m.kids.length kc:=by rw[fM _ _ (by omega)];exact vw
 have xm:=eO h.blk;obtain⟨r1,r2⟩:=Jg (j:=g.nodes.length) (gN:=gN) (nc:=nc2) p1 ((eN.refl W3).drewN 1) DS (by simp) (by rw[hku];exact hg) ho (by rw[hku];exact hat);have O_:=p2.size;have acs:=r2.size;have fr:Frame (fun k=>k=Y\/K k) w (w5.setCell ⟨gN,k*5+3,none⟩ v5):=⟨r2.os.trans p2.os,r2.tape.trans p2.tape,r2.output.trans p2.output,by omega,fun b hb hf=>by
  rw[r2.block b (by omega) (fun x=>by
   rcases x with x|x
   ·exact hf (Or.inr x)
   ·omega)]
  exact p2.block b hb hf⟩
 have I5:g.put n=⟨fU (g.nodes++[{n with up:=(k:Int)}]) k g.nodes.length,g.stack⟩:=by unfold Gr.put;rw[hs];simp only;rw[s5 _ _ _ _ mN]
 rw[I5];refine⟨rfl,_,_,_,r1.FW (fun b hb x=>?_) ?_ ?_ (iX h.lt fr.size),fr⟩
 ·rcases x with(x|x)|x
  ·exact Or.inl x
  ·exact Or.inr ⟨x.1,hb⟩
  ·exact Or.inr ⟨by omega,hb⟩
 ·rintro(x|x)
  ·exact h.nK x
  ·omega
 ·rintro b hA (x|x)
  ·exact h.sq b hA x
  ·have:=h.sH b hA;omega
theorem M7(h:gI A K Y w g er q nv ov av kv)(hs:g.stack=[])(n:Nd)(a:Value)(z:Int)(ha:w.ownsRow 0 219 2 a n.d_.length (eQ n.d_))(nu:∀k,a.ownBlock=some k->A k)(hn:n.kids=[])(hb:g.nodes.length<=17179869184):
  Z4 38 #[Z8 Y,.agg #[.string ⟨n.name.toArray⟩,a,.string ⟨n.text.toArray⟩,.slice none 0 0,.int .i64 z]] w fun en w'=>en=.returned (.tuple #[])/\∃kq jS j9,gI A (Grow K w w') Y w' (g.put n) er q kq ov jS j9/\Frame (fun k=>k=Y\/K k) w w':=by
 obtain⟨ai,ac,ng⟩:=eF ha;obtain⟨ni,nc,qy⟩:=eF h.nodes.row;subst ng;subst qy;have l8:∀o:Obj,Z4 37 #[Z8 Y] (w.alloc o) fun en w'=>en=.returned (.int .i64 (-1))/\eN (w.alloc o) w':=fun o=>by
  have:=mV (h.keep ((eN.refl w).alloc o));rw[hs]at this;exact this
 have xm:=eO h.blk;have hnY:(Value.slice ni g.nodes.length nc).ownBlock≠some Y:=fun e=>h.nK (h.nodes.ou Y e);have hnB:(Value.slice ni g.nodes.length nc).ownBlock≠some w.heap.size:=fun e=>by have:=h.lt _ (h.nodes.ou _ e);omega
 obtain⟨i0,hi,hz0,hz1,hz2⟩:=aZ Re;have zw:=a_ l8;have HA:=a_ ha;have QZ:=a_ nu;have H:=a_ h;clear l8 h ha nu;go_enter func38,ntmps38;go_wp2_with fail;refine(zw.out _).mono ?_;rintro e w1 ⟨rfl,m1⟩;have vo:w1.heap[w.heap.size]?=some (.cells #[.string ⟨n.name.toArray⟩,.slice ai (List.length n.d_) ac,.string ⟨n.text.toArray⟩,.slice none 0 0,.int .i64 z] 53):=(m1.keep w.heap.size (by simp)).trans (eL w _);have b4:=cell_of (i:=4) vo rfl;have f4:=eR (i:=4) vo;have qV:=fe (i:=4) vo (.int .i64 (-1));have M8:eN w w1:=((eN.refl w).alloc _).trans m1;have hM:eN w (w1.setCell ⟨w.heap.size,4,none⟩ (.int .i64 (-1))):=⟨M8.os,M8.tape,M8.output,by have:=M8.size;simpa [World.setCell]using this,fun b hb=>by rw[ae _ _ _ _ (show b≠w.heap.size by omega)];exact M8.keep b hb⟩
 have y0:(w1.setCell ⟨w.heap.size,4,none⟩ (.int .i64 (-1))).cell? ⟨Y,0,none⟩=some (.slice ni g.nodes.length nc):=(H.out.keep hM).cell 0 rfl;have HM:=a_ hM;have X8:=a_ qV;clear m1 M8 hM qV;go_wp2_with fail;clear b4 f4 y0;generalize w1.setCell ⟨w.heap.size,4,none⟩ (.int .i64 (-1))=W1 at*
 have fw:W1.heap[w.heap.size]?=some (.cells #[.string ⟨n.name.toArray⟩,.slice ai (List.length n.d_) ac,.string ⟨n.text.toArray⟩,.slice none 0 0,.int .i64 (-1)] 53):=X8.out;have hr1:=H.out.keep HM.out;have n0:=cell_of (i:=0) fw rfl;have n1:=cell_of (i:=1) fw rfl;have n2:=cell_of (i:=2) fw rfl;have n3:=cell_of (i:=3) fw rfl;have n4:=cell_of (i:=4) fw rfl;have x0:W1.cell? ⟨Y,0,none⟩=some (.slice ni g.nodes.length nc):=hr1.cell 0 rfl;have Vr:∀o:Obj,(W1.alloc o).cell? ⟨Y,0,none⟩=some (.slice ni g.nodes.length nc):=fun o=>eG o x0;have hbl:w.heap.size<W1.heap.size:=eO fw;have X9:=a_ hr1.blk;have HR1:=a_ hr1.nodes.row;have wk:=a_ fw;have f0:=eR (i:=0) hr1.blk;clear fw hr1 vo;go_region_law
  (first|(
   refine fA rfl (.tmp 17) (.tmp 19) 46 rfl 53 i0 _ 5 88 underlying46 hi hz0 hz1 hz2 rfl (by decide) (.slice ni g.nodes.length nc) g.nodes.length (fH av kv 0 g.nodes) (by simp[Act.eval,Act.put]) (HR1.out.drew.alloc _) ⟨W1.heap.size,0,none⟩ 1 1 (iA {n with up:= -1} (.slice ai (List.length n.d_) ac) fK) (by simp[Act.eval,Act.put]) rfl (xF _ _ _ _ _) (Dl _ _ _ rfl rfl) (by unfold maxLen;omega) (by omega) ?_;intro v' w2 ho hg hat;obtain⟨tC,cap',rfl⟩:=eF ho;have hb1:=f_ X9.out hnY hg;have x0':w2.cell? ⟨Y,0,none⟩=some (.slice ni g.nodes.length nc):=cell_of hb1 rfl;have f0':=eR (i:=0) hb1;have HO:=a_ ho;have HG:=a_ hg;have sQ:=a_ hat;clear ho hg hat hb1))
 all_goals
  obtain⟨p1,p2,p3⟩:=wU (n:={n with up:= -1}) H.out HM.out HA.out QZ.out hn HG.out HO.out sQ.out;have sM:(w2.setCell ⟨Y,0,none⟩ (.slice tC (g.nodes.length+1) cap')).heap[w.heap.size]?=some (.cells #[.string ⟨n.name.toArray⟩,.slice ai (List.length n.d_) ac,.string ⟨n.text.toArray⟩,.slice none 0 0,.int .i64 (-1)] 53):=(p3 w.heap.size (aj _) hbl).trans wk.out;have z4:=cell_of (i:=4) sM rfl;have P1:=a_ p1;have P2:=a_ p2;have Zi:=a_ sM;clear p1 p2 p3 sM x0' f0' n0 n1 n2 n3 n4 x0 Vr f0;go_wp2
  (try simp only[Exit.inBlock,Exit.then])
  first
  |(refine bS (aN rfl _ _ _) rfl ?_)
  |(refine ba (aN rfl _ _ _) rfl ?_)
  have I5:g.put n=⟨g.nodes++[{n with up:= -1}],g.stack⟩:=by unfold Gr.put;rw[hs]
  rw[I5];exact⟨rfl,_,_,_,P1.out,P2.out⟩
theorem M9(h:gI A K Y w g er q nv ov av kv)(k:Nat)(st:List Nat)(m:Nd)(hs:g.stack=k::st)(hm:g.nodes[k]?=some m)(hb2:m.kids.length<=17179869184)(n:Nd)(a:Value)(z:Int)(ha:w.ownsRow 0 219 2 a n.d_.length (eQ n.d_))(nu:∀k,a.ownBlock=some k->A k)(hn:n.kids=[])(hb:g.nodes.length<=17179869184):
  Z4 38 #[Z8 Y,.agg #[.string ⟨n.name.toArray⟩,a,.string ⟨n.text.toArray⟩,.slice none 0 0,.int .i64 z]] w fun en w'=>en=.returned (.tuple #[])/\∃kq jS j9,gI A (Grow K w w') Y w' (g.put n) er q kq ov jS j9/\Frame (fun k=>k=Y\/K k) w w':=by
 obtain⟨ai,ac,ng⟩:=eF ha;obtain⟨ni,nc,qy⟩:=eF h.nodes.row;subst ng;subst qy;have l8:∀o:Obj,Z4 37 #[Z8 Y] (w.alloc o) fun en w'=>en=.returned (.int .i64 ((k:Int)))/\eN (w.alloc o) w':=fun o=>by
  have:=mV (h.keep ((eN.refl w).alloc o));rw[hs]at this;exact this
 have mN:k<g.nodes.length:=(List.getElem?_eq_some_iff.1 hm).1;obtain⟨j0,hj,Gn,Gp,xu⟩:=aZ uv;have xm:=eO h.blk;have hnY:(Value.slice ni g.nodes.length nc).ownBlock≠some Y:=fun e=>h.nK (h.nodes.ou Y e);have hnB:(Value.slice ni g.nodes.length nc).ownBlock≠some w.heap.size:=fun e=>by have:=h.lt _ (h.nodes.ou _ e);omega
 obtain⟨i0,hi,hz0,hz1,hz2⟩:=aZ Re;have zw:=a_ l8;have HA:=a_ ha;have QZ:=a_ nu;have H:=a_ h;clear l8 h ha nu;go_enter func38,ntmps38;go_wp2_with fail;refine(zw.out _).mono ?_;rintro e w1 ⟨rfl,m1⟩;have vo:w1.heap[w.heap.size]?=some (.cells #[.string ⟨n.name.toArray⟩,.slice ai (List.length n.d_) ac,.string ⟨n.text.toArray⟩,.slice none 0 0,.int .i64 z] 53):=(m1.keep w.heap.size (by simp)).trans (eL w _);have b4:=cell_of (i:=4) vo rfl;have f4:=eR (i:=4) vo;have qV:=fe (i:=4) vo (.int .i64 ((k:Int)));have M8:eN w w1:=((eN.refl w).alloc _).trans m1;have hM:eN w (w1.setCell ⟨w.heap.size,4,none⟩ (.int .i64 ((k:Int)))):=⟨M8.os,M8.tape,M8.output,by have:=M8.size;simpa [World.setCell]using this,fun b hb=>by rw[ae _ _ _ _ (show b≠w.heap.size by omega)];exact M8.keep b hb⟩
 have y0:(w1.setCell ⟨w.heap.size,4,none⟩ (.int .i64 ((k:Int)))).cell? ⟨Y,0,none⟩=some (.slice ni g.nodes.length nc):=(H.out.keep hM).cell 0 rfl;have HM:=a_ hM;have X8:=a_ qV;clear m1 M8 hM qV;go_wp2_with fail;clear b4 f4 y0;generalize w1.setCell ⟨w.heap.size,4,none⟩ (.int .i64 ((k:Int)))=W1 at*
 have fw:W1.heap[w.heap.size]?=some (.cells #[.string ⟨n.name.toArray⟩,.slice ai (List.length n.d_) ac,.string ⟨n.text.toArray⟩,.slice none 0 0,.int .i64 ((k:Int))] 53):=X8.out;have hr1:=H.out.keep HM.out;have n0:=cell_of (i:=0) fw rfl;have n1:=cell_of (i:=1) fw rfl;have n2:=cell_of (i:=2) fw rfl;have n3:=cell_of (i:=3) fw rfl;have n4:=cell_of (i:=4) fw rfl;have x0:W1.cell? ⟨Y,0,none⟩=some (.slice ni g.nodes.length nc):=hr1.cell 0 rfl;have Vr:∀o:Obj,(W1.alloc o).cell? ⟨Y,0,none⟩=some (.slice ni g.nodes.length nc):=fun o=>eG o x0;have hbl:w.heap.size<W1.heap.size:=eO fw;have X9:=a_ hr1.blk;have HR1:=a_ hr1.nodes.row;have wk:=a_ fw;have f0:=eR (i:=0) hr1.blk;clear fw hr1 vo;go_region_law
  (first|(
   refine fA rfl (.tmp 17) (.tmp 19) 46 rfl 53 i0 _ 5 88 underlying46 hi hz0 hz1 hz2 rfl (by decide) (.slice ni g.nodes.length nc) g.nodes.length (fH av kv 0 g.nodes) (by simp[Act.eval,Act.put]) (HR1.out.drew.alloc _) ⟨W1.heap.size,0,none⟩ 1 1 (iA {n with up:=(k:Int)} (.slice ai (List.length n.d_) ac) fK) (by simp[Act.eval,Act.put]) rfl (xF _ _ _ _ _) (Dl _ _ _ rfl rfl) (by unfold maxLen;omega) (by omega) ?_;intro v' w2 ho hg hat;obtain⟨tC,cap',rfl⟩:=eF ho;have hb1:=f_ X9.out hnY hg;have x0':w2.cell? ⟨Y,0,none⟩=some (.slice ni g.nodes.length nc):=cell_of hb1 rfl;have f0':=eR (i:=0) hb1;have HO:=a_ ho;have HG:=a_ hg;have sQ:=a_ hat;clear ho hg hat hb1))
 all_goals
  obtain⟨p1,p2,p3⟩:=wU (n:={n with up:=(k:Int)}) H.out HM.out HA.out QZ.out hn HG.out HO.out sQ.out;have sM:(w2.setCell ⟨Y,0,none⟩ (.slice tC (g.nodes.length+1) cap')).heap[w.heap.size]?=some (.cells #[.string ⟨n.name.toArray⟩,.slice ai (List.length n.d_) ac,.string ⟨n.text.toArray⟩,.slice none 0 0,.int .i64 ((k:Int))] 53):=(p3 w.heap.size (aj _) hbl).trans wk.out;have z4:=cell_of (i:=4) sM rfl;have P1:=a_ p1;have P2:=a_ p2;have Zi:=a_ sM;clear p1 p2 p3 sM x0' f0' n0 n1 n2 n3 n4 x0 Vr f0;go_wp2_with fail;generalize w2.setCell ⟨Y,0,none⟩ (.slice tC (g.nodes.length+1) cap')=W3 at*
  have DS:(g.nodes++[{n with up:=(k:Int)}])[k]?=some m:=by rw[aL mN];exact hm
  have Af:=P1.out.nodes.kid k m DS;obtain⟨gN,nc2,hv3,_,I4,_,_,_,m3,_⟩:=P1.out.nodes.cells k m DS;rw[fM _ _ (by omega)]at m3 Af;obtain⟨ki,kc,vw⟩:=eF Af;rw[vw]at m3 Af;simp only[af,au,aF,ax]at hv3;obtain⟨hao,vr⟩:tC=some ⟨gN,0,none⟩/\cap'=nc2:=by simpa using hv3
  subst hao;subst vr;have y0:W3.cell? ⟨Y,0,none⟩=some (Z9 gN (g.nodes.length+1) cap'):=P1.out.cell 0 rfl;have YO:∀o:Obj,(W3.alloc o).cell? ⟨Y,0,none⟩=some (Z9 gN (g.nodes.length+1) cap'):=fun o=>eG o y0;have z4a:∀o:Obj,(W3.alloc o).cell? ⟨w.heap.size,4,none⟩=some (.int .i64 k):=fun o=>eG o z4;have m3a:∀o:Obj,(W3.alloc o).cell? ⟨gN,k*5+3,none⟩=some (.slice ki m.kids.length kc):=fun o=>eG o m3;have UY:(k:Int)<((g.nodes.length+1:Nat):Int):=by omega
  have acu:(k:Int)<(g.nodes.length:Int)+1:=by omega
  have hkY:(Value.slice ki m.kids.length kc).ownBlock≠some Y:=fun e=>P1.out.nK (P1.out.nodes.nt k Y (by simp only[af];omega) (by rw[fM _ _ (by omega),vw];exact e)).1;have hkg:(Value.slice ki m.kids.length kc).ownBlock≠some gN:=fun e=>(P1.out.nodes.nt k gN (by simp only[af];omega) (by rw[fM _ _ (by omega),vw];exact e)).2 rfl;have hkB:(Value.slice ki m.kids.length kc).ownBlock≠some w.heap.size:=fun e=>by
   have h1:=H.out.nodes.nt k w.heap.size mN (by rw[vw];exact e);have:=H.out.lt _ h1.1;omega
  obtain⟨cur,MQ⟩:=fW P1.out.nodes.row (k:=gN) rfl;have hgY:gN≠Y:=fun e=>P1.out.nK (e▸I4);have hgB:gN≠w.heap.size:=fun e=>by
   rcases sQ.out with x|x
   ·exact hnB (by rw[<-x,<-e];rfl)
   ·have x':gN=W1.heap.size+1:=by simpa [Value.ownBlock]using x
    omega
  have HK3:=a_ Af;have I7:=a_ MQ;have aat:=a_ P1.out.blk;have Xo:=a_ vw;have vg:=a_ DS;clear Af MQ vw DS hv3;refine wp_region_held_drew (S:=(fun W=>W.cell? ⟨Y,0,none⟩=some (Z9 gN (g.nodes.length+1) cap')/\W.cell? ⟨w.heap.size,4,none⟩=some (.int .i64 k))) (by kernel_rfl) ⟨y0,z4⟩ (fun hHeld=>?_);refine wpAnyH_take (i:=0) (v:=?_) rfl (by kernel_rfl) (by kernel_rfl) (by kernel_rfl) (fun _ _ _ h=>h) (Or.inl ⟨by rfl,?_⟩) (by assumption) ?_
  rotate_left
  ·(intro w hSw;(try dsimp only at hSw);go_simp;(try with_reducible rfl))
  (try simp only[Act.put,ar,aC,aD])
  refine wpAnyH_take (i:=1) (v:=?_) rfl (by kernel_rfl) (by kernel_rfl) (by kernel_rfl) (fun _ _ _ h=>h) (Or.inl ⟨by rfl,?_⟩) (by assumption) ?_
  rotate_left
  ·(intro w hSw;(try dsimp only at hSw);go_simp;(try with_reducible rfl))
  (try simp only[Act.put,ar,aC,aD])
  refine wpAnyH_take (i:=2) (v:=?_) rfl (by kernel_rfl) (by kernel_rfl) (by kernel_rfl) (fun _ _ _ h=>h) (Or.inl ⟨by rfl,?_⟩) (by assumption) ?_
  rotate_left
  ·(intro w hSw;(try dsimp only at hSw);go_simp;(try with_reducible rfl))
  (try simp only[Act.put,ar,aC,aD])
  refine wpAnyH_take (i:=3) (v:=?_) rfl (by kernel_rfl) (by kernel_rfl) (by kernel_rfl) (fun _ _ _ h=>h) (Or.inl ⟨by rfl,?_⟩) (by assumption) ?_
  rotate_left
  ·(intro w hSw;(try dsimp only at hSw);go_simp;(try with_reducible rfl))
  (try simp only[Act.put,ar,aC,aD])
  refine wpAnyH_take (i:=4) (v:=?_) rfl (by kernel_rfl) (by kernel_rfl) (by kernel_rfl) (fun _ _ _ h=>h) (Or.inl ⟨by rfl,?_⟩) (by assumption) ?_
  rotate_left
  ·(intro w hSw;(try dsimp only at hSw);go_simp;(try with_reducible rfl))
  (try simp only[Act.put,ar,aC,aD])
  refine wpAnyH_take (i:=5) (v:=?_) rfl (by kernel_rfl) (by kernel_rfl) (by kernel_rfl) (fun _ _ _ h=>h) (Or.inl ⟨by rfl,?_⟩) (by assumption) ?_
  rotate_left
  ·(intro w hSw;(try dsimp only at hSw);go_simp;(try with_reducible rfl))
  (try simp only[Act.put,ar,aC,aD])
  refine wpAnyH_take (i:=6) (v:=?_) rfl (by kernel_rfl) (by kernel_rfl) (by kernel_rfl) (fun _ _ _ h=>h) (Or.inl ⟨by rfl,?_⟩) (by assumption) ?_
  rotate_left
  ·(intro w hSw;(try dsimp only at hSw);go_simp;(try with_reducible rfl))
  (try simp only[Act.put,ar,aC,aD])
  refine wpAnyH_take (i:=7) (v:=?_) rfl (by kernel_rfl) (by kernel_rfl) (by kernel_rfl) (fun _ _ _ h=>h) (Or.inl ⟨by rfl,?_⟩) (by assumption) ?_
  rotate_left
  ·(intro w hSw;(try dsimp only at hSw);go_simp;(try with_reducible rfl))
  (try simp only[Act.put,ar,aC,aD])
  refine wpAnyH_take (i:=8) (v:=?_) rfl (by kernel_rfl) (by kernel_rfl) (by kernel_rfl) (fun _ _ _ h=>h) (Or.inl ⟨by rfl,?_⟩) (by assumption) ?_
  rotate_left
  ·(intro w hSw;(try dsimp only at hSw);go_simp;(try with_reducible rfl))
  (try simp only[Act.put,ar,aC,aD])
  refine wpAnyH_take (i:=9) (v:=?_) rfl (by kernel_rfl) (by kernel_rfl) (by kernel_rfl) (fun _ _ _ h=>h) (Or.inl ⟨by rfl,?_⟩) (by assumption) ?_
  rotate_left
  ·(intro w hSw;(try dsimp only at hSw);go_simp;(try with_reducible rfl))
  (try simp only[Act.put,ar,aC,aD])
  refine wpAnyH_take (i:=10) (v:=?_) rfl (by kernel_rfl) (by kernel_rfl) (by kernel_rfl) (fun _ _ _ h=>h) (Or.inl ⟨by rfl,?_⟩) (by assumption) ?_
  rotate_left
  ·(intro w hSw;(try dsimp only at hSw);go_simp;(try with_reducible rfl))
  (try simp only[Act.put,ar,aC,aD])
  refine wpAnyH_take (i:=11) (v:=?_) rfl (by kernel_rfl) (by kernel_rfl) (by kernel_rfl) (fun _ _ _ h=>h) (Or.inl ⟨by rfl,?_⟩) (by assumption) ?_
  rotate_left
  ·(intro w hSw;(try dsimp only at hSw);go_simp;(try with_reducible rfl))
  (try simp only[Act.put,ar,aC,aD])
  refine wpAnyH_take (i:=12) (v:=?_) rfl (by kernel_rfl) (by kernel_rfl) (by kernel_rfl) (fun _ _ _ h=>h) (Or.inl ⟨by rfl,?_⟩) (by assumption) ?_
  rotate_left
  ·(intro w hSw;(try dsimp only at hSw);go_simp;(try with_reducible rfl))
  (try simp only[Act.put,ar,aC,aD])
  refine wpAnyH_take (i:=13) (v:=?_) rfl (by kernel_rfl) (by kernel_rfl) (by kernel_rfl) (fun _ _ _ h=>h) (Or.inl ⟨by rfl,?_⟩) (by assumption) ?_
  rotate_left
  ·(intro w hSw;(try dsimp only at hSw);go_simp;(try with_reducible rfl))
  (try simp only[Act.put,ar,aC,aD])
  refine wpAnyH_take (i:=15) (v:=?_) rfl (by kernel_rfl) (by kernel_rfl) (by kernel_rfl) (fun _ _ _ h=>h) (Or.inl ⟨by rfl,?_⟩) (by assumption) ?_
  rotate_left
  ·(intro w hSw;(try dsimp only at hSw);go_simp;(try with_reducible rfl))
  (try simp only[Act.put,ar,aC,aD])
  refine wpAnyH_ready (rs:=[14,16]) (by kernel_rfl) (by simp) ?_;refine AllReadyH.cons rfl (fun K hK=>?_) (AllReadyH.cons rfl (fun K hK=>?_) AllReadyH.nil)
  ·go_simp
   refine hK.out _ _ ⟨y0,z4⟩ (fun hHeld=>?_);clear hK K
   (try simp only[Act.put,ar,aC,aD])
   refine wpAnyH_ready (rs:=[16]) (by kernel_rfl) (by simp) ?_;refine AllReadyH.cons rfl (fun K hK=>?_) AllReadyH.nil
   go_simp
   refine hK.out _ _ ⟨YO _,z4a _⟩ (fun hHeld=>?_);clear hK K
   (try simp only[Act.put,ar,aC,aD])
   refine wpAnyH_ready (rs:=[17]) (by kernel_rfl) (by simp) ?_;refine AllReadyH.cons rfl (fun K hK=>?_) AllReadyH.nil;refine fA rfl (.tmp 40) (.tmp 42) 39 rfl 3 j0 _ 1 8 underlying39 hj Gn Gp xu rfl (by decide) (.slice ki m.kids.length kc) m.kids.length (fL m.kids) (by simp[Act.eval,Act.put]) (HK3.out.drew.alloc _) ⟨W3.heap.size,0,none⟩ 1 1 [.int .i64 g.nodes.length] (by simp[Act.eval,Act.put]) rfl (vh _ _) (xG _) (by unfold maxLen;omega) (by omega) ?_;intro v' w5 ho hg hat;obtain⟨ao5,abE,rfl⟩:=eF ho;have hy5:=f_ aat.out hkY hg;have zG:=f_ Zi.out hkB hg;have X_:=f_ I7.out hkg hg;have y0':w5.cell? ⟨Y,0,none⟩=some (Z9 gN (g.nodes.length+1) cap'):=cell_of hy5 rfl;have z4':w5.cell? ⟨w.heap.size,4,none⟩=some (.int .i64 k):=cell_of zG rfl;have y0s:∀u,(w5.setCell ⟨gN,k*5+3,none⟩ u).cell? ⟨Y,0,none⟩=some (Z9 gN (g.nodes.length+1) cap'):=fun u=>(ag (ae _ _ _ _ (fun e=>hgY e.symm))).trans y0';have z4s:∀u,(w5.setCell ⟨gN,k*5+3,none⟩ u).cell? ⟨w.heap.size,4,none⟩=some (.int .i64 k):=fun u=>(ag (ae _ _ _ _ (fun e=>hgB e.symm))).trans z4';have m3':w5.cell? ⟨gN,k*5+3,none⟩=some (.slice ki m.kids.length kc):=(ag (by rw[X_,I7.out])).trans m3;have f3':=eR (i:=k*5+3) X_;have HO5:=a_ ho;have HG5:=a_ hg;have Ya:=a_ hat;clear ho hg hat hy5 zG X_;refine hK.out _ _ ⟨y0',z4'⟩ (fun hHeld=>?_);clear hK K
   (try simp only[Act.put,ar,aC,aD])
   refine wpAnyH_take (i:=18) (v:=?_) rfl (by kernel_rfl) (by kernel_rfl) (by kernel_rfl) (fun _ _ _ h=>h) (Or.inl ⟨by rfl,?_⟩) (by assumption) ?_
   rotate_left
   ·(intro w hSw;(try dsimp only at hSw);go_simp;(try with_reducible rfl))
   (try simp only[Act.put,ar,aC,aD])
   refine wpAnyH_take (i:=19) (v:=?_) rfl (by kernel_rfl) (by kernel_rfl) (by kernel_rfl) (fun _ _ _ h=>h) (Or.inl ⟨by rfl,?_⟩) (by assumption) ?_
   rotate_left
   ·(intro w hSw;(try dsimp only at hSw);go_simp;(try with_reducible rfl))
   (try simp only[Act.put,ar,aC,aD])
   refine wpAnyH_ready (rs:=[20]) (by kernel_rfl) (by simp) ?_;refine AllReadyH.cons rfl (fun K hK=>?_) AllReadyH.nil
   go_simp
   refine hK.out _ _ ⟨y0s _,z4s _⟩ (fun hHeld=>?_);clear hK K
   (try simp only[Act.put,ar,aC,aD])
   refine wpAnyH_done (by kernel_rfl) ?_ _;go_wp2
   (try simp only[Exit.inBlock,Exit.then])
   first
   |(refine bS (aN rfl _ _ _) rfl ?_)
   |(refine ba (aN rfl _ _ _) rfl ?_)
   obtain⟨q1,q2,q3,q4,q5,q6⟩:=FX H.out hs hm P1.out P2.out vg.out Xo.out HG5.out HO5.out Ya.out;first|exact⟨q1,q2,q3,q4,q5,q6⟩|exact⟨q1,⟨q2,q3,q4,q5⟩,q6⟩
  ·go_simp
   refine hK.out _ _ ⟨YO _,z4a _⟩ (fun hHeld=>?_);clear hK K
   (try simp only[Act.put,ar,aC,aD])
   refine wpAnyH_ready (rs:=[14]) (by kernel_rfl) (by simp) ?_;refine AllReadyH.cons rfl (fun K hK=>?_) AllReadyH.nil
   go_simp
   refine hK.out _ _ ⟨YO _,z4a _⟩ (fun hHeld=>?_);clear hK K
   (try simp only[Act.put,ar,aC,aD])
   refine wpAnyH_ready (rs:=[17]) (by kernel_rfl) (by simp) ?_;refine AllReadyH.cons rfl (fun K hK=>?_) AllReadyH.nil;refine fA rfl (.tmp 40) (.tmp 42) 39 rfl 3 j0 _ 1 8 underlying39 hj Gn Gp xu rfl (by decide) (.slice ki m.kids.length kc) m.kids.length (fL m.kids) (by simp[Act.eval,Act.put]) (HK3.out.drew.alloc _) ⟨W3.heap.size,0,none⟩ 1 1 [.int .i64 g.nodes.length] (by simp[Act.eval,Act.put]) rfl (vh _ _) (xG _) (by unfold maxLen;omega) (by omega) ?_;intro v' w5 ho hg hat;obtain⟨ao5,abE,rfl⟩:=eF ho;have hy5:=f_ aat.out hkY hg;have zG:=f_ Zi.out hkB hg;have X_:=f_ I7.out hkg hg;have y0':w5.cell? ⟨Y,0,none⟩=some (Z9 gN (g.nodes.length+1) cap'):=cell_of hy5 rfl;have z4':w5.cell? ⟨w.heap.size,4,none⟩=some (.int .i64 k):=cell_of zG rfl;have y0s:∀u,(w5.setCell ⟨gN,k*5+3,none⟩ u).cell? ⟨Y,0,none⟩=some (Z9 gN (g.nodes.length+1) cap'):=fun u=>(ag (ae _ _ _ _ (fun e=>hgY e.symm))).trans y0';have z4s:∀u,(w5.setCell ⟨gN,k*5+3,none⟩ u).cell? ⟨w.heap.size,4,none⟩=some (.int .i64 k):=fun u=>(ag (ae _ _ _ _ (fun e=>hgB e.symm))).trans z4';have m3':w5.cell? ⟨gN,k*5+3,none⟩=some (.slice ki m.kids.length kc):=(ag (by rw[X_,I7.out])).trans m3;have f3':=eR (i:=k*5+3) X_;have HO5:=a_ ho;have HG5:=a_ hg;have Ya:=a_ hat;clear ho hg hat hy5 zG X_;refine hK.out _ _ ⟨y0',z4'⟩ (fun hHeld=>?_);clear hK K
   (try simp only[Act.put,ar,aC,aD])
   refine wpAnyH_take (i:=18) (v:=?_) rfl (by kernel_rfl) (by kernel_rfl) (by kernel_rfl) (fun _ _ _ h=>h) (Or.inl ⟨by rfl,?_⟩) (by assumption) ?_
   rotate_left
   ·(intro w hSw;(try dsimp only at hSw);go_simp;(try with_reducible rfl))
   (try simp only[Act.put,ar,aC,aD])
   refine wpAnyH_take (i:=19) (v:=?_) rfl (by kernel_rfl) (by kernel_rfl) (by kernel_rfl) (fun _ _ _ h=>h) (Or.inl ⟨by rfl,?_⟩) (by assumption) ?_
   rotate_left
   ·(intro w hSw;(try dsimp only at hSw);go_simp;(try with_reducible rfl))
   (try simp only[Act.put,ar,aC,aD])
   refine wpAnyH_ready (rs:=[20]) (by kernel_rfl) (by simp) ?_;refine AllReadyH.cons rfl (fun K hK=>?_) AllReadyH.nil
   go_simp
   refine hK.out _ _ ⟨y0s _,z4s _⟩ (fun hHeld=>?_);clear hK K
   (try simp only[Act.put,ar,aC,aD])
   refine wpAnyH_done (by kernel_rfl) ?_ _;go_wp2
   (try simp only[Exit.inBlock,Exit.then])
   first
   |(refine bS (aN rfl _ _ _) rfl ?_)
   |(refine ba (aN rfl _ _ _) rfl ?_)
   obtain⟨q1,q2,q3,q4,q5,q6⟩:=FX H.out hs hm P1.out P2.out vg.out Xo.out HG5.out HO5.out Ya.out;first|exact⟨q1,q2,q3,q4,q5,q6⟩|exact⟨q1,⟨q2,q3,q4,q5⟩,q6⟩
end
section
variable{A K K':Nat->Prop}{w w' w1 w2 W1:World}{nv ov v' a:Value}{av kv:Nat->Value}{g:Gr}{Y:Nat}{er q:Int}{n:Nd}
theorem Dr(h:gI A K Y w g er q nv ov av kv)(wf:g.Wf)(hk:l5 g)(n:Nd)(a:Value)(z:Int)(ha:w.ownsRow 0 219 2 a n.d_.length (eQ n.d_))(nu:∀k,a.ownBlock=some k->A k)(hn:n.kids=[])(hb:g.nodes.length<=17179869184):
  Z4 38 #[Z8 Y,.agg #[.string ⟨n.name.toArray⟩,a,.string ⟨n.text.toArray⟩,.slice none 0 0,.int .i64 z]] w fun en w'=>en=.returned (.tuple #[])/\∃kq jS j9,gI A (Grow K w w') Y w' (g.put n) er q kq ov jS j9/\Frame (fun k=>k=Y\/K k) w w':=by
 cases hs:g.stack with
 |nil=>exact M7 h hs n a z ha nu hn hb
 |cons k st=>
  obtain⟨m,hm,_,_⟩:=wf.top hs;exact M9 h k st m hs hm (aw (hk k m hm) hb) n a z ha nu hn hb
theorem wm(s:ByteArray)(w:World)(hz:s.size<=9223372036854775807):Z4 39 #[.string s] w (Z6 (.bool (s.data.toList.all fun c=>js c.toNat)) w):=by
 go_enter func39,ntmps39;go_wp2_with fail;go_loopw [3] (fun iv wr=>∃i:Nat,iv=.int .i64 i/\i<=s.size/\wr=w/\((s.data.toList.take i).all fun c=>js c.toNat)=true) (fun iv _=>s.size-(RowKit.intOf iv).toNat)
 case atStart=>exact⟨0,rfl,aq _,rfl,rfl⟩
 case round=>
  obtain⟨i,rfl,hi,hwr,hall⟩:=hrel;have abF:=hwr.symm;clear hwr;subst abF;by_cases hlt:i<s.size
  ·have hdec:decide ((i:Int)<s.size)=true:=by simp;omega
   have zv:decide (i<s.size)=true:=by simp;omega
   have B8:(i:Int)<s.size:=by omega
   have hl:s.data.toList.length=s.size:=by simp
   have hget:s.data.toList[i]'(by omega)=s[i]:=by simp[ByteArray.getElem_eq_getElem_data]
   have hbl:=yz (s[i]).toNat (bL _) w;have JK:s.data.toList.take (i+1)=s.data.toList.take i++[s[i]]:=by rw[<-hget];exact bw (by omega)
   cases M_:js (s[i]).toNat
   ·have Rf:(s.data.toList.all fun c=>js c.toNat)=false:=by
     rw[Bool.eq_false_iff];intro h;have h2:=List.all_eq_true.1 h (s[i]) (by rw[<-hget];exact bR _);rw[M_]at h2;cases h2
    rw[M_]at hbl;have HF:=a_ Rf;have Qx:=a_ hbl;clear Rf hbl JK hget hall;go_wp2_with fail;refine Qx.out.mono ?_;rintro e wx ⟨rfl,hwx⟩;have U2:=hwx.symm;clear hwx;subst U2;go_wp2;go_ret;exact⟨by rw[HF.out];rfl,rfl⟩
   ·have VU:((s.data.toList.take (i+1)).all fun c=>js c.toNat)=true:=by
     rw[JK,List.all_append,hall];simp[M_]
    rw[M_]at hbl;have HN:=a_ VU;have Qx:=a_ hbl;clear VU hbl JK hget hall;go_wp2_with fail;refine Qx.out.mono ?_;rintro e wx ⟨rfl,hwx⟩;have U2:=hwx.symm;clear hwx;subst U2;go_wp2
    go_roundw
    case rel=>exact⟨i+1,by simp,by omega,by first|rfl|trivial,HN.out⟩
    case measure=>simp only[RowKit.intOf];omega
  ·have hdec:decide ((i:Int)<s.size)=false:=by simp;omega
   have zv:decide (i<s.size)=false:=by simp;omega
   have he:i=s.size:=by omega
   have hl:s.data.toList.length=s.size:=by simp
   rw[he,<-hl,bH]at hall;have X7:=a_ hall;clear hall;go_wp2;go_ret;exact⟨by rw[X7.out];rfl,rfl⟩
end
section
variable{A K K':Nat->Prop}{w w' w1 w2 W1:World}{nv ov v' a:Value}{av kv:Nat->Value}{g:Gr}{Y:Nat}{er q:Int}{n:Nd}
structure BR(A K:Nat->Prop)(Y:Nat)(w:World)(g:Gr)(er q:Int):Prop where
 ex:∃nv ov av kv,gI A K Y w g er q nv ov av kv
 kids:l5 g
 wf:g.Wf
theorem BR.keep{W:World}(h:BR A K Y w g er q)(hM:eN w W):BR A K Y W g er q:=by
 obtain⟨⟨nv,ov,av,kv,h1⟩,h3,h4⟩:=h;exact⟨⟨nv,ov,av,kv,h1.keep hM⟩,h3,h4⟩
def rz(g:Gr)(er q:Int)(t:Tok):Gr×Int×Int:=if er≠0 then(g,er,q)else if(g.take t).1≠0 then(g,(g.take t).1,t.at_)else((g.take t).2,0,q)
def Ki(A K:Nat->Prop)(Y:Nat)(w:World)(x:Gr×Int×Int)(e:Ending)(w':World):Prop:=e=.returned (.tuple #[])/\BR A (Grow K w w') Y w' x.1 x.2.1 x.2.2/\Frame (fun k=>k=Y\/K k) w w'
theorem Na(h:gI A K Y w g er q nv ov av kv)(he:er≠0)(t:Tok)(ai:Option Addr)(an ac:Nat):
  Z4 22 #[Z8 Y,.agg #[.int .i64 t.kind,.string ⟨t.name.toArray⟩,.slice ai an ac,.string ⟨t.text.toArray⟩,.int .i64 t.at_]] w fun e w'=>e=.returned (.tuple #[])/\eN w w':=by
 have c2:∀o:Obj,(w.alloc o).cell? ⟨Y,2,none⟩=some (.int .i64 er):=fun o=>eG o (h.cell 2 rfl);have e0:(er !=0)=true:=by simpa using he
 clear h he;go_enter func22,ntmps22;go_wp2
 (try simp only[Exit.inBlock,Exit.then])
 first
 |(refine bS (aN rfl _ _ _) rfl ?_)
 |(refine ba (aN rfl _ _ _) rfl ?_)
 exact⟨rfl,(eN.refl w).alloc _⟩
theorem oh{F:Nat->Prop}(hM:eN w w1)(fr:Frame F w1 w2):Frame F w w2:=hM.frame.trans' fr
theorem Jh(h:gI A K Y w g 0 q nv ov av kv)(t:Tok)(hs:g.stack=[])(hn:g.nodes≠[])(ai:Option Addr)(an ac:Nat):Z4 22 #[Z8 Y,.agg #[.int .i64 1,.string ⟨t.name.toArray⟩,.slice ai an ac,.string ⟨t.text.toArray⟩,.int .i64 t.at_]] w fun e w'=>e=.returned (.tuple #[])/\gI A K Y w' g 7 t.at_ nv ov av kv/\Frame (fun k=>k=Y) w w':=by
 obtain⟨ni,nc,qy⟩:=eF h.nodes.row;obtain⟨oi,oc,hov⟩:=eF h.opens;subst qy;subst hov;have lF:je g.stack= -1:=by rw[hs];rfl
 have hl:decide (0<g.nodes.length)=true:=by
  cases hg:g.nodes with
  |nil=>exact absurd hg hn
  |cons a l=>simp
 clear hs hn;have l8:∀o:Obj,Z4 37 #[Z8 Y] (w.alloc o) fun en w'=>en=.returned (.int .i64 (-1))/\eN (w.alloc o) w':=fun o=>by
  have:=mV (h.keep ((eN.refl w).alloc o));rw[lF]at this;exact this
 have c2:∀o:Obj,(w.alloc o).cell? ⟨Y,2,none⟩=some (.int .i64 0):=fun o=>eG o (h.cell 2 rfl);have zw:=a_ l8;have H:=a_ h;clear l8 h lF;go_enter func22,ntmps22;go_wp2_with fail;refine(zw.out _).mono ?_;rintro e w1 ⟨rfl,m1⟩;have hM:eN w w1:=((eN.refl w).alloc _).trans m1;have fw:w1.heap[w.heap.size]?=some (.cells #[.int .i64 1,.string ⟨t.name.toArray⟩,.slice ai an ac,.string ⟨t.text.toArray⟩,.int .i64 t.at_] 86):=(m1.keep w.heap.size (by simp)).trans (eL w _);have r1:=H.out.keep hM;have d0:w1.cell? ⟨Y,0,none⟩=some (.slice ni g.nodes.length nc):=r1.cell 0 rfl;have d1:w1.cell? ⟨Y,1,none⟩=some (.slice oi g.stack.length oc):=r1.cell 1 rfl;have b0:=cell_of (i:=0) fw rfl;have b1:=cell_of (i:=1) fw rfl;have b2:=cell_of (i:=2) fw rfl;have b3:=cell_of (i:=3) fw rfl;have b4:=cell_of (i:=4) fw rfl;have HM:=a_ hM;have wk:=a_ fw;have R1:=a_ r1;clear r1 hM fw m1;have oH:=fun e p=>iR R1.out e p;have HF:=a_ oH;clear oH;go_wp2_with(first|(go_at_call 23;refine(HF.out _ _).mono ?_;rintro e w2 ⟨rfl,r2,f2⟩;have R2:=a_ r2;have F2:=a_ f2;clear r2 f2))
 (try simp only[Exit.inBlock,Exit.then])
 first
 |(refine bS (aN rfl _ _ _) rfl ?_)
 |(refine ba (aN rfl _ _ _) rfl ?_)
 exact⟨rfl,R2.out,oh (by first|exact HM.out|exact HM.out.drewN _) F2.out⟩
theorem Ji(h:gI A K Y w g 0 q nv ov av kv)(t:Tok)(k:Nat)(st:List Nat)(hs:g.stack=k::st)(hd:30<=g.stack.length)(ai:Option Addr)(an ac:Nat):Z4 22 #[Z8 Y,.agg #[.int .i64 1,.string ⟨t.name.toArray⟩,.slice ai an ac,.string ⟨t.text.toArray⟩,.int .i64 t.at_]] w fun e w'=>e=.returned (.tuple #[])/\gI A K Y w' g 8 t.at_ nv ov av kv/\Frame (fun k=>k=Y) w w':=by
 obtain⟨ni,nc,qy⟩:=eF h.nodes.row;obtain⟨oi,oc,hov⟩:=eF h.opens;subst qy;subst hov;have lF:je g.stack=(k:Int):=by rw[hs];rfl
 have hd1:decide (30<=g.stack.length)=true:=by simp;omega
 have Gf:¬((g.stack.length:Int)<30):=by omega
 have hd3:(30:Int)<=(g.stack.length:Int):=by omega
 have Sk:¬((k:Int)<0):=by omega
 clear hs hd;have l8:∀o:Obj,Z4 37 #[Z8 Y] (w.alloc o) fun en w'=>en=.returned (.int .i64 ((k:Int)))/\eN (w.alloc o) w':=fun o=>by
  have:=mV (h.keep ((eN.refl w).alloc o));rw[lF]at this;exact this
 have c2:∀o:Obj,(w.alloc o).cell? ⟨Y,2,none⟩=some (.int .i64 0):=fun o=>eG o (h.cell 2 rfl);have zw:=a_ l8;have H:=a_ h;clear l8 h lF;go_enter func22,ntmps22;go_wp2_with fail;refine(zw.out _).mono ?_;rintro e w1 ⟨rfl,m1⟩;have hM:eN w w1:=((eN.refl w).alloc _).trans m1;have fw:w1.heap[w.heap.size]?=some (.cells #[.int .i64 1,.string ⟨t.name.toArray⟩,.slice ai an ac,.string ⟨t.text.toArray⟩,.int .i64 t.at_] 86):=(m1.keep w.heap.size (by simp)).trans (eL w _);have r1:=H.out.keep hM;have d0:w1.cell? ⟨Y,0,none⟩=some (.slice ni g.nodes.length nc):=r1.cell 0 rfl;have d1:w1.cell? ⟨Y,1,none⟩=some (.slice oi g.stack.length oc):=r1.cell 1 rfl;have b0:=cell_of (i:=0) fw rfl;have b1:=cell_of (i:=1) fw rfl;have b2:=cell_of (i:=2) fw rfl;have b3:=cell_of (i:=3) fw rfl;have b4:=cell_of (i:=4) fw rfl;have HM:=a_ hM;have wk:=a_ fw;have R1:=a_ r1;clear r1 hM fw m1;have oH:=fun e p=>iR R1.out e p;have HF:=a_ oH;clear oH;go_wp2_with(first|(go_at_call 23;refine(HF.out _ _).mono ?_;rintro e w2 ⟨rfl,r2,f2⟩;have R2:=a_ r2;have F2:=a_ f2;clear r2 f2))
 (try simp only[Exit.inBlock,Exit.then])
 first
 |(refine bS (aN rfl _ _ _) rfl ?_)
 |(refine ba (aN rfl _ _ _) rfl ?_)
 exact⟨rfl,R2.out,oh (by first|exact HM.out|exact HM.out.drewN _) F2.out⟩
theorem Jj(h:gI A K Y w g 0 q nv ov av kv)(t:Tok)(hs:g.stack=[])(ai:Option Addr)(an ac:Nat):Z4 22 #[Z8 Y,.agg #[.int .i64 2,.string ⟨t.name.toArray⟩,.slice ai an ac,.string ⟨t.text.toArray⟩,.int .i64 t.at_]] w fun e w'=>e=.returned (.tuple #[])/\gI A K Y w' g 6 t.at_ nv ov av kv/\Frame (fun k=>k=Y) w w':=by
 obtain⟨ni,nc,qy⟩:=eF h.nodes.row;obtain⟨oi,oc,hov⟩:=eF h.opens;subst qy;subst hov;have lF:je g.stack= -1:=by rw[hs];rfl
 clear hs;have l8:∀o:Obj,Z4 37 #[Z8 Y] (w.alloc o) fun en w'=>en=.returned (.int .i64 (-1))/\eN (w.alloc o) w':=fun o=>by
  have:=mV (h.keep ((eN.refl w).alloc o));rw[lF]at this;exact this
 have c2:∀o:Obj,(w.alloc o).cell? ⟨Y,2,none⟩=some (.int .i64 0):=fun o=>eG o (h.cell 2 rfl);have zw:=a_ l8;have H:=a_ h;clear l8 h lF;go_enter func22,ntmps22;go_wp2_with fail;refine(zw.out _).mono ?_;rintro e w1 ⟨rfl,m1⟩;have hM:eN w w1:=((eN.refl w).alloc _).trans m1;have fw:w1.heap[w.heap.size]?=some (.cells #[.int .i64 2,.string ⟨t.name.toArray⟩,.slice ai an ac,.string ⟨t.text.toArray⟩,.int .i64 t.at_] 86):=(m1.keep w.heap.size (by simp)).trans (eL w _);have r1:=H.out.keep hM;have d0:w1.cell? ⟨Y,0,none⟩=some (.slice ni g.nodes.length nc):=r1.cell 0 rfl;have d1:w1.cell? ⟨Y,1,none⟩=some (.slice oi g.stack.length oc):=r1.cell 1 rfl;have b0:=cell_of (i:=0) fw rfl;have b1:=cell_of (i:=1) fw rfl;have b2:=cell_of (i:=2) fw rfl;have b3:=cell_of (i:=3) fw rfl;have b4:=cell_of (i:=4) fw rfl;have HM:=a_ hM;have wk:=a_ fw;have R1:=a_ r1;clear r1 hM fw m1;have oH:=fun nq e p=>iR (R1.out.keep ((eN.refl w1).drewN nq)) e p;have HF:=a_ oH;clear oH;go_wp2_with fail;go_quiet(fail);go_wp2_with(first|(go_at_call 23;refine(HF.out _ _ _).mono ?_;rintro e w2 ⟨rfl,r2,f2⟩;have R2:=a_ r2;have F2:=a_ f2;clear r2 f2))
 (try simp only[Exit.inBlock,Exit.then])
 first
 |(refine bS (aN rfl _ _ _) rfl ?_)
 |(refine ba (aN rfl _ _ _) rfl ?_)
 exact⟨rfl,R2.out,oh (HM.out.drewN _) F2.out⟩
theorem FY(h:gI A K Y w g 0 q nv ov av kv)(t:Tok)(k:Nat)(st:List Nat)(m:Nd)(hs:g.stack=k::st)(hm:g.nodes[k]?=some m)(hne:m.name≠t.name)(ai:Option Addr)(an ac:Nat):Z4 22 #[Z8 Y,.agg #[.int .i64 2,.string ⟨t.name.toArray⟩,.slice ai an ac,.string ⟨t.text.toArray⟩,.int .i64 t.at_]] w fun e w'=>e=.returned (.tuple #[])/\gI A K Y w' g 6 t.at_ nv ov av kv/\Frame (fun k=>k=Y) w w':=by
 obtain⟨gN,nc,qy,hmx,I4,m0,_⟩:=h.nodes.cells k m hm;obtain⟨oi,oc,hov⟩:=eF h.opens;subst qy;subst hov;have lF:je g.stack=(k:Int):=by rw[hs];rfl
 have mN:k<g.nodes.length:=(List.getElem?_eq_some_iff.1 hm).1;have UY:(k:Int)<g.nodes.length:=by omega
 have Sk:¬((k:Int)<0):=by omega
 have qF:(m.name==t.name)=false:=by simpa using hne
 have Gj:gN<w.heap.size:=aU w _ m0;have M0:=a_ m0;clear hs hm hne m0;have l8:∀o:Obj,Z4 37 #[Z8 Y] (w.alloc o) fun en w'=>en=.returned (.int .i64 ((k:Int)))/\eN (w.alloc o) w':=fun o=>by
  have:=mV (h.keep ((eN.refl w).alloc o));rw[lF]at this;exact this
 have c2:∀o:Obj,(w.alloc o).cell? ⟨Y,2,none⟩=some (.int .i64 0):=fun o=>eG o (h.cell 2 rfl);have zw:=a_ l8;have H:=a_ h;clear l8 h lF;go_enter func22,ntmps22;go_wp2_with fail;refine(zw.out _).mono ?_;rintro e w1 ⟨rfl,m1⟩;have hM:eN w w1:=((eN.refl w).alloc _).trans m1;have fw:w1.heap[w.heap.size]?=some (.cells #[.int .i64 2,.string ⟨t.name.toArray⟩,.slice ai an ac,.string ⟨t.text.toArray⟩,.int .i64 t.at_] 86):=(m1.keep w.heap.size (by simp)).trans (eL w _);have r1:=H.out.keep hM;have d0:w1.cell? ⟨Y,0,none⟩=some (Z9 gN g.nodes.length nc):=r1.cell 0 rfl;have d1:w1.cell? ⟨Y,1,none⟩=some (.slice oi g.stack.length oc):=r1.cell 1 rfl;have b0:=cell_of (i:=0) fw rfl;have b1:=cell_of (i:=1) fw rfl;have b2:=cell_of (i:=2) fw rfl;have b3:=cell_of (i:=3) fw rfl;have b4:=cell_of (i:=4) fw rfl;have HM:=a_ hM;have wk:=a_ fw;have R1:=a_ r1;clear r1 hM fw m1;have e0:w1.cell? ⟨gN,k*5,none⟩=some (.string ⟨m.name.toArray⟩):=(ag (HM.out.keep gN Gj)).trans M0.out;have oH:=fun nq e p=>iR (R1.out.keep ((eN.refl w1).drewN nq)) e p;have HF:=a_ oH;clear oH;go_wp2_with fail;go_quiet(fail);go_wp2_with(first|(go_at_call 23;refine(HF.out _ _ _).mono ?_;rintro e w2 ⟨rfl,r2,f2⟩;have R2:=a_ r2;have F2:=a_ f2;clear r2 f2))
 (try simp only[Exit.inBlock,Exit.then])
 first
 |(refine bS (aN rfl _ _ _) rfl ?_)
 |(refine ba (aN rfl _ _ _) rfl ?_)
 exact⟨rfl,R2.out,oh (HM.out.drewN _) F2.out⟩
theorem xn(h:gI A K Y w g 0 q nv ov av kv)(t:Tok)(li:t.kind≠1)(hk2:t.kind≠2)(hs:g.stack=[])(hbl:ia t.text=true)(hz:t.text.length<=9223372036854775807)(ai:Option Addr)(an ac:Nat):Z4 22 #[Z8 Y,.agg #[.int .i64 t.kind,.string ⟨t.name.toArray⟩,.slice ai an ac,.string ⟨t.text.toArray⟩,.int .i64 t.at_]] w fun e w'=>e=.returned (.tuple #[])/\eN w w':=by
 obtain⟨ni,nc,qy⟩:=eF h.nodes.row;obtain⟨oi,oc,hov⟩:=eF h.opens;subst qy;subst hov;have lF:je g.stack= -1:=by rw[hs];rfl
 have M_:∀W,Z4 39 #[.string ⟨t.text.toArray⟩] W (Z6 (.bool true) W):=fun W=>by
  have h1:=wm ⟨t.text.toArray⟩ W (by simpa [ByteArray.size]using hz);have h2:((⟨t.text.toArray⟩:ByteArray).data.toList.all fun c=>js c.toNat)=true:=by
   have h3:(⟨t.text.toArray⟩:ByteArray).data.toList=t.text:=by simp
   rw[h3];unfold ia at hbl;simpa using hbl
  rw[h2]at h1;exact h1
 have HBV:=a_ M_;have e1:(t.kind==1)=false:=by simpa using li
 have e2:(t.kind==2)=false:=by simpa using hk2
 clear hs hbl M_ li hk2 hz;have l8:∀o:Obj,Z4 37 #[Z8 Y] (w.alloc o) fun en w'=>en=.returned (.int .i64 (-1))/\eN (w.alloc o) w':=fun o=>by
  have:=mV (h.keep ((eN.refl w).alloc o));rw[lF]at this;exact this
 have c2:∀o:Obj,(w.alloc o).cell? ⟨Y,2,none⟩=some (.int .i64 0):=fun o=>eG o (h.cell 2 rfl);have zw:=a_ l8;have H:=a_ h;clear l8 h lF;go_enter func22,ntmps22;go_wp2_with fail;refine(zw.out _).mono ?_;rintro e w1 ⟨rfl,m1⟩;have hM:eN w w1:=((eN.refl w).alloc _).trans m1;have fw:w1.heap[w.heap.size]?=some (.cells #[.int .i64 t.kind,.string ⟨t.name.toArray⟩,.slice ai an ac,.string ⟨t.text.toArray⟩,.int .i64 t.at_] 86):=(m1.keep w.heap.size (by simp)).trans (eL w _);have r1:=H.out.keep hM;have d0:w1.cell? ⟨Y,0,none⟩=some (.slice ni g.nodes.length nc):=r1.cell 0 rfl;have d1:w1.cell? ⟨Y,1,none⟩=some (.slice oi g.stack.length oc):=r1.cell 1 rfl;have b0:=cell_of (i:=0) fw rfl;have b1:=cell_of (i:=1) fw rfl;have b2:=cell_of (i:=2) fw rfl;have b3:=cell_of (i:=3) fw rfl;have b4:=cell_of (i:=4) fw rfl;have HM:=a_ hM;have wk:=a_ fw;have R1:=a_ r1;clear r1 hM fw m1;go_wp2_with(first|(go_at_call 39;refine(HBV.out _).mono ?_;rintro e wx ⟨rfl,hwx⟩;have U2:=hwx.symm;clear hwx;subst U2))
 (try simp only[Exit.inBlock,Exit.then])
 first
 |(refine bS (aN rfl _ _ _) rfl ?_)
 |(refine ba (aN rfl _ _ _) rfl ?_)
 exact⟨rfl,HM.out⟩
theorem Ah(h:gI A K Y w g 0 q nv ov av kv)(t:Tok)(li:t.kind≠1)(hk2:t.kind≠2)(hs:g.stack=[])(hbl:¬ia t.text=true)(hz:t.text.length<=9223372036854775807)(ai:Option Addr)(an ac:Nat):Z4 22 #[Z8 Y,.agg #[.int .i64 t.kind,.string ⟨t.name.toArray⟩,.slice ai an ac,.string ⟨t.text.toArray⟩,.int .i64 t.at_]] w fun e w'=>e=.returned (.tuple #[])/\gI A K Y w' g 7 t.at_ nv ov av kv/\Frame (fun k=>k=Y) w w':=by
 obtain⟨ni,nc,qy⟩:=eF h.nodes.row;obtain⟨oi,oc,hov⟩:=eF h.opens;subst qy;subst hov;have lF:je g.stack= -1:=by rw[hs];rfl
 have M_:∀W,Z4 39 #[.string ⟨t.text.toArray⟩] W (Z6 (.bool false) W):=fun W=>by
  have h1:=wm ⟨t.text.toArray⟩ W (by simpa [ByteArray.size]using hz);have h2:((⟨t.text.toArray⟩:ByteArray).data.toList.all fun c=>js c.toNat)=false:=by
   have h3:(⟨t.text.toArray⟩:ByteArray).data.toList=t.text:=by simp
   rw[h3];unfold ia at hbl;simpa using hbl
  rw[h2]at h1;exact h1
 have HBV:=a_ M_;have e1:(t.kind==1)=false:=by simpa using li
 have e2:(t.kind==2)=false:=by simpa using hk2
 clear hs hbl M_ li hk2 hz;have l8:∀o:Obj,Z4 37 #[Z8 Y] (w.alloc o) fun en w'=>en=.returned (.int .i64 (-1))/\eN (w.alloc o) w':=fun o=>by
  have:=mV (h.keep ((eN.refl w).alloc o));rw[lF]at this;exact this
 have c2:∀o:Obj,(w.alloc o).cell? ⟨Y,2,none⟩=some (.int .i64 0):=fun o=>eG o (h.cell 2 rfl);have zw:=a_ l8;have H:=a_ h;clear l8 h lF;go_enter func22,ntmps22;go_wp2_with fail;refine(zw.out _).mono ?_;rintro e w1 ⟨rfl,m1⟩;have hM:eN w w1:=((eN.refl w).alloc _).trans m1;have fw:w1.heap[w.heap.size]?=some (.cells #[.int .i64 t.kind,.string ⟨t.name.toArray⟩,.slice ai an ac,.string ⟨t.text.toArray⟩,.int .i64 t.at_] 86):=(m1.keep w.heap.size (by simp)).trans (eL w _);have r1:=H.out.keep hM;have d0:w1.cell? ⟨Y,0,none⟩=some (.slice ni g.nodes.length nc):=r1.cell 0 rfl;have d1:w1.cell? ⟨Y,1,none⟩=some (.slice oi g.stack.length oc):=r1.cell 1 rfl;have b0:=cell_of (i:=0) fw rfl;have b1:=cell_of (i:=1) fw rfl;have b2:=cell_of (i:=2) fw rfl;have b3:=cell_of (i:=3) fw rfl;have b4:=cell_of (i:=4) fw rfl;have HM:=a_ hM;have wk:=a_ fw;have R1:=a_ r1;clear r1 hM fw m1;have oH:=fun e p=>iR R1.out e p;have HF:=a_ oH;clear oH;go_wp2_with(first|(go_at_call 23;refine(HF.out _ _).mono ?_;rintro e w2 ⟨rfl,r2,f2⟩;have R2:=a_ r2;have F2:=a_ f2;clear r2 f2)|(go_at_call 39;refine(HBV.out _).mono ?_;rintro e wx ⟨rfl,hwx⟩;have U2:=hwx.symm;clear hwx;subst U2))
 (try simp only[Exit.inBlock,Exit.then])
 first
 |(refine bS (aN rfl _ _ _) rfl ?_)
 |(refine ba (aN rfl _ _ _) rfl ?_)
 exact⟨rfl,R2.out,oh (by first|exact HM.out|exact HM.out.drewN _) F2.out⟩
end
section
variable{A K K':Nat->Prop}{w w' w1 w2 W1:World}{nv ov v' a:Value}{av kv:Nat->Value}{g:Gr}{Y:Nat}{er q:Int}{n:Nd}
theorem gI.lift{g':Gr}{kq tU:Value}{jS j9:Nat->Value}{er' q':Int}(h:gI A K Y w g er q nv ov av kv)(hM:eN w w1)(r:gI A (Grow K w1 w2) Y w2 g' er' q' kq tU jS j9)(fr:Frame (fun k=>k=Y\/K k) w1 w2):
  gI A (Grow K w w2) Y w2 g' er' q' kq tU jS j9/\Frame (fun k=>k=Y\/K k) w w2:=by
 have hz:=hM.size;have hz2:=fr.size;have xm:=eO h.blk;refine⟨r.FW (fun k hk x=>?_) ?_ ?_ (iX h.lt (by omega)),hM.frame.trans' fr⟩
 ·rcases x with x|x
  ·exact Or.inl x
  ·exact Or.inr ⟨by omega,hk⟩
 ·rintro(x|x)
  ·exact h.nK x
  ·omega
 ·rintro k hA (x|x)
  ·exact h.sq k hA x
  ·have:=h.sH k hA;omega
theorem Rg(h:gI A K Y w g 0 q nv ov av kv)(wf:g.Wf)(NQ:l5 g)(hb:g.nodes.length<=17179869184)(t:Tok)(li:t.kind≠1)(hk2:t.kind≠2)(k:Nat)(st:List Nat)(hs:g.stack=k::st)(hz:t.text.length<=9223372036854775807)(ai:Option Addr)(an ac:Nat):
  Z4 22 #[Z8 Y,.agg #[.int .i64 t.kind,.string ⟨t.name.toArray⟩,.slice ai an ac,.string ⟨t.text.toArray⟩,.int .i64 t.at_]] w fun e w'=>e=.returned (.tuple #[])/\∃kq jS j9,gI A (Grow K w w') Y w' (g.put (jo t)) 0 q kq ov jS j9/\Frame (fun k=>k=Y\/K k) w w':=by
 have lF:je g.stack=(k:Int):=by rw[hs];rfl
 have l8:∀o:Obj,Z4 37 #[Z8 Y] (w.alloc o) fun en w'=>en=.returned (.int .i64 (k:Int))/\eN (w.alloc o) w':=fun o=>by
  have:=mV (h.keep ((eN.refl w).alloc o));rw[lF]at this;exact this
 have M_:∀W,∃bb,Z4 39 #[.string ⟨t.text.toArray⟩] W (Z6 (.bool bb) W):=fun W=>⟨_,wm ⟨t.text.toArray⟩ W (by simpa [ByteArray.size]using hz)⟩
 have c2:∀o:Obj,(w.alloc o).cell? ⟨Y,2,none⟩=some (.int .i64 0):=fun o=>eG o (h.cell 2 rfl);have e1:(t.kind==1)=false:=by simpa using li
 have e2:(t.kind==2)=false:=by simpa using hk2
 have Sk:¬((k:Int)<0):=by omega
 have zw:=a_ l8;have HBV:=a_ M_;have HWF:=a_ wf;have HKD:=a_ NQ;have H:=a_ h;clear l8 h lF M_ li hk2 hs wf NQ;go_enter func22,ntmps22;go_wp2_with fail;refine(zw.out _).mono ?_;rintro e w1 ⟨rfl,m1⟩;have hM:eN w w1:=((eN.refl w).alloc _).trans m1;have fw:w1.heap[w.heap.size]?=some (.cells #[.int .i64 t.kind,.string ⟨t.name.toArray⟩,.slice ai an ac,.string ⟨t.text.toArray⟩,.int .i64 t.at_] 86):=(m1.keep w.heap.size (by simp)).trans (eL w _);have b0:=cell_of (i:=0) fw rfl;have b3:=cell_of (i:=3) fw rfl;have hput:=Dr (H.out.keep hM) HWF.out HKD.out (jo t) (.slice none 0 0) 0 ⟨rfl,Or.inl ⟨rfl,rfl⟩⟩ (fun k e=>by cases e) rfl hb;obtain⟨bb,hbl⟩:=HBV.out w1;have HP:=a_ hput;have HM:=a_ hM;have Qx:=a_ hbl;clear hM fw m1 hput hbl;cases bb;all_goals
  go_wp2_with(first|(go_at_call 39;refine Qx.out.mono ?_;rintro e wx ⟨rfl,hwx⟩;have U2:=hwx.symm;clear hwx;subst U2)|(go_at_call 38;refine HP.out.mono ?_;rintro e w2 ⟨rfl,kq,jS,j9,r2,f2⟩;have R2:=a_ r2;have F2:=a_ f2;clear r2 f2))
  (try simp only[Exit.inBlock,Exit.then])
  first
  |(refine bS (aN rfl _ _ _) rfl ?_)
  |(refine ba (aN rfl _ _ _) rfl ?_)
  obtain⟨q1,q2⟩:=H.out.lift HM.out R2.out F2.out;first|exact⟨rfl,kq,jS,j9,q1,q2⟩|exact⟨rfl,⟨kq,jS,j9,q1⟩,q2⟩
theorem Rh{gO n c:Nat}{xs:List Value}(h:w.ownsRow 0 3 1 (Z9 gO (n+1) c) (n+1) xs):w.ownsRow 0 3 1 (Z9 gO n c) n (xs.take n):=by
 rcases h.2 with⟨e,_⟩|⟨g',c',cur,e,h0,hg,h1,h2,h3,h4⟩
 ·cases e
 ·cases e;refine⟨?_,Or.inr ⟨gO,c,cur,rfl,h0,hg,by omega,h2,h3,?_⟩⟩
  ·have:=h.1;rw[bM];omega
  ·rw[<-h4,dK];congr 1;omega
theorem gI.Yb(h:gI A K Y w g er q nv ov av kv)(tU:Value)(st:List Nat)(ho:w.ownsRow 0 3 1 tU st.length (fL st.reverse))(hK:∀k,tU.ownBlock=some k->K k/\nv.ownBlock≠some k/\∀i,i<g.nodes.length->(kv i).ownBlock≠some k):
  gI A K Y (w.setCell ⟨Y,1,none⟩ tU) ⟨g.nodes,st⟩ er q nv tU av kv/\Frame (fun k=>k=Y) w (w.setCell ⟨Y,1,none⟩ tU):=by
 have keep:∀b,b≠Y->(w.setCell ⟨Y,1,none⟩ tU).heap[b]?=w.heap[b]?:=fun b hb=>ae _ _ _ _ hb;have hz:(w.setCell ⟨Y,1,none⟩ tU).heap.size=w.heap.size:=by simp[World.setCell]
 refine⟨⟨?_,h.nodes.frame (fun b _ hA=>keep b (fun e=>h.nA (by rw[<-e];exact hA))) (fun b _ hK=>keep b (fun e=>h.nK (by rw[<-e];exact hK))) (fun _ _ x=>x),eH ho fun k e=>keep k (fun x=>h.nK (by rw[<-x];exact(hK k e).1)),hK,h.nA,h.nK,h.sq,fun b hb=>by rw[hz];exact h.lt b hb,fun b hb=>by rw[hz];exact h.sH b hb⟩,⟨rfl,rfl,rfl,by rw[hz];exact aj _,fun b _ hb=>keep b hb⟩⟩;rw[fe h.blk];rfl
theorem Nb(L M cO:Nat)(hM:L+1=M)(hc:L+1<=cO)(hm:(L:Int)+1<=9223372036854775807):IntKind.i64.wrap ((M:Int)-1)=(L:Int)/\wrap64 (L:Int)=(L:Int)/\(L:Int)<=cO/\L<=cO:=by refine⟨by rw[aI];omega,by unfold wrap64;omega,by omega,by omega⟩
theorem Jk(h:gI A K Y w g 0 q nv ov av kv)(t:Tok)(k:Nat)(st:List Nat)(m:Nd)(hs:g.stack=k::st)(hm:g.nodes[k]?=some m)(hne:m.name=t.name)(ai:Option Addr)(an ac:Nat):
  Z4 22 #[Z8 Y,.agg #[.int .i64 2,.string ⟨t.name.toArray⟩,.slice ai an ac,.string ⟨t.text.toArray⟩,.int .i64 t.at_]] w fun e w'=>e=.returned (.tuple #[])/\∃tU,gI A K Y w' ⟨g.nodes,st⟩ 0 q nv tU av kv/\Frame (fun k=>k=Y) w w':=by
 obtain⟨gN,nc,qy,hmx,I4,m0,_⟩:=h.nodes.cells k m hm;obtain⟨gO,cO,hov,_,A7⟩:=h.top hs;have hop:=h.opens;rw[hs,hov]at hop;have aau:=Rh hop;have Lb:st.length+1<=cO:=by
  rcases hop.2 with⟨e,_⟩|⟨g',c',cur,e,h0,hg,h1,h2,h3,h4⟩
  ·cases e
  ·cases e;exact h1
 subst qy;have lF:je g.stack=(k:Int):=by rw[hs];rfl
 have mN:k<g.nodes.length:=(List.getElem?_eq_some_iff.1 hm).1;have UY:(k:Int)<g.nodes.length:=by omega
 have Sk:¬((k:Int)<0):=by omega
 have acv:decide ((k:Int)<0)=false:=by simp
 have qF:(m.name==t.name)=true:=by simpa using hne
 have Gj:gN<w.heap.size:=aU w _ m0;have l8:∀o:Obj,Z4 37 #[Z8 Y] (w.alloc o) fun en w'=>en=.returned (.int .i64 (k:Int))/\eN (w.alloc o) w':=fun o=>by
  have:=mV (h.keep ((eN.refl w).alloc o));rw[lF]at this;exact this
 have c2:∀o:Obj,(w.alloc o).cell? ⟨Y,2,none⟩=some (.int .i64 0):=fun o=>eG o (h.cell 2 rfl);have UO:(st.length:Int)+1<=9223372036854775807:=by have:maxLen=9223372036854775807:=rfl;omega
 have zw:=a_ l8;have H:=a_ h;have M0:=a_ m0;have HOV:=a_ hov;clear l8 h lF m0 hne hm hov hop;go_enter func22,ntmps22;go_wp2_with fail;refine(zw.out _).mono ?_;rintro e w1 ⟨rfl,m1⟩;have hM:eN w w1:=((eN.refl w).alloc _).trans m1;have fw:w1.heap[w.heap.size]?=some (.cells #[.int .i64 2,.string ⟨t.name.toArray⟩,.slice ai an ac,.string ⟨t.text.toArray⟩,.int .i64 t.at_] 86):=(m1.keep w.heap.size (by simp)).trans (eL w _);have r1:=H.out.keep hM;have d0:w1.cell? ⟨Y,0,none⟩=some (Z9 gN g.nodes.length nc):=r1.cell 0 rfl;have d1:w1.cell? ⟨Y,1,none⟩=some (Z9 gO (st.length+1) cO):=by rw[<-HOV.out];exact r1.cell 1 rfl
 have b0:=cell_of (i:=0) fw rfl;have b1:=cell_of (i:=1) fw rfl;have e0:w1.cell? ⟨gN,k*5,none⟩=some (.string ⟨m.name.toArray⟩):=(ag (hM.keep gN Gj)).trans M0.out;have f1:=eR (i:=1) r1.blk;generalize U3:st.length+1=M at d1;obtain⟨hw,U1,hLc,hLn⟩:=Nb st.length M cO U3 Lb UO;have vg:=a_ U3;have Y2:=a_ aau;have acw:=a_ Lb;have HM:=a_ hM;have wk:=a_ fw;have R1:=a_ r1;clear r1 hM fw m1 U3 aau Lb;generalize hLL:st.length=L at hw U1 hLc hLn;have HLL:=a_ hLL;clear hLL;go_wp2_with fail;go_quiet(fail);go_wp2_with fail;obtain⟨W2,hW2⟩:∃W,w1.drewN nq=W:=⟨_,rfl⟩
 rw[hW2];have wT:eN w1 W2:=by rw[<-hW2];exact(eN.refl w1).drewN _
 have r2:=R1.out.keep wT;have g1:W2.cell? ⟨Y,1,none⟩=some (Z9 gO M cO):=by rw[<-hW2];exact d1
 have f1':=eR (i:=1) r2.blk;have R2:=a_ r2;have HM2:=a_ wT;clear r2 wT hW2 d0 d1 e0 b0 b1 f1;go_region_law (fail);all_goals
  go_wp2
  (try simp only[Exit.inBlock,Exit.then])
  first
  |(refine bS (aN rfl _ _ _) rfl ?_)
  |(refine ba (aN rfl _ _ _) rfl ?_)
  have hL:=HLL.out;subst hL;have mO:(fL (k::st).reverse).take st.length=fL st.reverse:=by
   rw[eB];unfold fL;rw[aR,List.take_append_of_le_length (by simp),bQ (by simp)]
  have aav:eN w W2:=HM.out.trans HM2.out;have abG:W2.ownsRow 0 3 1 (Z9 gO st.length cO) st.length (fL st.reverse):=by
   rw[<-mO];exact eH Y2.out fun b e=>aav.keep b (eW Y2.out e)
  obtain⟨s1,s2⟩:=R2.out.Yb (Z9 gO st.length cO) st abG (fun b e=>H.out.jH b (by rw[HOV.out];exact e));have hD:eN (W2.setCell ⟨Y,1,none⟩ (Z9 gO st.length cO)) (W2.setCell ⟨Y,1,none⟩ (Z9 gO st.length cO)).drew:=(eN.refl _).drewN 1;exact⟨rfl,_,s1.keep hD,(aav.frame.trans' s2).trans' hD.frame⟩
end
section
variable{A K K':Nat->Prop}{w w' w1 w2 w3 W1:World}{nv ov v' a:Value}{av kv:Nat->Value}{g:Gr}{Y:Nat}{er q:Int}{n:Nd}
theorem Bz(l:Nat)(M:Nat)(hM:M=l+1)(hb:l<=17179869184):IntKind.i64.wrap ((M:Int)-1)=(l:Int)/\wrap64 (l:Int)=(l:Int):=by refine⟨by rw[aI];omega,by unfold wrap64;omega⟩
theorem wV{o:Obj}{k:Nat}(h:gI A K Y w g er q nv ov av kv)(hg:(w.drew.alloc o).grownBy w2 ov.ownBlock)(ho:w2.ownsRow 0 3 1 v' (g.stack.length+1) (fL g.stack.reverse++[.int .i64 k]))(hat:v'.ownBlock=ov.ownBlock\/v'.ownBlock=some (w.drew.alloc o).heap.size):
  gI A (Grow K w (w2.setCell ⟨Y,1,none⟩ v')) Y (w2.setCell ⟨Y,1,none⟩ v') ⟨g.nodes,k::g.stack⟩ er q nv v' av kv/\Frame (fun k=>k=Y\/K k) w (w2.setCell ⟨Y,1,none⟩ v'):=by
 have xm:=eO h.blk;have hM:eN w (w.drew.alloc o):=((eN.refl w).drewN 1).alloc o;have hz:(w.drew.alloc o).heap.size=w.heap.size+1:=by simp
 have hgs:=hg.size;have hoY:ov.ownBlock≠some Y:=fun e=>h.nK (h.jH Y e).1
 --all but the row of open elements is kept
 have keep:∀b,b<w.heap.size->ov.ownBlock≠some b->w2.heap[b]?=w.heap[b]?:=fun b hb hne=>(hg.block b (by omega) (fun e=>hne e.symm)).trans (hM.keep b hb);have Zw:∀b,v'.ownBlock=some b->(K b\/b=w.heap.size+1)/\nv.ownBlock≠some b/\∀i,i<g.nodes.length->(kv i).ownBlock≠some b:=by
  intro b e;rcases hat with e2|e2
  ·rw[e2]at e;exact⟨Or.inl (h.jH b e).1,(h.jH b e).2⟩
  ·rw[e2]at e;have eb:b=w.heap.size+1:=by simp only[aX]at e;omega
   refine⟨Or.inr eb,fun x=>?_,fun i hi x=>?_⟩
   ·have:=h.lt b (h.nodes.ou b x);omega
   ·have:=h.lt b (h.nodes.nt i b hi x).1;omega
 have h2:gI A (Grow K w w2) Y w2 ⟨g.nodes,k::g.stack⟩ er q nv v' av kv->True:=fun _=>trivial;have ww:ic 53 219 A (Grow K w w2) w2 nv g.nodes av kv:=by
  have row:w2.ownsRow 0 53 5 nv g.nodes.length (fH av kv 0 g.nodes):=eH h.nodes.row fun b e=>keep b (eW h.nodes.row e) (fun x=>(h.jH b x).2.1 e);refine⟨row,fun b e=>Or.inl (h.nodes.ou b e),fun i m hi=>eH (h.nodes.attr i m hi) fun b e=>keep b (eW (h.nodes.attr i m hi) e) (fun x=>h.sq b (h.nodes.vd i b (List.getElem?_eq_some_iff.1 hi).1 e) (h.jH b x).1),h.nodes.vd,
   fun i m hi=>eH (h.nodes.kid i m hi) fun b e=>keep b (eW (h.nodes.kid i m hi) e) (fun x=>(h.jH b x).2.2 i (List.getElem?_eq_some_iff.1 hi).1 e),fun i b hi e=>⟨Or.inl (h.nodes.nt i b hi e).1,(h.nodes.nt i b hi e).2⟩,h.nodes.apart,h.nodes.UW⟩
 have qV:∀b,b≠Y->(w2.setCell ⟨Y,1,none⟩ v').heap[b]?=w2.heap[b]?:=fun b hb=>ae _ _ _ _ hb;have hzz:(w2.setCell ⟨Y,1,none⟩ v').heap.size=w2.heap.size:=by simp[World.setCell]
 have abH:¬Grow K w w2 Y:=by
  rintro(x|x)
  ·exact h.nK x
  ·omega
 have hKK:∀b,Grow K w w2 b->Grow K w (w2.setCell ⟨Y,1,none⟩ v') b:=fun b x=>x.elim Or.inl (fun y=>Or.inr ⟨y.1,by rw[hzz];exact y.2⟩);refine⟨⟨?_,ww.frame (fun b _ x=>qV b (fun e=>h.nA (by rw[<-e];exact x))) (fun b _ x=>qV b (fun e=>abH (by rw[<-e];exact x))) (fun b _ x=>hKK b x),?_,?_,h.nA,?_,?_,?_,fun b x=>by have:=h.sH b x;omega⟩,⟨hg.os.trans hM.os,hg.tape.trans hM.tape,hg.output.trans hM.output,by omega,fun b hb hf=>?_⟩⟩
 ·rw[fe ((keep Y xm hoY).trans h.blk)];rfl
 ·have e1:fL (k::g.stack).reverse=fL g.stack.reverse++[.int .i64 k]:=by simp[fL]
  rw[e1];refine eH ho fun b e=>qV b (fun x=>?_);rcases(Zw b e).1 with y|y
  ·exact h.nK (by rw[<-x];exact y)
  ·omega
 ·intro b e;refine⟨?_,(Zw b e).2⟩;rcases(Zw b e).1 with y|y
  ·exact Or.inl y
  ·refine Or.inr ⟨by omega,?_⟩;have:=eW ho e;omega
 ·rintro(x|x)
  ·exact h.nK x
  ·omega
 ·rintro b hA (x|x)
  ·exact h.sq b hA x
  ·have:=h.sH b hA;omega
 ·rintro b (x|x)
  ·have:=h.lt b x;omega
  ·exact x.2
 ·rw[qV b (fun e=>hf (Or.inl e))];exact keep b hb (fun e=>hf (Or.inr (h.jH b e).1))
theorem FZ(h:gI A K Y w g 0 q nv ov av kv)(wf:g.Wf)(NQ:l5 g)(hb:g.nodes.length<=17179869184)(t:Tok)(va:Value)(ha:w.ownsRow 0 219 2 va t.d_.length (eQ t.d_))(nu:∀k,va.ownBlock=some k->A k)(hs:g.stack=[])(hn:g.nodes=[])(hd:g.stack.length<30):
  Z4 22 #[Z8 Y,.agg #[.int .i64 1,.string ⟨t.name.toArray⟩,va,.string ⟨t.text.toArray⟩,.int .i64 t.at_]] w fun e w'=>e=.returned (.tuple #[])/\∃kq tU jS j9,gI A (Grow K w w') Y w' { (g.put (elemOf t))with stack:=g.nodes.length::g.stack} 0 q kq tU jS j9/\Frame (fun k=>k=Y\/K k) w w':=by
 obtain⟨ai,ac,ng⟩:=eF ha;obtain⟨ni,nc,qy⟩:=eF h.nodes.row;obtain⟨oi,oc,hov⟩:=eF h.opens;subst ng;subst qy;subst hov;have lF:je g.stack= -1:=by rw[hs];rfl
 have hl0:decide (0<g.nodes.length)=false:=by rw[hn];rfl
 clear hn hs;have l8:∀o:Obj,Z4 37 #[Z8 Y] (w.alloc o) fun en w'=>en=.returned (.int .i64 (-1))/\eN (w.alloc o) w':=fun o=>by
  have:=mV (h.keep ((eN.refl w).alloc o));rw[lF]at this;exact this
 have c2:∀o:Obj,(w.alloc o).cell? ⟨Y,2,none⟩=some (.int .i64 0):=fun o=>eG o (h.cell 2 rfl);have hd1:decide (30<=g.stack.length)=false:=by simp;omega
 have Gf:(g.stack.length:Int)<30:=by omega
 obtain⟨j0,hj,Gn,Gp,xu⟩:=aZ uv;have zw:=a_ l8;have HWF:=a_ wf;have HKD:=a_ NQ;have HA:=a_ ha;have QZ:=a_ nu;have H:=a_ h;clear l8 h lF wf NQ ha nu;go_enter func22,ntmps22;go_wp2_with fail;refine(zw.out _).mono ?_;rintro e w1 ⟨rfl,m1⟩;have hM:eN w w1:=((eN.refl w).alloc _).trans m1;have fw:w1.heap[w.heap.size]?=some (.cells #[.int .i64 1,.string ⟨t.name.toArray⟩,.slice ai (List.length t.d_) ac,.string ⟨t.text.toArray⟩,.int .i64 t.at_] 86):=(m1.keep w.heap.size (by simp)).trans (eL w _);have r1:=H.out.keep hM;have d0:w1.cell? ⟨Y,0,none⟩=some (.slice ni g.nodes.length nc):=r1.cell 0 rfl;have d1:w1.cell? ⟨Y,1,none⟩=some (.slice oi g.stack.length oc):=r1.cell 1 rfl;have b0:=cell_of (i:=0) fw rfl;have b1:=cell_of (i:=1) fw rfl;have b2:=cell_of (i:=2) fw rfl;have hput:=Dr r1 HWF.out HKD.out (elemOf t) (.slice ai (List.length t.d_) ac) 0 (eH HA.out fun b e=>hM.keep b (eW HA.out e)) QZ.out rfl hb;have HP:=a_ hput;have HM:=a_ hM;clear r1 hM fw m1 hput;go_wp2_with(first|(go_at_call 38;refine HP.out.mono ?_;rintro e w2 ⟨rfl,nv2,av2,kv2,r2,f2⟩;obtain⟨n2,Si,Yc⟩:=eF r2.nodes.row;subst Yc;have y0:=r2.cell 0 rfl;have y1:=r2.cell 1 rfl;have R2:=a_ r2;have F2:=a_ f2;clear r2 f2 d0 d1 b0 b1 b2));have hst:(g.put (elemOf t)).stack=g.stack:=nH _ _;obtain⟨hw,U1⟩:=Bz g.nodes.length (g.put (elemOf t)).nodes.length (mH _ _) hb;have hop:=R2.out.opens;rw[hst]at hop;have Y2:=a_ hop;have X9:=a_ R2.out.blk;have hoY:(Value.slice oi g.stack.length oc).ownBlock≠some Y:=fun e=>R2.out.nK (R2.out.jH Y e).1;have YO:∀o:Obj,(w2.alloc o).cell? ⟨Y,0,none⟩=some (.slice n2 (g.put (elemOf t)).nodes.length Si):=fun o=>eG o y0;have y1a:∀o:Obj,(w2.alloc o).cell? ⟨Y,1,none⟩=some (.slice oi g.stack.length oc):=fun o=>eG o y1;have f1:=eR (i:=1) R2.out.blk;have HST:=a_ hst;clear hop hst c2;generalize U3:(g.put (elemOf t)).nodes.length=M at*
 have vg:=a_ U3;clear U3;go_region_law
  (first|(
   refine fA rfl (.tmp 74) (.tmp 81) 39 rfl 3 j0 _ 1 8 underlying39 hj Gn Gp xu rfl (by decide) (.slice oi g.stack.length oc) g.stack.length (fL g.stack.reverse) (by simp[Act.eval,Act.put]) (Y2.out.drew.alloc _) ⟨w2.heap.size,0,none⟩ 1 1 [.int .i64 g.nodes.length] (by simp[Act.eval,Act.put]) rfl (vh _ _) (xG _) (by unfold maxLen;omega) (by omega) ?_;intro v' w3 ho hg hat;obtain⟨U4,Ds,rfl⟩:=eF ho;have Yd:=f_ X9.out hoY hg;have y1':w3.cell? ⟨Y,1,none⟩=some (.slice oi g.stack.length oc):=cell_of Yd rfl;have f1':=eR (i:=1) Yd;have HO3:=a_ ho;have HG3:=a_ hg;have Ye:=a_ hat;clear ho hg hat Yd))
 all_goals
  go_wp2
  (try simp only[Exit.inBlock,Exit.then])
  first
  |(refine bS (aN rfl _ _ _) rfl ?_)
  |(refine ba (aN rfl _ _ _) rfl ?_)
  have wT:=vg.out;subst wT;obtain⟨s1,s2⟩:=wV (k:=g.nodes.length) R2.out HG3.out (by rw[HST.out];exact HO3.out) Ye.out;have e4:({ (g.put (elemOf t))with stack:=g.nodes.length::g.stack}:Gr)=⟨(g.put (elemOf t)).nodes,g.nodes.length::(g.put (elemOf t)).stack⟩:=by rw[HST.out]
  have tY:Frame (fun k=>k=Y\/K k) w1 (w3.setCell ⟨Y,1,none⟩ (.slice U4 (g.stack.length+1) Ds)):=by
   refine⟨s2.os.trans F2.out.os,s2.tape.trans F2.out.tape,s2.output.trans F2.out.output,aw F2.out.size s2.size,fun b hb2 hf=>?_⟩;rw[s2.block b (ah hb2 F2.out.size) (fun x=>by
    rcases x with x|x|x
    ·exact hf (Or.inl x)
    ·exact hf (Or.inr x)
    ·omega)]
   exact F2.out.block b hb2 hf
  have s3:gI A (Grow K w1 (w3.setCell ⟨Y,1,none⟩ (.slice U4 (g.stack.length+1) Ds))) Y (w3.setCell ⟨Y,1,none⟩ (.slice U4 (g.stack.length+1) Ds)) ⟨(g.put (elemOf t)).nodes,g.nodes.length::(g.put (elemOf t)).stack⟩ 0 q (.slice n2 (g.put (elemOf t)).nodes.length Si) (.slice U4 (g.stack.length+1) Ds) av2 kv2:=by
   have r1:=H.out.keep HM.out;have xm:=eO r1.blk;have z1:=F2.out.size;refine s1.FW (fun b hb2 x=>?_) ?_ ?_ (iX r1.lt tY.size)
   ·rcases x with(x|x)|x
    ·exact Or.inl x
    ·exact Or.inr ⟨x.1,hb2⟩
    ·exact Or.inr ⟨by omega,hb2⟩
   ·rintro(x|x)
    ·exact r1.nK x
    ·omega
   ·rintro b hA (x|x)
    ·exact r1.sq b hA x
    ·have:=r1.sH b hA;omega
  obtain⟨q1,q2⟩:=H.out.lift HM.out s3 tY;rw[e4];first|exact⟨rfl,_,_,_,_,q1,q2⟩|exact⟨rfl,⟨_,_,_,_,q1⟩,q2⟩
theorem F3(h:gI A K Y w g 0 q nv ov av kv)(wf:g.Wf)(NQ:l5 g)(hb:g.nodes.length<=17179869184)(t:Tok)(va:Value)(ha:w.ownsRow 0 219 2 va t.d_.length (eQ t.d_))(nu:∀k,va.ownBlock=some k->A k)(k:Nat)(st:List Nat)(hs:g.stack=k::st)(hd:g.stack.length<30):
  Z4 22 #[Z8 Y,.agg #[.int .i64 1,.string ⟨t.name.toArray⟩,va,.string ⟨t.text.toArray⟩,.int .i64 t.at_]] w fun e w'=>e=.returned (.tuple #[])/\∃kq tU jS j9,gI A (Grow K w w') Y w' { (g.put (elemOf t))with stack:=g.nodes.length::g.stack} 0 q kq tU jS j9/\Frame (fun k=>k=Y\/K k) w w':=by
 obtain⟨ai,ac,ng⟩:=eF ha;obtain⟨ni,nc,qy⟩:=eF h.nodes.row;obtain⟨oi,oc,hov⟩:=eF h.opens;subst ng;subst qy;subst hov;have lF:je g.stack=(k:Int):=by rw[hs];rfl
 have Sk:decide ((k:Int)<0)=false:=by simp
 have li:¬((k:Int)<0):=by omega
 clear hs;have l8:∀o:Obj,Z4 37 #[Z8 Y] (w.alloc o) fun en w'=>en=.returned (.int .i64 ((k:Int)))/\eN (w.alloc o) w':=fun o=>by
  have:=mV (h.keep ((eN.refl w).alloc o));rw[lF]at this;exact this
 have c2:∀o:Obj,(w.alloc o).cell? ⟨Y,2,none⟩=some (.int .i64 0):=fun o=>eG o (h.cell 2 rfl);have hd1:decide (30<=g.stack.length)=false:=by simp;omega
 have Gf:(g.stack.length:Int)<30:=by omega
 obtain⟨j0,hj,Gn,Gp,xu⟩:=aZ uv;have zw:=a_ l8;have HWF:=a_ wf;have HKD:=a_ NQ;have HA:=a_ ha;have QZ:=a_ nu;have H:=a_ h;clear l8 h lF wf NQ ha nu;go_enter func22,ntmps22;go_wp2_with fail;refine(zw.out _).mono ?_;rintro e w1 ⟨rfl,m1⟩;have hM:eN w w1:=((eN.refl w).alloc _).trans m1;have fw:w1.heap[w.heap.size]?=some (.cells #[.int .i64 1,.string ⟨t.name.toArray⟩,.slice ai (List.length t.d_) ac,.string ⟨t.text.toArray⟩,.int .i64 t.at_] 86):=(m1.keep w.heap.size (by simp)).trans (eL w _);have r1:=H.out.keep hM;have d0:w1.cell? ⟨Y,0,none⟩=some (.slice ni g.nodes.length nc):=r1.cell 0 rfl;have d1:w1.cell? ⟨Y,1,none⟩=some (.slice oi g.stack.length oc):=r1.cell 1 rfl;have b0:=cell_of (i:=0) fw rfl;have b1:=cell_of (i:=1) fw rfl;have b2:=cell_of (i:=2) fw rfl;have hput:=Dr r1 HWF.out HKD.out (elemOf t) (.slice ai (List.length t.d_) ac) 0 (eH HA.out fun b e=>hM.keep b (eW HA.out e)) QZ.out rfl hb;have HP:=a_ hput;have HM:=a_ hM;clear r1 hM fw m1 hput;go_wp2_with(first|(go_at_call 38;refine HP.out.mono ?_;rintro e w2 ⟨rfl,nv2,av2,kv2,r2,f2⟩;obtain⟨n2,Si,Yc⟩:=eF r2.nodes.row;subst Yc;have y0:=r2.cell 0 rfl;have y1:=r2.cell 1 rfl;have R2:=a_ r2;have F2:=a_ f2;clear r2 f2 d0 d1 b0 b1 b2));have hst:(g.put (elemOf t)).stack=g.stack:=nH _ _;obtain⟨hw,U1⟩:=Bz g.nodes.length (g.put (elemOf t)).nodes.length (mH _ _) hb;have hop:=R2.out.opens;rw[hst]at hop;have Y2:=a_ hop;have X9:=a_ R2.out.blk;have hoY:(Value.slice oi g.stack.length oc).ownBlock≠some Y:=fun e=>R2.out.nK (R2.out.jH Y e).1;have YO:∀o:Obj,(w2.alloc o).cell? ⟨Y,0,none⟩=some (.slice n2 (g.put (elemOf t)).nodes.length Si):=fun o=>eG o y0;have y1a:∀o:Obj,(w2.alloc o).cell? ⟨Y,1,none⟩=some (.slice oi g.stack.length oc):=fun o=>eG o y1;have f1:=eR (i:=1) R2.out.blk;have HST:=a_ hst;clear hop hst c2;generalize U3:(g.put (elemOf t)).nodes.length=M at*
 have vg:=a_ U3;clear U3;go_region_law
  (first|(
   refine fA rfl (.tmp 74) (.tmp 81) 39 rfl 3 j0 _ 1 8 underlying39 hj Gn Gp xu rfl (by decide) (.slice oi g.stack.length oc) g.stack.length (fL g.stack.reverse) (by simp[Act.eval,Act.put]) (Y2.out.drew.alloc _) ⟨w2.heap.size,0,none⟩ 1 1 [.int .i64 g.nodes.length] (by simp[Act.eval,Act.put]) rfl (vh _ _) (xG _) (by unfold maxLen;omega) (by omega) ?_;intro v' w3 ho hg hat;obtain⟨U4,Ds,rfl⟩:=eF ho;have Yd:=f_ X9.out hoY hg;have y1':w3.cell? ⟨Y,1,none⟩=some (.slice oi g.stack.length oc):=cell_of Yd rfl;have f1':=eR (i:=1) Yd;have HO3:=a_ ho;have HG3:=a_ hg;have Ye:=a_ hat;clear ho hg hat Yd))
 all_goals
  go_wp2
  (try simp only[Exit.inBlock,Exit.then])
  first
  |(refine bS (aN rfl _ _ _) rfl ?_)
  |(refine ba (aN rfl _ _ _) rfl ?_)
  have wT:=vg.out;subst wT;obtain⟨s1,s2⟩:=wV (k:=g.nodes.length) R2.out HG3.out (by rw[HST.out];exact HO3.out) Ye.out;have e4:({ (g.put (elemOf t))with stack:=g.nodes.length::g.stack}:Gr)=⟨(g.put (elemOf t)).nodes,g.nodes.length::(g.put (elemOf t)).stack⟩:=by rw[HST.out]
  have tY:Frame (fun k=>k=Y\/K k) w1 (w3.setCell ⟨Y,1,none⟩ (.slice U4 (g.stack.length+1) Ds)):=by
   refine⟨s2.os.trans F2.out.os,s2.tape.trans F2.out.tape,s2.output.trans F2.out.output,aw F2.out.size s2.size,fun b hb2 hf=>?_⟩;rw[s2.block b (ah hb2 F2.out.size) (fun x=>by
    rcases x with x|x|x
    ·exact hf (Or.inl x)
    ·exact hf (Or.inr x)
    ·omega)]
   exact F2.out.block b hb2 hf
  have s3:gI A (Grow K w1 (w3.setCell ⟨Y,1,none⟩ (.slice U4 (g.stack.length+1) Ds))) Y (w3.setCell ⟨Y,1,none⟩ (.slice U4 (g.stack.length+1) Ds)) ⟨(g.put (elemOf t)).nodes,g.nodes.length::(g.put (elemOf t)).stack⟩ 0 q (.slice n2 (g.put (elemOf t)).nodes.length Si) (.slice U4 (g.stack.length+1) Ds) av2 kv2:=by
   have r1:=H.out.keep HM.out;have xm:=eO r1.blk;have z1:=F2.out.size;refine s1.FW (fun b hb2 x=>?_) ?_ ?_ (iX r1.lt tY.size)
   ·rcases x with(x|x)|x
    ·exact Or.inl x
    ·exact Or.inr ⟨x.1,hb2⟩
    ·exact Or.inr ⟨by omega,hb2⟩
   ·rintro(x|x)
    ·exact r1.nK x
    ·omega
   ·rintro b hA (x|x)
    ·exact r1.sq b hA x
    ·have:=r1.sH b hA;omega
  obtain⟨q1,q2⟩:=H.out.lift HM.out s3 tY;rw[e4];first|exact⟨rfl,_,_,_,_,q1,q2⟩|exact⟨rfl,⟨_,_,_,_,q1⟩,q2⟩
end
end K
end Go.Proofs.YthlcmljckpdheaaGreatDoor
