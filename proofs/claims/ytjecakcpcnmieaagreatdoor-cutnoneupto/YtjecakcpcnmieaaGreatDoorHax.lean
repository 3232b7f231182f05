import Derived.Test.YtjecakcpcnmieaaGreatDoorHA
import Derived.Test.YtjecakcpcnmieaaGreatDoorHaw
import Derived.Test.YtjecakcpcnmieaaGreatDoorHau
import Derived.Test.YtjecakcpcnmieaaGreatDoorHak
set_option linter.unusedVariables false
set_option linter.unusedSimpArgs false
set_option maxHeartbeats 32000000
set_option maxRecDepth 100000
namespace Go.Proofs.YtjecakcpcnmieaaGreatDoor
namespace K
open Go.RowKit Go.Maps Go.Lib Tryz
section
variable{A K K':Nat->Prop}{w w' w1:World}{nv ov:Value}{av kv:Nat->Value}{g:Gr}{Y:Nat}{er q:Int}
structure gL(A K:Nat->Prop)(Y:Nat)(w:World)(g:Gr)(er q:Int)(nv ov:Value)(av kv:Nat->Value):Prop where
 blk:w.heap[Y]?=some (.cells #[nv,ov,.int .i64 er,.int .i64 q] 72 (0,0))
 nodes:f_ 36 79 A K w nv g.nodes av kv
 opens:w.ownsRow 0 3 1 ov g.stack.length (fF g.stack.reverse)
 jM:∀k,ov.ownBlock=some k->K k/\nv.ownBlock≠some k/\∀i,i<g.nodes.length->(kv i).ownBlock≠some k
 nA:¬A Y
 nK:¬K Y
 sZ:∀k,A k->¬K k
 lt:∀k,K k->k<w.heap.size
 tH:∀k,A k->k<w.heap.size
theorem gL.cell(h:gL A K Y w g er q nv ov av kv)(i:Nat){u:Value}(e:#[nv,ov,.int .i64 er,.int .i64 q][i]?=some u):w.cell? ⟨Y,i,none⟩=some u:=cell_of h.blk e
theorem eN.KV{W:World}{l:List Nd}(h:eN w W)(hn:f_ 36 79 A K w nv l av kv):f_ 36 79 A K W nv l av kv:=hn.frame (fun k hk _=>h.keep k hk) (fun k hk _=>h.keep k hk) (fun _ _ x=>x)
theorem gL.keep{W:World}(h:gL A K Y w g er q nv ov av kv)(hM:eN w W):gL A K Y W g er q nv ov av kv:=
 ⟨(hM.keep Y (eO h.blk)).trans h.blk,hM.KV h.nodes,eI h.opens fun k e=>hM.keep k (eU h.opens e),h.jM,h.nA,h.nK,h.sZ,fun k x=>ak (h.lt k x) hM.size,fun k x=>ak (h.tH k x) hM.size⟩
theorem iX(h:gL A K Y w g er q nv ov av kv)(e p:Int):
  Z4 21 #[Z8 Y,.int .i64 e,.int .i64 p] w fun en w'=>en=.returned (.tuple #[])/\gL A K Y w' g (if er=0 then e else er) (if er=0 then p else q) nv ov av kv/\Frame (fun k=>k=Y) w w':=by
 have c2:w.cell? ⟨Y,2,none⟩=some (.int .i64 er):=h.cell 2 rfl;have c3:w.cell? ⟨Y,3,none⟩=some (.int .i64 q):=h.cell 3 rfl;have f2:=eP (i:=2) h.blk;have f3:∀v,(w.setCell ⟨Y,2,none⟩ v).frozen? ⟨Y,3,none⟩=false:=fun v=>eP (i:=3) (eV (i:=2) h.blk v);have c3':∀v,(w.setCell ⟨Y,2,none⟩ v).cell? ⟨Y,3,none⟩=some (.int .i64 q):=fun v=>cell_of (eV (i:=2) h.blk v) rfl;have H:=a_ h;clear h;by_cases h0:er=0
 ·rw[if_pos h0,if_pos h0];have e0:(er==0)=true:=by simpa using h0
  clear h0;go_enter func21,ntmps21;go_wp2
  (try simp only[Exit.inBlock,Exit.then])
  first
  |(refine bW (aK rfl _ _ _) rfl ?_)
  |(refine aV (aK rfl _ _ _) rfl ?_)
  have keep:∀b,b≠Y->((w.setCell ⟨Y,2,none⟩ (.int .i64 e)).setCell ⟨Y,3,none⟩ (.int .i64 p)).heap[b]?=w.heap[b]?:=fun b hb=>by rw[af _ _ _ _ hb,af _ _ _ _ hb]
  have hz:((w.setCell ⟨Y,2,none⟩ (.int .i64 e)).setCell ⟨Y,3,none⟩ (.int .i64 p)).heap.size=w.heap.size:=by simp[World.setCell]
  have h:=H.out;refine⟨rfl,⟨?_,h.nodes.frame (fun b _ hA=>keep b (fun e=>h.nA (by rw[<-e];exact hA))) (fun b _ hK=>keep b (fun e=>h.nK (by rw[<-e];exact hK))) (fun _ _ x=>x),eI h.opens fun k e=>keep k (fun x=>h.nK (by rw[<-x];exact(h.jM k e).1)),h.jM,h.nA,h.nK,h.sZ,fun b hb=>by rw[hz];exact h.lt b hb,fun b hb=>by rw[hz];exact h.tH b hb⟩,⟨rfl,rfl,rfl,by rw[hz];exact ah _,fun b _ hb=>keep b hb⟩⟩;rw[eV (eV h.blk _) _];rfl
 ·rw[if_neg h0,if_neg h0];have e0:(er==0)=false:=by simpa using h0
  clear h0;go_enter func21,ntmps21;go_wp2
  (try simp only[Exit.inBlock,Exit.then])
  first
  |(refine bW (aK rfl _ _ _) rfl ?_)
  |(refine aV (aK rfl _ _ _) rfl ?_)
  exact⟨rfl,H.out,⟨rfl,rfl,rfl,ah _,fun _ _ _=>rfl⟩⟩
theorem gL.top(h:gL A K Y w g er q nv ov av kv){k:Nat}{st:List Nat}(hs:g.stack=k::st):∃gO cO,ov=Z9 gO (st.length+1) cO/\w.cell? ⟨gO,st.length,none⟩=some (.int .i64 k)/\st.length+1<=maxLen:=by
 have ho:=h.opens;rw[hs]at ho;rcases ho.2 with⟨_,e⟩|⟨gO,cO,cur,e1,_,hg,h1,h2,h3,h4⟩
 ·simp at e
 ·refine⟨gO,cO,by rw[e1];rfl,?_,by simp only[ag]at h1;omega⟩;refine cell_of hg ?_;have h5:(fF (k::st).reverse)[st.length]?=some (.int .i64 k):=by simp[fF]
  rw[<-h4,bT]at h5;split at h5
  ·simpa using h5
  ·cases h5
theorem nE(h:gL A K Y w g er q nv ov av kv):Z4 43 #[Z8 Y] w fun en w'=>en=.returned (.int .i64 (jl g.stack))/\eN w w':=by
 cases hs:g.stack with
 |nil=>
  have c1:∃oo oc,w.cell? ⟨Y,1,none⟩=some (.slice oo 0 oc):=by
   have ho:=h.opens;rw[hs]at ho;obtain⟨oo,oc,e⟩:=eE ho;exact⟨oo,oc,by rw[<-show ov=.slice oo 0 oc from e];exact h.cell 1 rfl⟩
  obtain⟨oo,oc,c1⟩:=c1;clear h hs;go_enter func43,ntmps43;go_wp2;go_ret;exact⟨rfl,eN.refl w⟩
 |cons k st=>
  obtain⟨gO,cO,e,x,hmx⟩:=h.top hs;have c1:w.cell? ⟨Y,1,none⟩=some (Z9 gO (st.length+1) cO):=by rw[<-e];exact h.cell 1 rfl
  have hl:(st.length:Int)+1<=9223372036854775807:=by have:maxLen=9223372036854775807:=rfl;omega
  generalize hM:st.length+1=M at c1;have e0:((M:Int)==0)=false:=by simp;omega
  have e0n:(M==0)=false:=by simp;omega
  have e0d:decide (M=0)=false:=by simp;omega
  have hw:IntKind.i64.wrap ((M:Int)-1)=(st.length:Int):=by rw[aD];omega
  have Xv:wrap64 (st.length:Int)=(st.length:Int):=by unfold wrap64;omega
  have hlt:(st.length:Int)<M:=by omega
  have HM:=a_ hM;clear h hs e hM;go_enter func43,ntmps43;go_wp2_with fail;go_quiet(fail);go_wp2;go_ret;exact⟨rfl,(eN.refl w).drewN _⟩
end
section
variable{A K K':Nat->Prop}{w w' w1 w2 W1:World}{nv ov v' a:Value}{av kv:Nat->Value}{g:Gr}{Y:Nat}{er q:Int}{n:Nd}
theorem T8:(prog.info? 36).map (fun i=>(i.zero,i.size,i.bytes))=some (some (.agg #[.string ⟨#[]⟩,.slice none 0 0,.string ⟨#[]⟩,.slice none 0 0,.int .i64 0]),5,88):=by kernel_rfl
theorem gL.Hr(h:gL A K Y w g er q nv ov av kv)(hK:∀k,k<w.heap.size->K k->K' k)(nK:¬K' Y)(sZ:∀k,A k->¬K' k)(lt:∀k,K' k->k<w.heap.size):gL A K' Y w g er q nv ov av kv:=
 ⟨h.blk,h.nodes.frame (fun _ _ _=>rfl) (fun _ _ _=>rfl) hK,h.opens,fun k e=>⟨hK k (eU h.opens e) (h.jM k e).1,(h.jM k e).2⟩,h.nA,nK,sZ,lt,h.tH⟩
theorem xR{o2:Obj}(h:gL A K Y w g er q nv ov av kv)(hM:eN w W1)(ha:w.ownsRow 0 79 2 a n.b_.length (eG n.b_))(nS:∀k,a.ownBlock=some k->A k)(hk:n.kids=[])
  (hg:(W1.drew.alloc o2).grownBy w2 nv.ownBlock) (ho:w2.ownsRow 0 36 5 v' (g.nodes.length+1) (fH av kv 0 g.nodes++iu n a fO)) (hat:v'.ownBlock=nv.ownBlock\/v'.ownBlock=some (W1.drew.alloc o2).heap.size):
  gL A (Grow K w (w2.setCell ⟨Y,0,none⟩ v')) Y (w2.setCell ⟨Y,0,none⟩ v') ⟨g.nodes++[n],g.stack⟩ er q v' ov (upd av g.nodes.length a) (upd kv g.nodes.length fO)/\Frame (fun k=>k=Y\/K k) w (w2.setCell ⟨Y,0,none⟩ v')/\
  (∀b,w.heap.size<=b->b<W1.heap.size->(w2.setCell ⟨Y,0,none⟩ v').heap[b]?=W1.heap[b]?):=by
 have yr:=eO h.blk;have EG:eN w (W1.drew.alloc o2):=(hM.drewN 1).alloc o2;have hz:(W1.drew.alloc o2).heap.size=W1.heap.size+1:=by simp
 have hzw:=hM.size;have hnY:nv.ownBlock≠some Y:=fun e=>h.nK (h.nodes.nR Y e);have hp:=(EG.KV h.nodes).push h.sZ (fun k x=>ak (h.lt k x) EG.size) (fun k x=>ak (h.tH k x) EG.size) (eI ha fun k e=>EG.keep k (eU ha e)) nS hk hg ho hat;have hz2:w2.heap.size=(w2.setCell ⟨Y,0,none⟩ v').heap.size:=by simp[World.setCell]
 have hgs:=hg.size;have keep:∀b,b<(W1.drew.alloc o2).heap.size->b≠Y->nv.ownBlock≠some b->(w2.setCell ⟨Y,0,none⟩ v').heap[b]?=(W1.drew.alloc o2).heap[b]?:=fun b hb h1 h2=>by rw[af _ _ _ _ h1];exact hg.block b hb (fun e=>h2 e.symm)
 have hY2:w2.heap[Y]?=some (.cells #[nv,ov,.int .i64 er,.int .i64 q] 72 (0,0)):=by rw[hg.block Y (by omega) (fun e=>hnY e.symm),EG.keep Y yr];exact h.blk
 have fr:Frame (fun k=>k=Y\/K k) w (w2.setCell ⟨Y,0,none⟩ v'):=⟨hg.os.trans EG.os,hg.tape.trans EG.tape,hg.output.trans EG.output,by omega,fun b hb hf=>by
  rw[keep b (by omega) (fun e=>hf (Or.inl e)) (fun e=>hf (Or.inr (h.nodes.nR b e)))];exact EG.keep b hb⟩
 refine⟨⟨?_,?_,?_,?_,h.nA,?_,?_,?_,fun k x=>by have:=h.tH k x;omega⟩,fr,?_⟩
 ·rw[eV hY2];rfl
 ·refine hp.frame (fun k _ x=>af _ _ _ _ (fun e=>h.nA (by have e':k=Y:=e;rw[<-e'];exact x))) (fun k _ x=>af _ _ _ _ (fun e=>?_)) (fun k hk x=>?_)
  ·have e':k=Y:=e;rcases x with x|x
   ·exact h.nK (by rw[<-e'];exact x)
   ·omega
  ·rcases x with x|x
   ·exact Or.inl x
   ·exact Or.inr ⟨by omega,hk⟩
 ·refine eI h.opens fun k e=>?_;have hl:=eU h.opens e;rw[keep k (by omega) (fun x=>h.nK (by rw[<-x];exact(h.jM k e).1)) (h.jM k e).2.1];exact EG.keep k hl
 ·intro k e;have hl:=eU h.opens e;refine⟨Or.inl (h.jM k e).1,?_,fun i hi=>?_⟩
  ·rcases hat with e2|e2
   ·rw[e2];exact(h.jM k e).2.1
   ·rw[e2];intro x;simp only[aJ]at x;omega
  ·simp only[ae,ag,aq]at hi;by_cases h1:i=g.nodes.length
   ·subst h1;rw[upd_same];intro x;cases x
   ·rw[fQ _ _ h1];exact(h.jM k e).2.2 i (by omega)
 ·rintro(x|x)
  ·exact h.nK x
  ·omega
 ·rintro k hA (x|x)
  ·exact h.sZ k hA x
  ·have:=h.tH k hA;omega
 ·rintro k (x|x)
  ·have:=h.lt k x;omega
  ·exact x.2
 ·intro b h1 h2;rw[keep b (by omega) (by omega) (fun e=>by have:=h.lt b (h.nodes.nR b e);omega)];exact ap _ _ _ h2
theorem KW{o:Obj}{k j gN nc:Nat}{m:Nd}(h:gL A K Y w g er q nv ov av kv)(hM:eN w W1)(hm:g.nodes[k]?=some m)(qO:nv=Z9 gN g.nodes.length nc)
  (hg:(W1.alloc o).grownBy w2 (kv k).ownBlock) (ho:w2.ownsRow 0 3 1 v' (m.kids.length+1) (fF m.kids++[.int .i64 j])) (hat:v'.ownBlock=(kv k).ownBlock\/v'.ownBlock=some (W1.alloc o).heap.size):
  gL A (Grow K w (w2.setCell ⟨gN,k*5+3,none⟩ v')) Y (w2.setCell ⟨gN,k*5+3,none⟩ v') ⟨fy g.nodes k j,g.stack⟩ er q nv ov av (upd kv k v')/\Frame K w (w2.setCell ⟨gN,k*5+3,none⟩ v'):=by
 have yr:=eO h.blk;have hk:k<g.nodes.length:=(List.getElem?_eq_some_iff.1 hm).1;have EG:eN w (W1.alloc o):=hM.alloc o;have hz:(W1.alloc o).heap.size=W1.heap.size+1:=by simp
 have hzw:=hM.size;have KH:K gN:=h.nodes.nR gN (by rw[qO];rfl);have hp:=(EG.KV h.nodes).fy (j:=j) h.sZ (fun i x=>ak (h.lt i x) EG.size) (fun i x=>ak (h.tH i x) EG.size) qO hm hg ho hat;have hz2:w2.heap.size=(w2.setCell ⟨gN,k*5+3,none⟩ v').heap.size:=by simp[World.setCell]
 have hgs:=hg.size;have keep:∀b,b<(W1.alloc o).heap.size->b≠gN->(kv k).ownBlock≠some b->(w2.setCell ⟨gN,k*5+3,none⟩ v').heap[b]?=(W1.alloc o).heap[b]?:=fun b hb h1 h2=>by rw[af _ _ _ _ h1];exact hg.block b hb (fun e=>h2 e.symm)
 have fr:Frame K w (w2.setCell ⟨gN,k*5+3,none⟩ v'):=⟨hg.os.trans EG.os,hg.tape.trans EG.tape,hg.output.trans EG.output,by omega,fun b hb hf=>by
  rw[keep b (by omega) (fun e=>hf (by rw[e];exact KH)) (fun e=>hf (h.nodes.l7 k b hk e).1)];exact EG.keep b hb⟩
 refine⟨⟨?_,?_,?_,?_,h.nA,?_,?_,?_,fun k x=>by have:=h.tH k x;omega⟩,fr⟩
 ·rw[fr.block Y yr h.nK];exact h.blk
 ·refine hp.frame (fun _ _ _=>rfl) (fun _ _ _=>rfl) (fun i hi x=>?_);rcases x with x|x
  ·exact Or.inl x
  ·exact Or.inr ⟨by omega,hi⟩
 ·refine eI h.opens fun i e=>?_;have hl:=eU h.opens e;rw[keep i (by omega) (fun x=>(h.jM i e).2.1 (by rw[qO,x];rfl)) ((h.jM i e).2.2 k hk)];exact EG.keep i hl
 ·intro i e;have hl:=eU h.opens e;refine⟨Or.inl (h.jM i e).1,(h.jM i e).2.1,fun i2 IG=>?_⟩;rw[fB]at IG;by_cases h1:i2=k
  ·subst h1;rw[upd_same];rcases hat with e2|e2
   ·rw[e2];exact(h.jM i e).2.2 i2 hk
   ·rw[e2];intro x;simp only[aJ]at x;omega
  ·rw[fQ _ _ h1];exact(h.jM i e).2.2 i2 IG
 ·rintro(x|x)
  ·exact h.nK x
  ·omega
 ·rintro i hA (x|x)
  ·exact h.sZ i hA x
  ·have:=h.tH i hA;omega
 ·rintro i (x|x)
  ·have:=h.lt i x;omega
  ·exact x.2
end
section
variable{A K K':Nat->Prop}{w w' w1 w2 W1:World}{nv ov v' a:Value}{av kv:Nat->Value}{g:Gr}{Y:Nat}{er q:Int}{n:Nd}
theorem v_(w:World)(v:Value):∀j u,[v][j]?=some u->(w.alloc (.cells #[v] 3)).cell? ((⟨w.heap.size,0,none⟩:Addr).add j)=some u:=by
 intro j u hu;rw[dH,ay,cell_of (bu w _) (v:=u)];rw[<-hu];simp
theorem yJ(z:Int):∀u∈[Value.int .i64 z],u.oneCell'=true:=by
 intro u hu;simp only[cE,cn,cK]at hu;subst hu;rfl
theorem Hs{k:Nat}{st:List Nat}{m:Nd}{W3 w5:World}{o:Obj}{ki:Option Addr}{kc gN nc2:Nat}{v5:Value}{avx:Nat->Value}(h:gL A K Y w g er q nv ov av kv)(hs:g.stack=k::st)(hm:g.nodes[k]?=some m)
  (p1:gL A (Grow K w W3) Y W3 ⟨g.nodes++[{n with up:=(k:Int)}],g.stack⟩ er q (Z9 gN (g.nodes.length+1) nc2) ov avx (upd kv g.nodes.length fO)) (p2:Frame (fun k=>k=Y\/K k) w W3) (ES:(g.nodes++[{n with up:=(k:Int)}])[k]?=some m) (yi:kv k=.slice ki m.kids.length kc)
  (hg:(W3.drew.alloc o).grownBy w5 (Value.slice ki m.kids.length kc).ownBlock) (ho:w5.ownsRow 0 3 1 v5 (m.kids.length+1) (fF m.kids++[.int .i64 g.nodes.length])) (hat:v5.ownBlock=(Value.slice ki m.kids.length kc).ownBlock\/v5.ownBlock=some (W3.drew.alloc o).heap.size):
  Ending.returned (.tuple #[])=Ending.returned (.tuple #[])/\∃kh j8 kA,gL A (Grow K w (w5.setCell ⟨gN,k*5+3,none⟩ v5)) Y (w5.setCell ⟨gN,k*5+3,none⟩ v5) (g.put n) er q kh ov j8 kA/\Frame (fun k=>k=Y\/K k) w (w5.setCell ⟨gN,k*5+3,none⟩ v5):=by
 have qU:k<g.nodes.length:=(List.getElem?_eq_some_iff.1 hm).1;have hku:(upd kv g.nodes.length fO) k=.slice ki m.kids.length kc:=by rw[fQ _ _ (by omega)];exact yi
 have yr:=eO h.blk;obtain⟨r1,r2⟩:=KW (j:=g.nodes.length) (gN:=gN) (nc:=nc2) p1 ((eN.refl W3).drewN 1) ES (by simp) (by rw[hku];exact hg) ho (by rw[hku];exact hat);have FM:=p2.size;have adM:=r2.size;have fr:Frame (fun k=>k=Y\/K k) w (w5.setCell ⟨gN,k*5+3,none⟩ v5):=⟨r2.os.trans p2.os,r2.tape.trans p2.tape,r2.output.trans p2.output,by omega,fun b hb hf=>by
  rw[r2.block b (by omega) (fun x=>by
   rcases x with x|x
   ·exact hf (Or.inr x)
   ·omega)]
  exact p2.block b hb hf⟩
 have KI:g.put n=⟨fy (g.nodes++[{n with up:=(k:Int)}]) k g.nodes.length,g.stack⟩:=by unfold Gr.put;rw[hs];simp only;rw[pw _ _ _ _ qU]
 rw[KI];refine⟨rfl,_,_,_,r1.Hr (fun b hb x=>?_) ?_ ?_ (i_ h.lt fr.size),fr⟩
 ·rcases x with(x|x)|x
  ·exact Or.inl x
  ·exact Or.inr ⟨x.1,hb⟩
  ·exact Or.inr ⟨by omega,hb⟩
 ·rintro(x|x)
  ·exact h.nK x
  ·omega
 ·rintro b hA (x|x)
  ·exact h.sZ b hA x
  ·have:=h.tH b hA;omega
theorem O_(h:gL A K Y w g er q nv ov av kv)(hs:g.stack=[])(n:Nd)(a:Value)(z:Int)(ha:w.ownsRow 0 79 2 a n.b_.length (eG n.b_))(nS:∀k,a.ownBlock=some k->A k)(hn:n.kids=[])(hb:g.nodes.length<=17179869184):
  Z4 44 #[Z8 Y,.agg #[.string ⟨n.name.toArray⟩,a,.string ⟨n.text.toArray⟩,.slice none 0 0,.int .i64 z]] w fun en w'=>en=.returned (.tuple #[])/\∃kh j8 kA,gL A (Grow K w w') Y w' (g.put n) er q kh ov j8 kA/\Frame (fun k=>k=Y\/K k) w w':=by
 obtain⟨ai,ac,oF⟩:=eE ha;obtain⟨ni,nc,qO⟩:=eE h.nodes.row;subst oF;subst qO;have oO:∀o:Obj,Z4 43 #[Z8 Y] (w.alloc o) fun en w'=>en=.returned (.int .i64 (-1))/\eN (w.alloc o) w':=fun o=>by
  have:=nE (h.keep ((eN.refl w).alloc o));rw[hs]at this;exact this
 have yr:=eO h.blk;have hnY:(Value.slice ni g.nodes.length nc).ownBlock≠some Y:=fun e=>h.nK (h.nodes.nR Y e);have hnB:(Value.slice ni g.nodes.length nc).ownBlock≠some w.heap.size:=fun e=>by have:=h.lt _ (h.nodes.nR _ e);omega
 obtain⟨i0,hi,hz0,hz1,hz2⟩:=bk T8;have Ay:=a_ oO;have HA:=a_ ha;have TN:=a_ nS;have H:=a_ h;clear oO h ha nS;go_enter func44,ntmps44;go_wp2_with fail;refine(Ay.out _).mono ?_;rintro e w1 ⟨rfl,m1⟩;have wa:w1.heap[w.heap.size]?=some (.cells #[.string ⟨n.name.toArray⟩,.slice ai (List.length n.b_) ac,.string ⟨n.text.toArray⟩,.slice none 0 0,.int .i64 z] 36):=(m1.keep w.heap.size (by simp)).trans (eL w _);have b4:=cell_of (i:=4) wa rfl;have f4:=eP (i:=4) wa;have rC:=eV (i:=4) wa (.int .i64 (-1));have Pa:eN w w1:=((eN.refl w).alloc _).trans m1;have hM:eN w (w1.setCell ⟨w.heap.size,4,none⟩ (.int .i64 (-1))):=⟨Pa.os,Pa.tape,Pa.output,by have:=Pa.size;simpa [World.setCell]using this,fun b hb=>by rw[af _ _ _ _ (show b≠w.heap.size by omega)];exact Pa.keep b hb⟩
 have y0:(w1.setCell ⟨w.heap.size,4,none⟩ (.int .i64 (-1))).cell? ⟨Y,0,none⟩=some (.slice ni g.nodes.length nc):=(H.out.keep hM).cell 0 rfl;have HM:=a_ hM;have aav:=a_ rC;clear m1 Pa hM rC;go_wp2_with fail;clear b4 f4 y0;generalize w1.setCell ⟨w.heap.size,4,none⟩ (.int .i64 (-1))=W1 at*
 have fj:W1.heap[w.heap.size]?=some (.cells #[.string ⟨n.name.toArray⟩,.slice ai (List.length n.b_) ac,.string ⟨n.text.toArray⟩,.slice none 0 0,.int .i64 (-1)] 36):=aav.out;have hr1:=H.out.keep HM.out;have n0:=cell_of (i:=0) fj rfl;have n1:=cell_of (i:=1) fj rfl;have n2:=cell_of (i:=2) fj rfl;have n3:=cell_of (i:=3) fj rfl;have n4:=cell_of (i:=4) fj rfl;have x0:W1.cell? ⟨Y,0,none⟩=some (.slice ni g.nodes.length nc):=hr1.cell 0 rfl;have Yb:∀o:Obj,(W1.alloc o).cell? ⟨Y,0,none⟩=some (.slice ni g.nodes.length nc):=fun o=>eF o x0;have hbl:w.heap.size<W1.heap.size:=eO fj;have HYB:=a_ hr1.blk;have HR1:=a_ hr1.nodes.row;have xe:=a_ fj;have f0:=eP (i:=0) hr1.blk;clear fj hr1 wa;go_region_law
  (first|(
   refine fJ rfl (.tmp 17) (.tmp 19) 28 rfl 36 i0 _ 5 88 underlying28 hi hz0 hz1 hz2 rfl (by decide) (.slice ni g.nodes.length nc) g.nodes.length (fH av kv 0 g.nodes) (by simp[Act.eval,Act.put]) (HR1.out.drew.alloc _) ⟨W1.heap.size,0,none⟩ 1 1 (iu {n with up:= -1} (.slice ai (List.length n.b_) ac) fO) (by simp[Act.eval,Act.put]) rfl (yI _ _ _ _ _) (ED _ _ _ rfl rfl) (by unfold maxLen;omega) (by omega) ?_;intro v' w2 ho hg hat;obtain⟨uw,cap',rfl⟩:=eE ho;have hb1:=gm HYB.out hnY hg;have x0':w2.cell? ⟨Y,0,none⟩=some (.slice ni g.nodes.length nc):=cell_of hb1 rfl;have f0':=eP (i:=0) hb1;have HO:=a_ ho;have HG:=a_ hg;have tY:=a_ hat;clear ho hg hat hb1))
 all_goals
  obtain⟨p1,p2,p3⟩:=xR (n:={n with up:= -1}) H.out HM.out HA.out TN.out hn HG.out HO.out tY.out;have tV:(w2.setCell ⟨Y,0,none⟩ (.slice uw (g.nodes.length+1) cap')).heap[w.heap.size]?=some (.cells #[.string ⟨n.name.toArray⟩,.slice ai (List.length n.b_) ac,.string ⟨n.text.toArray⟩,.slice none 0 0,.int .i64 (-1)] 36):=(p3 w.heap.size (ah _) hbl).trans xe.out;have z4:=cell_of (i:=4) tV rfl;have P1:=a_ p1;have P2:=a_ p2;have XX:=a_ tV;clear p1 p2 p3 tV x0' f0' n0 n1 n2 n3 n4 x0 Yb f0;go_wp2
  (try simp only[Exit.inBlock,Exit.then])
  first
  |(refine bW (aK rfl _ _ _) rfl ?_)
  |(refine aV (aK rfl _ _ _) rfl ?_)
  have KI:g.put n=⟨g.nodes++[{n with up:= -1}],g.stack⟩:=by unfold Gr.put;rw[hs]
  rw[KI];exact⟨rfl,_,_,_,P1.out,P2.out⟩
theorem Pb(h:gL A K Y w g er q nv ov av kv)(k:Nat)(st:List Nat)(m:Nd)(hs:g.stack=k::st)(hm:g.nodes[k]?=some m)(hb2:m.kids.length<=17179869184)(n:Nd)(a:Value)(z:Int)(ha:w.ownsRow 0 79 2 a n.b_.length (eG n.b_))(nS:∀k,a.ownBlock=some k->A k)(hn:n.kids=[])(hb:g.nodes.length<=17179869184):
  Z4 44 #[Z8 Y,.agg #[.string ⟨n.name.toArray⟩,a,.string ⟨n.text.toArray⟩,.slice none 0 0,.int .i64 z]] w fun en w'=>en=.returned (.tuple #[])/\∃kh j8 kA,gL A (Grow K w w') Y w' (g.put n) er q kh ov j8 kA/\Frame (fun k=>k=Y\/K k) w w':=by
 obtain⟨ai,ac,oF⟩:=eE ha;obtain⟨ni,nc,qO⟩:=eE h.nodes.row;subst oF;subst qO;have oO:∀o:Obj,Z4 43 #[Z8 Y] (w.alloc o) fun en w'=>en=.returned (.int .i64 ((k:Int)))/\eN (w.alloc o) w':=fun o=>by
  have:=nE (h.keep ((eN.refl w).alloc o));rw[hs]at this;exact this
 have qU:k<g.nodes.length:=(List.getElem?_eq_some_iff.1 hm).1;obtain⟨j0,hj,YD,YE,IA⟩:=bk zn;have yr:=eO h.blk;have hnY:(Value.slice ni g.nodes.length nc).ownBlock≠some Y:=fun e=>h.nK (h.nodes.nR Y e);have hnB:(Value.slice ni g.nodes.length nc).ownBlock≠some w.heap.size:=fun e=>by have:=h.lt _ (h.nodes.nR _ e);omega
 obtain⟨i0,hi,hz0,hz1,hz2⟩:=bk T8;have Ay:=a_ oO;have HA:=a_ ha;have TN:=a_ nS;have H:=a_ h;clear oO h ha nS;go_enter func44,ntmps44;go_wp2_with fail;refine(Ay.out _).mono ?_;rintro e w1 ⟨rfl,m1⟩;have wa:w1.heap[w.heap.size]?=some (.cells #[.string ⟨n.name.toArray⟩,.slice ai (List.length n.b_) ac,.string ⟨n.text.toArray⟩,.slice none 0 0,.int .i64 z] 36):=(m1.keep w.heap.size (by simp)).trans (eL w _);have b4:=cell_of (i:=4) wa rfl;have f4:=eP (i:=4) wa;have rC:=eV (i:=4) wa (.int .i64 ((k:Int)));have Pa:eN w w1:=((eN.refl w).alloc _).trans m1;have hM:eN w (w1.setCell ⟨w.heap.size,4,none⟩ (.int .i64 ((k:Int)))):=⟨Pa.os,Pa.tape,Pa.output,by have:=Pa.size;simpa [World.setCell]using this,fun b hb=>by rw[af _ _ _ _ (show b≠w.heap.size by omega)];exact Pa.keep b hb⟩
 have y0:(w1.setCell ⟨w.heap.size,4,none⟩ (.int .i64 ((k:Int)))).cell? ⟨Y,0,none⟩=some (.slice ni g.nodes.length nc):=(H.out.keep hM).cell 0 rfl;have HM:=a_ hM;have aav:=a_ rC;clear m1 Pa hM rC;go_wp2_with fail;clear b4 f4 y0;generalize w1.setCell ⟨w.heap.size,4,none⟩ (.int .i64 ((k:Int)))=W1 at*
 have fj:W1.heap[w.heap.size]?=some (.cells #[.string ⟨n.name.toArray⟩,.slice ai (List.length n.b_) ac,.string ⟨n.text.toArray⟩,.slice none 0 0,.int .i64 ((k:Int))] 36):=aav.out;have hr1:=H.out.keep HM.out;have n0:=cell_of (i:=0) fj rfl;have n1:=cell_of (i:=1) fj rfl;have n2:=cell_of (i:=2) fj rfl;have n3:=cell_of (i:=3) fj rfl;have n4:=cell_of (i:=4) fj rfl;have x0:W1.cell? ⟨Y,0,none⟩=some (.slice ni g.nodes.length nc):=hr1.cell 0 rfl;have Yb:∀o:Obj,(W1.alloc o).cell? ⟨Y,0,none⟩=some (.slice ni g.nodes.length nc):=fun o=>eF o x0;have hbl:w.heap.size<W1.heap.size:=eO fj;have HYB:=a_ hr1.blk;have HR1:=a_ hr1.nodes.row;have xe:=a_ fj;have f0:=eP (i:=0) hr1.blk;clear fj hr1 wa;go_region_law
  (first|(
   refine fJ rfl (.tmp 17) (.tmp 19) 28 rfl 36 i0 _ 5 88 underlying28 hi hz0 hz1 hz2 rfl (by decide) (.slice ni g.nodes.length nc) g.nodes.length (fH av kv 0 g.nodes) (by simp[Act.eval,Act.put]) (HR1.out.drew.alloc _) ⟨W1.heap.size,0,none⟩ 1 1 (iu {n with up:=(k:Int)} (.slice ai (List.length n.b_) ac) fO) (by simp[Act.eval,Act.put]) rfl (yI _ _ _ _ _) (ED _ _ _ rfl rfl) (by unfold maxLen;omega) (by omega) ?_;intro v' w2 ho hg hat;obtain⟨uw,cap',rfl⟩:=eE ho;have hb1:=gm HYB.out hnY hg;have x0':w2.cell? ⟨Y,0,none⟩=some (.slice ni g.nodes.length nc):=cell_of hb1 rfl;have f0':=eP (i:=0) hb1;have HO:=a_ ho;have HG:=a_ hg;have tY:=a_ hat;clear ho hg hat hb1))
 all_goals
  obtain⟨p1,p2,p3⟩:=xR (n:={n with up:=(k:Int)}) H.out HM.out HA.out TN.out hn HG.out HO.out tY.out;have tV:(w2.setCell ⟨Y,0,none⟩ (.slice uw (g.nodes.length+1) cap')).heap[w.heap.size]?=some (.cells #[.string ⟨n.name.toArray⟩,.slice ai (List.length n.b_) ac,.string ⟨n.text.toArray⟩,.slice none 0 0,.int .i64 ((k:Int))] 36):=(p3 w.heap.size (ah _) hbl).trans xe.out;have z4:=cell_of (i:=4) tV rfl;have P1:=a_ p1;have P2:=a_ p2;have XX:=a_ tV;clear p1 p2 p3 tV x0' f0' n0 n1 n2 n3 n4 x0 Yb f0;go_wp2_with fail;generalize w2.setCell ⟨Y,0,none⟩ (.slice uw (g.nodes.length+1) cap')=W3 at*
  have ES:(g.nodes++[{n with up:=(k:Int)}])[k]?=some m:=by rw[aL qU];exact hm
  have tI:=P1.out.nodes.kid k m ES;obtain⟨gN,nc2,hv3,_,KH,_,_,_,m3,_⟩:=P1.out.nodes.cells k m ES;rw[fQ _ _ (by omega)]at m3 tI;obtain⟨ki,kc,yi⟩:=eE tI;rw[yi]at m3 tI;simp only[ae,ag,aq,ay]at hv3;obtain⟨hao,wJ⟩:uw=some ⟨gN,0,none⟩/\cap'=nc2:=by simpa using hv3
  subst hao;subst wJ;have y0:W3.cell? ⟨Y,0,none⟩=some (Z9 gN (g.nodes.length+1) cap'):=P1.out.cell 0 rfl;have y0a:∀o:Obj,(W3.alloc o).cell? ⟨Y,0,none⟩=some (Z9 gN (g.nodes.length+1) cap'):=fun o=>eF o y0;have z4a:∀o:Obj,(W3.alloc o).cell? ⟨w.heap.size,4,none⟩=some (.int .i64 k):=fun o=>eF o z4;have m3a:∀o:Obj,(W3.alloc o).cell? ⟨gN,k*5+3,none⟩=some (.slice ki m.kids.length kc):=fun o=>eF o m3;have Hl:(k:Int)<((g.nodes.length+1:Nat):Int):=by omega
  have adN:(k:Int)<(g.nodes.length:Int)+1:=by omega
  have hkY:(Value.slice ki m.kids.length kc).ownBlock≠some Y:=fun e=>P1.out.nK (P1.out.nodes.l7 k Y (by simp only[ae];omega) (by rw[fQ _ _ (by omega),yi];exact e)).1;have hkg:(Value.slice ki m.kids.length kc).ownBlock≠some gN:=fun e=>(P1.out.nodes.l7 k gN (by simp only[ae];omega) (by rw[fQ _ _ (by omega),yi];exact e)).2 rfl;have hkB:(Value.slice ki m.kids.length kc).ownBlock≠some w.heap.size:=fun e=>by
   have h1:=H.out.nodes.l7 k w.heap.size qU (by rw[yi];exact e);have:=H.out.lt _ h1.1;omega
  obtain⟨cur,OW⟩:=fX P1.out.nodes.row (k:=gN) rfl;have hgY:gN≠Y:=fun e=>P1.out.nK (e▸KH);have hgB:gN≠w.heap.size:=fun e=>by
   rcases tY.out with x|x
   ·exact hnB (by rw[<-x,<-e];rfl)
   ·have x':gN=W1.heap.size+1:=by simpa [Value.ownBlock]using x
    omega
  have HK3:=a_ tI;have KL:=a_ OW;have abH:=a_ P1.out.blk;have Ws:=a_ yi;have vZ:=a_ ES;clear tI OW yi ES hv3;refine wp_region_held_drew (S:=(fun W=>W.cell? ⟨Y,0,none⟩=some (Z9 gN (g.nodes.length+1) cap')/\W.cell? ⟨w.heap.size,4,none⟩=some (.int .i64 k))) (by kernel_rfl) ⟨y0,z4⟩ (fun hHeld=>?_);refine wpAnyH_take (i:=0) (v:=?_) rfl (by kernel_rfl) (by kernel_rfl) (by kernel_rfl) (fun _ _ _ h=>h) (Or.inl ⟨by rfl,?_⟩) (by assumption) ?_
  rotate_left
  ·(intro w hSw;(try dsimp only at hSw);go_simp;(try with_reducible rfl))
  (try simp only[Act.put,au,aG,aH])
  refine wpAnyH_take (i:=1) (v:=?_) rfl (by kernel_rfl) (by kernel_rfl) (by kernel_rfl) (fun _ _ _ h=>h) (Or.inl ⟨by rfl,?_⟩) (by assumption) ?_
  rotate_left
  ·(intro w hSw;(try dsimp only at hSw);go_simp;(try with_reducible rfl))
  (try simp only[Act.put,au,aG,aH])
  refine wpAnyH_take (i:=2) (v:=?_) rfl (by kernel_rfl) (by kernel_rfl) (by kernel_rfl) (fun _ _ _ h=>h) (Or.inl ⟨by rfl,?_⟩) (by assumption) ?_
  rotate_left
  ·(intro w hSw;(try dsimp only at hSw);go_simp;(try with_reducible rfl))
  (try simp only[Act.put,au,aG,aH])
  refine wpAnyH_take (i:=3) (v:=?_) rfl (by kernel_rfl) (by kernel_rfl) (by kernel_rfl) (fun _ _ _ h=>h) (Or.inl ⟨by rfl,?_⟩) (by assumption) ?_
  rotate_left
  ·(intro w hSw;(try dsimp only at hSw);go_simp;(try with_reducible rfl))
  (try simp only[Act.put,au,aG,aH])
  refine wpAnyH_take (i:=4) (v:=?_) rfl (by kernel_rfl) (by kernel_rfl) (by kernel_rfl) (fun _ _ _ h=>h) (Or.inl ⟨by rfl,?_⟩) (by assumption) ?_
  rotate_left
  ·(intro w hSw;(try dsimp only at hSw);go_simp;(try with_reducible rfl))
  (try simp only[Act.put,au,aG,aH])
  refine wpAnyH_take (i:=5) (v:=?_) rfl (by kernel_rfl) (by kernel_rfl) (by kernel_rfl) (fun _ _ _ h=>h) (Or.inl ⟨by rfl,?_⟩) (by assumption) ?_
  rotate_left
  ·(intro w hSw;(try dsimp only at hSw);go_simp;(try with_reducible rfl))
  (try simp only[Act.put,au,aG,aH])
  refine wpAnyH_take (i:=6) (v:=?_) rfl (by kernel_rfl) (by kernel_rfl) (by kernel_rfl) (fun _ _ _ h=>h) (Or.inl ⟨by rfl,?_⟩) (by assumption) ?_
  rotate_left
  ·(intro w hSw;(try dsimp only at hSw);go_simp;(try with_reducible rfl))
  (try simp only[Act.put,au,aG,aH])
  refine wpAnyH_take (i:=7) (v:=?_) rfl (by kernel_rfl) (by kernel_rfl) (by kernel_rfl) (fun _ _ _ h=>h) (Or.inl ⟨by rfl,?_⟩) (by assumption) ?_
  rotate_left
  ·(intro w hSw;(try dsimp only at hSw);go_simp;(try with_reducible rfl))
  (try simp only[Act.put,au,aG,aH])
  refine wpAnyH_take (i:=8) (v:=?_) rfl (by kernel_rfl) (by kernel_rfl) (by kernel_rfl) (fun _ _ _ h=>h) (Or.inl ⟨by rfl,?_⟩) (by assumption) ?_
  rotate_left
  ·(intro w hSw;(try dsimp only at hSw);go_simp;(try with_reducible rfl))
  (try simp only[Act.put,au,aG,aH])
  refine wpAnyH_take (i:=9) (v:=?_) rfl (by kernel_rfl) (by kernel_rfl) (by kernel_rfl) (fun _ _ _ h=>h) (Or.inl ⟨by rfl,?_⟩) (by assumption) ?_
  rotate_left
  ·(intro w hSw;(try dsimp only at hSw);go_simp;(try with_reducible rfl))
  (try simp only[Act.put,au,aG,aH])
  refine wpAnyH_take (i:=10) (v:=?_) rfl (by kernel_rfl) (by kernel_rfl) (by kernel_rfl) (fun _ _ _ h=>h) (Or.inl ⟨by rfl,?_⟩) (by assumption) ?_
  rotate_left
  ·(intro w hSw;(try dsimp only at hSw);go_simp;(try with_reducible rfl))
  (try simp only[Act.put,au,aG,aH])
  refine wpAnyH_take (i:=11) (v:=?_) rfl (by kernel_rfl) (by kernel_rfl) (by kernel_rfl) (fun _ _ _ h=>h) (Or.inl ⟨by rfl,?_⟩) (by assumption) ?_
  rotate_left
  ·(intro w hSw;(try dsimp only at hSw);go_simp;(try with_reducible rfl))
  (try simp only[Act.put,au,aG,aH])
  refine wpAnyH_take (i:=12) (v:=?_) rfl (by kernel_rfl) (by kernel_rfl) (by kernel_rfl) (fun _ _ _ h=>h) (Or.inl ⟨by rfl,?_⟩) (by assumption) ?_
  rotate_left
  ·(intro w hSw;(try dsimp only at hSw);go_simp;(try with_reducible rfl))
  (try simp only[Act.put,au,aG,aH])
  refine wpAnyH_take (i:=13) (v:=?_) rfl (by kernel_rfl) (by kernel_rfl) (by kernel_rfl) (fun _ _ _ h=>h) (Or.inl ⟨by rfl,?_⟩) (by assumption) ?_
  rotate_left
  ·(intro w hSw;(try dsimp only at hSw);go_simp;(try with_reducible rfl))
  (try simp only[Act.put,au,aG,aH])
  refine wpAnyH_take (i:=15) (v:=?_) rfl (by kernel_rfl) (by kernel_rfl) (by kernel_rfl) (fun _ _ _ h=>h) (Or.inl ⟨by rfl,?_⟩) (by assumption) ?_
  rotate_left
  ·(intro w hSw;(try dsimp only at hSw);go_simp;(try with_reducible rfl))
  (try simp only[Act.put,au,aG,aH])
  refine wpAnyH_ready (rs:=[14,16]) (by kernel_rfl) (by simp) ?_;refine AllReadyH.cons rfl (fun K hK=>?_) (AllReadyH.cons rfl (fun K hK=>?_) AllReadyH.nil)
  ·go_simp
   refine hK.out _ _ ⟨y0,z4⟩ (fun hHeld=>?_);clear hK K
   (try simp only[Act.put,au,aG,aH])
   refine wpAnyH_ready (rs:=[16]) (by kernel_rfl) (by simp) ?_;refine AllReadyH.cons rfl (fun K hK=>?_) AllReadyH.nil
   go_simp
   refine hK.out _ _ ⟨y0a _,z4a _⟩ (fun hHeld=>?_);clear hK K
   (try simp only[Act.put,au,aG,aH])
   refine wpAnyH_ready (rs:=[17]) (by kernel_rfl) (by simp) ?_;refine AllReadyH.cons rfl (fun K hK=>?_) AllReadyH.nil;refine fJ rfl (.tmp 40) (.tmp 42) 34 rfl 3 j0 _ 1 8 underlying34 hj YD YE IA rfl (by decide) (.slice ki m.kids.length kc) m.kids.length (fF m.kids) (by simp[Act.eval,Act.put]) (HK3.out.drew.alloc _) ⟨W3.heap.size,0,none⟩ 1 1 [.int .i64 g.nodes.length] (by simp[Act.eval,Act.put]) rfl (v_ _ _) (yJ _) (by unfold maxLen;omega) (by omega) ?_;intro v' w5 ho hg hat;obtain⟨ao5,acZ,rfl⟩:=eE ho;have hy5:=gm abH.out hkY hg;have ya:=gm XX.out hkB hg;have hc5:=gm KL.out hkg hg;have y0':w5.cell? ⟨Y,0,none⟩=some (Z9 gN (g.nodes.length+1) cap'):=cell_of hy5 rfl;have z4':w5.cell? ⟨w.heap.size,4,none⟩=some (.int .i64 k):=cell_of ya rfl;have y0s:∀u,(w5.setCell ⟨gN,k*5+3,none⟩ u).cell? ⟨Y,0,none⟩=some (Z9 gN (g.nodes.length+1) cap'):=fun u=>(aj (af _ _ _ _ (fun e=>hgY e.symm))).trans y0';have z4s:∀u,(w5.setCell ⟨gN,k*5+3,none⟩ u).cell? ⟨w.heap.size,4,none⟩=some (.int .i64 k):=fun u=>(aj (af _ _ _ _ (fun e=>hgB e.symm))).trans z4';have m3':w5.cell? ⟨gN,k*5+3,none⟩=some (.slice ki m.kids.length kc):=(aj (by rw[hc5,KL.out])).trans m3;have f3':=eP (i:=k*5+3) hc5;have HO5:=a_ ho;have HG5:=a_ hg;have aaw:=a_ hat;clear ho hg hat hy5 ya hc5;refine hK.out _ _ ⟨y0',z4'⟩ (fun hHeld=>?_);clear hK K
   (try simp only[Act.put,au,aG,aH])
   refine wpAnyH_take (i:=18) (v:=?_) rfl (by kernel_rfl) (by kernel_rfl) (by kernel_rfl) (fun _ _ _ h=>h) (Or.inl ⟨by rfl,?_⟩) (by assumption) ?_
   rotate_left
   ·(intro w hSw;(try dsimp only at hSw);go_simp;(try with_reducible rfl))
   (try simp only[Act.put,au,aG,aH])
   refine wpAnyH_take (i:=19) (v:=?_) rfl (by kernel_rfl) (by kernel_rfl) (by kernel_rfl) (fun _ _ _ h=>h) (Or.inl ⟨by rfl,?_⟩) (by assumption) ?_
   rotate_left
   ·(intro w hSw;(try dsimp only at hSw);go_simp;(try with_reducible rfl))
   (try simp only[Act.put,au,aG,aH])
   refine wpAnyH_ready (rs:=[20]) (by kernel_rfl) (by simp) ?_;refine AllReadyH.cons rfl (fun K hK=>?_) AllReadyH.nil
   go_simp
   refine hK.out _ _ ⟨y0s _,z4s _⟩ (fun hHeld=>?_);clear hK K
   (try simp only[Act.put,au,aG,aH])
   refine wpAnyH_done (by kernel_rfl) ?_ _;go_wp2
   (try simp only[Exit.inBlock,Exit.then])
   first
   |(refine bW (aK rfl _ _ _) rfl ?_)
   |(refine aV (aK rfl _ _ _) rfl ?_)
   obtain⟨q1,q2,q3,q4,q5,q6⟩:=Hs H.out hs hm P1.out P2.out vZ.out Ws.out HG5.out HO5.out aaw.out;first|exact⟨q1,q2,q3,q4,q5,q6⟩|exact⟨q1,⟨q2,q3,q4,q5⟩,q6⟩
  ·go_simp
   refine hK.out _ _ ⟨y0a _,z4a _⟩ (fun hHeld=>?_);clear hK K
   (try simp only[Act.put,au,aG,aH])
   refine wpAnyH_ready (rs:=[14]) (by kernel_rfl) (by simp) ?_;refine AllReadyH.cons rfl (fun K hK=>?_) AllReadyH.nil
   go_simp
   refine hK.out _ _ ⟨y0a _,z4a _⟩ (fun hHeld=>?_);clear hK K
   (try simp only[Act.put,au,aG,aH])
   refine wpAnyH_ready (rs:=[17]) (by kernel_rfl) (by simp) ?_;refine AllReadyH.cons rfl (fun K hK=>?_) AllReadyH.nil;refine fJ rfl (.tmp 40) (.tmp 42) 34 rfl 3 j0 _ 1 8 underlying34 hj YD YE IA rfl (by decide) (.slice ki m.kids.length kc) m.kids.length (fF m.kids) (by simp[Act.eval,Act.put]) (HK3.out.drew.alloc _) ⟨W3.heap.size,0,none⟩ 1 1 [.int .i64 g.nodes.length] (by simp[Act.eval,Act.put]) rfl (v_ _ _) (yJ _) (by unfold maxLen;omega) (by omega) ?_;intro v' w5 ho hg hat;obtain⟨ao5,acZ,rfl⟩:=eE ho;have hy5:=gm abH.out hkY hg;have ya:=gm XX.out hkB hg;have hc5:=gm KL.out hkg hg;have y0':w5.cell? ⟨Y,0,none⟩=some (Z9 gN (g.nodes.length+1) cap'):=cell_of hy5 rfl;have z4':w5.cell? ⟨w.heap.size,4,none⟩=some (.int .i64 k):=cell_of ya rfl;have y0s:∀u,(w5.setCell ⟨gN,k*5+3,none⟩ u).cell? ⟨Y,0,none⟩=some (Z9 gN (g.nodes.length+1) cap'):=fun u=>(aj (af _ _ _ _ (fun e=>hgY e.symm))).trans y0';have z4s:∀u,(w5.setCell ⟨gN,k*5+3,none⟩ u).cell? ⟨w.heap.size,4,none⟩=some (.int .i64 k):=fun u=>(aj (af _ _ _ _ (fun e=>hgB e.symm))).trans z4';have m3':w5.cell? ⟨gN,k*5+3,none⟩=some (.slice ki m.kids.length kc):=(aj (by rw[hc5,KL.out])).trans m3;have f3':=eP (i:=k*5+3) hc5;have HO5:=a_ ho;have HG5:=a_ hg;have aaw:=a_ hat;clear ho hg hat hy5 ya hc5;refine hK.out _ _ ⟨y0',z4'⟩ (fun hHeld=>?_);clear hK K
   (try simp only[Act.put,au,aG,aH])
   refine wpAnyH_take (i:=18) (v:=?_) rfl (by kernel_rfl) (by kernel_rfl) (by kernel_rfl) (fun _ _ _ h=>h) (Or.inl ⟨by rfl,?_⟩) (by assumption) ?_
   rotate_left
   ·(intro w hSw;(try dsimp only at hSw);go_simp;(try with_reducible rfl))
   (try simp only[Act.put,au,aG,aH])
   refine wpAnyH_take (i:=19) (v:=?_) rfl (by kernel_rfl) (by kernel_rfl) (by kernel_rfl) (fun _ _ _ h=>h) (Or.inl ⟨by rfl,?_⟩) (by assumption) ?_
   rotate_left
   ·(intro w hSw;(try dsimp only at hSw);go_simp;(try with_reducible rfl))
   (try simp only[Act.put,au,aG,aH])
   refine wpAnyH_ready (rs:=[20]) (by kernel_rfl) (by simp) ?_;refine AllReadyH.cons rfl (fun K hK=>?_) AllReadyH.nil
   go_simp
   refine hK.out _ _ ⟨y0s _,z4s _⟩ (fun hHeld=>?_);clear hK K
   (try simp only[Act.put,au,aG,aH])
   refine wpAnyH_done (by kernel_rfl) ?_ _;go_wp2
   (try simp only[Exit.inBlock,Exit.then])
   first
   |(refine bW (aK rfl _ _ _) rfl ?_)
   |(refine aV (aK rfl _ _ _) rfl ?_)
   obtain⟨q1,q2,q3,q4,q5,q6⟩:=Hs H.out hs hm P1.out P2.out vZ.out Ws.out HG5.out HO5.out aaw.out;first|exact⟨q1,q2,q3,q4,q5,q6⟩|exact⟨q1,⟨q2,q3,q4,q5⟩,q6⟩
end
section
variable{A K K':Nat->Prop}{w w' w1 w2 W1:World}{nv ov v' a:Value}{av kv:Nat->Value}{g:Gr}{Y:Nat}{er q:Int}{n:Nd}
theorem EH(h:gL A K Y w g er q nv ov av kv)(wf:g.Wf)(hk:mF g)(n:Nd)(a:Value)(z:Int)(ha:w.ownsRow 0 79 2 a n.b_.length (eG n.b_))(nS:∀k,a.ownBlock=some k->A k)(hn:n.kids=[])(hb:g.nodes.length<=17179869184):
  Z4 44 #[Z8 Y,.agg #[.string ⟨n.name.toArray⟩,a,.string ⟨n.text.toArray⟩,.slice none 0 0,.int .i64 z]] w fun en w'=>en=.returned (.tuple #[])/\∃kh j8 kA,gL A (Grow K w w') Y w' (g.put n) er q kh ov j8 kA/\Frame (fun k=>k=Y\/K k) w w':=by
 cases hs:g.stack with
 |nil=>exact O_ h hs n a z ha nS hn hb
 |cons k st=>
  obtain⟨m,hm,_,_⟩:=wf.top hs;exact Pb h k st m hs hm (ar (hk k m hm) hb) n a z ha nS hn hb
theorem xk(s:ByteArray)(w:World)(hz:s.size<=9223372036854775807):Z4 45 #[.string s] w (Z6 (.bool (s.data.toList.all fun c=>jw c.toNat)) w):=by
 go_enter func45,ntmps45;go_wp2_with fail;go_loopw [3] (fun iv wr=>∃i:Nat,iv=.int .i64 i/\i<=s.size/\wr=w/\((s.data.toList.take i).all fun c=>jw c.toNat)=true) (fun iv _=>s.size-(RowKit.intOf iv).toNat)
 case atStart=>exact⟨0,rfl,ax _,rfl,rfl⟩
 case round=>
  obtain⟨i,rfl,hi,hwr,hall⟩:=hrel;have ac0:=hwr.symm;clear hwr;subst ac0;by_cases hlt:i<s.size
  ·have hdec:decide ((i:Int)<s.size)=true:=by simp;omega
   have Hq:decide (i<s.size)=true:=by simp;omega
   have LK:(i:Int)<s.size:=by omega
   have hl:s.data.toList.length=s.size:=by simp
   have hget:s.data.toList[i]'(by omega)=s[i]:=by simp[ByteArray.getElem_eq_getElem_data]
   have hbl:=zD (s[i]).toNat (bN _) w;have Ht:s.data.toList.take (i+1)=s.data.toList.take i++[s[i]]:=by rw[<-hget];exact aN (by omega)
   cases Pc:jw (s[i]).toNat
   ·have T9:(s.data.toList.all fun c=>jw c.toNat)=false:=by
     rw[Bool.eq_false_iff];intro h;have h2:=List.all_eq_true.1 h (s[i]) (by rw[<-hget];exact bU _);rw[Pc]at h2;cases h2
    rw[Pc]at hbl;have HF:=a_ T9;have Kp:=a_ hbl;clear T9 hbl Ht hget hall;go_wp2_with fail;refine Kp.out.mono ?_;rintro e wx ⟨rfl,hwx⟩;have Xw:=hwx.symm;clear hwx;subst Xw;go_wp2;go_ret;exact⟨by rw[HF.out];rfl,rfl⟩
   ·have YG:((s.data.toList.take (i+1)).all fun c=>jw c.toNat)=true:=by
     rw[Ht,List.all_append,hall];simp[Pc]
    rw[Pc]at hbl;have HN:=a_ YG;have Kp:=a_ hbl;clear YG hbl Ht hget hall;go_wp2_with fail;refine Kp.out.mono ?_;rintro e wx ⟨rfl,hwx⟩;have Xw:=hwx.symm;clear hwx;subst Xw;go_wp2
    go_roundw
    case rel=>exact⟨i+1,by simp,by omega,by first|rfl|trivial,HN.out⟩
    case measure=>simp only[RowKit.intOf];omega
  ·have hdec:decide ((i:Int)<s.size)=false:=by simp;omega
   have Hq:decide (i<s.size)=false:=by simp;omega
   have he:i=s.size:=by omega
   have hl:s.data.toList.length=s.size:=by simp
   rw[he,<-hl,bt]at hall;have aau:=a_ hall;clear hall;go_wp2;go_ret;exact⟨by rw[aau.out];rfl,rfl⟩
end
section
variable{A K K':Nat->Prop}{w w' w1 w2 W1:World}{nv ov v' a:Value}{av kv:Nat->Value}{g:Gr}{Y:Nat}{er q:Int}{n:Nd}
structure BR(A K:Nat->Prop)(Y:Nat)(w:World)(g:Gr)(er q:Int):Prop where
 ex:∃nv ov av kv,gL A K Y w g er q nv ov av kv
 kids:mF g
 wf:g.Wf
theorem BR.keep{W:World}(h:BR A K Y w g er q)(hM:eN w W):BR A K Y W g er q:=by
 obtain⟨⟨nv,ov,av,kv,h1⟩,h3,h4⟩:=h;exact⟨⟨nv,ov,av,kv,h1.keep hM⟩,h3,h4⟩
def rY(g:Gr)(er q:Int)(t:Tok):Gr×Int×Int:=if er≠0 then(g,er,q)else if(g.take t).1≠0 then(g,(g.take t).1,t.at_)else((g.take t).2,0,q)
def Mp(A K:Nat->Prop)(Y:Nat)(w:World)(x:Gr×Int×Int)(e:Ending)(w':World):Prop:=e=.returned (.tuple #[])/\BR A (Grow K w w') Y w' x.1 x.2.1 x.2.2/\Frame (fun k=>k=Y\/K k) w w'
theorem Pd(h:gL A K Y w g er q nv ov av kv)(he:er≠0)(t:Tok)(ai:Option Addr)(an ac:Nat):
  Z4 20 #[Z8 Y,.agg #[.int .i64 t.kind,.string ⟨t.name.toArray⟩,.slice ai an ac,.string ⟨t.text.toArray⟩,.int .i64 t.at_]] w fun e w'=>e=.returned (.tuple #[])/\eN w w':=by
 have c2:∀o:Obj,(w.alloc o).cell? ⟨Y,2,none⟩=some (.int .i64 er):=fun o=>eF o (h.cell 2 rfl);have e0:(er !=0)=true:=by simpa using he
 clear h he;go_enter func20,ntmps20;go_wp2
 (try simp only[Exit.inBlock,Exit.then])
 first
 |(refine bW (aK rfl _ _ _) rfl ?_)
 |(refine aV (aK rfl _ _ _) rfl ?_)
 exact⟨rfl,(eN.refl w).alloc _⟩
theorem oN{F:Nat->Prop}(hM:eN w w1)(fr:Frame F w1 w2):Frame F w w2:=hM.frame.trans' fr
theorem KX(h:gL A K Y w g 0 q nv ov av kv)(t:Tok)(hs:g.stack=[])(hn:g.nodes≠[])(ai:Option Addr)(an ac:Nat):Z4 20 #[Z8 Y,.agg #[.int .i64 1,.string ⟨t.name.toArray⟩,.slice ai an ac,.string ⟨t.text.toArray⟩,.int .i64 t.at_]] w fun e w'=>e=.returned (.tuple #[])/\gL A K Y w' g 7 t.at_ nv ov av kv/\Frame (fun k=>k=Y) w w':=by
 obtain⟨ni,nc,qO⟩:=eE h.nodes.row;obtain⟨oi,oc,hov⟩:=eE h.opens;subst qO;subst hov;have l8:jl g.stack= -1:=by rw[hs];rfl
 have hl:decide (0<g.nodes.length)=true:=by
  cases hg:g.nodes with
  |nil=>exact absurd hg hn
  |cons a l=>simp
 clear hs hn;have oO:∀o:Obj,Z4 43 #[Z8 Y] (w.alloc o) fun en w'=>en=.returned (.int .i64 (-1))/\eN (w.alloc o) w':=fun o=>by
  have:=nE (h.keep ((eN.refl w).alloc o));rw[l8]at this;exact this
 have c2:∀o:Obj,(w.alloc o).cell? ⟨Y,2,none⟩=some (.int .i64 0):=fun o=>eF o (h.cell 2 rfl);have Ay:=a_ oO;have H:=a_ h;clear oO h l8;go_enter func20,ntmps20;go_wp2_with fail;refine(Ay.out _).mono ?_;rintro e w1 ⟨rfl,m1⟩;have hM:eN w w1:=((eN.refl w).alloc _).trans m1;have fj:w1.heap[w.heap.size]?=some (.cells #[.int .i64 1,.string ⟨t.name.toArray⟩,.slice ai an ac,.string ⟨t.text.toArray⟩,.int .i64 t.at_] 75):=(m1.keep w.heap.size (by simp)).trans (eL w _);have r1:=H.out.keep hM;have d0:w1.cell? ⟨Y,0,none⟩=some (.slice ni g.nodes.length nc):=r1.cell 0 rfl;have d1:w1.cell? ⟨Y,1,none⟩=some (.slice oi g.stack.length oc):=r1.cell 1 rfl;have b0:=cell_of (i:=0) fj rfl;have b1:=cell_of (i:=1) fj rfl;have b2:=cell_of (i:=2) fj rfl;have b3:=cell_of (i:=3) fj rfl;have b4:=cell_of (i:=4) fj rfl;have HM:=a_ hM;have xe:=a_ fj;have R1:=a_ r1;clear r1 hM fj m1;have o9:=fun e p=>iX R1.out e p;have HF:=a_ o9;clear o9;go_wp2_with(first|(go_at_call 21;refine(HF.out _ _).mono ?_;rintro e w2 ⟨rfl,r2,f2⟩;have R2:=a_ r2;have F2:=a_ f2;clear r2 f2))
 (try simp only[Exit.inBlock,Exit.then])
 first
 |(refine bW (aK rfl _ _ _) rfl ?_)
 |(refine aV (aK rfl _ _ _) rfl ?_)
 exact⟨rfl,R2.out,oN (by first|exact HM.out|exact HM.out.drewN _) F2.out⟩
theorem KY(h:gL A K Y w g 0 q nv ov av kv)(t:Tok)(k:Nat)(st:List Nat)(hs:g.stack=k::st)(hd:30<=g.stack.length)(ai:Option Addr)(an ac:Nat):Z4 20 #[Z8 Y,.agg #[.int .i64 1,.string ⟨t.name.toArray⟩,.slice ai an ac,.string ⟨t.text.toArray⟩,.int .i64 t.at_]] w fun e w'=>e=.returned (.tuple #[])/\gL A K Y w' g 8 t.at_ nv ov av kv/\Frame (fun k=>k=Y) w w':=by
 obtain⟨ni,nc,qO⟩:=eE h.nodes.row;obtain⟨oi,oc,hov⟩:=eE h.opens;subst qO;subst hov;have l8:jl g.stack=(k:Int):=by rw[hs];rfl
 have hd1:decide (30<=g.stack.length)=true:=by simp;omega
 have Fg:¬((g.stack.length:Int)<30):=by omega
 have hd3:(30:Int)<=(g.stack.length:Int):=by omega
 have xv:¬((k:Int)<0):=by omega
 clear hs hd;have oO:∀o:Obj,Z4 43 #[Z8 Y] (w.alloc o) fun en w'=>en=.returned (.int .i64 ((k:Int)))/\eN (w.alloc o) w':=fun o=>by
  have:=nE (h.keep ((eN.refl w).alloc o));rw[l8]at this;exact this
 have c2:∀o:Obj,(w.alloc o).cell? ⟨Y,2,none⟩=some (.int .i64 0):=fun o=>eF o (h.cell 2 rfl);have Ay:=a_ oO;have H:=a_ h;clear oO h l8;go_enter func20,ntmps20;go_wp2_with fail;refine(Ay.out _).mono ?_;rintro e w1 ⟨rfl,m1⟩;have hM:eN w w1:=((eN.refl w).alloc _).trans m1;have fj:w1.heap[w.heap.size]?=some (.cells #[.int .i64 1,.string ⟨t.name.toArray⟩,.slice ai an ac,.string ⟨t.text.toArray⟩,.int .i64 t.at_] 75):=(m1.keep w.heap.size (by simp)).trans (eL w _);have r1:=H.out.keep hM;have d0:w1.cell? ⟨Y,0,none⟩=some (.slice ni g.nodes.length nc):=r1.cell 0 rfl;have d1:w1.cell? ⟨Y,1,none⟩=some (.slice oi g.stack.length oc):=r1.cell 1 rfl;have b0:=cell_of (i:=0) fj rfl;have b1:=cell_of (i:=1) fj rfl;have b2:=cell_of (i:=2) fj rfl;have b3:=cell_of (i:=3) fj rfl;have b4:=cell_of (i:=4) fj rfl;have HM:=a_ hM;have xe:=a_ fj;have R1:=a_ r1;clear r1 hM fj m1;have o9:=fun e p=>iX R1.out e p;have HF:=a_ o9;clear o9;go_wp2_with(first|(go_at_call 21;refine(HF.out _ _).mono ?_;rintro e w2 ⟨rfl,r2,f2⟩;have R2:=a_ r2;have F2:=a_ f2;clear r2 f2))
 (try simp only[Exit.inBlock,Exit.then])
 first
 |(refine bW (aK rfl _ _ _) rfl ?_)
 |(refine aV (aK rfl _ _ _) rfl ?_)
 exact⟨rfl,R2.out,oN (by first|exact HM.out|exact HM.out.drewN _) F2.out⟩
theorem KZ(h:gL A K Y w g 0 q nv ov av kv)(t:Tok)(hs:g.stack=[])(ai:Option Addr)(an ac:Nat):Z4 20 #[Z8 Y,.agg #[.int .i64 2,.string ⟨t.name.toArray⟩,.slice ai an ac,.string ⟨t.text.toArray⟩,.int .i64 t.at_]] w fun e w'=>e=.returned (.tuple #[])/\gL A K Y w' g 6 t.at_ nv ov av kv/\Frame (fun k=>k=Y) w w':=by
 obtain⟨ni,nc,qO⟩:=eE h.nodes.row;obtain⟨oi,oc,hov⟩:=eE h.opens;subst qO;subst hov;have l8:jl g.stack= -1:=by rw[hs];rfl
 clear hs;have oO:∀o:Obj,Z4 43 #[Z8 Y] (w.alloc o) fun en w'=>en=.returned (.int .i64 (-1))/\eN (w.alloc o) w':=fun o=>by
  have:=nE (h.keep ((eN.refl w).alloc o));rw[l8]at this;exact this
 have c2:∀o:Obj,(w.alloc o).cell? ⟨Y,2,none⟩=some (.int .i64 0):=fun o=>eF o (h.cell 2 rfl);have Ay:=a_ oO;have H:=a_ h;clear oO h l8;go_enter func20,ntmps20;go_wp2_with fail;refine(Ay.out _).mono ?_;rintro e w1 ⟨rfl,m1⟩;have hM:eN w w1:=((eN.refl w).alloc _).trans m1;have fj:w1.heap[w.heap.size]?=some (.cells #[.int .i64 2,.string ⟨t.name.toArray⟩,.slice ai an ac,.string ⟨t.text.toArray⟩,.int .i64 t.at_] 75):=(m1.keep w.heap.size (by simp)).trans (eL w _);have r1:=H.out.keep hM;have d0:w1.cell? ⟨Y,0,none⟩=some (.slice ni g.nodes.length nc):=r1.cell 0 rfl;have d1:w1.cell? ⟨Y,1,none⟩=some (.slice oi g.stack.length oc):=r1.cell 1 rfl;have b0:=cell_of (i:=0) fj rfl;have b1:=cell_of (i:=1) fj rfl;have b2:=cell_of (i:=2) fj rfl;have b3:=cell_of (i:=3) fj rfl;have b4:=cell_of (i:=4) fj rfl;have HM:=a_ hM;have xe:=a_ fj;have R1:=a_ r1;clear r1 hM fj m1;have o9:=fun nq e p=>iX (R1.out.keep ((eN.refl w1).drewN nq)) e p;have HF:=a_ o9;clear o9;go_wp2_with fail;go_quiet(fail);go_wp2_with(first|(go_at_call 21;refine(HF.out _ _ _).mono ?_;rintro e w2 ⟨rfl,r2,f2⟩;have R2:=a_ r2;have F2:=a_ f2;clear r2 f2))
 (try simp only[Exit.inBlock,Exit.then])
 first
 |(refine bW (aK rfl _ _ _) rfl ?_)
 |(refine aV (aK rfl _ _ _) rfl ?_)
 exact⟨rfl,R2.out,oN (HM.out.drewN _) F2.out⟩
theorem Hu(h:gL A K Y w g 0 q nv ov av kv)(t:Tok)(k:Nat)(st:List Nat)(m:Nd)(hs:g.stack=k::st)(hm:g.nodes[k]?=some m)(hne:m.name≠t.name)(ai:Option Addr)(an ac:Nat):Z4 20 #[Z8 Y,.agg #[.int .i64 2,.string ⟨t.name.toArray⟩,.slice ai an ac,.string ⟨t.text.toArray⟩,.int .i64 t.at_]] w fun e w'=>e=.returned (.tuple #[])/\gL A K Y w' g 6 t.at_ nv ov av kv/\Frame (fun k=>k=Y) w w':=by
 obtain⟨gN,nc,qO,hmx,KH,m0,_⟩:=h.nodes.cells k m hm;obtain⟨oi,oc,hov⟩:=eE h.opens;subst qO;subst hov;have l8:jl g.stack=(k:Int):=by rw[hs];rfl
 have qU:k<g.nodes.length:=(List.getElem?_eq_some_iff.1 hm).1;have Hl:(k:Int)<g.nodes.length:=by omega
 have xv:¬((k:Int)<0):=by omega
 have qC:(m.name==t.name)=false:=by simpa using hne
 have Iz:gN<w.heap.size:=bE w _ m0;have M0:=a_ m0;clear hs hm hne m0;have oO:∀o:Obj,Z4 43 #[Z8 Y] (w.alloc o) fun en w'=>en=.returned (.int .i64 ((k:Int)))/\eN (w.alloc o) w':=fun o=>by
  have:=nE (h.keep ((eN.refl w).alloc o));rw[l8]at this;exact this
 have c2:∀o:Obj,(w.alloc o).cell? ⟨Y,2,none⟩=some (.int .i64 0):=fun o=>eF o (h.cell 2 rfl);have Ay:=a_ oO;have H:=a_ h;clear oO h l8;go_enter func20,ntmps20;go_wp2_with fail;refine(Ay.out _).mono ?_;rintro e w1 ⟨rfl,m1⟩;have hM:eN w w1:=((eN.refl w).alloc _).trans m1;have fj:w1.heap[w.heap.size]?=some (.cells #[.int .i64 2,.string ⟨t.name.toArray⟩,.slice ai an ac,.string ⟨t.text.toArray⟩,.int .i64 t.at_] 75):=(m1.keep w.heap.size (by simp)).trans (eL w _);have r1:=H.out.keep hM;have d0:w1.cell? ⟨Y,0,none⟩=some (Z9 gN g.nodes.length nc):=r1.cell 0 rfl;have d1:w1.cell? ⟨Y,1,none⟩=some (.slice oi g.stack.length oc):=r1.cell 1 rfl;have b0:=cell_of (i:=0) fj rfl;have b1:=cell_of (i:=1) fj rfl;have b2:=cell_of (i:=2) fj rfl;have b3:=cell_of (i:=3) fj rfl;have b4:=cell_of (i:=4) fj rfl;have HM:=a_ hM;have xe:=a_ fj;have R1:=a_ r1;clear r1 hM fj m1;have e0:w1.cell? ⟨gN,k*5,none⟩=some (.string ⟨m.name.toArray⟩):=(aj (HM.out.keep gN Iz)).trans M0.out;have o9:=fun nq e p=>iX (R1.out.keep ((eN.refl w1).drewN nq)) e p;have HF:=a_ o9;clear o9;go_wp2_with fail;go_quiet(fail);go_wp2_with(first|(go_at_call 21;refine(HF.out _ _ _).mono ?_;rintro e w2 ⟨rfl,r2,f2⟩;have R2:=a_ r2;have F2:=a_ f2;clear r2 f2))
 (try simp only[Exit.inBlock,Exit.then])
 first
 |(refine bW (aK rfl _ _ _) rfl ?_)
 |(refine aV (aK rfl _ _ _) rfl ?_)
 exact⟨rfl,R2.out,oN (HM.out.drewN _) F2.out⟩
theorem yt(h:gL A K Y w g 0 q nv ov av kv)(t:Tok)(lI:t.kind≠1)(hk2:t.kind≠2)(hs:g.stack=[])(hbl:gG t.text=true)(hz:t.text.length<=9223372036854775807)(ai:Option Addr)(an ac:Nat):Z4 20 #[Z8 Y,.agg #[.int .i64 t.kind,.string ⟨t.name.toArray⟩,.slice ai an ac,.string ⟨t.text.toArray⟩,.int .i64 t.at_]] w fun e w'=>e=.returned (.tuple #[])/\eN w w':=by
 obtain⟨ni,nc,qO⟩:=eE h.nodes.row;obtain⟨oi,oc,hov⟩:=eE h.opens;subst qO;subst hov;have l8:jl g.stack= -1:=by rw[hs];rfl
 have Pc:∀W,Z4 45 #[.string ⟨t.text.toArray⟩] W (Z6 (.bool true) W):=fun W=>by
  have h1:=xk ⟨t.text.toArray⟩ W (by simpa [ByteArray.size]using hz);have h2:((⟨t.text.toArray⟩:ByteArray).data.toList.all fun c=>jw c.toNat)=true:=by
   have h3:(⟨t.text.toArray⟩:ByteArray).data.toList=t.text:=by simp
   rw[h3];unfold gG at hbl;simpa using hbl
  rw[h2]at h1;exact h1
 have HBV:=a_ Pc;have e1:(t.kind==1)=false:=by simpa using lI
 have e2:(t.kind==2)=false:=by simpa using hk2
 clear hs hbl Pc lI hk2 hz;have oO:∀o:Obj,Z4 43 #[Z8 Y] (w.alloc o) fun en w'=>en=.returned (.int .i64 (-1))/\eN (w.alloc o) w':=fun o=>by
  have:=nE (h.keep ((eN.refl w).alloc o));rw[l8]at this;exact this
 have c2:∀o:Obj,(w.alloc o).cell? ⟨Y,2,none⟩=some (.int .i64 0):=fun o=>eF o (h.cell 2 rfl);have Ay:=a_ oO;have H:=a_ h;clear oO h l8;go_enter func20,ntmps20;go_wp2_with fail;refine(Ay.out _).mono ?_;rintro e w1 ⟨rfl,m1⟩;have hM:eN w w1:=((eN.refl w).alloc _).trans m1;have fj:w1.heap[w.heap.size]?=some (.cells #[.int .i64 t.kind,.string ⟨t.name.toArray⟩,.slice ai an ac,.string ⟨t.text.toArray⟩,.int .i64 t.at_] 75):=(m1.keep w.heap.size (by simp)).trans (eL w _);have r1:=H.out.keep hM;have d0:w1.cell? ⟨Y,0,none⟩=some (.slice ni g.nodes.length nc):=r1.cell 0 rfl;have d1:w1.cell? ⟨Y,1,none⟩=some (.slice oi g.stack.length oc):=r1.cell 1 rfl;have b0:=cell_of (i:=0) fj rfl;have b1:=cell_of (i:=1) fj rfl;have b2:=cell_of (i:=2) fj rfl;have b3:=cell_of (i:=3) fj rfl;have b4:=cell_of (i:=4) fj rfl;have HM:=a_ hM;have xe:=a_ fj;have R1:=a_ r1;clear r1 hM fj m1;go_wp2_with(first|(go_at_call 45;refine(HBV.out _).mono ?_;rintro e wx ⟨rfl,hwx⟩;have Xw:=hwx.symm;clear hwx;subst Xw))
 (try simp only[Exit.inBlock,Exit.then])
 first
 |(refine bW (aK rfl _ _ _) rfl ?_)
 |(refine aV (aK rfl _ _ _) rfl ?_)
 exact⟨rfl,HM.out⟩
theorem Bv(h:gL A K Y w g 0 q nv ov av kv)(t:Tok)(lI:t.kind≠1)(hk2:t.kind≠2)(hs:g.stack=[])(hbl:¬gG t.text=true)(hz:t.text.length<=9223372036854775807)(ai:Option Addr)(an ac:Nat):Z4 20 #[Z8 Y,.agg #[.int .i64 t.kind,.string ⟨t.name.toArray⟩,.slice ai an ac,.string ⟨t.text.toArray⟩,.int .i64 t.at_]] w fun e w'=>e=.returned (.tuple #[])/\gL A K Y w' g 7 t.at_ nv ov av kv/\Frame (fun k=>k=Y) w w':=by
 obtain⟨ni,nc,qO⟩:=eE h.nodes.row;obtain⟨oi,oc,hov⟩:=eE h.opens;subst qO;subst hov;have l8:jl g.stack= -1:=by rw[hs];rfl
 have Pc:∀W,Z4 45 #[.string ⟨t.text.toArray⟩] W (Z6 (.bool false) W):=fun W=>by
  have h1:=xk ⟨t.text.toArray⟩ W (by simpa [ByteArray.size]using hz);have h2:((⟨t.text.toArray⟩:ByteArray).data.toList.all fun c=>jw c.toNat)=false:=by
   have h3:(⟨t.text.toArray⟩:ByteArray).data.toList=t.text:=by simp
   rw[h3];unfold gG at hbl;simpa using hbl
  rw[h2]at h1;exact h1
 have HBV:=a_ Pc;have e1:(t.kind==1)=false:=by simpa using lI
 have e2:(t.kind==2)=false:=by simpa using hk2
 clear hs hbl Pc lI hk2 hz;have oO:∀o:Obj,Z4 43 #[Z8 Y] (w.alloc o) fun en w'=>en=.returned (.int .i64 (-1))/\eN (w.alloc o) w':=fun o=>by
  have:=nE (h.keep ((eN.refl w).alloc o));rw[l8]at this;exact this
 have c2:∀o:Obj,(w.alloc o).cell? ⟨Y,2,none⟩=some (.int .i64 0):=fun o=>eF o (h.cell 2 rfl);have Ay:=a_ oO;have H:=a_ h;clear oO h l8;go_enter func20,ntmps20;go_wp2_with fail;refine(Ay.out _).mono ?_;rintro e w1 ⟨rfl,m1⟩;have hM:eN w w1:=((eN.refl w).alloc _).trans m1;have fj:w1.heap[w.heap.size]?=some (.cells #[.int .i64 t.kind,.string ⟨t.name.toArray⟩,.slice ai an ac,.string ⟨t.text.toArray⟩,.int .i64 t.at_] 75):=(m1.keep w.heap.size (by simp)).trans (eL w _);have r1:=H.out.keep hM;have d0:w1.cell? ⟨Y,0,none⟩=some (.slice ni g.nodes.length nc):=r1.cell 0 rfl;have d1:w1.cell? ⟨Y,1,none⟩=some (.slice oi g.stack.length oc):=r1.cell 1 rfl;have b0:=cell_of (i:=0) fj rfl;have b1:=cell_of (i:=1) fj rfl;have b2:=cell_of (i:=2) fj rfl;have b3:=cell_of (i:=3) fj rfl;have b4:=cell_of (i:=4) fj rfl;have HM:=a_ hM;have xe:=a_ fj;have R1:=a_ r1;clear r1 hM fj m1;have o9:=fun e p=>iX R1.out e p;have HF:=a_ o9;clear o9;go_wp2_with(first|(go_at_call 21;refine(HF.out _ _).mono ?_;rintro e w2 ⟨rfl,r2,f2⟩;have R2:=a_ r2;have F2:=a_ f2;clear r2 f2)|(go_at_call 45;refine(HBV.out _).mono ?_;rintro e wx ⟨rfl,hwx⟩;have Xw:=hwx.symm;clear hwx;subst Xw))
 (try simp only[Exit.inBlock,Exit.then])
 first
 |(refine bW (aK rfl _ _ _) rfl ?_)
 |(refine aV (aK rfl _ _ _) rfl ?_)
 exact⟨rfl,R2.out,oN (by first|exact HM.out|exact HM.out.drewN _) F2.out⟩
end
section
variable{A K K':Nat->Prop}{w w' w1 w2 W1:World}{nv ov v' a:Value}{av kv:Nat->Value}{g:Gr}{Y:Nat}{er q:Int}{n:Nd}
theorem gL.lift{g':Gr}{kh mG:Value}{j8 kA:Nat->Value}{er' q':Int}(h:gL A K Y w g er q nv ov av kv)(hM:eN w w1)(r:gL A (Grow K w1 w2) Y w2 g' er' q' kh mG j8 kA)(fr:Frame (fun k=>k=Y\/K k) w1 w2):
  gL A (Grow K w w2) Y w2 g' er' q' kh mG j8 kA/\Frame (fun k=>k=Y\/K k) w w2:=by
 have hz:=hM.size;have hz2:=fr.size;have yr:=eO h.blk;refine⟨r.Hr (fun k hk x=>?_) ?_ ?_ (i_ h.lt (by omega)),hM.frame.trans' fr⟩
 ·rcases x with x|x
  ·exact Or.inl x
  ·exact Or.inr ⟨by omega,hk⟩
 ·rintro(x|x)
  ·exact h.nK x
  ·omega
 ·rintro k hA (x|x)
  ·exact h.sZ k hA x
  ·have:=h.tH k hA;omega
theorem T_(h:gL A K Y w g 0 q nv ov av kv)(wf:g.Wf)(Qb:mF g)(hb:g.nodes.length<=17179869184)(t:Tok)(lI:t.kind≠1)(hk2:t.kind≠2)(k:Nat)(st:List Nat)(hs:g.stack=k::st)(hz:t.text.length<=9223372036854775807)(ai:Option Addr)(an ac:Nat):
  Z4 20 #[Z8 Y,.agg #[.int .i64 t.kind,.string ⟨t.name.toArray⟩,.slice ai an ac,.string ⟨t.text.toArray⟩,.int .i64 t.at_]] w fun e w'=>e=.returned (.tuple #[])/\∃kh j8 kA,gL A (Grow K w w') Y w' (g.put (jD t)) 0 q kh ov j8 kA/\Frame (fun k=>k=Y\/K k) w w':=by
 have l8:jl g.stack=(k:Int):=by rw[hs];rfl
 have oO:∀o:Obj,Z4 43 #[Z8 Y] (w.alloc o) fun en w'=>en=.returned (.int .i64 (k:Int))/\eN (w.alloc o) w':=fun o=>by
  have:=nE (h.keep ((eN.refl w).alloc o));rw[l8]at this;exact this
 have Pc:∀W,∃bb,Z4 45 #[.string ⟨t.text.toArray⟩] W (Z6 (.bool bb) W):=fun W=>⟨_,xk ⟨t.text.toArray⟩ W (by simpa [ByteArray.size]using hz)⟩
 have c2:∀o:Obj,(w.alloc o).cell? ⟨Y,2,none⟩=some (.int .i64 0):=fun o=>eF o (h.cell 2 rfl);have e1:(t.kind==1)=false:=by simpa using lI
 have e2:(t.kind==2)=false:=by simpa using hk2
 have xv:¬((k:Int)<0):=by omega
 have Ay:=a_ oO;have HBV:=a_ Pc;have HWF:=a_ wf;have HKD:=a_ Qb;have H:=a_ h;clear oO h l8 Pc lI hk2 hs wf Qb;go_enter func20,ntmps20;go_wp2_with fail;refine(Ay.out _).mono ?_;rintro e w1 ⟨rfl,m1⟩;have hM:eN w w1:=((eN.refl w).alloc _).trans m1;have fj:w1.heap[w.heap.size]?=some (.cells #[.int .i64 t.kind,.string ⟨t.name.toArray⟩,.slice ai an ac,.string ⟨t.text.toArray⟩,.int .i64 t.at_] 75):=(m1.keep w.heap.size (by simp)).trans (eL w _);have b0:=cell_of (i:=0) fj rfl;have b3:=cell_of (i:=3) fj rfl;have hput:=EH (H.out.keep hM) HWF.out HKD.out (jD t) (.slice none 0 0) 0 ⟨rfl,Or.inl ⟨rfl,rfl⟩⟩ (fun k e=>by cases e) rfl hb;obtain⟨bb,hbl⟩:=HBV.out w1;have HP:=a_ hput;have HM:=a_ hM;have Kp:=a_ hbl;clear hM fj m1 hput hbl;cases bb;all_goals
  go_wp2_with(first|(go_at_call 45;refine Kp.out.mono ?_;rintro e wx ⟨rfl,hwx⟩;have Xw:=hwx.symm;clear hwx;subst Xw)|(go_at_call 44;refine HP.out.mono ?_;rintro e w2 ⟨rfl,kh,j8,kA,r2,f2⟩;have R2:=a_ r2;have F2:=a_ f2;clear r2 f2))
  (try simp only[Exit.inBlock,Exit.then])
  first
  |(refine bW (aK rfl _ _ _) rfl ?_)
  |(refine aV (aK rfl _ _ _) rfl ?_)
  obtain⟨q1,q2⟩:=H.out.lift HM.out R2.out F2.out;first|exact⟨rfl,kh,j8,kA,q1,q2⟩|exact⟨rfl,⟨kh,j8,kA,q1⟩,q2⟩
theorem Ua{gO n c:Nat}{xs:List Value}(h:w.ownsRow 0 3 1 (Z9 gO (n+1) c) (n+1) xs):w.ownsRow 0 3 1 (Z9 gO n c) n (xs.take n):=by
 rcases h.2 with⟨e,_⟩|⟨g',c',cur,e,h0,hg,h1,h2,h3,h4⟩
 ·cases e
 ·cases e;refine⟨?_,Or.inr ⟨gO,c,cur,rfl,h0,hg,by omega,h2,h3,?_⟩⟩
  ·have:=h.1;rw[bP];omega
  ·rw[<-h4,eh];congr 1;omega
theorem gL.aax(h:gL A K Y w g er q nv ov av kv)(mG:Value)(st:List Nat)(ho:w.ownsRow 0 3 1 mG st.length (fF st.reverse))(hK:∀k,mG.ownBlock=some k->K k/\nv.ownBlock≠some k/\∀i,i<g.nodes.length->(kv i).ownBlock≠some k):
  gL A K Y (w.setCell ⟨Y,1,none⟩ mG) ⟨g.nodes,st⟩ er q nv mG av kv/\Frame (fun k=>k=Y) w (w.setCell ⟨Y,1,none⟩ mG):=by
 have keep:∀b,b≠Y->(w.setCell ⟨Y,1,none⟩ mG).heap[b]?=w.heap[b]?:=fun b hb=>af _ _ _ _ hb;have hz:(w.setCell ⟨Y,1,none⟩ mG).heap.size=w.heap.size:=by simp[World.setCell]
 refine⟨⟨?_,h.nodes.frame (fun b _ hA=>keep b (fun e=>h.nA (by rw[<-e];exact hA))) (fun b _ hK=>keep b (fun e=>h.nK (by rw[<-e];exact hK))) (fun _ _ x=>x),eI ho fun k e=>keep k (fun x=>h.nK (by rw[<-x];exact(hK k e).1)),hK,h.nA,h.nK,h.sZ,fun b hb=>by rw[hz];exact h.lt b hb,fun b hb=>by rw[hz];exact h.tH b hb⟩,⟨rfl,rfl,rfl,by rw[hz];exact ah _,fun b _ hb=>keep b hb⟩⟩;rw[eV h.blk];rfl
theorem Pe(L M cO:Nat)(hM:L+1=M)(hc:L+1<=cO)(hm:(L:Int)+1<=9223372036854775807):IntKind.i64.wrap ((M:Int)-1)=(L:Int)/\wrap64 (L:Int)=(L:Int)/\(L:Int)<=cO/\L<=cO:=by refine⟨by rw[aD];omega,by unfold wrap64;omega,by omega,by omega⟩
theorem K0(h:gL A K Y w g 0 q nv ov av kv)(t:Tok)(k:Nat)(st:List Nat)(m:Nd)(hs:g.stack=k::st)(hm:g.nodes[k]?=some m)(hne:m.name=t.name)(ai:Option Addr)(an ac:Nat):
  Z4 20 #[Z8 Y,.agg #[.int .i64 2,.string ⟨t.name.toArray⟩,.slice ai an ac,.string ⟨t.text.toArray⟩,.int .i64 t.at_]] w fun e w'=>e=.returned (.tuple #[])/\∃mG,gL A K Y w' ⟨g.nodes,st⟩ 0 q nv mG av kv/\Frame (fun k=>k=Y) w w':=by
 obtain⟨gN,nc,qO,hmx,KH,m0,_⟩:=h.nodes.cells k m hm;obtain⟨gO,cO,hov,_,Cm⟩:=h.top hs;have hop:=h.opens;rw[hs,hov]at hop;have abI:=Ua hop;have Jo:st.length+1<=cO:=by
  rcases hop.2 with⟨e,_⟩|⟨g',c',cur,e,h0,hg,h1,h2,h3,h4⟩
  ·cases e
  ·cases e;exact h1
 subst qO;have l8:jl g.stack=(k:Int):=by rw[hs];rfl
 have qU:k<g.nodes.length:=(List.getElem?_eq_some_iff.1 hm).1;have Hl:(k:Int)<g.nodes.length:=by omega
 have xv:¬((k:Int)<0):=by omega
 have adO:decide ((k:Int)<0)=false:=by simp
 have qC:(m.name==t.name)=true:=by simpa using hne
 have Iz:gN<w.heap.size:=bE w _ m0;have oO:∀o:Obj,Z4 43 #[Z8 Y] (w.alloc o) fun en w'=>en=.returned (.int .i64 (k:Int))/\eN (w.alloc o) w':=fun o=>by
  have:=nE (h.keep ((eN.refl w).alloc o));rw[l8]at this;exact this
 have c2:∀o:Obj,(w.alloc o).cell? ⟨Y,2,none⟩=some (.int .i64 0):=fun o=>eF o (h.cell 2 rfl);have YB:(st.length:Int)+1<=9223372036854775807:=by have:maxLen=9223372036854775807:=rfl;omega
 have Ay:=a_ oO;have H:=a_ h;have M0:=a_ m0;have HOV:=a_ hov;clear oO h l8 m0 hne hm hov hop;go_enter func20,ntmps20;go_wp2_with fail;refine(Ay.out _).mono ?_;rintro e w1 ⟨rfl,m1⟩;have hM:eN w w1:=((eN.refl w).alloc _).trans m1;have fj:w1.heap[w.heap.size]?=some (.cells #[.int .i64 2,.string ⟨t.name.toArray⟩,.slice ai an ac,.string ⟨t.text.toArray⟩,.int .i64 t.at_] 75):=(m1.keep w.heap.size (by simp)).trans (eL w _);have r1:=H.out.keep hM;have d0:w1.cell? ⟨Y,0,none⟩=some (Z9 gN g.nodes.length nc):=r1.cell 0 rfl;have d1:w1.cell? ⟨Y,1,none⟩=some (Z9 gO (st.length+1) cO):=by rw[<-HOV.out];exact r1.cell 1 rfl
 have b0:=cell_of (i:=0) fj rfl;have b1:=cell_of (i:=1) fj rfl;have e0:w1.cell? ⟨gN,k*5,none⟩=some (.string ⟨m.name.toArray⟩):=(aj (hM.keep gN Iz)).trans M0.out;have f1:=eP (i:=1) r1.blk;generalize Xx:st.length+1=M at d1;obtain⟨hw,Xv,hLc,hLn⟩:=Pe st.length M cO Xx Jo YB;have vZ:=a_ Xx;have HOP:=a_ abI;have adP:=a_ Jo;have HM:=a_ hM;have xe:=a_ fj;have R1:=a_ r1;clear r1 hM fj m1 Xx abI Jo;generalize hLL:st.length=L at hw Xv hLc hLn;have HLL:=a_ hLL;clear hLL;go_wp2_with fail;go_quiet(fail);go_wp2_with fail;obtain⟨W2,hW2⟩:∃W,w1.drewN nq=W:=⟨_,rfl⟩
 rw[hW2];have xQ:eN w1 W2:=by rw[<-hW2];exact(eN.refl w1).drewN _
 have r2:=R1.out.keep xQ;have g1:W2.cell? ⟨Y,1,none⟩=some (Z9 gO M cO):=by rw[<-hW2];exact d1
 have f1':=eP (i:=1) r2.blk;have R2:=a_ r2;have HM2:=a_ xQ;clear r2 xQ hW2 d0 d1 e0 b0 b1 f1;go_region_law (fail);all_goals
  go_wp2
  (try simp only[Exit.inBlock,Exit.then])
  first
  |(refine bW (aK rfl _ _ _) rfl ?_)
  |(refine aV (aK rfl _ _ _) rfl ?_)
  have hL:=HLL.out;subst hL;have kE:(fF (k::st).reverse).take st.length=fF st.reverse:=by
   rw[ew];unfold fF;rw[bp,dy (by simp),bM (by simp)]
  have abJ:eN w W2:=HM.out.trans HM2.out;have ac1:W2.ownsRow 0 3 1 (Z9 gO st.length cO) st.length (fF st.reverse):=by
   rw[<-kE];exact eI HOP.out fun b e=>abJ.keep b (eU HOP.out e)
  obtain⟨s1,s2⟩:=R2.out.aax (Z9 gO st.length cO) st ac1 (fun b e=>H.out.jM b (by rw[HOV.out];exact e));have hD:eN (W2.setCell ⟨Y,1,none⟩ (Z9 gO st.length cO)) (W2.setCell ⟨Y,1,none⟩ (Z9 gO st.length cO)).drew:=(eN.refl _).drewN 1;exact⟨rfl,_,s1.keep hD,(abJ.frame.trans' s2).trans' hD.frame⟩
end
section
variable{A K K':Nat->Prop}{w w' w1 w2 w3 W1:World}{nv ov v' a:Value}{av kv:Nat->Value}{g:Gr}{Y:Nat}{er q:Int}{n:Nd}
theorem CM(l:Nat)(M:Nat)(hM:M=l+1)(hb:l<=17179869184):IntKind.i64.wrap ((M:Int)-1)=(l:Int)/\wrap64 (l:Int)=(l:Int):=by refine⟨by rw[aD];omega,by unfold wrap64;omega⟩
theorem xS{o:Obj}{k:Nat}(h:gL A K Y w g er q nv ov av kv)(hg:(w.drew.alloc o).grownBy w2 ov.ownBlock)(ho:w2.ownsRow 0 3 1 v' (g.stack.length+1) (fF g.stack.reverse++[.int .i64 k]))(hat:v'.ownBlock=ov.ownBlock\/v'.ownBlock=some (w.drew.alloc o).heap.size):
  gL A (Grow K w (w2.setCell ⟨Y,1,none⟩ v')) Y (w2.setCell ⟨Y,1,none⟩ v') ⟨g.nodes,k::g.stack⟩ er q nv v' av kv/\Frame (fun k=>k=Y\/K k) w (w2.setCell ⟨Y,1,none⟩ v'):=by
 have yr:=eO h.blk;have hM:eN w (w.drew.alloc o):=((eN.refl w).drewN 1).alloc o;have hz:(w.drew.alloc o).heap.size=w.heap.size+1:=by simp
 have hgs:=hg.size;have hoY:ov.ownBlock≠some Y:=fun e=>h.nK (h.jM Y e).1
 --all but the row of open elements is kept
 have keep:∀b,b<w.heap.size->ov.ownBlock≠some b->w2.heap[b]?=w.heap[b]?:=fun b hb hne=>(hg.block b (by omega) (fun e=>hne e.symm)).trans (hM.keep b hb);have hvb:∀b,v'.ownBlock=some b->(K b\/b=w.heap.size+1)/\nv.ownBlock≠some b/\∀i,i<g.nodes.length->(kv i).ownBlock≠some b:=by
  intro b e;rcases hat with e2|e2
  ·rw[e2]at e;exact⟨Or.inl (h.jM b e).1,(h.jM b e).2⟩
  ·rw[e2]at e;have eb:b=w.heap.size+1:=by simp only[aJ]at e;omega
   refine⟨Or.inr eb,fun x=>?_,fun i hi x=>?_⟩
   ·have:=h.lt b (h.nodes.nR b x);omega
   ·have:=h.lt b (h.nodes.l7 i b hi x).1;omega
 have h2:gL A (Grow K w w2) Y w2 ⟨g.nodes,k::g.stack⟩ er q nv v' av kv->True:=fun _=>trivial;have tK:f_ 36 79 A (Grow K w w2) w2 nv g.nodes av kv:=by
  have row:w2.ownsRow 0 36 5 nv g.nodes.length (fH av kv 0 g.nodes):=eI h.nodes.row fun b e=>keep b (eU h.nodes.row e) (fun x=>(h.jM b x).2.1 e);refine⟨row,fun b e=>Or.inl (h.nodes.nR b e),fun i m hi=>eI (h.nodes.attr i m hi) fun b e=>keep b (eU (h.nodes.attr i m hi) e) (fun x=>h.sZ b (h.nodes.qN i b (List.getElem?_eq_some_iff.1 hi).1 e) (h.jM b x).1),h.nodes.qN,
   fun i m hi=>eI (h.nodes.kid i m hi) fun b e=>keep b (eU (h.nodes.kid i m hi) e) (fun x=>(h.jM b x).2.2 i (List.getElem?_eq_some_iff.1 hi).1 e),fun i b hi e=>⟨Or.inl (h.nodes.l7 i b hi e).1,(h.nodes.l7 i b hi e).2⟩,h.nodes.apart,h.nodes.KG⟩
 have rC:∀b,b≠Y->(w2.setCell ⟨Y,1,none⟩ v').heap[b]?=w2.heap[b]?:=fun b hb=>af _ _ _ _ hb;have hzz:(w2.setCell ⟨Y,1,none⟩ v').heap.size=w2.heap.size:=by simp[World.setCell]
 have ac2:¬Grow K w w2 Y:=by
  rintro(x|x)
  ·exact h.nK x
  ·omega
 have hKK:∀b,Grow K w w2 b->Grow K w (w2.setCell ⟨Y,1,none⟩ v') b:=fun b x=>x.elim Or.inl (fun y=>Or.inr ⟨y.1,by rw[hzz];exact y.2⟩);refine⟨⟨?_,tK.frame (fun b _ x=>rC b (fun e=>h.nA (by rw[<-e];exact x))) (fun b _ x=>rC b (fun e=>ac2 (by rw[<-e];exact x))) (fun b _ x=>hKK b x),?_,?_,h.nA,?_,?_,?_,fun b x=>by have:=h.tH b x;omega⟩,⟨hg.os.trans hM.os,hg.tape.trans hM.tape,hg.output.trans hM.output,by omega,fun b hb hf=>?_⟩⟩
 ·rw[eV ((keep Y yr hoY).trans h.blk)];rfl
 ·have e1:fF (k::g.stack).reverse=fF g.stack.reverse++[.int .i64 k]:=by simp[fF]
  rw[e1];refine eI ho fun b e=>rC b (fun x=>?_);rcases(hvb b e).1 with y|y
  ·exact h.nK (by rw[<-x];exact y)
  ·omega
 ·intro b e;refine⟨?_,(hvb b e).2⟩;rcases(hvb b e).1 with y|y
  ·exact Or.inl y
  ·refine Or.inr ⟨by omega,?_⟩;have:=eU ho e;omega
 ·rintro(x|x)
  ·exact h.nK x
  ·omega
 ·rintro b hA (x|x)
  ·exact h.sZ b hA x
  ·have:=h.tH b hA;omega
 ·rintro b (x|x)
  ·have:=h.lt b x;omega
  ·exact x.2
 ·rw[rC b (fun e=>hf (Or.inl e))];exact keep b hb (fun e=>hf (Or.inr (h.jM b e).1))
theorem Hv(h:gL A K Y w g 0 q nv ov av kv)(wf:g.Wf)(Qb:mF g)(hb:g.nodes.length<=17179869184)(t:Tok)(va:Value)(ha:w.ownsRow 0 79 2 va t.b_.length (eG t.b_))(nS:∀k,va.ownBlock=some k->A k)(hs:g.stack=[])(hn:g.nodes=[])(hd:g.stack.length<30):
  Z4 20 #[Z8 Y,.agg #[.int .i64 1,.string ⟨t.name.toArray⟩,va,.string ⟨t.text.toArray⟩,.int .i64 t.at_]] w fun e w'=>e=.returned (.tuple #[])/\∃kh mG j8 kA,gL A (Grow K w w') Y w' { (g.put (elemOf t))with stack:=g.nodes.length::g.stack} 0 q kh mG j8 kA/\Frame (fun k=>k=Y\/K k) w w':=by
 obtain⟨ai,ac,oF⟩:=eE ha;obtain⟨ni,nc,qO⟩:=eE h.nodes.row;obtain⟨oi,oc,hov⟩:=eE h.opens;subst oF;subst qO;subst hov;have l8:jl g.stack= -1:=by rw[hs];rfl
 have hl0:decide (0<g.nodes.length)=false:=by rw[hn];rfl
 clear hn hs;have oO:∀o:Obj,Z4 43 #[Z8 Y] (w.alloc o) fun en w'=>en=.returned (.int .i64 (-1))/\eN (w.alloc o) w':=fun o=>by
  have:=nE (h.keep ((eN.refl w).alloc o));rw[l8]at this;exact this
 have c2:∀o:Obj,(w.alloc o).cell? ⟨Y,2,none⟩=some (.int .i64 0):=fun o=>eF o (h.cell 2 rfl);have hd1:decide (30<=g.stack.length)=false:=by simp;omega
 have Fg:(g.stack.length:Int)<30:=by omega
 obtain⟨j0,hj,YD,YE,IA⟩:=bk zn;have Ay:=a_ oO;have HWF:=a_ wf;have HKD:=a_ Qb;have HA:=a_ ha;have TN:=a_ nS;have H:=a_ h;clear oO h l8 wf Qb ha nS;go_enter func20,ntmps20;go_wp2_with fail;refine(Ay.out _).mono ?_;rintro e w1 ⟨rfl,m1⟩;have hM:eN w w1:=((eN.refl w).alloc _).trans m1;have fj:w1.heap[w.heap.size]?=some (.cells #[.int .i64 1,.string ⟨t.name.toArray⟩,.slice ai (List.length t.b_) ac,.string ⟨t.text.toArray⟩,.int .i64 t.at_] 75):=(m1.keep w.heap.size (by simp)).trans (eL w _);have r1:=H.out.keep hM;have d0:w1.cell? ⟨Y,0,none⟩=some (.slice ni g.nodes.length nc):=r1.cell 0 rfl;have d1:w1.cell? ⟨Y,1,none⟩=some (.slice oi g.stack.length oc):=r1.cell 1 rfl;have b0:=cell_of (i:=0) fj rfl;have b1:=cell_of (i:=1) fj rfl;have b2:=cell_of (i:=2) fj rfl;have hput:=EH r1 HWF.out HKD.out (elemOf t) (.slice ai (List.length t.b_) ac) 0 (eI HA.out fun b e=>hM.keep b (eU HA.out e)) TN.out rfl hb;have HP:=a_ hput;have HM:=a_ hM;clear r1 hM fj m1 hput;go_wp2_with(first|(go_at_call 44;refine HP.out.mono ?_;rintro e w2 ⟨rfl,nv2,av2,kv2,r2,f2⟩;obtain⟨n2,U1,aay⟩:=eE r2.nodes.row;subst aay;have y0:=r2.cell 0 rfl;have y1:=r2.cell 1 rfl;have R2:=a_ r2;have F2:=a_ f2;clear r2 f2 d0 d1 b0 b1 b2));have hst:(g.put (elemOf t)).stack=g.stack:=od _ _;obtain⟨hw,Xv⟩:=CM g.nodes.length (g.put (elemOf t)).nodes.length (lh _ _) hb;have hop:=R2.out.opens;rw[hst]at hop;have HOP:=a_ hop;have HYB:=a_ R2.out.blk;have hoY:(Value.slice oi g.stack.length oc).ownBlock≠some Y:=fun e=>R2.out.nK (R2.out.jM Y e).1;have y0a:∀o:Obj,(w2.alloc o).cell? ⟨Y,0,none⟩=some (.slice n2 (g.put (elemOf t)).nodes.length U1):=fun o=>eF o y0;have y1a:∀o:Obj,(w2.alloc o).cell? ⟨Y,1,none⟩=some (.slice oi g.stack.length oc):=fun o=>eF o y1;have f1:=eP (i:=1) R2.out.blk;have HST:=a_ hst;clear hop hst c2;generalize Xx:(g.put (elemOf t)).nodes.length=M at*
 have vZ:=a_ Xx;clear Xx;go_region_law
  (first|(
   refine fJ rfl (.tmp 74) (.tmp 81) 34 rfl 3 j0 _ 1 8 underlying34 hj YD YE IA rfl (by decide) (.slice oi g.stack.length oc) g.stack.length (fF g.stack.reverse) (by simp[Act.eval,Act.put]) (HOP.out.drew.alloc _) ⟨w2.heap.size,0,none⟩ 1 1 [.int .i64 g.nodes.length] (by simp[Act.eval,Act.put]) rfl (v_ _ _) (yJ _) (by unfold maxLen;omega) (by omega) ?_;intro v' w3 ho hg hat;obtain⟨Xy,EI,rfl⟩:=eE ho;have hy3:=gm HYB.out hoY hg;have y1':w3.cell? ⟨Y,1,none⟩=some (.slice oi g.stack.length oc):=cell_of hy3 rfl;have f1':=eP (i:=1) hy3;have HO3:=a_ ho;have HG3:=a_ hg;have aaz:=a_ hat;clear ho hg hat hy3))
 all_goals
  go_wp2
  (try simp only[Exit.inBlock,Exit.then])
  first
  |(refine bW (aK rfl _ _ _) rfl ?_)
  |(refine aV (aK rfl _ _ _) rfl ?_)
  have xQ:=vZ.out;subst xQ;obtain⟨s1,s2⟩:=xS (k:=g.nodes.length) R2.out HG3.out (by rw[HST.out];exact HO3.out) aaz.out;have e4:({ (g.put (elemOf t))with stack:=g.nodes.length::g.stack}:Gr)=⟨(g.put (elemOf t)).nodes,g.nodes.length::(g.put (elemOf t)).stack⟩:=by rw[HST.out]
  have tO:Frame (fun k=>k=Y\/K k) w1 (w3.setCell ⟨Y,1,none⟩ (.slice Xy (g.stack.length+1) EI)):=by
   refine⟨s2.os.trans F2.out.os,s2.tape.trans F2.out.tape,s2.output.trans F2.out.output,ar F2.out.size s2.size,fun b hb2 hf=>?_⟩;rw[s2.block b (ak hb2 F2.out.size) (fun x=>by
    rcases x with x|x|x
    ·exact hf (Or.inl x)
    ·exact hf (Or.inr x)
    ·omega)]
   exact F2.out.block b hb2 hf
  have s3:gL A (Grow K w1 (w3.setCell ⟨Y,1,none⟩ (.slice Xy (g.stack.length+1) EI))) Y (w3.setCell ⟨Y,1,none⟩ (.slice Xy (g.stack.length+1) EI)) ⟨(g.put (elemOf t)).nodes,g.nodes.length::(g.put (elemOf t)).stack⟩ 0 q (.slice n2 (g.put (elemOf t)).nodes.length U1) (.slice Xy (g.stack.length+1) EI) av2 kv2:=by
   have r1:=H.out.keep HM.out;have yr:=eO r1.blk;have z1:=F2.out.size;refine s1.Hr (fun b hb2 x=>?_) ?_ ?_ (i_ r1.lt tO.size)
   ·rcases x with(x|x)|x
    ·exact Or.inl x
    ·exact Or.inr ⟨x.1,hb2⟩
    ·exact Or.inr ⟨by omega,hb2⟩
   ·rintro(x|x)
    ·exact r1.nK x
    ·omega
   ·rintro b hA (x|x)
    ·exact r1.sZ b hA x
    ·have:=r1.tH b hA;omega
  obtain⟨q1,q2⟩:=H.out.lift HM.out s3 tO;rw[e4];first|exact⟨rfl,_,_,_,_,q1,q2⟩|exact⟨rfl,⟨_,_,_,_,q1⟩,q2⟩
theorem Hw(h:gL A K Y w g 0 q nv ov av kv)(wf:g.Wf)(Qb:mF g)(hb:g.nodes.length<=17179869184)(t:Tok)(va:Value)(ha:w.ownsRow 0 79 2 va t.b_.length (eG t.b_))(nS:∀k,va.ownBlock=some k->A k)(k:Nat)(st:List Nat)(hs:g.stack=k::st)(hd:g.stack.length<30):
  Z4 20 #[Z8 Y,.agg #[.int .i64 1,.string ⟨t.name.toArray⟩,va,.string ⟨t.text.toArray⟩,.int .i64 t.at_]] w fun e w'=>e=.returned (.tuple #[])/\∃kh mG j8 kA,gL A (Grow K w w') Y w' { (g.put (elemOf t))with stack:=g.nodes.length::g.stack} 0 q kh mG j8 kA/\Frame (fun k=>k=Y\/K k) w w':=by
 obtain⟨ai,ac,oF⟩:=eE ha;obtain⟨ni,nc,qO⟩:=eE h.nodes.row;obtain⟨oi,oc,hov⟩:=eE h.opens;subst oF;subst qO;subst hov;have l8:jl g.stack=(k:Int):=by rw[hs];rfl
 have xv:decide ((k:Int)<0)=false:=by simp
 have lI:¬((k:Int)<0):=by omega
 clear hs;have oO:∀o:Obj,Z4 43 #[Z8 Y] (w.alloc o) fun en w'=>en=.returned (.int .i64 ((k:Int)))/\eN (w.alloc o) w':=fun o=>by
  have:=nE (h.keep ((eN.refl w).alloc o));rw[l8]at this;exact this
 have c2:∀o:Obj,(w.alloc o).cell? ⟨Y,2,none⟩=some (.int .i64 0):=fun o=>eF o (h.cell 2 rfl);have hd1:decide (30<=g.stack.length)=false:=by simp;omega
 have Fg:(g.stack.length:Int)<30:=by omega
 obtain⟨j0,hj,YD,YE,IA⟩:=bk zn;have Ay:=a_ oO;have HWF:=a_ wf;have HKD:=a_ Qb;have HA:=a_ ha;have TN:=a_ nS;have H:=a_ h;clear oO h l8 wf Qb ha nS;go_enter func20,ntmps20;go_wp2_with fail;refine(Ay.out _).mono ?_;rintro e w1 ⟨rfl,m1⟩;have hM:eN w w1:=((eN.refl w).alloc _).trans m1;have fj:w1.heap[w.heap.size]?=some (.cells #[.int .i64 1,.string ⟨t.name.toArray⟩,.slice ai (List.length t.b_) ac,.string ⟨t.text.toArray⟩,.int .i64 t.at_] 75):=(m1.keep w.heap.size (by simp)).trans (eL w _);have r1:=H.out.keep hM;have d0:w1.cell? ⟨Y,0,none⟩=some (.slice ni g.nodes.length nc):=r1.cell 0 rfl;have d1:w1.cell? ⟨Y,1,none⟩=some (.slice oi g.stack.length oc):=r1.cell 1 rfl;have b0:=cell_of (i:=0) fj rfl;have b1:=cell_of (i:=1) fj rfl;have b2:=cell_of (i:=2) fj rfl;have hput:=EH r1 HWF.out HKD.out (elemOf t) (.slice ai (List.length t.b_) ac) 0 (eI HA.out fun b e=>hM.keep b (eU HA.out e)) TN.out rfl hb;have HP:=a_ hput;have HM:=a_ hM;clear r1 hM fj m1 hput;go_wp2_with(first|(go_at_call 44;refine HP.out.mono ?_;rintro e w2 ⟨rfl,nv2,av2,kv2,r2,f2⟩;obtain⟨n2,U1,aay⟩:=eE r2.nodes.row;subst aay;have y0:=r2.cell 0 rfl;have y1:=r2.cell 1 rfl;have R2:=a_ r2;have F2:=a_ f2;clear r2 f2 d0 d1 b0 b1 b2));have hst:(g.put (elemOf t)).stack=g.stack:=od _ _;obtain⟨hw,Xv⟩:=CM g.nodes.length (g.put (elemOf t)).nodes.length (lh _ _) hb;have hop:=R2.out.opens;rw[hst]at hop;have HOP:=a_ hop;have HYB:=a_ R2.out.blk;have hoY:(Value.slice oi g.stack.length oc).ownBlock≠some Y:=fun e=>R2.out.nK (R2.out.jM Y e).1;have y0a:∀o:Obj,(w2.alloc o).cell? ⟨Y,0,none⟩=some (.slice n2 (g.put (elemOf t)).nodes.length U1):=fun o=>eF o y0;have y1a:∀o:Obj,(w2.alloc o).cell? ⟨Y,1,none⟩=some (.slice oi g.stack.length oc):=fun o=>eF o y1;have f1:=eP (i:=1) R2.out.blk;have HST:=a_ hst;clear hop hst c2;generalize Xx:(g.put (elemOf t)).nodes.length=M at*
 have vZ:=a_ Xx;clear Xx;go_region_law
  (first|(
   refine fJ rfl (.tmp 74) (.tmp 81) 34 rfl 3 j0 _ 1 8 underlying34 hj YD YE IA rfl (by decide) (.slice oi g.stack.length oc) g.stack.length (fF g.stack.reverse) (by simp[Act.eval,Act.put]) (HOP.out.drew.alloc _) ⟨w2.heap.size,0,none⟩ 1 1 [.int .i64 g.nodes.length] (by simp[Act.eval,Act.put]) rfl (v_ _ _) (yJ _) (by unfold maxLen;omega) (by omega) ?_;intro v' w3 ho hg hat;obtain⟨Xy,EI,rfl⟩:=eE ho;have hy3:=gm HYB.out hoY hg;have y1':w3.cell? ⟨Y,1,none⟩=some (.slice oi g.stack.length oc):=cell_of hy3 rfl;have f1':=eP (i:=1) hy3;have HO3:=a_ ho;have HG3:=a_ hg;have aaz:=a_ hat;clear ho hg hat hy3))
 all_goals
  go_wp2
  (try simp only[Exit.inBlock,Exit.then])
  first
  |(refine bW (aK rfl _ _ _) rfl ?_)
  |(refine aV (aK rfl _ _ _) rfl ?_)
  have xQ:=vZ.out;subst xQ;obtain⟨s1,s2⟩:=xS (k:=g.nodes.length) R2.out HG3.out (by rw[HST.out];exact HO3.out) aaz.out;have e4:({ (g.put (elemOf t))with stack:=g.nodes.length::g.stack}:Gr)=⟨(g.put (elemOf t)).nodes,g.nodes.length::(g.put (elemOf t)).stack⟩:=by rw[HST.out]
  have tO:Frame (fun k=>k=Y\/K k) w1 (w3.setCell ⟨Y,1,none⟩ (.slice Xy (g.stack.length+1) EI)):=by
   refine⟨s2.os.trans F2.out.os,s2.tape.trans F2.out.tape,s2.output.trans F2.out.output,ar F2.out.size s2.size,fun b hb2 hf=>?_⟩;rw[s2.block b (ak hb2 F2.out.size) (fun x=>by
    rcases x with x|x|x
    ·exact hf (Or.inl x)
    ·exact hf (Or.inr x)
    ·omega)]
   exact F2.out.block b hb2 hf
  have s3:gL A (Grow K w1 (w3.setCell ⟨Y,1,none⟩ (.slice Xy (g.stack.length+1) EI))) Y (w3.setCell ⟨Y,1,none⟩ (.slice Xy (g.stack.length+1) EI)) ⟨(g.put (elemOf t)).nodes,g.nodes.length::(g.put (elemOf t)).stack⟩ 0 q (.slice n2 (g.put (elemOf t)).nodes.length U1) (.slice Xy (g.stack.length+1) EI) av2 kv2:=by
   have r1:=H.out.keep HM.out;have yr:=eO r1.blk;have z1:=F2.out.size;refine s1.Hr (fun b hb2 x=>?_) ?_ ?_ (i_ r1.lt tO.size)
   ·rcases x with(x|x)|x
    ·exact Or.inl x
    ·exact Or.inr ⟨x.1,hb2⟩
    ·exact Or.inr ⟨by omega,hb2⟩
   ·rintro(x|x)
    ·exact r1.nK x
    ·omega
   ·rintro b hA (x|x)
    ·exact r1.sZ b hA x
    ·have:=r1.tH b hA;omega
  obtain⟨q1,q2⟩:=H.out.lift HM.out s3 tO;rw[e4];first|exact⟨rfl,_,_,_,_,q1,q2⟩|exact⟨rfl,⟨_,_,_,_,q1⟩,q2⟩
end
end K
end Go.Proofs.YtjecakcpcnmieaaGreatDoor
