import Derived.Test.YtjecakcpcnmieaaGreatDoorHA
import Derived.Test.YtjecakcpcnmieaaGreatDoorHaw
import Derived.Test.YtjecakcpcnmieaaGreatDoorHax
import Derived.Test.YtjecakcpcnmieaaGreatDoorHau
set_option linter.unusedVariables false
set_option linter.unusedSimpArgs false
set_option maxHeartbeats 32000000
set_option maxRecDepth 100000
namespace Go.Proofs.YtjecakcpcnmieaaGreatDoor
namespace K
open Go.RowKit Go.Maps Go.Lib Tryz
section
variable{A K K':Nat->Prop}{w w' w1 w2:World}{nv ov a:Value}{av kv:Nat->Value}{g:Gr}{Y:Nat}{er q:Int}
theorem gL.more{g':Gr}{er' q':Int}{kh mG:Value}{j8 kA:Nat->Value}(h:gL A K Y w g er q nv ov av kv)(hz:w.heap.size<=w'.heap.size)(r:gL A K Y w' g' er' q' kh mG j8 kA):gL A (Grow K w w') Y w' g' er' q' kh mG j8 kA:=by
 have yr:=eO h.blk;refine r.Hr (fun k _ x=>Or.inl x) ?_ ?_ (i_ h.lt hz)
 ·rintro(x|x)
  ·exact h.nK x
  ·omega
 ·rintro k hA (x|x)
  ·exact h.sZ k hA x
  ·have:=h.tH k hA;omega
theorem CN(fr:Frame (fun k=>k=Y) w w'):Frame (fun k=>k=Y\/K k) w w':=⟨fr.os,fr.tape,fr.output,fr.size,fun k hk hf=>fr.block k hk (fun e=>hf (Or.inl e))⟩
theorem Ub(h:BR A K Y w g er q)(hb:g.nodes.length<=17179869184)(t:Tok)(va:Value)(hz:t.text.length<=9223372036854775807)(ha:w.ownsRow 0 79 2 va t.b_.length (eG t.b_))(nS:∀k,va.ownBlock=some k->A k):
  Z4 20 #[Z8 Y,nC t va] w (Mp A K Y w (rY g er q t)):=by
 obtain⟨⟨nv,ov,av,kv,hr⟩,hk,wf⟩:=h;have wf2:=wf.take t;have oF:=eE ha;obtain⟨ai,ac,oF⟩:=oF;unfold rY;by_cases h0:er≠0
 ·rw[if_pos h0];subst oF;refine(Pd hr h0 t ai _ ac).mono ?_;rintro e w' ⟨rfl,m⟩;exact⟨rfl,⟨⟨nv,ov,av,kv,hr.more m.size (hr.keep m)⟩,hk,wf⟩,m.frame⟩
 ·rw[if_neg h0];obtain rfl:er=0:=by simpa using h0
  --what a refusal leaves
  have bad:∀(no:Int) (w':World),gL A K Y w' g no t.at_ nv ov av kv->Frame (fun k=>k=Y) w w'->Mp A K Y w (g,no,t.at_) (.returned (.tuple #[])) w':=fun no w' r f=>⟨rfl,⟨⟨nv,ov,av,kv,hr.more f.size r⟩,hk,wf⟩,CN f⟩
  have same:∀w',eN w w'->Mp A K Y w (g,0,q) (.returned (.tuple #[])) w':=fun w' m=>⟨rfl,⟨⟨nv,ov,av,kv,hr.more m.size (hr.keep m)⟩,hk,wf⟩,m.frame⟩
  by_cases lI:t.kind=1
  ·by_cases h1:g.stack=[]/\g.nodes≠[]
   ·have e:g.take t=(7,g):=by unfold Gr.take;rw[if_pos lI,if_pos h1]
    rw[e,if_pos (by simp)];subst oF;unfold nC;rw[lI];refine(KX hr t h1.1 h1.2 ai _ ac).mono ?_;rintro e w' ⟨rfl,r,f⟩;exact bad 7 w' r f
   ·by_cases h2:30<=g.stack.length
    ·have e:g.take t=(8,g):=by unfold Gr.take;rw[if_pos lI,if_neg h1,if_pos h2]
     rw[e,if_pos (by simp)];cases hs:g.stack with
     |nil=>rw[hs]at h2;simp at h2
     |cons k st=>
      subst oF;unfold nC;rw[lI];refine(KY hr t k st hs h2 ai _ ac).mono ?_;rintro e w' ⟨rfl,r,f⟩;exact bad 8 w' r f
    ·have e:g.take t=(0,{ (g.put (elemOf t))with stack:=g.nodes.length::g.stack}):=by unfold Gr.take;rw[if_pos lI,if_neg h1,if_neg h2]
     rw[e]at wf2 ⊢;rw[if_neg (by simp)];have fin:∀w' kh mG j8 kA,gL A (Grow K w w') Y w' { (g.put (elemOf t))with stack:=g.nodes.length::g.stack} 0 q kh mG j8 kA->Frame (fun k=>k=Y\/K k) w w'->Mp A K Y w ({ (g.put (elemOf t))with stack:=g.nodes.length::g.stack},0,q) (.returned (.tuple #[])) w':=fun w' kh mG j8 kA r f=>⟨rfl,⟨⟨kh,mG,j8,kA,r⟩,hk.put (elemOf t) rfl,wf2⟩,f⟩
     unfold nC;rw[lI];cases hs:g.stack with
     |nil=>
      have hn:g.nodes=[]:=aU fun x=>h1 ⟨hs,x⟩;refine(Hv hr wf hk hb t va ha nS hs hn (by omega)).mono ?_;rintro e w' ⟨rfl,kh,mG,j8,kA,r,f⟩;rw[hs]at r fin;exact fin w' kh mG j8 kA r f
     |cons k st=>
      refine(Hw hr wf hk hb t va ha nS k st hs (by omega)).mono ?_;rintro e w' ⟨rfl,kh,mG,j8,kA,r,f⟩;rw[hs]at r fin;exact fin w' kh mG j8 kA r f
  ·by_cases hk2:t.kind=2
   ·cases hs:g.stack with
    |nil=>
     have e:g.take t=(6,g):=by unfold Gr.take;rw[if_neg lI,if_pos hk2,hs]
     rw[e,if_pos (by simp)];subst oF;unfold nC;rw[hk2];refine(KZ hr t hs ai _ ac).mono ?_;rintro e w' ⟨rfl,r,f⟩;exact bad 6 w' r f
    |cons k st=>
     obtain⟨m,hm,oO,_⟩:=wf.top hs;by_cases qC:g.named k t.name=true
     ·have e:g.take t=(0,{g with stack:=st}):=by unfold Gr.take;rw[if_neg lI,if_pos hk2,hs];simp only[qC,if_true]
      rw[e]at wf2 ⊢;rw[if_neg (by simp)];have hname:m.name=t.name:=by
       have:=(mC g k t.name).1 qC;rw[hm]at this;simpa using this
      subst oF;unfold nC;rw[hk2];refine(K0 hr t k st m hs hm hname ai _ ac).mono ?_;rintro e w' ⟨rfl,mG,r,f⟩;exact⟨rfl,⟨⟨nv,mG,av,kv,hr.more f.size r⟩,hk,wf2⟩,CN f⟩
     ·have e:g.take t=(6,g):=by unfold Gr.take;rw[if_neg lI,if_pos hk2,hs];simp only[qC,bf,aA]
      rw[e,if_pos (by simp)];have hname:m.name≠t.name:=fun e=>qC ((mC g k t.name).2 (by rw[hm];simp[e]));subst oF;unfold nC;rw[hk2];refine(Hu hr t k st m hs hm hname ai _ ac).mono ?_;rintro e w' ⟨rfl,r,f⟩;exact bad 6 w' r f
   ·cases hs:g.stack with
    |nil=>
     by_cases hbl:gG t.text=true
     ·have e:g.take t=(0,g):=by unfold Gr.take;rw[if_neg lI,if_neg hk2,hs];simp only[hbl,if_true]
      rw[e,if_neg (by simp)];subst oF;refine(yt hr t lI hk2 hs hbl hz ai _ ac).mono ?_;rintro e w' ⟨rfl,m⟩;exact same w' m
     ·have e:g.take t=(7,g):=by unfold Gr.take;rw[if_neg lI,if_neg hk2,hs];simp only[hbl,bf,aA]
      rw[e,if_pos (by simp)];subst oF;refine(Bv hr t lI hk2 hs hbl hz ai _ ac).mono ?_;rintro e w' ⟨rfl,r,f⟩;exact bad 7 w' r f
    |cons k st=>
     have e:g.take t=(0,g.put (jD t)):=by unfold Gr.take;rw[if_neg lI,if_neg hk2,hs]
     rw[e]at wf2 ⊢;rw[if_neg (by simp)];subst oF;refine(T_ hr wf hk hb t lI hk2 k st hs hz ai _ ac).mono ?_;rintro e w' ⟨rfl,kh,j8,kA,r,f⟩;exact⟨rfl,⟨⟨kh,ov,j8,kA,r⟩,hk.put (jD t) rfl,wf2⟩,f⟩
end
section
variable{A K K' F:Nat->Prop}{w w' w1 w2 w4 wr:World}{nv ov a v:Value}{av kv:Nat->Value}{g:Gr}{X Y:Nat}{er q:Int}{l T:List Tok}
theorem oX.at:∀{l:List Tok} {cs:List Value},oX F X w l cs->∀(i:Nat) (hi:i<l.length),∃va,w.ownsRow 0 79 2 va (l[i]).b_.length (eG (l[i]).b_)/\cs[i*5]?=some (.int .i64 (l[i]).kind)/\cs[i*5+1]?=some (eZ (l[i]).name)/\cs[i*5+2]?=some va/\cs[i*5+3]?=some (eZ (l[i]).text)/\cs[i*5+4]?=some (.int .i64 (l[i]).at_)
 |[],_,_,i,hi=>absurd hi (Nat.not_lt_zero _)
 |t::l,_,⟨v,cs,e,ho,hf,hl⟩,i,hi=>by
  subst e;cases i with
  |zero=>exact⟨v,ho,rfl,rfl,rfl,rfl,rfl⟩
  |succ i=>
   obtain⟨va,a0,a1,a2,a3,a4,a5⟩:=oX.at hl i (by simpa using hi);have e1:∀j,(i+1)*5+j=(fq t v).length+(i*5+j):=fun j=>by show _=5+_;omega
   have e2:∀j,(fq t v++cs)[(i+1)*5+j]?=cs[i*5+j]?:=fun j=>by rw[e1,aQ (cF _ _),cj]
   exact⟨va,a0,(e2 0).trans a1,(e2 1).trans a2,(e2 2).trans a3,(e2 3).trans a4,(e2 4).trans a5⟩
theorem Ty.at(h:Ty w v l)(i:Nat)(hi:i<l.length):∃g cap va,v=Z9 g l.length cap/\w.ownsRow 0 79 2 va (l[i]).b_.length (eG (l[i]).b_)/\
  w.cell? ⟨g,i*5,none⟩=some (.int .i64 (l[i]).kind)/\w.cell? ⟨g,i*5+1,none⟩=some (eZ (l[i]).name)/\w.cell? ⟨g,i*5+2,none⟩=some va/\w.cell? ⟨g,i*5+3,none⟩=some (eZ (l[i]).text)/\w.cell? ⟨g,i*5+4,none⟩=some (.int .i64 (l[i]).at_)/\l.length<=maxLen:=by
 obtain⟨F,X,cs,h1,h2⟩:=h;rcases h1.2 with⟨e,e0⟩|⟨g,cap,cur,e,_,_,U0,Qg,_⟩
 ·omega
 subst e;have hc:=h1.cells (g:=g) rfl;obtain⟨va,a0,a1,a2,a3,a4,a5⟩:=h2.at i hi;have up:∀j u,cs[j]?=some u->w.cell? ⟨g,j,none⟩=some u:=fun j u hj=>by
  have:=hc j u hj;rwa[Addr.add_mid,ay]at this
 exact⟨g,cap,va,rfl,a0,up _ _ a1,up _ _ a2,up _ _ a3,up _ _ a4,up _ _ a5,ar U0 Qg⟩
theorem Pf(h:Ty w v l):∃b c,v=.slice b l.length c/\l.length<=maxLen:=by
 obtain⟨F,X,cs,o,_⟩:=h;rcases o.2 with⟨rfl,e⟩|⟨g,cap,cur,rfl,_,_,h1,h2,_⟩
 ·rw[e];exact⟨none,0,rfl,ax _⟩
 ·exact⟨_,_,rfl,ar h1 h2⟩
def qz:Gr×Int×Int->List Tok->Gr×Int×Int
 |x,[]=>x
 |x,t::l=>qz (rY x.1 x.2.1 x.2.2 t) l
theorem Az:∀(l:List Tok) (g:Gr) (er q:Int),er≠0->qz (g,er,q) l=(g,er,q)
 |[],_,_,_,_=>rfl
 |t::l,g,er,q,h=>by
  simp only[qz];have:rY g er q t=(g,er,q):=by unfold rY;rw[if_pos h]
  rw[this];exact Az l g er q h
theorem xU:∀(l:List Tok) (g:Gr) (q:Int),qz (g,0,q) l=if(grow g l).1≠0 then((grow g l).2.2,(grow g l).1,(grow g l).2.1)else((grow g l).2.2,0,q)
 |[],g,q=>by simp[qz,grow]
 |t::l,g,q=>by
  simp only[qz];by_cases h:(g.take t).1=0
  ·have e:rY g 0 q t=((g.take t).2,0,q):=by unfold rY;rw[if_neg (by simp),if_neg (by simpa using h)]
   have eg:grow g (t::l)=grow (g.take t).2 l:=by simp only[grow];rw[if_neg (by simpa using h)]
   rw[e,xU l,eg]
  ·have e:rY g 0 q t=(g,(g.take t).1,t.at_):=by unfold rY;rw[if_neg (by simp),if_pos h]
   have eg:grow g (t::l)=((g.take t).1,t.at_,g):=by simp only[grow];rw[if_pos h]
   rw[e,Az _ _ _ _ h,eg,if_pos h]
structure BI(w4:World)(T:List Tok)(wr:World)(k:Nat):Prop where
 ex:∃g er q Kx,BR (fun j=>j<w4.heap.size) Kx w4.heap.size wr g er q/\(∀j,Kx j->w4.heap.size<=j)/\qz (Gr.zero,0,0) T=qz (g,er,q) (T.drop k)/\g.nodes.length<=k
 more:eN w4 wr
theorem BI.start:BI w4 T (w4.alloc (.cells #[.slice none 0 0,.slice none 0 0,.int .i64 0,.int .i64 0] 72)) 0:=by refine⟨⟨Gr.zero,0,0,fun _=>False,⟨⟨fO,fO,_,_,⟨eL w4 _,f_.zero,⟨rfl,Or.inl ⟨rfl,rfl⟩⟩,(fun k e=>by cases e),(fun x=>absurd x (cy _)),(fun x=>x),(fun _ _ x=>x),(fun _ x=>x.elim),(fun k x=>by have x':k<w4.heap.size:=x;simp;omega)⟩⟩,(fun i m hi=>by simp[Gr.zero]at hi),Gr.Wf.zero⟩,fun _ x=>x.elim,by simp,by simp[Gr.zero]⟩,(eN.refl w4).alloc _⟩
theorem Pg(g:Gr)(er q:Int)(t:Tok):(rY g er q t).1.nodes.length<=g.nodes.length+1:=by
 have:(g.take t).2.nodes.length<=g.nodes.length+1:=by
  unfold Gr.take;split
  ·split
   ·simp
   ·split
    ·simp
    ·simp only[lh];omega
  ·split
   ·split
    ·simp
    ·split<;>simp
   ·split
    ·split<;>simp
    ·rw[lh];omega
 unfold rY;split
 ·simp
 ·split
  ·simp
  ·exact this
theorem BI.call{k:Nat}(h:BI w4 T wr k)(hk:k<T.length)(hb:T.length<=17179869184)(va:Value)(hz:(T[k]).text.length<=9223372036854775807)(ha:w4.ownsRow 0 79 2 va (T[k]).b_.length (eG (T[k]).b_))(W:World)(hW:eN wr W):
  Z4 20 #[.pointer (some ⟨w4.heap.size,0,none⟩),nC (T[k]) va] W fun e w'=>e=.returned (.tuple #[])/\BI w4 T w' (k+1):=by
 obtain⟨⟨g,er,q,Kx,hg,hKx,hgr,hlen⟩,hM⟩:=h;have xQ:=hM.trans hW;have hdrop:T.drop k=T[k]::T.drop (k+1):=(bX hk)
 refine(Ub (hg.keep hW) (by omega) (T[k]) va hz (eI ha fun b e=>xQ.keep b (eU ha e)) (fun b e=>eU ha e)).mono ?_;rintro e w' ⟨rfl,r,fr⟩;have hM3:eN w4 w':=⟨fr.os.trans xQ.os,fr.tape.trans xQ.tape,fr.output.trans xQ.output,ar xQ.size fr.size,fun b hb2=>by
  rw[fr.block b (ak hb2 xQ.size) (fun x=>by
   rcases x with e|e
   ·omega
   ·have:=hKx b e;omega)]
  exact xQ.keep b hb2⟩
 refine⟨rfl,⟨_,_,_,_,r,?_,?_,?_⟩,hM3⟩
 ·rintro j (e|e)
  ·exact hKx j e
  ·have:=e.1;have:=xQ.size;omega
 ·rw[hgr,hdrop];rfl
 ·have:=Pg g er q (T[k]);omega
theorem BI.over(h:BI w4 T wr T.length):∃g er q Kx,BR (fun j=>j<w4.heap.size) Kx w4.heap.size wr g er q/\(∀j,Kx j->w4.heap.size<=j)/\qz (Gr.zero,0,0) T=(g,er,q):=by
 obtain⟨⟨g,er,q,Kx,h1,h2,h3,_⟩,_⟩:=h;refine⟨g,er,q,Kx,h1,h2,?_⟩;rw[h3,dz];rfl
end
section
variable{A K K' F:Nat->Prop}{w w' w1 w2 w4 wr:World}{nv ov a v:Value}{av kv:Nat->Value}{g:Gr}{X Y:Nat}{er q:Int}{l T:List Tok}
def xl(w:World)(x:List Nd×Int×Int)(e:Ending)(w':World):Prop:=∃v,e=.returned (.tuple #[v,.int .i64 x.2.1,.int .i64 x.2.2])/\(∃A K av kv,f_ 36 79 A K w' v x.1 av kv/\∀k,K k->w.heap.size<=k)/\Z5 w w'
structure aaA(w:World)(s:ByteArray)(v:Value)(w4:World):Prop where
 ans:Ty w4 v ((eQ s).l++(eQ s).last)
 below:Z5 w w4
 err:w4.cell? ⟨w.heap.size,5,none⟩=some (.int .i64 (eQ s).err)
 at_:w4.cell? ⟨w.heap.size,6,none⟩=some (.int .i64 (eQ s).at_)
theorem Ph(s:ByteArray)(w:World)(hs:s.size<=268435456):
  Z4 18 #[.string s] w fun e w1=>e=.returned (.pointer (some ⟨w.heap.size,0,none⟩))/\∃lv,(∃o n c,lv=.slice o n c)/\Z4 19 #[.pointer (some ⟨w.heap.size,0,none⟩)] w1 fun e w2=>∃v2,e=.returned v2/\w2.cell? ⟨w.heap.size,2,none⟩=some lv/\∃v' w4,(Builtin.append_ #[66,66] 66 #[lv,v2]).run prog w2=.ok v' w4/\aaA w s v' w4:=by
 have hlen:=TD s;refine(Tw s w (by omega)).mono ?_;rintro e w1 ⟨rfl,F,lv,cs,rs,b1,hF⟩;refine⟨rfl,lv,?_,(Tz rs.sat).mono ?_⟩
 ·obtain⟨o,c,e⟩:=eE rs.row;exact⟨o,_,c,e⟩
 rintro e w2 ⟨v2,rfl,b2,hv⟩;have rX:w.heap.size<w1.heap.size:=rs.lt _ rs.has;have YH:w2.heap[w.heap.size]?=w1.heap[w.heap.size]?:=b2.block _ rX;have c2:w1.cell? ⟨w.heap.size,2,none⟩=some lv:=rs.sat.cell 2 rfl;have c5:w1.cell? ⟨w.heap.size,5,none⟩=some (.int .i64 (eQ s).err):=rs.sat.cell 5 rfl;have c6:w1.cell? ⟨w.heap.size,6,none⟩=some (.int .i64 (eQ s).at_):=rs.sat.cell 6 rfl;obtain⟨v',w4,hrun,Uc,hgr⟩:=TC rs b2 v2 hv (by omega);have ac3:lv.ownBlock≠some w.heap.size:=rs.ne;have hz2:=b2.size;have YI:w4.heap[w.heap.size]?=w1.heap[w.heap.size]?:=(hgr.block _ (by omega) (fun e=>ac3 e.symm)).trans YH;have hb4:Z5 w w4:=by
  refine(b1.trans (fE b2 b1.size)).trans ⟨hgr.os,hgr.tape,hgr.output,hgr.size,fun k hk=>hgr.block k (by omega) (fun e=>?_)⟩;have:=hF k (rs.own k e.symm).1;omega
 exact⟨v2,rfl,(aj (a:=⟨w.heap.size,2,none⟩) YH).trans c2,v',w4,hrun,⟨Uc,hb4,(aj (a:=⟨w.heap.size,5,none⟩) YI).trans c5,(aj (a:=⟨w.heap.size,6,none⟩) YI).trans c6⟩⟩
theorem Ud{T:List Tok}{g:Gr}{q:Int}(h:(if(grow Gr.zero T).1≠0 then((grow Gr.zero T).2.2,(grow Gr.zero T).1,(grow Gr.zero T).2.1)else((grow Gr.zero T).2.2,0,0))=(g,0,q)):(grow Gr.zero T).1=0/\(grow Gr.zero T).2.2=g:=by
 by_cases hx:(grow Gr.zero T).1=0
 ·rw[if_neg (by simpa using hx)]at h;simp only[bQ]at h;exact⟨hx,h.1⟩
 ·rw[if_pos hx]at h;simp only[bQ]at h;exact absurd h.2.1 hx
theorem Pj{T:List Tok}{g:Gr}{er q:Int}(he:er≠0)(h:(if(grow Gr.zero T).1≠0 then((grow Gr.zero T).2.2,(grow Gr.zero T).1,(grow Gr.zero T).2.1)else((grow Gr.zero T).2.2,0,0))=(g,er,q)):(grow Gr.zero T).1≠0/\(grow Gr.zero T).1=er/\(grow Gr.zero T).2.1=q:=by
 by_cases hx:(grow Gr.zero T).1=0
 ·rw[if_neg (by simpa using hx)]at h;simp only[bQ]at h;exact absurd h.2.1.symm he
 ·rw[if_pos hx]at h;simp only[bQ]at h;exact⟨hx,h.2.1,h.2.2⟩
theorem xV(b4:Z5 w w4)(hM:eN w4 w'):Z5 w w':=b4.trans ⟨hM.os,hM.tape,hM.output,hM.size,fun k hk=>hM.keep k (ak hk b4.size)⟩
theorem ju{F:Nat->Prop}{n:Nat}(f:Frame F w w'):Frame F w (w'.drewN n):=⟨f.os,f.tape,f.output,f.size,f.block⟩
theorem jH{no p:Int}(b4:Z5 w w4)(hM:eN w4 wr)(f:eN wr w'\/Frame (fun k=>k=w4.heap.size) wr w'):xl w ([],no,p) (.returned (.tuple #[.slice none 0 0,.int .i64 no,.int .i64 p])) w':=by
 have xQ:eN w4 w':=by
  rcases f with f|f
  ·exact hM.trans f
  ·exact⟨f.os.trans hM.os,f.tape.trans hM.tape,f.output.trans hM.output,ar hM.size f.size,fun b hb=>(f.block b (ak hb hM.size) (by omega)).trans (hM.keep b hb)⟩
 exact⟨fO,rfl,⟨fun _=>False,fun _=>False,_,_,f_.zero,fun _ x=>x.elim⟩,xV b4 xQ⟩
theorem CO(s:ByteArray)(w:World)(hs:s.size<=268435456):Z4 6 #[.string s] w (xl w (fp s)):=by
 have hst:=Ph s w hs;have TY:=says s;have hlen:=xj s;have Tt:=Aw s;have HST:=a_ hst;have Bu:=a_ TY;have aat:=a_ hlen;have HTX:=a_ Tt;clear hst TY hlen Tt;go_enter func6,ntmps6;go_wp2_with fail;refine HST.out.mono ?_;rintro e w1 ⟨rfl,lv,⟨lo,ln,lc,rfl⟩,qQ⟩;go_wp2_with fail;refine qQ.mono ?_;rintro e w2 ⟨v2,rfl,c2,v',w4,hrun,Vb⟩;have Uc:=Vb.ans;have hb4:=Vb.below;have he4:=Vb.err;have ha4:=Vb.at_;generalize (eQ s).l++(eQ s).last=T at*
 generalize (eQ s).err=Bn at*
 generalize (eQ s).at_=P9 at*
 obtain⟨bl,cl,el,hmx⟩:=Pf Uc;subst el;have AN4:=a_ Uc;have B4:=a_ hb4;have E4:=a_ he4;have T4:=a_ ha4;have HMX:=a_ hmx;clear Vb Uc hb4 he4 ha4 hmx qQ HST;go_wp2_with(at_builtin;refine Eu rfl (.tmp 17) (.tmp 18) rfl rfl _ _ rfl rfl hrun ?_);have abK:w.heap.size<w4.heap.size:=bE w4 _ E4.out;go_loopw [9] (fun iv wr=>∃k:Nat,iv=.int .i64 k/\k<=T.length/\BI w4 T wr k) (fun iv _=>T.length-(RowKit.intOf iv).toNat)
 case atStart=>exact⟨0,rfl,ax _,BI.start⟩
 case round=>
  obtain⟨k,rfl,hk,Vc⟩:=hrel;by_cases qU:k<T.length
  ·have hdec:decide ((k:Int)<T.length)=true:=by simp;omega
   have Hq:decide (k<T.length)=true:=by simp;omega
   have Hl:(k:Int)<T.length:=by omega
   have YB:(T.length:Int)<=9223372036854775807:=by have:=HMX.out;have:maxLen=9223372036854775807:=rfl;omega
   obtain⟨gT,cT,va,eT,oa,x0,x1,x2,x3,x4,_⟩:=AN4.out.at k qU;have tR:=aat.out;have fg:=Vc.call qU (by omega) va (by have:=HTX.out _ (bU qU);omega) oa wr (eN.refl wr);obtain⟨ai,ac,oF⟩:=eE oa;cases eT;have hlt:gT<w4.heap.size:=bE w4 _ x0;subst oF;unfold eZ at x1 x3;unfold nC eZ at fg;have y0:=(aj (a:=⟨gT,k*5,none⟩) (Vc.more.keep gT hlt)).trans x0;have y1:=(aj (a:=⟨gT,k*5+1,none⟩) (Vc.more.keep gT hlt)).trans x1;have y2:=(aj (a:=⟨gT,k*5+2,none⟩) (Vc.more.keep gT hlt)).trans x2;have y3:=(aj (a:=⟨gT,k*5+3,none⟩) (Vc.more.keep gT hlt)).trans x3;have y4:=(aj (a:=⟨gT,k*5+4,none⟩) (Vc.more.keep gT hlt)).trans x4;have HC:=a_ fg;clear fg Vc oa x0 x1 x2 x3 x4 tR;generalize T[k]=t at*
   go_wp2_with fail;refine HC.out.mono ?_;rintro e w5 ⟨rfl,ya⟩;have HB5:=a_ ya;clear ya;go_wp2
   go_roundw
   case rel=>exact⟨k+1,by simp,by omega,HB5.out⟩
   case measure=>simp only[RowKit.intOf];omega
  ·have hdec:decide ((k:Int)<T.length)=false:=by simp;omega
   have Hq:decide (k<T.length)=false:=by simp;omega
   have he:k=T.length:=by omega
   subst he;have hM:=Vc.more;obtain⟨g,er,q,Kx,⟨⟨nv,ov,av,kv,hr⟩,_,_⟩,hKx,hgr⟩:=Vc.over;rw[xU]at hgr;obtain⟨ni,nc,qO⟩:=eE hr.nodes.row;obtain⟨oi,oc,hov⟩:=eE hr.opens;subst qO;subst hov;have e5:wr.cell? ⟨w.heap.size,5,none⟩=some (.int .i64 Bn):=(aj (hM.keep _ abK)).trans E4.out;have e6:wr.cell? ⟨w.heap.size,6,none⟩=some (.int .i64 P9):=(aj (hM.keep _ abK)).trans T4.out;have JI:=a_ hgr;have HR:=a_ hr;have vZ:=a_ hM;have HKX:=a_ (fun j hj=>ar B4.out.size (hKx j hj));clear Vc hgr hr hM hKx;have hsz:(s.size:Int)<=9223372036854775807:=by omega
   by_cases h0:er=0
   ·subst h0;have hg0:(grow Gr.zero T).1=0/\(grow Gr.zero T).2.2=g:=Ud JI.out;by_cases h1:Bn=0
    ·subst h1;by_cases yK:g.stack=[]
     ·have CP:=yK;by_cases lB:g.nodes=[]
      ·have qW:=Bu.out.form hg0.1 rfl (Or.inr (by rw[hg0.2];exact lB));have hc1:decide (0<g.stack.length)=false:=by rw[CP];rfl
       have hc2:(g.nodes.length==0)=true:=by rw[lB];rfl
       have hc3:decide (g.nodes.length=0)=true:=by rw[lB];rfl
       clear hg0;clear CP yK lB;have y0:=HR.out.cell 0 rfl;have y1:=HR.out.cell 1 rfl;have y2:=HR.out.cell 2 rfl;have y3:=HR.out.cell 3 rfl;go_wp2_with fail;refine(iX HR.out _ _).mono ?_;rintro e w6 ⟨rfl,r6,f6⟩;simp only[if_true]at r6;have R6:=a_ r6;have F6:=a_ f6;clear r6 f6;have y0:=R6.out.cell 0 rfl;have y1:=R6.out.cell 1 rfl;have y2:=R6.out.cell 2 rfl;have y3:=R6.out.cell 3 rfl;go_wp2_with fail;go_quiet(fail);go_wp2
       go_ret3
       rw[qW];exact jH B4.out vZ.out (Or.inr (ju F6.out))
      ·have qW:=Bu.out.ok hg0.1 rfl (by rw[hg0.2];exact CP) (by rw[hg0.2];exact lB);rw[hg0.2]at qW;have hc1:decide (0<g.stack.length)=false:=by rw[CP];rfl
       have hc2:(g.nodes.length==0)=false:=by
        cases hg:g.nodes with
        |nil=>exact absurd hg lB
        |cons a l=>rfl
       have hc3:decide (g.nodes.length=0)=false:=by simpa using lB
       clear hg0;clear CP yK lB;have y0:=HR.out.cell 0 rfl;have y1:=HR.out.cell 1 rfl;have y2:=HR.out.cell 2 rfl;have y3:=HR.out.cell 3 rfl;go_wp2_with fail
       go_ret3
       rw[qW];exact⟨_,rfl,⟨_,_,_,_,HR.out.nodes,HKX.out⟩,xV B4.out vZ.out⟩
     ·have qW:=Bu.out.form hg0.1 rfl (Or.inl (by rw[hg0.2];exact yK));have hc1:decide (0<g.stack.length)=true:=by
       cases hg:g.stack with
       |nil=>exact absurd hg yK
       |cons a l=>simp
      clear hg0;clear yK;have y0:=HR.out.cell 0 rfl;have y1:=HR.out.cell 1 rfl;have y2:=HR.out.cell 2 rfl;have y3:=HR.out.cell 3 rfl;go_wp2_with fail;refine(iX HR.out _ _).mono ?_;rintro e w6 ⟨rfl,r6,f6⟩;simp only[if_true]at r6;have R6:=a_ r6;have F6:=a_ f6;clear r6 f6;have y0:=R6.out.cell 0 rfl;have y1:=R6.out.cell 1 rfl;have y2:=R6.out.cell 2 rfl;have y3:=R6.out.cell 3 rfl;go_wp2_with fail;go_quiet(fail);go_wp2
      go_ret3
      rw[qW];exact jH B4.out vZ.out (Or.inr (ju F6.out))
    ·have qW:=Bu.out.err hg0.1 h1;have x9:(Bn !=0)=true:=by simpa using h1
     have H1:=a_ h1;clear hg0 h1;have y0:=HR.out.cell 0 rfl;have y1:=HR.out.cell 1 rfl;have y2:=HR.out.cell 2 rfl;have y3:=HR.out.cell 3 rfl;have AX:=iX (HR.out.keep (W:=wr.drew) ((eN.refl wr).drewN 1)) Bn P9;simp only[if_true]at AX;have HFL:=a_ AX;clear AX;have ac4:w4.heap.size<=wr.heap.size:=vZ.out.size;go_wp2_with fail;go_region_held3 (fun W=>W.cell? ⟨w.heap.size,5,none⟩=some (.int .i64 Bn)/\W.cell? ⟨w.heap.size,6,none⟩=some (.int .i64 P9))
      (first|exact⟨e5,e6⟩|exact⟨k5,k6⟩)
      (first|(go_at_call 21;refine HFL.out.mono ?_;rintro e w6 ⟨rfl,r6,f6⟩;have k5:w6.cell? ⟨w.heap.size,5,none⟩=some (.int .i64 Bn):=(aj (f6.block w.heap.size (show w.heap.size<wr.heap.size by omega) (by omega))).trans e5;have k6:w6.cell? ⟨w.heap.size,6,none⟩=some (.int .i64 P9):=(aj (f6.block w.heap.size (show w.heap.size<wr.heap.size by omega) (by omega))).trans e6;have R6:=a_ r6;have F6:Hid (Frame (fun k=>k=w4.heap.size) wr w6):=a_ ⟨f6.os,f6.tape,f6.output,f6.size,f6.block⟩;clear r6 f6))
     all_goals
      clear e5 e6 k5 k6 y0 y1 y2 y3;have y0:=R6.out.cell 0 rfl;have y1:=R6.out.cell 1 rfl;have y2:=R6.out.cell 2 rfl;have y3:=R6.out.cell 3 rfl;by_cases yK:g.stack=[]
      ·have CP:=yK;by_cases lB:g.nodes=[]
       ·have hc1:decide (0<g.stack.length)=false:=by rw[CP];rfl
        have hc2:(g.nodes.length==0)=true:=by rw[lB];rfl
        have hc3:decide (g.nodes.length=0)=true:=by rw[lB];rfl
        clear CP yK lB;go_wp2_with fail;refine(iX R6.out _ _).mono ?_;rintro e w7 ⟨rfl,r7,f7⟩;rw[if_neg H1.out,if_neg H1.out]at r7;have R7:=a_ r7;have F7:=a_ f7;clear r7 f7;have y0:=R7.out.cell 0 rfl;have y1:=R7.out.cell 1 rfl;have y2:=R7.out.cell 2 rfl;have y3:=R7.out.cell 3 rfl;go_wp2_with fail;go_quiet(fail);go_wp2
        go_ret3
        rw[qW];exact jH B4.out vZ.out (Or.inr (ju (F6.out.trans' F7.out)))
       ·have hc1:decide (0<g.stack.length)=false:=by rw[CP];rfl
        have hc2:(g.nodes.length==0)=false:=by
         cases hg:g.nodes with
         |nil=>exact absurd hg lB
         |cons a l=>rfl
        have hc3:decide (g.nodes.length=0)=false:=by simpa using lB
        clear CP yK lB;go_wp2_with fail;go_quiet(fail);go_wp2
        go_ret3
        rw[qW];exact jH B4.out vZ.out (Or.inr (ju F6.out))
      ·have hc1:decide (0<g.stack.length)=true:=by
        cases hg:g.stack with
        |nil=>exact absurd hg yK
        |cons a l=>simp
       clear yK;go_wp2_with fail;refine(iX R6.out _ _).mono ?_;rintro e w7 ⟨rfl,r7,f7⟩;rw[if_neg H1.out,if_neg H1.out]at r7;have R7:=a_ r7;have F7:=a_ f7;clear r7 f7;have y0:=R7.out.cell 0 rfl;have y1:=R7.out.cell 1 rfl;have y2:=R7.out.cell 2 rfl;have y3:=R7.out.cell 3 rfl;go_wp2_with fail;go_quiet(fail);go_wp2
       go_ret3
       rw[qW];exact jH B4.out vZ.out (Or.inr (ju (F6.out.trans' F7.out)))
   ·have hb0:=Pj h0 JI.out;have qW:=Bu.out.tok hb0.1;rw[hb0.2.1,hb0.2.2]at qW;have AV:(er !=0)=true:=by simpa using h0
    have H0:=a_ h0;clear hb0 h0;by_cases h1:Bn=0
    ·subst h1;have y0:=HR.out.cell 0 rfl;have y1:=HR.out.cell 1 rfl;have y2:=HR.out.cell 2 rfl;have y3:=HR.out.cell 3 rfl;by_cases yK:g.stack=[]
     ·have CP:=yK;by_cases lB:g.nodes=[]
      ·have hc1:decide (0<g.stack.length)=false:=by rw[CP];rfl
       have hc2:(g.nodes.length==0)=true:=by rw[lB];rfl
       have hc3:decide (g.nodes.length=0)=true:=by rw[lB];rfl
       clear CP yK lB;go_wp2_with fail;refine(iX HR.out _ _).mono ?_;rintro e w7 ⟨rfl,r7,f7⟩;rw[if_neg H0.out,if_neg H0.out]at r7;have R7:=a_ r7;have F7:=a_ f7;clear r7 f7;have y0:=R7.out.cell 0 rfl;have y1:=R7.out.cell 1 rfl;have y2:=R7.out.cell 2 rfl;have y3:=R7.out.cell 3 rfl;go_wp2_with fail;go_quiet(fail);go_wp2
       go_ret3
       rw[qW];exact jH B4.out vZ.out (Or.inr (ju F7.out))
      ·have hc1:decide (0<g.stack.length)=false:=by rw[CP];rfl
       have hc2:(g.nodes.length==0)=false:=by
        cases hg:g.nodes with
        |nil=>exact absurd hg lB
        |cons a l=>rfl
       have hc3:decide (g.nodes.length=0)=false:=by simpa using lB
       clear CP yK lB;go_wp2_with fail;go_quiet(fail);go_wp2
       go_ret3
       rw[qW];exact jH B4.out vZ.out (Or.inl ((eN.refl wr).drewN _))
     ·have hc1:decide (0<g.stack.length)=true:=by
       cases hg:g.stack with
       |nil=>exact absurd hg yK
       |cons a l=>simp
      clear yK;go_wp2_with fail;refine(iX HR.out _ _).mono ?_;rintro e w7 ⟨rfl,r7,f7⟩;rw[if_neg H0.out,if_neg H0.out]at r7;have R7:=a_ r7;have F7:=a_ f7;clear r7 f7;have y0:=R7.out.cell 0 rfl;have y1:=R7.out.cell 1 rfl;have y2:=R7.out.cell 2 rfl;have y3:=R7.out.cell 3 rfl;go_wp2_with fail;go_quiet(fail);go_wp2
      go_ret3
      rw[qW];exact jH B4.out vZ.out (Or.inr (ju F7.out))
    ·have x9:(Bn !=0)=true:=by simpa using h1
     clear h1;have y0:=HR.out.cell 0 rfl;have y1:=HR.out.cell 1 rfl;have y2:=HR.out.cell 2 rfl;have y3:=HR.out.cell 3 rfl;have AX:=iX (HR.out.keep (W:=wr.drew) ((eN.refl wr).drewN 1)) Bn P9;rw[if_neg H0.out,if_neg H0.out]at AX;have HFL:=a_ AX;clear AX;have ac4:w4.heap.size<=wr.heap.size:=vZ.out.size;go_wp2_with fail;go_region_held3 (fun W=>W.cell? ⟨w.heap.size,5,none⟩=some (.int .i64 Bn)/\W.cell? ⟨w.heap.size,6,none⟩=some (.int .i64 P9))
      (first|exact⟨e5,e6⟩|exact⟨k5,k6⟩)
      (first|(go_at_call 21;refine HFL.out.mono ?_;rintro e w6 ⟨rfl,r6,f6⟩;have k5:w6.cell? ⟨w.heap.size,5,none⟩=some (.int .i64 Bn):=(aj (f6.block w.heap.size (show w.heap.size<wr.heap.size by omega) (by omega))).trans e5;have k6:w6.cell? ⟨w.heap.size,6,none⟩=some (.int .i64 P9):=(aj (f6.block w.heap.size (show w.heap.size<wr.heap.size by omega) (by omega))).trans e6;have R6:=a_ r6;have F6:Hid (Frame (fun k=>k=w4.heap.size) wr w6):=a_ ⟨f6.os,f6.tape,f6.output,f6.size,f6.block⟩;clear r6 f6))
     all_goals
      clear e5 e6 k5 k6 y0 y1 y2 y3;have y0:=R6.out.cell 0 rfl;have y1:=R6.out.cell 1 rfl;have y2:=R6.out.cell 2 rfl;have y3:=R6.out.cell 3 rfl;by_cases yK:g.stack=[]
      ·have CP:=yK;by_cases lB:g.nodes=[]
       ·have hc1:decide (0<g.stack.length)=false:=by rw[CP];rfl
        have hc2:(g.nodes.length==0)=true:=by rw[lB];rfl
        have hc3:decide (g.nodes.length=0)=true:=by rw[lB];rfl
        clear CP yK lB;go_wp2_with fail;refine(iX R6.out _ _).mono ?_;rintro e w7 ⟨rfl,r7,f7⟩;rw[if_neg H0.out,if_neg H0.out]at r7;have R7:=a_ r7;have F7:=a_ f7;clear r7 f7;have y0:=R7.out.cell 0 rfl;have y1:=R7.out.cell 1 rfl;have y2:=R7.out.cell 2 rfl;have y3:=R7.out.cell 3 rfl;go_wp2_with fail;go_quiet(fail);go_wp2
        go_ret3
        rw[qW];exact jH B4.out vZ.out (Or.inr (ju (F6.out.trans' F7.out)))
       ·have hc1:decide (0<g.stack.length)=false:=by rw[CP];rfl
        have hc2:(g.nodes.length==0)=false:=by
         cases hg:g.nodes with
         |nil=>exact absurd hg lB
         |cons a l=>rfl
        have hc3:decide (g.nodes.length=0)=false:=by simpa using lB
        clear CP yK lB;go_wp2_with fail;go_quiet(fail);go_wp2
        go_ret3
        rw[qW];exact jH B4.out vZ.out (Or.inr (ju F6.out))
      ·have hc1:decide (0<g.stack.length)=true:=by
        cases hg:g.stack with
        |nil=>exact absurd hg yK
        |cons a l=>simp
       clear yK;go_wp2_with fail;refine(iX R6.out _ _).mono ?_;rintro e w7 ⟨rfl,r7,f7⟩;rw[if_neg H0.out,if_neg H0.out]at r7;have R7:=a_ r7;have F7:=a_ f7;clear r7 f7;have y0:=R7.out.cell 0 rfl;have y1:=R7.out.cell 1 rfl;have y2:=R7.out.cell 2 rfl;have y3:=R7.out.cell 3 rfl;go_wp2_with fail;go_quiet(fail);go_wp2
       go_ret3
       rw[qW];exact jH B4.out vZ.out (Or.inr (ju (F6.out.trans' F7.out)))
end
end K
end Go.Proofs.YtjecakcpcnmieaaGreatDoor
