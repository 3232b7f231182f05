import Derived.Test.YtclgfepngpeifaaGreatDoorXA
import Derived.Test.YtclgfepngpeifaaGreatDoorXaw
import Derived.Test.YtclgfepngpeifaaGreatDoorXax
import Derived.Test.YtclgfepngpeifaaGreatDoorXau
set_option linter.unusedVariables false
set_option linter.unusedSimpArgs false
set_option maxHeartbeats 32000000
set_option maxRecDepth 100000
namespace Go.Proofs.YtclgfepngpeifaaGreatDoor
namespace K
open Go.RowKit Go.Maps Go.Lib Tryz
section
variable{A K K':Nat->Prop}{w w' w1 w2:World}{nv ov a:Value}{av kv:Nat->Value}{g:Gr}{Y:Nat}{er q:Int}
theorem fW.more{g':Gr}{er' q':Int}{jX vt:Value}{je jQ:Nat->Value}(h:fW A K Y w g er q nv ov av kv)(hz:w.heap.size<=w'.heap.size)(r:fW A K Y w' g' er' q' jX vt je jQ):fW A (Grow K w w') Y w' g' er' q' jX vt je jQ:=by
 have xz:=dQ h.blk;refine r.Gn (fun k _ x=>Or.inl x) ?_ ?_ (iu h.lt hz)
 ·rintro(x|x)
  ·exact h.nK x
  ·omega
 ·rintro k hA (x|x)
  ·exact h.rY k hA x
  ·have:=h.sD k hA;omega
theorem Cn(fr:Frame (fun k=>k=Y) w w'):Frame (fun k=>k=Y\/K k) w w':=⟨fr.os,fr.tape,fr.output,fr.size,fun k hk hf=>fr.block k hk (fun e=>hf (Or.inl e))⟩
theorem Q_(h:BR A K Y w g er q)(hb:g.nodes.length<=17179869184)(t:eX)(va:Value)(hz:t.text.length<=9223372036854775807)(ha:w.ownsRow 0 212 2 va t.attrs.length (d_ t.attrs))(mz:∀k,va.ownBlock=some k->A k):
  Z4 23 #[Z8 Y,l7 t va] w (Kt A K Y w (q8 g er q t)):=by
 obtain⟨⟨nv,ov,av,kv,hr⟩,hk,wf⟩:=h;have XZ:=wf.take t;have l9:=dS ha;obtain⟨ai,ac,l9⟩:=l9;unfold q8;by_cases h0:er≠0
 ·rw[if_pos h0];subst l9;refine(Nc hr h0 t ai _ ac).mono ?_;rintro e w' ⟨rfl,m⟩;exact⟨rfl,⟨⟨nv,ov,av,kv,hr.more m.size (hr.keep m)⟩,hk,wf⟩,m.frame⟩
 ·rw[if_neg h0];obtain rfl:er=0:=by simpa using h0
  --what a refusal leaves
  have bad:∀(no:Int) (w':World),fW A K Y w' g no t.at_ nv ov av kv->Frame (fun k=>k=Y) w w'->Kt A K Y w (g,no,t.at_) (.returned (.tuple #[])) w':=fun no w' r f=>⟨rfl,⟨⟨nv,ov,av,kv,hr.more f.size r⟩,hk,wf⟩,Cn f⟩
  have same:∀w',dZ w w'->Kt A K Y w (g,0,q) (.returned (.tuple #[])) w':=fun w' m=>⟨rfl,⟨⟨nv,ov,av,kv,hr.more m.size (hr.keep m)⟩,hk,wf⟩,m.frame⟩
  by_cases ny:t.kind=1
  ·by_cases h1:g.stack=[]/\g.nodes≠[]
   ·have e:g.take t=(7,g):=by unfold Gr.take;rw[if_pos ny,if_pos h1]
    rw[e,if_pos (by simp)];subst l9;unfold l7;rw[ny];refine(Jv hr t h1.1 h1.2 ai _ ac).mono ?_;rintro e w' ⟨rfl,r,f⟩;exact bad 7 w' r f
   ·by_cases h2:30<=g.stack.length
    ·have e:g.take t=(8,g):=by unfold Gr.take;rw[if_pos ny,if_neg h1,if_pos h2]
     rw[e,if_pos (by simp)];cases hs:g.stack with
     |nil=>rw[hs]at h2;simp at h2
     |cons k st=>
      subst l9;unfold l7;rw[ny];refine(Jw hr t k st hs h2 ai _ ac).mono ?_;rintro e w' ⟨rfl,r,f⟩;exact bad 8 w' r f
    ·have e:g.take t=(0,{ (g.put (elemOf t))with stack:=g.nodes.length::g.stack}):=by unfold Gr.take;rw[if_pos ny,if_neg h1,if_neg h2]
     rw[e]at XZ ⊢;rw[if_neg (by simp)];have fin:∀w' jX vt je jQ,fW A (Grow K w w') Y w' { (g.put (elemOf t))with stack:=g.nodes.length::g.stack} 0 q jX vt je jQ->Frame (fun k=>k=Y\/K k) w w'->Kt A K Y w ({ (g.put (elemOf t))with stack:=g.nodes.length::g.stack},0,q) (.returned (.tuple #[])) w':=fun w' jX vt je jQ r f=>⟨rfl,⟨⟨jX,vt,je,jQ,r⟩,hk.put (elemOf t) rfl,XZ⟩,f⟩
     unfold l7;rw[ny];cases hs:g.stack with
     |nil=>
      have hn:g.nodes=[]:=bD fun x=>h1 ⟨hs,x⟩;refine(Gs hr wf hk hb t va ha mz hs hn (by omega)).mono ?_;rintro e w' ⟨rfl,jX,vt,je,jQ,r,f⟩;rw[hs]at r fin;exact fin w' jX vt je jQ r f
     |cons k st=>
      refine(Gt hr wf hk hb t va ha mz k st hs (by omega)).mono ?_;rintro e w' ⟨rfl,jX,vt,je,jQ,r,f⟩;rw[hs]at r fin;exact fin w' jX vt je jQ r f
  ·by_cases hk2:t.kind=2
   ·cases hs:g.stack with
    |nil=>
     have e:g.take t=(6,g):=by unfold Gr.take;rw[if_neg ny,if_pos hk2,hs]
     rw[e,if_pos (by simp)];subst l9;unfold l7;rw[hk2];refine(Jy hr t hs ai _ ac).mono ?_;rintro e w' ⟨rfl,r,f⟩;exact bad 6 w' r f
    |cons k st=>
     obtain⟨m,hm,og,_⟩:=wf.top hs;by_cases ri:g.named k t.name=true
     ·have e:g.take t=(0,{g with stack:=st}):=by unfold Gr.take;rw[if_neg ny,if_pos hk2,hs];simp only[ri,if_true]
      rw[e]at XZ ⊢;rw[if_neg (by simp)];have hname:m.name=t.name:=by
       have:=(wD g k t.name).1 ri;rw[hm]at this;simpa using this
      subst l9;unfold l7;rw[hk2];refine(Jz hr t k st m hs hm hname ai _ ac).mono ?_;rintro e w' ⟨rfl,vt,r,f⟩;exact⟨rfl,⟨⟨nv,vt,av,kv,hr.more f.size r⟩,hk,XZ⟩,Cn f⟩
     ·have e:g.take t=(6,g):=by unfold Gr.take;rw[if_neg ny,if_pos hk2,hs];simp only[ri,aQ,aA]
      rw[e,if_pos (by simp)];have hname:m.name≠t.name:=fun e=>ri ((wD g k t.name).2 (by rw[hm];simp[e]));subst l9;unfold l7;rw[hk2];refine(Gq hr t k st m hs hm hname ai _ ac).mono ?_;rintro e w' ⟨rfl,r,f⟩;exact bad 6 w' r f
   ·cases hs:g.stack with
    |nil=>
     by_cases hbl:gC t.text=true
     ·have e:g.take t=(0,g):=by unfold Gr.take;rw[if_neg ny,if_neg hk2,hs];simp only[hbl,if_true]
      rw[e,if_neg (by simp)];subst l9;refine(xA hr t ny hk2 hs hbl hz ai _ ac).mono ?_;rintro e w' ⟨rfl,m⟩;exact same w' m
     ·have e:g.take t=(7,g):=by unfold Gr.take;rw[if_neg ny,if_neg hk2,hs];simp only[hbl,aQ,aA]
      rw[e,if_pos (by simp)];subst l9;refine(AE hr t ny hk2 hs hbl hz ai _ ac).mono ?_;rintro e w' ⟨rfl,r,f⟩;exact bad 7 w' r f
    |cons k st=>
     have e:g.take t=(0,g.put (ja t)):=by unfold Gr.take;rw[if_neg ny,if_neg hk2,hs]
     rw[e]at XZ ⊢;rw[if_neg (by simp)];subst l9;refine(QZ hr wf hk hb t ny hk2 k st hs hz ai _ ac).mono ?_;rintro e w' ⟨rfl,jX,je,jQ,r,f⟩;exact⟨rfl,⟨⟨jX,ov,je,jQ,r⟩,hk.put (ja t) rfl,XZ⟩,f⟩
end
section
variable{A K K' F:Nat->Prop}{w w' w1 w2 w4 wr:World}{nv ov a v:Value}{av kv:Nat->Value}{g:Gr}{X Y:Nat}{er q:Int}{l T:List eX}
theorem nE.at:∀{l:List eX} {cs:List Value},nE F X w l cs->∀(i:Nat) (hi:i<l.length),∃va,w.ownsRow 0 212 2 va (l[i]).attrs.length (d_ (l[i]).attrs)/\cs[i*5]?=some (.int .i64 (l[i]).kind)/\cs[i*5+1]?=some (eu (l[i]).name)/\cs[i*5+2]?=some va/\cs[i*5+3]?=some (eu (l[i]).text)/\cs[i*5+4]?=some (.int .i64 (l[i]).at_)
 |[],_,_,i,hi=>absurd hi (Nat.not_lt_zero _)
 |t::l,_,⟨v,cs,e,ho,hf,hl⟩,i,hi=>by
  subst e;cases i with
  |zero=>exact⟨v,ho,rfl,rfl,rfl,rfl,rfl⟩
  |succ i=>
   obtain⟨va,a0,a1,a2,a3,a4,a5⟩:=nE.at hl i (by simpa using hi);have e1:∀j,(i+1)*5+j=(eB t v).length+(i*5+j):=fun j=>by show _=5+_;omega
   have e2:∀j,(eB t v++cs)[(i+1)*5+j]?=cs[i*5+j]?:=fun j=>by rw[e1,aW (cG _ _),Nat.add_sub_cancel_left]
   exact⟨va,a0,(e2 0).trans a1,(e2 1).trans a2,(e2 2).trans a3,(e2 3).trans a4,(e2 4).trans a5⟩
theorem Qz.at(h:Qz w v l)(i:Nat)(hi:i<l.length):∃g cap va,v=Z9 g l.length cap/\w.ownsRow 0 212 2 va (l[i]).attrs.length (d_ (l[i]).attrs)/\
  w.cell? ⟨g,i*5,none⟩=some (.int .i64 (l[i]).kind)/\w.cell? ⟨g,i*5+1,none⟩=some (eu (l[i]).name)/\w.cell? ⟨g,i*5+2,none⟩=some va/\w.cell? ⟨g,i*5+3,none⟩=some (eu (l[i]).text)/\w.cell? ⟨g,i*5+4,none⟩=some (.int .i64 (l[i]).at_)/\l.length<=maxLen:=by
 obtain⟨F,X,cs,h1,h2⟩:=h;rcases h1.2 with⟨e,e0⟩|⟨g,cap,cur,e,_,_,Uq,NQ,_⟩
 ·omega
 subst e;have hc:=h1.cells (g:=g) rfl;obtain⟨va,a0,a1,a2,a3,a4,a5⟩:=h2.at i hi;have up:∀j u,cs[j]?=some u->w.cell? ⟨g,j,none⟩=some u:=fun j u hj=>by
  have:=hc j u hj;rwa[Addr.add_mid,aG]at this
 exact⟨g,cap,va,rfl,a0,up _ _ a1,up _ _ a2,up _ _ a3,up _ _ a4,up _ _ a5,aw Uq NQ⟩
theorem Nh(h:Qz w v l):∃b c,v=.slice b l.length c/\l.length<=maxLen:=by
 obtain⟨F,X,cs,o,_⟩:=h;rcases o.2 with⟨rfl,e⟩|⟨g,cap,cur,rfl,_,_,h1,h2,_⟩
 ·rw[e];exact⟨none,0,rfl,aB _⟩
 ·exact⟨_,_,rfl,aw h1 h2⟩
def pq:Gr×Int×Int->List eX->Gr×Int×Int
 |x,[]=>x
 |x,t::l=>pq (q8 x.1 x.2.1 x.2.2 t) l
theorem zO:∀(l:List eX) (g:Gr) (er q:Int),er≠0->pq (g,er,q) l=(g,er,q)
 |[],_,_,_,_=>rfl
 |t::l,g,er,q,h=>by
  simp only[pq];have:q8 g er q t=(g,er,q):=by unfold q8;rw[if_pos h]
  rw[this];exact zO l g er q h
theorem xf:∀(l:List eX) (g:Gr) (q:Int),pq (g,0,q) l=if(grow g l).1≠0 then((grow g l).2.2,(grow g l).1,(grow g l).2.1)else((grow g l).2.2,0,q)
 |[],g,q=>by simp[pq,grow]
 |t::l,g,q=>by
  simp only[pq];by_cases h:(g.take t).1=0
  ·have e:q8 g 0 q t=((g.take t).2,0,q):=by unfold q8;rw[if_neg (by simp),if_neg (by simpa using h)]
   have eg:grow g (t::l)=grow (g.take t).2 l:=by simp only[grow];rw[if_neg (by simpa using h)]
   rw[e,xf l,eg]
  ·have e:q8 g 0 q t=(g,(g.take t).1,t.at_):=by unfold q8;rw[if_neg (by simp),if_pos h]
   have eg:grow g (t::l)=((g.take t).1,t.at_,g):=by simp only[grow];rw[if_pos h]
   rw[e,zO _ _ _ _ h,eg,if_pos h]
structure BI(w4:World)(T:List eX)(wr:World)(k:Nat):Prop where
 ex:∃g er q Kx,BR (fun j=>j<w4.heap.size) Kx w4.heap.size wr g er q/\(∀j,Kx j->w4.heap.size<=j)/\pq (Gr.zero,0,0) T=pq (g,er,q) (T.drop k)/\g.nodes.length<=k
 more:dZ w4 wr
theorem BI.start:BI w4 T (w4.alloc (.cells #[.slice none 0 0,.slice none 0 0,.int .i64 0,.int .i64 0] 68)) 0:=by refine⟨⟨Gr.zero,0,0,fun _=>False,⟨⟨fh,fh,_,_,⟨dR w4 _,gX.zero,⟨rfl,Or.inl ⟨rfl,rfl⟩⟩,(fun k e=>by cases e),(fun x=>absurd x (Nat.lt_irrefl _)),(fun x=>x),(fun _ _ x=>x),(fun _ x=>x.elim),(fun k x=>by have x':k<w4.heap.size:=x;simp;omega)⟩⟩,(fun i m hi=>by simp[Gr.zero]at hi),Gr.Wf.zero⟩,fun _ x=>x.elim,by simp,by simp[Gr.zero]⟩,(dZ.refl w4).alloc _⟩
theorem Ni(g:Gr)(er q:Int)(t:eX):(q8 g er q t).1.nodes.length<=g.nodes.length+1:=by
 have:(g.take t).2.nodes.length<=g.nodes.length+1:=by
  unfold Gr.take;split
  ·split
   ·simp
   ·split
    ·simp
    ·simp only[lW];omega
  ·split
   ·split
    ·simp
    ·split<;>simp
   ·split
    ·split<;>simp
    ·rw[lW];omega
 unfold q8;split
 ·simp
 ·split
  ·simp
  ·exact this
theorem BI.call{k:Nat}(h:BI w4 T wr k)(hk:k<T.length)(hb:T.length<=17179869184)(va:Value)(hz:(T[k]).text.length<=9223372036854775807)(ha:w4.ownsRow 0 212 2 va (T[k]).attrs.length (d_ (T[k]).attrs))(W:World)(hW:dZ wr W):
  Z4 23 #[.pointer (some ⟨w4.heap.size,0,none⟩),l7 (T[k]) va] W fun e w'=>e=.returned (.tuple #[])/\BI w4 T w' (k+1):=by
 obtain⟨⟨g,er,q,Kx,hg,hKx,hgr,hlen⟩,hM⟩:=h;have tZ:=hM.trans hW;have hdrop:T.drop k=T[k]::T.drop (k+1):=(cw hk)
 refine(Q_ (hg.keep hW) (by omega) (T[k]) va hz (dW ha fun b e=>tZ.keep b (ej ha e)) (fun b e=>ej ha e)).mono ?_;rintro e w' ⟨rfl,r,fr⟩;have hM3:dZ w4 w':=⟨fr.os.trans tZ.os,fr.tape.trans tZ.tape,fr.output.trans tZ.output,aw tZ.size fr.size,fun b hb2=>by
  rw[fr.block b (aq hb2 tZ.size) (fun x=>by
   rcases x with e|e
   ·omega
   ·have:=hKx b e;omega)]
  exact tZ.keep b hb2⟩
 refine⟨rfl,⟨_,_,_,_,r,?_,?_,?_⟩,hM3⟩
 ·rintro j (e|e)
  ·exact hKx j e
  ·have:=e.1;have:=tZ.size;omega
 ·rw[hgr,hdrop];rfl
 ·have:=Ni g er q (T[k]);omega
theorem BI.over(h:BI w4 T wr T.length):∃g er q Kx,BR (fun j=>j<w4.heap.size) Kx w4.heap.size wr g er q/\(∀j,Kx j->w4.heap.size<=j)/\pq (Gr.zero,0,0) T=(g,er,q):=by
 obtain⟨⟨g,er,q,Kx,h1,h2,h3,_⟩,_⟩:=h;refine⟨g,er,q,Kx,h1,h2,?_⟩;rw[h3,List.drop_length];rfl
end
section
variable{A K K' F:Nat->Prop}{w w' w1 w2 w4 wr:World}{nv ov a v:Value}{av kv:Nat->Value}{g:Gr}{X Y:Nat}{er q:Int}{l T:List eX}
def Co(w:World)(x:List Nd×Int×Int)(e:Ending)(w':World):Prop:=∃v,e=.returned (.tuple #[v,.int .i64 x.2.1,.int .i64 x.2.2])/\(∃A K av kv,gX 120 212 A K w' v x.1 av kv)/\Below w.heap.size w w'
structure Xf(w:World)(s:ByteArray)(v:Value)(w4:World):Prop where
 ans:Qz w4 v ((ee s).l++(ee s).last)
 below:Below w.heap.size w w4
 err:w4.cell? ⟨w.heap.size,5,none⟩=some (.int .i64 (ee s).err)
 at_:w4.cell? ⟨w.heap.size,6,none⟩=some (.int .i64 (ee s).at_)
theorem Nj(s:ByteArray)(w:World)(hs:s.size<=268435456):
  Z4 21 #[.string s] w fun e w1=>e=.returned (.pointer (some ⟨w.heap.size,0,none⟩))/\∃lv,(∃o n c,lv=.slice o n c)/\Z4 22 #[.pointer (some ⟨w.heap.size,0,none⟩)] w1 fun e w2=>∃v2,e=.returned v2/\w2.cell? ⟨w.heap.size,2,none⟩=some lv/\∃v' w4,(Builtin.append_ #[62,62] 62 #[lv,v2]).run prog w2=.ok v' w4/\Xf w s v' w4:=by
 have hlen:=QC s;refine(Qx s w (by omega)).mono ?_;rintro e w1 ⟨rfl,F,lv,cs,rs,b1,hF⟩;refine⟨rfl,lv,?_,(QA rs.sat).mono ?_⟩
 ·obtain⟨o,c,e⟩:=dS rs.row;exact⟨o,_,c,e⟩
 rintro e w2 ⟨v2,rfl,b2,hv⟩;have qY:w.heap.size<w1.heap.size:=rs.lt _ rs.has;have U6:w2.heap[w.heap.size]?=w1.heap[w.heap.size]?:=b2.block _ qY;have c2:w1.cell? ⟨w.heap.size,2,none⟩=some lv:=rs.sat.cell 2 rfl;have c5:w1.cell? ⟨w.heap.size,5,none⟩=some (.int .i64 (ee s).err):=rs.sat.cell 5 rfl;have c6:w1.cell? ⟨w.heap.size,6,none⟩=some (.int .i64 (ee s).at_):=rs.sat.cell 6 rfl;obtain⟨v',w4,hrun,Ra,hgr⟩:=QB rs b2 v2 hv (by omega);have abe:lv.ownBlock≠some w.heap.size:=rs.ne;have hz2:=b2.size;have U7:w4.heap[w.heap.size]?=w1.heap[w.heap.size]?:=(hgr.block _ (by omega) (fun e=>abe e.symm)).trans U6;have hb4:Below w.heap.size w w4:=by
  refine(b1.trans (eG b2 b1.size)).trans ⟨hgr.os,hgr.tape,hgr.output,hgr.size,fun k hk=>hgr.block k (by omega) (fun e=>?_)⟩;have:=hF k (rs.own k e.symm).1;omega
 exact⟨v2,rfl,(ar (a:=⟨w.heap.size,2,none⟩) U6).trans c2,v',w4,hrun,⟨Ra,hb4,(ar (a:=⟨w.heap.size,5,none⟩) U7).trans c5,(ar (a:=⟨w.heap.size,6,none⟩) U7).trans c6⟩⟩
theorem Rb{T:List eX}{g:Gr}{q:Int}(h:(if(grow Gr.zero T).1≠0 then((grow Gr.zero T).2.2,(grow Gr.zero T).1,(grow Gr.zero T).2.1)else((grow Gr.zero T).2.2,0,0))=(g,0,q)):(grow Gr.zero T).1=0/\(grow Gr.zero T).2.2=g:=by
 by_cases hx:(grow Gr.zero T).1=0
 ·rw[if_neg (by simpa using hx)]at h;simp only[cq]at h;exact⟨hx,h.1⟩
 ·rw[if_pos hx]at h;simp only[cq]at h;exact absurd h.2.1 hx
theorem Nk{T:List eX}{g:Gr}{er q:Int}(he:er≠0)(h:(if(grow Gr.zero T).1≠0 then((grow Gr.zero T).2.2,(grow Gr.zero T).1,(grow Gr.zero T).2.1)else((grow Gr.zero T).2.2,0,0))=(g,er,q)):(grow Gr.zero T).1≠0/\(grow Gr.zero T).1=er/\(grow Gr.zero T).2.1=q:=by
 by_cases hx:(grow Gr.zero T).1=0
 ·rw[if_neg (by simpa using hx)]at h;simp only[cq]at h;exact absurd h.2.1.symm he
 ·rw[if_pos hx]at h;simp only[cq]at h;exact⟨hx,h.2.1,h.2.2⟩
theorem xg(b4:Below w.heap.size w w4)(hM:dZ w4 w'):Below w.heap.size w w':=b4.trans ⟨hM.os,hM.tape,hM.output,hM.size,fun k hk=>hM.keep k (aq hk b4.size)⟩
theorem iN{F:Nat->Prop}{n:Nat}(f:Frame F w w'):Frame F w (w'.drewN n):=⟨f.os,f.tape,f.output,f.size,f.block⟩
theorem jd{no p:Int}(b4:Below w.heap.size w w4)(hM:dZ w4 wr)(f:dZ wr w'\/Frame (fun k=>k=w4.heap.size) wr w'):Co w ([],no,p) (.returned (.tuple #[.slice none 0 0,.int .i64 no,.int .i64 p])) w':=by
 have tZ:dZ w4 w':=by
  rcases f with f|f
  ·exact hM.trans f
  ·exact⟨f.os.trans hM.os,f.tape.trans hM.tape,f.output.trans hM.output,aw hM.size f.size,fun b hb=>(f.block b (aq hb hM.size) (by omega)).trans (hM.keep b hb)⟩
 exact⟨fh,rfl,⟨fun _=>False,fun _=>False,_,_,gX.zero⟩,xg b4 tZ⟩
theorem Cp(s:ByteArray)(w:World)(hs:s.size<=268435456):Z4 6 #[.string s] w (Co w (eJ s)):=by
 have hst:=Nj s w hs;have QQ:=says s;have hlen:=Ck s;have MN:=zI s;have HST:=a_ hst;have AB:=a_ QQ;have WT:=a_ hlen;have HTX:=a_ MN;clear hst QQ hlen MN;go_enter func6,ntmps6;go_wp2_with fail;refine HST.out.mono ?_;rintro e w1 ⟨rfl,lv,⟨lo,ln,lc,rfl⟩,zS⟩;go_wp2_with fail;refine zS.mono ?_;rintro e w2 ⟨v2,rfl,c2,v',w4,hrun,Rx⟩;have Ra:=Rx.ans;have hb4:=Rx.below;have he4:=Rx.err;have ha4:=Rx.at_;generalize (ee s).l++(ee s).last=T at*
 generalize (ee s).err=DR at*
 generalize (ee s).at_=Rw at*
 obtain⟨bl,cl,el,hmx⟩:=Nh Ra;subst el;have AN4:=a_ Ra;have B4:=a_ hb4;have E4:=a_ he4;have T4:=a_ ha4;have HMX:=a_ hmx;clear Rx Ra hb4 he4 ha4 hmx zS HST;go_wp2_with(at_builtin;refine DK rfl (.tmp 17) (.tmp 18) rfl rfl _ _ rfl rfl hrun ?_);have aad:w.heap.size<w4.heap.size:=aD w4 _ E4.out;go_loopw [9] (fun iv wr=>∃k:Nat,iv=.int .i64 k/\k<=T.length/\BI w4 T wr k) (fun iv _=>T.length-(RowKit.intOf iv).toNat)
 case atStart=>exact⟨0,rfl,aB _,BI.start⟩
 case round=>
  obtain⟨k,rfl,hk,Ry⟩:=hrel;by_cases vS:k<T.length
  ·have hdec:decide ((k:Int)<T.length)=true:=by simp;omega
   have Gi:decide (k<T.length)=true:=by simp;omega
   have XV:(k:Int)<T.length:=by omega
   have ZM:(T.length:Int)<=9223372036854775807:=by have:=HMX.out;have:maxLen=9223372036854775807:=rfl;omega
   obtain⟨gT,cT,va,eT,oa,x0,x1,x2,x3,x4,_⟩:=AN4.out.at k vS;have uj:=WT.out;have eR:=Ry.call vS (by omega) va (by have:=HTX.out _ (bQ vS);omega) oa wr (dZ.refl wr);obtain⟨ai,ac,l9⟩:=dS oa;cases eT;have hlt:gT<w4.heap.size:=aD w4 _ x0;subst l9;unfold eu at x1 x3;unfold l7 eu at eR;have y0:=(ar (a:=⟨gT,k*5,none⟩) (Ry.more.keep gT hlt)).trans x0;have y1:=(ar (a:=⟨gT,k*5+1,none⟩) (Ry.more.keep gT hlt)).trans x1;have y2:=(ar (a:=⟨gT,k*5+2,none⟩) (Ry.more.keep gT hlt)).trans x2;have y3:=(ar (a:=⟨gT,k*5+3,none⟩) (Ry.more.keep gT hlt)).trans x3;have y4:=(ar (a:=⟨gT,k*5+4,none⟩) (Ry.more.keep gT hlt)).trans x4;have HC:=a_ eR;clear eR Ry oa x0 x1 x2 x3 x4 uj;generalize T[k]=t at*
   go_wp2_with fail;refine HC.out.mono ?_;rintro e w5 ⟨rfl,mh⟩;have HB5:=a_ mh;clear mh;go_wp2
   go_roundw
   case rel=>exact⟨k+1,by simp,by omega,HB5.out⟩
   case measure=>simp only[RowKit.intOf];omega
  ·have hdec:decide ((k:Int)<T.length)=false:=by simp;omega
   have Gi:decide (k<T.length)=false:=by simp;omega
   have he:k=T.length:=by omega
   subst he;have hM:=Ry.more;obtain⟨g,er,q,Kx,⟨⟨nv,ov,av,kv,hr⟩,_,_⟩,hKx,hgr⟩:=Ry.over;rw[xf]at hgr;obtain⟨ni,nc,pW⟩:=dS hr.nodes.row;obtain⟨oi,oc,hov⟩:=dS hr.opens;subst pW;subst hov;have e5:wr.cell? ⟨w.heap.size,5,none⟩=some (.int .i64 DR):=(ar (hM.keep _ aad)).trans E4.out;have e6:wr.cell? ⟨w.heap.size,6,none⟩=some (.int .i64 Rw):=(ar (hM.keep _ aad)).trans T4.out;have Ia:=a_ hgr;have HR:=a_ hr;have vo:=a_ hM;clear Ry hgr hr hM hKx;have hsz:(s.size:Int)<=9223372036854775807:=by omega
   by_cases h0:er=0
   ·subst h0;have hg0:(grow Gr.zero T).1=0/\(grow Gr.zero T).2.2=g:=Rb Ia.out;by_cases h1:DR=0
    ·subst h1;by_cases xR:g.stack=[]
     ·have Cq:=xR;by_cases k9:g.nodes=[]
      ·have pU:=AB.out.form hg0.1 rfl (Or.inr (by rw[hg0.2];exact k9));have hc1:decide (0<g.stack.length)=false:=by rw[Cq];rfl
       have hc2:(g.nodes.length==0)=true:=by rw[k9];rfl
       have hc3:decide (g.nodes.length=0)=true:=by rw[k9];rfl
       clear hg0;clear Cq xR k9;have y0:=HR.out.cell 0 rfl;have y1:=HR.out.cell 1 rfl;have y2:=HR.out.cell 2 rfl;have y3:=HR.out.cell 3 rfl;go_wp2_with fail;refine(im HR.out _ _).mono ?_;rintro e w6 ⟨rfl,r6,f6⟩;simp only[if_true]at r6;have R6:=a_ r6;have F6:=a_ f6;clear r6 f6;have y0:=R6.out.cell 0 rfl;have y1:=R6.out.cell 1 rfl;have y2:=R6.out.cell 2 rfl;have y3:=R6.out.cell 3 rfl;go_wp2_with fail;go_quiet(fail);go_wp2
       go_ret3
       rw[pU];exact jd B4.out vo.out (Or.inr (iN F6.out))
      ·have pU:=AB.out.ok hg0.1 rfl (by rw[hg0.2];exact Cq) (by rw[hg0.2];exact k9);rw[hg0.2]at pU;have hc1:decide (0<g.stack.length)=false:=by rw[Cq];rfl
       have hc2:(g.nodes.length==0)=false:=by
        cases hg:g.nodes with
        |nil=>exact absurd hg k9
        |cons a l=>rfl
       have hc3:decide (g.nodes.length=0)=false:=by simpa using k9
       clear hg0;clear Cq xR k9;have y0:=HR.out.cell 0 rfl;have y1:=HR.out.cell 1 rfl;have y2:=HR.out.cell 2 rfl;have y3:=HR.out.cell 3 rfl;go_wp2_with fail
       go_ret3
       rw[pU];exact⟨_,rfl,⟨_,_,_,_,HR.out.nodes⟩,xg B4.out vo.out⟩
     ·have pU:=AB.out.form hg0.1 rfl (Or.inl (by rw[hg0.2];exact xR));have hc1:decide (0<g.stack.length)=true:=by
       cases hg:g.stack with
       |nil=>exact absurd hg xR
       |cons a l=>simp
      clear hg0;clear xR;have y0:=HR.out.cell 0 rfl;have y1:=HR.out.cell 1 rfl;have y2:=HR.out.cell 2 rfl;have y3:=HR.out.cell 3 rfl;go_wp2_with fail;refine(im HR.out _ _).mono ?_;rintro e w6 ⟨rfl,r6,f6⟩;simp only[if_true]at r6;have R6:=a_ r6;have F6:=a_ f6;clear r6 f6;have y0:=R6.out.cell 0 rfl;have y1:=R6.out.cell 1 rfl;have y2:=R6.out.cell 2 rfl;have y3:=R6.out.cell 3 rfl;go_wp2_with fail;go_quiet(fail);go_wp2
      go_ret3
      rw[pU];exact jd B4.out vo.out (Or.inr (iN F6.out))
    ·have pU:=AB.out.err hg0.1 h1;have rZ:(DR !=0)=true:=by simpa using h1
     have H1:=a_ h1;clear hg0 h1;have y0:=HR.out.cell 0 rfl;have y1:=HR.out.cell 1 rfl;have y2:=HR.out.cell 2 rfl;have y3:=HR.out.cell 3 rfl;have rz:=im (HR.out.keep (W:=wr.drew) ((dZ.refl wr).drewN 1)) DR Rw;simp only[if_true]at rz;have ZE:=a_ rz;clear rz;have abf:w4.heap.size<=wr.heap.size:=vo.out.size;go_wp2_with fail;go_region_held3 (fun W=>W.cell? ⟨w.heap.size,5,none⟩=some (.int .i64 DR)/\W.cell? ⟨w.heap.size,6,none⟩=some (.int .i64 Rw))
      (first|exact⟨e5,e6⟩|exact⟨k5,k6⟩)
      (first|(go_at_call 24;refine ZE.out.mono ?_;rintro e w6 ⟨rfl,r6,f6⟩;have k5:w6.cell? ⟨w.heap.size,5,none⟩=some (.int .i64 DR):=(ar (f6.block w.heap.size (show w.heap.size<wr.heap.size by omega) (by omega))).trans e5;have k6:w6.cell? ⟨w.heap.size,6,none⟩=some (.int .i64 Rw):=(ar (f6.block w.heap.size (show w.heap.size<wr.heap.size by omega) (by omega))).trans e6;have R6:=a_ r6;have F6:Hid (Frame (fun k=>k=w4.heap.size) wr w6):=a_ ⟨f6.os,f6.tape,f6.output,f6.size,f6.block⟩;clear r6 f6))
     all_goals
      clear e5 e6 k5 k6 y0 y1 y2 y3;have y0:=R6.out.cell 0 rfl;have y1:=R6.out.cell 1 rfl;have y2:=R6.out.cell 2 rfl;have y3:=R6.out.cell 3 rfl;by_cases xR:g.stack=[]
      ·have Cq:=xR;by_cases k9:g.nodes=[]
       ·have hc1:decide (0<g.stack.length)=false:=by rw[Cq];rfl
        have hc2:(g.nodes.length==0)=true:=by rw[k9];rfl
        have hc3:decide (g.nodes.length=0)=true:=by rw[k9];rfl
        clear Cq xR k9;go_wp2_with fail;refine(im R6.out _ _).mono ?_;rintro e w7 ⟨rfl,r7,f7⟩;rw[if_neg H1.out,if_neg H1.out]at r7;have R7:=a_ r7;have F7:=a_ f7;clear r7 f7;have y0:=R7.out.cell 0 rfl;have y1:=R7.out.cell 1 rfl;have y2:=R7.out.cell 2 rfl;have y3:=R7.out.cell 3 rfl;go_wp2_with fail;go_quiet(fail);go_wp2
        go_ret3
        rw[pU];exact jd B4.out vo.out (Or.inr (iN (F6.out.trans' F7.out)))
       ·have hc1:decide (0<g.stack.length)=false:=by rw[Cq];rfl
        have hc2:(g.nodes.length==0)=false:=by
         cases hg:g.nodes with
         |nil=>exact absurd hg k9
         |cons a l=>rfl
        have hc3:decide (g.nodes.length=0)=false:=by simpa using k9
        clear Cq xR k9;go_wp2_with fail;go_quiet(fail);go_wp2
        go_ret3
        rw[pU];exact jd B4.out vo.out (Or.inr (iN F6.out))
      ·have hc1:decide (0<g.stack.length)=true:=by
        cases hg:g.stack with
        |nil=>exact absurd hg xR
        |cons a l=>simp
       clear xR;go_wp2_with fail;refine(im R6.out _ _).mono ?_;rintro e w7 ⟨rfl,r7,f7⟩;rw[if_neg H1.out,if_neg H1.out]at r7;have R7:=a_ r7;have F7:=a_ f7;clear r7 f7;have y0:=R7.out.cell 0 rfl;have y1:=R7.out.cell 1 rfl;have y2:=R7.out.cell 2 rfl;have y3:=R7.out.cell 3 rfl;go_wp2_with fail;go_quiet(fail);go_wp2
       go_ret3
       rw[pU];exact jd B4.out vo.out (Or.inr (iN (F6.out.trans' F7.out)))
   ·have hb0:=Nk h0 Ia.out;have pU:=AB.out.tok hb0.1;rw[hb0.2.1,hb0.2.2]at pU;have D4:(er !=0)=true:=by simpa using h0
    have H0:=a_ h0;clear hb0 h0;by_cases h1:DR=0
    ·subst h1;have y0:=HR.out.cell 0 rfl;have y1:=HR.out.cell 1 rfl;have y2:=HR.out.cell 2 rfl;have y3:=HR.out.cell 3 rfl;by_cases xR:g.stack=[]
     ·have Cq:=xR;by_cases k9:g.nodes=[]
      ·have hc1:decide (0<g.stack.length)=false:=by rw[Cq];rfl
       have hc2:(g.nodes.length==0)=true:=by rw[k9];rfl
       have hc3:decide (g.nodes.length=0)=true:=by rw[k9];rfl
       clear Cq xR k9;go_wp2_with fail;refine(im HR.out _ _).mono ?_;rintro e w7 ⟨rfl,r7,f7⟩;rw[if_neg H0.out,if_neg H0.out]at r7;have R7:=a_ r7;have F7:=a_ f7;clear r7 f7;have y0:=R7.out.cell 0 rfl;have y1:=R7.out.cell 1 rfl;have y2:=R7.out.cell 2 rfl;have y3:=R7.out.cell 3 rfl;go_wp2_with fail;go_quiet(fail);go_wp2
       go_ret3
       rw[pU];exact jd B4.out vo.out (Or.inr (iN F7.out))
      ·have hc1:decide (0<g.stack.length)=false:=by rw[Cq];rfl
       have hc2:(g.nodes.length==0)=false:=by
        cases hg:g.nodes with
        |nil=>exact absurd hg k9
        |cons a l=>rfl
       have hc3:decide (g.nodes.length=0)=false:=by simpa using k9
       clear Cq xR k9;go_wp2_with fail;go_quiet(fail);go_wp2
       go_ret3
       rw[pU];exact jd B4.out vo.out (Or.inl ((dZ.refl wr).drewN _))
     ·have hc1:decide (0<g.stack.length)=true:=by
       cases hg:g.stack with
       |nil=>exact absurd hg xR
       |cons a l=>simp
      clear xR;go_wp2_with fail;refine(im HR.out _ _).mono ?_;rintro e w7 ⟨rfl,r7,f7⟩;rw[if_neg H0.out,if_neg H0.out]at r7;have R7:=a_ r7;have F7:=a_ f7;clear r7 f7;have y0:=R7.out.cell 0 rfl;have y1:=R7.out.cell 1 rfl;have y2:=R7.out.cell 2 rfl;have y3:=R7.out.cell 3 rfl;go_wp2_with fail;go_quiet(fail);go_wp2
      go_ret3
      rw[pU];exact jd B4.out vo.out (Or.inr (iN F7.out))
    ·have rZ:(DR !=0)=true:=by simpa using h1
     clear h1;have y0:=HR.out.cell 0 rfl;have y1:=HR.out.cell 1 rfl;have y2:=HR.out.cell 2 rfl;have y3:=HR.out.cell 3 rfl;have rz:=im (HR.out.keep (W:=wr.drew) ((dZ.refl wr).drewN 1)) DR Rw;rw[if_neg H0.out,if_neg H0.out]at rz;have ZE:=a_ rz;clear rz;have abf:w4.heap.size<=wr.heap.size:=vo.out.size;go_wp2_with fail;go_region_held3 (fun W=>W.cell? ⟨w.heap.size,5,none⟩=some (.int .i64 DR)/\W.cell? ⟨w.heap.size,6,none⟩=some (.int .i64 Rw))
      (first|exact⟨e5,e6⟩|exact⟨k5,k6⟩)
      (first|(go_at_call 24;refine ZE.out.mono ?_;rintro e w6 ⟨rfl,r6,f6⟩;have k5:w6.cell? ⟨w.heap.size,5,none⟩=some (.int .i64 DR):=(ar (f6.block w.heap.size (show w.heap.size<wr.heap.size by omega) (by omega))).trans e5;have k6:w6.cell? ⟨w.heap.size,6,none⟩=some (.int .i64 Rw):=(ar (f6.block w.heap.size (show w.heap.size<wr.heap.size by omega) (by omega))).trans e6;have R6:=a_ r6;have F6:Hid (Frame (fun k=>k=w4.heap.size) wr w6):=a_ ⟨f6.os,f6.tape,f6.output,f6.size,f6.block⟩;clear r6 f6))
     all_goals
      clear e5 e6 k5 k6 y0 y1 y2 y3;have y0:=R6.out.cell 0 rfl;have y1:=R6.out.cell 1 rfl;have y2:=R6.out.cell 2 rfl;have y3:=R6.out.cell 3 rfl;by_cases xR:g.stack=[]
      ·have Cq:=xR;by_cases k9:g.nodes=[]
       ·have hc1:decide (0<g.stack.length)=false:=by rw[Cq];rfl
        have hc2:(g.nodes.length==0)=true:=by rw[k9];rfl
        have hc3:decide (g.nodes.length=0)=true:=by rw[k9];rfl
        clear Cq xR k9;go_wp2_with fail;refine(im R6.out _ _).mono ?_;rintro e w7 ⟨rfl,r7,f7⟩;rw[if_neg H0.out,if_neg H0.out]at r7;have R7:=a_ r7;have F7:=a_ f7;clear r7 f7;have y0:=R7.out.cell 0 rfl;have y1:=R7.out.cell 1 rfl;have y2:=R7.out.cell 2 rfl;have y3:=R7.out.cell 3 rfl;go_wp2_with fail;go_quiet(fail);go_wp2
        go_ret3
        rw[pU];exact jd B4.out vo.out (Or.inr (iN (F6.out.trans' F7.out)))
       ·have hc1:decide (0<g.stack.length)=false:=by rw[Cq];rfl
        have hc2:(g.nodes.length==0)=false:=by
         cases hg:g.nodes with
         |nil=>exact absurd hg k9
         |cons a l=>rfl
        have hc3:decide (g.nodes.length=0)=false:=by simpa using k9
        clear Cq xR k9;go_wp2_with fail;go_quiet(fail);go_wp2
        go_ret3
        rw[pU];exact jd B4.out vo.out (Or.inr (iN F6.out))
      ·have hc1:decide (0<g.stack.length)=true:=by
        cases hg:g.stack with
        |nil=>exact absurd hg xR
        |cons a l=>simp
       clear xR;go_wp2_with fail;refine(im R6.out _ _).mono ?_;rintro e w7 ⟨rfl,r7,f7⟩;rw[if_neg H0.out,if_neg H0.out]at r7;have R7:=a_ r7;have F7:=a_ f7;clear r7 f7;have y0:=R7.out.cell 0 rfl;have y1:=R7.out.cell 1 rfl;have y2:=R7.out.cell 2 rfl;have y3:=R7.out.cell 3 rfl;go_wp2_with fail;go_quiet(fail);go_wp2
       go_ret3
       rw[pU];exact jd B4.out vo.out (Or.inr (iN (F6.out.trans' F7.out)))
end
end K
end Go.Proofs.YtclgfepngpeifaaGreatDoor
