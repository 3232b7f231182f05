import Derived.Test.YtclgfepngpeifaaGreatDoorYA
import Derived.Test.YtclgfepngpeifaaGreatDoorYaw
import Derived.Test.YtclgfepngpeifaaGreatDoorYax
import Derived.Test.YtclgfepngpeifaaGreatDoorYau
set_option linter.unusedVariables false
set_option linter.unusedSimpArgs false
set_option maxHeartbeats 32000000
set_option maxRecDepth 100000
namespace Go.Proofs.YtclgfepngpeifaaGreatDoor
namespace K
open Go.RowKit Go.Maps Go.Lib Tryz
section
variable{A K K':Nat->Prop}{w w' w1 w2:World}{nv ov a:Value}{av kv:Nat->Value}{g:Gr}{Y:Nat}{er q:Int}
theorem gb.more{g':Gr}{er' q':Int}{j4 uX:Value}{jh jS:Nat->Value}(h:gb A K Y w g er q nv ov av kv)(hz:w.heap.size<=w'.heap.size)(r:gb A K Y w' g' er' q' j4 uX jh jS):gb A (Grow K w w') Y w' g' er' q' j4 uX jh jS:=by
 have xr:=dS h.blk;refine r.Gt (fun k _ x=>Or.inl x) ?_ ?_ (iA h.lt hz)
 ·rintro(x|x)
  ·exact h.nK x
  ·omega
 ·rintro k hA (x|x)
  ·exact h.rM k hA x
  ·have:=h.rZ k hA;omega
theorem Cj(fr:Frame (fun k=>k=Y) w w'):Frame (fun k=>k=Y\/K k) w w':=⟨fr.os,fr.tape,fr.output,fr.size,fun k hk hf=>fr.block k hk (fun e=>hf (Or.inl e))⟩
theorem Rl(h:BR A K Y w g er q)(hb:g.nodes.length<=17179869184)(t:fe)(va:Value)(hz:t.text.length<=9223372036854775807)(ha:w.ownsRow 0 212 2 va t.attrs.length (ee t.attrs))(mq:∀k,va.ownBlock=some k->A k):
  Z4 23 #[Z8 Y,l6 t va] w (KD A K Y w (qN g er q t)):=by
 obtain⟨⟨nv,ov,av,kv,hr⟩,hk,wf⟩:=h;have Yt:=wf.take t;have l8:=dU ha;obtain⟨ai,ac,l8⟩:=l8;unfold qN;by_cases h0:er≠0
 ·rw[if_pos h0];subst l8;refine(Nr hr h0 t ai _ ac).mono ?_;rintro e w' ⟨rfl,m⟩;exact⟨rfl,⟨⟨nv,ov,av,kv,hr.more m.size (hr.keep m)⟩,hk,wf⟩,m.frame⟩
 ·rw[if_neg h0];obtain rfl:er=0:=by simpa using h0
  --what a refusal leaves
  have bad:∀(no:Int) (w':World),gb A K Y w' g no t.at_ nv ov av kv->Frame (fun k=>k=Y) w w'->KD A K Y w (g,no,t.at_) (.returned (.tuple #[])) w':=fun no w' r f=>⟨rfl,⟨⟨nv,ov,av,kv,hr.more f.size r⟩,hk,wf⟩,Cj f⟩
  have same:∀w',ed w w'->KD A K Y w (g,0,q) (.returned (.tuple #[])) w':=fun w' m=>⟨rfl,⟨⟨nv,ov,av,kv,hr.more m.size (hr.keep m)⟩,hk,wf⟩,m.frame⟩
  by_cases ny:t.kind=1
  ·by_cases h1:g.stack=[]/\g.nodes≠[]
   ·have e:g.take t=(7,g):=by unfold Gr.take;rw[if_pos ny,if_pos h1]
    rw[e,if_pos (by simp)];subst l8;unfold l6;rw[ny];refine(JB hr t h1.1 h1.2 ai _ ac).mono ?_;rintro e w' ⟨rfl,r,f⟩;exact bad 7 w' r f
   ·by_cases h2:30<=g.stack.length
    ·have e:g.take t=(8,g):=by unfold Gr.take;rw[if_pos ny,if_neg h1,if_pos h2]
     rw[e,if_pos (by simp)];cases hs:g.stack with
     |nil=>rw[hs]at h2;simp at h2
     |cons k st=>
      subst l8;unfold l6;rw[ny];refine(JC hr t k st hs h2 ai _ ac).mono ?_;rintro e w' ⟨rfl,r,f⟩;exact bad 8 w' r f
    ·have e:g.take t=(0,{ (g.put (elemOf t))with stack:=g.nodes.length::g.stack}):=by unfold Gr.take;rw[if_pos ny,if_neg h1,if_neg h2]
     rw[e]at Yt ⊢;rw[if_neg (by simp)];have fin:∀w' j4 uX jh jS,gb A (Grow K w w') Y w' { (g.put (elemOf t))with stack:=g.nodes.length::g.stack} 0 q j4 uX jh jS->Frame (fun k=>k=Y\/K k) w w'->KD A K Y w ({ (g.put (elemOf t))with stack:=g.nodes.length::g.stack},0,q) (.returned (.tuple #[])) w':=fun w' j4 uX jh jS r f=>⟨rfl,⟨⟨j4,uX,jh,jS,r⟩,hk.put (elemOf t) rfl,Yt⟩,f⟩
     unfold l6;rw[ny];cases hs:g.stack with
     |nil=>
      have hn:g.nodes=[]:=bE fun x=>h1 ⟨hs,x⟩;refine(Gw hr wf hk hb t va ha mq hs hn (by omega)).mono ?_;rintro e w' ⟨rfl,j4,uX,jh,jS,r,f⟩;rw[hs]at r fin;exact fin w' j4 uX jh jS r f
     |cons k st=>
      refine(Gx hr wf hk hb t va ha mq k st hs (by omega)).mono ?_;rintro e w' ⟨rfl,j4,uX,jh,jS,r,f⟩;rw[hs]at r fin;exact fin w' j4 uX jh jS r f
  ·by_cases hk2:t.kind=2
   ·cases hs:g.stack with
    |nil=>
     have e:g.take t=(6,g):=by unfold Gr.take;rw[if_neg ny,if_pos hk2,hs]
     rw[e,if_pos (by simp)];subst l8;unfold l6;rw[hk2];refine(JD hr t hs ai _ ac).mono ?_;rintro e w' ⟨rfl,r,f⟩;exact bad 6 w' r f
    |cons k st=>
     obtain⟨m,hm,om,_⟩:=wf.top hs;by_cases qR:g.named k t.name=true
     ·have e:g.take t=(0,{g with stack:=st}):=by unfold Gr.take;rw[if_neg ny,if_pos hk2,hs];simp only[qR,if_true]
      rw[e]at Yt ⊢;rw[if_neg (by simp)];have hname:m.name=t.name:=by
       have:=(vS g k t.name).1 qR;rw[hm]at this;simpa using this
      subst l8;unfold l6;rw[hk2];refine(JE hr t k st m hs hm hname ai _ ac).mono ?_;rintro e w' ⟨rfl,uX,r,f⟩;exact⟨rfl,⟨⟨nv,uX,av,kv,hr.more f.size r⟩,hk,Yt⟩,Cj f⟩
     ·have e:g.take t=(6,g):=by unfold Gr.take;rw[if_neg ny,if_pos hk2,hs];simp only[qR,aQ,aA]
      rw[e,if_pos (by simp)];have hname:m.name≠t.name:=fun e=>qR ((vS g k t.name).2 (by rw[hm];simp[e]));subst l8;unfold l6;rw[hk2];refine(Gv hr t k st m hs hm hname ai _ ac).mono ?_;rintro e w' ⟨rfl,r,f⟩;exact bad 6 w' r f
   ·cases hs:g.stack with
    |nil=>
     by_cases hbl:gI t.text=true
     ·have e:g.take t=(0,g):=by unfold Gr.take;rw[if_neg ny,if_neg hk2,hs];simp only[hbl,if_true]
      rw[e,if_neg (by simp)];subst l8;refine(xt hr t ny hk2 hs hbl hz ai _ ac).mono ?_;rintro e w' ⟨rfl,m⟩;exact same w' m
     ·have e:g.take t=(7,g):=by unfold Gr.take;rw[if_neg ny,if_neg hk2,hs];simp only[hbl,aQ,aA]
      rw[e,if_pos (by simp)];subst l8;refine(Az hr t ny hk2 hs hbl hz ai _ ac).mono ?_;rintro e w' ⟨rfl,r,f⟩;exact bad 7 w' r f
    |cons k st=>
     have e:g.take t=(0,g.put (jd t)):=by unfold Gr.take;rw[if_neg ny,if_neg hk2,hs]
     rw[e]at Yt ⊢;rw[if_neg (by simp)];subst l8;refine(Re hr wf hk hb t ny hk2 k st hs hz ai _ ac).mono ?_;rintro e w' ⟨rfl,j4,jh,jS,r,f⟩;exact⟨rfl,⟨⟨j4,ov,jh,jS,r⟩,hk.put (jd t) rfl,Yt⟩,f⟩
end
section
variable{A K K' F:Nat->Prop}{w w' w1 w2 w4 wr:World}{nv ov a v:Value}{av kv:Nat->Value}{g:Gr}{X Y:Nat}{er q:Int}{l T:List fe}
theorem nG.at:∀{l:List fe} {cs:List Value},nG F X w l cs->∀(i:Nat) (hi:i<l.length),∃va,w.ownsRow 0 212 2 va (l[i]).attrs.length (ee (l[i]).attrs)/\cs[i*5]?=some (.int .i64 (l[i]).kind)/\cs[i*5+1]?=some (eA (l[i]).name)/\cs[i*5+2]?=some va/\cs[i*5+3]?=some (eA (l[i]).text)/\cs[i*5+4]?=some (.int .i64 (l[i]).at_)
 |[],_,_,i,hi=>absurd hi (Nat.not_lt_zero _)
 |t::l,_,⟨v,cs,e,ho,hf,hl⟩,i,hi=>by
  subst e;cases i with
  |zero=>exact⟨v,ho,rfl,rfl,rfl,rfl,rfl⟩
  |succ i=>
   obtain⟨va,a0,a1,a2,a3,a4,a5⟩:=nG.at hl i (by simpa using hi);have e1:∀j,(i+1)*5+j=(eH t v).length+(i*5+j):=fun j=>by show _=5+_;omega
   have e2:∀j,(eH t v++cs)[(i+1)*5+j]?=cs[i*5+j]?:=fun j=>by rw[e1,aW (cI _ _),Nat.add_sub_cancel_left]
   exact⟨va,a0,(e2 0).trans a1,(e2 1).trans a2,(e2 2).trans a3,(e2 3).trans a4,(e2 4).trans a5⟩
theorem QL.at(h:QL w v l)(i:Nat)(hi:i<l.length):∃g cap va,v=Z9 g l.length cap/\w.ownsRow 0 212 2 va (l[i]).attrs.length (ee (l[i]).attrs)/\
  w.cell? ⟨g,i*5,none⟩=some (.int .i64 (l[i]).kind)/\w.cell? ⟨g,i*5+1,none⟩=some (eA (l[i]).name)/\w.cell? ⟨g,i*5+2,none⟩=some va/\w.cell? ⟨g,i*5+3,none⟩=some (eA (l[i]).text)/\w.cell? ⟨g,i*5+4,none⟩=some (.int .i64 (l[i]).at_)/\l.length<=maxLen:=by
 obtain⟨F,X,cs,h1,h2⟩:=h;rcases h1.2 with⟨e,e0⟩|⟨g,cap,cur,e,_,_,UL,N5,_⟩
 ·omega
 subst e;have hc:=h1.cells (g:=g) rfl;obtain⟨va,a0,a1,a2,a3,a4,a5⟩:=h2.at i hi;have up:∀j u,cs[j]?=some u->w.cell? ⟨g,j,none⟩=some u:=fun j u hj=>by
  have:=hc j u hj;rwa[Addr.add_mid,aG]at this
 exact⟨g,cap,va,rfl,a0,up _ _ a1,up _ _ a2,up _ _ a3,up _ _ a4,up _ _ a5,aw UL N5⟩
theorem Nu(h:QL w v l):∃b c,v=.slice b l.length c/\l.length<=maxLen:=by
 obtain⟨F,X,cs,o,_⟩:=h;rcases o.2 with⟨rfl,e⟩|⟨g,cap,cur,rfl,_,_,h1,h2,_⟩
 ·rw[e];exact⟨none,0,rfl,aB _⟩
 ·exact⟨_,_,rfl,aw h1 h2⟩
def pq:Gr×Int×Int->List fe->Gr×Int×Int
 |x,[]=>x
 |x,t::l=>pq (qN x.1 x.2.1 x.2.2 t) l
theorem zH:∀(l:List fe) (g:Gr) (er q:Int),er≠0->pq (g,er,q) l=(g,er,q)
 |[],_,_,_,_=>rfl
 |t::l,g,er,q,h=>by
  simp only[pq];have:qN g er q t=(g,er,q):=by unfold qN;rw[if_pos h]
  rw[this];exact zH l g er q h
theorem wV:∀(l:List fe) (g:Gr) (q:Int),pq (g,0,q) l=if(grow g l).1≠0 then((grow g l).2.2,(grow g l).1,(grow g l).2.1)else((grow g l).2.2,0,q)
 |[],g,q=>by simp[pq,grow]
 |t::l,g,q=>by
  simp only[pq];by_cases h:(g.take t).1=0
  ·have e:qN g 0 q t=((g.take t).2,0,q):=by unfold qN;rw[if_neg (by simp),if_neg (by simpa using h)]
   have eg:grow g (t::l)=grow (g.take t).2 l:=by simp only[grow];rw[if_neg (by simpa using h)]
   rw[e,wV l,eg]
  ·have e:qN g 0 q t=(g,(g.take t).1,t.at_):=by unfold qN;rw[if_neg (by simp),if_pos h]
   have eg:grow g (t::l)=((g.take t).1,t.at_,g):=by simp only[grow];rw[if_pos h]
   rw[e,zH _ _ _ _ h,eg,if_pos h]
structure BI(w4:World)(T:List fe)(wr:World)(k:Nat):Prop where
 ex:∃g er q Kx,BR (fun j=>j<w4.heap.size) Kx w4.heap.size wr g er q/\(∀j,Kx j->w4.heap.size<=j)/\pq (Gr.zero,0,0) T=pq (g,er,q) (T.drop k)/\g.nodes.length<=k
 more:ed w4 wr
theorem BI.start:BI w4 T (w4.alloc (.cells #[.slice none 0 0,.slice none 0 0,.int .i64 0,.int .i64 0] 68)) 0:=by refine⟨⟨Gr.zero,0,0,fun _=>False,⟨⟨fo,fo,_,_,⟨dT w4 _,ic.zero,⟨rfl,Or.inl ⟨rfl,rfl⟩⟩,(fun k e=>by cases e),(fun x=>absurd x (Nat.lt_irrefl _)),(fun x=>x),(fun _ _ x=>x),(fun _ x=>x.elim),(fun k x=>by have x':k<w4.heap.size:=x;simp;omega)⟩⟩,(fun i m hi=>by simp[Gr.zero]at hi),Gr.Wf.zero⟩,fun _ x=>x.elim,by simp,by simp[Gr.zero]⟩,(ed.refl w4).alloc _⟩
theorem Nv(g:Gr)(er q:Int)(t:fe):(qN g er q t).1.nodes.length<=g.nodes.length+1:=by
 have:(g.take t).2.nodes.length<=g.nodes.length+1:=by
  unfold Gr.take;split
  ·split
   ·simp
   ·split
    ·simp
    ·simp only[lV];omega
  ·split
   ·split
    ·simp
    ·split<;>simp
   ·split
    ·split<;>simp
    ·rw[lV];omega
 unfold qN;split
 ·simp
 ·split
  ·simp
  ·exact this
theorem BI.call{k:Nat}(h:BI w4 T wr k)(hk:k<T.length)(hb:T.length<=17179869184)(va:Value)(hz:(T[k]).text.length<=9223372036854775807)(ha:w4.ownsRow 0 212 2 va (T[k]).attrs.length (ee (T[k]).attrs))(W:World)(hW:ed wr W):
  Z4 23 #[.pointer (some ⟨w4.heap.size,0,none⟩),l6 (T[k]) va] W fun e w'=>e=.returned (.tuple #[])/\BI w4 T w' (k+1):=by
 obtain⟨⟨g,er,q,Kx,hg,hKx,hgr,hlen⟩,hM⟩:=h;have wR:=hM.trans hW;have hdrop:T.drop k=T[k]::T.drop (k+1):=(cy hk)
 refine(Rl (hg.keep hW) (by omega) (T[k]) va hz (dY ha fun b e=>wR.keep b (eu ha e)) (fun b e=>eu ha e)).mono ?_;rintro e w' ⟨rfl,r,fr⟩;have hM3:ed w4 w':=⟨fr.os.trans wR.os,fr.tape.trans wR.tape,fr.output.trans wR.output,aw wR.size fr.size,fun b hb2=>by
  rw[fr.block b (aq hb2 wR.size) (fun x=>by
   rcases x with e|e
   ·omega
   ·have:=hKx b e;omega)]
  exact wR.keep b hb2⟩
 refine⟨rfl,⟨_,_,_,_,r,?_,?_,?_⟩,hM3⟩
 ·rintro j (e|e)
  ·exact hKx j e
  ·have:=e.1;have:=wR.size;omega
 ·rw[hgr,hdrop];rfl
 ·have:=Nv g er q (T[k]);omega
theorem BI.over(h:BI w4 T wr T.length):∃g er q Kx,BR (fun j=>j<w4.heap.size) Kx w4.heap.size wr g er q/\(∀j,Kx j->w4.heap.size<=j)/\pq (Gr.zero,0,0) T=(g,er,q):=by
 obtain⟨⟨g,er,q,Kx,h1,h2,h3,_⟩,_⟩:=h;refine⟨g,er,q,Kx,h1,h2,?_⟩;rw[h3,List.drop_length];rfl
end
section
variable{A K K' F:Nat->Prop}{w w' w1 w2 w4 wr:World}{nv ov a v:Value}{av kv:Nat->Value}{g:Gr}{X Y:Nat}{er q:Int}{l T:List fe}
def Ck(w:World)(x:List Nd×Int×Int)(e:Ending)(w':World):Prop:=∃v,e=.returned (.tuple #[v,.int .i64 x.2.1,.int .i64 x.2.2])/\(∃A K av kv,ic 120 212 A K w' v x.1 av kv)/\Below w.heap.size w w'
structure XG(w:World)(s:ByteArray)(v:Value)(w4:World):Prop where
 ans:QL w4 v ((ei s).l++(ei s).last)
 below:Below w.heap.size w w4
 err:w4.cell? ⟨w.heap.size,5,none⟩=some (.int .i64 (ei s).err)
 at_:w4.cell? ⟨w.heap.size,6,none⟩=some (.int .i64 (ei s).at_)
theorem Nw(s:ByteArray)(w:World)(hs:s.size<=268435456):
  Z4 21 #[.string s] w fun e w1=>e=.returned (.pointer (some ⟨w.heap.size,0,none⟩))/\∃lv,(∃o n c,lv=.slice o n c)/\Z4 22 #[.pointer (some ⟨w.heap.size,0,none⟩)] w1 fun e w2=>∃v2,e=.returned v2/\w2.cell? ⟨w.heap.size,2,none⟩=some lv/\∃v' w4,(Builtin.append_ #[62,62] 62 #[lv,v2]).run prog w2=.ok v' w4/\XG w s v' w4:=by
 have hlen:=QO s;refine(QJ s w (by omega)).mono ?_;rintro e w1 ⟨rfl,F,lv,cs,rs,b1,hF⟩;refine⟨rfl,lv,?_,(QM rs.sat).mono ?_⟩
 ·obtain⟨o,c,e⟩:=dU rs.row;exact⟨o,_,c,e⟩
 rintro e w2 ⟨v2,rfl,b2,hv⟩;have qM:w.heap.size<w1.heap.size:=rs.lt _ rs.has;have Vp:w2.heap[w.heap.size]?=w1.heap[w.heap.size]?:=b2.block _ qM;have c2:w1.cell? ⟨w.heap.size,2,none⟩=some lv:=rs.sat.cell 2 rfl;have c5:w1.cell? ⟨w.heap.size,5,none⟩=some (.int .i64 (ei s).err):=rs.sat.cell 5 rfl;have c6:w1.cell? ⟨w.heap.size,6,none⟩=some (.int .i64 (ei s).at_):=rs.sat.cell 6 rfl;obtain⟨v',w4,hrun,Rm,hgr⟩:=QN rs b2 v2 hv (by omega);have abo:lv.ownBlock≠some w.heap.size:=rs.ne;have hz2:=b2.size;have Vq:w4.heap[w.heap.size]?=w1.heap[w.heap.size]?:=(hgr.block _ (by omega) (fun e=>abo e.symm)).trans Vp;have hb4:Below w.heap.size w w4:=by
  refine(b1.trans (eJ b2 b1.size)).trans ⟨hgr.os,hgr.tape,hgr.output,hgr.size,fun k hk=>hgr.block k (by omega) (fun e=>?_)⟩;have:=hF k (rs.own k e.symm).1;omega
 exact⟨v2,rfl,(ar (a:=⟨w.heap.size,2,none⟩) Vp).trans c2,v',w4,hrun,⟨Rm,hb4,(ar (a:=⟨w.heap.size,5,none⟩) Vq).trans c5,(ar (a:=⟨w.heap.size,6,none⟩) Vq).trans c6⟩⟩
theorem Ro{T:List fe}{g:Gr}{q:Int}(h:(if(grow Gr.zero T).1≠0 then((grow Gr.zero T).2.2,(grow Gr.zero T).1,(grow Gr.zero T).2.1)else((grow Gr.zero T).2.2,0,0))=(g,0,q)):(grow Gr.zero T).1=0/\(grow Gr.zero T).2.2=g:=by
 by_cases hx:(grow Gr.zero T).1=0
 ·rw[if_neg (by simpa using hx)]at h;simp only[cr]at h;exact⟨hx,h.1⟩
 ·rw[if_pos hx]at h;simp only[cr]at h;exact absurd h.2.1 hx
theorem Nx{T:List fe}{g:Gr}{er q:Int}(he:er≠0)(h:(if(grow Gr.zero T).1≠0 then((grow Gr.zero T).2.2,(grow Gr.zero T).1,(grow Gr.zero T).2.1)else((grow Gr.zero T).2.2,0,0))=(g,er,q)):(grow Gr.zero T).1≠0/\(grow Gr.zero T).1=er/\(grow Gr.zero T).2.1=q:=by
 by_cases hx:(grow Gr.zero T).1=0
 ·rw[if_neg (by simpa using hx)]at h;simp only[cr]at h;exact absurd h.2.1.symm he
 ·rw[if_pos hx]at h;simp only[cr]at h;exact⟨hx,h.2.1,h.2.2⟩
theorem wW(b4:Below w.heap.size w w4)(hM:ed w4 w'):Below w.heap.size w w':=b4.trans ⟨hM.os,hM.tape,hM.output,hM.size,fun k hk=>hM.keep k (aq hk b4.size)⟩
theorem iQ{F:Nat->Prop}{n:Nat}(f:Frame F w w'):Frame F w (w'.drewN n):=⟨f.os,f.tape,f.output,f.size,f.block⟩
theorem jg{no p:Int}(b4:Below w.heap.size w w4)(hM:ed w4 wr)(f:ed wr w'\/Frame (fun k=>k=w4.heap.size) wr w'):Ck w ([],no,p) (.returned (.tuple #[.slice none 0 0,.int .i64 no,.int .i64 p])) w':=by
 have wR:ed w4 w':=by
  rcases f with f|f
  ·exact hM.trans f
  ·exact⟨f.os.trans hM.os,f.tape.trans hM.tape,f.output.trans hM.output,aw hM.size f.size,fun b hb=>(f.block b (aq hb hM.size) (by omega)).trans (hM.keep b hb)⟩
 exact⟨fo,rfl,⟨fun _=>False,fun _=>False,_,_,ic.zero⟩,wW b4 wR⟩
theorem Cl(s:ByteArray)(w:World)(hs:s.size<=268435456):Z4 6 #[.string s] w (Ck w (eZ s)):=by
 have hst:=Nw s w hs;have Q7:=says s;have hlen:=Ce s;have MY:=zD s;have HST:=a_ hst;have Ay:=a_ Q7;have Xq:=a_ hlen;have HTX:=a_ MY;clear hst Q7 hlen MY;go_enter func6,ntmps6;go_wp2_with fail;refine HST.out.mono ?_;rintro e w1 ⟨rfl,lv,⟨lo,ln,lc,rfl⟩,zN⟩;go_wp2_with fail;refine zN.mono ?_;rintro e w2 ⟨v2,rfl,c2,v',w4,hrun,Sf⟩;have Rm:=Sf.ans;have hb4:=Sf.below;have he4:=Sf.err;have ha4:=Sf.at_;generalize (ei s).l++(ei s).last=T at*
 generalize (ei s).err=DR at*
 generalize (ei s).at_=Se at*
 obtain⟨bl,cl,el,hmx⟩:=Nu Rm;subst el;have AN4:=a_ Rm;have B4:=a_ hb4;have E4:=a_ he4;have T4:=a_ ha4;have HMX:=a_ hmx;clear Sf Rm hb4 he4 ha4 hmx zN HST;go_wp2_with(at_builtin;refine DK rfl (.tmp 17) (.tmp 18) rfl rfl _ _ rfl rfl hrun ?_);have aao:w.heap.size<w4.heap.size:=aD w4 _ E4.out;go_loopw [9] (fun iv wr=>∃k:Nat,iv=.int .i64 k/\k<=T.length/\BI w4 T wr k) (fun iv _=>T.length-(RowKit.intOf iv).toNat)
 case atStart=>exact⟨0,rfl,aB _,BI.start⟩
 case round=>
  obtain⟨k,rfl,hk,Sh⟩:=hrel;by_cases vB:k<T.length
  ·have hdec:decide ((k:Int)<T.length)=true:=by simp;omega
   have Gn:decide (k<T.length)=true:=by simp;omega
   have Yp:(k:Int)<T.length:=by omega
   have hmi:(T.length:Int)<=9223372036854775807:=by have:=HMX.out;have:maxLen=9223372036854775807:=rfl;omega
   obtain⟨gT,cT,va,eT,oa,x0,x1,x2,x3,x4,_⟩:=AN4.out.at k vB;have t_:=Xq.out;have eX:=Sh.call vB (by omega) va (by have:=HTX.out _ (bR vB);omega) oa wr (ed.refl wr);obtain⟨ai,ac,l8⟩:=dU oa;cases eT;have hlt:gT<w4.heap.size:=aD w4 _ x0;subst l8;unfold eA at x1 x3;unfold l6 eA at eX;have y0:=(ar (a:=⟨gT,k*5,none⟩) (Sh.more.keep gT hlt)).trans x0;have y1:=(ar (a:=⟨gT,k*5+1,none⟩) (Sh.more.keep gT hlt)).trans x1;have y2:=(ar (a:=⟨gT,k*5+2,none⟩) (Sh.more.keep gT hlt)).trans x2;have y3:=(ar (a:=⟨gT,k*5+3,none⟩) (Sh.more.keep gT hlt)).trans x3;have y4:=(ar (a:=⟨gT,k*5+4,none⟩) (Sh.more.keep gT hlt)).trans x4;have HC:=a_ eX;clear eX Sh oa x0 x1 x2 x3 x4 t_;generalize T[k]=t at*
   go_wp2_with fail;refine HC.out.mono ?_;rintro e w5 ⟨rfl,ma⟩;have HB5:=a_ ma;clear ma;go_wp2
   go_roundw
   case rel=>exact⟨k+1,by simp,by omega,HB5.out⟩
   case measure=>simp only[RowKit.intOf];omega
  ·have hdec:decide ((k:Int)<T.length)=false:=by simp;omega
   have Gn:decide (k<T.length)=false:=by simp;omega
   have he:k=T.length:=by omega
   subst he;have hM:=Sh.more;obtain⟨g,er,q,Kx,⟨⟨nv,ov,av,kv,hr⟩,_,_⟩,hKx,hgr⟩:=Sh.over;rw[wV]at hgr;obtain⟨ni,nc,pQ⟩:=dU hr.nodes.row;obtain⟨oi,oc,hov⟩:=dU hr.opens;subst pQ;subst hov;have e5:wr.cell? ⟨w.heap.size,5,none⟩=some (.int .i64 DR):=(ar (hM.keep _ aao)).trans E4.out;have e6:wr.cell? ⟨w.heap.size,6,none⟩=some (.int .i64 Se):=(ar (hM.keep _ aao)).trans T4.out;have Ih:=a_ hgr;have HR:=a_ hr;have uU:=a_ hM;clear Sh hgr hr hM hKx;have hsz:(s.size:Int)<=9223372036854775807:=by omega
   by_cases h0:er=0
   ·subst h0;have hg0:(grow Gr.zero T).1=0/\(grow Gr.zero T).2.2=g:=Ro Ih.out;by_cases h1:DR=0
    ·subst h1;by_cases xN:g.stack=[]
     ·have Cm:=xN;by_cases k8:g.nodes=[]
      ·have pO:=Ay.out.form hg0.1 rfl (Or.inr (by rw[hg0.2];exact k8));have hc1:decide (0<g.stack.length)=false:=by rw[Cm];rfl
       have hc2:(g.nodes.length==0)=true:=by rw[k8];rfl
       have hc3:decide (g.nodes.length=0)=true:=by rw[k8];rfl
       clear hg0;clear Cm xN k8;have y0:=HR.out.cell 0 rfl;have y1:=HR.out.cell 1 rfl;have y2:=HR.out.cell 2 rfl;have y3:=HR.out.cell 3 rfl;go_wp2_with fail;refine(iz HR.out _ _).mono ?_;rintro e w6 ⟨rfl,r6,f6⟩;simp only[if_true]at r6;have R6:=a_ r6;have F6:=a_ f6;clear r6 f6;have y0:=R6.out.cell 0 rfl;have y1:=R6.out.cell 1 rfl;have y2:=R6.out.cell 2 rfl;have y3:=R6.out.cell 3 rfl;go_wp2_with fail;go_quiet(fail);go_wp2
       go_ret3
       rw[pO];exact jg B4.out uU.out (Or.inr (iQ F6.out))
      ·have pO:=Ay.out.ok hg0.1 rfl (by rw[hg0.2];exact Cm) (by rw[hg0.2];exact k8);rw[hg0.2]at pO;have hc1:decide (0<g.stack.length)=false:=by rw[Cm];rfl
       have hc2:(g.nodes.length==0)=false:=by
        cases hg:g.nodes with
        |nil=>exact absurd hg k8
        |cons a l=>rfl
       have hc3:decide (g.nodes.length=0)=false:=by simpa using k8
       clear hg0;clear Cm xN k8;have y0:=HR.out.cell 0 rfl;have y1:=HR.out.cell 1 rfl;have y2:=HR.out.cell 2 rfl;have y3:=HR.out.cell 3 rfl;go_wp2_with fail
       go_ret3
       rw[pO];exact⟨_,rfl,⟨_,_,_,_,HR.out.nodes⟩,wW B4.out uU.out⟩
     ·have pO:=Ay.out.form hg0.1 rfl (Or.inl (by rw[hg0.2];exact xN));have hc1:decide (0<g.stack.length)=true:=by
       cases hg:g.stack with
       |nil=>exact absurd hg xN
       |cons a l=>simp
      clear hg0;clear xN;have y0:=HR.out.cell 0 rfl;have y1:=HR.out.cell 1 rfl;have y2:=HR.out.cell 2 rfl;have y3:=HR.out.cell 3 rfl;go_wp2_with fail;refine(iz HR.out _ _).mono ?_;rintro e w6 ⟨rfl,r6,f6⟩;simp only[if_true]at r6;have R6:=a_ r6;have F6:=a_ f6;clear r6 f6;have y0:=R6.out.cell 0 rfl;have y1:=R6.out.cell 1 rfl;have y2:=R6.out.cell 2 rfl;have y3:=R6.out.cell 3 rfl;go_wp2_with fail;go_quiet(fail);go_wp2
      go_ret3
      rw[pO];exact jg B4.out uU.out (Or.inr (iQ F6.out))
    ·have pO:=Ay.out.err hg0.1 h1;have rP:(DR !=0)=true:=by simpa using h1
     have H1:=a_ h1;clear hg0 h1;have y0:=HR.out.cell 0 rfl;have y1:=HR.out.cell 1 rfl;have y2:=HR.out.cell 2 rfl;have y3:=HR.out.cell 3 rfl;have qY:=iz (HR.out.keep (W:=wr.drew) ((ed.refl wr).drewN 1)) DR Se;simp only[if_true]at qY;have HFL:=a_ qY;clear qY;have abp:w4.heap.size<=wr.heap.size:=uU.out.size;go_wp2_with fail;go_region_held3 (fun W=>W.cell? ⟨w.heap.size,5,none⟩=some (.int .i64 DR)/\W.cell? ⟨w.heap.size,6,none⟩=some (.int .i64 Se))
      (first|exact⟨e5,e6⟩|exact⟨k5,k6⟩)
      (first|(go_at_call 24;refine HFL.out.mono ?_;rintro e w6 ⟨rfl,r6,f6⟩;have k5:w6.cell? ⟨w.heap.size,5,none⟩=some (.int .i64 DR):=(ar (f6.block w.heap.size (show w.heap.size<wr.heap.size by omega) (by omega))).trans e5;have k6:w6.cell? ⟨w.heap.size,6,none⟩=some (.int .i64 Se):=(ar (f6.block w.heap.size (show w.heap.size<wr.heap.size by omega) (by omega))).trans e6;have R6:=a_ r6;have F6:Hid (Frame (fun k=>k=w4.heap.size) wr w6):=a_ ⟨f6.os,f6.tape,f6.output,f6.size,f6.block⟩;clear r6 f6))
     all_goals
      clear e5 e6 k5 k6 y0 y1 y2 y3;have y0:=R6.out.cell 0 rfl;have y1:=R6.out.cell 1 rfl;have y2:=R6.out.cell 2 rfl;have y3:=R6.out.cell 3 rfl;by_cases xN:g.stack=[]
      ·have Cm:=xN;by_cases k8:g.nodes=[]
       ·have hc1:decide (0<g.stack.length)=false:=by rw[Cm];rfl
        have hc2:(g.nodes.length==0)=true:=by rw[k8];rfl
        have hc3:decide (g.nodes.length=0)=true:=by rw[k8];rfl
        clear Cm xN k8;go_wp2_with fail;refine(iz R6.out _ _).mono ?_;rintro e w7 ⟨rfl,r7,f7⟩;rw[if_neg H1.out,if_neg H1.out]at r7;have R7:=a_ r7;have F7:=a_ f7;clear r7 f7;have y0:=R7.out.cell 0 rfl;have y1:=R7.out.cell 1 rfl;have y2:=R7.out.cell 2 rfl;have y3:=R7.out.cell 3 rfl;go_wp2_with fail;go_quiet(fail);go_wp2
        go_ret3
        rw[pO];exact jg B4.out uU.out (Or.inr (iQ (F6.out.trans' F7.out)))
       ·have hc1:decide (0<g.stack.length)=false:=by rw[Cm];rfl
        have hc2:(g.nodes.length==0)=false:=by
         cases hg:g.nodes with
         |nil=>exact absurd hg k8
         |cons a l=>rfl
        have hc3:decide (g.nodes.length=0)=false:=by simpa using k8
        clear Cm xN k8;go_wp2_with fail;go_quiet(fail);go_wp2
        go_ret3
        rw[pO];exact jg B4.out uU.out (Or.inr (iQ F6.out))
      ·have hc1:decide (0<g.stack.length)=true:=by
        cases hg:g.stack with
        |nil=>exact absurd hg xN
        |cons a l=>simp
       clear xN;go_wp2_with fail;refine(iz R6.out _ _).mono ?_;rintro e w7 ⟨rfl,r7,f7⟩;rw[if_neg H1.out,if_neg H1.out]at r7;have R7:=a_ r7;have F7:=a_ f7;clear r7 f7;have y0:=R7.out.cell 0 rfl;have y1:=R7.out.cell 1 rfl;have y2:=R7.out.cell 2 rfl;have y3:=R7.out.cell 3 rfl;go_wp2_with fail;go_quiet(fail);go_wp2
       go_ret3
       rw[pO];exact jg B4.out uU.out (Or.inr (iQ (F6.out.trans' F7.out)))
   ·have hb0:=Nx h0 Ih.out;have pO:=Ay.out.tok hb0.1;rw[hb0.2.1,hb0.2.2]at pO;have D5:(er !=0)=true:=by simpa using h0
    have H0:=a_ h0;clear hb0 h0;by_cases h1:DR=0
    ·subst h1;have y0:=HR.out.cell 0 rfl;have y1:=HR.out.cell 1 rfl;have y2:=HR.out.cell 2 rfl;have y3:=HR.out.cell 3 rfl;by_cases xN:g.stack=[]
     ·have Cm:=xN;by_cases k8:g.nodes=[]
      ·have hc1:decide (0<g.stack.length)=false:=by rw[Cm];rfl
       have hc2:(g.nodes.length==0)=true:=by rw[k8];rfl
       have hc3:decide (g.nodes.length=0)=true:=by rw[k8];rfl
       clear Cm xN k8;go_wp2_with fail;refine(iz HR.out _ _).mono ?_;rintro e w7 ⟨rfl,r7,f7⟩;rw[if_neg H0.out,if_neg H0.out]at r7;have R7:=a_ r7;have F7:=a_ f7;clear r7 f7;have y0:=R7.out.cell 0 rfl;have y1:=R7.out.cell 1 rfl;have y2:=R7.out.cell 2 rfl;have y3:=R7.out.cell 3 rfl;go_wp2_with fail;go_quiet(fail);go_wp2
       go_ret3
       rw[pO];exact jg B4.out uU.out (Or.inr (iQ F7.out))
      ·have hc1:decide (0<g.stack.length)=false:=by rw[Cm];rfl
       have hc2:(g.nodes.length==0)=false:=by
        cases hg:g.nodes with
        |nil=>exact absurd hg k8
        |cons a l=>rfl
       have hc3:decide (g.nodes.length=0)=false:=by simpa using k8
       clear Cm xN k8;go_wp2_with fail;go_quiet(fail);go_wp2
       go_ret3
       rw[pO];exact jg B4.out uU.out (Or.inl ((ed.refl wr).drewN _))
     ·have hc1:decide (0<g.stack.length)=true:=by
       cases hg:g.stack with
       |nil=>exact absurd hg xN
       |cons a l=>simp
      clear xN;go_wp2_with fail;refine(iz HR.out _ _).mono ?_;rintro e w7 ⟨rfl,r7,f7⟩;rw[if_neg H0.out,if_neg H0.out]at r7;have R7:=a_ r7;have F7:=a_ f7;clear r7 f7;have y0:=R7.out.cell 0 rfl;have y1:=R7.out.cell 1 rfl;have y2:=R7.out.cell 2 rfl;have y3:=R7.out.cell 3 rfl;go_wp2_with fail;go_quiet(fail);go_wp2
      go_ret3
      rw[pO];exact jg B4.out uU.out (Or.inr (iQ F7.out))
    ·have rP:(DR !=0)=true:=by simpa using h1
     clear h1;have y0:=HR.out.cell 0 rfl;have y1:=HR.out.cell 1 rfl;have y2:=HR.out.cell 2 rfl;have y3:=HR.out.cell 3 rfl;have qY:=iz (HR.out.keep (W:=wr.drew) ((ed.refl wr).drewN 1)) DR Se;rw[if_neg H0.out,if_neg H0.out]at qY;have HFL:=a_ qY;clear qY;have abp:w4.heap.size<=wr.heap.size:=uU.out.size;go_wp2_with fail;go_region_held3 (fun W=>W.cell? ⟨w.heap.size,5,none⟩=some (.int .i64 DR)/\W.cell? ⟨w.heap.size,6,none⟩=some (.int .i64 Se))
      (first|exact⟨e5,e6⟩|exact⟨k5,k6⟩)
      (first|(go_at_call 24;refine HFL.out.mono ?_;rintro e w6 ⟨rfl,r6,f6⟩;have k5:w6.cell? ⟨w.heap.size,5,none⟩=some (.int .i64 DR):=(ar (f6.block w.heap.size (show w.heap.size<wr.heap.size by omega) (by omega))).trans e5;have k6:w6.cell? ⟨w.heap.size,6,none⟩=some (.int .i64 Se):=(ar (f6.block w.heap.size (show w.heap.size<wr.heap.size by omega) (by omega))).trans e6;have R6:=a_ r6;have F6:Hid (Frame (fun k=>k=w4.heap.size) wr w6):=a_ ⟨f6.os,f6.tape,f6.output,f6.size,f6.block⟩;clear r6 f6))
     all_goals
      clear e5 e6 k5 k6 y0 y1 y2 y3;have y0:=R6.out.cell 0 rfl;have y1:=R6.out.cell 1 rfl;have y2:=R6.out.cell 2 rfl;have y3:=R6.out.cell 3 rfl;by_cases xN:g.stack=[]
      ·have Cm:=xN;by_cases k8:g.nodes=[]
       ·have hc1:decide (0<g.stack.length)=false:=by rw[Cm];rfl
        have hc2:(g.nodes.length==0)=true:=by rw[k8];rfl
        have hc3:decide (g.nodes.length=0)=true:=by rw[k8];rfl
        clear Cm xN k8;go_wp2_with fail;refine(iz R6.out _ _).mono ?_;rintro e w7 ⟨rfl,r7,f7⟩;rw[if_neg H0.out,if_neg H0.out]at r7;have R7:=a_ r7;have F7:=a_ f7;clear r7 f7;have y0:=R7.out.cell 0 rfl;have y1:=R7.out.cell 1 rfl;have y2:=R7.out.cell 2 rfl;have y3:=R7.out.cell 3 rfl;go_wp2_with fail;go_quiet(fail);go_wp2
        go_ret3
        rw[pO];exact jg B4.out uU.out (Or.inr (iQ (F6.out.trans' F7.out)))
       ·have hc1:decide (0<g.stack.length)=false:=by rw[Cm];rfl
        have hc2:(g.nodes.length==0)=false:=by
         cases hg:g.nodes with
         |nil=>exact absurd hg k8
         |cons a l=>rfl
        have hc3:decide (g.nodes.length=0)=false:=by simpa using k8
        clear Cm xN k8;go_wp2_with fail;go_quiet(fail);go_wp2
        go_ret3
        rw[pO];exact jg B4.out uU.out (Or.inr (iQ F6.out))
      ·have hc1:decide (0<g.stack.length)=true:=by
        cases hg:g.stack with
        |nil=>exact absurd hg xN
        |cons a l=>simp
       clear xN;go_wp2_with fail;refine(iz R6.out _ _).mono ?_;rintro e w7 ⟨rfl,r7,f7⟩;rw[if_neg H0.out,if_neg H0.out]at r7;have R7:=a_ r7;have F7:=a_ f7;clear r7 f7;have y0:=R7.out.cell 0 rfl;have y1:=R7.out.cell 1 rfl;have y2:=R7.out.cell 2 rfl;have y3:=R7.out.cell 3 rfl;go_wp2_with fail;go_quiet(fail);go_wp2
       go_ret3
       rw[pO];exact jg B4.out uU.out (Or.inr (iQ (F6.out.trans' F7.out)))
end
end K
end Go.Proofs.YtclgfepngpeifaaGreatDoor
