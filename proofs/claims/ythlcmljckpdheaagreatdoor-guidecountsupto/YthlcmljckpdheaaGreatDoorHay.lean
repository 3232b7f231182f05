import Derived.Test.YthlcmljckpdheaaGreatDoorHA
import Derived.Test.YthlcmljckpdheaaGreatDoorHaw
import Derived.Test.YthlcmljckpdheaaGreatDoorHax
import Derived.Test.YthlcmljckpdheaaGreatDoorHau
set_option linter.unusedVariables false
set_option linter.unusedSimpArgs false
set_option maxHeartbeats 32000000
set_option maxRecDepth 100000
namespace Go.Proofs.YthlcmljckpdheaaGreatDoor
namespace K
open Go.RowKit Go.Maps Go.Lib Tryz
section
variable{A K K':Nat->Prop}{w w' w1 w2:World}{nv ov a:Value}{av kv:Nat->Value}{g:Gr}{Y:Nat}{er q:Int}
theorem gI.more{g':Gr}{er' q':Int}{kq tU:Value}{jS j9:Nat->Value}(h:gI A K Y w g er q nv ov av kv)(hz:w.heap.size<=w'.heap.size)(r:gI A K Y w' g' er' q' kq tU jS j9):gI A (Grow K w w') Y w' g' er' q' kq tU jS j9:=by
 have xm:=eO h.blk;refine r.FW (fun k _ x=>Or.inl x) ?_ ?_ (iX h.lt hz)
 ·rintro(x|x)
  ·exact h.nK x
  ·omega
 ·rintro k hA (x|x)
  ·exact h.sq k hA x
  ·have:=h.sH k hA;omega
theorem BA(fr:Frame (fun k=>k=Y) w w'):Frame (fun k=>k=Y\/K k) w w':=⟨fr.os,fr.tape,fr.output,fr.size,fun k hk hf=>fr.block k hk (fun e=>hf (Or.inl e))⟩
theorem Ri(h:BR A K Y w g er q)(hb:g.nodes.length<=17179869184)(t:Tok)(va:Value)(hz:t.text.length<=9223372036854775807)(ha:w.ownsRow 0 219 2 va t.d_.length (eQ t.d_))(nu:∀k,va.ownBlock=some k->A k):
  Z4 22 #[Z8 Y,mU t va] w (Ki A K Y w (rz g er q t)):=by
 obtain⟨⟨nv,ov,av,kv,hr⟩,hk,wf⟩:=h;have Y3:=wf.take t;have ng:=eF ha;obtain⟨ai,ac,ng⟩:=ng;unfold rz;by_cases h0:er≠0
 ·rw[if_pos h0];subst ng;refine(Na hr h0 t ai _ ac).mono ?_;rintro e w' ⟨rfl,m⟩;exact⟨rfl,⟨⟨nv,ov,av,kv,hr.more m.size (hr.keep m)⟩,hk,wf⟩,m.frame⟩
 ·rw[if_neg h0];obtain rfl:er=0:=by simpa using h0
  --what a refusal leaves
  have bad:∀(no:Int) (w':World),gI A K Y w' g no t.at_ nv ov av kv->Frame (fun k=>k=Y) w w'->Ki A K Y w (g,no,t.at_) (.returned (.tuple #[])) w':=fun no w' r f=>⟨rfl,⟨⟨nv,ov,av,kv,hr.more f.size r⟩,hk,wf⟩,BA f⟩
  have same:∀w',eN w w'->Ki A K Y w (g,0,q) (.returned (.tuple #[])) w':=fun w' m=>⟨rfl,⟨⟨nv,ov,av,kv,hr.more m.size (hr.keep m)⟩,hk,wf⟩,m.frame⟩
  by_cases li:t.kind=1
  ·by_cases h1:g.stack=[]/\g.nodes≠[]
   ·have e:g.take t=(7,g):=by unfold Gr.take;rw[if_pos li,if_pos h1]
    rw[e,if_pos (by simp)];subst ng;unfold mU;rw[li];refine(Jh hr t h1.1 h1.2 ai _ ac).mono ?_;rintro e w' ⟨rfl,r,f⟩;exact bad 7 w' r f
   ·by_cases h2:30<=g.stack.length
    ·have e:g.take t=(8,g):=by unfold Gr.take;rw[if_pos li,if_neg h1,if_pos h2]
     rw[e,if_pos (by simp)];cases hs:g.stack with
     |nil=>rw[hs]at h2;simp at h2
     |cons k st=>
      subst ng;unfold mU;rw[li];refine(Ji hr t k st hs h2 ai _ ac).mono ?_;rintro e w' ⟨rfl,r,f⟩;exact bad 8 w' r f
    ·have e:g.take t=(0,{ (g.put (elemOf t))with stack:=g.nodes.length::g.stack}):=by unfold Gr.take;rw[if_pos li,if_neg h1,if_neg h2]
     rw[e]at Y3 ⊢;rw[if_neg (by simp)];have fin:∀w' kq tU jS j9,gI A (Grow K w w') Y w' { (g.put (elemOf t))with stack:=g.nodes.length::g.stack} 0 q kq tU jS j9->Frame (fun k=>k=Y\/K k) w w'->Ki A K Y w ({ (g.put (elemOf t))with stack:=g.nodes.length::g.stack},0,q) (.returned (.tuple #[])) w':=fun w' kq tU jS j9 r f=>⟨rfl,⟨⟨kq,tU,jS,j9,r⟩,hk.put (elemOf t) rfl,Y3⟩,f⟩
     unfold mU;rw[li];cases hs:g.stack with
     |nil=>
      have hn:g.nodes=[]:=bJ fun x=>h1 ⟨hs,x⟩;refine(FZ hr wf hk hb t va ha nu hs hn (by omega)).mono ?_;rintro e w' ⟨rfl,kq,tU,jS,j9,r,f⟩;rw[hs]at r fin;exact fin w' kq tU jS j9 r f
     |cons k st=>
      refine(F3 hr wf hk hb t va ha nu k st hs (by omega)).mono ?_;rintro e w' ⟨rfl,kq,tU,jS,j9,r,f⟩;rw[hs]at r fin;exact fin w' kq tU jS j9 r f
  ·by_cases hk2:t.kind=2
   ·cases hs:g.stack with
    |nil=>
     have e:g.take t=(6,g):=by unfold Gr.take;rw[if_neg li,if_pos hk2,hs]
     rw[e,if_pos (by simp)];subst ng;unfold mU;rw[hk2];refine(Jj hr t hs ai _ ac).mono ?_;rintro e w' ⟨rfl,r,f⟩;exact bad 6 w' r f
    |cons k st=>
     obtain⟨m,hm,l8,_⟩:=wf.top hs;by_cases qF:g.named k t.name=true
     ·have e:g.take t=(0,{g with stack:=st}):=by unfold Gr.take;rw[if_neg li,if_pos hk2,hs];simp only[qF,if_true]
      rw[e]at Y3 ⊢;rw[if_neg (by simp)];have hname:m.name=t.name:=by
       have:=(wj g k t.name).1 qF;rw[hm]at this;simpa using this
      subst ng;unfold mU;rw[hk2];refine(Jk hr t k st m hs hm hname ai _ ac).mono ?_;rintro e w' ⟨rfl,tU,r,f⟩;exact⟨rfl,⟨⟨nv,tU,av,kv,hr.more f.size r⟩,hk,Y3⟩,BA f⟩
     ·have e:g.take t=(6,g):=by unfold Gr.take;rw[if_neg li,if_pos hk2,hs];simp only[qF,bf,ay]
      rw[e,if_pos (by simp)];have hname:m.name≠t.name:=fun e=>qF ((wj g k t.name).2 (by rw[hm];simp[e]));subst ng;unfold mU;rw[hk2];refine(FY hr t k st m hs hm hname ai _ ac).mono ?_;rintro e w' ⟨rfl,r,f⟩;exact bad 6 w' r f
   ·cases hs:g.stack with
    |nil=>
     by_cases hbl:ia t.text=true
     ·have e:g.take t=(0,g):=by unfold Gr.take;rw[if_neg li,if_neg hk2,hs];simp only[hbl,if_true]
      rw[e,if_neg (by simp)];subst ng;refine(xn hr t li hk2 hs hbl hz ai _ ac).mono ?_;rintro e w' ⟨rfl,m⟩;exact same w' m
     ·have e:g.take t=(7,g):=by unfold Gr.take;rw[if_neg li,if_neg hk2,hs];simp only[hbl,bf,ay]
      rw[e,if_pos (by simp)];subst ng;refine(Ah hr t li hk2 hs hbl hz ai _ ac).mono ?_;rintro e w' ⟨rfl,r,f⟩;exact bad 7 w' r f
    |cons k st=>
     have e:g.take t=(0,g.put (jo t)):=by unfold Gr.take;rw[if_neg li,if_neg hk2,hs]
     rw[e]at Y3 ⊢;rw[if_neg (by simp)];subst ng;refine(Rg hr wf hk hb t li hk2 k st hs hz ai _ ac).mono ?_;rintro e w' ⟨rfl,kq,jS,j9,r,f⟩;exact⟨rfl,⟨⟨kq,ov,jS,j9,r⟩,hk.put (jo t) rfl,Y3⟩,f⟩
end
section
variable{A K K' F:Nat->Prop}{w w' w1 w2 w4 wr:World}{nv ov a v:Value}{av kv:Nat->Value}{g:Gr}{X Y:Nat}{er q:Int}{l T:List Tok}
theorem oz.at:∀{l:List Tok} {cs:List Value},oz F X w l cs->∀(i:Nat) (hi:i<l.length),∃va,w.ownsRow 0 219 2 va (l[i]).d_.length (eQ (l[i]).d_)/\cs[i*5]?=some (.int .i64 (l[i]).kind)/\cs[i*5+1]?=some (e8 (l[i]).name)/\cs[i*5+2]?=some va/\cs[i*5+3]?=some (e8 (l[i]).text)/\cs[i*5+4]?=some (.int .i64 (l[i]).at_)
 |[],_,_,i,hi=>absurd hi (Nat.not_lt_zero _)
 |t::l,_,⟨v,cs,e,ho,hf,hl⟩,i,hi=>by
  subst e;cases i with
  |zero=>exact⟨v,ho,rfl,rfl,rfl,rfl,rfl⟩
  |succ i=>
   obtain⟨va,a0,a1,a2,a3,a4,a5⟩:=oz.at hl i (by simpa using hi);have e1:∀j,(i+1)*5+j=(fk t v).length+(i*5+j):=fun j=>by show _=5+_;omega
   have e2:∀j,(fk t v++cs)[(i+1)*5+j]?=cs[i*5+j]?:=fun j=>by rw[e1,aP (cj _ _),Nat.add_sub_cancel_left]
   exact⟨va,a0,(e2 0).trans a1,(e2 1).trans a2,(e2 2).trans a3,(e2 3).trans a4,(e2 4).trans a5⟩
theorem QP.at(h:QP w v l)(i:Nat)(hi:i<l.length):∃g cap va,v=Z9 g l.length cap/\w.ownsRow 0 219 2 va (l[i]).d_.length (eQ (l[i]).d_)/\
  w.cell? ⟨g,i*5,none⟩=some (.int .i64 (l[i]).kind)/\w.cell? ⟨g,i*5+1,none⟩=some (e8 (l[i]).name)/\w.cell? ⟨g,i*5+2,none⟩=some va/\w.cell? ⟨g,i*5+3,none⟩=some (e8 (l[i]).text)/\w.cell? ⟨g,i*5+4,none⟩=some (.int .i64 (l[i]).at_)/\l.length<=maxLen:=by
 obtain⟨F,X,cs,h1,h2⟩:=h;rcases h1.2 with⟨e,e0⟩|⟨g,cap,cur,e,_,_,Sh,Kz,_⟩
 ·omega
 subst e;have hc:=h1.cells (g:=g) rfl;obtain⟨va,a0,a1,a2,a3,a4,a5⟩:=h2.at i hi;have up:∀j u,cs[j]?=some u->w.cell? ⟨g,j,none⟩=some u:=fun j u hj=>by
  have:=hc j u hj;rwa[Addr.add_mid,ax]at this
 exact⟨g,cap,va,rfl,a0,up _ _ a1,up _ _ a2,up _ _ a3,up _ _ a4,up _ _ a5,aw Sh Kz⟩
theorem Nc(h:QP w v l):∃b c,v=.slice b l.length c/\l.length<=maxLen:=by
 obtain⟨F,X,cs,o,_⟩:=h;rcases o.2 with⟨rfl,e⟩|⟨g,cap,cur,rfl,_,_,h1,h2,_⟩
 ·rw[e];exact⟨none,0,rfl,aq _⟩
 ·exact⟨_,_,rfl,aw h1 h2⟩
def p9:Gr×Int×Int->List Tok->Gr×Int×Int
 |x,[]=>x
 |x,t::l=>p9 (rz x.1 x.2.1 x.2.2 t) l
theorem zx:∀(l:List Tok) (g:Gr) (er q:Int),er≠0->p9 (g,er,q) l=(g,er,q)
 |[],_,_,_,_=>rfl
 |t::l,g,er,q,h=>by
  simp only[p9];have:rz g er q t=(g,er,q):=by unfold rz;rw[if_pos h]
  rw[this];exact zx l g er q h
theorem wW:∀(l:List Tok) (g:Gr) (q:Int),p9 (g,0,q) l=if(grow g l).1≠0 then((grow g l).2.2,(grow g l).1,(grow g l).2.1)else((grow g l).2.2,0,q)
 |[],g,q=>by simp[p9,grow]
 |t::l,g,q=>by
  simp only[p9];by_cases h:(g.take t).1=0
  ·have e:rz g 0 q t=((g.take t).2,0,q):=by unfold rz;rw[if_neg (by simp),if_neg (by simpa using h)]
   have eg:grow g (t::l)=grow (g.take t).2 l:=by simp only[grow];rw[if_neg (by simpa using h)]
   rw[e,wW l,eg]
  ·have e:rz g 0 q t=(g,(g.take t).1,t.at_):=by unfold rz;rw[if_neg (by simp),if_pos h]
   have eg:grow g (t::l)=((g.take t).1,t.at_,g):=by simp only[grow];rw[if_pos h]
   rw[e,zx _ _ _ _ h,eg,if_pos h]
structure BI(w4:World)(T:List Tok)(wr:World)(k:Nat):Prop where
 ex:∃g er q Kx,BR (fun j=>j<w4.heap.size) Kx w4.heap.size wr g er q/\(∀j,Kx j->w4.heap.size<=j)/\p9 (Gr.zero,0,0) T=p9 (g,er,q) (T.drop k)/\g.nodes.length<=k
 more:eN w4 wr
theorem BI.start:BI w4 T (w4.alloc (.cells #[.slice none 0 0,.slice none 0 0,.int .i64 0,.int .i64 0] 83)) 0:=by refine⟨⟨Gr.zero,0,0,fun _=>False,⟨⟨fK,fK,_,_,⟨eL w4 _,ic.zero,⟨rfl,Or.inl ⟨rfl,rfl⟩⟩,(fun k e=>by cases e),(fun x=>absurd x (Nat.lt_irrefl _)),(fun x=>x),(fun _ _ x=>x),(fun _ x=>x.elim),(fun k x=>by have x':k<w4.heap.size:=x;simp;omega)⟩⟩,(fun i m hi=>by simp[Gr.zero]at hi),Gr.Wf.zero⟩,fun _ x=>x.elim,by simp,by simp[Gr.zero]⟩,(eN.refl w4).alloc _⟩
theorem Nf(g:Gr)(er q:Int)(t:Tok):(rz g er q t).1.nodes.length<=g.nodes.length+1:=by
 have:(g.take t).2.nodes.length<=g.nodes.length+1:=by
  unfold Gr.take;split
  ·split
   ·simp
   ·split
    ·simp
    ·simp only[mH];omega
  ·split
   ·split
    ·simp
    ·split<;>simp
   ·split
    ·split<;>simp
    ·rw[mH];omega
 unfold rz;split
 ·simp
 ·split
  ·simp
  ·exact this
theorem BI.call{k:Nat}(h:BI w4 T wr k)(hk:k<T.length)(hb:T.length<=17179869184)(va:Value)(hz:(T[k]).text.length<=9223372036854775807)(ha:w4.ownsRow 0 219 2 va (T[k]).d_.length (eQ (T[k]).d_))(W:World)(hW:eN wr W):
  Z4 22 #[.pointer (some ⟨w4.heap.size,0,none⟩),mU (T[k]) va] W fun e w'=>e=.returned (.tuple #[])/\BI w4 T w' (k+1):=by
 obtain⟨⟨g,er,q,Kx,hg,hKx,hgr,hlen⟩,hM⟩:=h;have wT:=hM.trans hW;have hdrop:T.drop k=T[k]::T.drop (k+1):=(bT hk)
 refine(Ri (hg.keep hW) (by omega) (T[k]) va hz (eH ha fun b e=>wT.keep b (eW ha e)) (fun b e=>eW ha e)).mono ?_;rintro e w' ⟨rfl,r,fr⟩;have hM3:eN w4 w':=⟨fr.os.trans wT.os,fr.tape.trans wT.tape,fr.output.trans wT.output,aw wT.size fr.size,fun b hb2=>by
  rw[fr.block b (ah hb2 wT.size) (fun x=>by
   rcases x with e|e
   ·omega
   ·have:=hKx b e;omega)]
  exact wT.keep b hb2⟩
 refine⟨rfl,⟨_,_,_,_,r,?_,?_,?_⟩,hM3⟩
 ·rintro j (e|e)
  ·exact hKx j e
  ·have:=e.1;have:=wT.size;omega
 ·rw[hgr,hdrop];rfl
 ·have:=Nf g er q (T[k]);omega
theorem BI.over(h:BI w4 T wr T.length):∃g er q Kx,BR (fun j=>j<w4.heap.size) Kx w4.heap.size wr g er q/\(∀j,Kx j->w4.heap.size<=j)/\p9 (Gr.zero,0,0) T=(g,er,q):=by
 obtain⟨⟨g,er,q,Kx,h1,h2,h3,_⟩,_⟩:=h;refine⟨g,er,q,Kx,h1,h2,?_⟩;rw[h3,dx];rfl
end
section
variable{A K K' F:Nat->Prop}{w w' w1 w2 w4 wr:World}{nv ov a v:Value}{av kv:Nat->Value}{g:Gr}{X Y:Nat}{er q:Int}{l T:List Tok}
def BB(w:World)(x:List Nd×Int×Int)(e:Ending)(w':World):Prop:=∃v,e=.returned (.tuple #[v,.int .i64 x.2.1,.int .i64 x.2.2])/\(∃A K av kv,ic 53 219 A K w' v x.1 av kv)/\Z5 w w'
structure Yf(w:World)(s:ByteArray)(v:Value)(w4:World):Prop where
 ans:QP w4 v ((eV s).l++(eV s).last)
 below:Z5 w w4
 err:w4.cell? ⟨w.heap.size,5,none⟩=some (.int .i64 (eV s).err)
 at_:w4.cell? ⟨w.heap.size,6,none⟩=some (.int .i64 (eV s).at_)
theorem Ng(s:ByteArray)(w:World)(hs:s.size<=268435456):
  Z4 20 #[.string s] w fun e w1=>e=.returned (.pointer (some ⟨w.heap.size,0,none⟩))/\∃lv,(∃o n c,lv=.slice o n c)/\Z4 21 #[.pointer (some ⟨w.heap.size,0,none⟩)] w1 fun e w2=>∃v2,e=.returned v2/\w2.cell? ⟨w.heap.size,2,none⟩=some lv/\∃v' w4,(Builtin.append_ #[77,77] 77 #[lv,v2]).run prog w2=.ok v' w4/\Yf w s v' w4:=by
 have hlen:=QT s;refine(QM s w (by omega)).mono ?_;rintro e w1 ⟨rfl,F,lv,cs,rs,b1,hF⟩;refine⟨rfl,lv,?_,(QQ rs.sat).mono ?_⟩
 ·obtain⟨o,c,e⟩:=eF rs.row;exact⟨o,_,c,e⟩
 rintro e w2 ⟨v2,rfl,b2,hv⟩;have ry:w.heap.size<w1.heap.size:=rs.lt _ rs.has;have VW:w2.heap[w.heap.size]?=w1.heap[w.heap.size]?:=b2.block _ ry;have c2:w1.cell? ⟨w.heap.size,2,none⟩=some lv:=rs.sat.cell 2 rfl;have c5:w1.cell? ⟨w.heap.size,5,none⟩=some (.int .i64 (eV s).err):=rs.sat.cell 5 rfl;have c6:w1.cell? ⟨w.heap.size,6,none⟩=some (.int .i64 (eV s).at_):=rs.sat.cell 6 rfl;obtain⟨v',w4,hrun,Rj,hgr⟩:=QR rs b2 v2 hv (by omega);have abI:lv.ownBlock≠some w.heap.size:=rs.ne;have hz2:=b2.size;have VX:w4.heap[w.heap.size]?=w1.heap[w.heap.size]?:=(hgr.block _ (by omega) (fun e=>abI e.symm)).trans VW;have hb4:Z5 w w4:=by
  refine(b1.trans (gA b2 b1.size)).trans ⟨hgr.os,hgr.tape,hgr.output,hgr.size,fun k hk=>hgr.block k (by omega) (fun e=>?_)⟩;have:=hF k (rs.own k e.symm).1;omega
 exact⟨v2,rfl,(ag (a:=⟨w.heap.size,2,none⟩) VW).trans c2,v',w4,hrun,⟨Rj,hb4,(ag (a:=⟨w.heap.size,5,none⟩) VX).trans c5,(ag (a:=⟨w.heap.size,6,none⟩) VX).trans c6⟩⟩
theorem Rk{T:List Tok}{g:Gr}{q:Int}(h:(if(grow Gr.zero T).1≠0 then((grow Gr.zero T).2.2,(grow Gr.zero T).1,(grow Gr.zero T).2.1)else((grow Gr.zero T).2.2,0,0))=(g,0,q)):(grow Gr.zero T).1=0/\(grow Gr.zero T).2.2=g:=by
 by_cases hx:(grow Gr.zero T).1=0
 ·rw[if_neg (by simpa using hx)]at h;simp only[cw]at h;exact⟨hx,h.1⟩
 ·rw[if_pos hx]at h;simp only[cw]at h;exact absurd h.2.1 hx
theorem Nh{T:List Tok}{g:Gr}{er q:Int}(he:er≠0)(h:(if(grow Gr.zero T).1≠0 then((grow Gr.zero T).2.2,(grow Gr.zero T).1,(grow Gr.zero T).2.1)else((grow Gr.zero T).2.2,0,0))=(g,er,q)):(grow Gr.zero T).1≠0/\(grow Gr.zero T).1=er/\(grow Gr.zero T).2.1=q:=by
 by_cases hx:(grow Gr.zero T).1=0
 ·rw[if_neg (by simpa using hx)]at h;simp only[cw]at h;exact absurd h.2.1.symm he
 ·rw[if_pos hx]at h;simp only[cw]at h;exact⟨hx,h.2.1,h.2.2⟩
theorem wX(b4:Z5 w w4)(hM:eN w4 w'):Z5 w w':=b4.trans ⟨hM.os,hM.tape,hM.output,hM.size,fun k hk=>hM.keep k (ah hk b4.size)⟩
theorem jp{F:Nat->Prop}{n:Nat}(f:Frame F w w'):Frame F w (w'.drewN n):=⟨f.os,f.tape,f.output,f.size,f.block⟩
theorem jD{no p:Int}(b4:Z5 w w4)(hM:eN w4 wr)(f:eN wr w'\/Frame (fun k=>k=w4.heap.size) wr w'):BB w ([],no,p) (.returned (.tuple #[.slice none 0 0,.int .i64 no,.int .i64 p])) w':=by
 have wT:eN w4 w':=by
  rcases f with f|f
  ·exact hM.trans f
  ·exact⟨f.os.trans hM.os,f.tape.trans hM.tape,f.output.trans hM.output,aw hM.size f.size,fun b hb=>(f.block b (ah hb hM.size) (by omega)).trans (hM.keep b hb)⟩
 exact⟨fK,rfl,⟨fun _=>False,fun _=>False,_,_,ic.zero⟩,wX b4 wT⟩
theorem BF(s:ByteArray)(w:World)(hs:s.size<=268435456):Z4 10 #[.string s] w (BB w (fj s)):=by
 have hst:=Ng s w hs;have Q_:=says s;have hlen:=Bv s;have QK:=zq s;have HST:=a_ hst;have Ag:=a_ Q_;have X4:=a_ hlen;have HTX:=a_ QK;clear hst Q_ hlen QK;go_enter func10,ntmps10;go_wp2_with fail;refine HST.out.mono ?_;rintro e w1 ⟨rfl,lv,⟨lo,ln,lc,rfl⟩,Ap⟩;go_wp2_with fail;refine Ap.mono ?_;rintro e w2 ⟨v2,rfl,c2,v',w4,hrun,Sw⟩;have Rj:=Sw.ans;have hb4:=Sw.below;have he4:=Sw.err;have ha4:=Sw.at_;generalize (eV s).l++(eV s).last=T at*
 generalize (eV s).err=Dp at*
 generalize (eV s).at_=Sv at*
 obtain⟨bl,cl,el,hmx⟩:=Nc Rj;subst el;have AN4:=a_ Rj;have B4:=a_ hb4;have E4:=a_ he4;have T4:=a_ ha4;have HMX:=a_ hmx;clear Sw Rj hb4 he4 ha4 hmx Ap HST;go_wp2_with(at_builtin;refine Dk rfl (.tmp 17) (.tmp 18) rfl rfl _ _ rfl rfl hrun ?_);have aaw:w.heap.size<w4.heap.size:=aU w4 _ E4.out;go_loopw [9] (fun iv wr=>∃k:Nat,iv=.int .i64 k/\k<=T.length/\BI w4 T wr k) (fun iv _=>T.length-(RowKit.intOf iv).toNat)
 case atStart=>exact⟨0,rfl,aq _,BI.start⟩
 case round=>
  obtain⟨k,rfl,hk,Sx⟩:=hrel;by_cases mN:k<T.length
  ·have hdec:decide ((k:Int)<T.length)=true:=by simp;omega
   have zv:decide (k<T.length)=true:=by simp;omega
   have UY:(k:Int)<T.length:=by omega
   have UO:(T.length:Int)<=9223372036854775807:=by have:=HMX.out;have:maxLen=9223372036854775807:=rfl;omega
   obtain⟨gT,cT,va,eT,oa,x0,x1,x2,x3,x4,_⟩:=AN4.out.at k mN;have Gh:=X4.out;have fy:=Sx.call mN (by omega) va (by have:=HTX.out _ (bR mN);omega) oa wr (eN.refl wr);obtain⟨ai,ac,ng⟩:=eF oa;cases eT;have hlt:gT<w4.heap.size:=aU w4 _ x0;subst ng;unfold e8 at x1 x3;unfold mU e8 at fy;have y0:=(ag (a:=⟨gT,k*5,none⟩) (Sx.more.keep gT hlt)).trans x0;have y1:=(ag (a:=⟨gT,k*5+1,none⟩) (Sx.more.keep gT hlt)).trans x1;have y2:=(ag (a:=⟨gT,k*5+2,none⟩) (Sx.more.keep gT hlt)).trans x2;have y3:=(ag (a:=⟨gT,k*5+3,none⟩) (Sx.more.keep gT hlt)).trans x3;have y4:=(ag (a:=⟨gT,k*5+4,none⟩) (Sx.more.keep gT hlt)).trans x4;have HC:=a_ fy;clear fy Sx oa x0 x1 x2 x3 x4 Gh;generalize T[k]=t at*
   go_wp2_with fail;refine HC.out.mono ?_;rintro e w5 ⟨rfl,zG⟩;have WT:=a_ zG;clear zG;go_wp2
   go_roundw
   case rel=>exact⟨k+1,by simp,by omega,WT.out⟩
   case measure=>simp only[RowKit.intOf];omega
  ·have hdec:decide ((k:Int)<T.length)=false:=by simp;omega
   have zv:decide (k<T.length)=false:=by simp;omega
   have he:k=T.length:=by omega
   subst he;have hM:=Sx.more;obtain⟨g,er,q,Kx,⟨⟨nv,ov,av,kv,hr⟩,_,_⟩,hKx,hgr⟩:=Sx.over;rw[wW]at hgr;obtain⟨ni,nc,qy⟩:=eF hr.nodes.row;obtain⟨oi,oc,hov⟩:=eF hr.opens;subst qy;subst hov;have e5:wr.cell? ⟨w.heap.size,5,none⟩=some (.int .i64 Dp):=(ag (hM.keep _ aaw)).trans E4.out;have e6:wr.cell? ⟨w.heap.size,6,none⟩=some (.int .i64 Sv):=(ag (hM.keep _ aaw)).trans T4.out;have Hq:=a_ hgr;have HR:=a_ hr;have vg:=a_ hM;clear Sx hgr hr hM hKx;have hsz:(s.size:Int)<=9223372036854775807:=by omega
   by_cases h0:er=0
   ·subst h0;have hg0:(grow Gr.zero T).1=0/\(grow Gr.zero T).2.2=g:=Rk Hq.out;by_cases h1:Dp=0
    ·subst h1;by_cases xH:g.stack=[]
     ·have BG:=xH;by_cases lG:g.nodes=[]
      ·have qx:=Ag.out.form hg0.1 rfl (Or.inr (by rw[hg0.2];exact lG));have hc1:decide (0<g.stack.length)=false:=by rw[BG];rfl
       have hc2:(g.nodes.length==0)=true:=by rw[lG];rfl
       have hc3:decide (g.nodes.length=0)=true:=by rw[lG];rfl
       clear hg0;clear BG xH lG;have y0:=HR.out.cell 0 rfl;have y1:=HR.out.cell 1 rfl;have y2:=HR.out.cell 2 rfl;have y3:=HR.out.cell 3 rfl;go_wp2_with fail;refine(iR HR.out _ _).mono ?_;rintro e w6 ⟨rfl,r6,f6⟩;simp only[if_true]at r6;have R6:=a_ r6;have F6:=a_ f6;clear r6 f6;have y0:=R6.out.cell 0 rfl;have y1:=R6.out.cell 1 rfl;have y2:=R6.out.cell 2 rfl;have y3:=R6.out.cell 3 rfl;go_wp2_with fail;go_quiet(fail);go_wp2
       go_ret3
       rw[qx];exact jD B4.out vg.out (Or.inr (jp F6.out))
      ·have qx:=Ag.out.ok hg0.1 rfl (by rw[hg0.2];exact BG) (by rw[hg0.2];exact lG);rw[hg0.2]at qx;have hc1:decide (0<g.stack.length)=false:=by rw[BG];rfl
       have hc2:(g.nodes.length==0)=false:=by
        cases hg:g.nodes with
        |nil=>exact absurd hg lG
        |cons a l=>rfl
       have hc3:decide (g.nodes.length=0)=false:=by simpa using lG
       clear hg0;clear BG xH lG;have y0:=HR.out.cell 0 rfl;have y1:=HR.out.cell 1 rfl;have y2:=HR.out.cell 2 rfl;have y3:=HR.out.cell 3 rfl;go_wp2_with fail
       go_ret3
       rw[qx];exact⟨_,rfl,⟨_,_,_,_,HR.out.nodes⟩,wX B4.out vg.out⟩
     ·have qx:=Ag.out.form hg0.1 rfl (Or.inl (by rw[hg0.2];exact xH));have hc1:decide (0<g.stack.length)=true:=by
       cases hg:g.stack with
       |nil=>exact absurd hg xH
       |cons a l=>simp
      clear hg0;clear xH;have y0:=HR.out.cell 0 rfl;have y1:=HR.out.cell 1 rfl;have y2:=HR.out.cell 2 rfl;have y3:=HR.out.cell 3 rfl;go_wp2_with fail;refine(iR HR.out _ _).mono ?_;rintro e w6 ⟨rfl,r6,f6⟩;simp only[if_true]at r6;have R6:=a_ r6;have F6:=a_ f6;clear r6 f6;have y0:=R6.out.cell 0 rfl;have y1:=R6.out.cell 1 rfl;have y2:=R6.out.cell 2 rfl;have y3:=R6.out.cell 3 rfl;go_wp2_with fail;go_quiet(fail);go_wp2
      go_ret3
      rw[qx];exact jD B4.out vg.out (Or.inr (jp F6.out))
    ·have qx:=Ag.out.err hg0.1 h1;have Ai:(Dp !=0)=true:=by simpa using h1
     have H1:=a_ h1;clear hg0 h1;have y0:=HR.out.cell 0 rfl;have y1:=HR.out.cell 1 rfl;have y2:=HR.out.cell 2 rfl;have y3:=HR.out.cell 3 rfl;have zI:=iR (HR.out.keep (W:=wr.drew) ((eN.refl wr).drewN 1)) Dp Sv;simp only[if_true]at zI;have HFL:=a_ zI;clear zI;have abJ:w4.heap.size<=wr.heap.size:=vg.out.size;go_wp2_with fail;go_region_held3 (fun W=>W.cell? ⟨w.heap.size,5,none⟩=some (.int .i64 Dp)/\W.cell? ⟨w.heap.size,6,none⟩=some (.int .i64 Sv))
      (first|exact⟨e5,e6⟩|exact⟨k5,k6⟩)
      (first|(go_at_call 23;refine HFL.out.mono ?_;rintro e w6 ⟨rfl,r6,f6⟩;have k5:w6.cell? ⟨w.heap.size,5,none⟩=some (.int .i64 Dp):=(ag (f6.block w.heap.size (show w.heap.size<wr.heap.size by omega) (by omega))).trans e5;have k6:w6.cell? ⟨w.heap.size,6,none⟩=some (.int .i64 Sv):=(ag (f6.block w.heap.size (show w.heap.size<wr.heap.size by omega) (by omega))).trans e6;have R6:=a_ r6;have F6:Hid (Frame (fun k=>k=w4.heap.size) wr w6):=a_ ⟨f6.os,f6.tape,f6.output,f6.size,f6.block⟩;clear r6 f6))
     all_goals
      clear e5 e6 k5 k6 y0 y1 y2 y3;have y0:=R6.out.cell 0 rfl;have y1:=R6.out.cell 1 rfl;have y2:=R6.out.cell 2 rfl;have y3:=R6.out.cell 3 rfl;by_cases xH:g.stack=[]
      ·have BG:=xH;by_cases lG:g.nodes=[]
       ·have hc1:decide (0<g.stack.length)=false:=by rw[BG];rfl
        have hc2:(g.nodes.length==0)=true:=by rw[lG];rfl
        have hc3:decide (g.nodes.length=0)=true:=by rw[lG];rfl
        clear BG xH lG;go_wp2_with fail;refine(iR R6.out _ _).mono ?_;rintro e w7 ⟨rfl,r7,f7⟩;rw[if_neg H1.out,if_neg H1.out]at r7;have R7:=a_ r7;have F7:=a_ f7;clear r7 f7;have y0:=R7.out.cell 0 rfl;have y1:=R7.out.cell 1 rfl;have y2:=R7.out.cell 2 rfl;have y3:=R7.out.cell 3 rfl;go_wp2_with fail;go_quiet(fail);go_wp2
        go_ret3
        rw[qx];exact jD B4.out vg.out (Or.inr (jp (F6.out.trans' F7.out)))
       ·have hc1:decide (0<g.stack.length)=false:=by rw[BG];rfl
        have hc2:(g.nodes.length==0)=false:=by
         cases hg:g.nodes with
         |nil=>exact absurd hg lG
         |cons a l=>rfl
        have hc3:decide (g.nodes.length=0)=false:=by simpa using lG
        clear BG xH lG;go_wp2_with fail;go_quiet(fail);go_wp2
        go_ret3
        rw[qx];exact jD B4.out vg.out (Or.inr (jp F6.out))
      ·have hc1:decide (0<g.stack.length)=true:=by
        cases hg:g.stack with
        |nil=>exact absurd hg xH
        |cons a l=>simp
       clear xH;go_wp2_with fail;refine(iR R6.out _ _).mono ?_;rintro e w7 ⟨rfl,r7,f7⟩;rw[if_neg H1.out,if_neg H1.out]at r7;have R7:=a_ r7;have F7:=a_ f7;clear r7 f7;have y0:=R7.out.cell 0 rfl;have y1:=R7.out.cell 1 rfl;have y2:=R7.out.cell 2 rfl;have y3:=R7.out.cell 3 rfl;go_wp2_with fail;go_quiet(fail);go_wp2
       go_ret3
       rw[qx];exact jD B4.out vg.out (Or.inr (jp (F6.out.trans' F7.out)))
   ·have hb0:=Nh h0 Hq.out;have qx:=Ag.out.tok hb0.1;rw[hb0.2.1,hb0.2.2]at qx;have zP:(er !=0)=true:=by simpa using h0
    have H0:=a_ h0;clear hb0 h0;by_cases h1:Dp=0
    ·subst h1;have y0:=HR.out.cell 0 rfl;have y1:=HR.out.cell 1 rfl;have y2:=HR.out.cell 2 rfl;have y3:=HR.out.cell 3 rfl;by_cases xH:g.stack=[]
     ·have BG:=xH;by_cases lG:g.nodes=[]
      ·have hc1:decide (0<g.stack.length)=false:=by rw[BG];rfl
       have hc2:(g.nodes.length==0)=true:=by rw[lG];rfl
       have hc3:decide (g.nodes.length=0)=true:=by rw[lG];rfl
       clear BG xH lG;go_wp2_with fail;refine(iR HR.out _ _).mono ?_;rintro e w7 ⟨rfl,r7,f7⟩;rw[if_neg H0.out,if_neg H0.out]at r7;have R7:=a_ r7;have F7:=a_ f7;clear r7 f7;have y0:=R7.out.cell 0 rfl;have y1:=R7.out.cell 1 rfl;have y2:=R7.out.cell 2 rfl;have y3:=R7.out.cell 3 rfl;go_wp2_with fail;go_quiet(fail);go_wp2
       go_ret3
       rw[qx];exact jD B4.out vg.out (Or.inr (jp F7.out))
      ·have hc1:decide (0<g.stack.length)=false:=by rw[BG];rfl
       have hc2:(g.nodes.length==0)=false:=by
        cases hg:g.nodes with
        |nil=>exact absurd hg lG
        |cons a l=>rfl
       have hc3:decide (g.nodes.length=0)=false:=by simpa using lG
       clear BG xH lG;go_wp2_with fail;go_quiet(fail);go_wp2
       go_ret3
       rw[qx];exact jD B4.out vg.out (Or.inl ((eN.refl wr).drewN _))
     ·have hc1:decide (0<g.stack.length)=true:=by
       cases hg:g.stack with
       |nil=>exact absurd hg xH
       |cons a l=>simp
      clear xH;go_wp2_with fail;refine(iR HR.out _ _).mono ?_;rintro e w7 ⟨rfl,r7,f7⟩;rw[if_neg H0.out,if_neg H0.out]at r7;have R7:=a_ r7;have F7:=a_ f7;clear r7 f7;have y0:=R7.out.cell 0 rfl;have y1:=R7.out.cell 1 rfl;have y2:=R7.out.cell 2 rfl;have y3:=R7.out.cell 3 rfl;go_wp2_with fail;go_quiet(fail);go_wp2
      go_ret3
      rw[qx];exact jD B4.out vg.out (Or.inr (jp F7.out))
    ·have Ai:(Dp !=0)=true:=by simpa using h1
     clear h1;have y0:=HR.out.cell 0 rfl;have y1:=HR.out.cell 1 rfl;have y2:=HR.out.cell 2 rfl;have y3:=HR.out.cell 3 rfl;have zI:=iR (HR.out.keep (W:=wr.drew) ((eN.refl wr).drewN 1)) Dp Sv;rw[if_neg H0.out,if_neg H0.out]at zI;have HFL:=a_ zI;clear zI;have abJ:w4.heap.size<=wr.heap.size:=vg.out.size;go_wp2_with fail;go_region_held3 (fun W=>W.cell? ⟨w.heap.size,5,none⟩=some (.int .i64 Dp)/\W.cell? ⟨w.heap.size,6,none⟩=some (.int .i64 Sv))
      (first|exact⟨e5,e6⟩|exact⟨k5,k6⟩)
      (first|(go_at_call 23;refine HFL.out.mono ?_;rintro e w6 ⟨rfl,r6,f6⟩;have k5:w6.cell? ⟨w.heap.size,5,none⟩=some (.int .i64 Dp):=(ag (f6.block w.heap.size (show w.heap.size<wr.heap.size by omega) (by omega))).trans e5;have k6:w6.cell? ⟨w.heap.size,6,none⟩=some (.int .i64 Sv):=(ag (f6.block w.heap.size (show w.heap.size<wr.heap.size by omega) (by omega))).trans e6;have R6:=a_ r6;have F6:Hid (Frame (fun k=>k=w4.heap.size) wr w6):=a_ ⟨f6.os,f6.tape,f6.output,f6.size,f6.block⟩;clear r6 f6))
     all_goals
      clear e5 e6 k5 k6 y0 y1 y2 y3;have y0:=R6.out.cell 0 rfl;have y1:=R6.out.cell 1 rfl;have y2:=R6.out.cell 2 rfl;have y3:=R6.out.cell 3 rfl;by_cases xH:g.stack=[]
      ·have BG:=xH;by_cases lG:g.nodes=[]
       ·have hc1:decide (0<g.stack.length)=false:=by rw[BG];rfl
        have hc2:(g.nodes.length==0)=true:=by rw[lG];rfl
        have hc3:decide (g.nodes.length=0)=true:=by rw[lG];rfl
        clear BG xH lG;go_wp2_with fail;refine(iR R6.out _ _).mono ?_;rintro e w7 ⟨rfl,r7,f7⟩;rw[if_neg H0.out,if_neg H0.out]at r7;have R7:=a_ r7;have F7:=a_ f7;clear r7 f7;have y0:=R7.out.cell 0 rfl;have y1:=R7.out.cell 1 rfl;have y2:=R7.out.cell 2 rfl;have y3:=R7.out.cell 3 rfl;go_wp2_with fail;go_quiet(fail);go_wp2
        go_ret3
        rw[qx];exact jD B4.out vg.out (Or.inr (jp (F6.out.trans' F7.out)))
       ·have hc1:decide (0<g.stack.length)=false:=by rw[BG];rfl
        have hc2:(g.nodes.length==0)=false:=by
         cases hg:g.nodes with
         |nil=>exact absurd hg lG
         |cons a l=>rfl
        have hc3:decide (g.nodes.length=0)=false:=by simpa using lG
        clear BG xH lG;go_wp2_with fail;go_quiet(fail);go_wp2
        go_ret3
        rw[qx];exact jD B4.out vg.out (Or.inr (jp F6.out))
      ·have hc1:decide (0<g.stack.length)=true:=by
        cases hg:g.stack with
        |nil=>exact absurd hg xH
        |cons a l=>simp
       clear xH;go_wp2_with fail;refine(iR R6.out _ _).mono ?_;rintro e w7 ⟨rfl,r7,f7⟩;rw[if_neg H0.out,if_neg H0.out]at r7;have R7:=a_ r7;have F7:=a_ f7;clear r7 f7;have y0:=R7.out.cell 0 rfl;have y1:=R7.out.cell 1 rfl;have y2:=R7.out.cell 2 rfl;have y3:=R7.out.cell 3 rfl;go_wp2_with fail;go_quiet(fail);go_wp2
       go_ret3
       rw[qx];exact jD B4.out vg.out (Or.inr (jp (F6.out.trans' F7.out)))
end
end K
end Go.Proofs.YthlcmljckpdheaaGreatDoor
