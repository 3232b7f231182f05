import Derived.Test.YtclgfepngpeifaaGreatDoorXA
import Derived.Test.YtclgfepngpeifaaGreatDoorXae
set_option linter.unusedVariables false
set_option linter.unusedSimpArgs false
set_option maxHeartbeats 32000000
set_option maxRecDepth 100000
namespace Go.Proofs.YtclgfepngpeifaaGreatDoor
open Go.RowKit Go.Maps Go.Lib Go.Shelf Tryz
section
attribute [local go_sem] Oper.semAt_some
variable{w w' W W' w1 w2 wr:World}{v nv lv:Value}{l fr L cs xs ls ah:List Int}{N X B:Nat}{kd:Nat->List Int}{nm:Nat->ByteArray}{hb:Int->Nat->Bool}{TX:ByteArray}
abbrev K_:=List (ByteArray×ByteArray)
def AR(w:World)(v:Value)(l:K_):Prop:=∃ai cap,v=.slice ai l.length cap/\(l.length<=cap/\l.length<=1000000000000)/\∀(i:Nat) x,l[i]?=some x->∃g,ai=some ⟨g,0,none⟩/\g<w.heap.size/\w.cell? ⟨g,i*2,none⟩=some (.string x.1)/\w.cell? ⟨g,i*2+1,none⟩=some (.string x.2)
def UH(w:World)(X N:Nat)(at_:Nat->K_):Prop:=∃g cap,w.cell? ⟨X,0,none⟩=some (Z9 g N cap)/\(X<w.heap.size/\g<w.heap.size)/\∀k,k<N->∃u,w.cell? ⟨g,k*5+1,none⟩=some u/\AR w u (at_ k)
theorem AR.gm{a:K_}(h:AR w v a)(hb:eQ w.heap.size w w'):AR w' v a:=by
 obtain⟨ai,cap,e,hn,hr⟩:=h;refine⟨ai,cap,e,hn,fun i x hx=>?_⟩;obtain⟨g,e,hg,h0,h1⟩:=hr i x hx;exact⟨g,e,aq hg hb.1,hb.cell hg h0,hb.cell hg h1⟩
theorem UH.gm{at_:Nat->K_}(h:UH w X N at_)(hb:eQ w.heap.size w w'):UH w' X N at_:=by
 obtain⟨g,cap,c,⟨hX,hg⟩,hr⟩:=h;refine⟨g,cap,hb.cell hX c,⟨aq hX hb.1,aq hg hb.1⟩,fun k hk=>?_⟩;obtain⟨u,h1,h2⟩:=hr k hk;exact⟨u,hb.cell hg h1,h2.gm hb⟩
theorem uz.below{gJ:List oh}(h:uz w v gJ)(hw:Z5 w w'):uz w' v gJ:=by
 obtain⟨ai,cap,e,hn,hr⟩:=h;refine⟨ai,cap,e,hn,fun i s hs=>?_⟩;obtain⟨g,ci,cc,e,hg,c0,c1,c2,hc⟩:=hr i s hs;exact⟨g,ci,cc,e,aq hg hw.size,(bc hw).cell hg c0,(bc hw).cell hg c1,(bc hw).cell hg c2,hc.below hw⟩
theorem Sw(D:DocM w X N kd nm ls){gJ:List oh}{k:Nat}(h0:kM N [(k:Int)]):∀x∈mj N kd nm ls hb gJ k,0<=x/\x<(N:Int):=by
 unfold mj;cases h:gJ.getLast? with
 |none=>
  intro x hx;have:=h0 x hx;simp at hx;omega
 |some s=>exact fun x hx=>oV D (vR D h0 _) s.1 x (List.mem_filter.1 hx).1
def KC(A B:World):Prop:=eQ A.heap.size A B
theorem KC.trans{A B C:World}(h:KC A B)(k:KC B C):KC A C:=eQ.trans h (k.less h.1)
theorem KC.kq{n:Nat}{A B:World}(h:KC A B):Kq n A B:=⟨⟨h.1,fun k c t fz _ hk=>h.2 k c t fz (dQ hk) hk⟩,fun k c t fz _ hk=>h.2 k c t fz (dQ hk) hk⟩
theorem KC.put{w:World}(W:World)(l:Nat)(o o':Obj)(hl:w.heap.size<=l)(h:W.heap[l]?=some o)(hc:o.isCells=false)(hw:o.isWalk=false):KC W (W.putObj l o'):=
 ⟨by simp[World.putObj],fun k c t fz _ hk=>(World.putObj_heap_other (fun e=>by subst e;rw[hk]at h;cases h;cases hc)).trans hk⟩
abbrev YK(x:ByteArray):Array Value:=#[.string x]
def ij(TX:ByteArray)(ls ah:List Int)(at_:Nat->K_)(a:ByteArray)(k:Int):List ByteArray:=if a.toList.isEmpty=true then [yt TX ls ah k.toNat]else((at_ k.toNat).filter fun x=>x.1.toList==a.toList).map (·.2)
def RRp(B:Nat)(W0:World)(J Jx:World->Prop)(b:Bool)(W3:World):Prop:=KeepsFrom B W0 W3/\if b=true then J W3/\KC W0 W3 else Jx W3
theorem Sx(w:World)(m:Nat):Z5 w (w.drew.drewN m):=below_drewN ((Below.refl _ w).drew) m
theorem Ov(m:Nat){at_:Nat->K_}{B1 B2 B3 k:Nat}{sv:Value}{gJ:List oh}(a:ByteArray)(D:DocM w X N kd nm ls)(T:xm w X N ls ah TX)(A:UH w X N at_)(hk:k<N)
  (hB:B1<w.heap.size/\B2<w.heap.size/\B3<w.heap.size) (c1:w.cell? ⟨B1,0,none⟩=some (Z8 X)) (c2:w.cell? ⟨B2,3,none⟩=some sv) (c3:w.cell? ⟨B2,4,none⟩=some (.string a)) (c4:w.cell? ⟨B3,0,none⟩=some (.int .i64 (k:Nat)))
  (hs:uz w sv gJ) (hH:∀s∈gJ,pE w X N s.2.2 hb) (hlen:∀i s,gJ[i]?=some s->(fZ N kd nm ls hb s.1 s.2.1 s.2.2 (jG N kd nm ls hb gJ k i)).length<=1000000000000):
  su Fence.wide m prog 203 #[Z8 B1,Z8 B2,Z8 B3] YK KC (fun ys=>ys=(mj N kd nm ls hb gJ k).flatMap (ij TX ls ah at_ a)) (fun p=>p<+:(mj N kd nm ls hb gJ k).flatMap (ij TX ls ah at_ a)) w:=by
 intro l J Jx W hW hJ Nu hY h0;have hW2:Z5 w (W.alloc (.cells #[.func (.yield l) #[] #[]] 36)):=hW.alloc hW.size _;have bx:=dR W (.cells #[.func (.yield l) #[] #[]] 36);have YC:=hJ.alloc (.cells #[.func (.yield l) #[] #[]] 36) h0;have HY:=a_ hY;clear hY;obtain⟨si,sc,rfl,-⟩:=id hs;have HL:=a_ (fun wr (h:Z5 w wr)=>Ou (from_:=(k:Int)) (D.below h) (fun x hx=>Or.inr (by rw[bF]at hx;omega)) (uz.below hs h) (fun s hm=>(hH s hm).below h) hlen);have HV:=a_ (fun(j:Nat) (hj:j<N) wr (h:eQ w.heap.size w wr)=>Ss (k:=j) (T.gm h) hj);have HA:=a_ (fun wr (h:eQ w.heap.size w wr)=>A.gm h);have hLN:∀x∈mj N kd nm ls hb gJ k,0<=x/\x<(N:Int):=Sw D (fun x hx=>Or.inr (by rw[bF]at hx;omega));generalize mj N kd nm ls hb gJ k=L at*
 generalize gJ.length=sn at*
 have d1:=(ar (hW2.block _ hB.1)).trans c1;have d2:=(ar (hW2.block _ hB.2.1)).trans c2;have d4:=(ar (hW2.block _ hB.2.2)).trans c4;clear D T A hs hH hlen;refine callsIn_of_wp_marks func203 rfl trivial ?_ rfl;simp only[ntmps203,cA,aC,aI,Nat.reduceAdd,Nat.reduceSub,bV,bU,cB,bX,bH,aZ]
 gi_wp2_with (refine⟨trivial,fun h=>absurd h (by decide),?_⟩;refine(callsIn_wide.2 (HL.out _ hW2)).mono ?_;rintro e w2 ⟨gf,lb,rfl,eg,hb2,hseq⟩)
 have hw2:Z5 w w2:=hW2.trans (eG hb2 hW2.size);have YL:=(hb2.block _ (dQ bx)).trans bx;have hJ2:=OwnFrom.below hJ YC hb2;have hsz:=hb2.size;clear HL d1 d2 d4 YC bx;refine oU rfl (n:=m) (fun h=>absurd h (by decide)) (gf:=gf) (lb:=lb) rfl trivial eg ((hseq _).mono (Kp':=KC) fun A B' h=>h.kq) (fun h k=>KC.trans h k) KC.put (Below.refl _ w2) (by intro x;rfl)
  (fun pre wz=>J (pre.flatMap (ij TX ls ah at_ a)) wz/\KC w2 wz) (fun c pre wz=>c=.ret/\∃p,p<+:L.flatMap (ij TX ls ah at_ a)/\Jx p wz) ?hI ?Si ⟨hJ2,⟨au _,fun _ _ _ _ _ h=>h⟩⟩
  (fun x=>{tmps:=#[.func (.yield l) #[] #[],Z8 B1,Z8 B2,Z8 B3,.pointer (some ⟨W.heap.size,0,none⟩),.int .i64 x,undef,undef,Z8 X,.pointer (some ⟨B2,3,none⟩),.slice si sn sc,.int .i64 (k:Nat),.func (.func gf) #[] lb,.int .i64 x,undef,undef,undef,undef,undef,undef,undef,undef,undef,undef,undef,undef,undef,undef,undef,undef,undef,undef,undef,undef,undef,undef,undef,undef,undef,undef,undef,undef,undef,undef,undef,undef,undef,undef,undef,undef,undef,undef],defers:=[]}) ?assign ?body ?done ?stop
 case hI=>
  rintro s A B' row ⟨h1,h2⟩ hg hr;refine⟨hJ _ _ _ _ h1 hg fun r e=>⟨aw (by have:=hW2.size;simp at hsz;omega) (hr r e).1,(hr r e).2⟩,⟨aw h2.1 hg.size,fun k c t fz hk ha=>(hg.block k (dQ (h2.2 k c t fz hk ha)) fun e=>by have:=(hr k e.symm).1;have:=dQ ha;omega).trans (h2.2 k c t fz hk ha)⟩⟩
 case Si=>
  rintro c s A B' row ⟨h1,p,h2,h3⟩ hg hr;exact⟨h1,p,h2,Nu _ _ _ _ h3 hg fun r e=>⟨aw (by simp at hsz;omega) (hr r e).1,(hr r e).2⟩⟩
 case assign=>
  intro l' x Wb K hK;simp only[encI]
  gi_wp2
  exact hK
 case body=>
  rintro l' pre x Wb ⟨hJs,sO⟩ Ex;have hxL:=hLN x (Ex.subset (by simp));obtain⟨x,rfl⟩:=bt hxL.1;have hxN:x<N:=by omega
  have nx:eQ w.heap.size w Wb:=(bc hw2).trans (sO.less hw2.size);have d1:Wb.cell? ⟨B1,0,none⟩=some (Z8 X):=nx.cell hB.1 c1;have d3:Wb.cell? ⟨B2,4,none⟩=some (.string a):=nx.cell hB.2.1 c3;have d5:Wb.cell? ⟨W.heap.size,0,none⟩=some (.func (.yield l) #[] #[]):=cell_of (sO.2 _ _ _ _ (dQ YL) YL) rfl;have rz:(pre++[(x:Int)]).flatMap (ij TX ls ah at_ a)=pre.flatMap (ij TX ls ah at_ a)++ij TX ls ah at_ a (x:Int):=by simp
  have XD:(pre++[(x:Int)]).flatMap (ij TX ls ah at_ a)<+:L.flatMap (ij TX ls ah at_ a):=by
   obtain⟨r,rfl⟩:=Ex;exact⟨r.flatMap (ij TX ls ah at_ a),by rw[<-cQ]⟩
  have HR:Hid (∀(p:List ByteArray) (z:ByteArray) (wz:World),J p wz->p++[z]<+:L.flatMap (ij TX ls ah at_ a)->KeepsFrom w2.heap.size Wb wz->KC Wb wz->∃fn tmps assign body,(Instr.yield l #[.string z]).run prog wz=.ok (.round l fn tmps assign body) wz/\Hid (RoundIn Fence.wide (m-1) prog l fn tmps assign body wz fun e W'=>∃b,e=.returned (.bool b)/\Hid (RRp w2.heap.size Wb (J (p++[z])) (Jx (p++[z])) b W'))):=a_ fun p z wz h1 h2 h3 h4=>by
   obtain⟨fn,tmps,assign,body,hy,hR⟩:=HY.out p z wz h1 h2;refine⟨fn,tmps,assign,body,hy,a_ (hR.mono ?_)⟩;rintro e W3 ⟨hf3,⟨rfl,hJ3,hk3⟩|⟨rfl,nS⟩⟩
   ·exact⟨true,rfl,a_ ⟨h3.trans (KeepsFrom.up hf3 (by simp at hsz;omega)),by rw[if_pos rfl];exact⟨hJ3,h4.trans hk3⟩⟩⟩
   ·exact⟨false,rfl,a_ ⟨h3.trans (KeepsFrom.up hf3 (by simp at hsz;omega)),by rw[if_neg (by simp)];exact nS⟩⟩
  clear HY;have hmx:prog.follows .mixedOrders=true:=by kernel_rfl
  cases ha:a.toList.isEmpty
  ·have hv:ij TX ls ah at_ a (x:Int)=((at_ x).filter fun x=>x.1.toList==a.toList).map (·.2):=by unfold ij;rw[if_neg (by rw[ha];simp)];rfl
   rw[hv]at rz;rw[rz]at XD;obtain⟨gn,nc,e0,hXg,hat⟩:=HA.out Wb nx;obtain⟨u,e1,ai,ac,rfl,⟨rZ,pX⟩,XC⟩:=hat x hxN;have HK:Hid (∀i wz,i<(at_ x).length->KC Wb wz->∃g n2 v2,ai=some ⟨g,0,none⟩/\wz.cell? ⟨g,i*2,none⟩=some (.string n2)/\wz.cell? ⟨g,i*2+1,none⟩=some (.string v2)/\(at_ x)[i]?=some (n2,v2)/\wz.cell? ⟨B2,4,none⟩=some (.string a)/\wz.cell? ⟨W.heap.size,0,none⟩=some (.func (.yield l) #[] #[])):=a_ fun i wz hi hz=>by
    have hx:=aF hi;obtain⟨g,e,hg,h1,h2⟩:=XC i _ hx;exact⟨g,_,_,e,hz.cell hg h1,hz.cell hg h2,hx,hz.cell (aD _ _ d3) d3,hz.cell (aD _ _ d5) d5⟩
   have hxx:(x:Int)<N:=by omega
   have HT:Hid (∀i y,(at_ x)[i]?=some y->((at_ x).take (i+1)).filter (fun x=>x.1.toList==a.toList)=((at_ x).take i).filter (fun x=>x.1.toList==a.toList)++if(y.1.toList==a.toList)=true then [y]else []):=a_ fun i y hy=>by
    rw[cy,hy,dL];congr 1;by_cases h:(y.1.toList==a.toList)=true
    ·rw[if_pos h];simp[List.filter,h]
    ·rw[if_neg h];simp[List.filter,h]
   have HP:Hid (∀i,pre.flatMap (ij TX ls ah at_ a)++(((at_ x).take i).filter fun x=>x.1.toList==a.toList).map (·.2)<+:L.flatMap (ij TX ls ah at_ a)):=a_ fun i=>by
    refine List.IsPrefix.trans ((List.prefix_append_right_inj _).2 ?_) XD;exact((dy i (at_ x)).filter _).map _
   have HJs:=a_ hJs;have uj:(at_ x).take (at_ x).length=at_ x:=bZ;have HE:Hid ((((at_ x).take (at_ x).length).filter fun x=>x.1.toList==a.toList)=(at_ x).filter fun x=>x.1.toList==a.toList):=a_ (by rw[uj]);clear hJs XC hat HA HV uj;generalize (at_ x).length=al at*
   gi_wp2
   gi_loopw [35] (fun iv wz=>∃i:Nat,iv=.int .i64 i/\i<=al/\J (pre.flatMap (ij TX ls ah at_ a)++(((at_ x).take i).filter fun x=>x.1.toList==a.toList).map (·.2)) wz/\KeepsFrom w2.heap.size Wb wz/\KC Wb wz) (fun iv _=>al-(RowKit.intOf iv).toNat)
   case atStart=>exact⟨0,rfl,aB _,by simpa using HJs.out,kx (Below.refl _ _),⟨au _,fun _ _ _ _ _ h=>h⟩⟩
   case round=>
    rename World=>wz
    obtain⟨i,rfl,hi,Rp,hfz,hkz⟩:=hrel;by_cases hlt:i<al
    ·obtain⟨g,n2,v2,rfl,k0,k1,hx,k3,k5⟩:=HK.out i _ hlt hkz;have Nw:(i:Int)<al:=by omega
     have hdec:decide ((i:Int)<al)=true:=by simp;omega
     have tX:=(Below.refl wz.heap.size wz).alloc (au _) (.cells #[.string n2,.string v2] 42);have q3:=(ar (tX.block _ (aD _ _ k3))).trans k3;have q5:=(ar (tX.block _ (aD _ _ k5))).trans k5;have hT:=HT.out i _ hx;have hP:=HP.out (i+1);have YM:=OwnFrom.below hJ Rp tX;have Us:=hfz.trans (kx tX);have hka:KC Wb (wz.alloc (.cells #[.string n2,.string v2] 42)):=hkz.trans (bc tX);clear HK HT HP HJs Rp HE;cases hna:n2.toList==a.toList
     ·rw[hna]at hT;simp only[aA,aQ,aP]at hT;rw[<-hT]at YM;have HJa:=a_ YM;clear YM HR
      gi_wp2
      refine⟨fun f h=>(by cases h),?_⟩
      gi_wp2
      exact⟨⟨i+1,by simp,by omega,HJa.out,Us,hka⟩,by simp only[RowKit.intOf];omega⟩
     ·rw[hna,if_pos rfl]at hT;rw[hT,bE,<-aV]at hP;obtain⟨fn,tmps,assign,body,hy,DY⟩:=HR.out _ _ _ YM hP Us hka;simp only[bE,bN,cF]at DY hy;have hT2:pre.flatMap (ij TX ls ah at_ a)++(((at_ x).take i).filter fun x=>x.1.toList==a.toList).map (·.2)++[v2]=pre.flatMap (ij TX ls ah at_ a)++(((at_ x).take (i+1)).filter fun x=>x.1.toList==a.toList).map (·.2):=by rw[hT,bE,aV];rfl
      rw[hT2]at DY;clear HR YM hT2 rz;have HT3:=a_ hT;clear hT
      gi_wp2
      refine⟨fun h=>absurd h (by decide),(ql DY.out).mono ?_⟩;rintro e W3 ⟨b,rfl,hR⟩;obtain⟨YN,Ab⟩:=hR.out;clear hR DY;cases b
      ·rw[if_neg (by simp)]at Ab;have H2:=a_ Ab;clear Ab
       gi_wp2
       exact⟨YN,rfl,_,by rw[HT3.out,bE,<-aV];exact hP,H2.out⟩
      ·rw[if_pos rfl]at Ab;obtain⟨h3,h4⟩:=Ab;have H3:=a_ h3;clear h3
       gi_wp2
       exact⟨⟨i+1,by simp,by omega,H3.out,YN,h4⟩,by simp only[RowKit.intOf];omega⟩
    ·obtain rfl:i=al:=by omega
     rw[HE.out,<-rz]at Rp;have HJz:=a_ Rp;have hdec:decide ((i:Int)<i)=false:=by simp
     clear Rp HR HK HT HP HJs
     gi_wp2
     exact⟨hfz,hkz,HJz.out,sO.trans hkz⟩
  ·have hv:ij TX ls ah at_ a (x:Int)=[yt TX ls ah x]:=by unfold ij;rw[if_pos ha];rfl
   rw[hv]at rz;rw[rz]at XD;have HVc:Hid (Z4 204 #[Z8 X,.int .i64 (x:Nat)] Wb.drew fun e w5=>e=.returned (.string (yt TX ls ah x))/\w5.cell? ⟨B1,0,none⟩=some (Z8 X)/\w5.cell? ⟨W.heap.size,0,none⟩=some (.func (.yield l) #[] #[])/\∃fn tmps assign body,(Instr.yield l #[.string (yt TX ls ah x)]).run prog w5=.ok (.round l fn tmps assign body) w5/\Hid (RoundIn Fence.wide (m-1) prog l fn tmps assign body w5 fun e W'=>∃b,e=.returned (.bool b)/\Hid (RRp w2.heap.size Wb (J (pre.flatMap (ij TX ls ah at_ a)++[yt TX ls ah x])) (Jx (pre.flatMap (ij TX ls ah at_ a)++[yt TX ls ah x])) b W'))):=a_ (by
    refine(HV.out x hxN Wb.drew (nx.trans (bc (n:=w.heap.size) (Below.refl _ Wb).drew))).mono ?_;rintro e w5 ⟨rfl,mm,rfl⟩;have h5:Z5 Wb (Wb.drew.drewN mm):=Sx Wb mm;refine⟨rfl,(ar (h5.block _ (aD _ _ d1))).trans d1,(ar (h5.block _ (aD _ _ d5))).trans d5,HR.out _ _ _ (OwnFrom.below hJ hJs h5) XD (kx h5) (bc h5)⟩)
   clear HR HV HA;generalize yt TX ls ah x=val at*
   gi_wp2
   refine wpIn_mono (Q:=fun e aa wz=>e=.normal/\∃b,Hid (RRp w2.heap.size Wb (J (pre.flatMap (ij TX ls ah at_ a)++[val])) (Jx (pre.flatMap (ij TX ls ah at_ a)++[val])) b wz)/\aa={tmps:=#[.func (.yield l) #[] #[],Z8 B1,Z8 B2,Z8 B3,.pointer (some ⟨W.heap.size,0,none⟩),.int .i64 (x:Nat),undef,undef,Z8 X,.pointer (some ⟨B2,3,none⟩),.slice si sn sc,.int .i64 (k:Nat),.func (.func gf) #[] lb,.int .i64 (x:Nat),.pointer (some ⟨B2,4,none⟩),.string a,.bool true,.func (.yield l) #[] #[],Z8 X,Z8 X,Z8 X,.int .i64 (x:Nat),.string val,.bool b,.bool !b,undef,undef,undef,undef,undef,undef,undef,undef,undef,undef,undef,undef,undef,undef,undef,undef,undef,undef,undef,undef,undef,undef,undef,undef,undef,undef,undef],defers:=[]}) ?reg ?_
   case reg=>
    clear hJs XD rz hv hJ Nu h0 hJ2 Ex;generalize J (pre.flatMap (ij TX ls ah at_ a)++[val])=JJ at*
    generalize Jx (pre.flatMap (ij TX ls ah at_ a)++[val])=JX at*
    gi_region_with_o (first|(refine⟨trivial,fun h=>absurd h (by decide),?_⟩;refine(CallsIn.inRound l' (callsIn_wide.2 HVc.out)).mono ?_;rintro e w5 ⟨rfl,e1,e5,fn,tmps,assign,body,hy,DY⟩;clear HVc)|(refine⟨fun h=>absurd h (by decide),(ql DY.out).mono ?_⟩;rintro e W3 ⟨b,rfl,hR⟩;clear DY))
    all_goals exact⟨rfl,b,hR,rfl⟩
   rintro e aa wz ⟨rfl,b,hR,rfl⟩;obtain⟨YN,Ab⟩:=hR.out;clear hR HVc;cases b
   ·rw[if_neg (by simp)]at Ab;have H2:=a_ Ab;clear Ab
    gi_wp2
    exact⟨YN,rfl,_,XD,H2.out⟩
   ·rw[if_pos rfl]at Ab;obtain⟨h3,h4⟩:=Ab;have H3:=a_ h3;clear h3
    gi_wp2
    exact⟨YN,h4,by rw[rz];exact H3.out,sO.trans h4⟩
 case done=>
  rintro D ys Wd hD rfl ⟨hJs,sO⟩ hK
  gi_wp2
  refine⟨by simp,.inl ⟨_,_,rfl,run_takeDeferred hK,.tuple #[],by simp[results,results203,go_sem],⟨_,rfl⟩,.inl ⟨_,rfl,?_⟩⟩⟩;exact hJ _ _ _ _ hJs (grownBy_putObj' Wd D (.deferred none)) fun r e=>by cases e;exact⟨aw (by simp at hsz;omega) hD,_,hK,rfl⟩
 case stop=>
  rintro D c pre Wd hD Ex ⟨rfl,p,hp,hx⟩ hK
  gi_wp2
  refine⟨by simp,.inl ⟨_,_,rfl,run_takeDeferred hK,.tuple #[],by simp[results,results203,go_sem],⟨_,rfl⟩,.inr ⟨_,hp,?_⟩⟩⟩;exact Nu _ _ _ _ hx (grownBy_putObj' Wd D (.deferred none)) fun r e=>by cases e;exact⟨aw (by simp at hsz;omega) hD,_,hK,rfl⟩
end
section
attribute [local go_sem] Oper.semAt_some
variable{w w' W W' w1 w2 wr:World}{v nv lv:Value}{l fr L cs xs ls ah:List Int}{N X B:Nat}{kd:Nat->List Int}{nm:Nat->ByteArray}{hb:Int->Nat->Bool}{TX:ByteArray}{at_:Nat->K_}
theorem Ow:∀args w,(callFunc 203 args).run prog w=.ok (.enter 203 args) w:=enters_of func203 (by kernel_rfl) rfl
theorem AZ(X k:Nat){W3:World}(hW3:((w.alloc (.cells #[Z8 X] 135)).alloc (.cells #[.int .i64 (k:Nat)] 3)).alloc (.cells #[.bool false] 4)=W3):Z5 w W3/\W3.cell? ⟨w.heap.size,0,none⟩=some (Z8 X)/\W3.cell? ⟨w.heap.size+1,0,none⟩=some (.int .i64 (k:Nat))/\W3.heap[w.heap.size+1+1]?=some (.cells #[.bool false] 4 (0,0))/\W3.heap.size=w.heap.size+1+1+1:=by
 have b1:=dR w (.cells #[Z8 X] 135);have b2:=dR (w.alloc (.cells #[Z8 X] 135)) (.cells #[.int .i64 (k:Nat)] 3);have b3:=dR ((w.alloc (.cells #[Z8 X] 135)).alloc (.cells #[.int .i64 (k:Nat)] 3)) (.cells #[.bool false] 4);rw[bL]at b2;rw[bL,bL]at b3;rw[<-hW3];exact⟨(((Below.refl _ w).alloc (au _) _).alloc (by simp) _).alloc (by simp<;>omega) _,cell_of ((ay _ _ _ (by simp<;>omega)).trans ((ay _ _ _ (by simp)).trans b1)) rfl,cell_of ((ay _ _ _ (by simp)).trans b2) rfl,b3,by simp⟩
def JV(op t x:ByteArray):Bool:=(op.toList==[104,97,115])||((x.toList==t.toList)==(op.toList==[61]))
def JW(op:ByteArray):Prop:=(op.toList==[111,114])=false/\(op.toList==[97,110,100])=false/\(op.toList==[110,111,116])=false
theorem Sy{gc n cc c k:Nat}{ag:Bool}{op a t:ByteArray}{kv:Value}{sv:Value}{gJ:List oh}(D:DocM w X N kd nm ls)(T:xm w X N ls ah TX)(A:UH w X N at_)(hk:k<N)
  (c4:w.cell? ⟨X,4,none⟩=some (Z9 gc n cc)) (hc:c<n) (hn:n<=1000000000000) (e0:w.cell? ⟨gc,c*6,none⟩=some (.bool ag)) (e1:w.cell? ⟨gc,c*6+1,none⟩=some (.string op)) (e2:w.cell? ⟨gc,c*6+2,none⟩=some kv) (e3:w.cell? ⟨gc,c*6+3,none⟩=some sv) (e4:w.cell? ⟨gc,c*6+4,none⟩=some (.string a)) (e5:w.cell? ⟨gc,c*6+5,none⟩=some (.string t))
  (vC:IR w kv l) (hs:uz w sv gJ) (hH:∀s∈gJ,pE w X N s.2.2 hb) (hlen:∀i s,gJ[i]?=some s->(fZ N kd nm ls hb s.1 s.2.1 s.2.2 (jG N kd nm ls hb gJ k i)).length<=1000000000000) (ho:JW op):
  Z4 139 #[Z8 X,.int .i64 (c:Nat),.int .i64 (k:Nat)] w (Z7 (.bool (((mj N kd nm ls hb gJ k).flatMap (ij TX ls ah at_ a)).any (JV op t))) w):=by
 obtain⟨ki,kc,rfl,-⟩:=vC;obtain⟨si,sc,rfl,-⟩:=id hs;obtain⟨o1,o2,o3⟩:=ho;have hcc:(c:Int)<n:=by omega
 obtain⟨L,hLe⟩:∃L,(mj N kd nm ls hb gJ k).flatMap (ij TX ls ah at_ a)=L:=⟨_,rfl⟩
 rw[hLe];have hX:=D.lt;have sw:=aD _ _ e0;obtain⟨W3,hW3⟩:∃W3,((w.alloc (.cells #[Z8 X] 135)).alloc (.cells #[.int .i64 (k:Nat)] 3)).alloc (.cells #[.bool false] 4)=W3:=⟨_,rfl⟩
 obtain⟨b3,⟨x0,x1,x2,x3⟩⟩:=AZ X k hW3;have up:∀g j u,g<w.heap.size->w.cell? ⟨g,j,none⟩=some u->W3.cell? ⟨g,j,none⟩=some u:=fun g j u hg h=>(ar (b3.block g hg)).trans h;have f4:=up _ _ _ hX c4;have g0:=up _ _ _ sw e0;have g1:=up _ _ _ sw e1;have g2:=up _ _ _ sw e2;have g3:=up _ _ _ sw e3;have g4:=up _ _ _ sw e4;have g5:=up _ _ _ sw e5;clear up;have HVa:=a_ (Sv X k ag op a t ki si l.length kc gJ.length sc (W3.alloc (.cells #[.bool ag,.string op,.slice ki l.length kc,.slice si gJ.length sc,.string a,.string t] 177)));have b4:=(Below.refl W3.heap.size W3).alloc (au _) (.cells #[.bool ag,.string op,.slice ki l.length kc,.slice si gJ.length sc,.string a,.string t] 177);have y0:=(ar (b4.block _ (aD _ _ x0))).trans x0;have y1:=(ar (b4.block _ (aD _ _ x1))).trans x1;have y2:=(b4.block _ (dQ x2)).trans x2;have y3:=dR W3 (.cells #[.bool ag,.string op,.slice ki l.length kc,.slice si gJ.length sc,.string a,.string t] 177);refine(callsIn_wide (n:=3)).1 ?_;refine callsIn_of_wp_marks func139 rfl trivial ?_ rfl;simp only[ntmps139,cA,aC,aI,Nat.reduceAdd,Nat.reduceSub,bV,bU,cB,bX,bH,aZ]
 gi_wp2_with (refine⟨trivial,?_⟩;refine(callsIn_wide.2 HVa.out).mono ?_;rintro e w5 ⟨B1,B2,B3,rfl,mh,hB,z1,z2,z3,z4⟩)
 have h5:Z5 w w5:=(b3.trans (eG b4 b3.size)).trans (eG mh (aw b3.size b4.size));have hs5:=mh.size;rw[bL,x3]at hs5;have v2:=(mh.block _ (dQ y2)).trans y2;have v3:=(mh.block _ (dQ y3)).trans y3;rw[x3]at v3;have hseq:=fun m=>Ov m a (D.below h5) (T.below h5) (A.gm (bc h5)) hk hB z1 z2 z3 z4 (hs.below h5) (fun s hm=>(hH s hm).below h5) hlen;rw[hLe]at hseq;clear D T A hs hH hlen HVa y0 y1 y2 y3 z1 z2 z3 z4 mh hW3 b3 b4 f4 g0 g1 g2 g3 g4 g5 x0 x1 x2 c4 e0 e1 e2 e3 e4 e5 hLe;refine oU rfl (n:=3) (fun h=>absurd h (by decide)) (gf:=203) rfl trivial Ow (hseq _) (fun h k=>KC.trans h k) KC.put (Below.refl _ w5) (by intro x;rfl)
  (fun pre wz=>pre.any (JV op t)=false/\KC w5 wz/\Z5 w wz) (fun c pre wz=>c=.ret/\pre.any (JV op t)=true/\wz.cell? ⟨w.heap.size+1+1,0,none⟩=some (.bool true)/\Z5 w wz) ?hI ?Si ⟨by simp,⟨au _,fun _ _ _ _ _ h=>h⟩,h5⟩
  (fun x=>{tmps:=#[Z8 X,.int .i64 (c:Nat),.int .i64 (k:Nat),.pointer (some ⟨w.heap.size,0,none⟩),undef,.pointer (some ⟨w.heap.size+1,0,none⟩),.pointer (some ⟨w.heap.size+1+1,0,none⟩),.pointer (some ⟨w.heap.size+1+1+1,0,none⟩),.string x,Z8 X,Z8 X,.pointer (some ⟨X,4,none⟩),Z9 gc n cc,.int .i64 (c:Nat),.pointer (some ⟨gc,c*6,none⟩),.agg #[.bool ag,.string op,.slice ki l.length kc,.slice si gJ.length sc,.string a,.string t],.pointer (some ⟨w.heap.size+1+1+1,1,none⟩),.string op,.bool false,.bool false,undef,undef,undef,undef,.bool false,.bool false,undef,undef,undef,undef,undef,.bool false,.bool false,undef,undef,undef,undef,undef,undef,undef,undef,Z8 X,.agg #[.bool ag,.string op,.slice ki l.length kc,.slice si gJ.length sc,.string a,.string t],.int .i64 (k:Nat),.func (.func 203) #[] #[Z8 B1,Z8 B2,Z8 B3],.string x,undef,undef,undef,undef,undef,undef,undef,undef,undef,undef,undef,undef,undef],defers:=[]}) ?assign ?body ?done ?stop
 case hI=>
  rintro s A B' row ⟨h1,h2,h3⟩ hg hr;exact⟨h1,⟨aw h2.1 hg.size,fun k c t fz hk ha=>(hg.block k (dQ (h2.2 k c t fz hk ha)) fun e=>by have:=(hr k e.symm).1;omega).trans (h2.2 k c t fz hk ha)⟩,h3.grown hg h3.size fun k e=>by have:=(hr k e).1;omega⟩
 case Si=>
  rintro c s A B' row ⟨h1,h2,h3,h4⟩ hg hr;exact⟨h1,h2,(ar (hg.block _ (aD _ _ h3) fun e=>by have:=(hr _ e.symm).1;simp at this;omega)).trans h3,h4.grown hg h4.size fun k e=>by have:=(hr k e).1;omega⟩
 case assign=>
  intro l' x Wb K hK;simp only[YK]
  gi_wp2
  exact hK
 case body=>
  rintro l' pre x Wb ⟨ha,hkb,sO⟩ Ex;have u2:=hkb.2 _ _ _ _ (dQ v2) v2;have u3:=hkb.2 _ _ _ _ (dQ v3) v3;have p1:Wb.cell? ⟨w.heap.size+1+1+1,1,none⟩=some (.string op):=cell_of u3 rfl;have p5:Wb.cell? ⟨w.heap.size+1+1+1,5,none⟩=some (.string t):=cell_of u3 rfl;have p2:Wb.cell? ⟨w.heap.size+1+1,0,none⟩=some (.bool false):=cell_of u2 rfl;have p3:Wb.frozen? ⟨w.heap.size+1+1,0,none⟩=false:=dY u2;have Sz:(pre++[x]).any (JV op t)=JV op t x:=by simp[ha]
  have HS:Hid (KeepsFrom w5.heap.size Wb (Wb.setCell ⟨w.heap.size+1+1,0,none⟩ (.bool true))/\(Wb.setCell ⟨w.heap.size+1+1,0,none⟩ (.bool true)).cell? ⟨w.heap.size+1+1,0,none⟩=some (.bool true)/\Z5 w (Wb.setCell ⟨w.heap.size+1+1,0,none⟩ (.bool true))):=
   a_ ⟨⟨by simp[World.setCell],fun k o hk ho _=>(ak _ _ _ _ (fun e=>by simp only at e;omega)).trans ho⟩,cell_of (eh (i:=0) u2 _) rfl,sO.setCell (p:=⟨w.heap.size+1+1,0,none⟩) (by simp only;omega) _⟩
  have HN:Hid (KeepsFrom w5.heap.size Wb Wb):=a_ (kx (Below.refl _ _));have HKr:Hid (KC Wb Wb):=a_ ⟨au _,fun _ _ _ _ _ h=>h⟩;clear Ex u2 u3 v2 v3 hseq;cases h1:op.toList==[104,97,115]
  ·have ho:JV op t x=((x.toList==t.toList)==(op.toList==[61])):=by unfold JV;rw[h1];rfl
   cases h2:x.toList==t.toList<;>cases h3:op.toList==[61]
   all_goals
    rw[h2,h3]at ho;have hn:=a_ (Sz.trans ho);clear ho Sz
    gi_wp2
    first
     |exact⟨HN.out,HKr.out,hn.out,hkb,sO⟩
     |exact⟨HS.out.1,rfl,hn.out,HS.out.2⟩
  ·have hn:Hid ((pre++[x]).any (JV op t)=true):=a_ (Sz.trans (by unfold JV;rw[h1];rfl));clear Sz
   gi_wp2
   exact⟨HS.out.1,rfl,hn.out,HS.out.2⟩
 case done=>
  rintro D ys Wd hD rfl ⟨ha,hkb,sO⟩ hK;have u2:=hkb.2 _ _ _ _ (dQ v2) v2;have p2:Wd.cell? ⟨w.heap.size+1+1,0,none⟩=some (.bool false):=cell_of u2 rfl;have p3:Wd.frozen? ⟨w.heap.size+1+1,0,none⟩=false:=dY u2;have hB:=sO.setCell (p:=⟨w.heap.size+1+1,0,none⟩) (by simp only;omega) (.bool false);have p4:(Wd.setCell ⟨w.heap.size+1+1,0,none⟩ (.bool false)).cell? ⟨w.heap.size+1+1,0,none⟩=some (.bool false):=cell_of (eh (i:=0) u2 _) rfl;have hK2:(Wd.setCell ⟨w.heap.size+1+1,0,none⟩ (.bool false)).heap[D]?=some (.deferred (some [])):=(ak _ _ _ _ (fun e=>by simp only at e;omega)).trans hK;have HA:=a_ ha;clear u2 v2 v3 hseq ha
  gi_wp2
  refine⟨by simp,.inl ⟨_,_,rfl,run_takeDeferred hK2,.bool false,?_,by rw[HA.out],hB.grown (grownBy_putObj' _ D (.deferred none)) hB.size fun k e=>?_⟩⟩
  ·have:=(ar (World.putObj_heap_other (w:=Wd.setCell ⟨w.heap.size+1+1,0,none⟩ (.bool false)) (r:=D) (k:=w.heap.size+1+1) (o:=.deferred none) (by omega))).trans p4;simp[results,results139,go_sem,this]
  ·have:k=D:=(aX e).symm;omega
 case stop=>
  rintro D c pre Wd hD Ex ⟨rfl,ha,hx,sO⟩ hK;have hT:L.any (JV op t)=true:=by
   obtain⟨x,h1,h2⟩:=List.any_eq_true.1 ha;exact List.any_eq_true.2 ⟨x,Ex.subset h1,h2⟩
  have HA:=a_ hT;clear v2 v3 hseq ha hT
  gi_wp2
  refine⟨by simp,.inl ⟨_,_,rfl,run_takeDeferred hK,.bool true,?_,by rw[HA.out],sO.grown (grownBy_putObj' _ D (.deferred none)) sO.size fun k e=>?_⟩⟩
  ·have:=(ar (World.putObj_heap_other (w:=Wd) (r:=D) (k:=w.heap.size+1+1) (o:=.deferred none) (by omega))).trans hx;simp[results,results139,go_sem,this]
  ·have:k=D:=(aX e).symm;omega
end
section
variable{w w' W W' w1 w2 wr:World}{v nv lv:Value}{l fr L cs xs ls ah:List Int}{N X B:Nat}{kd:Nat->List Int}{nm:Nat->ByteArray}{hb:Int->Nat->Bool}{TX:ByteArray}{at_:Nat->K_}
theorem YO{gc n cc c k:Nat}{ag:Bool}{op a t:ByteArray}{kv sv:Value}{gJ:List oh}(hX:X<w.heap.size)
  (c4:w.cell? ⟨X,4,none⟩=some (Z9 gc n cc)) (hc:c<n) (hn:n<=1000000000000) (e0:w.cell? ⟨gc,c*6,none⟩=some (.bool ag)) (e1:w.cell? ⟨gc,c*6+1,none⟩=some (.string op)) (e2:w.cell? ⟨gc,c*6+2,none⟩=some kv) (e3:w.cell? ⟨gc,c*6+3,none⟩=some sv) (e4:w.cell? ⟨gc,c*6+4,none⟩=some (.string a)) (e5:w.cell? ⟨gc,c*6+5,none⟩=some (.string t))
  (vC:IR w kv l) (hs:uz w sv gJ) (YD:k<N) (hH:pE w X N l hb) (ho:(op.toList==[111,114])=true):
  Z4 139 #[Z8 X,.int .i64 (c:Nat),.int .i64 (k:Nat)] w (Z7 (.bool (l.any fun c=>hb c k)) w):=by
 obtain⟨ki,kc,rfl,-⟩:=id vC;obtain⟨si,sc,rfl,-⟩:=id hs;have hcc:(c:Int)<n:=by omega
 have sw:=aD _ _ e0;obtain⟨W3,hW3⟩:∃W3,((w.alloc (.cells #[Z8 X] 135)).alloc (.cells #[.int .i64 (k:Nat)] 3)).alloc (.cells #[.bool false] 4)=W3:=⟨_,rfl⟩
 obtain⟨b3,⟨x0,x1,x2,x3⟩⟩:=AZ X k hW3;have up:∀g j u,g<w.heap.size->w.cell? ⟨g,j,none⟩=some u->W3.cell? ⟨g,j,none⟩=some u:=fun g j u hg h=>(ar (b3.block g hg)).trans h;have f4:=up _ _ _ hX c4;have g0:=up _ _ _ sw e0;have g1:=up _ _ _ sw e1;have g2:=up _ _ _ sw e2;have g3:=up _ _ _ sw e3;have g4:=up _ _ _ sw e4;have g5:=up _ _ _ sw e5;have b4:=(Below.refl W3.heap.size W3).alloc (au _) (.cells #[.bool ag,.string op,.slice ki l.length kc,.slice si gJ.length sc,.string a,.string t] 177);have hw4:=b3.trans (eG b4 b3.size);have y0:=(ar (b4.block _ (aD _ _ x0))).trans x0;have y1:=(ar (b4.block _ (aD _ _ x1))).trans x1;have y2:=(b4.block _ (dQ x2)).trans x2;have z2:(W3.alloc (.cells #[.bool ag,.string op,.slice ki l.length kc,.slice si gJ.length sc,.string a,.string t] 177)).cell? ⟨w.heap.size+1+1,0,none⟩=some (.bool false):=cell_of y2 rfl;have hC:=EE (p:=fun c=>hb c k) 181 (Or.inl rfl) w.heap.size (w.heap.size+1) (vC.below hw4) fun x hx wr hr=>Vs (hb:=hb) ((ar (hr.block _ (aD _ _ y0))).trans y0) ((ar (hr.block _ (aD _ _ y1))).trans y1) (hH x hx k YD wr (bc (hw4.trans (eG hr hw4.size))));have HC:Hid (Z4 180 #[.slice ki l.length kc,.func (.func 181) #[] #[.pointer (some ⟨w.heap.size,0,none⟩),.pointer (some ⟨w.heap.size+1,0,none⟩)]] (W3.alloc (.cells #[.bool ag,.string op,.slice ki l.length kc,.slice si gJ.length sc,.string a,.string t] 177)) fun e w5=>e=.returned (.bool (l.any fun c=>hb c k))/\w5.heap[w.heap.size+1+1]?=some (.cells #[.bool false] 4 (0,0))/\w5.cell? ⟨w.heap.size+1+1,0,none⟩=some (.bool false)/\w5.frozen? ⟨w.heap.size+1+1,0,none⟩=false/\Z5 w w5):=a_ (hC.mono fun e w5 ⟨h1,h2⟩=>by
  have:=(h2.block _ (dQ y2)).trans y2;exact⟨h1,this,cell_of this rfl,dY this,hw4.trans (eG h2 hw4.size)⟩)
 generalize (l.any fun c=>hb c k)=B at*
 clear hC hH hs vC up b3 hw4 b4 c4 e0 e1 e2 e3 e4 e5;go_enter func139,ntmps139;go_wp2_with(go_at_call 180;refine HC.out.mono ?_;rintro e w5 ⟨rfl,q1,q2,q3,q4⟩;clear HC);have q5:(w5.setCell ⟨w.heap.size+1+1,0,none⟩ (.bool B)).cell? ⟨w.heap.size+1+1,0,none⟩=some (.bool B):=cell_of (eh (i:=0) q1 _) rfl;refine aJ (v:=.bool B) (by simp[results,results139,go_sem,q5]) rfl ⟨rfl,?_⟩;exact q4.setCell (p:=⟨w.heap.size+1+1,0,none⟩) (by simp only;omega) _
end
end Go.Proofs.YtclgfepngpeifaaGreatDoor
