import Derived.Test.YtjecakcpcnmieaaGreatDoorHA
import Derived.Test.YtjecakcpcnmieaaGreatDoorHbc
import Derived.Test.YtjecakcpcnmieaaGreatDoorHba
import Derived.Test.YtjecakcpcnmieaaGreatDoorHbd
set_option linter.unusedVariables false
set_option linter.unusedSimpArgs false
set_option maxHeartbeats 32000000
set_option maxRecDepth 100000
namespace Go.Proofs.YtjecakcpcnmieaaGreatDoor
open Go.RowKit Go.Maps Go.Lib Tryz
section
variable{w w' w1 W:World}{ov v:Value}{b:gZ}{F:Nat->Prop}{X lo P sk:Nat}{S:List jo}{l:List El}{cl tk news:List Value}{n td B:Nat}{kd at_:Int}{nm tx:ByteArray}{ai:Option Addr}{an ac:Nat}
theorem abY:(prog.info? 143).map (fun i=>(i.zero,i.size,i.bytes))=some (some (.agg #[.string ⟨#[]⟩,.string ⟨#[]⟩]),2,32):=by kernel_rfl
theorem PD(w:World):(binOp .eql 54 (.slice none 0 0) (.slice none 0 0)).run prog w=.ok (.bool true) w:=by kernel_rfl
theorem UH(a:Addr)(n c:Nat)(w:World):(binOp .eql 54 (.slice (some a) n c) (.slice none 0 0)).run prog w=.ok (.bool false) w:=by kernel_rfl
theorem UJ{ats:K.jY}(h:w.ownsRow 0 143 2 v ats.length (K.eG ats))(hl:ats.length<=1000000000000):Z4 55 #[v] w fun e w'=>∃ai ac,e=.returned (.slice ai ats.length ac)/\w'.ownsRow 0 143 2 (.slice ai ats.length ac) ats.length (K.eG ats)/\(∀k,(Value.slice ai ats.length ac).ownBlock=some k->w.heap.size<=k)/\Z5 w w':=by
 obtain⟨i0,x_,hz0,hz1,hz2⟩:=bk abY;rcases h.2 with⟨rfl,h0⟩|⟨g,cap,cur,rfl,_⟩
 ·have hn:=PD w;have HE:Hid (w.ownsRow 0 143 2 (.slice none 0 0) ats.length (K.eG ats)):=h;clear h;rw[h0]at HE ⊢;go_enter func55,ntmps55;go_wp2_with fail;go_ret;exact⟨none,0,rfl,HE.out,(fun k e=>by simp[Value.ownBlock]at e),Below.refl _ _⟩
 ·have hn:=UH ⟨g,0,none⟩ ats.length cap w;have hl2:(K.eG ats).length=ats.length*2:=h.1;have HC:Hid (∀o j u,(K.eG ats)[j]?=some u->(w.alloc o).cell? ((⟨g,0,none⟩:Addr).add j)=some u):=fun o j u hu=>by
   rw[Addr.add_mid,ay];exact eF o (iz h hu)
  have HO:=a_ (fun(_:Unit)=>World.ownsRow_lit (base:=0) (e:=143) (size:=2) w #[] 0 (ax _) (ax _) rfl);have h1c:∀u∈K.eG ats,u.oneCell'=true:=fun u hu=>by
   simp only[K.eG,List.mem_flatMap,cE,cn,cK]at hu;obtain⟨a,_,rfl|rfl⟩:=hu<;>rfl
  have H1:=a_ h1c;clear h h1c;go_enter func55,ntmps55;go_wp2_with(at_builtin;refine bj (w:=_) rfl _ _ 54 rfl 0 143 i0 _ 2 32 underlying54 x_ hz0 hz1 hz2 rfl (by decide) (.slice (some ⟨w.heap.size,0,none⟩) 0 0) 0 [] rfl (HO.out ()) ⟨g,0,none⟩ ats.length cap (K.eG ats) rfl hl2 (HC.out _) H1.out (by unfold maxLen;omega) (by omega) (ax _) ?_;intro v9 w9 ho9 hg9 _ UE;have HF:=a_ (show _/\_/\_ from⟨ho9,hg9,UE⟩);obtain⟨a9,c9,rfl⟩:=eE ho9;clear ho9 hg9 UE);go_ret;have h9:=HF.out;rw[ay]at h9;refine⟨a9,c9,rfl,h9.1,fun k hk=>?_,((Below.refl _ w).alloc (ah _) _).grown h9.2.1 (by simp) fun k hk=>?_⟩
  ·rcases h9.2.2 with q|q<;>rw[q]at hk<;>simp[Value.ownBlock]at hk<;>omega
  ·simp[Value.ownBlock]at hk;omega
theorem UK{g:Nat}{t:TypeId}{a0 a1 a2 a3 a4:Value}(h:w.heap[g]?=some (.cells #[a0,a1,a2,a3,a4] t (0,0))):w.there g 0 5:=fun j hj=>by
 obtain rfl|rfl|rfl|rfl|rfl:j=0\/j=1\/j=2\/j=3\/j=4:=by omega
 all_goals exact⟨by rw[cell_of h rfl];rfl,eP h⟩
theorem EQ(kd at_:Int)(nm tx:ByteArray)(v:Value):(prog.info? 56).map (·.size)=some (#[.int .i64 kd,.string nm,v,.string tx,.int .i64 at_]:Array Value).size:=Uy
theorem Mw(kd at_:Int)(nm tx:ByteArray)(ai:Option Addr)(an ac:Nat):(#[.int .i64 kd,.string nm,.slice ai an ac,.string tx,.int .i64 at_]:Array Value).all (·.oneCell')=true:=by simp[Value.oneCell']
theorem aaO{ats:K.jY}(h:w.ownsRow 0 143 2 (.slice ai ats.length ac) ats.length (K.eG ats))(hl:ats.length<=1000000000000):Z4 30 #[uM kd nm ai ats.length ac tx at_] w fun e w'=>∃ai ac,e=.returned (uM kd nm ai ats.length ac tx at_)/\w'.ownsRow 0 143 2 (.slice ai ats.length ac) ats.length (K.eG ats)/\(∀k,(Value.slice ai ats.length ac).ownBlock=some k->w.heap.size<=k)/\Z5 w w':=by
 obtain⟨W0,hW0⟩:∃W0,w.alloc (.cells #[.int .i64 kd,.string nm,.slice ai ats.length ac,.string tx,.int .i64 at_] 56)=W0:=⟨_,rfl⟩
 obtain⟨W1,hW1⟩:∃W1,W0.alloc (.cells #[.int .i64 0,.string ⟨#[]⟩,.slice none 0 0,.string ⟨#[]⟩,.int .i64 0] 56)=W1:=⟨_,rfl⟩
 have hz0:W0.heap.size=w.heap.size+1:=by rw[<-hW0];simp
 have hz:W1.heap.size=w.heap.size+2:=by rw[<-hW1];simp[hz0]
 have hb1:Z5 w W1:=by rw[<-hW1,<-hW0];exact((Below.refl _ w).alloc (ah _) _).alloc (by simp) _
 have jI:W1.heap[w.heap.size]?=some (.cells #[.int .i64 kd,.string nm,.slice ai ats.length ac,.string tx,.int .i64 at_] 56 (0,0)):=by
  rw[<-hW1,ap _ _ _ (by omega),<-hW0];exact K.eL w _
 have hbr:W1.heap[w.heap.size+1]?=some (.cells #[.int .i64 0,.string ⟨#[]⟩,.slice none 0 0,.string ⟨#[]⟩,.int .i64 0] 56 (0,0)):=by
  rw[<-hW1,<-hz0];exact K.eL W0 _
 have HCl:=a_ (UJ (eI h fun k hk=>hb1.block k (eU h hk)) hl);have y2:W0.cell? ⟨w.heap.size,2,none⟩=some (.slice ai ats.length ac):=by
  rw[<-hW0];exact cell_of (K.eL w _) rfl
 have y3:W1.cell? ⟨w.heap.size,2,none⟩=some (.slice ai ats.length ac):=cell_of jI rfl;have HQ:Hid (∀w5 nu nx,w5.ownsRow 0 143 2 (.slice nu ats.length nx) ats.length (K.eG ats)->(∀k,(Value.slice nu ats.length nx).ownBlock=some k->W1.heap.size<=k)->Z5 W1 w5->(∃u,w5.cell? ⟨w.heap.size,2,none⟩=some u)/\w5.frozen? ⟨w.heap.size,2,none⟩=false/\∃W6,w5.setCell ⟨w.heap.size,2,none⟩ (.slice nu ats.length nx)=W6/\W6.cell? ⟨w.heap.size,0,none⟩=some (.int .i64 kd)/\W6.cell? ⟨w.heap.size,1,none⟩=some (.string nm)/\W6.cell? ⟨w.heap.size,2,none⟩=some (.slice nu ats.length nx)/\W6.cell? ⟨w.heap.size,3,none⟩=some (.string tx)/\W6.cell? ⟨w.heap.size,4,none⟩=some (.int .i64 at_)/\Hid (W6.there (w.heap.size+1) 0 5)/\∃W7,W6.setCells (w.heap.size+1) 0 [.int .i64 kd,.string nm,.slice nu ats.length nx,.string tx,.int .i64 at_]=W7/\Hid (W7.heap[w.heap.size+1]?=some (.cells #[.int .i64 kd,.string nm,.slice nu ats.length nx,.string tx,.int .i64 at_] 56 (0,0))/\W7.ownsRow 0 143 2 (.slice nu ats.length nx) ats.length (K.eG ats)/\(∀k,(Value.slice nu ats.length nx).ownBlock=some k->w.heap.size<=k)/\Z5 w W7)):=fun w5 nu nx q1 q2 q3=>by
  have Qd:w5.heap[w.heap.size]?=_:=(q3.block _ (by omega)).trans jI;have Ll:(w5.setCell ⟨w.heap.size,2,none⟩ (.slice nu ats.length nx)).heap[w.heap.size]?=some (.cells #[.int .i64 kd,.string nm,.slice nu ats.length nx,.string tx,.int .i64 at_] 56 (0,0)):=by rw[eV Qd];rfl
  have hr6:(w5.setCell ⟨w.heap.size,2,none⟩ (.slice nu ats.length nx)).heap[w.heap.size+1]?=_:=(af _ _ _ _ (by simp)).trans ((q3.block _ (by omega)).trans hbr);have yw:Z5 w (w5.setCell ⟨w.heap.size,2,none⟩ (.slice nu ats.length nx)):=(hb1.trans (q3.mono (by omega))).setCell (p:=⟨w.heap.size,2,none⟩) (ah _) _;have ho6:(w5.setCell ⟨w.heap.size,2,none⟩ (.slice nu ats.length nx)).ownsRow 0 143 2 (.slice nu ats.length nx) ats.length (K.eG ats):=eI q1 fun k hk=>af _ _ _ _ fun e=>(by have:=q2 k hk;simp at e;omega)
  refine⟨⟨_,cell_of Qd rfl⟩,eP Qd,_,rfl,cell_of Ll rfl,cell_of Ll rfl,cell_of Ll rfl,cell_of Ll rfl,cell_of Ll rfl,UK hr6,?_⟩;generalize w5.setCell ⟨w.heap.size,2,none⟩ (.slice nu ats.length nx)=W6 at*
  have hr7:(W6.setCells (w.heap.size+1) 0 [.int .i64 kd,.string nm,.slice nu ats.length nx,.string tx,.int .i64 at_]).heap[w.heap.size+1]?=some (.cells #[.int .i64 kd,.string nm,.slice nu ats.length nx,.string tx,.int .i64 at_] 56 (0,0)):=by
   simp only[World.setCells];rw[eV (eV (eV (eV (eV hr6 _) _) _) _) _];rfl
  obtain⟨r1,r2,r3,r4⟩:=jZ (g:=w.heap.size+1) [.int .i64 kd,.string nm,.slice nu ats.length nx,.string tx,.int .i64 at_] 0 W6;refine⟨_,rfl,hr7,eI ho6 fun k hk=>fK (by have:=q2 k hk;omega) _ _ _,fun k hk=>(by have:=q2 k hk;omega),⟨r1.trans yw.os,r2.trans yw.tape,r3.trans yw.output,by rw[r4];exact yw.size,fun k hk=>(fK (by omega) _ _ _).trans (yw.block k hk)⟩⟩
 clear h hb1 jI hbr;unfold uM;go_enter func30,ntmps30;go_wp2_with(first
  |(go_at_call 55;refine HCl.out.mono ?_;rintro e w5 ⟨nu,nx,rfl,q1,q2,q3⟩;obtain⟨⟨u5,x2⟩,xf,W6,e6,x0,x1,x3,x4,x5,M9,W7,e7,HF⟩:=HQ.out w5 nu nx q1 q2 q3;have HE7:=a_ e7;clear q1 q2 q3 HQ HCl y2 hW1 hW0 e7)
  |(refine wpList_store_mid rfl 56 (.tmp 2) (.tmp 7) rfl (w.heap.size+1) 0 #[.int .i64 kd,.string nm,.slice nu ats.length nx,.string tx,.int .i64 at_] rfl rfl M9.out (EQ ..) (Mw ..) ?_;change wpList _ _ _ _ _ (W6.setCells (w.heap.size+1) 0 [.int .i64 kd,.string nm,.slice nu ats.length nx,.string tx,.int .i64 at_]);rw[HE7.out]))
 obtain⟨q1,q2⟩:=HF.out;exact aV (v:=.agg #[.int .i64 kd,.string nm,.slice nu ats.length nx,.string tx,.int .i64 at_]) (results_cell_row (p:=2) (ty:=56) results30 _ _ (w.heap.size+1) 56 _ (0,0) _ rfl q1 underlying56 rfl Uy) rfl ⟨nu,nx,rfl,q2⟩
end
section
variable{w w' w1 w2 W:World}{b B:Nat}{o:List UInt8}{nv u:Value}{d:Bool}{G:Nat->Prop}{ai:Option Addr}{ac:Nat}
def WO(b:Nat)(w:World)(k:Nat):Prop:=k=b\/∃ty p v nv,w.heap[b]?=some (.cells #[p,v,nv] ty (0,0))/\v.ownBlock=some k
structure WF(b:Nat)(w w':World):Prop where
 fr:Fr (WO b w) w w'
 sub:∀k,WO b w' k->WO b w k\/w.heap.size<=k
theorem WF.trans(h:WF b w w1)(g:WF b w1 w2):WF b w w2:=
 ⟨h.fr.trans g.fr fun k hk hp=>(h.sub k hp).resolve_right (by omega),fun k hk=>by
  have:=h.fr.size;rcases g.sub k hk with q|q
  ·exact h.sub k q
  ·exact Or.inr (by omega)⟩
theorem WO.same(hb:w'.heap[b]?=w.heap[b]?){k:Nat}(h:WO b w' k):WO b w k:=by
 unfold WO at*
 rw[hb]at h;exact h
theorem WF.gi(h:Z5 w w')(hb:b<w.heap.size):WF b w w':=⟨Fr.below h,fun k hk=>Or.inl (WO.same (h.block b hb) hk)⟩
theorem WR.low(h:K.WR b o nv w){k:Nat}(hk:WO b w k):b<=k/\k<w.heap.size:=by
 obtain⟨ty,p,v,hty,hp,jI,hown,hne⟩:=h.ex;rcases hk with rfl|⟨ty',p',v',kh,h1,h2⟩
 ·exact⟨ah _,eO jI⟩
 ·rw[jI]at h1;cases h1;exact hown.lt k h2
theorem WR.off(h:K.WR b o nv w)(hf:Fr G w w')(hd:∀k,WO b w k->¬G k):K.WR b o nv w':=by
 obtain⟨ty,p,v,hty,hp,jI,hown,hne⟩:=h.ex;have hb:=hf.block b (eO jI) (hd b (Or.inl rfl));refine⟨ty,p,v,hty,hp,hb.trans jI,⟨hown.1,?_⟩,hne⟩;rcases hown.2 with hn|⟨g,cap,cur,fz,rfl,h1,M4,h2⟩
 ·exact .inl hn
 ·exact .inr ⟨g,cap,cur,fz,rfl,h1,(hf.block g (eO M4) (hd g (Or.inr ⟨_,_,_,_,jI,rfl⟩))).trans M4,h2⟩
theorem WR.due(h:K.WR b o nv w)(u:Value):K.WR b o u (w.setCell ⟨b,2,none⟩ u)/\WF b w (w.setCell ⟨b,2,none⟩ u):=by
 obtain⟨ty,p,v,hty,hp,jI,hown,hne⟩:=h.ex;have hb:(w.setCell ⟨b,2,none⟩ u).heap[b]?=some (.cells #[p,v,u] ty (0,0)):=by rw[eV jI];rfl
 refine⟨⟨ty,p,v,hty,hp,hb,hown.kept (row:=some b) ⟨rfl,rfl,rfl,by simp[World.setCell],fun k _ hk=>af _ _ _ _ (fun e=>hk (by rw[e]))⟩ (Or.inr hne),hne⟩,(Fr.refl _ w).set _ _ fun _=>Or.inl rfl,fun k hk=>Or.inl ?_⟩;rcases hk with rfl|⟨ty',p',v',kh,h1,h2⟩
 ·exact Or.inl rfl
 ·rw[hb]at h1;cases h1;exact Or.inr ⟨_,_,_,_,jI,h2⟩
theorem wo(h:K.WR b o nv w)(s:List UInt8)(hlen:o.length+s.length<=140737488355328):Z4 34 #[Z8 b,.string ⟨s.toArray⟩] w fun e w'=>e=.returned (.tuple #[.int .i64 s.length,.nilIface])/\K.WR b (o++s) nv w'/\WF b w w':=by
 refine(K.xn h ⟨s.toArray⟩ (by simp only[ByteArray.size,cv];exact hlen)).mono ?_;rintro e w' ⟨rfl,h1,h2,ty,p0,v,h3,h4,v',h5,h6⟩;refine⟨by simp[ByteArray.size],by simpa using h1,⟨h2.os,h2.tape,h2.output,h2.size,fun k hk hn=>h4 k hk (fun e=>hn (Or.inl e)) fun e=>hn (Or.inr ⟨_,_,_,_,h3,e⟩)⟩,fun k hk=>?_⟩;rcases hk with rfl|⟨ty',p',v2,kh,q1,q2⟩
 ·exact Or.inl (Or.inl rfl)
 ·rw[h5]at q1;cases q1;rcases h6 k q2 with q|q
  ·exact Or.inl (Or.inr ⟨_,_,_,_,h3,q⟩)
  ·exact Or.inr q
theorem WR.cells(h:K.WR b o nv w):w.cell? ⟨b,2,none⟩=some nv/\w.frozen? ⟨b,2,none⟩=false:=by
 obtain⟨ty,p,v,hty,hp,jI,hown,hne⟩:=h.ex;exact⟨cell_of jI rfl,eP jI⟩
theorem Kf(h:K.WR b o (.bool d) w)(hz:o.length<=100000000000000):Z4 35 #[Z8 b] w fun e w'=>e=.returned (.tuple #[])/\K.WR b (o++if d=true then [62]else []) (.bool false) w'/\WF b w w':=by
 obtain⟨c2,f2⟩:=WR.cells h;cases d with
 |false=>
  have HE:=a_ h;clear h;go_enter func35,ntmps35;go_wp2_with fail
  go_end0
  refine⟨rfl,by simpa using HE.out,WF.gi (Below.refl _ _) (WR.low HE.out (Or.inl rfl)).2⟩
 |true=>
  obtain⟨q1,q2⟩:=WR.due h (.bool false);have HF:=a_ q2;have HW:=a_ (wo q1 [62] (by simp;omega));clear h q1 q2;go_enter func35,ntmps35;go_wp2_with(go_at_call 34;refine HW.out.mono ?_;rintro e w5 ⟨rfl,r1,r2⟩;have HR:=a_ r1;have HG:=a_ r2;clear r1 r2)
  go_end0
  exact⟨rfl,HR.out,HF.out.trans HG.out⟩
end
section
variable{w w' w1 w2 W:World}{b B:Nat}{o:List UInt8}{nv u:Value}{d:Bool}{G:Nat->Prop}{ai:Option Addr}{ac:Nat}{t:K.Tok}
def gX(x:List UInt8×Bool)(t:K.Tok):List UInt8×Bool:=
 if x.2=true/\t.kind=2 then(x.1++[47,62],false)
 else if t.kind=1 then((x.1++if x.2=true then [62]else [])++K.fI t.name t.b_ t.b_.length,true)
 else if t.kind=2 then((x.1++if x.2=true then [62]else [])++([60,47]++t.name++[62]),false)
 else((x.1++if x.2=true then [62]else [])++K.Ch.h_ false t.text,false)
structure TB(b:Nat)(o:List UInt8)(ai:Option Addr)(ac:Nat)(t:K.Tok)(w W:World):Prop where
 wr:K.WR b o (.bool false) W
 wf:WF b w W
 y0:W.cell? ⟨w.heap.size,0,none⟩=some (.int .i64 t.kind)
 y1:W.cell? ⟨w.heap.size,1,none⟩=some (.string ⟨t.name.toArray⟩)
 y2:W.cell? ⟨w.heap.size,2,none⟩=some (.slice ai t.b_.length ac)
 y3:W.cell? ⟨w.heap.size,3,none⟩=some (.string ⟨t.text.toArray⟩)
 row:W.ownsRow 0 143 2 (.slice ai t.b_.length ac) t.b_.length (K.eG t.b_)
theorem TB.below(h:TB b o ai ac t w W)(hb:Z5 W w'):TB b o ai ac t w w':=
 have c:∀{a u},W.cell? a=some u->w'.cell? a=some u:=fun h=>qA (G:=fun _=>False) (Fr.below hb) (fun x=>x) h
 ⟨h.wr.past hb,h.wf.trans (WF.gi hb (WR.low h.wr (Or.inl rfl)).2),c h.y0,c h.y1,c h.y2,c h.y3,eI h.row fun k e=>hb.block k (eU h.row e)⟩
theorem TB.start(h:K.WR b o nv w)(hrow:w.ownsRow 0 143 2 (.slice ai t.b_.length ac) t.b_.length (K.eG t.b_))(hA:∀k,(Value.slice ai t.b_.length ac).ownBlock=some k->¬WO b w k){W1:World}(hW1:w.alloc (.cells #[.int .i64 t.kind,.string ⟨t.name.toArray⟩,.slice ai t.b_.length ac,.string ⟨t.text.toArray⟩,.int .i64 t.at_] 56)=W1){o':List UInt8}(hw:K.WR b o' (.bool false) W)(hf:WF b W1 W):TB b o' ai ac t w W:=by
 have hz:W1.heap.size=w.heap.size+1:=by rw[<-hW1];simp
 have hb1:Z5 w W1:=by rw[<-hW1];exact(Below.refl _ w).alloc (ah _) _
 have hl:=(WR.low h (Or.inl rfl)).2;have hWO:∀k,WO b W1 k->WO b w k:=fun k hk=>hk.same (hb1.block b hl);have jI:W1.heap[w.heap.size]?=some (.cells #[.int .i64 t.kind,.string ⟨t.name.toArray⟩,.slice ai t.b_.length ac,.string ⟨t.text.toArray⟩,.int .i64 t.at_] 56 (0,0)):=by rw[<-hW1];exact K.eL w _
 have c:∀{j u},W1.cell? ⟨w.heap.size,j,none⟩=some u->W.cell? ⟨w.heap.size,j,none⟩=some u:=fun q=>qA hf.fr (fun hk=>cy _ (WR.low h (hWO _ hk)).2) q;have hr1:=eI hrow fun k hk=>hb1.block k (eU hrow hk);exact⟨hw,(WF.gi hb1 hl).trans hf,c (cell_of jI rfl),c (cell_of jI rfl),c (cell_of jI rfl),c (cell_of jI rfl),eI hr1 fun k hk=>hf.fr.block k (eU hr1 hk) fun q=>hA k hk (hWO k q)⟩
theorem UL(h:K.WR b o (.bool d) w)(hk:t.kind=1\/t.kind=2\/t.kind=3)(hrow:w.ownsRow 0 143 2 (.slice ai t.b_.length ac) t.b_.length (K.eG t.b_))(hA:∀k,(Value.slice ai t.b_.length ac).ownBlock=some k->¬WO b w k)(hz:o.length<=1000000000000)(hz1:(K.fI t.name t.b_ t.b_.length).length<=1000000000000)(hz2:t.name.length<=1000000000000)(hz3:(K.Ch.h_ false t.text).length<=1000000000000):
  Z4 14 #[Z8 b,uM t.kind ⟨t.name.toArray⟩ ai t.b_.length ac ⟨t.text.toArray⟩ t.at_] w fun e w'=>e=.returned (.tuple #[])/\K.WR b (gX (o,d) t).1 (.bool (gX (o,d) t).2) w'/\WF b w w':=by
 obtain⟨W1,hW1⟩:∃W1,w.alloc (.cells #[.int .i64 t.kind,.string ⟨t.name.toArray⟩,.slice ai t.b_.length ac,.string ⟨t.text.toArray⟩,.int .i64 t.at_] 56)=W1:=⟨_,rfl⟩
 have hb1:Z5 w W1:=by rw[<-hW1];exact(Below.refl _ w).alloc (ah _) _
 have hl:=(WR.low h (Or.inl rfl)).2;have h1:=h.past hb1;have Wq:=WF.gi hb1 hl;obtain⟨c2,f2⟩:=WR.cells h1;have jI:W1.heap[w.heap.size]?=some (.cells #[.int .i64 t.kind,.string ⟨t.name.toArray⟩,.slice ai t.b_.length ac,.string ⟨t.text.toArray⟩,.int .i64 t.at_] 56 (0,0)):=by rw[<-hW1];exact K.eL w _
 have y0:W1.cell? ⟨w.heap.size,0,none⟩=some (.int .i64 t.kind):=cell_of jI rfl;by_cases hq:d=true/\t.kind=2
 ·have e1:gX (o,d) t=(o++[47,62],false):=by unfold gX;rw[if_pos hq]
  rw[e1];obtain⟨rfl,hk2⟩:=hq;obtain⟨q1,q2⟩:=WR.due h1 (.bool false);have HF:=a_ (Wq.trans q2);have HW:=a_ (wo q1 [47,62] (by simp;omega));rw[hk2]at y0 hW1 ⊢;clear h h1 Wq hb1 q1 q2 hrow hA jI hk hk2 e1;unfold uM;go_enter func14,ntmps14;go_wp2_with(go_at_call 34;refine HW.out.mono ?_;rintro e w5 ⟨rfl,r1,r2⟩;have HR:=a_ r1;have HG:=a_ r2;clear r1 r2);exact aV (aK rfl _ _ _) rfl ⟨rfl,HR.out,HF.out.trans HG.out⟩
 ·have HEn:=a_ ((Kf h1 (by omega)).mono fun e w' (q:_/\_/\_)=>show _/\_ from⟨q.1,TB.start h hrow hA hW1 q.2.1 q.2.2⟩);obtain⟨O,hO⟩:∃O,(o++if d=true then [62]else [])=O:=⟨_,rfl⟩
  have hOl:O.length<=1000000000001:=by rw[<-hO];split<;>simp<;>omega
  have e1:gX (o,d) t=if t.kind=1 then(O++K.fI t.name t.b_ t.b_.length,true)else if t.kind=2 then(O++([60,47]++t.name++[62]),false)else(O++K.Ch.h_ false t.text,false):=by
   unfold gX;rw[if_neg hq];simp only[hO]
  rw[hO]at HEn;rw[e1];have hq':d=false\/(t.kind==2)=false:=by
   cases d with
   |false=>exact Or.inl rfl
   |true=>exact Or.inr (by simpa using hq)
  clear e1 hO hq h h1 Wq hb1 hrow hA jI;rcases hk with hk|hk|hk
  ·have x9:t.kind≠2:=by omega
   rw[if_pos hk];rw[hk]at y0 hW1 ⊢;have HBg:=a_ (fun W (hT:TB b O ai ac t w W)=>K.H_ t.name t.b_ _ W hT.row (by omega));have HWr:=a_ (fun W (hT:TB b O ai ac t w W)=>wo hT.wr (K.fI t.name t.b_ t.b_.length) (by omega));generalize K.fI t.name t.b_ t.b_.length=T at*
   cases d<;>
   ·unfold uM;go_enter func14,ntmps14;go_wp2_with(first
     |(go_at_call 35;refine HEn.out.mono ?_;rintro e w5 ⟨rfl,hT⟩;have HT:=a_ hT;have z0:=hT.y0;rw[hk]at z0;have z1:=hT.y1;have z2:=hT.y2;clear hT HEn y0 c2 f2))
    have z1d:w5.drew.cell? ⟨w.heap.size,1,none⟩=some (.string ⟨t.name.toArray⟩):=z1;have z2d:w5.drew.cell? ⟨w.heap.size,2,none⟩=some (.slice ai t.b_.length ac):=z2;have YT:=a_ (HT.out.below (Below.refl _ w5).drew);go_region_law (first
     |(go_simp;refine(HBg.out _ YT.out).mono ?_;rintro e w6 ⟨rfl,yw⟩;have HT6:=a_ (YT.out.below yw);clear yw)
     |(go_simp;refine(HWr.out _ HT6.out).mono ?_;rintro e w7 ⟨rfl,r7,s7⟩;have HR7:=a_ r7;have HS7:=a_ (HT6.out.wf.trans s7);clear r7 s7))
    all_goals
     obtain⟨d2,e2⟩:=WR.cells HR7.out;obtain⟨q1,q2⟩:=WR.due HR7.out (.bool true);have HQ:=a_ (show _/\_ from⟨q1,HS7.out.trans q2⟩);clear q1 q2 z0 z1 z2 z1d z2d HT YT HT6 HBg HWr;go_wp2_with fail
     go_end0
     exact⟨rfl,HQ.out⟩
  ·have x9:t.kind≠1:=by omega
   obtain rfl:d=false:=hq'.resolve_right (by simp[hk]);rw[if_neg x9,if_pos hk];rw[hk]at y0 hW1 ⊢;have p2:=K.ia [60,47] t.name ([60,47]++t.name) rfl (by simp only[ag,aq];omega);have p3:=K.ia ([60,47]++t.name) [62] ([60,47]++t.name++[62]) rfl (by simp only[ae,ag,aq];omega);have HWr:=a_ (fun W (hT:TB b O ai ac t w W)=>wo hT.wr ([60,47]++t.name++[62]) (by simp only[ae,ag,aq];omega));generalize [60,47]++t.name++[62]=Y at*
   generalize [60,47]++t.name=Z at*
   unfold uM;go_enter func14,ntmps14;go_wp2_with(first
    |(go_at_call 35;refine HEn.out.mono ?_;rintro e w5 ⟨rfl,hT⟩;have HT:=a_ hT;have z0:=hT.y0;rw[hk]at z0;have z1:=hT.y1;clear hT HEn y0 c2 f2))
   have z1d:w5.drew.cell? ⟨w.heap.size,1,none⟩=some (.string ⟨t.name.toArray⟩):=z1;have YT:=a_ (HT.out.below (Below.refl _ w5).drew);go_region_law (first
    |(go_simp;refine(HWr.out _ YT.out).mono ?_;rintro e w7 ⟨rfl,r7,s7⟩;have HR7:=a_ r7;have HS7:=a_ (YT.out.wf.trans s7);clear r7 s7))
   all_goals
    go_wp2_with fail
    go_end0
    exact⟨rfl,HR7.out,HS7.out⟩
  ·have x9:t.kind≠1:=by omega
   have tK:t.kind≠2:=by omega
   rw[if_neg x9,if_neg tK];rw[hk]at y0 hW1 ⊢;have yy:=K.Ch.sA false t.text;have AG:K.Ch.U8 ⟨t.text.toArray⟩ false=K.Ch.h_ false t.text:=by unfold K.Ch.U8;simp
   have fg:=fun w=>K.uv ⟨t.text.toArray⟩ false w (by simp only[ByteArray.size,cv];omega);rw[AG]at fg;have HCl:=a_ fg;have HWr:=a_ (fun W (hT:TB b O ai ac t w W)=>wo hT.wr (K.Ch.h_ false t.text) (by omega));clear fg AG yy;generalize K.Ch.h_ false t.text=Y at*
   cases d<;>
   ·unfold uM;go_enter func14,ntmps14;go_wp2_with(first
     |(go_at_call 35;refine HEn.out.mono ?_;rintro e w5 ⟨rfl,hT⟩;have HT:=a_ hT;have z0:=hT.y0;rw[hk]at z0;have z3:=hT.y3;clear hT HEn y0 c2 f2))
    have z3d:w5.drew.cell? ⟨w.heap.size,3,none⟩=some (.string ⟨t.text.toArray⟩):=z3;have YT:=a_ (HT.out.below (Below.refl _ w5).drew);go_region_law (first
     |(go_simp;refine(HCl.out _).mono ?_;rintro e w6 ⟨rfl,yw⟩;have HT6:=a_ (YT.out.below yw);clear yw)
     |(go_simp;refine(HWr.out _ HT6.out).mono ?_;rintro e w7 ⟨rfl,r7,s7⟩;have HR7:=a_ r7;have HS7:=a_ (HT6.out.wf.trans s7);clear r7 s7))
    all_goals
     go_wp2_with fail
     go_end0
     exact⟨rfl,HR7.out,HS7.out⟩
end
section
variable{w w' w1 W:World}{ov v:Value}{b:gZ}{F:Nat->Prop}{X lo P sk:Nat}{S:List jo}{l:List El}{cl tk news:List Value}{n td B:Nat}{kd at_:Int}{nm tx:ByteArray}{ai:Option Addr}{an ac:Nat}
abbrev Ms:=List (jo×Bool)
def tJ(b:gZ)(l:Ms):jo:=match l.getLast? with|some x=>x.1|none=>iN b
def UM(l:Ms):Bool:=match l.getLast? with|some x=>x.2|none=>false
def Mx(l:Ms):Bool:=match l.getLast? with|some x=>x.1.wh||x.1.tx|none=>false
def xt(l:Ms)(t:Bool):Ms:=l.dropLast++(l.getLast?.toList.map fun x=>(x.1,t))
def kT(b:gZ)(x:Ms×Nat)(t:K.Tok):Option ((Ms×Nat)×Bool):=
 if t.kind=1 then match x.2 with
  |k+1=>some ((x.1,k+2),false)
  |0=>if((fL b (tJ b x.1) t.name).nd||(fL b (tJ b x.1) t.name).wh||x.1.isEmpty)=true then some ((xt x.1 false++[(fL b (tJ b x.1) t.name,false)],0),true)
   else if(fL b (tJ b x.1) t.name).due=[]/\UM x.1=false then some ((x.1,1),false)else none
 else if t.kind=2 then match x.2 with
  |k+1=>some ((x.1,k),false)
  |0=>if x.1.isEmpty then some ((x.1,0),false)else some ((x.1.dropLast,0),true)
 else if t.kind=3 then match x.2 with
  |k+1=>some ((x.1,k+1),false)
  |0=>if Mx x.1 then some ((xt x.1 true,0),true)else some ((x.1,0),false)
 else some (x,false)
def uP(l:List El):Ms:=l.map (·.2)
theorem aaP(b:gZ)(l:List El):qY b l=tJ b (uP l):=by unfold qY tJ uP;rw[eA];cases l.getLast?<;>rfl
theorem XM(l:List El):AL l=UM (uP l):=by unfold AL UM uP;rw[eA];cases l.getLast?<;>rfl
theorem XN(b:gZ)(l:List El):xX b l=Mx (uP l):=by unfold xX Mx uP;rw[eA];cases l.getLast?<;>rfl
theorem aaQ(l:List El):uP (xr l)=xt (uP l) false:=by
 rcases b9 l with rfl|⟨m,x,rfl⟩
 ·rfl
 ·rw[cd,tj];simp[uP,xt]
theorem abZ(l:List El)(x:El):uP (l++[(x.1,x.2.1,true)])=xt (uP (l++[x])) true:=by simp[uP,xt]
def PP(P X lo:Nat)(F:Nat->Prop)(b:gZ)(S:List jo)(ov:Value)(y:(Ms×Nat)×Bool)(tk:List Value)(w:World)(e:Ending)(w':World):Prop:=
 ∃l',uP l'=y.1.1/\PA P X lo F b S ov l' y.1.2 (if y.2=true then some tk else none) w e w'
def YU(k:Int):Nat:=if k=1 then 31 else if k=2 then 32 else 33
theorem XO{t:K.Tok}{y:(Ms×Nat)×Bool}(h:PM P X lo F b S ov l sk w)(hk:t.kind=1\/t.kind=2\/t.kind=3)(hs:kT b (uP l,sk) t=some y)(hS:S.length<=1000000000)(hl:l.length<=100000000)(hsk:sk<=1000000000000):
  Z4 (YU t.kind) #[Z8 P,uM t.kind (bs t.name) ai an ac (bs t.text) t.at_] w (PP P X lo F b S ov y (wy t.kind (bs t.name) (.slice ai an ac) (bs t.text) t.at_) w):=by
 unfold kT at hs;simp only[<-aaP,<-XM,<-XN b]at hs;by_cases h1:t.kind=1
 ·rw[if_pos h1]at hs;rw[show YU t.kind=31 by unfold YU;rw[if_pos h1]];cases sk with
  |succ k=>
   simp only[aJ]at hs;subst hs;exact(EP h (by omega)).mono fun e w' q=>⟨l,rfl,q⟩
  |zero=>
   simp only at hs;split at hs
   ·rename_i Mr;simp only[aJ]at hs;subst hs;refine(Iu t.name h hS hl (by simpa [uP]using Mr)).mono fun e w' ⟨st,q⟩=>⟨_,?_,q⟩
    show uP (xr l++[(st,fL b (qY b l) t.name,false)])=xt (uP l) false++[(fL b (qY b l) t.name,false)];rw[<-aaQ];simp[uP]
   ·rename_i Mr;split at hs
    ·rename_i hd;simp only[aJ]at hs;subst hs;simp only[bw,not_or,Bool.not_eq_true]at Mr;refine(Lk t.name h hS hl (fun e=>?_) Mr.1.1 Mr.1.2 hd.1 hd.2).mono fun e w' q=>⟨l,rfl,q⟩
     subst e;simp[uP]at Mr
    ·cases hs
 ·rw[if_neg h1]at hs;by_cases h2:t.kind=2
  ·rw[if_pos h2]at hs;rw[show YU t.kind=32 by unfold YU;rw[if_neg h1,if_pos h2]];cases sk with
   |succ k=>
    simp only[aJ]at hs;subst hs;exact(EN h (by omega) (by omega)).mono fun e w' q=>⟨l,rfl,q⟩
   |zero=>
    rcases b9 l with rfl|⟨m,x,rfl⟩
    ·simp only[uP,bZ,List.isEmpty_nil,if_true,aJ]at hs;subst hs;exact(EO h).mono fun e w' q=>⟨[],rfl,q⟩
    ·rw[cd]at hs h hl;have he:(uP (m++[x])).isEmpty=false:=by simp[uP]
     simp only[he,aA,bf,aJ]at hs;subst hs;refine(Ir h (by simp at hl;omega)).mono fun e w' q=>⟨m,?_,q⟩
     show uP m=(uP (m++[x])).dropLast;simp[uP]
  ·have h3:t.kind=3:=(hk.resolve_left h1).resolve_left h2;rw[if_neg h2,if_pos h3]at hs;rw[show YU t.kind=33 by unfold YU;rw[if_neg h1,if_neg h2]];cases sk with
   |succ k=>
    simp only[aJ]at hs;subst hs;exact(Li h).mono fun e w' q=>⟨l,rfl,q⟩
   |zero=>
    simp only at hs;split at hs
    ·rename_i hkt;simp only[aJ]at hs;subst hs;rcases b9 l with rfl|⟨m,x,rfl⟩
     ·cases hkt
     ·rw[cd]at hkt h hl ⊢;exact(PC h hkt hS (by simp at hl;omega)).mono fun e w' q=>⟨_,abZ m x,q⟩
    ·rename_i hkt;simp only[aJ]at hs;subst hs;exact(UD h (by simpa using hkt) hS (by omega)).mono fun e w' q=>⟨l,rfl,q⟩
end
section
variable{w w' w1 W:World}{ov v:Value}{b:gZ}{F:Nat->Prop}{X lo P sk:Nat}{S:List jo}{l:List El}{cl tk news:List Value}{n td B:Nat}{kd at_:Int}{nm tx:ByteArray}{ai:Option Addr}{an ac:Nat}
theorem PA.lower{o:Option (List Value)}{l':List El}{Mv:Nat}{e:Ending}(hb:Z5 w W)(h:PA P X lo F b S ov l' Mv o W e w'):PA P X lo F b S ov l' Mv o w e w':=by
 obtain⟨v,S',F',mG,rfl,h1,h2,h3,h4⟩:=h;refine⟨v,S',F',mG,rfl,?_,h2,(kR.gi hb).trans h3,h4⟩;cases o with
 |none=>exact h1
 |some tk=>
  obtain⟨g,cap,e1,e2,e3,e4⟩:=h1;exact⟨g,cap,e1,ar hb.size e2,e3,e4⟩
theorem XP{t:K.Tok}{y:(Ms×Nat)×Bool}(h:PM P X lo F b S ov l sk w)(hk:t.kind=1\/t.kind=2\/t.kind=3)(hs:kT b (uP l,sk) t=some y)(hS:S.length<=1000000000)(hl:l.length<=100000000)(hsk:sk<=1000000000000)(hrow:w.ownsRow 0 143 2 (.slice ai t.b_.length ac) t.b_.length (K.eG t.b_))(hat:t.b_.length<=1000000000000):
  Z4 13 #[Z8 P,uM t.kind (bs t.name) ai t.b_.length ac (bs t.text) t.at_] w fun e w'=>∃Fs PH,PP P X lo F b S ov y (wy t.kind (bs t.name) (.slice Fs t.b_.length PH) (bs t.text) t.at_) w e w'/\w'.ownsRow 0 143 2 (.slice Fs t.b_.length PH) t.b_.length (K.eG t.b_)/\(∀k,(Value.slice Fs t.b_.length PH).ownBlock=some k->w.heap.size<=k):=by
 obtain⟨W1,hW1⟩:∃W1,w.alloc (.cells #[.int .i64 t.kind,.string (bs t.name),.slice ai t.b_.length ac,.string (bs t.text),.int .i64 t.at_] 56)=W1:=⟨_,rfl⟩
 have hz:W1.heap.size=w.heap.size+1:=by rw[<-hW1];simp
 have hb1:Z5 w W1:=by rw[<-hW1];exact(Below.refl _ w).alloc (ah _) _
 have jI:W1.heap[w.heap.size]?=some (.cells #[.int .i64 t.kind,.string (bs t.name),.slice ai t.b_.length ac,.string (bs t.text),.int .i64 t.at_] 56 (0,0)):=by rw[<-hW1];exact K.eL w _
 have hr1:=eI hrow fun k hk=>hb1.block k (eU hrow hk);have HOw:=a_ (aaO (kd:=t.kind) (nm:=bs t.name) (tx:=bs t.text) (at_:=t.at_) hr1 hat);have y0:W1.cell? ⟨w.heap.size,0,none⟩=some (.int .i64 t.kind):=cell_of jI rfl;have y1:W1.cell? ⟨w.heap.size,1,none⟩=some (.string (bs t.name)):=cell_of jI rfl;have y2:W1.cell? ⟨w.heap.size,2,none⟩=some (.slice ai t.b_.length ac):=cell_of jI rfl;have y3:W1.cell? ⟨w.heap.size,3,none⟩=some (.string (bs t.text)):=cell_of jI rfl;have y4:W1.cell? ⟨w.heap.size,4,none⟩=some (.int .i64 t.at_):=cell_of jI rfl;have HQ:Hid (∀w5 nu nx,w5.ownsRow 0 143 2 (.slice nu t.b_.length nx) t.b_.length (K.eG t.b_)->(∀k,(Value.slice nu t.b_.length nx).ownBlock=some k->W1.heap.size<=k)->Z5 W1 w5->Hid (w5.there w.heap.size 0 5)/\∃W6,w5.setCells w.heap.size 0 [.int .i64 t.kind,.string (bs t.name),.slice nu t.b_.length nx,.string (bs t.text),.int .i64 t.at_]=W6/\W6.cell? ⟨w.heap.size,0,none⟩=some (.int .i64 t.kind)/\W6.cell? ⟨w.heap.size,1,none⟩=some (.string (bs t.name))/\W6.cell? ⟨w.heap.size,2,none⟩=some (.slice nu t.b_.length nx)/\W6.cell? ⟨w.heap.size,3,none⟩=some (.string (bs t.text))/\W6.cell? ⟨w.heap.size,4,none⟩=some (.int .i64 t.at_)/\Hid (Z4 (YU t.kind) #[Z8 P,.agg #[.int .i64 t.kind,.string (bs t.name),.slice nu t.b_.length nx,.string (bs t.text),.int .i64 t.at_]] W6 fun e w'=>(∃a c d,e=.returned (.slice a c d))/\∃Fs PH,PP P X lo F b S ov y (wy t.kind (bs t.name) (.slice Fs t.b_.length PH) (bs t.text) t.at_) w e w'/\w'.ownsRow 0 143 2 (.slice Fs t.b_.length PH) t.b_.length (K.eG t.b_)/\(∀k,(Value.slice Fs t.b_.length PH).ownBlock=some k->w.heap.size<=k))):=fun w5 nu nx q1 q2 q3=>by
  have Qd:w5.heap[w.heap.size]?=_:=(q3.block _ (by omega)).trans jI;refine⟨UK Qd,?_⟩;have Ll:(w5.setCells w.heap.size 0 [.int .i64 t.kind,.string (bs t.name),.slice nu t.b_.length nx,.string (bs t.text),.int .i64 t.at_]).heap[w.heap.size]?=some (.cells #[.int .i64 t.kind,.string (bs t.name),.slice nu t.b_.length nx,.string (bs t.text),.int .i64 t.at_] 56 (0,0)):=by
   simp only[World.setCells];rw[eV (eV (eV (eV (eV Qd _) _) _) _) _];rfl
  obtain⟨r1,r2,r3,r4⟩:=jZ (g:=w.heap.size) [.int .i64 t.kind,.string (bs t.name),.slice nu t.b_.length nx,.string (bs t.text),.int .i64 t.at_] 0 w5;have ya:Z5 w w5:=hb1.trans (q3.mono (by omega));have yw:Z5 w (w5.setCells w.heap.size 0 [.int .i64 t.kind,.string (bs t.name),.slice nu t.b_.length nx,.string (bs t.text),.int .i64 t.at_]):=⟨r1.trans ya.os,r2.trans ya.tape,r3.trans ya.output,by rw[r4];exact ya.size,fun k hk=>(fK (by omega) _ _ _).trans (ya.block k hk)⟩
  have ho6:(w5.setCells w.heap.size 0 [.int .i64 t.kind,.string (bs t.name),.slice nu t.b_.length nx,.string (bs t.text),.int .i64 t.at_]).ownsRow 0 143 2 (.slice nu t.b_.length nx) t.b_.length (K.eG t.b_):=eI q1 fun k hk=>fK (by have:=q2 k hk;omega) _ _ _;have hP6:=h.below yw;refine⟨_,rfl,cell_of Ll rfl,cell_of Ll rfl,cell_of Ll rfl,cell_of Ll rfl,cell_of Ll rfl,(XO hP6 hk hs hS hl hsk).mono fun e w' ⟨l',e1,hA⟩=>?_⟩;have WB:=hA.lower yw;obtain⟨v,S',F',mG,rfl,g1,g2,g3,g4⟩:=hA;refine⟨?_,nu,nx,⟨l',e1,WB⟩,eI ho6 fun k hk=>g3.fr.block k (eU ho6 hk) fun Lg=>?_,fun k hk=>?_⟩
  ·split at g1
   ·obtain⟨g,cap,e2,_⟩:=g1;exact⟨_,_,_,aC _ e2⟩
   ·exact⟨_,_,_,aC _ g1⟩
  ·have:=(h.low Lg).2;have:=q2 k hk;omega
  ·have:=q2 k hk;omega
 clear h hs hrow hr1 hb1 jI;unfold uM at*
 generalize t.kind=kd at*
 generalize t.b_.length=an at*
 generalize bs t.name=nm at*
 generalize bs t.text=tx at*
 generalize t.at_=at_ at*
 rcases hk with rfl|rfl|rfl
 ·go_enter func13,ntmps13;go_wp2_with(first
   |(go_at_call 30;refine HOw.out.mono ?_;rintro e w5 ⟨nu,nx,rfl,q1,q2,q3⟩;obtain⟨M9,W6,e6,x0,x1,x2,x3,x4,HK⟩:=HQ.out w5 nu nx q1 q2 q3;have HE6:=a_ e6;clear q1 q2 q3 HQ HOw y0 y1 y2 y3 y4 hW1 e6)
   |(refine wpList_store_mid rfl 56 (.tmp 3) (.tmp 6) rfl w.heap.size 0 #[.int .i64 1,.string nm,.slice nu an nx,.string tx,.int .i64 at_] rfl rfl M9.out (EQ ..) (Mw ..) ?_;change wpList _ _ _ _ _ (w5.setCells w.heap.size 0 [.int .i64 1,.string nm,.slice nu an nx,.string tx,.int .i64 at_]);rw[HE6.out])
   |(go_at_call 31;refine HK.out.mono ?_;rintro e w7 ⟨⟨a7,c7,d7,rfl⟩,xY⟩;have HF:=a_ xY;clear xY HK))
  go_ret;exact HF.out
 ·go_enter func13,ntmps13;go_wp2_with(first
   |(go_at_call 30;refine HOw.out.mono ?_;rintro e w5 ⟨nu,nx,rfl,q1,q2,q3⟩;obtain⟨M9,W6,e6,x0,x1,x2,x3,x4,HK⟩:=HQ.out w5 nu nx q1 q2 q3;have HE6:=a_ e6;clear q1 q2 q3 HQ HOw y0 y1 y2 y3 y4 hW1 e6)
   |(refine wpList_store_mid rfl 56 (.tmp 3) (.tmp 6) rfl w.heap.size 0 #[.int .i64 2,.string nm,.slice nu an nx,.string tx,.int .i64 at_] rfl rfl M9.out (EQ ..) (Mw ..) ?_;change wpList _ _ _ _ _ (w5.setCells w.heap.size 0 [.int .i64 2,.string nm,.slice nu an nx,.string tx,.int .i64 at_]);rw[HE6.out])
   |(go_at_call 32;refine HK.out.mono ?_;rintro e w7 ⟨⟨a7,c7,d7,rfl⟩,xY⟩;have HF:=a_ xY;clear xY HK))
  go_ret;exact HF.out
 ·go_enter func13,ntmps13;go_wp2_with(first
   |(go_at_call 30;refine HOw.out.mono ?_;rintro e w5 ⟨nu,nx,rfl,q1,q2,q3⟩;obtain⟨M9,W6,e6,x0,x1,x2,x3,x4,HK⟩:=HQ.out w5 nu nx q1 q2 q3;have HE6:=a_ e6;clear q1 q2 q3 HQ HOw y0 y1 y2 y3 y4 hW1 e6)
   |(refine wpList_store_mid rfl 56 (.tmp 3) (.tmp 6) rfl w.heap.size 0 #[.int .i64 3,.string nm,.slice nu an nx,.string tx,.int .i64 at_] rfl rfl M9.out (EQ ..) (Mw ..) ?_;change wpList _ _ _ _ _ (w5.setCells w.heap.size 0 [.int .i64 3,.string nm,.slice nu an nx,.string tx,.int .i64 at_]);rw[HE6.out])
   |(go_at_call 33;refine HK.out.mono ?_;rintro e w7 ⟨⟨a7,c7,d7,rfl⟩,xY⟩;have HF:=a_ xY;clear xY HK))
  go_ret;exact HF.out
end
section
variable{w w' w1 w2 W:World}{b B:Nat}{o:List UInt8}{nv u v:Value}{d:Bool}
theorem XQ(h:K.WR b o nv w):Z4 15 #[Z8 b] w fun e w'=>e=.returned (.string ⟨o.toArray⟩)/\Below b w w':=by
 have HS:=a_ (K.uJ h);clear h;go_enter func15,ntmps15;go_wp2_with(go_at_call 38;refine HS.out.mono ?_;rintro e w5 ⟨rfl,b5⟩;have HB:=a_ b5;clear b5);go_ret;exact⟨rfl,HB.out⟩
theorem PM.first{X P:Nat}{F:Nat->Prop}{bb:gZ}(h:wu X W.heap.size F bb [] w)(hb:Z5 W w)(ht:zu W.heap.size W):PM w.heap.size X W.heap.size F bb [] (.slice none 0 0) [] 0 (w.alloc (.cells #[Z8 X,.slice none 0 0,.int .i64 0,.int .i64 0] 85)):=
 have b1:Z5 w (w.alloc (.cells #[Z8 X,.slice none 0 0,.int .i64 0,.int .i64 0] 85)):=(Below.refl _ _).alloc (ah _) _
 ⟨⟨K.eL w _,bG _ _ _ _,fun k e=>by simp[Value.ownBlock]at e,h.below b1,⟨hb.size,fun hF=>cy _ (h.lt hF)⟩,ht.on (hb.trans (b1.mono hb.size)),ar hb.size b1.size⟩,fun x hx=>by simp at hx⟩
theorem XR{qs:List L}{r:List Np}(hQ:∀q∈qs,Vx q)(hq:U4 W v qs)(hn:qs.length<=2197802)(hv:∀k,v.ownBlock=some k->k<W.heap.size)(hr:needed 0 qs=.ok r)(hl:r.length<=2200000000)(ht:zu W.heap.size W):Z4 10 #[v] W fun e w'=>∃P X F,e=.returned (.tuple #[Z8 P,.int .i64 0,.int .i64 0,.int .i64 0])/\PM P X W.heap.size F (fR jP r) [] (.slice none 0 0) [] 0 w'/\Z5 W w':=by
 have HN:=a_ ((Dw qs hQ v W hq hn hv).mono fun e w' h=>h.ok hr hl);have HP:Hid (∀X F w5,wu X W.heap.size F (fR jP r) [] w5->Z5 W w5->PM w5.heap.size X W.heap.size F (fR jP r) [] (.slice none 0 0) [] 0 (w5.alloc (.cells #[Z8 X,.slice none 0 0,.int .i64 0,.int .i64 0] 85))/\Z5 W (w5.alloc (.cells #[Z8 X,.slice none 0 0,.int .i64 0,.int .i64 0] 85))):=fun X F w5 q1 q2=>⟨PM.first (P:=0) q1 q2 ht,q2.alloc q2.size _⟩
 clear hQ hq hn hv hr hl ht;generalize fR jP r=bb at*
 go_enter func10,ntmps10;go_wp2_with(go_at_call 23;refine HN.out.mono ?_;rintro e w5 ⟨X,F,rfl,q1,q2⟩;have HQ:=a_ (HP.out X F w5 q1 q2);clear q1 q2 HN HP);exact aV (v:=.tuple #[.pointer (some ⟨w5.heap.size,0,none⟩),.int .i64 0,.int .i64 0,.int .i64 0]) (by simp[results,results10,go_sem]) rfl ⟨_,X,F,rfl,HQ.out⟩
end
end Go.Proofs.YtjecakcpcnmieaaGreatDoor
