import Derived.Test.YtjecakcpcnmieaaGreatDoorHA
import Derived.Test.YtjecakcpcnmieaaGreatDoorHbc
set_option linter.unusedVariables false
set_option linter.unusedSimpArgs false
set_option maxHeartbeats 32000000
set_option maxRecDepth 100000
namespace Go.Proofs.YtjecakcpcnmieaaGreatDoor
open Go.RowKit Go.Maps Go.Lib Tryz
section
variable{w w' w1 W:World}{ov v:Value}{b:gZ}{F:Nat->Prop}{X lo P sk:Nat}{S:List jo}{l:List El}{cl tk news:List Value}{n td B:Nat}{kd at_:Int}{nm tx:ByteArray}{ai:Option Addr}{an ac:Nat}
theorem PG.adf{v7:Value}{w7:World}{m:Nat}(h:PG P X lo F b S ov cl n td sk w)(ho:w7.ownsRow 0 150 8 v7 m news)(hg:w.grownBy w7 ov.ownBlock)(hat:v7.ownBlock=ov.ownBlock\/v7.ownBlock=some w.heap.size):(∃u,w7.cell? ⟨P,1,none⟩=some u)/\w7.frozen? ⟨P,1,none⟩=false/\PG P X lo F b S v7 news m td sk (w7.setCell ⟨P,1,none⟩ v7)/\kR P F ov w F v7 (w7.setCell ⟨P,1,none⟩ v7):=by
 have hb:w7.heap[P]?=_:=(hg.block P (eO h.blk) fun e=>h.neP e.symm).trans h.blk;exact⟨⟨_,cell_of hb rfl⟩,eP hb,h.app ho hg hat⟩
theorem adg{H T:Option Addr->Nat->Nat->World->Prop}{G:Prop}(h:(∀a n c W,H a n c W->T a n c W)->G)(t:∀a n c W,H a n c W->T a n c W):G:=h t
theorem Iu(name:L)(h:PM P X lo F b S ov l 0 w)(hS:S.length<=1000000000)(hl:l.length<=100000000)(Mr:((fL b (qY b l) name).nd||(fL b (qY b l) name).wh||l.isEmpty)=true):Z4 31 #[Z8 P,uM kd (bs name) ai an ac tx at_] w fun e w'=>∃st,PA P X lo F b S ov (xr l++[(st,fL b (qY b l) name,false)]) 0 (some (wy kd (bs name) (.slice ai an ac) tx at_)) w e w':=by
 obtain⟨W1,hW1⟩:∃W1,w.alloc (.cells #[.int .i64 kd,.string (bs name),.slice ai an ac,.string tx,.int .i64 at_] 56)=W1:=⟨_,rfl⟩
 have h1:=h.below ((Below.refl _ w).alloc (ah _) (.cells #[.int .i64 kd,.string (bs name),.slice ai an ac,.string tx,.int .i64 at_] 56));rw[hW1]at h1;obtain⟨oa,oc,rfl⟩:=eE h.row;obtain⟨c0,c1,c2,c3,cf⟩:=h1.cs;have fj:∀j u,[Value.int .i64 kd,.string (bs name),.slice ai an ac,.string tx,.int .i64 at_][j]?=some u->W1.drew.cell? ⟨w.heap.size,j,none⟩=some u:=fun j u hu=>by
  have:=mN [.int .i64 kd,.string (bs name),.slice ai an ac,.string tx,.int .i64 at_] 56 w j u hu;rw[Addr.add_mid,ay,hW1]at this;exact this
 have y1:W1.cell? ⟨w.heap.size,1,none⟩=some (.string (bs name)):=fj 1 _ rfl;have y1d:W1.drew.cell? ⟨w.heap.size,1,none⟩=some (.string (bs name)):=y1;have c0d:W1.drew.cell? ⟨P,0,none⟩=some (Z8 X):=c0;have HST:=a_ (wj (h1.below (Below.refl _ W1).drew) (by omega) (by omega));have HZ:Hid (∀F5 w5,kR P F (.slice oa l.length oc) W1.drew F5 (.slice oa l.length oc) w5->w5.cell? ⟨w.heap.size,1,none⟩=some (.string (bs name))):=fun F5 w5 q=>qA q.fr (fun Lg=>cy _ (h.low Lg).2) y1d;have HB:Hid (∀F5 w5 j u,kR P F (.slice oa l.length oc) W1.drew F5 (.slice oa l.length oc) w5->[Value.int .i64 kd,.string (bs name),.slice ai an ac,.string tx,.int .i64 at_][j]?=some u->w5.cell? ⟨w.heap.size,j,none⟩=some u):=fun F5 w5 j u q hu=>qA q.fr (fun Lg=>cy _ (h.low Lg).2) (fj j u hu);obtain⟨s,hs⟩:∃s,fL b (qY b l) name=s:=⟨_,rfl⟩
 rw[hs]at Mr;have HE:Hid (∀st S6 F6 ov8 w7 w9 v,S6[st]?=some s->(∀x∈l,S6[x.1]?=some x.2.1)->kR P F (.slice oa l.length oc) W1.drew F6 ov8 w7->S6.length<=S.length+2->OI P X lo F6 b S6 ov8 (wk l.length (xp l)) (wy kd (bs name) (.slice ai an ac) tx at_) st l.length 0 w7 v w9->v≠ .slice none 0 0->PA P X lo F b S (.slice oa l.length oc) (xr l++[(st,s,false)]) 0 (some (wy kd (bs name) (.slice ai an ac) tx at_)) w (.returned v) w9):=fun st S6 F6 ov8 w7 w9 v q1 q2 q3 q4 q5 q6=>by
  obtain⟨r1,r2,r3⟩:=OI.done q1 q2 q5 q6;have hz:=q3.fr.size;rw[<-hW1]at q3 hz;refine PA.box _ ⟨v,S6,F6,_,rfl,?_,r2,((kR.gi (Below.refl _ _).drew).trans q3).trans r3,by omega⟩;obtain⟨g,cap,e1,e2,e3,e4⟩:=r1;exact⟨g,cap,e1,ar hz e2,e3,e4⟩
 rw[hs];obtain⟨j0,hj0,hz0,hz1,hz2⟩:=bk UA;clear h h1 fj;unfold uM;go_enter func31,ntmps31;go_wp2_with fail;apply abW (H:=fun _ k6 S6 F6 w6=>Hid (ON P X lo F b S (.slice oa l.length oc) l s W1.drew k6 S6 F6 w6))
 ·intro J;go_region_law (first
   |(go_simp;refine HST.out.mono ?_;rintro e w5 ⟨k5,S5,F5,rfl,Qd,q1,q2,q3⟩;have x0:=q1.cs.1;have z1:=HZ.out F5 w5 q2;have Qy:=a_ (q1.next Qd (by omega) name);have YR:=a_ q2;clear q1 q2 Qd)
   |(go_simp;refine Qy.out.mono ?_;rintro e w6 ⟨k6,S6,F6,rfl,Ll,p1,p2,p3⟩;have Bw:Hid (ON P X lo F b S (.slice oa l.length oc) l s W1.drew k6 S6 F6 w6):=⟨hs▸Ll,p1,YR.out.trans p2,by omega⟩;clear p1 p2 Qy YR))
  all_goals exact J k5 k6 S6 F6 w6 Bw
 intro k5 k6 S6 F6 w6 Bw;have Lh:=a_ (Bw.out.2.1.sp.keep Bw.out.1);obtain⟨d0,d1,d2,d3,df⟩:=Bw.out.2.1.cs;clear c0 c1 c2 c3 cf c0d y1 y1d HZ HST;have hc3:s.nd=true\/s.wh=true\/((l.length:Int)==0)=true:=by cases l<;>simp at Mr ⊢ <;>rcases Mr with q|q<;>simp[q]
 have hle:((l.length:Int)==0)=true\/((l.length:Int)==0)=false:=by cases ((l.length:Int)==0)<;>simp
 cases l9:s.nd<;>cases XK:s.wh<;>rcases hle with hle|hle
 all_goals first
 |(exfalso;simp[l9,XK,hle]at hc3;done)
 |skip
 all_goals
  rw[l9,XK]at Lh;clear hc3 Mr;go_wp2_with(first
   |(go_at_call 58;refine Lh.out.mono ?_;rintro e w7 ⟨rfl,m7,rfl⟩))
  have YS:=a_ (Bw.out.2.1.drewN m7);have Vf:=a_ (Bw.out.2.2.1.trans (kR.drewN m7));have HS6:=a_ (show S6[k6]?=some s/\S6.length<=S.length+2 from⟨Bw.out.1,Bw.out.2.2.2⟩);clear d0 d1 d2 d3 df Lh Bw l9 XK hle;generalize w6.drewN m7=w7 at*
  obtain⟨-,d1,-⟩:=YS.out.cs;have y0:=HB.out F6 w7 0 _ Vf.out rfl;have y1:=HB.out F6 w7 1 _ Vf.out rfl;have y2:=HB.out F6 w7 2 _ Vf.out rfl;have y3:=HB.out F6 w7 3 _ Vf.out rfl;have y4:=HB.out F6 w7 4 _ Vf.out rfl;have d1a:∀o,(w7.alloc o).cell? ⟨P,1,none⟩=some (.slice oa l.length oc):=fun o=>eF o d1;have HO:=a_ (fun o=>YS.out.toPG.below ((Below.refl w7.heap.size w7).drew.alloc (ah _) o));have HG:=a_ (fun o=>Vf.out.trans (kR.gi ((Below.refl w7.heap.size w7).drew.alloc (ah _) o)));have HN:=a_ (mN (Lf k6 (wy kd (bs name) (.slice ai an ac) tx at_)) 150 w7.drew);apply adg (H:=fun a n c W=>Hid (PG P X lo F6 b S6 (.slice a n c) (xp l++Lf k6 (wy kd (bs name) (.slice ai an ac) tx at_)) (l.length+1) l.length 0 W/\kR P F (.slice oa l.length oc) W1.drew F6 (.slice a n c) W))
  ·intro J;go_region_law (first
    |(refine fJ rfl (.tmp 74) (.tmp 78) 83 rfl 150 j0 _ 8 96 underlying83 hj0 hz0 hz1 hz2 rfl (by decide) (.slice oa l.length oc) l.length (xp l) (by simp[Act.eval,Act.put]) (HO.out _).row ⟨w7.heap.size,0,none⟩ 1 1 (Lf k6 (wy kd (bs name) (.slice ai an ac) tx at_)) (by simp[Act.eval,Act.put]) rfl HN.out (by simp[Lf,wy,Value.oneCell']) (by unfold maxLen;omega) (by omega) ?_;intro v8 w8 ho8 hg8 abX;obtain⟨a8,n8,c8,rfl⟩:=ft ho8;obtain⟨⟨u8,x8⟩,f8,r8,s8⟩:=(HO.out _).adf ho8 hg8 abX;have HE8:=a_ (show _/\_ from⟨r8,(HG.out _).trans s8⟩);clear ho8 hg8 abX r8 s8))
   all_goals
    generalize w8.setCell ⟨P,1,none⟩ (.slice a8 n8 c8)=W8 at*
    exact J a8 n8 c8 W8 HE8
  clear y0 y1 y2 y3 y4 d1 d1a HO HG HN HB Vf;intro a8 n8 c8 W8 H8;have HO1:=a_ (Uz (nT l) H8.out.1 (by omega));go_wp2_with(go_at_call 61;refine HO1.out.mono ?_;rintro e w9 ⟨v9,rfl,r9,n9⟩;have HF:=a_ (HE.out k6 S6 F6 _ W8 w9 v9 HS6.out.1 YS.out.num H8.out.2 HS6.out.2 r9 n9);clear r9 n9 HO1 H8 YS HE);go_ret;exact⟨k6,HF.out⟩
end
end Go.Proofs.YtjecakcpcnmieaaGreatDoor
