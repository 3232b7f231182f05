import Derived.Test.YtjecakcpcnmieaaGreatDoorHA
import Derived.Lib.AppendStr
import Derived.Lib.RuneBytes
import Derived.Test.YtjecakcpcnmieaaGreatDoorHag
import Derived.Test.YtjecakcpcnmieaaGreatDoorHac
import Derived.Test.YtjecakcpcnmieaaGreatDoorHaf
import Derived.Test.YtjecakcpcnmieaaGreatDoorHad
set_option linter.unusedVariables false
set_option linter.unusedSimpArgs false
set_option maxHeartbeats 32000000
set_option maxRecDepth 100000
namespace Go.Proofs.YtjecakcpcnmieaaGreatDoor
open Go.RowKit Go.Maps Go.Lib Tryz
section
variable{w w' W W':World}{v:Value}{o:L}
theorem ko{w:World}{v:Value}{l:List UInt8}{B:Nat}(h:w.ownsRow B 5 1 v l.length (Lib.byteCells l)):(convert 49 9 v).run prog w=.ok (.string (bs l)) w:=by
 rcases h.2 with⟨rfl,hn⟩|⟨g,cap,cur,rfl,_,hg,hc,_,hcs,ht⟩
 ·obtain rfl:l=[]:=aR hn;exact run_convert_bytes_nil w 49 5 underlying49 underlying5 0 0 9 underlying9
 ·have hx:strOfNums (l.map fun b=>(b.toNat:Int))=⟨l.toArray⟩:=by
   unfold strOfNums;congr 2;rw[dw]
   conv=>rhs;rw[<-List.map_id l]
   apply cU;intro b _;simp
  have:=dV (P:=prog) w 49 5 underlying49 underlying5 g 0 l.length cap (l.map fun b=>(b.toNat:Int)) (by simp) ?_ 9 underlying9
  ·rw[this,hx];rfl
  ·intro i hi;rw[ay,cell_of hg (v:=.int .u8 ((l.map fun b=>(b.toNat:Int)).getD i 0)) ?_];rw[<-Array.getElem?_toList];have h1:(cur.toList.take (l.length*1))[i]?=cur.toList[i]?:=by rw[bT,if_pos (by omega)]
   rw[<-h1,ht];simp[Lib.byteCells,hi]
structure KB(w W:World)(v:Value)(o:L):Prop where
 row:W.ownsRow w.heap.size 5 1 v o.length (Lib.byteCells o)
 below:Z5 w W
theorem KB.put{s:ByteArray}{v':Value}(h:KB w W v o)(ho:W'.ownsRow w.heap.size 5 1 v' (o.length+s.size) (Lib.byteCells o++Lib.strCells s))(hg:W.grownBy W' v.ownBlock):KB w W' v' (o++s.data.toList):=by
 refine⟨?_,h.below.grown hg h.below.size fun k e=>(h.row.lt k e).1⟩;have e1:Lib.byteCells (o++s.data.toList)=Lib.byteCells o++Lib.strCells s:=by simp[Lib.byteCells,Lib.strCells]
 have e2:(o++s.data.toList).length=o.length+s.size:=by simp
 rw[e1,e2];exact ho
theorem KB.on(h:KB w W v o)(hb:Z5 W W'):KB w W' v o:=by
 refine⟨?_,h.below.trans (fE hb h.below.size)⟩;have hr:=h.row;refine⟨hr.1,?_⟩;rcases hr.2 with h'|⟨g,cap,cur,h1,h2,h3,h4⟩
 ·exact Or.inl h'
 ·exact Or.inr ⟨g,cap,cur,h1,h2,(hb.block _ (eO h3)).trans h3,h4⟩
theorem Nb(c:Bool)(h:KB w W v o)(hl:o.length<=100000000000000):Z4 204 #[v,.bool c] W fun e w'=>∃va vn vc,e=.returned (.slice va vn vc)/\KB w w' (.slice va vn vc) (o++boolT c):=by
 obtain⟨i0,hi,hz0,hz1,hz2⟩:=bk XZ;obtain⟨va,vn,vc,rfl⟩:=ft h.row;have H:=a_ h;have hbs:=h.below.size;clear h;cases c with
 |true=>
  go_enter func204,ntmps204;go_wp2_with(at_builtin;refine Lib.wpList_append_own_string (w:=_) rfl _ _ 49 9 rfl w.heap.size 5 i0 underlying49 underlying9 hi hz0 hz1 hz2 _ _ _ rfl H.out.row ⟨#[116,114,117,101]⟩ rfl ?c3 ?c4 ?c5 ?_)
  case c3=>show _+4<=_;unfold maxLen;omega
  case c4=>show _+4<=_;omega
  case c5=>exact hbs
  intro v' w2 ho hg _;have hk:=H.out.put ho hg;obtain⟨a2,n2,c2,rfl⟩:=ft ho;have HK:=a_ hk;clear ho hg hk H;go_wp2;go_ret;exact⟨a2,n2,c2,rfl,HK.out⟩
 |false=>
  go_enter func204,ntmps204;go_wp2_with(at_builtin;refine Lib.wpList_append_own_string (w:=_) rfl _ _ 49 9 rfl w.heap.size 5 i0 underlying49 underlying9 hi hz0 hz1 hz2 _ _ _ rfl H.out.row ⟨#[102,97,108,115,101]⟩ rfl ?c3 ?c4 ?c5 ?_)
  case c3=>show _+5<=_;unfold maxLen;omega
  case c4=>show _+5<=_;omega
  case c5=>exact hbs
  intro v' w2 ho hg _;have hk:=H.out.put ho hg;obtain⟨a2,n2,c2,rfl⟩:=ft ho;have HK:=a_ hk;clear ho hg hk H;go_wp2;go_ret;exact⟨a2,n2,c2,rfl,HK.out⟩
theorem VR(c:Bool)(h:KB w W v o)(hl:o.length<=100000000000000):Z4 177 #[v,.bool c] W fun e w'=>∃va vn vc,e=.returned (.slice va vn vc)/\KB w w' (.slice va vn vc) (o++boolT c):=by
 have HB:=a_ (Nb c h hl);obtain⟨va,vn,vc,rfl⟩:=ft h.row;clear h hl;go_enter func177,ntmps177;go_wp2_with(go_at_call 204;refine HB.out.mono ?_;rintro e w5 ⟨a2,n2,c2,rfl,h5⟩;have H5:=a_ h5;clear HB h5);go_ret;exact⟨a2,n2,c2,rfl,H5.out⟩
end
section
variable{w w' W W' wb:World}{v:Value}{o:L}{l:List Nat}
abbrev EW (w : World) : Prop := Lib.TabIs Tryz.prog w "internal/strconv.uint64pow10" .u64 Lib.pow10Tab
def dec(k:Nat):L:=Lib.decDigits k
theorem KB.blank{v':Value}(h:KB wb W v o)(ho:W'.ownsRow wb.heap.size 5 1 v' (o.length+1) (Lib.byteCells o++[.int .u8 32]))(hg:(W.alloc (.cells #[.int .u8 32] 5)).grownBy W' v.ownBlock):KB wb W' v' (o++[32]):=by
 have hb:Z5 wb (W.alloc (.cells #[.int .u8 32] 5)):=h.below.alloc h.below.size _;refine⟨?_,hb.grown hg hb.size fun k e=>(h.row.lt k e).1⟩;have e1:Lib.byteCells (o++[32])=Lib.byteCells o++[.int .u8 32]:=by simp[Lib.byteCells]
 rw[e1,ae,bn];exact ho
theorem KB.int(h:KB wb W v o)(k:Nat)(hk:k<=2300000000000)(hl:o.length<=100000000000000)(hT:EW wb):Z4 178 #[v,.int .i64 ((k:Nat):Int),.int .i64 10] W fun e w'=>∃va vn vc,e=.returned (.slice va vn vc)/\KB wb w' (.slice va vn vc) (o++dec k):=by
 refine(strconv_AppendInt_10 wb.heap.size o.length (k:Int) (by omega) (by omega) v (Lib.byteCells o) W h.row h.below.size (by omega) ((Lib.tabBelow_of_tabIs hT).on h.below)).mono ?_;rintro e w' ⟨v',h1,h2,h3,_⟩;obtain⟨va,vn,vc,rfl⟩:=ft h2;rw[Lib.itoa_nonneg]at h2;refine⟨va,vn,vc,h1,?_,h.below.trans h3⟩;have e1:Lib.byteCells (o++dec k)=Lib.byteCells o++Lib.byteCells (Lib.decDigits k):=by unfold Lib.byteCells dec;rw[bp]
 rw[e1,ae];exact h2
theorem Rf:∀(n k:Nat),k<10^(n+1)->(dec k).length<=n+1
 |0,k,h=>by unfold dec;rw[Lib.decDigits,dif_pos (by simpa using h)];simp
 |n+1,k,h=>by
  unfold dec;rw[Lib.decDigits];split
  ·simp
  ·rw[ae,bn];have:=Rf n (k/10) (Nat.div_lt_of_lt_mul (by rw[Nat.pow_succ]at h;omega));unfold dec at this;omega
theorem VT(k:Nat)(hk:k<=2300000000000):(dec k).length<=21:=by
 have:=Rf 19 k (by omega);omega
theorem Nc{i:Nat}(hi:i<l.length):lH dec (l.take (i+1))=(lH dec (l.take i)++[32])++dec l[i]:=by
 rw[aN hi];unfold lH;rw[bY,bV,cx,aO,aM];rfl
theorem FI(h:∀k∈l,k<=2300000000000):(lH dec l).length<=l.length*22:=by
 induction l with
 |nil=>simp[lH]
 |cons k l ih=>
  have e:lH dec (k::l)=32::(dec k++lH dec l):=by simp[lH]
  have h1:=VT k (h k (bJ ..));have h2:=ih fun x hx=>h x (bO _ hx);rw[e,ag,ae,ag];omega
def iU(p q r:Bool)(i:Nat):L:=([p,q,r].take i).flatMap boolT
theorem zr(p q r:Bool)(i:Nat):(iU p q r i).length<=15:=by
 have h1:∀c,(boolT c).length<=5:=fun c=>by cases c<;>simp[boolT]
 have e:∀l:List Bool,(l.flatMap boolT).length<=l.length*5:=fun l=>by
  induction l with
  |nil=>simp
  |cons c l ih=>rw[bV,ae,ag];have:=h1 c;omega
 have:=e ([p,q,r].take i);have h3:([p,q,r].take i).length<=3:=by simp;omega
 unfold iU;omega
theorem Zn{fa:Option Addr}{fn fc:Nat}(p q r:Bool)(hd:w.ownsRow 0 3 1 (.slice fa fn fc) l.length (mX l))(hl:l.length<=2300000000000)(hk:∀k∈l,k<=2300000000000)(hT:EW w):Z4 132 #[.agg (aT fa fn fc p q r)] w (Z7 (.string (bs (jv dec ⟨l,p,q,r⟩))) w):=by
 have hfn:fn=l.length:=by
  rcases hd.2 with⟨h',h0⟩|⟨g,c,cur,h',_⟩
  ·cases h';exact h0.symm
  ·cases h';rfl
 obtain⟨i0,x_,hz0,hz1,hz2⟩:=bk XZ;have hb1:=(Below.refl w.heap.size w).alloc (ah _) (.cells (aT fa fn fc p q r) 193);have VQ:=eL w (.cells (aT fa fn fc p q r) 193);have c0:(w.alloc (.cells (aT fa fn fc p q r) 193)).cell? ⟨w.heap.size,1,none⟩=some (.bool p):=cell_of VQ rfl;have c1:(w.alloc (.cells (aT fa fn fc p q r) 193)).cell? ⟨w.heap.size,2,none⟩=some (.bool q):=cell_of VQ rfl;have c2:(w.alloc (.cells (aT fa fn fc p q r) 193)).cell? ⟨w.heap.size,3,none⟩=some (.bool r):=cell_of VQ rfl;obtain⟨wb,U7⟩:∃wb,(w.alloc (.cells (aT fa fn fc p q r) 193)).alloc (.cells #[.bool p,.bool q,.bool r] 4)=wb:=⟨_,rfl⟩
 have hb2:Z5 w wb:=by rw[<-U7];exact hb1.alloc hb1.size _
 have hBx:wb.heap[w.heap.size]?=some (.cells (aT fa fn fc p q r) 193 (0,0)):=by rw[<-U7,ap _ _ _ (by simp)];exact VQ
 have hBy:wb.heap[w.heap.size+1]?=some (.cells #[.bool p,.bool q,.bool r] 4 (0,0)):=by
  have hh:=eL (w.alloc (.cells (aT fa fn fc p q r) 193)) (.cells #[.bool p,.bool q,.bool r] 4);rw[bI]at hh;rw[<-U7];exact hh
 have hTb:EW wb:=((Lib.tabBelow_of_tabIs hT).on hb2).here;have M0:Hid (KB wb wb (.slice none 0 0) (iU p q r 0)):=a_ ⟨bG _ _ _ _,Below.refl _ _⟩;have H1:Hid (∀W i v,i<3->KB wb W v (iU p q r i)->∃c,W.cell? ⟨w.heap.size+1,i,none⟩=some (.bool c)/\Hid (Z4 177 #[v,.bool c] W fun e w'=>∃va vn vc,e=.returned (.slice va vn vc)/\Hid (KB wb w' (.slice va vn vc) (iU p q r (i+1))))):=fun W i v hi h=>by
  have ads:=zr p q r i;have hby:=(h.below.block _ (eO hBy)).trans hBy;have main:∀c,iU p q r (i+1)=iU p q r i++boolT c->Z4 177 #[v,.bool c] W fun e w'=>∃va vn vc,e=.returned (.slice va vn vc)/\Hid (KB wb w' (.slice va vn vc) (iU p q r (i+1))):=fun c e=>by
   rw[e];exact(VR c h (by omega)).mono fun e w' ⟨va,vn,vc,h1,h2⟩=>⟨va,vn,vc,h1,a_ h2⟩
  have AU:i=0\/i=1\/i=2:=by omega
  rcases AU with rfl|rfl|rfl
  ·exact⟨p,cell_of hby rfl,a_ (main p (by simp[iU]))⟩
  ·exact⟨q,cell_of hby rfl,a_ (main q (by simp[iU]))⟩
  ·exact⟨r,cell_of hby rfl,a_ (main r (by simp[iU]))⟩
 have HX:Hid (∀W v o,KB wb W v o->W.cell? ⟨w.heap.size,0,none⟩=some (.slice fa fn fc)/\∃a n c,v=.slice a n c):=fun W v o h=>⟨cell_of ((h.below.block _ (eO hBx)).trans hBx) rfl,ft h.row⟩
 have HS:Hid (∀W v o,KB wb W v o->∃a n c,v=.slice a n c):=fun W v o h=>ft h.row;have H2:Hid (∀W j v,j<fn->KB wb W v (iU p q r 3++lH dec (l.take j))->∃g k,fa=some ⟨g,0,none⟩/\W.cell? ⟨g,j,none⟩=some (.int .i64 ((k:Nat):Int))/\(∃N zc,N<=100000000000000/\(W.alloc (.cells #[.int .u8 32] 5)).ownsRow wb.heap.size 5 1 v N zc/\wb.heap.size<=(W.alloc (.cells #[.int .u8 32] 5)).heap.size/\Hid (∀v' W',W'.ownsRow wb.heap.size 5 1 v' (N+1) (zc++[.int .u8 32])->(W.alloc (.cells #[.int .u8 32] 5)).grownBy W' v.ownBlock->Z4 178 #[v',.int .i64 ((k:Nat):Int),.int .i64 10] W' fun e w'=>∃va vn vc,e=.returned (.slice va vn vc)/\Hid (KB wb w' (.slice va vn vc) (iU p q r 3++lH dec (l.take (j+1))))))):=fun W j v hj h=>by
  rw[hfn]at hj;have hlj:l[j]?=some l[j]:=aw hj;have hkj:=hk _ (bU hj);have h15:=zr p q r 3;have h22:=FI (l:=l.take j) fun x hx=>hk x (dB hx);have hlt:(l.take j).length<=l.length:=by simp;omega
  have hOl:(iU p q r 3++lH dec (l.take j)).length<=60000000000000:=by rw[ae];omega
  have hW:Z5 w W:=hb2.trans (fE h.below hb2.size);rcases hd.2 with⟨h',h0⟩|⟨g,c',cur,h',EV,M4,_⟩
  ·omega
  ·cases h';refine⟨g,l[j],rfl,?_,(iU p q r 3++lH dec (l.take j)).length,Lib.byteCells (iU p q r 3++lH dec (l.take j)),?_,?_,?_,a_ fun v' W' ho hg=>?_⟩
   rotate_left
   ·omega
   ·exact(h.on ((Below.refl _ W).alloc (ah _) _)).row
   ·have:=h.below.size;simp;omega
   ·have hkb:=h.blank ho hg;rw[Nc hj,<-aM,<-aM];exact(hkb.int l[j] hkj (by rw[ae,bn];omega) hTb).mono fun e w' ⟨va,vn,vc,h1,h2⟩=>⟨va,vn,vc,h1,a_ h2⟩
   ·rw[aj (hW.block g (eO M4)),hd.cellAt j (by omega)];unfold mX;rw[aX,hlj];rfl
 have HE:Hid (∀W v,KB wb W v (iU p q r 3++lH dec (l.take fn))->(convert 49 9 v).run prog W=.ok (.string (bs (jv dec ⟨l,p,q,r⟩))) W/\Z5 w W):=fun W v h=>by
  have e:jv dec ⟨l,p,q,r⟩=iU p q r 3++lH dec (l.take fn):=by
   rw[hfn,bt];simp[jv,iU]
  rw[e];exact⟨ko h.row,hb2.trans (fE h.below hb2.size)⟩
 have hlf:fn<=2300000000000:=by omega
 have M1:Hid (∀W v,KB wb W v (iU p q r 3)->KB wb W v (iU p q r 3++lH dec (l.take 0))):=fun W v h=>by rw[dJ,show lH dec []=[]from rfl,aO];exact h
 clear hd hl hk hT hTb hfn hb1 VQ hb2 hBx hBy;obtain⟨R1,hR1⟩:∃R1:Nat->Value->World->Prop,∀i v W,R1 i v W=KB wb W v (iU p q r i):=⟨_,fun _ _ _=>rfl⟩
 obtain⟨R2,Nf⟩:∃R2:Nat->Value->World->Prop,∀j v W,R2 j v W=KB wb W v (iU p q r 3++lH dec (l.take j)):=⟨_,fun _ _ _=>rfl⟩
 have HX3:Hid (∀W v,R1 3 v W->W.cell? ⟨w.heap.size,0,none⟩=some (.slice fa fn fc)):=fun W v h=>(HX.out W v _ (by rw[<-hR1];exact h)).1;have HS1:Hid (∀i W v,R1 i v W->∃a n c,v=.slice a n c):=fun i W v h=>HS.out W v _ (by rw[<-hR1];exact h);have Ng:Hid (∀i W v,R2 i v W->∃a n c,v=.slice a n c):=fun i W v h=>HS.out W v _ (by rw[<-Nf];exact h);simp only[<-hR1,<-Nf]at M0 H1 H2 HE M1;clear hR1 Nf HX HS;generalize jv dec ⟨l,p,q,r⟩=KEY at*
 have HWB:=a_ U7;clear U7;go_enter func132,ntmps132;go_wp2_with fail;rw[HWB.out];clear c0 c1 c2;go_loopw [3,5,16,17,18,19,20,21,22,23] (fun u3 _ u16 _ _ _ _ _ _ _ wr=>∃i:Nat,u16=.int .i64 i/\i<=3/\Hid (R1 i u3 wr)) (fun _ _ u16 _ _ _ _ _ _ _ _=>3-(RowKit.intOf u16).toNat)
 case atStart=>exact⟨0,rfl,by omega,M0⟩
 case round=>
  rename World=>WO
  obtain⟨i,rfl,hi,HM⟩:=hrel;obtain⟨a3,n3,c3,rfl⟩:=HS1.out _ _ _ HM.out;by_cases hlt:i<3
  ·obtain⟨c,a0,HC⟩:=H1.out _ i _ hlt HM.out;have hdec:decide ((i:Int)<3)=true:=by simp;omega
   have LK:(i:Int)<3:=by omega
   clear H1 H2 HE HM M0 M1 HX3 HS1 Ng;go_wp2_with(go_at_call 177;refine HC.out.mono ?_;rintro e w5 ⟨a5,n5,c5,rfl,h5⟩;clear HC);exact⟨⟨i+1,by simp,by omega,h5⟩,by simp only[RowKit.intOf];omega⟩
  ·have hdec:decide ((i:Int)<3)=false:=by simp;omega
   have hi3:i=3:=by omega
   have HM3:=HM.out;rw[hi3]at HM3;have d0:=HX3.out _ _ HM3;have HM1:=a_ (M1.out _ _ HM3);clear HM3 hi3;clear H1 HM M0 M1 HX3 HS1;go_wp2_with fail;clear d0;go_loopw [3,7,27,28,29,30,31,32,33,34,35,36] (fun u3 _ Zc _ _ _ _ _ _ _ _ _ wr=>∃j:Nat,Zc=.int .i64 j/\j<=fn/\Hid (R2 j u3 wr)) (fun _ _ Zc _ _ _ _ _ _ _ _ _ _=>fn-(RowKit.intOf Zc).toNat)
   case atStart=>exact⟨0,rfl,ax _,HM1⟩
   case round=>
    rename World=>WP
    obtain⟨j,rfl,hj,HJ⟩:=hrel;obtain⟨b3,m3,e3,rfl⟩:=Ng.out _ _ _ HJ.out;by_cases hlj:j<fn
    ·obtain⟨g,k,rfl,a0,N,zc,hN,hown,hsz,HC⟩:=H2.out _ j _ hlj HJ.out;have hdj:decide ((j:Int)<fn)=true:=by simp;omega
     have hjj:(j:Int)<fn:=by omega
     have HO:=a_ hown;have HZ:=a_ hsz;clear H2 HE HJ HM1 Ng hown hsz;go_wp2_with(first
      |(at_builtin;refine bj (w:=_) rfl _ _ 49 rfl wb.heap.size 5 i0 _ 1 1 underlying49 x_ hz0 hz1 hz2 rfl (by decide) _ _ _ rfl HO.out ⟨WP.heap.size,0,none⟩ 1 1 [.int .u8 32] rfl rfl (cell_one_new _ _ _) (by simp[Value.oneCell']) (by unfold maxLen;omega) (by omega) HZ.out ?_;intro v7 w7 tE xA _ oQ;have HC7:=a_ (HC.out _ _ tE xA);obtain⟨a7,n7,c7,rfl⟩:=ft tE;clear HC tE xA oQ HO HZ)
      |(go_at_call 178;refine HC7.out.mono ?_;rintro e w8 ⟨a8,n8,c8,rfl,h8⟩;clear HC7))
     exact⟨⟨j+1,by simp,by omega,h8⟩,by simp only[RowKit.intOf];omega⟩
    ·have hdj:decide ((j:Int)<fn)=false:=by simp;omega
     obtain rfl:j=fn:=by omega
     obtain⟨hcv,lJ⟩:=HE.out _ _ HJ.out;have HBW:=a_ lJ;clear H2 HE HJ HM1 Ng lJ;go_wp2;go_ret;exact⟨rfl,HBW.out⟩
end
section
variable{w w' W W' w0 w1 w3:World}{v vs:Value}{xs:List (Br×Nat)}{b:gZ}{F:Nat->Prop}{X lo:Nat}{S:List jo}{ys:List (jo×Value)}
def VU(l:L):Nat:=l.foldl (fun a d=>a*10+(d.toNat-48)) 0
theorem digit(k:Nat)(h:k<10):(UInt8.ofNat (48+k)).toNat=48+k:=by
 rw[UInt8.toNat_ofNat'];omega
theorem LS(k:Nat):VU (dec k)=k:=by
 induction k using Nat.strongRecOn with
 |ind k ih=>
  unfold dec;rw[Lib.decDigits];split
  ·next h=>simp only[VU,cm,dK];rw[digit k h];omega
  ·next h=>
   have h1:=ih (k/10) (by omega);unfold dec VU at h1;unfold VU;rw[dr,cm,dK,h1,digit (k%10) (by omega)];omega
theorem VW(a c:Nat)(h:dec a=dec c):a=c:=by rw[<-LS a,h,LS]
theorem Zo(k:Nat):∀d∈dec k,d≠32:=by
 induction k using Nat.strongRecOn with
 |ind k ih=>
  intro d hd e;have key:∀j,j<10->UInt8.ofNat (48+j)≠32:=fun j hj e=>by
   have:=aC UInt8.toNat e;rw[digit j hj]at this;simp at this;omega
  unfold dec at hd;rw[Lib.decDigits]at hd;split at hd
  ·next h=>rw[bc]at hd;exact key k h (hd▸e)
  ·next h=>
   rcases List.mem_append.1 hd with hd|hd
   ·exact ih (k/10) (by omega) d hd e
   ·rw[bc]at hd;exact key (k%10) (by omega) (hd▸e)
theorem VX{s s':jo}(h:jv dec s=jv dec s'):s=s':=Qr VW Zo h
def jf:Nat->List jo->List (Lit×Nat)
 |_,[]=>[]
 |i,s::l=>(.string (jv dec s),i)::jf (i+1) l
def ox(S:List jo):List (Lit×Nat):=jf 0 S
theorem vq:∀(S:List jo) (i:Nat) (x:jo),jf i (S++[x])=jf i S++[(.string (jv dec x),i+S.length)]
 |[],i,x=>by simp[jf]
 |s::S,i,x=>by
  simp only[aI,jf,vq S (i+1) x,ag];congr 4;omega
theorem Nh(S:List jo)(x:jo):ox (S++[x])=ox S++[(.string (jv dec x),S.length)]:=by
 unfold ox;rw[vq,ay]
theorem vr:∀(S:List jo) (i:Nat) (x:jo),(∀n,qZ (jf i S) (.string (jv dec x))=some n->i<=n/\S[n-i]?=some x)/\(qZ (jf i S) (.string (jv dec x))=none->x∉S)
 |[],i,x=>⟨fun n h=>by simp[jf,qZ]at h,fun _ h=>by simp at h⟩
 |s::S,i,x=>by
  obtain⟨h1,h2⟩:=vr S (i+1) x;have e:qZ (jf i (s::S)) (.string (jv dec x))=if(jv dec s==jv dec x)=true then some i else qZ (jf (i+1) S) (.string (jv dec x)):=by
   simp only[jf];unfold qZ;rw[cZ];show (match (jv dec s==jv dec x)with|true=>_|false=>_:Option (Lit×Nat)).map _=_;cases jv dec s==jv dec x<;>rfl
  rw[e];by_cases hk:jv dec s=jv dec x
  ·have hb:(jv dec s==jv dec x)=true:=by simpa using hk
   rw[if_pos hb];have:=VX hk;subst this;exact⟨fun n h=>by cases h;exact⟨ah _,by simp⟩,fun h=>by cases h⟩
  ·have hb:¬((jv dec s==jv dec x)=true):=by simpa using hk
   rw[if_neg hb];refine⟨fun n h=>?_,fun h hm=>?_⟩
   ·obtain⟨q1,q2⟩:=h1 n h;refine⟨by omega,?_⟩;rw[show n-i=(n-(i+1))+1 by omega,ck];exact q2
   ·rcases List.mem_cons.1 hm with rfl|hm
    ·exact hk rfl
    ·exact h2 h hm
theorem Ni(S:List jo):(ox S).length=S.length:=by
 have:∀(S:List jo) (i:Nat),(jf i S).length=S.length:=fun S=>by
  induction S with
  |nil=>intro i;rfl
  |cons s S ih=>intro i;simp only[jf,ag,ih]
 exact this S 0
def Rg(y:jo×Value):List Value:=[y.2,.bool y.1.nd,.bool y.1.wh,.bool y.1.tx]
def lQ(ys:List (jo×Value)):List Value:=ys.flatMap Rg
theorem zt:∀(ys:List (jo×Value)) (k:Nat) (y:jo×Value) (c:Nat) (u:Value),ys[k]?=some y->(Rg y)[c]?=some u->(lQ ys)[k*4+c]?=some u
 |[],k,x,c,u,h,_=>by simp at h
 |y::xs,0,x,c,u,h,hc=>by
  obtain rfl:y=x:=by simpa using h
  have hl:c<4:=by have:=(List.getElem?_eq_some_iff.1 hc).1;simpa [Rg]using this
  show (Rg y++lQ xs)[0*4+c]?=_;rw[aL (by simp[Rg];omega)];simpa using hc
 |y::xs,k+1,x,c,u,h,hc=>by
  have:=zt xs k x c u (by simpa using h) hc;show (Rg y++lQ xs)[(k+1)*4+c]?=_;rw[aQ (by simp[Rg];omega)];rw[<-this];congr 1;simp[Rg];omega
def Zp(b:gZ)(s:jo):Prop:=s.due.Pairwise (· < ·)/\∀k∈s.due,k<b.length
structure PlB(b:gZ):Prop where
 wf:A3 b
 up:MY b
 ks:KS b
 short:xz b
 few:∀y∈b,y.kids.length<=b.length
 len:b.length<=2300000000000
def Rh(X:Nat)(v vs:Value)(mn:Nat)(xs:List (Br×Nat))(ys:List (jo×Value))(k:Nat):Prop:=k=X\/Ds v xs k\/vs.ownBlock=some k\/k=mn\/∃y∈ys,y.2.ownBlock=some k
structure Ri(X:Nat)(w:World)(v vs:Value)(mn:Nat)(xs:List (Br×Nat))(ys:List (jo×Value)):Prop where
 box:w.heap[X]?=some (.cells #[v,vs,.map (some mn)] 120 (0,0))
 br:BR w v xs
 row:w.ownsRow 0 193 4 vs ys.length (lQ ys)
 due:∀y∈ys,w.ownsRow 0 3 1 y.2 y.1.due.length (mX y.1.due)
 map:j4 w 9 mn (ox (ys.map (·.1)))
 mnX:¬Ds v xs mn
structure wu(X lo:Nat)(F:Nat->Prop)(b:gZ)(S:List jo)(w:World):Prop where
 ex:∃v vs mn xs ys,Ri X w v vs mn xs ys/\xs.map (·.1)=b/\ys.map (·.1)=S/\∀k,F k↔Rh X v vs mn xs ys k
 low:∀k,F k->lo<=k
 pl:PlB b
 wfs:∀s∈S,Zp b s
theorem Ri.lt{mn:Nat}(h:Ri X w v vs mn xs ys){k:Nat}(hk:Rh X v vs mn xs ys k):k<w.heap.size:=by
 rcases hk with rfl|hk|hk|rfl|⟨y,hy,hk⟩
 ·exact eO h.box
 ·exact h.br.lt hk
 ·exact eU h.row hk
 ·exact h.map.lt
 ·exact eU (h.due y hy) hk
theorem Ri.of{mn:Nat}(h:Ri X w v vs mn xs ys)(hb:∀k,Rh X v vs mn xs ys k->w'.heap[k]?=w.heap[k]?):Ri X w' v vs mn xs ys:=
 ⟨(hb X (Or.inl rfl)).trans h.box,h.br.of fun k hk=>hb k (Or.inr (Or.inl hk)),eI h.row fun k e=>hb k (Or.inr (Or.inr (Or.inl e))),fun y hy=>eI (h.due y hy) fun k e=>hb k (Or.inr (Or.inr (Or.inr (Or.inr ⟨y,hy,e⟩)))),h.map.of (hb mn (Or.inr (Or.inr (Or.inr (Or.inl rfl))))),h.mnX⟩
theorem wu.below(h:wu X lo F b S w)(hb:Z5 w w'):wu X lo F b S w':=by
 obtain⟨v,vs,mn,xs,ys,m,e1,e2,e3⟩:=h.ex;exact⟨⟨v,vs,mn,xs,ys,m.of fun k hk=>hb.block k (m.lt hk),e1,e2,e3⟩,h.low,h.pl,h.wfs⟩
theorem wu.lt(h:wu X lo F b S w){k:Nat}(hk:F k):k<w.heap.size:=by
 obtain⟨v,vs,mn,xs,ys,m,e1,e2,e3⟩:=h.ex;exact m.lt ((e3 k).1 hk)
theorem wu.fr{G:Nat->Prop}(h:wu X lo F b S w)(hf:Fr G w w')(hd:∀k,F k->¬G k):wu X lo F b S w':=by
 obtain⟨v,vs,mn,xs,ys,m,e1,e2,e3⟩:=h.ex;exact⟨⟨v,vs,mn,xs,ys,m.of fun k hk=>hf.block k (m.lt hk) (hd k ((e3 k).2 hk)),e1,e2,e3⟩,h.low,h.pl,h.wfs⟩
end
section
variable{w w' W W' w0 w1 w3:World}{v vs:Value}{xs:List (Br×Nat)}{b:gZ}{F:Nat->Prop}{X lo:Nat}{S:List jo}{ys:List (jo×Value)}
theorem VY:(prog.info? 193).map (fun i=>(i.zero,i.size,i.bytes))=some (some (.agg #[.slice none 0 0,.bool false,.bool false,.bool false]),4,32):=by kernel_rfl
def LU(X lo:Nat)(F D:Nat->Prop)(b:gZ)(S':List jo)(w w':World):Prop:=∃F',wu X lo F' b S' w'/\Fr F w w'/\∀k,F' k->F k\/D k\/w.heap.size<=k
theorem Ri.put{mn:Nat}{x:jo}{da:Option Addr}{dn dc:Nat}{v':Value}(h:Ri X w0 v vs mn xs ys)(hd:w0.ownsRow 0 3 1 (.slice da dn dc) x.due.length (mX x.due))(hdm:(Value.slice da dn dc).ownBlock≠some mn)
  (hm:j4 w1 9 mn (ox (ys.map (·.1))++[(.string (jv dec x),ys.length)])) (Dt:w0.grownBy w1 (some mn)) (hr:w3.ownsRow 0 193 4 v' (ys.length+1) (lQ ys++Rg (x,.slice da dn dc))) (hg3:(w1.drew.alloc (.cells (Rg (x,.slice da dn dc)).toArray 193)).grownBy w3 vs.ownBlock):
  (w3.cell? ⟨X,1,none⟩=some vs/\w3.frozen? ⟨X,1,none⟩=false)/\Ri X (w3.setCell ⟨X,1,none⟩ v') v v' mn xs (ys++[(x,.slice da dn dc)]):=by
 obtain⟨es,clk,QM⟩:=h.map.isMap;have hXm:X≠mn:=fun e=>by have:=h.box;rw[e,QM]at this;cases this
 have MZ:=gP h.row h.box (by decide);have hvm:=p_ h.row QM;have up:∀k,k<w0.heap.size->k≠mn->vs.ownBlock≠some k->w3.heap[k]?=w0.heap[k]?:=fun k hk h1 h2=>by
  have lI:=ak hk Dt.size;rw[hg3.block k (by simp;omega) (fun e=>h2 e.symm),ap _ _ _ (by exact lI)];exact Dt.block k hk (fun e=>h1 (bF e))
 have x3:=(up X (eO h.box) hXm MZ).trans h.box;have acm:v'.ownBlock≠some X:=gP hr x3 (by decide);have su:∀k,k≠X->(w3.setCell ⟨X,1,none⟩ v').heap[k]?=w3.heap[k]?:=fun k hk=>af _ _ _ _ hk;have Rj:∀(d:Value) (n:Nat) (l:List Value),w0.ownsRow 0 3 1 d n l->d.ownBlock≠some mn->(w3.setCell ⟨X,1,none⟩ v').ownsRow 0 3 1 d n l:=fun d n l ho hne=>eI ho fun k e=>by
  obtain⟨cur,fz,hk⟩:=mh ho e;have hkX:k≠X:=fun e'=>by rw[e',h.box]at hk;cases hk
  rw[su k hkX];refine up k (eO hk) (fun e'=>hne (by rw[e,e'])) fun e'=>?_;obtain⟨cur',fz',U6⟩:=mh h.row e';rw[hk]at U6;cases U6
 refine⟨⟨cell_of x3 rfl,eP x3⟩,⟨by rw[eV x3];rfl,?_,?_,?_,?_,h.mnX⟩⟩
 ·refine h.br.of fun k hk=>?_;have qU:=h.br.lt hk;have hkX:k≠X:=fun e=>by
   rcases hk with e'|e'
   ·exact gP h.br.row h.box (by decide) (by rw[e',e])
   ·obtain⟨y,hy,e2⟩:=List.mem_map.1 e';obtain⟨es',aa6,hby⟩:=(h.br.map y hy).isMap;rw[e2,e,h.box]at hby;cases hby
  rw[su k hkX];refine up k qU (fun e=>h.mnX (e▸hk)) fun e=>?_;obtain⟨cur',fz',U6⟩:=mh h.row e;rcases hk with e'|e'
  ·obtain⟨cur,fz,hk2⟩:=mh h.br.row e';rw[U6]at hk2;cases hk2
  ·obtain⟨y,hy,e2⟩:=List.mem_map.1 e';obtain⟨es',aa6,hby⟩:=(h.br.map y hy).isMap;rw[e2,U6]at hby;cases hby
 ·have e:lQ (ys++[(x,.slice da dn dc)])=lQ ys++Rg (x,.slice da dn dc):=by unfold lQ;rw[bY,bV,cx,aO]
  rw[e,ae,bn];exact eI hr fun k e=>su k fun e'=>acm (by rw[e,e'])
 ·intro y hy;rcases List.mem_append.1 hy with hy|hy
  ·refine Rj _ _ _ (h.due y hy) fun e=>p_ (h.due y hy) QM e
  ·rw[bc]at hy;subst hy;exact Rj _ _ _ hd hdm
 ·rw[bp,bB,bZ,Nh,cC];refine hm.of ?_;have VG:=hm.lt;rw[su mn (fun e=>hXm e.symm),hg3.block mn (by simp;omega) (fun e=>hvm e.symm),ap _ _ _ (by exact VG)];rfl
end
section
variable{w w' W W' w0 w1 w3:World}{v vs:Value}{xs:List (Br×Nat)}{b:gZ}{F:Nat->Prop}{X lo:Nat}{S:List jo}{ys:List (jo×Value)}
theorem Zq(t:L)(h:t.length<=100000000000000):keyOf prog 9 (.string (bs t))=some (.string t):=by
 have e:(bs t).size=t.length:=iY t;have hm:(bs t).size<=maxLen:=by rw[e];unfold maxLen;omega
 simp[keyOf,mapKey,underlying9,hm];simp[bs]
theorem Rk{s:jo}(hl:s.due.length<=2300000000000)(hk:∀k∈s.due,k<=2300000000000):(jv dec s).length<=100000000000000:=by
 have h1:∀c,(boolT c).length<=5:=fun c=>by cases c<;>simp[boolT]
 have h2:=FI hk;have a1:=h1 s.nd;have a2:=h1 s.wh;have a3:=h1 s.tx;unfold jv;simp only[ae];omega
abbrev zu (lo : Nat) (w : World) : Prop := Lib.TabBelow Tryz.prog lo w "internal/strconv.uint64pow10" .u64 Lib.pow10Tab
theorem FJ:∀(l:List Nat) (a n:Nat),l.Pairwise (· < ·)->(∀k∈l,a<=k/\k<n)->l.length<=n-a
 |[],a,n,_,_=>by simp
 |k::l,a,n,h,hk=>by
  have h1:=hk k (bJ ..);have h2:=List.pairwise_cons.1 h;have h3:=FJ l (k+1) n h2.2 fun x hx=>⟨h2.1 x hx,(hk x (bO _ hx)).2⟩
  rw[ag];omega
theorem Zp.len{s:jo}(h:Zp b s):s.due.length<=b.length:=by
 have:=FJ s.due 0 b.length h.1 fun k hk=>⟨ax _,h.2 k hk⟩
 omega
abbrev C4s(W:World)(k:Nat)(da:Option Addr)(dn dc:Nat)(p q r:Bool):Prop:=W.cell? ⟨k,0,none⟩=some (.slice da dn dc)/\W.cell? ⟨k,1,none⟩=some (.bool p)/\W.cell? ⟨k,2,none⟩=some (.bool q)/\W.cell? ⟨k,3,none⟩=some (.bool r)
theorem Nj{da:Option Addr}{dn dc:Nat}(x:jo)(h:wu X lo F b S w)(hx:Zp b x)(hd:w.ownsRow 0 3 1 (.slice da dn dc) x.due.length (mX x.due))(hdF:∀k,(Value.slice da dn dc).ownBlock=some k->¬F k/\lo<=k)(hT:zu lo w)(Df:lo<=w.heap.size)(hS:S.length<=1000000000000):
  Z4 95 #[Z8 X,.agg (aT da dn dc x.nd x.wh x.tx)] w fun e w'=>∃(n:Nat) (S':List jo),e=.returned (.int .i64 (n:Nat))/\S'[n]?=some x/\(S'=S\/(S'=S++[x]/\x∉S))/\LU X lo F (fun k=>(Value.slice da dn dc).ownBlock=some k) b S' w w':=by
 have Fu:=hx.len;have hpl:=h.pl.len;have hkk:∀k∈x.due,k<=2300000000000:=fun k hk=>by have:=hx.2 k hk;omega
 have hKl:=Rk (s:=x) (by omega) hkk;have hb0:=(Below.refl w.heap.size w).alloc (ah _) (.cells (aT da dn dc x.nd x.wh x.tx) 193);have hB:=eL w (.cells (aT da dn dc x.nd x.wh x.tx) 193);have hd0:(w.alloc (.cells (aT da dn dc x.nd x.wh x.tx) 193)).ownsRow 0 3 1 (.slice da dn dc) x.due.length (mX x.due):=eI hd fun k e=>hb0.block k (eU hd e);have hT0:EW (w.alloc (.cells (aT da dn dc x.nd x.wh x.tx) 193)):=hT _ (fE hb0 Df);have VZ:=a_ (Zn x.nd x.wh x.tx hd0 (by omega) hkk hT0);have hc4:C4s (w.alloc (.cells (aT da dn dc x.nd x.wh x.tx) 193)) w.heap.size da dn dc x.nd x.wh x.tx:=⟨cell_of hB rfl,cell_of hB rfl,cell_of hB rfl,cell_of hB rfl⟩
 obtain⟨v,vs,mn,xs,ys,m,e1,e2,e3⟩:=h.ex;have LL:ys.length=S.length:=by rw[<-e2];simp
 have hsv:∃sa sc,vs=.slice sa ys.length sc:=by
  rcases m.row.2 with⟨h',h0⟩|⟨g,c,cur,h',_⟩
  ·exact⟨_,_,by rw[h',h0]⟩
  ·exact⟨_,_,h'⟩
 obtain⟨sa,sc,rfl⟩:=hsv;have hkey:=Zq (jv dec x) hKl;have V1:=vr S 0 x;have lJ:∀{w5:World},Below (w.alloc (.cells (aT da dn dc x.nd x.wh x.tx) 193)).heap.size (w.alloc (.cells (aT da dn dc x.nd x.wh x.tx) 193)) w5->Z5 w w5:=fun h5=>hb0.trans (fE h5 hb0.size);have H5:Hid (∀w5,Below (w.alloc (.cells (aT da dn dc x.nd x.wh x.tx) 193)).heap.size (w.alloc (.cells (aT da dn dc x.nd x.wh x.tx) 193)) w5->(w5.cell? ⟨X,2,none⟩=some (.map (some mn))/\w5.cell? ⟨X,1,none⟩=some (.slice sa ys.length sc))/\Hid (j4 w5 9 mn (ox S))):=fun w5 h5=>by
  have m5:=m.of fun k hk=>(lJ h5).block k (m.lt hk);have hm5:=m5.map;rw[e2]at hm5;exact⟨⟨cell_of m5.box rfl,cell_of m5.box rfl⟩,a_ hm5⟩
 cases hf:qZ (ox S) (.string (jv dec x))with
 |some n=>
  obtain⟨_,hn⟩:=V1.1 n hf;rw[Nat.sub_zero]at hn;have hcc:(qZ (ox S) (.string (jv dec x))).getD 0=n:=by rw[hf];rfl
  have jO:(qZ (ox S) (.string (jv dec x))).isSome=true:=by rw[hf];rfl
  have HE:Hid (∀w5,Below (w.alloc (.cells (aT da dn dc x.nd x.wh x.tx) 193)).heap.size (w.alloc (.cells (aT da dn dc x.nd x.wh x.tx) 193)) w5->LU X lo F (fun k=>(Value.slice da dn dc).ownBlock=some k) b S w w5):=fun w5 h5=>⟨F,h.below (lJ h5),Fr.below (lJ h5),fun k hk=>Or.inl hk⟩
  obtain⟨d0,d1,d2,d3⟩:=hc4;clear h hd hdF hT hd0 hT0 m e3 V1 lJ hf hb0 hB;generalize jv dec x=KK at*
  go_enter func95,ntmps95;go_wp2_with(first
   |(go_at_call 132;refine VZ.out.mono ?_;rintro e w5 ⟨rfl,h5⟩;obtain⟨⟨x2,x1⟩,HM⟩:=H5.out _ h5;have HF:=a_ (HE.out _ h5);clear VZ H5 HE h5)
   |(at_lookup;refine nL rfl _ _ 117 rfl Dp underlying117 rfl HM.out _ _ rfl hkey _ _ hcc jO ?_))
  go_ret;exact⟨n,S,rfl,hn,Or.inl rfl,HF.out⟩
 |none=>
  have acn:=V1.2 hf;have hcc:(qZ (ox S) (.string (jv dec x))).getD 0=0:=by rw[hf];rfl
  have jO:(qZ (ox S) (.string (jv dec x))).isSome=false:=by rw[hf];rfl
  obtain⟨i0,x_,hz0,hz1,hz2⟩:=bk VY;obtain⟨es,clk,QM⟩:=m.map.isMap;have hdm:(Value.slice da dn dc).ownBlock≠some mn:=fun e=>(hdF mn e).1 ((e3 mn).2 (Or.inr (Or.inr (Or.inr (Or.inl rfl)))));have hXm:X≠mn:=fun e=>by have:=m.box;rw[e,QM]at this;cases this
  have VG:=m.map.lt;have HU:Hid (∀w5 w6,Below (w.alloc (.cells (aT da dn dc x.nd x.wh x.tx) 193)).heap.size (w.alloc (.cells (aT da dn dc x.nd x.wh x.tx) 193)) w5->w5.grownBy w6 (some mn)->(w6.cell? ⟨X,1,none⟩=some (.slice sa ys.length sc)/\C4s w6 w.heap.size da dn dc x.nd x.wh x.tx)/\Hid ((w6.drew.alloc (.cells #[.slice da dn dc,.bool x.nd,.bool x.wh,.bool x.tx] 193)).ownsRow 0 193 4 (.slice sa ys.length sc) ys.length (lQ ys)/\∀j u,[Value.slice da dn dc,.bool x.nd,.bool x.wh,.bool x.tx][j]?=some u->(w6.drew.alloc (.cells #[.slice da dn dc,.bool x.nd,.bool x.wh,.bool x.tx] 193)).cell? ((⟨w6.heap.size,0,none⟩:Addr).add j)=some u)):=fun w5 w6 h5 IB=>by
   have m5:=m.of fun k hk=>(lJ h5).block k (m.lt hk);have x6:=(IB.block _ (eO m5.box) (fun e=>hXm (bF e))).trans m5.box;have b5:=(h5.block _ (eO hB)).trans hB;have b6:=(IB.block _ (eO b5) (fun e=>by have:=bF e;omega)).trans b5;refine⟨⟨cell_of x6 rfl,cell_of b6 rfl,cell_of b6 rfl,cell_of b6 rfl,cell_of b6 rfl⟩,a_ ⟨eI m5.row fun k e=>?_,fun j u hj=>?_⟩⟩
   ·have hk:=eU m5.row e;have lI:=ak hk IB.size;rw[ap _ _ _ (by exact lI)];exact IB.block k hk (fun e'=>p_ m5.row (m5.map.isMap.choose_spec.choose_spec) (by rw[e,e']))
   ·have hh:=eL w6.drew (.cells #[.slice da dn dc,.bool x.nd,.bool x.wh,.bool x.tx] 193);have hc:=cell_of (i:=j) hh (by simpa using hj);unfold Addr.add;split
    ·next h0=>rw[h0]at hc;exact hc
    ·simpa using hc
  have HV:Hid (∀w5 w6 w7 v',Below (w.alloc (.cells (aT da dn dc x.nd x.wh x.tx) 193)).heap.size (w.alloc (.cells (aT da dn dc x.nd x.wh x.tx) 193)) w5->j4 w6 9 mn (ox S++[(.string (jv dec x),ys.length)])->w5.grownBy w6 (some mn)->w7.ownsRow 0 193 4 v' (ys.length+1) (lQ ys++[.slice da dn dc,.bool x.nd,.bool x.wh,.bool x.tx])->(w6.drew.alloc (.cells #[.slice da dn dc,.bool x.nd,.bool x.wh,.bool x.tx] 193)).grownBy w7 (Value.slice sa ys.length sc).ownBlock->(v'.ownBlock=(Value.slice sa ys.length sc).ownBlock\/v'.ownBlock=some (w6.drew.alloc (.cells #[.slice da dn dc,.bool x.nd,.bool x.wh,.bool x.tx] 193)).heap.size)->
    (w7.cell? ⟨X,1,none⟩=some (.slice sa ys.length sc)/\w7.frozen? ⟨X,1,none⟩=false)/\Hid (LU X lo F (fun k=>(Value.slice da dn dc).ownBlock=some k) b (S++[x]) w (w7.setCell ⟨X,1,none⟩ v'))):=fun w5 w6 w7 v' h5 Zk IB tE xA hat=>by
   have m5:=m.of fun k hk=>(lJ h5).block k (m.lt hk);have hd5:w5.ownsRow 0 3 1 (.slice da dn dc) x.due.length (mX x.due):=eI hd fun k e=>(lJ h5).block k (eU hd e);have aco:j4 w6 9 mn (ox (ys.map (·.1))++[(.string (jv dec x),ys.length)]):=by rw[e2];exact Zk
   obtain⟨q1,q2⟩:=m5.put hd5 hdm aco IB tE xA;have hs5:=(lJ h5).size;have hs6:=IB.size;refine⟨q1,a_ ⟨Rh X v v' mn xs (ys++[(x,.slice da dn dc)]),⟨⟨v,v',mn,xs,_,q2,e1,by rw[bp,e2];rfl,fun k=>Iff.rfl⟩,?_,h.pl,?_⟩,?_,?_⟩⟩
   ·rintro k (rfl|hk|hk|rfl|⟨y,hy,hk⟩)
    ·exact h.low _ ((e3 _).2 (Or.inl rfl))
    ·exact h.low _ ((e3 _).2 (Or.inr (Or.inl hk)))
    ·rcases hat with h1|h1
     ·exact h.low _ ((e3 _).2 (Or.inr (Or.inr (Or.inl (h1▸hk)))))
     ·rw[h1]at hk;have:k=w6.heap.size+1:=by simpa using hk.symm
      omega
    ·exact h.low _ ((e3 _).2 (Or.inr (Or.inr (Or.inr (Or.inl rfl)))))
    ·rcases List.mem_append.1 hy with hy|hy
     ·exact h.low _ ((e3 _).2 (Or.inr (Or.inr (Or.inr (Or.inr ⟨y,hy,hk⟩)))))
     ·rw[bc]at hy;subst hy;exact(hdF k hk).2
   ·intro s hs;rcases List.mem_append.1 hs with hs|hs
    ·exact h.wfs s hs
    ·rw[bc]at hs;subst hs;exact hx
   ·have f1:Fr F w w6:=(Fr.below (lJ h5)).gr IB fun k e _=>by cases e;exact(e3 _).2 (Or.inr (Or.inr (Or.inr (Or.inl rfl))))
    have f2:Fr F w w7:=((f1.drewN 1).alloc _).gr xA fun k e _=>(e3 k).2 (Or.inr (Or.inr (Or.inl e)));exact f2.set _ _ fun _=>(e3 X).2 (Or.inl rfl)
   ·rintro k (rfl|hk|hk|rfl|⟨y,hy,hk⟩)
    ·exact Or.inl ((e3 _).2 (Or.inl rfl))
    ·exact Or.inl ((e3 _).2 (Or.inr (Or.inl hk)))
    ·rcases hat with h1|h1
     ·exact Or.inl ((e3 _).2 (Or.inr (Or.inr (Or.inl (h1▸hk)))))
     ·rw[h1]at hk;have:k=w6.heap.size+1:=by simpa using hk.symm
      exact Or.inr (Or.inr (by omega))
    ·exact Or.inl ((e3 _).2 (Or.inr (Or.inr (Or.inr (Or.inl rfl)))))
    ·rcases List.mem_append.1 hy with hy|hy
     ·exact Or.inl ((e3 _).2 (Or.inr (Or.inr (Or.inr (Or.inr ⟨y,hy,hk⟩)))))
     ·rw[bc]at hy;subst hy;exact Or.inr (Or.inl hk)
  have qU:(ox S).length<4611686018427387904:=by rw[Ni];omega
  have hSn:(S++[x])[ys.length]?=some x:=by rw[LL];simp
  have Rb:ys.length<=1000000000000:=by omega
  obtain⟨d0,d1,d2,d3⟩:=hc4;clear h hd hdF hT hd0 hT0 m e3 V1 lJ hb0 hB QM hdm hXm VG e1 e2 LL;generalize jv dec x=KK at*
  generalize lQ ys=SC at*
  generalize ys.length=n at*
  generalize x.nd=p at*
  generalize x.wh=q at*
  generalize x.tx=r at*
  go_enter func95,ntmps95;go_wp2_with(first
   |(go_at_call 132;refine VZ.out.mono ?_;rintro e w5 ⟨rfl,h5⟩;obtain⟨⟨x2,x1⟩,HM⟩:=H5.out _ h5;have HB5:=a_ h5;clear VZ H5 h5 d0 d1 d2 d3)
   |(at_lookup;refine nL rfl _ _ 117 rfl Dp underlying117 rfl HM.out _ _ rfl hkey _ _ hcc jO ?_)
   |(at_mapUpdate;refine xy rfl _ _ _ 117 rfl Dp underlying117 rfl HM.out _ _ n rfl rfl hkey hf qU (by omega) ?_;intro w6 Zk IB;have HM6:=a_ Zk;have HG6:=a_ IB;obtain⟨⟨k0,d0,d1,d2,d3⟩,HO6⟩:=HU.out _ _ HB5.out IB;clear HM HU Zk IB x1 x2))
  have Yb:∀o,(w6.alloc o).cell? ⟨X,1,none⟩=some (.slice sa n sc):=fun o=>eF o k0;have y0a:∀o,(w6.alloc o).cell? ⟨w.heap.size,0,none⟩=some (.slice da dn dc):=fun o=>eF o d0;have y1a:∀o,(w6.alloc o).cell? ⟨w.heap.size,1,none⟩=some (.bool p):=fun o=>eF o d1;have y2a:∀o,(w6.alloc o).cell? ⟨w.heap.size,2,none⟩=some (.bool q):=fun o=>eF o d2;have y3a:∀o,(w6.alloc o).cell? ⟨w.heap.size,3,none⟩=some (.bool r):=fun o=>eF o d3;go_region_law
   (first|(
    refine fJ rfl (.tmp 36) (.tmp 38) 118 rfl 193 i0 _ 4 32 underlying118 x_ hz0 hz1 hz2 rfl (by decide) (.slice sa n sc) n SC (by simp[Act.eval,Act.put]) HO6.out.1 ⟨w6.heap.size,0,none⟩ 1 1 [.slice da dn dc,.bool p,.bool q,.bool r] (by simp[Act.eval,Act.put]) rfl HO6.out.2 (by simp[Value.oneCell']) (by unfold maxLen;omega) (by omega) ?_;intro v7 w7 ho hg hat;obtain⟨a7,n7,c7,rfl⟩:=ft ho;obtain⟨⟨x7,f7⟩,H7⟩:=HV.out _ _ _ _ HB5.out HM6.out HG6.out ho hg hat;clear ho hg hat))
  all_goals
   go_wp2;go_ret;exact⟨n,S++[x],rfl,hSn,Or.inr ⟨rfl,acn⟩,H7.out⟩
end
section
variable{w w' W W' w0 w1 w3 w5:World}{v vs:Value}{xs:List (Br×Nat)}{b:gZ}{F:Nat->Prop}{X lo:Nat}{S:List jo}{ys:List (jo×Value)}
def Nk(X lo:Nat)(F:Nat->Prop)(b:gZ)(S:List jo)(x:jo)(w:World)(e:Ending)(w':World):Prop:=∃(n:Nat) (S':List jo),e=.returned (.int .i64 (n:Nat))/\S'[n]?=some x/\(S'=S\/(S'=S++[x]/\x∉S))/\LU X lo F (fun _=>False) b S' w w'
theorem Nl(b:gZ):Zp b (iN b):=⟨mM _ _,fun k hk=>List.mem_range.1 (List.mem_filter.1 hk).1⟩
theorem Rl(b:gZ)(s:jo)(name:L):Zp b (fL b s name):=⟨mM _ _,fun k hk=>List.mem_range.1 (List.mem_filter.1 hk).1⟩
theorem wu.number{da:Option Addr}{dn dc:Nat}(x:jo)(h:wu X lo F b S w)(hx:Zp b x)(hb:Z5 w w5)(hd:w5.ownsRow 0 3 1 (.slice da dn dc) x.due.length (mX x.due))(ho:∀k,(Value.slice da dn dc).ownBlock=some k->w.heap.size<=k)(hT:zu lo w)(Df:lo<=w.heap.size)(hS:S.length<=1000000000000):
  Z4 95 #[Z8 X,.agg (aT da dn dc x.nd x.wh x.tx)] w5 (Nk X lo F b S x w):=by
 refine(Nj x (h.below hb) hx hd (fun k e=>⟨fun hF=>?_,?_⟩) (hT.on (fE hb Df)) (ar Df hb.size) hS).mono ?_
 ·have:=ho k e;have:=h.lt hF;omega
 ·have:=ho k e;omega
 rintro e w' ⟨n,S',h1,h2,h3,F',h4,h5,h6⟩;refine⟨n,S',h1,h2,h3,F',h4,(Fr.below hb).trans h5 fun _ _ h=>h,fun k hk=>?_⟩;rcases h6 k hk with h7|h7|h7
 ·exact Or.inl h7
 ·exact Or.inr (Or.inr (ho k h7))
 ·exact Or.inr (Or.inr (ar hb.size h7))
theorem Ju(h:wu X lo F b S w)(hT:zu lo w)(Df:lo<=w.heap.size)(hS:S.length<=1000000000000):Z4 97 #[Z8 X] w (Nk X lo F b S (iN b) w):=by
 obtain⟨v,vs,mn,xs,ys,m,e1,e2,e3⟩:=h.ex;have c0:w.cell? ⟨X,0,none⟩=some v:=cell_of m.box rfl;have HS:=a_ (zq m.br e1 h.pl.wf h.pl.up h.pl.short h.pl.few h.pl.len);have HN:Hid (∀w5 da dn dc,Z5 w w5->w5.ownsRow 0 3 1 (.slice da dn dc) (iN b).due.length (mX (iN b).due)->(∀k,(Value.slice da dn dc).ownBlock=some k->w.heap.size<=k)->Z4 95 #[Z8 X,.agg #[.slice da dn dc,.bool false,.bool false,.bool false]] w5 (Nk X lo F b S (iN b) w)):=fun w5 da dn dc hb hd ho=>h.number (iN b) (Nl b) hb hd ho hT Df hS;obtain⟨va,vn,vc,rfl⟩:=ft m.br.row;clear h hT m e3;generalize (iN b)=ST at*
 go_enter func97,ntmps97;go_wp2_with(first
  |(go_at_call 140;refine HS.out.mono ?_;rintro e w5 ⟨da,dn,dc,rfl,h5,h6,h7⟩;have HC:=a_ (HN.out _ _ _ _ h6 h5 h7);clear HS HN h5 h6 h7)
  |(go_at_call 95;refine HC.out.mono ?_;rintro e w8 ⟨n,S',rfl,h8⟩;have H8:=a_ h8;clear HC h8))
 go_ret;exact⟨n,S',rfl,H8.out⟩
end
section
variable{w w' W W' w0 w1 w3 w5:World}{v vs:Value}{xs:List (Br×Nat)}{b:gZ}{F:Nat->Prop}{X lo:Nat}{S:List jo}{ys:List (jo×Value)}
theorem Ri.state{mn st:Nat}{y:jo×Value}(m:Ri X w v vs mn xs ys)(hy:ys[st]?=some y):∃g cap da dn dc,vs=Z9 g ys.length cap/\y.2=.slice da dn dc/\w.cell? ⟨g,st*4,none⟩=some (.slice da dn dc)/\w.cell? ⟨g,st*4+1,none⟩=some (.bool y.1.nd)/\w.cell? ⟨g,st*4+2,none⟩=some (.bool y.1.wh)/\w.cell? ⟨g,st*4+3,none⟩=some (.bool y.1.tx)/\w.ownsRow 0 3 1 (.slice da dn dc) y.1.due.length (mX y.1.due):=by
 have Fv:=(List.getElem?_eq_some_iff.1 hy).1;have hd:=m.due y (aZ hy);obtain⟨da,dn,dc,hyv⟩:=ft hd;rcases m.row.2 with⟨_,hz⟩|⟨g,cap,cur,rfl,hb,hg,wJ,_,_,_⟩
 ·omega
 ·have f:=fun c (hc:c<4) u hu=>(m.row.cellAt (st*4+c) (by omega)).trans (zt ys st y c u hy hu);exact⟨g,cap,da,dn,dc,rfl,hyv,f 0 (by omega) _ (by rw[<-hyv];rfl),f 1 (by omega) _ rfl,f 2 (by omega) _ rfl,f 3 (by omega) _ rfl,by rw[<-hyv];exact hd⟩
theorem Nn{st:Nat}{s:jo}(h:wu X lo F b S w)(hs:S[st]?=some s)(name:L)(hT:zu lo w)(Df:lo<=w.heap.size)(hS:S.length<=1000000000000):Z4 56 #[Z8 X,.int .i64 (st:Nat),.string (bs name)] w (Nk X lo F b S (fL b s name) w):=by
 obtain⟨v,vs,mn,xs,ys,m,e1,e2,e3⟩:=h.ex;have Zr:=h.wfs s (aZ hs);have hyx:∃y,ys[st]?=some y/\y.1=s:=by
  rw[<-e2,aX]at hs;obtain⟨y,hy,rfl⟩:=Option.map_eq_some_iff.1 hs;exact⟨y,hy,rfl⟩
 obtain⟨y,hy,rfl⟩:=hyx;obtain⟨g,cap,da,dn,dc,rfl,-,a0,a1,a2,a3,hrow⟩:=m.state hy;have hlt:=(List.getElem?_eq_some_iff.1 hy).1;have c0:w.cell? ⟨X,0,none⟩=some v:=cell_of m.box rfl;have c1:w.cell? ⟨X,1,none⟩=some (Z9 g ys.length cap):=cell_of m.box rfl;have HA:=a_ (nI st c1 hlt);have LK:(st:Int)<(ys.length:Int):=by omega
 have HX:Hid (∀w',Z5 w w'->Z4 96 #[v,.agg #[.slice da dn dc,.bool y.1.nd,.bool y.1.wh,.bool y.1.tx],.string (bs name)] w' fun e w5=>∃va vn vc,e=.returned (.agg #[.slice va vn vc,.bool (fL b y.1 name).nd,.bool (fL b y.1 name).wh,.bool (fL b y.1 name).tx])/\Hid (Z4 95 #[Z8 X,.agg #[.slice va vn vc,.bool (fL b y.1 name).nd,.bool (fL b y.1 name).wh,.bool (fL b y.1 name).tx]] w5 (Nk X lo F b S (fL b y.1 name) w))):=fun w' hb=>by
  have m':=m.of fun k hk=>hb.block k (m.lt hk);have hr':w'.ownsRow 0 3 1 (.slice da dn dc) y.1.due.length (mX y.1.due):=eI hrow fun k e=>hb.block k (eU hrow e);refine(VP y.1.nd y.1.wh y.1.tx name m'.br e1 h.pl.wf h.pl.short h.pl.ks h.pl.len Zr.1 Zr.2 Zr.len hr').mono ?_;rintro e w5 ⟨va,vn,vc,q1,q2,q3,q4⟩;have EV:Z5 w w5:=hb.trans (fE q3 hb.size);exact⟨va,vn,vc,q1,a_ (h.number (fL b y.1 name) (Rl b y.1 name) EV q2 (fun k e=>ar hb.size (q4 k e)) hT Df hS)⟩
 obtain⟨va,vn,vc,rfl⟩:=ft m.br.row;clear h hT m e3 hs Zr hrow hy hlt e1 e2;generalize fL b y.1 name=ST at*
 generalize ys.length=n at*
 generalize y.1.nd=p at*
 generalize y.1.wh=q at*
 generalize y.1.tx=r at*
 go_enter func56,ntmps56;go_wp2_with(go_at_call 94;refine HA.out.mono ?_;rintro e w5 ⟨rfl,hw⟩;have hw':=hw.symm;clear hw;subst hw';clear HA)
 go_region_with
  ((first
    |(go_at_call 96;(first|refine(HX.out _ (kV (Below.refl _ _) 1)).mono ?_|refine(HX.out _ (Below.drew (Below.refl _ _))).mono ?_|refine(HX.out _ (Below.refl _ _)).mono ?_);rintro e w6 ⟨a6,n6,c6,rfl,H6⟩)
    |(go_at_call 95;refine H6.out.mono ?_;rintro e w8 ⟨n8,S8,rfl,h8⟩)))
 all_goals
  have H8:=a_ h8;clear h8 HX H6;go_wp2;go_ret;exact⟨n8,S8,rfl,H8.out⟩
end
end Go.Proofs.YtjecakcpcnmieaaGreatDoor
