import Derived.Test.YtjecakcpcnmieaaGreatDoorHA
import Derived.RangeFuncOwn
import Derived.Sort.MapsRangeIn
import Derived.Shelf.SlIterI.Keys
import Derived.RangeFuncFrom
import Derived.Maps.OwnIn
import Derived.Shelf.SlIter.Collect
import Derived.Shelf.LaysM
import Derived.Shelf.Sort.Plain
import Derived.Shelf.Strconv.AppendIntPublic10
import Derived.Ground.Names2Prog
import Derived.Shelf.Slices.CompactI
import Derived.Shelf.Slices.In.SortNone
import Derived.Test.YtjecakcpcnmieaaGreatDoorProg
import Derived.Lib.SlKeysI
import Derived.Lib.SlicesCompact
import Derived.Deep.MidRow
import Derived.Laws.Rows
import Derived.Deep.RegionWith
import Derived.Test.YtjecakcpcnmieaaGreatDoorHaf
import Derived.Test.YtjecakcpcnmieaaGreatDoorHac
import Derived.Test.YtjecakcpcnmieaaGreatDoorHad
set_option linter.unusedVariables false
set_option linter.unusedSimpArgs false
set_option maxHeartbeats 32000000
set_option maxRecDepth 100000
namespace Go.Proofs.YtjecakcpcnmieaaGreatDoor
open Go.RowKit Go.Maps Go.Lib Tryz
section
variable{kv:List (Lit×Nat)}{left:Lit->Bool}{kl:Lit}{n:Nat}
def lO(kv:List (Lit×Nat)):List Int:=kv.map fun p=>(p.2:Int)
theorem BL:∀(kv:List (Lit×Nat)),(kv.map (·.1)).Nodup->WideAt.IsKeyLit kl->left kl=true->qZ kv kl=some n->(lO (kv.filter fun p=>!(left p.1&&!p.1.sameKey kl))).Perm (lO (kv.filter fun p=>!left p.1)++[(n:Int)])
 |[],_,_,_,hf=>by cases hf
 |p::kv,l9,hk,hl,hf=>by
  rw[bB,List.nodup_cons]at l9;by_cases e:p.1=kl
  ·have e1:p.1.sameKey kl=true:=by rw[e];exact cR hk
   have hn:p.2=n:=by
    unfold qZ at hf;rw[cZ,e1]at hf;simpa using hf
   have Yd:(kv.filter fun p=>!(left p.1&&!p.1.sameKey kl))=kv.filter fun p=>!left p.1:=by
    refine List.filter_congr fun q hq=>?_;have:q.1.sameKey kl=false:=eu fun h=>l9.1 (by rw[e,<-h];exact cS hq);rw[this];simp
   rw[dP (by rw[e1];simp),dQ (by rw[e,hl];simp),Yd];unfold lO;rw[bB,hn];exact List.perm_append_comm (l₁:=[(n:Int)])
  ·have e1:p.1.sameKey kl=false:=eu e;have hf':qZ kv kl=some n:=by
    unfold qZ at hf ⊢;rw[cZ,e1]at hf;exact hf
   have ih:=BL kv l9.2 hk hl hf';by_cases h2:left p.1=true
   ·rw[dQ (by rw[e1,h2];simp),dQ (by rw[h2];simp)];exact ih
   ·rw[dP (by rw[e1];simp[h2]),dP (by simp[h2])];unfold lO at ih ⊢;rw[bB,bB,aI];exact ih.cons _
theorem VK(F:Fence)(n:Nat)(h83:F.fn 179)(hro:F.round=none)(hn:1<=n)(l Bm b:Nat)(kv:List (Lit×Nat))(l9:(kv.map (·.1)).Nodup)(hkk:∀p∈kv,WideAt.IsKeyLit p.1)(J Jx:List Int->World->Prop)
  (hY:∀pre x W,J pre W->pre.length<kv.length->YieldAt F (n-1) prog l #[.int .i64 x] W fun e W'=>(e=.returned (.bool true)/\J (pre++[x]) W'/\KeepsWalks W W')\/(e=.returned (.bool false)/\Jx (pre++[x]) W'))
  (W:World) (hJ:AbidesFrom W.heap.size J) (hm:W.cell? ⟨Bm,0,none⟩=some (.map (some b))) (hM:j4 W 165 b kv) (h0:J [] W):
  CallsIn F n prog 179 #[.func (.yield l) #[] #[],Z8 Bm] W fun e W'=>(∃v,e=.returned v)/\((∃xs,xs.Perm (lO kv)/\J xs W')\/(∃pre,True/\Jx pre W')):=by
 obtain⟨D,hown,FB,hat⟩:=hM.ex;refine callsIn_of_wp func179 rfl h83 ?_ hro;simp only[ntmps179,cv,ag,aq,Nat.reduceAdd,Nat.reduceSub,Array.replicate_succ,Array.replicate_zero,List.push_toArray,List.append_toArray,bR,aI]
 gi_wp2_with (first
  |(gi_at_range;refine wpListIn_range_own _ rfl _ 163 rfl 165 3 Dq underlying163 _ b kv.length _ rfl hown ?_;intro w0 hrg0 hg0 hs0)
  |gi_in)
 go_frame
 gi_loopw [4] (fun _ wr=>∃(left:Lit->Bool) (cnt:Nat) (ss:List Int),wr.ranges prog 165 (plainElem prog 3) b W.heap.size kv.length D left cnt/\(∀kl,left kl=true->Maps.has D kl=true)/\ss.Perm (lO (kv.filter fun p=>!left p.1))/\J ss wr)
  (fun _ wr=>wr.rangeLeft b W.heap.size)
 case atStart=>
  refine⟨_,_,[],hrg0,fun _ h=>h,?_,hJ [] W w0 none h0 hg0 (fun r e=>by cases e)⟩;have:(kv.filter fun p=>!Maps.has D p.1)=[]:=by
   rw[List.filter_eq_nil_iff];intro p hp;rw[FB];have:(qZ kv p.1).isSome=true:=by
    unfold qZ;rw[Option.isSome_map,List.find?_isSome];exact⟨p,hp,cR (hkk p hp)⟩
   rw[this];decide
  rw[this];exact List.Perm.refl _
 case round=>
  obtain⟨left,cnt,ss,hrg,hlf,hP,hJs⟩:=hrel
  gi_wp2_with (first
   |(gi_at_next;refine wpListIn_next_ranges _ rfl _ rfl 165 Dq (plainElem prog 3) (id:Value->Value) (Value.int .i64) (fun key kl _=>⟨key,rfl⟩) (fun v y hv=>by obtain⟨c,rfl,_⟩:=plainElem_int_inv underlying3 hv;exact⟨c,rfl⟩) b W.heap.size kv.length _ _ _ rfl hrg ?_ ?_)
   |gi_in)
  ·intro hc0 hl0
   gi_wp2
   go_end0
   refine⟨⟨_,rfl⟩,Or.inl ⟨ss,?_,hJs⟩⟩;have:(kv.filter fun p=>!left p.1)=kv:=List.filter_eq_self.2 fun p _=>by rw[hl0];rfl
   rw[this]at hP;exact hP
  ·intro x c kl yd yp w2 cnt2 hkey hlk hv nz hrg2 hlt hg2 hs2 hen;obtain⟨c',ec,ez,_⟩:=plainElem_int_inv underlying3 hv;obtain rfl:c=c':=by simpa using ec
   have hy:yd=DataW.lit (.int .i64 c):=(Prod.mk.inj ez).1;have hsome:∃m:Nat,qZ kv kl=some m:=by
    have h1:=hlf kl hlk;rw[FB]at h1;exact Option.isSome_iff_exists.1 h1
   obtain⟨m,tD⟩:=hsome;have hcm:c=(m:Int):=by
    have h2:=nz (.lit (.int .i64 0));simp only[hat,tD,hy]at h2;cases h2;rfl
   subst hcm;have hP2:=BL (left:=left) kv l9 (Dq.key hkey) hlk tD;have hlen:ss.length<kv.length:=by
    have h3:=hP2.length_eq;have h4:=hP.length_eq;have h5:(lO (kv.filter fun p=>!(left p.1&&!p.1.sameKey kl))).length<=kv.length:=by unfold lO;rw[cC];exact List.length_filter_le _ _
    rw[ae,bn]at h3;omega
   have hJ2:J ss w2:=hJ _ wr w2 (some W.heap.size) hJs hg2 (fun r e=>by cases e;exact⟨ah _,hrg.iter_walk⟩);obtain⟨fn,tmps,assign,body,hyy,hR⟩:=hY ss (m:Int) w2 hJ2 hlen;clear hs2
   gi_wp2
   refine hR.mono ?_;rintro e W3 (⟨rfl,hJ3,hk3⟩|⟨rfl,acj⟩)
   ·gi_wp2
    have hrg3:=hrg2.of_walks hk3
    go_roundw
    case rel=>
     refine⟨_,cnt2,ss++[(m:Int)],hrg3,fun k' h=>hlf k' (by simp at h;exact h.1),?_,hJ3⟩;exact(hP.append_right _).trans hP2.symm
    case measure=>rw[hrg3.left_eq,hrg.left_eq];exact hlt
   ·gi_wp2
    refine aV (aK rfl _ _ _) rfl ?_;exact⟨⟨_,rfl⟩,Or.inr ⟨_,trivial,acj⟩⟩
end
section
variable{kv:List (Lit×Nat)}{w w' W W':World}{v:Value}{xs:List Int}
theorem kH(b:Nat)(w:World):Z4 135 #[.map (some b)] w fun e w'=>e=.returned (.func (.func 179) #[] #[.pointer (some ⟨w.heap.size,0,none⟩)])/\w'=w.alloc (.cells #[.map (some b)] 163):=by
 go_enter func135,ntmps135;go_wp2;go_ret;exact⟨rfl,rfl⟩
theorem Dx(n:Nat)(hn:1<=n)(Bm b:Nat)(hBm:Bm<w.heap.size)(hm:w.cell? ⟨Bm,0,none⟩=some (.map (some b)))(hM:j4 w 165 b kv)(l9:(kv.map (·.1)).Nodup)(hkk:∀p∈kv,WideAt.IsKeyLit p.1):
  SeqStopsK Fence.wide n prog 179 #[Z8 Bm] (fun x:Int=>#[Value.int .i64 x]) KeepsWalks (fun ys=>ys.Perm (lO kv)) (fun _=>True) kv.length w:=fun l J Jx W hW hJ _ hY h0=>
 VK Fence.wide n trivial rfl hn l Bm b kv l9 hkk J Jx hY W hJ ((aj (hW.block Bm hBm)).trans hm) (hM.of (hW.block b hM.lt)) h0
def kW(l:List Int):List Value:=l.map (Value.int .i64)
structure Ye(w:World)(v:Value)(xs ys:List Int)(W:World):Prop where
 ex:∃v1,W.heap[w.heap.size]?=some (.cells #[v1] 34 (0,0))/\W.ownsRow 0 3 1 v1 (xs++ys).length (kW (xs++ys))/\(∀k,v1.ownBlock=some k->v.ownBlock=some k\/w.heap.size<=k)
 fr:Fr (fun k=>v.ownBlock=some k) w W
theorem mh{B:Nat}{e:TypeId}{s n:Nat}{xs:List Value}(h:w.ownsRow B e s v n xs){k:Nat}(hk:v.ownBlock=some k):∃cur fz,w.heap[k]?=some (.cells cur e fz):=by
 rcases h.2 with⟨h',_⟩|⟨g,cap,cur,h',_,hg,_⟩
 ·rw[h']at hk;cases hk
 ·rw[h']at hk;cases hk;exact⟨_,_,hg⟩
theorem Ye.own(w:World)(v:Value)(xs:List Int):OwnFrom (w.heap.size+1) (fun ys W=>Ye w v xs ys W):=fun ys W W' row h hg hr=>by
 obtain⟨v1,h1,h2,h3⟩:=h.ex;have ne:∀(k:Nat) (cur:Array Value) (fz:Nat×Nat) (e:TypeId),W.heap[k]?=some (.cells cur e fz)->W'.heap[k]?=W.heap[k]?:=fun k cur fz e hk=>hg.block k (eO hk) fun er=>by
  obtain⟨_,o,ho,hc⟩:=hr k er.symm;rw[hk]at ho;cases ho;cases hc
 refine⟨⟨v1,(ne _ _ _ _ h1).trans h1,eI h2 fun k e=>?_,h3⟩,h.fr.gr hg fun k e hk=>?_⟩
 ·obtain⟨cur,fz,hk⟩:=mh h2 e;exact ne _ _ _ _ hk
 ·have:=(hr k e).1;omega
theorem zn:(prog.info? 3).map (fun i=>(i.zero,i.size,i.bytes))=some (some (.int .i64 0),1,8):=by kernel_rfl
theorem Ye.put{ys:List Int}{x:Int}{v1 v':Value}{w3:World}(h1:W.heap[w.heap.size]?=some (.cells #[v1] 34 (0,0)))(h2:W.ownsRow 0 3 1 v1 (xs++ys).length (kW (xs++ys)))(h3:∀k,v1.ownBlock=some k->v.ownBlock=some k\/w.heap.size<=k)(hf:Fr (fun k=>v.ownBlock=some k) w W)
  (ho:w3.ownsRow 0 3 1 v' ((xs++ys).length+1) (kW (xs++ys)++[.int .i64 x])) (hg:(W.alloc (.cells #[.int .i64 x] 3)).grownBy w3 v1.ownBlock) (hat:v'.ownBlock=v1.ownBlock\/v'.ownBlock=some (W.alloc (.cells #[.int .i64 x] 3)).heap.size):
  (w3.cell? ⟨w.heap.size,0,none⟩=some v1/\w3.frozen? ⟨w.heap.size,0,none⟩=false)/\KeepsOthers W (w3.setCell ⟨w.heap.size,0,none⟩ v')/\KeepsWalks W (w3.setCell ⟨w.heap.size,0,none⟩ v')/\Ye w v xs (ys++[x]) (w3.setCell ⟨w.heap.size,0,none⟩ v'):=by
 have hne:=gP h2 h1 (by decide);have hlt:=eO h1;have b3:w3.heap[w.heap.size]?=some (.cells #[v1] 34 (0,0)):=by
  rw[hg.block _ (by simp;omega) (fun e=>hne e.symm),ap _ _ _ hlt];exact h1
 have hvb:v'.ownBlock≠some w.heap.size:=gP ho b3 (by decide);have hcell:∀(j:Nat) (o:Obj),v1.ownBlock=some j->(W.alloc (.cells #[.int .i64 x] 3)).heap[j]?=some o->o.isCells=true:=fun j o e hj=>by
  obtain⟨cur,fz,hk⟩:=mh h2 e;rw[ap _ _ _ (eO hk),hk]at hj;cases hj;rfl
 refine⟨⟨cell_of b3 rfl,eP b3⟩,((KeepsOthers.alloc W _).trans (KeepsOthers.of_grownBy hg hcell)).trans (KeepsOthers.setCell _ _ _),((KeepsWalks.alloc W _).trans (KeepsWalks.of_grownBy hg fun j o e hj=>?_)).trans (KeepsWalks.setCell _ _ _),⟨⟨v',?_,?_,?_⟩,?_⟩⟩
 ·have:=hcell j o e hj;cases o<;>simp_all[Obj.isCells,Obj.isWalk]
 ·rw[eV b3];rfl
 ·have e:kW (xs++(ys++[x]))=kW (xs++ys)++[.int .i64 x]:=by unfold kW;rw[<-aM,bp];rfl
  have e2:(xs++(ys++[x])).length=(xs++ys).length+1:=by simp;omega
  rw[e,e2];exact eI ho fun k e=>af _ _ _ _ (fun e'=>hvb (by rw[e,e']))
 ·intro k e;rcases hat with h|h
  ·exact h3 k (h▸e)
  ·rw[h]at e;have h4:=hf.size;have:k=W.heap.size+1:=by simpa using e.symm
   exact Or.inr (by omega)
 ·refine Fr.set ?_ _ _ (fun h=>absurd h (cy _));refine(hf.alloc _).gr hg fun k e hk=>?_;rcases h3 k e with h|h
  ·exact h
  ·omega
theorem vh(w:World)(hrow:w.ownsRow 0 3 1 v xs.length (kW xs))(Bm b:Nat)(hBm:Bm<w.heap.size)(hm:w.cell? ⟨Bm,0,none⟩=some (.map (some b)))(hM:j4 w 165 b kv)(l9:(kv.map (·.1)).Nodup)(hkk:∀p∈kv,WideAt.IsKeyLit p.1)(hl:xs.length+kv.length<=10000000000000):
  Z4 134 #[v,.func (.func 179) #[] #[Z8 Bm]] w fun e w'=>∃v' ys,e=.returned v'/\ys.Perm (lO kv)/\w'.ownsRow 0 3 1 v' (xs++ys).length (kW (xs++ys))/\Fr (fun k=>v.ownBlock=some k) w w'/\∀k,v'.ownBlock=some k->v.ownBlock=some k\/w.heap.size<=k:=by
 obtain⟨i0,hi,hz0,hz1,hz2⟩:=bk zn;have hb0:=(Below.refl w.heap.size w).alloc (ah _) (.cells #[v] 34);have hseq:=Dx (w:=w.alloc (.cells #[v] 34)) (kv:=kv) (3-1) (by omega) Bm b (by simp;omega) ((aj (hb0.block Bm hBm)).trans hm) (hM.of (hb0.block b hM.lt)) l9 hkk;have hI0:Ye w v xs [] (w.alloc (.cells #[v] 34)):=⟨⟨v,eL w _,by rw[aO];exact eI hrow fun k e=>hb0.block k (eU hrow e),fun k h=>Or.inl h⟩,Fr.below hb0⟩
 obtain⟨va,vn,vc,rfl⟩:=ft hrow;refine(callsIn_wide (n:=3)).1 ?_;refine callsIn_of_wp_marks func134 rfl trivial ?_ rfl;simp only[ntmps134,cv,ag,aq,Nat.reduceAdd,Nat.reduceSub,Array.replicate_succ,Array.replicate_zero,List.push_toArray,List.append_toArray,bR,aI]
 gi_wp2
 have hsz:(w.alloc (.cells #[.slice va vn vc] 34)).heap.size=w.heap.size+1:=by simp
 refine wpIn_rangeFunc_ownF rfl (by omega) (gf:=179) (lb:=#[Z8 Bm]) rfl trivial (enters_of func179 (by kernel_rfl) rfl) hseq (fun h k=>h.trans k) (fun W l o o' _ hl hc hw=>KeepsWalks.putObj o' hl hw) (Below.refl _ _) (fun _=>rfl)
  (fun ys W=>Ye w (.slice va vn vc) xs ys W) (fun _ _ _=>False) (by rw[hsz];exact Ye.own w _ xs) (fun c s A B row hs _ _=>hs) hI0
  (fun x=>{tmps:=#[.slice va vn vc,.func (.func 179) #[] #[Z8 Bm],.pointer (some ⟨w.heap.size,0,none⟩),undef,.slice none 0 0,.int .i64 x,.func (.func 179) #[] #[Z8 Bm],.int .i64 x,undef,undef,undef,undef,undef],defers:=[]}) ?assign ?body ?done ?stop
 case assign=>
  intro l x W K hK
  gi_wp2_with gi_round_op_a
  exact hK
 case body=>
  rintro l ys x W hI hlen;obtain⟨v1,h1,h2,h3⟩:=hI.ex;have hf:=hI.fr;obtain⟨a1,n1,c1,rfl⟩:=ft h2;have d0:W.cell? ⟨w.heap.size,0,none⟩=some (.slice a1 n1 c1):=cell_of h1 rfl;have zo:(xs++ys).length+1<=10000000000000:=by rw[ae];omega
  have HP:=a_ (fun v' w3=>Ye.put (w:=w) (v:=.slice va vn vc) (xs:=xs) (ys:=ys) (x:=x) (v':=v') (w3:=w3) h1 h2 h3 hf);have HR:=a_ (eI (w':=W.alloc (.cells #[.int .i64 x] 3)) h2 fun k e=>ap _ _ _ (eU h2 e));clear h1 h2 h3 hf hI hI0 hseq hb0 hrow hm hM l9 hkk hlen hl
  gi_wp2_with (first
   |(gi_at_builtin;refine wpListIn_append_own_at (w:=_) rfl _ _ 34 rfl 0 3 i0 _ 1 8 underlying34 hi hz0 hz1 hz2 rfl (by decide) _ _ _ rfl HR.out ⟨W.heap.size,0,none⟩ 1 1 [.int .i64 x] rfl rfl (cell_one_new _ _ _) (by simp[Value.oneCell']) (by unfold maxLen;omega) (by omega) (ax _) ?_;intro v7 w7 tE xA _ oQ;obtain⟨⟨d7,f7⟩,H7⟩:=HP.out _ _ tE xA oQ;have H8:=a_ H7;obtain⟨a7,n7,c7,rfl⟩:=ft tE;clear HP HR tE xA oQ H7)
   |gi_round_op_a)
  exact H8.out
 case done=>
  rintro D ys W hD hS hI hK;obtain⟨v1,h1,h2,h3⟩:=hI.ex;have hf:=hI.fr;obtain⟨a1,n1,c1,rfl⟩:=ft h2;have d0:W.cell? ⟨w.heap.size,0,none⟩=some (.slice a1 n1 c1):=cell_of h1 rfl;have HI:=a_ hI;have H2:=a_ h2;clear h1 h2 hI hI0 hseq hb0 hrow hm hM l9 hkk hl
  gi_wp2
  refine⟨by simp,.inl ⟨_,_,rfl,run_takeDeferred hK,?_⟩⟩;have hgp:=grownBy_putObj' W D (.deferred none);refine⟨.slice a1 n1 c1,by simp[results,results134,go_sem],.slice a1 n1 c1,ys,rfl,hS,eI H2.out fun k e=>?_,hf.gr hgp fun k e hk=>?_,h3⟩
  ·obtain⟨cur,fz,hk⟩:=mh H2.out e;refine hgp.block k (eO hk) fun e'=>?_;have:k=D:=bF e';rw[this,hK]at hk;cases hk
  ·have:=bF e;omega
 case stop=>
  rintro D c pre W hD _ hF;exact hF.elim
end
end Go.Proofs.YtjecakcpcnmieaaGreatDoor
namespace Go.Proofs
open Go.Shelf
def Tryz.lays189_ren:Go.Shelf.Ren:=⟨fun|189=>136|125=>181|257=>180|128=>215|129=>216|294=>206|295=>207|296=>208|297=>209|298=>210|299=>211|216=>212|300=>213|301=>214|328=>232|329=>233|330=>234|331=>235|332=>236|215=>237|343=>251|n=>n,fun|28=>34|3=>3|46=>280|0=>0|51=>252|53=>305|4=>4|183=>297|182=>296|131=>204|5=>5|9=>9|218=>311|222=>315|228=>326|229=>161|n=>n,fun|n=>n⟩
theorem Tryz.lays189:Go.Proofs.Lays.n189 Tryz.prog Tryz.lays189_ren:={
 mixed:=by kernel_rfl
 f125:=Tryz.func181.trans (aC some (by kernel_rfl))
 f128:=Tryz.func215.trans (aC some (by kernel_rfl))
 f129:=Tryz.func216.trans (aC some (by kernel_rfl))
 f189:=Tryz.func136.trans (aC some (by kernel_rfl))
 f215:=Tryz.func237.trans (aC some (by kernel_rfl))
 f216:=Tryz.func212.trans (aC some (by kernel_rfl))
 f257:=Tryz.func180.trans (aC some (by kernel_rfl))
 f294:=Tryz.func206.trans (aC some (by kernel_rfl))
 f295:=Tryz.func207.trans (aC some (by kernel_rfl))
 f296:=Tryz.func208.trans (aC some (by kernel_rfl))
 f297:=Tryz.func209.trans (aC some (by kernel_rfl))
 f298:=Tryz.func210.trans (aC some (by kernel_rfl))
 f299:=Tryz.func211.trans (aC some (by kernel_rfl))
 f300:=Tryz.func213.trans (aC some (by kernel_rfl))
 f301:=Tryz.func214.trans (aC some (by kernel_rfl))
 f328:=Tryz.func232.trans (aC some (by kernel_rfl))
 f329:=Tryz.func233.trans (aC some (by kernel_rfl))
 f330:=Tryz.func234.trans (aC some (by kernel_rfl))
 f331:=Tryz.func235.trans (aC some (by kernel_rfl))
 f332:=Tryz.func236.trans (aC some (by kernel_rfl))
 f343:=Tryz.func251.trans (aC some (by kernel_rfl))
 t0:=Tryz.underlying0
 a0:=Tryz.isAgg0
 z0:=Tryz.sizeOf0
 v0:=Tryz.zeroValue0
 t3:=Tryz.underlying3
 a3:=Tryz.isAgg3
 z3:=Tryz.sizeOf3
 v3:=Tryz.zeroValue3
 t4:=Tryz.underlying4
 a4:=Tryz.isAgg4
 z4:=Tryz.sizeOf4
 v4:=Tryz.zeroValue4
 t5:=Tryz.underlying5
 a5:=Tryz.isAgg5
 z5:=Tryz.sizeOf5
 v5:=Tryz.zeroValue5
 t9:=Tryz.underlying9
 a9:=Tryz.isAgg9
 z9:=Tryz.sizeOf9
 v9:=Tryz.zeroValue9
 t28:=Tryz.underlying34
 a28:=Tryz.isAgg34
 z28:=Tryz.sizeOf34
 v28:=Tryz.zeroValue34
 t46:=Tryz.underlying280
 a46:=Tryz.isAgg280
 z46:=Tryz.sizeOf280
 v46:=Tryz.zeroValue280
 t51:=Tryz.underlying252
 a51:=Tryz.isAgg252
 z51:=Tryz.sizeOf252
 v51:=Tryz.zeroValue252
 t53:=Tryz.underlying305
 a53:=Tryz.isAgg305
 z53:=Tryz.sizeOf305
 v53:=Tryz.zeroValue305
 t131:=Tryz.underlying204
 a131:=Tryz.isAgg204
 z131:=Tryz.sizeOf204
 v131:=Tryz.zeroValue204
 t182:=Tryz.underlying296
 a182:=Tryz.isAgg296
 z182:=Tryz.sizeOf296
 v182:=Tryz.zeroValue296
 t183:=Tryz.underlying297
 a183:=Tryz.isAgg297
 z183:=Tryz.sizeOf297
 v183:=Tryz.zeroValue297
 t218:=Tryz.underlying311
 a218:=Tryz.isAgg311
 z218:=Tryz.sizeOf311
 v218:=Tryz.zeroValue311
 t222:=Tryz.underlying315
 a222:=Tryz.isAgg315
 z222:=Tryz.sizeOf315
 v222:=Tryz.zeroValue315
 t228:=Tryz.underlying326
 a228:=Tryz.isAgg326
 z228:=Tryz.sizeOf326
 v228:=Tryz.zeroValue326
 t229:=Tryz.underlying161
 a229:=Tryz.isAgg161
 z229:=Tryz.sizeOf161
 v229:=Tryz.zeroValue161}
open Go.Sort Go.RowKit in
theorem Tryz.slices_Sort_int(blk off cap:Nat)(zs:List Int)(w:World)(hH:Holds (Value.int .i64) w blk off zs.toArray)(hblk:blk<w.heap.size)(hsz:zs.length<4611686018427387904):
 Calls Tryz.prog 136 #[.slice (some ⟨blk,off,none⟩) zs.length cap] w fun e w'=>
  e=.returned (.tuple #[])/\∃n os,w'=grow (putRow (Value.int .i64) (Sort.ahead w n) blk off (zs.mergeSort fun x y=>decide (x<=y)).toArray) os:=Any.slices_Sort_int Tryz.lays189 blk off cap zs w hH hblk hsz
def Tryz.laysM176_ren:Go.Shelf.Ren:=⟨fun|176=>178|249=>205|288=>231|283=>247|284=>248|285=>249|286=>250|129=>216|317=>255|318=>256|319=>257|320=>258|337=>264|338=>265|n=>n,fun|37=>49|2=>2|3=>3|53=>305|4=>4|9=>9|171=>322|0=>0|173=>324|212=>329|51=>252|5=>5|20=>20|213=>330|46=>280|232=>333|233=>334|n=>n,fun|17=>6|18=>7|19=>8|n=>n⟩
theorem Tryz.laysM176:Go.Proofs.LaysM.n176 Tryz.prog Tryz.laysM176_ren:={
 mixed:=by kernel_rfl
 f129:=Tryz.func216.trans (aC some (by kernel_rfl))
 f176:=Tryz.func178.trans (aC some (by kernel_rfl))
 f249:=Tryz.func205.trans (aC some (by kernel_rfl))
 f283:=Tryz.func247.trans (aC some (by kernel_rfl))
 f284:=Tryz.func248.trans (aC some (by kernel_rfl))
 f285:=Tryz.func249.trans (aC some (by kernel_rfl))
 f286:=Tryz.func250.trans (aC some (by kernel_rfl))
 f288:=Tryz.func231.trans (aC some (by kernel_rfl))
 f317:=Tryz.func255.trans (aC some (by kernel_rfl))
 f318:=Tryz.func256.trans (aC some (by kernel_rfl))
 f319:=Tryz.func257.trans (aC some (by kernel_rfl))
 f320:=Tryz.func258.trans (aC some (by kernel_rfl))
 f337:=Tryz.func264.trans (aC some (by kernel_rfl))
 f338:=Tryz.func265.trans (aC some (by kernel_rfl))
 t0:=Tryz.underlying0
 a0:=Tryz.isAgg0
 z0:=Tryz.sizeOf0
 v0:=Tryz.zeroValue0
 t2:=Tryz.underlying2
 a2:=Tryz.isAgg2
 z2:=Tryz.sizeOf2
 v2:=Tryz.zeroValue2
 t3:=Tryz.underlying3
 a3:=Tryz.isAgg3
 z3:=Tryz.sizeOf3
 v3:=Tryz.zeroValue3
 t4:=Tryz.underlying4
 a4:=Tryz.isAgg4
 z4:=Tryz.sizeOf4
 v4:=Tryz.zeroValue4
 t5:=Tryz.underlying5
 a5:=Tryz.isAgg5
 z5:=Tryz.sizeOf5
 v5:=Tryz.zeroValue5
 t9:=Tryz.underlying9
 a9:=Tryz.isAgg9
 z9:=Tryz.sizeOf9
 v9:=Tryz.zeroValue9
 t20:=Tryz.underlying20
 a20:=Tryz.isAgg20
 z20:=Tryz.sizeOf20
 v20:=Tryz.zeroValue20
 t37:=Tryz.underlying49
 a37:=Tryz.isAgg49
 z37:=Tryz.sizeOf49
 v37:=Tryz.zeroValue49
 t46:=Tryz.underlying280
 a46:=Tryz.isAgg280
 z46:=Tryz.sizeOf280
 v46:=Tryz.zeroValue280
 t51:=Tryz.underlying252
 a51:=Tryz.isAgg252
 z51:=Tryz.sizeOf252
 v51:=Tryz.zeroValue252
 t53:=Tryz.underlying305
 a53:=Tryz.isAgg305
 z53:=Tryz.sizeOf305
 v53:=Tryz.zeroValue305
 t171:=Tryz.underlying322
 a171:=Tryz.isAgg322
 z171:=Tryz.sizeOf322
 v171:=Tryz.zeroValue322
 t173:=Tryz.underlying324
 a173:=Tryz.isAgg324
 z173:=Tryz.sizeOf324
 v173:=Tryz.zeroValue324
 t212:=Tryz.underlying329
 a212:=Tryz.isAgg329
 z212:=Tryz.sizeOf329
 v212:=Tryz.zeroValue329
 t213:=Tryz.underlying330
 a213:=Tryz.isAgg330
 z213:=Tryz.sizeOf330
 t232:=Tryz.underlying333
 a232:=Tryz.isAgg333
 z232:=Tryz.sizeOf333
 v232:=Tryz.zeroValue333
 t233:=Tryz.underlying334
 a233:=Tryz.isAgg334
 z233:=Tryz.sizeOf334
 v233:=Tryz.zeroValue334
 g17:=by kernel_rfl
 g18:=by kernel_rfl
 g19:=by kernel_rfl
 i0:=by kernel_rfl
 i2:=by kernel_rfl
 i3:=by kernel_rfl
 i4:=by kernel_rfl
 i5:=by kernel_rfl
 i9:=by kernel_rfl
 i20:=by kernel_rfl
 i37:=by kernel_rfl
 i46:=by kernel_rfl
 i51:=by kernel_rfl
 i53:=by kernel_rfl
 i171:=by kernel_rfl
 i173:=by kernel_rfl
 i212:=by kernel_rfl
 i232:=by kernel_rfl
 i233:=by kernel_rfl
 m17:=by kernel_rfl
 m18:=by kernel_rfl
 m19:=by kernel_rfl}
open Go.RowKit Go.Sort Go.Lib in
theorem Tryz.strconv_AppendInt_10 (B n : Nat) (i : Int) (h0 : -9223372036854775808 ≤ i) (h1 : i ≤ 9223372036854775807) (sv : Value) (xs : List Value) (w : World) (hown : w.ownsRow B 5 1 sv n xs) (vo : B ≤ w.heap.size) (hlim : n + 21 ≤ 140737488355328) (ack : Lib.TabBelow Tryz.prog B w "internal/strconv.uint64pow10" .u64 Lib.pow10Tab) :
 Calls Tryz.prog 178 #[sv,.int .i64 i,.int .i64 10] w fun e w'=>∃v',e=.returned v'/\w'.ownsRow B 5 1 v' (n+(Lib.itoa i).length) (xs++Lib.byteCells (Lib.itoa i))/\Below B w w'/\Lib.OthersKept 5 none w w':=Any.strconv_AppendInt_10 Tryz.laysM176 B n i h0 h1 sv xs w hown vo hlim ack
def Tryz.laysNm220_ren:Go.Shelf.Ren:=⟨fun|20=>137|n=>n,fun|22=>34|3=>3|4=>4|0=>0|n=>n,fun|n=>n⟩
theorem Tryz.laysNm220:Go.Proofs.Lays2.n20 Tryz.prog Tryz.laysNm220_ren:={
 mixed:=by kernel_rfl
 f20:=Tryz.func137.trans (aC some (by kernel_rfl))
 t0:=Tryz.underlying0
 a0:=Tryz.isAgg0
 z0:=Tryz.sizeOf0
 v0:=Tryz.zeroValue0
 t3:=Tryz.underlying3
 a3:=Tryz.isAgg3
 z3:=Tryz.sizeOf3
 v3:=Tryz.zeroValue3
 t4:=Tryz.underlying4
 a4:=Tryz.isAgg4
 z4:=Tryz.sizeOf4
 v4:=Tryz.zeroValue4
 t22:=Tryz.underlying34
 a22:=Tryz.isAgg34
 z22:=Tryz.sizeOf34
 v22:=Tryz.zeroValue34
 i3:=by kernel_rfl}
open Go.RowKit Go.Lib Go.Sort in
theorem Tryz.slices_Compact_int(blk off cap:Nat)(zs:List Int)(w:World)(hH:Holds (Value.int .i64) w blk off zs.toArray)(hsz:zs.length<=9223372036854775807)(Jo:zs.length<=cap):
 Calls Tryz.prog 137 #[.slice (some ⟨blk,off,none⟩) zs.length cap] w fun e w'=>e=.returned (.slice (some ⟨blk,off,none⟩) (Lib.compact zs).length cap)/\∃q,w'=putRow (Value.int .i64) (Sort.ahead w q) blk off (Lib.compact zs++List.replicate (zs.length-(Lib.compact zs).length) 0).toArray:=Any.slices_Compact_int Tryz.laysNm220 blk off cap zs w hH hsz Jo
open Go.RowKit Go.Lib Go.Sort in
theorem Tryz.slices_Compact_int_empty(a:Option Addr)(cap:Nat)(w:World):
 Calls Tryz.prog 137 #[.slice a 0 cap] w fun e w'=>e=.returned (.slice a 0 cap)/\w'=w:=Any.slices_Compact_int_empty Tryz.laysNm220 a cap w
open Go.RowKit Go.Sort in
theorem Tryz.slices_Sort_int_none(p:Option Addr)(cap:Nat)(w:World):
 Calls Tryz.prog 136 #[.slice p 0 cap] w fun e w'=>e=.returned (.tuple #[])/\w'=w:=Any.slices_Sort_int_none Tryz.lays189 p cap w
end Go.Proofs
namespace Go.Proofs.YtjecakcpcnmieaaGreatDoor
open Go.RowKit Go.Maps Go.Lib Go.Sort Tryz
section
variable{kv:List (Lit×Nat)}{w w' W W':World}{v:Value}{xs zs:List Int}
def sr(zs:List Int):List Int:=zs.mergeSort fun x y=>decide (x<=y)
theorem yx(zs:List Int):(sr zs).length=zs.length:=by unfold sr;simp
theorem FC(h:w.ownsRow 0 3 1 v zs.length (kW zs))(hl:zs.length<=10000000000000):Z4 136 #[v] w fun e w'=>e=.returned (.tuple #[])/\w'.ownsRow 0 3 1 v zs.length (kW (sr zs))/\w.grownBy w' v.ownBlock:=by
 rcases h.2 with⟨rfl,hz⟩|⟨g,cap,cur,rfl,hb,hg,wJ,hcm,hcs,sq⟩
 ·have:zs=[]:=aR hz;subst this;refine(slices_Sort_int_none none 0 w).mono ?_;rintro e w' ⟨rfl,rfl⟩;exact⟨rfl,by simpa [sr,kW]using h,⟨rfl,rfl,rfl,ah _,fun _ _ _=>rfl⟩⟩
 ·refine(slices_Sort_int g 0 cap zs w (holds_of_block_i hg (by rw[Nat.mul_one]at sq;exact sq)) (eO hg) (by omega)).mono ?_;rintro e w' ⟨rfl,n,os,rfl⟩;exact⟨rfl,ownsRow_sorted_i (yx zs) (ax _) hg wJ hcm hcs,grownBy_sorted_i _⟩
theorem VL{g n cap m:Nat}{ys:List Value}(h:w.ownsRow 0 3 1 (Z9 g n cap) n ys)(hm:m<=n):w.ownsRow 0 3 1 (Z9 g m cap) m (ys.take m):=by
 have hl:=h.1;rcases h.2 with⟨h',_⟩|⟨g',cap',cur,h',hb,hg,wJ,hcm,hcs,sq⟩
 ·cases h'
 ·cases h';refine⟨by rw[bP];omega,Or.inr ⟨g,cap,cur,rfl,hb,hg,by omega,hcm,hcs,?_⟩⟩;rw[<-sq,eh];congr 1;omega
theorem Jp(zs:List Int):(Lib.compact zs).length<=zs.length:=by
 have key:∀(d:Array Int) (m:Nat),(compactUpTo d m).length<=m:=fun d m=>by
  induction m with
  |zero=>simp[compactUpTo]
  |succ m ih=>rw[compactUpTo_succ,ae];split<;>simp<;>omega
 exact key _ _
theorem FD(h:w.ownsRow 0 3 1 v zs.length (kW zs))(hl:zs.length<=10000000000000):Z4 137 #[v] w fun e w'=>∃v',e=.returned v'/\w'.ownsRow 0 3 1 v' (Lib.compact zs).length (kW (Lib.compact zs))/\w.grownBy w' v.ownBlock/\v'.ownBlock=v.ownBlock:=by
 rcases h.2 with⟨rfl,hz⟩|⟨g,cap,cur,rfl,hb,hg,wJ,hcm,hcs,sq⟩
 ·have:zs=[]:=aR hz;subst this;refine(slices_Compact_int_empty none 0 w).mono ?_;rintro e w' ⟨rfl,rfl⟩;exact⟨_,rfl,by simpa [Lib.compact,compactUpTo,kW]using h,⟨rfl,rfl,rfl,ah _,fun _ _ _=>rfl⟩,rfl⟩
 ·refine(slices_Compact_int g 0 cap zs w (holds_of_block_i hg (by rw[Nat.mul_one]at sq;exact sq)) (by omega) wJ).mono ?_;rintro e w' ⟨rfl,q,rfl⟩;have hle:=Jp zs;have hlen:(Lib.compact zs++List.replicate (zs.length-(Lib.compact zs).length) (0:Int)).length=zs.length:=by rw[ae,List.length_replicate];omega
  have e0:putRow (Value.int .i64) (Sort.ahead w q) g 0 (Lib.compact zs++List.replicate (zs.length-(Lib.compact zs).length) (0:Int)).toArray=grow (putRow encZ (Sort.ahead w q) g 0 (Lib.compact zs++List.replicate (zs.length-(Lib.compact zs).length) (0:Int)).toArray) #[]:=by
   unfold grow;rw[Array.append_empty]
  rw[e0];have r:=ownsRow_sorted_i (n:=q) (os:=#[]) hlen (ax _) hg wJ hcm hcs;refine⟨_,rfl,?_,grownBy_sorted_i _,rfl⟩;have r2:=VL r hle;have e1:((Lib.compact zs++List.replicate (zs.length-(Lib.compact zs).length) (0:Int)).map encZ).take (Lib.compact zs).length=kW (Lib.compact zs):=by
   rw[<-List.map_take,List.take_left];rfl
  rw[e1]at r2;exact r2
theorem Jq(d:Array Int)(hs:∀i j,i<j->j<d.size->d[i]!<=d[j]!):∀m,m<=d.size->(compactUpTo d m).Pairwise (· < ·)/\(∀x,x∈compactUpTo d m↔∃j,j<m/\d[j]! =x):=by
 intro m;induction m with
 |zero=>intro _;exact⟨by simp[compactUpTo],fun x=>by simp[compactUpTo]⟩
 |succ m ih=>
  intro hm;obtain⟨h1,h2⟩:=ih (by omega);rw[compactUpTo_succ];cases hk:keeps d m with
  |true=>
   refine⟨?_,fun x=>?_⟩
   ·simp only[if_true];rw[List.pairwise_append];refine⟨h1,by simp,fun a ha c hc=>?_⟩;rw[bc]at hc;subst hc;obtain⟨j,hj,rfl⟩:=(h2 a).1 ha;have hne:d[m]!≠d[m-1]!:=fun e=>by rw[keeps_neg (by omega) e]at hk;cases hk
    have h3:=hs (m-1) m (by omega) (by omega);have h4:d[j]!<=d[m-1]!:=by
     by_cases e:j=m-1
     ·rw[e];exact Int.le_refl _
     ·exact hs j (m-1) (by omega) (by omega)
    omega
   ·simp only[if_true,List.mem_append,bc,h2];constructor
    ·rintro(⟨j,hj,rfl⟩|rfl)
     ·exact⟨j,by omega,rfl⟩
     ·exact⟨m,by omega,rfl⟩
    ·rintro⟨j,hj,rfl⟩;by_cases e:j=m
     ·right;rw[e]
     ·left;exact⟨j,by omega,rfl⟩
  |false=>
   have hm0:0<m:=Nat.pos_of_ne_zero fun e=>by rw[keeps_lt_one d m (by omega)]at hk;cases hk
   have he:d[m]! =d[m-1]!:=aU fun hne=>by rw[keeps_pos hne]at hk;cases hk
   refine⟨by simpa using h1,fun x=>?_⟩;simp only[aA,bf,aO,h2];constructor
   ·rintro⟨j,hj,rfl⟩;exact⟨j,by omega,rfl⟩
   ·rintro⟨j,hj,rfl⟩;by_cases e:j=m
    ·exact⟨m-1,by omega,by rw[e,he]⟩
    ·exact⟨j,by omega,rfl⟩
theorem FE(zs:List Int):(Lib.compact (sr zs)).Pairwise (· < ·)/\∀x,x∈Lib.compact (sr zs)↔x∈zs:=by
 have hp:(sr zs).Pairwise (· <= ·):=by
  have:=List.pairwise_mergeSort (le:=fun x y:Int=>decide (x<=y)) (fun a b c h1 h2=>by simp at*;omega) (fun a b=>by simp;omega) zs;unfold sr;exact this.imp (fun h=>by simpa using h)
 have hget:∀i,i<(sr zs).length->(sr zs).toArray[i]! =(sr zs)[i]!:=fun i hi=>by simp[hi]
 obtain⟨h1,h2⟩:=Jq (sr zs).toArray (fun i j hij hj=>by
  have hj':j<(sr zs).length:=by simpa using hj
  have AU:i<(sr zs).length:=by omega
  have:=(List.pairwise_iff_getElem.1 hp) i j AU hj' hij;simpa [AU,hj']using this) (sr zs).length (by simp)
 refine⟨h1,fun x=>(h2 x).trans ?_⟩;have hm:x∈sr zs↔x∈zs:=by unfold sr;exact List.mem_mergeSort
 rw[<-hm,List.mem_iff_getElem];constructor
 ·rintro⟨j,hj,rfl⟩;exact⟨j,hj,by simp[hj]⟩
 ·rintro⟨j,hj,rfl⟩;exact⟨j,hj,by simp[hj]⟩
end
section
variable{kv:List (Lit×Nat)}{w w' W W':World}{v:Value}{xs zs:List Int}
theorem Jr(w:World)(Bm b:Nat)(hBm:Bm<w.heap.size)(hm:w.cell? ⟨Bm,0,none⟩=some (.map (some b)))(hM:j4 w 165 b kv)(l9:(kv.map (·.1)).Nodup)(hkk:∀p∈kv,WideAt.IsKeyLit p.1)(hl:kv.length<=10000000000000):
  Z4 217 #[.func (.func 179) #[] #[Z8 Bm]] w fun e w'=>∃va vn vc ys,e=.returned (.slice va vn vc)/\ys.Perm (lO kv)/\w'.ownsRow 0 3 1 (.slice va vn vc) ys.length (kW ys)/\Z5 w w'/\∀k,(Value.slice va vn vc).ownBlock=some k->w.heap.size<=k:=by
 have h0:=vh (v:=.slice none 0 0) (xs:=[]) w (bG _ _ _ _) Bm b hBm hm hM l9 hkk (by simp;omega);have HA:Hid (Z4 134 #[.slice none 0 0,.func (.func 179) #[] #[Z8 Bm]] w fun e w'=>∃va vn vc ys,e=.returned (.slice va vn vc)/\ys.Perm (lO kv)/\w'.ownsRow 0 3 1 (.slice va vn vc) ys.length (kW ys)/\Z5 w w'/\∀k,(Value.slice va vn vc).ownBlock=some k->w.heap.size<=k):=a_ (h0.mono fun e w' ⟨v',ys,h1,h2,h3,h4,h5⟩=>by
  obtain⟨va,vn,vc,rfl⟩:=ft h3;refine⟨va,vn,vc,ys,h1,h2,by simpa using h3,h4.up (fun k hk=>by cases hk) (ah _),fun k e=>?_⟩;rcases h5 k e with h|h
  ·cases h
  ·exact h)
 clear h0 hm hM l9 hkk hl;go_enter func217,ntmps217;go_wp2_with(go_at_call 134;refine HA.out.mono ?_;rintro e w5 ⟨va,vn,vc,ys,rfl,h5⟩;have H5:=a_ h5;clear HA h5);go_ret;exact⟨va,vn,vc,ys,rfl,H5.out⟩
theorem M7(w:World)(Bm b:Nat)(hBm:Bm<w.heap.size)(hm:w.cell? ⟨Bm,0,none⟩=some (.map (some b)))(hM:j4 w 165 b kv)(l9:(kv.map (·.1)).Nodup)(hkk:∀p∈kv,WideAt.IsKeyLit p.1)(hl:kv.length<=10000000000000):
  Z4 183 #[.func (.func 179) #[] #[Z8 Bm]] w fun e w'=>∃va vn vc ys,e=.returned (.slice va vn vc)/\ys.Perm (lO kv)/\w'.ownsRow 0 3 1 (.slice va vn vc) ys.length (kW (sr ys))/\Z5 w w'/\∀k,(Value.slice va vn vc).ownBlock=some k->w.heap.size<=k:=by
 have HA:=a_ (Jr w Bm b hBm hm hM l9 hkk hl);have HS:Hid (∀w1 va vn vc (ys:List Int),ys.Perm (lO kv)->w1.ownsRow 0 3 1 (.slice va vn vc) ys.length (kW ys)->Z5 w w1->(∀k,(Value.slice va vn vc).ownBlock=some k->w.heap.size<=k)->Z4 136 #[.slice va vn vc] w1 fun e w'=>e=.returned (.tuple #[])/\w'.ownsRow 0 3 1 (.slice va vn vc) ys.length (kW (sr ys))/\Z5 w w'):=fun w1 va vn vc ys hp hr hb ho=>by
  have LL:ys.length=kv.length:=by rw[hp.length_eq];simp[lO]
  refine(FC hr (by omega)).mono ?_;rintro e w' ⟨h1,h2,h3⟩;exact⟨h1,h2,hb.grown h3 hb.size ho⟩
 clear hm hM l9 hkk hl;go_enter func183,ntmps183;go_wp2_with(first|(go_at_call 217;refine HA.out.mono ?_;rintro e w5 ⟨va,vn,vc,ys,rfl,p1,p2,p3,p4⟩;have HC:=a_ (HS.out _ _ _ _ _ p1 p2 p3 p4);have P1:=a_ p1;have P4:=a_ p4;clear HA HS p1 p2 p3 p4)|(go_at_call 136;refine HC.out.mono ?_;rintro e w6 ⟨rfl,p5,p6⟩;have P5:=a_ p5;have P6:=a_ p6;clear HC p5 p6));go_ret;exact⟨va,vn,vc,ys,rfl,P1.out,P5.out,P6.out,P4.out⟩
end
section
variable{kv:List (Lit×Nat)}{w w' W W':World}{v:Value}{xs:List (Br×Nat)}{b:gZ}{x:Br×Nat}
def mX(l:List Nat):List Value:=l.map fun k=> .int .i64 (k:Nat)
theorem FF(l:List Int)(h:∀z∈l,0<=z):kW l=mX (l.map Int.toNat):=by
 unfold kW mX;rw[dw];refine cU fun z hz=>?_;have:=h z hz;simp only[Function.comp];congr 1;omega
theorem FH(x:Br)(hs:∀y∈x.kids,y.1.2.length<=1000000)(hn:(x.kids.map (·.1)).Nodup):((ij x).map (·.1)).Nodup/\(∀p∈ij x,WideAt.IsKeyLit p.1):=by
 refine⟨?_,fun p hp=>?_⟩
 ·unfold ij;rw[dw];unfold List.Nodup at hn ⊢;rw[ey]at hn ⊢;refine hn.imp_of_mem fun ha hb hne e=>hne ?_;exact Fw (hs _ ha) (hs _ hb) e
 ·unfold ij at hp;obtain⟨y,hy,rfl⟩:=List.mem_map.1 hp;exact Dq.key (QT y.1 (hs y hy))
theorem BM(x:Br):lO (ij x)=(x.kids.map (·.2)).map fun k:Nat=>(k:Int):=by
 unfold lO ij;rw[dw,dw];rfl
theorem M8(h0:b[0]?=some x.1)(hu:MY b){ys:List Int}(hp:ys.Perm (lO (ij x.1))):kW (sr ys)=mX (iN b).due/\ys.length=(iN b).due.length:=by
 rw[BM]at hp;have hpos:∀z∈sr ys,0<=z:=fun z hz=>by
  have:z∈ys:=by unfold sr at hz;exact List.mem_mergeSort.1 hz
  obtain⟨k,_,rfl⟩:=List.mem_map.1 (hp.mem_iff.1 this);omega
 have hs:(sr ys).Pairwise (· <= ·):=by
  have:=List.pairwise_mergeSort (le:=fun x y:Int=>decide (x<=y)) (fun a b c h1 h2=>by simp at*;omega) (fun a b=>by simp;omega) ys;unfold sr;exact this.imp (fun h=>by simpa using h)
 have Q_:((sr ys).map Int.toNat).Perm (x.1.kids.map (·.2)):=by
  have h1:(sr ys).Perm ((x.1.kids.map (·.2)).map fun k:Nat=>(k:Int)):=by unfold sr;exact(List.mergeSort_perm ys _).trans hp
  have h2:=h1.map Int.toNat;rw[dw]at h2;have e:(x.1.kids.map (·.2)).map (Int.toNat∘fun k:Nat=>(k:Int))=x.1.kids.map (·.2):=by
   conv=>rhs;rw[<-List.map_id (x.1.kids.map (·.2))]
   refine cU fun k _=>?_;simp
  rw[e]at h2;exact h2
 have hl:=Jj h0 hu (by rw[ey];exact hs.imp (fun h=>by omega)) Q_;rw[FF _ hpos,hl];refine⟨rfl,?_⟩;rw[<-hl,cC,yx]
theorem Dy:(prog.info? 193).map (·.size)=some 4:=by kernel_rfl
end
section
variable{kv:List (Lit×Nat)}{w w' W W':World}{v:Value}{xs:List (Br×Nat)}{b:gZ}{x:Br×Nat}
theorem aa7{g:Nat}{t:TypeId}{a0 a1 a2 a3:Value}(h:w.heap[g]?=some (.cells #[a0,a1,a2,a3] t (0,0)))(b0 b1 b2 b3:Value):(w.setCells g 0 [b0,b1,b2,b3]).heap[g]?=some (.cells #[b0,b1,b2,b3] t (0,0)):=by
 have h1:=eV (i:=0) h b0;have h2:=eV (i:=1) h1 b1;have h3:=eV (i:=2) h2 b2;have h4:=eV (i:=3) h3 b3;exact h4
theorem Ra{g:Nat}{t:TypeId}{a0 a1 a2 a3:Value}(h:w.heap[g]?=some (.cells #[a0,a1,a2,a3] t (0,0))):w.there g 0 4:=fun j hj=>by
 refine⟨?_,eP h⟩;rw[ay]
 match j,hj with
 |0,_=>rw[cell_of (i:=0) h rfl];rfl
 |1,_=>rw[cell_of (i:=1) h rfl];rfl
 |2,_=>rw[cell_of (i:=2) h rfl];rfl
 |3,_=>rw[cell_of (i:=3) h rfl];rfl
abbrev aT(va:Option Addr)(vn vc:Nat)(p q r:Bool):Array Value:=#[.slice va vn vc,.bool p,.bool q,.bool r]
theorem aa8(va:Option Addr)(vn vc:Nat)(p q r:Bool):(aT va vn vc p q r).all (·.oneCell')=true:=by simp[aT,Value.oneCell']
theorem Yf(va:Option Addr)(vn vc:Nat)(p q r:Bool):(prog.info? 193).map (·.size)=some (aT va vn vc p q r).size:=Dy
theorem zq(h:BR w v xs)(hb:xs.map (·.1)=b)(hw:A3 b)(hu:MY b)(hs:xz b)(hf:∀y∈b,y.kids.length<=b.length)(hl:b.length<=2300000000000):Z4 140 #[v] w fun e w'=>∃va vn vc,e=.returned (.agg #[.slice va vn vc,.bool false,.bool false,.bool false])/\w'.ownsRow 0 3 1 (.slice va vn vc) (iN b).due.length (mX (iN b).due)/\Z5 w w'/\∀k,(Value.slice va vn vc).ownBlock=some k->w.heap.size<=k:=by
 have Fu:xs.length=b.length:=by rw[<-hb];simp
 have h0:=hw.1;have hx:xs[0]?=some xs[0]:=aw (by omega);generalize xs[0]=x at hx;have tV:b[0]?=some x.1:=by rw[<-hb,aX,hx];rfl
 have Jl:x∈xs:=aZ hx;obtain⟨g,cap,rfl,hg,wJ,g0,g1,g2,g3,g4⟩:=h.at hx;rw[Nat.zero_mul,ay]at g2;obtain⟨lI,hk2⟩:=FH x.1 (hs x.1 (aZ tV)) (hw.2 0 _ tV).2;have qU:(ij x.1).length<=10000000000000:=by have:=hf x.1 (aZ tV);unfold ij;rw[cC];omega
 have hR:=eL w (.cells #[.slice none 0 0,.bool false,.bool false,.bool false] 193);have hb1:=(Below.refl w.heap.size w).alloc (ah _) (.cells #[.slice none 0 0,.bool false,.bool false,.bool false] 193);have c2:(w.alloc (.cells #[.slice none 0 0,.bool false,.bool false,.bool false] 193)).cell? ⟨g,2,none⟩=some (.map (some x.2)):=(aj (hb1.block g hg)).trans g2;have HV:=a_ (kH x.2 (w.alloc (.cells #[.slice none 0 0,.bool false,.bool false,.bool false] 193)));have hb2:=hb1.alloc hb1.size (.cells #[.map (some x.2)] 163);have hB2:=eL (w.alloc (.cells #[.slice none 0 0,.bool false,.bool false,.bool false] 193)) (.cells #[.map (some x.2)] 163);have hM:=(h.map x Jl).of (hb2.block _ (h.map x Jl).lt);rw[bI]at hB2;have HS:=a_ (M7 _ (w.heap.size+1) x.2 (eO hB2) (cell_of hB2 rfl) hM lI hk2 qU);have HE:Hid (∀w6 va vn vc (ys:List Int),ys.Perm (lO (ij x.1))->w6.ownsRow 0 3 1 (.slice va vn vc) ys.length (kW (sr ys))->Below ((w.alloc (.cells #[.slice none 0 0,.bool false,.bool false,.bool false] 193)).alloc (.cells #[.map (some x.2)] 163)).heap.size ((w.alloc (.cells #[.slice none 0 0,.bool false,.bool false,.bool false] 193)).alloc (.cells #[.map (some x.2)] 163)) w6->(∀k,(Value.slice va vn vc).ownBlock=some k->((w.alloc (.cells #[.slice none 0 0,.bool false,.bool false,.bool false] 193)).alloc (.cells #[.map (some x.2)] 163)).heap.size<=k)->
   w6.there w.heap.size 0 4/\Hid ((w6.setCells w.heap.size 0 [.slice va vn vc,.bool false,.bool false,.bool false]).heap[w.heap.size]?=some (.cells #[.slice va vn vc,.bool false,.bool false,.bool false] 193 (0,0))/\(w6.setCells w.heap.size 0 [.slice va vn vc,.bool false,.bool false,.bool false]).ownsRow 0 3 1 (.slice va vn vc) (iN b).due.length (mX (iN b).due)/\Z5 w (w6.setCells w.heap.size 0 [.slice va vn vc,.bool false,.bool false,.bool false])/\∀k,(Value.slice va vn vc).ownBlock=some k->w.heap.size<=k)):=fun w6 va vn vc ys hp hr EV ho=>by
  have hR6:w6.heap[w.heap.size]?=some (.cells #[.slice none 0 0,.bool false,.bool false,.bool false] 193 (0,0)):=by
   rw[EV.block _ (by simp;omega),ap _ _ _ (by simp)];exact hR
  obtain⟨e1,e2⟩:=M8 tV hu hp;rw[e1,e2]at hr;have hne:(Value.slice va vn vc).ownBlock≠some w.heap.size:=gP hr hR6 (by decide);have lJ:Z5 w w6:=hb2.trans (fE EV hb2.size);refine⟨Ra hR6,a_ ⟨aa7 hR6 _ _ _ _,eI hr fun k e=>fK (fun e'=>hne (by rw[e,e'])) _ _ _,?_,fun k e=>ar hb2.size (ho k e)⟩⟩;obtain⟨s1,s2,s3,s4⟩:=jZ (g:=w.heap.size) [.slice va vn vc,.bool false,.bool false,.bool false] 0 w6;refine⟨s1.trans lJ.os,s2.trans lJ.tape,s3.trans lJ.output,by rw[s4];exact lJ.size,fun k hk=>?_⟩;rw[fK (by omega)];exact lJ.block k hk
 have adr:(0:Int)<(xs.length:Int):=by omega
 clear h hw hu hs hf hl hg wJ g0 g1 g2 g3 g4 lI hk2 qU hR hb1 hb2 hB2 hM tV Jl hx hb;generalize xs.length=n at*
 generalize (iN b).due=dd at*
 go_enter func140,ntmps140;go_wp2_with(first
  |(go_at_call 135;refine HV.out.mono ?_;rintro e w5 ⟨rfl,rfl⟩;clear HV)
  |(go_at_call 183;refine HS.out.mono ?_;rintro e w6 ⟨va,vn,vc,ys,rfl,q1,q2,q3,q4⟩;obtain⟨IW,H6⟩:=HE.out _ _ _ _ _ q1 q2 q3 q4;have M9:=a_ IW;clear IW;clear HS HE q1 q2 q3 q4)
  |(refine wpList_store_mid rfl 193 (.tmp 2) (.tmp 9) rfl w.heap.size 0 (aT va vn vc false false false) rfl rfl M9.out (Yf ..) (aa8 ..) ?_))
 obtain⟨q1,q2⟩:=H6.out;exact aV (v:=.agg #[.slice va vn vc,.bool false,.bool false,.bool false]) (results_cell_row (p:=2) (ty:=193) results140 _ _ w.heap.size 193 _ (0,0) _ rfl q1 underlying193 rfl Dy) rfl ⟨va,vn,vc,rfl,q2⟩
end
section
variable{w w' W W':World}{v:Value}{xs:List (Br×Nat)}{b:gZ}{x:Br×Nat}{A0:Nat}
theorem VM{k:Nat}{c:Bool}(c0:w.cell? ⟨A0,0,none⟩=some v)(h:BR w v xs)(hk:xs[k]?=some x)(hc:(x.1.sg.2==[35])=c):Z4 139 #[.int .i64 (k:Nat),Z8 A0] w (Z6 (.bool c) w):=by
 obtain⟨g,cap,rfl,hg,wJ,g0,g1,g2,g3,g4⟩:=h.at hk;have qU:(k:Int)<(xs.length:Int):=by have:=(List.getElem?_eq_some_iff.1 hk).1;omega
 have hb:((bs x.1.sg.2).toList==[35])=c:=by rw[kU];exact hc
 clear h hk hc wJ g0 g2 g3 g4;generalize bs x.1.sg.2=T at*
 generalize xs.length=n at*
 cases c<;>
 ·go_enter func139,ntmps139;go_wp2;go_ret;exact⟨rfl,rfl⟩
def M_(b:gZ)(l:List Nat):Bool:=l.any (Vo b)
theorem VN{k:Nat}(hb:xs.map (·.1)=b)(hk:xs[k]?=some x):Vo b k=(x.1.sg.2==[35]):=by
 unfold Vo;rw[<-hb,aX,hk];rfl
theorem Na{l:List Nat}{va:Option Addr}{vn vc:Nat}(c0:w.cell? ⟨A0,0,none⟩=some v)(h:BR w v xs)(hb:xs.map (·.1)=b)(hr:w.ownsRow 0 3 1 (.slice va vn vc) l.length (mX l))(hl:∀k∈l,k<b.length)(VO:l.length<=10000000000000):Z4 182 #[.slice va vn vc,.func (.func 139) #[] #[Z8 A0]] w fun e w'=>∃k:Int,e=.returned (.int .i64 k)/\(decide (0<=k)=M_ b l)/\w'=w:=by
 have Fu:xs.length=b.length:=by rw[<-hb];simp
 have X8:vn=l.length:=by
  rcases hr.2 with⟨h',h0⟩|⟨g,cap,cur,h',_⟩
  ·cases h';exact h0.symm
  ·cases h';rfl
 have HR:Hid (∀i,i<l.length->∃g k c,va=some ⟨g,0,none⟩/\w.cell? ⟨g,i,none⟩=some (.int .i64 ((k:Nat):Int))/\Hid (M_ b (l.take (i+1))=(M_ b (l.take i)||c))/\Hid (Z4 139 #[.int .i64 ((k:Nat):Int),Z8 A0] w (Z6 (.bool c) w))):=fun i hi=>by
  have Zl:l[i]?=some l[i]:=aw hi;have hk:=hl _ (bU hi);have hx:xs[l[i]]?=some xs[l[i]]:=aw (by omega);rcases hr.2 with⟨h',h0⟩|⟨g,cap,cur,h',EV,hg,wJ,hcm,hcs,sq⟩
  ·omega
  ·cases h';refine⟨g,l[i],_,rfl,?_,a_ ?_,a_ (VM c0 h hx rfl)⟩
   ·rw[hr.cellAt i (by omega)];unfold mX;rw[aX,Zl];rfl
   ·rw[aN hi];unfold M_;rw[dF,dR,List.any_nil,dh,VN hb hx]
 have HN:Hid (M_ b (l.take l.length)=M_ b l):=by rw[bt];exact a_ rfl
 have HP:Hid (∀i,M_ b (l.take i)=true->M_ b l=true):=fun i h=>by
  unfold M_ at*
  rw[List.any_eq_true]at*
  obtain⟨x,hx,h2⟩:=h;exact⟨x,dB hx,h2⟩
 subst X8;clear h hr hl c0;generalize l.length=n at*
 go_enter func182,ntmps182;go_wp2_with fail;go_loopw [5,8,9,10,11,12,13,14,15,16,17,18] (fun _ u8 _ _ _ _ _ _ _ _ _ _ wr=>∃i:Nat,u8=.int .i64 i/\i<=n/\Hid (M_ b (l.take i)=false)/\wr=w) (fun _ u8 _ _ _ _ _ _ _ _ _ _ _=>n-(RowKit.intOf u8).toNat)
 case atStart=>exact⟨0,rfl,ax _,a_ rfl,rfl⟩
 case round=>
  obtain⟨i,rfl,hi,HM,hww⟩:=hrel;have hwv:=hww.symm;clear hww;subst hwv;by_cases hlt:i<n
  ·obtain⟨g,k,c,rfl,a0,HC,HF⟩:=HR.out i hlt;have hdec:decide ((i:Int)<n)=true:=by simp;omega
   have LK:(i:Int)<n:=by omega
   have HI:Hid (M_ b (l.take (i+1))=c):=a_ (by rw[HC.out,HM.out];rfl);clear HR HC HM;cases c with
   |true=>
    go_wp2_with(go_at_call 139;refine HF.out.mono ?_;rintro e w5 ⟨rfl,h5⟩;have h6:=h5.symm;clear h5;subst h6;clear HF);go_ret;exact⟨i,rfl,by rw[HP.out _ HI.out];simp,rfl⟩
   |false=>
    go_wp2_with(go_at_call 139;refine HF.out.mono ?_;rintro e w5 ⟨rfl,h5⟩;have h6:=h5.symm;clear h5;subst h6;clear HF);exact⟨⟨i+1,by simp,by omega,by simpa using HI⟩,by simp only[RowKit.intOf];omega⟩
  ·have hdec:decide ((i:Int)<n)=false:=by simp;omega
   obtain rfl:i=n:=by omega
   go_wp2;go_ret;exact⟨-1,rfl,by rw[<-HN.out,HM.out];rfl,rfl⟩
theorem Dz{l:List Nat}{va:Option Addr}{vn vc:Nat}(c0:w.cell? ⟨A0,0,none⟩=some v)(h:BR w v xs)(hb:xs.map (·.1)=b)(hr:w.ownsRow 0 3 1 (.slice va vn vc) l.length (mX l))(hl:∀k∈l,k<b.length)(VO:l.length<=10000000000000):Z4 138 #[.slice va vn vc,.func (.func 139) #[] #[Z8 A0]] w (Z6 (.bool (M_ b l)) w):=by
 have HI:=a_ (Na c0 h hb hr hl VO);clear c0 h hr hl;generalize M_ b l=c at*
 cases c with
 |true=>
  go_enter func138,ntmps138;go_wp2_with(go_at_call 182;refine HI.out.mono ?_;rintro e w5 ⟨k,rfl,hk,h5⟩;have hk2:decide (k≥0)=true:=hk;have hk3:(0:Int)<=k:=cp hk;have h6:=h5.symm;clear h5;subst h6;clear HI);go_ret;first|exact⟨rfl,rfl⟩|exact⟨by simp[hk3],rfl⟩
 |false=>
  go_enter func138,ntmps138;go_wp2_with(go_at_call 182;refine HI.out.mono ?_;rintro e w5 ⟨k,rfl,hk,h5⟩;have hk2:decide (k≥0)=false:=hk;have hk3:¬(0:Int)<=k:=of_decide_eq_false hk;have h6:=h5.symm;clear h5;subst h6;clear HI);go_ret;first|exact⟨rfl,rfl⟩|exact⟨by simp[hk3],rfl⟩
end
section
variable{w w' W W' W1 w3:World}{v tv:Value}{xs:List (Br×Nat)}{b:gZ}{x:Br×Nat}{zs:List Int}{nd wh:Bool}
structure NM(w:World)(v:Value)(W:World)(tv:Value)(zs:List Int)(nd wh:Bool):Prop where
 b0:W.heap[w.heap.size]?=some (.cells #[v] 115 (0,0))
 b2:W.heap[w.heap.size+1+1]?=some (.cells #[.slice none 0 0,.bool false,.bool false,.bool false] 193 (0,0))
 b3:W.heap[w.heap.size+1+1+1]?=some (.cells #[tv,.bool nd,.bool wh,.bool false] 193 (0,0))
 row:W.ownsRow 0 3 1 tv zs.length (kW zs)
 own:∀k,tv.ownBlock=some k->w.heap.size<=k
 below:Z5 w W
theorem NM.on(h:NM w v W tv zs nd wh)(hb:Z5 W W'):NM w v W' tv zs nd wh:=
 ⟨(hb.block _ (eO h.b0)).trans h.b0,(hb.block _ (eO h.b2)).trans h.b2,(hb.block _ (eO h.b3)).trans h.b3,eI h.row fun k e=>hb.block k (eU h.row e),h.own,h.below.trans (fE hb h.below.size)⟩
theorem NM.put{v':Value}{zs':List Int}(h:NM w v W tv zs nd wh)(ho:w3.ownsRow 0 3 1 v' zs'.length (kW zs'))(hf:Fr (fun k=>tv.ownBlock=some k) W w3)(hat:∀k,v'.ownBlock=some k->tv.ownBlock=some k\/W.heap.size<=k):
  (w3.cell? ⟨w.heap.size+1+1+1,0,none⟩=some tv/\w3.frozen? ⟨w.heap.size+1+1+1,0,none⟩=false)/\NM w v (w3.setCell ⟨w.heap.size+1+1+1,0,none⟩ v') v' zs' nd wh:=by
 have n0:=gP h.row h.b0 (by decide);have n2:=gP h.row h.b2 (by decide);have n3:=gP h.row h.b3 (by decide);have c0:=(hf.block _ (eO h.b0) n0).trans h.b0;have c2:=(hf.block _ (eO h.b2) n2).trans h.b2;have c3:=(hf.block _ (eO h.b3) n3).trans h.b3;have hne:v'.ownBlock≠some (w.heap.size+1+1+1):=gP ho c3 (by decide);refine⟨⟨cell_of c3 rfl,eP c3⟩,⟨(af _ _ _ _ (by show w.heap.size≠w.heap.size+1+1+1;omega)).trans c0,(af _ _ _ _ (by show w.heap.size+1+1≠w.heap.size+1+1+1;omega)).trans c2,by rw[eV c3];rfl,eI ho fun k e=>af _ _ _ _ (fun e'=>hne (by rw[e,e'])),fun k e=>?_,?_⟩⟩
 ·rcases hat k e with h1|h1
  ·exact h.own k h1
  ·exact ar h.below.size h1
 ·have hb3:Z5 w w3:=h.below.trans (hf.up (fun k hk=>h.own k hk) h.below.size);exact hb3.setCell (p:=⟨w.heap.size+1+1+1,0,none⟩) (show w.heap.size<=w.heap.size+1+1+1 by omega) _
theorem NM.set(h:NM w v W tv zs nd wh)(LQ PX:Bool):(W.cell? ⟨w.heap.size+1+1+1,1,none⟩=some (.bool nd)/\W.frozen? ⟨w.heap.size+1+1+1,1,none⟩=false/\(W.setCell ⟨w.heap.size+1+1+1,1,none⟩ (.bool LQ)).cell? ⟨w.heap.size+1+1+1,2,none⟩=some (.bool wh)/\(W.setCell ⟨w.heap.size+1+1+1,1,none⟩ (.bool LQ)).frozen? ⟨w.heap.size+1+1+1,2,none⟩=false)/\
  NM w v ((W.setCell ⟨w.heap.size+1+1+1,1,none⟩ (.bool LQ)).setCell ⟨w.heap.size+1+1+1,2,none⟩ (.bool PX)) tv zs LQ PX:=by
 have s1:=eV (i:=1) h.b3 (.bool LQ);have s2:=eV (i:=2) s1 (.bool PX);have n3:=gP h.row h.b3 (by decide);have other:∀k,k≠w.heap.size+1+1+1->((W.setCell ⟨w.heap.size+1+1+1,1,none⟩ (.bool LQ)).setCell ⟨w.heap.size+1+1+1,2,none⟩ (.bool PX)).heap[k]?=W.heap[k]?:=fun k hk=>by rw[af _ _ _ _ hk,af _ _ _ _ hk]
 refine⟨⟨cell_of h.b3 rfl,eP h.b3,cell_of s1 rfl,eP s1⟩,⟨(other _ (by omega)).trans h.b0,(other _ (by omega)).trans h.b2,s2,eI h.row fun k e=>other k (fun e'=>n3 (by rw[e,e'])),h.own,?_⟩⟩;exact(h.below.setCell (p:=⟨w.heap.size+1+1+1,1,none⟩) (show w.heap.size<=w.heap.size+1+1+1 by omega) _).setCell (p:=⟨w.heap.size+1+1+1,2,none⟩) (show w.heap.size<=w.heap.size+1+1+1 by omega) _
def Zm(l:List Nat)(i:Nat):Nat:=if i=0 then 0 else(l[i-1]?.getD 0)+1
structure PF(b:gZ)(l:List Nat)(s0:Bool)(name:L)(i:Nat)(zs:List Int)(nd wh:Bool):Prop where
 nd:nd=(l.take i).any fun j=>ou b j name&&Vn b j
 wh:wh=(s0||(l.take i).any fun j=>ou b j name&&Qo b j)
 mem:∀z,z∈zs↔∃k:Nat,z=k/\((k∈l.take i/\wG b k=true)\/∃j∈l.take i,ou b j name=true/\k∈ot b j)
 len:zs.length<=i+A9 b (Zm l i)
theorem PF.zero(b:gZ)(l:List Nat)(s0:Bool)(name:L):PF b l s0 name 0 [] false s0:=⟨by simp,by simp,fun z=>by simp,by simp⟩
theorem PF.step{l:List Nat}{s0:Bool}{name:L}{i k:Nat}{q:Br}{ys:List Int}(h:PF b l s0 name i zs nd wh)(hr:l.Pairwise (· < ·))(hk:l[i]?=some k)(hq:b[k]?=some q)(Rb:if rh q.sg name=true then ys.Perm ((q.kids.map (·.2)).map fun k:Nat=>(k:Int))else ys=[]):
  PF b l s0 name (i+1) ((if q.sg.1=true then zs++[(k:Int)]else zs)++ys) (nd||(rh q.sg name&&q.nd)) (wh||(rh q.sg name&&q.wh)):=by
 obtain⟨Fv,e⟩:=List.getElem?_eq_some_iff.1 hk;have sq:l.take (i+1)=l.take i++[k]:=by rw[aN Fv,e]
 have f1:ou b k name=rh q.sg name:=by unfold ou;rw[hq]
 have f2:Vn b k=q.nd:=by unfold Vn;rw[hq]
 have f3:Qo b k=q.wh:=by unfold Qo;rw[hq]
 have f4:wG b k=q.sg.1:=by unfold wG;rw[hq]
 have f5:ot b k=q.kids.map (·.2):=by unfold ot;rw[hq]
 refine⟨?_,?_,fun z=>?_,?_⟩
 ·rw[sq,dF,dR,List.any_nil,dh,f1,f2,h.nd]
 ·rw[sq,dF,dR,List.any_nil,dh,f1,f3,h.wh,Bool.or_assoc]
 ·have hz:z∈(if q.sg.1=true then zs++[(k:Int)]else zs)↔z∈zs\/(q.sg.1=true/\z=(k:Int)):=by split<;>simp_all
  have hy:z∈ys↔rh q.sg name=true/\∃k':Nat,z=k'/\k'∈q.kids.map (·.2):=by
   by_cases hf:rh q.sg name=true
   ·rw[if_pos hf]at Rb;rw[Rb.mem_iff,List.mem_map];constructor
    ·rintro⟨k',h1,rfl⟩;exact⟨hf,k',rfl,h1⟩
    ·rintro⟨_,k',rfl,h1⟩;exact⟨k',h1,rfl⟩
   ·rw[if_neg hf]at Rb;subst Rb;simp[hf]
  rw[List.mem_append,hz,hy,h.mem,sq];constructor
  ·rintro((⟨k',rfl,h1|⟨j,hj,h1⟩⟩|⟨h1,rfl⟩)|⟨h1,k',rfl,h2⟩)
   ·exact⟨k',rfl,Or.inl ⟨List.mem_append_left _ h1.1,h1.2⟩⟩
   ·exact⟨k',rfl,Or.inr ⟨j,List.mem_append_left _ hj,h1⟩⟩
   ·exact⟨k,rfl,Or.inl ⟨by simp,by rw[f4];exact h1⟩⟩
   ·exact⟨k',rfl,Or.inr ⟨k,by simp,by rw[f1];exact h1,by rw[f5];exact h2⟩⟩
  ·rintro⟨k',rfl,⟨h1,h2⟩|⟨j,hj,h1,h2⟩⟩
   ·rcases List.mem_append.1 h1 with h1|h1
    ·exact Or.inl (Or.inl ⟨k',rfl,Or.inl ⟨h1,h2⟩⟩)
    ·rw[bc]at h1;subst h1;exact Or.inl (Or.inr ⟨by rw[<-f4];exact h2,rfl⟩)
   ·rcases List.mem_append.1 hj with hj|hj
    ·exact Or.inl (Or.inl ⟨k',rfl,Or.inr ⟨j,hj,h1,h2⟩⟩)
    ·rw[bc]at hj;subst hj;exact Or.inr ⟨by rw[<-f1];exact h1,k',rfl,by rw[<-f5];exact h2⟩
 ·have hb:Zm l (i+1)=k+1:=by unfold Zm;simp[hk]
  have hle:Zm l i<=k:=by
   unfold Zm;split
   ·omega
   ·next h0=>
    have EZ:i-1<l.length:=by omega
    have:=(List.pairwise_iff_getElem.1 hr) (i-1) i EZ Fv (by omega);rw[aw EZ,Option.getD_some];omega
  have h1:=h.len;have h2:=BK (b:=b) hle;have h3:=BJ hq;have h4:ys.length<=q.kids.length:=by
   by_cases hf:rh q.sg name=true
   ·rw[if_pos hf]at Rb;rw[Rb.length_eq];simp
   ·rw[if_neg hf]at Rb;rw[Rb];simp
  have h5:(if q.sg.1=true then zs++[(k:Int)]else zs).length<=zs.length+1:=by split<;>simp
  rw[ae,hb];omega
end
section
variable{w w' W W' W1 w3:World}{v tv:Value}{xs:List (Br×Nat)}{b:gZ}{x:Br×Nat}{zs:List Int}{nd wh:Bool}{l:List Nat}{f2:Bool}{name:L}{i k A4:Nat}
def Yg(w:World)(v:Value)(b:gZ)(l:List Nat)(f2:Bool)(name:L)(i:Nat)(W:World):Prop:=∃tv zs nd wh,NM w v W tv zs nd wh/\PF b l f2 name i zs nd wh
structure ND(w:World)(v:Value)(A4:Nat)(x:Br×Nat)(W:World)(tv:Value)(zs:List Int)(nd wh:Bool):Prop where
 m:NM w v W tv zs nd wh
 box:W.heap[A4]?=some (.cells #[.bool x.1.sg.1,.string (bs x.1.sg.2),.map (some x.2),.bool x.1.nd,.bool x.1.wh] 167 (0,0))
theorem NM.shape(h:NM w v W tv zs nd wh):∃a n c,tv=.slice a n c:=ft h.row
theorem ND.start(h:NM w v W tv zs nd wh):ND w v W.heap.size x (W.alloc (.cells #[.bool x.1.sg.1,.string (bs x.1.sg.2),.map (some x.2),.bool x.1.nd,.bool x.1.wh] 167)) tv zs nd wh:=
 ⟨h.on ((Below.refl _ W).alloc (ah _) _),eL W _⟩
theorem ND.on(h:ND w v A4 x W tv zs nd wh)(hb:Z5 W W'):ND w v A4 x W' tv zs nd wh:=⟨h.m.on hb,(hb.block _ (eO h.box)).trans h.box⟩
theorem ND.app{v':Value}(h:ND w v A4 x W tv zs nd wh)(ho:w3.ownsRow 0 3 1 v' (zs.length+1) (kW zs++[.int .i64 (k:Nat)]))(hg:(W.alloc (.cells #[.int .i64 (k:Nat)] 3)).grownBy w3 tv.ownBlock)(hat:v'.ownBlock=tv.ownBlock\/v'.ownBlock=some (W.alloc (.cells #[.int .i64 (k:Nat)] 3)).heap.size)(h4:w.heap.size+1+1+1<A4):
  (w3.cell? ⟨w.heap.size+1+1+1,0,none⟩=some tv/\w3.frozen? ⟨w.heap.size+1+1+1,0,none⟩=false)/\ND w v A4 x (w3.setCell ⟨w.heap.size+1+1+1,0,none⟩ v') v' (zs++[(k:Int)]) nd wh:=by
 have e1:kW (zs++[(k:Int)])=kW zs++[.int .i64 (k:Nat)]:=by unfold kW;rw[bp];rfl
 have hf:Fr (fun j=>tv.ownBlock=some j) W w3:=((Fr.refl _ W).alloc _).gr hg fun j e _=>e;obtain⟨q1,q2⟩:=h.m.put (zs':=zs++[(k:Int)]) (by rw[e1,ae,bn];exact ho) hf (fun j e=>by
  rcases hat with h1|h1
  ·exact Or.inl (h1▸e)
  ·rw[h1]at e;have:j=W.heap.size+1:=by simpa using e.symm
   exact Or.inr (by omega))
 refine⟨q1,q2,?_⟩;have hn:=gP h.m.row h.box (by decide);rw[af _ _ _ _ (by show A4≠w.heap.size+1+1+1;omega)];exact(hf.block _ (eO h.box) hn).trans h.box
theorem ND.fits(h:ND w v A4 x W tv zs nd wh)(name:L):Z4 133 #[.agg #[.bool x.1.sg.1,.string (bs x.1.sg.2)],.string (bs name)] W fun e w'=>e=.returned (.bool (rh x.1.sg name))/\Hid (ND w v A4 x w' tv zs nd wh):=
 (Vr x.1.sg name W).mono fun e w' ⟨h1,h2⟩=>⟨h1,a_ (h.on h2)⟩
theorem ND.seq{LQ PX:Bool}(h:ND w v A4 x W tv zs nd wh)(h4:w.heap.size+1+1+1<A4)(hM:j4 w 165 x.2 (ij x.1))(lI:((ij x.1).map (·.1)).Nodup)(hk2:∀p∈ij x.1,WideAt.IsKeyLit p.1)(hl:zs.length+(ij x.1).length<=10000000000000)(kI:∀W v' ys,ys.Perm ((x.1.kids.map (·.2)).map fun k:Nat=>(k:Int))->NM w v W v' (zs++ys) LQ PX->Yg w v b l f2 name i W):
  (∃W2,W2=((W.setCell ⟨w.heap.size+1+1+1,1,none⟩ (.bool LQ)).setCell ⟨w.heap.size+1+1+1,2,none⟩ (.bool PX))/\W2.cell? ⟨w.heap.size+1+1+1,0,none⟩=some tv/\W2.cell? ⟨A4,2,none⟩=some (.map (some x.2))/\
   Hid (∀m,Z4 134 #[tv,.func (.func 179) #[] #[.pointer (some ⟨W2.heap.size,0,none⟩)]] ((W2.alloc (.cells #[.map (some x.2)] 163)).drewN m) fun e w8=>∃va vn vc,e=.returned (.slice va vn vc)/\(w8.cell? ⟨w.heap.size+1+1+1,0,none⟩=some tv/\w8.frozen? ⟨w.heap.size+1+1+1,0,none⟩=false)/\Hid (Yg w v b l f2 name i (w8.setCell ⟨w.heap.size+1+1+1,0,none⟩ (.slice va vn vc))))):=by
 obtain⟨-,q⟩:=h.m.set LQ PX;have tV:((W.setCell ⟨w.heap.size+1+1+1,1,none⟩ (.bool LQ)).setCell ⟨w.heap.size+1+1+1,2,none⟩ (.bool PX)).heap[A4]?=W.heap[A4]?:=by rw[af _ _ _ _ (by show A4≠w.heap.size+1+1+1;omega),af _ _ _ _ (by show A4≠w.heap.size+1+1+1;omega)]
 refine⟨_,rfl,cell_of q.b3 rfl,cell_of (tV.trans h.box) rfl,a_ fun m=>?_⟩;generalize ((W.setCell ⟨w.heap.size+1+1+1,1,none⟩ (.bool LQ)).setCell ⟨w.heap.size+1+1+1,2,none⟩ (.bool PX))=W2 at*
 have hb0:=kV ((Below.refl W2.heap.size W2).alloc (ah _) (.cells #[.map (some x.2)] 163)) m;have hB:((W2.alloc (.cells #[.map (some x.2)] 163)).drewN m).heap[W2.heap.size]?=some (.cells #[.map (some x.2)] 163 (0,0)):=eL W2 (.cells #[.map (some x.2)] 163);have qa:=q.on hb0;have hMa:j4 ((W2.alloc (.cells #[.map (some x.2)] 163)).drewN m) 165 x.2 (ij x.1):=hM.of (qa.below.block _ hM.lt);refine(vh _ qa.row W2.heap.size x.2 (eO hB) (cell_of hB rfl) hMa lI hk2 hl).mono ?_;rintro e w8 ⟨v',ys,rfl,h2,h3,h4',h5⟩;obtain⟨va,vn,vc,rfl⟩:=ft h3;obtain⟨r1,r2⟩:=qa.put h3 h4' h5;rw[BM]at h2;exact⟨va,vn,vc,rfl,r1,a_ (kI _ _ ys h2 r2)⟩
end
section
variable{w w' W W' W1 w3:World}{v tv:Value}{xs:List (Br×Nat)}{b:gZ}{x:Br×Nat}{zs:List Int}{nd wh:Bool}{l:List Nat}{f2:Bool}{name:L}{i k A4:Nat}
theorem NM.turn{zs':List Int}(h:NM w v W tv zs nd wh)(ho:w3.ownsRow 0 3 1 tv zs'.length (kW zs'))(hg:W.grownBy w3 tv.ownBlock):NM w v w3 tv zs' nd wh:=by
 have n0:=gP h.row h.b0 (by decide);have n2:=gP h.row h.b2 (by decide);have n3:=gP h.row h.b3 (by decide);exact⟨(hg.block _ (eO h.b0) (fun e=>n0 e.symm)).trans h.b0,(hg.block _ (eO h.b2) (fun e=>n2 e.symm)).trans h.b2,(hg.block _ (eO h.b3) (fun e=>n3 e.symm)).trans h.b3,ho,h.own,h.below.grown hg h.below.size h.own⟩
theorem Rc(hlt:∀k∈l,k<b.length)(hw:A3 b)(hp:PF b l f2 name l.length zs nd wh):kW (Lib.compact (sr zs))=mX (iO b l name)/\(Lib.compact (sr zs)).length=(iO b l name).length:=by
 obtain⟨c1,c2⟩:=FE zs;have Fy:=hp.mem;rw[bt]at Fy;have hpos:∀z∈Lib.compact (sr zs),0<=z:=fun z hz=>by
  obtain⟨k,rfl,_⟩:=(Fy z).1 ((c2 z).1 hz);omega
 have e:(Lib.compact (sr zs)).map Int.toNat=iO b l name:=by
  refine Y1 ?_ fun k=>?_
  ·rw[ey];refine c1.imp_of_mem fun ha hb h=>?_;have:=hpos _ ha;have:=hpos _ hb;omega
  ·have h1:k∈(Lib.compact (sr zs)).map Int.toNat↔(k:Int)∈zs:=by
    rw[List.mem_map];constructor
    ·rintro⟨z,hz,rfl⟩;have:=hpos z hz;rw[<-c2];rwa[show ((z.toNat:Nat):Int)=z by omega]
    ·intro h;exact⟨(k:Int),(c2 _).2 h,by simp⟩
   rw[h1,Fy];constructor
   ·rintro⟨k',U6,h2⟩;obtain rfl:k=k':=by omega
    refine⟨?_,h2⟩;rcases h2 with⟨h3,_⟩|⟨j,hj,_,h3⟩
    ·exact hlt k h3
    ·unfold ot at h3;cases hb:b[j]? with
     |none=>rw[hb]at h3;simp at h3
     |some q=>
      rw[hb]at h3;obtain⟨y,hy,rfl⟩:=List.mem_map.1 h3;exact(hw.2 j q hb).1 y hy
   ·rintro⟨_,h2⟩;exact⟨k,rfl,h2⟩
 rw[FF _ hpos,e];exact⟨rfl,by rw[<-e,cC]⟩
theorem Re{f1 f3:Bool}(h:BR w v xs)(hb:xs.map (·.1)=b)(hw:A3 b)(Yh:KS b)(hl:b.length<=2300000000000)(hlt:∀k∈l,k<b.length)(zo:l.length<=b.length)(M:Yg w v b l f2 name l.length W):
  ∃ta tn tc nd wh,W.cell? ⟨w.heap.size+1+1+1,0,none⟩=some (.slice ta tn tc)/\Hid (Z4 136 #[.slice ta tn tc] W fun e w1=>e=.returned (.tuple #[])/\w1.cell? ⟨w.heap.size+1+1+1,0,none⟩=some (.slice ta tn tc)/\
   Hid (Z4 137 #[.slice ta tn tc] w1 fun e w2=>∃va vn vc,e=.returned (.slice va vn vc)/\(w2.cell? ⟨w.heap.size+1+1+1,0,none⟩=some (.slice ta tn tc)/\w2.frozen? ⟨w.heap.size+1+1+1,0,none⟩=false)/\∃W3 W4,W3=w2.setCell ⟨w.heap.size+1+1+1,0,none⟩ (.slice va vn vc)/\W4=W3.setCell ⟨w.heap.size+1+1+1,3,none⟩ (.bool (fL b ⟨l,f1,f2,f3⟩ name).tx)/\
    (W3.cell? ⟨w.heap.size+1+1+1,0,none⟩=some (.slice va vn vc)/\W3.cell? ⟨w.heap.size+1+1+1,3,none⟩=some (.bool false)/\W3.frozen? ⟨w.heap.size+1+1+1,3,none⟩=false)/\
    Hid (Z4 138 #[.slice va vn vc,.func (.func 139) #[] #[.pointer (some ⟨w.heap.size,0,none⟩)]] W3 (Z6 (.bool (fL b ⟨l,f1,f2,f3⟩ name).tx) W3))/\
    (W4.cell? ⟨w.heap.size+1+1+1,0,none⟩=some (.slice va vn vc)/\W4.cell? ⟨w.heap.size+1+1+1,1,none⟩=some (.bool nd)/\W4.cell? ⟨w.heap.size+1+1+1,2,none⟩=some (.bool wh)/\W4.cell? ⟨w.heap.size+1+1+1,3,none⟩=some (.bool (fL b ⟨l,f1,f2,f3⟩ name).tx))/\
    Hid (W4.there (w.heap.size+1+1) 0 4)/\Hid ((nd=(fL b ⟨l,f1,f2,f3⟩ name).nd/\wh=(fL b ⟨l,f1,f2,f3⟩ name).wh)/\(W4.setCells (w.heap.size+1+1) 0 [.slice va vn vc,.bool nd,.bool wh,.bool (fL b ⟨l,f1,f2,f3⟩ name).tx]).heap[w.heap.size+1+1]?=some (.cells #[.slice va vn vc,.bool nd,.bool wh,.bool (fL b ⟨l,f1,f2,f3⟩ name).tx] 193 (0,0))/\
     (W4.setCells (w.heap.size+1+1) 0 [.slice va vn vc,.bool nd,.bool wh,.bool (fL b ⟨l,f1,f2,f3⟩ name).tx]).ownsRow 0 3 1 (.slice va vn vc) (iO b l name).length (mX (iO b l name))/\Z5 w (W4.setCells (w.heap.size+1+1) 0 [.slice va vn vc,.bool nd,.bool wh,.bool (fL b ⟨l,f1,f2,f3⟩ name).tx])/\∀k,(Value.slice va vn vc).ownBlock=some k->w.heap.size<=k))):=by
 obtain⟨tv,zs,nd,wh,m,p⟩:=M;obtain⟨ta,tn,tc,rfl⟩:=m.shape;have hzl:zs.length<=10000000000000:=by have h1:=p.len;have h2:=Du Yh (Zm l l.length);omega
 obtain⟨hd1,Fg⟩:=Rc hlt hw p;refine⟨ta,tn,tc,nd,wh,cell_of m.b3 rfl,a_ ((FC m.row hzl).mono ?_)⟩;rintro e w1 ⟨h1,h2,h3⟩;have m1:=m.turn (zs':=sr zs) (by rw[yx];exact h2) h3;refine⟨h1,cell_of m1.b3 rfl,a_ ((FD m1.row (by rw[yx];exact hzl)).mono ?_)⟩;rintro e w2 ⟨v',h4,h5,h6,h7⟩;obtain⟨va,vn,vc,rfl⟩:=ft h5;have hf:Fr (fun k=>(Value.slice ta tn tc).ownBlock=some k) w1 w2:=(Fr.refl _ w1).gr h6 fun k e _=>e;obtain⟨r1,m3⟩:=m1.put h5 hf (fun k e=>Or.inl (h7▸e));refine⟨va,vn,vc,h4,r1,_,_,rfl,rfl,?_⟩;generalize w2.setCell ⟨w.heap.size+1+1+1,0,none⟩ (.slice va vn vc)=W3 at*
 have hrow:=m3.row;rw[hd1,Fg]at hrow;have yY:∀k∈iO b l name,k<b.length:=fun k hk=>by
  unfold iO at hk;exact List.mem_range.1 (List.mem_filter.1 hk).1
 have hdl:(iO b l name).length<=b.length:=by
  unfold iO;have:=List.length_filter_le (fun k=>(l.contains k&&wG b k)||l.any fun j=>ou b j name&&(ot b j).contains k) (List.range b.length);rw[List.length_range]at this;exact this
 have hBR:BR W3 v xs:=h.of fun k hk=>m3.below.block k (h.lt hk);have hct:=Dz (A0:=w.heap.size) (cell_of m3.b0 rfl) hBR hb hrow yY (by omega);have s3:=eV (i:=3) m3.b3 (.bool (fL b ⟨l,f1,f2,f3⟩ name).tx);have n3:=gP hrow m3.b3 (by decide);have n2:=gP hrow m3.b2 (by decide);have b2:(W3.setCell ⟨w.heap.size+1+1+1,3,none⟩ (.bool (fL b ⟨l,f1,f2,f3⟩ name).tx)).heap[w.heap.size+1+1]?=some (.cells #[.slice none 0 0,.bool false,.bool false,.bool false] 193 (0,0)):=by
  rw[af _ _ _ _ (by show w.heap.size+1+1≠w.heap.size+1+1+1;omega)];exact m3.b2
 have Y8:=m3.below.setCell (p:=⟨w.heap.size+1+1+1,3,none⟩) (show w.heap.size<=w.heap.size+1+1+1 by omega) (.bool (fL b ⟨l,f1,f2,f3⟩ name).tx);have hr4:(W3.setCell ⟨w.heap.size+1+1+1,3,none⟩ (.bool (fL b ⟨l,f1,f2,f3⟩ name).tx)).ownsRow 0 3 1 (.slice va vn vc) (iO b l name).length (mX (iO b l name)):=eI hrow fun k e=>af _ _ _ _ (fun e'=>n3 (by rw[e,e']));refine⟨⟨cell_of m3.b3 rfl,cell_of m3.b3 rfl,eP m3.b3⟩,a_ hct,⟨cell_of s3 rfl,cell_of s3 rfl,cell_of s3 rfl,cell_of s3 rfl⟩,a_ (Ra b2),a_ ⟨⟨?_,?_⟩,aa7 b2 _ _ _ _,eI hr4 fun k e=>fK (fun e'=>n2 (by rw[e,e'])) _ _ _,?_,fun k e=>m3.own k e⟩⟩
 ·have:=p.nd;rw[bt]at this;exact this
 ·have:=p.wh;rw[bt]at this;exact this
 ·obtain⟨s1,s2,s3',s4⟩:=jZ (g:=w.heap.size+1+1) [.slice va vn vc,.bool nd,.bool wh,.bool (fL b ⟨l,f1,f2,f3⟩ name).tx] 0 (W3.setCell ⟨w.heap.size+1+1+1,3,none⟩ (.bool (fL b ⟨l,f1,f2,f3⟩ name).tx));refine⟨s1.trans Y8.os,s2.trans Y8.tape,s3'.trans Y8.output,by rw[s4];exact Y8.size,fun k hk=>?_⟩;rw[fK (by omega)];exact Y8.block k hk
end
section
variable{w w' W W' W1 w3:World}{v tv:Value}{xs:List (Br×Nat)}{b:gZ}{x:Br×Nat}{zs:List Int}{nd wh:Bool}{l:List Nat}{f2:Bool}{name:L}{i k A4:Nat}
abbrev C5b(W:World)(k:Nat)(d:Bool)(T:ByteArray)(mb:Nat)(p q:Bool):Prop:=W.cell? ⟨k,0,none⟩=some (.bool d)/\W.cell? ⟨k,1,none⟩=some (.string T)/\W.cell? ⟨k,2,none⟩=some (.map (some mb))/\W.cell? ⟨k,3,none⟩=some (.bool p)/\W.cell? ⟨k,4,none⟩=some (.bool q)
def NDx(w:World)(v:Value)(A4:Nat)(x:Br×Nat)(W:World)(nd wh:Bool)(zs:List Int):Prop:=∃tv,ND w v A4 x W tv zs nd wh
theorem Js{fa:Option Addr}{fn fc:Nat}(h:BR w v xs)(hb:xs.map (·.1)=b)(hw:A3 b)(hs:xz b)(Yh:KS b)(hl:b.length<=2300000000000)(hr:l.Pairwise (· < ·))(hlt:∀k∈l,k<b.length)(zo:l.length<=b.length)(hd:w.ownsRow 0 3 1 (.slice fa fn fc) l.length (mX l))(hi:i<l.length)(M:Yg w v b l f2 name i W):
  ∃gd k g n cap d T mb p q ta tn tc nd wh fb,fa=some ⟨gd,0,none⟩/\W.cell? ⟨gd,i,none⟩=some (.int .i64 ((k:Nat):Int))/\W.cell? ⟨w.heap.size,0,none⟩=some (Z9 g n cap)/\(k:Int)<(n:Int)/\
   (W.cell? ⟨g,k*5,none⟩=some (.bool d)/\W.cell? ⟨g,k*5+1,none⟩=some (.string T)/\W.cell? ⟨g,k*5+2,none⟩=some (.map (some mb))/\W.cell? ⟨g,k*5+3,none⟩=some (.bool p)/\W.cell? ⟨g,k*5+4,none⟩=some (.bool q))/\
   C5b (W.alloc (.cells #[.bool d,.string T,.map (some mb),.bool p,.bool q] 167)) W.heap.size d T mb p q/\(W.alloc (.cells #[.bool d,.string T,.map (some mb),.bool p,.bool q] 167)).cell? ⟨w.heap.size+1+1+1,0,none⟩=some (.slice ta tn tc)/\
   ∃P1:Bool->World->Prop,
   Hid (d=false->P1 false (W.alloc (.cells #[.bool d,.string T,.map (some mb),.bool p,.bool q] 167)))/\
   Hid (d=true->∃(N:Nat) (zc:List Value),N<=10000000000000/\((W.alloc (.cells #[.bool d,.string T,.map (some mb),.bool p,.bool q] 167)).alloc (.cells #[.int .i64 ((k:Nat):Int)] 3)).ownsRow 0 3 1 (.slice ta tn tc) N zc/\∀v' w3,w3.ownsRow 0 3 1 v' (N+1) (zc++[.int .i64 ((k:Nat):Int)])->((W.alloc (.cells #[.bool d,.string T,.map (some mb),.bool p,.bool q] 167)).alloc (.cells #[.int .i64 ((k:Nat):Int)] 3)).grownBy w3 (Value.slice ta tn tc).ownBlock->(v'.ownBlock=(Value.slice ta tn tc).ownBlock\/v'.ownBlock=some ((W.alloc (.cells #[.bool d,.string T,.map (some mb),.bool p,.bool q] 167)).alloc (.cells #[.int .i64 ((k:Nat):Int)] 3)).heap.size)->
    (w3.cell? ⟨w.heap.size+1+1+1,0,none⟩=some (.slice ta tn tc)/\w3.frozen? ⟨w.heap.size+1+1+1,0,none⟩=false)/\Hid (P1 true (w3.setCell ⟨w.heap.size+1+1+1,0,none⟩ v')))/\
   Hid (∀W',P1 d W'->C5b W' W.heap.size d T mb p q/\Z4 133 #[.agg #[.bool d,.string T],.string (bs name)] W' fun e w5=>e=.returned (.bool fb)/\Hid (P1 d w5))/\
   Hid (fb=false->∀W',P1 d W'->Yg w v b l f2 name (i+1) W')/\
   Hid (fb=true->∀W',P1 d W'->∃sa sn sc,C5b W' W.heap.size d T mb p q/\(W'.cell? ⟨w.heap.size+1+1+1,1,none⟩=some (.bool nd)/\W'.frozen? ⟨w.heap.size+1+1+1,1,none⟩=false/\(W'.setCell ⟨w.heap.size+1+1+1,1,none⟩ (.bool (nd||p))).cell? ⟨w.heap.size+1+1+1,2,none⟩=some (.bool wh)/\(W'.setCell ⟨w.heap.size+1+1+1,1,none⟩ (.bool (nd||p))).frozen? ⟨w.heap.size+1+1+1,2,none⟩=false/\(W'.setCell ⟨w.heap.size+1+1+1,1,none⟩ (.bool (nd||p))).cell? ⟨W.heap.size,4,none⟩=some (.bool q))/\
    ∃W2,W2=((W'.setCell ⟨w.heap.size+1+1+1,1,none⟩ (.bool (nd||p))).setCell ⟨w.heap.size+1+1+1,2,none⟩ (.bool (wh||q)))/\W2.cell? ⟨w.heap.size+1+1+1,0,none⟩=some (.slice sa sn sc)/\W2.cell? ⟨W.heap.size,2,none⟩=some (.map (some mb))/\
   Hid (∀m,Z4 134 #[.slice sa sn sc,.func (.func 179) #[] #[.pointer (some ⟨W2.heap.size,0,none⟩)]] ((W2.alloc (.cells #[.map (some mb)] 163)).drewN m) fun e w8=>∃va vn vc,e=.returned (.slice va vn vc)/\(w8.cell? ⟨w.heap.size+1+1+1,0,none⟩=some (.slice sa sn sc)/\w8.frozen? ⟨w.heap.size+1+1+1,0,none⟩=false)/\Hid (Yg w v b l f2 name (i+1) (w8.setCell ⟨w.heap.size+1+1+1,0,none⟩ (.slice va vn vc))))):=by
 obtain⟨tv,zs,nd,wh,m,p⟩:=M;obtain⟨ta,tn,tc,rfl⟩:=m.shape;have Fu:xs.length=b.length:=by rw[<-hb];simp
 have Zl:l[i]?=some l[i]:=aw hi;have hk:=hlt _ (bU hi);generalize l[i]=k at Zl hk;have hx:xs[k]?=some xs[k]:=aw (by omega);generalize xs[k]=x at hx;have tV:b[k]?=some x.1:=by rw[<-hb,aX,hx];rfl
 have Jl:x∈xs:=aZ hx;have hBW:BR W v xs:=h.of fun j hj=>m.below.block j (h.lt hj);obtain⟨g,cap,rfl,hg,wJ,g0,g1,g2,g3,g4⟩:=hBW.at hx;obtain⟨lI,hk2⟩:=FH x.1 (hs x.1 (aZ tV)) (hw.2 k _ tV).2;have hB:=eL W (.cells #[.bool x.1.sg.1,.string (bs x.1.sg.2),.map (some x.2),.bool x.1.nd,.bool x.1.wh] 167);have m0:ND w (Z9 g xs.length cap) W.heap.size x (W.alloc (.cells #[.bool x.1.sg.1,.string (bs x.1.sg.2),.map (some x.2),.bool x.1.nd,.bool x.1.wh] 167)) (.slice ta tn tc) zs nd wh:=ND.start m;have h4:w.heap.size+1+1+1<W.heap.size:=eO m.b3;have aa4:=Du Yh (Zm l i);have hzl:zs.length<=i+b.length:=by have:=p.len;omega
 have hkc:∀{b2:Bool},(if b2=true then zs++[(k:Int)]else zs).length+(ij x.1).length<=10000000000000:=fun{b2}=>by
  have h5:(if b2=true then zs++[(k:Int)]else zs).length<=zs.length+1:=by split<;>simp
  have h6:(ij x.1).length<=b.length:=by
   have h7:=BJ tV;have h8:=Du Yh (k+1);unfold ij;rw[cC];omega
  omega
 have hgd:∃gd,fa=some ⟨gd,0,none⟩/\gd<w.heap.size/\w.cell? ⟨gd,i,none⟩=some (.int .i64 ((k:Nat):Int)):=by
  rcases hd.2 with⟨h',h0⟩|⟨gd,c',cur,h',EV,M4,_⟩
  ·omega
  ·cases h';refine⟨gd,rfl,eO M4,?_⟩;rw[hd.cellAt i (by omega)];unfold mX;rw[aX,Zl];rfl
 obtain⟨gd,hfa,Iz,hcd⟩:=hgd;have hr1:∀{W':World} {tv':Value} {zs':List Int} {LQ PX:Bool},ND w (Z9 g xs.length cap) W.heap.size x W' tv' zs' LQ PX->C5b W' W.heap.size x.1.sg.1 (bs x.1.sg.2) x.2 x.1.nd x.1.wh:=fun hh=>⟨cell_of hh.box rfl,cell_of hh.box rfl,cell_of hh.box rfl,cell_of hh.box rfl,cell_of hh.box rfl⟩
 refine⟨gd,k,g,xs.length,cap,x.1.sg.1,bs x.1.sg.2,x.2,x.1.nd,x.1.wh,ta,tn,tc,nd,wh,rh x.1.sg name,hfa,(aj (m.below.block gd Iz)).trans hcd,cell_of m.b0 rfl,by omega,⟨g0,g1,g2,g3,g4⟩,hr1 m0,cell_of m0.m.b3 rfl,
  fun d W'=>NDx w (Z9 g xs.length cap) W.heap.size x W' nd wh (if d=true then zs++[(k:Int)]else zs),a_ ?_,a_ ?_,a_ ?_,a_ ?_,a_ ?_⟩
 ·intro _;exact⟨_,m0⟩
 ·intro _;refine⟨zs.length,kW zs,by omega,eI m0.m.row fun j e=>ap _ _ _ (eU m0.m.row e),fun v' w3 ho M4 hat=>?_⟩;obtain⟨q1,q2⟩:=m0.app ho M4 hat h4;exact⟨q1,a_ ⟨v',q2⟩⟩
 ·rintro W' ⟨tv',hh⟩;refine⟨hr1 hh,(hh.fits name).mono ?_⟩;rintro e w5 ⟨e1,e2⟩;exact⟨e1,a_ ⟨tv',e2.out⟩⟩
 ·rintro hf W' ⟨tv',hh⟩;have hp:=p.step (ys:=[]) hr Zl tV (by rw[if_neg (by rw[hf];decide)]);rw[hf,aO]at hp;simp only[cG,dh]at hp;exact⟨tv',_,nd,wh,hh.m,hp⟩
 ·rintro hf W' ⟨tv',hh⟩;obtain⟨sa,sn,sc,rfl⟩:=hh.m.shape;obtain⟨⟨s1,s2,s3,s4⟩,-⟩:=hh.m.set (nd||x.1.nd) (wh||x.1.wh);refine⟨sa,sn,sc,hr1 hh,⟨s1,s2,s3,s4,?_⟩,?_⟩
  ·have e:(W'.setCell ⟨w.heap.size+1+1+1,1,none⟩ (.bool (nd||x.1.nd))).heap[W.heap.size]?=W'.heap[W.heap.size]?:=af _ _ _ _ (by show W.heap.size≠w.heap.size+1+1+1;omega);exact cell_of (e.trans hh.box) rfl
  ·refine hh.seq h4 (h.map x Jl) lI hk2 hkc fun W3 v3 ys Rb hm3=>?_;have hp:=p.step (ys:=ys) hr Zl tV (by rw[if_pos hf];exact Rb);rw[hf]at hp;simp only[cN]at hp;exact⟨v3,_,_,_,hm3,hp⟩
end
section
variable{w w' W W' W1 w3:World}{v tv:Value}{xs:List (Br×Nat)}{b:gZ}{x:Br×Nat}{zs:List Int}{nd wh:Bool}{l:List Nat}{f2:Bool}{name:L}{i k A4:Nat}
theorem VP{fa:Option Addr}{fn fc:Nat}(f1 f2 f3:Bool)(name:L)(h:BR w v xs)(hb:xs.map (·.1)=b)(hw:A3 b)(hs:xz b)(Yh:KS b)(hl:b.length<=2300000000000)(hr:l.Pairwise (· < ·))(hlt:∀k∈l,k<b.length)(zo:l.length<=b.length)(hd:w.ownsRow 0 3 1 (.slice fa fn fc) l.length (mX l)):
  Z4 96 #[v,.agg (aT fa fn fc f1 f2 f3),.string (bs name)] w fun e w'=>∃va vn vc,e=.returned (.agg (aT va vn vc (fL b ⟨l,f1,f2,f3⟩ name).nd (fL b ⟨l,f1,f2,f3⟩ name).wh (fL b ⟨l,f1,f2,f3⟩ name).tx))/\w'.ownsRow 0 3 1 (.slice va vn vc) (iO b l name).length (mX (iO b l name))/\Z5 w w'/\∀k,(Value.slice va vn vc).ownBlock=some k->w.heap.size<=k:=by
 have hfn:fn=l.length:=by
  rcases hd.2 with⟨h',h0⟩|⟨g,c,cur,h',_⟩
  ·cases h';exact h0.symm
  ·cases h';rfl
 have HR:=a_ (fun i W (hi:i<l.length) M=>Js (f2:=f2) (name:=name) (i:=i) (W:=W) h hb hw hs Yh hl hr hlt zo hd hi M);have pH:=a_ (fun W M=>Re (f1:=f1) (f2:=f2) (f3:=f3) (name:=name) (W:=W) h hb hw Yh hl hlt zo M);obtain⟨W0,hW0⟩:∃W0,((((w.alloc (.cells #[v] 115)).alloc (.cells (aT fa fn fc f1 f2 f3) 193)).alloc (.cells #[.slice none 0 0,.bool false,.bool false,.bool false] 193)).alloc (.cells #[.slice none 0 0,.bool false,.bool f2,.bool false] 193))=W0:=⟨_,rfl⟩
 have c0:(w.alloc (.cells #[v] 115)).alloc (.cells (aT fa fn fc f1 f2 f3) 193)=(w.alloc (.cells #[v] 115)).alloc (.cells (aT fa fn fc f1 f2 f3) 193):=rfl;have VQ:=eL (w.alloc (.cells #[v] 115)) (.cells (aT fa fn fc f1 f2 f3) 193);rw[bI]at VQ;have e2:(((w.alloc (.cells #[v] 115)).alloc (.cells (aT fa fn fc f1 f2 f3) 193)).alloc (.cells #[.slice none 0 0,.bool false,.bool false,.bool false] 193)).heap[w.heap.size+1]?=some (.cells (aT fa fn fc f1 f2 f3) 193 (0,0)):=by
  rw[ap _ _ _ (by simp)];exact VQ
 have d2:(((w.alloc (.cells #[v] 115)).alloc (.cells (aT fa fn fc f1 f2 f3) 193)).alloc (.cells #[.slice none 0 0,.bool false,.bool false,.bool false] 193)).cell? ⟨w.heap.size+1,2,none⟩=some (.bool f2):=cell_of e2 rfl;have d0:((((w.alloc (.cells #[v] 115)).alloc (.cells (aT fa fn fc f1 f2 f3) 193)).alloc (.cells #[.slice none 0 0,.bool false,.bool false,.bool false] 193)).alloc (.cells #[.slice none 0 0,.bool false,.bool f2,.bool false] 193)).cell? ⟨w.heap.size+1,0,none⟩=some (.slice fa fn fc):=eF _ (cell_of (i:=0) e2 rfl);have M0:Hid (Yg w v b l f2 name 0 W0):=by
  refine a_ ⟨.slice none 0 0,[],false,f2,⟨?_,?_,?_,bG _ _ _ _,(fun k e=>nomatch e),?_⟩,PF.zero b l f2 name⟩
  ·rw[<-hW0,ap _ _ _ (by simp;omega),ap _ _ _ (by simp;omega),ap _ _ _ (by simp)];exact eL w _
  ·have hh:=eL ((w.alloc (.cells #[v] 115)).alloc (.cells (aT fa fn fc f1 f2 f3) 193)) (.cells #[.slice none 0 0,.bool false,.bool false,.bool false] 193);rw[bI,bI]at hh;rw[<-hW0,ap _ _ _ (by simp)];exact hh
  ·have hh:=eL (((w.alloc (.cells #[v] 115)).alloc (.cells (aT fa fn fc f1 f2 f3) 193)).alloc (.cells #[.slice none 0 0,.bool false,.bool false,.bool false] 193)) (.cells #[.slice none 0 0,.bool false,.bool f2,.bool false] 193);rw[bI,bI,bI]at hh;rw[<-hW0];exact hh
  ·rw[<-hW0];exact((((Below.refl w.heap.size w).alloc (ah _) _).alloc (by simp) _).alloc (by simp;omega) _).alloc (by simp;omega) _
 obtain⟨i0,x_,hz0,hz1,hz2⟩:=bk zn;obtain⟨RN,QO⟩:∃RN:Nat->World->Prop,∀i W,RN i W=Yg w v b l f2 name i W:=⟨_,fun _ _=>rfl⟩
 simp only[<-QO]at M0 pH HR;rw[<-hfn]at pH HR;obtain⟨va',vn',vc',rfl⟩:=ft h.row;have hlf:fn<=2300000000000:=by omega
 clear QO h hw hs Yh hl hr hlt zo hd VQ e2 c0;generalize fL b ⟨l,f1,f2,f3⟩ name=ST at*
 generalize iO b l name=DU at*
 clear hfn;have PY:=a_ hW0;clear hW0;go_enter func96,ntmps96;go_wp2_with fail;rw[PY.out];clear d0 d2;go_loopw [9,10,17,18,19,20,21,22,23,24,25,26,27,28,29,30,31,32,33,34,35,36,37,38,39,40,41,42,43,44,45,46,47,48,49,50,51,52,53,54,55,56,57,58,59] (fun _ _ u17 _ _ _ _ _ _ _ _ _ _ _ _ _ _ _ _ _ _ _ _ _ _ _ _ _ _ _ _ _ _ _ _ _ _ _ _ _ _ _ _ _ _ wr=>∃i:Nat,u17=.int .i64 i/\i<=fn/\Hid (RN i wr)) (fun _ _ u17 _ _ _ _ _ _ _ _ _ _ _ _ _ _ _ _ _ _ _ _ _ _ _ _ _ _ _ _ _ _ _ _ _ _ _ _ _ _ _ _ _ _ _=>fn-(RowKit.intOf u17).toNat)
 case atStart=>exact⟨0,rfl,ax _,M0⟩
 case round=>
  rename World=>WO
  obtain⟨i,rfl,hi,HM⟩:=hrel;by_cases hlt:i<fn
  ·obtain⟨gd,k,g,n,cap,d,T,mb,p,q,ta,tn,tc,nd,wh,fb,rfl,a0,a1,hkn,⟨g0,g1,g2,g3,g4⟩,⟨c0,c1,c2,c3,c4⟩,x0,P1,HF,HT,HC,HNo,qV⟩:=HR.out i _ hlt HM.out;have hdec:decide ((i:Int)<fn)=true:=by simp;omega
   have LK:(i:Int)<fn:=by omega
   clear HR pH HM M0;cases d with
   |false=>
    obtain⟨cc,AQ⟩:=HC.out _ (HF.out rfl);have ye:=a_ AQ;clear HF HT HC AQ;cases fb with
    |false=>
     go_wp2_with(go_at_call 133;refine ye.out.mono ?_;rintro e w5 ⟨rfl,h5⟩;have H5:=a_ (HNo.out rfl _ h5.out);clear ye HNo qV);exact⟨⟨i+1,by simp,by omega,H5⟩,by simp only[RowKit.intOf];omega⟩
    |true=>
     clear HNo cc;cases nd<;>cases wh
     ·go_wp2_with(first|(go_at_call 133;refine ye.out.mono ?_;rintro e w5 ⟨rfl,h5⟩;obtain⟨sa,sn,sc,⟨e0,e1,e2,e3,e4⟩,⟨y1,y2,y3,y4,y5⟩,W2,rfl,z0,z2,HS⟩:=qV.out rfl _ h5.out;simp only[cD,cu]at y3 y4 y5 z0 z2 HS;clear ye qV h5 c0 c1 c2 c3 c4));generalize ((w5.setCell ⟨w.heap.size+1+1+1,1,none⟩ (.bool p)).setCell ⟨w.heap.size+1+1+1,2,none⟩ (.bool q))=W2 at*
      have Jt:∀o,(W2.alloc o).cell? ⟨w.heap.size+1+1+1,0,none⟩=some (.slice sa sn sc):=fun o=>eF o z0
      go_region_with
       ((first|(go_at_call 135;refine(kH mb _).mono ?_;rintro e w6 ⟨rfl,rfl⟩)|(go_at_call 134;(first|refine(HS.out 1).mono ?_|refine(HS.out 0).mono ?_|refine(HS.out _).mono ?_);rintro e w8 ⟨a8,n8,c8,rfl,⟨x8,f8⟩,h8⟩)))
      all_goals
       clear e0 e1 e2 e3 e4 y1 y2 y3 y4 y5 z0 z2 HS Jt x8 f8;go_wp2;exact⟨⟨i+1,by simp,by omega,h8⟩,by simp only[RowKit.intOf];omega⟩
     ·go_wp2_with(first|(go_at_call 133;refine ye.out.mono ?_;rintro e w5 ⟨rfl,h5⟩;obtain⟨sa,sn,sc,⟨e0,e1,e2,e3,e4⟩,⟨y1,y2,y3,y4,y5⟩,W2,rfl,z0,z2,HS⟩:=qV.out rfl _ h5.out;simp only[cD,cu]at y3 y4 y5 z0 z2 HS;clear ye qV h5 c0 c1 c2 c3 c4));generalize ((w5.setCell ⟨w.heap.size+1+1+1,1,none⟩ (.bool p)).setCell ⟨w.heap.size+1+1+1,2,none⟩ (.bool true))=W2 at*
      have Jt:∀o,(W2.alloc o).cell? ⟨w.heap.size+1+1+1,0,none⟩=some (.slice sa sn sc):=fun o=>eF o z0
      go_region_with
       ((first|(go_at_call 135;refine(kH mb _).mono ?_;rintro e w6 ⟨rfl,rfl⟩)|(go_at_call 134;(first|refine(HS.out 1).mono ?_|refine(HS.out 0).mono ?_|refine(HS.out _).mono ?_);rintro e w8 ⟨a8,n8,c8,rfl,⟨x8,f8⟩,h8⟩)))
      all_goals
       clear e0 e1 e2 e3 e4 y1 y2 y3 y4 y5 z0 z2 HS Jt x8 f8;go_wp2;exact⟨⟨i+1,by simp,by omega,h8⟩,by simp only[RowKit.intOf];omega⟩
     ·go_wp2_with(first|(go_at_call 133;refine ye.out.mono ?_;rintro e w5 ⟨rfl,h5⟩;obtain⟨sa,sn,sc,⟨e0,e1,e2,e3,e4⟩,⟨y1,y2,y3,y4,y5⟩,W2,rfl,z0,z2,HS⟩:=qV.out rfl _ h5.out;simp only[cD,cu]at y3 y4 y5 z0 z2 HS;clear ye qV h5 c0 c1 c2 c3 c4));generalize ((w5.setCell ⟨w.heap.size+1+1+1,1,none⟩ (.bool true)).setCell ⟨w.heap.size+1+1+1,2,none⟩ (.bool q))=W2 at*
      have Jt:∀o,(W2.alloc o).cell? ⟨w.heap.size+1+1+1,0,none⟩=some (.slice sa sn sc):=fun o=>eF o z0
      go_region_with
       ((first|(go_at_call 135;refine(kH mb _).mono ?_;rintro e w6 ⟨rfl,rfl⟩)|(go_at_call 134;(first|refine(HS.out 1).mono ?_|refine(HS.out 0).mono ?_|refine(HS.out _).mono ?_);rintro e w8 ⟨a8,n8,c8,rfl,⟨x8,f8⟩,h8⟩)))
      all_goals
       clear e0 e1 e2 e3 e4 y1 y2 y3 y4 y5 z0 z2 HS Jt x8 f8;go_wp2;exact⟨⟨i+1,by simp,by omega,h8⟩,by simp only[RowKit.intOf];omega⟩
     ·go_wp2_with(first|(go_at_call 133;refine ye.out.mono ?_;rintro e w5 ⟨rfl,h5⟩;obtain⟨sa,sn,sc,⟨e0,e1,e2,e3,e4⟩,⟨y1,y2,y3,y4,y5⟩,W2,rfl,z0,z2,HS⟩:=qV.out rfl _ h5.out;simp only[cD,cu]at y3 y4 y5 z0 z2 HS;clear ye qV h5 c0 c1 c2 c3 c4));generalize ((w5.setCell ⟨w.heap.size+1+1+1,1,none⟩ (.bool true)).setCell ⟨w.heap.size+1+1+1,2,none⟩ (.bool true))=W2 at*
      have Jt:∀o,(W2.alloc o).cell? ⟨w.heap.size+1+1+1,0,none⟩=some (.slice sa sn sc):=fun o=>eF o z0
      go_region_with
       ((first|(go_at_call 135;refine(kH mb _).mono ?_;rintro e w6 ⟨rfl,rfl⟩)|(go_at_call 134;(first|refine(HS.out 1).mono ?_|refine(HS.out 0).mono ?_|refine(HS.out _).mono ?_);rintro e w8 ⟨a8,n8,c8,rfl,⟨x8,f8⟩,h8⟩)))
      all_goals
       clear e0 e1 e2 e3 e4 y1 y2 y3 y4 y5 z0 z2 HS Jt x8 f8;go_wp2;exact⟨⟨i+1,by simp,by omega,h8⟩,by simp only[RowKit.intOf];omega⟩
   |true=>
    obtain⟨N,zc,hN,hown,oO⟩:=HT.out rfl;have HO:=a_ hown;have HU:=a_ oO;have LR:Hid (∀j u,[Value.int .i64 ((k:Nat):Int)][j]?=some u->((WO.alloc (.cells #[.bool true,.string T,.map (some mb),.bool p,.bool q] 167)).alloc (.cells #[.int .i64 ((k:Nat):Int)] 3)).cell? ((⟨WO.heap.size+1,0,none⟩:Addr).add j)=some u):=by
     have hh:=cell_one_new (WO.alloc (.cells #[.bool true,.string T,.map (some mb),.bool p,.bool q] 167)) (.int .i64 ((k:Nat):Int)) 3;rw[bI]at hh;exact a_ hh
    clear HF HT hown oO;cases fb with
    |false=>
     go_wp2_with(first|(at_builtin;refine bj (w:=_) rfl _ _ 34 rfl 0 3 i0 _ 1 8 underlying34 x_ hz0 hz1 hz2 rfl (by decide) _ _ _ rfl HO.out ⟨WO.heap.size+1,0,none⟩ 1 1 [.int .i64 ((k:Nat):Int)] rfl rfl LR.out (by simp[Value.oneCell']) (by unfold maxLen;omega) (by omega) (ax _) ?_;intro v7 w7 tE xA _ oQ;obtain⟨⟨d7,f7⟩,h7⟩:=HU.out _ _ tE xA oQ;obtain⟨a7,n7,c7,rfl⟩:=ft tE;obtain⟨⟨c0,c1,c2,c3,c4⟩,AQ⟩:=HC.out _ h7.out;have ye:=a_ AQ;clear HU tE xA oQ HO LR h7 HC AQ)|(go_at_call 133;refine ye.out.mono ?_;rintro e w5 ⟨rfl,h5⟩;have H5:=a_ (HNo.out rfl _ h5.out);clear ye HNo qV));exact⟨⟨i+1,by simp,by omega,H5⟩,by simp only[RowKit.intOf];omega⟩
    |true=>
     clear HNo;cases nd<;>cases wh
     ·go_wp2_with(first|(at_builtin;refine bj (w:=_) rfl _ _ 34 rfl 0 3 i0 _ 1 8 underlying34 x_ hz0 hz1 hz2 rfl (by decide) _ _ _ rfl HO.out ⟨WO.heap.size+1,0,none⟩ 1 1 [.int .i64 ((k:Nat):Int)] rfl rfl LR.out (by simp[Value.oneCell']) (by unfold maxLen;omega) (by omega) (ax _) ?_;intro v7 w7 tE xA _ oQ;obtain⟨⟨d7,f7⟩,h7⟩:=HU.out _ _ tE xA oQ;obtain⟨a7,n7,c7,rfl⟩:=ft tE;obtain⟨⟨c0,c1,c2,c3,c4⟩,AQ⟩:=HC.out _ h7.out;have ye:=a_ AQ;clear HU tE xA oQ HO LR h7 HC AQ)|(go_at_call 133;refine ye.out.mono ?_;rintro e w5 ⟨rfl,h5⟩;obtain⟨sa,sn,sc,⟨e0,e1,e2,e3,e4⟩,⟨y1,y2,y3,y4,y5⟩,W2,rfl,z0,z2,HS⟩:=qV.out rfl _ h5.out;simp only[cD,cu]at y3 y4 y5 z0 z2 HS;clear ye qV h5 c0 c1 c2 c3 c4));generalize ((w5.setCell ⟨w.heap.size+1+1+1,1,none⟩ (.bool p)).setCell ⟨w.heap.size+1+1+1,2,none⟩ (.bool q))=W2 at*
      have Jt:∀o,(W2.alloc o).cell? ⟨w.heap.size+1+1+1,0,none⟩=some (.slice sa sn sc):=fun o=>eF o z0
      go_region_with
       ((first|(go_at_call 135;refine(kH mb _).mono ?_;rintro e w6 ⟨rfl,rfl⟩)|(go_at_call 134;(first|refine(HS.out 1).mono ?_|refine(HS.out 0).mono ?_|refine(HS.out _).mono ?_);rintro e w8 ⟨a8,n8,c8,rfl,⟨x8,f8⟩,h8⟩)))
      all_goals
       clear e0 e1 e2 e3 e4 y1 y2 y3 y4 y5 z0 z2 HS Jt x8 f8;go_wp2;exact⟨⟨i+1,by simp,by omega,h8⟩,by simp only[RowKit.intOf];omega⟩
     ·go_wp2_with(first|(at_builtin;refine bj (w:=_) rfl _ _ 34 rfl 0 3 i0 _ 1 8 underlying34 x_ hz0 hz1 hz2 rfl (by decide) _ _ _ rfl HO.out ⟨WO.heap.size+1,0,none⟩ 1 1 [.int .i64 ((k:Nat):Int)] rfl rfl LR.out (by simp[Value.oneCell']) (by unfold maxLen;omega) (by omega) (ax _) ?_;intro v7 w7 tE xA _ oQ;obtain⟨⟨d7,f7⟩,h7⟩:=HU.out _ _ tE xA oQ;obtain⟨a7,n7,c7,rfl⟩:=ft tE;obtain⟨⟨c0,c1,c2,c3,c4⟩,AQ⟩:=HC.out _ h7.out;have ye:=a_ AQ;clear HU tE xA oQ HO LR h7 HC AQ)|(go_at_call 133;refine ye.out.mono ?_;rintro e w5 ⟨rfl,h5⟩;obtain⟨sa,sn,sc,⟨e0,e1,e2,e3,e4⟩,⟨y1,y2,y3,y4,y5⟩,W2,rfl,z0,z2,HS⟩:=qV.out rfl _ h5.out;simp only[cD,cu]at y3 y4 y5 z0 z2 HS;clear ye qV h5 c0 c1 c2 c3 c4));generalize ((w5.setCell ⟨w.heap.size+1+1+1,1,none⟩ (.bool p)).setCell ⟨w.heap.size+1+1+1,2,none⟩ (.bool true))=W2 at*
      have Jt:∀o,(W2.alloc o).cell? ⟨w.heap.size+1+1+1,0,none⟩=some (.slice sa sn sc):=fun o=>eF o z0
      go_region_with
       ((first|(go_at_call 135;refine(kH mb _).mono ?_;rintro e w6 ⟨rfl,rfl⟩)|(go_at_call 134;(first|refine(HS.out 1).mono ?_|refine(HS.out 0).mono ?_|refine(HS.out _).mono ?_);rintro e w8 ⟨a8,n8,c8,rfl,⟨x8,f8⟩,h8⟩)))
      all_goals
       clear e0 e1 e2 e3 e4 y1 y2 y3 y4 y5 z0 z2 HS Jt x8 f8;go_wp2;exact⟨⟨i+1,by simp,by omega,h8⟩,by simp only[RowKit.intOf];omega⟩
     ·go_wp2_with(first|(at_builtin;refine bj (w:=_) rfl _ _ 34 rfl 0 3 i0 _ 1 8 underlying34 x_ hz0 hz1 hz2 rfl (by decide) _ _ _ rfl HO.out ⟨WO.heap.size+1,0,none⟩ 1 1 [.int .i64 ((k:Nat):Int)] rfl rfl LR.out (by simp[Value.oneCell']) (by unfold maxLen;omega) (by omega) (ax _) ?_;intro v7 w7 tE xA _ oQ;obtain⟨⟨d7,f7⟩,h7⟩:=HU.out _ _ tE xA oQ;obtain⟨a7,n7,c7,rfl⟩:=ft tE;obtain⟨⟨c0,c1,c2,c3,c4⟩,AQ⟩:=HC.out _ h7.out;have ye:=a_ AQ;clear HU tE xA oQ HO LR h7 HC AQ)|(go_at_call 133;refine ye.out.mono ?_;rintro e w5 ⟨rfl,h5⟩;obtain⟨sa,sn,sc,⟨e0,e1,e2,e3,e4⟩,⟨y1,y2,y3,y4,y5⟩,W2,rfl,z0,z2,HS⟩:=qV.out rfl _ h5.out;simp only[cD,cu]at y3 y4 y5 z0 z2 HS;clear ye qV h5 c0 c1 c2 c3 c4));generalize ((w5.setCell ⟨w.heap.size+1+1+1,1,none⟩ (.bool true)).setCell ⟨w.heap.size+1+1+1,2,none⟩ (.bool q))=W2 at*
      have Jt:∀o,(W2.alloc o).cell? ⟨w.heap.size+1+1+1,0,none⟩=some (.slice sa sn sc):=fun o=>eF o z0
      go_region_with
       ((first|(go_at_call 135;refine(kH mb _).mono ?_;rintro e w6 ⟨rfl,rfl⟩)|(go_at_call 134;(first|refine(HS.out 1).mono ?_|refine(HS.out 0).mono ?_|refine(HS.out _).mono ?_);rintro e w8 ⟨a8,n8,c8,rfl,⟨x8,f8⟩,h8⟩)))
      all_goals
       clear e0 e1 e2 e3 e4 y1 y2 y3 y4 y5 z0 z2 HS Jt x8 f8;go_wp2;exact⟨⟨i+1,by simp,by omega,h8⟩,by simp only[RowKit.intOf];omega⟩
     ·go_wp2_with(first|(at_builtin;refine bj (w:=_) rfl _ _ 34 rfl 0 3 i0 _ 1 8 underlying34 x_ hz0 hz1 hz2 rfl (by decide) _ _ _ rfl HO.out ⟨WO.heap.size+1,0,none⟩ 1 1 [.int .i64 ((k:Nat):Int)] rfl rfl LR.out (by simp[Value.oneCell']) (by unfold maxLen;omega) (by omega) (ax _) ?_;intro v7 w7 tE xA _ oQ;obtain⟨⟨d7,f7⟩,h7⟩:=HU.out _ _ tE xA oQ;obtain⟨a7,n7,c7,rfl⟩:=ft tE;obtain⟨⟨c0,c1,c2,c3,c4⟩,AQ⟩:=HC.out _ h7.out;have ye:=a_ AQ;clear HU tE xA oQ HO LR h7 HC AQ)|(go_at_call 133;refine ye.out.mono ?_;rintro e w5 ⟨rfl,h5⟩;obtain⟨sa,sn,sc,⟨e0,e1,e2,e3,e4⟩,⟨y1,y2,y3,y4,y5⟩,W2,rfl,z0,z2,HS⟩:=qV.out rfl _ h5.out;simp only[cD,cu]at y3 y4 y5 z0 z2 HS;clear ye qV h5 c0 c1 c2 c3 c4));generalize ((w5.setCell ⟨w.heap.size+1+1+1,1,none⟩ (.bool true)).setCell ⟨w.heap.size+1+1+1,2,none⟩ (.bool true))=W2 at*
      have Jt:∀o,(W2.alloc o).cell? ⟨w.heap.size+1+1+1,0,none⟩=some (.slice sa sn sc):=fun o=>eF o z0
      go_region_with
       ((first|(go_at_call 135;refine(kH mb _).mono ?_;rintro e w6 ⟨rfl,rfl⟩)|(go_at_call 134;(first|refine(HS.out 1).mono ?_|refine(HS.out 0).mono ?_|refine(HS.out _).mono ?_);rintro e w8 ⟨a8,n8,c8,rfl,⟨x8,f8⟩,h8⟩)))
      all_goals
       clear e0 e1 e2 e3 e4 y1 y2 y3 y4 y5 z0 z2 HS Jt x8 f8;go_wp2;exact⟨⟨i+1,by simp,by omega,h8⟩,by simp only[RowKit.intOf];omega⟩
  ·have hdec:decide ((i:Int)<fn)=false:=by simp;omega
   obtain rfl:i=fn:=by omega
   obtain⟨ta,tn,tc,nd,wh,x0,HS⟩:=pH.out _ HM.out;clear HR pH HM M0;go_wp2_with(first
    |(go_at_call 136;refine HS.out.mono ?_;rintro e w1 ⟨rfl,x1,H1⟩;clear HS x0)
    |(go_at_call 137;refine H1.out.mono ?_;rintro e w2 ⟨va,vn,vc,rfl,⟨x2,U2⟩,W3,W4,hW3,hW4,⟨u0,u3,uf⟩,H65,⟨t0,t1,t2,t3⟩,M9,HE⟩;subst hW4;subst hW3;clear H1 x1)
    |(go_at_call 138;refine H65.out.mono ?_;rintro e w4 ⟨rfl,h4⟩;subst h4;clear H65)
    |(refine wpList_store_mid rfl 193 (.tmp 6) (.tmp 72) rfl (w.heap.size+1+1) 0 (aT va vn vc nd wh ST.tx) rfl rfl M9.out (Yf ..) (aa8 ..) ?_))
   obtain⟨⟨rfl,rfl⟩,q1,q2⟩:=HE.out;exact aV (v:=.agg (aT va vn vc ST.nd ST.wh ST.tx)) (results_cell_row (p:=6) (ty:=193) results96 _ _ (w.heap.size+1+1) 193 _ (0,0) _ rfl q1 underlying193 rfl Dy) rfl ⟨va,vn,vc,rfl,q2⟩
end
end Go.Proofs.YtjecakcpcnmieaaGreatDoor
