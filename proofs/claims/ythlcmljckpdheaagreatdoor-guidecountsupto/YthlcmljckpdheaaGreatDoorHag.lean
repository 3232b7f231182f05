import Derived.Test.YthlcmljckpdheaaGreatDoorHA
import Derived.RangeFuncOwn
import Derived.Sort.MapsRangeIn
import Derived.Shelf.SlIterI.Keys
import Derived.RangeFuncFrom
import Derived.Maps.OwnIn
import Derived.Shelf.SlIter.Collect
import Derived.Shelf.Small.Wraps
import Derived.Shelf.LaysM
import Derived.Shelf.Strings.Cut
import Derived.Shelf.Sort.Plain
import Derived.Shelf.Strconv.AppendIntPublic10
import Derived.Ground.Names2Prog
import Derived.Shelf.Slices.CompactI
import Derived.Shelf.Slices.In.SortNone
import Derived.Test.YthlcmljckpdheaaGreatDoorProg
import Derived.Lib.SlKeysI
import Derived.Lib.SlicesCompact
import Derived.Deep.MidRow
import Derived.Laws.Rows
import Derived.Deep.RegionWith
import Derived.Test.YthlcmljckpdheaaGreatDoorHaf
import Derived.Test.YthlcmljckpdheaaGreatDoorHac
import Derived.Test.YthlcmljckpdheaaGreatDoorHad
set_option linter.unusedVariables false
set_option linter.unusedSimpArgs false
set_option maxHeartbeats 32000000
set_option maxRecDepth 100000
namespace Go.Proofs.YthlcmljckpdheaaGreatDoor
open Go.RowKit Go.Maps Go.Lib Tryz
section
variable{kv:List (Lit×Nat)}{left:Lit->Bool}{kl:Lit}{n:Nat}
def lj(kv:List (Lit×Nat)):List Int:=kv.map fun p=>(p.2:Int)
theorem Av:∀(kv:List (Lit×Nat)),(kv.map (·.1)).Nodup->WideAt.IsKeyLit kl->left kl=true->nB kv kl=some n->(lj (kv.filter fun p=>!(left p.1&&!p.1.sameKey kl))).Perm (lj (kv.filter fun p=>!left p.1)++[(n:Int)])
 |[],_,_,_,hf=>by cases hf
 |p::kv,wG,hk,hl,hf=>by
  rw[bC,List.nodup_cons]at wG;by_cases e:p.1=kl
  ·have e1:p.1.sameKey kl=true:=by rw[e];exact bZ hk
   have hn:p.2=n:=by
    unfold nB at hf;rw[cC,e1]at hf;simpa using hf
   have Vs:(kv.filter fun p=>!(left p.1&&!p.1.sameKey kl))=kv.filter fun p=>!left p.1:=by
    refine List.filter_congr fun q hq=>?_;have:q.1.sameKey kl=false:=dC fun h=>wG.1 (by rw[e,<-h];exact cD hq);rw[this];simp
   rw[dM (by rw[e1];simp),dN (by rw[e,hl];simp),Vs];unfold lj;rw[bC,hn];exact List.perm_append_comm (l₁:=[(n:Int)])
  ·have e1:p.1.sameKey kl=false:=dC e;have hf':nB kv kl=some n:=by
    unfold nB at hf ⊢;rw[cC,e1]at hf;exact hf
   have ih:=Av kv wG.2 hk hl hf';by_cases h2:left p.1=true
   ·rw[dN (by rw[e1,h2];simp),dN (by rw[h2];simp)];exact ih
   ·rw[dM (by rw[e1];simp[h2]),dM (by simp[h2])];unfold lj at ih ⊢;rw[bC,bC,bI];exact ih.cons _
theorem Tr(F:Fence)(n:Nat)(h83:F.fn 182)(hro:F.round=none)(hn:1<=n)(l Bm b:Nat)(kv:List (Lit×Nat))(wG:(kv.map (·.1)).Nodup)(hkk:∀p∈kv,WideAt.IsKeyLit p.1)(J Jx:List Int->World->Prop)
  (hY:∀pre x W,J pre W->pre.length<kv.length->YieldAt F (n-1) prog l #[.int .i64 x] W fun e W'=>(e=.returned (.bool true)/\J (pre++[x]) W'/\KeepsWalks W W')\/(e=.returned (.bool false)/\Jx (pre++[x]) W'))
  (W:World) (hJ:AbidesFrom W.heap.size J) (hm:W.cell? ⟨Bm,0,none⟩=some (.map (some b))) (hM:jb W 183 b kv) (h0:J [] W):
  CallsIn F n prog 182 #[.func (.yield l) #[] #[],Z8 Bm] W fun e W'=>(∃v,e=.returned v)/\((∃xs,xs.Perm (lj kv)/\J xs W')\/(∃pre,True/\Jx pre W')):=by
 obtain⟨D,hown,Ei,hat⟩:=hM.ex;refine callsIn_of_wp func182 rfl h83 ?_ hro;simp only[ntmps182,eA,au,aF,Nat.reduceAdd,Nat.reduceSub,Array.replicate_succ,Array.replicate_zero,List.push_toArray,List.append_toArray,bV,bI]
 gi_wp2_with (first
  |(gi_at_range;refine wpListIn_range_own _ rfl _ 181 rfl 183 3 Ci underlying181 _ b kv.length _ rfl hown ?_;intro w0 hrg0 hg0 hs0)
  |gi_in)
 go_frame
 gi_loopw [4] (fun _ wr=>∃(left:Lit->Bool) (cnt:Nat) (ss:List Int),wr.ranges prog 183 (plainElem prog 3) b W.heap.size kv.length D left cnt/\(∀kl,left kl=true->Maps.has D kl=true)/\ss.Perm (lj (kv.filter fun p=>!left p.1))/\J ss wr)
  (fun _ wr=>wr.rangeLeft b W.heap.size)
 case atStart=>
  refine⟨_,_,[],hrg0,fun _ h=>h,?_,hJ [] W w0 none h0 hg0 (fun r e=>by cases e)⟩;have:(kv.filter fun p=>!Maps.has D p.1)=[]:=by
   rw[List.filter_eq_nil_iff];intro p hp;rw[Ei];have:(nB kv p.1).isSome=true:=by
    unfold nB;rw[Option.isSome_map,List.find?_isSome];exact⟨p,hp,bZ (hkk p hp)⟩
   rw[this];decide
  rw[this];exact List.Perm.refl _
 case round=>
  obtain⟨left,cnt,ss,hrg,hlf,hP,hJs⟩:=hrel
  gi_wp2_with (first
   |(gi_at_next;refine wpListIn_next_ranges _ rfl _ rfl 183 Ci (plainElem prog 3) (id:Value->Value) (Value.int .i64) (fun key kl _=>⟨key,rfl⟩) (fun v y hv=>by obtain⟨c,rfl,_⟩:=eo underlying3 hv;exact⟨c,rfl⟩) b W.heap.size kv.length _ _ _ rfl hrg ?_ ?_)
   |gi_in)
  ·intro hc0 hl0
   gi_wp2
   go_end0
   refine⟨⟨_,rfl⟩,Or.inl ⟨ss,?_,hJs⟩⟩;have:(kv.filter fun p=>!left p.1)=kv:=List.filter_eq_self.2 fun p _=>by rw[hl0];rfl
   rw[this]at hP;exact hP
  ·intro x c kl yd yp w2 cnt2 hkey hlk hv mP hrg2 hlt hg2 hs2 hen;obtain⟨c',ec,ez,_⟩:=eo underlying3 hv;obtain rfl:c=c':=by simpa using ec
   have hy:yd=DataW.lit (.int .i64 c):=(Prod.mk.inj ez).1;have hsome:∃m:Nat,nB kv kl=some m:=by
    have h1:=hlf kl hlk;rw[Ei]at h1;exact Option.isSome_iff_exists.1 h1
   obtain⟨m,sD⟩:=hsome;have hcm:c=(m:Int):=by
    have h2:=mP (.lit (.int .i64 0));simp only[hat,sD,hy]at h2;cases h2;rfl
   subst hcm;have hP2:=Av (left:=left) kv wG (Ci.key hkey) hlk sD;have hlen:ss.length<kv.length:=by
    have h3:=hP2.length_eq;have h4:=hP.length_eq;have h5:(lj (kv.filter fun p=>!(left p.1&&!p.1.sameKey kl))).length<=kv.length:=by unfold lj;rw[cA];exact List.length_filter_le _ _
    rw[af,bc]at h3;omega
   have hJ2:J ss w2:=hJ _ wr w2 (some W.heap.size) hJs hg2 (fun r e=>by cases e;exact⟨aj _,hrg.iter_walk⟩);obtain⟨fn,tmps,assign,body,hyy,hR⟩:=hY ss (m:Int) w2 hJ2 hlen;clear hs2
   gi_wp2
   refine hR.mono ?_;rintro e W3 (⟨rfl,hJ3,hk3⟩|⟨rfl,aaY⟩)
   ·gi_wp2
    have hrg3:=hrg2.of_walks hk3
    go_roundw
    case rel=>
     refine⟨_,cnt2,ss++[(m:Int)],hrg3,fun k' h=>hlf k' (by simp at h;exact h.1),?_,hJ3⟩;exact(hP.append_right _).trans hP2.symm
    case measure=>rw[hrg3.left_eq,hrg.left_eq];exact hlt
   ·gi_wp2
    refine ba (aN rfl _ _ _) rfl ?_;exact⟨⟨_,rfl⟩,Or.inr ⟨_,trivial,aaY⟩⟩
end
section
variable{kv:List (Lit×Nat)}{w w' W W':World}{v:Value}{xs:List Int}
theorem kg(b:Nat)(w:World):Z4 135 #[.map (some b)] w fun e w'=>e=.returned (.func (.func 182) #[] #[.pointer (some ⟨w.heap.size,0,none⟩)])/\w'=w.alloc (.cells #[.map (some b)] 181):=by
 go_enter func135,ntmps135;go_wp2;go_ret;exact⟨rfl,rfl⟩
theorem Co(n:Nat)(hn:1<=n)(Bm b:Nat)(hBm:Bm<w.heap.size)(hm:w.cell? ⟨Bm,0,none⟩=some (.map (some b)))(hM:jb w 183 b kv)(wG:(kv.map (·.1)).Nodup)(hkk:∀p∈kv,WideAt.IsKeyLit p.1):
  SeqStopsK Fence.wide n prog 182 #[Z8 Bm] (fun x:Int=>#[Value.int .i64 x]) KeepsWalks (fun ys=>ys.Perm (lj kv)) (fun _=>True) kv.length w:=fun l J Jx W hW hJ _ hY h0=>
 Tr Fence.wide n trivial rfl hn l Bm b kv wG hkk J Jx hY W hJ ((ag (hW.block Bm hBm)).trans hm) (hM.of (hW.block b hM.lt)) h0
def kz(l:List Int):List Value:=l.map (Value.int .i64)
structure Vt(w:World)(v:Value)(xs ys:List Int)(W:World):Prop where
 ex:∃v1,W.heap[w.heap.size]?=some (.cells #[v1] 39 (0,0))/\W.ownsRow 0 3 1 v1 (xs++ys).length (kz (xs++ys))/\(∀k,v1.ownBlock=some k->v.ownBlock=some k\/w.heap.size<=k)
 fr:Fr (fun k=>v.ownBlock=some k) w W
theorem lL{B:Nat}{e:TypeId}{s n:Nat}{xs:List Value}(h:w.ownsRow B e s v n xs){k:Nat}(hk:v.ownBlock=some k):∃cur fz,w.heap[k]?=some (.cells cur e fz):=by
 rcases h.2 with⟨h',_⟩|⟨g,cap,cur,h',_,hg,_⟩
 ·rw[h']at hk;cases hk
 ·rw[h']at hk;cases hk;exact⟨_,_,hg⟩
theorem Vt.own(w:World)(v:Value)(xs:List Int):OwnFrom (w.heap.size+1) (fun ys W=>Vt w v xs ys W):=fun ys W W' row h hg hr=>by
 obtain⟨v1,h1,h2,h3⟩:=h.ex;have ne:∀(k:Nat) (cur:Array Value) (fz:Nat×Nat) (e:TypeId),W.heap[k]?=some (.cells cur e fz)->W'.heap[k]?=W.heap[k]?:=fun k cur fz e hk=>hg.block k (eO hk) fun er=>by
  obtain⟨_,o,ho,hc⟩:=hr k er.symm;rw[hk]at ho;cases ho;cases hc
 refine⟨⟨v1,(ne _ _ _ _ h1).trans h1,eH h2 fun k e=>?_,h3⟩,h.fr.gr hg fun k e hk=>?_⟩
 ·obtain⟨cur,fz,hk⟩:=lL h2 e;exact ne _ _ _ _ hk
 ·have:=(hr k e).1;omega
theorem uv:(prog.info? 3).map (fun i=>(i.zero,i.size,i.bytes))=some (some (.int .i64 0),1,8):=by kernel_rfl
theorem Vt.put{ys:List Int}{x:Int}{v1 v':Value}{w3:World}(h1:W.heap[w.heap.size]?=some (.cells #[v1] 39 (0,0)))(h2:W.ownsRow 0 3 1 v1 (xs++ys).length (kz (xs++ys)))(h3:∀k,v1.ownBlock=some k->v.ownBlock=some k\/w.heap.size<=k)(hf:Fr (fun k=>v.ownBlock=some k) w W)
  (ho:w3.ownsRow 0 3 1 v' ((xs++ys).length+1) (kz (xs++ys)++[.int .i64 x])) (hg:(W.alloc (.cells #[.int .i64 x] 3)).grownBy w3 v1.ownBlock) (hat:v'.ownBlock=v1.ownBlock\/v'.ownBlock=some (W.alloc (.cells #[.int .i64 x] 3)).heap.size):
  (w3.cell? ⟨w.heap.size,0,none⟩=some v1/\w3.frozen? ⟨w.heap.size,0,none⟩=false)/\KeepsOthers W (w3.setCell ⟨w.heap.size,0,none⟩ v')/\KeepsWalks W (w3.setCell ⟨w.heap.size,0,none⟩ v')/\Vt w v xs (ys++[x]) (w3.setCell ⟨w.heap.size,0,none⟩ v'):=by
 have hne:=fG h2 h1 (by decide);have hlt:=eO h1;have b3:w3.heap[w.heap.size]?=some (.cells #[v1] 39 (0,0)):=by
  rw[hg.block _ (by simp;omega) (fun e=>hne e.symm),ak _ _ _ hlt];exact h1
 have Zw:v'.ownBlock≠some w.heap.size:=fG ho b3 (by decide);have hcell:∀(j:Nat) (o:Obj),v1.ownBlock=some j->(W.alloc (.cells #[.int .i64 x] 3)).heap[j]?=some o->o.isCells=true:=fun j o e hj=>by
  obtain⟨cur,fz,hk⟩:=lL h2 e;rw[ak _ _ _ (eO hk),hk]at hj;cases hj;rfl
 refine⟨⟨cell_of b3 rfl,eR b3⟩,((KeepsOthers.alloc W _).trans (KeepsOthers.of_grownBy hg hcell)).trans (KeepsOthers.setCell _ _ _),((KeepsWalks.alloc W _).trans (KeepsWalks.of_grownBy hg fun j o e hj=>?_)).trans (KeepsWalks.setCell _ _ _),⟨⟨v',?_,?_,?_⟩,?_⟩⟩
 ·have:=hcell j o e hj;cases o<;>simp_all[Obj.isCells,Obj.isWalk]
 ·rw[fe b3];rfl
 ·have e:kz (xs++(ys++[x]))=kz (xs++ys)++[.int .i64 x]:=by unfold kz;rw[<-bt,aR];rfl
  have e2:(xs++(ys++[x])).length=(xs++ys).length+1:=by simp;omega
  rw[e,e2];exact eH ho fun k e=>ae _ _ _ _ (fun e'=>Zw (by rw[e,e']))
 ·intro k e;rcases hat with h|h
  ·exact h3 k (h▸e)
  ·rw[h]at e;have h4:=hf.size;have:k=W.heap.size+1:=by simpa using e.symm
   exact Or.inr (by omega)
 ·refine Fr.set ?_ _ _ (fun h=>absurd h (Nat.lt_irrefl _));refine(hf.alloc _).gr hg fun k e hk=>?_;rcases h3 k e with h|h
  ·exact h
  ·omega
theorem uw(w:World)(hrow:w.ownsRow 0 3 1 v xs.length (kz xs))(Bm b:Nat)(hBm:Bm<w.heap.size)(hm:w.cell? ⟨Bm,0,none⟩=some (.map (some b)))(hM:jb w 183 b kv)(wG:(kv.map (·.1)).Nodup)(hkk:∀p∈kv,WideAt.IsKeyLit p.1)(hl:xs.length+kv.length<=10000000000000):
  Z4 138 #[v,.func (.func 182) #[] #[Z8 Bm]] w fun e w'=>∃v' ys,e=.returned v'/\ys.Perm (lj kv)/\w'.ownsRow 0 3 1 v' (xs++ys).length (kz (xs++ys))/\Fr (fun k=>v.ownBlock=some k) w w'/\∀k,v'.ownBlock=some k->v.ownBlock=some k\/w.heap.size<=k:=by
 obtain⟨i0,hi,hz0,hz1,hz2⟩:=aZ uv;have hb0:=(Below.refl w.heap.size w).alloc (aj _) (.cells #[v] 39);have hseq:=Co (w:=w.alloc (.cells #[v] 39)) (kv:=kv) (3-1) (by omega) Bm b (by simp;omega) ((ag (hb0.block Bm hBm)).trans hm) (hM.of (hb0.block b hM.lt)) wG hkk;have hI0:Vt w v xs [] (w.alloc (.cells #[v] 39)):=⟨⟨v,eL w _,by rw[aM];exact eH hrow fun k e=>hb0.block k (eW hrow e),fun k h=>Or.inl h⟩,Fr.below hb0⟩
 obtain⟨va,vn,vc,rfl⟩:=eX hrow;refine(callsIn_wide (n:=3)).1 ?_;refine callsIn_of_wp_marks func138 rfl trivial ?_ rfl;simp only[ntmps138,eA,au,aF,Nat.reduceAdd,Nat.reduceSub,Array.replicate_succ,Array.replicate_zero,List.push_toArray,List.append_toArray,bV,bI]
 gi_wp2
 have hsz:(w.alloc (.cells #[.slice va vn vc] 39)).heap.size=w.heap.size+1:=by simp
 refine wpIn_rangeFunc_ownF rfl (by omega) (gf:=182) (lb:=#[Z8 Bm]) rfl trivial (enters_of func182 (by kernel_rfl) rfl) hseq (fun h k=>h.trans k) (fun W l o o' _ hl hc hw=>KeepsWalks.putObj o' hl hw) (Below.refl _ _) (fun _=>rfl)
  (fun ys W=>Vt w (.slice va vn vc) xs ys W) (fun _ _ _=>False) (by rw[hsz];exact Vt.own w _ xs) (fun c s A B row hs _ _=>hs) hI0
  (fun x=>{tmps:=#[.slice va vn vc,.func (.func 182) #[] #[Z8 Bm],.pointer (some ⟨w.heap.size,0,none⟩),undef,.slice none 0 0,.int .i64 x,.func (.func 182) #[] #[Z8 Bm],.int .i64 x,undef,undef,undef,undef,undef],defers:=[]}) ?assign ?body ?done ?stop
 case assign=>
  intro l x W K hK
  gi_wp2_with gi_round_op_a
  exact hK
 case body=>
  rintro l ys x W hI hlen;obtain⟨v1,h1,h2,h3⟩:=hI.ex;have hf:=hI.fr;obtain⟨a1,n1,c1,rfl⟩:=eX h2;have d0:W.cell? ⟨w.heap.size,0,none⟩=some (.slice a1 n1 c1):=cell_of h1 rfl;have Sl:(xs++ys).length+1<=10000000000000:=by rw[af];omega
  have HP:=a_ (fun v' w3=>Vt.put (w:=w) (v:=.slice va vn vc) (xs:=xs) (ys:=ys) (x:=x) (v':=v') (w3:=w3) h1 h2 h3 hf);have HR:=a_ (eH (w':=W.alloc (.cells #[.int .i64 x] 3)) h2 fun k e=>ak _ _ _ (eW h2 e));clear h1 h2 h3 hf hI hI0 hseq hb0 hrow hm hM wG hkk hlen hl
  gi_wp2_with (first
   |(gi_at_builtin;refine wpListIn_append_own_at (w:=_) rfl _ _ 39 rfl 0 3 i0 _ 1 8 underlying39 hi hz0 hz1 hz2 rfl (by decide) _ _ _ rfl HR.out ⟨W.heap.size,0,none⟩ 1 1 [.int .i64 x] rfl rfl (b8 _ _ _) (by simp[Value.oneCell']) (by unfold maxLen;omega) (by omega) (aq _) ?_;intro v7 w7 jg ku _ gK;obtain⟨⟨d7,f7⟩,H7⟩:=HP.out _ _ jg ku gK;have H8:=a_ H7;obtain⟨a7,n7,c7,rfl⟩:=eX jg;clear HP HR jg ku gK H7)
   |gi_round_op_a)
  exact H8.out
 case done=>
  rintro D ys W hD hS hI hK;obtain⟨v1,h1,h2,h3⟩:=hI.ex;have hf:=hI.fr;obtain⟨a1,n1,c1,rfl⟩:=eX h2;have d0:W.cell? ⟨w.heap.size,0,none⟩=some (.slice a1 n1 c1):=cell_of h1 rfl;have HI:=a_ hI;have H2:=a_ h2;clear h1 h2 hI hI0 hseq hb0 hrow hm hM wG hkk hl
  gi_wp2
  refine⟨by simp,.inl ⟨_,_,rfl,run_takeDeferred hK,?_⟩⟩;have hgp:=grownBy_putObj' W D (.deferred none);refine⟨.slice a1 n1 c1,by simp[results,results138,go_sem],.slice a1 n1 c1,ys,rfl,hS,eH H2.out fun k e=>?_,hf.gr hgp fun k e hk=>?_,h3⟩
  ·obtain⟨cur,fz,hk⟩:=lL H2.out e;refine hgp.block k (eO hk) fun e'=>?_;have:k=D:=bu e';rw[this,hK]at hk;cases hk
  ·have:=bu e;omega
 case stop=>
  rintro D c pre W hD _ hF;exact hF.elim
end
end Go.Proofs.YthlcmljckpdheaaGreatDoor
/-
 DERIVED:THE aaM YH AT THIS DUMP,IN PLAIN WORDS (Zx/lay-plain.mjs out of 'WE.abS,which Zx/lay-shelf.mjs wrote):THE SAME Ts UNDER THE SAME NAMES:'import','WH,'abT,'ab4,'theorem' AND NOTHING ELSE:no command of the aaN:FOR A ab5-IN. Each aaZ:the table of numbers ('..abU) and one theorem,a field a fact of the dump's own or the kernel's WI;each contract:ONE Vu.
-/
namespace Go.Proofs
open Go.Shelf
def Tryz.lays145_ren:Go.Shelf.Ren:=⟨fun|145=>52|220=>92|219=>136|217=>183|225=>184|224=>185|267=>186|266=>208|314=>209|n=>n,fun|9=>9|4=>4|59=>151|3=>3|5=>5|46=>278|146=>291|51=>246|n=>n,fun|1=>2|n=>n⟩
theorem Tryz.lays145:Go.Proofs.Lays.n145 Tryz.prog Tryz.lays145_ren:={
 mixed:=by kernel_rfl
 f145:=Tryz.func52.trans (aA some (by kernel_rfl))
 f217:=Tryz.func183.trans (aA some (by kernel_rfl))
 f219:=Tryz.func136.trans (aA some (by kernel_rfl))
 f220:=Tryz.func92.trans (aA some (by kernel_rfl))
 f224:=Tryz.func185.trans (aA some (by kernel_rfl))
 f225:=Tryz.func184.trans (aA some (by kernel_rfl))
 f266:=Tryz.func208.trans (aA some (by kernel_rfl))
 f267:=Tryz.func186.trans (aA some (by kernel_rfl))
 f314:=Tryz.func209.trans (aA some (by kernel_rfl))
 t3:=Tryz.underlying3
 a3:=Tryz.isAgg3
 z3:=Tryz.sizeOf3
 v3:=Tryz.zeroValue3
 t4:=Tryz.underlying4
 a4:=Tryz.isAgg4
 z4:=Tryz.sizeOf4
 v4:=Tryz.zeroValue4
 t5:=Tryz.underlying5
 a5:=Tryz.isAgg5
 z5:=Tryz.sizeOf5
 v5:=Tryz.zeroValue5
 t9:=Tryz.underlying9
 a9:=Tryz.isAgg9
 z9:=Tryz.sizeOf9
 v9:=Tryz.zeroValue9
 t46:=Tryz.underlying278
 a46:=Tryz.isAgg278
 z46:=Tryz.sizeOf278
 v46:=Tryz.zeroValue278
 t51:=Tryz.underlying246
 a51:=Tryz.isAgg246
 z51:=Tryz.sizeOf246
 v51:=Tryz.zeroValue246
 t59:=Tryz.underlying151
 a59:=Tryz.isAgg151
 z59:=Tryz.sizeOf151
 v59:=Tryz.zeroValue151
 t146:=Tryz.underlying291
 a146:=Tryz.isAgg291
 z146:=Tryz.sizeOf291
 v146:=Tryz.zeroValue291
 g1:=by kernel_rfl}
open Go.RowKit Go.Lib in
theorem Tryz.strings_Cut(s sep:ByteArray)(m:Int)(w:World)(hs:s.size<4294967281)(hm:w.cell? ⟨2,0,none⟩=some (.int .i64 m)):
 Calls Tryz.prog 52 #[.string s,.string sep] w fun e w'=>e=.returned (.tuple #[.string ⟨(Lib.cut s.data.toList sep.data.toList).1.toArray⟩,.string ⟨(Lib.cut s.data.toList sep.data.toList).2.1.toArray⟩,.bool (Lib.cut s.data.toList sep.data.toList).2.2])/\∃n,w'=w.drewN n:=Any.strings_Cut Tryz.lays145 s sep m w hs hm
def Tryz.lays189_ren:Go.Shelf.Ren:=⟨fun|189=>139|125=>188|257=>187|128=>219|129=>220|294=>210|295=>211|296=>212|297=>213|298=>214|299=>215|216=>216|300=>217|301=>218|328=>229|329=>230|330=>231|331=>232|332=>233|215=>234|343=>245|n=>n,fun|28=>39|3=>3|46=>278|0=>0|51=>246|53=>303|4=>4|183=>295|182=>294|131=>74|5=>5|9=>9|218=>307|222=>311|228=>320|229=>174|n=>n,fun|n=>n⟩
theorem Tryz.lays189:Go.Proofs.Lays.n189 Tryz.prog Tryz.lays189_ren:={
 mixed:=by kernel_rfl
 f125:=Tryz.func188.trans (aA some (by kernel_rfl))
 f128:=Tryz.func219.trans (aA some (by kernel_rfl))
 f129:=Tryz.func220.trans (aA some (by kernel_rfl))
 f189:=Tryz.func139.trans (aA some (by kernel_rfl))
 f215:=Tryz.func234.trans (aA some (by kernel_rfl))
 f216:=Tryz.func216.trans (aA some (by kernel_rfl))
 f257:=Tryz.func187.trans (aA some (by kernel_rfl))
 f294:=Tryz.func210.trans (aA some (by kernel_rfl))
 f295:=Tryz.func211.trans (aA some (by kernel_rfl))
 f296:=Tryz.func212.trans (aA some (by kernel_rfl))
 f297:=Tryz.func213.trans (aA some (by kernel_rfl))
 f298:=Tryz.func214.trans (aA some (by kernel_rfl))
 f299:=Tryz.func215.trans (aA some (by kernel_rfl))
 f300:=Tryz.func217.trans (aA some (by kernel_rfl))
 f301:=Tryz.func218.trans (aA some (by kernel_rfl))
 f328:=Tryz.func229.trans (aA some (by kernel_rfl))
 f329:=Tryz.func230.trans (aA some (by kernel_rfl))
 f330:=Tryz.func231.trans (aA some (by kernel_rfl))
 f331:=Tryz.func232.trans (aA some (by kernel_rfl))
 f332:=Tryz.func233.trans (aA some (by kernel_rfl))
 f343:=Tryz.func245.trans (aA some (by kernel_rfl))
 t0:=Tryz.underlying0
 a0:=Tryz.isAgg0
 z0:=Tryz.sizeOf0
 v0:=Tryz.zeroValue0
 t3:=Tryz.underlying3
 a3:=Tryz.isAgg3
 z3:=Tryz.sizeOf3
 v3:=Tryz.zeroValue3
 t4:=Tryz.underlying4
 a4:=Tryz.isAgg4
 z4:=Tryz.sizeOf4
 v4:=Tryz.zeroValue4
 t5:=Tryz.underlying5
 a5:=Tryz.isAgg5
 z5:=Tryz.sizeOf5
 v5:=Tryz.zeroValue5
 t9:=Tryz.underlying9
 a9:=Tryz.isAgg9
 z9:=Tryz.sizeOf9
 v9:=Tryz.zeroValue9
 t28:=Tryz.underlying39
 a28:=Tryz.isAgg39
 z28:=Tryz.sizeOf39
 v28:=Tryz.zeroValue39
 t46:=Tryz.underlying278
 a46:=Tryz.isAgg278
 z46:=Tryz.sizeOf278
 v46:=Tryz.zeroValue278
 t51:=Tryz.underlying246
 a51:=Tryz.isAgg246
 z51:=Tryz.sizeOf246
 v51:=Tryz.zeroValue246
 t53:=Tryz.underlying303
 a53:=Tryz.isAgg303
 z53:=Tryz.sizeOf303
 v53:=Tryz.zeroValue303
 t131:=Tryz.underlying74
 a131:=Tryz.isAgg74
 z131:=Tryz.sizeOf74
 v131:=Tryz.zeroValue74
 t182:=Tryz.underlying294
 a182:=Tryz.isAgg294
 z182:=Tryz.sizeOf294
 v182:=Tryz.zeroValue294
 t183:=Tryz.underlying295
 a183:=Tryz.isAgg295
 z183:=Tryz.sizeOf295
 v183:=Tryz.zeroValue295
 t218:=Tryz.underlying307
 a218:=Tryz.isAgg307
 z218:=Tryz.sizeOf307
 v218:=Tryz.zeroValue307
 t222:=Tryz.underlying311
 a222:=Tryz.isAgg311
 z222:=Tryz.sizeOf311
 v222:=Tryz.zeroValue311
 t228:=Tryz.underlying320
 a228:=Tryz.isAgg320
 z228:=Tryz.sizeOf320
 v228:=Tryz.zeroValue320
 t229:=Tryz.underlying174
 a229:=Tryz.isAgg174
 z229:=Tryz.sizeOf174
 v229:=Tryz.zeroValue174}
open Go.Sort Go.RowKit in
theorem Tryz.slices_Sort_int(blk off cap:Nat)(zs:List Int)(w:World)(hH:Holds (Value.int .i64) w blk off zs.toArray)(hblk:blk<w.heap.size)(hsz:zs.length<4611686018427387904):
 Calls Tryz.prog 139 #[.slice (some ⟨blk,off,none⟩) zs.length cap] w fun e w'=>
  e=.returned (.tuple #[])/\∃n os,w'=grow (putRow (Value.int .i64) (Sort.ahead w n) blk off (zs.mergeSort fun x y=>decide (x<=y)).toArray) os:=Any.slices_Sort_int Tryz.lays189 blk off cap zs w hH hblk hsz
def Tryz.laysM176_ren:Go.Shelf.Ren:=⟨fun|176=>180|249=>207|288=>228|283=>241|284=>242|285=>243|286=>244|129=>220|317=>251|318=>252|319=>253|320=>254|337=>256|338=>257|n=>n,fun|37=>101|2=>2|3=>3|53=>303|4=>4|9=>9|171=>316|0=>0|173=>318|212=>324|51=>246|5=>5|20=>20|213=>325|46=>278|232=>327|233=>328|n=>n,fun|17=>6|18=>7|19=>8|n=>n⟩
theorem Tryz.laysM176:Go.Proofs.LaysM.n176 Tryz.prog Tryz.laysM176_ren:={
 mixed:=by kernel_rfl
 f129:=Tryz.func220.trans (aA some (by kernel_rfl))
 f176:=Tryz.func180.trans (aA some (by kernel_rfl))
 f249:=Tryz.func207.trans (aA some (by kernel_rfl))
 f283:=Tryz.func241.trans (aA some (by kernel_rfl))
 f284:=Tryz.func242.trans (aA some (by kernel_rfl))
 f285:=Tryz.func243.trans (aA some (by kernel_rfl))
 f286:=Tryz.func244.trans (aA some (by kernel_rfl))
 f288:=Tryz.func228.trans (aA some (by kernel_rfl))
 f317:=Tryz.func251.trans (aA some (by kernel_rfl))
 f318:=Tryz.func252.trans (aA some (by kernel_rfl))
 f319:=Tryz.func253.trans (aA some (by kernel_rfl))
 f320:=Tryz.func254.trans (aA some (by kernel_rfl))
 f337:=Tryz.func256.trans (aA some (by kernel_rfl))
 f338:=Tryz.func257.trans (aA some (by kernel_rfl))
 t0:=Tryz.underlying0
 a0:=Tryz.isAgg0
 z0:=Tryz.sizeOf0
 v0:=Tryz.zeroValue0
 t2:=Tryz.underlying2
 a2:=Tryz.isAgg2
 z2:=Tryz.sizeOf2
 v2:=Tryz.zeroValue2
 t3:=Tryz.underlying3
 a3:=Tryz.isAgg3
 z3:=Tryz.sizeOf3
 v3:=Tryz.zeroValue3
 t4:=Tryz.underlying4
 a4:=Tryz.isAgg4
 z4:=Tryz.sizeOf4
 v4:=Tryz.zeroValue4
 t5:=Tryz.underlying5
 a5:=Tryz.isAgg5
 z5:=Tryz.sizeOf5
 v5:=Tryz.zeroValue5
 t9:=Tryz.underlying9
 a9:=Tryz.isAgg9
 z9:=Tryz.sizeOf9
 v9:=Tryz.zeroValue9
 t20:=Tryz.underlying20
 a20:=Tryz.isAgg20
 z20:=Tryz.sizeOf20
 v20:=Tryz.zeroValue20
 t37:=Tryz.underlying101
 a37:=Tryz.isAgg101
 z37:=Tryz.sizeOf101
 v37:=Tryz.zeroValue101
 t46:=Tryz.underlying278
 a46:=Tryz.isAgg278
 z46:=Tryz.sizeOf278
 v46:=Tryz.zeroValue278
 t51:=Tryz.underlying246
 a51:=Tryz.isAgg246
 z51:=Tryz.sizeOf246
 v51:=Tryz.zeroValue246
 t53:=Tryz.underlying303
 a53:=Tryz.isAgg303
 z53:=Tryz.sizeOf303
 v53:=Tryz.zeroValue303
 t171:=Tryz.underlying316
 a171:=Tryz.isAgg316
 z171:=Tryz.sizeOf316
 v171:=Tryz.zeroValue316
 t173:=Tryz.underlying318
 a173:=Tryz.isAgg318
 z173:=Tryz.sizeOf318
 v173:=Tryz.zeroValue318
 t212:=Tryz.underlying324
 a212:=Tryz.isAgg324
 z212:=Tryz.sizeOf324
 v212:=Tryz.zeroValue324
 t213:=Tryz.underlying325
 a213:=Tryz.isAgg325
 z213:=Tryz.sizeOf325
 t232:=Tryz.underlying327
 a232:=Tryz.isAgg327
 z232:=Tryz.sizeOf327
 v232:=Tryz.zeroValue327
 t233:=Tryz.underlying328
 a233:=Tryz.isAgg328
 z233:=Tryz.sizeOf328
 v233:=Tryz.zeroValue328
 g17:=by kernel_rfl
 g18:=by kernel_rfl
 g19:=by kernel_rfl
 i0:=by kernel_rfl
 i2:=by kernel_rfl
 i3:=by kernel_rfl
 i4:=by kernel_rfl
 i5:=by kernel_rfl
 i9:=by kernel_rfl
 i20:=by kernel_rfl
 i37:=by kernel_rfl
 i46:=by kernel_rfl
 i51:=by kernel_rfl
 i53:=by kernel_rfl
 i171:=by kernel_rfl
 i173:=by kernel_rfl
 i212:=by kernel_rfl
 i232:=by kernel_rfl
 i233:=by kernel_rfl
 m17:=by kernel_rfl
 m18:=by kernel_rfl
 m19:=by kernel_rfl}
open Go.RowKit Go.Sort Go.Lib in
theorem Tryz.strconv_AppendInt_10 (B n : Nat) (i : Int) (h0 : -9223372036854775808 ≤ i) (h1 : i ≤ 9223372036854775807) (sv : Value) (xs : List Value) (w : World) (hown : w.ownsRow B 5 1 sv n xs) (vt : B ≤ w.heap.size) (hlim : n + 21 ≤ 140737488355328) (aa0 : Lib.TabBelow Tryz.prog B w "internal/strconv.uint64pow10" .u64 Lib.pow10Tab) :
 Calls Tryz.prog 180 #[sv,.int .i64 i,.int .i64 10] w fun e w'=>∃v',e=.returned v'/\w'.ownsRow B 5 1 v' (n+(Lib.itoa i).length) (xs++Lib.byteCells (Lib.itoa i))/\Below B w w'/\Lib.OthersKept 5 none w w':=Any.strconv_AppendInt_10 Tryz.laysM176 B n i h0 h1 sv xs w hown vt hlim aa0
def Tryz.laysNm220_ren:Go.Shelf.Ren:=⟨fun|20=>140|n=>n,fun|22=>39|3=>3|4=>4|0=>0|n=>n,fun|n=>n⟩
theorem Tryz.laysNm220:Go.Proofs.Lays2.n20 Tryz.prog Tryz.laysNm220_ren:={
 mixed:=by kernel_rfl
 f20:=Tryz.func140.trans (aA some (by kernel_rfl))
 t0:=Tryz.underlying0
 a0:=Tryz.isAgg0
 z0:=Tryz.sizeOf0
 v0:=Tryz.zeroValue0
 t3:=Tryz.underlying3
 a3:=Tryz.isAgg3
 z3:=Tryz.sizeOf3
 v3:=Tryz.zeroValue3
 t4:=Tryz.underlying4
 a4:=Tryz.isAgg4
 z4:=Tryz.sizeOf4
 v4:=Tryz.zeroValue4
 t22:=Tryz.underlying39
 a22:=Tryz.isAgg39
 z22:=Tryz.sizeOf39
 v22:=Tryz.zeroValue39
 i3:=by kernel_rfl}
open Go.RowKit Go.Lib Go.Sort in
theorem Tryz.slices_Compact_int(blk off cap:Nat)(zs:List Int)(w:World)(hH:Holds (Value.int .i64) w blk off zs.toArray)(hsz:zs.length<=9223372036854775807)(Lb:zs.length<=cap):
 Calls Tryz.prog 140 #[.slice (some ⟨blk,off,none⟩) zs.length cap] w fun e w'=>e=.returned (.slice (some ⟨blk,off,none⟩) (Lib.compact zs).length cap)/\∃q,w'=putRow (Value.int .i64) (Sort.ahead w q) blk off (Lib.compact zs++List.replicate (zs.length-(Lib.compact zs).length) 0).toArray:=Any.slices_Compact_int Tryz.laysNm220 blk off cap zs w hH hsz Lb
open Go.RowKit Go.Lib Go.Sort in
theorem Tryz.slices_Compact_int_empty(a:Option Addr)(cap:Nat)(w:World):
 Calls Tryz.prog 140 #[.slice a 0 cap] w fun e w'=>e=.returned (.slice a 0 cap)/\w'=w:=Any.slices_Compact_int_empty Tryz.laysNm220 a cap w
open Go.RowKit Go.Sort in
theorem Tryz.slices_Sort_int_none(p:Option Addr)(cap:Nat)(w:World):
 Calls Tryz.prog 139 #[.slice p 0 cap] w fun e w'=>e=.returned (.tuple #[])/\w'=w:=Any.slices_Sort_int_none Tryz.lays189 p cap w
end Go.Proofs
namespace Go.Proofs.YthlcmljckpdheaaGreatDoor
open Go.RowKit Go.Maps Go.Lib Go.Sort Tryz
section
variable{kv:List (Lit×Nat)}{w w' W W':World}{v:Value}{xs zs:List Int}
def rI(zs:List Int):List Int:=zs.mergeSort fun x y=>decide (x<=y)
theorem xv(zs:List Int):(rI zs).length=zs.length:=by unfold rI;simp
theorem Ej(h:w.ownsRow 0 3 1 v zs.length (kz zs))(hl:zs.length<=10000000000000):Z4 139 #[v] w fun e w'=>e=.returned (.tuple #[])/\w'.ownsRow 0 3 1 v zs.length (kz (rI zs))/\w.grownBy w' v.ownBlock:=by
 rcases h.2 with⟨rfl,hz⟩|⟨g,cap,cur,rfl,hb,hg,vr,hcm,hcs,rH⟩
 ·have:zs=[]:=aY hz;subst this;refine(slices_Sort_int_none none 0 w).mono ?_;rintro e w' ⟨rfl,rfl⟩;exact⟨rfl,by simpa [rI,kz]using h,⟨rfl,rfl,rfl,aj _,fun _ _ _=>rfl⟩⟩
 ·refine(slices_Sort_int g 0 cap zs w (holds_of_block_i hg (by rw[Nat.mul_one]at rH;exact rH)) (eO hg) (by omega)).mono ?_;rintro e w' ⟨rfl,n,os,rfl⟩;exact⟨rfl,ownsRow_sorted_i (xv zs) (aq _) hg vr hcm hcs,grownBy_sorted_i _⟩
theorem Tt{g n cap m:Nat}{ys:List Value}(h:w.ownsRow 0 3 1 (Z9 g n cap) n ys)(hm:m<=n):w.ownsRow 0 3 1 (Z9 g m cap) m (ys.take m):=by
 have hl:=h.1;rcases h.2 with⟨h',_⟩|⟨g',cap',cur,h',hb,hg,vr,hcm,hcs,rH⟩
 ·cases h'
 ·cases h';refine⟨by rw[bM];omega,Or.inr ⟨g,cap,cur,rfl,hb,hg,by omega,hcm,hcs,?_⟩⟩;rw[<-rH,dK];congr 1;omega
theorem Ha(zs:List Int):(Lib.compact zs).length<=zs.length:=by
 have key:∀(d:Array Int) (m:Nat),(compactUpTo d m).length<=m:=fun d m=>by
  induction m with
  |zero=>simp[compactUpTo]
  |succ m ih=>rw[compactUpTo_succ,af];split<;>simp<;>omega
 exact key _ _
theorem Ek(h:w.ownsRow 0 3 1 v zs.length (kz zs))(hl:zs.length<=10000000000000):Z4 140 #[v] w fun e w'=>∃v',e=.returned v'/\w'.ownsRow 0 3 1 v' (Lib.compact zs).length (kz (Lib.compact zs))/\w.grownBy w' v.ownBlock/\v'.ownBlock=v.ownBlock:=by
 rcases h.2 with⟨rfl,hz⟩|⟨g,cap,cur,rfl,hb,hg,vr,hcm,hcs,rH⟩
 ·have:zs=[]:=aY hz;subst this;refine(slices_Compact_int_empty none 0 w).mono ?_;rintro e w' ⟨rfl,rfl⟩;exact⟨_,rfl,by simpa [Lib.compact,compactUpTo,kz]using h,⟨rfl,rfl,rfl,aj _,fun _ _ _=>rfl⟩,rfl⟩
 ·refine(slices_Compact_int g 0 cap zs w (holds_of_block_i hg (by rw[Nat.mul_one]at rH;exact rH)) (by omega) vr).mono ?_;rintro e w' ⟨rfl,q,rfl⟩;have hle:=Ha zs;have hlen:(Lib.compact zs++List.replicate (zs.length-(Lib.compact zs).length) (0:Int)).length=zs.length:=by rw[af,List.length_replicate];omega
  have e0:putRow (Value.int .i64) (Sort.ahead w q) g 0 (Lib.compact zs++List.replicate (zs.length-(Lib.compact zs).length) (0:Int)).toArray=grow (putRow encZ (Sort.ahead w q) g 0 (Lib.compact zs++List.replicate (zs.length-(Lib.compact zs).length) (0:Int)).toArray) #[]:=by
   unfold grow;rw[Array.append_empty]
  rw[e0];have r:=ownsRow_sorted_i (n:=q) (os:=#[]) hlen (aq _) hg vr hcm hcs;refine⟨_,rfl,?_,grownBy_sorted_i _,rfl⟩;have r2:=Tt r hle;have e1:((Lib.compact zs++List.replicate (zs.length-(Lib.compact zs).length) (0:Int)).map encZ).take (Lib.compact zs).length=kz (Lib.compact zs):=by
   rw[<-List.map_take,List.take_left];rfl
  rw[e1]at r2;exact r2
theorem Hb(d:Array Int)(hs:∀i j,i<j->j<d.size->d[i]!<=d[j]!):∀m,m<=d.size->(compactUpTo d m).Pairwise (· < ·)/\(∀x,x∈compactUpTo d m↔∃j,j<m/\d[j]! =x):=by
 intro m;induction m with
 |zero=>intro _;exact⟨by simp[compactUpTo],fun x=>by simp[compactUpTo]⟩
 |succ m ih=>
  intro hm;obtain⟨h1,h2⟩:=ih (by omega);rw[compactUpTo_succ];cases hk:keeps d m with
  |true=>
   refine⟨?_,fun x=>?_⟩
   ·simp only[if_true];rw[List.pairwise_append];refine⟨h1,by simp,fun a ha c hc=>?_⟩;rw[aJ]at hc;subst hc;obtain⟨j,hj,rfl⟩:=(h2 a).1 ha;have hne:d[m]!≠d[m-1]!:=fun e=>by rw[keeps_neg (by omega) e]at hk;cases hk
    have h3:=hs (m-1) m (by omega) (by omega);have h4:d[j]!<=d[m-1]!:=by
     by_cases e:j=m-1
     ·rw[e];exact Int.le_refl _
     ·exact hs j (m-1) (by omega) (by omega)
    omega
   ·simp only[if_true,List.mem_append,aJ,h2];constructor
    ·rintro(⟨j,hj,rfl⟩|rfl)
     ·exact⟨j,by omega,rfl⟩
     ·exact⟨m,by omega,rfl⟩
    ·rintro⟨j,hj,rfl⟩;by_cases e:j=m
     ·right;rw[e]
     ·left;exact⟨j,by omega,rfl⟩
  |false=>
   have YI:0<m:=Nat.pos_of_ne_zero fun e=>by rw[keeps_lt_one d m (by omega)]at hk;cases hk
   have he:d[m]! =d[m-1]!:=bJ fun hne=>by rw[keeps_pos hne]at hk;cases hk
   refine⟨by simpa using h1,fun x=>?_⟩;simp only[ay,bf,aM,h2];constructor
   ·rintro⟨j,hj,rfl⟩;exact⟨j,by omega,rfl⟩
   ·rintro⟨j,hj,rfl⟩;by_cases e:j=m
    ·exact⟨m-1,by omega,by rw[e,he]⟩
    ·exact⟨j,by omega,rfl⟩
theorem El(zs:List Int):(Lib.compact (rI zs)).Pairwise (· < ·)/\∀x,x∈Lib.compact (rI zs)↔x∈zs:=by
 have hp:(rI zs).Pairwise (· <= ·):=by
  have:=List.pairwise_mergeSort (le:=fun x y:Int=>decide (x<=y)) (fun a b c h1 h2=>by simp at*;omega) (fun a b=>by simp;omega) zs;unfold rI;exact this.imp (fun h=>by simpa using h)
 have hget:∀i,i<(rI zs).length->(rI zs).toArray[i]! =(rI zs)[i]!:=fun i hi=>by simp[hi]
 obtain⟨h1,h2⟩:=Hb (rI zs).toArray (fun i j hij hj=>by
  have YJ:j<(rI zs).length:=by simpa using hj
  have zH:i<(rI zs).length:=by omega
  have:=(List.pairwise_iff_getElem.1 hp) i j zH YJ hij;simpa [zH,YJ]using this) (rI zs).length (by simp)
 refine⟨h1,fun x=>(h2 x).trans ?_⟩;have hm:x∈rI zs↔x∈zs:=by unfold rI;exact List.mem_mergeSort
 rw[<-hm,List.mem_iff_getElem];constructor
 ·rintro⟨j,hj,rfl⟩;exact⟨j,hj,by simp[hj]⟩
 ·rintro⟨j,hj,rfl⟩;exact⟨j,hj,by simp[hj]⟩
end
section
variable{kv:List (Lit×Nat)}{w w' W W':World}{v:Value}{xs zs:List Int}
theorem Hc(w:World)(Bm b:Nat)(hBm:Bm<w.heap.size)(hm:w.cell? ⟨Bm,0,none⟩=some (.map (some b)))(hM:jb w 183 b kv)(wG:(kv.map (·.1)).Nodup)(hkk:∀p∈kv,WideAt.IsKeyLit p.1)(hl:kv.length<=10000000000000):
  Z4 181 #[.func (.func 182) #[] #[Z8 Bm]] w fun e w'=>∃va vn vc ys,e=.returned (.slice va vn vc)/\ys.Perm (lj kv)/\w'.ownsRow 0 3 1 (.slice va vn vc) ys.length (kz ys)/\Z5 w w'/\∀k,(Value.slice va vn vc).ownBlock=some k->w.heap.size<=k:=by
 have h0:=uw (v:=.slice none 0 0) (xs:=[]) w (bp _ _ _ _) Bm b hBm hm hM wG hkk (by simp;omega);have HA:Hid (Z4 138 #[.slice none 0 0,.func (.func 182) #[] #[Z8 Bm]] w fun e w'=>∃va vn vc ys,e=.returned (.slice va vn vc)/\ys.Perm (lj kv)/\w'.ownsRow 0 3 1 (.slice va vn vc) ys.length (kz ys)/\Z5 w w'/\∀k,(Value.slice va vn vc).ownBlock=some k->w.heap.size<=k):=a_ (h0.mono fun e w' ⟨v',ys,h1,h2,h3,h4,h5⟩=>by
  obtain⟨va,vn,vc,rfl⟩:=eX h3;refine⟨va,vn,vc,ys,h1,h2,by simpa using h3,h4.up (fun k hk=>by cases hk) (aj _),fun k e=>?_⟩;rcases h5 k e with h|h
  ·cases h
  ·exact h)
 clear h0 hm hM wG hkk hl;go_enter func181,ntmps181;go_wp2_with(go_at_call 138;refine HA.out.mono ?_;rintro e w5 ⟨va,vn,vc,ys,rfl,h5⟩;have H5:=a_ h5;clear HA h5);go_ret;exact⟨va,vn,vc,ys,rfl,H5.out⟩
theorem Lc(w:World)(Bm b:Nat)(hBm:Bm<w.heap.size)(hm:w.cell? ⟨Bm,0,none⟩=some (.map (some b)))(hM:jb w 183 b kv)(wG:(kv.map (·.1)).Nodup)(hkk:∀p∈kv,WideAt.IsKeyLit p.1)(hl:kv.length<=10000000000000):
  Z4 134 #[.func (.func 182) #[] #[Z8 Bm]] w fun e w'=>∃va vn vc ys,e=.returned (.slice va vn vc)/\ys.Perm (lj kv)/\w'.ownsRow 0 3 1 (.slice va vn vc) ys.length (kz (rI ys))/\Z5 w w'/\∀k,(Value.slice va vn vc).ownBlock=some k->w.heap.size<=k:=by
 have HA:=a_ (Hc w Bm b hBm hm hM wG hkk hl);have HS:Hid (∀w1 va vn vc (ys:List Int),ys.Perm (lj kv)->w1.ownsRow 0 3 1 (.slice va vn vc) ys.length (kz ys)->Z5 w w1->(∀k,(Value.slice va vn vc).ownBlock=some k->w.heap.size<=k)->Z4 139 #[.slice va vn vc] w1 fun e w'=>e=.returned (.tuple #[])/\w'.ownsRow 0 3 1 (.slice va vn vc) ys.length (kz (rI ys))/\Z5 w w'):=fun w1 va vn vc ys hp hr hb ho=>by
  have Wt:ys.length=kv.length:=by rw[hp.length_eq];simp[lj]
  refine(Ej hr (by omega)).mono ?_;rintro e w' ⟨h1,h2,h3⟩;exact⟨h1,h2,hb.grown h3 hb.size ho⟩
 clear hm hM wG hkk hl;go_enter func134,ntmps134;go_wp2_with(first|(go_at_call 181;refine HA.out.mono ?_;rintro e w5 ⟨va,vn,vc,ys,rfl,p1,p2,p3,p4⟩;have HC:=a_ (HS.out _ _ _ _ _ p1 p2 p3 p4);have P1:=a_ p1;have P4:=a_ p4;clear HA HS p1 p2 p3 p4)|(go_at_call 139;refine HC.out.mono ?_;rintro e w6 ⟨rfl,p5,p6⟩;have P5:=a_ p5;have P6:=a_ p6;clear HC p5 p6));go_ret;exact⟨va,vn,vc,ys,rfl,P1.out,P5.out,P6.out,P4.out⟩
end
section
variable{kv:List (Lit×Nat)}{w w' W W':World}{v:Value}{xs:List (Br×Nat)}{b:i_}{x:Br×Nat}
def mq(l:List Nat):List Value:=l.map fun k=> .int .i64 (k:Nat)
theorem Em(l:List Int)(h:∀z∈l,0<=z):kz l=mq (l.map Int.toNat):=by
 unfold kz mq;rw[dr];refine cV fun z hz=>?_;have:=h z hz;simp only[Function.comp];congr 1;omega
theorem En(x:Br)(hs:∀y∈x.kids,y.1.2.length<=1000000)(hn:(x.kids.map (·.1)).Nodup):((ib x).map (·.1)).Nodup/\(∀p∈ib x,WideAt.IsKeyLit p.1):=by
 refine⟨?_,fun p hp=>?_⟩
 ·unfold ib;rw[dr];unfold List.Nodup at hn ⊢;rw[eD]at hn ⊢;refine hn.imp_of_mem fun ha hb hne e=>hne ?_;exact Ed (hs _ ha) (hs _ hb) e
 ·unfold ib at hp;obtain⟨y,hy,rfl⟩:=List.mem_map.1 hp;exact Ci.key (OA y.1 (hs y hy))
theorem Aw(x:Br):lj (ib x)=(x.kids.map (·.2)).map fun k:Nat=>(k:Int):=by
 unfold lj ib;rw[dr,dr];rfl
theorem Ld(h0:b[0]?=some x.1)(hu:K9 b){ys:List Int}(hp:ys.Perm (lj (ib x.1))):kz (rI ys)=mq (jJ b).due/\ys.length=(jJ b).due.length:=by
 rw[Aw]at hp;have hpos:∀z∈rI ys,0<=z:=fun z hz=>by
  have:z∈ys:=by unfold rI at hz;exact List.mem_mergeSort.1 hz
  obtain⟨k,_,rfl⟩:=List.mem_map.1 (hp.mem_iff.1 this);omega
 have hs:(rI ys).Pairwise (· <= ·):=by
  have:=List.pairwise_mergeSort (le:=fun x y:Int=>decide (x<=y)) (fun a b c h1 h2=>by simp at*;omega) (fun a b=>by simp;omega) ys;unfold rI;exact this.imp (fun h=>by simpa using h)
 have hpm:((rI ys).map Int.toNat).Perm (x.1.kids.map (·.2)):=by
  have h1:(rI ys).Perm ((x.1.kids.map (·.2)).map fun k:Nat=>(k:Int)):=by unfold rI;exact(List.mergeSort_perm ys _).trans hp
  have h2:=h1.map Int.toNat;rw[dr]at h2;have e:(x.1.kids.map (·.2)).map (Int.toNat∘fun k:Nat=>(k:Int))=x.1.kids.map (·.2):=by
   conv=>rhs;rw[<-List.map_id (x.1.kids.map (·.2))]
   refine cV fun k _=>?_;simp
  rw[e]at h2;exact h2
 have hl:=G8 h0 hu (by rw[eD];exact hs.imp (fun h=>by omega)) hpm;rw[Em _ hpos,hl];refine⟨rfl,?_⟩;rw[<-hl,cA,xv]
theorem Cp:(prog.info? 193).map (·.size)=some 4:=by kernel_rfl
end
section
variable{kv:List (Lit×Nat)}{w w' W W':World}{v:Value}{xs:List (Br×Nat)}{b:i_}{x:Br×Nat}
theorem Zy{g:Nat}{t:TypeId}{a0 a1 a2 a3:Value}(h:w.heap[g]?=some (.cells #[a0,a1,a2,a3] t (0,0)))(b0 b1 b2 b3:Value):(w.setCells g 0 [b0,b1,b2,b3]).heap[g]?=some (.cells #[b0,b1,b2,b3] t (0,0)):=by
 have h1:=fe (i:=0) h b0;have h2:=fe (i:=1) h1 b1;have h3:=fe (i:=2) h2 b2;have h4:=fe (i:=3) h3 b3;exact h4
theorem OS{g:Nat}{t:TypeId}{a0 a1 a2 a3:Value}(h:w.heap[g]?=some (.cells #[a0,a1,a2,a3] t (0,0))):w.there g 0 4:=fun j hj=>by
 refine⟨?_,eR h⟩;rw[ax]
 match j,hj with
 |0,_=>rw[cell_of (i:=0) h rfl];rfl
 |1,_=>rw[cell_of (i:=1) h rfl];rfl
 |2,_=>rw[cell_of (i:=2) h rfl];rfl
 |3,_=>rw[cell_of (i:=3) h rfl];rfl
abbrev aT(va:Option Addr)(vn vc:Nat)(p q r:Bool):Array Value:=#[.slice va vn vc,.bool p,.bool q,.bool r]
theorem Zz(va:Option Addr)(vn vc:Nat)(p q r:Bool):(aT va vn vc p q r).all (·.oneCell')=true:=by simp[aT,Value.oneCell']
theorem Vv(va:Option Addr)(vn vc:Nat)(p q r:Bool):(prog.info? 193).map (·.size)=some (aT va vn vc p q r).size:=Cp
theorem ym(h:BR w v xs)(hb:xs.map (·.1)=b)(hw:zL b)(hu:K9 b)(hs:wF b)(hf:∀y∈b,y.kids.length<=b.length)(hl:b.length<=2300000000000):Z4 91 #[v] w fun e w'=>∃va vn vc,e=.returned (.agg #[.slice va vn vc,.bool false,.bool false,.bool false])/\w'.ownsRow 0 3 1 (.slice va vn vc) (jJ b).due.length (mq (jJ b).due)/\Z5 w w'/\∀k,(Value.slice va vn vc).ownBlock=some k->w.heap.size<=k:=by
 have GY:xs.length=b.length:=by rw[<-hb];simp
 have h0:=hw.1;have hx:xs[0]?=some xs[0]:=ap (by omega);generalize xs[0]=x at hx;have sM:b[0]?=some x.1:=by rw[<-hb,aH,hx];rfl
 have G6:x∈xs:=aO hx;obtain⟨g,cap,rfl,hg,vr,g0,g1,g2,g3,g4⟩:=h.at hx;rw[Nat.zero_mul,ax]at g2;obtain⟨li,hk2⟩:=En x.1 (hs x.1 (aO sM)) (hw.2 0 _ sM).2;have mN:(ib x.1).length<=10000000000000:=by have:=hf x.1 (aO sM);unfold ib;rw[cA];omega
 have hR:=eL w (.cells #[.slice none 0 0,.bool false,.bool false,.bool false] 193);have hb1:=(Below.refl w.heap.size w).alloc (aj _) (.cells #[.slice none 0 0,.bool false,.bool false,.bool false] 193);have c2:(w.alloc (.cells #[.slice none 0 0,.bool false,.bool false,.bool false] 193)).cell? ⟨g,2,none⟩=some (.map (some x.2)):=(ag (hb1.block g hg)).trans g2;have HV:=a_ (kg x.2 (w.alloc (.cells #[.slice none 0 0,.bool false,.bool false,.bool false] 193)));have hb2:=hb1.alloc hb1.size (.cells #[.map (some x.2)] 181);have Sm:=eL (w.alloc (.cells #[.slice none 0 0,.bool false,.bool false,.bool false] 193)) (.cells #[.map (some x.2)] 181);have hM:=(h.map x G6).of (hb2.block _ (h.map x G6).lt);rw[bA]at Sm;have HS:=a_ (Lc _ (w.heap.size+1) x.2 (eO Sm) (cell_of Sm rfl) hM li hk2 mN);have HE:Hid (∀w6 va vn vc (ys:List Int),ys.Perm (lj (ib x.1))->w6.ownsRow 0 3 1 (.slice va vn vc) ys.length (kz (rI ys))->Below ((w.alloc (.cells #[.slice none 0 0,.bool false,.bool false,.bool false] 193)).alloc (.cells #[.map (some x.2)] 181)).heap.size ((w.alloc (.cells #[.slice none 0 0,.bool false,.bool false,.bool false] 193)).alloc (.cells #[.map (some x.2)] 181)) w6->(∀k,(Value.slice va vn vc).ownBlock=some k->((w.alloc (.cells #[.slice none 0 0,.bool false,.bool false,.bool false] 193)).alloc (.cells #[.map (some x.2)] 181)).heap.size<=k)->
   w6.there w.heap.size 0 4/\Hid ((w6.setCells w.heap.size 0 [.slice va vn vc,.bool false,.bool false,.bool false]).heap[w.heap.size]?=some (.cells #[.slice va vn vc,.bool false,.bool false,.bool false] 193 (0,0))/\(w6.setCells w.heap.size 0 [.slice va vn vc,.bool false,.bool false,.bool false]).ownsRow 0 3 1 (.slice va vn vc) (jJ b).due.length (mq (jJ b).due)/\Z5 w (w6.setCells w.heap.size 0 [.slice va vn vc,.bool false,.bool false,.bool false])/\∀k,(Value.slice va vn vc).ownBlock=some k->w.heap.size<=k)):=fun w6 va vn vc ys hp hr Eo ho=>by
  have hR6:w6.heap[w.heap.size]?=some (.cells #[.slice none 0 0,.bool false,.bool false,.bool false] 193 (0,0)):=by
   rw[Eo.block _ (by simp;omega),ak _ _ _ (by simp)];exact hR
  obtain⟨e1,e2⟩:=Ld sM hu hp;rw[e1,e2]at hr;have hne:(Value.slice va vn vc).ownBlock≠some w.heap.size:=fG hr hR6 (by decide);have k8:Z5 w w6:=hb2.trans (gA Eo hb2.size);refine⟨OS hR6,a_ ⟨Zy hR6 _ _ _ _,eH hr fun k e=>gX (fun e'=>hne (by rw[e,e'])) _ _ _,?_,fun k e=>aw hb2.size (ho k e)⟩⟩;obtain⟨s1,s2,s3,s4⟩:=oQ (g:=w.heap.size) [.slice va vn vc,.bool false,.bool false,.bool false] 0 w6;refine⟨s1.trans k8.os,s2.trans k8.tape,s3.trans k8.output,by rw[s4];exact k8.size,fun k hk=>?_⟩;rw[gX (by omega)];exact k8.block k hk
 have ab6:(0:Int)<(xs.length:Int):=by omega
 clear h hw hu hs hf hl hg vr g0 g1 g2 g3 g4 li hk2 mN hR hb1 hb2 Sm hM sM G6 hx hb;generalize xs.length=n at*
 generalize (jJ b).due=dd at*
 go_enter func91,ntmps91;go_wp2_with(first
  |(go_at_call 135;refine HV.out.mono ?_;rintro e w5 ⟨rfl,rfl⟩;clear HV)
  |(go_at_call 134;refine HS.out.mono ?_;rintro e w6 ⟨va,vn,vc,ys,rfl,q1,q2,q3,q4⟩;obtain⟨SG,H6⟩:=HE.out _ _ _ _ _ q1 q2 q3 q4;have HTH:=a_ SG;clear SG;clear HS HE q1 q2 q3 q4)
  |(refine wpList_store_mid rfl 193 (.tmp 2) (.tmp 9) rfl w.heap.size 0 (aT va vn vc false false false) rfl rfl HTH.out (Vv ..) (Zz ..) ?_))
 obtain⟨q1,q2⟩:=H6.out;exact ba (v:=.agg #[.slice va vn vc,.bool false,.bool false,.bool false]) (results_cell_row (p:=2) (ty:=193) results91 _ _ w.heap.size 193 _ (0,0) _ rfl q1 underlying193 rfl Cp) rfl ⟨va,vn,vc,rfl,q2⟩
end
section
variable{w w' W W':World}{v:Value}{xs:List (Br×Nat)}{b:i_}{x:Br×Nat}{A0:Nat}
theorem Tv{k:Nat}{c:Bool}(c0:w.cell? ⟨A0,0,none⟩=some v)(h:BR w v xs)(hk:xs[k]?=some x)(hc:(x.1.sg.2==[35])=c):Z4 142 #[.int .i64 (k:Nat),Z8 A0] w (Z6 (.bool c) w):=by
 obtain⟨g,cap,rfl,hg,vr,g0,g1,g2,g3,g4⟩:=h.at hk;have mN:(k:Int)<(xs.length:Int):=by have:=(List.getElem?_eq_some_iff.1 hk).1;omega
 have hb:((bs x.1.sg.2).toList==[35])=c:=by rw[gP];exact hc
 clear h hk hc vr g0 g2 g3 g4;generalize bs x.1.sg.2=T at*
 generalize xs.length=n at*
 cases c<;>
 ·go_enter func142,ntmps142;go_wp2;go_ret;exact⟨rfl,rfl⟩
def Le(b:i_)(l:List Nat):Bool:=l.any (GG b)
theorem Tw{k:Nat}(hb:xs.map (·.1)=b)(hk:xs[k]?=some x):GG b k=(x.1.sg.2==[35]):=by
 unfold GG;rw[<-hb,aH,hk];rfl
theorem Lf{l:List Nat}{va:Option Addr}{vn vc:Nat}(c0:w.cell? ⟨A0,0,none⟩=some v)(h:BR w v xs)(hb:xs.map (·.1)=b)(hr:w.ownsRow 0 3 1 (.slice va vn vc) l.length (mq l))(hl:∀k∈l,k<b.length)(hln:l.length<=10000000000000):Z4 189 #[.slice va vn vc,.func (.func 142) #[] #[Z8 A0]] w fun e w'=>∃k:Int,e=.returned (.int .i64 k)/\(decide (0<=k)=Le b l)/\w'=w:=by
 have GY:xs.length=b.length:=by rw[<-hb];simp
 have Vo:vn=l.length:=by
  rcases hr.2 with⟨h',h0⟩|⟨g,cap,cur,h',_⟩
  ·cases h';exact h0.symm
  ·cases h';rfl
 have HR:Hid (∀i,i<l.length->∃g k c,va=some ⟨g,0,none⟩/\w.cell? ⟨g,i,none⟩=some (.int .i64 ((k:Nat):Int))/\Hid (Le b (l.take (i+1))=(Le b (l.take i)||c))/\Hid (Z4 142 #[.int .i64 ((k:Nat):Int),Z8 A0] w (Z6 (.bool c) w))):=fun i hi=>by
  have JN:l[i]?=some l[i]:=ap hi;have hk:=hl _ (bR hi);have hx:xs[l[i]]?=some xs[l[i]]:=ap (by omega);rcases hr.2 with⟨h',h0⟩|⟨g,cap,cur,h',Eo,hg,vr,hcm,hcs,rH⟩
  ·omega
  ·cases h';refine⟨g,l[i],_,rfl,?_,a_ ?_,a_ (Tv c0 h hx rfl)⟩
   ·rw[hr.cellAt i (by omega)];unfold mq;rw[aH,JN];rfl
   ·rw[bw hi];unfold Le;rw[dE,dO,List.any_nil,di,Tw hb hx]
 have HN:Hid (Le b (l.take l.length)=Le b l):=by rw[bH];exact a_ rfl
 have HP:Hid (∀i,Le b (l.take i)=true->Le b l=true):=fun i h=>by
  unfold Le at*
  rw[List.any_eq_true]at*
  obtain⟨x,hx,h2⟩:=h;exact⟨x,dz hx,h2⟩
 subst Vo;clear h hr hl c0;generalize l.length=n at*
 go_enter func189,ntmps189;go_wp2_with fail;go_loopw [5,8,9,10,11,12,13,14,15,16,17,18] (fun _ u8 _ _ _ _ _ _ _ _ _ _ wr=>∃i:Nat,u8=.int .i64 i/\i<=n/\Hid (Le b (l.take i)=false)/\wr=w) (fun _ u8 _ _ _ _ _ _ _ _ _ _ _=>n-(RowKit.intOf u8).toNat)
 case atStart=>exact⟨0,rfl,aq _,a_ rfl,rfl⟩
 case round=>
  obtain⟨i,rfl,hi,HM,Zq⟩:=hrel;have hwv:=Zq.symm;clear Zq;subst hwv;by_cases hlt:i<n
  ·obtain⟨g,k,c,rfl,a0,HC,HF⟩:=HR.out i hlt;have hdec:decide ((i:Int)<n)=true:=by simp;omega
   have B8:(i:Int)<n:=by omega
   have HI:Hid (Le b (l.take (i+1))=c):=a_ (by rw[HC.out,HM.out];rfl);clear HR HC HM;cases c with
   |true=>
    go_wp2_with(go_at_call 142;refine HF.out.mono ?_;rintro e w5 ⟨rfl,h5⟩;have h6:=h5.symm;clear h5;subst h6;clear HF);go_ret;exact⟨i,rfl,by rw[HP.out _ HI.out];simp,rfl⟩
   |false=>
    go_wp2_with(go_at_call 142;refine HF.out.mono ?_;rintro e w5 ⟨rfl,h5⟩;have h6:=h5.symm;clear h5;subst h6;clear HF);exact⟨⟨i+1,by simp,by omega,by simpa using HI⟩,by simp only[RowKit.intOf];omega⟩
  ·have hdec:decide ((i:Int)<n)=false:=by simp;omega
   obtain rfl:i=n:=by omega
   go_wp2;go_ret;exact⟨-1,rfl,by rw[<-HN.out,HM.out];rfl,rfl⟩
theorem Cq{l:List Nat}{va:Option Addr}{vn vc:Nat}(c0:w.cell? ⟨A0,0,none⟩=some v)(h:BR w v xs)(hb:xs.map (·.1)=b)(hr:w.ownsRow 0 3 1 (.slice va vn vc) l.length (mq l))(hl:∀k∈l,k<b.length)(hln:l.length<=10000000000000):Z4 141 #[.slice va vn vc,.func (.func 142) #[] #[Z8 A0]] w (Z6 (.bool (Le b l)) w):=by
 have HI:=a_ (Lf c0 h hb hr hl hln);clear c0 h hr hl;generalize Le b l=c at*
 cases c with
 |true=>
  go_enter func141,ntmps141;go_wp2_with(go_at_call 189;refine HI.out.mono ?_;rintro e w5 ⟨k,rfl,hk,h5⟩;have hk2:decide (k≥0)=true:=hk;have hk3:(0:Int)<=k:=bY hk;have h6:=h5.symm;clear h5;subst h6;clear HI);go_ret;first|exact⟨rfl,rfl⟩|exact⟨by simp[hk3],rfl⟩
 |false=>
  go_enter func141,ntmps141;go_wp2_with(go_at_call 189;refine HI.out.mono ?_;rintro e w5 ⟨k,rfl,hk,h5⟩;have hk2:decide (k≥0)=false:=hk;have hk3:¬(0:Int)<=k:=of_decide_eq_false hk;have h6:=h5.symm;clear h5;subst h6;clear HI);go_ret;first|exact⟨rfl,rfl⟩|exact⟨by simp[hk3],rfl⟩
end
section
variable{w w' W W' W1 w3:World}{v tv:Value}{xs:List (Br×Nat)}{b:i_}{x:Br×Nat}{zs:List Int}{nd wh:Bool}
structure NM(w:World)(v:Value)(W:World)(tv:Value)(zs:List Int)(nd wh:Bool):Prop where
 b0:W.heap[w.heap.size]?=some (.cells #[v] 139 (0,0))
 b2:W.heap[w.heap.size+1+1]?=some (.cells #[.slice none 0 0,.bool false,.bool false,.bool false] 193 (0,0))
 b3:W.heap[w.heap.size+1+1+1]?=some (.cells #[tv,.bool nd,.bool wh,.bool false] 193 (0,0))
 row:W.ownsRow 0 3 1 tv zs.length (kz zs)
 own:∀k,tv.ownBlock=some k->w.heap.size<=k
 below:Z5 w W
theorem NM.on(h:NM w v W tv zs nd wh)(hb:Z5 W W'):NM w v W' tv zs nd wh:=
 ⟨(hb.block _ (eO h.b0)).trans h.b0,(hb.block _ (eO h.b2)).trans h.b2,(hb.block _ (eO h.b3)).trans h.b3,eH h.row fun k e=>hb.block k (eW h.row e),h.own,h.below.trans (gA hb h.below.size)⟩
theorem NM.put{v':Value}{zs':List Int}(h:NM w v W tv zs nd wh)(ho:w3.ownsRow 0 3 1 v' zs'.length (kz zs'))(hf:Fr (fun k=>tv.ownBlock=some k) W w3)(hat:∀k,v'.ownBlock=some k->tv.ownBlock=some k\/W.heap.size<=k):
  (w3.cell? ⟨w.heap.size+1+1+1,0,none⟩=some tv/\w3.frozen? ⟨w.heap.size+1+1+1,0,none⟩=false)/\NM w v (w3.setCell ⟨w.heap.size+1+1+1,0,none⟩ v') v' zs' nd wh:=by
 have n0:=fG h.row h.b0 (by decide);have n2:=fG h.row h.b2 (by decide);have n3:=fG h.row h.b3 (by decide);have c0:=(hf.block _ (eO h.b0) n0).trans h.b0;have c2:=(hf.block _ (eO h.b2) n2).trans h.b2;have c3:=(hf.block _ (eO h.b3) n3).trans h.b3;have hne:v'.ownBlock≠some (w.heap.size+1+1+1):=fG ho c3 (by decide);refine⟨⟨cell_of c3 rfl,eR c3⟩,⟨(ae _ _ _ _ (by show w.heap.size≠w.heap.size+1+1+1;omega)).trans c0,(ae _ _ _ _ (by show w.heap.size+1+1≠w.heap.size+1+1+1;omega)).trans c2,by rw[fe c3];rfl,eH ho fun k e=>ae _ _ _ _ (fun e'=>hne (by rw[e,e'])),fun k e=>?_,?_⟩⟩
 ·rcases hat k e with h1|h1
  ·exact h.own k h1
  ·exact aw h.below.size h1
 ·have hb3:Z5 w w3:=h.below.trans (hf.up (fun k hk=>h.own k hk) h.below.size);exact hb3.setCell (p:=⟨w.heap.size+1+1+1,0,none⟩) (show w.heap.size<=w.heap.size+1+1+1 by omega) _
theorem NM.set(h:NM w v W tv zs nd wh)(JO NG:Bool):(W.cell? ⟨w.heap.size+1+1+1,1,none⟩=some (.bool nd)/\W.frozen? ⟨w.heap.size+1+1+1,1,none⟩=false/\(W.setCell ⟨w.heap.size+1+1+1,1,none⟩ (.bool JO)).cell? ⟨w.heap.size+1+1+1,2,none⟩=some (.bool wh)/\(W.setCell ⟨w.heap.size+1+1+1,1,none⟩ (.bool JO)).frozen? ⟨w.heap.size+1+1+1,2,none⟩=false)/\
  NM w v ((W.setCell ⟨w.heap.size+1+1+1,1,none⟩ (.bool JO)).setCell ⟨w.heap.size+1+1+1,2,none⟩ (.bool NG)) tv zs JO NG:=by
 have s1:=fe (i:=1) h.b3 (.bool JO);have s2:=fe (i:=2) s1 (.bool NG);have n3:=fG h.row h.b3 (by decide);have other:∀k,k≠w.heap.size+1+1+1->((W.setCell ⟨w.heap.size+1+1+1,1,none⟩ (.bool JO)).setCell ⟨w.heap.size+1+1+1,2,none⟩ (.bool NG)).heap[k]?=W.heap[k]?:=fun k hk=>by rw[ae _ _ _ _ hk,ae _ _ _ _ hk]
 refine⟨⟨cell_of h.b3 rfl,eR h.b3,cell_of s1 rfl,eR s1⟩,⟨(other _ (by omega)).trans h.b0,(other _ (by omega)).trans h.b2,s2,eH h.row fun k e=>other k (fun e'=>n3 (by rw[e,e'])),h.own,?_⟩⟩;exact(h.below.setCell (p:=⟨w.heap.size+1+1+1,1,none⟩) (show w.heap.size<=w.heap.size+1+1+1 by omega) _).setCell (p:=⟨w.heap.size+1+1+1,2,none⟩) (show w.heap.size<=w.heap.size+1+1+1 by omega) _
def WJ(l:List Nat)(i:Nat):Nat:=if i=0 then 0 else(l[i-1]?.getD 0)+1
structure PF(b:i_)(l:List Nat)(s0:Bool)(name:L)(i:Nat)(zs:List Int)(nd wh:Bool):Prop where
 nd:nd=(l.take i).any fun j=>lJ b j name&&SJ b j
 wh:wh=(s0||(l.take i).any fun j=>lJ b j name&&SK b j)
 mem:∀z,z∈zs↔∃k:Nat,z=k/\((k∈l.take i/\pM b k=true)\/∃j∈l.take i,lJ b j name=true/\k∈lh b j)
 len:zs.length<=i+zQ b (WJ l i)
theorem PF.zero(b:i_)(l:List Nat)(s0:Bool)(name:L):PF b l s0 name 0 [] false s0:=⟨by simp,by simp,fun z=>by simp,by simp⟩
theorem PF.step{l:List Nat}{s0:Bool}{name:L}{i k:Nat}{q:Br}{ys:List Int}(h:PF b l s0 name i zs nd wh)(hr:l.Pairwise (· < ·))(hk:l[i]?=some k)(hq:b[k]?=some q)(OT:if qI q.sg name=true then ys.Perm ((q.kids.map (·.2)).map fun k:Nat=>(k:Int))else ys=[]):
  PF b l s0 name (i+1) ((if q.sg.1=true then zs++[(k:Int)]else zs)++ys) (nd||(qI q.sg name&&q.nd)) (wh||(qI q.sg name&&q.wh)):=by
 obtain⟨qM,e⟩:=List.getElem?_eq_some_iff.1 hk;have rH:l.take (i+1)=l.take i++[k]:=by rw[bw qM,e]
 have f1:lJ b k name=qI q.sg name:=by unfold lJ;rw[hq]
 have f2:SJ b k=q.nd:=by unfold SJ;rw[hq]
 have f3:SK b k=q.wh:=by unfold SK;rw[hq]
 have f4:pM b k=q.sg.1:=by unfold pM;rw[hq]
 have f5:lh b k=q.kids.map (·.2):=by unfold lh;rw[hq]
 refine⟨?_,?_,fun z=>?_,?_⟩
 ·rw[rH,dE,dO,List.any_nil,di,f1,f2,h.nd]
 ·rw[rH,dE,dO,List.any_nil,di,f1,f3,h.wh,Bool.or_assoc]
 ·have hz:z∈(if q.sg.1=true then zs++[(k:Int)]else zs)↔z∈zs\/(q.sg.1=true/\z=(k:Int)):=by split<;>simp_all
  have hy:z∈ys↔qI q.sg name=true/\∃k':Nat,z=k'/\k'∈q.kids.map (·.2):=by
   by_cases hf:qI q.sg name=true
   ·rw[if_pos hf]at OT;rw[OT.mem_iff,List.mem_map];constructor
    ·rintro⟨k',h1,rfl⟩;exact⟨hf,k',rfl,h1⟩
    ·rintro⟨_,k',rfl,h1⟩;exact⟨k',h1,rfl⟩
   ·rw[if_neg hf]at OT;subst OT;simp[hf]
  rw[List.mem_append,hz,hy,h.mem,rH];constructor
  ·rintro((⟨k',rfl,h1|⟨j,hj,h1⟩⟩|⟨h1,rfl⟩)|⟨h1,k',rfl,h2⟩)
   ·exact⟨k',rfl,Or.inl ⟨dA _ h1.1,h1.2⟩⟩
   ·exact⟨k',rfl,Or.inr ⟨j,dA _ hj,h1⟩⟩
   ·exact⟨k,rfl,Or.inl ⟨by simp,by rw[f4];exact h1⟩⟩
   ·exact⟨k',rfl,Or.inr ⟨k,by simp,by rw[f1];exact h1,by rw[f5];exact h2⟩⟩
  ·rintro⟨k',rfl,⟨h1,h2⟩|⟨j,hj,h1,h2⟩⟩
   ·rcases List.mem_append.1 h1 with h1|h1
    ·exact Or.inl (Or.inl ⟨k',rfl,Or.inl ⟨h1,h2⟩⟩)
    ·rw[aJ]at h1;subst h1;exact Or.inl (Or.inr ⟨by rw[<-f4];exact h2,rfl⟩)
   ·rcases List.mem_append.1 hj with hj|hj
    ·exact Or.inl (Or.inl ⟨k',rfl,Or.inr ⟨j,hj,h1,h2⟩⟩)
    ·rw[aJ]at hj;subst hj;exact Or.inr ⟨by rw[<-f1];exact h1,k',rfl,by rw[<-f5];exact h2⟩
 ·have hb:WJ l (i+1)=k+1:=by unfold WJ;simp[hk]
  have hle:WJ l i<=k:=by
   unfold WJ;split
   ·omega
   ·next h0=>
    have DM:i-1<l.length:=by omega
    have:=(List.pairwise_iff_getElem.1 hr) (i-1) i DM qM (by omega);rw[ap DM,Option.getD_some];omega
  have h1:=h.len;have h2:=Au (b:=b) hle;have h3:=Ar hq;have h4:ys.length<=q.kids.length:=by
   by_cases hf:qI q.sg name=true
   ·rw[if_pos hf]at OT;rw[OT.length_eq];simp
   ·rw[if_neg hf]at OT;rw[OT];simp
  have h5:(if q.sg.1=true then zs++[(k:Int)]else zs).length<=zs.length+1:=by split<;>simp
  rw[af,hb];omega
end
section
variable{w w' W W' W1 w3:World}{v tv:Value}{xs:List (Br×Nat)}{b:i_}{x:Br×Nat}{zs:List Int}{nd wh:Bool}{l:List Nat}{f2:Bool}{name:L}{i k A4:Nat}
def Vw(w:World)(v:Value)(b:i_)(l:List Nat)(f2:Bool)(name:L)(i:Nat)(W:World):Prop:=∃tv zs nd wh,NM w v W tv zs nd wh/\PF b l f2 name i zs nd wh
structure ND(w:World)(v:Value)(A4:Nat)(x:Br×Nat)(W:World)(tv:Value)(zs:List Int)(nd wh:Bool):Prop where
 m:NM w v W tv zs nd wh
 box:W.heap[A4]?=some (.cells #[.bool x.1.sg.1,.string (bs x.1.sg.2),.map (some x.2),.bool x.1.nd,.bool x.1.wh] 185 (0,0))
theorem NM.shape(h:NM w v W tv zs nd wh):∃a n c,tv=.slice a n c:=eX h.row
theorem ND.start(h:NM w v W tv zs nd wh):ND w v W.heap.size x (W.alloc (.cells #[.bool x.1.sg.1,.string (bs x.1.sg.2),.map (some x.2),.bool x.1.nd,.bool x.1.wh] 185)) tv zs nd wh:=
 ⟨h.on ((Below.refl _ W).alloc (aj _) _),eL W _⟩
theorem ND.on(h:ND w v A4 x W tv zs nd wh)(hb:Z5 W W'):ND w v A4 x W' tv zs nd wh:=⟨h.m.on hb,(hb.block _ (eO h.box)).trans h.box⟩
theorem ND.app{v':Value}(h:ND w v A4 x W tv zs nd wh)(ho:w3.ownsRow 0 3 1 v' (zs.length+1) (kz zs++[.int .i64 (k:Nat)]))(hg:(W.alloc (.cells #[.int .i64 (k:Nat)] 3)).grownBy w3 tv.ownBlock)(hat:v'.ownBlock=tv.ownBlock\/v'.ownBlock=some (W.alloc (.cells #[.int .i64 (k:Nat)] 3)).heap.size)(h4:w.heap.size+1+1+1<A4):
  (w3.cell? ⟨w.heap.size+1+1+1,0,none⟩=some tv/\w3.frozen? ⟨w.heap.size+1+1+1,0,none⟩=false)/\ND w v A4 x (w3.setCell ⟨w.heap.size+1+1+1,0,none⟩ v') v' (zs++[(k:Int)]) nd wh:=by
 have e1:kz (zs++[(k:Int)])=kz zs++[.int .i64 (k:Nat)]:=by unfold kz;rw[aR];rfl
 have hf:Fr (fun j=>tv.ownBlock=some j) W w3:=((Fr.refl _ W).alloc _).gr hg fun j e _=>e;obtain⟨q1,q2⟩:=h.m.put (zs':=zs++[(k:Int)]) (by rw[e1,af,bc];exact ho) hf (fun j e=>by
  rcases hat with h1|h1
  ·exact Or.inl (h1▸e)
  ·rw[h1]at e;have:j=W.heap.size+1:=by simpa using e.symm
   exact Or.inr (by omega))
 refine⟨q1,q2,?_⟩;have hn:=fG h.m.row h.box (by decide);rw[ae _ _ _ _ (by show A4≠w.heap.size+1+1+1;omega)];exact(hf.block _ (eO h.box) hn).trans h.box
theorem ND.fits(h:ND w v A4 x W tv zs nd wh)(name:L):Z4 137 #[.agg #[.bool x.1.sg.1,.string (bs x.1.sg.2)],.string (bs name)] W fun e w'=>e=.returned (.bool (qI x.1.sg name))/\Hid (ND w v A4 x w' tv zs nd wh):=
 (SZ x.1.sg name W).mono fun e w' ⟨h1,h2⟩=>⟨h1,a_ (h.on h2)⟩
theorem ND.seq{JO NG:Bool}(h:ND w v A4 x W tv zs nd wh)(h4:w.heap.size+1+1+1<A4)(hM:jb w 183 x.2 (ib x.1))(li:((ib x.1).map (·.1)).Nodup)(hk2:∀p∈ib x.1,WideAt.IsKeyLit p.1)(hl:zs.length+(ib x.1).length<=10000000000000)(kh:∀W v' ys,ys.Perm ((x.1.kids.map (·.2)).map fun k:Nat=>(k:Int))->NM w v W v' (zs++ys) JO NG->Vw w v b l f2 name i W):
  (∃W2,W2=((W.setCell ⟨w.heap.size+1+1+1,1,none⟩ (.bool JO)).setCell ⟨w.heap.size+1+1+1,2,none⟩ (.bool NG))/\W2.cell? ⟨w.heap.size+1+1+1,0,none⟩=some tv/\W2.cell? ⟨A4,2,none⟩=some (.map (some x.2))/\
   Hid (∀m,Z4 138 #[tv,.func (.func 182) #[] #[.pointer (some ⟨W2.heap.size,0,none⟩)]] ((W2.alloc (.cells #[.map (some x.2)] 181)).drewN m) fun e w8=>∃va vn vc,e=.returned (.slice va vn vc)/\(w8.cell? ⟨w.heap.size+1+1+1,0,none⟩=some tv/\w8.frozen? ⟨w.heap.size+1+1+1,0,none⟩=false)/\Hid (Vw w v b l f2 name i (w8.setCell ⟨w.heap.size+1+1+1,0,none⟩ (.slice va vn vc))))):=by
 obtain⟨-,q⟩:=h.m.set JO NG;have sM:((W.setCell ⟨w.heap.size+1+1+1,1,none⟩ (.bool JO)).setCell ⟨w.heap.size+1+1+1,2,none⟩ (.bool NG)).heap[A4]?=W.heap[A4]?:=by rw[ae _ _ _ _ (by show A4≠w.heap.size+1+1+1;omega),ae _ _ _ _ (by show A4≠w.heap.size+1+1+1;omega)]
 refine⟨_,rfl,cell_of q.b3 rfl,cell_of (sM.trans h.box) rfl,a_ fun m=>?_⟩;generalize ((W.setCell ⟨w.heap.size+1+1+1,1,none⟩ (.bool JO)).setCell ⟨w.heap.size+1+1+1,2,none⟩ (.bool NG))=W2 at*
 have hb0:=kP ((Below.refl W2.heap.size W2).alloc (aj _) (.cells #[.map (some x.2)] 181)) m;have hB:((W2.alloc (.cells #[.map (some x.2)] 181)).drewN m).heap[W2.heap.size]?=some (.cells #[.map (some x.2)] 181 (0,0)):=eL W2 (.cells #[.map (some x.2)] 181);have qa:=q.on hb0;have hMa:jb ((W2.alloc (.cells #[.map (some x.2)] 181)).drewN m) 183 x.2 (ib x.1):=hM.of (qa.below.block _ hM.lt);refine(uw _ qa.row W2.heap.size x.2 (eO hB) (cell_of hB rfl) hMa li hk2 hl).mono ?_;rintro e w8 ⟨v',ys,rfl,h2,h3,h4',h5⟩;obtain⟨va,vn,vc,rfl⟩:=eX h3;obtain⟨r1,r2⟩:=qa.put h3 h4' h5;rw[Aw]at h2;exact⟨va,vn,vc,rfl,r1,a_ (kh _ _ ys h2 r2)⟩
end
section
variable{w w' W W' W1 w3:World}{v tv:Value}{xs:List (Br×Nat)}{b:i_}{x:Br×Nat}{zs:List Int}{nd wh:Bool}{l:List Nat}{f2:Bool}{name:L}{i k A4:Nat}
theorem NM.turn{zs':List Int}(h:NM w v W tv zs nd wh)(ho:w3.ownsRow 0 3 1 tv zs'.length (kz zs'))(hg:W.grownBy w3 tv.ownBlock):NM w v w3 tv zs' nd wh:=by
 have n0:=fG h.row h.b0 (by decide);have n2:=fG h.row h.b2 (by decide);have n3:=fG h.row h.b3 (by decide);exact⟨(hg.block _ (eO h.b0) (fun e=>n0 e.symm)).trans h.b0,(hg.block _ (eO h.b2) (fun e=>n2 e.symm)).trans h.b2,(hg.block _ (eO h.b3) (fun e=>n3 e.symm)).trans h.b3,ho,h.own,h.below.grown hg h.below.size h.own⟩
theorem OU(hlt:∀k∈l,k<b.length)(hw:zL b)(hp:PF b l f2 name l.length zs nd wh):kz (Lib.compact (rI zs))=mq (iU b l name)/\(Lib.compact (rI zs)).length=(iU b l name).length:=by
 obtain⟨c1,c2⟩:=El zs;have Ef:=hp.mem;rw[bH]at Ef;have hpos:∀z∈Lib.compact (rI zs),0<=z:=fun z hz=>by
  obtain⟨k,rfl,_⟩:=(Ef z).1 ((c2 z).1 hz);omega
 have e:(Lib.compact (rI zs)).map Int.toNat=iU b l name:=by
  refine Wb ?_ fun k=>?_
  ·rw[eD];refine c1.imp_of_mem fun ha hb h=>?_;have:=hpos _ ha;have:=hpos _ hb;omega
  ·have h1:k∈(Lib.compact (rI zs)).map Int.toNat↔(k:Int)∈zs:=by
    rw[List.mem_map];constructor
    ·rintro⟨z,hz,rfl⟩;have:=hpos z hz;rw[<-c2];rwa[show ((z.toNat:Nat):Int)=z by omega]
    ·intro h;exact⟨(k:Int),(c2 _).2 h,by simp⟩
   rw[h1,Ef];constructor
   ·rintro⟨k',Tn,h2⟩;obtain rfl:k=k':=by omega
    refine⟨?_,h2⟩;rcases h2 with⟨h3,_⟩|⟨j,hj,_,h3⟩
    ·exact hlt k h3
    ·unfold lh at h3;cases hb:b[j]? with
     |none=>rw[hb]at h3;simp at h3
     |some q=>
      rw[hb]at h3;obtain⟨y,hy,rfl⟩:=List.mem_map.1 h3;exact(hw.2 j q hb).1 y hy
   ·rintro⟨_,h2⟩;exact⟨k,rfl,h2⟩
 rw[Em _ hpos,e];exact⟨rfl,by rw[<-e,cA]⟩
theorem OV{f1 f3:Bool}(h:BR w v xs)(hb:xs.map (·.1)=b)(hw:zL b)(NH:KS b)(hl:b.length<=2300000000000)(hlt:∀k∈l,k<b.length)(Sl:l.length<=b.length)(M:Vw w v b l f2 name l.length W):
  ∃ta tn tc nd wh,W.cell? ⟨w.heap.size+1+1+1,0,none⟩=some (.slice ta tn tc)/\Hid (Z4 139 #[.slice ta tn tc] W fun e w1=>e=.returned (.tuple #[])/\w1.cell? ⟨w.heap.size+1+1+1,0,none⟩=some (.slice ta tn tc)/\
   Hid (Z4 140 #[.slice ta tn tc] w1 fun e w2=>∃va vn vc,e=.returned (.slice va vn vc)/\(w2.cell? ⟨w.heap.size+1+1+1,0,none⟩=some (.slice ta tn tc)/\w2.frozen? ⟨w.heap.size+1+1+1,0,none⟩=false)/\∃W3 W4,W3=w2.setCell ⟨w.heap.size+1+1+1,0,none⟩ (.slice va vn vc)/\W4=W3.setCell ⟨w.heap.size+1+1+1,3,none⟩ (.bool (iF b ⟨l,f1,f2,f3⟩ name).tx)/\
    (W3.cell? ⟨w.heap.size+1+1+1,0,none⟩=some (.slice va vn vc)/\W3.cell? ⟨w.heap.size+1+1+1,3,none⟩=some (.bool false)/\W3.frozen? ⟨w.heap.size+1+1+1,3,none⟩=false)/\
    Hid (Z4 141 #[.slice va vn vc,.func (.func 142) #[] #[.pointer (some ⟨w.heap.size,0,none⟩)]] W3 (Z6 (.bool (iF b ⟨l,f1,f2,f3⟩ name).tx) W3))/\
    (W4.cell? ⟨w.heap.size+1+1+1,0,none⟩=some (.slice va vn vc)/\W4.cell? ⟨w.heap.size+1+1+1,1,none⟩=some (.bool nd)/\W4.cell? ⟨w.heap.size+1+1+1,2,none⟩=some (.bool wh)/\W4.cell? ⟨w.heap.size+1+1+1,3,none⟩=some (.bool (iF b ⟨l,f1,f2,f3⟩ name).tx))/\
    Hid (W4.there (w.heap.size+1+1) 0 4)/\Hid ((nd=(iF b ⟨l,f1,f2,f3⟩ name).nd/\wh=(iF b ⟨l,f1,f2,f3⟩ name).wh)/\(W4.setCells (w.heap.size+1+1) 0 [.slice va vn vc,.bool nd,.bool wh,.bool (iF b ⟨l,f1,f2,f3⟩ name).tx]).heap[w.heap.size+1+1]?=some (.cells #[.slice va vn vc,.bool nd,.bool wh,.bool (iF b ⟨l,f1,f2,f3⟩ name).tx] 193 (0,0))/\
     (W4.setCells (w.heap.size+1+1) 0 [.slice va vn vc,.bool nd,.bool wh,.bool (iF b ⟨l,f1,f2,f3⟩ name).tx]).ownsRow 0 3 1 (.slice va vn vc) (iU b l name).length (mq (iU b l name))/\Z5 w (W4.setCells (w.heap.size+1+1) 0 [.slice va vn vc,.bool nd,.bool wh,.bool (iF b ⟨l,f1,f2,f3⟩ name).tx])/\∀k,(Value.slice va vn vc).ownBlock=some k->w.heap.size<=k))):=by
 obtain⟨tv,zs,nd,wh,m,p⟩:=M;obtain⟨ta,tn,tc,rfl⟩:=m.shape;have hzl:zs.length<=10000000000000:=by have h1:=p.len;have h2:=Cl NH (WJ l l.length);omega
 obtain⟨hd1,Gf⟩:=OU hlt hw p;refine⟨ta,tn,tc,nd,wh,cell_of m.b3 rfl,a_ ((Ej m.row hzl).mono ?_)⟩;rintro e w1 ⟨h1,h2,h3⟩;have m1:=m.turn (zs':=rI zs) (by rw[xv];exact h2) h3;refine⟨h1,cell_of m1.b3 rfl,a_ ((Ek m1.row (by rw[xv];exact hzl)).mono ?_)⟩;rintro e w2 ⟨v',h4,h5,h6,h7⟩;obtain⟨va,vn,vc,rfl⟩:=eX h5;have hf:Fr (fun k=>(Value.slice ta tn tc).ownBlock=some k) w1 w2:=(Fr.refl _ w1).gr h6 fun k e _=>e;obtain⟨r1,m3⟩:=m1.put h5 hf (fun k e=>Or.inl (h7▸e));refine⟨va,vn,vc,h4,r1,_,_,rfl,rfl,?_⟩;generalize w2.setCell ⟨w.heap.size+1+1+1,0,none⟩ (.slice va vn vc)=W3 at*
 have hrow:=m3.row;rw[hd1,Gf]at hrow;have zK:∀k∈iU b l name,k<b.length:=fun k hk=>by
  unfold iU at hk;exact List.mem_range.1 (List.mem_filter.1 hk).1
 have hdl:(iU b l name).length<=b.length:=by
  unfold iU;have:=List.length_filter_le (fun k=>(l.contains k&&pM b k)||l.any fun j=>lJ b j name&&(lh b j).contains k) (List.range b.length);rw[List.length_range]at this;exact this
 have hBR:BR W3 v xs:=h.of fun k hk=>m3.below.block k (h.lt hk);have hct:=Cq (A0:=w.heap.size) (cell_of m3.b0 rfl) hBR hb hrow zK (by omega);have s3:=fe (i:=3) m3.b3 (.bool (iF b ⟨l,f1,f2,f3⟩ name).tx);have n3:=fG hrow m3.b3 (by decide);have n2:=fG hrow m3.b2 (by decide);have b2:(W3.setCell ⟨w.heap.size+1+1+1,3,none⟩ (.bool (iF b ⟨l,f1,f2,f3⟩ name).tx)).heap[w.heap.size+1+1]?=some (.cells #[.slice none 0 0,.bool false,.bool false,.bool false] 193 (0,0)):=by
  rw[ae _ _ _ _ (by show w.heap.size+1+1≠w.heap.size+1+1+1;omega)];exact m3.b2
 have Wk:=m3.below.setCell (p:=⟨w.heap.size+1+1+1,3,none⟩) (show w.heap.size<=w.heap.size+1+1+1 by omega) (.bool (iF b ⟨l,f1,f2,f3⟩ name).tx);have hr4:(W3.setCell ⟨w.heap.size+1+1+1,3,none⟩ (.bool (iF b ⟨l,f1,f2,f3⟩ name).tx)).ownsRow 0 3 1 (.slice va vn vc) (iU b l name).length (mq (iU b l name)):=eH hrow fun k e=>ae _ _ _ _ (fun e'=>n3 (by rw[e,e']));refine⟨⟨cell_of m3.b3 rfl,cell_of m3.b3 rfl,eR m3.b3⟩,a_ hct,⟨cell_of s3 rfl,cell_of s3 rfl,cell_of s3 rfl,cell_of s3 rfl⟩,a_ (OS b2),a_ ⟨⟨?_,?_⟩,Zy b2 _ _ _ _,eH hr4 fun k e=>gX (fun e'=>n2 (by rw[e,e'])) _ _ _,?_,fun k e=>m3.own k e⟩⟩
 ·have:=p.nd;rw[bH]at this;exact this
 ·have:=p.wh;rw[bH]at this;exact this
 ·obtain⟨s1,s2,s3',s4⟩:=oQ (g:=w.heap.size+1+1) [.slice va vn vc,.bool nd,.bool wh,.bool (iF b ⟨l,f1,f2,f3⟩ name).tx] 0 (W3.setCell ⟨w.heap.size+1+1+1,3,none⟩ (.bool (iF b ⟨l,f1,f2,f3⟩ name).tx));refine⟨s1.trans Wk.os,s2.trans Wk.tape,s3'.trans Wk.output,by rw[s4];exact Wk.size,fun k hk=>?_⟩;rw[gX (by omega)];exact Wk.block k hk
end
section
variable{w w' W W' W1 w3:World}{v tv:Value}{xs:List (Br×Nat)}{b:i_}{x:Br×Nat}{zs:List Int}{nd wh:Bool}{l:List Nat}{f2:Bool}{name:L}{i k A4:Nat}
abbrev C5b(W:World)(k:Nat)(d:Bool)(T:ByteArray)(mb:Nat)(p q:Bool):Prop:=W.cell? ⟨k,0,none⟩=some (.bool d)/\W.cell? ⟨k,1,none⟩=some (.string T)/\W.cell? ⟨k,2,none⟩=some (.map (some mb))/\W.cell? ⟨k,3,none⟩=some (.bool p)/\W.cell? ⟨k,4,none⟩=some (.bool q)
def NDx(w:World)(v:Value)(A4:Nat)(x:Br×Nat)(W:World)(nd wh:Bool)(zs:List Int):Prop:=∃tv,ND w v A4 x W tv zs nd wh
theorem Hd{fa:Option Addr}{fn fc:Nat}(h:BR w v xs)(hb:xs.map (·.1)=b)(hw:zL b)(hs:wF b)(NH:KS b)(hl:b.length<=2300000000000)(hr:l.Pairwise (· < ·))(hlt:∀k∈l,k<b.length)(Sl:l.length<=b.length)(hd:w.ownsRow 0 3 1 (.slice fa fn fc) l.length (mq l))(hi:i<l.length)(M:Vw w v b l f2 name i W):
  ∃gd k g n cap d T mb p q ta tn tc nd wh fb,fa=some ⟨gd,0,none⟩/\W.cell? ⟨gd,i,none⟩=some (.int .i64 ((k:Nat):Int))/\W.cell? ⟨w.heap.size,0,none⟩=some (Z9 g n cap)/\(k:Int)<(n:Int)/\
   (W.cell? ⟨g,k*5,none⟩=some (.bool d)/\W.cell? ⟨g,k*5+1,none⟩=some (.string T)/\W.cell? ⟨g,k*5+2,none⟩=some (.map (some mb))/\W.cell? ⟨g,k*5+3,none⟩=some (.bool p)/\W.cell? ⟨g,k*5+4,none⟩=some (.bool q))/\
   C5b (W.alloc (.cells #[.bool d,.string T,.map (some mb),.bool p,.bool q] 185)) W.heap.size d T mb p q/\(W.alloc (.cells #[.bool d,.string T,.map (some mb),.bool p,.bool q] 185)).cell? ⟨w.heap.size+1+1+1,0,none⟩=some (.slice ta tn tc)/\
   ∃P1:Bool->World->Prop,
   Hid (d=false->P1 false (W.alloc (.cells #[.bool d,.string T,.map (some mb),.bool p,.bool q] 185)))/\
   Hid (d=true->∃(N:Nat) (zc:List Value),N<=10000000000000/\((W.alloc (.cells #[.bool d,.string T,.map (some mb),.bool p,.bool q] 185)).alloc (.cells #[.int .i64 ((k:Nat):Int)] 3)).ownsRow 0 3 1 (.slice ta tn tc) N zc/\∀v' w3,w3.ownsRow 0 3 1 v' (N+1) (zc++[.int .i64 ((k:Nat):Int)])->((W.alloc (.cells #[.bool d,.string T,.map (some mb),.bool p,.bool q] 185)).alloc (.cells #[.int .i64 ((k:Nat):Int)] 3)).grownBy w3 (Value.slice ta tn tc).ownBlock->(v'.ownBlock=(Value.slice ta tn tc).ownBlock\/v'.ownBlock=some ((W.alloc (.cells #[.bool d,.string T,.map (some mb),.bool p,.bool q] 185)).alloc (.cells #[.int .i64 ((k:Nat):Int)] 3)).heap.size)->
    (w3.cell? ⟨w.heap.size+1+1+1,0,none⟩=some (.slice ta tn tc)/\w3.frozen? ⟨w.heap.size+1+1+1,0,none⟩=false)/\Hid (P1 true (w3.setCell ⟨w.heap.size+1+1+1,0,none⟩ v')))/\
   Hid (∀W',P1 d W'->C5b W' W.heap.size d T mb p q/\Z4 137 #[.agg #[.bool d,.string T],.string (bs name)] W' fun e w5=>e=.returned (.bool fb)/\Hid (P1 d w5))/\
   Hid (fb=false->∀W',P1 d W'->Vw w v b l f2 name (i+1) W')/\
   Hid (fb=true->∀W',P1 d W'->∃sa sn sc,C5b W' W.heap.size d T mb p q/\(W'.cell? ⟨w.heap.size+1+1+1,1,none⟩=some (.bool nd)/\W'.frozen? ⟨w.heap.size+1+1+1,1,none⟩=false/\(W'.setCell ⟨w.heap.size+1+1+1,1,none⟩ (.bool (nd||p))).cell? ⟨w.heap.size+1+1+1,2,none⟩=some (.bool wh)/\(W'.setCell ⟨w.heap.size+1+1+1,1,none⟩ (.bool (nd||p))).frozen? ⟨w.heap.size+1+1+1,2,none⟩=false/\(W'.setCell ⟨w.heap.size+1+1+1,1,none⟩ (.bool (nd||p))).cell? ⟨W.heap.size,4,none⟩=some (.bool q))/\
    ∃W2,W2=((W'.setCell ⟨w.heap.size+1+1+1,1,none⟩ (.bool (nd||p))).setCell ⟨w.heap.size+1+1+1,2,none⟩ (.bool (wh||q)))/\W2.cell? ⟨w.heap.size+1+1+1,0,none⟩=some (.slice sa sn sc)/\W2.cell? ⟨W.heap.size,2,none⟩=some (.map (some mb))/\
   Hid (∀m,Z4 138 #[.slice sa sn sc,.func (.func 182) #[] #[.pointer (some ⟨W2.heap.size,0,none⟩)]] ((W2.alloc (.cells #[.map (some mb)] 181)).drewN m) fun e w8=>∃va vn vc,e=.returned (.slice va vn vc)/\(w8.cell? ⟨w.heap.size+1+1+1,0,none⟩=some (.slice sa sn sc)/\w8.frozen? ⟨w.heap.size+1+1+1,0,none⟩=false)/\Hid (Vw w v b l f2 name (i+1) (w8.setCell ⟨w.heap.size+1+1+1,0,none⟩ (.slice va vn vc))))):=by
 obtain⟨tv,zs,nd,wh,m,p⟩:=M;obtain⟨ta,tn,tc,rfl⟩:=m.shape;have GY:xs.length=b.length:=by rw[<-hb];simp
 have JN:l[i]?=some l[i]:=ap hi;have hk:=hlt _ (bR hi);generalize l[i]=k at JN hk;have hx:xs[k]?=some xs[k]:=ap (by omega);generalize xs[k]=x at hx;have sM:b[k]?=some x.1:=by rw[<-hb,aH,hx];rfl
 have G6:x∈xs:=aO hx;have hBW:BR W v xs:=h.of fun j hj=>m.below.block j (h.lt hj);obtain⟨g,cap,rfl,hg,vr,g0,g1,g2,g3,g4⟩:=hBW.at hx;obtain⟨li,hk2⟩:=En x.1 (hs x.1 (aO sM)) (hw.2 k _ sM).2;have hB:=eL W (.cells #[.bool x.1.sg.1,.string (bs x.1.sg.2),.map (some x.2),.bool x.1.nd,.bool x.1.wh] 185);have m0:ND w (Z9 g xs.length cap) W.heap.size x (W.alloc (.cells #[.bool x.1.sg.1,.string (bs x.1.sg.2),.map (some x.2),.bool x.1.nd,.bool x.1.wh] 185)) (.slice ta tn tc) zs nd wh:=ND.start m;have h4:w.heap.size+1+1+1<W.heap.size:=eO m.b3;have Zr:=Cl NH (WJ l i);have hzl:zs.length<=i+b.length:=by have:=p.len;omega
 have hkc:∀{b2:Bool},(if b2=true then zs++[(k:Int)]else zs).length+(ib x.1).length<=10000000000000:=fun{b2}=>by
  have h5:(if b2=true then zs++[(k:Int)]else zs).length<=zs.length+1:=by split<;>simp
  have h6:(ib x.1).length<=b.length:=by
   have h7:=Ar sM;have h8:=Cl NH (k+1);unfold ib;rw[cA];omega
  omega
 have hgd:∃gd,fa=some ⟨gd,0,none⟩/\gd<w.heap.size/\w.cell? ⟨gd,i,none⟩=some (.int .i64 ((k:Nat):Int)):=by
  rcases hd.2 with⟨h',h0⟩|⟨gd,c',cur,h',Eo,NC,_⟩
  ·omega
  ·cases h';refine⟨gd,rfl,eO NC,?_⟩;rw[hd.cellAt i (by omega)];unfold mq;rw[aH,JN];rfl
 obtain⟨gd,hfa,Gj,hcd⟩:=hgd;have hr1:∀{W':World} {YK:Value} {zs':List Int} {JO NG:Bool},ND w (Z9 g xs.length cap) W.heap.size x W' YK zs' JO NG->C5b W' W.heap.size x.1.sg.1 (bs x.1.sg.2) x.2 x.1.nd x.1.wh:=fun hh=>⟨cell_of hh.box rfl,cell_of hh.box rfl,cell_of hh.box rfl,cell_of hh.box rfl,cell_of hh.box rfl⟩
 refine⟨gd,k,g,xs.length,cap,x.1.sg.1,bs x.1.sg.2,x.2,x.1.nd,x.1.wh,ta,tn,tc,nd,wh,qI x.1.sg name,hfa,(ag (m.below.block gd Gj)).trans hcd,cell_of m.b0 rfl,by omega,⟨g0,g1,g2,g3,g4⟩,hr1 m0,cell_of m0.m.b3 rfl,
  fun d W'=>NDx w (Z9 g xs.length cap) W.heap.size x W' nd wh (if d=true then zs++[(k:Int)]else zs),a_ ?_,a_ ?_,a_ ?_,a_ ?_,a_ ?_⟩
 ·intro _;exact⟨_,m0⟩
 ·intro _;refine⟨zs.length,kz zs,by omega,eH m0.m.row fun j e=>ak _ _ _ (eW m0.m.row e),fun v' w3 ho NC hat=>?_⟩;obtain⟨q1,q2⟩:=m0.app ho NC hat h4;exact⟨q1,a_ ⟨v',q2⟩⟩
 ·rintro W' ⟨YK,hh⟩;refine⟨hr1 hh,(hh.fits name).mono ?_⟩;rintro e w5 ⟨e1,e2⟩;exact⟨e1,a_ ⟨YK,e2.out⟩⟩
 ·rintro hf W' ⟨YK,hh⟩;have hp:=p.step (ys:=[]) hr JN sM (by rw[if_neg (by rw[hf];decide)]);rw[hf,aM]at hp;simp only[cF,di]at hp;exact⟨YK,_,nd,wh,hh.m,hp⟩
 ·rintro hf W' ⟨YK,hh⟩;obtain⟨sa,sn,sc,rfl⟩:=hh.m.shape;obtain⟨⟨s1,s2,s3,s4⟩,-⟩:=hh.m.set (nd||x.1.nd) (wh||x.1.wh);refine⟨sa,sn,sc,hr1 hh,⟨s1,s2,s3,s4,?_⟩,?_⟩
  ·have e:(W'.setCell ⟨w.heap.size+1+1+1,1,none⟩ (.bool (nd||x.1.nd))).heap[W.heap.size]?=W'.heap[W.heap.size]?:=ae _ _ _ _ (by show W.heap.size≠w.heap.size+1+1+1;omega);exact cell_of (e.trans hh.box) rfl
  ·refine hh.seq h4 (h.map x G6) li hk2 hkc fun W3 v3 ys OT hm3=>?_;have hp:=p.step (ys:=ys) hr JN sM (by rw[if_pos hf];exact OT);rw[hf]at hp;simp only[cP]at hp;exact⟨v3,_,_,_,hm3,hp⟩
end
section
variable{w w' W W' W1 w3:World}{v tv:Value}{xs:List (Br×Nat)}{b:i_}{x:Br×Nat}{zs:List Int}{nd wh:Bool}{l:List Nat}{f2:Bool}{name:L}{i k A4:Nat}
theorem Tx{fa:Option Addr}{fn fc:Nat}(f1 f2 f3:Bool)(name:L)(h:BR w v xs)(hb:xs.map (·.1)=b)(hw:zL b)(hs:wF b)(NH:KS b)(hl:b.length<=2300000000000)(hr:l.Pairwise (· < ·))(hlt:∀k∈l,k<b.length)(Sl:l.length<=b.length)(hd:w.ownsRow 0 3 1 (.slice fa fn fc) l.length (mq l)):
  Z4 94 #[v,.agg (aT fa fn fc f1 f2 f3),.string (bs name)] w fun e w'=>∃va vn vc,e=.returned (.agg (aT va vn vc (iF b ⟨l,f1,f2,f3⟩ name).nd (iF b ⟨l,f1,f2,f3⟩ name).wh (iF b ⟨l,f1,f2,f3⟩ name).tx))/\w'.ownsRow 0 3 1 (.slice va vn vc) (iU b l name).length (mq (iU b l name))/\Z5 w w'/\∀k,(Value.slice va vn vc).ownBlock=some k->w.heap.size<=k:=by
 have hfn:fn=l.length:=by
  rcases hd.2 with⟨h',h0⟩|⟨g,c,cur,h',_⟩
  ·cases h';exact h0.symm
  ·cases h';rfl
 have HR:=a_ (fun i W (hi:i<l.length) M=>Hd (f2:=f2) (name:=name) (i:=i) (W:=W) h hb hw hs NH hl hr hlt Sl hd hi M);have mY:=a_ (fun W M=>OV (f1:=f1) (f2:=f2) (f3:=f3) (name:=name) (W:=W) h hb hw NH hl hlt Sl M);obtain⟨W0,hW0⟩:∃W0,((((w.alloc (.cells #[v] 139)).alloc (.cells (aT fa fn fc f1 f2 f3) 193)).alloc (.cells #[.slice none 0 0,.bool false,.bool false,.bool false] 193)).alloc (.cells #[.slice none 0 0,.bool false,.bool f2,.bool false] 193))=W0:=⟨_,rfl⟩
 have c0:(w.alloc (.cells #[v] 139)).alloc (.cells (aT fa fn fc f1 f2 f3) 193)=(w.alloc (.cells #[v] 139)).alloc (.cells (aT fa fn fc f1 f2 f3) 193):=rfl;have qL:=eL (w.alloc (.cells #[v] 139)) (.cells (aT fa fn fc f1 f2 f3) 193);rw[bA]at qL;have e2:(((w.alloc (.cells #[v] 139)).alloc (.cells (aT fa fn fc f1 f2 f3) 193)).alloc (.cells #[.slice none 0 0,.bool false,.bool false,.bool false] 193)).heap[w.heap.size+1]?=some (.cells (aT fa fn fc f1 f2 f3) 193 (0,0)):=by
  rw[ak _ _ _ (by simp)];exact qL
 have d2:(((w.alloc (.cells #[v] 139)).alloc (.cells (aT fa fn fc f1 f2 f3) 193)).alloc (.cells #[.slice none 0 0,.bool false,.bool false,.bool false] 193)).cell? ⟨w.heap.size+1,2,none⟩=some (.bool f2):=cell_of e2 rfl;have d0:((((w.alloc (.cells #[v] 139)).alloc (.cells (aT fa fn fc f1 f2 f3) 193)).alloc (.cells #[.slice none 0 0,.bool false,.bool false,.bool false] 193)).alloc (.cells #[.slice none 0 0,.bool false,.bool f2,.bool false] 193)).cell? ⟨w.heap.size+1,0,none⟩=some (.slice fa fn fc):=eG _ (cell_of (i:=0) e2 rfl);have M0:Hid (Vw w v b l f2 name 0 W0):=by
  refine a_ ⟨.slice none 0 0,[],false,f2,⟨?_,?_,?_,bp _ _ _ _,(fun k e=>nomatch e),?_⟩,PF.zero b l f2 name⟩
  ·rw[<-hW0,ak _ _ _ (by simp;omega),ak _ _ _ (by simp;omega),ak _ _ _ (by simp)];exact eL w _
  ·have hh:=eL ((w.alloc (.cells #[v] 139)).alloc (.cells (aT fa fn fc f1 f2 f3) 193)) (.cells #[.slice none 0 0,.bool false,.bool false,.bool false] 193);rw[bA,bA]at hh;rw[<-hW0,ak _ _ _ (by simp)];exact hh
  ·have hh:=eL (((w.alloc (.cells #[v] 139)).alloc (.cells (aT fa fn fc f1 f2 f3) 193)).alloc (.cells #[.slice none 0 0,.bool false,.bool false,.bool false] 193)) (.cells #[.slice none 0 0,.bool false,.bool f2,.bool false] 193);rw[bA,bA,bA]at hh;rw[<-hW0];exact hh
  ·rw[<-hW0];exact((((Below.refl w.heap.size w).alloc (aj _) _).alloc (by simp) _).alloc (by simp;omega) _).alloc (by simp;omega) _
 obtain⟨i0,qA,hz0,hz1,hz2⟩:=aZ uv;obtain⟨RN,Ow⟩:∃RN:Nat->World->Prop,∀i W,RN i W=Vw w v b l f2 name i W:=⟨_,fun _ _=>rfl⟩
 simp only[<-Ow]at M0 mY HR;rw[<-hfn]at mY HR;obtain⟨va',vn',vc',rfl⟩:=eX h.row;have hlf:fn<=2300000000000:=by omega
 clear Ow h hw hs NH hl hr hlt Sl hd qL e2 c0;generalize iF b ⟨l,f1,f2,f3⟩ name=ST at*
 generalize iU b l name=DU at*
 clear hfn;have HW0:=a_ hW0;clear hW0;go_enter func94,ntmps94;go_wp2_with fail;rw[HW0.out];clear d0 d2;go_loopw [9,10,17,18,19,20,21,22,23,24,25,26,27,28,29,30,31,32,33,34,35,36,37,38,39,40,41,42,43,44,45,46,47,48,49,50,51,52,53,54,55,56,57,58,59] (fun _ _ u17 _ _ _ _ _ _ _ _ _ _ _ _ _ _ _ _ _ _ _ _ _ _ _ _ _ _ _ _ _ _ _ _ _ _ _ _ _ _ _ _ _ _ wr=>∃i:Nat,u17=.int .i64 i/\i<=fn/\Hid (RN i wr)) (fun _ _ u17 _ _ _ _ _ _ _ _ _ _ _ _ _ _ _ _ _ _ _ _ _ _ _ _ _ _ _ _ _ _ _ _ _ _ _ _ _ _ _ _ _ _ _=>fn-(RowKit.intOf u17).toNat)
 case atStart=>exact⟨0,rfl,aq _,M0⟩
 case round=>
  rename World=>WO
  obtain⟨i,rfl,hi,HM⟩:=hrel;by_cases hlt:i<fn
  ·obtain⟨gd,k,g,n,cap,d,T,mb,p,q,ta,tn,tc,nd,wh,fb,rfl,a0,a1,hkn,⟨g0,g1,g2,g3,g4⟩,⟨c0,c1,c2,c3,c4⟩,x0,P1,HF,HT,HC,YL,qw⟩:=HR.out i _ hlt HM.out;have hdec:decide ((i:Int)<fn)=true:=by simp;omega
   have B8:(i:Int)<fn:=by omega
   clear HR mY HM M0;cases d with
   |false=>
    obtain⟨cc,zF⟩:=HC.out _ (HF.out rfl);have xc:=a_ zF;clear HF HT HC zF;cases fb with
    |false=>
     go_wp2_with(go_at_call 137;refine xc.out.mono ?_;rintro e w5 ⟨rfl,h5⟩;have H5:=a_ (YL.out rfl _ h5.out);clear xc YL qw);exact⟨⟨i+1,by simp,by omega,H5⟩,by simp only[RowKit.intOf];omega⟩
    |true=>
     clear YL cc;cases nd<;>cases wh
     ·go_wp2_with(first|(go_at_call 137;refine xc.out.mono ?_;rintro e w5 ⟨rfl,h5⟩;obtain⟨sa,sn,sc,⟨e0,e1,e2,e3,e4⟩,⟨y1,y2,y3,y4,y5⟩,W2,rfl,z0,z2,HS⟩:=qw.out rfl _ h5.out;simp only[cI,cx]at y3 y4 y5 z0 z2 HS;clear xc qw h5 c0 c1 c2 c3 c4));generalize ((w5.setCell ⟨w.heap.size+1+1+1,1,none⟩ (.bool p)).setCell ⟨w.heap.size+1+1+1,2,none⟩ (.bool q))=W2 at*
      have He:∀o,(W2.alloc o).cell? ⟨w.heap.size+1+1+1,0,none⟩=some (.slice sa sn sc):=fun o=>eG o z0
      go_region_with
       ((first|(go_at_call 135;refine(kg mb _).mono ?_;rintro e w6 ⟨rfl,rfl⟩)|(go_at_call 138;(first|refine(HS.out 1).mono ?_|refine(HS.out 0).mono ?_|refine(HS.out _).mono ?_);rintro e w8 ⟨a8,n8,c8,rfl,⟨x8,f8⟩,h8⟩)))
      all_goals
       clear e0 e1 e2 e3 e4 y1 y2 y3 y4 y5 z0 z2 HS He x8 f8;go_wp2;exact⟨⟨i+1,by simp,by omega,h8⟩,by simp only[RowKit.intOf];omega⟩
     ·go_wp2_with(first|(go_at_call 137;refine xc.out.mono ?_;rintro e w5 ⟨rfl,h5⟩;obtain⟨sa,sn,sc,⟨e0,e1,e2,e3,e4⟩,⟨y1,y2,y3,y4,y5⟩,W2,rfl,z0,z2,HS⟩:=qw.out rfl _ h5.out;simp only[cI,cx]at y3 y4 y5 z0 z2 HS;clear xc qw h5 c0 c1 c2 c3 c4));generalize ((w5.setCell ⟨w.heap.size+1+1+1,1,none⟩ (.bool p)).setCell ⟨w.heap.size+1+1+1,2,none⟩ (.bool true))=W2 at*
      have He:∀o,(W2.alloc o).cell? ⟨w.heap.size+1+1+1,0,none⟩=some (.slice sa sn sc):=fun o=>eG o z0
      go_region_with
       ((first|(go_at_call 135;refine(kg mb _).mono ?_;rintro e w6 ⟨rfl,rfl⟩)|(go_at_call 138;(first|refine(HS.out 1).mono ?_|refine(HS.out 0).mono ?_|refine(HS.out _).mono ?_);rintro e w8 ⟨a8,n8,c8,rfl,⟨x8,f8⟩,h8⟩)))
      all_goals
       clear e0 e1 e2 e3 e4 y1 y2 y3 y4 y5 z0 z2 HS He x8 f8;go_wp2;exact⟨⟨i+1,by simp,by omega,h8⟩,by simp only[RowKit.intOf];omega⟩
     ·go_wp2_with(first|(go_at_call 137;refine xc.out.mono ?_;rintro e w5 ⟨rfl,h5⟩;obtain⟨sa,sn,sc,⟨e0,e1,e2,e3,e4⟩,⟨y1,y2,y3,y4,y5⟩,W2,rfl,z0,z2,HS⟩:=qw.out rfl _ h5.out;simp only[cI,cx]at y3 y4 y5 z0 z2 HS;clear xc qw h5 c0 c1 c2 c3 c4));generalize ((w5.setCell ⟨w.heap.size+1+1+1,1,none⟩ (.bool true)).setCell ⟨w.heap.size+1+1+1,2,none⟩ (.bool q))=W2 at*
      have He:∀o,(W2.alloc o).cell? ⟨w.heap.size+1+1+1,0,none⟩=some (.slice sa sn sc):=fun o=>eG o z0
      go_region_with
       ((first|(go_at_call 135;refine(kg mb _).mono ?_;rintro e w6 ⟨rfl,rfl⟩)|(go_at_call 138;(first|refine(HS.out 1).mono ?_|refine(HS.out 0).mono ?_|refine(HS.out _).mono ?_);rintro e w8 ⟨a8,n8,c8,rfl,⟨x8,f8⟩,h8⟩)))
      all_goals
       clear e0 e1 e2 e3 e4 y1 y2 y3 y4 y5 z0 z2 HS He x8 f8;go_wp2;exact⟨⟨i+1,by simp,by omega,h8⟩,by simp only[RowKit.intOf];omega⟩
     ·go_wp2_with(first|(go_at_call 137;refine xc.out.mono ?_;rintro e w5 ⟨rfl,h5⟩;obtain⟨sa,sn,sc,⟨e0,e1,e2,e3,e4⟩,⟨y1,y2,y3,y4,y5⟩,W2,rfl,z0,z2,HS⟩:=qw.out rfl _ h5.out;simp only[cI,cx]at y3 y4 y5 z0 z2 HS;clear xc qw h5 c0 c1 c2 c3 c4));generalize ((w5.setCell ⟨w.heap.size+1+1+1,1,none⟩ (.bool true)).setCell ⟨w.heap.size+1+1+1,2,none⟩ (.bool true))=W2 at*
      have He:∀o,(W2.alloc o).cell? ⟨w.heap.size+1+1+1,0,none⟩=some (.slice sa sn sc):=fun o=>eG o z0
      go_region_with
       ((first|(go_at_call 135;refine(kg mb _).mono ?_;rintro e w6 ⟨rfl,rfl⟩)|(go_at_call 138;(first|refine(HS.out 1).mono ?_|refine(HS.out 0).mono ?_|refine(HS.out _).mono ?_);rintro e w8 ⟨a8,n8,c8,rfl,⟨x8,f8⟩,h8⟩)))
      all_goals
       clear e0 e1 e2 e3 e4 y1 y2 y3 y4 y5 z0 z2 HS He x8 f8;go_wp2;exact⟨⟨i+1,by simp,by omega,h8⟩,by simp only[RowKit.intOf];omega⟩
   |true=>
    obtain⟨N,zc,hN,hown,l8⟩:=HT.out rfl;have HO:=a_ hown;have HU:=a_ l8;have JP:Hid (∀j u,[Value.int .i64 ((k:Nat):Int)][j]?=some u->((WO.alloc (.cells #[.bool true,.string T,.map (some mb),.bool p,.bool q] 185)).alloc (.cells #[.int .i64 ((k:Nat):Int)] 3)).cell? ((⟨WO.heap.size+1,0,none⟩:Addr).add j)=some u):=by
     have hh:=b8 (WO.alloc (.cells #[.bool true,.string T,.map (some mb),.bool p,.bool q] 185)) (.int .i64 ((k:Nat):Int)) 3;rw[bA]at hh;exact a_ hh
    clear HF HT hown l8;cases fb with
    |false=>
     go_wp2_with(first|(at_builtin;refine aK (w:=_) rfl _ _ 39 rfl 0 3 i0 _ 1 8 underlying39 qA hz0 hz1 hz2 rfl (by decide) _ _ _ rfl HO.out ⟨WO.heap.size+1,0,none⟩ 1 1 [.int .i64 ((k:Nat):Int)] rfl rfl JP.out (by simp[Value.oneCell']) (by unfold maxLen;omega) (by omega) (aq _) ?_;intro v7 w7 jg ku _ gK;obtain⟨⟨d7,f7⟩,h7⟩:=HU.out _ _ jg ku gK;obtain⟨a7,n7,c7,rfl⟩:=eX jg;obtain⟨⟨c0,c1,c2,c3,c4⟩,zF⟩:=HC.out _ h7.out;have xc:=a_ zF;clear HU jg ku gK HO JP h7 HC zF)|(go_at_call 137;refine xc.out.mono ?_;rintro e w5 ⟨rfl,h5⟩;have H5:=a_ (YL.out rfl _ h5.out);clear xc YL qw));exact⟨⟨i+1,by simp,by omega,H5⟩,by simp only[RowKit.intOf];omega⟩
    |true=>
     clear YL;cases nd<;>cases wh
     ·go_wp2_with(first|(at_builtin;refine aK (w:=_) rfl _ _ 39 rfl 0 3 i0 _ 1 8 underlying39 qA hz0 hz1 hz2 rfl (by decide) _ _ _ rfl HO.out ⟨WO.heap.size+1,0,none⟩ 1 1 [.int .i64 ((k:Nat):Int)] rfl rfl JP.out (by simp[Value.oneCell']) (by unfold maxLen;omega) (by omega) (aq _) ?_;intro v7 w7 jg ku _ gK;obtain⟨⟨d7,f7⟩,h7⟩:=HU.out _ _ jg ku gK;obtain⟨a7,n7,c7,rfl⟩:=eX jg;obtain⟨⟨c0,c1,c2,c3,c4⟩,zF⟩:=HC.out _ h7.out;have xc:=a_ zF;clear HU jg ku gK HO JP h7 HC zF)|(go_at_call 137;refine xc.out.mono ?_;rintro e w5 ⟨rfl,h5⟩;obtain⟨sa,sn,sc,⟨e0,e1,e2,e3,e4⟩,⟨y1,y2,y3,y4,y5⟩,W2,rfl,z0,z2,HS⟩:=qw.out rfl _ h5.out;simp only[cI,cx]at y3 y4 y5 z0 z2 HS;clear xc qw h5 c0 c1 c2 c3 c4));generalize ((w5.setCell ⟨w.heap.size+1+1+1,1,none⟩ (.bool p)).setCell ⟨w.heap.size+1+1+1,2,none⟩ (.bool q))=W2 at*
      have He:∀o,(W2.alloc o).cell? ⟨w.heap.size+1+1+1,0,none⟩=some (.slice sa sn sc):=fun o=>eG o z0
      go_region_with
       ((first|(go_at_call 135;refine(kg mb _).mono ?_;rintro e w6 ⟨rfl,rfl⟩)|(go_at_call 138;(first|refine(HS.out 1).mono ?_|refine(HS.out 0).mono ?_|refine(HS.out _).mono ?_);rintro e w8 ⟨a8,n8,c8,rfl,⟨x8,f8⟩,h8⟩)))
      all_goals
       clear e0 e1 e2 e3 e4 y1 y2 y3 y4 y5 z0 z2 HS He x8 f8;go_wp2;exact⟨⟨i+1,by simp,by omega,h8⟩,by simp only[RowKit.intOf];omega⟩
     ·go_wp2_with(first|(at_builtin;refine aK (w:=_) rfl _ _ 39 rfl 0 3 i0 _ 1 8 underlying39 qA hz0 hz1 hz2 rfl (by decide) _ _ _ rfl HO.out ⟨WO.heap.size+1,0,none⟩ 1 1 [.int .i64 ((k:Nat):Int)] rfl rfl JP.out (by simp[Value.oneCell']) (by unfold maxLen;omega) (by omega) (aq _) ?_;intro v7 w7 jg ku _ gK;obtain⟨⟨d7,f7⟩,h7⟩:=HU.out _ _ jg ku gK;obtain⟨a7,n7,c7,rfl⟩:=eX jg;obtain⟨⟨c0,c1,c2,c3,c4⟩,zF⟩:=HC.out _ h7.out;have xc:=a_ zF;clear HU jg ku gK HO JP h7 HC zF)|(go_at_call 137;refine xc.out.mono ?_;rintro e w5 ⟨rfl,h5⟩;obtain⟨sa,sn,sc,⟨e0,e1,e2,e3,e4⟩,⟨y1,y2,y3,y4,y5⟩,W2,rfl,z0,z2,HS⟩:=qw.out rfl _ h5.out;simp only[cI,cx]at y3 y4 y5 z0 z2 HS;clear xc qw h5 c0 c1 c2 c3 c4));generalize ((w5.setCell ⟨w.heap.size+1+1+1,1,none⟩ (.bool p)).setCell ⟨w.heap.size+1+1+1,2,none⟩ (.bool true))=W2 at*
      have He:∀o,(W2.alloc o).cell? ⟨w.heap.size+1+1+1,0,none⟩=some (.slice sa sn sc):=fun o=>eG o z0
      go_region_with
       ((first|(go_at_call 135;refine(kg mb _).mono ?_;rintro e w6 ⟨rfl,rfl⟩)|(go_at_call 138;(first|refine(HS.out 1).mono ?_|refine(HS.out 0).mono ?_|refine(HS.out _).mono ?_);rintro e w8 ⟨a8,n8,c8,rfl,⟨x8,f8⟩,h8⟩)))
      all_goals
       clear e0 e1 e2 e3 e4 y1 y2 y3 y4 y5 z0 z2 HS He x8 f8;go_wp2;exact⟨⟨i+1,by simp,by omega,h8⟩,by simp only[RowKit.intOf];omega⟩
     ·go_wp2_with(first|(at_builtin;refine aK (w:=_) rfl _ _ 39 rfl 0 3 i0 _ 1 8 underlying39 qA hz0 hz1 hz2 rfl (by decide) _ _ _ rfl HO.out ⟨WO.heap.size+1,0,none⟩ 1 1 [.int .i64 ((k:Nat):Int)] rfl rfl JP.out (by simp[Value.oneCell']) (by unfold maxLen;omega) (by omega) (aq _) ?_;intro v7 w7 jg ku _ gK;obtain⟨⟨d7,f7⟩,h7⟩:=HU.out _ _ jg ku gK;obtain⟨a7,n7,c7,rfl⟩:=eX jg;obtain⟨⟨c0,c1,c2,c3,c4⟩,zF⟩:=HC.out _ h7.out;have xc:=a_ zF;clear HU jg ku gK HO JP h7 HC zF)|(go_at_call 137;refine xc.out.mono ?_;rintro e w5 ⟨rfl,h5⟩;obtain⟨sa,sn,sc,⟨e0,e1,e2,e3,e4⟩,⟨y1,y2,y3,y4,y5⟩,W2,rfl,z0,z2,HS⟩:=qw.out rfl _ h5.out;simp only[cI,cx]at y3 y4 y5 z0 z2 HS;clear xc qw h5 c0 c1 c2 c3 c4));generalize ((w5.setCell ⟨w.heap.size+1+1+1,1,none⟩ (.bool true)).setCell ⟨w.heap.size+1+1+1,2,none⟩ (.bool q))=W2 at*
      have He:∀o,(W2.alloc o).cell? ⟨w.heap.size+1+1+1,0,none⟩=some (.slice sa sn sc):=fun o=>eG o z0
      go_region_with
       ((first|(go_at_call 135;refine(kg mb _).mono ?_;rintro e w6 ⟨rfl,rfl⟩)|(go_at_call 138;(first|refine(HS.out 1).mono ?_|refine(HS.out 0).mono ?_|refine(HS.out _).mono ?_);rintro e w8 ⟨a8,n8,c8,rfl,⟨x8,f8⟩,h8⟩)))
      all_goals
       clear e0 e1 e2 e3 e4 y1 y2 y3 y4 y5 z0 z2 HS He x8 f8;go_wp2;exact⟨⟨i+1,by simp,by omega,h8⟩,by simp only[RowKit.intOf];omega⟩
     ·go_wp2_with(first|(at_builtin;refine aK (w:=_) rfl _ _ 39 rfl 0 3 i0 _ 1 8 underlying39 qA hz0 hz1 hz2 rfl (by decide) _ _ _ rfl HO.out ⟨WO.heap.size+1,0,none⟩ 1 1 [.int .i64 ((k:Nat):Int)] rfl rfl JP.out (by simp[Value.oneCell']) (by unfold maxLen;omega) (by omega) (aq _) ?_;intro v7 w7 jg ku _ gK;obtain⟨⟨d7,f7⟩,h7⟩:=HU.out _ _ jg ku gK;obtain⟨a7,n7,c7,rfl⟩:=eX jg;obtain⟨⟨c0,c1,c2,c3,c4⟩,zF⟩:=HC.out _ h7.out;have xc:=a_ zF;clear HU jg ku gK HO JP h7 HC zF)|(go_at_call 137;refine xc.out.mono ?_;rintro e w5 ⟨rfl,h5⟩;obtain⟨sa,sn,sc,⟨e0,e1,e2,e3,e4⟩,⟨y1,y2,y3,y4,y5⟩,W2,rfl,z0,z2,HS⟩:=qw.out rfl _ h5.out;simp only[cI,cx]at y3 y4 y5 z0 z2 HS;clear xc qw h5 c0 c1 c2 c3 c4));generalize ((w5.setCell ⟨w.heap.size+1+1+1,1,none⟩ (.bool true)).setCell ⟨w.heap.size+1+1+1,2,none⟩ (.bool true))=W2 at*
      have He:∀o,(W2.alloc o).cell? ⟨w.heap.size+1+1+1,0,none⟩=some (.slice sa sn sc):=fun o=>eG o z0
      go_region_with
       ((first|(go_at_call 135;refine(kg mb _).mono ?_;rintro e w6 ⟨rfl,rfl⟩)|(go_at_call 138;(first|refine(HS.out 1).mono ?_|refine(HS.out 0).mono ?_|refine(HS.out _).mono ?_);rintro e w8 ⟨a8,n8,c8,rfl,⟨x8,f8⟩,h8⟩)))
      all_goals
       clear e0 e1 e2 e3 e4 y1 y2 y3 y4 y5 z0 z2 HS He x8 f8;go_wp2;exact⟨⟨i+1,by simp,by omega,h8⟩,by simp only[RowKit.intOf];omega⟩
  ·have hdec:decide ((i:Int)<fn)=false:=by simp;omega
   obtain rfl:i=fn:=by omega
   obtain⟨ta,tn,tc,nd,wh,x0,HS⟩:=mY.out _ HM.out;clear HR mY HM M0;go_wp2_with(first
    |(go_at_call 139;refine HS.out.mono ?_;rintro e w1 ⟨rfl,x1,H1⟩;clear HS x0)
    |(go_at_call 140;refine H1.out.mono ?_;rintro e w2 ⟨va,vn,vc,rfl,⟨x2,Sj⟩,W3,W4,hW3,DB,⟨u0,u3,uf⟩,H65,⟨t0,t1,t2,t3⟩,HTH,HE⟩;subst DB;subst hW3;clear H1 x1)
    |(go_at_call 141;refine H65.out.mono ?_;rintro e w4 ⟨rfl,h4⟩;subst h4;clear H65)
    |(refine wpList_store_mid rfl 193 (.tmp 6) (.tmp 72) rfl (w.heap.size+1+1) 0 (aT va vn vc nd wh ST.tx) rfl rfl HTH.out (Vv ..) (Zz ..) ?_))
   obtain⟨⟨rfl,rfl⟩,q1,q2⟩:=HE.out;exact ba (v:=.agg (aT va vn vc ST.nd ST.wh ST.tx)) (results_cell_row (p:=6) (ty:=193) results94 _ _ (w.heap.size+1+1) 193 _ (0,0) _ rfl q1 underlying193 rfl Cp) rfl ⟨va,vn,vc,rfl,q2⟩
end
end Go.Proofs.YthlcmljckpdheaaGreatDoor
