import Derived.Test.YthlcmljckpdheaaGreatDoorHA
import Derived.Shelf.Strings.BuilderK
import Derived.Deep.RegionHeld3
import Derived.Test.YthlcmljckpdheaaGreatDoorHab
import Derived.Test.YthlcmljckpdheaaGreatDoorHac
set_option linter.unusedVariables false
set_option linter.unusedSimpArgs false
set_option maxHeartbeats 32000000
set_option maxRecDepth 100000
namespace Go.Proofs.YthlcmljckpdheaaGreatDoor
open Go.RowKit Go.Maps Go.Lib Tryz
section
variable{w w' w1 W:World}{b:Nat}{o:L}
theorem Vl:∃j,prog.info? 128=some j/\j.size=2:=Option.map_eq_some_iff.1 (by kernel_rfl:(prog.info? 128).map (·.size)=some 2)
theorem Og:(prog.info? 5).map (fun i=>(i.zero,i.size,i.bytes))=some (some (.int .u8 0),1,1):=by kernel_rfl
theorem Zk:liesAt prog prog.depth 128 (2/prog.cellsOf 128) 0 128 1=true:=by kernel_rfl
theorem KO(b:Nat)(w:World)(c0:w.cell? ⟨b,0,none⟩=some (Z8 b)):
  Z4 85 #[Z8 b] w (Z6 (.tuple #[]) w):=by
 obtain⟨j,hj,_⟩:=Vl;go_enter func85,ntmps85;go_wp2;rw[Lib.run_neq_ptr_same w _ underlying126 hj];go_wp2
 go_end0
 exact⟨rfl,rfl⟩
theorem GN(b:Nat)(w:World)(c0:w.cell? ⟨b,0,none⟩=some (.pointer none))(Ju:w.shape? b=some (128,2))(f0:w.frozen? ⟨b,0,none⟩=false):
  Z4 85 #[Z8 b] w fun e w'=>e=.returned (.tuple #[])/\w'=w.setCell ⟨b,0,none⟩ (Z8 b):=by
 obtain⟨j,hj,hjs⟩:=Vl;go_enter func85,ntmps85;go_wp2;rw[Lib.run_to_unsafe w ⟨b,0,none⟩ underlying126 underlying207 hj (by rw[hjs];decide) Ju (show 0<2 by decide)];simp only[Result.andThen];rw[cY];go_wp2;rw[run_callFunc_extern func127 (by kernel_rfl) (by kernel_rfl) (by kernel_rfl) (e:=Extern.AbiNoEscape.same) (by kernel_rfl)];rw[Lib.run_noEscape];simp only[Result.andThen];rw[cY];go_wp2;rw[Lib.run_from_unsafe w ⟨b,0,none⟩ underlying207 underlying126 hj Ju Zk];simp only[Result.andThen];rw[cY];go_wp2
 go_end0
 exact⟨rfl,rfl⟩
structure Wr(b:Nat)(w w':World):Prop where
 below:Below b w w'
 keep:∀k o,w.heap[k]?=some o->k≠b->(∀c fz,o≠ .cells c 5 fz)->w'.heap[k]?=some o
theorem Wr.refl(b:Nat)(w:World):Wr b w w:=⟨Below.refl b w,fun _ _ h _ _=>h⟩
theorem Wr.trans{w'':World}(h:Wr b w w')(h':Wr b w' w''):Wr b w w'':=⟨h.below.trans h'.below,fun k o e n c=>h'.keep k o (h.keep k o e n c) n c⟩
theorem Wr.past(hb:b<=w.heap.size)(h:Z5 w w'):Wr b w w':=⟨⟨h.os,h.tape,h.output,h.size,fun k hk=>h.block k (by omega)⟩,fun k o e _ _=>by rw[h.block k (eO e)];exact e⟩
structure WB(b:Nat)(o:L)(w:World):Prop where
 ex:∃p v,(p=.pointer none\/p=Z8 b)/\w.heap[b]?=some (.cells #[p,v] 128 (0,0))/\w.ownsRowF b 5 1 v o.length (Lib.byteCells o)/\v.ownBlock≠some b
theorem B7{p v:Value}(sx:w.heap[b]?=some (.cells #[p,v] 128 (0,0))):w.cell? ⟨b,0,none⟩=some p/\w.cell? ⟨b,1,none⟩=some v/\w.frozen? ⟨b,0,none⟩=false/\w.frozen? ⟨b,1,none⟩=false/\w.shape? b=some (128,2)/\b<w.heap.size:=
 ⟨cell_of sx rfl,cell_of sx rfl,eR sx,eR sx,by simp[World.shape?,sx],eO sx⟩
theorem WB.lt(h:WB b o w):b<w.heap.size:=by obtain⟨p,v,_,sx,_⟩:=h.ex;exact eO sx
theorem Oh(h:WB b o w):Z4 85 #[Z8 b] w fun e w'=>e=.returned (.tuple #[])/\∃v,w'.heap[b]?=some (.cells #[Z8 b,v] 128 (0,0))/\w'.ownsRowF b 5 1 v o.length (Lib.byteCells o)/\v.ownBlock≠some b/\Wr b w w':=by
 obtain⟨p,v,hp,sx,hown,hne⟩:=h.ex;obtain⟨c0,c1,f0,f1,Ju,hlt⟩:=B7 sx;rcases hp with rfl|rfl
 ·refine(GN b w c0 Ju f0).mono ?_;rintro e w' ⟨rfl,rfl⟩;refine⟨rfl,v,?_,?_,hne,(Below.refl b w).setCell (p:=⟨b,0,none⟩) (aj _) _,fun k o e n _=>by rw[ae _ _ _ _ n];exact e⟩
  ·rw[fe sx];rfl
  ·refine hown.kept (row:=some b) ⟨rfl,rfl,rfl,by simp[World.setCell],fun k _ hk=>ae _ _ _ _ (fun e=>hk (by rw[e]))⟩ ?_;exact Or.inr hne
 ·refine(KO b w c0).mono ?_;rintro e w' ⟨rfl,rfl⟩;exact⟨rfl,v,sx,hown,hne,Wr.refl _ _⟩
theorem Oi(h:WB b o w)(s:ByteArray)(hlen:o.length+s.size<=140737488355328):
  Z4 43 #[Z8 b,.string s] w fun e w'=>e=.returned (.tuple #[.int .i64 s.size,.nilIface])/\WB b (o++s.data.toList) w'/\Wr b w w':=by
 obtain⟨i0,hi,hz0,hz1,hz2⟩:=aZ Og;have hcc:=Oh h;clear h;go_enter func43,ntmps43;go_wp2_with(go_at_call 85;refine hcc.mono ?_);rintro e w1 ⟨rfl,v,sx,hown,hne,hb1⟩;obtain⟨c0,c1,f0,f1,_,hlt⟩:=B7 sx;go_wp2_with(at_builtin;refine Lib.wpList_append_own_stringF _ rfl _ _ 101 9 rfl b 5 i0 underlying101 underlying9 hi hz0 hz1 hz2 _ _ _ rfl hown s rfl ?c3 ?c4 ?c5 ?_)
 case c3=>unfold maxLen;omega
 case c4=>omega
 case c5=>omega
 intro v' w2 hown' kG _;have hb2:w2.heap[b]?=some (.cells #[Z8 b,v] 128 (0,0)):=by rw[kG.block b hlt (fun e=>hne e.symm)];exact sx
 obtain⟨d0,d1,g0,g1,_,_⟩:=B7 hb2;have Zl:v'.ownBlock≠some b:=by
  intro e;rcases hown'.2 with⟨hv,_⟩|⟨g,cap,cur,fz,hv,_,NC,_⟩
  ·rw[hv]at e;cases e
  ·rw[hv]at e;have eg:g=b:=by simpa [Value.ownBlock]using e
   rw[eg,hb2]at NC;simp at NC
 obtain⟨ao,n',cap,rfl⟩:∃ao n' cap,v'=.slice ao n' cap:=by rcases hown'.2 with⟨hv,_⟩|⟨g,cap,cur,fz,hv,_⟩<;>exact⟨_,_,_,hv⟩
 have mO:Lib.byteCells o++Lib.strCells s=Lib.byteCells (o++s.data.toList):=by simp[Lib.byteCells,Lib.strCells]
 have hblk:Wr b w w2:=⟨hb1.below.grown kG (dH hlt) (fun k hk=>(hown.lt k hk).1),fun k o e n c=>by
  have e1:=hb1.keep k o e n c;rw[kG.block k (eO e1) ?_]
  ·exact e1
  ·intro hk;rcases hown.2 with⟨hv,_⟩|⟨g,cap,cur,fz,hv,_,NC,_⟩
   ·rw[hv]at hk;cases hk
   ·rw[hv]at hk;have eg:k=g:=by simpa [Value.ownBlock]using hk
    rw[eg,NC]at e1;exact c cur fz (bu e1).symm⟩
 have HO:=a_ hown';have HB:=a_ hblk;have Wl:=a_ hb2;have HNE:=a_ Zl;clear hown' hblk kG hown hb2 Zl;go_wp2
 go_ret2
 refine⟨rfl,⟨Z8 b,_,Or.inr rfl,by rw[fe Wl.out];rfl,?_,HNE.out⟩,HB.out.below.setCell (p:=⟨b,1,none⟩) (aj _) _,fun k o e n c=>by rw[ae _ _ _ _ n];exact HB.out.keep k o e n c⟩;have hl:(o++s.data.toList).length=o.length+s.size:=by simp
 rw[<-mO,hl];refine HO.out.kept (row:=some b) ⟨rfl,rfl,rfl,by simp[World.setCell],fun k _ hk=>ae _ _ _ _ (fun e=>hk (by rw[e]))⟩ (Or.inr HNE.out)
theorem wz(b g n cap:Nat)(s:ByteArray)(W:World)(hW:Below b w W)(c1:w.drew.cell? ⟨b,1,none⟩=some (Z9 g n cap))
  (hSD:(Builtin.unsafeSliceData_ #[101] 180 #[Z9 g n cap]).run prog w.drew=.ok (Z8 g) w.drew)
  (hUS:(Builtin.unsafeString_ #[180,3] 9 #[Z8 g,.int .i64 n]).run prog w.drew=.ok (.string s) W):
  Z4 46 #[Z8 b] w fun e w'=>e=.returned (.string s)/\Below b w w':=by
 have mixed:=lays99.mixed;go_enter func46,ntmps46;go_wp2_with fail
 go_region_o
 all_goals(go_wp2;go_ret;exact⟨rfl,hW⟩)
theorem GO(b:Nat)(c1:w.drew.cell? ⟨b,1,none⟩=some (.slice none 0 0)):
  Z4 46 #[Z8 b] w fun e w'=>e=.returned (.string ⟨#[]⟩)/\Below b w w':=by
 have mixed:=lays99.mixed;have hSD:(Builtin.unsafeSliceData_ #[101] 180 #[.slice none 0 0]).run prog w.drew=.ok (.pointer none) w.drew:=rfl;have hUS:(Builtin.unsafeString_ #[180,3] 9 #[.pointer none,.int .i64 0]).run prog w.drew=.ok (.string .empty) w.drew:=Lib.run_unsafeString_none (P:=prog) w.drew 180 3 9 none;go_enter func46,ntmps46;go_wp2_with fail
 go_region_o
 all_goals(go_wp2;go_ret;exact⟨rfl,(Below.refl b w).drew⟩)
theorem Ec(b g:Nat)(cur:Array Value)(fz:Nat×Nat)(k8:b<=w.heap.size)(c1:w.drew.cell? ⟨b,1,none⟩=some (Z9 g 0 0))(hg:w.heap[g]?=some (.cells cur 5 fz)):
  Z4 46 #[Z8 b] w fun e w'=>e=.returned (.string ⟨#[]⟩)/\Below b w w':=by
 have mixed:=lays99.mixed;have hSD:(Builtin.unsafeSliceData_ #[101] 180 #[Z9 g 0 0]).run prog w.drew=.ok (.pointer (some ⟨w.drew.heap.size,0,none⟩)) (w.drew.alloc (.view ⟨g,0,none⟩ 5)):=
  Lib.run_unsafeSliceData_zero w.drew _ _ 5 underlying180 ⟨g,0,none⟩ 0 (5,cur.size) (by have Zm:w.drew.heap[g]?=some (.cells cur 5 fz):=hg;simp[World.shape?,Zm])
 have hUS:∀q W,(Builtin.unsafeString_ #[180,3] 9 #[.pointer q,.int .i64 0]).run prog W=.ok (.string .empty) W:=fun q W=>Lib.run_unsafeString_none (P:=prog) W 180 3 9 q;have c2:(w.drew.alloc (.view ⟨g,0,none⟩ 5)).cell? ⟨b,1,none⟩=some (Z9 g 0 0):=eG _ c1;have c3:(w.alloc (.view ⟨g,0,none⟩ 5)).drew.cell? ⟨b,1,none⟩=some (Z9 g 0 0):=c2;have c0:w.cell? ⟨b,1,none⟩=some (Z9 g 0 0):=c1;go_enter func46,ntmps46;go_wp2_with fail
 go_region_o
 all_goals(go_wp2;go_ret;exact⟨rfl,((Below.refl b w).drew).alloc k8 _⟩)
theorem Wm:prog.cellsOf 5=1:=by kernel_rfl
theorem KP(h:WB b o w):Z4 46 #[Z8 b] w fun e w'=>e=.returned (.string (bs o))/\Below b w w':=by
 obtain⟨p,v,hp,sx,hown,hne⟩:=h.ex;obtain⟨_,c1,_,_,_,hbl⟩:=B7 sx;rcases hown.2 with⟨rfl,hz⟩|⟨g,cap,cur,fz,rfl,hbg,hg,hfz,vr,hcm,hcs,JK⟩
 ·obtain rfl:o=[]:=aY hz;exact GO b c1
 ·by_cases h0:o=[]
  ·subst h0;by_cases hc:cap=0
   ·subst hc;exact Ec b g cur fz (dH hbl) c1 hg
   ·exact wz b g 0 cap ⟨#[]⟩ w.drew (Below.refl b w).drew c1 (Lib.run_unsafeSliceData_row _ _ _ _ _ _ hc) (Lib.run_unsafeString_none (P:=prog) w.drew 180 3 9 _)
  ·have hl0:o.length≠0:=by simpa using h0
   refine wz b g o.length cap ⟨o.toArray⟩ (w.drew.freeze ⟨g,0,none⟩ o.length) (Lib.below_freeze (Below.drew (Below.refl b w)) (p:=⟨g,0,none⟩) hbg _) c1 (Lib.run_unsafeSliceData_row _ _ _ _ _ _ (by omega)) ?_;refine Lib.run_unsafeString_row w.drew 180 3 9 5 underlying180 Wm g cur.size (by have Zm:w.drew.heap[g]?=some (.cells cur 5 fz):=hg;simp[World.shape?,Zm]) o h0 (by omega) (by unfold maxLen at hcm;omega) ?_;intro j x hx;exact hown.cells (g:=g) rfl j (.int .u8 x.toNat) (by simp[Lib.byteCells,hx])
end
section
variable{w w' w1 W:World}{b:Nat}{o:L}
def lK(d:Bool):L:=if d=true then [47,47]else [47]
def qc(t:L):L:=if t=[35]then [116,101,120,116,40,41]else t
abbrev aS(d:Bool)(T:ByteArray)(vp:Value):Array Value:=#[.bool d,.string T,vp]
theorem KQ(d:Bool)(t:L)(vp:Value)(w:World):Z4 44 #[.agg (aS d (bs t) vp)] w fun e w'=>e=.returned (.string (bs (lK d)))/\w'=w.alloc (.cells (aS d (bs t) vp) 131):=by
 have h0:=eL w (.cells (aS d (bs t) vp) 131);have c0:(w.alloc (.cells (aS d (bs t) vp) 131)).cell? ⟨w.heap.size,0,none⟩=some (.bool d):=cell_of h0 rfl;clear h0;cases d with
 |true=>
  go_enter func44,ntmps44;go_wp2;go_ret;exact⟨rfl,rfl⟩
 |false=>
  go_enter func44,ntmps44;go_wp2;go_ret;exact⟨rfl,rfl⟩
theorem Oj(d:Bool)(t:L)(vp:Value)(w:World):Z4 45 #[.agg (aS d (bs t) vp)] w fun e w'=>e=.returned (.string (bs (qc t)))/\w'=w.alloc (.cells (aS d (bs t) vp) 131):=by
 have h0:=eL w (.cells (aS d (bs t) vp) 131);have c1:(w.alloc (.cells (aS d (bs t) vp) 131)).cell? ⟨w.heap.size,1,none⟩=some (.string (bs t)):=cell_of h0 rfl;clear h0;by_cases ht:t=[35]
 ·have hb:((bs t).toList==[35])=true:=by rw[gP,ht];rfl
  have e:qc t=[116,101,120,116,40,41]:=by unfold qc;rw[if_pos ht]
  rw[e];clear ht e;generalize bs t=T at*
  go_enter func45,ntmps45;go_wp2;go_ret;exact⟨rfl,rfl⟩
 ·have hb:((bs t).toList==[35])=false:=by rw[gP];simpa using ht
  have e:qc t=t:=by unfold qc;rw[if_neg ht]
  rw[e];clear ht e;generalize bs t=T at*
  go_enter func45,ntmps45;go_wp2;go_ret;exact⟨rfl,rfl⟩
theorem Wn(h:WB b o w)(t:L)(hlen:o.length+t.length<=1000000):Z4 43 #[Z8 b,.string (bs t)] w fun e w'=>e=.returned (.tuple #[.int .i64 t.length,.nilIface])/\WB b (o++t) w'/\Wr b w w':=by
 have:=Oi h (bs t) (by rw[fB];omega);rw[fB]at this;have e:(bs t).data.toList=t:=by unfold bs;simp
 rw[e]at this;exact this
theorem WB.below(h:WB b o w)(hb:Z5 w w'):WB b o w':=by
 obtain⟨p,v,hp,sx,hown,hne⟩:=h.ex;refine⟨p,v,hp,(hb.block b (eO sx)).trans sx,?_,hne⟩;refine hown.kept (row:=none) ⟨hb.os,hb.tape,hb.output,hb.size,fun k hk _=>hb.block k hk⟩ (Classical.em _)
end
section
variable{w w' w1 W:World}{b:Nat}{o:L}
def WG(b:Nat)(o T:L)(w:World)(e:Ending)(w':World):Prop:=e=.returned (.tuple #[])/\WB b (o++T) w'/\Wr b w w'
theorem Ol(h:WB b o w)(x:Obj):Wr b w (w.alloc x)/\WB b o (w.alloc x):=by
 have hb:=(Below.refl w.heap.size w).alloc (aj _) x;exact⟨Wr.past (dH h.lt) hb,h.below hb⟩
theorem Wr.box{k:Nat}{a:Array Value}{t:TypeId}(h:Wr b w w')(e:w.heap[k]?=some (.cells a t (0,0)))(n:k≠b)(ht:t≠5):w'.heap[k]?=some (.cells a t (0,0)):=
 h.keep k _ e n (by intro c fz e;cases e;exact ht rfl)
theorem KR(x y z:L)(e:x++y=z)(h:x.length+y.length<=9223372036854775807)(w:World):(Op.stringOp .add (bs x) (bs y)).run prog w=.ok (.string (bs z)) w:=by
 unfold bs;rw[cW w _ _ (by simpa [ByteArray.size]using h),ByteArray.mk_append_mk,e]
theorem kP{B:Nat}(h:Below B w W)(n:Nat):Below B w (W.drewN n):=⟨h.os,h.tape,h.output,h.size,h.block⟩
def ur(b:Nat)(O:L)(w wr:World)(rest:L):Prop:=∃o',WB b o' wr/\Wr b w wr/\o'++rest=O
theorem ur.alloc{O rest:L}{wr:World}(h:ur b O w wr rest)(x:Obj):ur b O w (wr.alloc x) rest:=by
 obtain⟨o',h1,h2,h3⟩:=h;obtain⟨wa,wb⟩:=Ol h1 x;exact⟨o',wb,h2.trans wa,h3⟩
theorem ur.put{O rest t:L}{wr:World}(h:ur b O w wr (t++rest))(hO:O.length<=1000000):Z4 43 #[Z8 b,.string (bs t)] wr fun e w'=>e=.returned (.tuple #[.int .i64 t.length,.nilIface])/\Hid (ur b O w w' rest/\Wr b wr w'):=by
 obtain⟨o',h1,h2,h3⟩:=h;have hl:=aA List.length h3;simp only[af]at hl;refine(Wn h1 t (by omega)).mono ?_;rintro e w' ⟨h,k,r⟩;exact⟨h,a_ ⟨⟨_,k,h2.trans r,by rw[bt];exact h3⟩,r⟩⟩
theorem ur.part{f:FuncId}{args:Array Value}{O rest t:L}{wr:World}(h:ur b O w wr (t++rest))(hO:O.length<=1000000)(hc:∀o',WB b o' wr->o'.length+t.length<=1000000->Z4 f args wr (WG b o' t wr)):Z4 f args wr fun e w'=>e=.returned (.tuple #[])/\Hid (ur b O w w' rest/\Wr b wr w'):=by
 obtain⟨o',h1,h2,h3⟩:=h;have hl:=aA List.length h3;simp only[af]at hl;refine(hc o' h1 (by omega)).mono ?_;rintro e w' ⟨h,k,r⟩;exact⟨h,a_ ⟨⟨_,k,h2.trans r,by rw[bt];exact h3⟩,r⟩⟩
theorem ur.start{T:L}(h:WB b o w):ur b (o++T) w w T:=⟨o,h,Wr.refl b w,rfl⟩
theorem ur.fin{T:L}{wr:World}(h:ur b (o++T) w wr []):WG b o T w (.returned (.tuple #[])) wr:=by
 obtain⟨o',h1,h2,h3⟩:=h;rw[aM]at h3;subst h3;exact⟨rfl,h1,h2⟩
theorem ur.below{O rest:L}{wr wr':World}(h:ur b O w wr rest)(hb:Z5 wr wr'):ur b O w wr' rest:=by
 obtain⟨o',h1,h2,h3⟩:=h;exact⟨o',h1.below hb,h2.trans (Wr.past (dH h1.lt) hb),h3⟩
theorem ur.lt{O rest:L}{wr:World}(h:ur b O w wr rest):b<wr.heap.size:=by
 obtain⟨o',h1,h2,h3⟩:=h;exact h1.lt
theorem ur.wr{O rest:L}{wr:World}(h:ur b O w wr rest):Wr b w wr:=by
 obtain⟨o',h1,h2,h3⟩:=h;exact h2
theorem Wo(d:Bool)(t:L)(vp:Value)(w:World):Z4 45 #[.agg (aS d (bs t) vp)] w (Z7 (.string (bs (qc t))) w):=(Oj d t vp w).mono fun e w' ⟨h1,h2⟩=>⟨h1,by rw[h2];exact(Below.refl _ w).alloc (aj _) _⟩
theorem SX(d:Bool)(t:L)(vp:Value)(w:World):Z4 44 #[.agg (aS d (bs t) vp)] w (Z7 (.string (bs (lK d))) w):=(KQ d t vp w).mono fun e w' ⟨h1,h2⟩=>⟨h1,by rw[h2];exact(Below.refl _ w).alloc (aj _) _⟩
theorem vH{k:Nat}{x0 x1 x2:Value}{ty:TypeId}(h:w.heap[k]?=some (.cells #[x0,x1,x2] ty (0,0))):w.cell? ⟨k,0,none⟩=some x0/\w.cell? ⟨k,1,none⟩=some x1/\w.cell? ⟨k,2,none⟩=some x2:=⟨cell_of h rfl,cell_of h rfl,cell_of h rfl⟩
theorem ur.box{O rest t:L}{w0:World}(m0:ur b O w w0 (t++rest))(hO:O.length<=1000000)(k:Nat)(hk:k≠b)(x0 x1 x2:Value)(hB:w0.heap[k]?=some (.cells #[x0,x1,x2] 131 (0,0))):∀W,Z5 w0 W->
  (W.cell? ⟨k,0,none⟩=some x0/\W.cell? ⟨k,1,none⟩=some x1/\W.cell? ⟨k,2,none⟩=some x2)/\Z4 43 #[Z8 b,.string (bs t)] W fun e w'=>e=.returned (.tuple #[.int .i64 (t.length:Nat),.nilIface])/\(w'.cell? ⟨k,0,none⟩=some x0/\w'.cell? ⟨k,1,none⟩=some x1/\w'.cell? ⟨k,2,none⟩=some x2)/\Hid (ur b O w w' rest/\Wr b w0 w'):=fun W hW=>by
 have hBW:=(hW.block _ (eO hB)).trans hB;refine⟨vH hBW,((m0.below hW).put hO).mono ?_⟩;rintro e w' ⟨h,k⟩;exact⟨h,vH (k.out.2.box hBW hk (by decide)),a_ ⟨k.out.1,(Wr.past (dH m0.lt) hW).trans k.out.2⟩⟩
def qK(w:World)(v:Value)(ms:List Mk):Prop:=∃ai cap,v=.slice ai ms.length cap/\(ms.length<=1000000/\ms.length<=cap)/\∀i m,ms[i]?=some m->∃g pi pn pc,ai=some ⟨g,0,none⟩/\g<w.heap.size/\w.cell? ⟨g,i*3,none⟩=some (.bool m.1)/\w.cell? ⟨g,i*3+1,none⟩=some (.string (bs m.2))/\w.cell? ⟨g,i*3+2,none⟩=some (.slice pi pn pc)
theorem qK.below{v:Value}{ms:List Mk}{B:Nat}(h:qK w v ms)(hb:Z5 w w'):qK w' v ms:=by
 obtain⟨ai,cap,rfl,hn,hr⟩:=h;refine⟨ai,cap,rfl,hn,fun i m hm=>?_⟩;obtain⟨g,pi,pn,pc,e,hg,h0,h1,h2⟩:=hr i m hm;have up:∀j u,w.cell? ⟨g,j,none⟩=some u->w'.cell? ⟨g,j,none⟩=some u:=fun j u hj=>(ag (hb.block g hg)).trans hj;exact⟨g,pi,pn,pc,e,ah hg hb.size,up _ _ h0,up _ _ h1,up _ _ h2⟩
def gL(ms:List Mk):L:=ms.flatMap oP
theorem KT(m:Mk):oP m=lK m.1++qc m.2:=rfl
theorem KU{ms:List Mk}{i:Nat}{m:Mk}(h:ms[i]?=some m):gL (ms.drop i)=(lK m.1++qc m.2)++gL (ms.drop (i+1)):=by
 obtain⟨hl,e⟩:=List.getElem?_eq_some_iff.1 h;rw[bT hl,e,gL,bU,KT];rfl
theorem WB.new(w:World):WB w.heap.size [] (w.alloc (.cells #[.pointer none,.slice none 0 0] 128)):=
 ⟨.pointer none,.slice none 0 0,Or.inl rfl,eL _ _,World.ownsRowF_nil _ _ _ _,by simp[Value.ownBlock]⟩
end
section
variable{w w' w1 W:World}{b:Nat}{o:L}
theorem SY(ms:List Mk)(v:Value)(w:World)(h:qK w v ms)(hl:(gL ms).length<=1000000):Z4 25 #[v] w (Z7 (.string (bs (gL ms))) w):=by
 obtain⟨ai,cap,rfl,⟨hn,-⟩,hr⟩:=h;have hb0:=(Below.refl w.heap.size w).alloc (aj _) (.cells #[.pointer none,.slice none 0 0] 128);have M0:Hid (ur w.heap.size (gL ms) (w.alloc (.cells #[.pointer none,.slice none 0 0] 128)) (w.alloc (.cells #[.pointer none,.slice none 0 0] 128)) (gL (ms.drop 0))):=a_ (ur.start (o:=[]) (T:=gL ms) (WB.new w));have mY:Hid (∀wr,ur w.heap.size (gL ms) (w.alloc (.cells #[.pointer none,.slice none 0 0] 128)) wr (gL (ms.drop ms.length))->Z4 46 #[.pointer (some ⟨w.heap.size,0,none⟩)] wr (Z7 (.string (bs (gL ms))) w)):=fun wr m=>by
  rw[dx]at m;obtain⟨o',h1,h2,h3⟩:=m;rw[show gL []=[]from rfl,aM]at h3;subst h3;refine(KP h1).mono ?_;rintro e w' ⟨h4,h5⟩;exact⟨h4,(hb0.trans h2.below).trans h5⟩
 have HR:Hid (∀wr i,i<ms.length->ur w.heap.size (gL ms) (w.alloc (.cells #[.pointer none,.slice none 0 0] 128)) wr (gL (ms.drop i))->∃g d X T pi pn pc,ai=some ⟨g,0,none⟩/\(wr.cell? ⟨g,i*3,none⟩=some (.bool d)/\wr.cell? ⟨g,i*3+1,none⟩=some (.string X)/\wr.cell? ⟨g,i*3+2,none⟩=some (.slice pi pn pc))/\((wr.alloc (.cells (aS d X (.slice pi pn pc)) 131)).cell? ⟨wr.heap.size,0,none⟩=some (.bool d)/\(wr.alloc (.cells (aS d X (.slice pi pn pc)) 131)).cell? ⟨wr.heap.size,1,none⟩=some (.string X)/\(wr.alloc (.cells (aS d X (.slice pi pn pc)) 131)).cell? ⟨wr.heap.size,2,none⟩=some (.slice pi pn pc))/\
   (∀W,(Op.stringOp .add (bs (lK d)) T).run prog W=.ok (.string (bs (lK d++T.data.toList))) W)/\
   Hid (∀W,Z4 45 #[.agg (aS d X (.slice pi pn pc))] W (Z7 (.string T) W))/\
   Hid (∀W,Z4 44 #[.agg (aS d X (.slice pi pn pc))] W (Z7 (.string (bs (lK d))) W))/\
   Hid (∀W,Below (wr.alloc (.cells (aS d X (.slice pi pn pc)) 131)).heap.size (wr.alloc (.cells (aS d X (.slice pi pn pc)) 131)) W->(W.cell? ⟨wr.heap.size,0,none⟩=some (.bool d)/\W.cell? ⟨wr.heap.size,1,none⟩=some (.string X)/\W.cell? ⟨wr.heap.size,2,none⟩=some (.slice pi pn pc))/\Z4 43 #[.pointer (some ⟨w.heap.size,0,none⟩),.string (bs (lK d++T.data.toList))] W fun e w'=>e=.returned (.tuple #[.int .i64 ((lK d++T.data.toList).length:Nat),.nilIface])/\(w'.cell? ⟨wr.heap.size,0,none⟩=some (.bool d)/\w'.cell? ⟨wr.heap.size,1,none⟩=some (.string X)/\w'.cell? ⟨wr.heap.size,2,none⟩=some (.slice pi pn pc))/\Hid (ur w.heap.size (gL ms) (w.alloc (.cells #[.pointer none,.slice none 0 0] 128)) w' (gL (ms.drop (i+1)))))):=fun wr i hi m=>by
  have hm:ms[i]?=some ms[i]:=ap hi;obtain⟨g,pi,pn,pc,e,hg,h0,h1,h2⟩:=hr i _ hm;generalize ms[i]=x at*
  have hgw:wr.heap[g]?=w.heap[g]?:=by
   rw[m.wr.below.block g hg];exact ak _ _ _ hg
  have up:∀j u,w.cell? ⟨g,j,none⟩=some u->wr.cell? ⟨g,j,none⟩=some u:=fun j u hj=>(ag hgw).trans hj;have qL:=eL wr (.cells (aS x.1 (bs x.2) (.slice pi pn pc)) 131);have hlt:=m.lt;have ma:=m.alloc (.cells (aS x.1 (bs x.2) (.slice pi pn pc)) 131);have eT:(bs (qc x.2)).data.toList=qc x.2:=by unfold bs;simp
  rw[KU hm]at ma;have hlen:(lK x.1++qc x.2).length<=1000000:=by
   obtain⟨o',_,_,h3⟩:=ma;have:=aA List.length h3;simp only[af]at this ⊢;omega
  refine⟨g,x.1,bs x.2,bs (qc x.2),pi,pn,pc,e,⟨up _ _ h0,up _ _ h1,up _ _ h2⟩,vH qL,?_,a_ fun W=>Wo _ _ _ W,a_ fun W=>SX _ _ _ W,a_ ?_⟩
  ·rw[eT];refine KR _ _ _ rfl ?_;rw[af]at hlen;omega
  ·rw[eT];intro W hW;obtain⟨k1,k2⟩:=ma.box hl wr.heap.size (by omega) _ _ _ qL W hW;refine⟨k1,k2.mono ?_⟩;rintro e w' ⟨h,c,r⟩;exact⟨h,c,a_ r.out.1⟩
 clear hr hl hb0;generalize ms.length=n at*
 go_enter func25,ntmps25;go_wp2_with fail;generalize (w.alloc (.cells #[.pointer none,.slice none 0 0] 128))=W0 at*
 go_loopw [5,8,9,10,11,12,13,14,15,16,17,18] (fun _ u8 _ _ _ _ _ _ _ _ _ _ wr=>∃i:Nat,u8=.int .i64 i/\i<=n/\Hid (ur w.heap.size (gL ms) W0 wr (gL (ms.drop i)))) (fun _ u8 _ _ _ _ _ _ _ _ _ _ _=>n-(RowKit.intOf u8).toNat)
 case atStart=>exact⟨0,rfl,aq _,M0⟩
 case round=>
  rename World=>WO
  obtain⟨i,rfl,hi,HM⟩:=hrel;by_cases hlt:i<n
  ·obtain⟨g,d,X,T,pi,pn,pc,rfl,⟨a0,a1,a2⟩,⟨c0,c1,c2⟩,p1,HT,HS,HD⟩:=HR.out _ i hlt HM.out;have hdec:decide ((i:Int)<n)=true:=by simp;omega
   have B8:(i:Int)<n:=by omega
   clear HR mY HM M0;generalize bs (lK d++T.data.toList)=S3 at*
   generalize bs (lK d)=S1 at*
   generalize (lK d++T.data.toList).length=N3 at*
   go_wp2_with fail;go_region_held3 (fun W=>W.cell? ⟨WO.heap.size,0,none⟩=some (.bool d)/\W.cell? ⟨WO.heap.size,1,none⟩=some (.string X)/\W.cell? ⟨WO.heap.size,2,none⟩=some (.slice pi pn pc))
    (first|exact d3|exact⟨c0,c1,c2⟩|exact(HD.out _ (kP b6 _)).1|exact(HD.out _ b6).1|exact(HD.out _ (kP b5 _)).1|exact(HD.out _ b5).1)
    ((first|(go_at_call 44;refine(HS.out _).mono ?_;rintro e w5 ⟨rfl,b5'⟩;have b5:=(kP (Below.refl _ _) _).trans b5';clear b5')|(go_at_call 45;refine(HT.out _).mono ?_;rintro e w6 ⟨rfl,b6'⟩;(first|have b6:=(kP b5 _).trans (gA b6' b5.size)|have b6:=b5.trans (gA b6' b5.size));clear b6')|(go_at_call 43;(first|refine(HD.out _ b6).2.mono ?_|refine(HD.out _ (kP b6 _)).2.mono ?_);rintro e w7 ⟨rfl,d3,h7⟩)))
   all_goals
    clear b5 b6 c0 c1 c2 HT HS HD d3;go_wp2;exact⟨⟨i+1,by simp,by omega,h7⟩,by simp only[RowKit.intOf];omega⟩
  ·have hdec:decide ((i:Int)<n)=false:=by simp;omega
   obtain rfl:i=n:=by omega
   have HE:=a_ (mY.out _ HM.out);clear mY HM M0 HR;go_wp2_with(go_at_call 46;refine HE.out.mono ?_;rintro e w7 ⟨rfl,h7⟩);go_ret;exact⟨rfl,h7⟩
end
section
variable{w w' w1 W:World}{b:Nat}{o:L}
theorem KV(d:Bool)(T:ByteArray)(c:Bool)(vp:Value)(w:World)(hb:(T.toList==[35])=c):Z4 129 #[.agg (aS d T vp)] w fun e w'=>e=.returned (.bool c)/\w'=w.alloc (.cells (aS d T vp) 131):=by
 have h0:=eL w (.cells (aS d T vp) 131);have c1:(w.alloc (.cells (aS d T vp) 131)).cell? ⟨w.heap.size,1,none⟩=some (.string T):=cell_of h0 rfl;clear h0;cases c with
 |true=>
  go_enter func129,ntmps129;go_wp2;go_ret;exact⟨rfl,rfl⟩
 |false=>
  go_enter func129,ntmps129;go_wp2;go_ret;exact⟨rfl,rfl⟩
theorem Wq(t:L):((bs t).toList==[35])=(t==[35]):=by rw[gP]
def Gi(ms:List Mk):Bool:=ms.any (·.2==[35])
theorem GU(ms:List Mk)(v:Value)(w:World)(h:qK w v ms):Z4 177 #[v,.func (.func 129) #[] #[]] w fun e w'=>∃k:Int,e=.returned (.int .i64 k)/\(decide (0<=k)=Gi ms)/\Z5 w w':=by
 obtain⟨ai,cap,rfl,⟨hn,-⟩,hr⟩:=h;have HR:Hid (∀wr i,i<ms.length->Z5 w wr->∃g d X c pi pn pc,ai=some ⟨g,0,none⟩/\(wr.cell? ⟨g,i*3,none⟩=some (.bool d)/\wr.cell? ⟨g,i*3+1,none⟩=some (.string X)/\wr.cell? ⟨g,i*3+2,none⟩=some (.slice pi pn pc))/\Hid (c=(match ms[i]? with|some m=>m.2==[35]|none=>false))/\
   Hid (Z4 129 #[.agg (aS d X (.slice pi pn pc))] wr (Z7 (.bool c) w))):=fun wr i hi hb=>by
  have hm:ms[i]?=some ms[i]:=ap hi;obtain⟨g,pi,pn,pc,e,hg,h0,h1,h2⟩:=hr i _ hm;have up:∀j u,w.cell? ⟨g,j,none⟩=some u->wr.cell? ⟨g,j,none⟩=some u:=fun j u hj=>(ag (hb.block g hg)).trans hj;refine⟨g,_,_,(ms[i].2==[35]),pi,pn,pc,e,⟨up _ _ h0,up _ _ h1,up _ _ h2⟩,a_ (by rw[hm]),a_ ?_⟩;refine(KV _ _ _ _ wr (Wq _)).mono ?_;rintro e w' ⟨h,rfl⟩;exact⟨h,hb.alloc hb.size _⟩
 have HN:Hid (Gi (ms.take ms.length)=Gi ms):=by rw[bH];exact a_ rfl
 have HT:Hid (∀i,i<ms.length->Gi (ms.take (i+1))=(Gi (ms.take i)||(match ms[i]? with|some m=>m.2==[35]|none=>false))):=fun i hi=>by
  rw[bw hi,ap hi];unfold Gi;rw[dE,dO,List.any_nil,di]
 have HP:Hid (∀i,Gi (ms.take i)=true->Gi ms=true):=fun i h=>by
  unfold Gi at*
  rw[List.any_eq_true]at*
  obtain⟨x,hx,h2⟩:=h;exact⟨x,dz hx,h2⟩
 clear hr;generalize ms.length=n at*
 go_enter func177,ntmps177;go_wp2_with fail;go_loopw [5,8,9,10,11,12,13,14,15,16,17,18] (fun _ u8 _ _ _ _ _ _ _ _ _ _ wr=>∃i:Nat,u8=.int .i64 i/\i<=n/\Hid (Gi (ms.take i)=false/\Z5 w wr)) (fun _ u8 _ _ _ _ _ _ _ _ _ _ _=>n-(RowKit.intOf u8).toNat)
 case atStart=>exact⟨0,rfl,aq _,a_ ⟨rfl,Below.refl _ _⟩⟩
 case round=>
  rename World=>WO
  obtain⟨i,rfl,hi,HM⟩:=hrel;by_cases hlt:i<n
  ·obtain⟨g,d,X,c,pi,pn,pc,rfl,⟨a0,a1,a2⟩,HC,HF⟩:=HR.out _ i hlt HM.out.2;have hdec:decide ((i:Int)<n)=true:=by simp;omega
   have B8:(i:Int)<n:=by omega
   have HI:Hid (Gi (ms.take (i+1))=c):=a_ (by rw[HT.out i hlt,HM.out.1,<-HC.out];rfl);clear HR HC HT HM;cases c with
   |true=>
    go_wp2_with(go_at_call 129;refine HF.out.mono ?_;rintro e w5 ⟨rfl,h5⟩;clear HF);go_ret;exact⟨i,rfl,by rw[HP.out _ HI.out];simp,h5⟩
   |false=>
    go_wp2_with(go_at_call 129;refine HF.out.mono ?_;rintro e w5 ⟨rfl,h5⟩;clear HF);exact⟨⟨i+1,by simp,by omega,a_ ⟨HI.out,h5⟩⟩,by simp only[RowKit.intOf];omega⟩
  ·have hdec:decide ((i:Int)<n)=false:=by simp;omega
   obtain rfl:i=n:=by omega
   go_wp2;go_ret;exact⟨-1,rfl,by rw[<-HN.out,HM.out.1];rfl,HM.out.2⟩
end
section
variable{w w' w1 W:World}{b:Nat}{o:L}
theorem zM(ms:List Mk)(v:Value)(w:World)(h:qK w v ms):Z4 128 #[v,.func (.func 129) #[] #[]] w (Z7 (.bool (Gi ms)) w):=by
 have HI:=a_ (GU ms v w h);obtain⟨ai,cap,rfl,-⟩:=h;generalize Gi ms=c at*
 generalize ms.length=n at*
 cases c with
 |true=>
  go_enter func128,ntmps128;go_wp2_with(go_at_call 177;refine HI.out.mono ?_;rintro e w5 ⟨k,rfl,hk,h5⟩;have hk2:decide (k≥0)=true:=hk;have hk3:(0:Int)<=k:=bY hk;clear HI);go_ret;first|exact⟨rfl,h5⟩|exact⟨by simp[hk3],h5⟩
 |false=>
  go_enter func128,ntmps128;go_wp2_with(go_at_call 177;refine HI.out.mono ?_;rintro e w5 ⟨k,rfl,hk,h5⟩;have hk2:decide (k≥0)=false:=hk;have hk3:¬(0:Int)<=k:=of_decide_eq_false hk;clear HI);go_ret;first|exact⟨rfl,h5⟩|exact⟨by simp[hk3],h5⟩
end
section
variable{w w' w1 W:World}{b:Nat}{o:L}
theorem qK.init{ai:Option Addr}{k n cap:Nat}{ms:List Mk}(h:qK w (.slice ai n cap) ms)(hk:ms.length=k+1):qK w (.slice ai k cap) ms.dropLast:=by
 obtain⟨ai',cap',e,⟨hn,hc⟩,hr⟩:=h;cases e;refine⟨ai,cap,by simp[hk],⟨by simp;omega,by simp;omega⟩,fun i m hm=>hr i m ?_⟩;rw[List.getElem?_dropLast]at hm;split at hm
 ·exact hm
 ·simp at hm
theorem GV{ms:List Mk}(h0:ms≠[]){x:Mk}(hx:ms[0]?=some x):nowhere ms=(Gi ms.dropLast||(ms.length==1&&(x.2==[35]&&!x.1))):=by
 unfold nowhere Gi;cases ms with
 |nil=>exact absurd rfl h0
 |cons y l=>
  simp only[dh,aX]at hx;subst hx;congr 1;cases l with
  |nil=>
   obtain⟨d,t⟩:=y;cases d with
   |true=>simp
   |false=>
    have e:([((false,t):Mk)]==[(false,[35])])=(t==[35]):=by rw[bK];simp
    rw[e];simp
  |cons z l=>simp
theorem GX(ms:List Mk)(v:Value)(w:World)(h:qK w v ms)(h0:ms≠[]):Z4 86 #[v] w (Z7 (.bool (nowhere ms)) w):=by
 obtain⟨k,hk⟩:∃k,ms.length=k+1:=⟨ms.length-1,by cases ms<;>simp_all⟩
 have hh:=h;obtain⟨ai,cap,rfl,⟨hn,hc⟩,hr⟩:=h;obtain⟨x,hx⟩:∃x,ms[0]?=some x:=⟨ms[0],ap (by omega)⟩
 obtain⟨g,pi,pn,pc,rfl,hg,a0,a1,a2⟩:=hr 0 x hx;have HC:=a_ (zM _ _ w (hh.init hk));have HX:Hid (∀w',Z5 w w'->w'.cell? ⟨g,0,none⟩=some (.bool x.1)/\w'.cell? ⟨g,1,none⟩=some (.string (bs x.2))):=fun w' hb=>by
  have up:∀j u,w.cell? ⟨g,j,none⟩=some u->w'.cell? ⟨g,j,none⟩=some u:=fun j u hj=>(ag (hb.block g hg)).trans hj;exact⟨up _ _ (by simpa using a0),up _ _ (by simpa using a1)⟩
 rw[GV h0 hx,hk];obtain⟨c,hcx⟩:∃c,(x.2==[35])=c:=⟨_,rfl⟩
 have hb:((bs x.2).toList==[35])=c:=by rw[gP];exact hcx
 rw[hcx];rw[hk]at hc hn;have hwr:IntKind.i64.wrap ((k:Int)+1-1)=(k:Int):=by rw[aI];omega
 have hkc:(k:Int)<=(cap:Int):=by omega
 have Sk:(0:Int)<=(k:Int):=by omega
 clear hr hh h0 a0 a1 a2 hx hcx hk;obtain⟨d,hd⟩:∃d,x.1=d:=⟨_,rfl⟩
 rw[hd]at HX ⊢;clear hd;generalize bs x.2=X at*
 generalize Gi ms.dropLast=t at*
 have Om:(k+1==1)=decide (k=0):=by cases k<;>simp
 rw[Om];by_cases hz:k=0
 ·have he:((k:Int)==0)=true:=by simp;omega
  have On:decide (k=0)=true:=by simp[hz]
  rw[On];clear Om On hz;cases t<;>cases c<;>cases d<;>
  ·go_enter func86,ntmps86;go_wp2_with(go_at_call 128;refine HC.out.mono ?_;rintro e w5 ⟨rfl,h5⟩;obtain⟨x0,x1⟩:=HX.out _ h5;clear HC HX);go_ret;exact⟨rfl,h5⟩
 ·have he:((k:Int)==0)=false:=by simp;omega
  have On:decide (k=0)=false:=by simp[hz]
  rw[On];clear Om On;cases t<;>cases c<;>cases d<;>
  ·go_enter func86,ntmps86;go_wp2_with(go_at_call 128;refine HC.out.mono ?_;rintro e w5 ⟨rfl,h5⟩;obtain⟨x0,x1⟩:=HX.out _ h5;clear HC HX);go_ret;exact⟨rfl,h5⟩
end
section
variable{w w' w1 W:World}{b:Nat}{o:L}
theorem Oo(d:Bool)(T N:ByteArray)(b1 b2 b3:Bool)(w:World)(h1:(T.toList==[42])=b1)(h2:(T.toList==N.toList)=b2)(h3:(N.toList==[35])=b3):Z4 137 #[.agg #[.bool d,.string T],.string N] w fun e w'=>e=.returned (.bool (b1||(b2&&!b3)))/\w'=w.alloc (.cells #[.bool d,.string T] 183):=by
 have h0:=eL w (.cells #[.bool d,.string T] 183);have c0:(w.alloc (.cells #[.bool d,.string T] 183)).cell? ⟨w.heap.size,0,none⟩=some (.bool d):=cell_of h0 rfl;have c1:(w.alloc (.cells #[.bool d,.string T] 183)).cell? ⟨w.heap.size,1,none⟩=some (.string T):=cell_of h0 rfl;clear h0;cases b1<;>cases b2<;>cases b3<;>
 ·go_enter func137,ntmps137;go_wp2;go_ret;exact⟨rfl,rfl⟩
theorem SZ(m:Mk)(name:L)(w:World):Z4 137 #[.agg #[.bool m.1,.string (bs m.2)],.string (bs name)] w (Z7 (.bool (qI m name)) w):=by
 refine(Oo m.1 (bs m.2) (bs name) _ _ _ w (by rw[gP]) (by rw[gP,gP]) (by rw[gP])).mono ?_;rintro e w' ⟨h,rfl⟩;exact⟨h,(Below.refl _ w).alloc (aj _) _⟩
end
section
variable{w w' w1 W:World}{X n sc:Nat}{si:Option Addr}
theorem uu(k:Nat)(c1:w.cell? ⟨X,1,none⟩=some (.slice si n sc))(hk:k<n):Z4 93 #[Z8 X,.int .i64 k] w (Z6 (.bool true) w):=by
 have h1:decide ((k:Int)<(n:Int))=true:=by simp;omega
 have h2:decide ((k:Int)≥0)=true:=by simp
 go_enter func93,ntmps93;go_wp2;go_ret;exact⟨rfl,rfl⟩
end
section
variable{w w' w1 W:World}{X n sc:Nat}{si:Option Addr}
theorem Oq{g k:Nat}{a b:Bool}(c1:w.cell? ⟨X,1,none⟩=some (Z9 g n sc))(hk:k<n)(c2:w.cell? ⟨g,k*4+1,none⟩=some (.bool a))(c3:w.cell? ⟨g,k*4+2,none⟩=some (.bool b)):Z4 55 #[Z8 X,.int .i64 k] w fun e w'=>e=.returned (.tuple #[.bool a,.bool b])/\∃m,w'=w.drewN m:=by
 have HA:=a_ (uu k c1 hk);have B8:(k:Int)<(n:Int):=by omega
 go_enter func55,ntmps55;go_wp2_with(go_at_call 93;refine HA.out.mono ?_;rintro e w5 ⟨rfl,hw⟩;have hw':=hw.symm;clear hw;subst hw';clear HA);go_quiet(fail);go_wp2;refine ba (v:=.tuple #[.bool a,.bool b]) (by simp[results,results55,go_sem]) rfl ⟨rfl,_,rfl⟩
end
section
variable{w w' w1 W:World}
def S9(w:World)(v:Value)(l:List L):Prop:=∃ai cap,v=.slice ai l.length cap/\(l.length<=1000000000000/\l.length<=cap)/\∀i x,l[i]?=some x->∃g off,ai=some ⟨g,off,none⟩/\g<w.heap.size/\w.cell? ⟨g,off+i,none⟩=some (.string (bs x))
theorem S9.below{v:Value}{l:List L}(h:S9 w v l)(hb:Z5 w w'):S9 w' v l:=by
 obtain⟨ai,cap,rfl,hn,hr⟩:=h;refine⟨ai,cap,rfl,hn,fun i m hm=>?_⟩;obtain⟨g,off,e,hg,h0⟩:=hr i m hm;exact⟨g,off,e,ah hg hb.size,(ag (hb.block g hg)).trans h0⟩
end
end Go.Proofs.YthlcmljckpdheaaGreatDoor
