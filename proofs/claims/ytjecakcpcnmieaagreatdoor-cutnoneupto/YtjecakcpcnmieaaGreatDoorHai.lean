import Derived.Test.YtjecakcpcnmieaaGreatDoorHA
import Derived.Shelf.Small.Wraps
import Derived.Shelf.Strings.BuilderK
import Derived.Shelf.Strings.BuilderRune
import Derived.Shelf.Strings.Prefix
import Derived.Shelf.Unicode.DecodeAny
import Derived.Test.YtjecakcpcnmieaaGreatDoorProg
import Derived.WalkKit
import Derived.WalkSpells
import Derived.Outline
import Derived.BigCall
import Derived.Lib.RuneBytes
import Derived.BigQuiet
import Derived.Deep.QuietTactic
import Derived.Laws.BytesArg
import Derived.Test.YtjecakcpcnmieaaGreatDoorHaa
set_option linter.unusedVariables false
set_option linter.unusedSimpArgs false
set_option maxHeartbeats 32000000
set_option maxRecDepth 100000
namespace Go.Proofs
open Go.Shelf
def Tryz.lays169_ren:Go.Shelf.Ren:=⟨fun|169=>38|n=>n,fun|70=>48|9=>9|0=>0|72=>51|37=>49|127=>155|3=>3|5=>5|n=>n,fun|n=>n⟩
theorem Tryz.lays169:Go.Proofs.Lays.n169 Tryz.prog Tryz.lays169_ren:={
 mixed:=by kernel_rfl
 f169:=Tryz.func38.trans (aC some (by kernel_rfl))
 t0:=Tryz.underlying0
 a0:=Tryz.isAgg0
 z0:=Tryz.sizeOf0
 v0:=Tryz.zeroValue0
 t3:=Tryz.underlying3
 a3:=Tryz.isAgg3
 z3:=Tryz.sizeOf3
 v3:=Tryz.zeroValue3
 t9:=Tryz.underlying9
 a9:=Tryz.isAgg9
 z9:=Tryz.sizeOf9
 v9:=Tryz.zeroValue9
 t37:=Tryz.underlying49
 a37:=Tryz.isAgg49
 z37:=Tryz.sizeOf49
 v37:=Tryz.zeroValue49
 t70:=Tryz.underlying48
 a70:=Tryz.isAgg48
 z70:=Tryz.sizeOf48
 v70:=Tryz.zeroValue48
 t72:=Tryz.underlying51
 a72:=Tryz.isAgg51
 z72:=Tryz.sizeOf51
 v72:=Tryz.zeroValue51
 t127:=Tryz.underlying155
 a127:=Tryz.isAgg155
 z127:=Tryz.sizeOf155
 v127:=Tryz.zeroValue155}
theorem Tryz.Builder_Extra_169:Builder.Extra Tryz.prog Tryz.lays169_ren:={
 sizeBuilder:=by kernel_rfl
 liesBuilder:=by kernel_rfl
 t5:=Tryz.underlying5
 a5:=Tryz.isAgg5
 z5:=Tryz.sizeOf5
 v5:=Tryz.zeroValue5
 infoByte:=by kernel_rfl
 cellsByte:=by kernel_rfl
 sizeByte:=by kernel_rfl
 neB5:=by decide}
open Go.RowKit in
theorem Tryz.Builder_String_any_k(B b:Nat)(l:List UInt8)(w:World)(h:Lib.IsBuilderF 51 5 B b (Lib.byteCells l) w)(vo:B<=w.heap.size):
 Calls Tryz.prog 38 #[.pointer (some ⟨b,0,none⟩)] w fun e w'=>e=.returned (.string ⟨l.toArray⟩)/\(Lib.IsBuilderF 51 5 B b (Lib.byteCells l) w'/\Below B w w'/\Lib.OthersKept 5 (some b) w w'):=Any.Builder_String_any_k Tryz.lays169 Tryz.Builder_Extra_169 B b l w h vo
def Tryz.lays103_ren:Go.Shelf.Ren:=⟨fun|103=>198|210=>227|206=>218|n=>n,fun|9=>9|4=>4|24=>287|3=>3|n=>n,fun|n=>n⟩
theorem Tryz.lays103:Go.Proofs.Lays.n103 Tryz.prog Tryz.lays103_ren:={
 mixed:=by kernel_rfl
 f103:=Tryz.func198.trans (aC some (by kernel_rfl))
 f206:=Tryz.func218.trans (aC some (by kernel_rfl))
 f210:=Tryz.func227.trans (aC some (by kernel_rfl))
 t3:=Tryz.underlying3
 a3:=Tryz.isAgg3
 z3:=Tryz.sizeOf3
 v3:=Tryz.zeroValue3
 t4:=Tryz.underlying4
 a4:=Tryz.isAgg4
 z4:=Tryz.sizeOf4
 v4:=Tryz.zeroValue4
 t9:=Tryz.underlying9
 a9:=Tryz.isAgg9
 z9:=Tryz.sizeOf9
 v9:=Tryz.zeroValue9
 t24:=Tryz.underlying287
 a24:=Tryz.isAgg287
 z24:=Tryz.sizeOf287
 v24:=Tryz.zeroValue287}
open Go.RowKit in
theorem Tryz.strings_CutPrefix(s p:ByteArray)(w:World):
 Calls Tryz.prog 198 #[.string s,.string p] w fun e w'=>e=.returned (.tuple #[.string ⟨(Lib.trimPrefix s.data.toList p.data.toList).toArray⟩,.bool (Lib.hasPrefix s.data.toList p.data.toList)])/\w'=w:=Any.strings_CutPrefix Tryz.lays103 s p w
def Tryz.lays197_ren:Go.Shelf.Ren:=⟨fun|197=>166|260=>200|n=>n,fun|9=>9|21=>21|3=>3|4=>4|5=>5|105=>249|119=>290|0=>0|46=>280|139=>293|138=>292|n=>n,fun|3=>3|4=>4|n=>n⟩
theorem Tryz.lays197:Go.Proofs.Lays.n197 Tryz.prog Tryz.lays197_ren:={
 mixed:=by kernel_rfl
 f197:=Tryz.func166.trans (aC some (by kernel_rfl))
 f260:=Tryz.func200.trans (aC some (by kernel_rfl))
 t0:=Tryz.underlying0
 a0:=Tryz.isAgg0
 z0:=Tryz.sizeOf0
 v0:=Tryz.zeroValue0
 t3:=Tryz.underlying3
 a3:=Tryz.isAgg3
 z3:=Tryz.sizeOf3
 v3:=Tryz.zeroValue3
 t4:=Tryz.underlying4
 a4:=Tryz.isAgg4
 z4:=Tryz.sizeOf4
 v4:=Tryz.zeroValue4
 t5:=Tryz.underlying5
 a5:=Tryz.isAgg5
 z5:=Tryz.sizeOf5
 v5:=Tryz.zeroValue5
 t9:=Tryz.underlying9
 a9:=Tryz.isAgg9
 z9:=Tryz.sizeOf9
 v9:=Tryz.zeroValue9
 t21:=Tryz.underlying21
 a21:=Tryz.isAgg21
 z21:=Tryz.sizeOf21
 v21:=Tryz.zeroValue21
 t46:=Tryz.underlying280
 a46:=Tryz.isAgg280
 z46:=Tryz.sizeOf280
 v46:=Tryz.zeroValue280
 t105:=Tryz.underlying249
 a105:=Tryz.isAgg249
 z105:=Tryz.sizeOf249
 v105:=Tryz.zeroValue249
 t119:=Tryz.underlying290
 a119:=Tryz.isAgg290
 z119:=Tryz.sizeOf290
 t138:=Tryz.underlying292
 a138:=Tryz.isAgg292
 z138:=Tryz.sizeOf292
 v138:=Tryz.zeroValue292
 t139:=Tryz.underlying293
 a139:=Tryz.isAgg293
 z139:=Tryz.sizeOf293
 v139:=Tryz.zeroValue293
 g3:=by kernel_rfl
 g4:=by kernel_rfl}
open Go.RowKit Go.Lib in
theorem Tryz.utf8_DecodeRuneInString(s:ByteArray)(w:World)(hT:Lib.Utf8Tabs 3 4 w):
 Calls Tryz.prog 166 #[.string s] w fun e w'=>e=.returned (.tuple #[.int .i32 (Lib.decodeGo s).1,.int .i64 (Lib.decodeGo s).2])/\Below w.heap.size w w':=Any.utf8_DecodeRuneInString Tryz.lays197 s w hT
def Tryz.lays242_ren:Go.Shelf.Ren:=⟨fun|242=>122|278=>164|n=>n,fun|37=>49|21=>21|51=>252|4=>4|5=>5|46=>280|72=>51|n=>n,fun|n=>n⟩
theorem Tryz.lays242:Go.Proofs.Lays.n242 Tryz.prog Tryz.lays242_ren:={
 mixed:=by kernel_rfl
 f242:=Tryz.func122.trans (aC some (by kernel_rfl))
 f278:=Tryz.func164.trans (aC some (by kernel_rfl))
 t4:=Tryz.underlying4
 a4:=Tryz.isAgg4
 z4:=Tryz.sizeOf4
 v4:=Tryz.zeroValue4
 t5:=Tryz.underlying5
 a5:=Tryz.isAgg5
 z5:=Tryz.sizeOf5
 v5:=Tryz.zeroValue5
 t21:=Tryz.underlying21
 a21:=Tryz.isAgg21
 z21:=Tryz.sizeOf21
 v21:=Tryz.zeroValue21
 t37:=Tryz.underlying49
 a37:=Tryz.isAgg49
 z37:=Tryz.sizeOf49
 v37:=Tryz.zeroValue49
 t46:=Tryz.underlying280
 a46:=Tryz.isAgg280
 z46:=Tryz.sizeOf280
 v46:=Tryz.zeroValue280
 t51:=Tryz.underlying252
 a51:=Tryz.isAgg252
 z51:=Tryz.sizeOf252
 v51:=Tryz.zeroValue252}
theorem Tryz.Builder_Extra_242:Builder.Extra Tryz.prog Tryz.lays242_ren where
 sizeBuilder:=by kernel_rfl
 liesBuilder:=by kernel_rfl
 t5:=Tryz.underlying5
 a5:=Tryz.isAgg5
 z5:=Tryz.sizeOf5
 v5:=Tryz.zeroValue5
 infoByte:=by kernel_rfl
 cellsByte:=by kernel_rfl
 sizeByte:=by kernel_rfl
 neB5:=by decide
theorem Tryz.utf8_AppendRune_own(B:Nat)(v:Value)(n:Nat)(xs:List Value)(r:Int)(Zs: -2147483648<=r)(hr1:r<=2147483647)(w:World)(hown:w.ownsRowF B 5 1 v n xs)(hlen:n+4<=140737488355328)(vo:B<=w.heap.size):
  Calls Tryz.prog 122 #[v,.int .i32 r] w fun e w'=>∃v',e=.returned v'/\w'.ownsRowF B 5 1 v' (n+(Lib.runeCells r).length) (xs++Lib.runeCells r)/\∃o,(w.alloc o).grownBy w' v.ownBlock:=
 Any.utf8_AppendRune_own Tryz.lays242 Tryz.Builder_Extra_242 B v n xs r Zs hr1 w hown hlen vo
end Go.Proofs
namespace Go.Proofs.YtjecakcpcnmieaaGreatDoor
namespace K
open Go.RowKit Tryz
theorem qc(r:Int)(w:World)(h0: -2147483648<=r)(h1:r<=2147483647):
  Z4 228 #[.int .i32 r] w (Z6 (.int .i32 (Ch.nt 16 r)) w):=by
 go_enter func228,ntmps228;go_wp2;all_goals go_ret
 all_goals refine⟨lL ?_,rfl⟩
 all_goals unfold Ch.nt
 all_goals repeat' split
 all_goals omega
theorem jr(r:Int)(w:World)(h0: -2147483648<=r)(h1:r<=2147483647):
  Z4 142 #[.int .i64 r] w (Z6 (.int .i64 (Ch.nt (-1) r)) w):=by
 go_enter func142,ntmps142;go_wp2;all_goals go_ret
 all_goals refine⟨lL ?_,rfl⟩
 all_goals unfold Ch.nt
 all_goals repeat' split
 all_goals omega
theorem pJ(r:Int)(q:Bool)(w:World):Z4 65 #[.int .i32 r,.bool q] w (Z6 (.string ⟨(Ch.iM r q).toArray⟩) w):=by
 go_enter func65,ntmps65;go_wp2;all_goals go_ret
 all_goals refine⟨?_,rfl⟩
 all_goals simp only[bA,aF,ne_eq,eB,Bool.not_eq_false']at*
 all_goals simp[Ch.iM, *]
theorem Jv:∃j,prog.info? 51=some j/\j.size=2:=Option.map_eq_some_iff.1 Tryz.Builder_Extra_242.sizeBuilder
theorem ri(b:Nat)(w:World)(c0:w.cell? ⟨b,0,none⟩=some (Z8 b)):
  Z4 64 #[Z8 b] w (Z6 (.tuple #[]) w):=by
 obtain⟨j,hj,_⟩:=Jv;go_enter func64,ntmps64;go_wp2;rw[Lib.run_neq_ptr_same w _ underlying48 hj];go_wp2
 go_end0
 exact⟨rfl,rfl⟩
theorem yf(b:Nat)(w:World)(c0:w.cell? ⟨b,0,none⟩=some (.pointer none))(Ls:w.shape? b=some (51,2))(f0:w.frozen? ⟨b,0,none⟩=false):
  Z4 64 #[Z8 b] w fun e w'=>e=.returned (.tuple #[])/\w'=w.setCell ⟨b,0,none⟩ (Z8 b):=by
 obtain⟨j,hj,hjs⟩:=Jv;go_enter func64,ntmps64;go_wp2;rw[Lib.run_to_unsafe w ⟨b,0,none⟩ underlying48 underlying195 hj (by rw[hjs];decide) Ls (Nat.zero_lt_succ 1)];simp only[Result.andThen];rw[cX];go_wp2;rw[run_callFunc_extern func99 (by kernel_rfl) (by kernel_rfl) (by kernel_rfl) (e:=Extern.AbiNoEscape.same) (by kernel_rfl)];rw[Lib.run_noEscape];simp only[Result.andThen];rw[cX];go_wp2;rw[Lib.run_from_unsafe w ⟨b,0,none⟩ underlying195 underlying48 hj Ls Tryz.Builder_Extra_242.liesBuilder];simp only[Result.andThen];rw[cX];go_wp2
 go_end0
 exact⟨rfl,rfl⟩
theorem xB(B b:Nat)(bs:List Value)(w:World)(h:Lib.IsBuilderF 51 5 B b bs w):
  Z4 64 #[Z8 b] w fun e w'=>e=.returned (.tuple #[])/\(Lib.BuilderAtF 51 5 B b (Z8 b) bs w'/\Below B w w'/\Lib.OthersKept 5 (some b) w w'):=by
 rcases h with h|h
 ·refine(yf b w h.cell0 h.shape h.frozen0).mono ?_;rintro e w' ⟨rfl,rfl⟩;exact⟨rfl,h.used _,(Below.refl B w).setCell (p:=⟨b,0,none⟩) h.1 _,(Lib.OthersKept.refl _ _ w).setCell ⟨b,0,none⟩ rfl _⟩
 ·refine(ri b w h.cell0).mono ?_;rintro e w' ⟨rfl,rfl⟩;exact⟨rfl,h,Below.refl B _,Lib.OthersKept.refl _ _ _⟩
theorem mO{b:Nat}{v:Value}{w:World}(jI:w.heap[b]?=some (.cells #[Z8 b,v] 51 (0,0))):
  w.cell? ⟨b,0,none⟩=some (Z8 b)/\w.cell? ⟨b,1,none⟩=some v/\w.frozen? ⟨b,1,none⟩=false/\b<w.heap.size:=
 ⟨by rw[Lib.cell_of_heap jI];rfl,by rw[Lib.cell_of_heap jI];rfl,Lib.frozen_of_heap jI 1,(Array.getElem?_eq_some_iff.1 jI).1⟩
theorem mP(B b:Nat)(bs:List Value)(s:ByteArray)(w:World)(h:Lib.IsBuilderF 51 5 B b bs w)(hlen:bs.length+s.size<=140737488355328)(vo:B<=w.heap.size):
  Z4 34 #[Z8 b,.string s] w fun e w'=>e=.returned (.tuple #[.int .i64 s.size,.nilIface])/\(Lib.BuilderAtF 51 5 B b (Z8 b) (bs++Lib.strCells s) w'/\Below B w w'/\Lib.OthersKept 5 (some b) w w'):=by
 obtain⟨i0,hi,hz0,hz1,hz2⟩:=bk Tryz.Builder_Extra_242.infoByte;go_enter func34,ntmps34;go_wp2_with(go_at_call 64;refine(xB B b bs _ h).mono ?_);rintro e w1 ⟨rfl,h1,hb1,lI⟩;obtain⟨hB,v,jI,hown,hne⟩:=h1;obtain⟨c0,c1,_,hlt⟩:=mO jI;go_wp2_with(at_builtin;refine Lib.wpList_append_own_stringF _ rfl _ _ 49 9 rfl B 5 i0 underlying49 underlying9 hi hz0 hz1 hz2 _ _ _ rfl hown s rfl ?c3 ?c4 ?c5 ?_)
 case c3=>unfold maxLen;omega
 case c4=>omega
 case c5=>have:=hb1.size;omega
 intro v' w2 hown' jV _;have hb2:w2.heap[b]?=some (.cells #[Z8 b,v] 51 (0,0)):=by
  rw[jV.block b hlt (fun e=>hne e.symm)];exact jI
 obtain⟨d0,d1,f1,_⟩:=mO hb2;obtain⟨ao,n',cap,rfl⟩:∃ao n' cap,v'=.slice ao n' cap:=by rcases hown'.2 with⟨hv,_⟩|⟨g,cap,cur,fz,hv,_⟩<;>exact⟨_,_,_,hv⟩
 go_wp2
 go_ret2
 refine⟨rfl,?_,?_,(lI.grown jV (Lib.ownsRowF_kind hown)).setCell ⟨b,1,none⟩ rfl _⟩
 ·exact Lib.BuilderAtF.put (T:=51) (e:=5) hB hb2 (bs':=bs++Lib.strCells s) (by simpa [Lib.strCells_length]using hown') (by decide)
 ·exact(hb1.grown jV (by have:=hb1.size;omega) (fun k hk=>(hown.lt k hk).1)).setCell (p:=⟨b,1,none⟩) hB _
theorem xC(B b:Nat)(bs:List Value)(r:Int)(Zs: -2147483648<=r)(hr1:r<=2147483647)(w:World)(h:Lib.IsBuilderF 51 5 B b bs w)(hlen:bs.length+4<=140737488355328)(vo:B<=w.heap.size):
  Z4 163 #[Z8 b,.int .i32 r] w fun e w'=>e=.returned (.tuple #[.int .i64 (Lib.runeCells r).length,.nilIface])/\(Lib.BuilderAtF 51 5 B b (Z8 b) (bs++Lib.runeCells r) w'/\Below B w w'/\Lib.OthersKept 5 (some b) w w'):=by
 have hk4:=Lib.runeCells_le r;go_enter func163,ntmps163;go_wp2_with(go_at_call 64;refine(xB B b bs _ h).mono ?_);rintro e w1 ⟨rfl,h1,hb1,lI⟩;obtain⟨hB,v,jI,hown,hne⟩:=h1;obtain⟨ao,cap,rfl⟩:∃ao cap,v=.slice ao bs.length cap:=by
  rcases hown.2 with⟨hv,h0⟩|⟨g,cap,cur,fz,hv,_⟩
  ·exact⟨none,0,by rw[hv,h0]⟩
  ·exact⟨_,_,hv⟩
 obtain⟨c0,c1,_,hlt⟩:=mO jI;go_wp2_with(go_at_call 122;refine(utf8_AppendRune_own B _ bs.length bs r Zs hr1 _ hown hlen (by have:=hb1.size;omega)).mono ?_);rintro e w2 ⟨v',rfl,hown',o,jV⟩;have hb2:w2.heap[b]?=some (.cells #[Z8 b,.slice ao bs.length cap] 51 (0,0)):=by
  rw[jV.block b (by simp;omega) (fun e=>hne e.symm),Lib.alloc_old w1 _ b hlt];exact jI
 obtain⟨d0,d1,f1,_⟩:=mO hb2;obtain⟨g,cap',rfl⟩:∃g cap',v'=Z9 g (bs.length+(Lib.runeCells r).length) cap':=by
  rcases hown'.2 with⟨_,h0⟩|⟨g,cap',cur,fz,hv,_⟩
  ·omega
  ·exact⟨g,cap',hv⟩
 go_wp2
 go_ret2
 refine⟨?_,?_,?_,((lI.alloc _).grown jV (Lib.ownsRowF_kind (hown.alloc _))).setCell ⟨b,1,none⟩ rfl _⟩
 ·have e:((bs.length:Int)+((Lib.runeCells r).length:Int)-(bs.length:Int))=((Lib.runeCells r).length:Int):=by omega
  simp[e]
 ·exact Lib.BuilderAtF.put (T:=51) (e:=5) hB hb2 (bs':=bs++Lib.runeCells r) (by simpa using hown') (by decide)
 ·exact((hb1.alloc (by have:=hb1.size;omega) _).grown jV (by have:=hb1.size;simp;omega) (fun k hk=>(hown.lt k hk).1)).setCell (p:=⟨b,1,none⟩) hB _
end K
end Go.Proofs.YtjecakcpcnmieaaGreatDoor
namespace Go.Proofs.YtjecakcpcnmieaaGreatDoor
namespace K.Ch
open Go.Proofs.YtjecakcpcnmieaaGreatDoor.Ch
open Go
def eX(u:ByteArray)(b:Int):Nat->Nat->Int->Int×Int
 |0,_,_=>(0,0)
 |f+1,pos,n=>
  if bz u pos=59 then(if may n=true then(n,(pos:Int)+1)else(0,0))
  else if b<=nt 16 (bz u pos)then(0,0)
  else eX u b f (pos+1) (if n<=1114111 then n*b+nt 16 (bz u pos)else n)
theorem FK{r:Int}(h:128<=r)(d:Int):nt d r=d:=by
 unfold nt;rw[if_neg (by omega),if_neg (by omega),if_neg (by omega)]
theorem Zt(r:Int):0<=nt 16 r/\nt 16 r<=16:=by
 unfold nt
 repeat' split
 all_goals omega
theorem LV(r:Int)(h:r<0):nt 16 r=16:=by
 unfold nt;rw[if_neg (by omega),if_neg (by omega),if_neg (by omega)]
theorem kp(u:ByteArray)(pos:Nat)(h:pos<u.size):(0<=bz u pos/\bz u pos<128/\Utf8.decode u pos=((bz u pos).toNat,1))\/(128<=bz u pos/\128<=(Utf8.decode u pos).1):=by
 have h0:0<=bz u pos:=by unfold bz;rw[if_pos h];omega
 by_cases hb:bz u pos<128
 ·exact Or.inl ⟨h0,hb,g_ h0 hb⟩
 ·refine Or.inr ⟨by omega,?_⟩;have hg:((u.get! pos).toNat:Int)=bz u pos:=(ib h0).2;have e:u.get! pos=u[pos]:=by simp[ByteArray.get!,h];rfl
  exact(decode_high u pos h (by rw[<-e];omega)).1
theorem V2{u:ByteArray}{b:Int}{f pos:Nat}{n:Int}{X:Int×Int}(hb:b<=16)(hp:¬pos<u.size)(h:eX u b (f+1) pos n=X):X=(0,0):=by
 have hz:bz u pos= -1:=by unfold bz;rw[if_neg hp]
 subst h;unfold eX;rw[hz,if_neg (by omega),LV _ (by omega),if_pos hb]
theorem vt{u:ByteArray}{b:Int}{f pos:Nat}{n:Int}{X:Int×Int}(hs:bz u pos=59)(h:eX u b (f+1) pos n=X):X=if may n=true then(n,(pos:Int)+1)else(0,0):=by
 subst h;unfold eX;rw[if_pos hs]
theorem zv{u:ByteArray}{b:Int}{f pos:Nat}{n:Int}{X:Int×Int}(hs:¬bz u pos=59)(hd:b<=nt 16 (bz u pos))(h:eX u b (f+1) pos n=X):X=(0,0):=by
 subst h;unfold eX;rw[if_neg hs,if_pos hd]
theorem Jw{u:ByteArray}{b:Int}{f pos:Nat}{n:Int}{X:Int×Int}(hs:¬bz u pos=59)(hd:¬b<=nt 16 (bz u pos))(h:eX u b (f+1) pos n=X):
  eX u b f (pos+1) (if n<=1114111 then n*b+nt 16 (bz u pos)else n)=X:=by
 subst h;rw[eX.eq_2,if_neg hs,if_neg hd]
def num(u:ByteArray)(b:Int):Int×Int:=eX u b (u.size+1) 0 0
theorem rj(u:ByteArray)(b:Int):∀f pos n,(eX u b f pos n=(0,0))\/(may (eX u b f pos n).1=true/\(pos:Int)+1<=(eX u b f pos n).2/\(eX u b f pos n).2<=u.size):=by
 intro f;induction f with
 |zero=>intro pos n;exact Or.inl rfl
 |succ f ih=>
  intro pos n;unfold eX;split
  ·rename_i h;have hp:pos<u.size:=(ib (s:=u) (i:=pos) (by omega)).1;split
   ·exact Or.inr ⟨by assumption,by simp,by simp;omega⟩
   ·exact Or.inl rfl
  ·split
   ·exact Or.inl rfl
   ·rcases ih (pos+1) (if n<=1114111 then n*b+nt 16 (bz u pos)else n)with h|⟨h1,h2,h3⟩
    ·exact Or.inl h
    ·exact Or.inr ⟨h1,by omega,h3⟩
end K.Ch
end Go.Proofs.YtjecakcpcnmieaaGreatDoor
namespace Go.Proofs.YtjecakcpcnmieaaGreatDoor
namespace K
open Go.RowKit Tryz
def A_(u:ByteArray)(b ahead:Int):Int×Int:=if(Ch.num u b).2=0 then(0,0)else((Ch.num u b).1,ahead+(Ch.num u b).2)
theorem sw{u:ByteArray}{b ahead:Int}(h:Ch.num u b=(0,0)):A_ u b ahead=(0,0):=by simp[A_,h]
theorem Nq{u:ByteArray}{b ahead n:Int}{pos:Nat}(h:Ch.num u b=(n,(pos:Int)+1)):A_ u b ahead=(n,ahead+pos+1):=by
 have:¬((pos:Int)+1=0):=by omega
 simp[A_,h,this,Int.add_assoc]
theorem Nr{u:ByteArray}{b n:Int}{f pos:Nat}{X:Int×Int}{c:Nat}(HC:Hid (Ch.eX u b (f+1) pos n=X))(HB:Hid (Ch.bz u pos=c))(h:¬c=59):
  (b<=Ch.nt 16 c/\Hid (X=(0,0)))\/(Ch.nt 16 c<b/\Hid (Ch.eX u b f (pos+1) (if n<=1114111 then n*b+Ch.nt 16 c else n)=X)):=by
 have hb:=HB.out;by_cases hd:b<=Ch.nt 16 c
 ·exact Or.inl ⟨hd,Ch.zv (by omega) (by rw[hb];exact hd) HC.out⟩
 ·refine Or.inr ⟨by omega,?_⟩;have:=Ch.Jw (by omega) (by rw[hb];exact hd) HC.out;rw[hb]at this;exact this
set_option maxRecDepth 1000000 in
theorem vv(u:ByteArray)(b ahead:Int)(w:World)(hu:u.size<=1125899906842624)(hb:b=10\/b=16)(ha0:0<=ahead)(ha1:ahead<=8):
  Z4 199 #[.string u,.int .i32 b,.int .i64 ahead] w (Z7 (.tuple #[.int .i32 (A_ u b ahead).1,.int .i64 (A_ u b ahead).2]) w):=by
 rcases hb with rfl|rfl;all_goals
  go_enter func199,ntmps199;go_wp2;go_loopw [8] (fun n w'=>∃(pos fuel:Nat) (z:Int),w'=w.iter u pos/\n=.int .i32 z/\0<=z/\z<=17825791/\Hid (Ch.eX u _ fuel pos z=Ch.num u _)/\u.size<pos+fuel/\pos<=u.size) (fun _ w'=>u.size-w'.iterPos w.heap.size)
  case atStart=>exact⟨0,u.size+1,0,rfl,rfl,by omega,by omega,rfl,by omega,by omega⟩
  case round=>
   obtain⟨pos,fuel,z,rfl,rfl,hz0,hz1,HC,hf,hl⟩:=hrel;obtain⟨f,rfl⟩:∃f,fuel=f+1:=⟨fuel-1,by omega⟩
   by_cases hp:pos<u.size
   ·have tF:=fun ty=>run_next_any (P:=prog) w u pos ty hp;rcases Ch.kp u pos hp with⟨h0,h1,hd⟩|⟨h0,h1⟩
    ·obtain⟨c,hc⟩:∃c:Nat,Ch.bz u pos=c:=⟨(Ch.bz u pos).toNat,by omega⟩
     rw[hc]at hd h0 h1;rw[bm]at hd;rw[hd]at tF;have tM:∀ty,(Instr.next (.pointer (some ⟨w.heap.size,0,none⟩)) true ty).run prog (w.iter u pos)=.ok (.tuple #[.bool true,.int .i64 pos,.int .i32 c]) (w.iter u (pos+1)):=tF;clear tF hd;have HB:=a_ hc;clear hc;by_cases oy:c=59
     ·have hq:((c:Int)==59)=true:=by simp;omega
      have HN:=a_ (Ch.vt (by rw[HB.out];omega) HC.out);cases hm:Ch.may z;all_goals
       go_wp2_with(go_at_call 185;refine(tL _ _).mono ?_;rintro e w' ⟨rfl,rfl⟩)
       go_ret2
       refine⟨?_,kj w u _⟩;have hn:=HN.out;rw[hm]at hn;simp only[if_true,aA,bf]at hn;first
        |(rw[sw hn];rfl)
        |(rw[Nq hn];rfl)
     ·have hq:((c:Int)==59)=false:=by simp;omega
      have hdb:=Ch.Zt c;rcases Nr HC HB oy with⟨yy,HN⟩|⟨yy,HN⟩
      ·go_wp2_with(go_at_call 228;refine(qc _ _ (by omega) (by omega)).mono ?_;rintro e w' ⟨rfl,rfl⟩)
       go_ret2
       refine⟨?_,kj w u _⟩;rw[sw HN.out];rfl
      ·replace HN:=HN.out;by_cases hle:z<=1114111
       ·rw[if_pos hle]at HN;have HN':=a_ HN;clear HN;go_wp2_with(go_at_call 228;refine(qc _ _ (by omega) (by omega)).mono ?_;rintro e w' ⟨rfl,rfl⟩)
        go_roundw
        case rel=>exact⟨pos+1,f,_,rfl,rfl,by omega,by omega,HN',by omega,by omega⟩
        case measure=>simp;omega
       ·rw[if_neg hle]at HN;have HN':=a_ HN;clear HN;go_wp2_with(go_at_call 228;refine(qc _ _ (by omega) (by omega)).mono ?_;rintro e w' ⟨rfl,rfl⟩)
        go_roundw
        case rel=>exact⟨pos+1,f,_,rfl,rfl,by omega,by omega,HN',by omega,by omega⟩
        case measure=>simp;omega
    ·have hd1:=decode_le u pos;have hwd:=Ch.fk u pos hp;have tM:∀ty,(Instr.next (.pointer (some ⟨w.heap.size,0,none⟩)) true ty).run prog (w.iter u pos)=_:=tF;have hq:(((Utf8.decode u pos).1:Int)==59)=false:=by simp;omega
     have hdg:Ch.nt 16 ((Utf8.decode u pos).1:Int)=16:=Ch.FK (by omega) 16;have HN:=a_ (Ch.zv (by omega) (by rw[Ch.FK h0 16];decide) HC.out);go_wp2_with(go_at_call 228;refine(qc _ _ (by omega) (by omega)).mono ?_;rintro e w' ⟨rfl,rfl⟩;rw[hdg])
     go_ret2
     refine⟨?_,kj w u _⟩;rw[sw HN.out];rfl
   ·have tM:∀ty,(Instr.next (.pointer (some ⟨w.heap.size,0,none⟩)) true ty).run prog (w.iter u pos)=_:=fun ty=>run_next_end w u pos ty hp;go_wp2
    go_ret2
    refine⟨?_,kj w u _⟩;rw[sw (Ch.V2 (by decide) hp HC.out)];rfl
end K
end Go.Proofs.YtjecakcpcnmieaaGreatDoor
namespace Go.Proofs.YtjecakcpcnmieaaGreatDoor
namespace K.Ch
open Go.Proofs.YtjecakcpcnmieaaGreatDoor.Ch
open Go
def tail(s:ByteArray)(k:Nat):ByteArray:=⟨(s.data.toList.drop k).toArray⟩
theorem jy(s:ByteArray)(k:Nat):(tail s k).size=s.size-k:=by
 show (tail s k).data.size=s.data.size-k;simp[tail]
theorem vw(s:ByteArray)(k j:Nat):bz (tail s k) j=bz s (k+j):=by
 unfold bz;rw[jy];by_cases h:k+j<s.size
 ·have h1:j<s.size-k:=by omega
  have h2:j<(tail s k).size:=by rw[jy];exact h1
  rw[if_pos h1,if_pos h];have e1:(tail s k).get! j=(tail s k).data.toList[j]'(by simpa using h2):=by
   have:(tail s k).get! j=(tail s k)[j]:=by simp[ByteArray.get!,h2];rfl
   rw[this];rfl
  have e2:s.get! (k+j)=s.data.toList[k+j]'(by simpa using h):=by
   have:s.get! (k+j)=s[k+j]:=by simp[ByteArray.get!,h];rfl
   rw[this];rfl
  rw[e1,e2];simp[tail]
 ·rw[if_neg (by omega),if_neg h]
theorem kJ(s:ByteArray)(k:Nat):s.extract k s.size=tail s k:=by
 apply cM;apply Array.toList_inj.1;rw[C1];simp[tail]
theorem Ns(s:ByteArray)(k j:Nat):tail (tail s k) j=tail s (k+j):=by
 apply cM;apply Array.toList_inj.1;simp[tail]
theorem Rm(s:ByteArray)(k:Nat)(l:List UInt8):∀i,has (tail s k) i l=has s (k+i) l:=by
 induction l with
 |nil=>intro i;rfl
 |cons c l ih=>intro i;simp only[has,vw,ih,cL]
theorem Ro(s:ByteArray)(b:Int)(k:Nat):∀f pos n,eX (tail s k) b f pos n=if(eX s b f (k+pos) n).2=0 then(0,0)else((eX s b f (k+pos) n).1,(eX s b f (k+pos) n).2-k):=by
 intro f;induction f with
 |zero=>intro pos n;rfl
 |succ f ih=>
  intro pos n;rw[eX.eq_2,eX.eq_2,vw];split
  ·split
   ·have:¬(((k+pos:Nat):Int)+1=0):=by omega
    simp only[this,bf];congr 1;omega
   ·rfl
  ·split
   ·rfl
   ·rw[ih];rfl
def gj(s:ByteArray)(p:Nat)(b:Int):Int×Int:=if(eX s b (s.size-p+1) p 0).2=0 then(0,0)else((eX s b (s.size-p+1) p 0).1,(eX s b (s.size-p+1) p 0).2-p)
theorem Jy(s:ByteArray)(b:Int):gj s 0 b=num s b:=by
 unfold gj num;simp only[Nat.sub_zero,Int.ofNat_zero,Int.sub_zero];split
 ·rcases rj s b (s.size+1) 0 0 with h|⟨_,h,_⟩
  ·rw[h]
  ·omega
 ·rfl
theorem zw(s:ByteArray)(k p:Nat)(b:Int):gj (tail s k) p b=gj s (k+p) b:=by
 unfold gj;rw[jy,Ro,show s.size-k-p+1=s.size-(k+p)+1 by omega];rcases rj s b (s.size-(k+p)+1) (k+p) 0 with h|⟨_,h,_⟩
 ·rw[h];rfl
 ·have h1:¬(eX s b (s.size-(k+p)+1) (k+p) 0).2=0:=by omega
  simp only[h1,bf];have h2:¬(eX s b (s.size-(k+p)+1) (k+p) 0).2-(k:Int)=0:=by omega
  simp only[h2,bf];congr 1;omega
def eR(s:ByteArray)(i:Nat):Int×Int:=
 if has s i [38,108,116,59]=true then(60,4)else if has s i [38,103,116,59]=true then(62,4)else if has s i [38,97,109,112,59]=true then(38,5)
 else if has s i [38,113,117,111,116,59]=true then(34,6)else if has s i [38,97,112,111,115,59]=true then(39,6)
 else if has s i [38,35,120]=true then(if(gj s (i+3) 16).2=0 then(0,0)else((gj s (i+3) 16).1,3+(gj s (i+3) 16).2))
 else if has s i [38,35]=true then(if(gj s (i+2) 10).2=0 then(0,0)else((gj s (i+2) 10).1,2+(gj s (i+2) 10).2))
 else(0,0)
theorem ur(s:ByteArray)(k:Nat):eR (tail s k) 0=eR s k:=by simp only[eR,Rm,zw,bH,ay]
end K.Ch
end Go.Proofs.YtjecakcpcnmieaaGreatDoor
namespace Go.Proofs.YtjecakcpcnmieaaGreatDoor
namespace K
open Go.RowKit Tryz
def tab:Array Value:=#[.string ⟨#[38,108,116,59]⟩,.int .i32 60,.string ⟨#[38,103,116,59]⟩,.int .i32 62,.string ⟨#[38,97,109,112,59]⟩,.int .i32 38,.string ⟨#[38,113,117,111,116,59]⟩,.int .i32 34,.string ⟨#[38,97,112,111,115,59]⟩,.int .i32 39]
def EW(w:World):Prop:=∃t fr,w.heap[2]?=some (.cells tab t fr)
def nm:Nat->List UInt8
 |0=>[38,108,116,59]
 |1=>[38,103,116,59]
 |2=>[38,97,109,112,59]
 |3=>[38,113,117,111,116,59]
 |_=>[38,97,112,111,115,59]
theorem acp(w:World):(Instr.index 286 (.agg tab) (.int .i64 0)).run prog w=.ok (.agg #[.string ⟨#[38,108,116,59]⟩,.int .i32 60]) w:=by kernel_rfl
theorem acr(w:World):(Instr.index 286 (.agg tab) (.int .i64 1)).run prog w=.ok (.agg #[.string ⟨#[38,103,116,59]⟩,.int .i32 62]) w:=by kernel_rfl
theorem acs(w:World):(Instr.index 286 (.agg tab) (.int .i64 2)).run prog w=.ok (.agg #[.string ⟨#[38,97,109,112,59]⟩,.int .i32 38]) w:=by kernel_rfl
theorem acu(w:World):(Instr.index 286 (.agg tab) (.int .i64 3)).run prog w=.ok (.agg #[.string ⟨#[38,113,117,111,116,59]⟩,.int .i32 34]) w:=by kernel_rfl
theorem acv(w:World):(Instr.index 286 (.agg tab) (.int .i64 4)).run prog w=.ok (.agg #[.string ⟨#[38,97,112,111,115,59]⟩,.int .i32 39]) w:=by kernel_rfl
theorem jz(u:ByteArray)(l:List UInt8):Lib.hasPrefix u.data.toList l=Ch.has u 0 l:=by rw[Lib.hasPrefix,<-Ch.p7 u l 0];rfl
theorem mY{B:Nat}{a w:World}(h:Below B a w)(n:Nat):Below B a (w.drewN n):=h.trans ⟨rfl,rfl,rfl,ah _,fun _ _=>rfl⟩
theorem vx{u:ByteArray}{m:Nat}(h:Hid (∀j,j<m->Ch.has u 0 (nm j)=false))(hb:Ch.has u 0 (nm m)=false):∀j,j<m+1->Ch.has u 0 (nm j)=false:=by
 intro j hj;by_cases e:j=m
 ·rw[e];exact hb
 ·exact h.out j (by omega)
theorem tW(u:ByteArray)(a:Array UInt8)(w:World)(b:Bool)(h:Ch.has u 0 a.toList=b):
  Z4 198 #[.string u,.string ⟨a⟩] w (Z6 (.tuple #[.string (if b=true then Ch.tail u a.toList.length else u),.bool b]) w):=by
 refine(strings_CutPrefix u ⟨a⟩ w).mono ?_;rintro e w' ⟨rfl,rfl⟩;have hp:=jz u a.toList;rw[h]at hp;refine⟨?_,rfl⟩;cases b
 ·simp[Lib.trimPrefix,hp]
 ·simp[Lib.trimPrefix,hp,Ch.tail]
theorem LW(u:ByteArray)(a:Array UInt8)(w:World)(h:Ch.has u 0 a.toList=true):
  Z4 198 #[.string u,.string ⟨a⟩] w (Z6 (.tuple #[.string (Ch.tail u a.toList.length),.bool true]) w):=
 tW u a w true h
theorem Jz(u:ByteArray)(a:Array UInt8)(w:World)(h:Ch.has u 0 a.toList=false):
  Z4 198 #[.string u,.string ⟨a⟩] w (Z6 (.tuple #[.string u,.bool false]) w):=
 tW u a w false h
theorem LX(u:ByteArray)(k:Nat)(b ahead:Int):A_ (Ch.tail u k) b ahead=if(Ch.gj u k b).2=0 then(0,0)else((Ch.gj u k b).1,ahead+(Ch.gj u k b).2):=by
 unfold A_;rw[<-Ch.Jy,Ch.zw,bH]
theorem V3{u:ByteArray}(h:∀j,j<5->Ch.has u 0 (nm j)=false)(hb:Ch.has u 0 [38,35,120]=true):Ch.eR u 0=A_ (Ch.tail u 3) 16 3:=by
 have h0:=h 0 (by omega);have h1:=h 1 (by omega);have h2:=h 2 (by omega);have h3:=h 3 (by omega);have h4:=h 4 (by omega);simp only[nm]at h0 h1 h2 h3 h4;rw[LX];simp[Ch.eR,h0,h1,h2,h3,h4,hb]
theorem V4{u:ByteArray}(h:∀j,j<5->Ch.has u 0 (nm j)=false)(hb:Ch.has u 0 [38,35,120]=false)(hc:Ch.has u 0 [38,35]=true):Ch.eR u 0=A_ (Ch.tail u 2) 10 2:=by
 have h0:=h 0 (by omega);have h1:=h 1 (by omega);have h2:=h 2 (by omega);have h3:=h 3 (by omega);have h4:=h 4 (by omega);simp only[nm]at h0 h1 h2 h3 h4;rw[LX];simp[Ch.eR,h0,h1,h2,h3,h4,hb,hc]
theorem Rp{u:ByteArray}(h:∀j,j<5->Ch.has u 0 (nm j)=false)(hb:Ch.has u 0 [38,35,120]=false)(hc:Ch.has u 0 [38,35]=false):Ch.eR u 0=(0,0):=by
 have h0:=h 0 (by omega);have h1:=h 1 (by omega);have h2:=h 2 (by omega);have h3:=h 3 (by omega);have h4:=h 4 (by omega);simp only[nm]at h0 h1 h2 h3 h4;simp[Ch.eR,h0,h1,h2,h3,h4,hb,hc]
def Nt:Nat->Int×Int
 |0=>(60,4)
 |1=>(62,4)
 |2=>(38,5)
 |3=>(34,6)
 |_=>(39,6)
theorem pK{u:ByteArray}{m:Nat}(hm:m<5)(h:∀j,j<m->Ch.has u 0 (nm j)=false)(hb:Ch.has u 0 (nm m)=true):Ch.eR u 0=Nt m:=by
 have hcs:m=0\/m=1\/m=2\/m=3\/m=4:=by omega
 rcases hcs with rfl|rfl|rfl|rfl|rfl
 ·simp only[nm]at hb;simp[Ch.eR,hb,Nt]
 ·have h0:=h 0 (by omega);simp only[nm]at hb h0;simp[Ch.eR,hb,Nt,h0]
 ·have h0:=h 0 (by omega);have h1:=h 1 (by omega);simp only[nm]at hb h0 h1;simp[Ch.eR,hb,Nt,h0,h1]
 ·have h0:=h 0 (by omega);have h1:=h 1 (by omega);have h2:=h 2 (by omega);simp only[nm]at hb h0 h1 h2;simp[Ch.eR,hb,Nt,h0,h1,h2]
 ·have h0:=h 0 (by omega);have h1:=h 1 (by omega);have h2:=h 2 (by omega);have h3:=h 3 (by omega);simp only[nm]at hb h0 h1 h2 h3;simp[Ch.eR,hb,Nt,h0,h1,h2,h3]
set_option maxRecDepth 1000000 in
theorem Ba(u:ByteArray)(w:World)(hu:u.size<=1125899906842624)(hT:EW w):
  Z4 162 #[.string u] w (Z7 (.tuple #[.int .i32 (Ch.eR u 0).1,.int .i64 (Ch.eR u 0).2]) w):=by
 obtain⟨tt,fr,hg⟩:=hT;go_enter func162,ntmps162;go_wp2_with(refine wpList_load_row rfl 286 _ rfl 2 rfl tt _ fr _ hg underlying286 rfl (by kernel_rfl) ?_);go_loopw [11] (fun k wr=>∃m:Nat,m<=5/\k=.int .i64 m/\Z5 w wr/\Hid (∀j,j<m->Ch.has u 0 (nm j)=false)) (fun k _=>5-(intOf k).toNat)
 case atStart=>exact⟨0,by omega,rfl,Below.refl _ _,fun j h=>by omega⟩
 case round=>
  obtain⟨m,hm,rfl,lJ,Nu⟩:=hrel;have hcs:m=0\/m=1\/m=2\/m=3\/m=4\/m=5:=by omega
  rcases hcs with rfl|rfl|rfl|rfl|rfl|rfl
  rotate_right
  ·cases hb:Ch.has u 0 [38,35,120]
   ·cases hc:Ch.has u 0 [38,35]
    ·have HR:=a_ (Rp Nu.out hb hc);go_wp2_with(first|(go_at_call_of 198 (Value.string {data:=#[38,35,120]});refine(Jz u #[38,35,120] _ hb).mono ?_;rintro e w' ⟨rfl,rfl⟩)|(go_at_call 198;refine(Jz u #[38,35] _ hc).mono ?_;rintro e w' ⟨rfl,rfl⟩))
     go_ret2
     refine⟨?_,lJ⟩;rw[HR.out];rfl
    ·have HR:=a_ (V4 Nu.out hb hc);have hts:(Ch.tail u 2).size<=1125899906842624:=by rw[Ch.jy];omega
     go_wp2_with(first|(go_at_call_of 198 (Value.string {data:=#[38,35,120]});refine(Jz u #[38,35,120] _ hb).mono ?_;rintro e w' ⟨rfl,rfl⟩)|(go_at_call 198;refine(LW u #[38,35] _ hc).mono ?_;rintro e w' ⟨rfl,rfl⟩)|(go_at_call 199;refine(vv (Ch.tail u 2) 10 2 _ hts (Or.inl rfl) (by decide) (by decide)).mono ?_;rintro e w1 ⟨rfl,hb1⟩))
     go_ret2
     refine⟨?_,lJ.trans (hb1.mono lJ.size)⟩;rw[HR.out];rfl
   ·have HR:=a_ (V3 Nu.out hb);have hts:(Ch.tail u 3).size<=1125899906842624:=by rw[Ch.jy];omega
    go_wp2_with(first|(go_at_call_of 198 (Value.string {data:=#[38,35,120]});refine(LW u #[38,35,120] _ hb).mono ?_;rintro e w' ⟨rfl,rfl⟩)|(go_at_call 199;refine(vv (Ch.tail u 3) 16 3 _ hts (Or.inr rfl) (by decide) (by decide)).mono ?_;rintro e w1 ⟨rfl,hb1⟩))
    go_ret2
    refine⟨?_,lJ.trans (hb1.mono lJ.size)⟩;rw[HR.out];rfl
  ·have hi:=acp;have LY:=jz u [38,108,116,59];cases hb:Ch.has u 0 [38,108,116,59]
   ·rw[hb]at LY;go_wp2_with(go_at_call 184;refine(strings_HasPrefix _ _ _).mono ?_;rintro e w' ⟨rfl,rfl⟩);exact⟨⟨1,by omega,rfl,lJ.alloc lJ.size _,vx Nu hb⟩,by decide⟩
   ·rw[hb]at LY;have HR:=a_ (pK (m:=0) (by omega) Nu.out hb);go_wp2_with(go_at_call 184;refine(strings_HasPrefix _ _ _).mono ?_;rintro e w' ⟨rfl,rfl⟩);go_quiet(fail);go_wp2
    go_ret2
    refine⟨?_,mY (lJ.alloc lJ.size _) _⟩;rw[HR.out];rfl
  ·have hi:=acr;have LY:=jz u [38,103,116,59];cases hb:Ch.has u 0 [38,103,116,59]
   ·rw[hb]at LY;go_wp2_with(go_at_call 184;refine(strings_HasPrefix _ _ _).mono ?_;rintro e w' ⟨rfl,rfl⟩);exact⟨⟨2,by omega,rfl,lJ.alloc lJ.size _,vx Nu hb⟩,by decide⟩
   ·rw[hb]at LY;have HR:=a_ (pK (m:=1) (by omega) Nu.out hb);go_wp2_with(go_at_call 184;refine(strings_HasPrefix _ _ _).mono ?_;rintro e w' ⟨rfl,rfl⟩);go_quiet(fail);go_wp2
    go_ret2
    refine⟨?_,mY (lJ.alloc lJ.size _) _⟩;rw[HR.out];rfl
  ·have hi:=acs;have LY:=jz u [38,97,109,112,59];cases hb:Ch.has u 0 [38,97,109,112,59]
   ·rw[hb]at LY;go_wp2_with(go_at_call 184;refine(strings_HasPrefix _ _ _).mono ?_;rintro e w' ⟨rfl,rfl⟩);exact⟨⟨3,by omega,rfl,lJ.alloc lJ.size _,vx Nu hb⟩,by decide⟩
   ·rw[hb]at LY;have HR:=a_ (pK (m:=2) (by omega) Nu.out hb);go_wp2_with(go_at_call 184;refine(strings_HasPrefix _ _ _).mono ?_;rintro e w' ⟨rfl,rfl⟩);go_quiet(fail);go_wp2
    go_ret2
    refine⟨?_,mY (lJ.alloc lJ.size _) _⟩;rw[HR.out];rfl
  ·have hi:=acu;have LY:=jz u [38,113,117,111,116,59];cases hb:Ch.has u 0 [38,113,117,111,116,59]
   ·rw[hb]at LY;go_wp2_with(go_at_call 184;refine(strings_HasPrefix _ _ _).mono ?_;rintro e w' ⟨rfl,rfl⟩);exact⟨⟨4,by omega,rfl,lJ.alloc lJ.size _,vx Nu hb⟩,by decide⟩
   ·rw[hb]at LY;have HR:=a_ (pK (m:=3) (by omega) Nu.out hb);go_wp2_with(go_at_call 184;refine(strings_HasPrefix _ _ _).mono ?_;rintro e w' ⟨rfl,rfl⟩);go_quiet(fail);go_wp2
    go_ret2
    refine⟨?_,mY (lJ.alloc lJ.size _) _⟩;rw[HR.out];rfl
  ·have hi:=acv;have LY:=jz u [38,97,112,111,115,59];cases hb:Ch.has u 0 [38,97,112,111,115,59]
   ·rw[hb]at LY;go_wp2_with(go_at_call 184;refine(strings_HasPrefix _ _ _).mono ?_;rintro e w' ⟨rfl,rfl⟩);exact⟨⟨5,by omega,rfl,lJ.alloc lJ.size _,vx Nu hb⟩,by decide⟩
   ·rw[hb]at LY;have HR:=a_ (pK (m:=4) (by omega) Nu.out hb);go_wp2_with(go_at_call 184;refine(strings_HasPrefix _ _ _).mono ?_;rintro e w' ⟨rfl,rfl⟩);go_quiet(fail);go_wp2
    go_ret2
    refine⟨?_,mY (lJ.alloc lJ.size _) _⟩;rw[HR.out];rfl
end K
end Go.Proofs.YtjecakcpcnmieaaGreatDoor
namespace Go.Proofs.YtjecakcpcnmieaaGreatDoor
namespace K.Ch
open Go.Proofs.YtjecakcpcnmieaaGreatDoor.Ch
open Go
theorem oz(s:ByteArray)(l:List UInt8):∀i,has s i l=true->∀k (h:k<l.length),bz s (i+k)=((l[k]).toNat:Int):=by
 induction l with
 |nil=>intro i _ k h;simp at h
 |cons c l ih=>
  intro i hi k h;simp only[has,aY,bA]at hi;cases k with
  |zero=>simpa using hi.1
  |succ k=>
   have:=ih (i+1) hi.2 k (by simpa using h);rw[show i+1+k=i+(k+1) by omega]at this;simpa using this
theorem BN{s:ByteArray}{i:Nat}{l:List UInt8}(h:has s i l=true)(hl:∀c∈l,c.toNat<128):∀j,i<=j->j<i+l.length->0<=bz s j/\bz s j<128:=by
 intro j h1 h2;obtain⟨k,rfl⟩:∃k,j=i+k:=⟨j-i,by omega⟩
 have hk:k<l.length:=by omega
 rw[oz s l i h k hk];have:=hl l[k] (bU hk);omega
theorem rk{s:ByteArray}{i:Nat}{l:List UInt8}(h:has s i l=true)(h0:0<l.length):i+l.length<=s.size:=by
 have:=oz s l i h (l.length-1) (by omega);have h2:=(ib (s:=s) (i:=i+(l.length-1)) (by omega)).1;omega
theorem wO{b r:Int}(hb:b<=16)(h:¬b<=nt 16 r):0<=r/\r<128:=by
 unfold nt at h;split at h
 ·omega
 ·split at h
  ·omega
  ·split at h
   ·omega
   ·omega
theorem vy(u:ByteArray)(b:Int)(hb:b<=16):∀f pos n,(eX u b f pos n).2≠0->
  may (eX u b f pos n).1=true/\(pos:Int)+1<=(eX u b f pos n).2/\(may n=false->(pos:Int)+2<=(eX u b f pos n).2)/\(eX u b f pos n).2<=u.size/\∀j:Nat,pos<=j->(j:Int)<(eX u b f pos n).2->0<=bz u j/\bz u j<128:=by
 intro f;induction f with
 |zero=>intro pos n h;exact absurd rfl h
 |succ f ih=>
  intro pos n;rw[eX.eq_2];split
  ·rename_i oy;have hp:pos<u.size:=(ib (s:=u) (i:=pos) (by omega)).1;split
   ·rename_i hm;intro _;refine⟨hm,by simp,fun h=>absurd (hm.symm.trans h) (by decide),(by simp;omega),?_⟩;intro j h1 h2;simp only at h2;have:j=pos:=by omega
    subst this;omega
   ·intro h;exact absurd rfl h
  ·split
   ·intro h;exact absurd rfl h
   ·rename_i hd;intro h;obtain⟨h1,h2,h3,h4,h5⟩:=ih (pos+1) _ h;refine⟨h1,by omega,fun _=>by omega,h4,?_⟩;intro j hj1 Yi;by_cases e:j=pos
    ·subst e;exact wO hb hd
    ·exact h5 j (by omega) Yi
theorem uu{s:ByteArray}{p:Nat}{b:Int}(hb:b<=16)(h:(gj s p b).2≠0):
  may (gj s p b).1=true/\2<=(gj s p b).2/\(p:Int)+(gj s p b).2<=s.size/\∀j:Nat,p<=j->(j:Int)<p+(gj s p b).2->0<=bz s j/\bz s j<128:=by
 unfold gj at*
 split at h
 ·exact absurd rfl h
 ·rename_i hz;rw[if_neg hz];obtain⟨h1,h2,h3,h4,h5⟩:=vy s b hb _ _ _ hz;have h6:=h3 (by decide);refine⟨h1,by simp only;omega,by simp only;omega,?_⟩;intro j hj1 Yi;simp only at Yi;exact h5 j hj1 (by omega)
theorem iV{s:ByteArray}{i:Nat}(h:(eR s i).2≠0):
  may (eR s i).1=true/\4<=(eR s i).2/\(i:Int)+(eR s i).2<=s.size/\∀j:Nat,i<=j->(j:Int)<i+(eR s i).2->0<=bz s j/\bz s j<128:=by
 have key:∀(l:List UInt8) (r:Int),4<=l.length->has s i l=true->(∀c∈l,c.toNat<128)->may r=true->
   may r=true/\4<=((l.length:Nat):Int)/\(i:Int)+((l.length:Nat):Int)<=s.size/\∀j:Nat,i<=j->(j:Int)<i+((l.length:Nat):Int)->0<=bz s j/\bz s j<128:=by
  intro l r hl hh ha hm;have hs:=rk hh (by omega);refine⟨hm,by omega,by omega,?_⟩;intro j h1 h2;exact BN hh ha j h1 (by omega)
 have num:∀(k:Nat) (b:Int) (l:List UInt8),2<=k->b<=16->l.length=k->has s i l=true->(∀c∈l,c.toNat<128)->(gj s (i+k) b).2≠0->
   may (gj s (i+k) b).1=true/\4<=(k:Int)+(gj s (i+k) b).2/\(i:Int)+((k:Int)+(gj s (i+k) b).2)<=s.size/\∀j:Nat,i<=j->(j:Int)<i+((k:Int)+(gj s (i+k) b).2)->0<=bz s j/\bz s j<128:=by
  intro k b l hk hb hl hh ha hn;obtain⟨h1,h2,h3,h4⟩:=uu hb hn;refine⟨h1,by omega,by omega,?_⟩;intro j hj1 Yi;by_cases e:j<i+k
  ·exact BN hh ha j hj1 (by omega)
  ·exact h4 j (by omega) (by omega)
 unfold eR at*
 split at h
 ·rename_i h1;rw[if_pos h1];exact key [38,108,116,59] 60 (by decide) h1 (by decide) (by decide)
 ·rename_i n1;rw[if_neg n1];split at h
  ·rename_i h1;rw[if_pos h1];exact key [38,103,116,59] 62 (by decide) h1 (by decide) (by decide)
  ·rename_i n2;rw[if_neg n2];split at h
   ·rename_i h1;rw[if_pos h1];exact key [38,97,109,112,59] 38 (by decide) h1 (by decide) (by decide)
   ·rename_i n3;rw[if_neg n3];split at h
    ·rename_i h1;rw[if_pos h1];exact key [38,113,117,111,116,59] 34 (by decide) h1 (by decide) (by decide)
    ·rename_i n4;rw[if_neg n4];split at h
     ·rename_i h1;rw[if_pos h1];exact key [38,97,112,111,115,59] 39 (by decide) h1 (by decide) (by decide)
     ·rename_i n5;rw[if_neg n5];split at h
      ·rename_i h1;rw[if_pos h1];split at h
       ·exact absurd rfl h
       ·rename_i hz;rw[if_neg hz];exact num 3 16 [38,35,120] (by decide) (by decide) rfl h1 (by decide) hz
      ·rename_i n6;rw[if_neg n6];split at h
       ·rename_i h1;rw[if_pos h1];split at h
        ·exact absurd rfl h
        ·rename_i hz;rw[if_neg hz];exact num 2 10 [38,35] (by decide) (by decide) rfl h1 (by decide) hz
       ·exact absurd rfl h
theorem sx(r:Int):(Lib.encodeRune r).length<=4:=by
 have:=Lib.encodeRuneZ_length r;simp[Lib.encodeRune];omega
theorem byte_back{s:ByteArray}{i:Nat}{x:Int}(h:x=bz s i)(h0:0<=bz s i):x.toNat.toUInt8=s.get! i:=by
 have:=(ib h0).2;have e:x.toNat=(s.get! i).toNat:=by omega
 rw[e];simp
def bytes(s:ByteArray)(i n:Nat):List UInt8:=(s.data.toList.drop i).take n
theorem BO{s:ByteArray}{i:Nat}(h:i<s.size):bytes s i 1=[s.get! i]:=by simp[bytes,drop_cons s i h]
theorem Nv{s:ByteArray}{i:Nat}(h:i+1<s.size):bytes s i 2=[s.get! i,s.get! (i+1)]:=by rw[bytes,drop_cons s i (by omega),drop_cons s (i+1) h];simp
theorem FL{s:ByteArray}{i:Nat}(h:i+2<s.size):bytes s i 3=[s.get! i,s.get! (i+1),s.get! (i+2)]:=by rw[bytes,drop_cons s i (by omega),drop_cons s (i+1) (by omega),drop_cons s (i+1+1) h];simp
theorem JA{s:ByteArray}{i:Nat}(h:i+3<s.size):bytes s i 4=[s.get! i,s.get! (i+1),s.get! (i+2),s.get! (i+3)]:=by rw[bytes,drop_cons s i (by omega),drop_cons s (i+1) (by omega),drop_cons s (i+1+1) (by omega),drop_cons s (i+1+1+1) h];simp
theorem encode_decode{s:ByteArray}{i:Nat}(h:i<s.size)(ho:gY s i=true):Lib.encodeRune (Utf8.decode s i).1=bytes s i (Utf8.decode s i).2:=by
 have h0:0<=bz s i:=by unfold bz;rw[if_pos h];omega
 have hbd:=uQ s i;have nb:Utf8.decode s i≠(65533,1):=fun e=>by rw[yL e]at ho;cases ho
 by_cases a1:bz s i<128
 ·rw[g_ h0 a1,BO h];simp only[Lib.encodeRune];rw[Lib.encodeRuneZ_one (by omega) (by omega)];simp only[bB,bZ];rw[byte_back (x:=((bz s i).toNat:Int)) (by omega) h0]
 by_cases a2:bz s i<192
 ·exact absurd (fS (Or.inl ⟨by omega,a2⟩)) nb
 by_cases a3:bz s i<224
 ·by_cases c1:cont s (i+1)
  ·have hd:=iR (by omega) a3 c1;unfold cont at c1;have EZ:=(ib (s:=s) (i:=i+1) (by omega)).1;by_cases hz:128<=acc s i (bz s i-192) 1
   ·rw[if_pos hz]at hd;rw[hd,Nv EZ];simp only[acc,ay]at hz ⊢;simp only[Lib.encodeRune];rw[Lib.encodeRuneZ_two (by omega) (by omega)];simp only[bB,bZ];rw[byte_back (s:=s) (i:=i) (by omega) (by omega),byte_back (s:=s) (i:=i+1) (by omega) (by omega)]
   ·rw[if_neg hz]at hd;exact absurd hd nb
  ·exact absurd (ik (by omega) a3 c1) nb
 by_cases a4:bz s i<240
 ·by_cases c1:cont s (i+1)
  ·by_cases c2:cont s (i+2)
   ·have hd:=gM (by omega) a4 c1 c2;unfold cont at c1 c2;have EZ:=(ib (s:=s) (i:=i+2) (by omega)).1;by_cases hz:2048<=acc s i (bz s i-224) 2/\Utf8.valid (acc s i (bz s i-224) 2)=true
    ·rw[if_pos hz]at hd;obtain⟨hz,hv⟩:=hz;simp only[Utf8.valid,bw,aY,ba]at hv;rw[hd,FL EZ];simp only[acc,ay,Nat.reduceAdd]at hz hv ⊢;simp only[Lib.encodeRune];rw[Lib.encodeRuneZ_three (by omega)];simp only[bB,bZ];rw[byte_back (s:=s) (i:=i) (by omega) (by omega),byte_back (s:=s) (i:=i+1) (by omega) (by omega),byte_back (s:=s) (i:=i+2) (by omega) (by omega)]
    ·rw[if_neg hz]at hd;exact absurd hd nb
   ·exact absurd (fA (by omega) a4 (Or.inr c2)) nb
  ·exact absurd (fA (by omega) a4 (Or.inl c1)) nb
 by_cases a5:bz s i<248
 ·by_cases c1:cont s (i+1)
  ·by_cases c2:cont s (i+2)
   ·by_cases c3:cont s (i+3)
    ·have hd:=iy (by omega) a5 c1 c2 c3;unfold cont at c1 c2 c3;have EZ:=(ib (s:=s) (i:=i+3) (by omega)).1;by_cases hz:65536<=acc s i (bz s i-240) 3/\Utf8.valid (acc s i (bz s i-240) 3)=true
     ·rw[if_pos hz]at hd;obtain⟨hz,hv⟩:=hz;simp only[Utf8.valid,bw,aY,ba]at hv;rw[hd,JA EZ];simp only[acc,ay,Nat.reduceAdd]at hz hv ⊢;simp only[Lib.encodeRune];rw[Lib.encodeRuneZ_four (by omega) (by omega)];simp only[bB,bZ];rw[byte_back (s:=s) (i:=i) (by omega) (by omega),byte_back (s:=s) (i:=i+1) (by omega) (by omega),byte_back (s:=s) (i:=i+2) (by omega) (by omega),byte_back (s:=s) (i:=i+3) (by omega) (by omega)]
     ·rw[if_neg hz]at hd;exact absurd hd nb
    ·exact absurd (fh (by omega) a5 (Or.inr (Or.inr c3))) nb
   ·exact absurd (fh (by omega) a5 (Or.inr (Or.inl c2))) nb
  ·exact absurd (fh (by omega) a5 (Or.inl c1)) nb
 ·exact absurd (fS (Or.inr (by omega))) nb
theorem DA{s:ByteArray}{i:Nat}(h:i<s.size)(ho:gY s i=true):(Lib.encodeRune (Utf8.decode s i).1).length<=(Utf8.decode s i).2:=by
 rw[encode_decode h ho];simp[bytes];omega
def gA(s:ByteArray):Nat->Nat->List UInt8->List UInt8×Int×Int
 |0,_,_=>([],0,0)
 |f+1,pos,acc=>
  if pos<s.size then
   if gY s pos=true then
    if bz s pos=38 then
     (if(eR s pos).2=0 then([],4,(pos:Int))else gA s f (pos+(eR s pos).2.toNat) (acc++Lib.encodeRune (eR s pos).1))
    else gA s f (pos+(Utf8.decode s pos).2) (acc++Lib.encodeRune (Utf8.decode s pos).1)
   else([],2,(pos:Int))
  else(acc,0,0)
def kP(s:ByteArray):List UInt8×Int×Int:=gA s (s.size+1) 0 []
theorem BP{s:ByteArray}{f pos:Nat}{acc:List UInt8}{X:List UInt8×Int×Int}(hp:¬pos<s.size)(h:gA s (f+1) pos acc=X):X=(acc,0,0):=by subst h;rw[gA.eq_2,if_neg hp]
theorem JB{s:ByteArray}{f pos:Nat}{acc:List UInt8}{X:List UInt8×Int×Int}(hp:pos<s.size)(ho:gY s pos=false)(h:gA s (f+1) pos acc=X):X=([],2,(pos:Int)):=by subst h;rw[gA.eq_2,if_pos hp,if_neg (by rw[ho];decide)]
theorem Rq{s:ByteArray}{f pos:Nat}{acc:List UInt8}{X:List UInt8×Int×Int}(hp:pos<s.size)(ho:gY s pos=true)(oV:¬bz s pos=38)(h:gA s (f+1) pos acc=X):
  gA s f (pos+(Utf8.decode s pos).2) (acc++Lib.encodeRune (Utf8.decode s pos).1)=X:=by
 subst h;rw[gA.eq_2,if_pos hp,if_pos ho,if_neg oV]
theorem xD{s:ByteArray}{f pos:Nat}{acc:List UInt8}{X:List UInt8×Int×Int}(hp:pos<s.size)(ho:gY s pos=true)(oV:bz s pos=38)(hr:(eR s pos).2=0)(h:gA s (f+1) pos acc=X):X=([],4,(pos:Int)):=by subst h;rw[gA.eq_2,if_pos hp,if_pos ho,if_pos oV,if_pos hr]
theorem BQ{s:ByteArray}{f pos:Nat}{acc:List UInt8}{X:List UInt8×Int×Int}(hp:pos<s.size)(ho:gY s pos=true)(oV:bz s pos=38)(hr:¬(eR s pos).2=0)(h:gA s (f+1) pos acc=X):
  gA s f (pos+(eR s pos).2.toNat) (acc++Lib.encodeRune (eR s pos).1)=X:=by
 subst h;rw[gA.eq_2,if_pos hp,if_pos ho,if_pos oV,if_neg hr]
end K.Ch
end Go.Proofs.YtjecakcpcnmieaaGreatDoor
namespace Go.Proofs.YtjecakcpcnmieaaGreatDoor
namespace K
open Go.RowKit Tryz
theorem Bb{T e:TypeId}{B b:Nat}{bs:List Value}{w w1:World}(h:Lib.IsBuilderF T e B b bs w)(hb:Z5 w w1):Lib.IsBuilderF T e B b bs w1:=by
 have keep:∀(k:Nat) (o:Obj),w.heap[k]?=some o->w1.heap[k]?=some o:=by
  intro k o hk;have hlt:k<w.heap.size:=(Array.getElem?_eq_some_iff.1 hk).1;rw[hb.block k hlt];exact hk
 have one:∀p,Lib.BuilderAtF T e B b p bs w->Lib.BuilderAtF T e B b p bs w1:=by
  rintro p ⟨hB,v,jI,⟨hl,hown⟩,hne⟩;refine⟨hB,v,keep _ _ jI,⟨hl,?_⟩,hne⟩;rcases hown with hn|⟨g,cap,cur,fz,hv,hbg,hg,rest⟩
  ·exact Or.inl hn
  ·exact Or.inr ⟨g,cap,cur,fz,hv,hbg,keep _ _ hg,rest⟩
 exact h.elim (fun x=>Or.inl (one _ x)) (fun x=>Or.inr (one _ x))
theorem JC{w w1:World}{k:Nat}{o:Obj}(hb:Z5 w w1)(hk:w.heap[k]?=some o):w1.heap[k]?=some o:=by
 have hlt:k<w.heap.size:=(Array.getElem?_eq_some_iff.1 hk).1;rw[hb.block k hlt];exact hk
theorem Nw{w w1:World}{B:Nat}(hT:EW w)(hB:2<B)(hb:Below B w w1):EW w1:=by
 obtain⟨t,fr,hg⟩:=hT;exact⟨t,fr,by rw[hb.block 2 hB];exact hg⟩
theorem Rt{w:World}(hT:EW w):2<w.heap.size:=by
 obtain⟨t,fr,hg⟩:=hT;exact(Array.getElem?_eq_some_iff.1 hg).1
theorem JD{s:ByteArray}{pos:Nat}(hp:pos<s.size):(Ch.bz s pos=38/\Utf8.decode s pos=(38,1))\/(¬Ch.bz s pos=38/\(((Utf8.decode s pos).1:Int)==38)=false):=by
 rcases Ch.kp s pos hp with⟨h0,h1,hd⟩|⟨h0,h1⟩
 ·by_cases e:Ch.bz s pos=38
  ·exact Or.inl ⟨e,by rw[hd,e];rfl⟩
  ·refine Or.inr ⟨e,?_⟩;rw[hd,aF];simp only;omega
 ·refine Or.inr ⟨by omega,?_⟩;rw[aF];omega
theorem vz(s:ByteArray)(pos:Nat)(w:World)(hs:s.size<=1125899906842624)(hT:EW w):
  Z4 162 #[.string (s.extract pos s.size)] w (Z7 (.tuple #[.int .i32 (Ch.eR s pos).1,.int .i64 (Ch.eR s pos).2]) w):=by
 rw[Ch.kJ,<-Ch.ur];exact Ba (Ch.tail s pos) w (by rw[Ch.jy];omega) hT
set_option maxRecDepth 1000000 in
theorem DB(s:ByteArray)(w:World)(hs:s.size<=140737488351232)(hT:EW w):
  Z4 121 #[.string s] w (Z7 (.tuple #[.string ⟨(Ch.kP s).1.toArray⟩,.int .i64 (Ch.kP s).2.1,.int .i64 (Ch.kP s).2.2]) w):=by
 have hs2:s.size<=1125899906842624:=by omega
 have hB0:=Rt hT;go_enter func121,ntmps121;go_wp2;go_loopw [6] (fun bh wr=>∃(pos behind at' fuel:Nat) (acc:List UInt8),bh=.int .i64 behind/\Lib.IsBuilderF 51 5 w.heap.size w.heap.size (Lib.byteCells acc) wr/\wr.heap[w.heap.size+1]?=some (.stringIter s pos)/\Z5 w wr/\Hid (Ch.gA s fuel at' acc=Ch.kP s)/\s.size<at'+fuel/\pos<=at'/\behind<=at'/\at'<=s.size/\Hid (at'=pos\/at'=behind)/\Hid (∀j,pos<=j->j<behind->0<=Ch.bz s j/\Ch.bz s j<128)/\acc.length<=at') (fun _ wr=>s.size-wr.iterPos (w.heap.size+1))
 case atStart=>
  refine⟨0,0,0,s.size+1,[],rfl,(Lib.IsBuilderF.of (Lib.fresh_isBuilder 51 5 w)).alloc _,?_,((Below.refl _ w).alloc (ah _) _).alloc (by simp) _,rfl,by omega,by omega,by omega,by omega,Or.inl rfl,fun j h1 h2=>by omega,by simp⟩;have:=World.iter_heap (w.alloc (.cells #[.pointer none,.slice none 0 0] 51)) s 0;simpa using this
 case round=>
  obtain⟨pos,behind,at',fuel,acc,rfl,hI,hit,lJ,HC,hf,X9,hp2,X_,HD,HA,U5⟩:=hrel;have hsz:w.heap.size+1<wr.heap.size:=(Array.getElem?_eq_some_iff.1 hit).1;by_cases hp:pos<s.size
  ·have tF:∀ty,(Instr.next (.pointer (some ⟨w.heap.size+1,0,none⟩)) true ty).run prog wr=_:=fun ty=>Lib.run_next_any_at wr (w.heap.size+1) s pos ty hit hp;have hd1:=decode_le s pos;have hI2:=fun q=>hI.iterAt hit q;have DC:=fun q=>Lib.iterAt_heap wr (w.heap.size+1) s pos q hit;have DF:=fun q=>Lib.below_iterAt lJ (k:=w.heap.size+1) (by omega) s q;have FM:∀q,w.heap.size<=(wr.iterAt (w.heap.size+1) s q).heap.size:=fun q=>by rw[Lib.iterAt_size];omega
   by_cases hlt:pos<behind
   ·obtain⟨b0,b1⟩:=HA.out pos (ah _) hlt;have hdec:=Ch.g_ b0 b1;rw[hdec]at tF;have tM:∀ty,(Instr.next (.pointer (some ⟨w.heap.size+1,0,none⟩)) true ty).run prog wr=.ok (.tuple #[.bool true,.int .i64 pos,.int .i32 (Ch.bz s pos).toNat]) (wr.iterAt (w.heap.size+1) s (pos+1)):=tF;clear tF hdec;go_wp2
    go_roundw
    case rel=>exact⟨pos+1,behind,at',fuel,acc,rfl,hI2 _,DC _,DF _,HC,hf,by omega,hp2,X_,Or.inr (by rcases HD.out with h|h<;>omega),fun j h1 h2=>HA.out j (by omega) h2,U5⟩
    case measure=>
     simp only[World.iterPos,DC,hit];omega
   ·obtain rfl:pos=at':=by rcases HD.out with h|h<;>omega
    obtain⟨f,rfl⟩:∃f,fuel=f+1:=⟨fuel-1,by omega⟩
    have hwd:=Ch.fk s pos hp;have hch:=Ch.q7 s pos hp;cases jO:Ch.gY s pos
    ·rw[jO]at hch;have HN:=a_ (Ch.JB hp jO HC.out);go_wp2_with(go_at_call 144;refine(iH _ _ _ _ hs2 X_).mono ?_;rintro e w' ⟨rfl,rfl⟩)
     go_ret3
     refine⟨?_,DF _⟩;rw[HN.out];rfl
    ·rw[jO]at hch;rcases JD hp with⟨oV,hdec⟩|⟨oV,hq⟩
     ·have aa9:=a_ oV;clear oV;rw[hdec]at tF hch;have tM:∀ty,(Instr.next (.pointer (some ⟨w.heap.size+1,0,none⟩)) true ty).run prog wr=.ok (.tuple #[.bool true,.int .i64 pos,.int .i32 38]) (wr.iterAt (w.heap.size+1) s (pos+1)):=tF;clear tF hdec;have adt:Ch.E0 s pos 38=true:=hch;have hT0:EW (wr.iterAt (w.heap.size+1) s (pos+1)):=Nw hT hB0 (DF _);by_cases hr:(Ch.eR s pos).2=0
      ·have HN:=a_ (Ch.xD hp jO aa9.out hr HC.out);go_wp2_with(first|(go_at_call 144;refine(iH _ _ _ _ hs2 X_).mono ?_;rintro e w' ⟨rfl,rfl⟩)|(go_at_call 162;refine(vz s pos _ hs2 hT0).mono ?_;rintro e w1 ⟨rfl,hb1⟩))
       go_ret3
       refine⟨?_,(DF _).trans (hb1.mono (FM _))⟩;rw[HN.out];rfl
      ·have HN:=a_ (Ch.BQ hp jO aa9.out hr HC.out);obtain⟨r1,r2,r3,r4⟩:=Ch.iV hr;have hrm:=(Ch.mJ _).1 r1;have hrz:((Ch.eR s pos).2==0)=false:=by rw[aF];exact hr
       have HR4:=a_ r4;have hel:=Ch.sx (Ch.eR s pos).1;clear r4 hr r1;obtain⟨n,hn⟩:∃n:Nat,(Ch.eR s pos).2=n:=⟨(Ch.eR s pos).2.toNat,by omega⟩
       have HNN:=a_ hn;rw[hn]at r2 r3 hrz;clear hn;go_wp2_with(first|(go_at_call 144;refine(iH _ _ _ _ hs2 X_).mono ?_;rintro e w' ⟨rfl,rfl⟩)|(go_at_call 162;refine(vz s pos _ hs2 hT0).mono ?_;rintro e w1 ⟨rfl,hb1⟩;rw[HNN.out]));have hI3:=Bb (hI2 (pos+1)) hb1;have Ru:=JC hb1 (DC (pos+1));have hs3:w.heap.size<=w1.heap.size:=ar (FM (pos+1)) hb1.size;have acw:Z5 w w1:=(DF (pos+1)).trans (hb1.mono (FM _));refine(xC w.heap.size w.heap.size _ _ (by omega) (by omega) _ hI3 (by rw[Lib.byteCells_length];omega) hs3).mono ?_;rintro e W1 ⟨rfl,h1,b1,k1⟩;go_wp2;refine⟨⟨pos+1,pos+n,pos+n,f,acc++Lib.encodeRune (Ch.eR s pos).1,by go_num,?_,k1.iter Ru (by omega),acw.trans b1,?_,by omega,by omega,by omega,by omega,Or.inr rfl,?_,by simp;omega⟩,?_⟩
       ·rw[Lib.byteCells_append,Lib.byteCells_encodeRune];exact Or.inr h1
       ·have:=HN.out;rw[HNN.out,bm]at this;exact this
       ·intro j j1 j2;exact HR4.out j (by omega) (by rw[HNN.out];omega)
       ·simp only[World.iterPos,k1.iter Ru (by omega),hit];omega
     ·have HN:=a_ (Ch.Rq hp jO oV HC.out);have hew:=Ch.DA hp jO;clear oV;have tM:=tF;clear tF;go_wp2_with(first|(go_at_call 144;refine(iH _ _ _ _ hs2 X_).mono ?_;rintro e w' ⟨rfl,rfl⟩)|(go_at_call 163;refine(xC w.heap.size w.heap.size _ _ (by omega) (by omega) _ (hI2 _) (by rw[Lib.byteCells_length];omega) (FM _)).mono ?_;rintro e W1 ⟨rfl,h1,b1,k1⟩));refine⟨⟨pos+(Utf8.decode s pos).2,behind,pos+(Utf8.decode s pos).2,f,acc++Lib.encodeRune (Utf8.decode s pos).1,rfl,?_,k1.iter (DC _) (by omega),(DF _).trans b1,HN,by omega,by omega,by omega,by omega,Or.inl rfl,fun j h1 h2=>by omega,by simp;omega⟩,?_⟩
      ·rw[Lib.byteCells_append,Lib.byteCells_encodeRune];exact Or.inr h1
      ·simp only[World.iterPos,k1.iter (DC _) (by omega),hit];omega
  ·obtain rfl:pos=at':=by rcases HD.out with h|h<;>omega
   obtain⟨f,rfl⟩:∃f,fuel=f+1:=⟨fuel-1,by omega⟩
   have tM:∀ty,(Instr.next (.pointer (some ⟨w.heap.size+1,0,none⟩)) true ty).run prog wr=_:=fun ty=>Lib.run_next_end_at wr (w.heap.size+1) s pos ty hit hp;have HN:=a_ (Ch.BP hp HC.out);go_wp2_with(go_at_call 38;refine(Tryz.Builder_String_any_k w.heap.size w.heap.size acc _ hI (by omega)).mono ?_;rintro e W1 ⟨rfl,_,b1,_⟩)
   go_ret3
   refine⟨?_,lJ.trans b1⟩;rw[HN.out];rfl
end K
end Go.Proofs.YtjecakcpcnmieaaGreatDoor
namespace Go.Proofs.YtjecakcpcnmieaaGreatDoor
namespace K.Ch
open Go.Proofs.YtjecakcpcnmieaaGreatDoor.Ch
open Go
def rp(q:Bool)(c:UInt8):List UInt8:=if iM (c.toNat:Int) q=[]then [c]else iM (c.toNat:Int) q
def h_(q:Bool)(l:List UInt8):List UInt8:=l.flatMap (rp q)
def U8(s:ByteArray)(q:Bool):List UInt8:=h_ q s.data.toList
theorem oW{r:Int}(q:Bool)(h:128<=r):iM r q=[]:=by
 unfold iM
 repeat' split
 all_goals first|omega|rfl
theorem BS(r:Int)(q:Bool):(iM r q).length<=6:=by
 unfold iM
 repeat' split
 all_goals simp
theorem JE{s:ByteArray}{i:Nat}(hi:i<s.size)(h:128<=bz s i):∀j,i<=j->j<i+(Utf8.decode s i).2->128<=bz s j:=by
 have one:∀j,i<=j->j<i+1->128<=bz s j:=fun j a b=>by
  obtain rfl:i=j:=by omega
  exact h
 by_cases a2:bz s i<192
 ·rw[fS (Or.inl ⟨h,a2⟩)];exact one
 by_cases a3:bz s i<224
 ·by_cases c1:cont s (i+1)
  ·rw[iR (by omega) a3 c1];split
   ·intro j x y;unfold cont at c1;have:j=i\/j=i+1:=by omega
    rcases this with rfl|rfl<;>omega
   ·exact one
  ·rw[ik (by omega) a3 c1];exact one
 by_cases a4:bz s i<240
 ·by_cases c1:cont s (i+1)
  ·by_cases c2:cont s (i+2)
   ·rw[gM (by omega) a4 c1 c2];split
    ·intro j x y;unfold cont at c1 c2;have:j=i\/j=i+1\/j=i+2:=by omega
     rcases this with rfl|rfl|rfl<;>omega
    ·exact one
   ·rw[fA (by omega) a4 (Or.inr c2)];exact one
  ·rw[fA (by omega) a4 (Or.inl c1)];exact one
 by_cases a5:bz s i<248
 ·by_cases c1:cont s (i+1)
  ·by_cases c2:cont s (i+2)
   ·by_cases c3:cont s (i+3)
    ·rw[iy (by omega) a5 c1 c2 c3];split
     ·intro j x y;unfold cont at c1 c2 c3;have:j=i\/j=i+1\/j=i+2\/j=i+3:=by omega
      rcases this with rfl|rfl|rfl|rfl<;>omega
     ·exact one
    ·rw[fh (by omega) a5 (Or.inr (Or.inr c3))];exact one
   ·rw[fh (by omega) a5 (Or.inr (Or.inl c2))];exact one
  ·rw[fh (by omega) a5 (Or.inl c1)];exact one
 ·rw[fS (Or.inr (by omega))];exact one
theorem rq(q:Bool)(a b:List UInt8):h_ q (a++b)=h_ q a++h_ q b:=by simp[h_]
theorem zx(s:ByteArray)(i:Nat)(h:i<s.size):s.data.toList.take (i+1)=s.data.toList.take i++[s.get! i]:=by
 rw[aN (by simpa using h)];congr 2;simp[ByteArray.get!,h]
theorem JF(s:ByteArray)(i n:Nat)(h:i+n<s.size):bytes s i (n+1)=bytes s i n++[s.get! (i+n)]:=by
 have hd:n<(s.data.toList.drop i).length:=by simp;omega
 unfold bytes;rw[aN hd];congr 2;simp[ByteArray.get!,h]
theorem Nx(s:ByteArray)(q:Bool)(acc:List UInt8)(wr pos:Nat)(h1:wr<=pos)(h:acc++bytes s wr (pos-wr)=h_ q (s.data.toList.take pos)):
  ∀n,pos+n<=s.size->(∀j,pos<=j->j<pos+n->iM (bz s j) q=[])->acc++bytes s wr (pos+n-wr)=h_ q (s.data.toList.take (pos+n)):=by
 intro n;induction n with
 |zero=>intro _ _;exact h
 |succ n ih=>
  intro hn hj;have h2:=ih (by omega) (fun j a b=>hj j a (by omega));have h3:=hj (pos+n) (by omega) (by omega);have hlt:pos+n<s.size:=by omega
  rw[show pos+(n+1)-wr=(pos+n-wr)+1 by omega,JF s wr _ (by omega),show wr+(pos+n-wr)=pos+n by omega,<-aM,h2,<-cL,zx s (pos+n) hlt,rq];congr 1;have hb:bz s (pos+n)=((s.get! (pos+n)).toNat:Int):=by unfold bz;rw[if_pos hlt]
  rw[hb]at h3;simp[h_,rp,h3]
theorem V5(s:ByteArray)(q:Bool)(acc:List UInt8)(wr pos:Nat)(h:acc++bytes s wr (pos-wr)=h_ q (s.data.toList.take pos))(hlt:pos<s.size)(hr:¬iM (bz s pos) q=[]):
  (acc++bytes s wr (pos-wr))++iM (bz s pos) q++bytes s (pos+1) (pos+1-(pos+1))=h_ q (s.data.toList.take (pos+1)):=by
 have hb:bz s pos=((s.get! pos).toNat:Int):=by unfold bz;rw[if_pos hlt]
 rw[dX,zx s pos hlt,rq,h];rw[hb]at hr ⊢;simp[h_,rp,hr,bytes]
end K.Ch
end Go.Proofs.YtjecakcpcnmieaaGreatDoor
namespace Go.Proofs.YtjecakcpcnmieaaGreatDoor
namespace K
open Go.RowKit Tryz
theorem mQ(s:ByteArray)(a b:Nat):(s.extract a b).data.toList=Ch.bytes s a (b-a):=by simp[Ch.bytes,List.take_drop]
theorem DG(s:ByteArray)(a n:Nat):(Ch.bytes s a n).length<=n:=by simp[Ch.bytes];omega
theorem extract_size(s:ByteArray)(a b:Nat):(s.extract a b).size<=b-a:=by simp;omega
theorem oB(s:ByteArray):Lib.strCells s=Lib.byteCells s.data.toList:=rfl
set_option maxRecDepth 1000000 in
theorem uv(s:ByteArray)(q:Bool)(w:World)(hs:s.size<=1099511627776):
  Z4 37 #[.string s,.bool q] w (Z7 (.string ⟨(Ch.U8 s q).toArray⟩) w):=by
 go_enter func37,ntmps37;go_wp2;go_loopw [6] (fun wv wr=>∃(pos wn:Nat) (acc:List UInt8),wv=.int .i64 wn/\Lib.IsBuilderF 51 5 w.heap.size w.heap.size (Lib.byteCells acc) wr/\wr.heap[w.heap.size+1]?=some (.stringIter s pos)/\Z5 w wr/\Hid (acc++Ch.bytes s wn (pos-wn)=Ch.h_ q (s.data.toList.take pos))/\wn<=pos/\pos<=s.size/\acc.length<=6*wn) (fun _ wr=>s.size-wr.iterPos (w.heap.size+1))
 case atStart=>
  refine⟨0,0,[],rfl,(Lib.IsBuilderF.of (Lib.fresh_isBuilder 51 5 w)).alloc _,?_,((Below.refl _ w).alloc (ah _) _).alloc (by simp) _,?_,by omega,by omega,by simp⟩
  ·have:=World.iter_heap (w.alloc (.cells #[.pointer none,.slice none 0 0] 51)) s 0;simpa using this
  ·simp[Hid,Ch.bytes,Ch.h_]
 case round=>
  obtain⟨pos,wn,acc,rfl,hI,hit,lJ,HC,X9,hp2,U5⟩:=hrel;have hsz:w.heap.size+1<wr.heap.size:=(Array.getElem?_eq_some_iff.1 hit).1;by_cases hp:pos<s.size
  ·have tF:∀ty,(Instr.next (.pointer (some ⟨w.heap.size+1,0,none⟩)) true ty).run prog wr=_:=fun ty=>Lib.run_next_any_at wr (w.heap.size+1) s pos ty hit hp;have hwd:=Ch.fk s pos hp;have hI2:=fun q=>hI.iterAt hit q;have DC:=fun q=>Lib.iterAt_heap wr (w.heap.size+1) s pos q hit;have DF:=fun q=>Lib.below_iterAt lJ (k:=w.heap.size+1) (by omega) s q;have FM:∀q,w.heap.size<=(wr.iterAt (w.heap.size+1) s q).heap.size:=fun q=>by rw[Lib.iterAt_size];omega
   have hrr:Ch.iM (Utf8.decode s pos).1 q=Ch.iM (Ch.bz s pos) q:=by
    rcases Ch.kp s pos hp with⟨h0,h1,hd⟩|⟨h0,h1⟩
    ·rw[hd];congr 1;simp only;omega
    ·rw[Ch.oW q h0,Ch.oW q (by omega)]
   have HRR:=a_ hrr;clear hrr;have tM:=tF;clear tF;by_cases hr:Ch.iM (Ch.bz s pos) q=[]
   ·have HN:Hid (acc++Ch.bytes s wn (pos+(Utf8.decode s pos).2-wn)=Ch.h_ q (s.data.toList.take (pos+(Utf8.decode s pos).2))):=by
     refine Ch.Nx s q acc wn pos X9 HC.out _ hwd.1 ?_;intro j j1 j2;rcases Ch.kp s pos hp with⟨h0,h1,hd⟩|⟨h0,h1⟩
     ·rw[hd]at j2;obtain rfl:pos=j:=by simp only at j2;omega
      exact hr
     ·exact Ch.oW q (Ch.JE hp h0 j j1 j2)
    have HR:=a_ hr;clear hr;go_wp2_with(go_at_call 65;refine(pJ _ _ _).mono ?_;rintro e w' ⟨rfl,rfl⟩;rw[HRR.out,HR.out]);refine⟨⟨pos+(Utf8.decode s pos).2,wn,acc,rfl,hI2 _,DC _,DF _,HN,by omega,by omega,U5⟩,?_⟩;simp only[World.iterPos,DC,hit];omega
   ·have HN:=a_ (Ch.V5 s q acc wn pos HC.out hp hr);have hle:=Ch.BS (Ch.bz s pos) q;have hw1:(Utf8.decode s pos).2=1:=by
     rcases Ch.kp s pos hp with⟨h0,h1,hd⟩|⟨h0,h1⟩
     ·rw[hd]
     ·exact absurd (Ch.oW q h0) hr
    rw[hw1]at tM;generalize Ch.iM (Ch.bz s pos) q=L at*
    obtain⟨c,l,rfl⟩:∃c l,L=c::l:=by
     cases L with
     |nil=>exact absurd rfl hr
     |cons c l=>exact⟨c,l,rfl⟩
    clear hr;go_wp2_with(go_at_call 65;refine(pJ _ _ _).mono ?_;rintro e w' ⟨rfl,rfl⟩;rw[HRR.out]);have he1:=extract_size s wn pos;have hb1:=DG s wn (pos-wn);refine(mP w.heap.size w.heap.size _ _ _ (hI2 _) (by rw[Lib.byteCells_length];omega) (FM _)).mono ?_;rintro e W1 ⟨rfl,h1,b1,k1⟩;have tR:(Lib.byteCells acc++Lib.strCells (s.extract wn pos)).length=acc.length+(s.extract wn pos).size:=by rw[ae,Lib.byteCells_length,Lib.strCells_length]
    have zo:(⟨(c::l).toArray⟩:ByteArray).size=(c::l).length:=by
     show (c::l).toArray.size=_;simp
    have hs1:w.heap.size<=W1.heap.size:=ar (FM _) b1.size;go_wp2_with(go_at_call 34;refine(mP w.heap.size w.heap.size _ _ _ (Or.inr h1) (by rw[tR,zo];omega) hs1).mono ?_;rintro e W2 ⟨rfl,h2,b2,k2⟩);have Ru:=k2.iter (k1.iter (DC (pos+1)) (by omega)) (by omega);refine⟨⟨pos+1,pos+1,(acc++Ch.bytes s wn (pos-wn))++(c::l),by go_num,?_,Ru,(DF _).trans (b1.trans b2),?_,by omega,by omega,?_⟩,?_⟩
    ·refine Or.inr ?_;rw[oB,oB,mQ,<-Lib.byteCells_append,<-Lib.byteCells_append]at h2;exact h2
    ·exact HN.out
    ·simp only[ae];omega
    ·simp only[World.iterPos,Ru,hit];omega
  ·have tM:∀ty,(Instr.next (.pointer (some ⟨w.heap.size+1,0,none⟩)) true ty).run prog wr=_:=fun ty=>Lib.run_next_end_at wr (w.heap.size+1) s pos ty hit hp;obtain rfl:pos=s.size:=by omega
   have he1:=extract_size s wn s.size;go_wp2_with(go_at_call 34;refine(mP w.heap.size w.heap.size _ _ _ hI (by rw[Lib.byteCells_length];omega) (by omega)).mono ?_;rintro e W1 ⟨rfl,h1,b1,k1⟩);rw[oB,mQ,<-Lib.byteCells_append]at h1;have hs1:w.heap.size<=W1.heap.size:=ar (by omega) b1.size;refine(Tryz.Builder_String_any_k w.heap.size w.heap.size _ _ (Or.inr h1) hs1).mono ?_;rintro e W2 ⟨rfl,_,b2,_⟩;go_wp2;go_ret;refine⟨?_,lJ.trans (b1.trans b2)⟩;rw[HC.out,bM (by simp)];rfl
theorem Rv(s:ByteArray)(i:Nat)(l:List UInt8):(Ch.bytes s i l.length==l)=Ch.has s i l:=by
 rw[<-Ch.p7,bL,bA,List.isPrefixOf_iff_prefix,List.prefix_iff_eq_take];unfold Ch.bytes;exact eq_comm
theorem pg(s:ByteArray)(i:Nat)(a:Array UInt8)(w:World)(hs:s.size<=1125899906842624)(_hi:i<=s.size)(ha0:0<a.size)(ha:a.size<=16):
  Z4 102 #[.string s,.int .i64 i,.string ⟨a⟩] w (Z6 (.bool (Ch.has s i a.toList)) w):=by
 have hsz:(⟨a⟩:ByteArray).size=a.size:=rfl;by_cases h:i+a.size<=s.size
 ·go_enter func102,ntmps102;go_wp2;go_ret;refine⟨lK ?_,rfl⟩;rw[<-Rv,cH,cH,mQ,show i+a.size-i=a.toList.length by simp]
 ·have hf:Ch.has s i a.toList=false:=by
   cases e:Ch.has s i a.toList
   ·rfl
   ·have:=Ch.rk e (by simpa using ha0);simp at this;omega
  have HF:=a_ hf;clear hf;go_enter func102,ntmps102;go_wp2;go_ret;exact⟨lK HF.out.symm,rfl⟩
theorem eL(w:World)(o:Obj):(w.alloc o).heap[w.heap.size]?=some o:=bu w o
theorem ru(w:World)(xs:List Int)(n:Nat)(hn:xs.length=n):
  (convert 49 9 (.slice (some ⟨w.heap.size,0,none⟩) n n)).run prog (w.alloc (.cells (xs.map (Value.int .u8)).toArray 5))=.ok (.string (strOfNums xs)) (w.alloc (.cells (xs.map (Value.int .u8)).toArray 5)):=by
 refine dV _ 49 5 underlying49 underlying5 w.heap.size 0 n n xs hn ?_ 9 underlying9;intro i hi;have hlt:i<xs.length:=by omega
 rw[Lib.cell_of_heap (eL w _)];simp[hlt]
theorem mZ{r:Int}{xs:List Int}(h:Lib.encodeRuneZ r=xs):strOfNums xs=⟨(Lib.encodeRune r).toArray⟩:=by subst h;rfl
theorem Zu(r:Int)(w:World)(h0:0<=r)(h1:r<128):
  Z4 104 #[.int .i64 r] w (Z7 (.string ⟨(Lib.encodeRune r).toArray⟩) w):=by
 have hcv:=ru w [r] 1 rfl;rw[mZ (Lib.encodeRuneZ_one h0 (by omega))]at hcv;have V6:(convert 49 9 (.slice (some ⟨w.heap.size,0,none⟩) 1 1)).run prog (w.alloc (.cells #[.int .u8 r] 5))=_:=hcv;clear hcv;go_enter func104,ntmps104;go_wp2;go_ret;exact⟨rfl,(Below.refl _ w).alloc (ah _) _⟩
theorem Zv(r:Int)(w:World)(h0:128<=r)(h1:r<2048):
  Z4 104 #[.int .i64 r] w (Z7 (.string ⟨(Lib.encodeRune r).toArray⟩) w):=by
 have hcv:=ru w [192+r/64,128+r%64] 2 rfl;rw[mZ (Lib.encodeRuneZ_two h0 (by omega))]at hcv;have V6:(convert 49 9 (.slice (some ⟨w.heap.size,0,none⟩) 2 2)).run prog (w.alloc (.cells #[.int .u8 (192+r/64),.int .u8 (128+r%64)] 5))=_:=hcv;clear hcv;go_enter func104,ntmps104;go_wp2;go_ret;exact⟨rfl,(Below.refl _ w).alloc (ah _) _⟩
theorem Zw(r:Int)(w:World)(h0:2048<=r)(h1:r<55296):
  Z4 104 #[.int .i64 r] w (Z7 (.string ⟨(Lib.encodeRune r).toArray⟩) w):=by
 have hcv:=ru w [224+r/4096,128+r/64%64,128+r%64] 3 rfl;rw[mZ (Lib.encodeRuneZ_three (by omega))]at hcv;have V6:(convert 49 9 (.slice (some ⟨w.heap.size,0,none⟩) 3 3)).run prog (w.alloc (.cells #[.int .u8 (224+r/4096),.int .u8 (128+r/64%64),.int .u8 (128+r%64)] 5))=_:=hcv;clear hcv;go_enter func104,ntmps104;go_wp2;go_ret;exact⟨rfl,(Below.refl _ w).alloc (ah _) _⟩
theorem Zx(r:Int)(w:World)(h0:57344<=r)(h1:r<65536):
  Z4 104 #[.int .i64 r] w (Z7 (.string ⟨(Lib.encodeRune r).toArray⟩) w):=by
 have hcv:=ru w [224+r/4096,128+r/64%64,128+r%64] 3 rfl;rw[mZ (Lib.encodeRuneZ_three (by omega))]at hcv;have V6:(convert 49 9 (.slice (some ⟨w.heap.size,0,none⟩) 3 3)).run prog (w.alloc (.cells #[.int .u8 (224+r/4096),.int .u8 (128+r/64%64),.int .u8 (128+r%64)] 5))=_:=hcv;clear hcv;go_enter func104,ntmps104;go_wp2;go_ret;exact⟨rfl,(Below.refl _ w).alloc (ah _) _⟩
theorem Zy(r:Int)(w:World)(h0:65536<=r)(h1:r<=1114111):
  Z4 104 #[.int .i64 r] w (Z7 (.string ⟨(Lib.encodeRune r).toArray⟩) w):=by
 have hcv:=ru w [240+r/262144,128+r/4096%64,128+r/64%64,128+r%64] 4 rfl;rw[mZ (Lib.encodeRuneZ_four h0 (by omega))]at hcv;have V6:(convert 49 9 (.slice (some ⟨w.heap.size,0,none⟩) 4 4)).run prog (w.alloc (.cells #[.int .u8 (240+r/262144),.int .u8 (128+r/4096%64),.int .u8 (128+r/64%64),.int .u8 (128+r%64)] 5))=_:=hcv;clear hcv;go_enter func104,ntmps104;go_wp2;go_ret;exact⟨rfl,(Below.refl _ w).alloc (ah _) _⟩
theorem BU(r:Int)(w:World)(hm:Ch.may r=true):
  Z4 104 #[.int .i64 r] w (Z7 (.string ⟨(Lib.encodeRune r).toArray⟩) w):=by
 have h:=(Ch.mJ r).1 hm;by_cases c1:r<128
 ·exact Zu r w (by omega) c1
 by_cases c2:r<2048
 ·exact Zv r w (by omega) c2
 by_cases c3:r<55296
 ·exact Zw r w (by omega) c3
 by_cases c4:r<65536
 ·exact Zx r w (by omega) c4
 ·exact Zy r w (by omega) (by omega)
def both(c r:Int):Prop:=(c=r/\r<=1114111)\/(1114111<c/\1114111<r)
theorem FN{c r:Int}(h:both c r):Ch.may c=Ch.may r:=by
 rcases h with⟨h,_⟩|⟨h1,h2⟩
 ·rw[h]
 ·rw[Ch.wz (by omega),Ch.wz (by omega)]
theorem xE{c r:Int}(h:both c r)(hm:Ch.may r=true):c=r:=by
 rcases h with⟨h,_⟩|⟨h1,h2⟩
 ·exact h
 ·rw[Ch.wz (by omega)]at hm;cases hm
def na(s:ByteArray)(p:Nat)(b:Int):Int×Int:=if(Ch.eX s b (s.size-p+1) p 0).2=0 then(0,-1)else Ch.eX s b (s.size-p+1) p 0
theorem nY{s:ByteArray}{p:Nat}{b:Int}(h:Ch.eX s b (s.size-p+1) p 0=(0,0)):na s p b=(0,-1):=by simp[na,h]
theorem BV{s:ByteArray}{p:Nat}{b n:Int}{q:Nat}(h:Ch.eX s b (s.size-p+1) p 0=(n,(q:Int)+1)):na s p b=(n,(q:Int)+1):=by
 have:¬((q:Int)+1=0):=by omega
 simp[na,h,this]
theorem LZ(c:Int):(Ch.nt (-1) c= -1/\Ch.nt 16 c=16)\/(Ch.nt (-1) c=Ch.nt 16 c/\0<=Ch.nt 16 c/\Ch.nt 16 c<=15):=by
 unfold Ch.nt
 repeat' split
 all_goals omega
theorem FO:Ch.nt 16 59=16:=by decide
theorem FP{c r d:Int}(h:both c r)(_h0:0<=r)(d0:0<=d)(d1:d<10):both (if c<=1114111 then c*10+d else c) (min (r*10+d) 2097152):=by
 unfold both at*
 split<;>omega
theorem FQ{c r d:Int}(h:both c r)(_h0:0<=r)(d0:0<=d)(d1:d<16):both (if c<=1114111 then c*16+d else c) (min (r*16+d) 2097152):=by
 unfold both at*
 split<;>omega
theorem FR{s:ByteArray}{b c:Int}{f p:Nat}{X:Int×Int}(h0:c=0)(hd:¬Ch.nt 16 (Ch.bz s p)<b)(h:Ch.eX s b (f+1) p c=X):X=(0,0):=by
 subst h0;by_cases e:Ch.bz s p=59
 ·have:=Ch.vt e h;rw[if_neg (by decide)]at this;exact this
 ·exact Ch.zv e (by omega) h
set_option maxRecDepth 1000000 in
theorem FT(s:ByteArray)(p:Nat)(w:World)(hs:s.size<=1125899906842624)(hp:p<=s.size):
  Z4 103 #[.string s,.int .i64 p,.int .i64 10] w (Z6 (.tuple #[.int .i64 (na s p 10).1,.int .i64 (na s p 10).2]) w):=by
 have hm:s.size<=maxLen:=by unfold maxLen;omega
 go_enter func103,ntmps103;go_wp2
 go_loop [1,9,10] (fun i n _=>∃(pos fuel:Nat) (c r:Int),i=.int .i64 pos/\n=.int .i64 r/\Hid (both c r)/\0<=r/\r<=2097152/\Hid (Ch.eX s 10 fuel pos c=Ch.eX s 10 (s.size-p+1) p 0)/\s.size<pos+fuel/\p<=pos/\pos<=s.size/\Hid (pos=p->c=0)) (fun i _ _=>s.size-(intOf i).toNat)
 case atStart=>exact⟨p,s.size-p+1,0,0,rfl,rfl,Or.inl ⟨rfl,by omega⟩,by omega,by omega,rfl,by omega,by omega,by omega,fun _=>rfl⟩
 case round=>
  obtain⟨pos,fuel,c,r,rfl,rfl,Zz,Zs,hr1,HC,hf,hpp,Yj,HZ⟩:=hrel;obtain⟨f,rfl⟩:∃f,fuel=f+1:=⟨fuel-1,by omega⟩
  have hbz:=Ch.uQ s pos;have V7:=LZ (Ch.bz s pos);by_cases hd:Ch.nt 16 (Ch.bz s pos)<10
  ·have hd0:0<=Ch.nt (-1) (Ch.bz s pos)/\Ch.nt (-1) (Ch.bz s pos)<10:=by omega
   have QD:Ch.nt 16 (Ch.bz s pos)=Ch.nt (-1) (Ch.bz s pos):=by omega
   have FU:¬Ch.bz s pos=59:=fun e=>by rw[e,FO]at hd;omega
   have hlt:pos<s.size:=by
    have:=Ch.wO (b:=10) (by omega) (by omega:¬10<=Ch.nt 16 (Ch.bz s pos));exact(Ch.ib this.1).1
   have HN:=a_ (Ch.Jw FU (by omega) HC.out);rw[QD]at HN;have HS:=a_ (FP Zz.out Zs hd0.1 hd0.2);clear V7 hd QD FU;go_wp2_with(first|(go_at_call 105;refine(ie _ _ _ hm (by omega)).mono ?_;rintro e w' ⟨rfl,rfl⟩;rw[bm])|(go_at_call 142;refine(jr _ _ (by omega) (by omega)).mono ?_;rintro e w' ⟨rfl,rfl⟩)|(go_at_call 106;refine(lM _ _).mono ?_;rintro e w' ⟨rfl,rfl⟩));exact⟨⟨pos+1,f,_,_,by go_num,rfl,HS,by omega,by omega,HN,by omega,by omega,by omega,fun e=>by omega⟩,by simp[intOf];omega⟩
  ·have hdd:Ch.nt (-1) (Ch.bz s pos)<0\/10<=Ch.nt (-1) (Ch.bz s pos):=by omega
   by_cases V8:pos=p
   ·have HN:=a_ (nY (FR (HZ.out V8) hd HC.out));have hq:((pos:Int)==(p:Int))=true:=by rw[bA];omega
    clear V8 hd V7;rcases hdd with hdd|hdd;all_goals
     go_wp2_with(first|(go_at_call 105;refine(ie _ _ _ hm (by omega)).mono ?_;rintro e w' ⟨rfl,rfl⟩;rw[bm])|(go_at_call 142;refine(jr _ _ (by omega) (by omega)).mono ?_;rintro e w' ⟨rfl,rfl⟩)|(go_at_call 106;refine(lM _ _).mono ?_;rintro e w' ⟨rfl,rfl⟩))
     go_ret2
     refine⟨?_,rfl⟩;rw[HN.out];rfl
   ·have hq:((pos:Int)==(p:Int))=false:=by rw[aF];omega
    by_cases oy:Ch.bz s pos=59
    ·have HX:=Ch.vt oy HC.out;rw[FN Zz.out]at HX;have hq2:(Ch.bz s pos !=59)=false:=by rw[oy];rfl
     clear oy V8 hd V7;cases AY:Ch.may r
     ·rw[AY]at HX;have HN:=a_ (nY HX);clear HX;rcases hdd with hdd|hdd;all_goals
       go_wp2_with(first|(go_at_call 105;refine(ie _ _ _ hm (by omega)).mono ?_;rintro e w' ⟨rfl,rfl⟩;rw[bm])|(go_at_call 142;refine(jr _ _ (by omega) (by omega)).mono ?_;rintro e w' ⟨rfl,rfl⟩)|(go_at_call 106;refine(lM _ _).mono ?_;rintro e w' ⟨rfl,rfl⟩))
       go_ret2
       refine⟨?_,rfl⟩;rw[HN.out];rfl
     ·rw[AY,xE Zz.out AY]at HX;have HN:=a_ (BV HX);clear HX;rcases hdd with hdd|hdd;all_goals
       go_wp2_with(first|(go_at_call 105;refine(ie _ _ _ hm (by omega)).mono ?_;rintro e w' ⟨rfl,rfl⟩;rw[bm])|(go_at_call 142;refine(jr _ _ (by omega) (by omega)).mono ?_;rintro e w' ⟨rfl,rfl⟩)|(go_at_call 106;refine(lM _ _).mono ?_;rintro e w' ⟨rfl,rfl⟩))
       go_ret2
       refine⟨?_,rfl⟩;rw[HN.out];rfl
    ·have HN:=a_ (nY (Ch.zv oy (by omega) HC.out));have hq2:(Ch.bz s pos !=59)=true:=by rw[bne_iff_ne];exact oy
     clear oy V8 hd V7;rcases hdd with hdd|hdd;all_goals
      go_wp2_with(first|(go_at_call 105;refine(ie _ _ _ hm (by omega)).mono ?_;rintro e w' ⟨rfl,rfl⟩;rw[bm])|(go_at_call 142;refine(jr _ _ (by omega) (by omega)).mono ?_;rintro e w' ⟨rfl,rfl⟩)|(go_at_call 106;refine(lM _ _).mono ?_;rintro e w' ⟨rfl,rfl⟩))
      go_ret2
      refine⟨?_,rfl⟩;rw[HN.out];rfl
set_option maxRecDepth 1000000 in
theorem FV(s:ByteArray)(p:Nat)(w:World)(hs:s.size<=1125899906842624)(hp:p<=s.size):
  Z4 103 #[.string s,.int .i64 p,.int .i64 16] w (Z6 (.tuple #[.int .i64 (na s p 16).1,.int .i64 (na s p 16).2]) w):=by
 have hm:s.size<=maxLen:=by unfold maxLen;omega
 go_enter func103,ntmps103;go_wp2
 go_loop [1,9,10] (fun i n _=>∃(pos fuel:Nat) (c r:Int),i=.int .i64 pos/\n=.int .i64 r/\Hid (both c r)/\0<=r/\r<=2097152/\Hid (Ch.eX s 16 fuel pos c=Ch.eX s 16 (s.size-p+1) p 0)/\s.size<pos+fuel/\p<=pos/\pos<=s.size/\Hid (pos=p->c=0)) (fun i _ _=>s.size-(intOf i).toNat)
 case atStart=>exact⟨p,s.size-p+1,0,0,rfl,rfl,Or.inl ⟨rfl,by omega⟩,by omega,by omega,rfl,by omega,by omega,by omega,fun _=>rfl⟩
 case round=>
  obtain⟨pos,fuel,c,r,rfl,rfl,Zz,Zs,hr1,HC,hf,hpp,Yj,HZ⟩:=hrel;obtain⟨f,rfl⟩:∃f,fuel=f+1:=⟨fuel-1,by omega⟩
  have hbz:=Ch.uQ s pos;have V7:=LZ (Ch.bz s pos);by_cases hd:Ch.nt 16 (Ch.bz s pos)<16
  ·have hd0:0<=Ch.nt (-1) (Ch.bz s pos)/\Ch.nt (-1) (Ch.bz s pos)<16:=by omega
   have QD:Ch.nt 16 (Ch.bz s pos)=Ch.nt (-1) (Ch.bz s pos):=by omega
   have FU:¬Ch.bz s pos=59:=fun e=>by rw[e,FO]at hd;omega
   have hlt:pos<s.size:=by
    have:=Ch.wO (b:=16) (by omega) (by omega:¬16<=Ch.nt 16 (Ch.bz s pos));exact(Ch.ib this.1).1
   have HN:=a_ (Ch.Jw FU (by omega) HC.out);rw[QD]at HN;have HS:=a_ (FQ Zz.out Zs hd0.1 hd0.2);clear V7 hd QD FU;go_wp2_with(first|(go_at_call 105;refine(ie _ _ _ hm (by omega)).mono ?_;rintro e w' ⟨rfl,rfl⟩;rw[bm])|(go_at_call 142;refine(jr _ _ (by omega) (by omega)).mono ?_;rintro e w' ⟨rfl,rfl⟩)|(go_at_call 106;refine(lM _ _).mono ?_;rintro e w' ⟨rfl,rfl⟩));exact⟨⟨pos+1,f,_,_,by go_num,rfl,HS,by omega,by omega,HN,by omega,by omega,by omega,fun e=>by omega⟩,by simp[intOf];omega⟩
  ·have hdd:Ch.nt (-1) (Ch.bz s pos)<0\/16<=Ch.nt (-1) (Ch.bz s pos):=by omega
   by_cases V8:pos=p
   ·have HN:=a_ (nY (FR (HZ.out V8) hd HC.out));have hq:((pos:Int)==(p:Int))=true:=by rw[bA];omega
    clear V8 hd V7;rcases hdd with hdd|hdd;all_goals
     go_wp2_with(first|(go_at_call 105;refine(ie _ _ _ hm (by omega)).mono ?_;rintro e w' ⟨rfl,rfl⟩;rw[bm])|(go_at_call 142;refine(jr _ _ (by omega) (by omega)).mono ?_;rintro e w' ⟨rfl,rfl⟩)|(go_at_call 106;refine(lM _ _).mono ?_;rintro e w' ⟨rfl,rfl⟩))
     go_ret2
     refine⟨?_,rfl⟩;rw[HN.out];rfl
   ·have hq:((pos:Int)==(p:Int))=false:=by rw[aF];omega
    by_cases oy:Ch.bz s pos=59
    ·have HX:=Ch.vt oy HC.out;rw[FN Zz.out]at HX;have hq2:(Ch.bz s pos !=59)=false:=by rw[oy];rfl
     clear oy V8 hd V7;cases AY:Ch.may r
     ·rw[AY]at HX;have HN:=a_ (nY HX);clear HX;rcases hdd with hdd|hdd;all_goals
       go_wp2_with(first|(go_at_call 105;refine(ie _ _ _ hm (by omega)).mono ?_;rintro e w' ⟨rfl,rfl⟩;rw[bm])|(go_at_call 142;refine(jr _ _ (by omega) (by omega)).mono ?_;rintro e w' ⟨rfl,rfl⟩)|(go_at_call 106;refine(lM _ _).mono ?_;rintro e w' ⟨rfl,rfl⟩))
       go_ret2
       refine⟨?_,rfl⟩;rw[HN.out];rfl
     ·rw[AY,xE Zz.out AY]at HX;have HN:=a_ (BV HX);clear HX;rcases hdd with hdd|hdd;all_goals
       go_wp2_with(first|(go_at_call 105;refine(ie _ _ _ hm (by omega)).mono ?_;rintro e w' ⟨rfl,rfl⟩;rw[bm])|(go_at_call 142;refine(jr _ _ (by omega) (by omega)).mono ?_;rintro e w' ⟨rfl,rfl⟩)|(go_at_call 106;refine(lM _ _).mono ?_;rintro e w' ⟨rfl,rfl⟩))
       go_ret2
       refine⟨?_,rfl⟩;rw[HN.out];rfl
    ·have HN:=a_ (nY (Ch.zv oy (by omega) HC.out));have hq2:(Ch.bz s pos !=59)=true:=by rw[bne_iff_ne];exact oy
     clear oy V8 hd V7;rcases hdd with hdd|hdd;all_goals
      go_wp2_with(first|(go_at_call 105;refine(ie _ _ _ hm (by omega)).mono ?_;rintro e w' ⟨rfl,rfl⟩;rw[bm])|(go_at_call 142;refine(jr _ _ (by omega) (by omega)).mono ?_;rintro e w' ⟨rfl,rfl⟩)|(go_at_call 106;refine(lM _ _).mono ?_;rintro e w' ⟨rfl,rfl⟩))
      go_ret2
      refine⟨?_,rfl⟩;rw[HN.out];rfl
def jW(s:ByteArray)(i:Nat):List UInt8×Int:=if(Ch.eR s i).2=0 then([],-1)else(Lib.encodeRune (Ch.eR s i).1,(i:Int)+(Ch.eR s i).2)
theorem qE(s:ByteArray)(j:Int)(w:World)(hs:s.size<=1125899906842624)(h0:0<=j)(h1:j<=s.size):
  Z4 103 #[.string s,.int .i64 j,.int .i64 16] w (Z6 (.tuple #[.int .i64 (na s j.toNat 16).1,.int .i64 (na s j.toNat 16).2]) w):=by
 obtain⟨n,rfl⟩:=dS h0;rw[bm];exact FV s n w hs (by omega)
theorem qF(s:ByteArray)(j:Int)(w:World)(hs:s.size<=1125899906842624)(h0:0<=j)(h1:j<=s.size):
  Z4 103 #[.string s,.int .i64 j,.int .i64 10] w (Z6 (.tuple #[.int .i64 (na s j.toNat 10).1,.int .i64 (na s j.toNat 10).2]) w):=by
 obtain⟨n,rfl⟩:=dS h0;rw[bm];exact FT s n w hs (by omega)
theorem zy(s:ByteArray)(p:Nat)(b:Int)(hb:b<=16):((Ch.gj s p b).2=0/\na s p b=(0,-1))\/(¬(Ch.gj s p b).2=0/\0<=(na s p b).2/\(na s p b).1=(Ch.gj s p b).1/\(na s p b).2=(p:Int)+(Ch.gj s p b).2/\Ch.may (na s p b).1=true):=by
 by_cases h:(Ch.eX s b (s.size-p+1) p 0).2=0
 ·refine Or.inl ⟨by simp[Ch.gj,h],by simp[na,h]⟩
 ·obtain⟨h1,h2,h3,h4,h5⟩:=Ch.vy s b hb _ _ _ h;refine Or.inr ?_;have e1:na s p b=Ch.eX s b (s.size-p+1) p 0:=by simp[na,h]
  have e2:Ch.gj s p b=((Ch.eX s b (s.size-p+1) p 0).1,(Ch.eX s b (s.size-p+1) p 0).2-p):=by simp[Ch.gj,h]
  rw[e1,e2];refine⟨?_,by omega,rfl,?_,h1⟩<;>simp only<;>omega
set_option maxRecDepth 1000000 in
theorem V9(s:ByteArray)(i:Nat)(w:World)(hs:s.size<=1125899906842624)(hi:i<=s.size):
  Z4 74 #[.string s,.int .i64 i] w (Z7 (.tuple #[.string ⟨(jW s i).1.toArray⟩,.int .i64 (jW s i).2]) w):=by
 cases h0:Ch.has s i [38,108,116,59]
 rotate_left
 ·have hR:jW s i=([60],(i:Int)+4):=by
   have:Ch.eR s i=(60,4):=by simp[Ch.eR,h0]
   simp[jW,this];decide
  have HR:=a_ hR;clear hR;go_enter func74,ntmps74;go_wp2_with(go_at_call 102;refine(pg _ _ _ _ hs hi (by decide) (by decide)).mono ?_;rintro e w' ⟨rfl,rfl⟩)
  go_ret2
  refine⟨?_,Below.refl _ _⟩;rw[HR.out];rfl
 cases h1:Ch.has s i [38,103,116,59]
 rotate_left
 ·have hR:jW s i=([62],(i:Int)+4):=by
   have:Ch.eR s i=(62,4):=by simp[Ch.eR,h0,h1]
   simp[jW,this];decide
  have HR:=a_ hR;clear hR;go_enter func74,ntmps74;go_wp2_with(go_at_call 102;refine(pg _ _ _ _ hs hi (by decide) (by decide)).mono ?_;rintro e w' ⟨rfl,rfl⟩)
  go_ret2
  refine⟨?_,Below.refl _ _⟩;rw[HR.out];rfl
 cases h2:Ch.has s i [38,97,109,112,59]
 rotate_left
 ·have hR:jW s i=([38],(i:Int)+5):=by
   have:Ch.eR s i=(38,5):=by simp[Ch.eR,h0,h1,h2]
   simp[jW,this];decide
  have HR:=a_ hR;clear hR;go_enter func74,ntmps74;go_wp2_with(go_at_call 102;refine(pg _ _ _ _ hs hi (by decide) (by decide)).mono ?_;rintro e w' ⟨rfl,rfl⟩)
  go_ret2
  refine⟨?_,Below.refl _ _⟩;rw[HR.out];rfl
 cases h3:Ch.has s i [38,113,117,111,116,59]
 rotate_left
 ·have hR:jW s i=([34],(i:Int)+6):=by
   have:Ch.eR s i=(34,6):=by simp[Ch.eR,h0,h1,h2,h3]
   simp[jW,this];decide
  have HR:=a_ hR;clear hR;go_enter func74,ntmps74;go_wp2_with(go_at_call 102;refine(pg _ _ _ _ hs hi (by decide) (by decide)).mono ?_;rintro e w' ⟨rfl,rfl⟩)
  go_ret2
  refine⟨?_,Below.refl _ _⟩;rw[HR.out];rfl
 cases h4:Ch.has s i [38,97,112,111,115,59]
 rotate_left
 ·have hR:jW s i=([39],(i:Int)+6):=by
   have:Ch.eR s i=(39,6):=by simp[Ch.eR,h0,h1,h2,h3,h4]
   simp[jW,this];decide
  have HR:=a_ hR;clear hR;go_enter func74,ntmps74;go_wp2_with(go_at_call 102;refine(pg _ _ _ _ hs hi (by decide) (by decide)).mono ?_;rintro e w' ⟨rfl,rfl⟩)
  go_ret2
  refine⟨?_,Below.refl _ _⟩;rw[HR.out];rfl
 cases h5:Ch.has s i [38,35,120]
 rotate_left
 ·have hsz:=Ch.rk h5 (by decide);simp only[ag,aq]at hsz;have hj:((i:Int)+3).toNat=i+3:=by omega
  have HJ:=a_ hj;clear hj;rcases zy s (i+3) 16 (by decide)with⟨hz,hn⟩|⟨hz,AV,x9,tK,hm⟩
  ·have hR:jW s i=([],-1):=by
    have:(Ch.eR s i).2=0:=by simp[Ch.eR,h0,h1,h2,h3,h4,h5,hz]
    simp[jW,this]
   have HR:=a_ hR;have HN:=a_ hn;clear hR hn hz;go_enter func74,ntmps74;go_wp2_with(first|(go_at_call 102;refine(pg _ _ _ _ hs hi (by decide) (by decide)).mono ?_;rintro e w' ⟨rfl,rfl⟩)|(go_at_call 103;refine(qE _ _ _ hs (by omega) (by omega)).mono ?_;rintro e w' ⟨rfl,rfl⟩;rw[HJ.out,HN.out]))
   go_ret2
   refine⟨?_,Below.refl _ _⟩;rw[HR.out];rfl
  ·have hR:jW s i=(Lib.encodeRune (na s (i+3) 16).1,(na s (i+3) 16).2):=by
    have h1:Ch.eR s i=((Ch.gj s (i+3) 16).1,3+(Ch.gj s (i+3) 16).2):=by simp[Ch.eR,h0,h1,h2,h3,h4,h5,hz]
    have hsp:=Ch.uu (by decide) hz;have h2:¬(Ch.eR s i).2=0:=by rw[h1];simp only;omega
    unfold jW;rw[if_neg h2,h1,x9,tK];simp only;congr 1;omega
   have HR:=a_ hR;clear hR x9 tK hz;have HM:=a_ hm;clear hm;generalize hX:na s (i+3) 16=X at*
   have HX:=a_ hX;clear hX;go_enter func74,ntmps74;go_wp2_with(first|(go_at_call 102;refine(pg _ _ _ _ hs hi (by decide) (by decide)).mono ?_;rintro e w' ⟨rfl,rfl⟩)|(go_at_call 103;refine(qE _ _ _ hs (by omega) (by omega)).mono ?_;rintro e w' ⟨rfl,rfl⟩;rw[HJ.out,HX.out])|(go_at_call 104;refine(BU _ _ HM.out).mono ?_;rintro e w1 ⟨rfl,b1⟩))
   go_ret2
   refine⟨?_,b1⟩;rw[HR.out];rfl
 cases h6:Ch.has s i [38,35]
 rotate_left
 ·have hsz:=Ch.rk h6 (by decide);simp only[ag,aq]at hsz;have hj:((i:Int)+2).toNat=i+2:=by omega
  have HJ:=a_ hj;clear hj;rcases zy s (i+2) 10 (by decide)with⟨hz,hn⟩|⟨hz,AV,x9,tK,hm⟩
  ·have hR:jW s i=([],-1):=by
    have:(Ch.eR s i).2=0:=by simp[Ch.eR,h0,h1,h2,h3,h4,h5,h6,hz]
    simp[jW,this]
   have HR:=a_ hR;have HN:=a_ hn;clear hR hn hz;go_enter func74,ntmps74;go_wp2_with(first|(go_at_call 102;refine(pg _ _ _ _ hs hi (by decide) (by decide)).mono ?_;rintro e w' ⟨rfl,rfl⟩)|(go_at_call 103;refine(qF _ _ _ hs (by omega) (by omega)).mono ?_;rintro e w' ⟨rfl,rfl⟩;rw[HJ.out,HN.out]))
   go_ret2
   refine⟨?_,Below.refl _ _⟩;rw[HR.out];rfl
  ·have hR:jW s i=(Lib.encodeRune (na s (i+2) 10).1,(na s (i+2) 10).2):=by
    have h1:Ch.eR s i=((Ch.gj s (i+2) 10).1,2+(Ch.gj s (i+2) 10).2):=by simp[Ch.eR,h0,h1,h2,h3,h4,h5,h6,hz]
    have hsp:=Ch.uu (by decide) hz;have h2:¬(Ch.eR s i).2=0:=by rw[h1];simp only;omega
    unfold jW;rw[if_neg h2,h1,x9,tK];simp only;congr 1;omega
   have HR:=a_ hR;clear hR x9 tK hz;have HM:=a_ hm;clear hm;generalize hX:na s (i+2) 10=X at*
   have HX:=a_ hX;clear hX;go_enter func74,ntmps74;go_wp2_with(first|(go_at_call 102;refine(pg _ _ _ _ hs hi (by decide) (by decide)).mono ?_;rintro e w' ⟨rfl,rfl⟩)|(go_at_call 103;refine(qF _ _ _ hs (by omega) (by omega)).mono ?_;rintro e w' ⟨rfl,rfl⟩;rw[HJ.out,HX.out])|(go_at_call 104;refine(BU _ _ HM.out).mono ?_;rintro e w1 ⟨rfl,b1⟩))
   go_ret2
   refine⟨?_,b1⟩;rw[HR.out];rfl
 have hR:jW s i=([],-1):=by
  have:Ch.eR s i=(0,0):=by simp[Ch.eR,h0,h1,h2,h3,h4,h5,h6]
  simp[jW,this]
 have HR:=a_ hR;clear hR;go_enter func74,ntmps74;go_wp2_with(go_at_call 102;refine(pg _ _ _ _ hs hi (by decide) (by decide)).mono ?_;rintro e w' ⟨rfl,rfl⟩)
 go_ret2
 refine⟨?_,Below.refl _ _⟩;rw[HR.out];rfl
end K
end Go.Proofs.YtjecakcpcnmieaaGreatDoor
namespace Go.Proofs.YtjecakcpcnmieaaGreatDoor
namespace K.Ch
open Go.Proofs.YtjecakcpcnmieaaGreatDoor.Ch
open Go
theorem FW{s t:ByteArray}{i j:Nat}(h0:bz s i=bz t j)(yy:128<=bz s i)
  (h1:cont s (i+1)->bz s (i+1)=bz t (j+1)) (n1:¬cont s (i+1)->¬cont t (j+1))
  (h2:cont s (i+1)->cont s (i+2)->bz s (i+2)=bz t (j+2)) (n2:cont s (i+1)->¬cont s (i+2)->¬cont t (j+2))
  (h3:cont s (i+1)->cont s (i+2)->cont s (i+3)->bz s (i+3)=bz t (j+3)) (n3:cont s (i+1)->cont s (i+2)->¬cont s (i+3)->¬cont t (j+3)):
  Utf8.decode t j=Utf8.decode s i:=by
 have c1:∀(h:cont s (i+1)),cont t (j+1):=fun h=>by unfold cont at*;rw[<-h1 h];exact h
 have c2:∀(h:cont s (i+1)),cont s (i+2)->cont t (j+2):=fun h k=>by unfold cont at*;rw[<-h2 h k];exact k
 have c3:∀(h:cont s (i+1)),cont s (i+2)->cont s (i+3)->cont t (j+3):=fun h k l=>by unfold cont at*;rw[<-h3 h k l];exact l
 by_cases a2:bz s i<192
 ·rw[fS (Or.inl ⟨yy,a2⟩),fS (Or.inl ⟨by omega,by omega⟩)]
 by_cases a3:bz s i<224
 ·by_cases k1:cont s (i+1)
  ·rw[iR (by omega) a3 k1,iR (by omega) (by omega) (c1 k1)];simp only[acc,ay,h0,h1 k1]
  ·rw[ik (by omega) a3 k1,ik (by omega) (by omega) (n1 k1)]
 by_cases a4:bz s i<240
 ·by_cases k1:cont s (i+1)
  ·by_cases k2:cont s (i+2)
   ·rw[gM (by omega) a4 k1 k2,gM (by omega) (by omega) (c1 k1) (c2 k1 k2)];simp only[acc,ay,Nat.reduceAdd,h0,h1 k1,h2 k1 k2]
   ·rw[fA (by omega) a4 (Or.inr k2),fA (by omega) (by omega) (Or.inr (n2 k1 k2))]
  ·rw[fA (by omega) a4 (Or.inl k1),fA (by omega) (by omega) (Or.inl (n1 k1))]
 by_cases a5:bz s i<248
 ·by_cases k1:cont s (i+1)
  ·by_cases k2:cont s (i+2)
   ·by_cases k3:cont s (i+3)
    ·rw[iy (by omega) a5 k1 k2 k3,iy (by omega) (by omega) (c1 k1) (c2 k1 k2) (c3 k1 k2 k3)];simp only[acc,ay,Nat.reduceAdd,h0,h1 k1,h2 k1 k2,h3 k1 k2 k3]
    ·rw[fh (by omega) a5 (Or.inr (Or.inr k3)),fh (by omega) (by omega) (Or.inr (Or.inr (n3 k1 k2 k3)))]
   ·rw[fh (by omega) a5 (Or.inr (Or.inl k2)),fh (by omega) (by omega) (Or.inr (Or.inl (n2 k1 k2)))]
  ·rw[fh (by omega) a5 (Or.inl k1),fh (by omega) (by omega) (Or.inl (n1 k1))]
 ·rw[fS (Or.inr (by omega)),fS (Or.inr (by omega))]
def txt(l:List UInt8):ByteArray:=⟨l.toArray⟩
theorem wP(l:List UInt8)(i:Nat):bz (txt l) i=(match l[i]? with|some c=>(c.toNat:Int)|none=> -1):=by
 unfold bz;have hs:(txt l).size=l.length:=by show l.toArray.size=_;simp
 rw[hs];by_cases h:i<l.length
 ·rw[if_pos h,aw h];have h2:i<(txt l).size:=by rw[hs];exact h
  have e:(txt l).get! i=(txt l)[i]:=by simp[ByteArray.get!,h2];rfl
  rw[e];have e2:(txt l)[i]=l[i]:=rfl;rw[e2];rfl
 ·rw[if_neg h,List.getElem?_eq_none (by omega)]
theorem Rw(s:ByteArray):txt s.data.toList=s:=rfl
theorem lR(c:UInt8)(l:List UInt8)(k:Nat):bz (txt (c::l)) (k+1)=bz (txt l) k:=by rw[wP,wP];rfl
theorem lT(c:UInt8)(l:List UInt8):bz (txt (c::l)) 0=(c.toNat:Int):=by rw[wP];rfl
theorem qd{s t:ByteArray}{i j:Nat}(hi:i<s.size)(h:∀k,bz s (i+k)=bz t (j+k)):Utf8.decode t j=Utf8.decode s i:=by
 have h0:=h 0;simp only[bH]at h0;have hs0:0<=bz s i:=by unfold bz;rw[if_pos hi];omega
 by_cases ha:bz s i<128
 ·rw[g_ hs0 ha,g_ (by omega) (by omega),h0]
 ·have hc:∀k,cont s (i+k)↔cont t (j+k):=fun k=>by unfold cont;rw[h k]
  exact FW h0 (by omega) (fun _=>h 1) (fun n q=>n ((hc 1).2 q)) (fun _ _=>h 2) (fun _ n q=>n ((hc 2).2 q)) (fun _ _ _=>h 3) (fun _ _ n q=>n ((hc 3).2 q))
theorem JG{q:Bool}{c:UInt8}(h:iM (c.toNat:Int) q=[]):rp q c=[c]:=by simp[rp,h]
theorem Rx{q:Bool}{c:UInt8}(h:¬iM (c.toNat:Int) q=[]):rp q c=iM (c.toNat:Int) q:=by simp[rp,h]
theorem FX{r:Int}{q:Bool}(h:¬iM r q=[]):∃l,iM r q=38::l:=by
 unfold iM at*
 repeat' split
 all_goals simp_all
theorem ng(l:List UInt8):(txt l).size=l.length:=by
 show l.toArray.size=_;simp
theorem Ry(q:Bool)(c:UInt8):1<=(rp q c).length:=by
 by_cases h:iM (c.toNat:Int) q=[]
 ·rw[JG h];simp
 ·obtain⟨l,hl⟩:=FX h;rw[Rx h,hl];simp
theorem sA(q:Bool)(L:List UInt8):L.length<=(h_ q L).length:=by
 induction L with
 |nil=>simp[h_]
 |cons c L ih=>
  have:=Ry q c;have e:h_ q (c::L)=rp q c++h_ q L:=by simp[h_]
  rw[e];simp;omega
theorem L0{s t:ByteArray}{i j:Nat}(h:Utf8.decode t j=Utf8.decode s i):gY t j=gY s i:=by unfold gY;rw[h]
section
section
variable{a b ab:ByteArray}
theorem xF(s:ByteArray):∀f p,p<=s.size->p<=fW s f p:=by
 intro f;induction f with
 |zero=>intro p _;exact ah _
 |succ f ih=>
  intro p hp;rw[fW.eq_2];by_cases h:p<s.size
  ·have hw:=fk s p h;rw[if_pos h];split
   ·have:=ih (p+(Utf8.decode s p).2) hw.1;omega
   ·omega
  ·rw[if_neg h];exact hp
theorem q_(s:ByteArray):∀f p,p<=s.size->fW s f p<=s.size:=by
 intro f;induction f with
 |zero=>intro p h;exact h
 |succ f ih=>
  intro p h;rw[fW.eq_2];by_cases hp:p<s.size
  ·rw[if_pos hp];split
   ·exact ih _ (fk s p hp).1
   ·exact h
  ·rw[if_neg hp];exact ah _
end
end
theorem mj(r:Int):Utf8.valid r=true↔(0<=r/\r<55296)\/(57343<r/\r<=1114111):=by simp only[Utf8.valid,bw,aY,ba];omega
theorem sB{c:Int}(hv:Utf8.valid c=true):Utf8.encode c=txt (Lib.encodeRune c):=by
 have h:=(mj c).1 hv;unfold Utf8.encode;simp only[hv,if_true];obtain⟨n,rfl⟩:∃n:Nat,c=n:=⟨c.toNat,by omega⟩
 have e1:(n:Int).toNat=n:=by omega
 rw[e1];simp only[txt,Lib.encodeRune];by_cases a1:n<128
 ·rw[if_pos a1,Lib.encodeRuneZ_one (by omega) (by omega)];simp
 rw[if_neg a1];by_cases a2:n<2048
 ·rw[if_pos a2,Lib.encodeRuneZ_two (by omega) (by omega)];have e2:((192:Int)+(n:Int)/64).toNat=192+n/64:=by omega
  have e3:((128:Int)+(n:Int)%64).toNat=128+n%64:=by omega
  simp[e2,e3]
 rw[if_neg a2];by_cases a3:n<65536
 ·rw[if_pos a3,Lib.encodeRuneZ_three (by omega)];have e2:((224:Int)+(n:Int)/4096).toNat=224+n/4096:=by omega
  have e3:((128:Int)+(n:Int)/64%64).toNat=128+n/64%64:=by omega
  have e4:((128:Int)+(n:Int)%64).toNat=128+n%64:=by omega
  simp[e2,e3,e4]
 ·rw[if_neg a3,Lib.encodeRuneZ_four (by omega) (by omega)];have e2:((240:Int)+(n:Int)/262144).toNat=240+n/262144:=by omega
  have e5:((128:Int)+(n:Int)/4096%64).toNat=128+n/4096%64:=by omega
  have e3:((128:Int)+(n:Int)/64%64).toNat=128+n/64%64:=by omega
  have e4:((128:Int)+(n:Int)%64).toNat=128+n%64:=by omega
  simp[e2,e3,e4,e5]
theorem mS{x:Int}(h0:0<=x)(h1:x<256):((x.toNat.toUInt8).toNat:Int)=x:=by
 have:x.toNat.toUInt8.toNat=x.toNat:=by simp;omega
 omega
theorem yz{c:Int}(hv:Utf8.valid c=true)(l:List UInt8):Utf8.decode (txt (Lib.encodeRune c++l)) 0=(c.toNat,(Lib.encodeRune c).length):=by
 have h:=(mj c).1 hv;by_cases a1:c<128
 ·have e:Lib.encodeRune c=[c.toNat.toUInt8]:=by simp[Lib.encodeRune,Lib.encodeRuneZ_one (show 0<=c by omega) (show c<=127 by omega)]
  rw[e];have b0:bz (txt ([c.toNat.toUInt8]++l)) 0=c:=by
   show bz (txt (c.toNat.toUInt8::l)) 0=c;rw[lT];exact mS (by omega) (by omega)
  rw[g_ (by omega) (by omega),b0];rfl
 by_cases a2:c<2048
 ·have e:Lib.encodeRune c=[(192+c/64).toNat.toUInt8,(128+c%64).toNat.toUInt8]:=by simp[Lib.encodeRune,Lib.encodeRuneZ_two (show 128<=c by omega) (show c<=2047 by omega)]
  rw[e];generalize hs:txt ([(192+c/64).toNat.toUInt8,(128+c%64).toNat.toUInt8]++l)=s;have b0:bz s 0=192+c/64:=by rw[<-hs];exact(lT _ _).trans (mS (by omega) (by omega))
  have b1:bz s 1=128+c%64:=by rw[<-hs];exact((lR _ _ 0).trans (lT _ _)).trans (mS (by omega) (by omega))
  rw[iR (by omega) (by omega) (by show cont s 1;unfold cont;omega)];have ea:acc s 0 (bz s 0-192) 1=c:=by simp only[acc,b0,b1,ay];omega
  rw[ea,if_pos (by omega)];rfl
 by_cases a3:c<65536
 ·have e:Lib.encodeRune c=[(224+c/4096).toNat.toUInt8,(128+c/64%64).toNat.toUInt8,(128+c%64).toNat.toUInt8]:=by simp[Lib.encodeRune,Lib.encodeRuneZ_three (show (2048<=c/\c<55296)\/(57343<c/\c<=65535) by omega)]
  rw[e];generalize hs:txt ([(224+c/4096).toNat.toUInt8,(128+c/64%64).toNat.toUInt8,(128+c%64).toNat.toUInt8]++l)=s;have b0:bz s 0=224+c/4096:=by rw[<-hs];exact(lT _ _).trans (mS (by omega) (by omega))
  have b1:bz s 1=128+c/64%64:=by rw[<-hs];exact((lR _ _ 0).trans (lT _ _)).trans (mS (by omega) (by omega))
  have b2:bz s 2=128+c%64:=by rw[<-hs];exact((lR _ _ 1).trans ((lR _ _ 0).trans (lT _ _))).trans (mS (by omega) (by omega))
  rw[gM (by omega) (by omega) (by show cont s 1;unfold cont;omega) (by show cont s 2;unfold cont;omega)];have ea:acc s 0 (bz s 0-224) 2=c:=by simp only[acc,b0,b1,b2,ay,Nat.reduceAdd];omega
  rw[ea,if_pos ⟨by omega,hv⟩];rfl
 ·have e:Lib.encodeRune c=[(240+c/262144).toNat.toUInt8,(128+c/4096%64).toNat.toUInt8,(128+c/64%64).toNat.toUInt8,(128+c%64).toNat.toUInt8]:=by simp[Lib.encodeRune,Lib.encodeRuneZ_four (show 65536<=c by omega) (show c<=1114111 by omega)]
  rw[e];generalize hs:txt ([(240+c/262144).toNat.toUInt8,(128+c/4096%64).toNat.toUInt8,(128+c/64%64).toNat.toUInt8,(128+c%64).toNat.toUInt8]++l)=s;have b0:bz s 0=240+c/262144:=by rw[<-hs];exact(lT _ _).trans (mS (by omega) (by omega))
  have b1:bz s 1=128+c/4096%64:=by rw[<-hs];exact((lR _ _ 0).trans (lT _ _)).trans (mS (by omega) (by omega))
  have b2:bz s 2=128+c/64%64:=by rw[<-hs];exact((lR _ _ 1).trans ((lR _ _ 0).trans (lT _ _))).trans (mS (by omega) (by omega))
  have b3:bz s 3=128+c%64:=by rw[<-hs];exact((lR _ _ 2).trans ((lR _ _ 1).trans ((lR _ _ 0).trans (lT _ _)))).trans (mS (by omega) (by omega))
  rw[iy (by omega) (by omega) (by show cont s 1;unfold cont;omega) (by show cont s 2;unfold cont;omega) (by show cont s 3;unfold cont;omega)];have ea:acc s 0 (bz s 0-240) 3=c:=by simp only[acc,b0,b1,b2,b3,ay,Nat.reduceAdd];omega
  rw[ea,if_pos ⟨by omega,hv⟩];rfl
theorem DI(c:Int):1<=(Lib.encodeRune c).length:=by
 simp only[Lib.encodeRune,Lib.encodeRuneZ,cC]
 repeat' split
 all_goals simp
theorem Rz{c:Int}(hm:may c=true)(l:List UInt8):gY (txt (Lib.encodeRune c++l)) 0=true:=by
 have hv:=il hm;have h:=(mj c).1 hv;unfold gY;rw[yz hv];have e:((c.toNat:Nat):Int)=c:=by omega
 simp only[e,hm,cN,bw,bne_iff_ne,ne_eq,bA];by_cases h3:c.toNat=65533
 ·right;have:c=65533:=by omega
  subst this;decide
 ·exact Or.inl h3
theorem FY{c:Int}(hm:may c=true):(0<name (txt (Lib.encodeRune c)))↔fw c=true:=by
 have hv:=il hm;have h:=(mj c).1 hv;have hd:=yz hv [];have ho:=Rz hm [];have hp:=DI c;have e:((c.toNat:Nat):Int)=c:=by omega
 rw[aO]at hd ho;generalize hs:txt (Lib.encodeRune c)=s at*
 have hl:s.size=(Lib.encodeRune c).length:=by rw[<-hs];exact ng _
 unfold name fW;rw[if_pos (by omega)];have hi:jN s 0=fw c:=by simp[jN,ho,hd,e]
 rw[hi];cases hb:fw c
 ·simp
 ·simp only[if_true,iff_true];have:=xF s s.size (0+(Utf8.decode s 0).2) (by rw[hd];simp;omega);rw[hd]at this ⊢;simp only at this ⊢;omega
theorem Ny{c:Int}(hm:may c=true):(1<name (txt (95::Lib.encodeRune c)))↔(fw c||gz c)=true:=by
 have hv:=il hm;have h:=(mj c).1 hv;have hd:=yz hv [];have ho:=Rz hm [];have hp:=DI c;have e:((c.toNat:Nat):Int)=c:=by omega
 rw[aO]at hd ho;generalize hs:txt (95::Lib.encodeRune c)=s;have hl:s.size=(Lib.encodeRune c).length+1:=by rw[<-hs];exact ng _
 have b0:bz s 0=95:=by rw[<-hs];exact lT _ _
 have hd0:Utf8.decode s 0=(95,1):=by rw[g_ (by omega) (by omega),b0];rfl
 have hd1:Utf8.decode s 1=Utf8.decode (txt (Lib.encodeRune c)) 0:=by
  refine qd (by rw[ng];omega) ?_;intro k;rw[<-hs,show 1+k=k+1 by omega,lR,ay]
 have ho1:gY s 1=true:=by rw[L0 hd1];exact ho
 have ho0:gY s 0=true:=by unfold gY;rw[hd0];decide
 have x_:jN s 0=true:=by simp only[jN,ho0,hd0];decide
 have EZ:jN s 1=(fw c||gz c):=by simp[jN,ho1,hd1,hd,e]
 unfold name fW;rw[if_pos (by omega),x_,if_pos rfl,hd0,show s.size=((Lib.encodeRune c).length)+1 from hl];show 1<fW s _ 1↔_;unfold fW;rw[if_pos (by omega),EZ];cases hb:(fw c||gz c)
 ·simp
 ·simp only[if_true,iff_true];have:=xF s (Lib.encodeRune c).length (1+(Utf8.decode s 1).2) (by rw[hd1,hd];simp;omega);rw[hd1,hd]at this ⊢;simp only at this ⊢;omega
end K.Ch
end Go.Proofs.YtjecakcpcnmieaaGreatDoor
