import Derived.Test.YthlcmljckpdheaaGreatDoorHA
import Derived.Shelf.Small.Wraps
import Derived.Shelf.Strings.BuilderK
import Derived.Shelf.Strings.BuilderRune
import Derived.Shelf.Strings.Prefix
import Derived.Shelf.Unicode.DecodeAny
import Derived.Test.YthlcmljckpdheaaGreatDoorProg
import Derived.WalkKit
import Derived.WalkSpells
import Derived.Outline
import Derived.BigCall
import Derived.Lib.RuneBytes
import Derived.BigQuiet
import Derived.Deep.QuietTactic
import Derived.Laws.BytesArg
import Derived.Test.YthlcmljckpdheaaGreatDoorHaa
set_option linter.unusedVariables false
set_option linter.unusedSimpArgs false
set_option maxHeartbeats 32000000
set_option maxRecDepth 100000
namespace Go.Proofs
open Go.Shelf
def Tryz.lays169_ren:Go.Shelf.Ren:=⟨fun|169=>46|n=>n,fun|70=>126|9=>9|0=>0|72=>128|37=>101|127=>180|3=>3|5=>5|n=>n,fun|n=>n⟩
theorem Tryz.lays169:Go.Proofs.Lays.n169 Tryz.prog Tryz.lays169_ren:={
 mixed:=by kernel_rfl
 f169:=Tryz.func46.trans (aA some (by kernel_rfl))
 t0:=Tryz.underlying0
 a0:=Tryz.isAgg0
 z0:=Tryz.sizeOf0
 v0:=Tryz.zeroValue0
 t3:=Tryz.underlying3
 a3:=Tryz.isAgg3
 z3:=Tryz.sizeOf3
 v3:=Tryz.zeroValue3
 t9:=Tryz.underlying9
 a9:=Tryz.isAgg9
 z9:=Tryz.sizeOf9
 v9:=Tryz.zeroValue9
 t37:=Tryz.underlying101
 a37:=Tryz.isAgg101
 z37:=Tryz.sizeOf101
 v37:=Tryz.zeroValue101
 t70:=Tryz.underlying126
 a70:=Tryz.isAgg126
 z70:=Tryz.sizeOf126
 v70:=Tryz.zeroValue126
 t72:=Tryz.underlying128
 a72:=Tryz.isAgg128
 z72:=Tryz.sizeOf128
 v72:=Tryz.zeroValue128
 t127:=Tryz.underlying180
 a127:=Tryz.isAgg180
 z127:=Tryz.sizeOf180
 v127:=Tryz.zeroValue180}
theorem Tryz.Builder_Extra_169:Builder.Extra Tryz.prog Tryz.lays169_ren:={
 sizeBuilder:=by kernel_rfl
 liesBuilder:=by kernel_rfl
 t5:=Tryz.underlying5
 a5:=Tryz.isAgg5
 z5:=Tryz.sizeOf5
 v5:=Tryz.zeroValue5
 infoByte:=by kernel_rfl
 cellsByte:=by kernel_rfl
 sizeByte:=by kernel_rfl
 neB5:=by decide}
open Go.RowKit in
theorem Tryz.Builder_String_any_k(B b:Nat)(l:List UInt8)(w:World)(h:Lib.IsBuilderF 128 5 B b (Lib.byteCells l) w)(vt:B<=w.heap.size):
 Calls Tryz.prog 46 #[.pointer (some ⟨b,0,none⟩)] w fun e w'=>e=.returned (.string ⟨l.toArray⟩)/\(Lib.IsBuilderF 128 5 B b (Lib.byteCells l) w'/\Below B w w'/\Lib.OthersKept 5 (some b) w w'):=Any.Builder_String_any_k Tryz.lays169 Tryz.Builder_Extra_169 B b l w h vt
def Tryz.lays103_ren:Go.Shelf.Ren:=⟨fun|103=>50|210=>89|206=>132|n=>n,fun|9=>9|4=>4|24=>149|3=>3|n=>n,fun|n=>n⟩
theorem Tryz.lays103:Go.Proofs.Lays.n103 Tryz.prog Tryz.lays103_ren:={
 mixed:=by kernel_rfl
 f103:=Tryz.func50.trans (aA some (by kernel_rfl))
 f206:=Tryz.func132.trans (aA some (by kernel_rfl))
 f210:=Tryz.func89.trans (aA some (by kernel_rfl))
 t3:=Tryz.underlying3
 a3:=Tryz.isAgg3
 z3:=Tryz.sizeOf3
 v3:=Tryz.zeroValue3
 t4:=Tryz.underlying4
 a4:=Tryz.isAgg4
 z4:=Tryz.sizeOf4
 v4:=Tryz.zeroValue4
 t9:=Tryz.underlying9
 a9:=Tryz.isAgg9
 z9:=Tryz.sizeOf9
 v9:=Tryz.zeroValue9
 t24:=Tryz.underlying149
 a24:=Tryz.isAgg149
 z24:=Tryz.sizeOf149
 v24:=Tryz.zeroValue149}
open Go.RowKit in
theorem Tryz.strings_CutPrefix(s p:ByteArray)(w:World):
 Calls Tryz.prog 50 #[.string s,.string p] w fun e w'=>e=.returned (.tuple #[.string ⟨(Lib.trimPrefix s.data.toList p.data.toList).toArray⟩,.bool (Lib.hasPrefix s.data.toList p.data.toList)])/\w'=w:=Any.strings_CutPrefix Tryz.lays103 s p w
def Tryz.lays197_ren:Go.Shelf.Ren:=⟨fun|197=>159|260=>198|n=>n,fun|9=>9|21=>21|3=>3|4=>4|5=>5|105=>243|119=>285|0=>0|46=>278|139=>288|138=>287|n=>n,fun|3=>4|4=>5|n=>n⟩
theorem Tryz.lays197:Go.Proofs.Lays.n197 Tryz.prog Tryz.lays197_ren:={
 mixed:=by kernel_rfl
 f197:=Tryz.func159.trans (aA some (by kernel_rfl))
 f260:=Tryz.func198.trans (aA some (by kernel_rfl))
 t0:=Tryz.underlying0
 a0:=Tryz.isAgg0
 z0:=Tryz.sizeOf0
 v0:=Tryz.zeroValue0
 t3:=Tryz.underlying3
 a3:=Tryz.isAgg3
 z3:=Tryz.sizeOf3
 v3:=Tryz.zeroValue3
 t4:=Tryz.underlying4
 a4:=Tryz.isAgg4
 z4:=Tryz.sizeOf4
 v4:=Tryz.zeroValue4
 t5:=Tryz.underlying5
 a5:=Tryz.isAgg5
 z5:=Tryz.sizeOf5
 v5:=Tryz.zeroValue5
 t9:=Tryz.underlying9
 a9:=Tryz.isAgg9
 z9:=Tryz.sizeOf9
 v9:=Tryz.zeroValue9
 t21:=Tryz.underlying21
 a21:=Tryz.isAgg21
 z21:=Tryz.sizeOf21
 v21:=Tryz.zeroValue21
 t46:=Tryz.underlying278
 a46:=Tryz.isAgg278
 z46:=Tryz.sizeOf278
 v46:=Tryz.zeroValue278
 t105:=Tryz.underlying243
 a105:=Tryz.isAgg243
 z105:=Tryz.sizeOf243
 v105:=Tryz.zeroValue243
 t119:=Tryz.underlying285
 a119:=Tryz.isAgg285
 z119:=Tryz.sizeOf285
 t138:=Tryz.underlying287
 a138:=Tryz.isAgg287
 z138:=Tryz.sizeOf287
 v138:=Tryz.zeroValue287
 t139:=Tryz.underlying288
 a139:=Tryz.isAgg288
 z139:=Tryz.sizeOf288
 v139:=Tryz.zeroValue288
 g3:=by kernel_rfl
 g4:=by kernel_rfl}
open Go.RowKit Go.Lib in
theorem Tryz.utf8_DecodeRuneInString(s:ByteArray)(w:World)(hT:Lib.Utf8Tabs 4 5 w):
 Calls Tryz.prog 159 #[.string s] w fun e w'=>e=.returned (.tuple #[.int .i32 (Lib.decodeGo s).1,.int .i64 (Lib.decodeGo s).2])/\Below w.heap.size w w':=Any.utf8_DecodeRuneInString Tryz.lays197 s w hT
def Tryz.lays242_ren:Go.Shelf.Ren:=⟨fun|242=>103|278=>157|n=>n,fun|37=>101|21=>21|51=>246|4=>4|5=>5|46=>278|72=>128|n=>n,fun|n=>n⟩
theorem Tryz.lays242:Go.Proofs.Lays.n242 Tryz.prog Tryz.lays242_ren:={
 mixed:=by kernel_rfl
 f242:=Tryz.func103.trans (aA some (by kernel_rfl))
 f278:=Tryz.func157.trans (aA some (by kernel_rfl))
 t4:=Tryz.underlying4
 a4:=Tryz.isAgg4
 z4:=Tryz.sizeOf4
 v4:=Tryz.zeroValue4
 t5:=Tryz.underlying5
 a5:=Tryz.isAgg5
 z5:=Tryz.sizeOf5
 v5:=Tryz.zeroValue5
 t21:=Tryz.underlying21
 a21:=Tryz.isAgg21
 z21:=Tryz.sizeOf21
 v21:=Tryz.zeroValue21
 t37:=Tryz.underlying101
 a37:=Tryz.isAgg101
 z37:=Tryz.sizeOf101
 v37:=Tryz.zeroValue101
 t46:=Tryz.underlying278
 a46:=Tryz.isAgg278
 z46:=Tryz.sizeOf278
 v46:=Tryz.zeroValue278
 t51:=Tryz.underlying246
 a51:=Tryz.isAgg246
 z51:=Tryz.sizeOf246
 v51:=Tryz.zeroValue246}
theorem Tryz.Builder_Extra_242:Builder.Extra Tryz.prog Tryz.lays242_ren where
 sizeBuilder:=by kernel_rfl
 liesBuilder:=by kernel_rfl
 t5:=Tryz.underlying5
 a5:=Tryz.isAgg5
 z5:=Tryz.sizeOf5
 v5:=Tryz.zeroValue5
 infoByte:=by kernel_rfl
 cellsByte:=by kernel_rfl
 sizeByte:=by kernel_rfl
 neB5:=by decide
theorem Tryz.utf8_AppendRune_own(B:Nat)(v:Value)(n:Nat)(xs:List Value)(r:Int)(WU: -2147483648<=r)(hr1:r<=2147483647)(w:World)(hown:w.ownsRowF B 5 1 v n xs)(hlen:n+4<=140737488355328)(vt:B<=w.heap.size):
  Calls Tryz.prog 103 #[v,.int .i32 r] w fun e w'=>∃v',e=.returned v'/\w'.ownsRowF B 5 1 v' (n+(Lib.runeCells r).length) (xs++Lib.runeCells r)/\∃o,(w.alloc o).grownBy w' v.ownBlock:=
 Any.utf8_AppendRune_own Tryz.lays242 Tryz.Builder_Extra_242 B v n xs r WU hr1 w hown hlen vt
end Go.Proofs
namespace Go.Proofs.YthlcmljckpdheaaGreatDoor
namespace K
open Go.RowKit Tryz
theorem pO(r:Int)(w:World)(h0: -2147483648<=r)(h1:r<=2147483647):
  Z4 224 #[.int .i32 r] w (Z6 (.int .i32 (Ch.mM 16 r)) w):=by
 go_enter func224,ntmps224;go_wp2;all_goals go_ret
 all_goals refine⟨ld ?_,rfl⟩
 all_goals unfold Ch.mM
 all_goals repeat' split
 all_goals omega
theorem ji(r:Int)(w:World)(h0: -2147483648<=r)(h1:r<=2147483647):
  Z4 171 #[.int .i64 r] w (Z6 (.int .i64 (Ch.mM (-1) r)) w):=by
 go_enter func171,ntmps171;go_wp2;all_goals go_ret
 all_goals refine⟨ld ?_,rfl⟩
 all_goals unfold Ch.mM
 all_goals repeat' split
 all_goals omega
theorem O3:∃j,prog.info? 128=some j/\j.size=2:=Option.map_eq_some_iff.1 Tryz.Builder_Extra_242.sizeBuilder
theorem yq(b:Nat)(w:World)(c0:w.cell? ⟨b,0,none⟩=some (Z8 b)):
  Z4 85 #[Z8 b] w (Z6 (.tuple #[]) w):=by
 obtain⟨j,hj,_⟩:=O3;go_enter func85,ntmps85;go_wp2;rw[Lib.run_neq_ptr_same w _ underlying126 hj];go_wp2
 go_end0
 exact⟨rfl,rfl⟩
theorem xd(b:Nat)(w:World)(c0:w.cell? ⟨b,0,none⟩=some (.pointer none))(Ju:w.shape? b=some (128,2))(f0:w.frozen? ⟨b,0,none⟩=false):
  Z4 85 #[Z8 b] w fun e w'=>e=.returned (.tuple #[])/\w'=w.setCell ⟨b,0,none⟩ (Z8 b):=by
 obtain⟨j,hj,hjs⟩:=O3;go_enter func85,ntmps85;go_wp2;rw[Lib.run_to_unsafe w ⟨b,0,none⟩ underlying126 underlying207 hj (by rw[hjs];decide) Ju (Nat.zero_lt_succ 1)];simp only[Result.andThen];rw[cY];go_wp2;rw[run_callFunc_extern func127 (by kernel_rfl) (by kernel_rfl) (by kernel_rfl) (e:=Extern.AbiNoEscape.same) (by kernel_rfl)];rw[Lib.run_noEscape];simp only[Result.andThen];rw[cY];go_wp2;rw[Lib.run_from_unsafe w ⟨b,0,none⟩ underlying207 underlying126 hj Ju Tryz.Builder_Extra_242.liesBuilder];simp only[Result.andThen];rw[cY];go_wp2
 go_end0
 exact⟨rfl,rfl⟩
theorem Es(B b:Nat)(bs:List Value)(w:World)(h:Lib.IsBuilderF 128 5 B b bs w):
  Z4 85 #[Z8 b] w fun e w'=>e=.returned (.tuple #[])/\(Lib.BuilderAtF 128 5 B b (Z8 b) bs w'/\Below B w w'/\Lib.OthersKept 5 (some b) w w'):=by
 rcases h with h|h
 ·refine(xd b w h.cell0 h.shape h.frozen0).mono ?_;rintro e w' ⟨rfl,rfl⟩;exact⟨rfl,h.used _,(Below.refl B w).setCell (p:=⟨b,0,none⟩) h.1 _,(Lib.OthersKept.refl _ _ w).setCell ⟨b,0,none⟩ rfl _⟩
 ·refine(yq b w h.cell0).mono ?_;rintro e w' ⟨rfl,rfl⟩;exact⟨rfl,h,Below.refl B _,Lib.OthersKept.refl _ _ _⟩
theorem sN{b:Nat}{v:Value}{w:World}(sx:w.heap[b]?=some (.cells #[Z8 b,v] 128 (0,0))):
  w.cell? ⟨b,0,none⟩=some (Z8 b)/\w.cell? ⟨b,1,none⟩=some v/\w.frozen? ⟨b,1,none⟩=false/\b<w.heap.size:=
 ⟨by rw[Lib.cell_of_heap sx];rfl,by rw[Lib.cell_of_heap sx];rfl,Lib.frozen_of_heap sx 1,(Array.getElem?_eq_some_iff.1 sx).1⟩
theorem wH(B b:Nat)(bs:List Value)(r:Int)(WU: -2147483648<=r)(hr1:r<=2147483647)(w:World)(h:Lib.IsBuilderF 128 5 B b bs w)(hlen:bs.length+4<=140737488355328)(vt:B<=w.heap.size):
  Z4 156 #[Z8 b,.int .i32 r] w fun e w'=>e=.returned (.tuple #[.int .i64 (Lib.runeCells r).length,.nilIface])/\(Lib.BuilderAtF 128 5 B b (Z8 b) (bs++Lib.runeCells r) w'/\Below B w w'/\Lib.OthersKept 5 (some b) w w'):=by
 have hk4:=Lib.runeCells_le r;go_enter func156,ntmps156;go_wp2_with(go_at_call 85;refine(Es B b bs _ h).mono ?_);rintro e w1 ⟨rfl,h1,hb1,li⟩;obtain⟨hB,v,sx,hown,hne⟩:=h1;obtain⟨ao,cap,rfl⟩:∃ao cap,v=.slice ao bs.length cap:=by
  rcases hown.2 with⟨hv,h0⟩|⟨g,cap,cur,fz,hv,_⟩
  ·exact⟨none,0,by rw[hv,h0]⟩
  ·exact⟨_,_,hv⟩
 obtain⟨c0,c1,_,hlt⟩:=sN sx;go_wp2_with(go_at_call 103;refine(utf8_AppendRune_own B _ bs.length bs r WU hr1 _ hown hlen (by have:=hb1.size;omega)).mono ?_);rintro e w2 ⟨v',rfl,hown',o,kG⟩;have hb2:w2.heap[b]?=some (.cells #[Z8 b,.slice ao bs.length cap] 128 (0,0)):=by
  rw[kG.block b (by simp;omega) (fun e=>hne e.symm),Lib.alloc_old w1 _ b hlt];exact sx
 obtain⟨d0,d1,f1,_⟩:=sN hb2;obtain⟨g,cap',rfl⟩:∃g cap',v'=Z9 g (bs.length+(Lib.runeCells r).length) cap':=by
  rcases hown'.2 with⟨_,h0⟩|⟨g,cap',cur,fz,hv,_⟩
  ·omega
  ·exact⟨g,cap',hv⟩
 go_wp2
 go_ret2
 refine⟨?_,?_,?_,((li.alloc _).grown kG (Lib.ownsRowF_kind (hown.alloc _))).setCell ⟨b,1,none⟩ rfl _⟩
 ·have e:((bs.length:Int)+((Lib.runeCells r).length:Int)-(bs.length:Int))=((Lib.runeCells r).length:Int):=by omega
  simp[e]
 ·exact Lib.BuilderAtF.put (T:=128) (e:=5) hB hb2 (bs':=bs++Lib.runeCells r) (by simpa using hown') (by decide)
 ·exact((hb1.alloc (by have:=hb1.size;omega) _).grown kG (by have:=hb1.size;simp;omega) (fun k hk=>(hown.lt k hk).1)).setCell (p:=⟨b,1,none⟩) hB _
end K
end Go.Proofs.YthlcmljckpdheaaGreatDoor
namespace Go.Proofs.YthlcmljckpdheaaGreatDoor
namespace K.Ch
open Go.Proofs.YthlcmljckpdheaaGreatDoor.Ch
open Go
def eY(u:ByteArray)(b:Int):Nat->Nat->Int->Int×Int
 |0,_,_=>(0,0)
 |f+1,pos,n=>
  if bz u pos=59 then(if may n=true then(n,(pos:Int)+1)else(0,0))
  else if b<=mM 16 (bz u pos)then(0,0)
  else eY u b f (pos+1) (if n<=1114111 then n*b+mM 16 (bz u pos)else n)
theorem Et{r:Int}(h:128<=r)(d:Int):mM d r=d:=by
 unfold mM;rw[if_neg (by omega),if_neg (by omega),if_neg (by omega)]
theorem WV(r:Int):0<=mM 16 r/\mM 16 r<=16:=by
 unfold mM
 repeat' split
 all_goals omega
theorem JS(r:Int)(h:r<0):mM 16 r=16:=by
 unfold mM;rw[if_neg (by omega),if_neg (by omega),if_neg (by omega)]
theorem mv(u:ByteArray)(pos:Nat)(h:pos<u.size):(0<=bz u pos/\bz u pos<128/\Utf8.decode u pos=((bz u pos).toNat,1))\/(128<=bz u pos/\128<=(Utf8.decode u pos).1):=by
 have h0:0<=bz u pos:=by unfold bz;rw[if_pos h];omega
 by_cases hb:bz u pos<128
 ·exact Or.inl ⟨h0,hb,gM h0 hb⟩
 ·refine Or.inr ⟨by omega,?_⟩;have hg:((u.get! pos).toNat:Int)=bz u pos:=(gZ h0).2;have e:u.get! pos=u[pos]:=by simp[ByteArray.get!,h];rfl
  exact(decode_high u pos h (by rw[<-e];omega)).1
theorem TI{u:ByteArray}{b:Int}{f pos:Nat}{n:Int}{X:Int×Int}(hb:b<=16)(hp:¬pos<u.size)(h:eY u b (f+1) pos n=X):X=(0,0):=by
 have hz:bz u pos= -1:=by unfold bz;rw[if_neg hp]
 subst h;unfold eY;rw[hz,if_neg (by omega),JS _ (by omega),if_pos hb]
theorem uA{u:ByteArray}{b:Int}{f pos:Nat}{n:Int}{X:Int×Int}(hs:bz u pos=59)(h:eY u b (f+1) pos n=X):X=if may n=true then(n,(pos:Int)+1)else(0,0):=by
 subst h;unfold eY;rw[if_pos hs]
theorem yr{u:ByteArray}{b:Int}{f pos:Nat}{n:Int}{X:Int×Int}(hs:¬bz u pos=59)(hd:b<=mM 16 (bz u pos))(h:eY u b (f+1) pos n=X):X=(0,0):=by
 subst h;unfold eY;rw[if_neg hs,if_pos hd]
theorem Hg{u:ByteArray}{b:Int}{f pos:Nat}{n:Int}{X:Int×Int}(hs:¬bz u pos=59)(hd:¬b<=mM 16 (bz u pos))(h:eY u b (f+1) pos n=X):
  eY u b f (pos+1) (if n<=1114111 then n*b+mM 16 (bz u pos)else n)=X:=by
 subst h;rw[eY.eq_2,if_neg hs,if_neg hd]
def num(u:ByteArray)(b:Int):Int×Int:=eY u b (u.size+1) 0 0
theorem qN(u:ByteArray)(b:Int):∀f pos n,(eY u b f pos n=(0,0))\/(may (eY u b f pos n).1=true/\(pos:Int)+1<=(eY u b f pos n).2/\(eY u b f pos n).2<=u.size):=by
 intro f;induction f with
 |zero=>intro pos n;exact Or.inl rfl
 |succ f ih=>
  intro pos n;unfold eY;split
  ·rename_i h;have hp:pos<u.size:=(gZ (s:=u) (i:=pos) (by omega)).1;split
   ·exact Or.inr ⟨by assumption,by simp,by simp;omega⟩
   ·exact Or.inl rfl
  ·split
   ·exact Or.inl rfl
   ·rcases ih (pos+1) (if n<=1114111 then n*b+mM 16 (bz u pos)else n)with h|⟨h1,h2,h3⟩
    ·exact Or.inl h
    ·exact Or.inr ⟨h1,by omega,h3⟩
end K.Ch
end Go.Proofs.YthlcmljckpdheaaGreatDoor
namespace Go.Proofs.YthlcmljckpdheaaGreatDoor
namespace K
open Go.RowKit Tryz
def lM(u:ByteArray)(b ahead:Int):Int×Int:=if(Ch.num u b).2=0 then(0,0)else((Ch.num u b).1,ahead+(Ch.num u b).2)
theorem rK{u:ByteArray}{b ahead:Int}(h:Ch.num u b=(0,0)):lM u b ahead=(0,0):=by simp[lM,h]
theorem Lq{u:ByteArray}{b ahead n:Int}{pos:Nat}(h:Ch.num u b=(n,(pos:Int)+1)):lM u b ahead=(n,ahead+pos+1):=by
 have:¬((pos:Int)+1=0):=by omega
 simp[lM,h,this,Int.add_assoc]
theorem Lr{u:ByteArray}{b n:Int}{f pos:Nat}{X:Int×Int}{c:Nat}(HC:Hid (Ch.eY u b (f+1) pos n=X))(HB:Hid (Ch.bz u pos=c))(h:¬c=59):
  (b<=Ch.mM 16 c/\Hid (X=(0,0)))\/(Ch.mM 16 c<b/\Hid (Ch.eY u b f (pos+1) (if n<=1114111 then n*b+Ch.mM 16 c else n)=X)):=by
 have hb:=HB.out;by_cases hd:b<=Ch.mM 16 c
 ·exact Or.inl ⟨hd,Ch.yr (by omega) (by rw[hb];exact hd) HC.out⟩
 ·refine Or.inr ⟨by omega,?_⟩;have:=Ch.Hg (by omega) (by rw[hb];exact hd) HC.out;rw[hb]at this;exact this
set_option maxRecDepth 1000000 in
theorem uB(u:ByteArray)(b ahead:Int)(w:World)(hu:u.size<=1125899906842624)(hb:b=10\/b=16)(ha0:0<=ahead)(ha1:ahead<=8):
  Z4 197 #[.string u,.int .i32 b,.int .i64 ahead] w (Z7 (.tuple #[.int .i32 (lM u b ahead).1,.int .i64 (lM u b ahead).2]) w):=by
 rcases hb with rfl|rfl;all_goals
  go_enter func197,ntmps197;go_wp2;go_loopw [8] (fun n w'=>∃(pos fuel:Nat) (z:Int),w'=w.iter u pos/\n=.int .i32 z/\0<=z/\z<=17825791/\Hid (Ch.eY u _ fuel pos z=Ch.num u _)/\u.size<pos+fuel/\pos<=u.size) (fun _ w'=>u.size-w'.iterPos w.heap.size)
  case atStart=>exact⟨0,u.size+1,0,rfl,rfl,by omega,by omega,rfl,by omega,by omega⟩
  case round=>
   obtain⟨pos,fuel,z,rfl,rfl,hz0,hz1,HC,hf,hl⟩:=hrel;obtain⟨f,rfl⟩:∃f,fuel=f+1:=⟨fuel-1,by omega⟩
   by_cases hp:pos<u.size
   ·have vM:=fun ty=>run_next_any (P:=prog) w u pos ty hp;rcases Ch.mv u pos hp with⟨h0,h1,hd⟩|⟨h0,h1⟩
    ·obtain⟨c,hc⟩:∃c:Nat,Ch.bz u pos=c:=⟨(Ch.bz u pos).toNat,by omega⟩
     rw[hc]at hd h0 h1;rw[aG]at hd;rw[hd]at vM;have Gv:∀ty,(Instr.next (.pointer (some ⟨w.heap.size,0,none⟩)) true ty).run prog (w.iter u pos)=.ok (.tuple #[.bool true,.int .i64 pos,.int .i32 c]) (w.iter u (pos+1)):=vM;clear vM hd;have HB:=a_ hc;clear hc;by_cases nQ:c=59
     ·have hq:((c:Int)==59)=true:=by simp;omega
      have HN:=a_ (Ch.uA (by rw[HB.out];omega) HC.out);cases hm:Ch.may z;all_goals
       go_wp2_with(go_at_call 121;refine(sJ _ _).mono ?_;rintro e w' ⟨rfl,rfl⟩)
       go_ret2
       refine⟨?_,jV w u _⟩;have hn:=HN.out;rw[hm]at hn;simp only[if_true,ay,bf]at hn;first
        |(rw[rK hn];rfl)
        |(rw[Lq hn];rfl)
     ·have hq:((c:Int)==59)=false:=by simp;omega
      have hdb:=Ch.WV c;rcases Lr HC HB nQ with⟨Ct,HN⟩|⟨Ct,HN⟩
      ·go_wp2_with(go_at_call 224;refine(pO _ _ (by omega) (by omega)).mono ?_;rintro e w' ⟨rfl,rfl⟩)
       go_ret2
       refine⟨?_,jV w u _⟩;rw[rK HN.out];rfl
      ·replace HN:=HN.out;by_cases hle:z<=1114111
       ·rw[if_pos hle]at HN;have HN':=a_ HN;clear HN;go_wp2_with(go_at_call 224;refine(pO _ _ (by omega) (by omega)).mono ?_;rintro e w' ⟨rfl,rfl⟩)
        go_roundw
        case rel=>exact⟨pos+1,f,_,rfl,rfl,by omega,by omega,HN',by omega,by omega⟩
        case measure=>simp;omega
       ·rw[if_neg hle]at HN;have HN':=a_ HN;clear HN;go_wp2_with(go_at_call 224;refine(pO _ _ (by omega) (by omega)).mono ?_;rintro e w' ⟨rfl,rfl⟩)
        go_roundw
        case rel=>exact⟨pos+1,f,_,rfl,rfl,by omega,by omega,HN',by omega,by omega⟩
        case measure=>simp;omega
    ·have hd1:=decode_le u pos;have hwd:=Ch.fo u pos hp;have Gv:∀ty,(Instr.next (.pointer (some ⟨w.heap.size,0,none⟩)) true ty).run prog (w.iter u pos)=_:=vM;have hq:(((Utf8.decode u pos).1:Int)==59)=false:=by simp;omega
     have hdg:Ch.mM 16 ((Utf8.decode u pos).1:Int)=16:=Ch.Et (by omega) 16;have HN:=a_ (Ch.yr (by omega) (by rw[Ch.Et h0 16];decide) HC.out);go_wp2_with(go_at_call 224;refine(pO _ _ (by omega) (by omega)).mono ?_;rintro e w' ⟨rfl,rfl⟩;rw[hdg])
     go_ret2
     refine⟨?_,jV w u _⟩;rw[rK HN.out];rfl
   ·have Gv:∀ty,(Instr.next (.pointer (some ⟨w.heap.size,0,none⟩)) true ty).run prog (w.iter u pos)=_:=fun ty=>run_next_end w u pos ty hp;go_wp2
    go_ret2
    refine⟨?_,jV w u _⟩;rw[rK (Ch.TI (by decide) hp HC.out)];rfl
end K
end Go.Proofs.YthlcmljckpdheaaGreatDoor
namespace Go.Proofs.YthlcmljckpdheaaGreatDoor
namespace K.Ch
open Go.Proofs.YthlcmljckpdheaaGreatDoor.Ch
open Go
def tail(s:ByteArray)(k:Nat):ByteArray:=⟨(s.data.toList.drop k).toArray⟩
theorem ju(s:ByteArray)(k:Nat):(tail s k).size=s.size-k:=by
 show (tail s k).data.size=s.data.size-k;simp[tail]
theorem uC(s:ByteArray)(k j:Nat):bz (tail s k) j=bz s (k+j):=by
 unfold bz;rw[ju];by_cases h:k+j<s.size
 ·have h1:j<s.size-k:=by omega
  have h2:j<(tail s k).size:=by rw[ju];exact h1
  rw[if_pos h1,if_pos h];have e1:(tail s k).get! j=(tail s k).data.toList[j]'(by simpa using h2):=by
   have:(tail s k).get! j=(tail s k)[j]:=by simp[ByteArray.get!,h2];rfl
   rw[this];rfl
  have e2:s.get! (k+j)=s.data.toList[k+j]'(by simpa using h):=by
   have:s.get! (k+j)=s[k+j]:=by simp[ByteArray.get!,h];rfl
   rw[this];rfl
  rw[e1,e2];simp[tail]
 ·rw[if_neg (by omega),if_neg h]
theorem kj(s:ByteArray)(k:Nat):s.extract k s.size=tail s k:=by
 apply cq;apply Array.toList_inj.1;rw[BM];simp[tail]
theorem Ls(s:ByteArray)(k j:Nat):tail (tail s k) j=tail s (k+j):=by
 apply cq;apply Array.toList_inj.1;simp[tail]
theorem O4(s:ByteArray)(k:Nat)(l:List UInt8):∀i,has (tail s k) i l=has s (k+i) l:=by
 induction l with
 |nil=>intro i;rfl
 |cons c l ih=>intro i;simp only[has,uC,ih,cK]
theorem O5(s:ByteArray)(b:Int)(k:Nat):∀f pos n,eY (tail s k) b f pos n=if(eY s b f (k+pos) n).2=0 then(0,0)else((eY s b f (k+pos) n).1,(eY s b f (k+pos) n).2-k):=by
 intro f;induction f with
 |zero=>intro pos n;rfl
 |succ f ih=>
  intro pos n;rw[eY.eq_2,eY.eq_2,uC];split
  ·split
   ·have:¬(((k+pos:Nat):Int)+1=0):=by omega
    simp only[this,bf];congr 1;omega
   ·rfl
  ·split
   ·rfl
   ·rw[ih];rfl
def fZ(s:ByteArray)(p:Nat)(b:Int):Int×Int:=if(eY s b (s.size-p+1) p 0).2=0 then(0,0)else((eY s b (s.size-p+1) p 0).1,(eY s b (s.size-p+1) p 0).2-p)
theorem Hh(s:ByteArray)(b:Int):fZ s 0 b=num s b:=by
 unfold fZ num;simp only[Nat.sub_zero,Int.ofNat_zero,Int.sub_zero];split
 ·rcases qN s b (s.size+1) 0 0 with h|⟨_,h,_⟩
  ·rw[h]
  ·omega
 ·rfl
theorem yt(s:ByteArray)(k p:Nat)(b:Int):fZ (tail s k) p b=fZ s (k+p) b:=by
 unfold fZ;rw[ju,O5,show s.size-k-p+1=s.size-(k+p)+1 by omega];rcases qN s b (s.size-(k+p)+1) (k+p) 0 with h|⟨_,h,_⟩
 ·rw[h];rfl
 ·have h1:¬(eY s b (s.size-(k+p)+1) (k+p) 0).2=0:=by omega
  simp only[h1,bf];have h2:¬(eY s b (s.size-(k+p)+1) (k+p) 0).2-(k:Int)=0:=by omega
  simp only[h2,bf];congr 1;omega
def eU(s:ByteArray)(i:Nat):Int×Int:=
 if has s i [38,108,116,59]=true then(60,4)else if has s i [38,103,116,59]=true then(62,4)else if has s i [38,97,109,112,59]=true then(38,5)
 else if has s i [38,113,117,111,116,59]=true then(34,6)else if has s i [38,97,112,111,115,59]=true then(39,6)
 else if has s i [38,35,120]=true then(if(fZ s (i+3) 16).2=0 then(0,0)else((fZ s (i+3) 16).1,3+(fZ s (i+3) 16).2))
 else if has s i [38,35]=true then(if(fZ s (i+2) 10).2=0 then(0,0)else((fZ s (i+2) 10).1,2+(fZ s (i+2) 10).2))
 else(0,0)
theorem tk(s:ByteArray)(k:Nat):eU (tail s k) 0=eU s k:=by simp only[eU,O4,yt,bN,ax]
end K.Ch
end Go.Proofs.YthlcmljckpdheaaGreatDoor
namespace Go.Proofs.YthlcmljckpdheaaGreatDoor
namespace K
open Go.RowKit Tryz
def tab:Array Value:=#[.string ⟨#[38,108,116,59]⟩,.int .i32 60,.string ⟨#[38,103,116,59]⟩,.int .i32 62,.string ⟨#[38,97,109,112,59]⟩,.int .i32 38,.string ⟨#[38,113,117,111,116,59]⟩,.int .i32 34,.string ⟨#[38,97,112,111,115,59]⟩,.int .i32 39]
def DG(w:World):Prop:=∃t fr,w.heap[3]?=some (.cells tab t fr)
def nm:Nat->List UInt8
 |0=>[38,108,116,59]
 |1=>[38,103,116,59]
 |2=>[38,97,109,112,59]
 |3=>[38,113,117,111,116,59]
 |_=>[38,97,112,111,115,59]
theorem aa4(w:World):(Instr.index 283 (.agg tab) (.int .i64 0)).run prog w=.ok (.agg #[.string ⟨#[38,108,116,59]⟩,.int .i32 60]) w:=by kernel_rfl
theorem aa5(w:World):(Instr.index 283 (.agg tab) (.int .i64 1)).run prog w=.ok (.agg #[.string ⟨#[38,103,116,59]⟩,.int .i32 62]) w:=by kernel_rfl
theorem aa6(w:World):(Instr.index 283 (.agg tab) (.int .i64 2)).run prog w=.ok (.agg #[.string ⟨#[38,97,109,112,59]⟩,.int .i32 38]) w:=by kernel_rfl
theorem aa7(w:World):(Instr.index 283 (.agg tab) (.int .i64 3)).run prog w=.ok (.agg #[.string ⟨#[38,113,117,111,116,59]⟩,.int .i32 34]) w:=by kernel_rfl
theorem aa8(w:World):(Instr.index 283 (.agg tab) (.int .i64 4)).run prog w=.ok (.agg #[.string ⟨#[38,97,112,111,115,59]⟩,.int .i32 39]) w:=by kernel_rfl
theorem jv(u:ByteArray)(l:List UInt8):Lib.hasPrefix u.data.toList l=Ch.has u 0 l:=by rw[Lib.hasPrefix,<-Ch.pJ u l 0];rfl
theorem my{B:Nat}{a w:World}(h:Below B a w)(n:Nat):Below B a (w.drewN n):=h.trans ⟨rfl,rfl,rfl,aj _,fun _ _=>rfl⟩
theorem uD{u:ByteArray}{m:Nat}(h:Hid (∀j,j<m->Ch.has u 0 (nm j)=false))(hb:Ch.has u 0 (nm m)=false):∀j,j<m+1->Ch.has u 0 (nm j)=false:=by
 intro j hj;by_cases e:j=m
 ·rw[e];exact hb
 ·exact h.out j (by omega)
theorem sO(u:ByteArray)(a:Array UInt8)(w:World)(b:Bool)(h:Ch.has u 0 a.toList=b):
  Z4 50 #[.string u,.string ⟨a⟩] w (Z6 (.tuple #[.string (if b=true then Ch.tail u a.toList.length else u),.bool b]) w):=by
 refine(strings_CutPrefix u ⟨a⟩ w).mono ?_;rintro e w' ⟨rfl,rfl⟩;have hp:=jv u a.toList;rw[h]at hp;refine⟨?_,rfl⟩;cases b
 ·simp[Lib.trimPrefix,hp]
 ·simp[Lib.trimPrefix,hp,Ch.tail]
theorem JT(u:ByteArray)(a:Array UInt8)(w:World)(h:Ch.has u 0 a.toList=true):
  Z4 50 #[.string u,.string ⟨a⟩] w (Z6 (.tuple #[.string (Ch.tail u a.toList.length),.bool true]) w):=
 sO u a w true h
theorem Hi(u:ByteArray)(a:Array UInt8)(w:World)(h:Ch.has u 0 a.toList=false):
  Z4 50 #[.string u,.string ⟨a⟩] w (Z6 (.tuple #[.string u,.bool false]) w):=
 sO u a w false h
theorem JU(u:ByteArray)(k:Nat)(b ahead:Int):lM (Ch.tail u k) b ahead=if(Ch.fZ u k b).2=0 then(0,0)else((Ch.fZ u k b).1,ahead+(Ch.fZ u k b).2):=by
 unfold lM;rw[<-Ch.Hh,Ch.yt,bN]
theorem TJ{u:ByteArray}(h:∀j,j<5->Ch.has u 0 (nm j)=false)(hb:Ch.has u 0 [38,35,120]=true):Ch.eU u 0=lM (Ch.tail u 3) 16 3:=by
 have h0:=h 0 (by omega);have h1:=h 1 (by omega);have h2:=h 2 (by omega);have h3:=h 3 (by omega);have h4:=h 4 (by omega);simp only[nm]at h0 h1 h2 h3 h4;rw[JU];simp[Ch.eU,h0,h1,h2,h3,h4,hb]
theorem TK{u:ByteArray}(h:∀j,j<5->Ch.has u 0 (nm j)=false)(hb:Ch.has u 0 [38,35,120]=false)(hc:Ch.has u 0 [38,35]=true):Ch.eU u 0=lM (Ch.tail u 2) 10 2:=by
 have h0:=h 0 (by omega);have h1:=h 1 (by omega);have h2:=h 2 (by omega);have h3:=h 3 (by omega);have h4:=h 4 (by omega);simp only[nm]at h0 h1 h2 h3 h4;rw[JU];simp[Ch.eU,h0,h1,h2,h3,h4,hb,hc]
theorem O6{u:ByteArray}(h:∀j,j<5->Ch.has u 0 (nm j)=false)(hb:Ch.has u 0 [38,35,120]=false)(hc:Ch.has u 0 [38,35]=false):Ch.eU u 0=(0,0):=by
 have h0:=h 0 (by omega);have h1:=h 1 (by omega);have h2:=h 2 (by omega);have h3:=h 3 (by omega);have h4:=h 4 (by omega);simp only[nm]at h0 h1 h2 h3 h4;simp[Ch.eU,h0,h1,h2,h3,h4,hb,hc]
def Lt:Nat->Int×Int
 |0=>(60,4)
 |1=>(62,4)
 |2=>(38,5)
 |3=>(34,6)
 |_=>(39,6)
theorem pk{u:ByteArray}{m:Nat}(hm:m<5)(h:∀j,j<m->Ch.has u 0 (nm j)=false)(hb:Ch.has u 0 (nm m)=true):Ch.eU u 0=Lt m:=by
 have hcs:m=0\/m=1\/m=2\/m=3\/m=4:=by omega
 rcases hcs with rfl|rfl|rfl|rfl|rfl
 ·simp only[nm]at hb;simp[Ch.eU,hb,Lt]
 ·have h0:=h 0 (by omega);simp only[nm]at hb h0;simp[Ch.eU,hb,Lt,h0]
 ·have h0:=h 0 (by omega);have h1:=h 1 (by omega);simp only[nm]at hb h0 h1;simp[Ch.eU,hb,Lt,h0,h1]
 ·have h0:=h 0 (by omega);have h1:=h 1 (by omega);have h2:=h 2 (by omega);simp only[nm]at hb h0 h1 h2;simp[Ch.eU,hb,Lt,h0,h1,h2]
 ·have h0:=h 0 (by omega);have h1:=h 1 (by omega);have h2:=h 2 (by omega);have h3:=h 3 (by omega);simp only[nm]at hb h0 h1 h2 h3;simp[Ch.eU,hb,Lt,h0,h1,h2,h3]
set_option maxRecDepth 1000000 in
theorem zR(u:ByteArray)(w:World)(hu:u.size<=1125899906842624)(hT:DG w):
  Z4 155 #[.string u] w (Z7 (.tuple #[.int .i32 (Ch.eU u 0).1,.int .i64 (Ch.eU u 0).2]) w):=by
 obtain⟨tt,fr,hg⟩:=hT;go_enter func155,ntmps155;go_wp2_with(refine wpList_load_row rfl 283 _ rfl 3 rfl tt _ fr _ hg underlying283 rfl (by kernel_rfl) ?_);go_loopw [11] (fun k wr=>∃m:Nat,m<=5/\k=.int .i64 m/\Z5 w wr/\Hid (∀j,j<m->Ch.has u 0 (nm j)=false)) (fun k _=>5-(intOf k).toNat)
 case atStart=>exact⟨0,by omega,rfl,Below.refl _ _,fun j h=>by omega⟩
 case round=>
  obtain⟨m,hm,rfl,k8,Lu⟩:=hrel;have hcs:m=0\/m=1\/m=2\/m=3\/m=4\/m=5:=by omega
  rcases hcs with rfl|rfl|rfl|rfl|rfl|rfl
  rotate_right
  ·cases hb:Ch.has u 0 [38,35,120]
   ·cases hc:Ch.has u 0 [38,35]
    ·have HR:=a_ (O6 Lu.out hb hc);go_wp2_with(first|(go_at_call_of 50 (Value.string {data:=#[38,35,120]});refine(Hi u #[38,35,120] _ hb).mono ?_;rintro e w' ⟨rfl,rfl⟩)|(go_at_call 50;refine(Hi u #[38,35] _ hc).mono ?_;rintro e w' ⟨rfl,rfl⟩))
     go_ret2
     refine⟨?_,k8⟩;rw[HR.out];rfl
    ·have HR:=a_ (TK Lu.out hb hc);have hts:(Ch.tail u 2).size<=1125899906842624:=by rw[Ch.ju];omega
     go_wp2_with(first|(go_at_call_of 50 (Value.string {data:=#[38,35,120]});refine(Hi u #[38,35,120] _ hb).mono ?_;rintro e w' ⟨rfl,rfl⟩)|(go_at_call 50;refine(JT u #[38,35] _ hc).mono ?_;rintro e w' ⟨rfl,rfl⟩)|(go_at_call 197;refine(uB (Ch.tail u 2) 10 2 _ hts (Or.inl rfl) (by decide) (by decide)).mono ?_;rintro e w1 ⟨rfl,hb1⟩))
     go_ret2
     refine⟨?_,k8.trans (hb1.mono k8.size)⟩;rw[HR.out];rfl
   ·have HR:=a_ (TJ Lu.out hb);have hts:(Ch.tail u 3).size<=1125899906842624:=by rw[Ch.ju];omega
    go_wp2_with(first|(go_at_call_of 50 (Value.string {data:=#[38,35,120]});refine(JT u #[38,35,120] _ hb).mono ?_;rintro e w' ⟨rfl,rfl⟩)|(go_at_call 197;refine(uB (Ch.tail u 3) 16 3 _ hts (Or.inr rfl) (by decide) (by decide)).mono ?_;rintro e w1 ⟨rfl,hb1⟩))
    go_ret2
    refine⟨?_,k8.trans (hb1.mono k8.size)⟩;rw[HR.out];rfl
  ·have hi:=aa4;have JV:=jv u [38,108,116,59];cases hb:Ch.has u 0 [38,108,116,59]
   ·rw[hb]at JV;go_wp2_with(go_at_call 120;refine(strings_HasPrefix _ _ _).mono ?_;rintro e w' ⟨rfl,rfl⟩);exact⟨⟨1,by omega,rfl,k8.alloc k8.size _,uD Lu hb⟩,by decide⟩
   ·rw[hb]at JV;have HR:=a_ (pk (m:=0) (by omega) Lu.out hb);go_wp2_with(go_at_call 120;refine(strings_HasPrefix _ _ _).mono ?_;rintro e w' ⟨rfl,rfl⟩);go_quiet(fail);go_wp2
    go_ret2
    refine⟨?_,my (k8.alloc k8.size _) _⟩;rw[HR.out];rfl
  ·have hi:=aa5;have JV:=jv u [38,103,116,59];cases hb:Ch.has u 0 [38,103,116,59]
   ·rw[hb]at JV;go_wp2_with(go_at_call 120;refine(strings_HasPrefix _ _ _).mono ?_;rintro e w' ⟨rfl,rfl⟩);exact⟨⟨2,by omega,rfl,k8.alloc k8.size _,uD Lu hb⟩,by decide⟩
   ·rw[hb]at JV;have HR:=a_ (pk (m:=1) (by omega) Lu.out hb);go_wp2_with(go_at_call 120;refine(strings_HasPrefix _ _ _).mono ?_;rintro e w' ⟨rfl,rfl⟩);go_quiet(fail);go_wp2
    go_ret2
    refine⟨?_,my (k8.alloc k8.size _) _⟩;rw[HR.out];rfl
  ·have hi:=aa6;have JV:=jv u [38,97,109,112,59];cases hb:Ch.has u 0 [38,97,109,112,59]
   ·rw[hb]at JV;go_wp2_with(go_at_call 120;refine(strings_HasPrefix _ _ _).mono ?_;rintro e w' ⟨rfl,rfl⟩);exact⟨⟨3,by omega,rfl,k8.alloc k8.size _,uD Lu hb⟩,by decide⟩
   ·rw[hb]at JV;have HR:=a_ (pk (m:=2) (by omega) Lu.out hb);go_wp2_with(go_at_call 120;refine(strings_HasPrefix _ _ _).mono ?_;rintro e w' ⟨rfl,rfl⟩);go_quiet(fail);go_wp2
    go_ret2
    refine⟨?_,my (k8.alloc k8.size _) _⟩;rw[HR.out];rfl
  ·have hi:=aa7;have JV:=jv u [38,113,117,111,116,59];cases hb:Ch.has u 0 [38,113,117,111,116,59]
   ·rw[hb]at JV;go_wp2_with(go_at_call 120;refine(strings_HasPrefix _ _ _).mono ?_;rintro e w' ⟨rfl,rfl⟩);exact⟨⟨4,by omega,rfl,k8.alloc k8.size _,uD Lu hb⟩,by decide⟩
   ·rw[hb]at JV;have HR:=a_ (pk (m:=3) (by omega) Lu.out hb);go_wp2_with(go_at_call 120;refine(strings_HasPrefix _ _ _).mono ?_;rintro e w' ⟨rfl,rfl⟩);go_quiet(fail);go_wp2
    go_ret2
    refine⟨?_,my (k8.alloc k8.size _) _⟩;rw[HR.out];rfl
  ·have hi:=aa8;have JV:=jv u [38,97,112,111,115,59];cases hb:Ch.has u 0 [38,97,112,111,115,59]
   ·rw[hb]at JV;go_wp2_with(go_at_call 120;refine(strings_HasPrefix _ _ _).mono ?_;rintro e w' ⟨rfl,rfl⟩);exact⟨⟨5,by omega,rfl,k8.alloc k8.size _,uD Lu hb⟩,by decide⟩
   ·rw[hb]at JV;have HR:=a_ (pk (m:=4) (by omega) Lu.out hb);go_wp2_with(go_at_call 120;refine(strings_HasPrefix _ _ _).mono ?_;rintro e w' ⟨rfl,rfl⟩);go_quiet(fail);go_wp2
    go_ret2
    refine⟨?_,my (k8.alloc k8.size _) _⟩;rw[HR.out];rfl
end K
end Go.Proofs.YthlcmljckpdheaaGreatDoor
namespace Go.Proofs.YthlcmljckpdheaaGreatDoor
namespace K.Ch
open Go.Proofs.YthlcmljckpdheaaGreatDoor.Ch
open Go
theorem nR(s:ByteArray)(l:List UInt8):∀i,has s i l=true->∀k (h:k<l.length),bz s (i+k)=((l[k]).toNat:Int):=by
 induction l with
 |nil=>intro i _ k h;simp at h
 |cons c l ih=>
  intro i hi k h;simp only[has,aV,bG]at hi;cases k with
  |zero=>simpa using hi.1
  |succ k=>
   have:=ih (i+1) hi.2 k (by simpa using h);rw[show i+1+k=i+(k+1) by omega]at this;simpa using this
theorem Ax{s:ByteArray}{i:Nat}{l:List UInt8}(h:has s i l=true)(hl:∀c∈l,c.toNat<128):∀j,i<=j->j<i+l.length->0<=bz s j/\bz s j<128:=by
 intro j h1 h2;obtain⟨k,rfl⟩:∃k,j=i+k:=⟨j-i,by omega⟩
 have hk:k<l.length:=by omega
 rw[nR s l i h k hk];have:=hl l[k] (bR hk);omega
theorem qO{s:ByteArray}{i:Nat}{l:List UInt8}(h:has s i l=true)(h0:0<l.length):i+l.length<=s.size:=by
 have:=nR s l i h (l.length-1) (by omega);have h2:=(gZ (s:=s) (i:=i+(l.length-1)) (by omega)).1;omega
theorem vN{b r:Int}(hb:b<=16)(h:¬b<=mM 16 r):0<=r/\r<128:=by
 unfold mM at h;split at h
 ·omega
 ·split at h
  ·omega
  ·split at h
   ·omega
   ·omega
theorem uE(u:ByteArray)(b:Int)(hb:b<=16):∀f pos n,(eY u b f pos n).2≠0->
  may (eY u b f pos n).1=true/\(pos:Int)+1<=(eY u b f pos n).2/\(may n=false->(pos:Int)+2<=(eY u b f pos n).2)/\(eY u b f pos n).2<=u.size/\∀j:Nat,pos<=j->(j:Int)<(eY u b f pos n).2->0<=bz u j/\bz u j<128:=by
 intro f;induction f with
 |zero=>intro pos n h;exact absurd rfl h
 |succ f ih=>
  intro pos n;rw[eY.eq_2];split
  ·rename_i nQ;have hp:pos<u.size:=(gZ (s:=u) (i:=pos) (by omega)).1;split
   ·rename_i hm;intro _;refine⟨hm,by simp,fun h=>absurd (hm.symm.trans h) (by decide),(by simp;omega),?_⟩;intro j h1 h2;simp only at h2;have:j=pos:=by omega
    subst this;omega
   ·intro h;exact absurd rfl h
  ·split
   ·intro h;exact absurd rfl h
   ·rename_i hd;intro h;obtain⟨h1,h2,h3,h4,h5⟩:=ih (pos+1) _ h;refine⟨h1,by omega,fun _=>by omega,h4,?_⟩;intro j YP Vy;by_cases e:j=pos
    ·subst e;exact vN hb hd
    ·exact h5 j (by omega) Vy
theorem tq{s:ByteArray}{p:Nat}{b:Int}(hb:b<=16)(h:(fZ s p b).2≠0):
  may (fZ s p b).1=true/\2<=(fZ s p b).2/\(p:Int)+(fZ s p b).2<=s.size/\∀j:Nat,p<=j->(j:Int)<p+(fZ s p b).2->0<=bz s j/\bz s j<128:=by
 unfold fZ at*
 split at h
 ·exact absurd rfl h
 ·rename_i hz;rw[if_neg hz];obtain⟨h1,h2,h3,h4,h5⟩:=uE s b hb _ _ _ hz;have h6:=h3 (by decide);refine⟨h1,by simp only;omega,by simp only;omega,?_⟩;intro j YP Vy;simp only at Vy;exact h5 j YP (by omega)
theorem jk{s:ByteArray}{i:Nat}(h:(eU s i).2≠0):
  may (eU s i).1=true/\4<=(eU s i).2/\(i:Int)+(eU s i).2<=s.size/\∀j:Nat,i<=j->(j:Int)<i+(eU s i).2->0<=bz s j/\bz s j<128:=by
 have key:∀(l:List UInt8) (r:Int),4<=l.length->has s i l=true->(∀c∈l,c.toNat<128)->may r=true->
   may r=true/\4<=((l.length:Nat):Int)/\(i:Int)+((l.length:Nat):Int)<=s.size/\∀j:Nat,i<=j->(j:Int)<i+((l.length:Nat):Int)->0<=bz s j/\bz s j<128:=by
  intro l r hl hh ha hm;have hs:=qO hh (by omega);refine⟨hm,by omega,by omega,?_⟩;intro j h1 h2;exact Ax hh ha j h1 (by omega)
 have num:∀(k:Nat) (b:Int) (l:List UInt8),2<=k->b<=16->l.length=k->has s i l=true->(∀c∈l,c.toNat<128)->(fZ s (i+k) b).2≠0->
   may (fZ s (i+k) b).1=true/\4<=(k:Int)+(fZ s (i+k) b).2/\(i:Int)+((k:Int)+(fZ s (i+k) b).2)<=s.size/\∀j:Nat,i<=j->(j:Int)<i+((k:Int)+(fZ s (i+k) b).2)->0<=bz s j/\bz s j<128:=by
  intro k b l hk hb hl hh ha hn;obtain⟨h1,h2,h3,h4⟩:=tq hb hn;refine⟨h1,by omega,by omega,?_⟩;intro j YP Vy;by_cases e:j<i+k
  ·exact Ax hh ha j YP (by omega)
  ·exact h4 j (by omega) (by omega)
 unfold eU at*
 split at h
 ·rename_i h1;rw[if_pos h1];exact key [38,108,116,59] 60 (by decide) h1 (by decide) (by decide)
 ·rename_i n1;rw[if_neg n1];split at h
  ·rename_i h1;rw[if_pos h1];exact key [38,103,116,59] 62 (by decide) h1 (by decide) (by decide)
  ·rename_i n2;rw[if_neg n2];split at h
   ·rename_i h1;rw[if_pos h1];exact key [38,97,109,112,59] 38 (by decide) h1 (by decide) (by decide)
   ·rename_i n3;rw[if_neg n3];split at h
    ·rename_i h1;rw[if_pos h1];exact key [38,113,117,111,116,59] 34 (by decide) h1 (by decide) (by decide)
    ·rename_i n4;rw[if_neg n4];split at h
     ·rename_i h1;rw[if_pos h1];exact key [38,97,112,111,115,59] 39 (by decide) h1 (by decide) (by decide)
     ·rename_i n5;rw[if_neg n5];split at h
      ·rename_i h1;rw[if_pos h1];split at h
       ·exact absurd rfl h
       ·rename_i hz;rw[if_neg hz];exact num 3 16 [38,35,120] (by decide) (by decide) rfl h1 (by decide) hz
      ·rename_i n6;rw[if_neg n6];split at h
       ·rename_i h1;rw[if_pos h1];split at h
        ·exact absurd rfl h
        ·rename_i hz;rw[if_neg hz];exact num 2 10 [38,35] (by decide) (by decide) rfl h1 (by decide) hz
       ·exact absurd rfl h
theorem rL(r:Int):(Lib.encodeRune r).length<=4:=by
 have:=Lib.encodeRuneZ_length r;simp[Lib.encodeRune];omega
theorem byte_back{s:ByteArray}{i:Nat}{x:Int}(h:x=bz s i)(h0:0<=bz s i):x.toNat.toUInt8=s.get! i:=by
 have:=(gZ h0).2;have e:x.toNat=(s.get! i).toNat:=by omega
 rw[e];simp
def bytes(s:ByteArray)(i n:Nat):List UInt8:=(s.data.toList.drop i).take n
theorem Lv{s:ByteArray}{i:Nat}(h:i<s.size):bytes s i 1=[s.get! i]:=by simp[bytes,drop_cons s i h]
theorem Lx{s:ByteArray}{i:Nat}(h:i+1<s.size):bytes s i 2=[s.get! i,s.get! (i+1)]:=by rw[bytes,drop_cons s i (by omega),drop_cons s (i+1) h];simp
theorem Eu{s:ByteArray}{i:Nat}(h:i+2<s.size):bytes s i 3=[s.get! i,s.get! (i+1),s.get! (i+2)]:=by rw[bytes,drop_cons s i (by omega),drop_cons s (i+1) (by omega),drop_cons s (i+1+1) h];simp
theorem Hj{s:ByteArray}{i:Nat}(h:i+3<s.size):bytes s i 4=[s.get! i,s.get! (i+1),s.get! (i+2),s.get! (i+3)]:=by rw[bytes,drop_cons s i (by omega),drop_cons s (i+1) (by omega),drop_cons s (i+1+1) (by omega),drop_cons s (i+1+1+1) h];simp
theorem encode_decode{s:ByteArray}{i:Nat}(h:i<s.size)(ho:gW s i=true):Lib.encodeRune (Utf8.decode s i).1=bytes s i (Utf8.decode s i).2:=by
 have h0:0<=bz s i:=by unfold bz;rw[if_pos h];omega
 have YA:=tZ s i;have nb:Utf8.decode s i≠(65533,1):=fun e=>by rw[t_ e]at ho;cases ho
 by_cases a1:bz s i<128
 ·rw[gM h0 a1,Lv h];simp only[Lib.encodeRune];rw[Lib.encodeRuneZ_one (by omega) (by omega)];simp only[bC,b9];rw[byte_back (x:=((bz s i).toNat:Int)) (by omega) h0]
 by_cases a2:bz s i<192
 ·exact absurd (fN (Or.inl ⟨by omega,a2⟩)) nb
 by_cases a3:bz s i<224
 ·by_cases c1:cont s (i+1)
  ·have hd:=iN (by omega) a3 c1;unfold cont at c1;have DM:=(gZ (s:=s) (i:=i+1) (by omega)).1;by_cases hz:128<=acc s i (bz s i-192) 1
   ·rw[if_pos hz]at hd;rw[hd,Lx DM];simp only[acc,ax]at hz ⊢;simp only[Lib.encodeRune];rw[Lib.encodeRuneZ_two (by omega) (by omega)];simp only[bC,b9];rw[byte_back (s:=s) (i:=i) (by omega) (by omega),byte_back (s:=s) (i:=i+1) (by omega) (by omega)]
   ·rw[if_neg hz]at hd;exact absurd hd nb
  ·exact absurd (ie (by omega) a3 c1) nb
 by_cases a4:bz s i<240
 ·by_cases c1:cont s (i+1)
  ·by_cases c2:cont s (i+2)
   ·have hd:=gJ (by omega) a4 c1 c2;unfold cont at c1 c2;have DM:=(gZ (s:=s) (i:=i+2) (by omega)).1;by_cases hz:2048<=acc s i (bz s i-224) 2/\Utf8.valid (acc s i (bz s i-224) 2)=true
    ·rw[if_pos hz]at hd;obtain⟨hz,hv⟩:=hz;simp only[Utf8.valid,bE,aV,aW]at hv;rw[hd,Eu DM];simp only[acc,ax,Nat.reduceAdd]at hz hv ⊢;simp only[Lib.encodeRune];rw[Lib.encodeRuneZ_three (by omega)];simp only[bC,b9];rw[byte_back (s:=s) (i:=i) (by omega) (by omega),byte_back (s:=s) (i:=i+1) (by omega) (by omega),byte_back (s:=s) (i:=i+2) (by omega) (by omega)]
    ·rw[if_neg hz]at hd;exact absurd hd nb
   ·exact absurd (fE (by omega) a4 (Or.inr c2)) nb
  ·exact absurd (fE (by omega) a4 (Or.inl c1)) nb
 by_cases a5:bz s i<248
 ·by_cases c1:cont s (i+1)
  ·by_cases c2:cont s (i+2)
   ·by_cases c3:cont s (i+3)
    ·have hd:=il (by omega) a5 c1 c2 c3;unfold cont at c1 c2 c3;have DM:=(gZ (s:=s) (i:=i+3) (by omega)).1;by_cases hz:65536<=acc s i (bz s i-240) 3/\Utf8.valid (acc s i (bz s i-240) 3)=true
     ·rw[if_pos hz]at hd;obtain⟨hz,hv⟩:=hz;simp only[Utf8.valid,bE,aV,aW]at hv;rw[hd,Hj DM];simp only[acc,ax,Nat.reduceAdd]at hz hv ⊢;simp only[Lib.encodeRune];rw[Lib.encodeRuneZ_four (by omega) (by omega)];simp only[bC,b9];rw[byte_back (s:=s) (i:=i) (by omega) (by omega),byte_back (s:=s) (i:=i+1) (by omega) (by omega),byte_back (s:=s) (i:=i+2) (by omega) (by omega),byte_back (s:=s) (i:=i+3) (by omega) (by omega)]
     ·rw[if_neg hz]at hd;exact absurd hd nb
    ·exact absurd (fq (by omega) a5 (Or.inr (Or.inr c3))) nb
   ·exact absurd (fq (by omega) a5 (Or.inr (Or.inl c2))) nb
  ·exact absurd (fq (by omega) a5 (Or.inl c1)) nb
 ·exact absurd (fN (Or.inr (by omega))) nb
theorem Cu{s:ByteArray}{i:Nat}(h:i<s.size)(ho:gW s i=true):(Lib.encodeRune (Utf8.decode s i).1).length<=(Utf8.decode s i).2:=by
 rw[encode_decode h ho];simp[bytes];omega
def gm(s:ByteArray):Nat->Nat->List UInt8->List UInt8×Int×Int
 |0,_,_=>([],0,0)
 |f+1,pos,acc=>
  if pos<s.size then
   if gW s pos=true then
    if bz s pos=38 then
     (if(eU s pos).2=0 then([],4,(pos:Int))else gm s f (pos+(eU s pos).2.toNat) (acc++Lib.encodeRune (eU s pos).1))
    else gm s f (pos+(Utf8.decode s pos).2) (acc++Lib.encodeRune (Utf8.decode s pos).1)
   else([],2,(pos:Int))
  else(acc,0,0)
def kx(s:ByteArray):List UInt8×Int×Int:=gm s (s.size+1) 0 []
theorem Ay{s:ByteArray}{f pos:Nat}{acc:List UInt8}{X:List UInt8×Int×Int}(hp:¬pos<s.size)(h:gm s (f+1) pos acc=X):X=(acc,0,0):=by subst h;rw[gm.eq_2,if_neg hp]
theorem Hk{s:ByteArray}{f pos:Nat}{acc:List UInt8}{X:List UInt8×Int×Int}(hp:pos<s.size)(ho:gW s pos=false)(h:gm s (f+1) pos acc=X):X=([],2,(pos:Int)):=by subst h;rw[gm.eq_2,if_pos hp,if_neg (by rw[ho];decide)]
theorem O7{s:ByteArray}{f pos:Nat}{acc:List UInt8}{X:List UInt8×Int×Int}(hp:pos<s.size)(ho:gW s pos=true)(oy:¬bz s pos=38)(h:gm s (f+1) pos acc=X):
  gm s f (pos+(Utf8.decode s pos).2) (acc++Lib.encodeRune (Utf8.decode s pos).1)=X:=by
 subst h;rw[gm.eq_2,if_pos hp,if_pos ho,if_neg oy]
theorem wI{s:ByteArray}{f pos:Nat}{acc:List UInt8}{X:List UInt8×Int×Int}(hp:pos<s.size)(ho:gW s pos=true)(oy:bz s pos=38)(hr:(eU s pos).2=0)(h:gm s (f+1) pos acc=X):X=([],4,(pos:Int)):=by subst h;rw[gm.eq_2,if_pos hp,if_pos ho,if_pos oy,if_pos hr]
theorem Az{s:ByteArray}{f pos:Nat}{acc:List UInt8}{X:List UInt8×Int×Int}(hp:pos<s.size)(ho:gW s pos=true)(oy:bz s pos=38)(hr:¬(eU s pos).2=0)(h:gm s (f+1) pos acc=X):
  gm s f (pos+(eU s pos).2.toNat) (acc++Lib.encodeRune (eU s pos).1)=X:=by
 subst h;rw[gm.eq_2,if_pos hp,if_pos ho,if_pos oy,if_neg hr]
end K.Ch
end Go.Proofs.YthlcmljckpdheaaGreatDoor
namespace Go.Proofs.YthlcmljckpdheaaGreatDoor
namespace K
open Go.RowKit Tryz
theorem zS{T e:TypeId}{B b:Nat}{bs:List Value}{w w1:World}(h:Lib.IsBuilderF T e B b bs w)(hb:Z5 w w1):Lib.IsBuilderF T e B b bs w1:=by
 have keep:∀(k:Nat) (o:Obj),w.heap[k]?=some o->w1.heap[k]?=some o:=by
  intro k o hk;have hlt:k<w.heap.size:=(Array.getElem?_eq_some_iff.1 hk).1;rw[hb.block k hlt];exact hk
 have one:∀p,Lib.BuilderAtF T e B b p bs w->Lib.BuilderAtF T e B b p bs w1:=by
  rintro p ⟨hB,v,sx,⟨hl,hown⟩,hne⟩;refine⟨hB,v,keep _ _ sx,⟨hl,?_⟩,hne⟩;rcases hown with hn|⟨g,cap,cur,fz,hv,hbg,hg,rest⟩
  ·exact Or.inl hn
  ·exact Or.inr ⟨g,cap,cur,fz,hv,hbg,keep _ _ hg,rest⟩
 exact h.elim (fun x=>Or.inl (one _ x)) (fun x=>Or.inr (one _ x))
theorem Hl{w w1:World}{k:Nat}{o:Obj}(hb:Z5 w w1)(hk:w.heap[k]?=some o):w1.heap[k]?=some o:=by
 have hlt:k<w.heap.size:=(Array.getElem?_eq_some_iff.1 hk).1;rw[hb.block k hlt];exact hk
theorem Lz{w w1:World}{B:Nat}(hT:DG w)(hB:3<B)(hb:Below B w w1):DG w1:=by
 obtain⟨t,fr,hg⟩:=hT;exact⟨t,fr,by rw[hb.block 3 hB];exact hg⟩
theorem O8{w:World}(hT:DG w):3<w.heap.size:=by
 obtain⟨t,fr,hg⟩:=hT;exact(Array.getElem?_eq_some_iff.1 hg).1
theorem Hm{s:ByteArray}{pos:Nat}(hp:pos<s.size):(Ch.bz s pos=38/\Utf8.decode s pos=(38,1))\/(¬Ch.bz s pos=38/\(((Utf8.decode s pos).1:Int)==38)=false):=by
 rcases Ch.mv s pos hp with⟨h0,h1,hd⟩|⟨h0,h1⟩
 ·by_cases e:Ch.bz s pos=38
  ·exact Or.inl ⟨e,by rw[hd,e];rfl⟩
  ·refine Or.inr ⟨e,?_⟩;rw[hd,aB];simp only;omega
 ·refine Or.inr ⟨by omega,?_⟩;rw[aB];omega
theorem uF(s:ByteArray)(pos:Nat)(w:World)(hs:s.size<=1125899906842624)(hT:DG w):
  Z4 155 #[.string (s.extract pos s.size)] w (Z7 (.tuple #[.int .i32 (Ch.eU s pos).1,.int .i64 (Ch.eU s pos).2]) w):=by
 rw[Ch.kj,<-Ch.tk];exact zR (Ch.tail s pos) w (by rw[Ch.ju];omega) hT
set_option maxRecDepth 1000000 in
theorem Cv(s:ByteArray)(w:World)(hs:s.size<=140737488351232)(hT:DG w):
  Z4 102 #[.string s] w (Z7 (.tuple #[.string ⟨(Ch.kx s).1.toArray⟩,.int .i64 (Ch.kx s).2.1,.int .i64 (Ch.kx s).2.2]) w):=by
 have hs2:s.size<=1125899906842624:=by omega
 have hB0:=O8 hT;go_enter func102,ntmps102;go_wp2;go_loopw [6] (fun bh wr=>∃(pos behind at' fuel:Nat) (acc:List UInt8),bh=.int .i64 behind/\Lib.IsBuilderF 128 5 w.heap.size w.heap.size (Lib.byteCells acc) wr/\wr.heap[w.heap.size+1]?=some (.stringIter s pos)/\Z5 w wr/\Hid (Ch.gm s fuel at' acc=Ch.kx s)/\s.size<at'+fuel/\pos<=at'/\behind<=at'/\at'<=s.size/\Hid (at'=pos\/at'=behind)/\Hid (∀j,pos<=j->j<behind->0<=Ch.bz s j/\Ch.bz s j<128)/\acc.length<=at') (fun _ wr=>s.size-wr.iterPos (w.heap.size+1))
 case atStart=>
  refine⟨0,0,0,s.size+1,[],rfl,(Lib.IsBuilderF.of (Lib.fresh_isBuilder 128 5 w)).alloc _,?_,((Below.refl _ w).alloc (aj _) _).alloc (by simp) _,rfl,by omega,by omega,by omega,by omega,Or.inl rfl,fun j h1 h2=>by omega,by simp⟩;have:=World.iter_heap (w.alloc (.cells #[.pointer none,.slice none 0 0] 128)) s 0;simpa using this
 case round=>
  obtain⟨pos,behind,at',fuel,acc,rfl,hI,hit,k8,HC,hf,Zs,Ww,Vp,HD,HA,NF⟩:=hrel;have hsz:w.heap.size+1<wr.heap.size:=(Array.getElem?_eq_some_iff.1 hit).1;by_cases hp:pos<s.size
  ·have vM:∀ty,(Instr.next (.pointer (some ⟨w.heap.size+1,0,none⟩)) true ty).run prog wr=_:=fun ty=>Lib.run_next_any_at wr (w.heap.size+1) s pos ty hit hp;have hd1:=decode_le s pos;have hI2:=fun q=>hI.iterAt hit q;have O9:=fun q=>Lib.iterAt_heap wr (w.heap.size+1) s pos q hit;have LA:=fun q=>Lib.below_iterAt k8 (k:=w.heap.size+1) (by omega) s q;have O_:∀q,w.heap.size<=(wr.iterAt (w.heap.size+1) s q).heap.size:=fun q=>by rw[Lib.iterAt_size];omega
   by_cases hlt:pos<behind
   ·obtain⟨b0,b1⟩:=HA.out pos (aj _) hlt;have hdec:=Ch.gM b0 b1;rw[hdec]at vM;have Gv:∀ty,(Instr.next (.pointer (some ⟨w.heap.size+1,0,none⟩)) true ty).run prog wr=.ok (.tuple #[.bool true,.int .i64 pos,.int .i32 (Ch.bz s pos).toNat]) (wr.iterAt (w.heap.size+1) s (pos+1)):=vM;clear vM hdec;go_wp2
    go_roundw
    case rel=>exact⟨pos+1,behind,at',fuel,acc,rfl,hI2 _,O9 _,LA _,HC,hf,by omega,Ww,Vp,Or.inr (by rcases HD.out with h|h<;>omega),fun j h1 h2=>HA.out j (by omega) h2,NF⟩
    case measure=>
     simp only[World.iterPos,O9,hit];omega
   ·obtain rfl:pos=at':=by rcases HD.out with h|h<;>omega
    obtain⟨f,rfl⟩:∃f,fuel=f+1:=⟨fuel-1,by omega⟩
    have hwd:=Ch.fo s pos hp;have hch:=Ch.qz s pos hp;cases iM:Ch.gW s pos
    ·rw[iM]at hch;have HN:=a_ (Ch.Hk hp iM HC.out);go_wp2_with(go_at_call 80;refine(iB _ _ _ _ hs2 Vp).mono ?_;rintro e w' ⟨rfl,rfl⟩)
     go_ret3
     refine⟨?_,LA _⟩;rw[HN.out];rfl
    ·rw[iM]at hch;rcases Hm hp with⟨oy,hdec⟩|⟨oy,hq⟩
     ·have ZE:=a_ oy;clear oy;rw[hdec]at vM hch;have Gv:∀ty,(Instr.next (.pointer (some ⟨w.heap.size+1,0,none⟩)) true ty).run prog wr=.ok (.tuple #[.bool true,.int .i64 pos,.int .i32 38]) (wr.iterAt (w.heap.size+1) s (pos+1)):=vM;clear vM hdec;have ab8:Ch.DN s pos 38=true:=hch;have YN:DG (wr.iterAt (w.heap.size+1) s (pos+1)):=Lz hT hB0 (LA _);by_cases hr:(Ch.eU s pos).2=0
      ·have HN:=a_ (Ch.wI hp iM ZE.out hr HC.out);go_wp2_with(first|(go_at_call 80;refine(iB _ _ _ _ hs2 Vp).mono ?_;rintro e w' ⟨rfl,rfl⟩)|(go_at_call 155;refine(uF s pos _ hs2 YN).mono ?_;rintro e w1 ⟨rfl,hb1⟩))
       go_ret3
       refine⟨?_,(LA _).trans (hb1.mono (O_ _))⟩;rw[HN.out];rfl
      ·have HN:=a_ (Ch.Az hp iM ZE.out hr HC.out);obtain⟨r1,r2,r3,r4⟩:=Ch.jk hr;have hrm:=(Ch.l7 _).1 r1;have hrz:((Ch.eU s pos).2==0)=false:=by rw[aB];exact hr
       have HR4:=a_ r4;have ZF:=Ch.rL (Ch.eU s pos).1;clear r4 hr r1;obtain⟨n,hn⟩:∃n:Nat,(Ch.eU s pos).2=n:=⟨(Ch.eU s pos).2.toNat,by omega⟩
       have HNN:=a_ hn;rw[hn]at r2 r3 hrz;clear hn;go_wp2_with(first|(go_at_call 80;refine(iB _ _ _ _ hs2 Vp).mono ?_;rintro e w' ⟨rfl,rfl⟩)|(go_at_call 155;refine(uF s pos _ hs2 YN).mono ?_;rintro e w1 ⟨rfl,hb1⟩;rw[HNN.out]));have hI3:=zS (hI2 (pos+1)) hb1;have ZG:=Hl hb1 (O9 (pos+1));have hs3:w.heap.size<=w1.heap.size:=aw (O_ (pos+1)) hb1.size;have aa9:Z5 w w1:=(LA (pos+1)).trans (hb1.mono (O_ _));refine(wH w.heap.size w.heap.size _ _ (by omega) (by omega) _ hI3 (by rw[Lib.byteCells_length];omega) hs3).mono ?_;rintro e W1 ⟨rfl,h1,b1,k1⟩;go_wp2;refine⟨⟨pos+1,pos+n,pos+n,f,acc++Lib.encodeRune (Ch.eU s pos).1,by go_num,?_,k1.iter ZG (by omega),aa9.trans b1,?_,by omega,by omega,by omega,by omega,Or.inr rfl,?_,by simp;omega⟩,?_⟩
       ·rw[Lib.byteCells_append,Lib.byteCells_encodeRune];exact Or.inr h1
       ·have:=HN.out;rw[HNN.out,aG]at this;exact this
       ·intro j j1 j2;exact HR4.out j (by omega) (by rw[HNN.out];omega)
       ·simp only[World.iterPos,k1.iter ZG (by omega),hit];omega
     ·have HN:=a_ (Ch.O7 hp iM oy HC.out);have hew:=Ch.Cu hp iM;clear oy;have Gv:=vM;clear vM;go_wp2_with(first|(go_at_call 80;refine(iB _ _ _ _ hs2 Vp).mono ?_;rintro e w' ⟨rfl,rfl⟩)|(go_at_call 156;refine(wH w.heap.size w.heap.size _ _ (by omega) (by omega) _ (hI2 _) (by rw[Lib.byteCells_length];omega) (O_ _)).mono ?_;rintro e W1 ⟨rfl,h1,b1,k1⟩));refine⟨⟨pos+(Utf8.decode s pos).2,behind,pos+(Utf8.decode s pos).2,f,acc++Lib.encodeRune (Utf8.decode s pos).1,rfl,?_,k1.iter (O9 _) (by omega),(LA _).trans b1,HN,by omega,by omega,by omega,by omega,Or.inl rfl,fun j h1 h2=>by omega,by simp;omega⟩,?_⟩
      ·rw[Lib.byteCells_append,Lib.byteCells_encodeRune];exact Or.inr h1
      ·simp only[World.iterPos,k1.iter (O9 _) (by omega),hit];omega
  ·obtain rfl:pos=at':=by rcases HD.out with h|h<;>omega
   obtain⟨f,rfl⟩:∃f,fuel=f+1:=⟨fuel-1,by omega⟩
   have Gv:∀ty,(Instr.next (.pointer (some ⟨w.heap.size+1,0,none⟩)) true ty).run prog wr=_:=fun ty=>Lib.run_next_end_at wr (w.heap.size+1) s pos ty hit hp;have HN:=a_ (Ch.Ay hp HC.out);go_wp2_with(go_at_call 46;refine(Tryz.Builder_String_any_k w.heap.size w.heap.size acc _ hI (by omega)).mono ?_;rintro e W1 ⟨rfl,_,b1,_⟩)
   go_ret3
   refine⟨?_,k8.trans b1⟩;rw[HN.out];rfl
end K
end Go.Proofs.YthlcmljckpdheaaGreatDoor
namespace Go.Proofs.YthlcmljckpdheaaGreatDoor
namespace K.Ch
open Go.Proofs.YthlcmljckpdheaaGreatDoor.Ch
open Go
def zT(q:Bool)(c:UInt8):List UInt8:=if oL (c.toNat:Int) q=[]then [c]else oL (c.toNat:Int) q
def tu(q:Bool)(l:List UInt8):List UInt8:=l.flatMap (zT q)
end K.Ch
end Go.Proofs.YthlcmljckpdheaaGreatDoor
namespace Go.Proofs.YthlcmljckpdheaaGreatDoor
namespace K
open Go.RowKit Tryz
theorem zU(s:ByteArray)(a b:Nat):(s.extract a b).data.toList=Ch.bytes s a (b-a):=by simp[Ch.bytes,List.take_drop]
theorem Pa(s:ByteArray)(i:Nat)(l:List UInt8):(Ch.bytes s i l.length==l)=Ch.has s i l:=by
 rw[<-Ch.pJ,bK,bG,List.isPrefixOf_iff_prefix,List.prefix_iff_eq_take];unfold Ch.bytes;exact eq_comm
theorem oU(s:ByteArray)(i:Nat)(a:Array UInt8)(w:World)(hs:s.size<=1125899906842624)(_hi:i<=s.size)(ha0:0<a.size)(ha:a.size<=16):
  Z4 115 #[.string s,.int .i64 i,.string ⟨a⟩] w (Z6 (.bool (Ch.has s i a.toList)) w):=by
 have hsz:(⟨a⟩:ByteArray).size=a.size:=rfl;by_cases h:i+a.size<=s.size
 ·go_enter func115,ntmps115;go_wp2;go_ret;refine⟨k_ ?_,rfl⟩;rw[<-Pa,cG,cG,zU,show i+a.size-i=a.toList.length by simp]
 ·have hf:Ch.has s i a.toList=false:=by
   cases e:Ch.has s i a.toList
   ·rfl
   ·have:=Ch.qO e (by simpa using ha0);simp at this;omega
  have HF:=a_ hf;clear hf;go_enter func115,ntmps115;go_wp2;go_ret;exact⟨k_ HF.out.symm,rfl⟩
theorem eL(w:World)(o:Obj):(w.alloc o).heap[w.heap.size]?=some o:=bD w o
theorem qP(w:World)(xs:List Int)(n:Nat)(hn:xs.length=n):
  (convert 101 9 (.slice (some ⟨w.heap.size,0,none⟩) n n)).run prog (w.alloc (.cells (xs.map (Value.int .u8)).toArray 5))=.ok (.string (strOfNums xs)) (w.alloc (.cells (xs.map (Value.int .u8)).toArray 5)):=by
 refine dS _ 101 5 underlying101 underlying5 w.heap.size 0 n n xs hn ?_ 9 underlying9;intro i hi;have hlt:i<xs.length:=by omega
 rw[Lib.cell_of_heap (eL w _)];simp[hlt]
theorem mz{r:Int}{xs:List Int}(h:Lib.encodeRuneZ r=xs):strOfNums xs=⟨(Lib.encodeRune r).toArray⟩:=by subst h;rfl
theorem WW(r:Int)(w:World)(h0:0<=r)(h1:r<128):
  Z4 117 #[.int .i64 r] w (Z7 (.string ⟨(Lib.encodeRune r).toArray⟩) w):=by
 have hcv:=qP w [r] 1 rfl;rw[mz (Lib.encodeRuneZ_one h0 (by omega))]at hcv;have TL:(convert 101 9 (.slice (some ⟨w.heap.size,0,none⟩) 1 1)).run prog (w.alloc (.cells #[.int .u8 r] 5))=_:=hcv;clear hcv;go_enter func117,ntmps117;go_wp2;go_ret;exact⟨rfl,(Below.refl _ w).alloc (aj _) _⟩
theorem WX(r:Int)(w:World)(h0:128<=r)(h1:r<2048):
  Z4 117 #[.int .i64 r] w (Z7 (.string ⟨(Lib.encodeRune r).toArray⟩) w):=by
 have hcv:=qP w [192+r/64,128+r%64] 2 rfl;rw[mz (Lib.encodeRuneZ_two h0 (by omega))]at hcv;have TL:(convert 101 9 (.slice (some ⟨w.heap.size,0,none⟩) 2 2)).run prog (w.alloc (.cells #[.int .u8 (192+r/64),.int .u8 (128+r%64)] 5))=_:=hcv;clear hcv;go_enter func117,ntmps117;go_wp2;go_ret;exact⟨rfl,(Below.refl _ w).alloc (aj _) _⟩
theorem WY(r:Int)(w:World)(h0:2048<=r)(h1:r<55296):
  Z4 117 #[.int .i64 r] w (Z7 (.string ⟨(Lib.encodeRune r).toArray⟩) w):=by
 have hcv:=qP w [224+r/4096,128+r/64%64,128+r%64] 3 rfl;rw[mz (Lib.encodeRuneZ_three (by omega))]at hcv;have TL:(convert 101 9 (.slice (some ⟨w.heap.size,0,none⟩) 3 3)).run prog (w.alloc (.cells #[.int .u8 (224+r/4096),.int .u8 (128+r/64%64),.int .u8 (128+r%64)] 5))=_:=hcv;clear hcv;go_enter func117,ntmps117;go_wp2;go_ret;exact⟨rfl,(Below.refl _ w).alloc (aj _) _⟩
theorem WZ(r:Int)(w:World)(h0:57344<=r)(h1:r<65536):
  Z4 117 #[.int .i64 r] w (Z7 (.string ⟨(Lib.encodeRune r).toArray⟩) w):=by
 have hcv:=qP w [224+r/4096,128+r/64%64,128+r%64] 3 rfl;rw[mz (Lib.encodeRuneZ_three (by omega))]at hcv;have TL:(convert 101 9 (.slice (some ⟨w.heap.size,0,none⟩) 3 3)).run prog (w.alloc (.cells #[.int .u8 (224+r/4096),.int .u8 (128+r/64%64),.int .u8 (128+r%64)] 5))=_:=hcv;clear hcv;go_enter func117,ntmps117;go_wp2;go_ret;exact⟨rfl,(Below.refl _ w).alloc (aj _) _⟩
theorem W8(r:Int)(w:World)(h0:65536<=r)(h1:r<=1114111):
  Z4 117 #[.int .i64 r] w (Z7 (.string ⟨(Lib.encodeRune r).toArray⟩) w):=by
 have hcv:=qP w [240+r/262144,128+r/4096%64,128+r/64%64,128+r%64] 4 rfl;rw[mz (Lib.encodeRuneZ_four h0 (by omega))]at hcv;have TL:(convert 101 9 (.slice (some ⟨w.heap.size,0,none⟩) 4 4)).run prog (w.alloc (.cells #[.int .u8 (240+r/262144),.int .u8 (128+r/4096%64),.int .u8 (128+r/64%64),.int .u8 (128+r%64)] 5))=_:=hcv;clear hcv;go_enter func117,ntmps117;go_wp2;go_ret;exact⟨rfl,(Below.refl _ w).alloc (aj _) _⟩
theorem AA(r:Int)(w:World)(hm:Ch.may r=true):
  Z4 117 #[.int .i64 r] w (Z7 (.string ⟨(Lib.encodeRune r).toArray⟩) w):=by
 have h:=(Ch.l7 r).1 hm;by_cases c1:r<128
 ·exact WW r w (by omega) c1
 by_cases c2:r<2048
 ·exact WX r w (by omega) c2
 by_cases c3:r<55296
 ·exact WY r w (by omega) c3
 by_cases c4:r<65536
 ·exact WZ r w (by omega) c4
 ·exact W8 r w (by omega) (by omega)
def both(c r:Int):Prop:=(c=r/\r<=1114111)\/(1114111<c/\1114111<r)
theorem Ev{c r:Int}(h:both c r):Ch.may c=Ch.may r:=by
 rcases h with⟨h,_⟩|⟨h1,h2⟩
 ·rw[h]
 ·rw[Ch.vy (by omega),Ch.vy (by omega)]
theorem wJ{c r:Int}(h:both c r)(hm:Ch.may r=true):c=r:=by
 rcases h with⟨h,_⟩|⟨h1,h2⟩
 ·exact h
 ·rw[Ch.vy (by omega)]at hm;cases hm
def mC(s:ByteArray)(p:Nat)(b:Int):Int×Int:=if(Ch.eY s b (s.size-p+1) p 0).2=0 then(0,-1)else Ch.eY s b (s.size-p+1) p 0
theorem nC{s:ByteArray}{p:Nat}{b:Int}(h:Ch.eY s b (s.size-p+1) p 0=(0,0)):mC s p b=(0,-1):=by simp[mC,h]
theorem AB{s:ByteArray}{p:Nat}{b n:Int}{q:Nat}(h:Ch.eY s b (s.size-p+1) p 0=(n,(q:Int)+1)):mC s p b=(n,(q:Int)+1):=by
 have:¬((q:Int)+1=0):=by omega
 simp[mC,h,this]
theorem JW(c:Int):(Ch.mM (-1) c= -1/\Ch.mM 16 c=16)\/(Ch.mM (-1) c=Ch.mM 16 c/\0<=Ch.mM 16 c/\Ch.mM 16 c<=15):=by
 unfold Ch.mM
 repeat' split
 all_goals omega
theorem Ew:Ch.mM 16 59=16:=by decide
theorem Ex{c r d:Int}(h:both c r)(_h0:0<=r)(d0:0<=d)(d1:d<10):both (if c<=1114111 then c*10+d else c) (min (r*10+d) 2097152):=by
 unfold both at*
 split<;>omega
theorem Ey{c r d:Int}(h:both c r)(_h0:0<=r)(d0:0<=d)(d1:d<16):both (if c<=1114111 then c*16+d else c) (min (r*16+d) 2097152):=by
 unfold both at*
 split<;>omega
theorem Ez{s:ByteArray}{b c:Int}{f p:Nat}{X:Int×Int}(h0:c=0)(hd:¬Ch.mM 16 (Ch.bz s p)<b)(h:Ch.eY s b (f+1) p c=X):X=(0,0):=by
 subst h0;by_cases e:Ch.bz s p=59
 ·have:=Ch.uA e h;rw[if_neg (by decide)]at this;exact this
 ·exact Ch.yr e (by omega) h
set_option maxRecDepth 1000000 in
theorem EA(s:ByteArray)(p:Nat)(w:World)(hs:s.size<=1125899906842624)(hp:p<=s.size):
  Z4 116 #[.string s,.int .i64 p,.int .i64 10] w (Z6 (.tuple #[.int .i64 (mC s p 10).1,.int .i64 (mC s p 10).2]) w):=by
 have hm:s.size<=maxLen:=by unfold maxLen;omega
 go_enter func116,ntmps116;go_wp2
 go_loop [1,9,10] (fun i n _=>∃(pos fuel:Nat) (c r:Int),i=.int .i64 pos/\n=.int .i64 r/\Hid (both c r)/\0<=r/\r<=2097152/\Hid (Ch.eY s 10 fuel pos c=Ch.eY s 10 (s.size-p+1) p 0)/\s.size<pos+fuel/\p<=pos/\pos<=s.size/\Hid (pos=p->c=0)) (fun i _ _=>s.size-(intOf i).toNat)
 case atStart=>exact⟨p,s.size-p+1,0,0,rfl,rfl,Or.inl ⟨rfl,by omega⟩,by omega,by omega,rfl,by omega,by omega,by omega,fun _=>rfl⟩
 case round=>
  obtain⟨pos,fuel,c,r,rfl,rfl,Sp,WU,hr1,HC,hf,hpp,Vz,HZ⟩:=hrel;obtain⟨f,rfl⟩:∃f,fuel=f+1:=⟨fuel-1,by omega⟩
  have YG:=Ch.tZ s pos;have TM:=JW (Ch.bz s pos);by_cases hd:Ch.mM 16 (Ch.bz s pos)<10
  ·have hd0:0<=Ch.mM (-1) (Ch.bz s pos)/\Ch.mM (-1) (Ch.bz s pos)<10:=by omega
   have On:Ch.mM 16 (Ch.bz s pos)=Ch.mM (-1) (Ch.bz s pos):=by omega
   have EB:¬Ch.bz s pos=59:=fun e=>by rw[e,Ew]at hd;omega
   have hlt:pos<s.size:=by
    have:=Ch.vN (b:=10) (by omega) (by omega:¬10<=Ch.mM 16 (Ch.bz s pos));exact(Ch.gZ this.1).1
   have HN:=a_ (Ch.Hg EB (by omega) HC.out);rw[On]at HN;have HS:=a_ (Ex Sp.out WU hd0.1 hd0.2);clear TM hd On EB;go_wp2_with(first|(go_at_call 118;refine(g_ _ _ _ hm (by omega)).mono ?_;rintro e w' ⟨rfl,rfl⟩;rw[aG])|(go_at_call 171;refine(ji _ _ (by omega) (by omega)).mono ?_;rintro e w' ⟨rfl,rfl⟩)|(go_at_call 119;refine(lf _ _).mono ?_;rintro e w' ⟨rfl,rfl⟩));exact⟨⟨pos+1,f,_,_,by go_num,rfl,HS,by omega,by omega,HN,by omega,by omega,by omega,fun e=>by omega⟩,by simp[intOf];omega⟩
  ·have hdd:Ch.mM (-1) (Ch.bz s pos)<0\/10<=Ch.mM (-1) (Ch.bz s pos):=by omega
   by_cases TN:pos=p
   ·have HN:=a_ (nC (Ez (HZ.out TN) hd HC.out));have hq:((pos:Int)==(p:Int))=true:=by rw[bG];omega
    clear TN hd TM;rcases hdd with hdd|hdd;all_goals
     go_wp2_with(first|(go_at_call 118;refine(g_ _ _ _ hm (by omega)).mono ?_;rintro e w' ⟨rfl,rfl⟩;rw[aG])|(go_at_call 171;refine(ji _ _ (by omega) (by omega)).mono ?_;rintro e w' ⟨rfl,rfl⟩)|(go_at_call 119;refine(lf _ _).mono ?_;rintro e w' ⟨rfl,rfl⟩))
     go_ret2
     refine⟨?_,rfl⟩;rw[HN.out];rfl
   ·have hq:((pos:Int)==(p:Int))=false:=by rw[aB];omega
    by_cases nQ:Ch.bz s pos=59
    ·have HX:=Ch.uA nQ HC.out;rw[Ev Sp.out]at HX;have hq2:(Ch.bz s pos !=59)=false:=by rw[nQ];rfl
     clear nQ TN hd TM;cases vB:Ch.may r
     ·rw[vB]at HX;have HN:=a_ (nC HX);clear HX;rcases hdd with hdd|hdd;all_goals
       go_wp2_with(first|(go_at_call 118;refine(g_ _ _ _ hm (by omega)).mono ?_;rintro e w' ⟨rfl,rfl⟩;rw[aG])|(go_at_call 171;refine(ji _ _ (by omega) (by omega)).mono ?_;rintro e w' ⟨rfl,rfl⟩)|(go_at_call 119;refine(lf _ _).mono ?_;rintro e w' ⟨rfl,rfl⟩))
       go_ret2
       refine⟨?_,rfl⟩;rw[HN.out];rfl
     ·rw[vB,wJ Sp.out vB]at HX;have HN:=a_ (AB HX);clear HX;rcases hdd with hdd|hdd;all_goals
       go_wp2_with(first|(go_at_call 118;refine(g_ _ _ _ hm (by omega)).mono ?_;rintro e w' ⟨rfl,rfl⟩;rw[aG])|(go_at_call 171;refine(ji _ _ (by omega) (by omega)).mono ?_;rintro e w' ⟨rfl,rfl⟩)|(go_at_call 119;refine(lf _ _).mono ?_;rintro e w' ⟨rfl,rfl⟩))
       go_ret2
       refine⟨?_,rfl⟩;rw[HN.out];rfl
    ·have HN:=a_ (nC (Ch.yr nQ (by omega) HC.out));have hq2:(Ch.bz s pos !=59)=true:=by rw[bne_iff_ne];exact nQ
     clear nQ TN hd TM;rcases hdd with hdd|hdd;all_goals
      go_wp2_with(first|(go_at_call 118;refine(g_ _ _ _ hm (by omega)).mono ?_;rintro e w' ⟨rfl,rfl⟩;rw[aG])|(go_at_call 171;refine(ji _ _ (by omega) (by omega)).mono ?_;rintro e w' ⟨rfl,rfl⟩)|(go_at_call 119;refine(lf _ _).mono ?_;rintro e w' ⟨rfl,rfl⟩))
      go_ret2
      refine⟨?_,rfl⟩;rw[HN.out];rfl
set_option maxRecDepth 1000000 in
theorem EC(s:ByteArray)(p:Nat)(w:World)(hs:s.size<=1125899906842624)(hp:p<=s.size):
  Z4 116 #[.string s,.int .i64 p,.int .i64 16] w (Z6 (.tuple #[.int .i64 (mC s p 16).1,.int .i64 (mC s p 16).2]) w):=by
 have hm:s.size<=maxLen:=by unfold maxLen;omega
 go_enter func116,ntmps116;go_wp2
 go_loop [1,9,10] (fun i n _=>∃(pos fuel:Nat) (c r:Int),i=.int .i64 pos/\n=.int .i64 r/\Hid (both c r)/\0<=r/\r<=2097152/\Hid (Ch.eY s 16 fuel pos c=Ch.eY s 16 (s.size-p+1) p 0)/\s.size<pos+fuel/\p<=pos/\pos<=s.size/\Hid (pos=p->c=0)) (fun i _ _=>s.size-(intOf i).toNat)
 case atStart=>exact⟨p,s.size-p+1,0,0,rfl,rfl,Or.inl ⟨rfl,by omega⟩,by omega,by omega,rfl,by omega,by omega,by omega,fun _=>rfl⟩
 case round=>
  obtain⟨pos,fuel,c,r,rfl,rfl,Sp,WU,hr1,HC,hf,hpp,Vz,HZ⟩:=hrel;obtain⟨f,rfl⟩:∃f,fuel=f+1:=⟨fuel-1,by omega⟩
  have YG:=Ch.tZ s pos;have TM:=JW (Ch.bz s pos);by_cases hd:Ch.mM 16 (Ch.bz s pos)<16
  ·have hd0:0<=Ch.mM (-1) (Ch.bz s pos)/\Ch.mM (-1) (Ch.bz s pos)<16:=by omega
   have On:Ch.mM 16 (Ch.bz s pos)=Ch.mM (-1) (Ch.bz s pos):=by omega
   have EB:¬Ch.bz s pos=59:=fun e=>by rw[e,Ew]at hd;omega
   have hlt:pos<s.size:=by
    have:=Ch.vN (b:=16) (by omega) (by omega:¬16<=Ch.mM 16 (Ch.bz s pos));exact(Ch.gZ this.1).1
   have HN:=a_ (Ch.Hg EB (by omega) HC.out);rw[On]at HN;have HS:=a_ (Ey Sp.out WU hd0.1 hd0.2);clear TM hd On EB;go_wp2_with(first|(go_at_call 118;refine(g_ _ _ _ hm (by omega)).mono ?_;rintro e w' ⟨rfl,rfl⟩;rw[aG])|(go_at_call 171;refine(ji _ _ (by omega) (by omega)).mono ?_;rintro e w' ⟨rfl,rfl⟩)|(go_at_call 119;refine(lf _ _).mono ?_;rintro e w' ⟨rfl,rfl⟩));exact⟨⟨pos+1,f,_,_,by go_num,rfl,HS,by omega,by omega,HN,by omega,by omega,by omega,fun e=>by omega⟩,by simp[intOf];omega⟩
  ·have hdd:Ch.mM (-1) (Ch.bz s pos)<0\/16<=Ch.mM (-1) (Ch.bz s pos):=by omega
   by_cases TN:pos=p
   ·have HN:=a_ (nC (Ez (HZ.out TN) hd HC.out));have hq:((pos:Int)==(p:Int))=true:=by rw[bG];omega
    clear TN hd TM;rcases hdd with hdd|hdd;all_goals
     go_wp2_with(first|(go_at_call 118;refine(g_ _ _ _ hm (by omega)).mono ?_;rintro e w' ⟨rfl,rfl⟩;rw[aG])|(go_at_call 171;refine(ji _ _ (by omega) (by omega)).mono ?_;rintro e w' ⟨rfl,rfl⟩)|(go_at_call 119;refine(lf _ _).mono ?_;rintro e w' ⟨rfl,rfl⟩))
     go_ret2
     refine⟨?_,rfl⟩;rw[HN.out];rfl
   ·have hq:((pos:Int)==(p:Int))=false:=by rw[aB];omega
    by_cases nQ:Ch.bz s pos=59
    ·have HX:=Ch.uA nQ HC.out;rw[Ev Sp.out]at HX;have hq2:(Ch.bz s pos !=59)=false:=by rw[nQ];rfl
     clear nQ TN hd TM;cases vB:Ch.may r
     ·rw[vB]at HX;have HN:=a_ (nC HX);clear HX;rcases hdd with hdd|hdd;all_goals
       go_wp2_with(first|(go_at_call 118;refine(g_ _ _ _ hm (by omega)).mono ?_;rintro e w' ⟨rfl,rfl⟩;rw[aG])|(go_at_call 171;refine(ji _ _ (by omega) (by omega)).mono ?_;rintro e w' ⟨rfl,rfl⟩)|(go_at_call 119;refine(lf _ _).mono ?_;rintro e w' ⟨rfl,rfl⟩))
       go_ret2
       refine⟨?_,rfl⟩;rw[HN.out];rfl
     ·rw[vB,wJ Sp.out vB]at HX;have HN:=a_ (AB HX);clear HX;rcases hdd with hdd|hdd;all_goals
       go_wp2_with(first|(go_at_call 118;refine(g_ _ _ _ hm (by omega)).mono ?_;rintro e w' ⟨rfl,rfl⟩;rw[aG])|(go_at_call 171;refine(ji _ _ (by omega) (by omega)).mono ?_;rintro e w' ⟨rfl,rfl⟩)|(go_at_call 119;refine(lf _ _).mono ?_;rintro e w' ⟨rfl,rfl⟩))
       go_ret2
       refine⟨?_,rfl⟩;rw[HN.out];rfl
    ·have HN:=a_ (nC (Ch.yr nQ (by omega) HC.out));have hq2:(Ch.bz s pos !=59)=true:=by rw[bne_iff_ne];exact nQ
     clear nQ TN hd TM;rcases hdd with hdd|hdd;all_goals
      go_wp2_with(first|(go_at_call 118;refine(g_ _ _ _ hm (by omega)).mono ?_;rintro e w' ⟨rfl,rfl⟩;rw[aG])|(go_at_call 171;refine(ji _ _ (by omega) (by omega)).mono ?_;rintro e w' ⟨rfl,rfl⟩)|(go_at_call 119;refine(lf _ _).mono ?_;rintro e w' ⟨rfl,rfl⟩))
      go_ret2
      refine⟨?_,rfl⟩;rw[HN.out];rfl
def jO(s:ByteArray)(i:Nat):List UInt8×Int:=if(Ch.eU s i).2=0 then([],-1)else(Lib.encodeRune (Ch.eU s i).1,(i:Int)+(Ch.eU s i).2)
theorem qf(s:ByteArray)(j:Int)(w:World)(hs:s.size<=1125899906842624)(h0:0<=j)(h1:j<=s.size):
  Z4 116 #[.string s,.int .i64 j,.int .i64 16] w (Z6 (.tuple #[.int .i64 (mC s j.toNat 16).1,.int .i64 (mC s j.toNat 16).2]) w):=by
 obtain⟨n,rfl⟩:=dP h0;rw[aG];exact EC s n w hs (by omega)
theorem qg(s:ByteArray)(j:Int)(w:World)(hs:s.size<=1125899906842624)(h0:0<=j)(h1:j<=s.size):
  Z4 116 #[.string s,.int .i64 j,.int .i64 10] w (Z6 (.tuple #[.int .i64 (mC s j.toNat 10).1,.int .i64 (mC s j.toNat 10).2]) w):=by
 obtain⟨n,rfl⟩:=dP h0;rw[aG];exact EA s n w hs (by omega)
theorem yu(s:ByteArray)(p:Nat)(b:Int)(hb:b<=16):((Ch.fZ s p b).2=0/\mC s p b=(0,-1))\/(¬(Ch.fZ s p b).2=0/\0<=(mC s p b).2/\(mC s p b).1=(Ch.fZ s p b).1/\(mC s p b).2=(p:Int)+(Ch.fZ s p b).2/\Ch.may (mC s p b).1=true):=by
 by_cases h:(Ch.eY s b (s.size-p+1) p 0).2=0
 ·refine Or.inl ⟨by simp[Ch.fZ,h],by simp[mC,h]⟩
 ·obtain⟨h1,h2,h3,h4,h5⟩:=Ch.uE s b hb _ _ _ h;refine Or.inr ?_;have e1:mC s p b=Ch.eY s b (s.size-p+1) p 0:=by simp[mC,h]
  have e2:Ch.fZ s p b=((Ch.eY s b (s.size-p+1) p 0).1,(Ch.eY s b (s.size-p+1) p 0).2-p):=by simp[Ch.fZ,h]
  rw[e1,e2];refine⟨?_,by omega,rfl,?_,h1⟩<;>simp only<;>omega
set_option maxRecDepth 1000000 in
theorem TP(s:ByteArray)(i:Nat)(w:World)(hs:s.size<=1125899906842624)(hi:i<=s.size):
  Z4 76 #[.string s,.int .i64 i] w (Z7 (.tuple #[.string ⟨(jO s i).1.toArray⟩,.int .i64 (jO s i).2]) w):=by
 cases h0:Ch.has s i [38,108,116,59]
 rotate_left
 ·have hR:jO s i=([60],(i:Int)+4):=by
   have:Ch.eU s i=(60,4):=by simp[Ch.eU,h0]
   simp[jO,this];decide
  have HR:=a_ hR;clear hR;go_enter func76,ntmps76;go_wp2_with(go_at_call 115;refine(oU _ _ _ _ hs hi (by decide) (by decide)).mono ?_;rintro e w' ⟨rfl,rfl⟩)
  go_ret2
  refine⟨?_,Below.refl _ _⟩;rw[HR.out];rfl
 cases h1:Ch.has s i [38,103,116,59]
 rotate_left
 ·have hR:jO s i=([62],(i:Int)+4):=by
   have:Ch.eU s i=(62,4):=by simp[Ch.eU,h0,h1]
   simp[jO,this];decide
  have HR:=a_ hR;clear hR;go_enter func76,ntmps76;go_wp2_with(go_at_call 115;refine(oU _ _ _ _ hs hi (by decide) (by decide)).mono ?_;rintro e w' ⟨rfl,rfl⟩)
  go_ret2
  refine⟨?_,Below.refl _ _⟩;rw[HR.out];rfl
 cases h2:Ch.has s i [38,97,109,112,59]
 rotate_left
 ·have hR:jO s i=([38],(i:Int)+5):=by
   have:Ch.eU s i=(38,5):=by simp[Ch.eU,h0,h1,h2]
   simp[jO,this];decide
  have HR:=a_ hR;clear hR;go_enter func76,ntmps76;go_wp2_with(go_at_call 115;refine(oU _ _ _ _ hs hi (by decide) (by decide)).mono ?_;rintro e w' ⟨rfl,rfl⟩)
  go_ret2
  refine⟨?_,Below.refl _ _⟩;rw[HR.out];rfl
 cases h3:Ch.has s i [38,113,117,111,116,59]
 rotate_left
 ·have hR:jO s i=([34],(i:Int)+6):=by
   have:Ch.eU s i=(34,6):=by simp[Ch.eU,h0,h1,h2,h3]
   simp[jO,this];decide
  have HR:=a_ hR;clear hR;go_enter func76,ntmps76;go_wp2_with(go_at_call 115;refine(oU _ _ _ _ hs hi (by decide) (by decide)).mono ?_;rintro e w' ⟨rfl,rfl⟩)
  go_ret2
  refine⟨?_,Below.refl _ _⟩;rw[HR.out];rfl
 cases h4:Ch.has s i [38,97,112,111,115,59]
 rotate_left
 ·have hR:jO s i=([39],(i:Int)+6):=by
   have:Ch.eU s i=(39,6):=by simp[Ch.eU,h0,h1,h2,h3,h4]
   simp[jO,this];decide
  have HR:=a_ hR;clear hR;go_enter func76,ntmps76;go_wp2_with(go_at_call 115;refine(oU _ _ _ _ hs hi (by decide) (by decide)).mono ?_;rintro e w' ⟨rfl,rfl⟩)
  go_ret2
  refine⟨?_,Below.refl _ _⟩;rw[HR.out];rfl
 cases h5:Ch.has s i [38,35,120]
 rotate_left
 ·have hsz:=Ch.qO h5 (by decide);simp only[au,aF]at hsz;have hj:((i:Int)+3).toNat=i+3:=by omega
  have HJ:=a_ hj;clear hj;rcases yu s (i+3) 16 (by decide)with⟨hz,hn⟩|⟨hz,zP,Ai,ww,hm⟩
  ·have hR:jO s i=([],-1):=by
    have:(Ch.eU s i).2=0:=by simp[Ch.eU,h0,h1,h2,h3,h4,h5,hz]
    simp[jO,this]
   have HR:=a_ hR;have HN:=a_ hn;clear hR hn hz;go_enter func76,ntmps76;go_wp2_with(first|(go_at_call 115;refine(oU _ _ _ _ hs hi (by decide) (by decide)).mono ?_;rintro e w' ⟨rfl,rfl⟩)|(go_at_call 116;refine(qf _ _ _ hs (by omega) (by omega)).mono ?_;rintro e w' ⟨rfl,rfl⟩;rw[HJ.out,HN.out]))
   go_ret2
   refine⟨?_,Below.refl _ _⟩;rw[HR.out];rfl
  ·have hR:jO s i=(Lib.encodeRune (mC s (i+3) 16).1,(mC s (i+3) 16).2):=by
    have h1:Ch.eU s i=((Ch.fZ s (i+3) 16).1,3+(Ch.fZ s (i+3) 16).2):=by simp[Ch.eU,h0,h1,h2,h3,h4,h5,hz]
    have hsp:=Ch.tq (by decide) hz;have h2:¬(Ch.eU s i).2=0:=by rw[h1];simp only;omega
    unfold jO;rw[if_neg h2,h1,Ai,ww];simp only;congr 1;omega
   have HR:=a_ hR;clear hR Ai ww hz;have HM:=a_ hm;clear hm;generalize hX:mC s (i+3) 16=X at*
   have HX:=a_ hX;clear hX;go_enter func76,ntmps76;go_wp2_with(first|(go_at_call 115;refine(oU _ _ _ _ hs hi (by decide) (by decide)).mono ?_;rintro e w' ⟨rfl,rfl⟩)|(go_at_call 116;refine(qf _ _ _ hs (by omega) (by omega)).mono ?_;rintro e w' ⟨rfl,rfl⟩;rw[HJ.out,HX.out])|(go_at_call 117;refine(AA _ _ HM.out).mono ?_;rintro e w1 ⟨rfl,b1⟩))
   go_ret2
   refine⟨?_,b1⟩;rw[HR.out];rfl
 cases h6:Ch.has s i [38,35]
 rotate_left
 ·have hsz:=Ch.qO h6 (by decide);simp only[au,aF]at hsz;have hj:((i:Int)+2).toNat=i+2:=by omega
  have HJ:=a_ hj;clear hj;rcases yu s (i+2) 10 (by decide)with⟨hz,hn⟩|⟨hz,zP,Ai,ww,hm⟩
  ·have hR:jO s i=([],-1):=by
    have:(Ch.eU s i).2=0:=by simp[Ch.eU,h0,h1,h2,h3,h4,h5,h6,hz]
    simp[jO,this]
   have HR:=a_ hR;have HN:=a_ hn;clear hR hn hz;go_enter func76,ntmps76;go_wp2_with(first|(go_at_call 115;refine(oU _ _ _ _ hs hi (by decide) (by decide)).mono ?_;rintro e w' ⟨rfl,rfl⟩)|(go_at_call 116;refine(qg _ _ _ hs (by omega) (by omega)).mono ?_;rintro e w' ⟨rfl,rfl⟩;rw[HJ.out,HN.out]))
   go_ret2
   refine⟨?_,Below.refl _ _⟩;rw[HR.out];rfl
  ·have hR:jO s i=(Lib.encodeRune (mC s (i+2) 10).1,(mC s (i+2) 10).2):=by
    have h1:Ch.eU s i=((Ch.fZ s (i+2) 10).1,2+(Ch.fZ s (i+2) 10).2):=by simp[Ch.eU,h0,h1,h2,h3,h4,h5,h6,hz]
    have hsp:=Ch.tq (by decide) hz;have h2:¬(Ch.eU s i).2=0:=by rw[h1];simp only;omega
    unfold jO;rw[if_neg h2,h1,Ai,ww];simp only;congr 1;omega
   have HR:=a_ hR;clear hR Ai ww hz;have HM:=a_ hm;clear hm;generalize hX:mC s (i+2) 10=X at*
   have HX:=a_ hX;clear hX;go_enter func76,ntmps76;go_wp2_with(first|(go_at_call 115;refine(oU _ _ _ _ hs hi (by decide) (by decide)).mono ?_;rintro e w' ⟨rfl,rfl⟩)|(go_at_call 116;refine(qg _ _ _ hs (by omega) (by omega)).mono ?_;rintro e w' ⟨rfl,rfl⟩;rw[HJ.out,HX.out])|(go_at_call 117;refine(AA _ _ HM.out).mono ?_;rintro e w1 ⟨rfl,b1⟩))
   go_ret2
   refine⟨?_,b1⟩;rw[HR.out];rfl
 have hR:jO s i=([],-1):=by
  have:Ch.eU s i=(0,0):=by simp[Ch.eU,h0,h1,h2,h3,h4,h5,h6]
  simp[jO,this]
 have HR:=a_ hR;clear hR;go_enter func76,ntmps76;go_wp2_with(go_at_call 115;refine(oU _ _ _ _ hs hi (by decide) (by decide)).mono ?_;rintro e w' ⟨rfl,rfl⟩)
 go_ret2
 refine⟨?_,Below.refl _ _⟩;rw[HR.out];rfl
end K
end Go.Proofs.YthlcmljckpdheaaGreatDoor
namespace Go.Proofs.YthlcmljckpdheaaGreatDoor
namespace K.Ch
open Go.Proofs.YthlcmljckpdheaaGreatDoor.Ch
open Go
theorem ED{s t:ByteArray}{i j:Nat}(h0:bz s i=bz t j)(Ct:128<=bz s i)
  (h1:cont s (i+1)->bz s (i+1)=bz t (j+1)) (n1:¬cont s (i+1)->¬cont t (j+1))
  (h2:cont s (i+1)->cont s (i+2)->bz s (i+2)=bz t (j+2)) (n2:cont s (i+1)->¬cont s (i+2)->¬cont t (j+2))
  (h3:cont s (i+1)->cont s (i+2)->cont s (i+3)->bz s (i+3)=bz t (j+3)) (n3:cont s (i+1)->cont s (i+2)->¬cont s (i+3)->¬cont t (j+3)):
  Utf8.decode t j=Utf8.decode s i:=by
 have c1:∀(h:cont s (i+1)),cont t (j+1):=fun h=>by unfold cont at*;rw[<-h1 h];exact h
 have c2:∀(h:cont s (i+1)),cont s (i+2)->cont t (j+2):=fun h k=>by unfold cont at*;rw[<-h2 h k];exact k
 have c3:∀(h:cont s (i+1)),cont s (i+2)->cont s (i+3)->cont t (j+3):=fun h k l=>by unfold cont at*;rw[<-h3 h k l];exact l
 by_cases a2:bz s i<192
 ·rw[fN (Or.inl ⟨Ct,a2⟩),fN (Or.inl ⟨by omega,by omega⟩)]
 by_cases a3:bz s i<224
 ·by_cases k1:cont s (i+1)
  ·rw[iN (by omega) a3 k1,iN (by omega) (by omega) (c1 k1)];simp only[acc,ax,h0,h1 k1]
  ·rw[ie (by omega) a3 k1,ie (by omega) (by omega) (n1 k1)]
 by_cases a4:bz s i<240
 ·by_cases k1:cont s (i+1)
  ·by_cases k2:cont s (i+2)
   ·rw[gJ (by omega) a4 k1 k2,gJ (by omega) (by omega) (c1 k1) (c2 k1 k2)];simp only[acc,ax,Nat.reduceAdd,h0,h1 k1,h2 k1 k2]
   ·rw[fE (by omega) a4 (Or.inr k2),fE (by omega) (by omega) (Or.inr (n2 k1 k2))]
  ·rw[fE (by omega) a4 (Or.inl k1),fE (by omega) (by omega) (Or.inl (n1 k1))]
 by_cases a5:bz s i<248
 ·by_cases k1:cont s (i+1)
  ·by_cases k2:cont s (i+2)
   ·by_cases k3:cont s (i+3)
    ·rw[il (by omega) a5 k1 k2 k3,il (by omega) (by omega) (c1 k1) (c2 k1 k2) (c3 k1 k2 k3)];simp only[acc,ax,Nat.reduceAdd,h0,h1 k1,h2 k1 k2,h3 k1 k2 k3]
    ·rw[fq (by omega) a5 (Or.inr (Or.inr k3)),fq (by omega) (by omega) (Or.inr (Or.inr (n3 k1 k2 k3)))]
   ·rw[fq (by omega) a5 (Or.inr (Or.inl k2)),fq (by omega) (by omega) (Or.inr (Or.inl (n2 k1 k2)))]
  ·rw[fq (by omega) a5 (Or.inl k1),fq (by omega) (by omega) (Or.inl (n1 k1))]
 ·rw[fN (Or.inr (by omega)),fN (Or.inr (by omega))]
def txt(l:List UInt8):ByteArray:=⟨l.toArray⟩
theorem tB(l:List UInt8)(i:Nat):bz (txt l) i=(match l[i]? with|some c=>(c.toNat:Int)|none=> -1):=by
 unfold bz;have hs:(txt l).size=l.length:=by show l.toArray.size=_;simp
 rw[hs];by_cases h:i<l.length
 ·rw[if_pos h,ap h];have h2:i<(txt l).size:=by rw[hs];exact h
  have e:(txt l).get! i=(txt l)[i]:=by simp[ByteArray.get!,h2];rfl
  rw[e];have e2:(txt l)[i]=l[i]:=rfl;rw[e2];rfl
 ·rw[if_neg h,List.getElem?_eq_none (by omega)]
theorem Pb(s:ByteArray):txt s.data.toList=s:=rfl
theorem lr(c:UInt8)(l:List UInt8)(k:Nat):bz (txt (c::l)) (k+1)=bz (txt l) k:=by rw[tB,tB];rfl
theorem lu(c:UInt8)(l:List UInt8):bz (txt (c::l)) 0=(c.toNat:Int):=by rw[tB];rfl
theorem pP{s t:ByteArray}{i j:Nat}(hi:i<s.size)(h:∀k,bz s (i+k)=bz t (j+k)):Utf8.decode t j=Utf8.decode s i:=by
 have h0:=h 0;simp only[bN]at h0;have hs0:0<=bz s i:=by unfold bz;rw[if_pos hi];omega
 by_cases ha:bz s i<128
 ·rw[gM hs0 ha,gM (by omega) (by omega),h0]
 ·have hc:∀k,cont s (i+k)↔cont t (j+k):=fun k=>by unfold cont;rw[h k]
  exact ED h0 (by omega) (fun _=>h 1) (fun n q=>n ((hc 1).2 q)) (fun _ _=>h 2) (fun _ n q=>n ((hc 2).2 q)) (fun _ _ _=>h 3) (fun _ _ n q=>n ((hc 3).2 q))
theorem Hn{q:Bool}{c:UInt8}(h:oL (c.toNat:Int) q=[]):zT q c=[c]:=by simp[zT,h]
theorem Pc{q:Bool}{c:UInt8}(h:¬oL (c.toNat:Int) q=[]):zT q c=oL (c.toNat:Int) q:=by simp[zT,h]
theorem EE{r:Int}{q:Bool}(h:¬oL r q=[]):∃l,oL r q=38::l:=by
 unfold oL at*
 repeat' split
 all_goals simp_all
theorem mD(l:List UInt8):(txt l).size=l.length:=by
 show l.toArray.size=_;simp
def pre(q:Bool)(L:List UInt8)(p:Nat):Nat:=(tu q (L.take p)).length
theorem Pd(q:Bool)(c:UInt8):1<=(zT q c).length:=by
 by_cases h:oL (c.toNat:Int) q=[]
 ·rw[Hn h];simp
 ·obtain⟨l,hl⟩:=EE h;rw[Pc h,hl];simp
theorem TQ(q:Bool)(L:List UInt8):L.length<=(tu q L).length:=by
 induction L with
 |nil=>simp[tu]
 |cons c L ih=>
  have:=Pd q c;have e:tu q (c::L)=zT q c++tu q L:=by simp[tu]
  rw[e];simp;omega
theorem JX{s t:ByteArray}{i j:Nat}(h:Utf8.decode t j=Utf8.decode s i):gW t j=gW s i:=by unfold gW;rw[h]
section
section
variable{a b ab:ByteArray}
def BN(a b ab:ByteArray):Prop:=ab.size=a.size+b.size/\(∀k,k<a.size->bz ab k=bz a k)/\∀k,bz ab (a.size+k)=bz b k
theorem wK(s:ByteArray):∀f p,p<=s.size->p<=fQ s f p:=by
 intro f;induction f with
 |zero=>intro p _;exact aj _
 |succ f ih=>
  intro p hp;rw[fQ.eq_2];by_cases h:p<s.size
  ·have hw:=fo s p h;rw[if_pos h];split
   ·have:=ih (p+(Utf8.decode s p).2) hw.1;omega
   ·omega
  ·rw[if_neg h];exact hp
theorem qD(s:ByteArray):∀f p,p<=s.size->fQ s f p<=s.size:=by
 intro f;induction f with
 |zero=>intro p h;exact h
 |succ f ih=>
  intro p h;rw[fQ.eq_2];by_cases hp:p<s.size
  ·rw[if_pos hp];split
   ·exact ih _ (fo s p hp).1
   ·exact h
  ·rw[if_neg hp];exact aj _
end
end
theorem lN(r:Int):Utf8.valid r=true↔(0<=r/\r<55296)\/(57343<r/\r<=1114111):=by simp only[Utf8.valid,bE,aV,aW];omega
theorem rM{c:Int}(hv:Utf8.valid c=true):Utf8.encode c=txt (Lib.encodeRune c):=by
 have h:=(lN c).1 hv;unfold Utf8.encode;simp only[hv,if_true];obtain⟨n,rfl⟩:∃n:Nat,c=n:=⟨c.toNat,by omega⟩
 have e1:(n:Int).toNat=n:=by omega
 rw[e1];simp only[txt,Lib.encodeRune];by_cases a1:n<128
 ·rw[if_pos a1,Lib.encodeRuneZ_one (by omega) (by omega)];simp
 rw[if_neg a1];by_cases a2:n<2048
 ·rw[if_pos a2,Lib.encodeRuneZ_two (by omega) (by omega)];have e2:((192:Int)+(n:Int)/64).toNat=192+n/64:=by omega
  have e3:((128:Int)+(n:Int)%64).toNat=128+n%64:=by omega
  simp[e2,e3]
 rw[if_neg a2];by_cases a3:n<65536
 ·rw[if_pos a3,Lib.encodeRuneZ_three (by omega)];have e2:((224:Int)+(n:Int)/4096).toNat=224+n/4096:=by omega
  have e3:((128:Int)+(n:Int)/64%64).toNat=128+n/64%64:=by omega
  have e4:((128:Int)+(n:Int)%64).toNat=128+n%64:=by omega
  simp[e2,e3,e4]
 ·rw[if_neg a3,Lib.encodeRuneZ_four (by omega) (by omega)];have e2:((240:Int)+(n:Int)/262144).toNat=240+n/262144:=by omega
  have e5:((128:Int)+(n:Int)/4096%64).toNat=128+n/4096%64:=by omega
  have e3:((128:Int)+(n:Int)/64%64).toNat=128+n/64%64:=by omega
  have e4:((128:Int)+(n:Int)%64).toNat=128+n%64:=by omega
  simp[e2,e3,e4,e5]
theorem mg{x:Int}(h0:0<=x)(h1:x<256):((x.toNat.toUInt8).toNat:Int)=x:=by
 have:x.toNat.toUInt8.toNat=x.toNat:=by simp;omega
 omega
theorem xw{c:Int}(hv:Utf8.valid c=true)(l:List UInt8):Utf8.decode (txt (Lib.encodeRune c++l)) 0=(c.toNat,(Lib.encodeRune c).length):=by
 have h:=(lN c).1 hv;by_cases a1:c<128
 ·have e:Lib.encodeRune c=[c.toNat.toUInt8]:=by simp[Lib.encodeRune,Lib.encodeRuneZ_one (show 0<=c by omega) (show c<=127 by omega)]
  rw[e];have b0:bz (txt ([c.toNat.toUInt8]++l)) 0=c:=by
   show bz (txt (c.toNat.toUInt8::l)) 0=c;rw[lu];exact mg (by omega) (by omega)
  rw[gM (by omega) (by omega),b0];rfl
 by_cases a2:c<2048
 ·have e:Lib.encodeRune c=[(192+c/64).toNat.toUInt8,(128+c%64).toNat.toUInt8]:=by simp[Lib.encodeRune,Lib.encodeRuneZ_two (show 128<=c by omega) (show c<=2047 by omega)]
  rw[e];generalize hs:txt ([(192+c/64).toNat.toUInt8,(128+c%64).toNat.toUInt8]++l)=s;have b0:bz s 0=192+c/64:=by rw[<-hs];exact(lu _ _).trans (mg (by omega) (by omega))
  have b1:bz s 1=128+c%64:=by rw[<-hs];exact((lr _ _ 0).trans (lu _ _)).trans (mg (by omega) (by omega))
  rw[iN (by omega) (by omega) (by show cont s 1;unfold cont;omega)];have ea:acc s 0 (bz s 0-192) 1=c:=by simp only[acc,b0,b1,ax];omega
  rw[ea,if_pos (by omega)];rfl
 by_cases a3:c<65536
 ·have e:Lib.encodeRune c=[(224+c/4096).toNat.toUInt8,(128+c/64%64).toNat.toUInt8,(128+c%64).toNat.toUInt8]:=by simp[Lib.encodeRune,Lib.encodeRuneZ_three (show (2048<=c/\c<55296)\/(57343<c/\c<=65535) by omega)]
  rw[e];generalize hs:txt ([(224+c/4096).toNat.toUInt8,(128+c/64%64).toNat.toUInt8,(128+c%64).toNat.toUInt8]++l)=s;have b0:bz s 0=224+c/4096:=by rw[<-hs];exact(lu _ _).trans (mg (by omega) (by omega))
  have b1:bz s 1=128+c/64%64:=by rw[<-hs];exact((lr _ _ 0).trans (lu _ _)).trans (mg (by omega) (by omega))
  have b2:bz s 2=128+c%64:=by rw[<-hs];exact((lr _ _ 1).trans ((lr _ _ 0).trans (lu _ _))).trans (mg (by omega) (by omega))
  rw[gJ (by omega) (by omega) (by show cont s 1;unfold cont;omega) (by show cont s 2;unfold cont;omega)];have ea:acc s 0 (bz s 0-224) 2=c:=by simp only[acc,b0,b1,b2,ax,Nat.reduceAdd];omega
  rw[ea,if_pos ⟨by omega,hv⟩];rfl
 ·have e:Lib.encodeRune c=[(240+c/262144).toNat.toUInt8,(128+c/4096%64).toNat.toUInt8,(128+c/64%64).toNat.toUInt8,(128+c%64).toNat.toUInt8]:=by simp[Lib.encodeRune,Lib.encodeRuneZ_four (show 65536<=c by omega) (show c<=1114111 by omega)]
  rw[e];generalize hs:txt ([(240+c/262144).toNat.toUInt8,(128+c/4096%64).toNat.toUInt8,(128+c/64%64).toNat.toUInt8,(128+c%64).toNat.toUInt8]++l)=s;have b0:bz s 0=240+c/262144:=by rw[<-hs];exact(lu _ _).trans (mg (by omega) (by omega))
  have b1:bz s 1=128+c/4096%64:=by rw[<-hs];exact((lr _ _ 0).trans (lu _ _)).trans (mg (by omega) (by omega))
  have b2:bz s 2=128+c/64%64:=by rw[<-hs];exact((lr _ _ 1).trans ((lr _ _ 0).trans (lu _ _))).trans (mg (by omega) (by omega))
  have b3:bz s 3=128+c%64:=by rw[<-hs];exact((lr _ _ 2).trans ((lr _ _ 1).trans ((lr _ _ 0).trans (lu _ _)))).trans (mg (by omega) (by omega))
  rw[il (by omega) (by omega) (by show cont s 1;unfold cont;omega) (by show cont s 2;unfold cont;omega) (by show cont s 3;unfold cont;omega)];have ea:acc s 0 (bz s 0-240) 3=c:=by simp only[acc,b0,b1,b2,b3,ax,Nat.reduceAdd];omega
  rw[ea,if_pos ⟨by omega,hv⟩];rfl
theorem Cw(c:Int):1<=(Lib.encodeRune c).length:=by
 simp only[Lib.encodeRune,Lib.encodeRuneZ,cA]
 repeat' split
 all_goals simp
theorem Pe{c:Int}(hm:may c=true)(l:List UInt8):gW (txt (Lib.encodeRune c++l)) 0=true:=by
 have hv:=ig hm;have h:=(lN c).1 hv;unfold gW;rw[xw hv];have e:((c.toNat:Nat):Int)=c:=by omega
 simp only[e,hm,cP,bE,bne_iff_ne,ne_eq,bG];by_cases h3:c.toNat=65533
 ·right;have:c=65533:=by omega
  subst this;decide
 ·exact Or.inl h3
theorem EF{c:Int}(hm:may c=true):(0<name (txt (Lib.encodeRune c)))↔ft c=true:=by
 have hv:=ig hm;have h:=(lN c).1 hv;have hd:=xw hv [];have ho:=Pe hm [];have hp:=Cw c;have e:((c.toNat:Nat):Int)=c:=by omega
 rw[aM]at hd ho;generalize hs:txt (Lib.encodeRune c)=s at*
 have hl:s.size=(Lib.encodeRune c).length:=by rw[<-hs];exact mD _
 unfold name fQ;rw[if_pos (by omega)];have hi:jI s 0=ft c:=by simp[jI,ho,hd,e]
 rw[hi];cases hb:ft c
 ·simp
 ·simp only[if_true,iff_true];have:=wK s s.size (0+(Utf8.decode s 0).2) (by rw[hd];simp;omega);rw[hd]at this ⊢;simp only at this ⊢;omega
theorem LB{c:Int}(hm:may c=true):(1<name (txt (95::Lib.encodeRune c)))↔(ft c||gj c)=true:=by
 have hv:=ig hm;have h:=(lN c).1 hv;have hd:=xw hv [];have ho:=Pe hm [];have hp:=Cw c;have e:((c.toNat:Nat):Int)=c:=by omega
 rw[aM]at hd ho;generalize hs:txt (95::Lib.encodeRune c)=s;have hl:s.size=(Lib.encodeRune c).length+1:=by rw[<-hs];exact mD _
 have b0:bz s 0=95:=by rw[<-hs];exact lu _ _
 have hd0:Utf8.decode s 0=(95,1):=by rw[gM (by omega) (by omega),b0];rfl
 have hd1:Utf8.decode s 1=Utf8.decode (txt (Lib.encodeRune c)) 0:=by
  refine pP (by rw[mD];omega) ?_;intro k;rw[<-hs,show 1+k=k+1 by omega,lr,ax]
 have ho1:gW s 1=true:=by rw[JX hd1];exact ho
 have ho0:gW s 0=true:=by unfold gW;rw[hd0];decide
 have qA:jI s 0=true:=by simp only[jI,ho0,hd0];decide
 have DM:jI s 1=(ft c||gj c):=by simp[jI,ho1,hd1,hd,e]
 unfold name fQ;rw[if_pos (by omega),qA,if_pos rfl,hd0,show s.size=((Lib.encodeRune c).length)+1 from hl];show 1<fQ s _ 1↔_;unfold fQ;rw[if_pos (by omega),DM];cases hb:(ft c||gj c)
 ·simp
 ·simp only[if_true,iff_true];have:=wK s (Lib.encodeRune c).length (1+(Utf8.decode s 1).2) (by rw[hd1,hd];simp;omega);rw[hd1,hd]at this ⊢;simp only at this ⊢;omega
end K.Ch
end Go.Proofs.YthlcmljckpdheaaGreatDoor
