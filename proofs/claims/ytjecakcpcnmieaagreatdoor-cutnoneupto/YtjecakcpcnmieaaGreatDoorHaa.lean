import Derived.Test.YtjecakcpcnmieaaGreatDoorHA
import Derived.Shelf.Strings.Trim
import Derived.Shelf.Strings.SlTrimAscii
import Derived.Shelf.Strings.Prefix
import Derived.Shelf.Strings.Search1
import Derived.Test.YtjecakcpcnmieaaGreatDoorProg
import Derived.Laws.RangeString
import Derived.Laws.RangeAny
import Derived.WalkKit
import Derived.WalkSpells
import Derived.Outline
import Derived.Lib.Strings
import Derived.Lib.IndexBytes
import Derived.BigCall
set_option linter.unusedVariables false
set_option linter.unusedSimpArgs false
set_option maxHeartbeats 32000000
set_option maxRecDepth 100000
namespace Go.Proofs
open Go.Shelf
def Tryz.lays99_ren:Go.Shelf.Ren:=⟨fun|99=>184|206=>218|n=>n,fun|3=>3|4=>4|9=>9|n=>n,fun  |n=>n⟩
theorem Tryz.lays99:Go.Proofs.Lays.n99 Tryz.prog Tryz.lays99_ren:={
 mixed:=by kernel_rfl
 f99:=Tryz.func184.trans (aC some (by kernel_rfl))
 f206:=Tryz.func218.trans (aC some (by kernel_rfl))
 t3:=Tryz.underlying3
 a3:=Tryz.isAgg3
 z3:=Tryz.sizeOf3
 v3:=Tryz.zeroValue3
 t4:=Tryz.underlying4
 a4:=Tryz.isAgg4
 z4:=Tryz.sizeOf4
 v4:=Tryz.zeroValue4
 t9:=Tryz.underlying9
 a9:=Tryz.isAgg9
 z9:=Tryz.sizeOf9
 v9:=Tryz.zeroValue9}
open Go.RowKit Go.Lib in
theorem Tryz.strings_HasPrefix(s p:ByteArray)(w:World):
 Calls Tryz.prog 184 #[.string s,.string p] w fun e w'=>e=.returned (.bool (Lib.hasPrefix s.data.toList p.data.toList))/\w'=w:=Any.strings_HasPrefix Tryz.lays99 s p w
def Tryz.lays161_ren:Go.Shelf.Ren:=⟨fun|119=>244|137=>243|151=>202|152=>229|161=>186|197=>166|217=>254|224=>245|225=>246|227=>172|228=>201|231=>170|233=>173|235=>175|260=>200|266=>263|n=>n,fun|0=>0|3=>3|4=>4|5=>5|9=>9|21=>21|46=>280|105=>249|116=>270|117=>271|119=>290|124=>274|138=>292|139=>293|n=>n,fun|3=>3|4=>4|n=>n⟩
theorem Tryz.lays161:Go.Proofs.Lays.n161 Tryz.prog Tryz.lays161_ren:={
 mixed:=by kernel_rfl
 f119:=Tryz.func244.trans (aC some (by kernel_rfl))
 f137:=Tryz.func243.trans (aC some (by kernel_rfl))
 f151:=Tryz.func202.trans (aC some (by kernel_rfl))
 f152:=Tryz.func229.trans (aC some (by kernel_rfl))
 f161:=Tryz.func186.trans (aC some (by kernel_rfl))
 f197:=Tryz.func166.trans (aC some (by kernel_rfl))
 f217:=Tryz.func254.trans (aC some (by kernel_rfl))
 f224:=Tryz.func245.trans (aC some (by kernel_rfl))
 f225:=Tryz.func246.trans (aC some (by kernel_rfl))
 f227:=Tryz.func172.trans (aC some (by kernel_rfl))
 f228:=Tryz.func201.trans (aC some (by kernel_rfl))
 f231:=Tryz.func170.trans (aC some (by kernel_rfl))
 f233:=Tryz.func173.trans (aC some (by kernel_rfl))
 f235:=Tryz.func175.trans (aC some (by kernel_rfl))
 f260:=Tryz.func200.trans (aC some (by kernel_rfl))
 f266:=Tryz.func263.trans (aC some (by kernel_rfl))
 t0:=Tryz.underlying0
 a0:=Tryz.isAgg0
 z0:=Tryz.sizeOf0
 v0:=Tryz.zeroValue0
 t3:=Tryz.underlying3
 a3:=Tryz.isAgg3
 z3:=Tryz.sizeOf3
 v3:=Tryz.zeroValue3
 t4:=Tryz.underlying4
 a4:=Tryz.isAgg4
 z4:=Tryz.sizeOf4
 v4:=Tryz.zeroValue4
 t5:=Tryz.underlying5
 a5:=Tryz.isAgg5
 z5:=Tryz.sizeOf5
 v5:=Tryz.zeroValue5
 t9:=Tryz.underlying9
 a9:=Tryz.isAgg9
 z9:=Tryz.sizeOf9
 v9:=Tryz.zeroValue9
 t21:=Tryz.underlying21
 a21:=Tryz.isAgg21
 z21:=Tryz.sizeOf21
 v21:=Tryz.zeroValue21
 t46:=Tryz.underlying280
 a46:=Tryz.isAgg280
 z46:=Tryz.sizeOf280
 v46:=Tryz.zeroValue280
 t105:=Tryz.underlying249
 a105:=Tryz.isAgg249
 z105:=Tryz.sizeOf249
 v105:=Tryz.zeroValue249
 t116:=Tryz.underlying270
 a116:=Tryz.isAgg270
 z116:=Tryz.sizeOf270
 t117:=Tryz.underlying271
 a117:=Tryz.isAgg271
 z117:=Tryz.sizeOf271
 v117:=Tryz.zeroValue271
 t119:=Tryz.underlying290
 a119:=Tryz.isAgg290
 z119:=Tryz.sizeOf290
 t124:=Tryz.underlying274
 a124:=Tryz.isAgg274
 z124:=Tryz.sizeOf274
 v124:=Tryz.zeroValue274
 t138:=Tryz.underlying292
 a138:=Tryz.isAgg292
 z138:=Tryz.sizeOf292
 v138:=Tryz.zeroValue292
 t139:=Tryz.underlying293
 a139:=Tryz.isAgg293
 z139:=Tryz.sizeOf293
 v139:=Tryz.zeroValue293
 g3:=by kernel_rfl
 g4:=by kernel_rfl}
open Go.RowKit in
theorem Tryz.strings_TrimLeft_blanks(s:ByteArray)(w:World):
  Calls Tryz.prog 186 #[.string s,.string ⟨#[9,10,13,32]⟩] w fun e w'=>e=.returned (.string ⟨(Lib.trimLeftS s.data.toList [9,10,13,32]).toArray⟩)/\Below w.heap.size w w':=
 Any.strings_TrimLeft_laid Tryz.lays161 (by kernel_rfl) s ⟨#[9,10,13,32]⟩ w (by decide) (ascii_of_all (by decide))
end Go.Proofs
namespace Go.Proofs.YtjecakcpcnmieaaGreatDoor
namespace Ch
open Go
def may(r:Int):Bool:=r==9||r==10||r==13||(decide (32<=r)&&decide (r<=55295))||(decide (57344<=r)&&decide (r<=65533))||(decide (65536<=r)&&decide (r<=1114111))
theorem mJ(r:Int):may r=true↔r=9\/r=10\/r=13\/(32<=r/\r<=55295)\/(57344<=r/\r<=65533)\/(65536<=r/\r<=1114111):=by
 simp only[may,bw,aY,bA,ba];omega
theorem wz{r:Int}(h:¬(r=9\/r=10\/r=13\/(32<=r/\r<=55295)\/(57344<=r/\r<=65533)\/(65536<=r/\r<=1114111))):may r=false:=by
 cases e:may r
 ·rfl
 ·exact absurd ((mJ r).1 e) h
def bz(s:ByteArray)(i:Nat):Int:=if i<s.size then((s.get! i).toNat:Int)else-1
theorem uQ(s:ByteArray)(i:Nat): -1<=bz s i/\bz s i<=255:=by
 unfold bz;have:=(s.get! i).toNat_lt;split<;>omega
def gY(s:ByteArray)(i:Nat):Bool:=may (Utf8.decode s i).1&&((Utf8.decode s i).1 !=65533||(Utf8.decode s i).2==3)
def acc(s:ByteArray)(i:Nat)(r0:Int):Nat->Int
 |0=>r0
 |k+1=>64*acc s i r0 k+bz s (i+(k+1))-128
def cont(s:ByteArray)(i:Nat):Prop:=128<=bz s i/\bz s i<192
theorem EY(s:ByteArray)(i k:Nat):((decide (i+k<s.size)&&(s.get! (i+k)).toNat/64==2)=true)↔cont s (i+k):=by
 unfold cont bz;by_cases h:i+k<s.size
 ·simp[h];omega
 ·simp[h]
theorem ib{s:ByteArray}{i:Nat}(h:0<=bz s i):i<s.size/\((s.get! i).toNat:Int)=bz s i:=by
 unfold bz at*
 split at h
 ·exact⟨‹_›,by simp[*]⟩
 ·omega
theorem g_{s:ByteArray}{i:Nat}(h0:0<=bz s i)(h1:bz s i<128):Utf8.decode s i=((bz s i).toNat,1):=by
 obtain⟨hi,hb⟩:=ib h0;have e:(s.get! i).toNat<128:=by omega
 simp only[Utf8.decode,bH,e,if_true];congr 1;omega
theorem fS{s:ByteArray}{i:Nat}(h:(128<=bz s i/\bz s i<192)\/248<=bz s i):Utf8.decode s i=(65533,1):=by
 obtain⟨hi,hb⟩:=ib (s:=s) (i:=i) (by omega);have h3:=(s.get! i).toNat_lt;have e1:¬(s.get! i).toNat<128:=by omega
 have e2:((s.get! i).toNat/32==6)=false:=by simp;omega
 have e3:((s.get! i).toNat/16==14)=false:=by simp;omega
 have e4:((s.get! i).toNat/8==30)=false:=by simp;omega
 simp[Utf8.decode,e1,e2,e3,e4,Utf8.runeError]
theorem uj{s:ByteArray}{i k:Nat}(h:¬cont s (i+k)):(decide (i+k<s.size)&&(s.get! (i+k)).toNat/64==2)=false:=by rw[Bool.eq_false_iff];intro e;exact h ((EY s i k).1 e)
theorem nU{s:ByteArray}{i k:Nat}(h:cont s (i+k)):(decide (i+k<s.size)&&(s.get! (i+k)).toNat/64==2)=true:=(EY s i k).2 h
theorem iR{s:ByteArray}{i:Nat}(h0:192<=bz s i)(h1:bz s i<224)(c1:cont s (i+1)):
  Utf8.decode s i=if 128<=acc s i (bz s i-192) 1 then((acc s i (bz s i-192) 1).toNat,2)else(65533,1):=by
 obtain⟨hi,hb⟩:=ib (s:=s) (i:=i) (by omega);obtain⟨EZ,hb1⟩:=ib (s:=s) (i:=i+1) (by unfold cont at c1;omega);have k1:=nU c1;have e1:¬(s.get! i).toNat<128:=by omega
 have e2:((s.get! i).toNat/32==6)=true:=by simp;omega
 unfold cont at c1;simp only[Utf8.decode,bH,e1,e2,k1,bf,if_true,ek,Utf8.runeError,acc];simp only[ay];have hc:(((s.get! i).toNat%32*64+(s.get! (i+1)).toNat%64:Nat):Int)=64*(bz s i-192)+bz s (i+1)-128:=by omega
 by_cases h:128<=(s.get! i).toNat%32*64+(s.get! (i+1)).toNat%64
 ·rw[if_pos (by simpa using h),if_pos (by omega)];congr 1;omega
 ·rw[if_neg (by simpa using h),if_neg (by omega)]
theorem ik{s:ByteArray}{i:Nat}(h0:192<=bz s i)(h1:bz s i<224)(c1:¬cont s (i+1)):Utf8.decode s i=(65533,1):=by
 obtain⟨hi,hb⟩:=ib (s:=s) (i:=i) (by omega);have k1:=uj c1;have e1:¬(s.get! i).toNat<128:=by omega
 have e3:((s.get! i).toNat/16==14)=false:=by simp;omega
 have e4:((s.get! i).toNat/8==30)=false:=by simp;omega
 simp only[Utf8.decode,bH,e1,e3,e4,k1,bf,Bool.and_false,cG,Utf8.runeError,aA]
theorem gM{s:ByteArray}{i:Nat}(h0:224<=bz s i)(h1:bz s i<240)(c1:cont s (i+1))(c2:cont s (i+2)):
  Utf8.decode s i=if 2048<=acc s i (bz s i-224) 2/\Utf8.valid (acc s i (bz s i-224) 2)=true then((acc s i (bz s i-224) 2).toNat,3)else(65533,1):=by
 obtain⟨hi,hb⟩:=ib (s:=s) (i:=i) (by omega);obtain⟨EZ,hb1⟩:=ib (s:=s) (i:=i+1) (by unfold cont at c1;omega);obtain⟨IG,hb2⟩:=ib (s:=s) (i:=i+2) (by unfold cont at c2;omega);have k1:=nU c1;have k2:=nU c2;have e1:¬(s.get! i).toNat<128:=by omega
 have e2:((s.get! i).toNat/32==6)=false:=by simp;omega
 have e3:((s.get! i).toNat/16==14)=true:=by simp;omega
 unfold cont at c1 c2;simp only[Utf8.decode,bH,e1,e2,e3,k1,k2,bf,if_true,ek,cG,Utf8.runeError,acc,aA];simp only[ay,Nat.reduceAdd];have hc:(((s.get! i).toNat%16*4096+(s.get! (i+1)).toNat%64*64+(s.get! (i+2)).toNat%64:Nat):Int)=64*(64*(bz s i-224)+bz s (i+1)-128)+bz s (i+2)-128:=by omega
 generalize 64*(64*(bz s i-224)+bz s (i+1)-128)+bz s (i+2)-128=z at hc ⊢;generalize (s.get! i).toNat%16*4096+(s.get! (i+1)).toNat%64*64+(s.get! (i+2)).toNat%64=c at hc ⊢;subst hc;by_cases h:2048<=c/\Utf8.valid c=true
 ·rw[if_pos (by rw[aY,ba];exact h),if_pos ⟨by omega,h.2⟩];congr 1
 ·rw[if_neg (by rw[aY,ba];exact h),if_neg (fun q=>h ⟨by omega,q.2⟩)]
theorem fA{s:ByteArray}{i:Nat}(h0:224<=bz s i)(h1:bz s i<240)(c1:¬cont s (i+1)\/¬cont s (i+2)):Utf8.decode s i=(65533,1):=by
 obtain⟨hi,hb⟩:=ib (s:=s) (i:=i) (by omega);have e1:¬(s.get! i).toNat<128:=by omega
 have e2:((s.get! i).toNat/32==6)=false:=by simp;omega
 have e4:((s.get! i).toNat/8==30)=false:=by simp;omega
 rcases c1 with c1|c1;all_goals have k1:=uj c1
 all_goals simp only[Utf8.decode,bH,e1,e2,e4,k1,bf,Bool.and_false,cG,Utf8.runeError,aA]
theorem iy{s:ByteArray}{i:Nat}(h0:240<=bz s i)(h1:bz s i<248)(c1:cont s (i+1))(c2:cont s (i+2))(c3:cont s (i+3)):
  Utf8.decode s i=if 65536<=acc s i (bz s i-240) 3/\Utf8.valid (acc s i (bz s i-240) 3)=true then((acc s i (bz s i-240) 3).toNat,4)else(65533,1):=by
 obtain⟨hi,hb⟩:=ib (s:=s) (i:=i) (by omega);obtain⟨EZ,hb1⟩:=ib (s:=s) (i:=i+1) (by unfold cont at c1;omega);obtain⟨IG,hb2⟩:=ib (s:=s) (i:=i+2) (by unfold cont at c2;omega);obtain⟨hi3,hb3⟩:=ib (s:=s) (i:=i+3) (by unfold cont at c3;omega);have k1:=nU c1;have k2:=nU c2;have k3:=nU c3;have e1:¬(s.get! i).toNat<128:=by omega
 have e2:((s.get! i).toNat/32==6)=false:=by simp;omega
 have e3:((s.get! i).toNat/16==14)=false:=by simp;omega
 have e4:((s.get! i).toNat/8==30)=true:=by simp;omega
 unfold cont at c1 c2 c3;simp only[Utf8.decode,bH,e1,e2,e3,e4,k1,k2,k3,bf,if_true,ek,cG,Utf8.runeError,acc,aA];simp only[ay,Nat.reduceAdd];have hc:(((s.get! i).toNat%8*262144+(s.get! (i+1)).toNat%64*4096+(s.get! (i+2)).toNat%64*64+(s.get! (i+3)).toNat%64:Nat):Int)=64*(64*(64*(bz s i-240)+bz s (i+1)-128)+bz s (i+2)-128)+bz s (i+3)-128:=by omega
 generalize 64*(64*(64*(bz s i-240)+bz s (i+1)-128)+bz s (i+2)-128)+bz s (i+3)-128=z at hc ⊢;generalize (s.get! i).toNat%8*262144+(s.get! (i+1)).toNat%64*4096+(s.get! (i+2)).toNat%64*64+(s.get! (i+3)).toNat%64=c at hc ⊢;subst hc;by_cases h:65536<=c/\Utf8.valid c=true
 ·rw[if_pos (by rw[aY,ba];exact h),if_pos ⟨by omega,h.2⟩];congr 1
 ·rw[if_neg (by rw[aY,ba];exact h),if_neg (fun q=>h ⟨by omega,q.2⟩)]
theorem fh{s:ByteArray}{i:Nat}(h0:240<=bz s i)(h1:bz s i<248)(c1:¬cont s (i+1)\/¬cont s (i+2)\/¬cont s (i+3)):Utf8.decode s i=(65533,1):=by
 obtain⟨hi,hb⟩:=ib (s:=s) (i:=i) (by omega);have e1:¬(s.get! i).toNat<128:=by omega
 have e2:((s.get! i).toNat/32==6)=false:=by simp;omega
 have e3:((s.get! i).toNat/16==14)=false:=by simp;omega
 rcases c1 with c1|c1|c1;all_goals have k1:=uj c1
 all_goals simp only[Utf8.decode,bH,e1,e2,e3,k1,bf,Bool.and_false,cG,Utf8.runeError,aA]
theorem yL{s:ByteArray}{i:Nat}(h:Utf8.decode s i=(65533,1)):gY s i=false:=by simp[gY,h]
theorem yM{s:ByteArray}{i:Nat}{r0:Int}(k:Nat)(h0:0<=r0)(h1:r0<=255)(hk:k<=3)(hc:∀j,1<=j->j<=k->cont s (i+j)):0<=acc s i r0 k/\acc s i r0 k<=67108863:=by
 have a1:k=0\/k=1\/k=2\/k=3:=by omega
 rcases a1 with rfl|rfl|rfl|rfl
 ·simp[acc];omega
 ·have c1:=hc 1 (by omega) (by omega);unfold cont at c1;simp only[acc,ay];omega
 ·have c1:=hc 1 (by omega) (by omega);have c2:=hc 2 (by omega) (by omega);unfold cont at c1 c2;simp only[acc,ay,Nat.reduceAdd];omega
 ·have c1:=hc 1 (by omega) (by omega);have c2:=hc 2 (by omega) (by omega);have c3:=hc 3 (by omega) (by omega);unfold cont at c1 c2 c3;simp only[acc,ay,Nat.reduceAdd];omega
def lead(a:Int):Nat×Int:=
 if 0<=a/\a<128 then(1,a)else if 192<=a/\a<224 then(2,a-192)else if 224<=a/\a<240 then(3,a-224)else if 240<=a/\a<248 then(4,a-240)else(0,0)
def few(n:Nat)(r:Int):Bool:=(n==2&&decide (r<128))||(n==3&&decide (r<2048))||(n==4&&decide (r<65536))
def om(s:ByteArray)(i:Nat):Int×Int:=if i<s.size/\gY s i=true then(((Utf8.decode s i).1:Int),((Utf8.decode s i).2:Int))else(0,0)
theorem pZ{s:ByteArray}{i:Nat}(h:Utf8.decode s i=(65533,1)):om s i=(0,0):=by simp[om,yL h]
theorem MC{s:ByteArray}{i k:Nat}(hk:1<=k)(hkn:k<(lead (bz s i)).1)(hc:¬cont s (i+k)):om s i=(0,0):=by
 apply pZ;unfold lead at hkn;split at hkn
 ·simp at hkn;omega
 ·split at hkn
  ·simp at hkn;have:k=1:=by omega
   subst this;exact ik (by omega) (by omega) hc
  ·split at hkn
   ·simp at hkn;have:k=1\/k=2:=by omega
    refine fA (by omega) (by omega) ?_;rcases this with rfl|rfl
    ·exact Or.inl hc
    ·exact Or.inr hc
   ·split at hkn
    ·simp at hkn;have:k=1\/k=2\/k=3:=by omega
     refine fh (by omega) (by omega) ?_;rcases this with rfl|rfl|rfl
     ·exact Or.inl hc
     ·exact Or.inr (Or.inl hc)
     ·exact Or.inr (Or.inr hc)
    ·simp at hkn
theorem il{r:Int}(h:may r=true):Utf8.valid r=true:=by
 rw[mJ]at h;simp[Utf8.valid];omega
theorem Qe{s:ByteArray}{i:Nat}(hc:∀j,1<=j->j<(lead (bz s i)).1->cont s (i+j)):
  om s i=if(few (lead (bz s i)).1 (acc s i (lead (bz s i)).2 ((lead (bz s i)).1-1))||!may (acc s i (lead (bz s i)).2 ((lead (bz s i)).1-1)))=true then(0,0)
   else(acc s i (lead (bz s i)).2 ((lead (bz s i)).1-1),((lead (bz s i)).1:Int)):=by
 have hbd:=uQ s i;unfold lead at hc ⊢;split at hc
 ·rename_i h;simp only[h,and_self,if_true,dX,acc]at hc ⊢;have hd:=g_ h.1 h.2;have hi:=(ib h.1).1;have ht:(((bz s i).toNat:Nat):Int)=bz s i:=by omega
  simp only[om,gY,hd,ht,hi,few];cases hm:may (bz s i)
  ·simp
  ·have:(bz s i !=65533)=true:=by simp;omega
   have:¬((bz s i).toNat=65533):=by omega
   simp[this]
 ·rename_i x9;split at hc
  ·rename_i h;simp only[x9,h,and_self,if_true,bf,Nat.reduceSub]at hc ⊢;have c1:=hc 1 (by omega) (by omega);have hb:=yM (s:=s) (i:=i) (r0:=bz s i-192) 1 (by omega) (by omega) (by omega) (fun j a b=>hc j a (by omega));have hi:=(ib (s:=s) (i:=i) (by omega)).1;have hd:=iR h.1 h.2 c1;have oO:acc s i (bz s i-192) 1<=2047:=by unfold cont at c1;simp only[acc,ay];omega
   generalize acc s i (bz s i-192) 1=z at*
   by_cases hz:128<=z
   ·rw[if_pos hz]at hd;have ht:((z.toNat:Nat):Int)=z:=by omega
    have hne:¬z.toNat=65533:=by omega
    have hf:few 2 z=false:=by simp[few];omega
    simp only[om,gY,hd,ht,hi,hf];cases hm:may z
    ·simp
    ·simp[hne]
   ·rw[if_neg hz]at hd;have hf:few 2 z=true:=by simp[few];omega
    rw[pZ hd];simp[hf]
  ·rename_i tK;split at hc
   ·rename_i h;simp only[x9,tK,h,and_self,if_true,bf,Nat.reduceSub]at hc ⊢;have c1:=hc 1 (by omega) (by omega);have c2:=hc 2 (by omega) (by omega);have hb:=yM (s:=s) (i:=i) (r0:=bz s i-224) 2 (by omega) (by omega) (by omega) (fun j a b=>hc j a (by omega));have hi:=(ib (s:=s) (i:=i) (by omega)).1;have hd:=gM h.1 h.2 c1 c2;generalize acc s i (bz s i-224) 2=z at*
    by_cases hz:2048<=z
    ·have hf:few 3 z=false:=by simp[few];omega
     cases hm:may z
     ·simp only[hf,ei,dY,if_true];by_cases hv:Utf8.valid z=true
      ·rw[if_pos ⟨hz,hv⟩]at hd;have ht:((z.toNat:Nat):Int)=z:=by omega
       simp[om,gY,hd,ht,hm]
      ·rw[if_neg (fun q=>hv q.2)]at hd;exact pZ hd
     ·rw[if_pos ⟨hz,il hm⟩]at hd;have ht:((z.toNat:Nat):Int)=z:=by omega
      simp[om,gY,hd,ht,hm,hi,hf]
    ·rw[if_neg (fun q=>hz q.1)]at hd;have hf:few 3 z=true:=by simp[few];omega
     rw[pZ hd];simp[hf]
   ·rename_i hn3;split at hc
    ·rename_i h;simp only[x9,tK,hn3,h,and_self,if_true,bf,Nat.reduceSub]at hc ⊢;have c1:=hc 1 (by omega) (by omega);have c2:=hc 2 (by omega) (by omega);have c3:=hc 3 (by omega) (by omega);have hb:=yM (s:=s) (i:=i) (r0:=bz s i-240) 3 (by omega) (by omega) (by omega) (fun j a b=>hc j a (by omega));have hi:=(ib (s:=s) (i:=i) (by omega)).1;have hd:=iy h.1 h.2 c1 c2 c3;generalize acc s i (bz s i-240) 3=z at*
     by_cases hz:65536<=z
     ·have hf:few 4 z=false:=by simp[few];omega
      cases hm:may z
      ·simp only[hf,ei,dY,if_true];by_cases hv:Utf8.valid z=true
       ·rw[if_pos ⟨hz,hv⟩]at hd;have ht:((z.toNat:Nat):Int)=z:=by omega
        simp[om,gY,hd,ht,hm]
       ·rw[if_neg (fun q=>hv q.2)]at hd;exact pZ hd
      ·rw[if_pos ⟨hz,il hm⟩]at hd;have ht:((z.toNat:Nat):Int)=z:=by omega
       have hne:¬z.toNat=65533:=by omega
       simp[om,gY,hd,ht,hm,hi,hf,hne]
     ·rw[if_neg (fun q=>hz q.1)]at hd;have hf:few 4 z=true:=by simp[few];omega
      rw[pZ hd];simp[hf]
    ·rename_i hn4;simp only[x9,tK,hn3,hn4,bf,Nat.zero_sub,acc]at hc ⊢;have hm:may 0=false:=by decide
     simp only[hm,ei,dY,if_true];by_cases hs:bz s i= -1
     ·have:¬i<s.size:=by
       intro hi;unfold bz at hs;rw[if_pos hi]at hs;omega
      simp[om,this]
     ·exact pZ (fS (by omega))
def fw(r:Int):Bool:=(decide (65<=r)&&decide (r<=90))||(decide (97<=r)&&decide (r<=122))||r==95||decide (128<=r)
def gz(r:Int):Bool:=(decide (48<=r)&&decide (r<=57))||r==45||r==46
theorem fT(r:Int):fw r=true↔(65<=r/\r<=90)\/(97<=r/\r<=122)\/r=95\/128<=r:=by simp only[fw,bw,aY,bA,ba];omega
theorem jq(r:Int):gz r=true↔(48<=r/\r<=57)\/r=45\/r=46:=by simp only[gz,bw,aY,bA,ba];omega
def nt(d r:Int):Int:=if 48<=r/\r<=57 then r-48 else if 97<=r/\r<=102 then r-87 else if 65<=r/\r<=70 then r-55 else d
def iM(r:Int)(q:Bool):List UInt8:=
 if r=38 then [38,97,109,112,59]else if r=60 then [38,108,116,59]else if r=62 then [38,103,116,59]else if r=13 then [38,35,49,51,59]
 else if q=false then []else if r=34 then [38,113,117,111,116,59]else if r=9 then [38,35,57,59]else if r=10 then [38,35,49,48,59]else []
def E0(s:ByteArray)(i:Nat)(r:Int):Bool:=if r=65533 then(bz s i==239&&bz s (i+1)==191&&bz s (i+2)==189)else may r
theorem fk(s:ByteArray)(i:Nat)(h:i<s.size):i+(Utf8.decode s i).2<=s.size/\1<=(Utf8.decode s i).2/\(Utf8.decode s i).2<=4:=by
 simp only[Utf8.decode]
 repeat' split
 all_goals simp_all
 all_goals omega
theorem q7(s:ByteArray)(i:Nat)(h:i<s.size):E0 s i (Utf8.decode s i).1=gY s i:=by
 unfold E0 gY;by_cases he:(Utf8.decode s i).1=65533
 ·have hm:may ((65533:Nat):Int)=true:=by decide
  rw[if_pos (by rw[he];rfl),he,hm];simp only[bne_self_eq_false,cu,cN];rw[bL];simp only[aY,bA];have hb:=uQ s i;have x_:0<=bz s i:=by unfold bz;rw[if_pos h];omega
  constructor
  ·rintro⟨⟨h0,h1⟩,h2⟩;have hd:=gM (s:=s) (i:=i) (by omega) (by omega) (by unfold cont;omega) (by unfold cont;omega);have ha:acc s i (bz s i-224) 2=65533:=by simp only[acc,ay,Nat.reduceAdd,h0,h1,h2];decide
   rw[ha]at hd;rw[if_pos ⟨by decide,by decide⟩]at hd;rw[hd]
  ·intro h3;by_cases a1:bz s i<128
   ·rw[g_ x_ a1]at h3;simp at h3
   by_cases a2:bz s i<192
   ·rw[fS (Or.inl ⟨by omega,a2⟩)]at h3;simp at h3
   by_cases a3:bz s i<224
   ·by_cases c1:cont s (i+1)
    ·rw[iR (by omega) a3 c1]at h3;split at h3<;>simp at h3
    ·rw[ik (by omega) a3 c1]at h3;simp at h3
   by_cases a4:bz s i<240
   ·by_cases c1:cont s (i+1)
    ·by_cases c2:cont s (i+2)
     ·have hd:=gM (by omega) a4 c1 c2;rw[hd]at h3 he;split at h3
      ·rename_i hz;rw[if_pos hz]at he;simp only at he;have hz2:acc s i (bz s i-224) 2=65533:=by omega
       unfold cont at c1 c2;simp only[acc,ay,Nat.reduceAdd]at hz2;omega
      ·simp at h3
     ·rw[fA (by omega) a4 (Or.inr c2)]at h3;simp at h3
    ·rw[fA (by omega) a4 (Or.inl c1)]at h3;simp at h3
   by_cases a5:bz s i<248
   ·by_cases c1:cont s (i+1)
    ·by_cases c2:cont s (i+2)
     ·by_cases c3:cont s (i+3)
      ·rw[iy (by omega) a5 c1 c2 c3]at h3;split at h3<;>simp at h3
      ·rw[fh (by omega) a5 (Or.inr (Or.inr c3))]at h3;simp at h3
     ·rw[fh (by omega) a5 (Or.inr (Or.inl c2))]at h3;simp at h3
    ·rw[fh (by omega) a5 (Or.inl c1)]at h3;simp at h3
   ·rw[fS (Or.inr (by omega))]at h3;simp at h3
 ·rw[if_neg (by omega)];have:((Utf8.decode s i).1 !=65533)=true:=by simp[he]
  simp[this]
end Ch
end Go.Proofs.YtjecakcpcnmieaaGreatDoor
namespace Go.Proofs.YtjecakcpcnmieaaGreatDoor
open Go.RowKit Tryz
theorem lK{a b:Bool}(h:a=b):Ending.returned (.bool a)=.returned (.bool b):=by rw[h]
theorem lL{k:IntKind}{a b:Int}(h:a=b):Ending.returned (.int k a)=.returned (.int k b):=by rw[h]
theorem tL(r:Int)(w:World):
  Z4 185 #[.int .i32 r] w (Z6 (.bool (Ch.may r)) w):=by
 go_enter func185,ntmps185;go_wp2;all_goals go_ret
 all_goals refine⟨lK ?_,rfl⟩
 all_goals try simp only[bA,aF,ne_eq]at*
 all_goals rw[bL,Ch.mJ]
 all_goals first|omega|(simp;done)|(simp;omega)
theorem lM(r:Int)(w:World):
  Z4 106 #[.int .i64 r] w (Z6 (.bool (Ch.may r)) w):=by
 go_enter func106,ntmps106;go_wp2;all_goals go_ret
 all_goals refine⟨lK ?_,rfl⟩
 all_goals try simp only[bA,aF,ne_eq]at*
 all_goals rw[bL,Ch.mJ]
 all_goals first|omega|(simp;done)|(simp;omega)
theorem II(s:ByteArray)(i:Nat)(w:World)(_hs:s.size<=maxLen):
  Z4 105 #[.string s,.int .i64 i] w (Z6 (.int .i64 (Ch.bz s i)) w):=by
 unfold maxLen at _hs;by_cases h:i<s.size
 ·go_enter func105,ntmps105;go_wp2;go_ret;refine⟨lL ?_,rfl⟩;have e:(s.get! i)=s[i]:=by simp[ByteArray.get!,h];rfl
  have hl:=(s[i]).toNat_lt;rw[IntWalk.wrap64_in _ (by omega),Ch.bz,if_pos h,e]
 ·go_enter func105,ntmps105;go_wp2;go_ret;refine⟨lL ?_,rfl⟩;rw[Ch.bz,if_neg h]
theorem yN(r:Int)(w:World):
  Z4 196 #[.int .i32 r] w (Z6 (.bool (Ch.fw r)) w):=by
 go_enter func196,ntmps196;go_wp2;all_goals go_ret
 all_goals refine⟨lK ?_,rfl⟩
 all_goals try simp only[bA,aF,ne_eq]at*
 all_goals rw[bL,Ch.fT]
 all_goals first|omega|(simp;done)|(simp;omega)
theorem yO(r:Int)(w:World):
  Z4 141 #[.int .i64 r] w (Z6 (.bool (Ch.fw r)) w):=by
 go_enter func141,ntmps141;go_wp2;all_goals go_ret
 all_goals refine⟨lK ?_,rfl⟩
 all_goals try simp only[bA,aF,ne_eq]at*
 all_goals rw[bL,Ch.fT]
 all_goals first|omega|(simp;done)|(simp;omega)
theorem wA(r:Int)(w:World):
  Z4 197 #[.int .i32 r] w (Z6 (.bool (Ch.gz r)) w):=by
 go_enter func197,ntmps197;go_wp2;all_goals go_ret
 all_goals refine⟨lK ?_,rfl⟩
 all_goals try simp only[bA,aF,ne_eq]at*
 all_goals rw[bL,Ch.jq]
 all_goals first|omega|(simp;done)|(simp;omega)
theorem ie(s:ByteArray)(j:Int)(w:World)(hs:s.size<=maxLen)(h:0<=j):
  Z4 105 #[.string s,.int .i64 j] w (Z6 (.int .i64 (Ch.bz s j.toNat)) w):=by
 obtain⟨n,rfl⟩:=dS h;rw[bm];exact II s n w hs
theorem a_{p:Prop}(h:p):Hid p:=h
theorem IJ(a:Int)(h: -1<=a/\a<=255):(0<=a/\a<128/\Ch.lead a=(1,a))\/(192<=a/\a<224/\Ch.lead a=(2,a-192))\/(224<=a/\a<240/\Ch.lead a=(3,a-224))\/(240<=a/\a<248/\Ch.lead a=(4,a-240))\/(a<0/\Ch.lead a=(0,0))\/(128<=a/\a<192/\Ch.lead a=(0,0))\/(248<=a/\Ch.lead a=(0,0)):=by
 unfold Ch.lead
 repeat' split
 all_goals simp
 all_goals omega
theorem Qf(s:ByteArray)(i m:Nat)(r0:Int)(h:1<=m):Ch.acc s i r0 (m+1-1)=64*Ch.acc s i r0 (m-1)+Ch.bz s (i+m)-128:=by
 obtain⟨k,rfl⟩:∃k,m=k+1:=⟨m-1,by omega⟩
 simp[Ch.acc]
theorem Vg(a:Int)(h: -1<=a/\a<=255):(Ch.lead a).1<=4/\0<=(Ch.lead a).2/\(Ch.lead a).2<=255:=by
 unfold Ch.lead
 repeat' split
 all_goals simp
 all_goals omega
theorem wC(s:ByteArray)(i:Nat)(w:World)(hs:s.size<=1125899906842624)(hi:i<=s.size):
  Z4 76 #[.string s,.int .i64 i] w (Z6 (.tuple #[.int .i64 (Ch.om s i).1,.int .i64 (Ch.om s i).2]) w):=by
 have hm:s.size<=maxLen:=by unfold maxLen;omega
 have hbd:=Ch.uQ s i;have hlb:=Vg (Ch.bz s i) hbd;have hlc:=IJ (Ch.bz s i) hbd;rcases hlc with⟨h0,h1,hl⟩|⟨h0,h1,hl⟩|⟨h0,h1,hl⟩|⟨h0,h1,hl⟩|⟨h0,hl⟩|⟨h0,h1,hl⟩|⟨h0,hl⟩;all_goals
  have HL:=a_ hl;clear hl;go_enter func76,ntmps76;go_wp2_with(go_at_call 105;refine(ie _ _ _ hm (by omega)).mono ?_;rintro e w' ⟨rfl,rfl⟩;rw[bm])
  go_loop [8,9] (fun r k=>∃m:Nat,1<=m/\(m<=(Ch.lead (Ch.bz s i)).1\/m=1)/\k=.int .i64 m/\r=.int .i64 (Ch.acc s i (Ch.lead (Ch.bz s i)).2 (m-1))/\∀j,1<=j->j<m->Ch.cont s (i+j)) (fun _ k=>5-(intOf k).toNat)
  case atStart=>
   refine⟨1,ah _,Or.inr rfl,rfl,?_,fun j a b=>by omega⟩;rw[HL.out];rfl
  case round=>
   obtain⟨m,U0,Qg,rfl,rfl,hc⟩:=hrel;have HC:=a_ hc;clear hc;by_cases hlt:m<(Ch.lead (Ch.bz s i)).1
   ·have tq:=hlt;rw[HL.out]at tq;simp only at tq;first
     |(exfalso;omega)
     |(have hb:=Ch.yM (s:=s) (i:=i) (r0:=(Ch.lead (Ch.bz s i)).2) (m-1) (by omega) (by omega) (by omega) (fun j a b=>HC.out j a (by omega));have hb2:=Ch.uQ s (i+m);have hj:((i:Int)+(m:Int)).toNat=i+m:=by omega
       by_cases c:Ch.cont s (i+m)
       ·have c':=c;unfold Ch.cont at c';have hst:=a_ (Qf s i m (Ch.lead (Ch.bz s i)).2 U0);have AQ:Hid (∀j,1<=j->j<m+1->Ch.cont s (i+j)):=fun j a b=>by
         by_cases e:j=m
         ·rw[e];exact c
         ·exact HC.out j a (by omega)
        have HJ:=a_ hj;clear hj c;generalize Ch.acc s i (Ch.lead (Ch.bz s i)).2 (m-1)=z at*
        go_wp2_with(go_at_call 105;refine(ie _ _ _ hm (by omega)).mono ?_;rintro e w' ⟨rfl,rfl⟩;rw[HJ.out])
        go_round
        case rel=>exact⟨m+1,by omega,Or.inl (by omega),by go_num,by rw[hst.out],AQ.out⟩
        case measure=>simp[intOf];omega
       ·have Ls:=a_ (Ch.MC U0 hlt c);have c':Ch.bz s (i+m)<128\/192<=Ch.bz s (i+m):=by unfold Ch.cont at c;omega
        have HJ:=a_ hj;clear hj c;rcases c' with c'|c';all_goals
         go_wp2_with(go_at_call 105;refine(ie _ _ _ hm (by omega)).mono ?_;rintro e w' ⟨rfl,rfl⟩;rw[HJ.out])
         go_ret2
         refine⟨?_,rfl⟩;rw[Ls.out];rfl)
   ·have E3:=Ch.Qe (s:=s) (i:=i) (fun j a b=>HC.out j a (by omega));have ES:(Ch.lead (Ch.bz s i)).1-1=m-1:=by rcases Qg with h|h<;>omega
    have hb:=Ch.yM (s:=s) (i:=i) (r0:=(Ch.lead (Ch.bz s i)).2) (m-1) (by omega) (by omega) (by rcases Qg with h|h<;>omega) (fun j a b=>HC.out j a (by omega));rw[ES]at E3;clear ES;have tq:=hlt;rw[HL.out]at tq;simp only at tq;generalize Ch.acc s i (Ch.lead (Ch.bz s i)).2 (m-1)=z at*
    rw[HL.out]at E3;simp only at E3;have HF:=a_ E3;clear E3;cases AY:Ch.may z;all_goals
     go_wp2_with(go_at_call 106;refine(lM _ _).mono ?_;rintro e w' ⟨rfl,rfl⟩);all_goals go_ret2
     all_goals refine⟨?_,rfl⟩
     all_goals rw[HF.out]
     all_goals split
     all_goals first
      |rfl
      |(rename_i Qh;exfalso;simp[Ch.few,AY]at Qh;done)
      |(rename_i Qh;exfalso;simp[Ch.few,AY]at Qh;omega)
end Go.Proofs.YtjecakcpcnmieaaGreatDoor
namespace Go.Proofs.YtjecakcpcnmieaaGreatDoor
namespace Ch
open Go
def has(s:ByteArray)(i:Nat):List UInt8->Bool
 |[]=>true
 |c::l=>bz s i==(c.toNat:Int)&&has s (i+1) l
theorem drop_cons(s:ByteArray)(i:Nat)(h:i<s.size):s.data.toList.drop i=s.get! i::s.data.toList.drop (i+1):=by
 rw[bX (by simpa using h)];congr 1;simp[ByteArray.get!,h]
theorem drop_nil(s:ByteArray)(i:Nat)(h:¬i<s.size):s.data.toList.drop i=[]:=by
 apply List.drop_eq_nil_of_le;simpa using h
theorem p7(s:ByteArray)(l:List UInt8):∀i,l.isPrefixOf (s.data.toList.drop i)=has s i l:=by
 induction l with
 |nil=>intro i;simp[has]
 |cons c l ih=>
  intro i;by_cases h:i<s.size
  ·rw[drop_cons s i h];simp only[List.isPrefixOf,has,ih];congr 1;rw[bL,bA,bA];simp only[bz,h,if_true];constructor
   ·intro e;rw[e]
   ·intro e;exact(UInt8.toNat_inj.1 (by omega))
  ·rw[drop_nil s i h];simp[has,List.isPrefixOf,bz,h]
theorem C1(s:ByteArray)(i:Nat):(s.extract i s.size).data.toList=s.data.toList.drop i:=by simp[bM]
theorem yP(s:ByteArray)(i:Nat)(l:List UInt8):Lib.hasPrefix (List.take (s.size-i) (List.drop i s.data.toList)) l=has s i l:=by rw[bM (by simp),Lib.hasPrefix,p7]
def mL(s:ByteArray):Nat->Nat->Nat
 |0,pos=>pos
 |f+1,pos=>if pos<s.size then(if gY s pos=true then mL s f (pos+(Utf8.decode s pos).2)else pos)else s.size
def bad(s:ByteArray):Nat:=mL s (s.size+1) 0
theorem IK(s:ByteArray):∀f pos,pos<=s.size->mL s f pos<=s.size:=by
 intro f;induction f with
 |zero=>intro pos h;exact h
 |succ f ih=>
  intro pos h;unfold mL;split
  ·split
   ·exact ih _ (fk s pos ‹_›).1
   ·omega
  ·omega
def jN(s:ByteArray)(pos:Nat):Bool:=gY s pos&&(fw (Utf8.decode s pos).1||(decide (0<pos)&&gz (Utf8.decode s pos).1))
def fW(s:ByteArray):Nat->Nat->Nat
 |0,pos=>pos
 |f+1,pos=>if pos<s.size then(if jN s pos=true then fW s f (pos+(Utf8.decode s pos).2)else pos)else s.size
def name(s:ByteArray):Nat:=fW s (s.size+1) 0
theorem Vh(s:ByteArray)(i:Nat)(h:i<s.size):om s i=if gY s i=true then(((Utf8.decode s i).1:Int),((Utf8.decode s i).2:Int))else(0,0):=by simp[om,h]
end Ch
end Go.Proofs.YtjecakcpcnmieaaGreatDoor
namespace Go.Proofs.YtjecakcpcnmieaaGreatDoor
open Go.RowKit Tryz
theorem iH(s:ByteArray)(i:Nat)(r:Int)(w:World)(_hs:s.size<=1125899906842624)(hi:i<=s.size):
  Z4 144 #[.string s,.int .i64 i,.int .i32 r] w (Z6 (.bool (Ch.E0 s i r)) w):=by
 by_cases hr:r=65533
 ·have hb:(r==65533)=true:=by simp[hr]
  have hp:=Ch.yP s i [239,191,189];have hq:Ch.has s i [239,191,189]=Ch.E0 s i r:=by simp[Ch.has,Ch.E0,hr,Bool.and_assoc,cL]
  rw[hq]at hp;have HP:=a_ hp;clear hp hq hr;go_enter func144,ntmps144;go_wp2_with(go_at_call 184;refine(strings_HasPrefix _ _ _).mono ?_;rintro e w' ⟨rfl,rfl⟩);go_ret;refine⟨lK ?_,rfl⟩;exact HP.out
 ·have hb:(r==65533)=false:=by simp[hr]
  have hc:Ch.E0 s i r=Ch.may r:=by simp[Ch.E0,hr]
  have HC:=a_ hc;clear hc hr;go_enter func144,ntmps144;go_wp2_with(go_at_call 185;refine(tL _ _).mono ?_;rintro e w' ⟨rfl,rfl⟩);go_ret;exact⟨lK HC.out.symm,rfl⟩
theorem kj(w:World)(s:ByteArray)(pos:Nat):Z5 w (w.iter s pos):=
 (Below.refl _ w).alloc (ah _) _
set_option maxRecDepth 1000000 in
theorem q8(s:ByteArray)(w:World)(hs:s.size<=1125899906842624):
  Z4 110 #[.string s] w (Z7 (.int .i64 (Ch.bad s)) w):=by
 go_enter func110,ntmps110;go_wp2;go_loopw [] (fun w'=>∃(pos fuel:Nat),w'=w.iter s pos/\Ch.mL s fuel pos=Ch.bad s/\s.size<pos+fuel/\pos<=s.size) (fun w'=>s.size-w'.iterPos w.heap.size)
 case atStart=>exact⟨0,s.size+1,rfl,rfl,by omega,by omega⟩
 case round=>
  obtain⟨pos,fuel,rfl,hc,hb,hl⟩:=hrel;obtain⟨f,rfl⟩:∃f,fuel=f+1:=⟨fuel-1,by omega⟩
  have HC:=a_ hc;clear hc;by_cases hp:pos<s.size
  ·have tM:∀ty,(Instr.next (.pointer (some ⟨w.heap.size,0,none⟩)) true ty).run prog (w.iter s pos)=_:=fun ty=>run_next_any w s pos ty hp;have hwd:=Ch.fk s pos hp;have hch:=Ch.q7 s pos hp;cases jO:Ch.gY s pos
   ·rw[jO]at hch;go_wp2_with(go_at_call 144;refine(iH _ _ _ _ hs hl).mono ?_;rintro e w' ⟨rfl,rfl⟩);go_ret;refine⟨lL ?_,?_⟩
    ·have:=HC.out;simp only[Ch.mL,hp,jO]at this;simp at this;omega
    ·exact kj w s _
   ·rw[jO]at hch;go_wp2_with(go_at_call 144;refine(iH _ _ _ _ hs hl).mono ?_;rintro e w' ⟨rfl,rfl⟩)
    go_roundw
    case rel=>
     refine⟨pos+(Utf8.decode s pos).2,f,rfl,?_,by omega,by omega⟩;have:=HC.out;simp only[Ch.mL,hp,jO]at this;simpa using this
    case measure=>
     simp;omega
  ·have tM:∀ty,(Instr.next (.pointer (some ⟨w.heap.size,0,none⟩)) true ty).run prog (w.iter s pos)=_:=fun ty=>run_next_end w s pos ty hp;go_wp2;go_ret;refine⟨lL ?_,?_⟩
   ·have:=HC.out;simp only[Ch.mL,hp]at this;simp at this;omega
   ·exact kj w s _
theorem wD{s:ByteArray}{f pos:Nat}(hp:pos<s.size)(hi:Ch.jN s pos=false)(h:Ch.fW s (f+1) pos=Ch.name s):(pos:Int)=(Ch.name s:Int):=by simp only[Ch.fW,hp,hi]at h;simp at h;omega
theorem Lt{s:ByteArray}{f pos:Nat}(hp:pos<s.size)(hi:Ch.jN s pos=true)(h:Ch.fW s (f+1) pos=Ch.name s):Ch.fW s f (pos+(Utf8.decode s pos).2)=Ch.name s:=by simp only[Ch.fW,hp,hi]at h;simpa using h
theorem E5{s:ByteArray}{f pos:Nat}(hp:¬pos<s.size)(h:Ch.fW s (f+1) pos=Ch.name s):(s.size:Int)=(Ch.name s:Int):=by simp only[Ch.fW,hp]at h;simp at h;omega
set_option maxRecDepth 1000000 in
theorem sf(s:ByteArray)(w:World)(hs:s.size<=1125899906842624):
  Z4 161 #[.string s] w (Z7 (.int .i64 (Ch.name s)) w):=by
 go_enter func161,ntmps161;go_wp2;go_loopw [] (fun w'=>∃(pos fuel:Nat),w'=w.iter s pos/\Ch.fW s fuel pos=Ch.name s/\s.size<pos+fuel/\pos<=s.size) (fun w'=>s.size-w'.iterPos w.heap.size)
 case atStart=>exact⟨0,s.size+1,rfl,rfl,by omega,by omega⟩
 case round=>
  obtain⟨pos,fuel,rfl,hc,hb,hl⟩:=hrel;obtain⟨f,rfl⟩:∃f,fuel=f+1:=⟨fuel-1,by omega⟩
  have HC:=a_ hc;clear hc;by_cases hp:pos<s.size
  ·have tM:∀ty,(Instr.next (.pointer (some ⟨w.heap.size,0,none⟩)) true ty).run prog (w.iter s pos)=_:=fun ty=>run_next_any w s pos ty hp;have hwd:=Ch.fk s pos hp;have hch:=Ch.q7 s pos hp;cases jO:Ch.gY s pos<;>cases YY:Ch.fw (Utf8.decode s pos).1<;>cases hgo:Ch.gz (Utf8.decode s pos).1<;>by_cases h0:0<pos
   all_goals rw[jO]at hch
   all_goals
    go_wp2_with(first|(go_at_call 196;refine(yN _ _).mono ?_;rintro e w' ⟨rfl,rfl⟩)|(go_at_call 197;refine(wA _ _).mono ?_;rintro e w' ⟨rfl,rfl⟩)|(go_at_call 144;refine(iH _ _ _ _ hs hl).mono ?_;rintro e w' ⟨rfl,rfl⟩));first
     |(go_ret;exact⟨lL (wD hp (by simp[Ch.jN,jO,YY,hgo,h0]) HC.out),kj w s _⟩)
     |(go_roundw
       case rel=>exact⟨pos+(Utf8.decode s pos).2,f,rfl,Lt hp (by simp[Ch.jN,jO,YY,hgo,h0]) HC.out,by omega,by omega⟩
       case measure=>simp;omega)
  ·have tM:∀ty,(Instr.next (.pointer (some ⟨w.heap.size,0,none⟩)) true ty).run prog (w.iter s pos)=_:=fun ty=>run_next_end w s pos ty hp;go_wp2;go_ret;exact⟨lL (E5 hp HC.out),kj w s _⟩
theorem IL{r:Int}{b:Bool}(h:Ch.gz r=b):(b=true/\48<=r/\r<=57)\/(b=true/\¬48<=r/\(r==45)=true)\/(b=true/\¬48<=r/\(r==45)=false/\(r==46)=true)\/(b=false/\¬48<=r/\(r==45)=false/\(r==46)=false)\/(b=false/\57<r/\(r==45)=false/\(r==46)=false):=by
 subst h;cases e:Ch.gz r
 ·have:¬((48<=r/\r<=57)\/r=45\/r=46):=fun q=>by rw[(Ch.jq r).2 q]at e;cases e
  simp only[aA,false_and,false_or,dN,aF,ne_eq];omega
 ·have:=(Ch.jq r).1 e;simp only[dN,aF,bA,ne_eq];omega
set_option maxRecDepth 1000000 in
theorem MD(s:ByteArray)(w:World)(hs:s.size<=1125899906842624):
  Z4 100 #[.string s] w (Z6 (.int .i64 (Ch.name s)) w):=by
 go_enter func100,ntmps100;go_wp2
 go_loop [3,4,5,6] (fun i _ _ _=>∃(pos fuel:Nat),i=.int .i64 pos/\Ch.fW s fuel pos=Ch.name s/\s.size<pos+fuel/\pos<=s.size) (fun i _ _ _=>s.size-(intOf i).toNat)
 case atStart=>exact⟨0,s.size+1,rfl,rfl,by omega,by omega⟩
 case round=>
  obtain⟨pos,fuel,rfl,hc,hb,hl⟩:=hrel;obtain⟨f,rfl⟩:∃f,fuel=f+1:=⟨fuel-1,by omega⟩
  have HC:=a_ hc;clear hc;by_cases hp:pos<s.size
  ·have hwd:=Ch.fk s pos hp;have hat:=Ch.Vh s pos hp;cases jO:Ch.gY s pos
   ·rw[jO]at hat;simp only[aA,bf]at hat;have HA:=a_ hat;clear hat;by_cases h0:0<pos;all_goals
     go_wp2_with(first|(go_at_call 76;refine(wC _ _ _ hs hl).mono ?_;rintro e w' ⟨rfl,rfl⟩;rw[HA.out])|(go_at_call 141;refine(yO _ _).mono ?_;rintro e w' ⟨rfl,rfl⟩));go_ret;exact⟨lL (wD hp (by simp[Ch.jN,jO]) HC.out),rfl⟩
   ·rw[jO]at hat;simp only[if_true]at hat;have HA:=a_ hat;clear hat;cases YY:Ch.fw (Utf8.decode s pos).1<;>cases hgo:Ch.gz (Utf8.decode s pos).1<;>by_cases h0:0<pos
    all_goals
     have HG:=a_ hgo;clear hgo;rcases IL HG.out with⟨e1,e2,e3⟩|⟨e1,e2,e3⟩|⟨e1,e2,e3,e4⟩|⟨e1,e2,e3,e4⟩|⟨e1,e2,e3,e4⟩;all_goals first
      |(cases e1;done)
      |(clear e1;go_wp2_with(first|(go_at_call 76;refine(wC _ _ _ hs hl).mono ?_;rintro e w' ⟨rfl,rfl⟩;rw[HA.out])|(go_at_call 141;refine(yO _ _).mono ?_;rintro e w' ⟨rfl,rfl⟩));first
       |(go_ret;exact⟨lL (wD hp (by simp[Ch.jN,jO,YY,HG.out,h0]) HC.out),rfl⟩)
       |(go_round
         case rel=>exact⟨pos+(Utf8.decode s pos).2,f,by go_num,Lt hp (by simp[Ch.jN,jO,YY,HG.out,h0]) HC.out,by omega,by omega⟩
         case measure=>simp[intOf];omega))
  ·go_wp2;go_ret;exact⟨lL (by have:=E5 hp HC.out;omega),rfl⟩
end Go.Proofs.YtjecakcpcnmieaaGreatDoor
