import Derived.Test.YthlcmljckpdheaaGreatDoorHA
import Derived.Shelf.Strings.Trim
import Derived.Shelf.Strings.SlTrimAscii
import Derived.Shelf.Strings.Prefix
import Derived.Shelf.Strings.Search1
import Derived.Test.YthlcmljckpdheaaGreatDoorProg
import Derived.Laws.RangeString
import Derived.Laws.RangeAny
import Derived.WalkKit
import Derived.WalkSpells
import Derived.Outline
import Derived.Lib.Strings
import Derived.Lib.IndexBytes
import Derived.BigCall
set_option linter.unusedVariables false
set_option linter.unusedSimpArgs false
set_option maxHeartbeats 32000000
set_option maxRecDepth 100000
namespace Go.Proofs
open Go.Shelf
def Tryz.lays99_ren:Go.Shelf.Ren:=⟨fun|99=>120|206=>132|n=>n,fun|3=>3|4=>4|9=>9|n=>n,fun  |n=>n⟩
theorem Tryz.lays99:Go.Proofs.Lays.n99 Tryz.prog Tryz.lays99_ren:={
 mixed:=by kernel_rfl
 f99:=Tryz.func120.trans (aA some (by kernel_rfl))
 f206:=Tryz.func132.trans (aA some (by kernel_rfl))
 t3:=Tryz.underlying3
 a3:=Tryz.isAgg3
 z3:=Tryz.sizeOf3
 v3:=Tryz.zeroValue3
 t4:=Tryz.underlying4
 a4:=Tryz.isAgg4
 z4:=Tryz.sizeOf4
 v4:=Tryz.zeroValue4
 t9:=Tryz.underlying9
 a9:=Tryz.isAgg9
 z9:=Tryz.sizeOf9
 v9:=Tryz.zeroValue9}
open Go.RowKit Go.Lib in
theorem Tryz.strings_HasPrefix(s p:ByteArray)(w:World):
 Calls Tryz.prog 120 #[.string s,.string p] w fun e w'=>e=.returned (.bool (Lib.hasPrefix s.data.toList p.data.toList))/\w'=w:=Any.strings_HasPrefix Tryz.lays99 s p w
def Tryz.lays161_ren:Go.Shelf.Ren:=⟨fun|119=>237|137=>236|151=>200|152=>225|161=>122|197=>159|217=>183|224=>185|225=>184|227=>165|228=>199|231=>163|233=>166|235=>168|260=>198|266=>208|n=>n,fun|0=>0|3=>3|4=>4|5=>5|9=>9|21=>21|46=>278|105=>243|116=>264|117=>265|119=>285|124=>268|138=>287|139=>288|n=>n,fun|3=>4|4=>5|n=>n⟩
theorem Tryz.lays161:Go.Proofs.Lays.n161 Tryz.prog Tryz.lays161_ren:={
 mixed:=by kernel_rfl
 f119:=Tryz.func237.trans (aA some (by kernel_rfl))
 f137:=Tryz.func236.trans (aA some (by kernel_rfl))
 f151:=Tryz.func200.trans (aA some (by kernel_rfl))
 f152:=Tryz.func225.trans (aA some (by kernel_rfl))
 f161:=Tryz.func122.trans (aA some (by kernel_rfl))
 f197:=Tryz.func159.trans (aA some (by kernel_rfl))
 f217:=Tryz.func183.trans (aA some (by kernel_rfl))
 f224:=Tryz.func185.trans (aA some (by kernel_rfl))
 f225:=Tryz.func184.trans (aA some (by kernel_rfl))
 f227:=Tryz.func165.trans (aA some (by kernel_rfl))
 f228:=Tryz.func199.trans (aA some (by kernel_rfl))
 f231:=Tryz.func163.trans (aA some (by kernel_rfl))
 f233:=Tryz.func166.trans (aA some (by kernel_rfl))
 f235:=Tryz.func168.trans (aA some (by kernel_rfl))
 f260:=Tryz.func198.trans (aA some (by kernel_rfl))
 f266:=Tryz.func208.trans (aA some (by kernel_rfl))
 t0:=Tryz.underlying0
 a0:=Tryz.isAgg0
 z0:=Tryz.sizeOf0
 v0:=Tryz.zeroValue0
 t3:=Tryz.underlying3
 a3:=Tryz.isAgg3
 z3:=Tryz.sizeOf3
 v3:=Tryz.zeroValue3
 t4:=Tryz.underlying4
 a4:=Tryz.isAgg4
 z4:=Tryz.sizeOf4
 v4:=Tryz.zeroValue4
 t5:=Tryz.underlying5
 a5:=Tryz.isAgg5
 z5:=Tryz.sizeOf5
 v5:=Tryz.zeroValue5
 t9:=Tryz.underlying9
 a9:=Tryz.isAgg9
 z9:=Tryz.sizeOf9
 v9:=Tryz.zeroValue9
 t21:=Tryz.underlying21
 a21:=Tryz.isAgg21
 z21:=Tryz.sizeOf21
 v21:=Tryz.zeroValue21
 t46:=Tryz.underlying278
 a46:=Tryz.isAgg278
 z46:=Tryz.sizeOf278
 v46:=Tryz.zeroValue278
 t105:=Tryz.underlying243
 a105:=Tryz.isAgg243
 z105:=Tryz.sizeOf243
 v105:=Tryz.zeroValue243
 t116:=Tryz.underlying264
 a116:=Tryz.isAgg264
 z116:=Tryz.sizeOf264
 t117:=Tryz.underlying265
 a117:=Tryz.isAgg265
 z117:=Tryz.sizeOf265
 v117:=Tryz.zeroValue265
 t119:=Tryz.underlying285
 a119:=Tryz.isAgg285
 z119:=Tryz.sizeOf285
 t124:=Tryz.underlying268
 a124:=Tryz.isAgg268
 z124:=Tryz.sizeOf268
 v124:=Tryz.zeroValue268
 t138:=Tryz.underlying287
 a138:=Tryz.isAgg287
 z138:=Tryz.sizeOf287
 v138:=Tryz.zeroValue287
 t139:=Tryz.underlying288
 a139:=Tryz.isAgg288
 z139:=Tryz.sizeOf288
 v139:=Tryz.zeroValue288
 g3:=by kernel_rfl
 g4:=by kernel_rfl}
open Go.RowKit in
theorem Tryz.strings_TrimLeft_blanks(s:ByteArray)(w:World):
  Calls Tryz.prog 122 #[.string s,.string ⟨#[9,10,13,32]⟩] w fun e w'=>e=.returned (.string ⟨(Lib.trimLeftS s.data.toList [9,10,13,32]).toArray⟩)/\Below w.heap.size w w':=
 Any.strings_TrimLeft_laid Tryz.lays161 (by kernel_rfl) s ⟨#[9,10,13,32]⟩ w (by decide) (ascii_of_all (by decide))
end Go.Proofs
namespace Go.Proofs.YthlcmljckpdheaaGreatDoor
namespace Ch
open Go
def may(r:Int):Bool:=r==9||r==10||r==13||(decide (32<=r)&&decide (r<=55295))||(decide (57344<=r)&&decide (r<=65533))||(decide (65536<=r)&&decide (r<=1114111))
theorem l7(r:Int):may r=true↔r=9\/r=10\/r=13\/(32<=r/\r<=55295)\/(57344<=r/\r<=65533)\/(65536<=r/\r<=1114111):=by
 simp only[may,bE,aV,bG,aW];omega
theorem vy{r:Int}(h:¬(r=9\/r=10\/r=13\/(32<=r/\r<=55295)\/(57344<=r/\r<=65533)\/(65536<=r/\r<=1114111))):may r=false:=by
 cases e:may r
 ·rfl
 ·exact absurd ((l7 r).1 e) h
def bz(s:ByteArray)(i:Nat):Int:=if i<s.size then((s.get! i).toNat:Int)else-1
theorem tZ(s:ByteArray)(i:Nat): -1<=bz s i/\bz s i<=255:=by
 unfold bz;have:=(s.get! i).toNat_lt;split<;>omega
def gW(s:ByteArray)(i:Nat):Bool:=may (Utf8.decode s i).1&&((Utf8.decode s i).1 !=65533||(Utf8.decode s i).2==3)
def acc(s:ByteArray)(i:Nat)(r0:Int):Nat->Int
 |0=>r0
 |k+1=>64*acc s i r0 k+bz s (i+(k+1))-128
def cont(s:ByteArray)(i:Nat):Prop:=128<=bz s i/\bz s i<192
theorem DL(s:ByteArray)(i k:Nat):((decide (i+k<s.size)&&(s.get! (i+k)).toNat/64==2)=true)↔cont s (i+k):=by
 unfold cont bz;by_cases h:i+k<s.size
 ·simp[h];omega
 ·simp[h]
theorem gZ{s:ByteArray}{i:Nat}(h:0<=bz s i):i<s.size/\((s.get! i).toNat:Int)=bz s i:=by
 unfold bz at*
 split at h
 ·exact⟨‹_›,by simp[*]⟩
 ·omega
theorem gM{s:ByteArray}{i:Nat}(h0:0<=bz s i)(h1:bz s i<128):Utf8.decode s i=((bz s i).toNat,1):=by
 obtain⟨hi,hb⟩:=gZ h0;have e:(s.get! i).toNat<128:=by omega
 simp only[Utf8.decode,bN,e,if_true];congr 1;omega
theorem fN{s:ByteArray}{i:Nat}(h:(128<=bz s i/\bz s i<192)\/248<=bz s i):Utf8.decode s i=(65533,1):=by
 obtain⟨hi,hb⟩:=gZ (s:=s) (i:=i) (by omega);have h3:=(s.get! i).toNat_lt;have e1:¬(s.get! i).toNat<128:=by omega
 have e2:((s.get! i).toNat/32==6)=false:=by simp;omega
 have e3:((s.get! i).toNat/16==14)=false:=by simp;omega
 have e4:((s.get! i).toNat/8==30)=false:=by simp;omega
 simp[Utf8.decode,e1,e2,e3,e4,Utf8.runeError]
theorem s8{s:ByteArray}{i k:Nat}(h:¬cont s (i+k)):(decide (i+k<s.size)&&(s.get! (i+k)).toNat/64==2)=false:=by rw[Bool.eq_false_iff];intro e;exact h ((DL s i k).1 e)
theorem nx{s:ByteArray}{i k:Nat}(h:cont s (i+k)):(decide (i+k<s.size)&&(s.get! (i+k)).toNat/64==2)=true:=(DL s i k).2 h
theorem iN{s:ByteArray}{i:Nat}(h0:192<=bz s i)(h1:bz s i<224)(c1:cont s (i+1)):
  Utf8.decode s i=if 128<=acc s i (bz s i-192) 1 then((acc s i (bz s i-192) 1).toNat,2)else(65533,1):=by
 obtain⟨hi,hb⟩:=gZ (s:=s) (i:=i) (by omega);obtain⟨DM,hb1⟩:=gZ (s:=s) (i:=i+1) (by unfold cont at c1;omega);have k1:=nx c1;have e1:¬(s.get! i).toNat<128:=by omega
 have e2:((s.get! i).toNat/32==6)=true:=by simp;omega
 unfold cont at c1;simp only[Utf8.decode,bN,e1,e2,k1,bf,if_true,dQ,Utf8.runeError,acc];simp only[ax];have hc:(((s.get! i).toNat%32*64+(s.get! (i+1)).toNat%64:Nat):Int)=64*(bz s i-192)+bz s (i+1)-128:=by omega
 by_cases h:128<=(s.get! i).toNat%32*64+(s.get! (i+1)).toNat%64
 ·rw[if_pos (by simpa using h),if_pos (by omega)];congr 1;omega
 ·rw[if_neg (by simpa using h),if_neg (by omega)]
theorem ie{s:ByteArray}{i:Nat}(h0:192<=bz s i)(h1:bz s i<224)(c1:¬cont s (i+1)):Utf8.decode s i=(65533,1):=by
 obtain⟨hi,hb⟩:=gZ (s:=s) (i:=i) (by omega);have k1:=s8 c1;have e1:¬(s.get! i).toNat<128:=by omega
 have e3:((s.get! i).toNat/16==14)=false:=by simp;omega
 have e4:((s.get! i).toNat/8==30)=false:=by simp;omega
 simp only[Utf8.decode,bN,e1,e3,e4,k1,bf,Bool.and_false,cF,Utf8.runeError,ay]
theorem gJ{s:ByteArray}{i:Nat}(h0:224<=bz s i)(h1:bz s i<240)(c1:cont s (i+1))(c2:cont s (i+2)):
  Utf8.decode s i=if 2048<=acc s i (bz s i-224) 2/\Utf8.valid (acc s i (bz s i-224) 2)=true then((acc s i (bz s i-224) 2).toNat,3)else(65533,1):=by
 obtain⟨hi,hb⟩:=gZ (s:=s) (i:=i) (by omega);obtain⟨DM,hb1⟩:=gZ (s:=s) (i:=i+1) (by unfold cont at c1;omega);obtain⟨NR,hb2⟩:=gZ (s:=s) (i:=i+2) (by unfold cont at c2;omega);have k1:=nx c1;have k2:=nx c2;have e1:¬(s.get! i).toNat<128:=by omega
 have e2:((s.get! i).toNat/32==6)=false:=by simp;omega
 have e3:((s.get! i).toNat/16==14)=true:=by simp;omega
 unfold cont at c1 c2;simp only[Utf8.decode,bN,e1,e2,e3,k1,k2,bf,if_true,dQ,cF,Utf8.runeError,acc,ay];simp only[ax,Nat.reduceAdd];have hc:(((s.get! i).toNat%16*4096+(s.get! (i+1)).toNat%64*64+(s.get! (i+2)).toNat%64:Nat):Int)=64*(64*(bz s i-224)+bz s (i+1)-128)+bz s (i+2)-128:=by omega
 generalize 64*(64*(bz s i-224)+bz s (i+1)-128)+bz s (i+2)-128=z at hc ⊢;generalize (s.get! i).toNat%16*4096+(s.get! (i+1)).toNat%64*64+(s.get! (i+2)).toNat%64=c at hc ⊢;subst hc;by_cases h:2048<=c/\Utf8.valid c=true
 ·rw[if_pos (by rw[aV,aW];exact h),if_pos ⟨by omega,h.2⟩];congr 1
 ·rw[if_neg (by rw[aV,aW];exact h),if_neg (fun q=>h ⟨by omega,q.2⟩)]
theorem fE{s:ByteArray}{i:Nat}(h0:224<=bz s i)(h1:bz s i<240)(c1:¬cont s (i+1)\/¬cont s (i+2)):Utf8.decode s i=(65533,1):=by
 obtain⟨hi,hb⟩:=gZ (s:=s) (i:=i) (by omega);have e1:¬(s.get! i).toNat<128:=by omega
 have e2:((s.get! i).toNat/32==6)=false:=by simp;omega
 have e4:((s.get! i).toNat/8==30)=false:=by simp;omega
 rcases c1 with c1|c1;all_goals have k1:=s8 c1
 all_goals simp only[Utf8.decode,bN,e1,e2,e4,k1,bf,Bool.and_false,cF,Utf8.runeError,ay]
theorem il{s:ByteArray}{i:Nat}(h0:240<=bz s i)(h1:bz s i<248)(c1:cont s (i+1))(c2:cont s (i+2))(c3:cont s (i+3)):
  Utf8.decode s i=if 65536<=acc s i (bz s i-240) 3/\Utf8.valid (acc s i (bz s i-240) 3)=true then((acc s i (bz s i-240) 3).toNat,4)else(65533,1):=by
 obtain⟨hi,hb⟩:=gZ (s:=s) (i:=i) (by omega);obtain⟨DM,hb1⟩:=gZ (s:=s) (i:=i+1) (by unfold cont at c1;omega);obtain⟨NR,hb2⟩:=gZ (s:=s) (i:=i+2) (by unfold cont at c2;omega);obtain⟨hi3,hb3⟩:=gZ (s:=s) (i:=i+3) (by unfold cont at c3;omega);have k1:=nx c1;have k2:=nx c2;have k3:=nx c3;have e1:¬(s.get! i).toNat<128:=by omega
 have e2:((s.get! i).toNat/32==6)=false:=by simp;omega
 have e3:((s.get! i).toNat/16==14)=false:=by simp;omega
 have e4:((s.get! i).toNat/8==30)=true:=by simp;omega
 unfold cont at c1 c2 c3;simp only[Utf8.decode,bN,e1,e2,e3,e4,k1,k2,k3,bf,if_true,dQ,cF,Utf8.runeError,acc,ay];simp only[ax,Nat.reduceAdd];have hc:(((s.get! i).toNat%8*262144+(s.get! (i+1)).toNat%64*4096+(s.get! (i+2)).toNat%64*64+(s.get! (i+3)).toNat%64:Nat):Int)=64*(64*(64*(bz s i-240)+bz s (i+1)-128)+bz s (i+2)-128)+bz s (i+3)-128:=by omega
 generalize 64*(64*(64*(bz s i-240)+bz s (i+1)-128)+bz s (i+2)-128)+bz s (i+3)-128=z at hc ⊢;generalize (s.get! i).toNat%8*262144+(s.get! (i+1)).toNat%64*4096+(s.get! (i+2)).toNat%64*64+(s.get! (i+3)).toNat%64=c at hc ⊢;subst hc;by_cases h:65536<=c/\Utf8.valid c=true
 ·rw[if_pos (by rw[aV,aW];exact h),if_pos ⟨by omega,h.2⟩];congr 1
 ·rw[if_neg (by rw[aV,aW];exact h),if_neg (fun q=>h ⟨by omega,q.2⟩)]
theorem fq{s:ByteArray}{i:Nat}(h0:240<=bz s i)(h1:bz s i<248)(c1:¬cont s (i+1)\/¬cont s (i+2)\/¬cont s (i+3)):Utf8.decode s i=(65533,1):=by
 obtain⟨hi,hb⟩:=gZ (s:=s) (i:=i) (by omega);have e1:¬(s.get! i).toNat<128:=by omega
 have e2:((s.get! i).toNat/32==6)=false:=by simp;omega
 have e3:((s.get! i).toNat/16==14)=false:=by simp;omega
 rcases c1 with c1|c1|c1;all_goals have k1:=s8 c1
 all_goals simp only[Utf8.decode,bN,e1,e2,e3,k1,bf,Bool.and_false,cF,Utf8.runeError,ay]
theorem t_{s:ByteArray}{i:Nat}(h:Utf8.decode s i=(65533,1)):gW s i=false:=by simp[gW,h]
theorem xK{s:ByteArray}{i:Nat}{r0:Int}(k:Nat)(h0:0<=r0)(h1:r0<=255)(hk:k<=3)(hc:∀j,1<=j->j<=k->cont s (i+j)):0<=acc s i r0 k/\acc s i r0 k<=67108863:=by
 have a1:k=0\/k=1\/k=2\/k=3:=by omega
 rcases a1 with rfl|rfl|rfl|rfl
 ·simp[acc];omega
 ·have c1:=hc 1 (by omega) (by omega);unfold cont at c1;simp only[acc,ax];omega
 ·have c1:=hc 1 (by omega) (by omega);have c2:=hc 2 (by omega) (by omega);unfold cont at c1 c2;simp only[acc,ax,Nat.reduceAdd];omega
 ·have c1:=hc 1 (by omega) (by omega);have c2:=hc 2 (by omega) (by omega);have c3:=hc 3 (by omega) (by omega);unfold cont at c1 c2 c3;simp only[acc,ax,Nat.reduceAdd];omega
def lead(a:Int):Nat×Int:=
 if 0<=a/\a<128 then(1,a)else if 192<=a/\a<224 then(2,a-192)else if 224<=a/\a<240 then(3,a-224)else if 240<=a/\a<248 then(4,a-240)else(0,0)
def few(n:Nat)(r:Int):Bool:=(n==2&&decide (r<128))||(n==3&&decide (r<2048))||(n==4&&decide (r<65536))
def nL(s:ByteArray)(i:Nat):Int×Int:=if i<s.size/\gW s i=true then(((Utf8.decode s i).1:Int),((Utf8.decode s i).2:Int))else(0,0)
theorem pI{s:ByteArray}{i:Nat}(h:Utf8.decode s i=(65533,1)):nL s i=(0,0):=by simp[nL,t_ h]
theorem Ky{s:ByteArray}{i k:Nat}(hk:1<=k)(hkn:k<(lead (bz s i)).1)(hc:¬cont s (i+k)):nL s i=(0,0):=by
 apply pI;unfold lead at hkn;split at hkn
 ·simp at hkn;omega
 ·split at hkn
  ·simp at hkn;have:k=1:=by omega
   subst this;exact ie (by omega) (by omega) hc
  ·split at hkn
   ·simp at hkn;have:k=1\/k=2:=by omega
    refine fE (by omega) (by omega) ?_;rcases this with rfl|rfl
    ·exact Or.inl hc
    ·exact Or.inr hc
   ·split at hkn
    ·simp at hkn;have:k=1\/k=2\/k=3:=by omega
     refine fq (by omega) (by omega) ?_;rcases this with rfl|rfl|rfl
     ·exact Or.inl hc
     ·exact Or.inr (Or.inl hc)
     ·exact Or.inr (Or.inr hc)
    ·simp at hkn
theorem ig{r:Int}(h:may r=true):Utf8.valid r=true:=by
 rw[l7]at h;simp[Utf8.valid];omega
theorem NT{s:ByteArray}{i:Nat}(hc:∀j,1<=j->j<(lead (bz s i)).1->cont s (i+j)):
  nL s i=if(few (lead (bz s i)).1 (acc s i (lead (bz s i)).2 ((lead (bz s i)).1-1))||!may (acc s i (lead (bz s i)).2 ((lead (bz s i)).1-1)))=true then(0,0)
   else(acc s i (lead (bz s i)).2 ((lead (bz s i)).1-1),((lead (bz s i)).1:Int)):=by
 have YA:=tZ s i;unfold lead at hc ⊢;split at hc
 ·rename_i h;simp only[h,and_self,if_true,Nat.sub_self,acc]at hc ⊢;have hd:=gM h.1 h.2;have hi:=(gZ h.1).1;have ht:(((bz s i).toNat:Nat):Int)=bz s i:=by omega
  simp only[nL,gW,hd,ht,hi,few];cases hm:may (bz s i)
  ·simp
  ·have:(bz s i !=65533)=true:=by simp;omega
   have:¬((bz s i).toNat=65533):=by omega
   simp[this]
 ·rename_i Ai;split at hc
  ·rename_i h;simp only[Ai,h,and_self,if_true,bf,Nat.reduceSub]at hc ⊢;have c1:=hc 1 (by omega) (by omega);have hb:=xK (s:=s) (i:=i) (r0:=bz s i-192) 1 (by omega) (by omega) (by omega) (fun j a b=>hc j a (by omega));have hi:=(gZ (s:=s) (i:=i) (by omega)).1;have hd:=iN h.1 h.2 c1;have l8:acc s i (bz s i-192) 1<=2047:=by unfold cont at c1;simp only[acc,ax];omega
   generalize acc s i (bz s i-192) 1=z at*
   by_cases hz:128<=z
   ·rw[if_pos hz]at hd;have ht:((z.toNat:Nat):Int)=z:=by omega
    have hne:¬z.toNat=65533:=by omega
    have hf:few 2 z=false:=by simp[few];omega
    simp only[nL,gW,hd,ht,hi,hf];cases hm:may z
    ·simp
    ·simp[hne]
   ·rw[if_neg hz]at hd;have hf:few 2 z=true:=by simp[few];omega
    rw[pI hd];simp[hf]
  ·rename_i ww;split at hc
   ·rename_i h;simp only[Ai,ww,h,and_self,if_true,bf,Nat.reduceSub]at hc ⊢;have c1:=hc 1 (by omega) (by omega);have c2:=hc 2 (by omega) (by omega);have hb:=xK (s:=s) (i:=i) (r0:=bz s i-224) 2 (by omega) (by omega) (by omega) (fun j a b=>hc j a (by omega));have hi:=(gZ (s:=s) (i:=i) (by omega)).1;have hd:=gJ h.1 h.2 c1 c2;generalize acc s i (bz s i-224) 2=z at*
    by_cases hz:2048<=z
    ·have hf:few 3 z=false:=by simp[few];omega
     cases hm:may z
     ·simp only[hf,eh,dW,if_true];by_cases hv:Utf8.valid z=true
      ·rw[if_pos ⟨hz,hv⟩]at hd;have ht:((z.toNat:Nat):Int)=z:=by omega
       simp[nL,gW,hd,ht,hm]
      ·rw[if_neg (fun q=>hv q.2)]at hd;exact pI hd
     ·rw[if_pos ⟨hz,ig hm⟩]at hd;have ht:((z.toNat:Nat):Int)=z:=by omega
      simp[nL,gW,hd,ht,hm,hi,hf]
    ·rw[if_neg (fun q=>hz q.1)]at hd;have hf:few 3 z=true:=by simp[few];omega
     rw[pI hd];simp[hf]
   ·rename_i hn3;split at hc
    ·rename_i h;simp only[Ai,ww,hn3,h,and_self,if_true,bf,Nat.reduceSub]at hc ⊢;have c1:=hc 1 (by omega) (by omega);have c2:=hc 2 (by omega) (by omega);have c3:=hc 3 (by omega) (by omega);have hb:=xK (s:=s) (i:=i) (r0:=bz s i-240) 3 (by omega) (by omega) (by omega) (fun j a b=>hc j a (by omega));have hi:=(gZ (s:=s) (i:=i) (by omega)).1;have hd:=il h.1 h.2 c1 c2 c3;generalize acc s i (bz s i-240) 3=z at*
     by_cases hz:65536<=z
     ·have hf:few 4 z=false:=by simp[few];omega
      cases hm:may z
      ·simp only[hf,eh,dW,if_true];by_cases hv:Utf8.valid z=true
       ·rw[if_pos ⟨hz,hv⟩]at hd;have ht:((z.toNat:Nat):Int)=z:=by omega
        simp[nL,gW,hd,ht,hm]
       ·rw[if_neg (fun q=>hv q.2)]at hd;exact pI hd
      ·rw[if_pos ⟨hz,ig hm⟩]at hd;have ht:((z.toNat:Nat):Int)=z:=by omega
       have hne:¬z.toNat=65533:=by omega
       simp[nL,gW,hd,ht,hm,hi,hf,hne]
     ·rw[if_neg (fun q=>hz q.1)]at hd;have hf:few 4 z=true:=by simp[few];omega
      rw[pI hd];simp[hf]
    ·rename_i hn4;simp only[Ai,ww,hn3,hn4,bf,Nat.zero_sub,acc]at hc ⊢;have hm:may 0=false:=by decide
     simp only[hm,eh,dW,if_true];by_cases hs:bz s i= -1
     ·have:¬i<s.size:=by
       intro hi;unfold bz at hs;rw[if_pos hi]at hs;omega
      simp[nL,this]
     ·exact pI (fN (by omega))
def ft(r:Int):Bool:=(decide (65<=r)&&decide (r<=90))||(decide (97<=r)&&decide (r<=122))||r==95||decide (128<=r)
def gj(r:Int):Bool:=(decide (48<=r)&&decide (r<=57))||r==45||r==46
theorem fT(r:Int):ft r=true↔(65<=r/\r<=90)\/(97<=r/\r<=122)\/r=95\/128<=r:=by simp only[ft,bE,aV,bG,aW];omega
theorem jh(r:Int):gj r=true↔(48<=r/\r<=57)\/r=45\/r=46:=by simp only[gj,bE,aV,bG,aW];omega
def mM(d r:Int):Int:=if 48<=r/\r<=57 then r-48 else if 97<=r/\r<=102 then r-87 else if 65<=r/\r<=70 then r-55 else d
def oL(r:Int)(q:Bool):List UInt8:=
 if r=38 then [38,97,109,112,59]else if r=60 then [38,108,116,59]else if r=62 then [38,103,116,59]else if r=13 then [38,35,49,51,59]
 else if q=false then []else if r=34 then [38,113,117,111,116,59]else if r=9 then [38,35,57,59]else if r=10 then [38,35,49,48,59]else []
def DN(s:ByteArray)(i:Nat)(r:Int):Bool:=if r=65533 then(bz s i==239&&bz s (i+1)==191&&bz s (i+2)==189)else may r
theorem fo(s:ByteArray)(i:Nat)(h:i<s.size):i+(Utf8.decode s i).2<=s.size/\1<=(Utf8.decode s i).2/\(Utf8.decode s i).2<=4:=by
 simp only[Utf8.decode]
 repeat' split
 all_goals simp_all
 all_goals omega
theorem qz(s:ByteArray)(i:Nat)(h:i<s.size):DN s i (Utf8.decode s i).1=gW s i:=by
 unfold DN gW;by_cases he:(Utf8.decode s i).1=65533
 ·have hm:may ((65533:Nat):Int)=true:=by decide
  rw[if_pos (by rw[he];rfl),he,hm];simp only[bne_self_eq_false,cx,cP];rw[bK];simp only[aV,bG];have hb:=tZ s i;have qA:0<=bz s i:=by unfold bz;rw[if_pos h];omega
  constructor
  ·rintro⟨⟨h0,h1⟩,h2⟩;have hd:=gJ (s:=s) (i:=i) (by omega) (by omega) (by unfold cont;omega) (by unfold cont;omega);have ha:acc s i (bz s i-224) 2=65533:=by simp only[acc,ax,Nat.reduceAdd,h0,h1,h2];decide
   rw[ha]at hd;rw[if_pos ⟨by decide,by decide⟩]at hd;rw[hd]
  ·intro h3;by_cases a1:bz s i<128
   ·rw[gM qA a1]at h3;simp at h3
   by_cases a2:bz s i<192
   ·rw[fN (Or.inl ⟨by omega,a2⟩)]at h3;simp at h3
   by_cases a3:bz s i<224
   ·by_cases c1:cont s (i+1)
    ·rw[iN (by omega) a3 c1]at h3;split at h3<;>simp at h3
    ·rw[ie (by omega) a3 c1]at h3;simp at h3
   by_cases a4:bz s i<240
   ·by_cases c1:cont s (i+1)
    ·by_cases c2:cont s (i+2)
     ·have hd:=gJ (by omega) a4 c1 c2;rw[hd]at h3 he;split at h3
      ·rename_i hz;rw[if_pos hz]at he;simp only at he;have hz2:acc s i (bz s i-224) 2=65533:=by omega
       unfold cont at c1 c2;simp only[acc,ax,Nat.reduceAdd]at hz2;omega
      ·simp at h3
     ·rw[fE (by omega) a4 (Or.inr c2)]at h3;simp at h3
    ·rw[fE (by omega) a4 (Or.inl c1)]at h3;simp at h3
   by_cases a5:bz s i<248
   ·by_cases c1:cont s (i+1)
    ·by_cases c2:cont s (i+2)
     ·by_cases c3:cont s (i+3)
      ·rw[il (by omega) a5 c1 c2 c3]at h3;split at h3<;>simp at h3
      ·rw[fq (by omega) a5 (Or.inr (Or.inr c3))]at h3;simp at h3
     ·rw[fq (by omega) a5 (Or.inr (Or.inl c2))]at h3;simp at h3
    ·rw[fq (by omega) a5 (Or.inl c1)]at h3;simp at h3
   ·rw[fN (Or.inr (by omega))]at h3;simp at h3
 ·rw[if_neg (by omega)];have:((Utf8.decode s i).1 !=65533)=true:=by simp[he]
  simp[this]
end Ch
end Go.Proofs.YthlcmljckpdheaaGreatDoor
namespace Go.Proofs.YthlcmljckpdheaaGreatDoor
open Go.RowKit Tryz
theorem k_{a b:Bool}(h:a=b):Ending.returned (.bool a)=.returned (.bool b):=by rw[h]
theorem ld{k:IntKind}{a b:Int}(h:a=b):Ending.returned (.int k a)=.returned (.int k b):=by rw[h]
theorem sJ(r:Int)(w:World):
  Z4 121 #[.int .i32 r] w (Z6 (.bool (Ch.may r)) w):=by
 go_enter func121,ntmps121;go_wp2;all_goals go_ret
 all_goals refine⟨k_ ?_,rfl⟩
 all_goals try simp only[bG,aB,ne_eq]at*
 all_goals rw[bK,Ch.l7]
 all_goals first|omega|(simp;done)|(simp;omega)
theorem lf(r:Int)(w:World):
  Z4 119 #[.int .i64 r] w (Z6 (.bool (Ch.may r)) w):=by
 go_enter func119,ntmps119;go_wp2;all_goals go_ret
 all_goals refine⟨k_ ?_,rfl⟩
 all_goals try simp only[bG,aB,ne_eq]at*
 all_goals rw[bK,Ch.l7]
 all_goals first|omega|(simp;done)|(simp;omega)
theorem Gs(s:ByteArray)(i:Nat)(w:World)(_hs:s.size<=maxLen):
  Z4 118 #[.string s,.int .i64 i] w (Z6 (.int .i64 (Ch.bz s i)) w):=by
 unfold maxLen at _hs;by_cases h:i<s.size
 ·go_enter func118,ntmps118;go_wp2;go_ret;refine⟨ld ?_,rfl⟩;have e:(s.get! i)=s[i]:=by simp[ByteArray.get!,h];rfl
  have hl:=(s[i]).toNat_lt;rw[IntWalk.wrap64_in _ (by omega),Ch.bz,if_pos h,e]
 ·go_enter func118,ntmps118;go_wp2;go_ret;refine⟨ld ?_,rfl⟩;rw[Ch.bz,if_neg h]
theorem xL(r:Int)(w:World):
  Z4 195 #[.int .i32 r] w (Z6 (.bool (Ch.ft r)) w):=by
 go_enter func195,ntmps195;go_wp2;all_goals go_ret
 all_goals refine⟨k_ ?_,rfl⟩
 all_goals try simp only[bG,aB,ne_eq]at*
 all_goals rw[bK,Ch.fT]
 all_goals first|omega|(simp;done)|(simp;omega)
theorem xM(r:Int)(w:World):
  Z4 170 #[.int .i64 r] w (Z6 (.bool (Ch.ft r)) w):=by
 go_enter func170,ntmps170;go_wp2;all_goals go_ret
 all_goals refine⟨k_ ?_,rfl⟩
 all_goals try simp only[bG,aB,ne_eq]at*
 all_goals rw[bK,Ch.fT]
 all_goals first|omega|(simp;done)|(simp;omega)
theorem vz(r:Int)(w:World):
  Z4 196 #[.int .i32 r] w (Z6 (.bool (Ch.gj r)) w):=by
 go_enter func196,ntmps196;go_wp2;all_goals go_ret
 all_goals refine⟨k_ ?_,rfl⟩
 all_goals try simp only[bG,aB,ne_eq]at*
 all_goals rw[bK,Ch.jh]
 all_goals first|omega|(simp;done)|(simp;omega)
theorem g_(s:ByteArray)(j:Int)(w:World)(hs:s.size<=maxLen)(h:0<=j):
  Z4 118 #[.string s,.int .i64 j] w (Z6 (.int .i64 (Ch.bz s j.toNat)) w):=by
 obtain⟨n,rfl⟩:=dP h;rw[aG];exact Gs s n w hs
theorem a_{p:Prop}(h:p):Hid p:=h
theorem Gt(a:Int)(h: -1<=a/\a<=255):(0<=a/\a<128/\Ch.lead a=(1,a))\/(192<=a/\a<224/\Ch.lead a=(2,a-192))\/(224<=a/\a<240/\Ch.lead a=(3,a-224))\/(240<=a/\a<248/\Ch.lead a=(4,a-240))\/(a<0/\Ch.lead a=(0,0))\/(128<=a/\a<192/\Ch.lead a=(0,0))\/(248<=a/\Ch.lead a=(0,0)):=by
 unfold Ch.lead
 repeat' split
 all_goals simp
 all_goals omega
theorem NU(s:ByteArray)(i m:Nat)(r0:Int)(h:1<=m):Ch.acc s i r0 (m+1-1)=64*Ch.acc s i r0 (m-1)+Ch.bz s (i+m)-128:=by
 obtain⟨k,rfl⟩:∃k,m=k+1:=⟨m-1,by omega⟩
 simp[Ch.acc]
theorem Sz(a:Int)(h: -1<=a/\a<=255):(Ch.lead a).1<=4/\0<=(Ch.lead a).2/\(Ch.lead a).2<=255:=by
 unfold Ch.lead
 repeat' split
 all_goals simp
 all_goals omega
theorem vA(s:ByteArray)(i:Nat)(w:World)(hs:s.size<=1125899906842624)(hi:i<=s.size):
  Z4 78 #[.string s,.int .i64 i] w (Z6 (.tuple #[.int .i64 (Ch.nL s i).1,.int .i64 (Ch.nL s i).2]) w):=by
 have hm:s.size<=maxLen:=by unfold maxLen;omega
 have YA:=Ch.tZ s i;have Nz:=Sz (Ch.bz s i) YA;have hlc:=Gt (Ch.bz s i) YA;rcases hlc with⟨h0,h1,hl⟩|⟨h0,h1,hl⟩|⟨h0,h1,hl⟩|⟨h0,h1,hl⟩|⟨h0,hl⟩|⟨h0,h1,hl⟩|⟨h0,hl⟩;all_goals
  have HL:=a_ hl;clear hl;go_enter func78,ntmps78;go_wp2_with(go_at_call 118;refine(g_ _ _ _ hm (by omega)).mono ?_;rintro e w' ⟨rfl,rfl⟩;rw[aG])
  go_loop [8,9] (fun r k=>∃m:Nat,1<=m/\(m<=(Ch.lead (Ch.bz s i)).1\/m=1)/\k=.int .i64 m/\r=.int .i64 (Ch.acc s i (Ch.lead (Ch.bz s i)).2 (m-1))/\∀j,1<=j->j<m->Ch.cont s (i+j)) (fun _ k=>5-(intOf k).toNat)
  case atStart=>
   refine⟨1,aj _,Or.inr rfl,rfl,?_,fun j a b=>by omega⟩;rw[HL.out];rfl
  case round=>
   obtain⟨m,Sh,Kz,rfl,rfl,hc⟩:=hrel;have HC:=a_ hc;clear hc;by_cases hlt:m<(Ch.lead (Ch.bz s i)).1
   ·have sw:=hlt;rw[HL.out]at sw;simp only at sw;first
     |(exfalso;omega)
     |(have hb:=Ch.xK (s:=s) (i:=i) (r0:=(Ch.lead (Ch.bz s i)).2) (m-1) (by omega) (by omega) (by omega) (fun j a b=>HC.out j a (by omega));have hb2:=Ch.tZ s (i+m);have hj:((i:Int)+(m:Int)).toNat=i+m:=by omega
       by_cases c:Ch.cont s (i+m)
       ·have c':=c;unfold Ch.cont at c';have hst:=a_ (NU s i m (Ch.lead (Ch.bz s i)).2 Sh);have zF:Hid (∀j,1<=j->j<m+1->Ch.cont s (i+j)):=fun j a b=>by
         by_cases e:j=m
         ·rw[e];exact c
         ·exact HC.out j a (by omega)
        have HJ:=a_ hj;clear hj c;generalize Ch.acc s i (Ch.lead (Ch.bz s i)).2 (m-1)=z at*
        go_wp2_with(go_at_call 118;refine(g_ _ _ _ hm (by omega)).mono ?_;rintro e w' ⟨rfl,rfl⟩;rw[HJ.out])
        go_round
        case rel=>exact⟨m+1,by omega,Or.inl (by omega),by go_num,by rw[hst.out],zF.out⟩
        case measure=>simp[intOf];omega
       ·have Ju:=a_ (Ch.Ky Sh hlt c);have c':Ch.bz s (i+m)<128\/192<=Ch.bz s (i+m):=by unfold Ch.cont at c;omega
        have HJ:=a_ hj;clear hj c;rcases c' with c'|c';all_goals
         go_wp2_with(go_at_call 118;refine(g_ _ _ _ hm (by omega)).mono ?_;rintro e w' ⟨rfl,rfl⟩;rw[HJ.out])
         go_ret2
         refine⟨?_,rfl⟩;rw[Ju.out];rfl)
   ·have DR:=Ch.NT (s:=s) (i:=i) (fun j a b=>HC.out j a (by omega));have DS:(Ch.lead (Ch.bz s i)).1-1=m-1:=by rcases Kz with h|h<;>omega
    have hb:=Ch.xK (s:=s) (i:=i) (r0:=(Ch.lead (Ch.bz s i)).2) (m-1) (by omega) (by omega) (by rcases Kz with h|h<;>omega) (fun j a b=>HC.out j a (by omega));rw[DS]at DR;clear DS;have sw:=hlt;rw[HL.out]at sw;simp only at sw;generalize Ch.acc s i (Ch.lead (Ch.bz s i)).2 (m-1)=z at*
    rw[HL.out]at DR;simp only at DR;have HF:=a_ DR;clear DR;cases vB:Ch.may z;all_goals
     go_wp2_with(go_at_call 119;refine(lf _ _).mono ?_;rintro e w' ⟨rfl,rfl⟩);all_goals go_ret2
     all_goals refine⟨?_,rfl⟩
     all_goals rw[HF.out]
     all_goals split
     all_goals first
      |rfl
      |(rename_i NV;exfalso;simp[Ch.few,vB]at NV;done)
      |(rename_i NV;exfalso;simp[Ch.few,vB]at NV;omega)
end Go.Proofs.YthlcmljckpdheaaGreatDoor
namespace Go.Proofs.YthlcmljckpdheaaGreatDoor
namespace Ch
open Go
def has(s:ByteArray)(i:Nat):List UInt8->Bool
 |[]=>true
 |c::l=>bz s i==(c.toNat:Int)&&has s (i+1) l
theorem drop_cons(s:ByteArray)(i:Nat)(h:i<s.size):s.data.toList.drop i=s.get! i::s.data.toList.drop (i+1):=by
 rw[bT (by simpa using h)];congr 1;simp[ByteArray.get!,h]
theorem drop_nil(s:ByteArray)(i:Nat)(h:¬i<s.size):s.data.toList.drop i=[]:=by
 apply List.drop_eq_nil_of_le;simpa using h
theorem pJ(s:ByteArray)(l:List UInt8):∀i,l.isPrefixOf (s.data.toList.drop i)=has s i l:=by
 induction l with
 |nil=>intro i;simp[has]
 |cons c l ih=>
  intro i;by_cases h:i<s.size
  ·rw[drop_cons s i h];simp only[List.isPrefixOf,has,ih];congr 1;rw[bK,bG,bG];simp only[bz,h,if_true];constructor
   ·intro e;rw[e]
   ·intro e;exact(UInt8.toNat_inj.1 (by omega))
  ·rw[drop_nil s i h];simp[has,List.isPrefixOf,bz,h]
theorem BM(s:ByteArray)(i:Nat):(s.extract i s.size).data.toList=s.data.toList.drop i:=by simp[bQ]
theorem xN(s:ByteArray)(i:Nat)(l:List UInt8):Lib.hasPrefix (List.take (s.size-i) (List.drop i s.data.toList)) l=has s i l:=by rw[bQ (by simp),Lib.hasPrefix,pJ]
def l9(s:ByteArray):Nat->Nat->Nat
 |0,pos=>pos
 |f+1,pos=>if pos<s.size then(if gW s pos=true then l9 s f (pos+(Utf8.decode s pos).2)else pos)else s.size
def bad(s:ByteArray):Nat:=l9 s (s.size+1) 0
theorem Gu(s:ByteArray):∀f pos,pos<=s.size->l9 s f pos<=s.size:=by
 intro f;induction f with
 |zero=>intro pos h;exact h
 |succ f ih=>
  intro pos h;unfold l9;split
  ·split
   ·exact ih _ (fo s pos ‹_›).1
   ·omega
  ·omega
def jI(s:ByteArray)(pos:Nat):Bool:=gW s pos&&(ft (Utf8.decode s pos).1||(decide (0<pos)&&gj (Utf8.decode s pos).1))
def fQ(s:ByteArray):Nat->Nat->Nat
 |0,pos=>pos
 |f+1,pos=>if pos<s.size then(if jI s pos=true then fQ s f (pos+(Utf8.decode s pos).2)else pos)else s.size
def name(s:ByteArray):Nat:=fQ s (s.size+1) 0
theorem SA(s:ByteArray)(i:Nat)(h:i<s.size):nL s i=if gW s i=true then(((Utf8.decode s i).1:Int),((Utf8.decode s i).2:Int))else(0,0):=by simp[nL,h]
end Ch
end Go.Proofs.YthlcmljckpdheaaGreatDoor
namespace Go.Proofs.YthlcmljckpdheaaGreatDoor
open Go.RowKit Tryz
theorem iB(s:ByteArray)(i:Nat)(r:Int)(w:World)(_hs:s.size<=1125899906842624)(hi:i<=s.size):
  Z4 80 #[.string s,.int .i64 i,.int .i32 r] w (Z6 (.bool (Ch.DN s i r)) w):=by
 by_cases hr:r=65533
 ·have hb:(r==65533)=true:=by simp[hr]
  have hp:=Ch.xN s i [239,191,189];have hq:Ch.has s i [239,191,189]=Ch.DN s i r:=by simp[Ch.has,Ch.DN,hr,Bool.and_assoc,cK]
  rw[hq]at hp;have HP:=a_ hp;clear hp hq hr;go_enter func80,ntmps80;go_wp2_with(go_at_call 120;refine(strings_HasPrefix _ _ _).mono ?_;rintro e w' ⟨rfl,rfl⟩);go_ret;refine⟨k_ ?_,rfl⟩;exact HP.out
 ·have hb:(r==65533)=false:=by simp[hr]
  have hc:Ch.DN s i r=Ch.may r:=by simp[Ch.DN,hr]
  have HC:=a_ hc;clear hc hr;go_enter func80,ntmps80;go_wp2_with(go_at_call 121;refine(sJ _ _).mono ?_;rintro e w' ⟨rfl,rfl⟩);go_ret;exact⟨k_ HC.out.symm,rfl⟩
theorem jV(w:World)(s:ByteArray)(pos:Nat):Z5 w (w.iter s pos):=
 (Below.refl _ w).alloc (aj _) _
set_option maxRecDepth 1000000 in
theorem qC(s:ByteArray)(w:World)(hs:s.size<=1125899906842624):
  Z4 41 #[.string s] w (Z7 (.int .i64 (Ch.bad s)) w):=by
 go_enter func41,ntmps41;go_wp2;go_loopw [] (fun w'=>∃(pos fuel:Nat),w'=w.iter s pos/\Ch.l9 s fuel pos=Ch.bad s/\s.size<pos+fuel/\pos<=s.size) (fun w'=>s.size-w'.iterPos w.heap.size)
 case atStart=>exact⟨0,s.size+1,rfl,rfl,by omega,by omega⟩
 case round=>
  obtain⟨pos,fuel,rfl,hc,hb,hl⟩:=hrel;obtain⟨f,rfl⟩:∃f,fuel=f+1:=⟨fuel-1,by omega⟩
  have HC:=a_ hc;clear hc;by_cases hp:pos<s.size
  ·have Gv:∀ty,(Instr.next (.pointer (some ⟨w.heap.size,0,none⟩)) true ty).run prog (w.iter s pos)=_:=fun ty=>run_next_any w s pos ty hp;have hwd:=Ch.fo s pos hp;have hch:=Ch.qz s pos hp;cases iM:Ch.gW s pos
   ·rw[iM]at hch;go_wp2_with(go_at_call 80;refine(iB _ _ _ _ hs hl).mono ?_;rintro e w' ⟨rfl,rfl⟩);go_ret;refine⟨ld ?_,?_⟩
    ·have:=HC.out;simp only[Ch.l9,hp,iM]at this;simp at this;omega
    ·exact jV w s _
   ·rw[iM]at hch;go_wp2_with(go_at_call 80;refine(iB _ _ _ _ hs hl).mono ?_;rintro e w' ⟨rfl,rfl⟩)
    go_roundw
    case rel=>
     refine⟨pos+(Utf8.decode s pos).2,f,rfl,?_,by omega,by omega⟩;have:=HC.out;simp only[Ch.l9,hp,iM]at this;simpa using this
    case measure=>
     simp;omega
  ·have Gv:∀ty,(Instr.next (.pointer (some ⟨w.heap.size,0,none⟩)) true ty).run prog (w.iter s pos)=_:=fun ty=>run_next_end w s pos ty hp;go_wp2;go_ret;refine⟨ld ?_,?_⟩
   ·have:=HC.out;simp only[Ch.l9,hp]at this;simp at this;omega
   ·exact jV w s _
theorem vC{s:ByteArray}{f pos:Nat}(hp:pos<s.size)(hi:Ch.jI s pos=false)(h:Ch.fQ s (f+1) pos=Ch.name s):(pos:Int)=(Ch.name s:Int):=by simp only[Ch.fQ,hp,hi]at h;simp at h;omega
theorem Jv{s:ByteArray}{f pos:Nat}(hp:pos<s.size)(hi:Ch.jI s pos=true)(h:Ch.fQ s (f+1) pos=Ch.name s):Ch.fQ s f (pos+(Utf8.decode s pos).2)=Ch.name s:=by simp only[Ch.fQ,hp,hi]at h;simpa using h
theorem DT{s:ByteArray}{f pos:Nat}(hp:¬pos<s.size)(h:Ch.fQ s (f+1) pos=Ch.name s):(s.size:Int)=(Ch.name s:Int):=by simp only[Ch.fQ,hp]at h;simp at h;omega
set_option maxRecDepth 1000000 in
theorem rE(s:ByteArray)(w:World)(hs:s.size<=1125899906842624):
  Z4 154 #[.string s] w (Z7 (.int .i64 (Ch.name s)) w):=by
 go_enter func154,ntmps154;go_wp2;go_loopw [] (fun w'=>∃(pos fuel:Nat),w'=w.iter s pos/\Ch.fQ s fuel pos=Ch.name s/\s.size<pos+fuel/\pos<=s.size) (fun w'=>s.size-w'.iterPos w.heap.size)
 case atStart=>exact⟨0,s.size+1,rfl,rfl,by omega,by omega⟩
 case round=>
  obtain⟨pos,fuel,rfl,hc,hb,hl⟩:=hrel;obtain⟨f,rfl⟩:∃f,fuel=f+1:=⟨fuel-1,by omega⟩
  have HC:=a_ hc;clear hc;by_cases hp:pos<s.size
  ·have Gv:∀ty,(Instr.next (.pointer (some ⟨w.heap.size,0,none⟩)) true ty).run prog (w.iter s pos)=_:=fun ty=>run_next_any w s pos ty hp;have hwd:=Ch.fo s pos hp;have hch:=Ch.qz s pos hp;cases iM:Ch.gW s pos<;>cases V9:Ch.ft (Utf8.decode s pos).1<;>cases hgo:Ch.gj (Utf8.decode s pos).1<;>by_cases h0:0<pos
   all_goals rw[iM]at hch
   all_goals
    go_wp2_with(first|(go_at_call 195;refine(xL _ _).mono ?_;rintro e w' ⟨rfl,rfl⟩)|(go_at_call 196;refine(vz _ _).mono ?_;rintro e w' ⟨rfl,rfl⟩)|(go_at_call 80;refine(iB _ _ _ _ hs hl).mono ?_;rintro e w' ⟨rfl,rfl⟩));first
     |(go_ret;exact⟨ld (vC hp (by simp[Ch.jI,iM,V9,hgo,h0]) HC.out),jV w s _⟩)
     |(go_roundw
       case rel=>exact⟨pos+(Utf8.decode s pos).2,f,rfl,Jv hp (by simp[Ch.jI,iM,V9,hgo,h0]) HC.out,by omega,by omega⟩
       case measure=>simp;omega)
  ·have Gv:∀ty,(Instr.next (.pointer (some ⟨w.heap.size,0,none⟩)) true ty).run prog (w.iter s pos)=_:=fun ty=>run_next_end w s pos ty hp;go_wp2;go_ret;exact⟨ld (DT hp HC.out),jV w s _⟩
theorem Gw{r:Int}{b:Bool}(h:Ch.gj r=b):(b=true/\48<=r/\r<=57)\/(b=true/\¬48<=r/\(r==45)=true)\/(b=true/\¬48<=r/\(r==45)=false/\(r==46)=true)\/(b=false/\¬48<=r/\(r==45)=false/\(r==46)=false)\/(b=false/\57<r/\(r==45)=false/\(r==46)=false):=by
 subst h;cases e:Ch.gj r
 ·have:¬((48<=r/\r<=57)\/r=45\/r=46):=fun q=>by rw[(Ch.jh r).2 q]at e;cases e
  simp only[ay,false_and,false_or,dG,aB,ne_eq];omega
 ·have:=(Ch.jh r).1 e;simp only[dG,aB,bG,ne_eq];omega
set_option maxRecDepth 1000000 in
theorem KA(s:ByteArray)(w:World)(hs:s.size<=1125899906842624):
  Z4 113 #[.string s] w (Z6 (.int .i64 (Ch.name s)) w):=by
 go_enter func113,ntmps113;go_wp2
 go_loop [3,4,5,6] (fun i _ _ _=>∃(pos fuel:Nat),i=.int .i64 pos/\Ch.fQ s fuel pos=Ch.name s/\s.size<pos+fuel/\pos<=s.size) (fun i _ _ _=>s.size-(intOf i).toNat)
 case atStart=>exact⟨0,s.size+1,rfl,rfl,by omega,by omega⟩
 case round=>
  obtain⟨pos,fuel,rfl,hc,hb,hl⟩:=hrel;obtain⟨f,rfl⟩:∃f,fuel=f+1:=⟨fuel-1,by omega⟩
  have HC:=a_ hc;clear hc;by_cases hp:pos<s.size
  ·have hwd:=Ch.fo s pos hp;have hat:=Ch.SA s pos hp;cases iM:Ch.gW s pos
   ·rw[iM]at hat;simp only[ay,bf]at hat;have HA:=a_ hat;clear hat;by_cases h0:0<pos;all_goals
     go_wp2_with(first|(go_at_call 78;refine(vA _ _ _ hs hl).mono ?_;rintro e w' ⟨rfl,rfl⟩;rw[HA.out])|(go_at_call 170;refine(xM _ _).mono ?_;rintro e w' ⟨rfl,rfl⟩));go_ret;exact⟨ld (vC hp (by simp[Ch.jI,iM]) HC.out),rfl⟩
   ·rw[iM]at hat;simp only[if_true]at hat;have HA:=a_ hat;clear hat;cases V9:Ch.ft (Utf8.decode s pos).1<;>cases hgo:Ch.gj (Utf8.decode s pos).1<;>by_cases h0:0<pos
    all_goals
     have HG:=a_ hgo;clear hgo;rcases Gw HG.out with⟨e1,e2,e3⟩|⟨e1,e2,e3⟩|⟨e1,e2,e3,e4⟩|⟨e1,e2,e3,e4⟩|⟨e1,e2,e3,e4⟩;all_goals first
      |(cases e1;done)
      |(clear e1;go_wp2_with(first|(go_at_call 78;refine(vA _ _ _ hs hl).mono ?_;rintro e w' ⟨rfl,rfl⟩;rw[HA.out])|(go_at_call 170;refine(xM _ _).mono ?_;rintro e w' ⟨rfl,rfl⟩));first
       |(go_ret;exact⟨ld (vC hp (by simp[Ch.jI,iM,V9,HG.out,h0]) HC.out),rfl⟩)
       |(go_round
         case rel=>exact⟨pos+(Utf8.decode s pos).2,f,by go_num,Jv hp (by simp[Ch.jI,iM,V9,HG.out,h0]) HC.out,by omega,by omega⟩
         case measure=>simp[intOf];omega))
  ·go_wp2;go_ret;exact⟨ld (by have:=DT hp HC.out;omega),rfl⟩
end Go.Proofs.YthlcmljckpdheaaGreatDoor
