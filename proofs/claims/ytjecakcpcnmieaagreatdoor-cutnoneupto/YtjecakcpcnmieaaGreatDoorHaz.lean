import Derived.Test.YtjecakcpcnmieaaGreatDoorHA
import Derived.Test.YtjecakcpcnmieaaGreatDoorHay
import Derived.Test.YtjecakcpcnmieaaGreatDoorHaw
import Derived.Test.YtjecakcpcnmieaaGreatDoorHau
set_option linter.unusedVariables false
set_option linter.unusedSimpArgs false
set_option maxHeartbeats 32000000
set_option maxRecDepth 100000
namespace Go.Proofs.YtjecakcpcnmieaaGreatDoor
namespace K
open Go.RowKit Go.Maps Go.Lib Tryz
section
variable{A K B:Nat->Prop}{w w' w1 wr:World}{v va vb:Value}{av kv:Nat->Value}{l:List Nat}
theorem AB{n:Nat}(h:w.ownsRow 0 3 1 v l.length (fF l))(i:Nat)(hi:i<l.length):∃g c,v=Z9 g l.length c/\w.cell? ⟨g,i,none⟩=some (.int .i64 (l[i]:Int))/\l.length<=maxLen:=by
 rcases h.2 with⟨_,e⟩|⟨g,c,cur,e,_,hg,h1,h2,h3,h4⟩
 ·omega
 ·refine⟨g,c,e,cell_of hg ?_,ar h1 h2⟩;have h5:(fF l)[i]?=some (.int .i64 (l[i]:Int)):=by unfold fF;rw[aX,aw hi];rfl
  rw[<-h4,bT]at h5;split at h5
  ·simpa using h5
  ·cases h5
end
end K
end Go.Proofs.YtjecakcpcnmieaaGreatDoor
namespace Go.Proofs.YtjecakcpcnmieaaGreatDoor
namespace K
open Go.RowKit Go.Lib Tryz
def qX(l:List Nd)(m:Nat)(u:Int)(f:Fo):Prop:=∀i,i<f.size->l[m+i]?=(f.flat m u)[i]?
theorem K3(f:Fo)(u:Int):qX (f.flat 0 u) 0 u f:=fun i _=>by rw[ay]
theorem qX.text{l:List Nd}{m:Nat}{u:Int}{t:List UInt8}{r:Fo}(h:qX l m u (.text t r)):l[m]?=some ⟨[],[],t,[],u⟩/\qX l (m+1) u r:=by
 refine⟨?_,fun i hi=>?_⟩
 ·have:=h 0 (by simp only[Fo.size];omega);simpa [Fo.flat]using this
 ·have:=h (i+1) (by simp only[Fo.size];omega);rw[show m+1+i=m+(i+1) by omega,this];simp[Fo.flat]
theorem qX.elem{l:List Nd}{m:Nat}{u:Int}{n:List UInt8}{a:jY}{k r:Fo}(h:qX l m u (.elem n a k r)):
  l[m]?=some ⟨n,a,[],k.jE (m+1),u⟩/\qX l (m+1) m k/\qX l (m+1+k.size) u r:=by
 refine⟨?_,fun i hi=>?_,fun i hi=>?_⟩
 ·have:=h 0 (by simp only[Fo.size];omega);simpa [Fo.flat]using this
 ·have:=h (i+1) (by simp only[Fo.size];omega);rw[show m+1+i=m+(i+1) by omega,this];simp only[Fo.flat,ck];rw[aL (by rw[nr];exact hi)]
 ·have:=h (i+k.size+1) (by simp only[Fo.size];omega);rw[show m+1+k.size+i=m+(i+k.size+1) by omega,this];simp only[Fo.flat,ck];rw[aQ (by rw[nr];omega),nr,Nat.add_sub_cancel]
theorem qX.Xz{l:List Nd}{m:Nat}{u:Int}{t:List UInt8}(h:l[m]?=some ⟨[],[],t,[],u⟩):qX l m u (.text t .nil):=fun i hi=>by
 simp only[Fo.size]at hi;obtain rfl:i=0:=by omega
 simpa [Fo.flat]using h
theorem qX.XA{l:List Nd}{m:Nat}{u:Int}{n:List UInt8}{a:jY}{k:Fo}(h:l[m]?=some ⟨n,a,[],k.jE (m+1),u⟩)(hk:qX l (m+1) m k):qX l m u (.elem n a k .nil):=fun i hi=>by
 simp only[Fo.size]at hi;cases i with
 |zero=>simpa [Fo.flat]using h
 |succ i=>
  have:=hk i (by omega);rw[show m+(i+1)=m+1+i by omega,this];simp only[Fo.flat,ck,aO]
def EJ(x:Fo):Prop:=(∃t,x=.text t .nil)\/∃n a k,x=.elem n a k .nil
def Fo.All(P:List UInt8->Prop)(Q:List UInt8->jY->Prop):Fo->Prop
 | .nil=>True
 | .text t r=>P t/\r.All P Q
 | .elem n a k r=>Q n a/\k.All P Q/\r.All P Q
def Fo.Hx:Bool->Fo->Prop
 |_,.nil=>True
 |b,.text _ r=>b=false/\r.Hx true
 |_,.elem _ _ k r=>k.Hx false/\r.Hx false
def Fo.value:Fo->List UInt8
 | .nil=>[]
 | .text t r=>t++r.value
 | .elem _ _ k r=>k.value++r.value
def px(a:List UInt8×List UInt8):List UInt8:=32::(a.1++([61,34]++(Ch.h_ true a.2++[34])))
def Fo.isNil:Fo->Bool
 | .nil=>true
 |_=>false
def Fo.plain:Fo->List UInt8
 | .nil=>[]
 | .text t r=>Ch.h_ false t++r.plain
 | .elem n a k r=>(60::(n++a.flatMap px))++((if k.isNil=true then [47,62]else [62]++(k.plain++([60,47]++(n++[62]))))++r.plain)
section
variable{s:ByteArray}{p:Nat}{c:Int}{x y z:Sc}{q:Bool}
theorem Ue(ats:jY):ats.length<=(ats.flatMap px).length:=by
 induction ats with
 |nil=>exact ah _
 |cons a ats ih=>
  have e1:(a::ats).flatMap px=px a++ats.flatMap px:=by simp
  have:1<=(px a).length:=by unfold px;rw[ag];omega
  rw[e1,ae,ag];omega
def Uf(t:List UInt8):Prop:=gy t/\t≠[]
def Mq(n:List UInt8)(a:jY):Prop:=nD n/\(∀x∈a,nD x.1/\gy x.2)/\yo [] a
theorem K4{f:Fo}{l:List Tok}(h:ma f l):∀b,pW b l->f.All Uf Mq/\f.Hx b:=by
 induction h with
 |nil=>intro b _;exact⟨trivial,trivial⟩
 |text t r l h1 h2 h ih=>
  intro b hc;obtain⟨c1,c2,c3⟩:=hc;rcases c1 with⟨k,_⟩|⟨k,_⟩|⟨k,k1,k2,k3,k4⟩
  ·exact absurd k h1
  ·exact absurd k h2
  ·obtain⟨i1,i2⟩:=ih _ c3;have e:(t.kind==3)=true:=by simpa using k
   rw[e]at i2;exact⟨⟨⟨k3,k4⟩,i1⟩,c2 k,i2⟩
 |elem t c k r lk lr h1 h2 hn hk hr U_ Qa=>
  intro b hc;obtain⟨c1,c2,c3⟩:=hc;have e:(t.kind==3)=false:=by rw[h1];rfl
  rw[e,kN]at c3;obtain⟨d1,d2,d3,d4⟩:=c3;obtain⟨i1,i2⟩:=U_ _ d1;have e2:(c.kind==3)=false:=by rw[h2];rfl
  rw[e2]at d4;obtain⟨j1,j2⟩:=Qa _ d4;rcases c1 with⟨k,k1,k2,k3,k4⟩|⟨k,_⟩|⟨k,_⟩
  ·exact⟨⟨⟨k1,k2,k3⟩,i1,j1⟩,i2,j2⟩
  ·omega
  ·omega
end
structure abL(n:List UInt8)(a:jY)(f:Fo):Prop where
 name:Mq n a
 all:f.All Uf Mq
 apart:f.Hx false
 deep:1+f.deep<=30
def j7(s:ByteArray):List Tok:=(eQ s).l++(eQ s).last
theorem AE(s:ByteArray)(he:(eQ s).err=0):pW false (j7 s):=by
 have:=vS s;unfold kY at this;rw[if_neg (by simpa using he)]at this;exact this
end K
end Go.Proofs.YtjecakcpcnmieaaGreatDoor
