import Derived.Test.YtjecakcpcnmieaaGreatDoorHA
import Derived.Maps.OwnSet
import Derived.Maps.Views
import Derived.Maps.Keyed
import Derived.DeepKeys4
import Derived.Deep.RegionLaw
import Derived.Test.YtjecakcpcnmieaaGreatDoorHae
import Derived.Test.YtjecakcpcnmieaaGreatDoorHac
import Derived.Test.YtjecakcpcnmieaaGreatDoorHad
set_option linter.unusedVariables false
set_option linter.unusedSimpArgs false
set_option maxHeartbeats 32000000
set_option maxRecDepth 100000
namespace Go.Proofs.YtjecakcpcnmieaaGreatDoor
open Go.RowKit Go.Maps Go.Lib Tryz
section
variable{w w' w1 w2 W:World}
def qZ(kv:List (Lit×Nat))(kl:Lit):Option Nat:=(kv.find? fun p=>p.1.sameKey kl).map (·.2)
structure j4(w:World)(kt:TypeId)(b:Nat)(kv:List (Lit×Nat)):Prop where
 ex:∃D:DataW Unit,w.ownsMap prog kt (plainElem prog 3) b kv.length D/\(∀kl,Maps.has D kl=(qZ kv kl).isSome)/\∀kl z,D.atKey kl z=match qZ kv kl with|some n=> .lit (.int .i64 (n:Nat))|none=>z
variable{kt:TypeId}{b:Nat}{kv:List (Lit×Nat)}
theorem j4.lt(h:j4 w kt b kv):b<w.heap.size:=by obtain⟨D,h,_⟩:=h.ex;exact h.lt
theorem j4.of(h:j4 w kt b kv)(hb:w'.heap[b]?=w.heap[b]?):j4 w' kt b kv:=by
 obtain⟨D,⟨es,clock,e,F,hs,hD⟩,h2⟩:=h.ex;exact⟨D,⟨es,clock,hb.trans e,F,hs,hD⟩,h2⟩
theorem j4.isMap(h:j4 w kt b kv):∃es clock,w.heap[b]?=some (.map es clock):=by
 obtain⟨D,⟨es,clock,e,_⟩,_⟩:=h.ex;exact⟨es,clock,e⟩
theorem j4.new(w:World)(kt:TypeId):j4 (w.alloc (.map #[] 0)) kt w.heap.size []:=
 ⟨.map [],World.ownsMap_made w prog kt _,fun kl=>rfl,fun kl z=>rfl⟩
theorem LN(kv:List (Lit×Nat))(kl:Lit)(n:Nat)(k':Lit):qZ (kv++[(kl,n)]) k'=match qZ kv k' with|some m=>some m|none=>if kl.sameKey k'=true then some n else none:=by
 unfold qZ;rw[List.find?_append];cases h:kv.find? (fun p=>p.1.sameKey k')with
 |some p=>rfl
 |none=>
  simp only[Option.none_or,Option.map_none,cZ,List.find?_nil];cases kl.sameKey k'<;>rfl
theorem nL{ops:Array Oper}{rest:List Oper}{o:Oper}{a:Act}{Q:Exit->Act->World->Prop}(hg:o.guard=none)(m x:Operand)(t:TypeId)(hop:o.op=Op.lookup t m x true)
  (K:Keyed prog kt) (ht:prog.underlying t=some (.map kt 3)) (hm:a.eval m=.map (some b)) (h:j4 w kt b kv) (key:Value) (kl:Lit) (hx:a.eval x=key) (hkey:keyOf prog kt key=some kl) (c:Nat) (ok:Bool) (hc:(qZ kv kl).getD 0=c) (jO:(qZ kv kl).isSome=ok)
  (hK:wpList prog ops Q rest (a.put o.dst (.tuple #[.int .i64 (c:Nat),.bool ok])) w):
  wpList prog ops Q (o::rest) a w:=by
 obtain⟨D,h1,h2,h3⟩:=h.ex;refine wpList_lookup_own_ok_int w hg m x t hop kt 3 .i64 K ht underlying3 (zeroValue3 _) b kv.length D hm h1 key kl hx hkey ?_;intro c' hat _;rw[h3]at hat;rw[h2,jO];have e:c'=(c:Int):=by
  rw[<-hc];cases hf:qZ kv kl with
  |none=>rw[hf]at hat;simp only at hat;cases hat;rfl
  |some n=>rw[hf]at hat;simp only at hat;cases hat;rfl
 rw[e];exact hK
theorem xy{ops:Array Oper}{rest:List Oper}{o:Oper}{a:Act}{Q:Exit->Act->World->Prop}(hg:o.guard=none)(m x v:Operand)(t:TypeId)(hop:o.op=Op.mapUpdate t m x v)
  (K:Keyed prog kt) (ht:prog.underlying t=some (.map kt 3)) (hm:a.eval m=.map (some b)) (h:j4 w kt b kv) (key:Value) (kl:Lit) (n:Nat) (hx:a.eval x=key) (hv:a.eval v=.int .i64 (n:Nat)) (hkey:keyOf prog kt key=some kl) (hn:qZ kv kl=none) (hl:kv.length<4611686018427387904) (Jg:n<4611686018427387904)
  (hK:∀w',j4 w' kt b (kv++[(kl,n)])->w.grownBy w' (some b)->wpList prog ops Q rest (a.put o.dst undef) w'):
  wpList prog ops Q (o::rest) a w:=by
 obtain⟨D,h1,h2,h3⟩:=h.ex;have Dn:(Lit.int .i64 (n:Nat)).wf=true:=by
  have e1:IntKind.i64.min= -9223372036854775808:=by decide
  have e2:IntKind.i64.max=9223372036854775807:=by decide
  simp[Lit.wf,e1,e2];omega
 refine dZ w hg m x v t hop kt 3 K ht (plainElem prog 3) b kv.length D hm h1 (by unfold maxLen;omega) key (.int .i64 (n:Nat)) kl hx hv hkey (.lit (.int .i64 (n:Nat))) [] (plainElem_int underlying3 Dn) ?_;intro w' hown hgr;refine hK w' ⟨_,by rw[ae,bn];exact hown,fun k'=>?_,fun k' z=>?_⟩ hgr
 ·rw[LN];by_cases e:k'=kl
  ·subst e;rw[has_put_same h1.isMap (K.key hkey),hn];simp[cR (K.key hkey)]
  ·rw[has_put_other e,h2,eu (fun h=>e h.symm)];cases qZ kv k'<;>rfl
 ·rw[LN];by_cases e:k'=kl
  ·subst e;rw[atKey_put_same h1.isMap (K.key hkey),hn];simp[cR (K.key hkey)]
  ·rw[atKey_put_other e,h3,eu (fun h=>e h.symm)];cases qZ kv k'<;>rfl
theorem Dp:Keyed prog 9:=string_keyed underlying9
theorem p_{B:Nat}{e:TypeId}{s:Nat}{v:Value}{n b:Nat}{xs:List Value}{es:Array MapEntry}{c:Nat}(h:w.ownsRow B e s v n xs)(hm:w.heap[b]?=some (.map es c)):v.ownBlock≠some b:=by
 intro hv;rcases h.2 with⟨h',_⟩|⟨g,cap,cur,h',_,hg,_⟩
 ·rw[h']at hv;cases hv
 ·rw[h']at hv;have:g=b:=by simpa [Value.ownBlock]using hv
  subst this;rw[hm]at hg;cases hg
theorem gP{B:Nat}{e t:TypeId}{s:Nat}{v:Value}{n b:Nat}{xs:List Value}{cs:Array Value}{fz:Nat×Nat}(h:w.ownsRow B e s v n xs)(hm:w.heap[b]?=some (.cells cs t fz))(ht:t≠e):v.ownBlock≠some b:=by
 intro hv;rcases h.2 with⟨h',_⟩|⟨g,cap,cur,h',_,hg,_⟩
 ·rw[h']at hv;cases hv
 ·rw[h']at hv;have:g=b:=by simpa [Value.ownBlock]using hv
  subst this;rw[hm]at hg;cases hg;exact ht rfl
theorem Jh(t:TypeId)(w:World):(Instr.makeMap t none).run prog w=.ok (.map (some w.heap.size)) (w.alloc (.map #[] 0)):=rfl
theorem Fr.gr{F:Nat->Prop}{row:Option Nat}(h:Fr F w w1)(hg:w1.grownBy w2 row)(hF:∀k,row=some k->k<w.heap.size->F k):Fr F w w2:=
 ⟨hg.os.trans h.os,hg.tape.trans h.tape,hg.output.trans h.output,ar h.size hg.size,fun k hk hf=>(hg.block k (ak hk h.size) (fun e=>hf (hF k e.symm hk))).trans (h.block k hk hf)⟩
end
section
variable{w w' w1 w2 W:World}
theorem laidOut:laidOutB prog=true:=by kernel_rfl
theorem Ya:(165:TypeId)<prog.types.size:=cp (by kernel_rfl)
theorem Zd:(match prog.underlying 165 with|some (.array _ _)|some (.struct _)=>true|_=>false)=true:=by rw[underlying165]
theorem Dq:Keyed prog 165:=Keyed.of_law (deep_law_laid laidOut (m:=2) (by omega) Ya (by kernel_rfl) Zd)
def qR(m:Mk):Lit:=.string (keyBytes [.bool m.1,.string m.2])
theorem MW:prog.keyType 165=true:=by kernel_rfl
theorem QR(a b:Value):(Value.agg #[a,b]).formed prog 165=true:=by
 have:prog.cellsOf 165=2:=by kernel_rfl
 simp[Value.formed,underlying165,this]
theorem Ji:prog.cellsOf 4=1:=by kernel_rfl
theorem Dr:prog.cellsOf 9=1:=by kernel_rfl
theorem Vy:prog.cellsOf 165=2:=by kernel_rfl
theorem QT(m:Mk)(h:m.2.length<=1000000):keyOf prog 165 (.agg #[.bool m.1,.string (bs m.2)])=some (qR m):=by
 have e:(bs m.2).size=m.2.length:=iY m.2;have hm:(bs m.2).size<=maxLen:=by rw[e];unfold maxLen;omega
 obtain⟨n,hn⟩:∃n,prog.types.size+1=n+1+1:=by
  have h:165<prog.types.size:=Ya;generalize prog.types.size=s at h ⊢;exact⟨s-1,by omega⟩
 unfold keyOf;rw[underlying165];simp only[MW,QR,ek,if_true];rw[hn];simp[Program.keyLits,underlying165,Vy,Ji,Dr,underlying4,underlying9,hm,Value.cells,qR];simp[bs]
theorem Ze{a b:L}(h:bs a=bs b):a=b:=by
 have:=aC (fun x:ByteArray=>x.data.toList) h;simpa [bs]using this
theorem Fw{m m':Mk}(h:m.2.length<=1000000)(h':m'.2.length<=1000000)(e:qR m=qR m'):m=m':=by
 have e1:=QT m h;have e2:=QT m' h';rw[e]at e1;have e3:=Dq.inj e1 e2;have f0:=aC (fun v:Value=>match v with| .agg a=>a[0]?|_=>none) e3;have f1:=aC (fun v:Value=>match v with| .agg a=>a[1]?|_=>none) e3;simp only[cz,dO,ck,aJ,Value.bool.injEq,Value.string.injEq]at f0 f1;exact Prod.ext f0 (Ze f1)
def ij(x:Br):List (Lit×Nat):=x.kids.map fun y=>(qR y.1,y.2)
def xz(b:gZ):Prop:=∀x∈b,∀y∈x.kids,y.1.2.length<=1000000
theorem Vz{x:Br}{m:Mk}(hm:m.2.length<=1000000)(hx:∀y∈x.kids,y.1.2.length<=1000000):qZ (ij x) (qR m)=x.kid m:=by
 unfold qZ ij Br.kid;revert hx;generalize x.kids=ks;induction ks with
 |nil=>intro _;rfl
 |cons y l ih=>
  intro hx;have ih':=ih fun z hz=>hx z (bO _ hz);rw[bB,cZ,cZ];by_cases e:y.1=m
  ·have e1:(qR y.1).sameKey (qR m)=true:=by rw[e];exact cR (Dq.key (QT m hm))
   rw[e1,e];simp
  ·have e1:(qR y.1).sameKey (qR m)=false:=eu fun h=>e (Fw (hx y (bJ ..)) hm h);have e2:(y.1==m)=false:=by simpa using e
   rw[e1,e2];exact ih'
def ze(x:Br×Nat):List Value:=[.bool x.1.sg.1,.string (bs x.1.sg.2),.map (some x.2),.bool x.1.nd,.bool x.1.wh]
def iZ(xs:List (Br×Nat)):List Value:=xs.flatMap ze
theorem zf:∀(xs:List (Br×Nat)) (k:Nat) (x:Br×Nat) (c:Nat) (u:Value),xs[k]?=some x->(ze x)[c]?=some u->(iZ xs)[k*5+c]?=some u
 |[],k,x,c,u,h,_=>by simp at h
 |y::xs,0,x,c,u,h,hc=>by
  obtain rfl:y=x:=by simpa using h
  have hl:c<5:=by have:=(List.getElem?_eq_some_iff.1 hc).1;simpa [ze]using this
  show (ze y++iZ xs)[0*5+c]?=_;rw[aL (by simp[ze];omega)];simpa using hc
 |y::xs,k+1,x,c,u,h,hc=>by
  have:=zf xs k x c u (by simpa using h) hc;show (ze y++iZ xs)[(k+1)*5+c]?=_;rw[aQ (by simp[ze];omega)];rw[<-this];congr 1;simp[ze];omega
structure BR(w:World)(v:Value)(xs:List (Br×Nat)):Prop where
 row:w.ownsRow 0 167 5 v xs.length (iZ xs)
 map:∀x∈xs,j4 w 165 x.2 (ij x.1)
 nd:(xs.map (·.2)).Nodup
def Ds(v:Value)(xs:List (Br×Nat))(k:Nat):Prop:=v.ownBlock=some k\/k∈xs.map (·.2)
theorem BR.lt{v:Value}{xs:List (Br×Nat)}(h:BR w v xs){k:Nat}(hk:Ds v xs k):k<w.heap.size:=by
 rcases hk with e|e
 ·exact eU h.row e
 ·obtain⟨x,hx,rfl⟩:=List.mem_map.1 e;exact(h.map x hx).lt
theorem BR.of{v:Value}{xs:List (Br×Nat)}(h:BR w v xs)(hb:∀k,Ds v xs k->w'.heap[k]?=w.heap[k]?):BR w' v xs:=
 ⟨eI h.row fun k e=>hb k (Or.inl e),fun x hx=>(h.map x hx).of (hb _ (Or.inr (cS hx))),h.nd⟩
theorem BR.at{v:Value}{xs:List (Br×Nat)}{i:Nat}{x:Br×Nat}(h:BR w v xs)(hi:xs[i]?=some x):∃g cap,v=Z9 g xs.length cap/\g<w.heap.size/\xs.length<=cap/\w.cell? ⟨g,i*5,none⟩=some (.bool x.1.sg.1)/\w.cell? ⟨g,i*5+1,none⟩=some (.string (bs x.1.sg.2))/\w.cell? ⟨g,i*5+2,none⟩=some (.map (some x.2))/\w.cell? ⟨g,i*5+3,none⟩=some (.bool x.1.nd)/\w.cell? ⟨g,i*5+4,none⟩=some (.bool x.1.wh):=by
 have Fv:=(List.getElem?_eq_some_iff.1 hi).1;have hr:=h.row;rcases hr.2 with⟨_,hz⟩|⟨g,cap,cur,rfl,hb,hg,wJ,_,_,_⟩
 ·omega
 ·have f:=fun c (hc:c<5) u hu=>(hr.cellAt (i*5+c) (by omega)).trans (zf xs i x c u hi hu);exact⟨g,cap,rfl,eO hg,wJ,f 0 (by omega) _ rfl,f 1 (by omega) _ rfl,f 2 (by omega) _ rfl,f 3 (by omega) _ rfl,f 4 (by omega) _ rfl⟩
structure MX(X:Nat)(u1 u2:Value)(F:Nat->Prop)(b:gZ)(w:World):Prop where
 ex:∃v xs,w.heap[X]?=some (.cells #[v,u1,u2] 120 (0,0))/\BR w v xs/\xs.map (·.1)=b/\(∀k,F k↔k=X\/Ds v xs k)
 short:xz b
 few:∀x∈b,x.kids.length<=b.length
end
end Go.Proofs.YtjecakcpcnmieaaGreatDoor
namespace Go.Proofs.YtjecakcpcnmieaaGreatDoor
open Go Tryz
def MY(b:gZ):Prop:=∀x∈b,(x.kids.map (·.2)).Pairwise (· < ·)/\∀y∈x.kids,y.2<b.length
theorem VA:MY jP:=by
 intro x hx;have Vq:x=⟨(false,[]),[],false,false⟩:=by simpa [jP]using hx
 subst Vq;exact⟨by simp,fun y hy=>by simp at hy⟩
theorem zg{b:gZ}{i:Nat}{f:Br->Br}{y:Br}(h:y∈b.modify i f):∃z∈b,y=z\/y=f z:=by
 obtain⟨j,hj⟩:=List.mem_iff_getElem?.1 h;rw[bD]at hj;cases hb:b[j]? with
 |none=>rw[hb]at hj;simp at hj
 |some z=>
  rw[hb]at hj;refine⟨z,aZ hb,?_⟩;by_cases e:i=j
  ·simp[e]at hj;exact Or.inr hj.symm
  ·simp[e]at hj;exact Or.inl hj.symm
theorem VC{b:gZ}{i:Nat}{m:Mk}(h:MY b):MY (oP b i m).1:=by
 unfold oP;split
 ·exact h
 ·intro y hy;rw[ae,bK,bn];rcases List.mem_append.1 hy with hy|hy
  ·obtain⟨z,hz,rfl|rfl⟩:=zg hy
   ·exact⟨(h _ hz).1,fun q hq=>by have:=(h _ hz).2 q hq;omega⟩
   ·obtain⟨h1,h2⟩:=h z hz;refine⟨?_,fun q hq=>?_⟩
    ·rw[bp,List.pairwise_append];refine⟨h1,by simp,fun a ha c hc=>?_⟩;simp only[bB,bZ,bc]at hc;subst hc;obtain⟨q,hq,rfl⟩:=List.mem_map.1 ha;exact h2 q hq
    ·rcases List.mem_append.1 hq with hq|hq
     ·have:=h2 q hq;omega
     ·rw[bc]at hq;subst hq;simp
  ·rw[bc]at hy;subst hy;exact⟨by simp,fun q hq=>by simp at hq⟩
theorem wM:∀(l:List Mk) {b:gZ} {i:Nat},MY b->MY (iA b i l).1
 |[],b,i,h=>h
 |m::l,b,i,h=>wM l (VC h)
theorem QU{b:gZ}{p:Np}(h:MY b):MY (rb b p):=by
 unfold rb;split
 ·exact h
 ·intro y hy;rw[bK];obtain⟨z,hz,rfl|rfl⟩:=zg hy
  ·exact wM p.1 h _ hz
  ·exact wM p.1 h z hz
theorem zh:∀(l:List Np) {b:gZ},MY b->MY (fR b l)
 |[],b,h=>h
 |p::l,b,h=>zh l (QU h)
theorem Jj{b:gZ}{x:Br}{l:List Nat}(h0:b[0]?=some x)(hu:MY b)(hp:l.Pairwise (· <= ·))(hm:l.Perm (x.kids.map (·.2))):l=(iN b).due:=by
 have hx:=hu x (aZ h0);have l9:l.Nodup:=hm.nodup_iff.2 (hx.1.imp (fun h=>Nat.ne_of_lt h));have hlt:l.Pairwise (· < ·):=by
  have:=hp.and l9;exact this.imp (fun h=>by have:=h.1;have:=h.2;omega)
 refine Qt hlt fun k=>?_;have hk:ot b 0=x.kids.map (·.2):=by unfold ot;rw[h0]
 rw[hk,hm.mem_iff];constructor
 ·intro h;obtain⟨y,hy,rfl⟩:=List.mem_map.1 h;exact⟨hx.2 y hy,h⟩
 ·exact fun h=>h.2
end Go.Proofs.YtjecakcpcnmieaaGreatDoor
namespace Go.Proofs.YtjecakcpcnmieaaGreatDoor
open Go.RowKit Go.Maps Go.Lib Tryz
section
variable{w w' w0 w1 w2 w3 W:World}{X:Nat}{u1 u2 v:Value}{F:Nat->Prop}{b:gZ}{xs:List (Br×Nat)}{i:Nat}{m:Mk}{x:Br×Nat}
def yb(m:Mk)(n:Nat)(x:Br×Nat):Br×Nat:=({x.1 with kids:=x.1.kids++[(m,n)]},x.2)
theorem QW(xs:List (Br×Nat))(i:Nat)(m:Mk)(n:Nat):(xs.modify i (yb m n)).map (·.1)=(xs.map (·.1)).modify i fun x=>{x with kids:=x.kids++[(m,n)]}:=by
 refine dt fun j=>?_;rw[aX,bD,bD,aX];cases xs[j]? with
 |none=>rfl
 |some y=>
  simp only[cB,cq];split<;>rfl
theorem Fx(xs:List (Br×Nat))(i:Nat)(m:Mk)(n:Nat):(xs.modify i (yb m n)).map (·.2)=xs.map (·.2):=by
 refine dt fun j=>?_;rw[aX,bD,aX];cases xs[j]? with
 |none=>rfl
 |some y=>
  simp only[cB,cq];split<;>rfl
theorem Jk(xs:List (Br×Nat))(i:Nat)(m:Mk)(n:Nat):iZ (xs.modify i (yb m n))=iZ xs:=by
 have e:(xs.modify i (yb m n)).map ze=xs.map ze:=by
  refine dt fun j=>?_;rw[aX,bD,aX];cases xs[j]? with
  |none=>rfl
  |some y=>
   simp only[cB,cq];split<;>rfl
 unfold iZ;rw[List.flatMap_def,List.flatMap_def,e]
theorem QX{y:Br×Nat}{n:Nat}(h:y∈xs.modify i (yb m n))(hx:xs[i]?=some x):y=yb m n x\/∃j,j≠i/\xs[j]?=some y:=by
 obtain⟨j,hj⟩:=List.mem_iff_getElem?.1 h;rw[bD]at hj;by_cases e:i=j
 ·subst e;rw[hx]at hj;simp at hj;exact Or.inl hj.symm
 ·right;refine⟨j,fun h=>e h.symm,?_⟩;cases Zf:xs[j]? with
  |none=>rw[Zf]at hj;simp at hj
  |some z=>rw[Zf]at hj;simp[e]at hj;rw[hj]
theorem QY{j:Nat}{y:Br×Nat}(h:(xs.map (·.2)).Nodup)(hi:xs[i]?=some x)(hj:xs[j]?=some y)(hne:j≠i):y.2≠x.2:=by
 intro e;have h1:(xs.map (·.2))[i]?=some x.2:=by rw[aX,hi];rfl
 have h2:(xs.map (·.2))[j]?=some y.2:=by rw[aX,hj];rfl
 have Fv:=(List.getElem?_eq_some_iff.1 h1).1;rw[<-e,<-h2]at h1;exact hne ((List.getElem?_inj Fv h).1 h1).symm
theorem BR.put{n:Nat}{v':Value}(h:BR w0 v xs)(hx:xs[i]?=some x)(hn:n=xs.length)(hm:j4 w1 165 x.2 (ij x.1++[(qR m,n)]))(Dt:w0.grownBy w1 (some x.2))
  (hr:w3.ownsRow 0 167 5 v' (n+1) (iZ xs++ze ((⟨m,[],false,false⟩:Br),w1.heap.size))) (hg3:((w1.drew.alloc (.map #[] 0)).alloc (.cells (ze ((⟨m,[],false,false⟩:Br),w1.heap.size)).toArray 167)).grownBy w3 v.ownBlock):
  BR w3 v' (xs.modify i (yb m n)++[((⟨m,[],false,false⟩:Br),w1.heap.size)]):=by
 have Jl:x∈xs:=aZ hx;obtain⟨es,clk,tV⟩:=(h.map x Jl).isMap;have hvx:=p_ h.row tV;have up:∀k,k<w0.heap.size->k≠x.2->v.ownBlock≠some k->w3.heap[k]?=w0.heap[k]?:=fun k hk h1 h2=>by
  have lI:=ak hk Dt.size;rw[hg3.block k (by simp;omega) (fun e=>h2 e.symm),ap _ _ _ (by simp;omega),ap _ _ _ (by exact lI)];exact Dt.block k hk (fun e=>h1 (by cases e;rfl))
 refine⟨?_,fun y hy=>?_,?_⟩
 ·rw[ae,bK,bn,<-hn];have e:iZ (xs.modify i (yb m n)++[((⟨m,[],false,false⟩:Br),w1.heap.size)])=iZ xs++ze ((⟨m,[],false,false⟩:Br),w1.heap.size):=by
   rw[<-Jk xs i m n];unfold iZ;rw[bY,bV,cx,aO]
  rw[e];exact hr
 ·rcases List.mem_append.1 hy with hy|hy
  ·rcases QX hy hx with rfl|⟨j,hj,hyj⟩
   ·have e:ij (yb m n x).1=ij x.1++[(qR m,n)]:=by unfold ij yb;rw[bp];rfl
    rw[e];have hl:=hm.lt;refine hm.of ?_;show w3.heap[x.2]?=w1.heap[x.2]?;rw[hg3.block x.2 (by simp;omega) (fun e=>hvx e.symm),ap _ _ _ (by simp;omega),ap _ _ _ (by exact hl)];rfl
   ·have hym:y∈xs:=aZ hyj;have IA:=h.map y hym;obtain⟨es2,adq,hby⟩:=IA.isMap;exact IA.of (up _ IA.lt (QY h.nd hx hyj hj) (p_ h.row hby))
  ·rw[bc]at hy;subst hy;have A8:=j4.new w1.drew 165;refine A8.of ?_;have hv1:v.ownBlock≠some w1.heap.size:=fun e=>by
    have:=eU h.row e;have:=Dt.size;omega
   show w3.heap[w1.heap.size]?=(w1.drew.alloc (.map #[] 0)).heap[w1.drew.heap.size]?;rw[hg3.block w1.heap.size (by simp;omega) (fun e=>hv1 e.symm),ap _ _ _ (by simp)];rfl
 ·rw[bp,Fx,List.nodup_append];refine⟨h.nd,by simp,fun a ha c hc=>?_⟩;simp only[bB,bZ,bc]at hc;subst hc;have:=h.lt (k:=a) (Or.inr ha);have:=Dt.size;omega
theorem wN{k:Nat}(hb:b[i]?.bind (·.kid m)=some k):oP b i m=(b,k):=by unfold oP;rw[hb]
theorem pI(hb:b[i]?.bind (·.kid m)=none):oP b i m=(b.modify i (fun x=>{x with kids:=x.kids++[(m,b.length)]})++[⟨m,[],false,false⟩],b.length):=by unfold oP;rw[hb]
theorem Jm(h:xz b)(hm:m.2.length<=1000000):xz (oP b i m).1:=by
 intro y hy z hz;cases hb:b[i]?.bind (·.kid m)with
 |some k=>rw[wN hb]at hy;exact h y hy z hz
 |none=>
  rw[pI hb]at hy;rcases List.mem_append.1 hy with hy|hy
  ·obtain⟨j,hj⟩:=List.mem_iff_getElem?.1 hy;rw[bD]at hj;cases Zg:b[j]? with
   |none=>rw[Zg]at hj;simp at hj
   |some q=>
    rw[Zg]at hj;have hq:=h q (aZ Zg);by_cases e:i=j
    ·simp[e]at hj;subst hj;rcases List.mem_append.1 hz with hz|hz
     ·exact hq z hz
     ·rw[bc]at hz;subst hz;exact hm
    ·simp[e]at hj;subst hj;exact hq z hz
  ·rw[bc]at hy;subst hy;simp at hz
theorem QZ(h:∀x∈b,x.kids.length<=b.length):∀x∈(oP b i m).1,x.kids.length<=(oP b i m).1.length:=by
 intro y hy;cases hb:b[i]?.bind (·.kid m)with
 |some k=>rw[wN hb]at hy ⊢;exact h y hy
 |none=>
  rw[pI hb]at hy ⊢;simp only[ae,bK,bn];rcases List.mem_append.1 hy with hy|hy
  ·obtain⟨j,hj⟩:=List.mem_iff_getElem?.1 hy;rw[bD]at hj;cases Zg:b[j]? with
   |none=>rw[Zg]at hj;simp at hj
   |some q=>
    rw[Zg]at hj;have hq:=h q (aZ Zg);by_cases e:i=j
    ·simp[e]at hj;subst hj;simp only[ae,bn];omega
    ·simp[e]at hj;subst hj;omega
  ·rw[bc]at hy;subst hy;simp
end
section
variable{w w' w0 w1 w2 w3 W:World}{X:Nat}{u1 u2 v:Value}{F:Nat->Prop}{b:gZ}{xs:List (Br×Nat)}{i:Nat}{m:Mk}{x:Br×Nat}
theorem Zh:(prog.info? 167).map (fun i=>(i.zero,i.size,i.bytes))=some (some (.agg #[.bool false,.string ⟨#[]⟩,.map none,.bool false,.bool false]),5,40):=by kernel_rfl
def Q0(X:Nat)(u1 u2:Value)(F:Nat->Prop)(b':gZ)(w w':World):Prop:=∃F',MX X u1 u2 F' b' w'/\Fr F w w'/\∀k,F' k->F k\/w.heap.size<=k
theorem VD(w:World)(x:Br×Nat):∀j u,(ze x)[j]?=some u->(w.alloc (.cells (ze x).toArray 167)).cell? ((⟨w.heap.size,0,none⟩:Addr).add j)=some u:=by
 intro j u hj;have h:=eL w (.cells (ze x).toArray 167);have hl:j<5:=by have:=(List.getElem?_eq_some_iff.1 hj).1;simpa [ze]using this
 have:=cell_of (i:=j) h (by simpa using hj);unfold Addr.add;split
 ·next h0=>rw[h0]at this;exact this
 ·simpa using this
theorem Zi(h:MX X u1 u2 F b w)(hi:i<b.length)(hm:m.2.length<=1000)(hl:b.length<=2300000000000):
  Z4 79 #[Z8 X,.int .i64 i,.agg #[.bool m.1,.string (bs m.2)]] w fun e w'=>e=.returned (.int .i64 ((oP b i m).2:Nat))/\Q0 X u1 u2 F (oP b i m).1 w w':=by
 obtain⟨v,xs,p1,p2,p3,p4⟩:=h.ex;have Fu:xs.length=b.length:=by rw[<-p3];simp
 have hx:xs[i]?=some xs[i]:=aw (by omega);generalize xs[i]=x at hx;have tV:b[i]?=some x.1:=by rw[<-p3,aX,hx];rfl
 have Jl:x∈xs:=aZ hx;obtain⟨g,cap,rfl,hg,wJ,g0,g1,g2,g3,g4⟩:=p2.at hx;have hB:=eL w (.cells #[.bool m.1,.string (bs m.2)] 165);have hb0:=(Below.refl w.heap.size w).alloc (ah _) (.cells #[.bool m.1,.string (bs m.2)] 165);have hkey:=QT m (by omega);have Q5:=Vz (x:=x.1) (m:=m) (by omega) (h.short x.1 (aZ tV));have c0:(w.alloc (.cells #[.bool m.1,.string (bs m.2)] 165)).cell? ⟨X,0,none⟩=some (Z9 g xs.length cap):=cell_of ((hb0.block _ (eO p1)).trans p1) rfl;have c1:(w.alloc (.cells #[.bool m.1,.string (bs m.2)] 165)).cell? ⟨g,i*5+2,none⟩=some (.map (some x.2)):=(aj (hb0.block g hg)).trans g2;have d0:(w.alloc (.cells #[.bool m.1,.string (bs m.2)] 165)).cell? ⟨w.heap.size,0,none⟩=some (.bool m.1):=cell_of hB rfl;have d1:(w.alloc (.cells #[.bool m.1,.string (bs m.2)] 165)).cell? ⟨w.heap.size,1,none⟩=some (.string (bs m.2)):=cell_of hB rfl;have HM:=a_ ((p2.map x Jl).of (hb0.block _ (p2.map x Jl).lt));have LK:(i:Int)<(xs.length:Int):=by omega
 cases hk:x.1.kid m with
 |some k=>
  rw[wN (by rw[tV];exact hk)];have hcc:(qZ (ij x.1) (qR m)).getD 0=k:=by rw[Q5,hk];rfl
  have jO:(qZ (ij x.1) (qR m)).isSome=true:=by rw[Q5,hk];rfl
  have HE:Hid (Q0 X u1 u2 F b w (w.alloc (.cells #[.bool m.1,.string (bs m.2)] 165))):=a_ ⟨F,⟨⟨_,xs,(hb0.block _ (eO p1)).trans p1,p2.of fun k hk=>hb0.block k (p2.lt hk),p3,p4⟩,h.short,h.few⟩,Fr.below hb0,fun k hk=>Or.inl hk⟩;clear h p1 p2 p4 hg g0 g1 g2 g3 g4 hB hb0 tV Jl Q5 hk hx wJ;generalize bs m.2=T at*
  generalize m.1=d at*
  generalize xs.length=n at*
  go_enter func79,ntmps79;go_wp2_with(at_lookup;refine nL rfl _ _ 163 rfl Dq underlying163 rfl HM.out _ _ rfl hkey _ _ hcc jO ?_);go_ret;exact⟨rfl,HE.out⟩
 |none=>
  rw[pI (by rw[tV];exact hk)];have hnone:qZ (ij x.1) (qR m)=none:=by rw[Q5,hk]
  have hcc:(qZ (ij x.1) (qR m)).getD 0=0:=by rw[hnone];rfl
  have jO:(qZ (ij x.1) (qR m)).isSome=false:=by rw[hnone];rfl
  obtain⟨i0,x_,hz0,hz1,hz2⟩:=bk Zh;obtain⟨es,clk,QM⟩:=(p2.map x Jl).isMap;have Dh:X≠x.2:=fun e=>by rw[e,QM]at p1;cases p1
  have XW:=(p2.map x Jl).lt;have MZ:=gP p2.row p1 (by decide);have hv2:=p_ p2.row QM;have hXl:=eO p1;have p2':BR (w.alloc (.cells #[.bool m.1,.string (bs m.2)] 165)) (Z9 g xs.length cap) xs:=p2.of fun k hk=>hb0.block k (p2.lt hk);have Zj:=(hb0.block _ hXl).trans p1;have qU:(ij x.1).length<4611686018427387904:=by
   have:=h.few x.1 (aZ tV);unfold ij;rw[cC];omega
  have HU:Hid (∀w1,(w.alloc (.cells #[.bool m.1,.string (bs m.2)] 165)).grownBy w1 (some x.2)->(w1.cell? ⟨X,0,none⟩=some (Z9 g xs.length cap)/\w1.cell? ⟨w.heap.size,0,none⟩=some (.bool m.1)/\w1.cell? ⟨w.heap.size,1,none⟩=some (.string (bs m.2)))/\
    Hid (((w1.drew.alloc (.map #[] 0)).alloc (.cells #[.bool m.1,.string (bs m.2),.map (some w1.heap.size),.bool false,.bool false] 167)).ownsRow 0 167 5 (Z9 g xs.length cap) xs.length (iZ xs)/\∀j u,[Value.bool m.1,.string (bs m.2),.map (some w1.heap.size),.bool false,.bool false][j]?=some u->((w1.drew.alloc (.map #[] 0)).alloc (.cells #[.bool m.1,.string (bs m.2),.map (some w1.heap.size),.bool false,.bool false] 167)).cell? ((⟨w1.heap.size+1,0,none⟩:Addr).add j)=some u)):=fun w1 Dt=>by
   have q1:=(Dt.block _ (eO Zj) (fun e=>Dh (bF e))).trans Zj;have q2:=(Dt.block _ (eO hB) (fun e=>by have:=bF e;omega)).trans hB;have Q6:=VD (w1.drew.alloc (.map #[] 0)) ((⟨m,[],false,false⟩:Br),w1.heap.size);rw[bI]at Q6;refine⟨⟨cell_of q1 rfl,cell_of q2 rfl,cell_of q2 rfl⟩,a_ ⟨eI p2'.row fun k e=>?_,Q6⟩⟩;have hk:=eU p2'.row e;have lI:=ak hk Dt.size;rw[ap _ _ _ (by simp;omega),ap _ _ _ (by exact lI)];exact Dt.block k hk (fun e'=>hv2 (by rw[e,e']))
  have HV:Hid (∀w1 w3 v',j4 w1 165 x.2 (ij x.1++[(qR m,xs.length)])->(w.alloc (.cells #[.bool m.1,.string (bs m.2)] 165)).grownBy w1 (some x.2)->w3.ownsRow 0 167 5 v' (xs.length+1) (iZ xs++[.bool m.1,.string (bs m.2),.map (some w1.heap.size),.bool false,.bool false])->
    ((w1.drew.alloc (.map #[] 0)).alloc (.cells #[.bool m.1,.string (bs m.2),.map (some w1.heap.size),.bool false,.bool false] 167)).grownBy w3 (Z9 g xs.length cap).ownBlock->(v'.ownBlock=(Z9 g xs.length cap).ownBlock\/v'.ownBlock=some ((w1.drew.alloc (.map #[] 0)).alloc (.cells #[.bool m.1,.string (bs m.2),.map (some w1.heap.size),.bool false,.bool false] 167)).heap.size)->
    w3.cell? ⟨X,0,none⟩=some (Z9 g xs.length cap)/\w3.frozen? ⟨X,0,none⟩=false/\Hid (Q0 X u1 u2 F (b.modify i (fun x=>{x with kids:=x.kids++[(m,b.length)]})++[⟨m,[],false,false⟩]) w (w3.setCell ⟨X,0,none⟩ v'))):=fun w1 w3 v' U0 Dt ho3 hg3 hat=>by
   have q1:=(Dt.block _ (eO Zj) (fun e=>Dh (bF e))).trans Zj;have ach:=eO q1;have r1:w3.heap[X]?=some (.cells #[Z9 g xs.length cap,u1,u2] 120 (0,0)):=by
    rw[hg3.block X (by simp;omega) (fun e=>MZ e.symm),ap _ _ _ (by simp;omega),ap _ _ _ (by exact ach)];exact q1
   have hbr:=BR.put (m:=m) p2' hx rfl U0 Dt ho3 hg3;have hvx:v'.ownBlock≠some X:=gP ho3 r1 (by decide);have s1:=eV (i:=0) r1 v';have hXn:X∉xs.map (·.2):=fun Fy=>by
    obtain⟨y,hy,e⟩:=List.mem_map.1 Fy;obtain⟨es',aa6,hby⟩:=(p2.map y hy).isMap;rw[e,p1]at hby;cases hby
   have Fy:∀k,k∈(xs.modify i (yb m xs.length)++[((⟨m,[],false,false⟩:Br),w1.heap.size)]).map (·.2)↔(k∈xs.map (·.2)\/k=w1.heap.size):=fun k=>by rw[bp,Fx];simp
   have hs1:=Dt.size;have hs0:=hb0.size;have hbs:(w.alloc (.cells #[.bool m.1,.string (bs m.2)] 165)).heap.size=w.heap.size+1:=by simp
   refine⟨cell_of r1 rfl,eP r1,a_ ⟨fun k=>k=X\/Ds v' (xs.modify i (yb m xs.length)++[((⟨m,[],false,false⟩:Br),w1.heap.size)]) k,⟨⟨v',_,s1,hbr.of fun k hk=>af _ _ _ _ (fun e=>?_),?_,fun k=>Iff.rfl⟩,?_,?_⟩,?_,?_⟩⟩
   ·have e':k=X:=e;rcases hk with h1|h1
    ·exact hvx (by rw[h1,e'])
    ·rcases(Fy k).1 h1 with h2|h2
     ·exact hXn (e'▸h2)
     ·rw[h2]at e';omega
   ·rw[bp,QW,p3,Fu];rfl
   ·have:=Jm (b:=b) (i:=i) (m:=m) h.short (by omega);rw[pI (by rw[tV];exact hk)]at this;exact this
   ·have:=QZ (b:=b) (i:=i) (m:=m) h.few;rw[pI (by rw[tV];exact hk)]at this;exact this
   ·have f1:Fr F w w1:=(Fr.below hb0).gr Dt fun k e _=>by cases e;exact(p4 _).2 (Or.inr (Or.inr (cS Jl)))
    have f2:Fr F w w3:=((f1.drewN 1).alloc _|>.alloc _).gr hg3 fun k e _=>(p4 k).2 (Or.inr (Or.inl e));exact f2.set _ _ fun _=>(p4 X).2 (Or.inl rfl)
   ·rintro k (rfl|e|e)
    ·exact Or.inl ((p4 _).2 (Or.inl rfl))
    ·rcases hat with h1|h1
     ·exact Or.inl ((p4 _).2 (Or.inr (Or.inl (h1▸e))))
     ·rw[h1]at e;have:k=w1.heap.size+1+1:=by simpa using e.symm
      exact Or.inr (by omega)
    ·rcases(Fy k).1 e with h2|h2
     ·exact Or.inl ((p4 _).2 (Or.inr (Or.inr h2)))
     ·exact Or.inr (by omega)
  have hbl:b.length=xs.length:=Fu.symm;rw[hbl]at HV hl ⊢;clear h p1 p2 p4 hg g0 g1 g2 g3 g4 hb0 tV Jl Q5 hk hx wJ Zj p2' QM Dh XW MZ hv2 Fu hbl hB;generalize (b.modify i (fun x=>{x with kids:=x.kids++[(m,xs.length)]})++[⟨m,[],false,false⟩])=B2 at*
  generalize iZ xs=BC at*
  generalize bs m.2=T at*
  generalize m.1=d at*
  generalize xs.length=n at*
  have ES:=Jh;go_enter func79,ntmps79;go_wp2_with(first
   |(at_lookup;refine nL rfl _ _ 163 rfl Dq underlying163 rfl HM.out _ _ rfl hkey _ _ hcc jO ?_)
   |(at_mapUpdate;refine xy rfl _ _ _ 163 rfl Dq underlying163 rfl HM.out _ _ n rfl rfl hkey hnone qU (by omega) ?_;intro w6 Zk IB;have HM6:=a_ Zk;have HG6:=a_ IB;obtain⟨⟨k0,k1,k2⟩,HO6⟩:=HU.out _ IB;clear HM HU Zk IB c0 c1 d0 d1))
  have Yb:∀o,(w6.alloc o).cell? ⟨X,0,none⟩=some (Z9 g n cap):=fun o=>eF o k0;have x1a:∀o,(w6.alloc o).cell? ⟨w.heap.size,0,none⟩=some (.bool d):=fun o=>eF o k1;have x2a:∀o,(w6.alloc o).cell? ⟨w.heap.size,1,none⟩=some (.string T):=fun o=>eF o k2;have x0b:∀o o',((w6.alloc o).alloc o').cell? ⟨X,0,none⟩=some (Z9 g n cap):=fun o o'=>eF o' (Yb o);have x1b:∀o o',((w6.alloc o).alloc o').cell? ⟨w.heap.size,0,none⟩=some (.bool d):=fun o o'=>eF o' (x1a o);have x2b:∀o o',((w6.alloc o).alloc o').cell? ⟨w.heap.size,1,none⟩=some (.string T):=fun o o'=>eF o' (x2a o);go_region_law
   (first|(
    refine fJ rfl (.tmp 35) (.tmp 39) 115 rfl 167 i0 _ 5 40 underlying115 x_ hz0 hz1 hz2 rfl (by decide) (Z9 g n cap) n BC (by simp[Act.eval,Act.put]) HO6.out.1 ⟨w6.heap.size+1,0,none⟩ 1 1 [.bool d,.string T,.map (some w6.heap.size),.bool false,.bool false] (by simp[Act.eval,Act.put]) rfl HO6.out.2 (by simp[Value.oneCell']) (by unfold maxLen;omega) (by omega) ?_;intro v7 w7 ho hg hat;obtain⟨a7,n7,c7,rfl⟩:=ft ho;obtain⟨x7,f7,H7⟩:=HV.out _ _ _ HM6.out HG6.out ho hg hat;clear ho hg hat))
  all_goals
   go_wp2;go_ret;exact⟨rfl,H7.out⟩
end
end Go.Proofs.YtjecakcpcnmieaaGreatDoor
namespace Go.Proofs.YtjecakcpcnmieaaGreatDoor
open Go Tryz
def yc(b:gZ):Nat:=(b.map fun x=>x.kids.length).sum
def KS(b:gZ):Prop:=yc b+1=b.length
theorem zi{f:Br->Br}{c:Nat}(hf:∀x,(f x).kids.length=x.kids.length+c):∀(b:gZ) (i:Nat),i<b.length->yc (b.modify i f)=yc b+c
 |[],i,h=>by simp at h
 |x::b,0,h=>by
  simp only[yc,List.modify_zero_cons,bB,List.sum_cons,hf];omega
 |x::b,i+1,h=>by
  have ih:=zi hf b i (by simpa using h);simp only[yc,List.modify_succ_cons,bB,List.sum_cons]at ih ⊢;omega
theorem VE{b:gZ}{i:Nat}{m:Mk}(hi:i<b.length)(h:KS b):KS (oP b i m).1:=by
 unfold oP;split
 ·exact h
 ·unfold KS at*
  have e:yc (b.modify i (fun x=>{x with kids:=x.kids++[(m,b.length)]})++[⟨m,[],false,false⟩])=yc (b.modify i (fun x=>{x with kids:=x.kids++[(m,b.length)]})):=by unfold yc;rw[bp,dD];simp
  rw[e,zi (c:=1) (fun x=>by simp) b i hi,ae,bK,bn];omega
theorem BH:∀(l:List Mk) {b:gZ} {i:Nat},i<b.length->A3 b->KS b->KS (iA b i l).1
 |[],b,i,_,_,h=>h
 |m::l,b,i,hi,hw,h=>by
  obtain⟨h1,h2,_,_⟩:=LH m hi hw;exact BH l h2 h1 (VE hi h)
theorem Q7{b:gZ}{p:Np}(hw:A3 b)(h:KS b):KS (rb b p):=by
 unfold rb;split
 ·exact h
 ·have h1:=BH p.1 hw.1 hw h;obtain⟨_,h2,_,_⟩:=pE p.1 hw.1 hw;unfold KS at*
  rw[zi (f:=fun x=>{x with nd:=true,wh:=x.wh||p.2}) (c:=0) (fun x=>rfl) _ _ h2,bK];omega
theorem zj:∀(l:List Np) {b:gZ},A3 b->KS b->KS (fR b l)
 |[],b,_,h=>h
 |p::l,b,hw,h=>zj l (Fl p hw).1 (Q7 hw h)
theorem VF:KS jP:=rfl
def A9(b:gZ)(m:Nat):Nat:=yc (b.take m)
theorem BJ{b:gZ}{m:Nat}{x:Br}(h:b[m]?=some x):A9 b (m+1)=A9 b m+x.kids.length:=by
 obtain⟨hl,e⟩:=List.getElem?_eq_some_iff.1 h;unfold A9 yc;rw[aN hl,bp,dD,e];simp
theorem BK{b:gZ}{m n:Nat}(h:m<=n):A9 b m<=A9 b n:=by
 unfold A9 yc;have e:b.take n=b.take m++(b.drop m).take (n-m):=by
  rw[<-dv m (b.take n),eh,List.drop_take];congr 2;omega
 rw[e,bp,dD];omega
theorem Du{b:gZ}(h:KS b)(m:Nat):A9 b m<=b.length:=by
 have h1:=BK (b:=b) (m:=m) (n:=max m b.length) (by omega);have h2:A9 b (max m b.length)=yc b:=by unfold A9;rw[bM (by omega)]
 unfold KS at h;omega
end Go.Proofs.YtjecakcpcnmieaaGreatDoor
namespace Go.Proofs.YtjecakcpcnmieaaGreatDoor
open Go.RowKit Go.Maps Go.Lib Tryz
section
variable{w w' w0 w1 w2 w3 W wr:World}{X:Nat}{u1 u2 v:Value}{F:Nat->Prop}{b:gZ}{xs:List (Br×Nat)}{i j:Nat}{m:Mk}{x:Br×Nat}
theorem zk:∀(l:List Mk) (b:gZ) (i:Nat) (m:Mk),iA b i (l++[m])=oP (iA b i l).1 (iA b i l).2 m
 |[],b,i,m=>by simp[iA]
 |n::l,b,i,m=>by simp only[aI,iA];exact zk l _ _ m
theorem Q8{ms:List Mk}(h:m∈ms):m.2.length<=(km ms).length:=by
 induction ms with
 |nil=>simp at h
 |cons y l ih=>
  have e:km (y::l)=p9 y++km l:=by unfold km;rw[bV]
  rw[e,ae];rcases List.mem_cons.1 h with rfl|h
  ·have h1:m.2.length<=(p9 m).length:=by
    unfold p9;rw[ae];split<;>split<;>simp_all<;>omega
   omega
  ·have:=ih h;omega
def Dv(wh:Bool)(x:Br×Nat):Br×Nat:=({x.1 with nd:=true,wh:=x.1.wh||wh},x.2)
theorem zl(xs:List (Br×Nat))(i:Nat)(wh:Bool):(xs.modify i (Dv wh)).map (·.1)=(xs.map (·.1)).modify i fun x=>{x with nd:=true,wh:=x.wh||wh}:=by
 refine dt fun j=>?_;rw[aX,bD,bD,aX];cases xs[j]? with
 |none=>rfl
 |some y=>
  simp only[cB,cq];split<;>rfl
theorem Fz(xs:List (Br×Nat))(i:Nat)(wh:Bool):(xs.modify i (Dv wh)).map (·.2)=xs.map (·.2):=by
 refine dt fun j=>?_;rw[aX,bD,aX];cases xs[j]? with
 |none=>rfl
 |some y=>
  simp only[cB,cq];split<;>rfl
theorem zm:∀(xs:List (Br×Nat)) (i:Nat) (x:Br×Nat) (wh:Bool),xs[i]?=some x->((iZ xs).set (i*5+3) (.bool true)).set (i*5+4) (.bool (x.1.wh||wh))=iZ (xs.modify i (Dv wh))
 |[],i,x,wh,h=>by simp at h
 |y::xs,0,x,wh,h=>by
  obtain rfl:y=x:=by simpa using h
  rfl
 |y::xs,i+1,x,wh,h=>by
  have ih:=zm xs i x wh (by simpa using h);have e:(y::xs).modify (i+1) (Dv wh)=y::xs.modify i (Dv wh):=by simp
  rw[e];show ((ze y++iZ xs).set ((i+1)*5+3) _).set ((i+1)*5+4) _=ze y++iZ (xs.modify i (Dv wh));rw[<-ih,cr _ _ (by simp[ze];omega),cr _ _ (by simp[ze];omega)];congr 2
  ·congr 1;simp[ze];omega
  ·simp[ze];omega
theorem MX.fin{g n cap:Nat}{wh:Bool}(p1:w.heap[X]?=some (.cells #[Z9 g n cap,u1,u2] 120 (0,0)))(p2:BR w (Z9 g n cap) xs)(p4:∀k,F k↔k=X\/Ds (Z9 g n cap) xs k)(hx:xs[i]?=some x)(hn:n=xs.length)(hs:xz (xs.map (·.1)))(hf:∀y∈xs.map (·.1),y.kids.length<=(xs.map (·.1)).length):
  MX X u1 u2 F ((xs.map (·.1)).modify i fun x=>{x with nd:=true,wh:=x.wh||wh}) ((w.setCell ⟨g,i*5+3,none⟩ (.bool true)).setCell ⟨g,i*5+4,none⟩ (.bool (x.1.wh||wh)))/\Fr F w ((w.setCell ⟨g,i*5+3,none⟩ (.bool true)).setCell ⟨g,i*5+4,none⟩ (.bool (x.1.wh||wh))):=by
 have hgX:X≠g:=fun e=>gP p2.row p1 (by decide) (by rw[e];rfl);have hFg:F g:=(p4 g).2 (Or.inr (Or.inl rfl));have other:∀k,k≠g->((w.setCell ⟨g,i*5+3,none⟩ (.bool true)).setCell ⟨g,i*5+4,none⟩ (.bool (x.1.wh||wh))).heap[k]?=w.heap[k]?:=fun k hk=>by rw[af _ _ _ _ hk,af _ _ _ _ hk]
 have r:=p2.row;rw[<-hn]at r;have r1:=(r.stored (i*5+3) (.bool true)).1;have r2:=(r1.stored (i*5+4) (.bool (x.1.wh||wh))).1;rw[zm xs i x wh hx]at r2;have hmap:∀y,y∈xs.modify i (Dv wh)->∃z∈xs,y.2=z.2/\y.1.kids=z.1.kids:=fun y hy=>by
  obtain⟨j,hj⟩:=List.mem_iff_getElem?.1 hy;rw[bD]at hj;cases Zf:xs[j]? with
  |none=>rw[Zf]at hj;simp at hj
  |some z=>
   rw[Zf]at hj;have hz:=aZ Zf;by_cases e:i=j
   ·simp[e]at hj;subst hj;exact⟨z,hz,rfl,rfl⟩
   ·simp[e]at hj;subst hj;exact⟨z,hz,rfl,rfl⟩
 have hbr:BR ((w.setCell ⟨g,i*5+3,none⟩ (.bool true)).setCell ⟨g,i*5+4,none⟩ (.bool (x.1.wh||wh))) (Z9 g n cap) (xs.modify i (Dv wh)):=by
  refine⟨by rw[bK,<-hn];exact r2,fun y hy=>?_,by rw[Fz];exact p2.nd⟩;obtain⟨z,hz,e1,e2⟩:=hmap y hy;have e3:ij y.1=ij z.1:=by unfold ij;rw[e2]
  rw[e1,e3];have hm:=p2.map z hz;obtain⟨es,clk,hbz⟩:=hm.isMap;refine hm.of (other _ fun e=>?_);exact p_ p2.row hbz (by rw[e];rfl)
 refine⟨⟨⟨_,xs.modify i (Dv wh),(other X hgX).trans p1,hbr,zl xs i wh,fun k=>?_⟩,?_,?_⟩,((Fr.refl F w).set _ _ fun _=>hFg).set _ _ fun _=>hFg⟩
 ·rw[p4 k];unfold Ds;rw[Fz]
 ·rw[<-zl];intro y hy z hz;obtain⟨y',hy',rfl⟩:=List.mem_map.1 hy;obtain⟨q,hq,-,e2⟩:=hmap y' hy';rw[e2]at hz;exact hs q.1 (cS hq) z hz
 ·rw[<-zl];intro y hy;obtain⟨y',hy',rfl⟩:=List.mem_map.1 hy;obtain⟨q,hq,-,e2⟩:=hmap y' hy';rw[e2];have:=hf q.1 (cS hq);simpa using this
end
section
variable{w w' w0 w1 w2 w3 W wr:World}{X:Nat}{u1 u2 v:Value}{F:Nat->Prop}{b:gZ}{xs:List (Br×Nat)}{i j:Nat}{m:Mk}{x:Br×Nat}{acc:List Np}
structure GI(X:Nat)(u1 u2:Value)(F:Nat->Prop)(acc:List Np)(w:World):Prop where
 br:MX X u1 u2 F (fR jP acc) w
 len:(fR jP acc).length<=1+1000*acc.length
 wf:A3 (fR jP acc)
theorem MX.below(h:MX X u1 u2 F b w)(hb:Z5 w w'):MX X u1 u2 F b w':=by
 obtain⟨v,xs,p1,p2,p3,p4⟩:=h.ex;exact⟨⟨v,xs,(hb.block _ (eO p1)).trans p1,p2.of fun k hk=>hb.block k (p2.lt hk),p3,p4⟩,h.short,h.few⟩
theorem MX.lt(h:MX X u1 u2 F b w){k:Nat}(hk:F k):k<w.heap.size:=by
 obtain⟨v,xs,p1,p2,p3,p4⟩:=h.ex;rcases(p4 k).1 hk with rfl|h
 ·exact eO p1
 ·exact p2.lt h
theorem GI.ok:xx (GI X u1 u2):=⟨fun F acc W W' h hb=>⟨h.br.below hb,h.len,h.wf⟩,fun F acc W k h hk=>h.br.lt hk⟩
def M3(X:Nat)(u1 u2:Value)(F:Nat->Prop)(W:World)(b:gZ)(ms:List Mk)(i:Nat)(wr:World):Prop:=∃F',MX X u1 u2 F' (iA b 0 (ms.take i)).1 wr/\Fr F W wr/\∀k,F' k->F k\/W.heap.size<=k
def EU(b:gZ)(ms:List Mk)(i:Nat):Nat:=(iA b 0 (ms.take i)).2
theorem Jn{ai:Option Addr}{n cap:Nat}{ms:List Mk}(Dn:A3 b)(hbl:b.length<=2200000000000)(hr:tB W (.slice ai n cap) ms)(hap:∀k,(Value.slice ai n cap).ownBlock=some k->¬F k)(hlen:(km ms).length<=1000)(hi:i<ms.length)(M:M3 X u1 u2 F W b ms i wr):
  ∃g d T pi pn pc,ai=some ⟨g,0,none⟩/\(wr.cell? ⟨g,i*3,none⟩=some (.bool d)/\wr.cell? ⟨g,i*3+1,none⟩=some (.string T)/\wr.cell? ⟨g,i*3+2,none⟩=some (.slice pi pn pc))/\((wr.alloc (.cells (aS d T (.slice pi pn pc)) 173)).cell? ⟨wr.heap.size,0,none⟩=some (.bool d)/\(wr.alloc (.cells (aS d T (.slice pi pn pc)) 173)).cell? ⟨wr.heap.size,1,none⟩=some (.string T))/\
   Hid (Z4 79 #[Z8 X,.int .i64 (EU b ms i:Nat),.agg #[.bool d,.string T]] (wr.alloc (.cells (aS d T (.slice pi pn pc)) 173)) fun e w'=>e=.returned (.int .i64 (EU b ms (i+1):Nat))/\Hid (M3 X u1 u2 F W b ms (i+1) w')):=by
 obtain⟨F',m1,m2,m3⟩:=M;have hx:ms[i]?=some ms[i]:=aw hi;have VG:=Q8 (bU hi);have sq:ms.take (i+1)=ms.take i++[ms[i]]:=aN hi;obtain⟨Fs,cap',e,hn,hrr⟩:=hr.fr m2 hap;cases e;obtain⟨g,pi,pn,pc,e,hg,a0,a1,a2⟩:=hrr i _ hx;generalize ms[i]=m at*
 have hB:=eL wr (.cells (aS m.1 (bs m.2) (.slice pi pn pc)) 173);have hb0:=(Below.refl wr.heap.size wr).alloc (ah _) (.cells (aS m.1 (bs m.2) (.slice pi pn pc)) 173);obtain⟨g1,g2,g3,g4⟩:=pE (ms.take i) Dn.1 Dn;have hmn:ms.length<=1000:=ar (wL ms) hlen;have htl:(ms.take i).length<=ms.length:=by simp;omega
 refine⟨g,m.1,bs m.2,pi,pn,pc,e,⟨a0,a1,a2⟩,⟨(I7 hB).1,(I7 hB).2.1⟩,a_ ?_⟩;unfold EU M3;rw[sq,zk];refine(Zi (m1.below hb0) g2 (by omega) (by omega)).mono ?_;rintro e w' ⟨h1,F2,k1,k2,k3⟩;refine⟨h1,a_ ⟨F2,k1,(m2.on hb0).trans k2 fun k hk hF=>?_,fun k hk=>?_⟩⟩
 ·rcases m3 k hF with h|h
  ·exact h
  ·omega
 ·rcases k3 k hk with h|h
  ·exact m3 k h
  ·have:=(m2.on hb0).size;exact Or.inr (by omega)
theorem grow_end{ms:List Mk}{wh:Bool}(hw:A3 b)(Q6:nowhere ms=false)(hacc:b=fR jP acc)(hl:b.length<=1+1000*acc.length)(hlen:(km ms).length<=1000)(M:M3 X u1 u2 F W b ms ms.length wr):
  ∃g n cap c,wr.cell? ⟨X,0,none⟩=some (Z9 g n cap)/\((EU b ms ms.length:Nat):Int)<(n:Int)/\wr.frozen? ⟨g,EU b ms ms.length*5+3,none⟩=false/\(∃c0,wr.cell? ⟨g,EU b ms ms.length*5+3,none⟩=some (.bool c0))/\(wr.setCell ⟨g,EU b ms ms.length*5+3,none⟩ (.bool true)).cell? ⟨g,EU b ms ms.length*5+4,none⟩=some (.bool c)/\(wr.setCell ⟨g,EU b ms ms.length*5+3,none⟩ (.bool true)).frozen? ⟨g,EU b ms ms.length*5+4,none⟩=false/\
   Hid (pd (GI X u1 u2) F (acc++[(ms,wh)]) W (.returned (.tuple #[])) ((wr.setCell ⟨g,EU b ms ms.length*5+3,none⟩ (.bool true)).setCell ⟨g,EU b ms ms.length*5+4,none⟩ (.bool (c||wh)))):=by
 obtain⟨F',m1,m2,m3⟩:=M;rw[bt]at m1;have hat:EU b ms ms.length=(iA b 0 ms).2:=by unfold EU;rw[bt]
 obtain⟨g1,g2,g3,g4⟩:=pE ms hw.1 hw;obtain⟨v,xs,p1,p2,p3,p4⟩:=m1.ex;rw[<-hat]at g2;generalize EU b ms ms.length=k at*
 have Fu:xs.length=(iA b 0 ms).1.length:=by rw[<-p3];simp
 have hx:xs[k]?=some xs[k]:=aw (by omega);generalize xs[k]=x at hx;obtain⟨g,cap,rfl,hg,wJ,c0,c1,c2,c3,c4⟩:=p2.at hx;have hs:=m1.short;have hf:=m1.few;rw[<-p3]at hs hf;obtain⟨q1,q2⟩:=MX.fin (wh:=wh) p1 p2 p4 hx rfl hs hf;have Yc:fR jP (acc++[(ms,wh)])=(iA b 0 ms).1.modify k fun x=>{x with nd:=true,wh:=x.wh||wh}:=by
  rw[oq,<-hacc];unfold fR rb;rw[cm,dK,if_neg (by rw[Q6];decide),hat]
 have hgb:∃cur,wr.heap[g]?=some (.cells cur 167 (0,0)):=by
  rcases p2.row.2 with⟨h,_⟩|⟨g',cap',cur,h,_,M4,_⟩
  ·cases h
  ·cases h;exact⟨cur,M4⟩
 obtain⟨cur,hgb⟩:=hgb;have hgs:=eV (i:=k*5+3) hgb (.bool true);have hbl:=wL ms;refine⟨g,xs.length,cap,x.1.wh,cell_of p1 rfl,by omega,eP hgb,⟨_,c3⟩,?_,eP hgs,a_ ⟨rfl,F',⟨?_,?_,?_⟩,m2.trans q2 fun k' U6 hF=>?_,m3⟩⟩
 ·rw[<-c4];exact cP _ _ _ _ (by intro e;injection e with _ e;omega)
 ·rw[Yc,<-p3];exact q1
 ·rw[Yc,bK,ae,bn];omega
 ·rw[oq,<-hacc];exact(y9 [(ms,wh)] hw).1
 ·rcases m3 k' hF with h|h
  ·exact h
  ·omega
end
section
variable{w w' w0 w1 w2 w3 W wr:World}{X:Nat}{u1 u2 v:Value}{F:Nat->Prop}{b:gZ}{xs:List (Br×Nat)}{i j:Nat}{m:Mk}{x:Br×Nat}{acc:List Np}
theorem M5{v:Value}{ms:List Mk}(wh:Bool)(pre:QL (GI X u1 u2) F acc W v ms):Z4 47 #[Z8 X,v,.bool wh] W (pd (GI X u1 u2) F (acc++[(ms,wh)]) W):=by
 have hlen:=pre.len;have HN:=a_ (I_ ms v W pre.row pre.ne);have hacc:=pre.acc;have hinv:=pre.inv;obtain⟨b,hb⟩:∃b,b=fR jP acc:=⟨_,rfl⟩
 have hw:=hinv.wf;have hl:=hinv.len;rw[<-hb]at hw hl;have hbl:b.length<=2200000000000:=by unfold y_ at hacc;omega
 cases Q6:nowhere ms with
 |true=>
  rw[Q6]at HN;have HE:Hid (∀w1,Z5 W w1->pd (GI X u1 u2) F (acc++[(ms,wh)]) W (.returned (.tuple #[])) w1):=fun w1 hb1=>by
   have e:fR jP (acc++[(ms,wh)])=fR jP acc:=by
    rw[oq];unfold fR rb;rw[cm,dK,if_pos Q6]
   refine⟨rfl,F,⟨by rw[e];exact hinv.br.below hb1,by rw[e,ae];have:=hinv.len;omega,by rw[e];exact hinv.wf⟩,Fr.below hb1,fun k hk=>Or.inl hk⟩
  obtain⟨ai,cap,rfl,-⟩:=pre.row;clear pre hinv hw hl hbl hb hlen hacc Q6;generalize ms.length=n at*
  go_enter func47,ntmps47;go_wp2_with(go_at_call 78;refine HN.out.mono ?_;rintro e w5 ⟨rfl,h5⟩;have H5:=a_ (HE.out _ h5);clear HN HE h5)
  go_end0
  exact H5.out
 |false=>
  rw[Q6]at HN;have hrow:=pre.row;have hap:=pre.apart;have M0:Hid (∀w1,Z5 W w1->M3 X u1 u2 F W b ms 0 w1):=fun w1 hb1=>⟨F,by rw[dJ];show MX X u1 u2 F b w1;rw[hb];exact hinv.br.below hb1,Fr.below hb1,fun k hk=>Or.inl hk⟩
  obtain⟨ai,cap,rfl,hn,-⟩:=pre.row;have HR:=a_ (fun i wr (hi:i<ms.length) M=>Jn (X:=X) (u1:=u1) (u2:=u2) (i:=i) (wr:=wr) hw (by omega) hrow hap hlen hi M);have pH:=a_ (fun wr M=>grow_end (X:=X) (u1:=u1) (u2:=u2) (wr:=wr) (F:=F) (W:=W) (wh:=wh) hw Q6 hb hl hlen M);obtain⟨RN,QO⟩:∃RN:Nat->World->Prop,∀i wr,RN i wr=M3 X u1 u2 F W b ms i wr:=⟨_,fun _ _=>rfl⟩
  simp only[<-QO]at M0 pH HR;have VH:EU b ms 0=0:=by unfold EU;rw[dJ];rfl
  have x9:=hn.1;clear pre hinv hw hl hbl hb hlen hacc Q6 hrow hap QO hn;generalize EU b ms=at_ at*
  generalize (acc++[(ms,wh)])=ACC at*
  generalize ms.length=n at*
  go_enter func47,ntmps47;go_wp2_with(go_at_call 78;refine HN.out.mono ?_;rintro e w5 ⟨rfl,h5⟩;have H5:=a_ (M0.out _ h5);clear HN M0 h5);go_loopw [6,8,14,15,16,17,18,19,20,21,22,23,24,25,26] (fun u6 _ u14 _ _ _ _ _ _ _ _ _ _ _ _ wr=>∃i:Nat,u14=.int .i64 i/\i<=n/\u6=.int .i64 (at_ i:Nat)/\Hid (RN i wr)) (fun _ _ u14 _ _ _ _ _ _ _ _ _ _ _ _ _=>n-(RowKit.intOf u14).toNat)
  case atStart=>exact⟨0,rfl,ax _,by rw[VH];rfl,H5⟩
  case round=>
   rename World=>WP
   obtain⟨i,rfl,hi,rfl,HM⟩:=hrel;by_cases hlt:i<n
   ·obtain⟨g,d,T,pi,pn,pc,rfl,⟨a0,a1,a2⟩,⟨c0,c1⟩,HC⟩:=HR.out i _ hlt HM.out;have hdec:decide ((i:Int)<n)=true:=by simp;omega
    have LK:(i:Int)<n:=by omega
    clear HR pH HM H5;go_wp2_with(go_at_call 79;refine HC.out.mono ?_;rintro e w7 ⟨rfl,h7⟩;clear HC);exact⟨⟨i+1,by simp,by omega,by simp,h7⟩,by simp only[RowKit.intOf];omega⟩
   ·have hdec:decide ((i:Int)<n)=false:=by simp;omega
    obtain rfl:i=n:=by omega
    obtain⟨g,n',cap',c,x0,tq,f3,⟨c0,y3⟩,y4,f4,HE⟩:=pH.out _ HM.out;clear HR pH HM H5;generalize at_ i=k at*
    cases c with
    |true=>
     go_wp2
     go_end0
     exact HE.out
    |false=>
     go_wp2
     go_end0
     exact HE.out
end
section
variable{w w' w0 w1 w2 w3 W wr:World}{X:Nat}{u1 u2 v:Value}{F:Nat->Prop}{b:gZ}{xs:List (Br×Nat)}{i j:Nat}{m:Mk}{x:Br×Nat}{acc:List Np}
theorem Q9(X:Nat)(u1 u2:Value):X7 (.func (.func 47) #[Z8 X] #[]) (GI X u1 u2):=
 ⟨_,rfl,fun F acc W v ms wh pre=>M5 wh pre⟩
theorem VJ(w:World):Z4 46 #[] w fun e w'=>e=.returned (.slice (some ⟨w.heap.size+1,0,none⟩) 1 1)/\w'=(w.alloc (.map #[] 0)).alloc (.cells #[.bool false,.string ⟨#[]⟩,.map (some w.heap.size),.bool false,.bool false] 167):=by
 have ES:=Jh;go_enter func46,ntmps46;go_wp2;go_ret;exact⟨rfl,rfl⟩
def br0(k:Nat):Br×Nat:=((⟨(false,[]),[],false,false⟩:Br),k)
theorem BR.new(w:World)(h1:j4 w 165 i [])(h2:w.heap[j]?=some (.cells #[.bool false,.string ⟨#[]⟩,.map (some i),.bool false,.bool false] 167 (0,0))):BR w (Z9 j 1 1) [br0 i]:=by
 refine⟨⟨rfl,Or.inr ⟨j,1,_,rfl,ax _,h2,ah _,by unfold maxLen;omega,rfl,rfl⟩⟩,fun x hx=>?_,by simp⟩;rw[bc]at hx;subst hx;exact h1
def LP(W:World)(qs:List L)(e:Ending)(w':World):Prop:=Z5 W w'/\match needed 0 qs with
 | .error y=>e=.returned (.tuple #[.pointer none,.int .i64 y.1,.int .i64 y.2.1,.int .i64 y.2.2])
 | .ok r=>∃X mn F,e=.returned (.tuple #[.pointer (some ⟨X,0,none⟩),.int .i64 0,.int .i64 0,.int .i64 0])/\GI X (.slice none 0 0) (.map (some mn)) F r w'/\j4 w' 9 mn []/\¬F mn/\W.heap.size<=mn/\∀k,F k->W.heap.size<=k
theorem FA:∀(l:List L) (i:Nat),(∀q∈l,Vx q)->∃r,needed i l=.ok r
 |[],i,_=>⟨_,rfl⟩
 |q::l,i,h=>by
  obtain⟨-,ls,hp,-⟩:=h q bJ;obtain⟨r,hr⟩:=FA l (i+1) fun x hx=>h x (bO _ hx);exact⟨pD ls++r,by rw[needed,hp];simp only[hr]⟩
theorem Dw(qs:List L)(hQ:∀q∈qs,Vx q)(v:Value)(W:World)(hq:U4 W v qs)(hn:qs.length<=2197802)(hv:∀k,v.ownBlock=some k->k<W.heap.size):Z4 23 #[v] W (LP W qs):=by
 obtain⟨W0,hW0⟩:∃W0,((((W.alloc (.map #[] 0)).alloc (.cells #[.bool false,.string ⟨#[]⟩,.map (some W.heap.size),.bool false,.bool false] 167)).alloc (.map #[] 0)).alloc (.cells #[.slice (some ⟨W.heap.size+1,0,none⟩) 1 1,.slice none 0 0,.map (some (W.heap.size+1+1))] 120))=W0:=⟨_,rfl⟩
 have a1:=(Below.refl W.heap.size W).alloc (ah _) (.map #[] 0);have a2:=a1.alloc (by simp) (.cells #[.bool false,.string ⟨#[]⟩,.map (some W.heap.size),.bool false,.bool false] 167);have a3:=a2.alloc (by simp;omega) (.map #[] 0);have a4:=a3.alloc (by simp;omega) (.cells #[.slice (some ⟨W.heap.size+1,0,none⟩) 1 1,.slice none 0 0,.map (some (W.heap.size+1+1))] 120);have hb0:Z5 W W0:=by rw[<-hW0];exact a4
 have b1:j4 W0 165 W.heap.size []:=by
  refine(j4.new W 165).of ?_;rw[<-hW0,ap _ _ _ (by simp;omega),ap _ _ _ (by simp;omega),ap _ _ _ (by simp)]
 have b2:W0.heap[W.heap.size+1]?=some (.cells #[.bool false,.string ⟨#[]⟩,.map (some W.heap.size),.bool false,.bool false] 167 (0,0)):=by
  have h:=eL (W.alloc (.map #[] 0)) (.cells #[.bool false,.string ⟨#[]⟩,.map (some W.heap.size),.bool false,.bool false] 167);rw[bI]at h;rw[<-hW0,ap _ _ _ (by simp),ap _ _ _ (by simp)];exact h
 have b3:j4 W0 9 (W.heap.size+1+1) []:=by
  have h:=j4.new ((W.alloc (.map #[] 0)).alloc (.cells #[.bool false,.string ⟨#[]⟩,.map (some W.heap.size),.bool false,.bool false] 167)) 9;rw[bI,bI]at h;refine h.of ?_;rw[<-hW0];exact ap _ _ _ (by simp)
 have b4:W0.heap[W.heap.size+1+1+1]?=some (.cells #[.slice (some ⟨W.heap.size+1,0,none⟩) 1 1,.slice none 0 0,.map (some (W.heap.size+1+1))] 120 (0,0)):=by
  have h:=eL (((W.alloc (.map #[] 0)).alloc (.cells #[.bool false,.string ⟨#[]⟩,.map (some W.heap.size),.bool false,.bool false] 167)).alloc (.map #[] 0)) (.cells #[.slice (some ⟨W.heap.size+1,0,none⟩) 1 1,.slice none 0 0,.map (some (W.heap.size+1+1))] 120);rw[bI,bI,bI]at h;rw[<-hW0];exact h
 have hgi:GI (W.heap.size+1+1+1) (.slice none 0 0) (.map (some (W.heap.size+1+1))) (fun k=>k=W.heap.size+1+1+1\/k=W.heap.size+1\/k=W.heap.size) [] W0:=by
  refine⟨⟨⟨_,[br0 W.heap.size],b4,BR.new W0 b1 b2,rfl,fun k=>?_⟩,?_,?_⟩,?_,LG⟩
  ·unfold Ds;simp only[Value.ownBlock,bB,bZ,bc,br0,aJ];constructor<;>omega
  ·intro x hx y hy;have Vq:x=⟨(false,[]),[],false,false⟩:=by simpa [fR,jP]using hx
   subst Vq;simp at hy
  ·intro x hx;have Vq:x=⟨(false,[]),[],false,false⟩:=by simpa [fR,jP]using hx
   subst Vq;simp
  ·show jP.length<=_;simp[jP]
 have HQ:=a_ (Jf hQ GI.ok (Q9 (W.heap.size+1+1+1) (.slice none 0 0) (.map (some (W.heap.size+1+1)))) v hgi (hq.below hb0) (fun k e hF=>by have:=hv k e;omega) (by simp only[aq];unfold y_;omega));have HF:Hid (∀e w',QQ (GI (W.heap.size+1+1+1) (.slice none 0 0) (.map (some (W.heap.size+1+1)))) (fun k=>k=W.heap.size+1+1+1\/k=W.heap.size+1\/k=W.heap.size) [] W0 qs e w'->Z5 W w'/\j4 w' 9 (W.heap.size+1+1) []):=fun e w' h=>⟨hb0.trans (h.1.up (K:=W.heap.size) (fun k hk=>by omega) hb0.size),b3.of (h.1.block _ b3.lt (by omega))⟩
 have aci:W.heap.size+1+1<W0.heap.size:=b3.lt;have HB:=a_ (VJ W);obtain⟨ai,cap,rfl,-⟩:=hq;unfold LP;cases l9:needed 0 qs with
 |error y=>
  obtain⟨r,hr⟩:=FA qs 0 hQ;rw[hr]at l9;cases l9
 |ok r=>
  have HC:Hid (Z4 48 #[.func (.func 47) #[.pointer (some ⟨W.heap.size+1+1+1,0,none⟩)] #[],.slice ai qs.length cap] W0 fun e w'=>e=.returned (.tuple #[.int .i64 0,.int .i64 0,.int .i64 0])/\Hid (Z5 W w'/\∃mn F,GI (W.heap.size+1+1+1) (.slice none 0 0) (.map (some mn)) F r w'/\j4 w' 9 mn []/\¬F mn/\W.heap.size<=mn/\∀k,F k->W.heap.size<=k)):=a_ (HQ.out.mono fun e w' h=>by
   have h2:=h.2;rw[l9]at h2;obtain⟨h3,F',h4,h5⟩:=h2;rw[bR]at h4;obtain⟨q1,q2⟩:=HF.out _ _ h;refine⟨h3,a_ ⟨q1,_,F',h4,q2,fun hF=>?_,by omega,fun k hk=>?_⟩⟩
   ·rcases h5 _ hF with h|h
    ·omega
    ·omega
   ·rcases h5 k hk with h|h
    ·omega
    ·have:=hb0.size;omega)
  clear HQ HF b1 b2 b3 b4 hb0 a1 a2 a3 a4 hv l9 hgi aci;generalize qs.length=n at*
  have ES:=Jh;go_enter func23,ntmps23;go_wp2_with(first|(go_at_call 46;refine HB.out.mono ?_;rintro e w4 ⟨rfl,rfl⟩;clear HB)|(go_at_call 48;refine HC.out.mono ?_;rintro e w5 ⟨rfl,h5⟩;clear HC));obtain⟨q1,mn,F,q2⟩:=h5.out;exact aV (v:=.tuple #[.pointer (some ⟨W.heap.size+1+1+1,0,none⟩),.int .i64 0,.int .i64 0,.int .i64 0]) (by simp[results,results23,go_sem]) rfl ⟨q1,_,mn,F,rfl,q2⟩
end
end Go.Proofs.YtjecakcpcnmieaaGreatDoor
