import Derived.Test.YthlcmljckpdheaaGreatDoorHA
import Derived.Maps.OwnSet
import Derived.Maps.Views
import Derived.Maps.Keyed
import Derived.DeepKeys4
import Derived.Deep.RegionLaw
import Derived.Test.YthlcmljckpdheaaGreatDoorHae
import Derived.Test.YthlcmljckpdheaaGreatDoorHac
import Derived.Test.YthlcmljckpdheaaGreatDoorHad
set_option linter.unusedVariables false
set_option linter.unusedSimpArgs false
set_option maxHeartbeats 32000000
set_option maxRecDepth 100000
namespace Go.Proofs.YthlcmljckpdheaaGreatDoor
open Go.RowKit Go.Maps Go.Lib Tryz
section
variable{w w' w1 w2 W:World}
def nB(kv:List (Lit×Nat))(kl:Lit):Option Nat:=(kv.find? fun p=>p.1.sameKey kl).map (·.2)
structure jb(w:World)(kt:TypeId)(b:Nat)(kv:List (Lit×Nat)):Prop where
 ex:∃D:DataW Unit,w.ownsMap prog kt (plainElem prog 3) b kv.length D/\(∀kl,Maps.has D kl=(nB kv kl).isSome)/\∀kl z,D.atKey kl z=match nB kv kl with|some n=> .lit (.int .i64 (n:Nat))|none=>z
variable{kt:TypeId}{b:Nat}{kv:List (Lit×Nat)}
theorem jb.lt(h:jb w kt b kv):b<w.heap.size:=by obtain⟨D,h,_⟩:=h.ex;exact h.lt
theorem jb.of(h:jb w kt b kv)(hb:w'.heap[b]?=w.heap[b]?):jb w' kt b kv:=by
 obtain⟨D,⟨es,clock,e,F,hs,hD⟩,h2⟩:=h.ex;exact⟨D,⟨es,clock,hb.trans e,F,hs,hD⟩,h2⟩
theorem jb.isMap(h:jb w kt b kv):∃es clock,w.heap[b]?=some (.map es clock):=by
 obtain⟨D,⟨es,clock,e,_⟩,_⟩:=h.ex;exact⟨es,clock,e⟩
theorem jb.new(w:World)(kt:TypeId):jb (w.alloc (.map #[] 0)) kt w.heap.size []:=
 ⟨.map [],World.ownsMap_made w prog kt _,fun kl=>rfl,fun kl z=>rfl⟩
theorem xt(kv:List (Lit×Nat))(kl:Lit)(n:Nat)(k':Lit):nB (kv++[(kl,n)]) k'=match nB kv k' with|some m=>some m|none=>if kl.sameKey k'=true then some n else none:=by
 unfold nB;rw[List.find?_append];cases h:kv.find? (fun p=>p.1.sameKey k')with
 |some p=>rfl
 |none=>
  simp only[Option.none_or,Option.map_none,cC,List.find?_nil];cases kl.sameKey k'<;>rfl
theorem mZ{ops:Array Oper}{rest:List Oper}{o:Oper}{a:Act}{Q:Exit->Act->World->Prop}(hg:o.guard=none)(m x:Operand)(t:TypeId)(hop:o.op=Op.lookup t m x true)
  (K:Keyed prog kt) (ht:prog.underlying t=some (.map kt 3)) (hm:a.eval m=.map (some b)) (h:jb w kt b kv) (key:Value) (kl:Lit) (hx:a.eval x=key) (hkey:keyOf prog kt key=some kl) (c:Nat) (ok:Bool) (hc:(nB kv kl).getD 0=c) (iM:(nB kv kl).isSome=ok)
  (hK:wpList prog ops Q rest (a.put o.dst (.tuple #[.int .i64 (c:Nat),.bool ok])) w):
  wpList prog ops Q (o::rest) a w:=by
 obtain⟨D,h1,h2,h3⟩:=h.ex;refine wpList_lookup_own_ok_int w hg m x t hop kt 3 .i64 K ht underlying3 (zeroValue3 _) b kv.length D hm h1 key kl hx hkey ?_;intro c' hat _;rw[h3]at hat;rw[h2,iM];have e:c'=(c:Int):=by
  rw[<-hc];cases hf:nB kv kl with
  |none=>rw[hf]at hat;simp only at hat;cases hat;rfl
  |some n=>rw[hf]at hat;simp only at hat;cases hat;rfl
 rw[e];exact hK
theorem wE{ops:Array Oper}{rest:List Oper}{o:Oper}{a:Act}{Q:Exit->Act->World->Prop}(hg:o.guard=none)(m x v:Operand)(t:TypeId)(hop:o.op=Op.mapUpdate t m x v)
  (K:Keyed prog kt) (ht:prog.underlying t=some (.map kt 3)) (hm:a.eval m=.map (some b)) (h:jb w kt b kv) (key:Value) (kl:Lit) (n:Nat) (hx:a.eval x=key) (hv:a.eval v=.int .i64 (n:Nat)) (hkey:keyOf prog kt key=some kl) (hn:nB kv kl=none) (hl:kv.length<4611686018427387904) (K5:n<4611686018427387904)
  (hK:∀w',jb w' kt b (kv++[(kl,n)])->w.grownBy w' (some b)->wpList prog ops Q rest (a.put o.dst undef) w'):
  wpList prog ops Q (o::rest) a w:=by
 obtain⟨D,h1,h2,h3⟩:=h.ex;have DC:(Lit.int .i64 (n:Nat)).wf=true:=by
  have e1:IntKind.i64.min= -9223372036854775808:=by decide
  have e2:IntKind.i64.max=9223372036854775807:=by decide
  simp[Lit.wf,e1,e2];omega
 refine dY w hg m x v t hop kt 3 K ht (plainElem prog 3) b kv.length D hm h1 (by unfold maxLen;omega) key (.int .i64 (n:Nat)) kl hx hv hkey (.lit (.int .i64 (n:Nat))) [] (plainElem_int underlying3 DC) ?_;intro w' hown hgr;refine hK w' ⟨_,by rw[af,bc];exact hown,fun k'=>?_,fun k' z=>?_⟩ hgr
 ·rw[xt];by_cases e:k'=kl
  ·subst e;rw[has_put_same h1.isMap (K.key hkey),hn];simp[bZ (K.key hkey)]
  ·rw[has_put_other e,h2,dC (fun h=>e h.symm)];cases nB kv k'<;>rfl
 ·rw[xt];by_cases e:k'=kl
  ·subst e;rw[atKey_put_same h1.isMap (K.key hkey),hn];simp[bZ (K.key hkey)]
  ·rw[atKey_put_other e,h3,dC (fun h=>e h.symm)];cases nB kv k'<;>rfl
theorem Cf:Keyed prog 9:=string_keyed underlying9
theorem kJ{B:Nat}{e:TypeId}{s:Nat}{v:Value}{n b:Nat}{xs:List Value}{es:Array MapEntry}{c:Nat}(h:w.ownsRow B e s v n xs)(hm:w.heap[b]?=some (.map es c)):v.ownBlock≠some b:=by
 intro hv;rcases h.2 with⟨h',_⟩|⟨g,cap,cur,h',_,hg,_⟩
 ·rw[h']at hv;cases hv
 ·rw[h']at hv;have:g=b:=by simpa [Value.ownBlock]using hv
  subst this;rw[hm]at hg;cases hg
theorem fG{B:Nat}{e t:TypeId}{s:Nat}{v:Value}{n b:Nat}{xs:List Value}{cs:Array Value}{fz:Nat×Nat}(h:w.ownsRow B e s v n xs)(hm:w.heap[b]?=some (.cells cs t fz))(ht:t≠e):v.ownBlock≠some b:=by
 intro hv;rcases h.2 with⟨h',_⟩|⟨g,cap,cur,h',_,hg,_⟩
 ·rw[h']at hv;cases hv
 ·rw[h']at hv;have:g=b:=by simpa [Value.ownBlock]using hv
  subst this;rw[hm]at hg;cases hg;exact ht rfl
theorem Cg(t:TypeId)(w:World):(Instr.makeMap t none).run prog w=.ok (.map (some w.heap.size)) (w.alloc (.map #[] 0)):=rfl
theorem Fr.gr{F:Nat->Prop}{row:Option Nat}(h:Fr F w w1)(hg:w1.grownBy w2 row)(hF:∀k,row=some k->k<w.heap.size->F k):Fr F w w2:=
 ⟨hg.os.trans h.os,hg.tape.trans h.tape,hg.output.trans h.output,aw h.size hg.size,fun k hk hf=>(hg.block k (ah hk h.size) (fun e=>hf (hF k e.symm hk))).trans (h.block k hk hf)⟩
end
section
variable{w w' w1 w2 W:World}
theorem laidOut:laidOutB prog=true:=by kernel_rfl
theorem Vq:(183:TypeId)<prog.types.size:=bY (by kernel_rfl)
theorem Wx:(match prog.underlying 183 with|some (.array _ _)|some (.struct _)=>true|_=>false)=true:=by rw[underlying183]
theorem Ci:Keyed prog 183:=Keyed.of_law (deep_law_laid laidOut (m:=2) (by omega) Vq (by kernel_rfl) Wx)
def qu(m:Mk):Lit:=.string (keyBytes [.bool m.1,.string m.2])
theorem K6:prog.keyType 183=true:=by kernel_rfl
theorem Oz(a b:Value):(Value.agg #[a,b]).formed prog 183=true:=by
 have:prog.cellsOf 183=2:=by kernel_rfl
 simp[Value.formed,underlying183,this]
theorem G4:prog.cellsOf 4=1:=by kernel_rfl
theorem x_:prog.cellsOf 9=1:=by kernel_rfl
theorem Te:prog.cellsOf 183=2:=by kernel_rfl
theorem OA(m:Mk)(h:m.2.length<=1000000):keyOf prog 183 (.agg #[.bool m.1,.string (bs m.2)])=some (qu m):=by
 have e:(bs m.2).size=m.2.length:=fB m.2;have hm:(bs m.2).size<=maxLen:=by rw[e];unfold maxLen;omega
 obtain⟨n,hn⟩:∃n,prog.types.size+1=n+1+1:=by
  have h:183<prog.types.size:=Vq;generalize prog.types.size=s at h ⊢;exact⟨s-1,by omega⟩
 unfold keyOf;rw[underlying183];simp only[K6,Oz,dQ,if_true];rw[hn];simp[Program.keyLits,underlying183,Te,G4,x_,underlying4,underlying9,hm,Value.cells,qu];simp[bs]
theorem OB{a b:L}(h:bs a=bs b):a=b:=by
 have:=aA (fun x:ByteArray=>x.data.toList) h;simpa [bs]using this
theorem Ed{m m':Mk}(h:m.2.length<=1000000)(h':m'.2.length<=1000000)(e:qu m=qu m'):m=m':=by
 have e1:=OA m h;have e2:=OA m' h';rw[e]at e1;have e3:=Ci.inj e1 e2;have f0:=aA (fun v:Value=>match v with| .agg a=>a[0]?|_=>none) e3;have f1:=aA (fun v:Value=>match v with| .agg a=>a[1]?|_=>none) e3;simp only[cd,dh,cE,aX,Value.bool.injEq,Value.string.injEq]at f0 f1;exact Prod.ext f0 (OB f1)
def ib(x:Br):List (Lit×Nat):=x.kids.map fun y=>(qu y.1,y.2)
def wF(b:i_):Prop:=∀x∈b,∀y∈x.kids,y.1.2.length<=1000000
theorem Tf{x:Br}{m:Mk}(hm:m.2.length<=1000000)(hx:∀y∈x.kids,y.1.2.length<=1000000):nB (ib x) (qu m)=x.kid m:=by
 unfold nB ib Br.kid;revert hx;generalize x.kids=ks;induction ks with
 |nil=>intro _;rfl
 |cons y l ih=>
  intro hx;have ih':=ih fun z hz=>hx z (bP _ hz);rw[bC,cC,cC];by_cases e:y.1=m
  ·have e1:(qu y.1).sameKey (qu m)=true:=by rw[e];exact bZ (Ci.key (OA m hm))
   rw[e1,e];simp
  ·have e1:(qu y.1).sameKey (qu m)=false:=dC fun h=>e (Ed (hx y (bO ..)) hm h);have e2:(y.1==m)=false:=by simpa using e
   rw[e1,e2];exact ih'
def ya(x:Br×Nat):List Value:=[.bool x.1.sg.1,.string (bs x.1.sg.2),.map (some x.2),.bool x.1.nd,.bool x.1.wh]
def iV(xs:List (Br×Nat)):List Value:=xs.flatMap ya
theorem yb:∀(xs:List (Br×Nat)) (k:Nat) (x:Br×Nat) (c:Nat) (u:Value),xs[k]?=some x->(ya x)[c]?=some u->(iV xs)[k*5+c]?=some u
 |[],k,x,c,u,h,_=>by simp at h
 |y::xs,0,x,c,u,h,hc=>by
  obtain rfl:y=x:=by simpa using h
  have hl:c<5:=by have:=(List.getElem?_eq_some_iff.1 hc).1;simpa [ya]using this
  show (ya y++iV xs)[0*5+c]?=_;rw[aL (by simp[ya];omega)];simpa using hc
 |y::xs,k+1,x,c,u,h,hc=>by
  have:=yb xs k x c u (by simpa using h) hc;show (ya y++iV xs)[(k+1)*5+c]?=_;rw[aP (by simp[ya];omega)];rw[<-this];congr 1;simp[ya];omega
structure BR(w:World)(v:Value)(xs:List (Br×Nat)):Prop where
 row:w.ownsRow 0 185 5 v xs.length (iV xs)
 map:∀x∈xs,jb w 183 x.2 (ib x.1)
 nd:(xs.map (·.2)).Nodup
def Cj(v:Value)(xs:List (Br×Nat))(k:Nat):Prop:=v.ownBlock=some k\/k∈xs.map (·.2)
theorem BR.lt{v:Value}{xs:List (Br×Nat)}(h:BR w v xs){k:Nat}(hk:Cj v xs k):k<w.heap.size:=by
 rcases hk with e|e
 ·exact eW h.row e
 ·obtain⟨x,hx,rfl⟩:=List.mem_map.1 e;exact(h.map x hx).lt
theorem BR.of{v:Value}{xs:List (Br×Nat)}(h:BR w v xs)(hb:∀k,Cj v xs k->w'.heap[k]?=w.heap[k]?):BR w' v xs:=
 ⟨eH h.row fun k e=>hb k (Or.inl e),fun x hx=>(h.map x hx).of (hb _ (Or.inr (cD hx))),h.nd⟩
theorem BR.at{v:Value}{xs:List (Br×Nat)}{i:Nat}{x:Br×Nat}(h:BR w v xs)(hi:xs[i]?=some x):∃g cap,v=Z9 g xs.length cap/\g<w.heap.size/\xs.length<=cap/\w.cell? ⟨g,i*5,none⟩=some (.bool x.1.sg.1)/\w.cell? ⟨g,i*5+1,none⟩=some (.string (bs x.1.sg.2))/\w.cell? ⟨g,i*5+2,none⟩=some (.map (some x.2))/\w.cell? ⟨g,i*5+3,none⟩=some (.bool x.1.nd)/\w.cell? ⟨g,i*5+4,none⟩=some (.bool x.1.wh):=by
 have qM:=(List.getElem?_eq_some_iff.1 hi).1;have hr:=h.row;rcases hr.2 with⟨_,hz⟩|⟨g,cap,cur,rfl,hb,hg,vr,_,_,_⟩
 ·omega
 ·have f:=fun c (hc:c<5) u hu=>(hr.cellAt (i*5+c) (by omega)).trans (yb xs i x c u hi hu);exact⟨g,cap,rfl,eO hg,vr,f 0 (by omega) _ rfl,f 1 (by omega) _ rfl,f 2 (by omega) _ rfl,f 3 (by omega) _ rfl,f 4 (by omega) _ rfl⟩
structure K7(X:Nat)(u1 u2:Value)(F:Nat->Prop)(b:i_)(w:World):Prop where
 ex:∃v xs,w.heap[X]?=some (.cells #[v,u1,u2] 144 (0,0))/\BR w v xs/\xs.map (·.1)=b/\(∀k,F k↔k=X\/Cj v xs k)
 short:wF b
 few:∀x∈b,x.kids.length<=b.length
end
section
variable{w w' w0 w1 w2 w3 W:World}{X:Nat}{u1 u2 v:Value}{F:Nat->Prop}{b:i_}{xs:List (Br×Nat)}{i:Nat}{m:Mk}{x:Br×Nat}
def xa(m:Mk)(n:Nat)(x:Br×Nat):Br×Nat:=({x.1 with kids:=x.1.kids++[(m,n)]},x.2)
theorem OC(xs:List (Br×Nat))(i:Nat)(m:Mk)(n:Nat):(xs.modify i (xa m n)).map (·.1)=(xs.map (·.1)).modify i fun x=>{x with kids:=x.kids++[(m,n)]}:=by
 refine cN fun j=>?_;rw[aH,bj,bj,aH];cases xs[j]? with
 |none=>rfl
 |some y=>
  simp only[cz,cy];split<;>rfl
theorem Ee(xs:List (Br×Nat))(i:Nat)(m:Mk)(n:Nat):(xs.modify i (xa m n)).map (·.2)=xs.map (·.2):=by
 refine cN fun j=>?_;rw[aH,bj,aH];cases xs[j]? with
 |none=>rfl
 |some y=>
  simp only[cz,cy];split<;>rfl
theorem G5(xs:List (Br×Nat))(i:Nat)(m:Mk)(n:Nat):iV (xs.modify i (xa m n))=iV xs:=by
 have e:(xs.modify i (xa m n)).map ya=xs.map ya:=by
  refine cN fun j=>?_;rw[aH,bj,aH];cases xs[j]? with
  |none=>rfl
  |some y=>
   simp only[cz,cy];split<;>rfl
 unfold iV;rw[List.flatMap_def,List.flatMap_def,e]
theorem OD{y:Br×Nat}{n:Nat}(h:y∈xs.modify i (xa m n))(hx:xs[i]?=some x):y=xa m n x\/∃j,j≠i/\xs[j]?=some y:=by
 obtain⟨j,hj⟩:=List.mem_iff_getElem?.1 h;rw[bj]at hj;by_cases e:i=j
 ·subst e;rw[hx]at hj;simp at hj;exact Or.inl hj.symm
 ·right;refine⟨j,fun h=>e h.symm,?_⟩;cases YF:xs[j]? with
  |none=>rw[YF]at hj;simp at hj
  |some z=>rw[YF]at hj;simp[e]at hj;rw[hj]
theorem OE{j:Nat}{y:Br×Nat}(h:(xs.map (·.2)).Nodup)(hi:xs[i]?=some x)(hj:xs[j]?=some y)(hne:j≠i):y.2≠x.2:=by
 intro e;have h1:(xs.map (·.2))[i]?=some x.2:=by rw[aH,hi];rfl
 have h2:(xs.map (·.2))[j]?=some y.2:=by rw[aH,hj];rfl
 have qM:=(List.getElem?_eq_some_iff.1 h1).1;rw[<-e,<-h2]at h1;exact hne ((List.getElem?_inj qM h).1 h1).symm
theorem BR.put{n:Nat}{v':Value}(h:BR w0 v xs)(hx:xs[i]?=some x)(hn:n=xs.length)(hm:jb w1 183 x.2 (ib x.1++[(qu m,n)]))(Ck:w0.grownBy w1 (some x.2))
  (hr:w3.ownsRow 0 185 5 v' (n+1) (iV xs++ya ((⟨m,[],false,false⟩:Br),w1.heap.size))) (hg3:((w1.drew.alloc (.map #[] 0)).alloc (.cells (ya ((⟨m,[],false,false⟩:Br),w1.heap.size)).toArray 185)).grownBy w3 v.ownBlock):
  BR w3 v' (xs.modify i (xa m n)++[((⟨m,[],false,false⟩:Br),w1.heap.size)]):=by
 have G6:x∈xs:=aO hx;obtain⟨es,clk,sM⟩:=(h.map x G6).isMap;have hvx:=kJ h.row sM;have up:∀k,k<w0.heap.size->k≠x.2->v.ownBlock≠some k->w3.heap[k]?=w0.heap[k]?:=fun k hk h1 h2=>by
  have li:=ah hk Ck.size;rw[hg3.block k (by simp;omega) (fun e=>h2 e.symm),ak _ _ _ (by simp;omega),ak _ _ _ (by exact li)];exact Ck.block k hk (fun e=>h1 (by cases e;rfl))
 refine⟨?_,fun y hy=>?_,?_⟩
 ·rw[af,bn,bc,<-hn];have e:iV (xs.modify i (xa m n)++[((⟨m,[],false,false⟩:Br),w1.heap.size)])=iV xs++ya ((⟨m,[],false,false⟩:Br),w1.heap.size):=by
   rw[<-G5 xs i m n];unfold iV;rw[cr,bU,dw,aM]
  rw[e];exact hr
 ·rcases List.mem_append.1 hy with hy|hy
  ·rcases OD hy hx with rfl|⟨j,hj,hyj⟩
   ·have e:ib (xa m n x).1=ib x.1++[(qu m,n)]:=by unfold ib xa;rw[aR];rfl
    rw[e];have hl:=hm.lt;refine hm.of ?_;show w3.heap[x.2]?=w1.heap[x.2]?;rw[hg3.block x.2 (by simp;omega) (fun e=>hvx e.symm),ak _ _ _ (by simp;omega),ak _ _ _ (by exact hl)];rfl
   ·have hym:y∈xs:=aO hyj;have xu:=h.map y hym;obtain⟨es2,ab2,hby⟩:=xu.isMap;exact xu.of (up _ xu.lt (OE h.nd hx hyj hj) (kJ h.row hby))
  ·rw[aJ]at hy;subst hy;have OG:=jb.new w1.drew 183;refine OG.of ?_;have hv1:v.ownBlock≠some w1.heap.size:=fun e=>by
    have:=eW h.row e;have:=Ck.size;omega
   show w3.heap[w1.heap.size]?=(w1.drew.alloc (.map #[] 0)).heap[w1.drew.heap.size]?;rw[hg3.block w1.heap.size (by simp;omega) (fun e=>hv1 e.symm),ak _ _ _ (by simp)];rfl
 ·rw[aR,Ee,List.nodup_append];refine⟨h.nd,by simp,fun a ha c hc=>?_⟩;simp only[bC,b9,aJ]at hc;subst hc;have:=h.lt (k:=a) (Or.inr ha);have:=Ck.size;omega
theorem vK{k:Nat}(hb:b[i]?.bind (·.kid m)=some k):ot b i m=(b,k):=by unfold ot;rw[hb]
theorem pj(hb:b[i]?.bind (·.kid m)=none):ot b i m=(b.modify i (fun x=>{x with kids:=x.kids++[(m,b.length)]})++[⟨m,[],false,false⟩],b.length):=by unfold ot;rw[hb]
theorem G7(h:wF b)(hm:m.2.length<=1000000):wF (ot b i m).1:=by
 intro y hy z hz;cases hb:b[i]?.bind (·.kid m)with
 |some k=>rw[vK hb]at hy;exact h y hy z hz
 |none=>
  rw[pj hb]at hy;rcases List.mem_append.1 hy with hy|hy
  ·obtain⟨j,hj⟩:=List.mem_iff_getElem?.1 hy;rw[bj]at hj;cases Wy:b[j]? with
   |none=>rw[Wy]at hj;simp at hj
   |some q=>
    rw[Wy]at hj;have hq:=h q (aO Wy);by_cases e:i=j
    ·simp[e]at hj;subst hj;rcases List.mem_append.1 hz with hz|hz
     ·exact hq z hz
     ·rw[aJ]at hz;subst hz;exact hm
    ·simp[e]at hj;subst hj;exact hq z hz
  ·rw[aJ]at hy;subst hy;simp at hz
theorem OH(h:∀x∈b,x.kids.length<=b.length):∀x∈(ot b i m).1,x.kids.length<=(ot b i m).1.length:=by
 intro y hy;cases hb:b[i]?.bind (·.kid m)with
 |some k=>rw[vK hb]at hy ⊢;exact h y hy
 |none=>
  rw[pj hb]at hy ⊢;simp only[af,bn,bc];rcases List.mem_append.1 hy with hy|hy
  ·obtain⟨j,hj⟩:=List.mem_iff_getElem?.1 hy;rw[bj]at hj;cases Wy:b[j]? with
   |none=>rw[Wy]at hj;simp at hj
   |some q=>
    rw[Wy]at hj;have hq:=h q (aO Wy);by_cases e:i=j
    ·simp[e]at hj;subst hj;simp only[af,bc];omega
    ·simp[e]at hj;subst hj;omega
  ·rw[aJ]at hy;subst hy;simp
end
section
variable{w w' w0 w1 w2 w3 W:World}{X:Nat}{u1 u2 v:Value}{F:Nat->Prop}{b:i_}{xs:List (Br×Nat)}{i:Nat}{m:Mk}{x:Br×Nat}
theorem Wz:(prog.info? 185).map (fun i=>(i.zero,i.size,i.bytes))=some (some (.agg #[.bool false,.string ⟨#[]⟩,.map none,.bool false,.bool false]),5,40):=by kernel_rfl
def OJ(X:Nat)(u1 u2:Value)(F:Nat->Prop)(b':i_)(w w':World):Prop:=∃F',K7 X u1 u2 F' b' w'/\Fr F w w'/\∀k,F' k->F k\/w.heap.size<=k
theorem Tg(w:World)(x:Br×Nat):∀j u,(ya x)[j]?=some u->(w.alloc (.cells (ya x).toArray 185)).cell? ((⟨w.heap.size,0,none⟩:Addr).add j)=some u:=by
 intro j u hj;have h:=eL w (.cells (ya x).toArray 185);have hl:j<5:=by have:=(List.getElem?_eq_some_iff.1 hj).1;simpa [ya]using this
 have:=cell_of (i:=j) h (by simpa using hj);unfold Addr.add;split
 ·next h0=>rw[h0]at this;exact this
 ·simpa using this
theorem WA(h:K7 X u1 u2 F b w)(hi:i<b.length)(hm:m.2.length<=1000)(hl:b.length<=2300000000000):
  Z4 87 #[Z8 X,.int .i64 i,.agg #[.bool m.1,.string (bs m.2)]] w fun e w'=>e=.returned (.int .i64 ((ot b i m).2:Nat))/\OJ X u1 u2 F (ot b i m).1 w w':=by
 obtain⟨v,xs,p1,p2,p3,p4⟩:=h.ex;have GY:xs.length=b.length:=by rw[<-p3];simp
 have hx:xs[i]?=some xs[i]:=ap (by omega);generalize xs[i]=x at hx;have sM:b[i]?=some x.1:=by rw[<-p3,aH,hx];rfl
 have G6:x∈xs:=aO hx;obtain⟨g,cap,rfl,hg,vr,g0,g1,g2,g3,g4⟩:=p2.at hx;have hB:=eL w (.cells #[.bool m.1,.string (bs m.2)] 183);have hb0:=(Below.refl w.heap.size w).alloc (aj _) (.cells #[.bool m.1,.string (bs m.2)] 183);have hkey:=OA m (by omega);have sB:=Tf (x:=x.1) (m:=m) (by omega) (h.short x.1 (aO sM));have c0:(w.alloc (.cells #[.bool m.1,.string (bs m.2)] 183)).cell? ⟨X,0,none⟩=some (Z9 g xs.length cap):=cell_of ((hb0.block _ (eO p1)).trans p1) rfl;have c1:(w.alloc (.cells #[.bool m.1,.string (bs m.2)] 183)).cell? ⟨g,i*5+2,none⟩=some (.map (some x.2)):=(ag (hb0.block g hg)).trans g2;have d0:(w.alloc (.cells #[.bool m.1,.string (bs m.2)] 183)).cell? ⟨w.heap.size,0,none⟩=some (.bool m.1):=cell_of hB rfl;have d1:(w.alloc (.cells #[.bool m.1,.string (bs m.2)] 183)).cell? ⟨w.heap.size,1,none⟩=some (.string (bs m.2)):=cell_of hB rfl;have HM:=a_ ((p2.map x G6).of (hb0.block _ (p2.map x G6).lt));have B8:(i:Int)<(xs.length:Int):=by omega
 cases hk:x.1.kid m with
 |some k=>
  rw[vK (by rw[sM];exact hk)];have hcc:(nB (ib x.1) (qu m)).getD 0=k:=by rw[sB,hk];rfl
  have iM:(nB (ib x.1) (qu m)).isSome=true:=by rw[sB,hk];rfl
  have HE:Hid (OJ X u1 u2 F b w (w.alloc (.cells #[.bool m.1,.string (bs m.2)] 183))):=a_ ⟨F,⟨⟨_,xs,(hb0.block _ (eO p1)).trans p1,p2.of fun k hk=>hb0.block k (p2.lt hk),p3,p4⟩,h.short,h.few⟩,Fr.below hb0,fun k hk=>Or.inl hk⟩;clear h p1 p2 p4 hg g0 g1 g2 g3 g4 hB hb0 sM G6 sB hk hx vr;generalize bs m.2=T at*
  generalize m.1=d at*
  generalize xs.length=n at*
  go_enter func87,ntmps87;go_wp2_with(at_lookup;refine mZ rfl _ _ 181 rfl Ci underlying181 rfl HM.out _ _ rfl hkey _ _ hcc iM ?_);go_ret;exact⟨rfl,HE.out⟩
 |none=>
  rw[pj (by rw[sM];exact hk)];have hnone:nB (ib x.1) (qu m)=none:=by rw[sB,hk]
  have hcc:(nB (ib x.1) (qu m)).getD 0=0:=by rw[hnone];rfl
  have iM:(nB (ib x.1) (qu m)).isSome=false:=by rw[hnone];rfl
  obtain⟨i0,qA,hz0,hz1,hz2⟩:=aZ Wz;obtain⟨es,clk,Ou⟩:=(p2.map x G6).isMap;have SU:X≠x.2:=fun e=>by rw[e,Ou]at p1;cases p1
  have hX1:=(p2.map x G6).lt;have K8:=fG p2.row p1 (by decide);have hv2:=kJ p2.row Ou;have hXl:=eO p1;have p2':BR (w.alloc (.cells #[.bool m.1,.string (bs m.2)] 183)) (Z9 g xs.length cap) xs:=p2.of fun k hk=>hb0.block k (p2.lt hk);have WC:=(hb0.block _ hXl).trans p1;have mN:(ib x.1).length<4611686018427387904:=by
   have:=h.few x.1 (aO sM);unfold ib;rw[cA];omega
  have HU:Hid (∀w1,(w.alloc (.cells #[.bool m.1,.string (bs m.2)] 183)).grownBy w1 (some x.2)->(w1.cell? ⟨X,0,none⟩=some (Z9 g xs.length cap)/\w1.cell? ⟨w.heap.size,0,none⟩=some (.bool m.1)/\w1.cell? ⟨w.heap.size,1,none⟩=some (.string (bs m.2)))/\
    Hid (((w1.drew.alloc (.map #[] 0)).alloc (.cells #[.bool m.1,.string (bs m.2),.map (some w1.heap.size),.bool false,.bool false] 185)).ownsRow 0 185 5 (Z9 g xs.length cap) xs.length (iV xs)/\∀j u,[Value.bool m.1,.string (bs m.2),.map (some w1.heap.size),.bool false,.bool false][j]?=some u->((w1.drew.alloc (.map #[] 0)).alloc (.cells #[.bool m.1,.string (bs m.2),.map (some w1.heap.size),.bool false,.bool false] 185)).cell? ((⟨w1.heap.size+1,0,none⟩:Addr).add j)=some u)):=fun w1 Ck=>by
   have q1:=(Ck.block _ (eO WC) (fun e=>SU (bu e))).trans WC;have q2:=(Ck.block _ (eO hB) (fun e=>by have:=bu e;omega)).trans hB;have OL:=Tg (w1.drew.alloc (.map #[] 0)) ((⟨m,[],false,false⟩:Br),w1.heap.size);rw[bA]at OL;refine⟨⟨cell_of q1 rfl,cell_of q2 rfl,cell_of q2 rfl⟩,a_ ⟨eH p2'.row fun k e=>?_,OL⟩⟩;have hk:=eW p2'.row e;have li:=ah hk Ck.size;rw[ak _ _ _ (by simp;omega),ak _ _ _ (by exact li)];exact Ck.block k hk (fun e'=>hv2 (by rw[e,e']))
  have HV:Hid (∀w1 w3 v',jb w1 183 x.2 (ib x.1++[(qu m,xs.length)])->(w.alloc (.cells #[.bool m.1,.string (bs m.2)] 183)).grownBy w1 (some x.2)->w3.ownsRow 0 185 5 v' (xs.length+1) (iV xs++[.bool m.1,.string (bs m.2),.map (some w1.heap.size),.bool false,.bool false])->
    ((w1.drew.alloc (.map #[] 0)).alloc (.cells #[.bool m.1,.string (bs m.2),.map (some w1.heap.size),.bool false,.bool false] 185)).grownBy w3 (Z9 g xs.length cap).ownBlock->(v'.ownBlock=(Z9 g xs.length cap).ownBlock\/v'.ownBlock=some ((w1.drew.alloc (.map #[] 0)).alloc (.cells #[.bool m.1,.string (bs m.2),.map (some w1.heap.size),.bool false,.bool false] 185)).heap.size)->
    w3.cell? ⟨X,0,none⟩=some (Z9 g xs.length cap)/\w3.frozen? ⟨X,0,none⟩=false/\Hid (OJ X u1 u2 F (b.modify i (fun x=>{x with kids:=x.kids++[(m,b.length)]})++[⟨m,[],false,false⟩]) w (w3.setCell ⟨X,0,none⟩ v'))):=fun w1 w3 v' Sh Ck ho3 hg3 hat=>by
   have q1:=(Ck.block _ (eO WC) (fun e=>SU (bu e))).trans WC;have aaW:=eO q1;have r1:w3.heap[X]?=some (.cells #[Z9 g xs.length cap,u1,u2] 144 (0,0)):=by
    rw[hg3.block X (by simp;omega) (fun e=>K8 e.symm),ak _ _ _ (by simp;omega),ak _ _ _ (by exact aaW)];exact q1
   have hbr:=BR.put (m:=m) p2' hx rfl Sh Ck ho3 hg3;have hvx:v'.ownBlock≠some X:=fG ho3 r1 (by decide);have s1:=fe (i:=0) r1 v';have hXn:X∉xs.map (·.2):=fun Ef=>by
    obtain⟨y,hy,e⟩:=List.mem_map.1 Ef;obtain⟨es',Zu,hby⟩:=(p2.map y hy).isMap;rw[e,p1]at hby;cases hby
   have Ef:∀k,k∈(xs.modify i (xa m xs.length)++[((⟨m,[],false,false⟩:Br),w1.heap.size)]).map (·.2)↔(k∈xs.map (·.2)\/k=w1.heap.size):=fun k=>by rw[aR,Ee];simp
   have hs1:=Ck.size;have hs0:=hb0.size;have hbs:(w.alloc (.cells #[.bool m.1,.string (bs m.2)] 183)).heap.size=w.heap.size+1:=by simp
   refine⟨cell_of r1 rfl,eR r1,a_ ⟨fun k=>k=X\/Cj v' (xs.modify i (xa m xs.length)++[((⟨m,[],false,false⟩:Br),w1.heap.size)]) k,⟨⟨v',_,s1,hbr.of fun k hk=>ae _ _ _ _ (fun e=>?_),?_,fun k=>Iff.rfl⟩,?_,?_⟩,?_,?_⟩⟩
   ·have e':k=X:=e;rcases hk with h1|h1
    ·exact hvx (by rw[h1,e'])
    ·rcases(Ef k).1 h1 with h2|h2
     ·exact hXn (e'▸h2)
     ·rw[h2]at e';omega
   ·rw[aR,OC,p3,GY];rfl
   ·have:=G7 (b:=b) (i:=i) (m:=m) h.short (by omega);rw[pj (by rw[sM];exact hk)]at this;exact this
   ·have:=OH (b:=b) (i:=i) (m:=m) h.few;rw[pj (by rw[sM];exact hk)]at this;exact this
   ·have f1:Fr F w w1:=(Fr.below hb0).gr Ck fun k e _=>by cases e;exact(p4 _).2 (Or.inr (Or.inr (cD G6)))
    have f2:Fr F w w3:=((f1.drewN 1).alloc _|>.alloc _).gr hg3 fun k e _=>(p4 k).2 (Or.inr (Or.inl e));exact f2.set _ _ fun _=>(p4 X).2 (Or.inl rfl)
   ·rintro k (rfl|e|e)
    ·exact Or.inl ((p4 _).2 (Or.inl rfl))
    ·rcases hat with h1|h1
     ·exact Or.inl ((p4 _).2 (Or.inr (Or.inl (h1▸e))))
     ·rw[h1]at e;have:k=w1.heap.size+1+1:=by simpa using e.symm
      exact Or.inr (by omega)
    ·rcases(Ef k).1 e with h2|h2
     ·exact Or.inl ((p4 _).2 (Or.inr (Or.inr h2)))
     ·exact Or.inr (by omega)
  have hbl:b.length=xs.length:=GY.symm;rw[hbl]at HV hl ⊢;clear h p1 p2 p4 hg g0 g1 g2 g3 g4 hb0 sM G6 sB hk hx vr WC p2' Ou SU hX1 K8 hv2 GY hbl hB;generalize (b.modify i (fun x=>{x with kids:=x.kids++[(m,xs.length)]})++[⟨m,[],false,false⟩])=B2 at*
  generalize iV xs=BC at*
  generalize bs m.2=T at*
  generalize m.1=d at*
  generalize xs.length=n at*
  have DS:=Cg;go_enter func87,ntmps87;go_wp2_with(first
   |(at_lookup;refine mZ rfl _ _ 181 rfl Ci underlying181 rfl HM.out _ _ rfl hkey _ _ hcc iM ?_)
   |(at_mapUpdate;refine wE rfl _ _ _ 181 rfl Ci underlying181 rfl HM.out _ _ n rfl rfl hkey hnone mN (by omega) ?_;intro w6 WD Gk;have HM6:=a_ WD;have HG6:=a_ Gk;obtain⟨⟨k0,k1,k2⟩,Zv⟩:=HU.out _ Gk;clear HM HU WD Gk c0 c1 d0 d1))
  have Vr:∀o,(w6.alloc o).cell? ⟨X,0,none⟩=some (Z9 g n cap):=fun o=>eG o k0;have x1a:∀o,(w6.alloc o).cell? ⟨w.heap.size,0,none⟩=some (.bool d):=fun o=>eG o k1;have x2a:∀o,(w6.alloc o).cell? ⟨w.heap.size,1,none⟩=some (.string T):=fun o=>eG o k2;have x0b:∀o o',((w6.alloc o).alloc o').cell? ⟨X,0,none⟩=some (Z9 g n cap):=fun o o'=>eG o' (Vr o);have x1b:∀o o',((w6.alloc o).alloc o').cell? ⟨w.heap.size,0,none⟩=some (.bool d):=fun o o'=>eG o' (x1a o);have x2b:∀o o',((w6.alloc o).alloc o').cell? ⟨w.heap.size,1,none⟩=some (.string T):=fun o o'=>eG o' (x2a o);go_region_law
   (first|(
    refine fA rfl (.tmp 35) (.tmp 39) 139 rfl 185 i0 _ 5 40 underlying139 qA hz0 hz1 hz2 rfl (by decide) (Z9 g n cap) n BC (by simp[Act.eval,Act.put]) Zv.out.1 ⟨w6.heap.size+1,0,none⟩ 1 1 [.bool d,.string T,.map (some w6.heap.size),.bool false,.bool false] (by simp[Act.eval,Act.put]) rfl Zv.out.2 (by simp[Value.oneCell']) (by unfold maxLen;omega) (by omega) ?_;intro v7 w7 ho hg hat;obtain⟨a7,n7,c7,rfl⟩:=eX ho;obtain⟨x7,f7,H7⟩:=HV.out _ _ _ HM6.out HG6.out ho hg hat;clear ho hg hat))
  all_goals
   go_wp2;go_ret;exact⟨rfl,H7.out⟩
end
end Go.Proofs.YthlcmljckpdheaaGreatDoor
namespace Go.Proofs.YthlcmljckpdheaaGreatDoor
open Go Tryz
def K9(b:i_):Prop:=∀x∈b,(x.kids.map (·.2)).Pairwise (· < ·)/\∀y∈x.kids,y.2<b.length
theorem Ti:K9 oO:=by
 intro x hx;have SN:x=⟨(false,[]),[],false,false⟩:=by simpa [oO]using hx
 subst SN;exact⟨by simp,fun y hy=>by simp at hy⟩
theorem yc{b:i_}{i:Nat}{f:Br->Br}{y:Br}(h:y∈b.modify i f):∃z∈b,y=z\/y=f z:=by
 obtain⟨j,hj⟩:=List.mem_iff_getElem?.1 h;rw[bj]at hj;cases hb:b[j]? with
 |none=>rw[hb]at hj;simp at hj
 |some z=>
  rw[hb]at hj;refine⟨z,aO hb,?_⟩;by_cases e:i=j
  ·simp[e]at hj;exact Or.inr hj.symm
  ·simp[e]at hj;exact Or.inl hj.symm
theorem Tj{b:i_}{i:Nat}{m:Mk}(h:K9 b):K9 (ot b i m).1:=by
 unfold ot;split
 ·exact h
 ·intro y hy;rw[af,bn,bc];rcases List.mem_append.1 hy with hy|hy
  ·obtain⟨z,hz,rfl|rfl⟩:=yc hy
   ·exact⟨(h _ hz).1,fun q hq=>by have:=(h _ hz).2 q hq;omega⟩
   ·obtain⟨h1,h2⟩:=h z hz;refine⟨?_,fun q hq=>?_⟩
    ·rw[aR,List.pairwise_append];refine⟨h1,by simp,fun a ha c hc=>?_⟩;simp only[bC,b9,aJ]at hc;subst hc;obtain⟨q,hq,rfl⟩:=List.mem_map.1 ha;exact h2 q hq
    ·rcases List.mem_append.1 hq with hq|hq
     ·have:=h2 q hq;omega
     ·rw[aJ]at hq;subst hq;simp
  ·rw[aJ]at hy;subst hy;exact⟨by simp,fun q hq=>by simp at hq⟩
theorem vL:∀(l:List Mk) {b:i_} {i:Nat},K9 b->K9 (im b i l).1
 |[],b,i,h=>h
 |m::l,b,i,h=>vL l (Tj h)
theorem OM{b:i_}{p:Np}(h:K9 b):K9 (qH b p):=by
 unfold qH;split
 ·exact h
 ·intro y hy;rw[bn];obtain⟨z,hz,rfl|rfl⟩:=yc hy
  ·exact vL p.1 h _ hz
  ·exact vL p.1 h z hz
theorem ye:∀(l:List Np) {b:i_},K9 b->K9 (gV b l)
 |[],b,h=>h
 |p::l,b,h=>ye l (OM h)
theorem G8{b:i_}{x:Br}{l:List Nat}(h0:b[0]?=some x)(hu:K9 b)(hp:l.Pairwise (· <= ·))(hm:l.Perm (x.kids.map (·.2))):l=(jJ b).due:=by
 have hx:=hu x (aO h0);have wG:l.Nodup:=hm.nodup_iff.2 (hx.1.imp (fun h=>Nat.ne_of_lt h));have hlt:l.Pairwise (· < ·):=by
  have:=hp.and wG;exact this.imp (fun h=>by have:=h.1;have:=h.2;omega)
 refine N8 hlt fun k=>?_;have hk:lh b 0=x.kids.map (·.2):=by unfold lh;rw[h0]
 rw[hk,hm.mem_iff];constructor
 ·intro h;obtain⟨y,hy,rfl⟩:=List.mem_map.1 h;exact⟨hx.2 y hy,h⟩
 ·exact fun h=>h.2
def xb(b:i_):Nat:=(b.map fun x=>x.kids.length).sum
def KS(b:i_):Prop:=xb b+1=b.length
theorem yg{f:Br->Br}{c:Nat}(hf:∀x,(f x).kids.length=x.kids.length+c):∀(b:i_) (i:Nat),i<b.length->xb (b.modify i f)=xb b+c
 |[],i,h=>by simp at h
 |x::b,0,h=>by
  simp only[xb,List.modify_zero_cons,bC,List.sum_cons,hf];omega
 |x::b,i+1,h=>by
  have ih:=yg hf b i (by simpa using h);simp only[xb,List.modify_succ_cons,bC,List.sum_cons]at ih ⊢;omega
theorem Tl{b:i_}{i:Nat}{m:Mk}(hi:i<b.length)(h:KS b):KS (ot b i m).1:=by
 unfold ot;split
 ·exact h
 ·unfold KS at*
  have e:xb (b.modify i (fun x=>{x with kids:=x.kids++[(m,b.length)]})++[⟨m,[],false,false⟩])=xb (b.modify i (fun x=>{x with kids:=x.kids++[(m,b.length)]})):=by unfold xb;rw[aR,dT];simp
  rw[e,yg (c:=1) (fun x=>by simp) b i hi,af,bn,bc];omega
theorem Aq:∀(l:List Mk) {b:i_} {i:Nat},i<b.length->zL b->KS b->KS (im b i l).1
 |[],b,i,_,_,h=>h
 |m::l,b,i,hi,hw,h=>by
  obtain⟨h1,h2,_,_⟩:=JH m hi hw;exact Aq l h2 h1 (Tl hi h)
theorem OO{b:i_}{p:Np}(hw:zL b)(h:KS b):KS (qH b p):=by
 unfold qH;split
 ·exact h
 ·have h1:=Aq p.1 hw.1 hw h;obtain⟨_,h2,_,_⟩:=pg p.1 hw.1 hw;unfold KS at*
  rw[yg (f:=fun x=>{x with nd:=true,wh:=x.wh||p.2}) (c:=0) (fun x=>rfl) _ _ h2,bn];omega
theorem yh:∀(l:List Np) {b:i_},zL b->KS b->KS (gV b l)
 |[],b,_,h=>h
 |p::l,b,hw,h=>yh l (Ea p hw).1 (OO hw h)
theorem Tm:KS oO:=rfl
def zQ(b:i_)(m:Nat):Nat:=xb (b.take m)
theorem Ar{b:i_}{m:Nat}{x:Br}(h:b[m]?=some x):zQ b (m+1)=zQ b m+x.kids.length:=by
 obtain⟨hl,e⟩:=List.getElem?_eq_some_iff.1 h;unfold zQ xb;rw[bw hl,aR,dT,e];simp
theorem Au{b:i_}{m n:Nat}(h:m<=n):zQ b m<=zQ b n:=by
 unfold zQ xb;have e:b.take n=b.take m++(b.drop m).take (n-m):=by
  rw[<-dm m (b.take n),dK,List.drop_take];congr 2;omega
 rw[e,aR,dT];omega
theorem Cl{b:i_}(h:KS b)(m:Nat):zQ b m<=b.length:=by
 have h1:=Au (b:=b) (m:=m) (n:=max m b.length) (by omega);have h2:zQ b (max m b.length)=xb b:=by unfold zQ;rw[bQ (by omega)]
 unfold KS at h;omega
end Go.Proofs.YthlcmljckpdheaaGreatDoor
namespace Go.Proofs.YthlcmljckpdheaaGreatDoor
open Go.RowKit Go.Maps Go.Lib Tryz
section
variable{w w' w0 w1 w2 w3 W wr:World}{X:Nat}{u1 u2 v:Value}{F:Nat->Prop}{b:i_}{xs:List (Br×Nat)}{i j:Nat}{m:Mk}{x:Br×Nat}
theorem yi:∀(l:List Mk) (b:i_) (i:Nat) (m:Mk),im b i (l++[m])=ot (im b i l).1 (im b i l).2 m
 |[],b,i,m=>by simp[im]
 |n::l,b,i,m=>by simp only[bI,im];exact yi l _ _ m
theorem OP{ms:List Mk}(h:m∈ms):m.2.length<=(gL ms).length:=by
 induction ms with
 |nil=>simp at h
 |cons y l ih=>
  have e:gL (y::l)=oP y++gL l:=by unfold gL;rw[bU]
  rw[e,af];rcases List.mem_cons.1 h with rfl|h
  ·have h1:m.2.length<=(oP m).length:=by
    unfold oP;rw[af];split<;>split<;>simp_all<;>omega
   omega
  ·have:=ih h;omega
def Cm(wh:Bool)(x:Br×Nat):Br×Nat:=({x.1 with nd:=true,wh:=x.1.wh||wh},x.2)
theorem yj(xs:List (Br×Nat))(i:Nat)(wh:Bool):(xs.modify i (Cm wh)).map (·.1)=(xs.map (·.1)).modify i fun x=>{x with nd:=true,wh:=x.wh||wh}:=by
 refine cN fun j=>?_;rw[aH,bj,bj,aH];cases xs[j]? with
 |none=>rfl
 |some y=>
  simp only[cz,cy];split<;>rfl
theorem Eg(xs:List (Br×Nat))(i:Nat)(wh:Bool):(xs.modify i (Cm wh)).map (·.2)=xs.map (·.2):=by
 refine cN fun j=>?_;rw[aH,bj,aH];cases xs[j]? with
 |none=>rfl
 |some y=>
  simp only[cz,cy];split<;>rfl
theorem yl:∀(xs:List (Br×Nat)) (i:Nat) (x:Br×Nat) (wh:Bool),xs[i]?=some x->((iV xs).set (i*5+3) (.bool true)).set (i*5+4) (.bool (x.1.wh||wh))=iV (xs.modify i (Cm wh))
 |[],i,x,wh,h=>by simp at h
 |y::xs,0,x,wh,h=>by
  obtain rfl:y=x:=by simpa using h
  rfl
 |y::xs,i+1,x,wh,h=>by
  have ih:=yl xs i x wh (by simpa using h);have e:(y::xs).modify (i+1) (Cm wh)=y::xs.modify i (Cm wh):=by simp
  rw[e];show ((ya y++iV xs).set ((i+1)*5+3) _).set ((i+1)*5+4) _=ya y++iV (xs.modify i (Cm wh));rw[<-ih,List.set_append_right _ _ (by simp[ya];omega),List.set_append_right _ _ (by simp[ya];omega)];congr 2
  ·congr 1;simp[ya];omega
  ·simp[ya];omega
theorem K7.fin{g n cap:Nat}{wh:Bool}(p1:w.heap[X]?=some (.cells #[Z9 g n cap,u1,u2] 144 (0,0)))(p2:BR w (Z9 g n cap) xs)(p4:∀k,F k↔k=X\/Cj (Z9 g n cap) xs k)(hx:xs[i]?=some x)(hn:n=xs.length)(hs:wF (xs.map (·.1)))(hf:∀y∈xs.map (·.1),y.kids.length<=(xs.map (·.1)).length):
  K7 X u1 u2 F ((xs.map (·.1)).modify i fun x=>{x with nd:=true,wh:=x.wh||wh}) ((w.setCell ⟨g,i*5+3,none⟩ (.bool true)).setCell ⟨g,i*5+4,none⟩ (.bool (x.1.wh||wh)))/\Fr F w ((w.setCell ⟨g,i*5+3,none⟩ (.bool true)).setCell ⟨g,i*5+4,none⟩ (.bool (x.1.wh||wh))):=by
 have hgX:X≠g:=fun e=>fG p2.row p1 (by decide) (by rw[e];rfl);have hFg:F g:=(p4 g).2 (Or.inr (Or.inl rfl));have other:∀k,k≠g->((w.setCell ⟨g,i*5+3,none⟩ (.bool true)).setCell ⟨g,i*5+4,none⟩ (.bool (x.1.wh||wh))).heap[k]?=w.heap[k]?:=fun k hk=>by rw[ae _ _ _ _ hk,ae _ _ _ _ hk]
 have r:=p2.row;rw[<-hn]at r;have r1:=(r.stored (i*5+3) (.bool true)).1;have r2:=(r1.stored (i*5+4) (.bool (x.1.wh||wh))).1;rw[yl xs i x wh hx]at r2;have hmap:∀y,y∈xs.modify i (Cm wh)->∃z∈xs,y.2=z.2/\y.1.kids=z.1.kids:=fun y hy=>by
  obtain⟨j,hj⟩:=List.mem_iff_getElem?.1 hy;rw[bj]at hj;cases YF:xs[j]? with
  |none=>rw[YF]at hj;simp at hj
  |some z=>
   rw[YF]at hj;have hz:=aO YF;by_cases e:i=j
   ·simp[e]at hj;subst hj;exact⟨z,hz,rfl,rfl⟩
   ·simp[e]at hj;subst hj;exact⟨z,hz,rfl,rfl⟩
 have hbr:BR ((w.setCell ⟨g,i*5+3,none⟩ (.bool true)).setCell ⟨g,i*5+4,none⟩ (.bool (x.1.wh||wh))) (Z9 g n cap) (xs.modify i (Cm wh)):=by
  refine⟨by rw[bn,<-hn];exact r2,fun y hy=>?_,by rw[Eg];exact p2.nd⟩;obtain⟨z,hz,e1,e2⟩:=hmap y hy;have e3:ib y.1=ib z.1:=by unfold ib;rw[e2]
  rw[e1,e3];have hm:=p2.map z hz;obtain⟨es,clk,YG⟩:=hm.isMap;refine hm.of (other _ fun e=>?_);exact kJ p2.row YG (by rw[e];rfl)
 refine⟨⟨⟨_,xs.modify i (Cm wh),(other X hgX).trans p1,hbr,yj xs i wh,fun k=>?_⟩,?_,?_⟩,((Fr.refl F w).set _ _ fun _=>hFg).set _ _ fun _=>hFg⟩
 ·rw[p4 k];unfold Cj;rw[Eg]
 ·rw[<-yj];intro y hy z hz;obtain⟨y',hy',rfl⟩:=List.mem_map.1 hy;obtain⟨q,hq,-,e2⟩:=hmap y' hy';rw[e2]at hz;exact hs q.1 (cD hq) z hz
 ·rw[<-yj];intro y hy;obtain⟨y',hy',rfl⟩:=List.mem_map.1 hy;obtain⟨q,hq,-,e2⟩:=hmap y' hy';rw[e2];have:=hf q.1 (cD hq);simpa using this
end
section
variable{w w' w0 w1 w2 w3 W wr:World}{X:Nat}{u1 u2 v:Value}{F:Nat->Prop}{b:i_}{xs:List (Br×Nat)}{i j:Nat}{m:Mk}{x:Br×Nat}{acc:List Np}
structure GI(X:Nat)(u1 u2:Value)(F:Nat->Prop)(acc:List Np)(w:World):Prop where
 br:K7 X u1 u2 F (gV oO acc) w
 len:(gV oO acc).length<=1+1000*acc.length
 wf:zL (gV oO acc)
theorem K7.below(h:K7 X u1 u2 F b w)(hb:Z5 w w'):K7 X u1 u2 F b w':=by
 obtain⟨v,xs,p1,p2,p3,p4⟩:=h.ex;exact⟨⟨v,xs,(hb.block _ (eO p1)).trans p1,p2.of fun k hk=>hb.block k (p2.lt hk),p3,p4⟩,h.short,h.few⟩
theorem K7.lt(h:K7 X u1 u2 F b w){k:Nat}(hk:F k):k<w.heap.size:=by
 obtain⟨v,xs,p1,p2,p3,p4⟩:=h.ex;rcases(p4 k).1 hk with rfl|h
 ·exact eO p1
 ·exact p2.lt h
theorem GI.ok:wC (GI X u1 u2):=⟨fun F acc W W' h hb=>⟨h.br.below hb,h.len,h.wf⟩,fun F acc W k h hk=>h.br.lt hk⟩
def K_(X:Nat)(u1 u2:Value)(F:Nat->Prop)(W:World)(b:i_)(ms:List Mk)(i:Nat)(wr:World):Prop:=∃F',K7 X u1 u2 F' (im b 0 (ms.take i)).1 wr/\Fr F W wr/\∀k,F' k->F k\/W.heap.size<=k
def DF(b:i_)(ms:List Mk)(i:Nat):Nat:=(im b 0 (ms.take i)).2
theorem G9{ai:Option Addr}{n cap:Nat}{ms:List Mk}(DC:zL b)(hbl:b.length<=2200000000000)(hr:qK W (.slice ai n cap) ms)(hap:∀k,(Value.slice ai n cap).ownBlock=some k->¬F k)(hlen:(gL ms).length<=1000)(hi:i<ms.length)(M:K_ X u1 u2 F W b ms i wr):
  ∃g d T pi pn pc,ai=some ⟨g,0,none⟩/\(wr.cell? ⟨g,i*3,none⟩=some (.bool d)/\wr.cell? ⟨g,i*3+1,none⟩=some (.string T)/\wr.cell? ⟨g,i*3+2,none⟩=some (.slice pi pn pc))/\((wr.alloc (.cells (aS d T (.slice pi pn pc)) 131)).cell? ⟨wr.heap.size,0,none⟩=some (.bool d)/\(wr.alloc (.cells (aS d T (.slice pi pn pc)) 131)).cell? ⟨wr.heap.size,1,none⟩=some (.string T))/\
   Hid (Z4 87 #[Z8 X,.int .i64 (DF b ms i:Nat),.agg #[.bool d,.string T]] (wr.alloc (.cells (aS d T (.slice pi pn pc)) 131)) fun e w'=>e=.returned (.int .i64 (DF b ms (i+1):Nat))/\Hid (K_ X u1 u2 F W b ms (i+1) w')):=by
 obtain⟨F',m1,m2,m3⟩:=M;have hx:ms[i]?=some ms[i]:=ap hi;have hml:=OP (bR hi);have rH:ms.take (i+1)=ms.take i++[ms[i]]:=bw hi;obtain⟨ai',cap',e,hn,hrr⟩:=hr.fr m2 hap;cases e;obtain⟨g,pi,pn,pc,e,hg,a0,a1,a2⟩:=hrr i _ hx;generalize ms[i]=m at*
 have hB:=eL wr (.cells (aS m.1 (bs m.2) (.slice pi pn pc)) 131);have hb0:=(Below.refl wr.heap.size wr).alloc (aj _) (.cells (aS m.1 (bs m.2) (.slice pi pn pc)) 131);obtain⟨g1,g2,g3,g4⟩:=pg (ms.take i) DC.1 DC;have hmn:ms.length<=1000:=aw (vJ ms) hlen;have htl:(ms.take i).length<=ms.length:=by simp;omega
 refine⟨g,m.1,bs m.2,pi,pn,pc,e,⟨a0,a1,a2⟩,⟨(vH hB).1,(vH hB).2.1⟩,a_ ?_⟩;unfold DF K_;rw[rH,yi];refine(WA (m1.below hb0) g2 (by omega) (by omega)).mono ?_;rintro e w' ⟨h1,F2,k1,k2,k3⟩;refine⟨h1,a_ ⟨F2,k1,(m2.on hb0).trans k2 fun k hk hF=>?_,fun k hk=>?_⟩⟩
 ·rcases m3 k hF with h|h
  ·exact h
  ·omega
 ·rcases k3 k hk with h|h
  ·exact m3 k h
  ·have:=(m2.on hb0).size;exact Or.inr (by omega)
theorem grow_end{ms:List Mk}{wh:Bool}(hw:zL b)(OL:nowhere ms=false)(hacc:b=gV oO acc)(hl:b.length<=1+1000*acc.length)(hlen:(gL ms).length<=1000)(M:K_ X u1 u2 F W b ms ms.length wr):
  ∃g n cap c,wr.cell? ⟨X,0,none⟩=some (Z9 g n cap)/\((DF b ms ms.length:Nat):Int)<(n:Int)/\wr.frozen? ⟨g,DF b ms ms.length*5+3,none⟩=false/\(∃c0,wr.cell? ⟨g,DF b ms ms.length*5+3,none⟩=some (.bool c0))/\(wr.setCell ⟨g,DF b ms ms.length*5+3,none⟩ (.bool true)).cell? ⟨g,DF b ms ms.length*5+4,none⟩=some (.bool c)/\(wr.setCell ⟨g,DF b ms ms.length*5+3,none⟩ (.bool true)).frozen? ⟨g,DF b ms ms.length*5+4,none⟩=false/\
   Hid (nO (GI X u1 u2) F (acc++[(ms,wh)]) W (.returned (.tuple #[])) ((wr.setCell ⟨g,DF b ms ms.length*5+3,none⟩ (.bool true)).setCell ⟨g,DF b ms ms.length*5+4,none⟩ (.bool (c||wh)))):=by
 obtain⟨F',m1,m2,m3⟩:=M;rw[bH]at m1;have hat:DF b ms ms.length=(im b 0 ms).2:=by unfold DF;rw[bH]
 obtain⟨g1,g2,g3,g4⟩:=pg ms hw.1 hw;obtain⟨v,xs,p1,p2,p3,p4⟩:=m1.ex;rw[<-hat]at g2;generalize DF b ms ms.length=k at*
 have GY:xs.length=(im b 0 ms).1.length:=by rw[<-p3];simp
 have hx:xs[k]?=some xs[k]:=ap (by omega);generalize xs[k]=x at hx;obtain⟨g,cap,rfl,hg,vr,c0,c1,c2,c3,c4⟩:=p2.at hx;have hs:=m1.short;have hf:=m1.few;rw[<-p3]at hs hf;obtain⟨q1,q2⟩:=K7.fin (wh:=wh) p1 p2 p4 hx rfl hs hf;have hga:gV oO (acc++[(ms,wh)])=(im b 0 ms).1.modify k fun x=>{x with nd:=true,wh:=x.wh||wh}:=by
  rw[nM,<-hacc];unfold gV qH;rw[dU,ee,if_neg (by rw[OL];decide),hat]
 have hgb:∃cur,wr.heap[g]?=some (.cells cur 185 (0,0)):=by
  rcases p2.row.2 with⟨h,_⟩|⟨g',cap',cur,h,_,NC,_⟩
  ·cases h
  ·cases h;exact⟨cur,NC⟩
 obtain⟨cur,hgb⟩:=hgb;have hgs:=fe (i:=k*5+3) hgb (.bool true);have hbl:=vJ ms;refine⟨g,xs.length,cap,x.1.wh,cell_of p1 rfl,by omega,eR hgb,⟨_,c3⟩,?_,eR hgs,a_ ⟨rfl,F',⟨?_,?_,?_⟩,m2.trans q2 fun k' Tn hF=>?_,m3⟩⟩
 ·rw[<-c4];exact cQ _ _ _ _ (by intro e;injection e with _ e;omega)
 ·rw[hga,<-p3];exact q1
 ·rw[hga,bn,af,bc];omega
 ·rw[nM,<-hacc];exact(xX [(ms,wh)] hw).1
 ·rcases m3 k' hF with h|h
  ·exact h
  ·omega
end
section
variable{w w' w0 w1 w2 w3 W wr:World}{X:Nat}{u1 u2 v:Value}{F:Nat->Prop}{b:i_}{xs:List (Br×Nat)}{i j:Nat}{m:Mk}{x:Br×Nat}{acc:List Np}
theorem La{v:Value}{ms:List Mk}(wh:Bool)(pre:Ot (GI X u1 u2) F acc W v ms):Z4 48 #[Z8 X,v,.bool wh] W (nO (GI X u1 u2) F (acc++[(ms,wh)]) W):=by
 have hlen:=pre.len;have HN:=a_ (GX ms v W pre.row pre.ne);have hacc:=pre.acc;have hinv:=pre.inv;obtain⟨b,hb⟩:∃b,b=gV oO acc:=⟨_,rfl⟩
 have hw:=hinv.wf;have hl:=hinv.len;rw[<-hb]at hw hl;have hbl:b.length<=2200000000000:=by unfold x9 at hacc;omega
 cases OL:nowhere ms with
 |true=>
  rw[OL]at HN;have HE:Hid (∀w1,Z5 W w1->nO (GI X u1 u2) F (acc++[(ms,wh)]) W (.returned (.tuple #[])) w1):=fun w1 hb1=>by
   have e:gV oO (acc++[(ms,wh)])=gV oO acc:=by
    rw[nM];unfold gV qH;rw[dU,ee,if_pos OL]
   refine⟨rfl,F,⟨by rw[e];exact hinv.br.below hb1,by rw[e,af];have:=hinv.len;omega,by rw[e];exact hinv.wf⟩,Fr.below hb1,fun k hk=>Or.inl hk⟩
  obtain⟨ai,cap,rfl,-⟩:=pre.row;clear pre hinv hw hl hbl hb hlen hacc OL;generalize ms.length=n at*
  go_enter func48,ntmps48;go_wp2_with(go_at_call 86;refine HN.out.mono ?_;rintro e w5 ⟨rfl,h5⟩;have H5:=a_ (HE.out _ h5);clear HN HE h5)
  go_end0
  exact H5.out
 |false=>
  rw[OL]at HN;have hrow:=pre.row;have hap:=pre.apart;have M0:Hid (∀w1,Z5 W w1->K_ X u1 u2 F W b ms 0 w1):=fun w1 hb1=>⟨F,by rw[dJ];show K7 X u1 u2 F b w1;rw[hb];exact hinv.br.below hb1,Fr.below hb1,fun k hk=>Or.inl hk⟩
  obtain⟨ai,cap,rfl,hn,-⟩:=pre.row;have HR:=a_ (fun i wr (hi:i<ms.length) M=>G9 (X:=X) (u1:=u1) (u2:=u2) (i:=i) (wr:=wr) hw (by omega) hrow hap hlen hi M);have mY:=a_ (fun wr M=>grow_end (X:=X) (u1:=u1) (u2:=u2) (wr:=wr) (F:=F) (W:=W) (wh:=wh) hw OL hb hl hlen M);obtain⟨RN,Ow⟩:∃RN:Nat->World->Prop,∀i wr,RN i wr=K_ X u1 u2 F W b ms i wr:=⟨_,fun _ _=>rfl⟩
  simp only[<-Ow]at M0 mY HR;have Tp:DF b ms 0=0:=by unfold DF;rw[dJ];rfl
  have Ai:=hn.1;clear pre hinv hw hl hbl hb hlen hacc OL hrow hap Ow hn;generalize DF b ms=at_ at*
  generalize (acc++[(ms,wh)])=ACC at*
  generalize ms.length=n at*
  go_enter func48,ntmps48;go_wp2_with(go_at_call 86;refine HN.out.mono ?_;rintro e w5 ⟨rfl,h5⟩;have H5:=a_ (M0.out _ h5);clear HN M0 h5);go_loopw [6,8,14,15,16,17,18,19,20,21,22,23,24,25,26] (fun u6 _ u14 _ _ _ _ _ _ _ _ _ _ _ _ wr=>∃i:Nat,u14=.int .i64 i/\i<=n/\u6=.int .i64 (at_ i:Nat)/\Hid (RN i wr)) (fun _ _ u14 _ _ _ _ _ _ _ _ _ _ _ _ _=>n-(RowKit.intOf u14).toNat)
  case atStart=>exact⟨0,rfl,aq _,by rw[Tp];rfl,H5⟩
  case round=>
   rename World=>WP
   obtain⟨i,rfl,hi,rfl,HM⟩:=hrel;by_cases hlt:i<n
   ·obtain⟨g,d,T,pi,pn,pc,rfl,⟨a0,a1,a2⟩,⟨c0,c1⟩,HC⟩:=HR.out i _ hlt HM.out;have hdec:decide ((i:Int)<n)=true:=by simp;omega
    have B8:(i:Int)<n:=by omega
    clear HR mY HM H5;go_wp2_with(go_at_call 87;refine HC.out.mono ?_;rintro e w7 ⟨rfl,h7⟩;clear HC);exact⟨⟨i+1,by simp,by omega,by simp,h7⟩,by simp only[RowKit.intOf];omega⟩
   ·have hdec:decide ((i:Int)<n)=false:=by simp;omega
    obtain rfl:i=n:=by omega
    obtain⟨g,n',cap',c,x0,sw,f3,⟨c0,y3⟩,y4,f4,HE⟩:=mY.out _ HM.out;clear HR mY HM H5;generalize at_ i=k at*
    cases c with
    |true=>
     go_wp2
     go_end0
     exact HE.out
    |false=>
     go_wp2
     go_end0
     exact HE.out
end
section
variable{w w' w0 w1 w2 w3 W wr:World}{X:Nat}{u1 u2 v:Value}{F:Nat->Prop}{b:i_}{xs:List (Br×Nat)}{i j:Nat}{m:Mk}{x:Br×Nat}{acc:List Np}
theorem OQ(X:Nat)(u1 u2:Value):Vn (.func (.func 48) #[Z8 X] #[]) (GI X u1 u2):=
 ⟨_,rfl,fun F acc W v ms wh pre=>La wh pre⟩
theorem Tq(w:World):Z4 47 #[] w fun e w'=>e=.returned (.slice (some ⟨w.heap.size+1,0,none⟩) 1 1)/\w'=(w.alloc (.map #[] 0)).alloc (.cells #[.bool false,.string ⟨#[]⟩,.map (some w.heap.size),.bool false,.bool false] 185):=by
 have DS:=Cg;go_enter func47,ntmps47;go_wp2;go_ret;exact⟨rfl,rfl⟩
def br0(k:Nat):Br×Nat:=((⟨(false,[]),[],false,false⟩:Br),k)
theorem BR.new(w:World)(h1:jb w 183 i [])(h2:w.heap[j]?=some (.cells #[.bool false,.string ⟨#[]⟩,.map (some i),.bool false,.bool false] 185 (0,0))):BR w (Z9 j 1 1) [br0 i]:=by
 refine⟨⟨rfl,Or.inr ⟨j,1,_,rfl,aq _,h2,aj _,by unfold maxLen;omega,rfl,rfl⟩⟩,fun x hx=>?_,by simp⟩;rw[aJ]at hx;subst hx;exact h1
def JM(W:World)(qs:List L)(e:Ending)(w':World):Prop:=Z5 W w'/\match needed 0 qs with
 | .error y=>e=.returned (.tuple #[.pointer none,.int .i64 y.1,.int .i64 y.2.1,.int .i64 y.2.2])
 | .ok r=>∃X mn F,e=.returned (.tuple #[.pointer (some ⟨X,0,none⟩),.int .i64 0,.int .i64 0,.int .i64 0])/\GI X (.slice none 0 0) (.map (some mn)) F r w'/\jb w' 9 mn []/\¬F mn/\W.heap.size<=mn/\∀k,F k->W.heap.size<=k
theorem Eh:∀(l:List L) (i:Nat),(∀q∈l,QOK q)->∃r,needed i l=.ok r
 |[],i,_=>⟨_,rfl⟩
 |q::l,i,h=>by
  obtain⟨-,ls,hp,-⟩:=h q bO;obtain⟨r,hr⟩:=Eh l (i+1) fun x hx=>h x (bP _ hx);exact⟨p_ ls++r,by rw[needed,hp];simp only[hr]⟩
theorem G_(qs:List L)(hQ:∀q∈qs,QOK q)(v:Value)(W:World)(hq:S9 W v qs)(hn:qs.length<=2197802)(hv:∀k,v.ownBlock=some k->k<W.heap.size):Z4 26 #[v] W (JM W qs):=by
 obtain⟨W0,hW0⟩:∃W0,((((W.alloc (.map #[] 0)).alloc (.cells #[.bool false,.string ⟨#[]⟩,.map (some W.heap.size),.bool false,.bool false] 185)).alloc (.map #[] 0)).alloc (.cells #[.slice (some ⟨W.heap.size+1,0,none⟩) 1 1,.slice none 0 0,.map (some (W.heap.size+1+1))] 144))=W0:=⟨_,rfl⟩
 have a1:=(Below.refl W.heap.size W).alloc (aj _) (.map #[] 0);have a2:=a1.alloc (by simp) (.cells #[.bool false,.string ⟨#[]⟩,.map (some W.heap.size),.bool false,.bool false] 185);have a3:=a2.alloc (by simp;omega) (.map #[] 0);have a4:=a3.alloc (by simp;omega) (.cells #[.slice (some ⟨W.heap.size+1,0,none⟩) 1 1,.slice none 0 0,.map (some (W.heap.size+1+1))] 144);have hb0:Z5 W W0:=by rw[<-hW0];exact a4
 have b1:jb W0 183 W.heap.size []:=by
  refine(jb.new W 183).of ?_;rw[<-hW0,ak _ _ _ (by simp;omega),ak _ _ _ (by simp;omega),ak _ _ _ (by simp)]
 have b2:W0.heap[W.heap.size+1]?=some (.cells #[.bool false,.string ⟨#[]⟩,.map (some W.heap.size),.bool false,.bool false] 185 (0,0)):=by
  have h:=eL (W.alloc (.map #[] 0)) (.cells #[.bool false,.string ⟨#[]⟩,.map (some W.heap.size),.bool false,.bool false] 185);rw[bA]at h;rw[<-hW0,ak _ _ _ (by simp),ak _ _ _ (by simp)];exact h
 have b3:jb W0 9 (W.heap.size+1+1) []:=by
  have h:=jb.new ((W.alloc (.map #[] 0)).alloc (.cells #[.bool false,.string ⟨#[]⟩,.map (some W.heap.size),.bool false,.bool false] 185)) 9;rw[bA,bA]at h;refine h.of ?_;rw[<-hW0];exact ak _ _ _ (by simp)
 have b4:W0.heap[W.heap.size+1+1+1]?=some (.cells #[.slice (some ⟨W.heap.size+1,0,none⟩) 1 1,.slice none 0 0,.map (some (W.heap.size+1+1))] 144 (0,0)):=by
  have h:=eL (((W.alloc (.map #[] 0)).alloc (.cells #[.bool false,.string ⟨#[]⟩,.map (some W.heap.size),.bool false,.bool false] 185)).alloc (.map #[] 0)) (.cells #[.slice (some ⟨W.heap.size+1,0,none⟩) 1 1,.slice none 0 0,.map (some (W.heap.size+1+1))] 144);rw[bA,bA,bA]at h;rw[<-hW0];exact h
 have hgi:GI (W.heap.size+1+1+1) (.slice none 0 0) (.map (some (W.heap.size+1+1))) (fun k=>k=W.heap.size+1+1+1\/k=W.heap.size+1\/k=W.heap.size) [] W0:=by
  refine⟨⟨⟨_,[br0 W.heap.size],b4,BR.new W0 b1 b2,rfl,fun k=>?_⟩,?_,?_⟩,?_,JG⟩
  ·unfold Cj;simp only[Value.ownBlock,bC,b9,aJ,br0,aX];constructor<;>omega
  ·intro x hx y hy;have SN:x=⟨(false,[]),[],false,false⟩:=by simpa [gV,oO]using hx
   subst SN;simp at hy
  ·intro x hx;have SN:x=⟨(false,[]),[],false,false⟩:=by simpa [gV,oO]using hx
   subst SN;simp
  ·show oO.length<=_;simp[oO]
 have HQ:=a_ (G3 hQ GI.ok (OQ (W.heap.size+1+1+1) (.slice none 0 0) (.map (some (W.heap.size+1+1)))) v hgi (hq.below hb0) (fun k e hF=>by have:=hv k e;omega) (by simp only[aF];unfold x9;omega));have HF:Hid (∀e w',Oy (GI (W.heap.size+1+1+1) (.slice none 0 0) (.map (some (W.heap.size+1+1)))) (fun k=>k=W.heap.size+1+1+1\/k=W.heap.size+1\/k=W.heap.size) [] W0 qs e w'->Z5 W w'/\jb w' 9 (W.heap.size+1+1) []):=fun e w' h=>⟨hb0.trans (h.1.up (K:=W.heap.size) (fun k hk=>by omega) hb0.size),b3.of (h.1.block _ b3.lt (by omega))⟩
 have aaX:W.heap.size+1+1<W0.heap.size:=b3.lt;have HB:=a_ (Tq W);obtain⟨ai,cap,rfl,-⟩:=hq;unfold JM;cases wG:needed 0 qs with
 |error y=>
  obtain⟨r,hr⟩:=Eh qs 0 hQ;rw[hr]at wG;cases wG
 |ok r=>
  have HC:Hid (Z4 49 #[.func (.func 48) #[.pointer (some ⟨W.heap.size+1+1+1,0,none⟩)] #[],.slice ai qs.length cap] W0 fun e w'=>e=.returned (.tuple #[.int .i64 0,.int .i64 0,.int .i64 0])/\Hid (Z5 W w'/\∃mn F,GI (W.heap.size+1+1+1) (.slice none 0 0) (.map (some mn)) F r w'/\jb w' 9 mn []/\¬F mn/\W.heap.size<=mn/\∀k,F k->W.heap.size<=k)):=a_ (HQ.out.mono fun e w' h=>by
   have h2:=h.2;rw[wG]at h2;obtain⟨h3,F',h4,h5⟩:=h2;rw[bV]at h4;obtain⟨q1,q2⟩:=HF.out _ _ h;refine⟨h3,a_ ⟨q1,_,F',h4,q2,fun hF=>?_,by omega,fun k hk=>?_⟩⟩
   ·rcases h5 _ hF with h|h
    ·omega
    ·omega
   ·rcases h5 k hk with h|h
    ·omega
    ·have:=hb0.size;omega)
  clear HQ HF b1 b2 b3 b4 hb0 a1 a2 a3 a4 hv wG hgi aaX;generalize qs.length=n at*
  have DS:=Cg;go_enter func26,ntmps26;go_wp2_with(first|(go_at_call 47;refine HB.out.mono ?_;rintro e w4 ⟨rfl,rfl⟩;clear HB)|(go_at_call 49;refine HC.out.mono ?_;rintro e w5 ⟨rfl,h5⟩;clear HC));obtain⟨q1,mn,F,q2⟩:=h5.out;exact ba (v:=.tuple #[.pointer (some ⟨W.heap.size+1+1+1,0,none⟩),.int .i64 0,.int .i64 0,.int .i64 0]) (by simp[results,results26,go_sem]) rfl ⟨q1,_,mn,F,rfl,q2⟩
end
end Go.Proofs.YthlcmljckpdheaaGreatDoor
