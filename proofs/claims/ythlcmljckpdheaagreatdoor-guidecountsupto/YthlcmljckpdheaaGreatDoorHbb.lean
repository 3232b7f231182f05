import Derived.Test.YthlcmljckpdheaaGreatDoorHA
import Derived.Deep.QuietTactic
import Derived.Test.YthlcmljckpdheaaGreatDoorHba
import Derived.Test.YthlcmljckpdheaaGreatDoorHav
import Derived.Test.YthlcmljckpdheaaGreatDoorHac
set_option linter.unusedVariables false
set_option linter.unusedSimpArgs false
set_option maxHeartbeats 32000000
set_option maxRecDepth 100000
namespace Go.Proofs.YthlcmljckpdheaaGreatDoor
open Go.RowKit Go.Maps Go.Lib Tryz
section
variable{w w' w1 w2 W W':World}{X mb lo:Nat}{lv ov:Value}{c:Cn}{l:List K.Nd}{i:Nat}{n:K.Nd}{nd:Array Value}{A:Int}{S:ByteArray}
theorem TW.cs{s a t k u:Value}(h:TW w #[s,a,t,k,u] lo X mb A S lv ov c W):W.cell? ⟨X,0,none⟩=some lv/\W.cell? ⟨X,1,none⟩=some (.map (some mb))/\W.cell? ⟨X,2,none⟩=some ov/\W.cell? ⟨w.heap.size,0,none⟩=some s/\W.cell? ⟨w.heap.size,4,none⟩=some u/\W.cell? ⟨w.heap.size+1,0,none⟩=some (.int .i64 A)/\W.cell? ⟨w.heap.size+1,1,none⟩=some (.string S)/\(∀j,W.frozen? ⟨w.heap.size+1,j,none⟩=false):=
 ⟨cell_of h.cm.blk rfl,cell_of h.cm.blk rfl,cell_of h.cm.blk rfl,cell_of h.node rfl,cell_of h.node rfl,cell_of h.prt rfl,cell_of h.prt rfl,fun j=>eR h.prt⟩
theorem TW.V5{j a:Nat}(h:TW w nd lo X mb A S lv ov c W)(hj:c.of[j]?=some a):∃g cap,ov=Z9 g c.of.length cap/\W.cell? ⟨g,j,none⟩=some (.int .i64 (a:Nat)):=by
 have hk:=(List.getElem?_eq_some_iff.1 hj).1;have hr:=h.cm.kI;have ll:(lM c.of).length=c.of.length*1:=hr.1;rcases hr.2 with⟨_,hz⟩|⟨g,cap,cur,rfl,_⟩
 ·omega
 ·refine⟨g,cap,rfl,(hr.cellAt _ (by omega)).trans ?_⟩;unfold lM;rw[aH,hj];rfl
theorem TW.new(h:CM lo X mb lv ov c w)(ox:lo<=w.heap.size)(nd:Array Value)(A:Int)(S:ByteArray):TW w nd lo X mb A S lv ov c ((w.alloc (.cells nd 44)).alloc (.cells #[.int .i64 A,.string S] 73)):=by
 have hb:=((Below.refl w.heap.size w).alloc (aj _) (.cells nd 44)).alloc (by simp) (.cells #[.int .i64 A,.string S] 73);have h1:=eL w (.cells nd 44);have h2:=eL (w.alloc (.cells nd 44)) (.cells #[.int .i64 A,.string S] 73);rw[bA]at h2;have hs:∀k,k<w.heap.size->_:=hb.block;exact⟨⟨(hs _ (eO h.blk)).trans h.blk,eH h.kr fun k e=>hs k (eW h.kr e),h.map.of (hs _ h.map.lt),eH h.kI fun k e=>hs k (eW h.kI e),h.new⟩,(ak _ _ _ (by simp)).trans h1,h2,hb.mono ox,ox⟩
theorem TW.drewN(h:TW w nd lo X mb A S lv ov c W)(k:Nat):TW w nd lo X mb A S lv ov c (W.drewN k):=h.keep (fun _ _=>rfl) ⟨rfl,rfl,rfl,aj _,fun _ _=>rfl⟩
theorem mL{kt t:TypeId}{b:Nat}{kv:List (Lit×Nat)}{key:Value}{kl:Lit}{k:Nat}{ok:Bool}(K:Keyed prog kt)(ht:prog.underlying t=some (.map kt 3))(h:jb w kt b kv)(hkey:keyOf prog kt key=some kl)(hc:(nB kv kl).getD 0=k)(iM:(nB kv kl).isSome=ok):(Instr.lookup t (.map (some b)) key true).run prog w=.ok (.tuple #[.int .i64 (k:Nat),.bool ok]) w:=by
 obtain⟨D,h1,h2,h3⟩:=h.ex;obtain⟨v,ps,hr,hv⟩:=h1.look_ok K ht (zeroValue3 _) (plainElem_int underlying3 (by decide)) hkey;obtain⟨c,rfl,hcc,-⟩:=eo underlying3 hv;have hat:=aA Prod.fst hcc;simp only at hat;rw[h3]at hat;rw[hr,h2,iM];have e:c=(k:Int):=by
  rw[<-hc];cases hf:nB kv kl with
  |none=>rw[hf]at hat;simp only at hat;cases hat;rfl
  |some n=>rw[hf]at hat;simp only at hat;cases hat;rfl
 rw[e]
theorem xI{kt t:TypeId}{b n:Nat}{kv:List (Lit×Nat)}{key:Value}{kl:Lit}(K:Keyed prog kt)(ht:prog.underlying t=some (.map kt 3))(h:jb w kt b kv)(hkey:keyOf prog kt key=some kl)(hn:nB kv kl=none)(hl:kv.length<4611686018427387904)(K5:n<4611686018427387904):∃w',(Instr.mapUpdate t (.map (some b)) key (.int .i64 (n:Nat))).run prog w=.ok () w'/\jb w' kt b (kv++[(kl,n)])/\w.grownBy w' (some b):=by
 obtain⟨D,h1,h2,h3⟩:=h.ex;have DC:(Lit.int .i64 (n:Nat)).wf=true:=by
  have e1:IntKind.i64.min= -9223372036854775808:=by decide
  have e2:IntKind.i64.max=9223372036854775807:=by decide
  simp[Lit.wf,e1,e2];omega
 obtain⟨w',hr,hown,hgr⟩:=h1.store K ht (by unfold maxLen;omega) hkey (plainElem_int underlying3 DC);refine⟨w',hr,⟨_,by rw[af,bc];exact hown,fun k'=>?_,fun k' z=>?_⟩,hgr.grown⟩
 ·rw[xt];by_cases e:k'=kl
  ·subst e;rw[has_put_same h1.isMap (K.key hkey),hn];simp[bZ (K.key hkey)]
  ·rw[has_put_other e,h2,dC (fun h=>e h.symm)];cases nB kv k'<;>rfl
 ·rw[xt];by_cases e:k'=kl
  ·subst e;rw[atKey_put_same h1.isMap (K.key hkey),hn];simp[bZ (K.key hkey)]
  ·rw[atKey_put_other e,h3,dC (fun h=>e h.symm)];cases nB kv k'<;>rfl
def TkP(w:World)(lo X mb:Nat)(c:Cn)(w':World):Prop:=∃lv ov,CM lo X mb lv ov c w'/\Below lo w w'
theorem RA{k:Nat}{xk:L×Nat}(av kv:Value)(tx S0:ByteArray){q P:L}{u:Int}(h:CM lo X mb lv ov c w)(ox:lo<=w.heap.size)(hS:(S0.toList.isEmpty=true/\bs q=⟨#[35]⟩)\/(S0.toList.isEmpty=false/\bs q=S0))(l8:(u<0/\A= -1/\P=[])\/(0<=u/\∃a x,c.of[u.toNat]?=some a/\c.labels[a]?=some x/\A=(a:Nat)/\P=x.1))(hk:pG c.keys (A,q)=some k)(Nq:c.labels[k]?=some xk)(iM:zz (A,q))(RB:∀y∈c.keys,zz y.1)(hx2:xk.2<=1000000000000)(hof:c.of.length<=1000000000000):Z4 9 #[Z8 X,.agg #[.string S0,av,.string tx,kv,.int .i64 u]] w fun e w'=>e=.returned (.tuple #[])/\TkP w lo X mb ⟨c.labels.modify k fun x=>(x.1,x.2+1),c.keys,c.of++[k]⟩ w':=by
 obtain⟨oa,oc,rfl⟩:=eF h.kI;have HT:=a_ (TW.new h ox #[.string S0,av,.string tx,kv,.int .i64 u] (-1) S0);have hkey:=Rx _ iM;have sB:=(Kl iM RB).trans hk;have hcc:(nB (oI c.keys) (tV (A,q))).getD 0=k:=by rw[sB];rfl
 have Dw:(nB (oI c.keys) (tV (A,q))).isSome=true:=by rw[sB];rfl
 have hwr:IntKind.i64.wrap ((xk.2:Nat)+1:Int)=((xk.2:Nat)+1:Int):=by rw[aI];omega
 obtain⟨i0,qA,hz0,hz1,hz2⟩:=aZ K.uv;have mN:(k:Int)<(c.labels.length:Int):=by have:=(List.getElem?_eq_some_iff.1 Nq).1;omega
 simp only at hkey;clear h ox hk sB RB iM;rcases l8 with⟨hu,hA,hP⟩|⟨hu,a,x,ho,hl,hA,hP⟩
 ·have LV:¬(0<=u):=by omega
  obtain⟨W1,hW1⟩:∃W1,(w.alloc (.cells #[.string S0,av,.string tx,kv,.int .i64 u] 44)).alloc (.cells #[.int .i64 (-1),.string S0] 73)=W1:=⟨_,rfl⟩
  rw[hW1,<-hA]at HT;obtain⟨x0,x1,x2,n0,n4,p0,p1,pf⟩:=HT.out.cs;clear hA;have RE:=pf 1;rcases hS with⟨hS,hq⟩|⟨hS,hq⟩
  ·obtain⟨W2,hW2⟩:∃W2,W1.setCell ⟨w.heap.size+1,1,none⟩ (.string ⟨#[35]⟩)=W2:=⟨_,rfl⟩
   have H2:=HT.out.Nn 1 (.string ⟨#[35]⟩) A (bs q) (by rw[hq];rfl);rw[hW2]at H2;go_enter func9,ntmps9;go_wp2_with fail;have HT:=a_ H2;clear hW2 H2 hq hS x0 x1 x2 n0 n4 p0 p1 pf RE hW1 LV hu;obtain⟨x0,x1,x2,n0,n4,p0,p1,pf⟩:=HT.out.drew.cs;have hlk:=mL (t:=38) vq underlying38 HT.out.drew.cm.map hkey hcc Dw;go_region_law (fail);all_goals
    clear x0 x1 x2 n0 n4 p0 p1 pf hlk;have HT:=a_ HT.out.drew;generalize W2.drew=W3 at*
    obtain⟨gl,c1,rfl,y1,y0,yf,T4⟩:=HT.out.inc Nq;obtain⟨x0,x1,x2,-⟩:=HT.out.cs;obtain⟨W4,DB⟩:∃W4,W3.setCell ⟨gl,k*2+1,none⟩ (.int .i64 (((xk.2:Nat):Int)+1))=W4:=⟨_,rfl⟩
    rw[DB]at T4;obtain⟨z0,z1,z2,-⟩:=T4.cs;have HO:=a_ (T4.alloc (.cells #[.int .i64 (k:Nat)] 3));have HN:=a_ (b8 W4 (.int .i64 (k:Nat)) 3);clear T4 y0 x1 x2 z0 z1 HT;go_wp2_with(at_builtin;refine aK (w:=_) rfl _ _ 39 rfl 0 3 i0 _ 1 8 underlying39 qA hz0 hz1 hz2 rfl (by decide) (.slice oa c.of.length oc) c.of.length (lM c.of) rfl HO.out.cm.kI ⟨W4.heap.size,0,none⟩ 1 1 [.int .i64 (k:Nat)] rfl rfl HN.out (by simp[Value.oneCell']) (by unfold maxLen;omega) (by omega) (aq _) ?_;intro v7 w7 jg ku _ gK;obtain⟨a7,n7,c7,rfl⟩:=eX jg;obtain⟨x7,f7,HE⟩:=HO.out.F9 jg ku gK;have HE:=a_ HE;clear jg ku gK)
    go_end0
    exact⟨rfl,_,_,HE.out⟩
  ·have H2:Hid (TW w #[.string S0,av,.string tx,kv,.int .i64 u] lo X mb A (bs q) lv (.slice oa c.of.length oc) c W1):=by rw[hq];exact HT
   go_enter func9,ntmps9;go_wp2_with fail;have HT:=H2;clear H2 hq hS x0 x1 x2 n0 n4 p0 p1 pf RE hW1 LV hu;obtain⟨x0,x1,x2,n0,n4,p0,p1,pf⟩:=HT.out.drew.cs;have hlk:=mL (t:=38) vq underlying38 HT.out.drew.cm.map hkey hcc Dw;go_region_law (fail);all_goals
    clear x0 x1 x2 n0 n4 p0 p1 pf hlk;have HT:=a_ HT.out.drew;generalize W1.drew=W3 at*
    obtain⟨gl,c1,rfl,y1,y0,yf,T4⟩:=HT.out.inc Nq;obtain⟨x0,x1,x2,-⟩:=HT.out.cs;obtain⟨W4,DB⟩:∃W4,W3.setCell ⟨gl,k*2+1,none⟩ (.int .i64 (((xk.2:Nat):Int)+1))=W4:=⟨_,rfl⟩
    rw[DB]at T4;obtain⟨z0,z1,z2,-⟩:=T4.cs;have HO:=a_ (T4.alloc (.cells #[.int .i64 (k:Nat)] 3));have HN:=a_ (b8 W4 (.int .i64 (k:Nat)) 3);clear T4 y0 x1 x2 z0 z1 HT;go_wp2_with(at_builtin;refine aK (w:=_) rfl _ _ 39 rfl 0 3 i0 _ 1 8 underlying39 qA hz0 hz1 hz2 rfl (by decide) (.slice oa c.of.length oc) c.of.length (lM c.of) rfl HO.out.cm.kI ⟨W4.heap.size,0,none⟩ 1 1 [.int .i64 (k:Nat)] rfl rfl HN.out (by simp[Value.oneCell']) (by unfold maxLen;omega) (by omega) (aq _) ?_;intro v7 w7 jg ku _ gK;obtain⟨a7,n7,c7,rfl⟩:=eX jg;obtain⟨x7,f7,HE⟩:=HO.out.F9 jg ku gK;have HE:=a_ HE;clear jg ku gK)
    go_end0
    exact⟨rfl,_,_,HE.out⟩
 ·go_enter func9,ntmps9;go_wp2_with fail;generalize (w.alloc (.cells #[.string S0,av,.string tx,kv,.int .i64 u] 44)).alloc (.cells #[.int .i64 (-1),.string S0] 73)=W1 at*
  obtain⟨x0,x1,x2,n0,n4,p0,p1,pf⟩:=HT.out.drew.cs;obtain⟨g,c2,e2,o1⟩:=HT.out.drew.V5 ho;cases e2;have Sq:u<(c.of.length:Int):=by have:=(List.getElem?_eq_some_iff.1 ho).1;omega
  have p0f:=pf 0;go_region_law (fail);all_goals
   have RH:=a_ (HT.out.Nn 0 (.int .i64 (a:Nat)) A S0 (by rw[hA];rfl)).drew;clear x0 x1 x2 n0 n4 p0 p1 pf o1 p0f HT;generalize (W1.setCell ⟨w.heap.size+1,0,none⟩ (.int .i64 (a:Nat))).drew=W2 at*
   have HT:=RH;clear RH;obtain⟨x0,x1,x2,n0,n4,p0,p1,pf⟩:=HT.out.cs;obtain⟨gl,c1,rfl,y1,y0,-,-⟩:=HT.out.inc hl;rw[hA]at p0;have HA:=a_ hA;clear hA;have NF:(a:Int)<(c.labels.length:Int):=by have:=(List.getElem?_eq_some_iff.1 hl).1;omega
   go_wp2_with fail;go_quiet(fail);have RH:=a_ (HT.out.drewN nq);clear HT x0 x1 x2 n0 n4 p0 p1 pf y1 y0 NF Sq HA hl ho hu;have HT:=RH;clear RH;generalize W2.drewN nq=W1 at*
   obtain⟨x0,x1,x2,n0,n4,p0,p1,pf⟩:=HT.out.cs;have RE:=pf 1;rcases hS with⟨hS,hq⟩|⟨hS,hq⟩
   ·obtain⟨W2,hW2⟩:∃W2,W1.setCell ⟨w.heap.size+1,1,none⟩ (.string ⟨#[35]⟩)=W2:=⟨_,rfl⟩
    have H2:=HT.out.Nn 1 (.string ⟨#[35]⟩) A (bs q) (by rw[hq];rfl);rw[hW2]at H2;go_wp2_with fail;have HT:=a_ H2;clear hW2 H2 hq hS x0 x1 x2 n0 n4 p0 p1 pf RE;obtain⟨x0,x1,x2,n0,n4,p0,p1,pf⟩:=HT.out.drew.cs;have hlk:=mL (t:=38) vq underlying38 HT.out.drew.cm.map hkey hcc Dw;go_region_law (fail);all_goals
     clear x0 x1 x2 n0 n4 p0 p1 pf hlk;have HT:=a_ HT.out.drew;generalize W2.drew=W3 at*
     obtain⟨gl2,c12,e3,y1,y0,yf,T4⟩:=HT.out.inc Nq;cases e3;obtain⟨x0,x1,x2,-⟩:=HT.out.cs;obtain⟨W4,DB⟩:∃W4,W3.setCell ⟨gl,k*2+1,none⟩ (.int .i64 (((xk.2:Nat):Int)+1))=W4:=⟨_,rfl⟩
     rw[DB]at T4;obtain⟨z0,z1,z2,-⟩:=T4.cs;have HO:=a_ (T4.alloc (.cells #[.int .i64 (k:Nat)] 3));have HN:=a_ (b8 W4 (.int .i64 (k:Nat)) 3);clear T4 y0 x1 x2 z0 z1 HT;go_wp2_with(at_builtin;refine aK (w:=_) rfl _ _ 39 rfl 0 3 i0 _ 1 8 underlying39 qA hz0 hz1 hz2 rfl (by decide) (Z9 g c.of.length oc) c.of.length (lM c.of) rfl HO.out.cm.kI ⟨W4.heap.size,0,none⟩ 1 1 [.int .i64 (k:Nat)] rfl rfl HN.out (by simp[Value.oneCell']) (by unfold maxLen;omega) (by omega) (aq _) ?_;intro v7 w7 jg ku _ gK;obtain⟨a7,n7,c7,rfl⟩:=eX jg;obtain⟨x7,f7,HE⟩:=HO.out.F9 jg ku gK;have HE:=a_ HE;clear jg ku gK)
     go_end0
     exact⟨rfl,_,_,HE.out⟩
   ·have H2:Hid (TW w #[.string S0,av,.string tx,kv,.int .i64 u] lo X mb A (bs q) (Z9 gl c.labels.length c1) (Z9 g c.of.length oc) c W1):=by rw[hq];exact HT
    go_wp2_with fail;have HT:=H2;clear H2 hq hS x0 x1 x2 n0 n4 p0 p1 pf RE;obtain⟨x0,x1,x2,n0,n4,p0,p1,pf⟩:=HT.out.drew.cs;have hlk:=mL (t:=38) vq underlying38 HT.out.drew.cm.map hkey hcc Dw;go_region_law (fail);all_goals
     clear x0 x1 x2 n0 n4 p0 p1 pf hlk;have HT:=a_ HT.out.drew;generalize W1.drew=W3 at*
     obtain⟨gl2,c12,e3,y1,y0,yf,T4⟩:=HT.out.inc Nq;cases e3;obtain⟨x0,x1,x2,-⟩:=HT.out.cs;obtain⟨W4,DB⟩:∃W4,W3.setCell ⟨gl,k*2+1,none⟩ (.int .i64 (((xk.2:Nat):Int)+1))=W4:=⟨_,rfl⟩
     rw[DB]at T4;obtain⟨z0,z1,z2,-⟩:=T4.cs;have HO:=a_ (T4.alloc (.cells #[.int .i64 (k:Nat)] 3));have HN:=a_ (b8 W4 (.int .i64 (k:Nat)) 3);clear T4 y0 x1 x2 z0 z1 HT;go_wp2_with(at_builtin;refine aK (w:=_) rfl _ _ 39 rfl 0 3 i0 _ 1 8 underlying39 qA hz0 hz1 hz2 rfl (by decide) (Z9 g c.of.length oc) c.of.length (lM c.of) rfl HO.out.cm.kI ⟨W4.heap.size,0,none⟩ 1 1 [.int .i64 (k:Nat)] rfl rfl HN.out (by simp[Value.oneCell']) (by unfold maxLen;omega) (by omega) (aq _) ?_;intro v7 w7 jg ku _ gK;obtain⟨a7,n7,c7,rfl⟩:=eX jg;obtain⟨x7,f7,HE⟩:=HO.out.F9 jg ku gK;have HE:=a_ HE;clear jg ku gK)
     go_end0
     exact⟨rfl,_,_,HE.out⟩
end
section
variable{w w' w1 w2 W W':World}{X mb lo:Nat}{lv ov:Value}{c:Cn}{l:List K.Nd}{i:Nat}{n:K.Nd}{nd:Array Value}{A:Int}{S:ByteArray}
theorem Kn:(prog.info? 31).map (fun i=>(i.zero,i.size,i.bytes))=some (some (.agg #[.string ⟨#[]⟩,.int .i64 0]),2,24):=by kernel_rfl
theorem Va{T G:Prop}(h:T->G)(t:T):G:=h t
theorem Vb{H T:Option Addr->Nat->Nat->World->Prop}{G:Prop}(h:(∀a n c W,H a n c W->T a n c W)->G)(t:∀a n c W,H a n c W->T a n c W):G:=h t
theorem oK(ls:List (L×Nat))(s:L):(ls++[(s,0)]).modify ls.length (fun x=>(x.1,x.2+1))=ls++[(s,1)]:=by
 induction ls with
 |nil=>rfl
 |cons y ls ih=>
  show y::(ls++[(s,0)]).modify ls.length _=_;rw[ih];rfl
theorem RJ(a:L):bs a++⟨#[47]⟩=bs (a++[47]):=by apply cq;apply dX;simp[bs]
theorem RM(a b:L):bs (a++[47])++bs b=bs (a++47::b):=by apply cq;apply dX;simp[bs]
theorem Nr(av kv:Value)(tx S0:ByteArray){q P:L}{u:Int}(h:CM lo X mb lv ov c w)(ox:lo<=w.heap.size)(hS:(S0.toList.isEmpty=true/\bs q=⟨#[35]⟩)\/(S0.toList.isEmpty=false/\bs q=S0))(l8:(u<0/\A= -1/\P=[])\/(0<=u/\∃a x,c.of[u.toNat]?=some a/\c.labels[a]?=some x/\A=(a:Nat)/\P=x.1))(hk:pG c.keys (A,q)=none)(iM:zz (A,q))(RB:∀y∈c.keys,zz y.1)(hP2:P.length<=1000000000000)(Nz:c.labels.length<=1000000000000)(hkb:c.keys.length<=1000000000000)(hof:c.of.length<=1000000000000):Z4 9 #[Z8 X,.agg #[.string S0,av,.string tx,kv,.int .i64 u]] w fun e w'=>e=.returned (.tuple #[])/\TkP w lo X mb ⟨c.labels++[(P++47::q,1)],c.keys++[((A,q),c.labels.length)],c.of++[c.labels.length]⟩ w':=by
 obtain⟨oa,oc,rfl⟩:=eF h.kI;have HT:=a_ (TW.new h ox #[.string S0,av,.string tx,kv,.int .i64 u] (-1) S0);have hkey:=Rx _ iM;have sB:=(Kl iM RB).trans hk;have hcc:(nB (oI c.keys) (tV (A,q))).getD 0=0:=by rw[sB];rfl
 have Dw:(nB (oI c.keys) (tV (A,q))).isSome=false:=by rw[sB];rfl
 obtain⟨i0,qA,hz0,hz1,hz2⟩:=aZ K.uv;have hql:q.length<=1000000000000:=iM.2;simp only at hkey;clear h ox hk RB iM;rcases l8 with⟨hu,hA,hP⟩|⟨hu,a,x,ho,hl,hA,hP⟩
 ·have LV:¬(0<=u):=by omega
  obtain⟨W1,hW1⟩:∃W1,(w.alloc (.cells #[.string S0,av,.string tx,kv,.int .i64 u] 44)).alloc (.cells #[.int .i64 (-1),.string S0] 73)=W1:=⟨_,rfl⟩
  rw[hW1,<-hA]at HT;obtain⟨x0,x1,x2,n0,n4,p0,p1,pf⟩:=HT.out.cs;clear hA;have RE:=pf 1;rcases hS with⟨hS,hq⟩|⟨hS,hq⟩
  ·obtain⟨W2,hW2⟩:∃W2,W1.setCell ⟨w.heap.size+1,1,none⟩ (.string ⟨#[35]⟩)=W2:=⟨_,rfl⟩
   have H2:=HT.out.Nn 1 (.string ⟨#[35]⟩) A (bs q) (by rw[hq];rfl);rw[hW2]at H2;go_enter func9,ntmps9;go_wp2_with fail;have HT:=a_ H2;clear hW2 H2 hq hS x0 x1 x2 n0 n4 p0 p1 pf RE hW1 LV hu;obtain⟨x0,x1,x2,n0,n4,p0,p1,pf⟩:=HT.out.drew.cs;have hlk:=mL (t:=38) vq underlying38 HT.out.drew.cm.map hkey hcc Dw;go_region_law (fail);all_goals
    clear x0 x1 x2 n0 n4 p0 p1 pf hlk;have HT:=a_ HT.out.drew;generalize W2.drew=W3 at*
    obtain⟨la,lc,el⟩:=eF HT.out.cm.kr;cases el;have x0:=HT.out.cs.1;go_wp2_with fail;clear x0;obtain⟨x0,x1,x2,n0,n4,p0,p1,pf⟩:=HT.out.drew.cs;obtain⟨Wp,hput,hm,hg⟩:=xI (t:=38) (n:=c.labels.length) vq underlying38 HT.out.drew.cm.map hkey sB (by simp[oI];omega) (by omega);apply Va
    ·intro J;go_region_law (fail);all_goals exact J
    clear x0 x1 x2 n0 n4 p0 p1 pf hput;have HT:=a_ (HT.out.drew.put hm hg);clear hm hg;obtain⟨x0,x1,x2,n0,n4,p0,p1,pf⟩:=HT.out.cs;go_wp2_with fail;rw[show (⟨#[]⟩:ByteArray)=bs P by rw[hP];rfl];clear hP;obtain⟨j0,Yo,Gn,Gp,xu⟩:=aZ Kn;have hz3:¬(9223372036854775807<(bs P).size+1):=by rw[fB];omega
    have Uv:¬(9223372036854775807<(bs (P++[47])).size+(bs q).size):=by rw[fB,fB];simp;omega
    have hc0:=RJ P;have hc1:=RM P q;obtain⟨y0,y1,y2,-,-,-,z1,-⟩:=HT.out.drew.cs;have z0:∀o,(Wp.alloc o).cell? ⟨X,0,none⟩=some (.slice la c.labels.length lc):=fun o=>eG (w:=Wp) o y0;have z2:∀o,(Wp.alloc o).cell? ⟨w.heap.size+1,1,none⟩=some (.string (bs q)):=fun o=>eG (w:=Wp) o z1;have HO:=a_ (HT.out.drew.alloc (.cells #[.string (bs (P++47::q)),.int .i64 0] 31));have HN:=a_ (pN [.string (bs (P++47::q)),.int .i64 0] 31 Wp.drew);clear y1 y2 x0 x1 x2 n0 n4 p0 p1 pf;apply Vb (H:=fun a n c2 W=>Hid (TW w #[.string S0,av,.string tx,kv,.int .i64 u] lo X mb A (bs q) (.slice a n c2) (.slice oa c.of.length oc) ⟨c.labels++[(P++47::q,0)],c.keys++[((A,q),c.labels.length)],c.of⟩ W))
    ·intro J;go_region_law
      (first|(
       refine fA rfl (.tmp 62) (.tmp 69) 22 rfl 31 j0 _ 2 24 underlying22 Yo Gn Gp xu rfl (by decide) (.slice la c.labels.length lc) c.labels.length (k9 c.labels) (by simp[Act.eval,Act.put]) HO.out.cm.kr ⟨Wp.heap.size,0,none⟩ 1 1 [.string (bs (P++47::q)),.int .i64 0] (by simp[Act.eval,Act.put]) rfl HN.out (by simp[Value.oneCell']) (by unfold maxLen;omega) (by omega) ?_;intro v7 w7 jg ku gK;obtain⟨a7,n7,c7,rfl⟩:=eX jg;obtain⟨x7,f7,HE⟩:=HO.out.U_ (x:=(P++47::q,0)) jg ku gK;have HE:=a_ HE;clear jg ku gK))
     all_goals
      generalize w7.setCell ⟨X,0,none⟩ (.slice a7 n7 c7)=W7 at*
      exact J a7 n7 c7 W7 HE
    clear z0 z1 z2 y0 hz3 Uv hc0 hc1 HO HN HT;intro a7 n7 c7 W7 HT;have Nq:(c.labels++[(P++47::q,0)])[c.labels.length]?=some (P++47::q,0):=by simp
    obtain⟨gk,c1k,e3,y1,y0,yf,T4⟩:=HT.out.inc (Nq);have e4:(c.labels++[(P++47::q,0)]).length=c.labels.length+1:=by simp
    simp only[e4]at e3;cases e3;obtain⟨W4,DB⟩:∃W4,W7.setCell ⟨gk,c.labels.length*2+1,none⟩ (.int .i64 1)=W4:=⟨_,rfl⟩
    have x0:=HT.out.cs.1;have T5:TW w #[.string S0,av,.string tx,kv,.int .i64 u] lo X mb A (bs q) (Z9 gk (c.labels.length+1) c7) (.slice oa c.of.length oc) ⟨c.labels++[(P++47::q,1)],c.keys++[((A,q),c.labels.length)],c.of⟩ W4:=by
     rw[<-DB,<-oK];exact T4
    clear T4;obtain⟨-,-,z2,-⟩:=T5.cs;have mN:(c.labels.length:Int)<(c.labels.length:Int)+1:=by omega
    have HO:=a_ (T5.alloc (.cells #[.int .i64 (c.labels.length:Nat)] 3));have HN:=a_ (b8 W4 (.int .i64 (c.labels.length:Nat)) 3);clear T5 y0 HT;go_wp2_with(at_builtin;refine aK (w:=_) rfl _ _ 39 rfl 0 3 i0 _ 1 8 underlying39 qA hz0 hz1 hz2 rfl (by decide) (.slice oa c.of.length oc) c.of.length (lM c.of) rfl HO.out.cm.kI ⟨W4.heap.size,0,none⟩ 1 1 [.int .i64 (c.labels.length:Nat)] rfl rfl HN.out (by simp[Value.oneCell']) (by unfold maxLen;omega) (by omega) (aq _) ?_;intro v7 w7 jg ku _ gK;obtain⟨a7,n7,c7,rfl⟩:=eX jg;obtain⟨x7,f7,HE⟩:=HO.out.F9 jg ku gK;have HE:=a_ HE;clear jg ku gK)
    go_end0
    exact⟨rfl,_,_,HE.out⟩
  ·have H2:Hid (TW w #[.string S0,av,.string tx,kv,.int .i64 u] lo X mb A (bs q) lv (.slice oa c.of.length oc) c W1):=by rw[hq];exact HT
   go_enter func9,ntmps9;go_wp2_with fail;have HT:=H2;clear H2 hq hS x0 x1 x2 n0 n4 p0 p1 pf RE hW1 LV hu;obtain⟨x0,x1,x2,n0,n4,p0,p1,pf⟩:=HT.out.drew.cs;have hlk:=mL (t:=38) vq underlying38 HT.out.drew.cm.map hkey hcc Dw;go_region_law (fail);all_goals
    clear x0 x1 x2 n0 n4 p0 p1 pf hlk;have HT:=a_ HT.out.drew;generalize W1.drew=W3 at*
    obtain⟨la,lc,el⟩:=eF HT.out.cm.kr;cases el;have x0:=HT.out.cs.1;go_wp2_with fail;clear x0;obtain⟨x0,x1,x2,n0,n4,p0,p1,pf⟩:=HT.out.drew.cs;obtain⟨Wp,hput,hm,hg⟩:=xI (t:=38) (n:=c.labels.length) vq underlying38 HT.out.drew.cm.map hkey sB (by simp[oI];omega) (by omega);apply Va
    ·intro J;go_region_law (fail);all_goals exact J
    clear x0 x1 x2 n0 n4 p0 p1 pf hput;have HT:=a_ (HT.out.drew.put hm hg);clear hm hg;obtain⟨x0,x1,x2,n0,n4,p0,p1,pf⟩:=HT.out.cs;go_wp2_with fail;rw[show (⟨#[]⟩:ByteArray)=bs P by rw[hP];rfl];clear hP;obtain⟨j0,Yo,Gn,Gp,xu⟩:=aZ Kn;have hz3:¬(9223372036854775807<(bs P).size+1):=by rw[fB];omega
    have Uv:¬(9223372036854775807<(bs (P++[47])).size+(bs q).size):=by rw[fB,fB];simp;omega
    have hc0:=RJ P;have hc1:=RM P q;obtain⟨y0,y1,y2,-,-,-,z1,-⟩:=HT.out.drew.cs;have z0:∀o,(Wp.alloc o).cell? ⟨X,0,none⟩=some (.slice la c.labels.length lc):=fun o=>eG (w:=Wp) o y0;have z2:∀o,(Wp.alloc o).cell? ⟨w.heap.size+1,1,none⟩=some (.string (bs q)):=fun o=>eG (w:=Wp) o z1;have HO:=a_ (HT.out.drew.alloc (.cells #[.string (bs (P++47::q)),.int .i64 0] 31));have HN:=a_ (pN [.string (bs (P++47::q)),.int .i64 0] 31 Wp.drew);clear y1 y2 x0 x1 x2 n0 n4 p0 p1 pf;apply Vb (H:=fun a n c2 W=>Hid (TW w #[.string S0,av,.string tx,kv,.int .i64 u] lo X mb A (bs q) (.slice a n c2) (.slice oa c.of.length oc) ⟨c.labels++[(P++47::q,0)],c.keys++[((A,q),c.labels.length)],c.of⟩ W))
    ·intro J;go_region_law
      (first|(
       refine fA rfl (.tmp 62) (.tmp 69) 22 rfl 31 j0 _ 2 24 underlying22 Yo Gn Gp xu rfl (by decide) (.slice la c.labels.length lc) c.labels.length (k9 c.labels) (by simp[Act.eval,Act.put]) HO.out.cm.kr ⟨Wp.heap.size,0,none⟩ 1 1 [.string (bs (P++47::q)),.int .i64 0] (by simp[Act.eval,Act.put]) rfl HN.out (by simp[Value.oneCell']) (by unfold maxLen;omega) (by omega) ?_;intro v7 w7 jg ku gK;obtain⟨a7,n7,c7,rfl⟩:=eX jg;obtain⟨x7,f7,HE⟩:=HO.out.U_ (x:=(P++47::q,0)) jg ku gK;have HE:=a_ HE;clear jg ku gK))
     all_goals
      generalize w7.setCell ⟨X,0,none⟩ (.slice a7 n7 c7)=W7 at*
      exact J a7 n7 c7 W7 HE
    clear z0 z1 z2 y0 hz3 Uv hc0 hc1 HO HN HT;intro a7 n7 c7 W7 HT;have Nq:(c.labels++[(P++47::q,0)])[c.labels.length]?=some (P++47::q,0):=by simp
    obtain⟨gk,c1k,e3,y1,y0,yf,T4⟩:=HT.out.inc (Nq);have e4:(c.labels++[(P++47::q,0)]).length=c.labels.length+1:=by simp
    simp only[e4]at e3;cases e3;obtain⟨W4,DB⟩:∃W4,W7.setCell ⟨gk,c.labels.length*2+1,none⟩ (.int .i64 1)=W4:=⟨_,rfl⟩
    have x0:=HT.out.cs.1;have T5:TW w #[.string S0,av,.string tx,kv,.int .i64 u] lo X mb A (bs q) (Z9 gk (c.labels.length+1) c7) (.slice oa c.of.length oc) ⟨c.labels++[(P++47::q,1)],c.keys++[((A,q),c.labels.length)],c.of⟩ W4:=by
     rw[<-DB,<-oK];exact T4
    clear T4;obtain⟨-,-,z2,-⟩:=T5.cs;have mN:(c.labels.length:Int)<(c.labels.length:Int)+1:=by omega
    have HO:=a_ (T5.alloc (.cells #[.int .i64 (c.labels.length:Nat)] 3));have HN:=a_ (b8 W4 (.int .i64 (c.labels.length:Nat)) 3);clear T5 y0 HT;go_wp2_with(at_builtin;refine aK (w:=_) rfl _ _ 39 rfl 0 3 i0 _ 1 8 underlying39 qA hz0 hz1 hz2 rfl (by decide) (.slice oa c.of.length oc) c.of.length (lM c.of) rfl HO.out.cm.kI ⟨W4.heap.size,0,none⟩ 1 1 [.int .i64 (c.labels.length:Nat)] rfl rfl HN.out (by simp[Value.oneCell']) (by unfold maxLen;omega) (by omega) (aq _) ?_;intro v7 w7 jg ku _ gK;obtain⟨a7,n7,c7,rfl⟩:=eX jg;obtain⟨x7,f7,HE⟩:=HO.out.F9 jg ku gK;have HE:=a_ HE;clear jg ku gK)
    go_end0
    exact⟨rfl,_,_,HE.out⟩
 ·go_enter func9,ntmps9;go_wp2_with fail;generalize (w.alloc (.cells #[.string S0,av,.string tx,kv,.int .i64 u] 44)).alloc (.cells #[.int .i64 (-1),.string S0] 73)=W1 at*
  obtain⟨x0,x1,x2,n0,n4,p0,p1,pf⟩:=HT.out.drew.cs;obtain⟨g,c2,e2,o1⟩:=HT.out.drew.V5 ho;cases e2;have Sq:u<(c.of.length:Int):=by have:=(List.getElem?_eq_some_iff.1 ho).1;omega
  have p0f:=pf 0;go_region_law (fail);all_goals
   have RH:=a_ (HT.out.Nn 0 (.int .i64 (a:Nat)) A S0 (by rw[hA];rfl)).drew;clear x0 x1 x2 n0 n4 p0 p1 pf o1 p0f HT;generalize (W1.setCell ⟨w.heap.size+1,0,none⟩ (.int .i64 (a:Nat))).drew=W2 at*
   have HT:=RH;clear RH;obtain⟨x0,x1,x2,n0,n4,p0,p1,pf⟩:=HT.out.cs;obtain⟨gl,c1,rfl,y1,y0,-,-⟩:=HT.out.inc hl;rw[hA]at p0;have HA:=a_ hA;clear hA;have NF:(a:Int)<(c.labels.length:Int):=by have:=(List.getElem?_eq_some_iff.1 hl).1;omega
   go_wp2_with fail;go_quiet(fail);have RH:=a_ (HT.out.drewN nq);clear HT x0 x1 x2 n0 n4 p0 p1 pf y1 y0 NF Sq HA hl ho hu;have HT:=RH;clear RH;generalize W2.drewN nq=W1 at*
   obtain⟨x0,x1,x2,n0,n4,p0,p1,pf⟩:=HT.out.cs;have RE:=pf 1;rcases hS with⟨hS,hq⟩|⟨hS,hq⟩
   ·obtain⟨W2,hW2⟩:∃W2,W1.setCell ⟨w.heap.size+1,1,none⟩ (.string ⟨#[35]⟩)=W2:=⟨_,rfl⟩
    have H2:=HT.out.Nn 1 (.string ⟨#[35]⟩) A (bs q) (by rw[hq];rfl);rw[hW2]at H2;go_wp2_with fail;have HT:=a_ H2;clear hW2 H2 hq hS x0 x1 x2 n0 n4 p0 p1 pf RE;obtain⟨x0,x1,x2,n0,n4,p0,p1,pf⟩:=HT.out.drew.cs;have hlk:=mL (t:=38) vq underlying38 HT.out.drew.cm.map hkey hcc Dw;go_region_law (fail);all_goals
     clear x0 x1 x2 n0 n4 p0 p1 pf hlk;have HT:=a_ HT.out.drew;generalize W2.drew=W3 at*
     have x0:=HT.out.cs.1;go_wp2_with fail;clear x0;obtain⟨x0,x1,x2,n0,n4,p0,p1,pf⟩:=HT.out.drew.cs;obtain⟨Wp,hput,hm,hg⟩:=xI (t:=38) (n:=c.labels.length) vq underlying38 HT.out.drew.cm.map hkey sB (by simp[oI];omega) (by omega);apply Va
     ·intro J;go_region_law (fail);all_goals exact J
     clear x0 x1 x2 n0 n4 p0 p1 pf hput;have HT:=a_ (HT.out.drew.put hm hg);clear hm hg;obtain⟨x0,x1,x2,n0,n4,p0,p1,pf⟩:=HT.out.cs;go_wp2_with fail;rw[<-hP];clear hP;obtain⟨j0,Yo,Gn,Gp,xu⟩:=aZ Kn;have hz3:¬(9223372036854775807<(bs P).size+1):=by rw[fB];omega
     have Uv:¬(9223372036854775807<(bs (P++[47])).size+(bs q).size):=by rw[fB,fB];simp;omega
     have hc0:=RJ P;have hc1:=RM P q;obtain⟨y0,y1,y2,-,-,-,z1,-⟩:=HT.out.drew.cs;have z0:∀o,(Wp.alloc o).cell? ⟨X,0,none⟩=some (Z9 gl c.labels.length c1):=fun o=>eG (w:=Wp) o y0;have z2:∀o,(Wp.alloc o).cell? ⟨w.heap.size+1,1,none⟩=some (.string (bs q)):=fun o=>eG (w:=Wp) o z1;have HO:=a_ (HT.out.drew.alloc (.cells #[.string (bs (P++47::q)),.int .i64 0] 31));have HN:=a_ (pN [.string (bs (P++47::q)),.int .i64 0] 31 Wp.drew);clear y1 y2 x0 x1 x2 n0 n4 p0 p1 pf;apply Vb (H:=fun a n c2 W=>Hid (TW w #[.string S0,av,.string tx,kv,.int .i64 u] lo X mb A (bs q) (.slice a n c2) (Z9 g c.of.length oc) ⟨c.labels++[(P++47::q,0)],c.keys++[((A,q),c.labels.length)],c.of⟩ W))
     ·intro J;go_region_law
       (first|(
        refine fA rfl (.tmp 62) (.tmp 69) 22 rfl 31 j0 _ 2 24 underlying22 Yo Gn Gp xu rfl (by decide) (Z9 gl c.labels.length c1) c.labels.length (k9 c.labels) (by simp[Act.eval,Act.put]) HO.out.cm.kr ⟨Wp.heap.size,0,none⟩ 1 1 [.string (bs (P++47::q)),.int .i64 0] (by simp[Act.eval,Act.put]) rfl HN.out (by simp[Value.oneCell']) (by unfold maxLen;omega) (by omega) ?_;intro v7 w7 jg ku gK;obtain⟨a7,n7,c7,rfl⟩:=eX jg;obtain⟨x7,f7,HE⟩:=HO.out.U_ (x:=(P++47::q,0)) jg ku gK;have HE:=a_ HE;clear jg ku gK))
      all_goals
       generalize w7.setCell ⟨X,0,none⟩ (.slice a7 n7 c7)=W7 at*
       exact J a7 n7 c7 W7 HE
     clear z0 z1 z2 y0 hz3 Uv hc0 hc1 HO HN HT;intro a7 n7 c7 W7 HT;have Nq:(c.labels++[(P++47::q,0)])[c.labels.length]?=some (P++47::q,0):=by simp
     obtain⟨gk,c1k,e3,y1,y0,yf,T4⟩:=HT.out.inc (Nq);have e4:(c.labels++[(P++47::q,0)]).length=c.labels.length+1:=by simp
     simp only[e4]at e3;cases e3;obtain⟨W4,DB⟩:∃W4,W7.setCell ⟨gk,c.labels.length*2+1,none⟩ (.int .i64 1)=W4:=⟨_,rfl⟩
     have x0:=HT.out.cs.1;have T5:TW w #[.string S0,av,.string tx,kv,.int .i64 u] lo X mb A (bs q) (Z9 gk (c.labels.length+1) c7) (Z9 g c.of.length oc) ⟨c.labels++[(P++47::q,1)],c.keys++[((A,q),c.labels.length)],c.of⟩ W4:=by
      rw[<-DB,<-oK];exact T4
     clear T4;obtain⟨-,-,z2,-⟩:=T5.cs;have mN:(c.labels.length:Int)<(c.labels.length:Int)+1:=by omega
     have HO:=a_ (T5.alloc (.cells #[.int .i64 (c.labels.length:Nat)] 3));have HN:=a_ (b8 W4 (.int .i64 (c.labels.length:Nat)) 3);clear T5 y0 HT;go_wp2_with(at_builtin;refine aK (w:=_) rfl _ _ 39 rfl 0 3 i0 _ 1 8 underlying39 qA hz0 hz1 hz2 rfl (by decide) (Z9 g c.of.length oc) c.of.length (lM c.of) rfl HO.out.cm.kI ⟨W4.heap.size,0,none⟩ 1 1 [.int .i64 (c.labels.length:Nat)] rfl rfl HN.out (by simp[Value.oneCell']) (by unfold maxLen;omega) (by omega) (aq _) ?_;intro v7 w7 jg ku _ gK;obtain⟨a7,n7,c7,rfl⟩:=eX jg;obtain⟨x7,f7,HE⟩:=HO.out.F9 jg ku gK;have HE:=a_ HE;clear jg ku gK)
     go_end0
     exact⟨rfl,_,_,HE.out⟩
   ·have H2:Hid (TW w #[.string S0,av,.string tx,kv,.int .i64 u] lo X mb A (bs q) (Z9 gl c.labels.length c1) (Z9 g c.of.length oc) c W1):=by rw[hq];exact HT
    go_wp2_with fail;have HT:=H2;clear H2 hq hS x0 x1 x2 n0 n4 p0 p1 pf RE;obtain⟨x0,x1,x2,n0,n4,p0,p1,pf⟩:=HT.out.drew.cs;have hlk:=mL (t:=38) vq underlying38 HT.out.drew.cm.map hkey hcc Dw;go_region_law (fail);all_goals
     clear x0 x1 x2 n0 n4 p0 p1 pf hlk;have HT:=a_ HT.out.drew;generalize W1.drew=W3 at*
     have x0:=HT.out.cs.1;go_wp2_with fail;clear x0;obtain⟨x0,x1,x2,n0,n4,p0,p1,pf⟩:=HT.out.drew.cs;obtain⟨Wp,hput,hm,hg⟩:=xI (t:=38) (n:=c.labels.length) vq underlying38 HT.out.drew.cm.map hkey sB (by simp[oI];omega) (by omega);apply Va
     ·intro J;go_region_law (fail);all_goals exact J
     clear x0 x1 x2 n0 n4 p0 p1 pf hput;have HT:=a_ (HT.out.drew.put hm hg);clear hm hg;obtain⟨x0,x1,x2,n0,n4,p0,p1,pf⟩:=HT.out.cs;go_wp2_with fail;rw[<-hP];clear hP;obtain⟨j0,Yo,Gn,Gp,xu⟩:=aZ Kn;have hz3:¬(9223372036854775807<(bs P).size+1):=by rw[fB];omega
     have Uv:¬(9223372036854775807<(bs (P++[47])).size+(bs q).size):=by rw[fB,fB];simp;omega
     have hc0:=RJ P;have hc1:=RM P q;obtain⟨y0,y1,y2,-,-,-,z1,-⟩:=HT.out.drew.cs;have z0:∀o,(Wp.alloc o).cell? ⟨X,0,none⟩=some (Z9 gl c.labels.length c1):=fun o=>eG (w:=Wp) o y0;have z2:∀o,(Wp.alloc o).cell? ⟨w.heap.size+1,1,none⟩=some (.string (bs q)):=fun o=>eG (w:=Wp) o z1;have HO:=a_ (HT.out.drew.alloc (.cells #[.string (bs (P++47::q)),.int .i64 0] 31));have HN:=a_ (pN [.string (bs (P++47::q)),.int .i64 0] 31 Wp.drew);clear y1 y2 x0 x1 x2 n0 n4 p0 p1 pf;apply Vb (H:=fun a n c2 W=>Hid (TW w #[.string S0,av,.string tx,kv,.int .i64 u] lo X mb A (bs q) (.slice a n c2) (Z9 g c.of.length oc) ⟨c.labels++[(P++47::q,0)],c.keys++[((A,q),c.labels.length)],c.of⟩ W))
     ·intro J;go_region_law
       (first|(
        refine fA rfl (.tmp 62) (.tmp 69) 22 rfl 31 j0 _ 2 24 underlying22 Yo Gn Gp xu rfl (by decide) (Z9 gl c.labels.length c1) c.labels.length (k9 c.labels) (by simp[Act.eval,Act.put]) HO.out.cm.kr ⟨Wp.heap.size,0,none⟩ 1 1 [.string (bs (P++47::q)),.int .i64 0] (by simp[Act.eval,Act.put]) rfl HN.out (by simp[Value.oneCell']) (by unfold maxLen;omega) (by omega) ?_;intro v7 w7 jg ku gK;obtain⟨a7,n7,c7,rfl⟩:=eX jg;obtain⟨x7,f7,HE⟩:=HO.out.U_ (x:=(P++47::q,0)) jg ku gK;have HE:=a_ HE;clear jg ku gK))
      all_goals
       generalize w7.setCell ⟨X,0,none⟩ (.slice a7 n7 c7)=W7 at*
       exact J a7 n7 c7 W7 HE
     clear z0 z1 z2 y0 hz3 Uv hc0 hc1 HO HN HT;intro a7 n7 c7 W7 HT;have Nq:(c.labels++[(P++47::q,0)])[c.labels.length]?=some (P++47::q,0):=by simp
     obtain⟨gk,c1k,e3,y1,y0,yf,T4⟩:=HT.out.inc (Nq);have e4:(c.labels++[(P++47::q,0)]).length=c.labels.length+1:=by simp
     simp only[e4]at e3;cases e3;obtain⟨W4,DB⟩:∃W4,W7.setCell ⟨gk,c.labels.length*2+1,none⟩ (.int .i64 1)=W4:=⟨_,rfl⟩
     have x0:=HT.out.cs.1;have T5:TW w #[.string S0,av,.string tx,kv,.int .i64 u] lo X mb A (bs q) (Z9 gk (c.labels.length+1) c7) (Z9 g c.of.length oc) ⟨c.labels++[(P++47::q,1)],c.keys++[((A,q),c.labels.length)],c.of⟩ W4:=by
      rw[<-DB,<-oK];exact T4
     clear T4;obtain⟨-,-,z2,-⟩:=T5.cs;have mN:(c.labels.length:Int)<(c.labels.length:Int)+1:=by omega
     have HO:=a_ (T5.alloc (.cells #[.int .i64 (c.labels.length:Nat)] 3));have HN:=a_ (b8 W4 (.int .i64 (c.labels.length:Nat)) 3);clear T5 y0 HT;go_wp2_with(at_builtin;refine aK (w:=_) rfl _ _ 39 rfl 0 3 i0 _ 1 8 underlying39 qA hz0 hz1 hz2 rfl (by decide) (Z9 g c.of.length oc) c.of.length (lM c.of) rfl HO.out.cm.kI ⟨W4.heap.size,0,none⟩ 1 1 [.int .i64 (c.labels.length:Nat)] rfl rfl HN.out (by simp[Value.oneCell']) (by unfold maxLen;omega) (by omega) (aq _) ?_;intro v7 w7 jg ku _ gK;obtain⟨a7,n7,c7,rfl⟩:=eX jg;obtain⟨x7,f7,HE⟩:=HO.out.F9 jg ku gK;have HE:=a_ HE;clear jg ku gK)
     go_end0
     exact⟨rfl,_,_,HE.out⟩
end
end Go.Proofs.YthlcmljckpdheaaGreatDoor
