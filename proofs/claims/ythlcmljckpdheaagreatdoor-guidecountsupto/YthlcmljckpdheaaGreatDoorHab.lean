import Derived.Test.YthlcmljckpdheaaGreatDoorHA
import Derived.Lib.SlTrimSet
import Derived.OneCell
import Derived.OwnWalk
import Derived.Maps.AppendAt
import Derived.Maps.OwnSet
import Derived.Deep.RegionLaw
import Derived.Deep.RegionHeld3
import Derived.Deep.QuietTactic
import Derived.BigRegion
import Derived.BigQuiet
import Derived.WalkLawsBesides
import Derived.Defers
import Derived.Recover
import Derived.Test.YthlcmljckpdheaaGreatDoorHaa
set_option linter.unusedVariables false
set_option linter.unusedSimpArgs false
set_option maxHeartbeats 32000000
set_option maxRecDepth 100000
namespace Go.Proofs.YthlcmljckpdheaaGreatDoor
open Go Tryz
section
abbrev L:=List UInt8
abbrev Rs(α:Type):=Except (Nat×Nat) (α×L)
def bs(l:L):ByteArray:=⟨l.toArray⟩
mutual
inductive fF where
 |nil
 |cons (deep:Bool) (test:L) (iZ:gD) (more:fF)
inductive gD where
 |nil
 |cons (op:L) (kids:gD) (steps:fF) (attr text:L) (more:gD)
end
structure jf where
 deep:Bool
 test:L
 iZ:gD
structure kM where
 op:L
 kids:gD
 steps:fF
 attr:L
 text:L
def fF.of:List jf->fF
 |[]=> .nil
 |s::l=> .cons s.deep s.test s.iZ (fF.of l)
def gD.of:List kM->gD
 |[]=> .nil
 |p::l=> .cons p.op p.kids p.steps p.attr p.text (gD.of l)
def skip(l:L):L:=Lib.trimLeftS l [9,10,13,32]
def nm(l:L):Nat:=Ch.name (bs l)
def part(l:L):L:=if 0<nm l then l.take (nm l)else if Lib.hasPrefix l [47,47]=true\/Lib.hasPrefix l [33,61]=true then l.take 2 else l.take 1
def pass(n:Nat)(l:L):L:=skip (l.drop n)
def bad(cut:Bool)(l:L):Nat×Nat:=(if l=[]/\cut=true then 2 else 3,l.length)
def want(cut:Bool)(p l:L):Except (Nat×Nat) L:=if part l=p then .ok (pass p.length l)else .error (bad cut l)
def calls(word l:L):Bool:=part l==word&&Lib.hasPrefix (skip (l.drop word.length)) [40]
abbrev NW:L:=[110,111,116]
abbrev Aj:L:=[116,101,120,116]
def name(cut:Bool)(l:L):Rs L:=if nm l=0\/calls NW l=true\/calls Aj l=true then .error (bad cut l)else .ok (l.take (nm l),pass (nm l) l)
def Jw(c:UInt8)(l:L):L:=(l.drop 1).takeWhile (· !=c)
def ub(cut:Bool)(c:UInt8)(l:L):Rs L:=if(l.drop 1).contains c=true then .ok (Jw c l,pass ((Jw c l).length+2) l)else .error (bad cut [])
def quoted(cut:Bool)(l:L):Rs L:=if part l=[34]then ub cut 34 l else if part l=[39]then ub cut 39 l else .error (bad cut l)
def thn{α β:Type}(x:Rs α)(f:α->L->Rs β):Rs β:=match x with
 | .error e=> .error e
 | .ok (a,l)=>f a l
def ud{β:Type}(x:Except (Nat×Nat) L)(f:L->Rs β):Rs β:=match x with
 | .error e=> .error e
 | .ok l=>f l
def within(cut:Bool)(iE:Option (L->Rs kM))(o s:L)(l:L):Rs kM:=match iE with
 |none=> .error (8,l.length)
 |some f=>ud (want cut o l) fun l=>thn (f l) fun p l=>ud (want cut s l) fun l=> .ok (p,l)
def iZ(cut:Bool)(iE:Option (L->Rs kM)):Nat->L->Rs (List kM)
 |0,l=> .ok ([],l)
 |f+1,l=>if part l=[91]then thn (within cut iE [91] [93] l) fun p l=>thn (iZ cut iE f l) fun ps l=> .ok (p::ps,l)else .ok ([],l)
def test(cut:Bool)(l:L):Rs L:=
 if part l=[42]then .ok ([42],pass 1 l)
 else if calls Aj l=true then ud (want cut Aj l) fun l=>ud (want cut [40] l) fun l=>ud (want cut [41] l) fun l=> .ok ([35],l)
 else name cut l
def step(cut:Bool)(iE:Option (L->Rs kM))(deep:Bool)(l:L):Rs jf:=thn (test cut l) fun t l=>thn (iZ cut iE (l.length+1) l) fun ps l=> .ok (⟨deep,t,gD.of ps⟩,l)
def jF(cut:Bool)(l:L):Rs Bool:=if part l=[47,47]then .ok (true,pass 2 l)else ud (want cut [47] l) fun l=> .ok (false,l)
def gj(s:jf)(l:L):Bool:=s.test !=[35]&&(part l==[47]||part l==[47,47])
def kD(cut:Bool)(iE:Option (L->Rs kM)):Nat->jf->L->Rs (List jf)
 |0,_,l=> .ok ([],l)
 |f+1,s,l=>if gj s l=true then thn (jF cut l) fun d l=>thn (step cut iE d l) fun s l=>thn (kD cut iE f s l) fun ss l=> .ok (s::ss,l)else .ok ([],l)
def path(cut:Bool)(iE:Option (L->Rs kM))(l:L):Rs (List jf):=thn (jF cut l) fun d l=>thn (step cut iE d l) fun s l=>thn (kD cut iE (l.length+1) s l) fun ss l=> .ok (s::ss,l)
def attr(cut:Bool)(l:L):Rs L:=ud (want cut [64] l) fun l=>name cut l
def xq(cut:Bool)(iE:Option (L->Rs kM)):Nat->jf->L->Rs (List jf×L)
 |0,_,l=> .ok (([],[]),l)
 |f+1,s,l=>if gj s l=true then thn (jF cut l) fun d l=>if d=false/\part l=[64]then thn (attr cut l) fun a l=> .ok (([],a),l)else
  thn (step cut iE d l) fun s l=>thn (xq cut iE f s l) fun x l=> .ok ((s::x.1,x.2),l)else .ok (([],[]),l)
def Gx(cut:Bool)(iE:Option (L->Rs kM))(deep:Bool)(l:L):Rs kM:=thn (step cut iE deep l) fun s l=>thn (xq cut iE (l.length+1) s l) fun x l=> .ok (⟨[],.nil,fF.of (s::x.1),x.2,[]⟩,l)
def dot(cut:Bool)(iE:Option (L->Rs kM))(l:L):Rs kM:=ud (want cut [46] l) fun l=>if part l=[47,47]then Gx cut iE true (pass 2 l)else .ok (⟨[],.nil,.nil,[],[]⟩,l)
def value(cut:Bool)(iE:Option (L->Rs kM))(l:L):Rs kM:=
 if part l=[46]then dot cut iE l else if part l=[64]then thn (attr cut l) fun a l=> .ok (⟨[],.nil,.nil,a,[]⟩,l)else Gx cut iE false l
abbrev aaO:L:=[104,97,115]
def compared(cut:Bool)(p:kM)(l:L):Rs kM:=
 if part l=[61]then thn (quoted cut (pass 1 l)) fun t l=> .ok (⟨[61],p.kids,p.steps,p.attr,t⟩,l)
 else if part l=[33,61]then thn (quoted cut (pass 2 l)) fun t l=> .ok (⟨[33,61],p.kids,p.steps,p.attr,t⟩,l)
 else .ok (⟨aaO,p.kids,p.steps,p.attr,p.text⟩,l)
def one(cut:Bool)(iE:Option (L->Rs kM))(l:L):Rs kM:=
 if calls NW l=true then ud (want cut NW l) fun l=>thn (within cut iE [40] [41] l) fun p l=> .ok (⟨NW,gD.of [p],.nil,[],[]⟩,l)
 else if part l=[40]then within cut iE [40] [41] l
 else thn (value cut iE l) fun p l=>compared cut p l
def ue(word:L)(read:L->Rs kM):Nat->L->Rs (List kM)
 |0,l=> .ok ([],l)
 |f+1,l=>if part l=word then thn (read (pass word.length l)) fun p l=>thn (ue word read f l) fun ps l=> .ok (p::ps,l)else .ok ([],l)
def BN(word:L)(read:L->Rs kM)(l:L):Rs kM:=thn (read l) fun p l=>if part l=word then thn (ue word read (l.length+1) l) fun ps l=> .ok (⟨word,gD.of (p::ps),.nil,[],[]⟩,l)else .ok (p,l)
abbrev wOr:L:=[111,114]
abbrev aaP:L:=[97,110,100]
def both(cut:Bool)(iE:Option (L->Rs kM)):L->Rs kM:=BN aaP (one cut iE)
def cond(cut:Bool)(iE:Option (L->Rs kM)):L->Rs kM:=BN wOr (both cut iE)
def Gy(cut:Bool):Nat->L->Rs kM
 |0=>cond cut none
 |d+1=>cond cut (some (Gy cut d))
def zJ(cut:Bool):Nat->Option (L->Rs kM)
 |0=>none
 |d+1=>some (Gy cut d)
def kW(cut:Bool):Nat->L->Rs (List (List jf))
 |0,l=> .ok ([],l)
 |f+1,l=>if part l=[124]then thn (path cut (zJ cut 8) (pass 1 l)) fun p l=>thn (kW cut f l) fun ps l=> .ok (p::ps,l)else .ok ([],l)
def query(cut:Bool)(l:L):Rs (List (List jf)):=thn (path cut (zJ cut 8) (pass 0 l)) fun p l=>thn (kW cut (l.length+1) l) fun ps l=>if l=[]/\cut=false then .ok (p::ps,l)else .error (bad cut l)
def cutAt(q:L):L:=q.take (Ch.bad (bs q))
def Jy(q:L):Bool:=decide ((cutAt q).length<q.length)
def parse(q:L):Except (Nat×Nat) (List (List jf)):=
 if 500<q.length then .error (1,0)else match query (Jy q) (cutAt q)with
  | .error e=> .error (e.1,(cutAt q).length-e.2)
  | .ok x=> .ok x.1
theorem DV(l:L):skip l<:+l:=List.dropWhile_suffix _
theorem jN(n:Nat)(l:L):pass n l<:+l:=(DV _).trans (List.drop_suffix _ _)
theorem BO{n:Nat}{l:L}(hn:0<n)(hl:l≠[]):(pass n l).length<l.length:=by
 have h1:=(DV (l.drop n)).length_le;have h2:l.length≠0:=fun e=>hl (List.length_eq_zero_iff.1 e);simp only[cU]at h1;unfold pass;omega
theorem NY:part []=[]:=by simp[part]
theorem BP{l p:L}(h:part l=p)(hp:p≠[]):l≠[]:=by rintro rfl;exact hp (h.symm.trans NY)
def ik{α:Type}(l:L)(x:Rs α):Prop:=∀a l',x=.ok (a,l')->l'<:+l
def Y5(l:L)(x:Except (Nat×Nat) L):Prop:=∀l',x=.ok l'->l'<:+l
theorem ik.ok{α:Type}{l l':L}{a:α}(h:l'<:+l):ik l (.ok (a,l')):=by intro b V_ e;cases e;exact h
theorem ik.error{α:Type}{l:L}{e:Nat×Nat}:ik (α:=α) l (.error e):=by intro b V_ h;cases h
theorem ik.thn{α β:Type}{l:L}{x:Rs α}{f:α->L->Rs β}(h:ik l x)(hf:∀a l',ik l' (f a l')):ik l (thn x f):=by
 intro b V_ e;cases x with
 |error y=>cases e
 |ok y=>obtain⟨a,l'⟩:=y;exact(hf a l' b V_ e).trans (h a l' rfl)
theorem ik.ud{β:Type}{l:L}{x:Except (Nat×Nat) L}{f:L->Rs β}(h:Y5 l x)(hf:∀l',ik l' (f l')):ik l (ud x f):=by
 intro b V_ e;cases x with
 |error y=>cases e
 |ok l'=>exact(hf l' b V_ e).trans (h l' rfl)
theorem ik.from{α:Type}{l l':L}{x:Rs α}(h:ik l' x)(hl:l'<:+l):ik l x:=fun a V_ e=>(h a V_ e).trans hl
theorem lg(cut:Bool)(p l:L):Y5 l (want cut p l):=by
 intro l' h;unfold want at h;split at h
 ·cases h;exact jN _ _
 ·cases h
theorem SB{cut:Bool}{p l l':L}(hp:p≠[])(h:want cut p l=.ok l'):l'.length<l.length:=by
 unfold want at h;split at h
 ·next e=>cases h;exact BO (by cases p;exact absurd rfl hp;simp) (BP e hp)
 ·cases h
theorem DW(cut:Bool)(l:L):ik l (name cut l):=by
 unfold name;split
 ·exact ik.error
 ·exact ik.ok (jN _ _)
theorem ug(cut:Bool)(c:UInt8)(l:L):ik l (ub cut c l):=by
 unfold ub;split
 ·exact ik.ok (jN _ _)
 ·exact ik.error
theorem xO(cut:Bool)(l:L):ik l (quoted cut l):=by
 unfold quoted;split
 ·exact ug _ _ _
 ·split
  ·exact ug _ _ _
  ·exact ik.error
def uh(iE:Option (L->Rs kM)):Prop:=∀f,iE=some f->∀l,ik l (f l)
variable{cut:Bool}{iE:Option (L->Rs kM)}
theorem s9(hi:uh iE)(o s l:L):ik l (within cut iE o s l):=by
 unfold within;cases iE with
 |none=>exact ik.error
 |some f=>exact ik.ud (lg _ _ _) fun l=>ik.thn (hi f rfl l) fun p l=>ik.ud (lg _ _ _) fun l=>ik.ok (aQ _)
theorem Ak(hi:uh iE):∀f l,ik l (iZ cut iE f l)
 |0,l=>ik.ok (aQ _)
 |f+1,l=>by
  unfold iZ;split
  ·exact ik.thn (s9 hi _ _ _) fun p l=>ik.thn (Ak hi f l) fun ps l=>ik.ok (aQ _)
  ·exact ik.ok (aQ _)
theorem DX(l:L):ik l (test cut l):=by
 unfold test;split
 ·exact ik.ok (jN _ _)
 ·split
  ·exact ik.ud (lg _ _ _) fun l=>ik.ud (lg _ _ _) fun l=>ik.ud (lg _ _ _) fun l=>ik.ok (aQ _)
  ·exact DW _ _
theorem o_(hi:uh iE)(d:Bool)(l:L):ik l (step cut iE d l):=ik.thn (DX l) fun t l=>ik.thn (Ak hi _ _) fun ps l=>ik.ok (aQ _)
theorem rF(l:L):ik l (jF cut l):=by
 unfold jF;split
 ·exact ik.ok (jN _ _)
 ·exact ik.ud (lg _ _ _) fun l=>ik.ok (aQ _)
theorem xP{l l':L}{d:Bool}(h:jF cut l=.ok (d,l')):l'.length<l.length:=by
 unfold jF at h;split at h
 ·next e=>cases h;exact BO (by decide) (BP e (by decide))
 ·simp only[ud]at h;cases e:want cut [47] l with
  |error y=>rw[e]at h;cases h
  |ok l1=>rw[e]at h;cases h;exact SB (by decide) e
theorem ui(hi:uh iE):∀f s l,ik l (kD cut iE f s l)
 |0,_,l=>ik.ok (aQ _)
 |f+1,s,l=>by
  unfold kD;split
  ·exact ik.thn (rF l) fun d l=>ik.thn (o_ hi d l) fun s l=>ik.thn (ui hi f s l) fun ss l=>ik.ok (aQ _)
  ·exact ik.ok (aQ _)
theorem DY(hi:uh iE)(l:L):ik l (path cut iE l):=ik.thn (rF l) fun d l=>ik.thn (o_ hi d l) fun s l=>ik.thn (ui hi _ s l) fun ss l=>ik.ok (aQ _)
theorem DZ(l:L):ik l (attr cut l):=ik.ud (lg _ _ _) fun l=>DW _ _
theorem wy(hi:uh iE):∀f s l,ik l (xq cut iE f s l)
 |0,_,l=>ik.ok (aQ _)
 |f+1,s,l=>by
  unfold xq;split
  ·refine ik.thn (rF l) fun d l=>?_;split
   ·exact ik.thn (DZ l) fun a l=>ik.ok (aQ _)
   ·exact ik.thn (o_ hi d l) fun s l=>ik.thn (wy hi f s l) fun ss l=>ik.ok (aQ _)
  ·exact ik.ok (aQ _)
theorem xQ(hi:uh iE)(d:Bool)(l:L):ik l (Gx cut iE d l):=ik.thn (o_ hi d l) fun s l=>ik.thn (wy hi _ s l) fun ss l=>ik.ok (aQ _)
theorem SD(hi:uh iE)(l:L):ik l (dot cut iE l):=by
 refine ik.ud (lg _ _ _) fun l=>?_;split
 ·exact(xQ hi _ _).from (jN _ _)
 ·exact ik.ok (aQ _)
theorem KC(hi:uh iE)(l:L):ik l (value cut iE l):=by
 unfold value;split
 ·exact SD hi l
 ·split
  ·exact ik.thn (DZ l) fun a l=>ik.ok (aQ _)
  ·exact xQ hi _ _
theorem BQ(p:kM)(l:L):ik l (compared cut p l):=by
 unfold compared;split
 ·exact(ik.thn (xO _ _) fun a l=>ik.ok (aQ _)).from (jN _ _)
 ·split
  ·exact(ik.thn (xO _ _) fun a l=>ik.ok (aQ _)).from (jN _ _)
  ·exact ik.ok (aQ _)
theorem SF(hi:uh iE)(l:L):ik l (one cut iE l):=by
 unfold one;split
 ·exact ik.ud (lg _ _ _) fun l=>ik.thn (s9 hi _ _ _) fun p l=>ik.ok (aQ _)
 ·split
  ·exact s9 hi _ _ _
  ·exact ik.thn (KC hi l) fun p l=>BQ p l
theorem uj{word:L}{read:L->Rs kM}(hr:∀l,ik l (read l)):∀f l,ik l (ue word read f l)
 |0,l=>ik.ok (aQ _)
 |f+1,l=>by
  unfold ue;split
  ·exact(ik.thn (hr _) fun p l=>ik.thn (uj hr f l) fun ps l=>ik.ok (aQ _)).from (jN _ _)
  ·exact ik.ok (aQ _)
theorem xR{word:L}{read:L->Rs kM}(hr:∀l,ik l (read l))(l:L):ik l (BN word read l):=by
 refine ik.thn (hr l) fun p l=>?_;split
 ·exact ik.thn (uj hr _ _) fun ps l=>ik.ok (aQ _)
 ·exact ik.ok (aQ _)
theorem D1(hi:uh iE)(l:L):ik l (cond cut iE l):=xR (fun l=>xR (SF hi) l) l
theorem xS:∀d l,ik l (Gy cut d l)
 |0,l=>D1 (fun f e=>by cases e) l
 |d+1,l=>D1 (fun f e=>by cases e;exact xS d) l
theorem xU:∀d,uh (zJ cut d)
 |0=>fun f e=>by cases e
 |d+1=>fun f e=>by cases e;exact xS d
end
end Go.Proofs.YthlcmljckpdheaaGreatDoor
namespace Go.Proofs.YthlcmljckpdheaaGreatDoor
open Go.RowKit Go.Maps Go.Lib Tryz
section
structure Fr(F:Nat->Prop)(w w':World):Prop where
 os:w'.os=w.os
 tape:w'.tape=w.tape
 output:w'.output=w.output
 size:w.heap.size<=w'.heap.size
 block:∀k,k<w.heap.size->¬F k->w'.heap[k]?=w.heap[k]?
variable{w w' w1 w2:World}{F G:Nat->Prop}{R:Nat}
theorem Fr.refl(F:Nat->Prop)(w:World):Fr F w w:=⟨rfl,rfl,rfl,aj _,fun _ _ _=>rfl⟩
theorem Fr.trans(h:Fr F w w1)(k:Fr G w1 w2)(hG:∀i,i<w.heap.size->G i->F i):Fr F w w2:=
 ⟨k.os.trans h.os,k.tape.trans h.tape,k.output.trans h.output,aw h.size k.size,fun i hi hf=>
  (k.block i (ah hi h.size) (fun e=>hf (hG i hi e))).trans (h.block i hi hf)⟩
theorem Fr.same(h:Fr F w w1)(k:Fr F w1 w2):Fr F w w2:=h.trans k fun _ _ x=>x
theorem Fr.below(h:Z5 w w'):Fr F w w':=⟨h.os,h.tape,h.output,h.size,fun k hk _=>h.block k hk⟩
theorem Fr.on(h:Fr F w w1)(k:Z5 w1 w2):Fr F w w2:=h.same (Fr.below k)
theorem Fr.up{K:Nat}(fr:Fr F w w')(hF:∀k,F k->K<=k)(hK:K<=w.heap.size):Below K w w':=
 ⟨fr.os,fr.tape,fr.output,fr.size,fun k hk=>fr.block k (by omega) (fun x=>by have:=hF k x;omega)⟩
theorem Fr.alloc(h:Fr F w w')(o:Obj):Fr F w (w'.alloc o):=
 ⟨h.os,h.tape,h.output,by have:=h.size;simp;omega,fun k hk hf=>(ak _ _ _ (ah hk h.size)).trans (h.block k hk hf)⟩
theorem Fr.drewN(h:Fr F w w')(n:Nat):Fr F w (w'.drewN n):=⟨h.os,h.tape,h.output,h.size,h.block⟩
theorem Fr.set(h:Fr F w w')(a:Addr)(u:Value)(ha:a.block<w.heap.size->F a.block):Fr F w (w'.setCell a u):=
 ⟨h.os,h.tape,h.output,by have:=h.size;simpa [World.setCell]using this,fun k hk hf=>(ae _ _ _ _ (fun e=>hf (by subst e;exact ha hk))).trans (h.block k hk hf)⟩
theorem Fr.mono(h:Fr F w w')(hG:∀k,F k->G k):Fr G w w':=⟨h.os,h.tape,h.output,h.size,fun k hk hf=>h.block k hk (fun x=>hf (hG k x))⟩
theorem gA{K K':Nat}(h:Below K w w')(hK:K'<=K):Below K' w w':=⟨h.os,h.tape,h.output,h.size,fun k hk=>h.block k (by omega)⟩
theorem YB(h1:Z5 w w1)(h2:Z5 w1 w2):Z5 w w2:=h1.trans (gA h2 h1.size)
theorem cell_of{R i:Nat}{cs:Array Value}{t:TypeId}{v:Value}(h:w.heap[R]?=some (.cells cs t (0,0)))(hi:cs[i]?=some v):w.cell? ⟨R,i,none⟩=some v:=by simp[World.cell?,h,hi]
theorem eR{R i:Nat}{cs:Array Value}{t:TypeId}(h:w.heap[R]?=some (.cells cs t (0,0))):w.frozen? ⟨R,i,none⟩=false:=by simp[World.frozen?,h]
theorem fe{R i:Nat}{cs:Array Value}{t:TypeId}(h:w.heap[R]?=some (.cells cs t (0,0)))(v:Value):(w.setCell ⟨R,i,none⟩ v).heap[R]?=some (.cells (cs.setIfInBounds i v) t (0,0)):=by
 rw[setCell_eq_setRow w R i cs t (0,0) v h];exact setRow_heap w R cs _ t _ h
theorem eO{k:Nat}{o:Obj}(h:w.heap[k]?=some o):k<w.heap.size:=(Array.getElem?_eq_some_iff.1 h).1
theorem eG{a:Addr}{v:Value}(o:Obj)(h:w.cell? a=some v):(w.alloc o).cell? a=some v:=
 (ag (ak w o a.block (aU w a h))).trans h
theorem eL(w:World)(o:Obj):(w.alloc o).heap[w.heap.size]?=some o:=bD w o
theorem eF{B:Nat}{e:TypeId}{s:Nat}{v:Value}{n:Nat}{xs:List Value}(h:w.ownsRow B e s v n xs):∃ao cap,v=.slice ao n cap:=by
 rcases h.2 with⟨rfl,rfl⟩|⟨g,cap,cur,rfl,_⟩
 ·exact⟨_,_,rfl⟩
 ·exact⟨_,_,rfl⟩
theorem eH{e:TypeId}{s:Nat}{v:Value}{n:Nat}{xs:List Value}(h:w.ownsRow 0 e s v n xs)(hk:∀k,v.ownBlock=some k->w'.heap[k]?=w.heap[k]?):w'.ownsRow 0 e s v n xs:=by
 refine⟨h.1,?_⟩;rcases h.2 with hn|⟨g,cap,cur,rfl,hb,hg,rest⟩
 ·exact Or.inl hn
 ·exact Or.inr ⟨g,cap,cur,rfl,hb,by rw[hk g rfl];exact hg,rest⟩
theorem fW{e:TypeId}{s:Nat}{v:Value}{n:Nat}{xs:List Value}(h:w.ownsRow 0 e s v n xs){k:Nat}(hk:v.ownBlock=some k):∃cur,w.heap[k]?=some (.cells cur e (0,0)):=by
 rcases h.2 with⟨rfl,_⟩|⟨g,cap,cur,rfl,hb,hg,rest⟩
 ·simp[Value.ownBlock]at hk
 ·simp[Value.ownBlock]at hk;subst hk;exact⟨cur,hg⟩
theorem eW{e:TypeId}{sz n:Nat}{v:Value}{xs:List Value}(h:w.ownsRow 0 e sz v n xs){k:Nat}(hk:v.ownBlock=some k):k<w.heap.size:=by obtain⟨c,hc⟩:=fW h hk;exact eO hc
abbrev fK:Value:=.slice none 0 0
structure RD(R:Nat)(t:L)(wh n:Nat)(w:World)(l:L):Prop where
 blk:w.heap[R]?=some (.cells #[.string (bs t),.int .i64 wh,.int .i64 ((t.length-l.length:Nat):Int),.int .i64 n] 124 (0,0))
 D3:l<:+t
 tw:t.length<=wh
 NA:wh<=500
 n8:n<=8
variable{t l l':L}{wh n:Nat}
theorem RD.lt(h:RD R t wh n w l):R<w.heap.size:=eO h.blk
theorem RD.below(h:RD R t wh n w l)(hb:Z5 w w'):RD R t wh n w' l:=⟨(hb.block R h.lt).trans h.blk,h.D3,h.tw,h.NA,h.n8⟩
theorem RD.fr(h:RD R t wh n w l)(hb:Fr F w w')(hR:¬F R):RD R t wh n w' l:=⟨(hb.block R h.lt hR).trans h.blk,h.D3,h.tw,h.NA,h.n8⟩
theorem RD.le(h:RD R t wh n w l):l.length<=t.length:=h.D3.length_le
theorem D4(h:l<:+t):t.drop (t.length-l.length)=l:=by
 obtain⟨p,rfl⟩:=h;simp[List.drop_append]
theorem fB(l:L):(bs l).size=l.length:=by simp[bs,ByteArray.size]
theorem uk(l:L):(bs l).data.toList=l:=by simp[bs]
theorem gP(l:L):(bs l).toList=l:=by rw[ByteArray.toList_eq,uk]
theorem kN(l:L)(i j:Nat):(bs l).extract i j=bs ((l.drop i).take (j-i)):=by simp[bs,ByteArray.extract_mk]
theorem xV(h:l<:+t)(w:World):(Instr.slice 9 (.string (bs t)) (some (.int .i64 ((t.length-l.length:Nat):Int))) none none).run prog w=.ok (.string (bs l)) w:=by
 have e:bs l=(bs t).extract (t.length-l.length) (bs t).size:=by rw[kN,fB,D4 h,bQ (by have:=h.length_le;omega)]
 have hle:=h.length_le;rw[run_slice_string_from_if _ _ _ _ _ underlying9,if_pos ⟨by omega,by rw[fB];omega⟩,e];rfl
end
section
variable{w w' w1 w2:World}{F G:Nat->Prop}{R:Nat}{t l l':L}{wh n:Nat}
abbrev pK(no k:Nat)(t:L):Ending:=.panicked [{v:=.iface 120 (.agg #[.int .i64 no,.int .i64 ((t.length-k:Nat):Int)]),recovered:=false}]
abbrev fP(t:L)(wh:Nat):Bool:=decide (t.length<wh)
theorem BS(h:RD R t wh n w l):Z4 84 #[Z8 R] w fun e w'=>e=pK (bad (fP t wh) l).1 (bad (fP t wh) l).2 t/\Fr (fun k=>k=R) w w':=by
 have c0:w.cell? ⟨R,0,none⟩=some (.string (bs t)):=cell_of h.blk rfl;have c1:w.cell? ⟨R,1,none⟩=some (.int .i64 wh):=cell_of h.blk rfl;have c2:w.cell? ⟨R,2,none⟩=some (.int .i64 ((t.length-l.length:Nat):Int)):=cell_of h.blk rfl;have hle:=h.le;have Gz:=h.tw;obtain⟨at_,ha⟩:∃k,t.length-l.length=k:=⟨_,rfl⟩
 obtain⟨b1,hb1⟩:∃b,decide (l=[])=b:=⟨_,rfl⟩
 have hb2:((at_:Int)==((bs t).size:Int))=b1:=by
  rw[fB,<-hb1,bK];simp only[bG,aW];constructor
  ·intro e;exact List.length_eq_zero_iff.1 (by omega)
  ·rintro rfl;simp at ha;omega
 have oM:bad (fP t wh) l=(if b1=true/\decide (t.length<wh)=true then 2 else 3,l.length):=by simp only[bad,fP,<-hb1,aW]
 have hlt:b1=true->decide (at_<wh)=decide (t.length<wh):=by intro e;rw[<-hb1,aW]at e;subst e;simp at ha;subst ha;rfl
 have SG:∀no:Nat,pK no l.length t=.panicked [{v:=.iface 120 (.agg #[.int .i64 no,.int .i64 at_]),recovered:=false}]:=fun no=>by rw[pK,ha]
 rw[ha]at c2;rw[oM];have HF:=a_ (Fr.refl (fun k=>k=R) w);have HT:=a_ SG;clear h oM hb1 hle Gz ha SG;cases b1 with
 |false=>
  simp only[ay,false_and,bf];go_enter func84,ntmps84;go_wp2_with fail;go_quiet(fail);go_wp2;exact⟨rfl,(HT.out 3).symm,HF.out.drewN _⟩
 |true=>
  obtain⟨b2,hb3⟩:∃b,decide (t.length<wh)=b:=⟨_,rfl⟩
  have zK:=hlt rfl;rw[hb3]at zK ⊢;clear hlt hb3;cases b2 with
  |false=>
   simp only[ay,and_false,bf];go_enter func84,ntmps84;go_wp2_with fail;go_quiet(fail);go_wp2;exact⟨rfl,(HT.out 3).symm,HF.out.drewN _⟩
  |true=>
   simp only[and_self,if_true];go_enter func84,ntmps84;go_wp2_with fail;go_quiet(fail);go_wp2;exact⟨rfl,(HT.out 2).symm,HF.out.drewN _⟩
theorem qD(s:ByteArray):∀f pos,pos<=s.size->Ch.fQ s f pos<=s.size:=by
 intro f;induction f with
 |zero=>intro pos h;exact h
 |succ f ih=>
  intro pos h;unfold Ch.fQ;split
  ·split
   ·exact ih _ (Ch.fo s pos ‹_›).1
   ·omega
  ·omega
theorem Vk(l:L):nm l<=l.length:=by have:=qD (bs l) ((bs l).size+1) 0 (aq _);rw[fB]at this;unfold nm Ch.name;rw[fB];exact this
theorem ul(l:L)(k:Nat)(hk:k<=l.length)(w:World):(Instr.slice 9 (.string (bs l)) none (some (.int .i64 (k:Int))) none).run prog w=.ok (.string (bs (l.take k))) w:=by
 rw[run_slice_string_to_if _ _ _ _ _ underlying9,if_pos ⟨by omega,by rw[fB];omega⟩,kN];simp
theorem KD(l:L)(hk:1<=l.length)(w:World):(Instr.slice 9 (.string (bs l)) none (some (.int .i64 1)) none).run prog w=.ok (.string (bs (l.take 1))) w:=ul l 1 hk w
theorem Al(l:L)(hk:2<=l.length)(w:World):(Instr.slice 9 (.string (bs l)) none (some (.int .i64 2)) none).run prog w=.ok (.string (bs (l.take 2))) w:=ul l 2 hk w
theorem qE{nq:Nat}(hb:Below (w.drewN nq).heap.size (w.drewN nq) w'):Z5 w w':=⟨hb.os,hb.tape,hb.output,hb.size,hb.block⟩
theorem Y6{l:L}{a b:UInt8}(h:Lib.hasPrefix l [a,b]=true):2<=l.length:=by
 match l,h with
 |[],h=>simp[Lib.hasPrefix,List.isPrefixOf]at h
 |[x],h=>simp[Lib.hasPrefix,List.isPrefixOf]at h
 |x::y::r,h=>simp
theorem ow(h:RD R t wh n w l):Z4 126 #[Z8 R] w (Z7 (.string (bs (part l))) w):=by
 have c0:w.cell? ⟨R,0,none⟩=some (.string (bs t)):=cell_of h.blk rfl;have c2:w.cell? ⟨R,2,none⟩=some (.int .i64 ((t.length-l.length:Nat):Int)):=cell_of h.blk rfl;have hr:=xV h.D3;have qF:∀w:World,Z4 154 #[.string (bs l)] w (Z7 (.int .i64 (nm l)) w):=fun w=>rE (bs l) w (by rw[fB];have:=h.le;have:=h.tw;have:=h.NA;omega);have hp:∀(p:L) (w:World),Z4 120 #[.string (bs l),.string ⟨p.toArray⟩] w (Z6 (.bool (Lib.hasPrefix l p)) w):=fun p w=>by have:=strings_HasPrefix (bs l) ⟨p.toArray⟩ w;rw[uk]at this;simpa using this
 have DA:=Vk l;have D5:∀x,x=part l->bs x=bs (part l):=fun x e=>by rw[e]
 generalize hat:(((t.length-l.length:Nat)):Int)=at_ at*
 have HP:=a_ hp;have D6:=a_ qF;have HB:=a_ (Below.refl w.heap.size w);clear h hp qF hat;by_cases h0:0<nm l
 ·have e1:part l=l.take (nm l):=by unfold part;rw[if_pos h0]
  rw[e1];have ht:=ul l (nm l) DA;generalize hN:nm l=N at*
  have hd:decide (0<N)=true:=by simpa using h0
  clear e1 D5;have Gf:decide ((N:Int)>0)=true:=by simp;omega
  go_enter func126,ntmps126;go_wp2_with fail;go_quiet(fail);go_wp2_with(go_at_call 154;refine(D6.out _).mono ?_;rintro e w' ⟨rfl,hb⟩);go_ret;exact⟨by first|rfl|simp[kN],qE hb⟩
 ·have e0:nm l=0:=by omega
  rw[e0]at D6;have hd:decide ((0:Int)>0)=false:=rfl;obtain⟨b1,hb1⟩:∃b,Lib.hasPrefix l [47,47]=b:=⟨_,rfl⟩
  cases b1 with
  |true=>
   have e1:part l=l.take 2:=by unfold part;rw[if_neg h0,if_pos (Or.inl hb1)]
   rw[e1];have ht:=Al l (Y6 hb1);have H1:=HP.out [47,47];rw[hb1]at H1;have HH:=a_ H1;clear H1 e1 h0 e0 hb1 D5 DA;go_enter func126,ntmps126;go_wp2_with fail;go_quiet(fail);go_wp2_with(first|(go_at_call 154;refine(D6.out _).mono ?_;rintro e w' ⟨rfl,hb⟩)|(go_at_call 120;refine(HH.out _).mono ?_;rintro e w' ⟨rfl,rfl⟩));go_ret;exact⟨by first|rfl|simp[kN],qE hb⟩
  |false=>
   obtain⟨b2,hb2⟩:∃b,Lib.hasPrefix l [33,61]=b:=⟨_,rfl⟩
   cases b2 with
   |true=>
    have e1:part l=l.take 2:=by unfold part;rw[if_neg h0,if_pos (Or.inr hb2)]
    rw[e1];have ht:=Al l (Y6 hb2);clear e1 h0 e0 D5 DA;go_enter func126,ntmps126;go_wp2_with fail;go_quiet(fail);go_wp2_with(first|(go_at_call 154;refine(D6.out _).mono ?_;rintro e w' ⟨rfl,hb⟩)|(go_at_call 120;refine(HP.out _ _).mono ?_;rintro e w' ⟨rfl,rfl⟩));go_ret;exact⟨by first|rfl|simp[kN],qE hb⟩
   |false=>
    have e1:part l=l.take 1:=by unfold part;rw[if_neg h0,if_neg (by rw[hb1,hb2];simp)]
    rw[e1];by_cases hl:l=[]
    ·have NZ:(bs l).toList.isEmpty=true:=by rw[gP,hl];rfl
     have HQ:Hid (bs (l.take 1)=⟨#[]⟩):=by rw[hl];rfl
     clear e1 h0 e0 D5 DA hl;go_enter func126,ntmps126;go_wp2_with fail;go_quiet(fail);go_wp2_with(first|(go_at_call 154;refine(D6.out _).mono ?_;rintro e w' ⟨rfl,hb⟩)|(go_at_call 120;refine(HP.out _ _).mono ?_;rintro e w' ⟨rfl,rfl⟩));go_ret;exact⟨by rw[HQ.out];rfl,qE hb⟩
    ·have hlen:1<=l.length:=by cases l;exact absurd rfl hl;simp
     have ht:=KD l hlen;have hne:((bs l).data.toList==[])=false:=by rw[uk];cases l;exact absurd rfl hl;rfl
     have KE:(bs l).toList.isEmpty=false:=by rw[gP];cases l;exact absurd rfl hl;rfl
     clear e1 h0 e0 D5 DA;go_enter func126,ntmps126;go_wp2_with fail;go_quiet(fail);go_wp2_with(first|(go_at_call 154;refine(D6.out _).mono ?_;rintro e w' ⟨rfl,hb⟩)|(go_at_call 120;refine(HP.out _ _).mono ?_;rintro e w' ⟨rfl,rfl⟩));go_ret;exact⟨by first|rfl|simp[kN],qE hb⟩
end
section
variable{w w' w1 w2:World}{F G:Nat->Prop}{R:Nat}{t l l':L}{wh n:Nat}
theorem Am(h:l<:+t)(m:Nat)(hm:m<=l.length)(w:World):(Instr.slice 9 (.string (bs t)) (some (.int .i64 (((t.length-l.length:Nat):Int)+m))) none none).run prog w=.ok (.string (bs (l.drop m))) w:=by
 have hs:l.drop m<:+t:=(List.drop_suffix _ _).trans h;have:=xV hs w;have hle:=h.length_le;have hlen:(l.drop m).length=l.length-m:=cU;rw[show (((t.length-l.length:Nat):Int)+m)=((t.length-(l.drop m).length:Nat):Int) by rw[hlen];omega];exact this
theorem vD(t l:L)(m:Nat)(h:l<:+t)(ht:t.length<=500)(hm:m<=l.length):IntKind.i64.wrap (((t.length-l.length:Nat):Int)+m)=((t.length-l.length:Nat):Int)+m/\
  IntKind.i64.wrap ((t.length:Int)-((pass m l).length:Int))=((t.length-(pass m l).length:Nat):Int):=by
 have h1:=h.length_le;have h2:=(jN m l).length_le;rw[aI,aI];omega
theorem Jz(l:L)(w:World):Z4 122 #[.string (bs l),.string ⟨#[9,10,13,32]⟩] w (Z7 (.string (bs (skip l))) w):=by have:=strings_TrimLeft_blanks (bs l) w;rw[uk]at this;exact this
theorem BT(m:Nat)(h:RD R t wh n w l)(hm:m<=l.length):Z4 81 #[Z8 R,.int .i64 m] w fun e w'=>e=.returned (.tuple #[])/\RD R t wh n w' (pass m l)/\Fr (fun k=>k=R) w w':=by
 have c0:w.cell? ⟨R,0,none⟩=some (.string (bs t)):=cell_of h.blk rfl;have c2:w.cell? ⟨R,2,none⟩=some (.int .i64 ((t.length-l.length:Nat):Int)):=cell_of h.blk rfl;have hr:=Am h.D3 m hm;obtain⟨n1,n2⟩:=vD t l m h.D3 (by have:=h.tw;have:=h.NA;omega) hm;have hz1:=fB t;have hz2:=fB (pass m l);have HT:=a_ (Jz (l.drop m));have H:=a_ h;clear h;have hp:skip (l.drop m)=pass m l:=rfl;rw[hp]at HT;generalize ((t.length-l.length:Nat):Int)=at_ at*
 have HC:Hid (∀W,Z5 w W->W.cell? ⟨R,0,none⟩=some (.string (bs t))):=fun W hW=>(ag (hW.block R H.out.lt)).trans c0;have hE:∀W,Z5 w W->W.cell? ⟨R,2,none⟩=some (.int .i64 at_)/\W.frozen? ⟨R,2,none⟩=false/\RD R t wh n (W.setCell ⟨R,2,none⟩ (.int .i64 ((t.length-(pass m l).length:Nat):Int))) (pass m l)/\Fr (fun k=>k=R) w (W.setCell ⟨R,2,none⟩ (.int .i64 ((t.length-(pass m l).length:Nat):Int))):=fun W hW=>by
  have hb:=(hW.block R H.out.lt).trans H.out.blk;exact⟨(ag (hW.block R H.out.lt)).trans c2,eR hb,⟨fe hb _,(jN m l).trans H.out.D3,H.out.tw,H.out.NA,H.out.n8⟩,(Fr.below hW).set _ _ (fun _=>rfl)⟩
 have HE:=a_ hE;have d0:∀k,(w.drewN k).cell? ⟨R,0,none⟩=some (.string (bs t)):=fun _=>c0;clear hE hp;have HB0:Hid (∀k,Z5 w (w.drewN k)):=fun k=>⟨rfl,rfl,rfl,aj _,fun _ _=>rfl⟩
 go_enter func81,ntmps81;go_wp2_with fail;go_quiet(fail);go_wp2_with fail;obtain⟨Si,Sj,rd',fr'⟩:=HE.out _ (HB0.out nq);go_region_held3 (fun W=>W.cell? ⟨R,0,none⟩=some (.string (bs t)))
  (first|exact c0|exact HC.out _ hb2|exact cell_of rd'.blk rfl)
  (first|(go_at_call 122;refine(HT.out _).mono ?_;rintro e w3 ⟨rfl,hb⟩;have hb2:Z5 w w3:=⟨hb.os,hb.tape,hb.output,hb.size,hb.block⟩;clear hb;obtain⟨Si,Sj,rd',fr'⟩:=HE.out _ hb2))
 all_goals
  go_end0
  exact⟨rfl,rd',fr'⟩
theorem D7(l:L):(part l).length<=l.length:=by
 unfold part;split
 ·exact List.length_take_le' _ _
 ·split<;>exact List.length_take_le' _ _
theorem eqL(a b:L):((bs a).toList==(bs b).toList)=(a==b):=by rw[gP,gP]
theorem D8{p:L}(h:RD R t wh n w l)(hp:part l=p):Z4 83 #[Z8 R,.string (bs p)] w fun e w'=>e=.returned (.bool true)/\RD R t wh n w' (pass p.length l)/\Fr (fun k=>k=R) w w':=by
 have HP:=a_ (ow h);have HA:Hid (∀W,Z5 w W->Z4 81 #[Z8 R,.int .i64 (p.length:Int)] W fun e w'=>e=.returned (.tuple #[])/\RD R t wh n w' (pass p.length l)/\Fr (fun k=>k=R) W w'):=fun W hW=>BT p.length (h.below hW) (by rw[<-hp];exact D7 l);rw[hp]at HP;have hne:((bs p).toList==(bs p).toList)=true:=by simp
 have hz:=fB p;clear h hp;go_enter func83,ntmps83;go_wp2_with(first|(go_at_call 126;refine HP.out.mono ?_;rintro e w1 ⟨rfl,hb⟩)|(go_at_call 81;refine(HA.out _ hb).mono ?_;rintro e w2 ⟨rfl,rd,fr⟩));go_ret;exact⟨rfl,rd,(Fr.below hb).same fr⟩
theorem JA{p:L}(h:RD R t wh n w l)(hp:part l≠p):Z4 83 #[Z8 R,.string (bs p)] w (Z7 (.bool false) w):=by
 have HP:=a_ (ow h);have hne:((bs (part l)).toList==(bs p).toList)=false:=by rw[eqL];simpa using hp
 clear h hp;go_enter func83,ntmps83;go_wp2_with(first|(go_at_call 126;refine HP.out.mono ?_;rintro e w1 ⟨rfl,hb⟩));go_ret;exact⟨rfl,hb⟩
def sL(R:Nat)(t:L)(x:Nat×Nat)(w:World)(e:Ending)(w':World):Prop:=e=pK x.1 x.2 t/\Fr (fun k=>k=R) w w'
theorem sL.after{x:Nat×Nat}{e:Ending}(h:sL R t x w1 e w2)(fr:Fr (fun k=>k=R) w w1):sL R t x w e w2:=⟨h.1,fr.same h.2⟩
theorem N0{p:L}(h:RD R t wh n w l)(hp:part l=p):Z4 176 #[Z8 R,.string (bs p)] w fun e w'=>e=.returned (.tuple #[])/\RD R t wh n w' (pass p.length l)/\Fr (fun k=>k=R) w w':=by
 have HP:=a_ (D8 h hp);clear h hp;go_enter func176,ntmps176;go_wp2_with(first|(go_at_call 83;refine HP.out.mono ?_;rintro e w1 ⟨rfl,rd,fr⟩))
 go_end0
 exact⟨rfl,rd,fr⟩
theorem SH{p:L}(h:RD R t wh n w l)(hp:part l≠p):Z4 176 #[Z8 R,.string (bs p)] w (sL R t (bad (fP t wh) l) w):=by
 have HP:=a_ (JA h hp);have HA:Hid (∀W,Z5 w W->Z4 84 #[Z8 R] W (sL R t (bad (fP t wh) l) W)):=fun W hW=>BS (h.below hW);clear h hp;go_enter func176,ntmps176;go_wp2_with(first|(go_at_call 83;refine HP.out.mono ?_;rintro e w1 ⟨rfl,hb⟩)|(go_at_call 84;refine(HA.out _ hb).mono ?_;rintro e w2 ⟨rfl,fr⟩));exact⟨rfl,rfl,(Fr.below hb).same fr⟩
end
section
variable{w w' w1 w2:World}{F G:Nat->Prop}{R:Nat}{t l l':L}{wh n:Nat}
def Ends{α:Type}(R:Nat)(t:L)(wh n:Nat)(V:World->Value->α->Prop)(w:World)(x:Rs α)(e:Ending)(w':World):Prop:=match x with
 | .ok (a,l')=>∃v,e=.returned v/\V w' v a/\RD R t wh n w' l'/\Fr (fun k=>k=R) w w'
 | .error y=>sL R t y w e w'
def VS(_:World)(v:Value)(a:L):Prop:=v=.string (bs a)
def VB(_:World)(v:Value)(a:Bool):Prop:=v=.bool a
abbrev ptr(R:Nat):Value:=Z8 R
theorem D9(word:L)(h:RD R t wh n w l):Z4 202 #[ptr R,.string (bs word)] w (Z7 (.bool (calls word l)) w):=by
 have HP:=a_ (ow h);by_cases hp:part l=word
 ·have hm:word.length<=l.length:=by rw[<-hp];exact D7 l
  have e1:calls word l=Lib.hasPrefix (skip (l.drop word.length)) [40]:=by unfold calls;rw[hp];simp
  rw[e1];rw[hp]at HP;have hne:((bs word).toList==(bs word).toList)=true:=by simp
  have hz:=fB word;have hr:=Am h.D3 word.length hm;obtain⟨n1,n2⟩:=vD t l word.length h.D3 (by have:=h.tw;have:=h.NA;omega) hm;have HT:=a_ (Jz (l.drop word.length));have hc:∀W,Z5 w W->W.cell? ⟨R,0,none⟩=some (.string (bs t))/\W.cell? ⟨R,2,none⟩=some (.int .i64 ((t.length-l.length:Nat):Int)):=fun W hW=>⟨cell_of (h.below hW).blk rfl,cell_of (h.below hW).blk rfl⟩
  have HC:=a_ hc;have HH:Hid (∀W,Z4 120 #[.string (bs (skip (l.drop word.length))),.string ⟨#[40]⟩] W (Z6 (.bool (Lib.hasPrefix (skip (l.drop word.length)) [40])) W)):=fun W=>by have:=strings_HasPrefix (bs (skip (l.drop word.length))) ⟨#[40]⟩ W;rw[uk]at this;exact this
  generalize ((t.length-l.length:Nat):Int)=at_ at*
  generalize skip (l.drop word.length)=sk at*
  clear h hp e1 hc n2;go_enter func202,ntmps202;go_wp2_with(first|(go_at_call 126;refine HP.out.mono ?_;rintro e w1 ⟨rfl,hb⟩;obtain⟨c0,c2⟩:=HC.out _ hb));go_region_held3 (fun W=>W.cell? ⟨R,0,none⟩=some (.string (bs t))/\W.cell? ⟨R,2,none⟩=some (.int .i64 at_))
   (first|exact⟨c0,c2⟩|exact HC.out _ hb2)
   (first|(go_at_call 122;refine(HT.out _).mono ?_;rintro e w3 ⟨rfl,hb3⟩;have hb2:Z5 w w3:=YB hb ⟨hb3.os,hb3.tape,hb3.output,hb3.size,hb3.block⟩;clear hb3))
  all_goals
   go_wp2_with(first|(go_at_call 120;refine(HH.out _).mono ?_;rintro e w4 ⟨rfl,rfl⟩));go_ret;exact⟨rfl,hb2⟩
 ·have e1:calls word l=false:=by unfold calls;simp[hp]
  rw[e1];have hne:((bs (part l)).toList==(bs word).toList)=false:=by rw[eqL];simpa using hp
  clear h hp e1;go_enter func202,ntmps202;go_wp2_with(first|(go_at_call 126;refine HP.out.mono ?_;rintro e w1 ⟨rfl,hb⟩));go_ret;exact⟨rfl,hb⟩
theorem KF(h:l<:+t)(m:Nat)(hm:m<=l.length)(w:World):(Instr.slice 9 (.string (bs t)) (some (.int .i64 ((t.length-l.length:Nat):Int))) (some (.int .i64 (((t.length-l.length:Nat):Int)+m))) none).run prog w=.ok (.string (bs (l.take m))) w:=by
 have hle:=h.length_le;have:=run_slice_string (P:=prog) w 9 (bs t) .i64 .i64 ((t.length-l.length:Nat):Int) (((t.length-l.length:Nat):Int)+m) underlying9 (by omega) (by omega) (by rw[fB];omega);have e:(((t.length-l.length:Nat):Int)+m).toNat-((t.length-l.length:Nat):Int).toNat=m:=by omega
 rw[this,kN,e,aG,D4 h]
theorem xr(h:RD R t wh n w l):Z4 203 #[ptr R] w (Ends R t wh n VS w (name (fP t wh) l)):=by
 have c0:w.cell? ⟨R,0,none⟩=some (.string (bs t)):=cell_of h.blk rfl;have c2:w.cell? ⟨R,2,none⟩=some (.int .i64 ((t.length-l.length:Nat):Int)):=cell_of h.blk rfl;have hr:=xV h.D3;have DA:=Vk l;have D6:Hid (∀w:World,Z4 154 #[.string (bs l)] w (Z7 (.int .i64 (nm l)) w)):=fun w=>rE (bs l) w (by rw[fB];have:=h.le;have:=h.tw;have:=h.NA;omega);have KG:Hid (∀(word:L) (W:World),Z5 w W->Z4 202 #[ptr R,.string (bs word)] W (Z7 (.bool (calls word l)) W)):=fun word W hW=>D9 word (h.below hW);have Y7:Hid (∀W,Z5 w W->Z4 84 #[ptr R] W (sL R t (bad (fP t wh) l) W)):=fun W hW=>BS (h.below hW);have HPA:Hid (∀W,Z5 w W->Z4 81 #[ptr R,.int .i64 (nm l)] W fun e w'=>e=.returned (.tuple #[])/\RD R t wh n w' (pass (nm l) l)/\Fr (fun k=>k=R) W w'):=fun W hW=>BT _ (h.below hW) DA;have HC:Hid (∀W,Z5 w W->W.cell? ⟨R,0,none⟩=some (.string (bs t))/\W.cell? ⟨R,2,none⟩=some (.int .i64 ((t.length-l.length:Nat):Int))):=fun W hW=>⟨cell_of (h.below hW).blk rfl,cell_of (h.below hW).blk rfl⟩
 have hs:=KF h.D3 (nm l) DA;have hwr:IntKind.i64.wrap (((t.length-l.length:Nat):Int)+nm l)=((t.length-l.length:Nat):Int)+nm l:=(vD t l (nm l) h.D3 (by have:=h.tw;have:=h.NA;omega) DA).1;obtain⟨b0,hb0⟩:∃b,decide (nm l=0)=b:=⟨_,rfl⟩
 have h0:((nm l:Int)==0)=b0:=by rw[<-hb0,bK];simp
 obtain⟨b1,hb1⟩:∃b,calls NW l=b:=⟨_,rfl⟩
 obtain⟨b2,hb2⟩:∃b,calls Aj l=b:=⟨_,rfl⟩
 have hname:name (fP t wh) l=if b0=true\/b1=true\/b2=true then .error (bad (fP t wh) l)else .ok (l.take (nm l),pass (nm l) l):=by unfold name;rw[hb1,hb2,<-hb0];simp only[aW]
 have hb1:calls [110,111,116] l=b1:=hb1;have hb2:calls [116,101,120,116] l=b2:=hb2;have KG:Hid (∀(word:L) (W:World),Z5 w W->Z4 202 #[ptr R,.string ⟨word.toArray⟩] W (Z7 (.bool (calls word l)) W)):=fun word W hW=>KG.out word W hW;rw[hname];clear h hname hb0 DA;generalize ((t.length-l.length:Nat):Int)=at_ at*
 generalize nm l=N at*
 cases b0 with
 |true=>
   simp only[ay,false_or,cS,true_or,or_true,if_true,bf];go_enter func203,ntmps203;go_wp2_with fail;go_region_held3 (fun W=>W.cell? ⟨R,0,none⟩=some (.string (bs t))/\W.cell? ⟨R,2,none⟩=some (.int .i64 at_))
     (first|exact⟨c0,c2⟩|exact HC.out _ hb)
     (first|(go_at_call 154;refine(D6.out _).mono ?_;rintro e w1 ⟨rfl,hb3⟩;have hb:Z5 w w1:=⟨hb3.os,hb3.tape,hb3.output,hb3.size,hb3.block⟩;clear hb3))
   all_goals
     go_wp2_with(first|(go_at_call 84;refine(Y7.out _ hb).mono ?_;rintro e w2 ⟨rfl,fr⟩));exact⟨rfl,rfl,(Fr.below hb).same fr⟩
 |false=>
  cases b1 with
  |true=>
   simp only[ay,false_or,cS,true_or,or_true,if_true,bf];go_enter func203,ntmps203;go_wp2_with fail;go_region_held3 (fun W=>W.cell? ⟨R,0,none⟩=some (.string (bs t))/\W.cell? ⟨R,2,none⟩=some (.int .i64 at_))
     (first|exact⟨c0,c2⟩|exact HC.out _ hb)
     (first|(go_at_call 154;refine(D6.out _).mono ?_;rintro e w1 ⟨rfl,hb3⟩;have hb:Z5 w w1:=⟨hb3.os,hb3.tape,hb3.output,hb3.size,hb3.block⟩;clear hb3))
   all_goals
     go_wp2_with(first|(go_at_call 202;refine(KG.out _ _ hb).mono ?_;rintro e w2 ⟨rfl,hb4⟩;have zG:=YB hb hb4)|(go_at_call 84;refine(Y7.out _ zG).mono ?_;rintro e w2 ⟨rfl,fr⟩));exact⟨rfl,rfl,(Fr.below zG).same fr⟩
  |false=>
   cases b2 with
   |true=>
    simp only[ay,false_or,cS,true_or,or_true,if_true,bf];go_enter func203,ntmps203;go_wp2_with fail;go_region_held3 (fun W=>W.cell? ⟨R,0,none⟩=some (.string (bs t))/\W.cell? ⟨R,2,none⟩=some (.int .i64 at_))
      (first|exact⟨c0,c2⟩|exact HC.out _ hb)
      (first|(go_at_call 154;refine(D6.out _).mono ?_;rintro e w1 ⟨rfl,hb3⟩;have hb:Z5 w w1:=⟨hb3.os,hb3.tape,hb3.output,hb3.size,hb3.block⟩;clear hb3))
    all_goals
      go_wp2_with(first|(go_at_call 202;first|(refine(KG.out _ _ zG).mono ?_;rintro e w3 ⟨rfl,Y8⟩;have Gg:=YB zG Y8)|(refine(KG.out _ _ hb).mono ?_;rintro e w2 ⟨rfl,hb4⟩;have zG:=YB hb hb4))|(go_at_call 84;refine(Y7.out _ Gg).mono ?_;rintro e w2 ⟨rfl,fr⟩));exact⟨rfl,rfl,(Fr.below Gg).same fr⟩
   |false=>
    simp only[ay,false_or,cS,true_or,or_true,if_true,bf];go_enter func203,ntmps203;go_wp2_with fail;go_region_held3 (fun W=>W.cell? ⟨R,0,none⟩=some (.string (bs t))/\W.cell? ⟨R,2,none⟩=some (.int .i64 at_))
      (first|exact⟨c0,c2⟩|exact HC.out _ hb)
      (first|(go_at_call 154;refine(D6.out _).mono ?_;rintro e w1 ⟨rfl,hb3⟩;have hb:Z5 w w1:=⟨hb3.os,hb3.tape,hb3.output,hb3.size,hb3.block⟩;clear hb3))
    all_goals
      go_wp2_with(first|(go_at_call 202;first|(refine(KG.out _ _ zG).mono ?_;rintro e w3 ⟨rfl,Y8⟩;have Gg:=YB zG Y8;obtain⟨d0,d2⟩:=HC.out _ Gg)|(refine(KG.out _ _ hb).mono ?_;rintro e w2 ⟨rfl,hb4⟩;have zG:=YB hb hb4)));go_quiet(fail);have hb8:Z5 w (w3.drewN nq):=⟨Gg.os,Gg.tape,Gg.output,Gg.size,Gg.block⟩
      go_wp2_with(go_at_call 81;refine(HPA.out _ hb8).mono ?_;rintro e w4 ⟨rfl,rd,fr⟩);go_ret;exact⟨_,rfl,rfl,rd,(Fr.below Gg).same ⟨fr.os,fr.tape,fr.output,fr.size,fr.block⟩⟩
end
section
variable{w w' w1 w2:World}{F G:Nat->Prop}{R:Nat}{t l l':L}{wh n:Nat}
theorem BU(p:L)(h:RD R t wh n w l):Z4 176 #[ptr R,.string ⟨p.toArray⟩] w fun e w'=>match want (fP t wh) p l with
  | .ok l'=>e=.returned (.tuple #[])/\RD R t wh n w' l'/\Fr (fun k=>k=R) w w'
  | .error y=>sL R t y w e w':=by
 unfold want;by_cases hp:part l=p
 ·rw[if_pos hp];exact N0 h hp
 ·rw[if_neg hp];exact SH h hp
theorem BV(p:L)(h:RD R t wh n w l)(b:Bool)(hb:decide (part l=p)=b):Z4 83 #[ptr R,.string ⟨p.toArray⟩] w fun e w'=>e=.returned (.bool b)/\RD R t wh n w' (if b=true then pass p.length l else l)/\Fr (fun k=>k=R) w w':=by
 cases b with
 |true=>exact D8 h (by simpa using hb)
 |false=>exact(JA h (by simpa using hb)).mono fun e w' x=>⟨x.1,h.below x.2,Fr.below x.2⟩
theorem um(h:RD R t wh n w l):Z4 124 #[ptr R] w (Ends R t wh n VB w (jF (fP t wh) l)):=by
 obtain⟨b,hb⟩:∃b,decide (part l=[47,47])=b:=⟨_,rfl⟩
 have HT:=a_ (BV [47,47] h b hb);cases b with
 |true=>
  rw[jF,if_pos (by simpa using hb)];clear h hb;go_enter func124,ntmps124;go_wp2_with(first|(go_at_call 83;refine HT.out.mono ?_;rintro e w1 ⟨rfl,rd,fr⟩));go_ret;exact⟨_,rfl,rfl,rd,fr⟩
 |false=>
  rw[jF,if_neg (by simpa using hb)];have HW:Hid (∀W,RD R t wh n W l->Z4 176 #[ptr R,.string ⟨#[47]⟩] W fun e w'=>match want (fP t wh) [47] l with
   | .ok l'=>e=.returned (.tuple #[])/\RD R t wh n w' l'/\Fr (fun k=>k=R) W w'
   | .error y=>sL R t y W e w'):=fun W hW=>BU [47] hW
  clear h hb;cases hx:want (fP t wh) [47] l with
  |error y=>
   simp only[hx]at HW;simp only[ud];clear hx;go_enter func124,ntmps124;go_wp2_with(first|(go_at_call 83;refine HT.out.mono ?_;rintro e w1 ⟨rfl,rd,fr⟩)|(go_at_call 176;refine(HW.out _ rd).mono ?_;rintro e w2 ⟨rfl,tY⟩));exact⟨rfl,rfl,fr.same tY⟩
  |ok l1=>
   simp only[hx]at HW;simp only[ud];clear hx;go_enter func124,ntmps124;go_wp2_with(first|(go_at_call 83;refine HT.out.mono ?_;rintro e w1 ⟨rfl,rd,fr⟩)|(go_at_call 176;refine(HW.out _ rd).mono ?_;rintro e w2 ⟨rfl,KH,tY⟩));go_ret;exact⟨_,rfl,rfl,KH,fr.same tY⟩
end
section
variable{w w' w1 w2:World}{F G:Nat->Prop}{R:Nat}{t l l':L}{wh n:Nat}
theorem BW{p l1:L}(hx:want (fP t wh) p l=.ok l1)(h:RD R t wh n w l):Z4 176 #[ptr R,.string ⟨p.toArray⟩] w fun e w'=>e=.returned (.tuple #[])/\RD R t wh n w' l1/\Fr (fun k=>k=R) w w':=by have:=BU p h;simpa only[hx]using this
theorem BX{p:L}{y:Nat×Nat}(hx:want (fP t wh) p l=.error y)(h:RD R t wh n w l):Z4 176 #[ptr R,.string ⟨p.toArray⟩] w fun e w'=>e=pK y.1 y.2 t/\Fr (fun k=>k=R) w w':=by have:=BU p h;simp only[hx]at this;exact this
theorem SI(h:RD R t wh n w l):Z4 172 #[ptr R] w (Ends R t wh n VS w (test (fP t wh) l)):=by
 obtain⟨b,hb⟩:∃b,decide (part l=[42])=b:=⟨_,rfl⟩
 have HT:=a_ (BV [42] h b hb);cases b with
 |true=>
  rw[test,if_pos (by simpa using hb)];clear h hb;go_enter func172,ntmps172;go_wp2_with(first|(go_at_call 83;refine(HT.out).mono ?_;rintro e w1 ⟨rfl,BZ,w_⟩));go_ret;exact⟨_,rfl,rfl,BZ,w_⟩
 |false=>
  rw[test,if_neg (by simpa using hb)];obtain⟨c,hc⟩:∃c,calls Aj l=c:=⟨_,rfl⟩
  have HC:Hid (∀W,RD R t wh n W l->Z4 202 #[ptr R,.string ⟨#[116,101,120,116]⟩] W (Z7 (.bool c) W)):=fun W hW=>by have:=D9 Aj hW;rw[hc]at this;exact this
  clear h hb;cases c with
  |false=>
   rw[if_neg (by rw[hc];simp)];have HN:Hid (∀W,RD R t wh n W l->Z4 203 #[ptr R] W (Ends R t wh n VS W (name (fP t wh) l))):=fun W hW=>xr hW;clear hc;cases hy:name (fP t wh) l with
   |error y=>
    rw[hy]at HN;clear hy;go_enter func172,ntmps172;go_wp2_with(first|(go_at_call 203;refine(HN.out _ KH).mono ?_;rintro e w3 ⟨rfl,uo⟩)|(go_at_call 202;refine(HC.out _ BZ).mono ?_;rintro e w2 ⟨rfl,hb2⟩;have KH:=BZ.below hb2;have tY:=w_.on hb2)|(go_at_call 83;refine(HT.out).mono ?_;rintro e w1 ⟨rfl,BZ,w_⟩));exact⟨rfl,rfl,tY.same uo⟩
   |ok z=>
    obtain⟨a,l2⟩:=z;rw[hy]at HN;clear hy;go_enter func172,ntmps172;go_wp2_with(first|(go_at_call 203;refine(HN.out _ KH).mono ?_;rintro e w3 ⟨v,rfl,rfl,JB,uo⟩)|(go_at_call 202;refine(HC.out _ BZ).mono ?_;rintro e w2 ⟨rfl,hb2⟩;have KH:=BZ.below hb2;have tY:=w_.on hb2)|(go_at_call 83;refine(HT.out).mono ?_;rintro e w1 ⟨rfl,BZ,w_⟩));go_ret;exact⟨_,rfl,rfl,JB,tY.same uo⟩
  |true=>
   rw[if_pos hc];clear hc;cases hx1:want (fP t wh) [116,101,120,116] l with
   |error y=>
    have W1:Hid (∀W,RD R t wh n W l->Z4 176 #[ptr R,.string ⟨#[116,101,120,116]⟩] W fun e w'=>e=pK y.1 y.2 t/\Fr (fun k=>k=R) W w'):=fun W hW=>BX hx1 hW;simp only[ud];clear hx1;go_enter func172,ntmps172;go_wp2_with(first|(go_at_call 176;refine(W1.out _ KH).mono ?_;rintro e w9 ⟨rfl,Y9⟩)|(go_at_call 202;refine(HC.out _ BZ).mono ?_;rintro e w2 ⟨rfl,hb2⟩;have KH:=BZ.below hb2;have tY:=w_.on hb2)|(go_at_call 83;refine(HT.out).mono ?_;rintro e w1 ⟨rfl,BZ,w_⟩));exact⟨rfl,rfl,tY.same Y9⟩
   |ok l1=>
    have W1:Hid (∀W,RD R t wh n W l->Z4 176 #[ptr R,.string ⟨#[116,101,120,116]⟩] W fun e w'=>e=.returned (.tuple #[])/\RD R t wh n w' l1/\Fr (fun k=>k=R) W w'):=fun W hW=>BW hx1 hW;simp only[ud];clear hx1;cases hx2:want (fP t wh) [40] l1 with
    |error y=>
     have W2:Hid (∀W,RD R t wh n W l1->Z4 176 #[ptr R,.string ⟨#[40]⟩] W fun e w'=>e=pK y.1 y.2 t/\Fr (fun k=>k=R) W w'):=fun W hW=>BX hx2 hW;simp only[ud];clear hx2;go_enter func172,ntmps172;go_wp2_with(first|(go_at_call 176;refine(W2.out _ JB).mono ?_;rintro e w9 ⟨rfl,Y9⟩)|(go_at_call 176;refine(W1.out _ KH).mono ?_;rintro e w3 ⟨rfl,JB,uo⟩;have uo:=tY.same uo)|(go_at_call 202;refine(HC.out _ BZ).mono ?_;rintro e w2 ⟨rfl,hb2⟩;have KH:=BZ.below hb2;have tY:=w_.on hb2)|(go_at_call 83;refine(HT.out).mono ?_;rintro e w1 ⟨rfl,BZ,w_⟩));exact⟨rfl,rfl,uo.same Y9⟩
    |ok l2=>
     have W2:Hid (∀W,RD R t wh n W l1->Z4 176 #[ptr R,.string ⟨#[40]⟩] W fun e w'=>e=.returned (.tuple #[])/\RD R t wh n w' l2/\Fr (fun k=>k=R) W w'):=fun W hW=>BW hx2 hW;simp only[ud];clear hx2;cases hx3:want (fP t wh) [41] l2 with
     |error y=>
      have W3:Hid (∀W,RD R t wh n W l2->Z4 176 #[ptr R,.string ⟨#[41]⟩] W fun e w'=>e=pK y.1 y.2 t/\Fr (fun k=>k=R) W w'):=fun W hW=>BX hx3 hW;simp only[ud];clear hx3;go_enter func172,ntmps172;go_wp2_with(first|(go_at_call 176;refine(W3.out _ B0).mono ?_;rintro e w9 ⟨rfl,Y9⟩)|(go_at_call 176;refine(W2.out _ JB).mono ?_;rintro e w4 ⟨rfl,B0,GB⟩;have GB:=uo.same GB)|(go_at_call 176;refine(W1.out _ KH).mono ?_;rintro e w3 ⟨rfl,JB,uo⟩;have uo:=tY.same uo)|(go_at_call 202;refine(HC.out _ BZ).mono ?_;rintro e w2 ⟨rfl,hb2⟩;have KH:=BZ.below hb2;have tY:=w_.on hb2)|(go_at_call 83;refine(HT.out).mono ?_;rintro e w1 ⟨rfl,BZ,w_⟩));exact⟨rfl,rfl,GB.same Y9⟩
     |ok l3=>
      have W3:Hid (∀W,RD R t wh n W l2->Z4 176 #[ptr R,.string ⟨#[41]⟩] W fun e w'=>e=.returned (.tuple #[])/\RD R t wh n w' l3/\Fr (fun k=>k=R) W w'):=fun W hW=>BW hx3 hW;simp only[ud];clear hx3;go_enter func172,ntmps172;go_wp2_with(first|(go_at_call 176;refine(W3.out _ B0).mono ?_;rintro e w5 ⟨rfl,N1,GC⟩;have GC:=GB.same GC)|(go_at_call 176;refine(W2.out _ JB).mono ?_;rintro e w4 ⟨rfl,B0,GB⟩;have GB:=uo.same GB)|(go_at_call 176;refine(W1.out _ KH).mono ?_;rintro e w3 ⟨rfl,JB,uo⟩;have uo:=tY.same uo)|(go_at_call 202;refine(HC.out _ BZ).mono ?_;rintro e w2 ⟨rfl,hb2⟩;have KH:=BZ.below hb2;have tY:=w_.on hb2)|(go_at_call 83;refine(HT.out).mono ?_;rintro e w1 ⟨rfl,BZ,w_⟩));go_ret;exact⟨_,rfl,rfl,N1,GC⟩
end
section
def fF.len:fF->Nat
 | .nil=>0
 | .cons _ _ _ m=>m.len+1
def gD.len:gD->Nat
 | .nil=>0
 | .cons _ _ _ _ _ m=>m.len+1
def sl(w:World)(A:Nat->Prop)(e:TypeId)(v:Value)(n:Nat)(k:Nat->Prop):Prop:=
 (n=0/\v=fK)\/∃g cap cur,v=Z9 g n cap/\A g/\w.heap[g]?=some (.cells cur e (0,0))/\n<=1000/\(0<n/\n<=cap)/\k g
mutual
def pd(w:World)(A:Nat->Prop)(tS tP:TypeId):Nat->Nat->fF->Prop
 |_,_,.nil=>True
 |g,i,.cons d t ps m=>w.cell? ⟨g,i*3,none⟩=some (.bool d)/\w.cell? ⟨g,i*3+1,none⟩=some (.string (bs t))/\
  (∃v,w.cell? ⟨g,i*3+2,none⟩=some v/\sl w A tP v ps.len fun g=>oq w A tS tP g 0 ps)/\pd w A tS tP g (i+1) m
def oq(w:World)(A:Nat->Prop)(tS tP:TypeId):Nat->Nat->gD->Prop
 |_,_,.nil=>True
 |g,i,.cons op ks ss at_ tx m=>w.cell? ⟨g,i*5,none⟩=some (.string (bs op))/\
  (∃v,w.cell? ⟨g,i*5+1,none⟩=some v/\sl w A tP v ks.len fun g=>oq w A tS tP g 0 ks)/\
  (∃v,w.cell? ⟨g,i*5+2,none⟩=some v/\sl w A tS v ss.len fun g=>pd w A tS tP g 0 ss)/\
  w.cell? ⟨g,i*5+3,none⟩=some (.string (bs at_))/\w.cell? ⟨g,i*5+4,none⟩=some (.string (bs tx))/\oq w A tS tP g (i+1) m
end
def pH(w:World)(A:Nat->Prop)(tS tP:TypeId)(v:Value)(s:fF):Prop:=sl w A tS v s.len fun g=>pd w A tS tP g 0 s
def qG(w:World)(A:Nat->Prop)(tS tP:TypeId)(v:Value)(s:gD):Prop:=sl w A tP v s.len fun g=>oq w A tS tP g 0 s
variable{w w' w1 w2:World}{A A' B:Nat->Prop}{tS tP:TypeId}{v:Value}
theorem sl.shape{e:TypeId}{n:Nat}{k:Nat->Prop}(h:sl w A e v n k):∃ai cap,v=.slice ai n cap:=by
 rcases h with⟨rfl,rfl⟩|⟨g,cap,cur,rfl,_⟩
 ·exact⟨_,_,rfl⟩
 ·exact⟨_,_,rfl⟩
def Move(A A':Nat->Prop)(w w':World):Prop:=∀b,A b->b<w.heap.size->A' b/\w'.heap[b]?=w.heap[b]?
theorem sl.move(hm:Move A A' w w'){e:TypeId}{n:Nat}{k k':Nat->Prop}(h:sl w A e v n k)(hk:∀g,A g->g<w.heap.size->k g->k' g):sl w' A' e v n k':=by
 rcases h with h|⟨g,cap,cur,hv,ha,hg,hn,h0,hr⟩
 ·exact Or.inl h
 ·obtain⟨h1,h2⟩:=hm g ha (eO hg);exact Or.inr ⟨g,cap,cur,hv,h1,h2.trans hg,hn,h0,hk g ha (eO hg) hr⟩
mutual
theorem pd.move(hm:Move A A' w w'):∀(s:fF) (g i:Nat),w'.heap[g]?=w.heap[g]?->pd w A tS tP g i s->pd w' A' tS tP g i s
 | .nil,_,_,_,_=>by simp only[pd]
 | .cons d t ps m,g,i,hg,h=>by
  simp only[pd]at h ⊢;obtain⟨h0,h1,⟨v,h2,h3⟩,h4⟩:=h;have up:∀j u,w.cell? ⟨g,j,none⟩=some u->w'.cell? ⟨g,j,none⟩=some u:=fun j u hj=>(ag hg).trans hj;exact⟨up _ _ h0,up _ _ h1,⟨v,up _ _ h2,h3.move hm fun g' ha hl hr=>oq.move hm ps g' 0 (hm g' ha hl).2 hr⟩,pd.move hm m g (i+1) hg h4⟩
theorem oq.move(hm:Move A A' w w'):∀(s:gD) (g i:Nat),w'.heap[g]?=w.heap[g]?->oq w A tS tP g i s->oq w' A' tS tP g i s
 | .nil,_,_,_,_=>by simp only[oq]
 | .cons op ks ss at_ tx m,g,i,hg,h=>by
  simp only[oq]at h ⊢;obtain⟨h0,⟨v,h1,h2⟩,⟨u,h3,h4⟩,h5,h6,h7⟩:=h;have up:∀j u,w.cell? ⟨g,j,none⟩=some u->w'.cell? ⟨g,j,none⟩=some u:=fun j u hj=>(ag hg).trans hj;exact⟨up _ _ h0,⟨v,up _ _ h1,h2.move hm fun g' ha hl hr=>oq.move hm ks g' 0 (hm g' ha hl).2 hr⟩,⟨u,up _ _ h3,h4.move hm fun g' ha hl hr=>pd.move hm ss g' 0 (hm g' ha hl).2 hr⟩,up _ _ h5,up _ _ h6,oq.move hm m g (i+1) hg h7⟩
end
theorem pH.move(hm:Move A A' w w'){s:fF}(h:pH w A tS tP v s):pH w' A' tS tP v s:=sl.move hm h fun g ha hl hr=>pd.move hm s g 0 (hm g ha hl).2 hr
theorem qG.move(hm:Move A A' w w'){s:gD}(h:qG w A tS tP v s):qG w' A' tS tP v s:=sl.move hm h fun g ha hl hr=>oq.move hm s g 0 (hm g ha hl).2 hr
def SV(A:Nat->Prop)(tS tP:TypeId)(w:World)(v:Value)(s:jf):Prop:=∃vp,v=.agg #[.bool s.deep,.string (bs s.test),vp]/\qG w A tS tP vp s.iZ
def gQ(l:List (jf×Value)):List Value:=l.flatMap fun x=>[.bool x.1.deep,.string (bs x.1.test),x.2]
def oN(l:List (kM×Value×Value)):List Value:=l.flatMap fun x=>[.string (bs x.1.op),x.2.1,x.2.2,.string (bs x.1.attr),.string (bs x.1.text)]
theorem td(l:List (jf×Value)):(gQ l).length=l.length*3:=by
 induction l with
 |nil=>rfl
 |cons x l ih=>simp only[gQ,bU,af,au,aF]at*;omega
theorem GD(l:List (jf×Value))(x:jf×Value):gQ (l++[x])=gQ l++[.bool x.1.deep,.string (bs x.1.test),x.2]:=by simp[gQ]
theorem GF(l:List (kM×Value×Value))(x:kM×Value×Value):oN (l++[x])=oN l++[.string (bs x.1.op),x.2.1,x.2.2,.string (bs x.1.attr),.string (bs x.1.text)]:=by simp[oN]
structure GS(lo:Nat)(tS tP:TypeId)(w:World)(v:Value)(l:List jf):Prop where
 ex:∃xs:List (jf×Value),xs.map (·.1)=l/\w.ownsRow 0 tS 3 v l.length (gQ xs)/\∀x∈xs,qG w (fun b=>lo<=b/\some b≠v.ownBlock) tS tP x.2 x.1.iZ
 own:∀k,v.ownBlock=some k->lo<=k
structure GP(lo:Nat)(tS tP:TypeId)(w:World)(v:Value)(l:List kM):Prop where
 ex:∃xs:List (kM×Value×Value),xs.map (·.1)=l/\w.ownsRow 0 tP 5 v l.length (oN xs)/\∀x∈xs,qG w (fun b=>lo<=b/\some b≠v.ownBlock) tS tP x.2.1 x.1.kids/\pH w (fun b=>lo<=b/\some b≠v.ownBlock) tS tP x.2.2 x.1.steps
 own:∀k,v.ownBlock=some k->lo<=k
variable{lo:Nat}{l:List jf}{lp:List kM}
theorem GS.zero:GS lo tS tP w fK []:=⟨⟨[],rfl,⟨rfl,Or.inl ⟨rfl,rfl⟩⟩,fun x hx=>by simp at hx⟩,fun k e=>by cases e⟩
theorem GP.zero:GP lo tS tP w fK []:=⟨⟨[],rfl,⟨rfl,Or.inl ⟨rfl,rfl⟩⟩,fun x hx=>by simp at hx⟩,fun k e=>by cases e⟩
theorem GS.fr{F:Nat->Prop}(h:GS lo tS tP w v l)(hf:Fr F w w')(hF:∀k,F k->k<w.heap.size->k<lo):GS lo tS tP w' v l:=by
 obtain⟨xs,h1,h2,h3⟩:=h.ex;have hb:∀b,lo<=b->b<w.heap.size->w'.heap[b]?=w.heap[b]?:=fun b h1 h2=>hf.block b h2 (fun x=>by have:=hF b x h2;omega);exact⟨⟨xs,h1,eH h2 fun k e=>hb k (h.own k e) (eW h2 e),fun x hx=>(h3 x hx).move fun b ha hl=>⟨ha,hb b ha.1 hl⟩⟩,h.own⟩
theorem GP.fr{F:Nat->Prop}(h:GP lo tS tP w v lp)(hf:Fr F w w')(hF:∀k,F k->k<w.heap.size->k<lo):GP lo tS tP w' v lp:=by
 obtain⟨xs,h1,h2,h3⟩:=h.ex;have hb:∀b,lo<=b->b<w.heap.size->w'.heap[b]?=w.heap[b]?:=fun b h1 h2=>hf.block b h2 (fun x=>by have:=hF b x h2;omega);exact⟨⟨xs,h1,eH h2 fun k e=>hb k (h.own k e) (eW h2 e),fun x hx=>⟨(h3 x hx).1.move fun b ha hl=>⟨ha,hb b ha.1 hl⟩,(h3 x hx).2.move fun b ha hl=>⟨ha,hb b ha.1 hl⟩⟩⟩,h.own⟩
theorem JC(g:Nat):∀(ss:List jf) (i:Nat),(∀k s,ss[k]?=some s->w.cell? ⟨g,(i+k)*3,none⟩=some (.bool s.deep)/\w.cell? ⟨g,(i+k)*3+1,none⟩=some (.string (bs s.test))/\∃v,w.cell? ⟨g,(i+k)*3+2,none⟩=some v/\qG w A tS tP v s.iZ)->pd w A tS tP g i (fF.of ss)
 |[],i,_=>by simp only[fF.of,pd]
 |s::ss,i,h=>by
  simp only[fF.of,pd];obtain⟨h0,h1,h2⟩:=h 0 s rfl;refine⟨h0,h1,h2,JC g ss (i+1) fun k s hk=>?_⟩;have:=h (k+1) s (by simpa using hk);rwa[show i+(k+1)=i+1+k by omega]at this
theorem JD(g:Nat):∀(ss:List kM) (i:Nat),(∀k s,ss[k]?=some s->w.cell? ⟨g,(i+k)*5,none⟩=some (.string (bs s.op))/\(∃v,w.cell? ⟨g,(i+k)*5+1,none⟩=some v/\qG w A tS tP v s.kids)/\(∃v,w.cell? ⟨g,(i+k)*5+2,none⟩=some v/\pH w A tS tP v s.steps)/\w.cell? ⟨g,(i+k)*5+3,none⟩=some (.string (bs s.attr))/\w.cell? ⟨g,(i+k)*5+4,none⟩=some (.string (bs s.text)))->oq w A tS tP g i (gD.of ss)
 |[],i,_=>by simp only[gD.of,oq]
 |s::ss,i,h=>by
  simp only[gD.of,oq];obtain⟨h0,h1,h2,h3,h4⟩:=h 0 s rfl;refine⟨h0,h1,h2,h3,h4,JD g ss (i+1) fun k s hk=>?_⟩;have:=h (k+1) s (by simpa using hk);rwa[show i+(k+1)=i+1+k by omega]at this
theorem fF.vE:∀ss:List jf,(fF.of ss).len=ss.length
 |[]=>rfl
 |s::ss=>by simp only[fF.of,fF.len,fF.vE ss,au]
theorem gD.vE:∀ss:List kM,(gD.of ss).len=ss.length
 |[]=>rfl
 |s::ss=>by simp only[gD.of,gD.len,gD.vE ss,au]
theorem j_:∀(xs:List (jf×Value)) (k:Nat) (x:jf×Value) (c:Nat) (u:Value),xs[k]?=some x->[Value.bool x.1.deep,.string (bs x.1.test),x.2][c]?=some u->(gQ xs)[k*3+c]?=some u
 |[],k,x,c,u,h,_=>by simp at h
 |y::xs,0,x,c,u,h,hc=>by
  obtain rfl:y=x:=by simpa using h
  have hl:c<3:=by have:=(List.getElem?_eq_some_iff.1 hc).1;simpa using this
  show (_++gQ xs)[0*3+c]?=_;rw[aL (by simp;omega)];simpa using hc
 |y::xs,k+1,x,c,u,h,hc=>by
  have:=j_ xs k x c u (by simpa using h) hc;show (_++gQ xs)[(k+1)*3+c]?=_;rw[aP (by simp;omega)];rw[<-this];congr 1;simp;omega
theorem ny:∀(xs:List (kM×Value×Value)) (k:Nat) (x:kM×Value×Value) (c:Nat) (u:Value),xs[k]?=some x->[Value.string (bs x.1.op),x.2.1,x.2.2,.string (bs x.1.attr),.string (bs x.1.text)][c]?=some u->(oN xs)[k*5+c]?=some u
 |[],k,x,c,u,h,_=>by simp at h
 |y::xs,0,x,c,u,h,hc=>by
  obtain rfl:y=x:=by simpa using h
  have hl:c<5:=by have:=(List.getElem?_eq_some_iff.1 hc).1;simpa using this
  show (_++oN xs)[0*5+c]?=_;rw[aL (by simp;omega)];simpa using hc
 |y::xs,k+1,x,c,u,h,hc=>by
  have:=ny xs k x c u (by simpa using h) hc;show (_++oN xs)[(k+1)*5+c]?=_;rw[aP (by simp;omega)];rw[<-this];congr 1;simp;omega
theorem kE{e:TypeId}{sz g n cap j:Nat}{xs:List Value}{u:Value}(h:w.ownsRow 0 e sz (Z9 g n cap) n xs)(hj:xs[j]?=some u):w.cell? ⟨g,j,none⟩=some u:=by
 rcases h.2 with⟨e1,_⟩|⟨g',cap',cur,e1,h0,hg,h1,h2,h3,h4⟩
 ·cases e1
 ·cases e1;refine cell_of hg ?_;rw[<-h4,bW]at hj;split at hj
  ·simpa using hj
  ·cases hj
theorem B3{α β:Type}{f:α->β}{xs:List α}{l:List β}(h:xs.map f=l){k:Nat}{s:β}(hk:l[k]?=some s):∃x,xs[k]?=some x/\f x=s:=by
 rw[<-h,aH]at hk;cases hx:xs[k]? with
 |none=>rw[hx]at hk;cases hk
 |some x=>rw[hx]at hk;exact⟨x,rfl,by simpa using hk⟩
theorem pL{α:Type}{xs:List α}{k:Nat}{x:α}(h:xs[k]?=some x):x∈xs:=aO h
theorem GS.done(h:GS lo tS tP w v l)(hn:l.length<=1000)(hne:l=[]->v=fK):pH w (fun b=>lo<=b) tS tP v (fF.of l):=by
 obtain⟨xs,h1,h2,h3⟩:=h.ex;unfold pH;rw[fF.vE];obtain⟨ai,cap,rfl⟩:=eF h2;rcases h2.2 with⟨e,e2⟩|⟨g,cap',cur,e1,h0,hg,hr⟩
 ·exact Or.inl ⟨e2,e⟩
 ·cases e1;by_cases hz:l.length=0
  ·have:=hne (List.length_eq_zero_iff.1 hz);cases this
  refine Or.inr ⟨g,cap,cur,rfl,h.own g rfl,hg,hn,by omega,JC g l 0 fun k s hk=>?_⟩;obtain⟨x,hx,rfl⟩:=B3 h1 hk;rw[ax];exact⟨kE h2 (j_ xs k x 0 _ hx rfl),kE h2 (j_ xs k x 1 _ hx rfl),x.2,kE h2 (j_ xs k x 2 _ hx rfl),(h3 x (pL hx)).move fun b ha _=>⟨ha.1,rfl⟩⟩
theorem GP.done(h:GP lo tS tP w v lp)(hn:lp.length<=1000)(hne:lp=[]->v=fK):qG w (fun b=>lo<=b) tS tP v (gD.of lp):=by
 obtain⟨xs,h1,h2,h3⟩:=h.ex;unfold qG;rw[gD.vE];obtain⟨ai,cap,rfl⟩:=eF h2;rcases h2.2 with⟨e,e2⟩|⟨g,cap',cur,e1,h0,hg,hr⟩
 ·exact Or.inl ⟨e2,e⟩
 ·cases e1;by_cases hz:lp.length=0
  ·have:=hne (List.length_eq_zero_iff.1 hz);cases this
  refine Or.inr ⟨g,cap,cur,rfl,h.own g rfl,hg,hn,by omega,JD g lp 0 fun k s hk=>?_⟩;obtain⟨x,hx,rfl⟩:=B3 h1 hk;rw[ax];exact⟨kE h2 (ny xs k x 0 _ hx rfl),⟨x.2.1,kE h2 (ny xs k x 1 _ hx rfl),(h3 x (pL hx)).1.move fun b ha _=>⟨ha.1,rfl⟩⟩,⟨x.2.2,kE h2 (ny xs k x 2 _ hx rfl),(h3 x (pL hx)).2.move fun b ha _=>⟨ha.1,rfl⟩⟩,kE h2 (ny xs k x 3 _ hx rfl),kE h2 (ny xs k x 4 _ hx rfl)⟩
theorem GS.push{v':Value}{s:jf}{vp:Value}(h:GS lo tS tP w1 v l){xs:List (jf×Value)}(h1:xs.map (·.1)=l)(h3:∀x∈xs,qG w1 (fun b=>lo<=b/\some b≠v.ownBlock) tS tP x.2 x.1.iZ)(hs:qG w1 (fun b=>lo<=b/\some b≠v.ownBlock) tS tP vp s.iZ)(ox:lo<=w1.heap.size)
  (ho:w2.ownsRow 0 tS 3 v' (l.length+1) (gQ xs++[.bool s.deep,.string (bs s.test),vp])) (hg:w1.grownBy w2 v.ownBlock) (hat:v'.ownBlock=v.ownBlock\/v'.ownBlock=some w1.heap.size):GS lo tS tP w2 v' (l++[s]):=by
 have hm:Move (fun b=>lo<=b/\some b≠v.ownBlock) (fun b=>lo<=b/\some b≠v'.ownBlock) w1 w2:=fun b ha hl=>⟨⟨ha.1,by rcases hat with e|e<;>rw[e];exact ha.2;intro x;cases x;omega⟩,hg.block b hl ha.2⟩
 refine⟨⟨xs++[(s,vp)],by rw[aR,h1];rfl,by rw[af,GD];exact ho,fun x hx=>?_⟩,fun k e=>?_⟩
 ·rcases List.mem_append.1 hx with hx|hx
  ·exact(h3 x hx).move hm
  ·obtain rfl:x=(s,vp):=by simpa using hx
   exact hs.move hm
 ·rcases hat with x|x
  ·exact h.own k (x▸e)
  ·rw[x]at e;cases e;exact ox
theorem GP.push{v':Value}{s:kM}{vk vs:Value}(h:GP lo tS tP w1 v lp){xs:List (kM×Value×Value)}(h1:xs.map (·.1)=lp)(h3:∀x∈xs,qG w1 (fun b=>lo<=b/\some b≠v.ownBlock) tS tP x.2.1 x.1.kids/\pH w1 (fun b=>lo<=b/\some b≠v.ownBlock) tS tP x.2.2 x.1.steps)
  (hs:qG w1 (fun b=>lo<=b/\some b≠v.ownBlock) tS tP vk s.kids/\pH w1 (fun b=>lo<=b/\some b≠v.ownBlock) tS tP vs s.steps) (ox:lo<=w1.heap.size)
  (ho:w2.ownsRow 0 tP 5 v' (lp.length+1) (oN xs++[.string (bs s.op),vk,vs,.string (bs s.attr),.string (bs s.text)])) (hg:w1.grownBy w2 v.ownBlock) (hat:v'.ownBlock=v.ownBlock\/v'.ownBlock=some w1.heap.size):GP lo tS tP w2 v' (lp++[s]):=by
 have hm:Move (fun b=>lo<=b/\some b≠v.ownBlock) (fun b=>lo<=b/\some b≠v'.ownBlock) w1 w2:=fun b ha hl=>⟨⟨ha.1,by rcases hat with e|e<;>rw[e];exact ha.2;intro x;cases x;omega⟩,hg.block b hl ha.2⟩
 refine⟨⟨xs++[(s,vk,vs)],by rw[aR,h1];rfl,by rw[af,GF];exact ho,fun x hx=>?_⟩,fun k e=>?_⟩
 ·rcases List.mem_append.1 hx with hx|hx
  ·exact⟨(h3 x hx).1.move hm,(h3 x hx).2.move hm⟩
  ·obtain rfl:x=(s,vk,vs):=by simpa using hx
   exact⟨hs.1.move hm,hs.2.move hm⟩
 ·rcases hat with x|x
  ·exact h.own k (x▸e)
  ·rw[x]at e;cases e;exact ox
end
section
variable{w w' w1 w2:World}{F G:Nat->Prop}{R:Nat}{t l l':L}{wh n:Nat}
def Lays{α:Type}(R:Nat)(t:L)(wh n:Nat)(F:Nat->Prop)(X:World->α->Prop)(w:World)(x:Rs α)(e:Ending)(w':World):Prop:=match x with
 | .ok (a,l')=>e=.returned (.tuple #[])/\RD R t wh n w' l'/\X w' a/\Fr F w w'
 | .error y=>e=pK y.1 y.2 t/\Fr F w w'
theorem RD.nest(h:RD R t wh n w l)(m:Nat)(hm:m<=8):RD R t wh m (w.setCell ⟨R,3,none⟩ (.int .i64 m)) l:=
 ⟨fe h.blk _,h.D3,h.tw,h.NA,hm⟩
end
end Go.Proofs.YthlcmljckpdheaaGreatDoor
