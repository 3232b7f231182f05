import Derived.Test.YtjecakcpcnmieaaGreatDoorHA
import Derived.Lib.SlTrimSet
import Derived.OneCell
import Derived.OwnWalk
import Derived.Maps.AppendAt
import Derived.Maps.OwnSet
import Derived.Deep.RegionLaw
import Derived.Deep.RegionHeld3
import Derived.Deep.QuietTactic
import Derived.BigRegion
import Derived.BigQuiet
import Derived.WalkLawsBesides
import Derived.Defers
import Derived.Recover
import Derived.Test.YtjecakcpcnmieaaGreatDoorHaa
set_option linter.unusedVariables false
set_option linter.unusedSimpArgs false
set_option maxHeartbeats 32000000
set_option maxRecDepth 100000
namespace Go.Proofs.YtjecakcpcnmieaaGreatDoor
open Go Tryz
section
abbrev L:=List UInt8
abbrev Rs(α:Type):=Except (Nat×Nat) (α×L)
def bs(l:L):ByteArray:=⟨l.toArray⟩
mutual
inductive fG where
 |nil
 |cons (deep:Bool) (test:L) (iT:k9) (more:fG)
inductive k9 where
 |nil
 |cons (op:L) (kids:k9) (steps:fG) (attr text:L) (more:k9)
end
structure jd where
 deep:Bool
 test:L
 iT:k9
structure ny where
 op:L
 kids:k9
 steps:fG
 attr:L
 text:L
def fG.of:List jd->fG
 |[]=> .nil
 |s::l=> .cons s.deep s.test s.iT (fG.of l)
def k9.of:List ny->k9
 |[]=> .nil
 |p::l=> .cons p.op p.kids p.steps p.attr p.text (k9.of l)
def skip(l:L):L:=Lib.trimLeftS l [9,10,13,32]
def nm(l:L):Nat:=Ch.name (bs l)
def part(l:L):L:=if 0<nm l then l.take (nm l)else if Lib.hasPrefix l [47,47]=true\/Lib.hasPrefix l [33,61]=true then l.take 2 else l.take 1
def pass(n:Nat)(l:L):L:=skip (l.drop n)
def bad(cut:Bool)(l:L):Nat×Nat:=(if l=[]/\cut=true then 2 else 3,l.length)
def want(cut:Bool)(p l:L):Except (Nat×Nat) L:=if part l=p then .ok (pass p.length l)else .error (bad cut l)
def calls(word l:L):Bool:=part l==word&&Lib.hasPrefix (skip (l.drop word.length)) [40]
abbrev Qi:L:=[110,111,116]
abbrev Bz:L:=[116,101,120,116]
def name(cut:Bool)(l:L):Rs L:=if nm l=0\/calls Qi l=true\/calls Bz l=true then .error (bad cut l)else .ok (l.take (nm l),pass (nm l) l)
def Lu(c:UInt8)(l:L):L:=(l.drop 1).takeWhile (· !=c)
def uR(cut:Bool)(c:UInt8)(l:L):Rs L:=if(l.drop 1).contains c=true then .ok (Lu c l,pass ((Lu c l).length+2) l)else .error (bad cut [])
def quoted(cut:Bool)(l:L):Rs L:=if part l=[34]then uR cut 34 l else if part l=[39]then uR cut 39 l else .error (bad cut l)
def thn{α β:Type}(x:Rs α)(f:α->L->Rs β):Rs β:=match x with
 | .error e=> .error e
 | .ok (a,l)=>f a l
def uS{β:Type}(x:Except (Nat×Nat) L)(f:L->Rs β):Rs β:=match x with
 | .error e=> .error e
 | .ok l=>f l
def within(cut:Bool)(iK:Option (L->Rs ny))(o s:L)(l:L):Rs ny:=match iK with
 |none=> .error (8,l.length)
 |some f=>uS (want cut o l) fun l=>thn (f l) fun p l=>uS (want cut s l) fun l=> .ok (p,l)
def iT(cut:Bool)(iK:Option (L->Rs ny)):Nat->L->Rs (List ny)
 |0,l=> .ok ([],l)
 |f+1,l=>if part l=[91]then thn (within cut iK [91] [93] l) fun p l=>thn (iT cut iK f l) fun ps l=> .ok (p::ps,l)else .ok ([],l)
def test(cut:Bool)(l:L):Rs L:=
 if part l=[42]then .ok ([42],pass 1 l)
 else if calls Bz l=true then uS (want cut Bz l) fun l=>uS (want cut [40] l) fun l=>uS (want cut [41] l) fun l=> .ok ([35],l)
 else name cut l
def step(cut:Bool)(iK:Option (L->Rs ny))(deep:Bool)(l:L):Rs jd:=thn (test cut l) fun t l=>thn (iT cut iK (l.length+1) l) fun ps l=> .ok (⟨deep,t,k9.of ps⟩,l)
def jL(cut:Bool)(l:L):Rs Bool:=if part l=[47,47]then .ok (true,pass 2 l)else uS (want cut [47] l) fun l=> .ok (false,l)
def gz(s:jd)(l:L):Bool:=s.test !=[35]&&(part l==[47]||part l==[47,47])
def k_(cut:Bool)(iK:Option (L->Rs ny)):Nat->jd->L->Rs (List jd)
 |0,_,l=> .ok ([],l)
 |f+1,s,l=>if gz s l=true then thn (jL cut l) fun d l=>thn (step cut iK d l) fun s l=>thn (k_ cut iK f s l) fun ss l=> .ok (s::ss,l)else .ok ([],l)
def path(cut:Bool)(iK:Option (L->Rs ny))(l:L):Rs (List jd):=thn (jL cut l) fun d l=>thn (step cut iK d l) fun s l=>thn (k_ cut iK (l.length+1) s l) fun ss l=> .ok (s::ss,l)
def attr(cut:Bool)(l:L):Rs L:=uS (want cut [64] l) fun l=>name cut l
def yu(cut:Bool)(iK:Option (L->Rs ny)):Nat->jd->L->Rs (List jd×L)
 |0,_,l=> .ok (([],[]),l)
 |f+1,s,l=>if gz s l=true then thn (jL cut l) fun d l=>if d=false/\part l=[64]then thn (attr cut l) fun a l=> .ok (([],a),l)else
  thn (step cut iK d l) fun s l=>thn (yu cut iK f s l) fun x l=> .ok ((s::x.1,x.2),l)else .ok (([],[]),l)
def IP(cut:Bool)(iK:Option (L->Rs ny))(deep:Bool)(l:L):Rs ny:=thn (step cut iK deep l) fun s l=>thn (yu cut iK (l.length+1) s l) fun x l=> .ok (⟨[],.nil,fG.of (s::x.1),x.2,[]⟩,l)
def dot(cut:Bool)(iK:Option (L->Rs ny))(l:L):Rs ny:=uS (want cut [46] l) fun l=>if part l=[47,47]then IP cut iK true (pass 2 l)else .ok (⟨[],.nil,.nil,[],[]⟩,l)
def value(cut:Bool)(iK:Option (L->Rs ny))(l:L):Rs ny:=
 if part l=[46]then dot cut iK l else if part l=[64]then thn (attr cut l) fun a l=> .ok (⟨[],.nil,.nil,a,[]⟩,l)else IP cut iK false l
abbrev ab9:L:=[104,97,115]
def compared(cut:Bool)(p:ny)(l:L):Rs ny:=
 if part l=[61]then thn (quoted cut (pass 1 l)) fun t l=> .ok (⟨[61],p.kids,p.steps,p.attr,t⟩,l)
 else if part l=[33,61]then thn (quoted cut (pass 2 l)) fun t l=> .ok (⟨[33,61],p.kids,p.steps,p.attr,t⟩,l)
 else .ok (⟨ab9,p.kids,p.steps,p.attr,p.text⟩,l)
def one(cut:Bool)(iK:Option (L->Rs ny))(l:L):Rs ny:=
 if calls Qi l=true then uS (want cut Qi l) fun l=>thn (within cut iK [40] [41] l) fun p l=> .ok (⟨Qi,k9.of [p],.nil,[],[]⟩,l)
 else if part l=[40]then within cut iK [40] [41] l
 else thn (value cut iK l) fun p l=>compared cut p l
def uT(word:L)(read:L->Rs ny):Nat->L->Rs (List ny)
 |0,l=> .ok ([],l)
 |f+1,l=>if part l=word then thn (read (pass word.length l)) fun p l=>thn (uT word read f l) fun ps l=> .ok (p::ps,l)else .ok ([],l)
def IQ(word:L)(read:L->Rs ny)(l:L):Rs ny:=thn (read l) fun p l=>if part l=word then thn (uT word read (l.length+1) l) fun ps l=> .ok (⟨word,k9.of (p::ps),.nil,[],[]⟩,l)else .ok (p,l)
abbrev wOr:L:=[111,114]
abbrev ab_:L:=[97,110,100]
def both(cut:Bool)(iK:Option (L->Rs ny)):L->Rs ny:=IQ ab_ (one cut iK)
def cond(cut:Bool)(iK:Option (L->Rs ny)):L->Rs ny:=IQ wOr (both cut iK)
def IU(cut:Bool):Nat->L->Rs ny
 |0=>cond cut none
 |d+1=>cond cut (some (IU cut d))
def AZ(cut:Bool):Nat->Option (L->Rs ny)
 |0=>none
 |d+1=>some (IU cut d)
def lC(cut:Bool):Nat->L->Rs (List (List jd))
 |0,l=> .ok ([],l)
 |f+1,l=>if part l=[124]then thn (path cut (AZ cut 8) (pass 1 l)) fun p l=>thn (lC cut f l) fun ps l=> .ok (p::ps,l)else .ok ([],l)
def query(cut:Bool)(l:L):Rs (List (List jd)):=thn (path cut (AZ cut 8) (pass 0 l)) fun p l=>thn (lC cut (l.length+1) l) fun ps l=>if l=[]/\cut=false then .ok (p::ps,l)else .error (bad cut l)
def cutAt(q:L):L:=q.take (Ch.bad (bs q))
def Lv(q:L):Bool:=decide ((cutAt q).length<q.length)
def parse(q:L):Except (Nat×Nat) (List (List jd)):=
 if 500<q.length then .error (1,0)else match query (Lv q) (cutAt q)with
  | .error e=> .error (e.1,(cutAt q).length-e.2)
  | .ok x=> .ok x.1
theorem E6(l:L):skip l<:+l:=List.dropWhile_suffix _
theorem jU(n:Nat)(l:L):pass n l<:+l:=(E6 _).trans (List.drop_suffix _ _)
theorem C2{n:Nat}{l:L}(hn:0<n)(hl:l≠[]):(pass n l).length<l.length:=by
 have h1:=(E6 (l.drop n)).length_le;have h2:l.length≠0:=fun e=>hl (List.length_eq_zero_iff.1 e);simp only[cQ]at h1;unfold pass;omega
theorem Qj:part []=[]:=by simp[part]
theorem C3{l p:L}(h:part l=p)(hp:p≠[]):l≠[]:=by rintro rfl;exact hp (h.symm.trans Qj)
def iw{α:Type}(l:L)(x:Rs α):Prop:=∀a l',x=.ok (a,l')->l'<:+l
def aaX(l:L)(x:Except (Nat×Nat) L):Prop:=∀l',x=.ok l'->l'<:+l
theorem iw.ok{α:Type}{l l':L}{a:α}(h:l'<:+l):iw l (.ok (a,l')):=by intro b YZ e;cases e;exact h
theorem iw.error{α:Type}{l:L}{e:Nat×Nat}:iw (α:=α) l (.error e):=by intro b YZ h;cases h
theorem iw.thn{α β:Type}{l:L}{x:Rs α}{f:α->L->Rs β}(h:iw l x)(hf:∀a l',iw l' (f a l')):iw l (thn x f):=by
 intro b YZ e;cases x with
 |error y=>cases e
 |ok y=>obtain⟨a,l'⟩:=y;exact(hf a l' b YZ e).trans (h a l' rfl)
theorem iw.uS{β:Type}{l:L}{x:Except (Nat×Nat) L}{f:L->Rs β}(h:aaX l x)(hf:∀l',iw l' (f l')):iw l (uS x f):=by
 intro b YZ e;cases x with
 |error y=>cases e
 |ok l'=>exact(hf l' b YZ e).trans (h l' rfl)
theorem iw.from{α:Type}{l l':L}{x:Rs α}(h:iw l' x)(hl:l'<:+l):iw l x:=fun a YZ e=>(h a YZ e).trans hl
theorem lN(cut:Bool)(p l:L):aaX l (want cut p l):=by
 intro l' h;unfold want at h;split at h
 ·cases h;exact jU _ _
 ·cases h
theorem Vi{cut:Bool}{p l l':L}(hp:p≠[])(h:want cut p l=.ok l'):l'.length<l.length:=by
 unfold want at h;split at h
 ·next e=>cases h;exact C2 (by cases p;exact absurd rfl hp;simp) (C3 e hp)
 ·cases h
theorem E7(cut:Bool)(l:L):iw l (name cut l):=by
 unfold name;split
 ·exact iw.error
 ·exact iw.ok (jU _ _)
theorem uU(cut:Bool)(c:UInt8)(l:L):iw l (uR cut c l):=by
 unfold uR;split
 ·exact iw.ok (jU _ _)
 ·exact iw.error
theorem yQ(cut:Bool)(l:L):iw l (quoted cut l):=by
 unfold quoted;split
 ·exact uU _ _ _
 ·split
  ·exact uU _ _ _
  ·exact iw.error
def uV(iK:Option (L->Rs ny)):Prop:=∀f,iK=some f->∀l,iw l (f l)
variable{cut:Bool}{iK:Option (L->Rs ny)}
theorem uk(hi:uV iK)(o s l:L):iw l (within cut iK o s l):=by
 unfold within;cases iK with
 |none=>exact iw.error
 |some f=>exact iw.uS (lN _ _ _) fun l=>iw.thn (hi f rfl l) fun p l=>iw.uS (lN _ _ _) fun l=>iw.ok (aW _)
theorem BA(hi:uV iK):∀f l,iw l (iT cut iK f l)
 |0,l=>iw.ok (aW _)
 |f+1,l=>by
  unfold iT;split
  ·exact iw.thn (uk hi _ _ _) fun p l=>iw.thn (BA hi f l) fun ps l=>iw.ok (aW _)
  ·exact iw.ok (aW _)
theorem E8(l:L):iw l (test cut l):=by
 unfold test;split
 ·exact iw.ok (jU _ _)
 ·split
  ·exact iw.uS (lN _ _ _) fun l=>iw.uS (lN _ _ _) fun l=>iw.uS (lN _ _ _) fun l=>iw.ok (aW _)
  ·exact E7 _ _
theorem pz(hi:uV iK)(d:Bool)(l:L):iw l (step cut iK d l):=iw.thn (E8 l) fun t l=>iw.thn (BA hi _ _) fun ps l=>iw.ok (aW _)
theorem sj(l:L):iw l (jL cut l):=by
 unfold jL;split
 ·exact iw.ok (jU _ _)
 ·exact iw.uS (lN _ _ _) fun l=>iw.ok (aW _)
theorem yR{l l':L}{d:Bool}(h:jL cut l=.ok (d,l')):l'.length<l.length:=by
 unfold jL at h;split at h
 ·next e=>cases h;exact C2 (by decide) (C3 e (by decide))
 ·simp only[uS]at h;cases e:want cut [47] l with
  |error y=>rw[e]at h;cases h
  |ok l1=>rw[e]at h;cases h;exact Vi (by decide) e
theorem uW(hi:uV iK):∀f s l,iw l (k_ cut iK f s l)
 |0,_,l=>iw.ok (aW _)
 |f+1,s,l=>by
  unfold k_;split
  ·exact iw.thn (sj l) fun d l=>iw.thn (pz hi d l) fun s l=>iw.thn (uW hi f s l) fun ss l=>iw.ok (aW _)
  ·exact iw.ok (aW _)
theorem E9(hi:uV iK)(l:L):iw l (path cut iK l):=iw.thn (sj l) fun d l=>iw.thn (pz hi d l) fun s l=>iw.thn (uW hi _ s l) fun ss l=>iw.ok (aW _)
theorem E_(l:L):iw l (attr cut l):=iw.uS (lN _ _ _) fun l=>E7 _ _
theorem xu(hi:uV iK):∀f s l,iw l (yu cut iK f s l)
 |0,_,l=>iw.ok (aW _)
 |f+1,s,l=>by
  unfold yu;split
  ·refine iw.thn (sj l) fun d l=>?_;split
   ·exact iw.thn (E_ l) fun a l=>iw.ok (aW _)
   ·exact iw.thn (pz hi d l) fun s l=>iw.thn (xu hi f s l) fun ss l=>iw.ok (aW _)
  ·exact iw.ok (aW _)
theorem yS(hi:uV iK)(d:Bool)(l:L):iw l (IP cut iK d l):=iw.thn (pz hi d l) fun s l=>iw.thn (xu hi _ s l) fun ss l=>iw.ok (aW _)
theorem Vj(hi:uV iK)(l:L):iw l (dot cut iK l):=by
 refine iw.uS (lN _ _ _) fun l=>?_;split
 ·exact(yS hi _ _).from (jU _ _)
 ·exact iw.ok (aW _)
theorem ME(hi:uV iK)(l:L):iw l (value cut iK l):=by
 unfold value;split
 ·exact Vj hi l
 ·split
  ·exact iw.thn (E_ l) fun a l=>iw.ok (aW _)
  ·exact yS hi _ _
theorem C4(p:ny)(l:L):iw l (compared cut p l):=by
 unfold compared;split
 ·exact(iw.thn (yQ _ _) fun a l=>iw.ok (aW _)).from (jU _ _)
 ·split
  ·exact(iw.thn (yQ _ _) fun a l=>iw.ok (aW _)).from (jU _ _)
  ·exact iw.ok (aW _)
theorem Vk(hi:uV iK)(l:L):iw l (one cut iK l):=by
 unfold one;split
 ·exact iw.uS (lN _ _ _) fun l=>iw.thn (uk hi _ _ _) fun p l=>iw.ok (aW _)
 ·split
  ·exact uk hi _ _ _
  ·exact iw.thn (ME hi l) fun p l=>C4 p l
theorem uX{word:L}{read:L->Rs ny}(hr:∀l,iw l (read l)):∀f l,iw l (uT word read f l)
 |0,l=>iw.ok (aW _)
 |f+1,l=>by
  unfold uT;split
  ·exact(iw.thn (hr _) fun p l=>iw.thn (uX hr f l) fun ps l=>iw.ok (aW _)).from (jU _ _)
  ·exact iw.ok (aW _)
theorem yT{word:L}{read:L->Rs ny}(hr:∀l,iw l (read l))(l:L):iw l (IQ word read l):=by
 refine iw.thn (hr l) fun p l=>?_;split
 ·exact iw.thn (uX hr _ _) fun ps l=>iw.ok (aW _)
 ·exact iw.ok (aW _)
theorem Fa(hi:uV iK)(l:L):iw l (cond cut iK l):=yT (fun l=>yT (Vk hi) l) l
theorem yU:∀d l,iw l (IU cut d l)
 |0,l=>Fa (fun f e=>by cases e) l
 |d+1,l=>Fa (fun f e=>by cases e;exact yU d) l
theorem yV:∀d,uV (AZ cut d)
 |0=>fun f e=>by cases e
 |d+1=>fun f e=>by cases e;exact yU d
end
end Go.Proofs.YtjecakcpcnmieaaGreatDoor
namespace Go.Proofs.YtjecakcpcnmieaaGreatDoor
open Go.RowKit Go.Maps Go.Lib Tryz
section
structure Fr(F:Nat->Prop)(w w':World):Prop where
 os:w'.os=w.os
 tape:w'.tape=w.tape
 output:w'.output=w.output
 size:w.heap.size<=w'.heap.size
 block:∀k,k<w.heap.size->¬F k->w'.heap[k]?=w.heap[k]?
variable{w w' w1 w2:World}{F G:Nat->Prop}{R:Nat}
theorem Fr.refl(F:Nat->Prop)(w:World):Fr F w w:=⟨rfl,rfl,rfl,ah _,fun _ _ _=>rfl⟩
theorem Fr.trans(h:Fr F w w1)(k:Fr G w1 w2)(hG:∀i,i<w.heap.size->G i->F i):Fr F w w2:=
 ⟨k.os.trans h.os,k.tape.trans h.tape,k.output.trans h.output,ar h.size k.size,fun i hi hf=>
  (k.block i (ak hi h.size) (fun e=>hf (hG i hi e))).trans (h.block i hi hf)⟩
theorem Fr.same(h:Fr F w w1)(k:Fr F w1 w2):Fr F w w2:=h.trans k fun _ _ x=>x
theorem Fr.below(h:Z5 w w'):Fr F w w':=⟨h.os,h.tape,h.output,h.size,fun k hk _=>h.block k hk⟩
theorem Fr.on(h:Fr F w w1)(k:Z5 w1 w2):Fr F w w2:=h.same (Fr.below k)
theorem Fr.up{K:Nat}(fr:Fr F w w')(hF:∀k,F k->K<=k)(hK:K<=w.heap.size):Below K w w':=
 ⟨fr.os,fr.tape,fr.output,fr.size,fun k hk=>fr.block k (by omega) (fun x=>by have:=hF k x;omega)⟩
theorem Fr.alloc(h:Fr F w w')(o:Obj):Fr F w (w'.alloc o):=
 ⟨h.os,h.tape,h.output,by have:=h.size;simp;omega,fun k hk hf=>(ap _ _ _ (ak hk h.size)).trans (h.block k hk hf)⟩
theorem Fr.drewN(h:Fr F w w')(n:Nat):Fr F w (w'.drewN n):=⟨h.os,h.tape,h.output,h.size,h.block⟩
theorem Fr.set(h:Fr F w w')(a:Addr)(u:Value)(ha:a.block<w.heap.size->F a.block):Fr F w (w'.setCell a u):=
 ⟨h.os,h.tape,h.output,by have:=h.size;simpa [World.setCell]using this,fun k hk hf=>(af _ _ _ _ (fun e=>hf (by subst e;exact ha hk))).trans (h.block k hk hf)⟩
theorem Fr.mono(h:Fr F w w')(hG:∀k,F k->G k):Fr G w w':=⟨h.os,h.tape,h.output,h.size,fun k hk hf=>h.block k hk (fun x=>hf (hG k x))⟩
theorem fE{K K':Nat}(h:Below K w w')(hK:K'<=K):Below K' w w':=⟨h.os,h.tape,h.output,h.size,fun k hk=>h.block k (by omega)⟩
theorem bon(h1:Z5 w w1)(h2:Z5 w1 w2):Z5 w w2:=h1.trans (fE h2 h1.size)
theorem cell_of{R i:Nat}{cs:Array Value}{t:TypeId}{v:Value}(h:w.heap[R]?=some (.cells cs t (0,0)))(hi:cs[i]?=some v):w.cell? ⟨R,i,none⟩=some v:=by simp[World.cell?,h,hi]
theorem eP{R i:Nat}{cs:Array Value}{t:TypeId}(h:w.heap[R]?=some (.cells cs t (0,0))):w.frozen? ⟨R,i,none⟩=false:=by simp[World.frozen?,h]
theorem eV{R i:Nat}{cs:Array Value}{t:TypeId}(h:w.heap[R]?=some (.cells cs t (0,0)))(v:Value):(w.setCell ⟨R,i,none⟩ v).heap[R]?=some (.cells (cs.setIfInBounds i v) t (0,0)):=by
 rw[setCell_eq_setRow w R i cs t (0,0) v h];exact setRow_heap w R cs _ t _ h
theorem eO{k:Nat}{o:Obj}(h:w.heap[k]?=some o):k<w.heap.size:=(Array.getElem?_eq_some_iff.1 h).1
theorem eF{a:Addr}{v:Value}(o:Obj)(h:w.cell? a=some v):(w.alloc o).cell? a=some v:=
 (aj (ap w o a.block (bE w a h))).trans h
theorem eL(w:World)(o:Obj):(w.alloc o).heap[w.heap.size]?=some o:=bu w o
theorem eE{B:Nat}{e:TypeId}{s:Nat}{v:Value}{n:Nat}{xs:List Value}(h:w.ownsRow B e s v n xs):∃ao cap,v=.slice ao n cap:=by
 rcases h.2 with⟨rfl,rfl⟩|⟨g,cap,cur,rfl,_⟩
 ·exact⟨_,_,rfl⟩
 ·exact⟨_,_,rfl⟩
theorem eI{e:TypeId}{s:Nat}{v:Value}{n:Nat}{xs:List Value}(h:w.ownsRow 0 e s v n xs)(hk:∀k,v.ownBlock=some k->w'.heap[k]?=w.heap[k]?):w'.ownsRow 0 e s v n xs:=by
 refine⟨h.1,?_⟩;rcases h.2 with hn|⟨g,cap,cur,rfl,hb,hg,rest⟩
 ·exact Or.inl hn
 ·exact Or.inr ⟨g,cap,cur,rfl,hb,by rw[hk g rfl];exact hg,rest⟩
theorem fX{e:TypeId}{s:Nat}{v:Value}{n:Nat}{xs:List Value}(h:w.ownsRow 0 e s v n xs){k:Nat}(hk:v.ownBlock=some k):∃cur,w.heap[k]?=some (.cells cur e (0,0)):=by
 rcases h.2 with⟨rfl,_⟩|⟨g,cap,cur,rfl,hb,hg,rest⟩
 ·simp[Value.ownBlock]at hk
 ·simp[Value.ownBlock]at hk;subst hk;exact⟨cur,hg⟩
theorem eU{e:TypeId}{sz n:Nat}{v:Value}{xs:List Value}(h:w.ownsRow 0 e sz v n xs){k:Nat}(hk:v.ownBlock=some k):k<w.heap.size:=by obtain⟨c,hc⟩:=fX h hk;exact eO hc
abbrev fO:Value:=.slice none 0 0
structure RD(R:Nat)(t:L)(wh n:Nat)(w:World)(l:L):Prop where
 blk:w.heap[R]?=some (.cells #[.string (bs t),.int .i64 wh,.int .i64 ((t.length-l.length:Nat):Int),.int .i64 n] 209 (0,0))
 Ix:l<:+t
 tw:t.length<=wh
 Qk:wh<=500
 n8:n<=8
variable{t l l':L}{wh n:Nat}
theorem RD.lt(h:RD R t wh n w l):R<w.heap.size:=eO h.blk
theorem RD.below(h:RD R t wh n w l)(hb:Z5 w w'):RD R t wh n w' l:=⟨(hb.block R h.lt).trans h.blk,h.Ix,h.tw,h.Qk,h.n8⟩
theorem RD.fr(h:RD R t wh n w l)(hb:Fr F w w')(hR:¬F R):RD R t wh n w' l:=⟨(hb.block R h.lt hR).trans h.blk,h.Ix,h.tw,h.Qk,h.n8⟩
theorem RD.le(h:RD R t wh n w l):l.length<=t.length:=h.Ix.length_le
theorem Fb(h:l<:+t):t.drop (t.length-l.length)=l:=by
 obtain⟨p,rfl⟩:=h;simp[List.drop_append]
theorem iY(l:L):(bs l).size=l.length:=by simp[bs,ByteArray.size]
theorem uY(l:L):(bs l).data.toList=l:=by simp[bs]
theorem kU(l:L):(bs l).toList=l:=by rw[ByteArray.toList_eq,uY]
theorem lm(l:L)(i j:Nat):(bs l).extract i j=bs ((l.drop i).take (j-i)):=by simp[bs,ByteArray.extract_mk]
theorem yX(h:l<:+t)(w:World):(Instr.slice 9 (.string (bs t)) (some (.int .i64 ((t.length-l.length:Nat):Int))) none none).run prog w=.ok (.string (bs l)) w:=by
 have e:bs l=(bs t).extract (t.length-l.length) (bs t).size:=by rw[lm,iY,Fb h,bM (by have:=h.length_le;omega)]
 have hle:=h.length_le;rw[run_slice_string_from_if _ _ _ _ _ underlying9,if_pos ⟨by omega,by rw[iY];omega⟩,e];rfl
end
section
variable{w w' w1 w2:World}{F G:Nat->Prop}{R:Nat}{t l l':L}{wh n:Nat}
abbrev q9(no k:Nat)(t:L):Ending:=.panicked [{v:=.iface 206 (.agg #[.int .i64 no,.int .i64 ((t.length-k:Nat):Int)]),recovered:=false}]
abbrev fU(t:L)(wh:Nat):Bool:=decide (t.length<wh)
theorem C5(h:RD R t wh n w l):Z4 148 #[Z8 R] w fun e w'=>e=q9 (bad (fU t wh) l).1 (bad (fU t wh) l).2 t/\Fr (fun k=>k=R) w w':=by
 have c0:w.cell? ⟨R,0,none⟩=some (.string (bs t)):=cell_of h.blk rfl;have c1:w.cell? ⟨R,1,none⟩=some (.int .i64 wh):=cell_of h.blk rfl;have c2:w.cell? ⟨R,2,none⟩=some (.int .i64 ((t.length-l.length:Nat):Int)):=cell_of h.blk rfl;have hle:=h.le;have IV:=h.tw;obtain⟨at_,ha⟩:∃k,t.length-l.length=k:=⟨_,rfl⟩
 obtain⟨b1,hb1⟩:∃b,decide (l=[])=b:=⟨_,rfl⟩
 have hb2:((at_:Int)==((bs t).size:Int))=b1:=by
  rw[iY,<-hb1,bL];simp only[bA,ba];constructor
  ·intro e;exact List.length_eq_zero_iff.1 (by omega)
  ·rintro rfl;simp at ha;omega
 have nH:bad (fU t wh) l=(if b1=true/\decide (t.length<wh)=true then 2 else 3,l.length):=by simp only[bad,fU,<-hb1,ba]
 have hlt:b1=true->decide (at_<wh)=decide (t.length<wh):=by intro e;rw[<-hb1,ba]at e;subst e;simp at ha;subst ha;rfl
 have IW:∀no:Nat,q9 no l.length t=.panicked [{v:=.iface 206 (.agg #[.int .i64 no,.int .i64 at_]),recovered:=false}]:=fun no=>by rw[q9,ha]
 rw[ha]at c2;rw[nH];have HF:=a_ (Fr.refl (fun k=>k=R) w);have HT:=a_ IW;clear h nH hb1 hle IV ha IW;cases b1 with
 |false=>
  simp only[aA,false_and,bf];go_enter func148,ntmps148;go_wp2_with fail;go_quiet(fail);go_wp2;exact⟨rfl,(HT.out 3).symm,HF.out.drewN _⟩
 |true=>
  obtain⟨b2,hb3⟩:∃b,decide (t.length<wh)=b:=⟨_,rfl⟩
  have yY:=hlt rfl;rw[hb3]at yY ⊢;clear hlt hb3;cases b2 with
  |false=>
   simp only[aA,and_false,bf];go_enter func148,ntmps148;go_wp2_with fail;go_quiet(fail);go_wp2;exact⟨rfl,(HT.out 3).symm,HF.out.drewN _⟩
  |true=>
   simp only[and_self,if_true];go_enter func148,ntmps148;go_wp2_with fail;go_quiet(fail);go_wp2;exact⟨rfl,(HT.out 2).symm,HF.out.drewN _⟩
theorem q_(s:ByteArray):∀f pos,pos<=s.size->Ch.fW s f pos<=s.size:=by
 intro f;induction f with
 |zero=>intro pos h;exact h
 |succ f ih=>
  intro pos h;unfold Ch.fW;split
  ·split
   ·exact ih _ (Ch.fk s pos ‹_›).1
   ·omega
  ·omega
theorem XV(l:L):nm l<=l.length:=by have:=q_ (bs l) ((bs l).size+1) 0 (ax _);rw[iY]at this;unfold nm Ch.name;rw[iY];exact this
theorem uZ(l:L)(k:Nat)(hk:k<=l.length)(w:World):(Instr.slice 9 (.string (bs l)) none (some (.int .i64 (k:Int))) none).run prog w=.ok (.string (bs (l.take k))) w:=by
 rw[run_slice_string_to_if _ _ _ _ _ underlying9,if_pos ⟨by omega,by rw[iY];omega⟩,lm];simp
theorem MF(l:L)(hk:1<=l.length)(w:World):(Instr.slice 9 (.string (bs l)) none (some (.int .i64 1)) none).run prog w=.ok (.string (bs (l.take 1))) w:=uZ l 1 hk w
theorem BB(l:L)(hk:2<=l.length)(w:World):(Instr.slice 9 (.string (bs l)) none (some (.int .i64 2)) none).run prog w=.ok (.string (bs (l.take 2))) w:=uZ l 2 hk w
theorem ra{nq:Nat}(hb:Below (w.drewN nq).heap.size (w.drewN nq) w'):Z5 w w':=⟨hb.os,hb.tape,hb.output,hb.size,hb.block⟩
theorem aaY{l:L}{a b:UInt8}(h:Lib.hasPrefix l [a,b]=true):2<=l.length:=by
 match l,h with
 |[],h=>simp[Lib.hasPrefix,List.isPrefixOf]at h
 |[x],h=>simp[Lib.hasPrefix,List.isPrefixOf]at h
 |x::y::r,h=>simp
theorem oU(h:RD R t wh n w l):Z4 190 #[Z8 R] w (Z7 (.string (bs (part l))) w):=by
 have c0:w.cell? ⟨R,0,none⟩=some (.string (bs t)):=cell_of h.blk rfl;have c2:w.cell? ⟨R,2,none⟩=some (.int .i64 ((t.length-l.length:Nat):Int)):=cell_of h.blk rfl;have hr:=yX h.Ix;have qC:∀w:World,Z4 161 #[.string (bs l)] w (Z7 (.int .i64 (nm l)) w):=fun w=>sf (bs l) w (by rw[iY];have:=h.le;have:=h.tw;have:=h.Qk;omega);have hp:∀(p:L) (w:World),Z4 184 #[.string (bs l),.string ⟨p.toArray⟩] w (Z6 (.bool (Lib.hasPrefix l p)) w):=fun p w=>by have:=strings_HasPrefix (bs l) ⟨p.toArray⟩ w;rw[uY]at this;simpa using this
 have C6:=XV l;have Fe:∀x,x=part l->bs x=bs (part l):=fun x e=>by rw[e]
 generalize hat:(((t.length-l.length:Nat)):Int)=at_ at*
 have HP:=a_ hp;have Ff:=a_ qC;have HB:=a_ (Below.refl w.heap.size w);clear h hp qC hat;by_cases h0:0<nm l
 ·have e1:part l=l.take (nm l):=by unfold part;rw[if_pos h0]
  rw[e1];have ht:=uZ l (nm l) C6;generalize hN:nm l=N at*
  have hd:decide (0<N)=true:=by simpa using h0
  clear e1 Fe;have Fg:decide ((N:Int)>0)=true:=by simp;omega
  go_enter func190,ntmps190;go_wp2_with fail;go_quiet(fail);go_wp2_with(go_at_call 161;refine(Ff.out _).mono ?_;rintro e w' ⟨rfl,hb⟩);go_ret;exact⟨by first|rfl|simp[lm],ra hb⟩
 ·have e0:nm l=0:=by omega
  rw[e0]at Ff;have hd:decide ((0:Int)>0)=false:=rfl;obtain⟨b1,hb1⟩:∃b,Lib.hasPrefix l [47,47]=b:=⟨_,rfl⟩
  cases b1 with
  |true=>
   have e1:part l=l.take 2:=by unfold part;rw[if_neg h0,if_pos (Or.inl hb1)]
   rw[e1];have ht:=BB l (aaY hb1);have H1:=HP.out [47,47];rw[hb1]at H1;have HH:=a_ H1;clear H1 e1 h0 e0 hb1 Fe C6;go_enter func190,ntmps190;go_wp2_with fail;go_quiet(fail);go_wp2_with(first|(go_at_call 161;refine(Ff.out _).mono ?_;rintro e w' ⟨rfl,hb⟩)|(go_at_call 184;refine(HH.out _).mono ?_;rintro e w' ⟨rfl,rfl⟩));go_ret;exact⟨by first|rfl|simp[lm],ra hb⟩
  |false=>
   obtain⟨b2,hb2⟩:∃b,Lib.hasPrefix l [33,61]=b:=⟨_,rfl⟩
   cases b2 with
   |true=>
    have e1:part l=l.take 2:=by unfold part;rw[if_neg h0,if_pos (Or.inr hb2)]
    rw[e1];have ht:=BB l (aaY hb2);clear e1 h0 e0 Fe C6;go_enter func190,ntmps190;go_wp2_with fail;go_quiet(fail);go_wp2_with(first|(go_at_call 161;refine(Ff.out _).mono ?_;rintro e w' ⟨rfl,hb⟩)|(go_at_call 184;refine(HP.out _ _).mono ?_;rintro e w' ⟨rfl,rfl⟩));go_ret;exact⟨by first|rfl|simp[lm],ra hb⟩
   |false=>
    have e1:part l=l.take 1:=by unfold part;rw[if_neg h0,if_neg (by rw[hb1,hb2];simp)]
    rw[e1];by_cases hl:l=[]
    ·have hem:(bs l).toList.isEmpty=true:=by rw[kU,hl];rfl
     have HQ:Hid (bs (l.take 1)=⟨#[]⟩):=by rw[hl];rfl
     clear e1 h0 e0 Fe C6 hl;go_enter func190,ntmps190;go_wp2_with fail;go_quiet(fail);go_wp2_with(first|(go_at_call 161;refine(Ff.out _).mono ?_;rintro e w' ⟨rfl,hb⟩)|(go_at_call 184;refine(HP.out _ _).mono ?_;rintro e w' ⟨rfl,rfl⟩));go_ret;exact⟨by rw[HQ.out];rfl,ra hb⟩
    ·have hlen:1<=l.length:=by cases l;exact absurd rfl hl;simp
     have ht:=MF l hlen;have hne:((bs l).data.toList==[])=false:=by rw[uY];cases l;exact absurd rfl hl;rfl
     have Ql:(bs l).toList.isEmpty=false:=by rw[kU];cases l;exact absurd rfl hl;rfl
     clear e1 h0 e0 Fe C6;go_enter func190,ntmps190;go_wp2_with fail;go_quiet(fail);go_wp2_with(first|(go_at_call 161;refine(Ff.out _).mono ?_;rintro e w' ⟨rfl,hb⟩)|(go_at_call 184;refine(HP.out _ _).mono ?_;rintro e w' ⟨rfl,rfl⟩));go_ret;exact⟨by first|rfl|simp[lm],ra hb⟩
end
section
variable{w w' w1 w2:World}{F G:Nat->Prop}{R:Nat}{t l l':L}{wh n:Nat}
theorem BF(h:l<:+t)(m:Nat)(hm:m<=l.length)(w:World):(Instr.slice 9 (.string (bs t)) (some (.int .i64 (((t.length-l.length:Nat):Int)+m))) none none).run prog w=.ok (.string (bs (l.drop m))) w:=by
 have hs:l.drop m<:+t:=(List.drop_suffix _ _).trans h;have:=yX hs w;have hle:=h.length_le;have hlen:(l.drop m).length=l.length-m:=cQ;rw[show (((t.length-l.length:Nat):Int)+m)=((t.length-(l.drop m).length:Nat):Int) by rw[hlen];omega];exact this
theorem wE(t l:L)(m:Nat)(h:l<:+t)(ht:t.length<=500)(hm:m<=l.length):IntKind.i64.wrap (((t.length-l.length:Nat):Int)+m)=((t.length-l.length:Nat):Int)+m/\
  IntKind.i64.wrap ((t.length:Int)-((pass m l).length:Int))=((t.length-(pass m l).length:Nat):Int):=by
 have h1:=h.length_le;have h2:=(jU m l).length_le;rw[aD,aD];omega
theorem Lx(l:L)(w:World):Z4 186 #[.string (bs l),.string ⟨#[9,10,13,32]⟩] w (Z7 (.string (bs (skip l))) w):=by have:=strings_TrimLeft_blanks (bs l) w;rw[uY]at this;exact this
theorem C7(m:Nat)(h:RD R t wh n w l)(hm:m<=l.length):Z4 145 #[Z8 R,.int .i64 m] w fun e w'=>e=.returned (.tuple #[])/\RD R t wh n w' (pass m l)/\Fr (fun k=>k=R) w w':=by
 have c0:w.cell? ⟨R,0,none⟩=some (.string (bs t)):=cell_of h.blk rfl;have c2:w.cell? ⟨R,2,none⟩=some (.int .i64 ((t.length-l.length:Nat):Int)):=cell_of h.blk rfl;have hr:=BF h.Ix m hm;obtain⟨n1,n2⟩:=wE t l m h.Ix (by have:=h.tw;have:=h.Qk;omega) hm;have hz1:=iY t;have hz2:=iY (pass m l);have HT:=a_ (Lx (l.drop m));have H:=a_ h;clear h;have hp:skip (l.drop m)=pass m l:=rfl;rw[hp]at HT;generalize ((t.length-l.length:Nat):Int)=at_ at*
 have HC:Hid (∀W,Z5 w W->W.cell? ⟨R,0,none⟩=some (.string (bs t))):=fun W hW=>(aj (hW.block R H.out.lt)).trans c0;have hE:∀W,Z5 w W->W.cell? ⟨R,2,none⟩=some (.int .i64 at_)/\W.frozen? ⟨R,2,none⟩=false/\RD R t wh n (W.setCell ⟨R,2,none⟩ (.int .i64 ((t.length-(pass m l).length:Nat):Int))) (pass m l)/\Fr (fun k=>k=R) w (W.setCell ⟨R,2,none⟩ (.int .i64 ((t.length-(pass m l).length:Nat):Int))):=fun W hW=>by
  have hb:=(hW.block R H.out.lt).trans H.out.blk;exact⟨(aj (hW.block R H.out.lt)).trans c2,eP hb,⟨eV hb _,(jU m l).trans H.out.Ix,H.out.tw,H.out.Qk,H.out.n8⟩,(Fr.below hW).set _ _ (fun _=>rfl)⟩
 have HE:=a_ hE;have d0:∀k,(w.drewN k).cell? ⟨R,0,none⟩=some (.string (bs t)):=fun _=>c0;clear hE hp;have HB0:Hid (∀k,Z5 w (w.drewN k)):=fun k=>⟨rfl,rfl,rfl,ah _,fun _ _=>rfl⟩
 go_enter func145,ntmps145;go_wp2_with fail;go_quiet(fail);go_wp2_with fail;obtain⟨U1,U2,rd',fr'⟩:=HE.out _ (HB0.out nq);go_region_held3 (fun W=>W.cell? ⟨R,0,none⟩=some (.string (bs t)))
  (first|exact c0|exact HC.out _ hb2|exact cell_of rd'.blk rfl)
  (first|(go_at_call 186;refine(HT.out _).mono ?_;rintro e w3 ⟨rfl,hb⟩;have hb2:Z5 w w3:=⟨hb.os,hb.tape,hb.output,hb.size,hb.block⟩;clear hb;obtain⟨U1,U2,rd',fr'⟩:=HE.out _ hb2))
 all_goals
  go_end0
  exact⟨rfl,rd',fr'⟩
theorem Fh(l:L):(part l).length<=l.length:=by
 unfold part;split
 ·exact List.length_take_le' _ _
 ·split<;>exact List.length_take_le' _ _
theorem eqL(a b:L):((bs a).toList==(bs b).toList)=(a==b):=by rw[kU,kU]
theorem Fi{p:L}(h:RD R t wh n w l)(hp:part l=p):Z4 147 #[Z8 R,.string (bs p)] w fun e w'=>e=.returned (.bool true)/\RD R t wh n w' (pass p.length l)/\Fr (fun k=>k=R) w w':=by
 have HP:=a_ (oU h);have HA:Hid (∀W,Z5 w W->Z4 145 #[Z8 R,.int .i64 (p.length:Int)] W fun e w'=>e=.returned (.tuple #[])/\RD R t wh n w' (pass p.length l)/\Fr (fun k=>k=R) W w'):=fun W hW=>C7 p.length (h.below hW) (by rw[<-hp];exact Fh l);rw[hp]at HP;have hne:((bs p).toList==(bs p).toList)=true:=by simp
 have hz:=iY p;clear h hp;go_enter func147,ntmps147;go_wp2_with(first|(go_at_call 190;refine HP.out.mono ?_;rintro e w1 ⟨rfl,hb⟩)|(go_at_call 145;refine(HA.out _ hb).mono ?_;rintro e w2 ⟨rfl,rd,fr⟩));go_ret;exact⟨rfl,rd,(Fr.below hb).same fr⟩
theorem Lz{p:L}(h:RD R t wh n w l)(hp:part l≠p):Z4 147 #[Z8 R,.string (bs p)] w (Z7 (.bool false) w):=by
 have HP:=a_ (oU h);have hne:((bs (part l)).toList==(bs p).toList)=false:=by rw[eqL];simpa using hp
 clear h hp;go_enter func147,ntmps147;go_wp2_with(first|(go_at_call 190;refine HP.out.mono ?_;rintro e w1 ⟨rfl,hb⟩));go_ret;exact⟨rfl,hb⟩
def yZ(R:Nat)(t:L)(x:Nat×Nat)(w:World)(e:Ending)(w':World):Prop:=e=q9 x.1 x.2 t/\Fr (fun k=>k=R) w w'
theorem Qm{p:L}(h:RD R t wh n w l)(hp:part l=p):Z4 223 #[Z8 R,.string (bs p)] w fun e w'=>e=.returned (.tuple #[])/\RD R t wh n w' (pass p.length l)/\Fr (fun k=>k=R) w w':=by
 have HP:=a_ (Fi h hp);clear h hp;go_enter func223,ntmps223;go_wp2_with(first|(go_at_call 147;refine HP.out.mono ?_;rintro e w1 ⟨rfl,rd,fr⟩))
 go_end0
 exact⟨rfl,rd,fr⟩
theorem Vl{p:L}(h:RD R t wh n w l)(hp:part l≠p):Z4 223 #[Z8 R,.string (bs p)] w (yZ R t (bad (fU t wh) l) w):=by
 have HP:=a_ (Lz h hp);have HA:Hid (∀W,Z5 w W->Z4 148 #[Z8 R] W (yZ R t (bad (fU t wh) l) W)):=fun W hW=>C5 (h.below hW);clear h hp;go_enter func223,ntmps223;go_wp2_with(first|(go_at_call 147;refine HP.out.mono ?_;rintro e w1 ⟨rfl,hb⟩)|(go_at_call 148;refine(HA.out _ hb).mono ?_;rintro e w2 ⟨rfl,fr⟩));exact⟨rfl,rfl,(Fr.below hb).same fr⟩
end
section
variable{w w' w1 w2:World}{F G:Nat->Prop}{R:Nat}{t l l':L}{wh n:Nat}
def Ends{α:Type}(R:Nat)(t:L)(wh n:Nat)(V:World->Value->α->Prop)(w:World)(x:Rs α)(e:Ending)(w':World):Prop:=match x with
 | .ok (a,l')=>∃v,e=.returned v/\V w' v a/\RD R t wh n w' l'/\Fr (fun k=>k=R) w w'
 | .error y=>yZ R t y w e w'
def VS(_:World)(v:Value)(a:L):Prop:=v=.string (bs a)
def VB(_:World)(v:Value)(a:Bool):Prop:=v=.bool a
abbrev ptr(R:Nat):Value:=Z8 R
theorem Fj(word:L)(h:RD R t wh n w l):Z4 238 #[ptr R,.string (bs word)] w (Z7 (.bool (calls word l)) w):=by
 have HP:=a_ (oU h);by_cases hp:part l=word
 ·have hm:word.length<=l.length:=by rw[<-hp];exact Fh l
  have e1:calls word l=Lib.hasPrefix (skip (l.drop word.length)) [40]:=by unfold calls;rw[hp];simp
  rw[e1];rw[hp]at HP;have hne:((bs word).toList==(bs word).toList)=true:=by simp
  have hz:=iY word;have hr:=BF h.Ix word.length hm;obtain⟨n1,n2⟩:=wE t l word.length h.Ix (by have:=h.tw;have:=h.Qk;omega) hm;have HT:=a_ (Lx (l.drop word.length));have hc:∀W,Z5 w W->W.cell? ⟨R,0,none⟩=some (.string (bs t))/\W.cell? ⟨R,2,none⟩=some (.int .i64 ((t.length-l.length:Nat):Int)):=fun W hW=>⟨cell_of (h.below hW).blk rfl,cell_of (h.below hW).blk rfl⟩
  have HC:=a_ hc;have HH:Hid (∀W,Z4 184 #[.string (bs (skip (l.drop word.length))),.string ⟨#[40]⟩] W (Z6 (.bool (Lib.hasPrefix (skip (l.drop word.length)) [40])) W)):=fun W=>by have:=strings_HasPrefix (bs (skip (l.drop word.length))) ⟨#[40]⟩ W;rw[uY]at this;exact this
  generalize ((t.length-l.length:Nat):Int)=at_ at*
  generalize skip (l.drop word.length)=sk at*
  clear h hp e1 hc n2;go_enter func238,ntmps238;go_wp2_with(first|(go_at_call 190;refine HP.out.mono ?_;rintro e w1 ⟨rfl,hb⟩;obtain⟨c0,c2⟩:=HC.out _ hb));go_region_held3 (fun W=>W.cell? ⟨R,0,none⟩=some (.string (bs t))/\W.cell? ⟨R,2,none⟩=some (.int .i64 at_))
   (first|exact⟨c0,c2⟩|exact HC.out _ hb2)
   (first|(go_at_call 186;refine(HT.out _).mono ?_;rintro e w3 ⟨rfl,hb3⟩;have hb2:Z5 w w3:=bon hb ⟨hb3.os,hb3.tape,hb3.output,hb3.size,hb3.block⟩;clear hb3))
  all_goals
   go_wp2_with(first|(go_at_call 184;refine(HH.out _).mono ?_;rintro e w4 ⟨rfl,rfl⟩));go_ret;exact⟨rfl,hb2⟩
 ·have e1:calls word l=false:=by unfold calls;simp[hp]
  rw[e1];have hne:((bs (part l)).toList==(bs word).toList)=false:=by rw[eqL];simpa using hp
  clear h hp e1;go_enter func238,ntmps238;go_wp2_with(first|(go_at_call 190;refine HP.out.mono ?_;rintro e w1 ⟨rfl,hb⟩));go_ret;exact⟨rfl,hb⟩
theorem MG(h:l<:+t)(m:Nat)(hm:m<=l.length)(w:World):(Instr.slice 9 (.string (bs t)) (some (.int .i64 ((t.length-l.length:Nat):Int))) (some (.int .i64 (((t.length-l.length:Nat):Int)+m))) none).run prog w=.ok (.string (bs (l.take m))) w:=by
 have hle:=h.length_le;have:=run_slice_string (P:=prog) w 9 (bs t) .i64 .i64 ((t.length-l.length:Nat):Int) (((t.length-l.length:Nat):Int)+m) underlying9 (by omega) (by omega) (by rw[iY];omega);have e:(((t.length-l.length:Nat):Int)+m).toNat-((t.length-l.length:Nat):Int).toNat=m:=by omega
 rw[this,lm,e,bm,Fb h]
theorem yv(h:RD R t wh n w l):Z4 239 #[ptr R] w (Ends R t wh n VS w (name (fU t wh) l)):=by
 have c0:w.cell? ⟨R,0,none⟩=some (.string (bs t)):=cell_of h.blk rfl;have c2:w.cell? ⟨R,2,none⟩=some (.int .i64 ((t.length-l.length:Nat):Int)):=cell_of h.blk rfl;have hr:=yX h.Ix;have C6:=XV l;have Ff:Hid (∀w:World,Z4 161 #[.string (bs l)] w (Z7 (.int .i64 (nm l)) w)):=fun w=>sf (bs l) w (by rw[iY];have:=h.le;have:=h.tw;have:=h.Qk;omega);have AR:Hid (∀(word:L) (W:World),Z5 w W->Z4 238 #[ptr R,.string (bs word)] W (Z7 (.bool (calls word l)) W)):=fun word W hW=>Fj word (h.below hW);have HFA:Hid (∀W,Z5 w W->Z4 148 #[ptr R] W (yZ R t (bad (fU t wh) l) W)):=fun W hW=>C5 (h.below hW);have HPA:Hid (∀W,Z5 w W->Z4 145 #[ptr R,.int .i64 (nm l)] W fun e w'=>e=.returned (.tuple #[])/\RD R t wh n w' (pass (nm l) l)/\Fr (fun k=>k=R) W w'):=fun W hW=>C7 _ (h.below hW) C6;have HC:Hid (∀W,Z5 w W->W.cell? ⟨R,0,none⟩=some (.string (bs t))/\W.cell? ⟨R,2,none⟩=some (.int .i64 ((t.length-l.length:Nat):Int))):=fun W hW=>⟨cell_of (h.below hW).blk rfl,cell_of (h.below hW).blk rfl⟩
 have hs:=MG h.Ix (nm l) C6;have hwr:IntKind.i64.wrap (((t.length-l.length:Nat):Int)+nm l)=((t.length-l.length:Nat):Int)+nm l:=(wE t l (nm l) h.Ix (by have:=h.tw;have:=h.Qk;omega) C6).1;obtain⟨b0,hb0⟩:∃b,decide (nm l=0)=b:=⟨_,rfl⟩
 have h0:((nm l:Int)==0)=b0:=by rw[<-hb0,bL];simp
 obtain⟨b1,hb1⟩:∃b,calls Qi l=b:=⟨_,rfl⟩
 obtain⟨b2,hb2⟩:∃b,calls Bz l=b:=⟨_,rfl⟩
 have hname:name (fU t wh) l=if b0=true\/b1=true\/b2=true then .error (bad (fU t wh) l)else .ok (l.take (nm l),pass (nm l) l):=by unfold name;rw[hb1,hb2,<-hb0];simp only[ba]
 have hb1:calls [110,111,116] l=b1:=hb1;have hb2:calls [116,101,120,116] l=b2:=hb2;have AR:Hid (∀(word:L) (W:World),Z5 w W->Z4 238 #[ptr R,.string ⟨word.toArray⟩] W (Z7 (.bool (calls word l)) W)):=fun word W hW=>AR.out word W hW;rw[hname];clear h hname hb0 C6;generalize ((t.length-l.length:Nat):Int)=at_ at*
 generalize nm l=N at*
 cases b0 with
 |true=>
   simp only[aA,false_or,cK,true_or,or_true,if_true,bf];go_enter func239,ntmps239;go_wp2_with fail;go_region_held3 (fun W=>W.cell? ⟨R,0,none⟩=some (.string (bs t))/\W.cell? ⟨R,2,none⟩=some (.int .i64 at_))
     (first|exact⟨c0,c2⟩|exact HC.out _ hb)
     (first|(go_at_call 161;refine(Ff.out _).mono ?_;rintro e w1 ⟨rfl,hb3⟩;have hb:Z5 w w1:=⟨hb3.os,hb3.tape,hb3.output,hb3.size,hb3.block⟩;clear hb3))
   all_goals
     go_wp2_with(first|(go_at_call 148;refine(HFA.out _ hb).mono ?_;rintro e w2 ⟨rfl,fr⟩));exact⟨rfl,rfl,(Fr.below hb).same fr⟩
 |false=>
  cases b1 with
  |true=>
   simp only[aA,false_or,cK,true_or,or_true,if_true,bf];go_enter func239,ntmps239;go_wp2_with fail;go_region_held3 (fun W=>W.cell? ⟨R,0,none⟩=some (.string (bs t))/\W.cell? ⟨R,2,none⟩=some (.int .i64 at_))
     (first|exact⟨c0,c2⟩|exact HC.out _ hb)
     (first|(go_at_call 161;refine(Ff.out _).mono ?_;rintro e w1 ⟨rfl,hb3⟩;have hb:Z5 w w1:=⟨hb3.os,hb3.tape,hb3.output,hb3.size,hb3.block⟩;clear hb3))
   all_goals
     go_wp2_with(first|(go_at_call 238;refine(AR.out _ _ hb).mono ?_;rintro e w2 ⟨rfl,hb4⟩;have ya:=bon hb hb4)|(go_at_call 148;refine(HFA.out _ ya).mono ?_;rintro e w2 ⟨rfl,fr⟩));exact⟨rfl,rfl,(Fr.below ya).same fr⟩
  |false=>
   cases b2 with
   |true=>
    simp only[aA,false_or,cK,true_or,or_true,if_true,bf];go_enter func239,ntmps239;go_wp2_with fail;go_region_held3 (fun W=>W.cell? ⟨R,0,none⟩=some (.string (bs t))/\W.cell? ⟨R,2,none⟩=some (.int .i64 at_))
      (first|exact⟨c0,c2⟩|exact HC.out _ hb)
      (first|(go_at_call 161;refine(Ff.out _).mono ?_;rintro e w1 ⟨rfl,hb3⟩;have hb:Z5 w w1:=⟨hb3.os,hb3.tape,hb3.output,hb3.size,hb3.block⟩;clear hb3))
    all_goals
      go_wp2_with(first|(go_at_call 238;first|(refine(AR.out _ _ ya).mono ?_;rintro e w3 ⟨rfl,yw⟩;have U3:=bon ya yw)|(refine(AR.out _ _ hb).mono ?_;rintro e w2 ⟨rfl,hb4⟩;have ya:=bon hb hb4))|(go_at_call 148;refine(HFA.out _ U3).mono ?_;rintro e w2 ⟨rfl,fr⟩));exact⟨rfl,rfl,(Fr.below U3).same fr⟩
   |false=>
    simp only[aA,false_or,cK,true_or,or_true,if_true,bf];go_enter func239,ntmps239;go_wp2_with fail;go_region_held3 (fun W=>W.cell? ⟨R,0,none⟩=some (.string (bs t))/\W.cell? ⟨R,2,none⟩=some (.int .i64 at_))
      (first|exact⟨c0,c2⟩|exact HC.out _ hb)
      (first|(go_at_call 161;refine(Ff.out _).mono ?_;rintro e w1 ⟨rfl,hb3⟩;have hb:Z5 w w1:=⟨hb3.os,hb3.tape,hb3.output,hb3.size,hb3.block⟩;clear hb3))
    all_goals
      go_wp2_with(first|(go_at_call 238;first|(refine(AR.out _ _ ya).mono ?_;rintro e w3 ⟨rfl,yw⟩;have U3:=bon ya yw;obtain⟨d0,d2⟩:=HC.out _ U3)|(refine(AR.out _ _ hb).mono ?_;rintro e w2 ⟨rfl,hb4⟩;have ya:=bon hb hb4)));go_quiet(fail);have hb8:Z5 w (w3.drewN nq):=⟨U3.os,U3.tape,U3.output,U3.size,U3.block⟩
      go_wp2_with(go_at_call 145;refine(HPA.out _ hb8).mono ?_;rintro e w4 ⟨rfl,rd,fr⟩);go_ret;exact⟨_,rfl,rfl,rd,(Fr.below U3).same ⟨fr.os,fr.tape,fr.output,fr.size,fr.block⟩⟩
end
section
variable{w w' w1 w2:World}{F G:Nat->Prop}{R:Nat}{t l l':L}{wh n:Nat}
theorem C8(p:L)(h:RD R t wh n w l):Z4 223 #[ptr R,.string ⟨p.toArray⟩] w fun e w'=>match want (fU t wh) p l with
  | .ok l'=>e=.returned (.tuple #[])/\RD R t wh n w' l'/\Fr (fun k=>k=R) w w'
  | .error y=>yZ R t y w e w':=by
 unfold want;by_cases hp:part l=p
 ·rw[if_pos hp];exact Qm h hp
 ·rw[if_neg hp];exact Vl h hp
theorem C9(p:L)(h:RD R t wh n w l)(b:Bool)(hb:decide (part l=p)=b):Z4 147 #[ptr R,.string ⟨p.toArray⟩] w fun e w'=>e=.returned (.bool b)/\RD R t wh n w' (if b=true then pass p.length l else l)/\Fr (fun k=>k=R) w w':=by
 cases b with
 |true=>exact Fi h (by simpa using hb)
 |false=>exact(Lz h (by simpa using hb)).mono fun e w' x=>⟨x.1,h.below x.2,Fr.below x.2⟩
theorem u_(h:RD R t wh n w l):Z4 188 #[ptr R] w (Ends R t wh n VB w (jL (fU t wh) l)):=by
 obtain⟨b,hb⟩:∃b,decide (part l=[47,47])=b:=⟨_,rfl⟩
 have HT:=a_ (C9 [47,47] h b hb);cases b with
 |true=>
  rw[jL,if_pos (by simpa using hb)];clear h hb;go_enter func188,ntmps188;go_wp2_with(first|(go_at_call 147;refine HT.out.mono ?_;rintro e w1 ⟨rfl,rd,fr⟩));go_ret;exact⟨_,rfl,rfl,rd,fr⟩
 |false=>
  rw[jL,if_neg (by simpa using hb)];have HW:Hid (∀W,RD R t wh n W l->Z4 223 #[ptr R,.string ⟨#[47]⟩] W fun e w'=>match want (fU t wh) [47] l with
   | .ok l'=>e=.returned (.tuple #[])/\RD R t wh n w' l'/\Fr (fun k=>k=R) W w'
   | .error y=>yZ R t y W e w'):=fun W hW=>C8 [47] hW
  clear h hb;cases hx:want (fU t wh) [47] l with
  |error y=>
   simp only[hx]at HW;simp only[uS];clear hx;go_enter func188,ntmps188;go_wp2_with(first|(go_at_call 147;refine HT.out.mono ?_;rintro e w1 ⟨rfl,rd,fr⟩)|(go_at_call 223;refine(HW.out _ rd).mono ?_;rintro e w2 ⟨rfl,tO⟩));exact⟨rfl,rfl,fr.same tO⟩
  |ok l1=>
   simp only[hx]at HW;simp only[uS];clear hx;go_enter func188,ntmps188;go_wp2_with(first|(go_at_call 147;refine HT.out.mono ?_;rintro e w1 ⟨rfl,rd,fr⟩)|(go_at_call 223;refine(HW.out _ rd).mono ?_;rintro e w2 ⟨rfl,MH,tO⟩));go_ret;exact⟨_,rfl,rfl,MH,fr.same tO⟩
end
section
variable{w w' w1 w2:World}{F G:Nat->Prop}{R:Nat}{t l l':L}{wh n:Nat}
theorem C_{p l1:L}(hx:want (fU t wh) p l=.ok l1)(h:RD R t wh n w l):Z4 223 #[ptr R,.string ⟨p.toArray⟩] w fun e w'=>e=.returned (.tuple #[])/\RD R t wh n w' l1/\Fr (fun k=>k=R) w w':=by have:=C8 p h;simpa only[hx]using this
theorem Da{p:L}{y:Nat×Nat}(hx:want (fU t wh) p l=.error y)(h:RD R t wh n w l):Z4 223 #[ptr R,.string ⟨p.toArray⟩] w fun e w'=>e=q9 y.1 y.2 t/\Fr (fun k=>k=R) w w':=by have:=C8 p h;simp only[hx]at this;exact this
theorem Vm(h:RD R t wh n w l):Z4 219 #[ptr R] w (Ends R t wh n VS w (test (fU t wh) l)):=by
 obtain⟨b,hb⟩:∃b,decide (part l=[42])=b:=⟨_,rfl⟩
 have HT:=a_ (C9 [42] h b hb);cases b with
 |true=>
  rw[test,if_pos (by simpa using hb)];clear h hb;go_enter func219,ntmps219;go_wp2_with(first|(go_at_call 147;refine(HT.out).mono ?_;rintro e w1 ⟨rfl,Db,vd⟩));go_ret;exact⟨_,rfl,rfl,Db,vd⟩
 |false=>
  rw[test,if_neg (by simpa using hb)];obtain⟨c,hc⟩:∃c,calls Bz l=c:=⟨_,rfl⟩
  have HC:Hid (∀W,RD R t wh n W l->Z4 238 #[ptr R,.string ⟨#[116,101,120,116]⟩] W (Z7 (.bool c) W)):=fun W hW=>by have:=Fj Bz hW;rw[hc]at this;exact this
  clear h hb;cases c with
  |false=>
   rw[if_neg (by rw[hc];simp)];have HN:Hid (∀W,RD R t wh n W l->Z4 239 #[ptr R] W (Ends R t wh n VS W (name (fU t wh) l))):=fun W hW=>yv hW;clear hc;cases hy:name (fU t wh) l with
   |error y=>
    rw[hy]at HN;clear hy;go_enter func219,ntmps219;go_wp2_with(first|(go_at_call 239;refine(HN.out _ MH).mono ?_;rintro e w3 ⟨rfl,ve⟩)|(go_at_call 238;refine(HC.out _ Db).mono ?_;rintro e w2 ⟨rfl,hb2⟩;have MH:=Db.below hb2;have tO:=vd.on hb2)|(go_at_call 147;refine(HT.out).mono ?_;rintro e w1 ⟨rfl,Db,vd⟩));exact⟨rfl,rfl,tO.same ve⟩
   |ok z=>
    obtain⟨a,l2⟩:=z;rw[hy]at HN;clear hy;go_enter func219,ntmps219;go_wp2_with(first|(go_at_call 239;refine(HN.out _ MH).mono ?_;rintro e w3 ⟨v,rfl,rfl,LA,ve⟩)|(go_at_call 238;refine(HC.out _ Db).mono ?_;rintro e w2 ⟨rfl,hb2⟩;have MH:=Db.below hb2;have tO:=vd.on hb2)|(go_at_call 147;refine(HT.out).mono ?_;rintro e w1 ⟨rfl,Db,vd⟩));go_ret;exact⟨_,rfl,rfl,LA,tO.same ve⟩
  |true=>
   rw[if_pos hc];clear hc;cases hx1:want (fU t wh) [116,101,120,116] l with
   |error y=>
    have W1:Hid (∀W,RD R t wh n W l->Z4 223 #[ptr R,.string ⟨#[116,101,120,116]⟩] W fun e w'=>e=q9 y.1 y.2 t/\Fr (fun k=>k=R) W w'):=fun W hW=>Da hx1 hW;simp only[uS];clear hx1;go_enter func219,ntmps219;go_wp2_with(first|(go_at_call 223;refine(W1.out _ MH).mono ?_;rintro e w9 ⟨rfl,fr9⟩)|(go_at_call 238;refine(HC.out _ Db).mono ?_;rintro e w2 ⟨rfl,hb2⟩;have MH:=Db.below hb2;have tO:=vd.on hb2)|(go_at_call 147;refine(HT.out).mono ?_;rintro e w1 ⟨rfl,Db,vd⟩));exact⟨rfl,rfl,tO.same fr9⟩
   |ok l1=>
    have W1:Hid (∀W,RD R t wh n W l->Z4 223 #[ptr R,.string ⟨#[116,101,120,116]⟩] W fun e w'=>e=.returned (.tuple #[])/\RD R t wh n w' l1/\Fr (fun k=>k=R) W w'):=fun W hW=>C_ hx1 hW;simp only[uS];clear hx1;cases hx2:want (fU t wh) [40] l1 with
    |error y=>
     have W2:Hid (∀W,RD R t wh n W l1->Z4 223 #[ptr R,.string ⟨#[40]⟩] W fun e w'=>e=q9 y.1 y.2 t/\Fr (fun k=>k=R) W w'):=fun W hW=>Da hx2 hW;simp only[uS];clear hx2;go_enter func219,ntmps219;go_wp2_with(first|(go_at_call 223;refine(W2.out _ LA).mono ?_;rintro e w9 ⟨rfl,fr9⟩)|(go_at_call 223;refine(W1.out _ MH).mono ?_;rintro e w3 ⟨rfl,LA,ve⟩;have ve:=tO.same ve)|(go_at_call 238;refine(HC.out _ Db).mono ?_;rintro e w2 ⟨rfl,hb2⟩;have MH:=Db.below hb2;have tO:=vd.on hb2)|(go_at_call 147;refine(HT.out).mono ?_;rintro e w1 ⟨rfl,Db,vd⟩));exact⟨rfl,rfl,ve.same fr9⟩
    |ok l2=>
     have W2:Hid (∀W,RD R t wh n W l1->Z4 223 #[ptr R,.string ⟨#[40]⟩] W fun e w'=>e=.returned (.tuple #[])/\RD R t wh n w' l2/\Fr (fun k=>k=R) W w'):=fun W hW=>C_ hx2 hW;simp only[uS];clear hx2;cases hx3:want (fU t wh) [41] l2 with
     |error y=>
      have W3:Hid (∀W,RD R t wh n W l2->Z4 223 #[ptr R,.string ⟨#[41]⟩] W fun e w'=>e=q9 y.1 y.2 t/\Fr (fun k=>k=R) W w'):=fun W hW=>Da hx3 hW;simp only[uS];clear hx3;go_enter func219,ntmps219;go_wp2_with(first|(go_at_call 223;refine(W3.out _ Dc).mono ?_;rintro e w9 ⟨rfl,fr9⟩)|(go_at_call 223;refine(W2.out _ LA).mono ?_;rintro e w4 ⟨rfl,Dc,IX⟩;have IX:=ve.same IX)|(go_at_call 223;refine(W1.out _ MH).mono ?_;rintro e w3 ⟨rfl,LA,ve⟩;have ve:=tO.same ve)|(go_at_call 238;refine(HC.out _ Db).mono ?_;rintro e w2 ⟨rfl,hb2⟩;have MH:=Db.below hb2;have tO:=vd.on hb2)|(go_at_call 147;refine(HT.out).mono ?_;rintro e w1 ⟨rfl,Db,vd⟩));exact⟨rfl,rfl,IX.same fr9⟩
     |ok l3=>
      have W3:Hid (∀W,RD R t wh n W l2->Z4 223 #[ptr R,.string ⟨#[41]⟩] W fun e w'=>e=.returned (.tuple #[])/\RD R t wh n w' l3/\Fr (fun k=>k=R) W w'):=fun W hW=>C_ hx3 hW;simp only[uS];clear hx3;go_enter func219,ntmps219;go_wp2_with(first|(go_at_call 223;refine(W3.out _ Dc).mono ?_;rintro e w5 ⟨rfl,Qn,IY⟩;have IY:=IX.same IY)|(go_at_call 223;refine(W2.out _ LA).mono ?_;rintro e w4 ⟨rfl,Dc,IX⟩;have IX:=ve.same IX)|(go_at_call 223;refine(W1.out _ MH).mono ?_;rintro e w3 ⟨rfl,LA,ve⟩;have ve:=tO.same ve)|(go_at_call 238;refine(HC.out _ Db).mono ?_;rintro e w2 ⟨rfl,hb2⟩;have MH:=Db.below hb2;have tO:=vd.on hb2)|(go_at_call 147;refine(HT.out).mono ?_;rintro e w1 ⟨rfl,Db,vd⟩));go_ret;exact⟨_,rfl,rfl,Qn,IY⟩
end
section
def fG.len:fG->Nat
 | .nil=>0
 | .cons _ _ _ m=>m.len+1
def k9.len:k9->Nat
 | .nil=>0
 | .cons _ _ _ _ _ m=>m.len+1
def sl(w:World)(A:Nat->Prop)(e:TypeId)(v:Value)(n:Nat)(k:Nat->Prop):Prop:=
 (n=0/\v=fO)\/∃g cap cur,v=Z9 g n cap/\A g/\w.heap[g]?=some (.cells cur e (0,0))/\n<=1000/\(0<n/\n<=cap)/\k g
mutual
def pC(w:World)(A:Nat->Prop)(tS tP:TypeId):Nat->Nat->fG->Prop
 |_,_,.nil=>True
 |g,i,.cons d t ps m=>w.cell? ⟨g,i*3,none⟩=some (.bool d)/\w.cell? ⟨g,i*3+1,none⟩=some (.string (bs t))/\
  (∃v,w.cell? ⟨g,i*3+2,none⟩=some v/\sl w A tP v ps.len fun g=>tu w A tS tP g 0 ps)/\pC w A tS tP g (i+1) m
def tu(w:World)(A:Nat->Prop)(tS tP:TypeId):Nat->Nat->k9->Prop
 |_,_,.nil=>True
 |g,i,.cons op ks ss at_ tx m=>w.cell? ⟨g,i*5,none⟩=some (.string (bs op))/\
  (∃v,w.cell? ⟨g,i*5+1,none⟩=some v/\sl w A tP v ks.len fun g=>tu w A tS tP g 0 ks)/\
  (∃v,w.cell? ⟨g,i*5+2,none⟩=some v/\sl w A tS v ss.len fun g=>pC w A tS tP g 0 ss)/\
  w.cell? ⟨g,i*5+3,none⟩=some (.string (bs at_))/\w.cell? ⟨g,i*5+4,none⟩=some (.string (bs tx))/\tu w A tS tP g (i+1) m
end
def um(w:World)(A:Nat->Prop)(tS tP:TypeId)(v:Value)(s:fG):Prop:=sl w A tS v s.len fun g=>pC w A tS tP g 0 s
def ET(w:World)(A:Nat->Prop)(tS tP:TypeId)(v:Value)(s:k9):Prop:=sl w A tP v s.len fun g=>tu w A tS tP g 0 s
variable{w w' w1 w2:World}{A A' B:Nat->Prop}{tS tP:TypeId}{v:Value}
theorem sl.shape{e:TypeId}{n:Nat}{k:Nat->Prop}(h:sl w A e v n k):∃ai cap,v=.slice ai n cap:=by
 rcases h with⟨rfl,rfl⟩|⟨g,cap,cur,rfl,_⟩
 ·exact⟨_,_,rfl⟩
 ·exact⟨_,_,rfl⟩
def Move(A A':Nat->Prop)(w w':World):Prop:=∀b,A b->b<w.heap.size->A' b/\w'.heap[b]?=w.heap[b]?
theorem sl.move(hm:Move A A' w w'){e:TypeId}{n:Nat}{k k':Nat->Prop}(h:sl w A e v n k)(hk:∀g,A g->g<w.heap.size->k g->k' g):sl w' A' e v n k':=by
 rcases h with h|⟨g,cap,cur,hv,ha,hg,hn,h0,hr⟩
 ·exact Or.inl h
 ·obtain⟨h1,h2⟩:=hm g ha (eO hg);exact Or.inr ⟨g,cap,cur,hv,h1,h2.trans hg,hn,h0,hk g ha (eO hg) hr⟩
mutual
theorem pC.move(hm:Move A A' w w'):∀(s:fG) (g i:Nat),w'.heap[g]?=w.heap[g]?->pC w A tS tP g i s->pC w' A' tS tP g i s
 | .nil,_,_,_,_=>by simp only[pC]
 | .cons d t ps m,g,i,hg,h=>by
  simp only[pC]at h ⊢;obtain⟨h0,h1,⟨v,h2,h3⟩,h4⟩:=h;have up:∀j u,w.cell? ⟨g,j,none⟩=some u->w'.cell? ⟨g,j,none⟩=some u:=fun j u hj=>(aj hg).trans hj;exact⟨up _ _ h0,up _ _ h1,⟨v,up _ _ h2,h3.move hm fun g' ha hl hr=>tu.move hm ps g' 0 (hm g' ha hl).2 hr⟩,pC.move hm m g (i+1) hg h4⟩
theorem tu.move(hm:Move A A' w w'):∀(s:k9) (g i:Nat),w'.heap[g]?=w.heap[g]?->tu w A tS tP g i s->tu w' A' tS tP g i s
 | .nil,_,_,_,_=>by simp only[tu]
 | .cons op ks ss at_ tx m,g,i,hg,h=>by
  simp only[tu]at h ⊢;obtain⟨h0,⟨v,h1,h2⟩,⟨u,h3,h4⟩,h5,h6,h7⟩:=h;have up:∀j u,w.cell? ⟨g,j,none⟩=some u->w'.cell? ⟨g,j,none⟩=some u:=fun j u hj=>(aj hg).trans hj;exact⟨up _ _ h0,⟨v,up _ _ h1,h2.move hm fun g' ha hl hr=>tu.move hm ks g' 0 (hm g' ha hl).2 hr⟩,⟨u,up _ _ h3,h4.move hm fun g' ha hl hr=>pC.move hm ss g' 0 (hm g' ha hl).2 hr⟩,up _ _ h5,up _ _ h6,tu.move hm m g (i+1) hg h7⟩
end
theorem um.move(hm:Move A A' w w'){s:fG}(h:um w A tS tP v s):um w' A' tS tP v s:=sl.move hm h fun g ha hl hr=>pC.move hm s g 0 (hm g ha hl).2 hr
theorem ET.move(hm:Move A A' w w'){s:k9}(h:ET w A tS tP v s):ET w' A' tS tP v s:=sl.move hm h fun g ha hl hr=>tu.move hm s g 0 (hm g ha hl).2 hr
def SV(A:Nat->Prop)(tS tP:TypeId)(w:World)(v:Value)(s:jd):Prop:=∃vp,v=.agg #[.bool s.deep,.string (bs s.test),vp]/\ET w A tS tP vp s.iT
def gR(l:List (jd×Value)):List Value:=l.flatMap fun x=>[.bool x.1.deep,.string (bs x.1.test),x.2]
def Dd(l:List (ny×Value×Value)):List Value:=l.flatMap fun x=>[.string (bs x.1.op),x.2.1,x.2.2,.string (bs x.1.attr),.string (bs x.1.text)]
theorem uo(l:List (jd×Value)):(gR l).length=l.length*3:=by
 induction l with
 |nil=>rfl
 |cons x l ih=>simp only[gR,bV,ae,ag,aq]at*;omega
theorem IZ(l:List (jd×Value))(x:jd×Value):gR (l++[x])=gR l++[.bool x.1.deep,.string (bs x.1.test),x.2]:=by simp[gR]
structure GS(lo:Nat)(tS tP:TypeId)(w:World)(v:Value)(l:List jd):Prop where
 ex:∃xs:List (jd×Value),xs.map (·.1)=l/\w.ownsRow 0 tS 3 v l.length (gR xs)/\∀x∈xs,ET w (fun b=>lo<=b/\some b≠v.ownBlock) tS tP x.2 x.1.iT
 own:∀k,v.ownBlock=some k->lo<=k
structure GP(lo:Nat)(tS tP:TypeId)(w:World)(v:Value)(l:List ny):Prop where
 ex:∃xs:List (ny×Value×Value),xs.map (·.1)=l/\w.ownsRow 0 tP 5 v l.length (Dd xs)/\∀x∈xs,ET w (fun b=>lo<=b/\some b≠v.ownBlock) tS tP x.2.1 x.1.kids/\um w (fun b=>lo<=b/\some b≠v.ownBlock) tS tP x.2.2 x.1.steps
 own:∀k,v.ownBlock=some k->lo<=k
variable{lo:Nat}{l:List jd}{lp:List ny}
theorem GP.zero:GP lo tS tP w fO []:=⟨⟨[],rfl,⟨rfl,Or.inl ⟨rfl,rfl⟩⟩,fun x hx=>by simp at hx⟩,fun k e=>by cases e⟩
theorem GS.fr{F:Nat->Prop}(h:GS lo tS tP w v l)(hf:Fr F w w')(hF:∀k,F k->k<w.heap.size->k<lo):GS lo tS tP w' v l:=by
 obtain⟨xs,h1,h2,h3⟩:=h.ex;have hb:∀b,lo<=b->b<w.heap.size->w'.heap[b]?=w.heap[b]?:=fun b h1 h2=>hf.block b h2 (fun x=>by have:=hF b x h2;omega);exact⟨⟨xs,h1,eI h2 fun k e=>hb k (h.own k e) (eU h2 e),fun x hx=>(h3 x hx).move fun b ha hl=>⟨ha,hb b ha.1 hl⟩⟩,h.own⟩
theorem GP.fr{F:Nat->Prop}(h:GP lo tS tP w v lp)(hf:Fr F w w')(hF:∀k,F k->k<w.heap.size->k<lo):GP lo tS tP w' v lp:=by
 obtain⟨xs,h1,h2,h3⟩:=h.ex;have hb:∀b,lo<=b->b<w.heap.size->w'.heap[b]?=w.heap[b]?:=fun b h1 h2=>hf.block b h2 (fun x=>by have:=hF b x h2;omega);exact⟨⟨xs,h1,eI h2 fun k e=>hb k (h.own k e) (eU h2 e),fun x hx=>⟨(h3 x hx).1.move fun b ha hl=>⟨ha,hb b ha.1 hl⟩,(h3 x hx).2.move fun b ha hl=>⟨ha,hb b ha.1 hl⟩⟩⟩,h.own⟩
theorem LB(g:Nat):∀(ss:List jd) (i:Nat),(∀k s,ss[k]?=some s->w.cell? ⟨g,(i+k)*3,none⟩=some (.bool s.deep)/\w.cell? ⟨g,(i+k)*3+1,none⟩=some (.string (bs s.test))/\∃v,w.cell? ⟨g,(i+k)*3+2,none⟩=some v/\ET w A tS tP v s.iT)->pC w A tS tP g i (fG.of ss)
 |[],i,_=>by simp only[fG.of,pC]
 |s::ss,i,h=>by
  simp only[fG.of,pC];obtain⟨h0,h1,h2⟩:=h 0 s rfl;refine⟨h0,h1,h2,LB g ss (i+1) fun k s hk=>?_⟩;have:=h (k+1) s (by simpa using hk);rwa[show i+(k+1)=i+1+k by omega]at this
theorem LC(g:Nat):∀(ss:List ny) (i:Nat),(∀k s,ss[k]?=some s->w.cell? ⟨g,(i+k)*5,none⟩=some (.string (bs s.op))/\(∃v,w.cell? ⟨g,(i+k)*5+1,none⟩=some v/\ET w A tS tP v s.kids)/\(∃v,w.cell? ⟨g,(i+k)*5+2,none⟩=some v/\um w A tS tP v s.steps)/\w.cell? ⟨g,(i+k)*5+3,none⟩=some (.string (bs s.attr))/\w.cell? ⟨g,(i+k)*5+4,none⟩=some (.string (bs s.text)))->tu w A tS tP g i (k9.of ss)
 |[],i,_=>by simp only[k9.of,tu]
 |s::ss,i,h=>by
  simp only[k9.of,tu];obtain⟨h0,h1,h2,h3,h4⟩:=h 0 s rfl;refine⟨h0,h1,h2,h3,h4,LC g ss (i+1) fun k s hk=>?_⟩;have:=h (k+1) s (by simpa using hk);rwa[show i+(k+1)=i+1+k by omega]at this
theorem fG.wF:∀ss:List jd,(fG.of ss).len=ss.length
 |[]=>rfl
 |s::ss=>by simp only[fG.of,fG.len,fG.wF ss,ag]
theorem k9.wF:∀ss:List ny,(k9.of ss).len=ss.length
 |[]=>rfl
 |s::ss=>by simp only[k9.of,k9.len,k9.wF ss,ag]
theorem kG:∀(xs:List (jd×Value)) (k:Nat) (x:jd×Value) (c:Nat) (u:Value),xs[k]?=some x->[Value.bool x.1.deep,.string (bs x.1.test),x.2][c]?=some u->(gR xs)[k*3+c]?=some u
 |[],k,x,c,u,h,_=>by simp at h
 |y::xs,0,x,c,u,h,hc=>by
  obtain rfl:y=x:=by simpa using h
  have hl:c<3:=by have:=(List.getElem?_eq_some_iff.1 hc).1;simpa using this
  show (_++gR xs)[0*3+c]?=_;rw[aL (by simp;omega)];simpa using hc
 |y::xs,k+1,x,c,u,h,hc=>by
  have:=kG xs k x c u (by simpa using h) hc;show (_++gR xs)[(k+1)*3+c]?=_;rw[aQ (by simp;omega)];rw[<-this];congr 1;simp;omega
theorem nV:∀(xs:List (ny×Value×Value)) (k:Nat) (x:ny×Value×Value) (c:Nat) (u:Value),xs[k]?=some x->[Value.string (bs x.1.op),x.2.1,x.2.2,.string (bs x.1.attr),.string (bs x.1.text)][c]?=some u->(Dd xs)[k*5+c]?=some u
 |[],k,x,c,u,h,_=>by simp at h
 |y::xs,0,x,c,u,h,hc=>by
  obtain rfl:y=x:=by simpa using h
  have hl:c<5:=by have:=(List.getElem?_eq_some_iff.1 hc).1;simpa using this
  show (_++Dd xs)[0*5+c]?=_;rw[aL (by simp;omega)];simpa using hc
 |y::xs,k+1,x,c,u,h,hc=>by
  have:=nV xs k x c u (by simpa using h) hc;show (_++Dd xs)[(k+1)*5+c]?=_;rw[aQ (by simp;omega)];rw[<-this];congr 1;simp;omega
theorem iz{e:TypeId}{sz g n cap j:Nat}{xs:List Value}{u:Value}(h:w.ownsRow 0 e sz (Z9 g n cap) n xs)(hj:xs[j]?=some u):w.cell? ⟨g,j,none⟩=some u:=by
 rcases h.2 with⟨e1,_⟩|⟨g',cap',cur,e1,h0,hg,h1,h2,h3,h4⟩
 ·cases e1
 ·cases e1;refine cell_of hg ?_;rw[<-h4,bT]at hj;split at hj
  ·simpa using hj
  ·cases hj
theorem De{α β:Type}{f:α->β}{xs:List α}{l:List β}(h:xs.map f=l){k:Nat}{s:β}(hk:l[k]?=some s):∃x,xs[k]?=some x/\f x=s:=by
 rw[<-h,aX]at hk;cases hx:xs[k]? with
 |none=>rw[hx]at hk;cases hk
 |some x=>rw[hx]at hk;exact⟨x,rfl,by simpa using hk⟩
theorem p8{α:Type}{xs:List α}{k:Nat}{x:α}(h:xs[k]?=some x):x∈xs:=aZ h
theorem GS.done(h:GS lo tS tP w v l)(hn:l.length<=1000)(hne:l=[]->v=fO):um w (fun b=>lo<=b) tS tP v (fG.of l):=by
 obtain⟨xs,h1,h2,h3⟩:=h.ex;unfold um;rw[fG.wF];obtain⟨ai,cap,rfl⟩:=eE h2;rcases h2.2 with⟨e,e2⟩|⟨g,cap',cur,e1,h0,hg,hr⟩
 ·exact Or.inl ⟨e2,e⟩
 ·cases e1;by_cases hz:l.length=0
  ·have:=hne (List.length_eq_zero_iff.1 hz);cases this
  refine Or.inr ⟨g,cap,cur,rfl,h.own g rfl,hg,hn,by omega,LB g l 0 fun k s hk=>?_⟩;obtain⟨x,hx,rfl⟩:=De h1 hk;rw[ay];exact⟨iz h2 (kG xs k x 0 _ hx rfl),iz h2 (kG xs k x 1 _ hx rfl),x.2,iz h2 (kG xs k x 2 _ hx rfl),(h3 x (p8 hx)).move fun b ha _=>⟨ha.1,rfl⟩⟩
theorem GP.done(h:GP lo tS tP w v lp)(hn:lp.length<=1000)(hne:lp=[]->v=fO):ET w (fun b=>lo<=b) tS tP v (k9.of lp):=by
 obtain⟨xs,h1,h2,h3⟩:=h.ex;unfold ET;rw[k9.wF];obtain⟨ai,cap,rfl⟩:=eE h2;rcases h2.2 with⟨e,e2⟩|⟨g,cap',cur,e1,h0,hg,hr⟩
 ·exact Or.inl ⟨e2,e⟩
 ·cases e1;by_cases hz:lp.length=0
  ·have:=hne (List.length_eq_zero_iff.1 hz);cases this
  refine Or.inr ⟨g,cap,cur,rfl,h.own g rfl,hg,hn,by omega,LC g lp 0 fun k s hk=>?_⟩;obtain⟨x,hx,rfl⟩:=De h1 hk;rw[ay];exact⟨iz h2 (nV xs k x 0 _ hx rfl),⟨x.2.1,iz h2 (nV xs k x 1 _ hx rfl),(h3 x (p8 hx)).1.move fun b ha _=>⟨ha.1,rfl⟩⟩,⟨x.2.2,iz h2 (nV xs k x 2 _ hx rfl),(h3 x (p8 hx)).2.move fun b ha _=>⟨ha.1,rfl⟩⟩,iz h2 (nV xs k x 3 _ hx rfl),iz h2 (nV xs k x 4 _ hx rfl)⟩
theorem GS.push{v':Value}{s:jd}{vp:Value}(h:GS lo tS tP w1 v l){xs:List (jd×Value)}(h1:xs.map (·.1)=l)(h3:∀x∈xs,ET w1 (fun b=>lo<=b/\some b≠v.ownBlock) tS tP x.2 x.1.iT)(hs:ET w1 (fun b=>lo<=b/\some b≠v.ownBlock) tS tP vp s.iT)(Df:lo<=w1.heap.size)
  (ho:w2.ownsRow 0 tS 3 v' (l.length+1) (gR xs++[.bool s.deep,.string (bs s.test),vp])) (hg:w1.grownBy w2 v.ownBlock) (hat:v'.ownBlock=v.ownBlock\/v'.ownBlock=some w1.heap.size):GS lo tS tP w2 v' (l++[s]):=by
 have hm:Move (fun b=>lo<=b/\some b≠v.ownBlock) (fun b=>lo<=b/\some b≠v'.ownBlock) w1 w2:=fun b ha hl=>⟨⟨ha.1,by rcases hat with e|e<;>rw[e];exact ha.2;intro x;cases x;omega⟩,hg.block b hl ha.2⟩
 refine⟨⟨xs++[(s,vp)],by rw[bp,h1];rfl,by rw[ae,IZ];exact ho,fun x hx=>?_⟩,fun k e=>?_⟩
 ·rcases List.mem_append.1 hx with hx|hx
  ·exact(h3 x hx).move hm
  ·obtain rfl:x=(s,vp):=by simpa using hx
   exact hs.move hm
 ·rcases hat with x|x
  ·exact h.own k (x▸e)
  ·rw[x]at e;cases e;exact Df
end
section
variable{w w' w1 w2:World}{F G:Nat->Prop}{R:Nat}{t l l':L}{wh n:Nat}
end
end Go.Proofs.YtjecakcpcnmieaaGreatDoor
