import Derived.Test.YtclgfepngpeifaaGreatDoorYA
import Derived.Lib.SlTrimSet
import Derived.OneCell
import Derived.OwnWalk
import Derived.Maps.AppendAt
import Derived.Maps.OwnSet
import Derived.Deep.RegionLaw
import Derived.Deep.RegionHeld3
import Derived.Deep.QuietTactic
import Derived.BigRegion
import Derived.BigQuiet
import Derived.WalkLawsBesides
import Derived.Defers
import Derived.Recover
import Derived.Test.YtclgfepngpeifaaGreatDoorYaa
set_option linter.unusedVariables false
set_option linter.unusedSimpArgs false
set_option maxHeartbeats 32000000
set_option maxRecDepth 100000
namespace Go.Proofs.YtclgfepngpeifaaGreatDoor
open Go Tryz
section
abbrev L:=List UInt8
abbrev Rs(α:Type):=Except (Nat×Nat) (α×L)
def bs(l:L):ByteArray:=⟨l.toArray⟩
mutual
inductive gw where
 |nil
 |cons (deep:Bool) (test:L) (gm:gR) (more:gw)
inductive gR where
 |nil
 |cons (op:L) (kids:gR) (steps:gw) (attr text:L) (more:gR)
end
structure iV where
 deep:Bool
 test:L
 gm:gR
structure gB where
 op:L
 kids:gR
 steps:gw
 attr:L
 text:L
def gw.of:List iV->gw
 |[]=> .nil
 |s::l=> .cons s.deep s.test s.gm (gw.of l)
def gR.of:List gB->gR
 |[]=> .nil
 |p::l=> .cons p.op p.kids p.steps p.attr p.text (gR.of l)
def skip(l:L):L:=Lib.trimLeftS l [9,10,13,32]
def nm(l:L):Nat:=Ch.name (bs l)
def part(l:L):L:=if 0<nm l then l.take (nm l)else if Lib.hasPrefix l [47,47]=true\/Lib.hasPrefix l [33,61]=true then l.take 2 else l.take 1
def pass(n:Nat)(l:L):L:=skip (l.drop n)
def bad(cut:Bool)(l:L):Nat×Nat:=(if l=[]/\cut=true then 2 else 3,l.length)
def want(cut:Bool)(p l:L):Except (Nat×Nat) L:=if part l=p then .ok (pass p.length l)else .error (bad cut l)
def calls(word l:L):Bool:=part l==word&&Lib.hasPrefix (skip (l.drop word.length)) [40]
abbrev wY:L:=[110,111,116]
abbrev xV:L:=[116,101,120,116]
def name(cut:Bool)(l:L):Rs L:=if nm l=0\/calls wY l=true\/calls xV l=true then .error (bad cut l)else .ok (l.take (nm l),pass (nm l) l)
def jo(c:UInt8)(l:L):L:=(l.drop 1).takeWhile (· !=c)
def jI(cut:Bool)(c:UInt8)(l:L):Rs L:=if(l.drop 1).contains c=true then .ok (jo c l,pass ((jo c l).length+2) l)else .error (bad cut [])
def quoted(cut:Bool)(l:L):Rs L:=if part l=[34]then jI cut 34 l else if part l=[39]then jI cut 39 l else .error (bad cut l)
def thn{α β:Type}(x:Rs α)(f:α->L->Rs β):Rs β:=match x with
 | .error e=> .error e
 | .ok (a,l)=>f a l
def oq{β:Type}(x:Except (Nat×Nat) L)(f:L->Rs β):Rs β:=match x with
 | .error e=> .error e
 | .ok l=>f l
def within(cut:Bool)(e8:Option (L->Rs gB))(o s:L)(l:L):Rs gB:=match e8 with
 |none=> .error (8,l.length)
 |some f=>oq (want cut o l) fun l=>thn (f l) fun p l=>oq (want cut s l) fun l=> .ok (p,l)
def gm(cut:Bool)(e8:Option (L->Rs gB)):Nat->L->Rs (List gB)
 |0,l=> .ok ([],l)
 |f+1,l=>if part l=[91]then thn (within cut e8 [91] [93] l) fun p l=>thn (gm cut e8 f l) fun ps l=> .ok (p::ps,l)else .ok ([],l)
def test(cut:Bool)(l:L):Rs L:=
 if part l=[42]then .ok ([42],pass 1 l)
 else if calls xV l=true then oq (want cut xV l) fun l=>oq (want cut [40] l) fun l=>oq (want cut [41] l) fun l=> .ok ([35],l)
 else name cut l
def step(cut:Bool)(e8:Option (L->Rs gB))(deep:Bool)(l:L):Rs iV:=thn (test cut l) fun t l=>thn (gm cut e8 (l.length+1) l) fun ps l=> .ok (⟨deep,t,gR.of ps⟩,l)
def im(cut:Bool)(l:L):Rs Bool:=if part l=[47,47]then .ok (true,pass 2 l)else oq (want cut [47] l) fun l=> .ok (false,l)
def fk(s:iV)(l:L):Bool:=s.test !=[35]&&(part l==[47]||part l==[47,47])
def jJ(cut:Bool)(e8:Option (L->Rs gB)):Nat->iV->L->Rs (List iV)
 |0,_,l=> .ok ([],l)
 |f+1,s,l=>if fk s l=true then thn (im cut l) fun d l=>thn (step cut e8 d l) fun s l=>thn (jJ cut e8 f s l) fun ss l=> .ok (s::ss,l)else .ok ([],l)
def path(cut:Bool)(e8:Option (L->Rs gB))(l:L):Rs (List iV):=thn (im cut l) fun d l=>thn (step cut e8 d l) fun s l=>thn (jJ cut e8 (l.length+1) s l) fun ss l=> .ok (s::ss,l)
def attr(cut:Bool)(l:L):Rs L:=oq (want cut [64] l) fun l=>name cut l
def kI(cut:Bool)(e8:Option (L->Rs gB)):Nat->iV->L->Rs (List iV×L)
 |0,_,l=> .ok (([],[]),l)
 |f+1,s,l=>if fk s l=true then thn (im cut l) fun d l=>if d=false/\part l=[64]then thn (attr cut l) fun a l=> .ok (([],a),l)else
  thn (step cut e8 d l) fun s l=>thn (kI cut e8 f s l) fun x l=> .ok ((s::x.1,x.2),l)else .ok (([],[]),l)
def oP(cut:Bool)(e8:Option (L->Rs gB))(deep:Bool)(l:L):Rs gB:=thn (step cut e8 deep l) fun s l=>thn (kI cut e8 (l.length+1) s l) fun x l=> .ok (⟨[],.nil,gw.of (s::x.1),x.2,[]⟩,l)
def dot(cut:Bool)(e8:Option (L->Rs gB))(l:L):Rs gB:=oq (want cut [46] l) fun l=>if part l=[47,47]then oP cut e8 true (pass 2 l)else .ok (⟨[],.nil,.nil,[],[]⟩,l)
def value(cut:Bool)(e8:Option (L->Rs gB))(l:L):Rs gB:=
 if part l=[46]then dot cut e8 l else if part l=[64]then thn (attr cut l) fun a l=> .ok (⟨[],.nil,.nil,a,[]⟩,l)else oP cut e8 false l
abbrev lM:L:=[104,97,115]
def compared(cut:Bool)(p:gB)(l:L):Rs gB:=
 if part l=[61]then thn (quoted cut (pass 1 l)) fun t l=> .ok (⟨[61],p.kids,p.steps,p.attr,t⟩,l)
 else if part l=[33,61]then thn (quoted cut (pass 2 l)) fun t l=> .ok (⟨[33,61],p.kids,p.steps,p.attr,t⟩,l)
 else .ok (⟨lM,p.kids,p.steps,p.attr,p.text⟩,l)
def one(cut:Bool)(e8:Option (L->Rs gB))(l:L):Rs gB:=
 if calls wY l=true then oq (want cut wY l) fun l=>thn (within cut e8 [40] [41] l) fun p l=> .ok (⟨wY,gR.of [p],.nil,[],[]⟩,l)
 else if part l=[40]then within cut e8 [40] [41] l
 else thn (value cut e8 l) fun p l=>compared cut p l
def j_(word:L)(read:L->Rs gB):Nat->L->Rs (List gB)
 |0,l=> .ok ([],l)
 |f+1,l=>if part l=word then thn (read (pass word.length l)) fun p l=>thn (j_ word read f l) fun ps l=> .ok (p::ps,l)else .ok ([],l)
def joined(word:L)(read:L->Rs gB)(l:L):Rs gB:=thn (read l) fun p l=>if part l=word then thn (j_ word read (l.length+1) l) fun ps l=> .ok (⟨word,gR.of (p::ps),.nil,[],[]⟩,l)else .ok (p,l)
abbrev wOr:L:=[111,114]
abbrev Vw:L:=[97,110,100]
def both(cut:Bool)(e8:Option (L->Rs gB)):L->Rs gB:=joined Vw (one cut e8)
def cond(cut:Bool)(e8:Option (L->Rs gB)):L->Rs gB:=joined wOr (both cut e8)
def vo(cut:Bool):Nat->L->Rs gB
 |0=>cond cut none
 |d+1=>cond cut (some (vo cut d))
def pW(cut:Bool):Nat->Option (L->Rs gB)
 |0=>none
 |d+1=>some (vo cut d)
theorem KN(cut:Bool)(d:Nat):vo cut d=cond cut (pW cut d):=by cases d<;>rfl
def jU(cut:Bool):Nat->L->Rs (List (List iV))
 |0,l=> .ok ([],l)
 |f+1,l=>if part l=[124]then thn (path cut (pW cut 8) (pass 1 l)) fun p l=>thn (jU cut f l) fun ps l=> .ok (p::ps,l)else .ok ([],l)
def query(cut:Bool)(l:L):Rs (List (List iV)):=thn (path cut (pW cut 8) (pass 0 l)) fun p l=>thn (jU cut (l.length+1) l) fun ps l=>if l=[]/\cut=false then .ok (p::ps,l)else .error (bad cut l)
def cutAt(q:L):L:=q.take (Ch.bad (bs q))
def AA(q:L):Bool:=decide ((cutAt q).length<q.length)
def parse(q:L):Except (Nat×Nat) (List (List iV)):=
 if 500<q.length then .error (1,0)else match query (AA q) (cutAt q)with
  | .error e=> .error (e.1,(cutAt q).length-e.2)
  | .ok x=> .ok x.1
theorem Ee(l:L):skip l<:+l:=List.dropWhile_suffix _
theorem jw(n:Nat)(l:L):pass n l<:+l:=(Ee _).trans (List.drop_suffix _ _)
theorem xw{n:Nat}{l:L}(hn:0<n)(hl:l≠[]):(pass n l).length<l.length:=by
 have h1:=(Ee (l.drop n)).length_le;have h2:l.length≠0:=fun e=>hl (List.length_eq_zero_iff.1 e);simp only[cm]at h1;unfold pass;omega
theorem tO:part []=[]:=by simp[part]
theorem xx{l p:L}(h:part l=p)(hp:p≠[]):l≠[]:=by rintro rfl;exact hp (h.symm.trans tO)
def gC{α:Type}(l:L)(x:Rs α):Prop:=∀a l',x=.ok (a,l')->l'<:+l
def Yx(l:L)(x:Except (Nat×Nat) L):Prop:=∀l',x=.ok l'->l'<:+l
theorem gC.ok{α:Type}{l l':L}{a:α}(h:l'<:+l):gC l (.ok (a,l')):=by intro b Vx e;cases e;exact h
theorem gC.error{α:Type}{l:L}{e:Nat×Nat}:gC (α:=α) l (.error e):=by intro b Vx h;cases h
theorem gC.thn{α β:Type}{l:L}{x:Rs α}{f:α->L->Rs β}(h:gC l x)(hf:∀a l',gC l' (f a l')):gC l (thn x f):=by
 intro b Vx e;cases x with
 |error y=>cases e
 |ok y=>obtain⟨a,l'⟩:=y;exact(hf a l' b Vx e).trans (h a l' rfl)
theorem gC.oq{β:Type}{l:L}{x:Except (Nat×Nat) L}{f:L->Rs β}(h:Yx l x)(hf:∀l',gC l' (f l')):gC l (oq x f):=by
 intro b Vx e;cases x with
 |error y=>cases e
 |ok l'=>exact(hf l' b Vx e).trans (h l' rfl)
theorem gC.from{α:Type}{l l':L}{x:Rs α}(h:gC l' x)(hl:l'<:+l):gC l x:=fun a Vx e=>(h a Vx e).trans hl
theorem kg(cut:Bool)(p l:L):Yx l (want cut p l):=by
 intro l' h;unfold want at h;split at h
 ·cases h;exact jw _ _
 ·cases h
theorem JO{cut:Bool}{p l l':L}(hp:p≠[])(h:want cut p l=.ok l'):l'.length<l.length:=by
 unfold want at h;split at h
 ·next e=>cases h;exact xw (by cases p;exact absurd rfl hp;simp) (xx e hp)
 ·cases h
theorem Ef(cut:Bool)(l:L):gC l (name cut l):=by
 unfold name;split
 ·exact gC.error
 ·exact gC.ok (jw _ _)
theorem tR(cut:Bool)(c:UInt8)(l:L):gC l (jI cut c l):=by
 unfold jI;split
 ·exact gC.ok (jw _ _)
 ·exact gC.error
theorem xW(cut:Bool)(l:L):gC l (quoted cut l):=by
 unfold quoted;split
 ·exact tR _ _ _
 ·split
  ·exact tR _ _ _
  ·exact gC.error
def tU(e8:Option (L->Rs gB)):Prop:=∀f,e8=some f->∀l,gC l (f l)
variable{cut:Bool}{e8:Option (L->Rs gB)}
theorem sU(hi:tU e8)(o s l:L):gC l (within cut e8 o s l):=by
 unfold within;cases e8 with
 |none=>exact gC.error
 |some f=>exact gC.oq (kg _ _ _) fun l=>gC.thn (hi f rfl l) fun p l=>gC.oq (kg _ _ _) fun l=>gC.ok (aO _)
theorem KP(hi:tU e8){o s l l':L}{p:gB}(ho:o≠[])(h:within cut e8 o s l=.ok (p,l')):l'.length<l.length:=by
 unfold within at h;cases e8 with
 |none=>cases h
 |some f=>
  simp only[oq]at h;cases e:want cut o l with
  |error y=>rw[e]at h;cases h
  |ok l1=>
   rw[e]at h;have:=(gC.thn (hi f rfl l1) (fun p l=>gC.oq (kg cut s l) fun l=>gC.ok (a:=p) (aO l)) p l' h).length_le;have:=JO ho e;omega
theorem AB(hi:tU e8):∀f l,gC l (gm cut e8 f l)
 |0,l=>gC.ok (aO _)
 |f+1,l=>by
  unfold gm;split
  ·exact gC.thn (sU hi _ _ _) fun p l=>gC.thn (AB hi f l) fun ps l=>gC.ok (aO _)
  ·exact gC.ok (aO _)
theorem Eg(l:L):gC l (test cut l):=by
 unfold test;split
 ·exact gC.ok (jw _ _)
 ·split
  ·exact gC.oq (kg _ _ _) fun l=>gC.oq (kg _ _ _) fun l=>gC.oq (kg _ _ _) fun l=>gC.ok (aO _)
  ·exact Ef _ _
theorem kJ(hi:tU e8)(d:Bool)(l:L):gC l (step cut e8 d l):=gC.thn (Eg l) fun t l=>gC.thn (AB hi _ _) fun ps l=>gC.ok (aO _)
theorem qQ(l:L):gC l (im cut l):=by
 unfold im;split
 ·exact gC.ok (jw _ _)
 ·exact gC.oq (kg _ _ _) fun l=>gC.ok (aO _)
theorem pX{l l':L}{d:Bool}(h:im cut l=.ok (d,l')):l'.length<l.length:=by
 unfold im at h;split at h
 ·next e=>cases h;exact xw (by decide) (xx e (by decide))
 ·simp only[oq]at h;cases e:want cut [47] l with
  |error y=>rw[e]at h;cases h
  |ok l1=>rw[e]at h;cases h;exact JO (by decide) e
theorem tV(hi:tU e8):∀f s l,gC l (jJ cut e8 f s l)
 |0,_,l=>gC.ok (aO _)
 |f+1,s,l=>by
  unfold jJ;split
  ·exact gC.thn (qQ l) fun d l=>gC.thn (kJ hi d l) fun s l=>gC.thn (tV hi f s l) fun ss l=>gC.ok (aO _)
  ·exact gC.ok (aO _)
theorem Eh(hi:tU e8)(l:L):gC l (path cut e8 l):=gC.thn (qQ l) fun d l=>gC.thn (kJ hi d l) fun s l=>gC.thn (tV hi _ s l) fun ss l=>gC.ok (aO _)
theorem Ei(l:L):gC l (attr cut l):=gC.oq (kg _ _ _) fun l=>Ef _ _
theorem wk(hi:tU e8):∀f s l,gC l (kI cut e8 f s l)
 |0,_,l=>gC.ok (aO _)
 |f+1,s,l=>by
  unfold kI;split
  ·refine gC.thn (qQ l) fun d l=>?_;split
   ·exact gC.thn (Ei l) fun a l=>gC.ok (aO _)
   ·exact gC.thn (kJ hi d l) fun s l=>gC.thn (wk hi f s l) fun ss l=>gC.ok (aO _)
  ·exact gC.ok (aO _)
theorem xX(hi:tU e8)(d:Bool)(l:L):gC l (oP cut e8 d l):=gC.thn (kJ hi d l) fun s l=>gC.thn (wk hi _ s l) fun ss l=>gC.ok (aO _)
theorem Sl(hi:tU e8)(l:L):gC l (dot cut e8 l):=by
 refine gC.oq (kg _ _ _) fun l=>?_;split
 ·exact(xX hi _ _).from (jw _ _)
 ·exact gC.ok (aO _)
theorem KQ(hi:tU e8)(l:L):gC l (value cut e8 l):=by
 unfold value;split
 ·exact Sl hi l
 ·split
  ·exact gC.thn (Ei l) fun a l=>gC.ok (aO _)
  ·exact xX hi _ _
theorem Ct(p:gB)(l:L):gC l (compared cut p l):=by
 unfold compared;split
 ·exact(gC.thn (xW _ _) fun a l=>gC.ok (aO _)).from (jw _ _)
 ·split
  ·exact(gC.thn (xW _ _) fun a l=>gC.ok (aO _)).from (jw _ _)
  ·exact gC.ok (aO _)
theorem Cu(hi:tU e8)(l:L):gC l (one cut e8 l):=by
 unfold one;split
 ·exact gC.oq (kg _ _ _) fun l=>gC.thn (sU hi _ _ _) fun p l=>gC.ok (aO _)
 ·split
  ·exact sU hi _ _ _
  ·exact gC.thn (KQ hi l) fun p l=>Ct p l
theorem tW{word:L}{read:L->Rs gB}(hr:∀l,gC l (read l)):∀f l,gC l (j_ word read f l)
 |0,l=>gC.ok (aO _)
 |f+1,l=>by
  unfold j_;split
  ·exact(gC.thn (hr _) fun p l=>gC.thn (tW hr f l) fun ps l=>gC.ok (aO _)).from (jw _ _)
  ·exact gC.ok (aO _)
theorem sV{word:L}{read:L->Rs gB}(hr:∀l,gC l (read l))(l:L):gC l (joined word read l):=by
 refine gC.thn (hr l) fun p l=>?_;split
 ·exact gC.thn (tW hr _ _) fun ps l=>gC.ok (aO _)
 ·exact gC.ok (aO _)
theorem Ej(hi:tU e8)(l:L):gC l (cond cut e8 l):=sV (fun l=>sV (Cu hi) l) l
theorem sW:∀d l,gC l (vo cut d l)
 |0,l=>Ej (fun f e=>by cases e) l
 |d+1,l=>Ej (fun f e=>by cases e;exact sW d) l
theorem Ek:∀d,tU (pW cut d)
 |0=>fun f e=>by cases e
 |d+1=>fun f e=>by cases e;exact sW d
end
end Go.Proofs.YtclgfepngpeifaaGreatDoor
namespace Go.Proofs.YtclgfepngpeifaaGreatDoor
open Go.RowKit Go.Maps Go.Lib Tryz
section
structure Fr(F:Nat->Prop)(w w':World):Prop where
 os:w'.os=w.os
 tape:w'.tape=w.tape
 output:w'.output=w.output
 size:w.heap.size<=w'.heap.size
 block:∀k,k<w.heap.size->¬F k->w'.heap[k]?=w.heap[k]?
variable{w w' w1 w2:World}{F G:Nat->Prop}{R:Nat}
theorem Fr.refl(F:Nat->Prop)(w:World):Fr F w w:=⟨rfl,rfl,rfl,au _,fun _ _ _=>rfl⟩
theorem Fr.trans(h:Fr F w w1)(k:Fr G w1 w2)(hG:∀i,i<w.heap.size->G i->F i):Fr F w w2:=
 ⟨k.os.trans h.os,k.tape.trans h.tape,k.output.trans h.output,aw h.size k.size,fun i hi hf=>
  (k.block i (aq hi h.size) (fun e=>hf (hG i hi e))).trans (h.block i hi hf)⟩
theorem Fr.same(h:Fr F w w1)(k:Fr F w1 w2):Fr F w w2:=h.trans k fun _ _ x=>x
theorem Fr.below(h:Z5 w w'):Fr F w w':=⟨h.os,h.tape,h.output,h.size,fun k hk _=>h.block k hk⟩
theorem Fr.on(h:Fr F w w1)(k:Z5 w1 w2):Fr F w w2:=h.same (Fr.below k)
theorem Fr.up{K:Nat}(fr:Fr F w w')(hF:∀k,F k->K<=k)(hK:K<=w.heap.size):Below K w w':=
 ⟨fr.os,fr.tape,fr.output,fr.size,fun k hk=>fr.block k (by omega) (fun x=>by have:=hF k x;omega)⟩
theorem Fr.alloc(h:Fr F w w')(o:Obj):Fr F w (w'.alloc o):=
 ⟨h.os,h.tape,h.output,by have:=h.size;simp;omega,fun k hk hf=>(ay _ _ _ (aq hk h.size)).trans (h.block k hk hf)⟩
theorem Fr.drewN(h:Fr F w w')(n:Nat):Fr F w (w'.drewN n):=⟨h.os,h.tape,h.output,h.size,h.block⟩
theorem Fr.set(h:Fr F w w')(a:Addr)(u:Value)(ha:a.block<w.heap.size->F a.block):Fr F w (w'.setCell a u):=
 ⟨h.os,h.tape,h.output,by have:=h.size;simpa [World.setCell]using this,fun k hk hf=>(ak _ _ _ _ (fun e=>hf (by subst e;exact ha hk))).trans (h.block k hk hf)⟩
theorem Fr.mono(h:Fr F w w')(hG:∀k,F k->G k):Fr G w w':=⟨h.os,h.tape,h.output,h.size,fun k hk hf=>h.block k hk (fun x=>hf (hG k x))⟩
theorem eJ{K K':Nat}(h:Below K w w')(hK:K'<=K):Below K' w w':=⟨h.os,h.tape,h.output,h.size,fun k hk=>h.block k (by omega)⟩
theorem zM(h1:Z5 w w1)(h2:Z5 w1 w2):Z5 w w2:=h1.trans (eJ h2 h1.size)
theorem cell_of{R i:Nat}{cs:Array Value}{t:TypeId}{v:Value}(h:w.heap[R]?=some (.cells cs t (0,0)))(hi:cs[i]?=some v):w.cell? ⟨R,i,none⟩=some v:=by simp[World.cell?,h,hi]
theorem d_{R i:Nat}{cs:Array Value}{t:TypeId}(h:w.heap[R]?=some (.cells cs t (0,0))):w.frozen? ⟨R,i,none⟩=false:=by simp[World.frozen?,h]
theorem ej{R i:Nat}{cs:Array Value}{t:TypeId}(h:w.heap[R]?=some (.cells cs t (0,0)))(v:Value):(w.setCell ⟨R,i,none⟩ v).heap[R]?=some (.cells (cs.setIfInBounds i v) t (0,0)):=by
 rw[setCell_eq_setRow w R i cs t (0,0) v h];exact setRow_heap w R cs _ t _ h
theorem dS{k:Nat}{o:Obj}(h:w.heap[k]?=some o):k<w.heap.size:=(Array.getElem?_eq_some_iff.1 h).1
theorem dX{a:Addr}{v:Value}(o:Obj)(h:w.cell? a=some v):(w.alloc o).cell? a=some v:=
 (ar (ay w o a.block (aD w a h))).trans h
theorem dT(w:World)(o:Obj):(w.alloc o).heap[w.heap.size]?=some o:=bf w o
theorem dU{B:Nat}{e:TypeId}{s:Nat}{v:Value}{n:Nat}{xs:List Value}(h:w.ownsRow B e s v n xs):∃ao cap,v=.slice ao n cap:=by
 rcases h.2 with⟨rfl,rfl⟩|⟨g,cap,cur,rfl,_⟩
 ·exact⟨_,_,rfl⟩
 ·exact⟨_,_,rfl⟩
theorem dY{e:TypeId}{s:Nat}{v:Value}{n:Nat}{xs:List Value}(h:w.ownsRow 0 e s v n xs)(hk:∀k,v.ownBlock=some k->w'.heap[k]?=w.heap[k]?):w'.ownsRow 0 e s v n xs:=by
 refine⟨h.1,?_⟩;rcases h.2 with hn|⟨g,cap,cur,rfl,hb,hg,rest⟩
 ·exact Or.inl hn
 ·exact Or.inr ⟨g,cap,cur,rfl,hb,by rw[hk g rfl];exact hg,rest⟩
theorem fA{e:TypeId}{s:Nat}{v:Value}{n:Nat}{xs:List Value}(h:w.ownsRow 0 e s v n xs){k:Nat}(hk:v.ownBlock=some k):∃cur,w.heap[k]?=some (.cells cur e (0,0)):=by
 rcases h.2 with⟨rfl,_⟩|⟨g,cap,cur,rfl,hb,hg,rest⟩
 ·simp[Value.ownBlock]at hk
 ·simp[Value.ownBlock]at hk;subst hk;exact⟨cur,hg⟩
theorem eu{e:TypeId}{sz n:Nat}{v:Value}{xs:List Value}(h:w.ownsRow 0 e sz v n xs){k:Nat}(hk:v.ownBlock=some k):k<w.heap.size:=by obtain⟨c,hc⟩:=fA h hk;exact dS hc
abbrev fo:Value:=.slice none 0 0
structure RD(R:Nat)(t:L)(wh n:Nat)(w:World)(l:L):Prop where
 blk:w.heap[R]?=some (.cells #[.string (bs t),.int .i64 wh,.int .i64 ((t.length-l.length:Nat):Int),.int .i64 n] 125 (0,0))
 wZ:l<:+t
 tw:t.length<=wh
 Cv:wh<=500
 n8:n<=8
variable{t l l':L}{wh n:Nat}
theorem RD.lt(h:RD R t wh n w l):R<w.heap.size:=dS h.blk
theorem RD.below(h:RD R t wh n w l)(hb:Z5 w w'):RD R t wh n w' l:=⟨(hb.block R h.lt).trans h.blk,h.wZ,h.tw,h.Cv,h.n8⟩
theorem RD.fr(h:RD R t wh n w l)(hb:Fr F w w')(hR:¬F R):RD R t wh n w' l:=⟨(hb.block R h.lt hR).trans h.blk,h.wZ,h.tw,h.Cv,h.n8⟩
theorem RD.le(h:RD R t wh n w l):l.length<=t.length:=h.wZ.length_le
theorem El(h:l<:+t):t.drop (t.length-l.length)=l:=by
 obtain⟨p,rfl⟩:=h;simp[List.drop_append]
theorem gS(l:L):(bs l).size=l.length:=by simp[bs,ByteArray.size]
theorem oQ(l:L):(bs l).data.toList=l:=by simp[bs]
theorem fE(l:L):(bs l).toList=l:=by rw[ByteArray.toList_eq,oQ]
theorem kt(l:L)(i j:Nat):(bs l).extract i j=bs ((l.drop i).take (j-i)):=by simp[bs,ByteArray.extract_mk]
theorem xY(h:l<:+t)(w:World):(Instr.slice 9 (.string (bs t)) (some (.int .i64 ((t.length-l.length:Nat):Int))) none none).run prog w=.ok (.string (bs l)) w:=by
 have e:bs l=(bs t).extract (t.length-l.length) (bs t).size:=by rw[kt,gS,El h,bT (by have:=h.length_le;omega)]
 have hle:=h.length_le;rw[run_slice_string_from_if _ _ _ _ _ underlying9,if_pos ⟨by omega,by rw[gS];omega⟩,e];rfl
end
section
variable{w w' w1 w2:World}{F G:Nat->Prop}{R:Nat}{t l l':L}{wh n:Nat}
abbrev lY(no k:Nat)(t:L):Ending:=.panicked [{v:=.iface 122 (.agg #[.int .i64 no,.int .i64 ((t.length-k:Nat):Int)]),recovered:=false}]
abbrev eo(t:L)(wh:Nat):Bool:=decide (t.length<wh)
theorem tX(h:RD R t wh n w l):Z4 87 #[Z8 R] w fun e w'=>e=lY (bad (eo t wh) l).1 (bad (eo t wh) l).2 t/\Fr (fun k=>k=R) w w':=by
 have c0:w.cell? ⟨R,0,none⟩=some (.string (bs t)):=cell_of h.blk rfl;have c1:w.cell? ⟨R,1,none⟩=some (.int .i64 wh):=cell_of h.blk rfl;have c2:w.cell? ⟨R,2,none⟩=some (.int .i64 ((t.length-l.length:Nat):Int)):=cell_of h.blk rfl;have hle:=h.le;have G3:=h.tw;obtain⟨at_,ha⟩:∃k,t.length-l.length=k:=⟨_,rfl⟩
 obtain⟨b1,hb1⟩:∃b,decide (l=[])=b:=⟨_,rfl⟩
 have hb2:((at_:Int)==((bs t).size:Int))=b1:=by
  rw[gS,<-hb1,bD];simp only[bk,aR];constructor
  ·intro e;exact List.length_eq_zero_iff.1 (by omega)
  ·rintro rfl;simp at ha;omega
 have nS:bad (eo t wh) l=(if b1=true/\decide (t.length<wh)=true then 2 else 3,l.length):=by simp only[bad,eo,<-hb1,aR]
 have hlt:b1=true->decide (at_<wh)=decide (t.length<wh):=by intro e;rw[<-hb1,aR]at e;subst e;simp at ha;subst ha;rfl
 have Sm:∀no:Nat,lY no l.length t=.panicked [{v:=.iface 122 (.agg #[.int .i64 no,.int .i64 at_]),recovered:=false}]:=fun no=>by rw[lY,ha]
 rw[ha]at c2;rw[nS];have HF:=a_ (Fr.refl (fun k=>k=R) w);have HT:=a_ Sm;clear h nS hb1 hle G3 ha Sm;cases b1 with
 |false=>
  simp only[aA,false_and,aQ];go_enter func87,ntmps87;go_wp2_with fail;go_quiet(fail);go_wp2;exact⟨rfl,(HT.out 3).symm,HF.out.drewN _⟩
 |true=>
  obtain⟨b2,hb3⟩:∃b,decide (t.length<wh)=b:=⟨_,rfl⟩
  have zQ:=hlt rfl;rw[hb3]at zQ ⊢;clear hlt hb3;cases b2 with
  |false=>
   simp only[aA,and_false,aQ];go_enter func87,ntmps87;go_wp2_with fail;go_quiet(fail);go_wp2;exact⟨rfl,(HT.out 3).symm,HF.out.drewN _⟩
  |true=>
   simp only[and_self,if_true];go_enter func87,ntmps87;go_wp2_with fail;go_quiet(fail);go_wp2;exact⟨rfl,(HT.out 2).symm,HF.out.drewN _⟩
theorem nB(s:ByteArray):∀f pos,pos<=s.size->Ch.eN s f pos<=s.size:=by
 intro f;induction f with
 |zero=>intro pos h;exact h
 |succ f ih=>
  intro pos h;unfold Ch.eN;split
  ·split
   ·exact ih _ (Ch.ek s pos ‹_›).1
   ·omega
  ·omega
theorem UM(l:L):nm l<=l.length:=by have:=nB (bs l) ((bs l).size+1) 0 (aB _);rw[gS]at this;unfold nm Ch.name;rw[gS];exact this
theorem pY(l:L)(k:Nat)(hk:k<=l.length)(w:World):(Instr.slice 9 (.string (bs l)) none (some (.int .i64 (k:Int))) none).run prog w=.ok (.string (bs (l.take k))) w:=by
 rw[run_slice_string_to_if _ _ _ _ _ underlying9,if_pos ⟨by omega,by rw[gS];omega⟩,kt];simp
theorem KS(l:L)(hk:1<=l.length)(w:World):(Instr.slice 9 (.string (bs l)) none (some (.int .i64 1)) none).run prog w=.ok (.string (bs (l.take 1))) w:=pY l 1 hk w
theorem AE(l:L)(hk:2<=l.length)(w:World):(Instr.slice 9 (.string (bs l)) none (some (.int .i64 2)) none).run prog w=.ok (.string (bs (l.take 2))) w:=pY l 2 hk w
theorem p7{nq:Nat}(hb:Below (w.drewN nq).heap.size (w.drewN nq) w'):Z5 w w':=⟨hb.os,hb.tape,hb.output,hb.size,hb.block⟩
theorem Yy{l:L}{a b:UInt8}(h:Lib.hasPrefix l [a,b]=true):2<=l.length:=by
 match l,h with
 |[],h=>simp[Lib.hasPrefix,List.isPrefixOf]at h
 |[x],h=>simp[Lib.hasPrefix,List.isPrefixOf]at h
 |x::y::r,h=>simp
theorem jD(h:RD R t wh n w l):Z4 135 #[Z8 R] w (Z7 (.string (bs (part l))) w):=by
 have c0:w.cell? ⟨R,0,none⟩=some (.string (bs t)):=cell_of h.blk rfl;have c2:w.cell? ⟨R,2,none⟩=some (.int .i64 ((t.length-l.length:Nat):Int)):=cell_of h.blk rfl;have hr:=xY h.wZ;have qR:∀w:World,Z4 157 #[.string (bs l)] w (Z7 (.int .i64 (nm l)) w):=fun w=>qP (bs l) w (by rw[gS];have:=h.le;have:=h.tw;have:=h.Cv;omega);have hp:∀(p:L) (w:World),Z4 129 #[.string (bs l),.string ⟨p.toArray⟩] w (Z6 (.bool (Lib.hasPrefix l p)) w):=fun p w=>by have:=strings_HasPrefix (bs l) ⟨p.toArray⟩ w;rw[oQ]at this;simpa using this
 have w_:=UM l;have Em:∀x,x=part l->bs x=bs (part l):=fun x e=>by rw[e]
 generalize hat:(((t.length-l.length:Nat)):Int)=at_ at*
 have HP:=a_ hp;have En:=a_ qR;have HB:=a_ (Below.refl w.heap.size w);clear h hp qR hat;by_cases h0:0<nm l
 ·have e1:part l=l.take (nm l):=by unfold part;rw[if_pos h0]
  rw[e1];have ht:=pY l (nm l) w_;generalize hN:nm l=N at*
  have hd:decide (0<N)=true:=by simpa using h0
  clear e1 Em;have G4:decide ((N:Int)>0)=true:=by simp;omega
  go_enter func135,ntmps135;go_wp2_with fail;go_quiet(fail);go_wp2_with(go_at_call 157;refine(En.out _).mono ?_;rintro e w' ⟨rfl,hb⟩);go_ret;exact⟨by first|rfl|simp[kt],p7 hb⟩
 ·have e0:nm l=0:=by omega
  rw[e0]at En;have hd:decide ((0:Int)>0)=false:=rfl;obtain⟨b1,hb1⟩:∃b,Lib.hasPrefix l [47,47]=b:=⟨_,rfl⟩
  cases b1 with
  |true=>
   have e1:part l=l.take 2:=by unfold part;rw[if_neg h0,if_pos (Or.inl hb1)]
   rw[e1];have ht:=AE l (Yy hb1);have H1:=HP.out [47,47];rw[hb1]at H1;have HH:=a_ H1;clear H1 e1 h0 e0 hb1 Em w_;go_enter func135,ntmps135;go_wp2_with fail;go_quiet(fail);go_wp2_with(first|(go_at_call 157;refine(En.out _).mono ?_;rintro e w' ⟨rfl,hb⟩)|(go_at_call 129;refine(HH.out _).mono ?_;rintro e w' ⟨rfl,rfl⟩));go_ret;exact⟨by first|rfl|simp[kt],p7 hb⟩
  |false=>
   obtain⟨b2,hb2⟩:∃b,Lib.hasPrefix l [33,61]=b:=⟨_,rfl⟩
   cases b2 with
   |true=>
    have e1:part l=l.take 2:=by unfold part;rw[if_neg h0,if_pos (Or.inr hb2)]
    rw[e1];have ht:=AE l (Yy hb2);clear e1 h0 e0 Em w_;go_enter func135,ntmps135;go_wp2_with fail;go_quiet(fail);go_wp2_with(first|(go_at_call 157;refine(En.out _).mono ?_;rintro e w' ⟨rfl,hb⟩)|(go_at_call 129;refine(HP.out _ _).mono ?_;rintro e w' ⟨rfl,rfl⟩));go_ret;exact⟨by first|rfl|simp[kt],p7 hb⟩
   |false=>
    have e1:part l=l.take 1:=by unfold part;rw[if_neg h0,if_neg (by rw[hb1,hb2];simp)]
    rw[e1];by_cases hl:l=[]
    ·have hem:(bs l).toList.isEmpty=true:=by rw[fE,hl];rfl
     have HQ:Hid (bs (l.take 1)=⟨#[]⟩):=by rw[hl];rfl
     clear e1 h0 e0 Em w_ hl;go_enter func135,ntmps135;go_wp2_with fail;go_quiet(fail);go_wp2_with(first|(go_at_call 157;refine(En.out _).mono ?_;rintro e w' ⟨rfl,hb⟩)|(go_at_call 129;refine(HP.out _ _).mono ?_;rintro e w' ⟨rfl,rfl⟩));go_ret;exact⟨by rw[HQ.out];rfl,p7 hb⟩
    ·have hlen:1<=l.length:=by cases l;exact absurd rfl hl;simp
     have ht:=KS l hlen;have hne:((bs l).data.toList==[])=false:=by rw[oQ];cases l;exact absurd rfl hl;rfl
     have N7:(bs l).toList.isEmpty=false:=by rw[fE];cases l;exact absurd rfl hl;rfl
     clear e1 h0 e0 Em w_;go_enter func135,ntmps135;go_wp2_with fail;go_quiet(fail);go_wp2_with(first|(go_at_call 157;refine(En.out _).mono ?_;rintro e w' ⟨rfl,hb⟩)|(go_at_call 129;refine(HP.out _ _).mono ?_;rintro e w' ⟨rfl,rfl⟩));go_ret;exact⟨by first|rfl|simp[kt],p7 hb⟩
end
section
variable{w w' w1 w2:World}{F G:Nat->Prop}{R:Nat}{t l l':L}{wh n:Nat}
theorem qT(h:l<:+t)(m:Nat)(hm:m<=l.length)(w:World):(Instr.slice 9 (.string (bs t)) (some (.int .i64 (((t.length-l.length:Nat):Int)+m))) none none).run prog w=.ok (.string (bs (l.drop m))) w:=by
 have hs:l.drop m<:+t:=(List.drop_suffix _ _).trans h;have:=xY hs w;have hle:=h.length_le;have hlen:(l.drop m).length=l.length-m:=cm;rw[show (((t.length-l.length:Nat):Int)+m)=((t.length-(l.drop m).length:Nat):Int) by rw[hlen];omega];exact this
theorem qU(t l:L)(m:Nat)(h:l<:+t)(ht:t.length<=500)(hm:m<=l.length):IntKind.i64.wrap (((t.length-l.length:Nat):Int)+m)=((t.length-l.length:Nat):Int)+m/\
  IntKind.i64.wrap ((t.length:Int)-((pass m l).length:Int))=((t.length-(pass m l).length:Nat):Int):=by
 have h1:=h.length_le;have h2:=(jw m l).length_le;rw[aM,aM];omega
theorem JP(l:L)(w:World):Z4 131 #[.string (bs l),.string ⟨#[9,10,13,32]⟩] w (Z7 (.string (bs (skip l))) w):=by have:=strings_TrimLeft_blanks (bs l) w;rw[oQ]at this;exact this
theorem xy(m:Nat)(h:RD R t wh n w l)(hm:m<=l.length):Z4 84 #[Z8 R,.int .i64 m] w fun e w'=>e=.returned (.tuple #[])/\RD R t wh n w' (pass m l)/\Fr (fun k=>k=R) w w':=by
 have c0:w.cell? ⟨R,0,none⟩=some (.string (bs t)):=cell_of h.blk rfl;have c2:w.cell? ⟨R,2,none⟩=some (.int .i64 ((t.length-l.length:Nat):Int)):=cell_of h.blk rfl;have hr:=qT h.wZ m hm;obtain⟨n1,n2⟩:=qU t l m h.wZ (by have:=h.tw;have:=h.Cv;omega) hm;have hz1:=gS t;have hz2:=gS (pass m l);have HT:=a_ (JP (l.drop m));have H:=a_ h;clear h;have hp:skip (l.drop m)=pass m l:=rfl;rw[hp]at HT;generalize ((t.length-l.length:Nat):Int)=at_ at*
 have HC:Hid (∀W,Z5 w W->W.cell? ⟨R,0,none⟩=some (.string (bs t))):=fun W hW=>(ar (hW.block R H.out.lt)).trans c0;have hE:∀W,Z5 w W->W.cell? ⟨R,2,none⟩=some (.int .i64 at_)/\W.frozen? ⟨R,2,none⟩=false/\RD R t wh n (W.setCell ⟨R,2,none⟩ (.int .i64 ((t.length-(pass m l).length:Nat):Int))) (pass m l)/\Fr (fun k=>k=R) w (W.setCell ⟨R,2,none⟩ (.int .i64 ((t.length-(pass m l).length:Nat):Int))):=fun W hW=>by
  have hb:=(hW.block R H.out.lt).trans H.out.blk;exact⟨(ar (hW.block R H.out.lt)).trans c2,d_ hb,⟨ej hb _,(jw m l).trans H.out.wZ,H.out.tw,H.out.Cv,H.out.n8⟩,(Fr.below hW).set _ _ (fun _=>rfl)⟩
 have HE:=a_ hE;have d0:∀k,(w.drewN k).cell? ⟨R,0,none⟩=some (.string (bs t)):=fun _=>c0;clear hE hp;have HB0:Hid (∀k,Z5 w (w.drewN k)):=fun k=>⟨rfl,rfl,rfl,au _,fun _ _=>rfl⟩
 go_enter func84,ntmps84;go_wp2_with fail;go_quiet(fail);go_wp2_with fail;obtain⟨N8,Sn,rd',NJ⟩:=HE.out _ (HB0.out nq);go_region_held3 (fun W=>W.cell? ⟨R,0,none⟩=some (.string (bs t)))
  (first|exact c0|exact HC.out _ hb2|exact cell_of rd'.blk rfl)
  (first|(go_at_call 131;refine(HT.out _).mono ?_;rintro e w3 ⟨rfl,hb⟩;have hb2:Z5 w w3:=⟨hb.os,hb.tape,hb.output,hb.size,hb.block⟩;clear hb;obtain⟨N8,Sn,rd',NJ⟩:=HE.out _ hb2))
 all_goals
  go_end0
  exact⟨rfl,rd',NJ⟩
theorem xZ(l:L):(part l).length<=l.length:=by
 unfold part;split
 ·exact List.length_take_le' _ _
 ·split<;>exact List.length_take_le' _ _
theorem eqL(a b:L):((bs a).toList==(bs b).toList)=(a==b):=by rw[fE,fE]
theorem Eo{p:L}(h:RD R t wh n w l)(hp:part l=p):Z4 86 #[Z8 R,.string (bs p)] w fun e w'=>e=.returned (.bool true)/\RD R t wh n w' (pass p.length l)/\Fr (fun k=>k=R) w w':=by
 have HP:=a_ (jD h);have HA:Hid (∀W,Z5 w W->Z4 84 #[Z8 R,.int .i64 (p.length:Int)] W fun e w'=>e=.returned (.tuple #[])/\RD R t wh n w' (pass p.length l)/\Fr (fun k=>k=R) W w'):=fun W hW=>xy p.length (h.below hW) (by rw[<-hp];exact xZ l);rw[hp]at HP;have hne:((bs p).toList==(bs p).toList)=true:=by simp
 have hz:=gS p;clear h hp;go_enter func86,ntmps86;go_wp2_with(first|(go_at_call 135;refine HP.out.mono ?_;rintro e w1 ⟨rfl,hb⟩)|(go_at_call 84;refine(HA.out _ hb).mono ?_;rintro e w2 ⟨rfl,rd,fr⟩));go_ret;exact⟨rfl,rd,(Fr.below hb).same fr⟩
theorem JQ{p:L}(h:RD R t wh n w l)(hp:part l≠p):Z4 86 #[Z8 R,.string (bs p)] w (Z7 (.bool false) w):=by
 have HP:=a_ (jD h);have hne:((bs (part l)).toList==(bs p).toList)=false:=by rw[eqL];simpa using hp
 clear h hp;go_enter func86,ntmps86;go_wp2_with(first|(go_at_call 135;refine HP.out.mono ?_;rintro e w1 ⟨rfl,hb⟩));go_ret;exact⟨rfl,hb⟩
def oy(R:Nat)(t:L)(x:Nat×Nat)(w:World)(e:Ending)(w':World):Prop:=e=lY x.1 x.2 t/\Fr (fun k=>k=R) w w'
theorem oy.after{x:Nat×Nat}{e:Ending}(h:oy R t x w1 e w2)(fr:Fr (fun k=>k=R) w w1):oy R t x w e w2:=⟨h.1,fr.same h.2⟩
theorem N9{p:L}(h:RD R t wh n w l)(hp:part l=p):Z4 179 #[Z8 R,.string (bs p)] w fun e w'=>e=.returned (.tuple #[])/\RD R t wh n w' (pass p.length l)/\Fr (fun k=>k=R) w w':=by
 have HP:=a_ (Eo h hp);clear h hp;go_enter func179,ntmps179;go_wp2_with(first|(go_at_call 86;refine HP.out.mono ?_;rintro e w1 ⟨rfl,rd,fr⟩))
 go_end0
 exact⟨rfl,rd,fr⟩
theorem Sq{p:L}(h:RD R t wh n w l)(hp:part l≠p):Z4 179 #[Z8 R,.string (bs p)] w (oy R t (bad (eo t wh) l) w):=by
 have HP:=a_ (JQ h hp);have HA:Hid (∀W,Z5 w W->Z4 87 #[Z8 R] W (oy R t (bad (eo t wh) l) W)):=fun W hW=>tX (h.below hW);clear h hp;go_enter func179,ntmps179;go_wp2_with(first|(go_at_call 86;refine HP.out.mono ?_;rintro e w1 ⟨rfl,hb⟩)|(go_at_call 87;refine(HA.out _ hb).mono ?_;rintro e w2 ⟨rfl,fr⟩));exact⟨rfl,rfl,(Fr.below hb).same fr⟩
end
section
variable{w w' w1 w2:World}{F G:Nat->Prop}{R:Nat}{t l l':L}{wh n:Nat}
def Ends{α:Type}(R:Nat)(t:L)(wh n:Nat)(V:World->Value->α->Prop)(w:World)(x:Rs α)(e:Ending)(w':World):Prop:=match x with
 | .ok (a,l')=>∃v,e=.returned v/\V w' v a/\RD R t wh n w' l'/\Fr (fun k=>k=R) w w'
 | .error y=>oy R t y w e w'
def VS(_:World)(v:Value)(a:L):Prop:=v=.string (bs a)
def VB(_:World)(v:Value)(a:Bool):Prop:=v=.bool a
abbrev ptr(R:Nat):Value:=Z8 R
theorem x6(word:L)(h:RD R t wh n w l):Z4 198 #[ptr R,.string (bs word)] w (Z7 (.bool (calls word l)) w):=by
 have HP:=a_ (jD h);by_cases hp:part l=word
 ·have hm:word.length<=l.length:=by rw[<-hp];exact xZ l
  have e1:calls word l=Lib.hasPrefix (skip (l.drop word.length)) [40]:=by unfold calls;rw[hp];simp
  rw[e1];rw[hp]at HP;have hne:((bs word).toList==(bs word).toList)=true:=by simp
  have hz:=gS word;have hr:=qT h.wZ word.length hm;obtain⟨n1,n2⟩:=qU t l word.length h.wZ (by have:=h.tw;have:=h.Cv;omega) hm;have HT:=a_ (JP (l.drop word.length));have hc:∀W,Z5 w W->W.cell? ⟨R,0,none⟩=some (.string (bs t))/\W.cell? ⟨R,2,none⟩=some (.int .i64 ((t.length-l.length:Nat):Int)):=fun W hW=>⟨cell_of (h.below hW).blk rfl,cell_of (h.below hW).blk rfl⟩
  have HC:=a_ hc;have HH:Hid (∀W,Z4 129 #[.string (bs (skip (l.drop word.length))),.string ⟨#[40]⟩] W (Z6 (.bool (Lib.hasPrefix (skip (l.drop word.length)) [40])) W)):=fun W=>by have:=strings_HasPrefix (bs (skip (l.drop word.length))) ⟨#[40]⟩ W;rw[oQ]at this;exact this
  generalize ((t.length-l.length:Nat):Int)=at_ at*
  generalize skip (l.drop word.length)=sk at*
  clear h hp e1 hc n2;go_enter func198,ntmps198;go_wp2_with(first|(go_at_call 135;refine HP.out.mono ?_;rintro e w1 ⟨rfl,hb⟩;obtain⟨c0,c2⟩:=HC.out _ hb));go_region_held3 (fun W=>W.cell? ⟨R,0,none⟩=some (.string (bs t))/\W.cell? ⟨R,2,none⟩=some (.int .i64 at_))
   (first|exact⟨c0,c2⟩|exact HC.out _ hb2)
   (first|(go_at_call 131;refine(HT.out _).mono ?_;rintro e w3 ⟨rfl,hb3⟩;have hb2:Z5 w w3:=zM hb ⟨hb3.os,hb3.tape,hb3.output,hb3.size,hb3.block⟩;clear hb3))
  all_goals
   go_wp2_with(first|(go_at_call 129;refine(HH.out _).mono ?_;rintro e w4 ⟨rfl,rfl⟩));go_ret;exact⟨rfl,hb2⟩
 ·have e1:calls word l=false:=by unfold calls;simp[hp]
  rw[e1];have hne:((bs (part l)).toList==(bs word).toList)=false:=by rw[eqL];simpa using hp
  clear h hp e1;go_enter func198,ntmps198;go_wp2_with(first|(go_at_call 135;refine HP.out.mono ?_;rintro e w1 ⟨rfl,hb⟩));go_ret;exact⟨rfl,hb⟩
theorem KT(h:l<:+t)(m:Nat)(hm:m<=l.length)(w:World):(Instr.slice 9 (.string (bs t)) (some (.int .i64 ((t.length-l.length:Nat):Int))) (some (.int .i64 (((t.length-l.length:Nat):Int)+m))) none).run prog w=.ok (.string (bs (l.take m))) w:=by
 have hle:=h.length_le;have:=run_slice_string (P:=prog) w 9 (bs t) .i64 .i64 ((t.length-l.length:Nat):Int) (((t.length-l.length:Nat):Int)+m) underlying9 (by omega) (by omega) (by rw[gS];omega);have e:(((t.length-l.length:Nat):Int)+m).toNat-((t.length-l.length:Nat):Int).toNat=m:=by omega
 rw[this,kt,e,aH,El h]
theorem tY(h:RD R t wh n w l):Z4 199 #[ptr R] w (Ends R t wh n VS w (name (eo t wh) l)):=by
 have c0:w.cell? ⟨R,0,none⟩=some (.string (bs t)):=cell_of h.blk rfl;have c2:w.cell? ⟨R,2,none⟩=some (.int .i64 ((t.length-l.length:Nat):Int)):=cell_of h.blk rfl;have hr:=xY h.wZ;have w_:=UM l;have En:Hid (∀w:World,Z4 157 #[.string (bs l)] w (Z7 (.int .i64 (nm l)) w)):=fun w=>qP (bs l) w (by rw[gS];have:=h.le;have:=h.tw;have:=h.Cv;omega);have GM:Hid (∀(word:L) (W:World),Z5 w W->Z4 198 #[ptr R,.string (bs word)] W (Z7 (.bool (calls word l)) W)):=fun word W hW=>x6 word (h.below hW);have Sr:Hid (∀W,Z5 w W->Z4 87 #[ptr R] W (oy R t (bad (eo t wh) l) W)):=fun W hW=>tX (h.below hW);have Vy:Hid (∀W,Z5 w W->Z4 84 #[ptr R,.int .i64 (nm l)] W fun e w'=>e=.returned (.tuple #[])/\RD R t wh n w' (pass (nm l) l)/\Fr (fun k=>k=R) W w'):=fun W hW=>xy _ (h.below hW) w_;have HC:Hid (∀W,Z5 w W->W.cell? ⟨R,0,none⟩=some (.string (bs t))/\W.cell? ⟨R,2,none⟩=some (.int .i64 ((t.length-l.length:Nat):Int))):=fun W hW=>⟨cell_of (h.below hW).blk rfl,cell_of (h.below hW).blk rfl⟩
 have hs:=KT h.wZ (nm l) w_;have hwr:IntKind.i64.wrap (((t.length-l.length:Nat):Int)+nm l)=((t.length-l.length:Nat):Int)+nm l:=(qU t l (nm l) h.wZ (by have:=h.tw;have:=h.Cv;omega) w_).1;obtain⟨b0,hb0⟩:∃b,decide (nm l=0)=b:=⟨_,rfl⟩
 have h0:((nm l:Int)==0)=b0:=by rw[<-hb0,bD];simp
 obtain⟨b1,hb1⟩:∃b,calls wY l=b:=⟨_,rfl⟩
 obtain⟨b2,hb2⟩:∃b,calls xV l=b:=⟨_,rfl⟩
 have hname:name (eo t wh) l=if b0=true\/b1=true\/b2=true then .error (bad (eo t wh) l)else .ok (l.take (nm l),pass (nm l) l):=by unfold name;rw[hb1,hb2,<-hb0];simp only[aR]
 have hb1:calls [110,111,116] l=b1:=hb1;have hb2:calls [116,101,120,116] l=b2:=hb2;have GM:Hid (∀(word:L) (W:World),Z5 w W->Z4 198 #[ptr R,.string ⟨word.toArray⟩] W (Z7 (.bool (calls word l)) W)):=fun word W hW=>GM.out word W hW;rw[hname];clear h hname hb0 w_;generalize ((t.length-l.length:Nat):Int)=at_ at*
 generalize nm l=N at*
 cases b0 with
 |true=>
   simp only[aA,false_or,cq,true_or,or_true,if_true,aQ];go_enter func199,ntmps199;go_wp2_with fail;go_region_held3 (fun W=>W.cell? ⟨R,0,none⟩=some (.string (bs t))/\W.cell? ⟨R,2,none⟩=some (.int .i64 at_))
     (first|exact⟨c0,c2⟩|exact HC.out _ hb)
     (first|(go_at_call 157;refine(En.out _).mono ?_;rintro e w1 ⟨rfl,hb3⟩;have hb:Z5 w w1:=⟨hb3.os,hb3.tape,hb3.output,hb3.size,hb3.block⟩;clear hb3))
   all_goals
     go_wp2_with(first|(go_at_call 87;refine(Sr.out _ hb).mono ?_;rintro e w2 ⟨rfl,fr⟩));exact⟨rfl,rfl,(Fr.below hb).same fr⟩
 |false=>
  cases b1 with
  |true=>
   simp only[aA,false_or,cq,true_or,or_true,if_true,aQ];go_enter func199,ntmps199;go_wp2_with fail;go_region_held3 (fun W=>W.cell? ⟨R,0,none⟩=some (.string (bs t))/\W.cell? ⟨R,2,none⟩=some (.int .i64 at_))
     (first|exact⟨c0,c2⟩|exact HC.out _ hb)
     (first|(go_at_call 157;refine(En.out _).mono ?_;rintro e w1 ⟨rfl,hb3⟩;have hb:Z5 w w1:=⟨hb3.os,hb3.tape,hb3.output,hb3.size,hb3.block⟩;clear hb3))
   all_goals
     go_wp2_with(first|(go_at_call 198;refine(GM.out _ _ hb).mono ?_;rintro e w2 ⟨rfl,hb4⟩;have ma:=zM hb hb4)|(go_at_call 87;refine(Sr.out _ ma).mono ?_;rintro e w2 ⟨rfl,fr⟩));exact⟨rfl,rfl,(Fr.below ma).same fr⟩
  |false=>
   cases b2 with
   |true=>
    simp only[aA,false_or,cq,true_or,or_true,if_true,aQ];go_enter func199,ntmps199;go_wp2_with fail;go_region_held3 (fun W=>W.cell? ⟨R,0,none⟩=some (.string (bs t))/\W.cell? ⟨R,2,none⟩=some (.int .i64 at_))
      (first|exact⟨c0,c2⟩|exact HC.out _ hb)
      (first|(go_at_call 157;refine(En.out _).mono ?_;rintro e w1 ⟨rfl,hb3⟩;have hb:Z5 w w1:=⟨hb3.os,hb3.tape,hb3.output,hb3.size,hb3.block⟩;clear hb3))
    all_goals
      go_wp2_with(first|(go_at_call 198;first|(refine(GM.out _ _ ma).mono ?_;rintro e w3 ⟨rfl,XQ⟩;have NK:=zM ma XQ)|(refine(GM.out _ _ hb).mono ?_;rintro e w2 ⟨rfl,hb4⟩;have ma:=zM hb hb4))|(go_at_call 87;refine(Sr.out _ NK).mono ?_;rintro e w2 ⟨rfl,fr⟩));exact⟨rfl,rfl,(Fr.below NK).same fr⟩
   |false=>
    simp only[aA,false_or,cq,true_or,or_true,if_true,aQ];go_enter func199,ntmps199;go_wp2_with fail;go_region_held3 (fun W=>W.cell? ⟨R,0,none⟩=some (.string (bs t))/\W.cell? ⟨R,2,none⟩=some (.int .i64 at_))
      (first|exact⟨c0,c2⟩|exact HC.out _ hb)
      (first|(go_at_call 157;refine(En.out _).mono ?_;rintro e w1 ⟨rfl,hb3⟩;have hb:Z5 w w1:=⟨hb3.os,hb3.tape,hb3.output,hb3.size,hb3.block⟩;clear hb3))
    all_goals
      go_wp2_with(first|(go_at_call 198;first|(refine(GM.out _ _ ma).mono ?_;rintro e w3 ⟨rfl,XQ⟩;have NK:=zM ma XQ;obtain⟨d0,d2⟩:=HC.out _ NK)|(refine(GM.out _ _ hb).mono ?_;rintro e w2 ⟨rfl,hb4⟩;have ma:=zM hb hb4)));go_quiet(fail);have hb8:Z5 w (w3.drewN nq):=⟨NK.os,NK.tape,NK.output,NK.size,NK.block⟩
      go_wp2_with(go_at_call 84;refine(Vy.out _ hb8).mono ?_;rintro e w4 ⟨rfl,rd,fr⟩);go_ret;exact⟨_,rfl,rfl,rd,(Fr.below NK).same ⟨fr.os,fr.tape,fr.output,fr.size,fr.block⟩⟩
end
section
variable{w w' w1 w2:World}{F G:Nat->Prop}{R:Nat}{t l l':L}{wh n:Nat}
theorem sX(c:UInt8):∀l:L,Lib.indexByte l c=if l.contains c=true then((l.takeWhile (· !=c)).length:Int)else-1
 |[]=>by simp[Lib.indexByte]
 |b::l=>by
  have ih:=sX c l;unfold Lib.indexByte;by_cases hb:b=c
  ·subst hb;simp
  ·have h1:(b==c)=false:=by simpa using hb
   have h2:(b !=c)=true:=by simpa using hb
   have h3:(c==b)=false:=by simpa using fun e:c=b=>hb e.symm
   rw[h1];simp only[aA,aQ,dt,h3,Bool.false_or,List.takeWhile_cons,h2,if_true];rw[ih];split
   ·rw[if_neg (by simp<;>omega)];simp
   ·rw[if_pos (by simp)]
theorem Ep(l:L)(c:UInt8)(w:World):Z4 231 #[.string (bs l),.string (bs [c])] w (Z6 (.int .i64 (Lib.indexByte l c)) w):=by
 have HB:Hid (Z4 222 #[.string (bs l),.int .u8 (c.toNat:Int)] w (Z6 (.int .i64 (Lib.indexByte l c)) w)):=by
  apply a_;have:=stringslite_IndexByte (bs l) (c.toNat:Int) w;rw[oQ]at this;simpa using this
 have hz:(bs [c]).size=1:=rfl;have hg:(Instr.index 9 (.string (bs [c])) (.int .i64 0)).run prog w=.ok (.int .u8 (c.toNat:Int)) w:=by kernel_rfl
 obtain⟨b,hb⟩:∃b,((bs [c]).toList==(bs l).toList)=b:=⟨_,rfl⟩
 have hx:b=true->Lib.indexByte l c=0:=by
  intro e;rw[e,eqL]at hb;have:[c]=l:=by simpa using hb
  subst this;simp[Lib.indexByte]
 generalize Lib.indexByte l c=X at*
 generalize bs [c]=S at*
 cases b with
 |true=>
  have:=hx rfl;subst this;clear hx;go_enter func231,ntmps231;go_wp2_with(go_at_call 222;refine HB.out.mono ?_;rintro e w1 ⟨rfl,rfl⟩);go_ret;exact⟨rfl,rfl⟩
 |false=>
  clear hx;go_enter func231,ntmps231;go_wp2_with(go_at_call 222;refine HB.out.mono ?_;rintro e w1 ⟨rfl,rfl⟩);go_ret;exact⟨rfl,rfl⟩
theorem tZ{c:UInt8}{l:L}(h:l.contains c=true):(l.takeWhile (· !=c)).length<l.length:=by
 induction l with
 |nil=>simp at h
 |cons b l ih=>
  rw[List.takeWhile_cons];split
  ·next hb=>
   have:l.contains c=true:=by
    rw[dt]at h;rcases Bool.or_eq_true_iff.1 h with e|e
    ·simp at hb e;exact absurd e.symm hb
    ·exact e
   simp;exact ih this
  ·simp
theorem G5(c:UInt8)(l:L):l.take (l.takeWhile (· !=c)).length=l.takeWhile (· !=c):=by
 obtain⟨r,hr⟩:=List.takeWhile_prefix (· !=c) (l:=l)
 conv=>lhs;arg 2;rw[<-hr]
 simp
theorem N_{c:UInt8}(h:l.contains c=true)(hl:l.length<=500)(w:World):Z4 230 #[.string (bs l),.string (bs [c])] w fun e w'=>e=.returned (.tuple #[.string (bs (l.takeWhile (· !=c))),.string (bs (l.drop ((l.takeWhile (· !=c)).length+1))),.bool true])/\Z5 w w':=by
 have HI:=a_ (Ep l c w);rw[sX,if_pos h]at HI;have hc:=tZ h;have ht:=pY l (l.takeWhile (· !=c)).length (by omega);rw[G5]at ht;have hz:(bs [c]).size=1:=rfl;have hr:∀W,(Instr.slice 9 (.string (bs l)) (some (.int .i64 (((l.takeWhile (· !=c)).length:Int)+1))) none none).run prog W=.ok (.string (bs (l.drop ((l.takeWhile (· !=c)).length+1)))) W:=fun W=>by
  have:=qT (aO l) ((l.takeWhile (· !=c)).length+1) (by omega) W;simpa using this
 have hwr:IntKind.i64.wrap (((l.takeWhile (· !=c)).length:Int)+1)=((l.takeWhile (· !=c)).length:Int)+1:=by rw[aM];omega
 generalize l.takeWhile (· !=c)=T at*
 generalize l.drop (T.length+1)=D at*
 have Cw:decide ((T.length:Int)≥0)=true:=by simp
 have abA:(0:Int)<=(T.length:Int):=by omega
 generalize bs [c]=S at*
 generalize T.length=k at*
 have HB:Hid (∀k,Z5 w (w.drewN k)):=fun k=>⟨rfl,rfl,rfl,au _,fun _ _=>rfl⟩
 clear h hc;go_enter func230,ntmps230;go_wp2_with(go_at_call 231;refine HI.out.mono ?_;rintro e w1 ⟨rfl,hw⟩;have hw':=hw.symm;clear hw;subst hw');go_quiet(fail);go_wp2;refine aJ (v:=.tuple #[.string (bs T),.string (bs D),.bool true]) (by simp[results,results230,go_sem]) rfl ⟨rfl,HB.out _⟩
theorem Ss{c:UInt8}(h:l.contains c=false)(w:World):Z4 230 #[.string (bs l),.string (bs [c])] w (Z7 (.tuple #[.string (bs l),.string (bs []),.bool false]) w):=by
 have HI:=a_ (Ep l c w);rw[sX,if_neg (by rw[h];simp)]at HI;generalize bs [c]=S at*
 have HB:Hid (∀k,Z5 w (w.drewN k)):=fun k=>⟨rfl,rfl,rfl,au _,fun _ _=>rfl⟩
 have HB0:Hid (Z5 w w):=Below.refl _ _;clear h;go_enter func230,ntmps230;go_wp2_with(go_at_call 231;refine HI.out.mono ?_;rintro e w1 ⟨rfl,hw⟩;have hw':=hw.symm;clear hw;subst hw');first
  |(go_quiet(fail);go_wp2;refine aJ (v:=.tuple #[.string (bs l),.string (bs []),.bool false]) (by simp[results,results230,go_sem];rfl) rfl ⟨rfl,HB.out _⟩)
  |refine aJ (v:=.tuple #[.string (bs l),.string (bs []),.bool false]) (by simp[results,results230,go_sem];rfl) rfl ⟨rfl,HB0.out⟩
theorem JR{c:UInt8}(w:World)(x y:Value)(b:Bool)(h:Z4 230 #[.string (bs l),.string (bs [c])] w (Z7 (.tuple #[x,y,.bool b]) w)):
  Z4 229 #[.string (bs l),.string (bs [c])] w (Z7 (.tuple #[x,y,.bool b]) w):=by
 have HI:=a_ h;generalize bs [c]=S at*
 clear h;go_enter func229,ntmps229;go_wp2_with(go_at_call 230;refine HI.out.mono ?_;rintro e w1 ⟨rfl,hw⟩);refine aJ (v:=.tuple #[x,y,.bool b]) (by simp[results,results229,go_sem]) rfl ⟨rfl,hw⟩
end
section
variable{w w' w1 w2:World}{F G:Nat->Prop}{R:Nat}{t l l':L}{wh n:Nat}
theorem G6{c:UInt8}{l:L}(h:(l.drop 1).contains c=true):(jo c l).length+2<=l.length:=by
 have:=tZ h;rw[cm]at this;unfold jo;omega
theorem wm{c:UInt8}{b1:Bool}(h:RD R t wh n w l)(hp:part l=[c])(h1:((bs [c]).toList==[34])=b1)(h2:b1=false->((bs [c]).toList==[39])=true):Z4 223 #[ptr R] w (Ends R t wh n VS w (jI (eo t wh) c l)):=by
 have t_:1<=l.length:=by have:=xZ l;rw[hp]at this;simpa using this
 have HP:=a_ (jD h);rw[hp]at HP;have hr:∀W,(Instr.slice 9 (.string (bs t)) (some (.int .i64 (((t.length-l.length:Nat):Int)+1))) none none).run prog W=.ok (.string (bs (l.drop 1))) W:=qT h.wZ 1 t_;have n1:IntKind.i64.wrap (((t.length-l.length:Nat):Int)+1)=((t.length-l.length:Nat):Int)+1:=(qU t l 1 h.wZ (by have:=h.tw;have:=h.Cv;omega) t_).1;have HC:Hid (∀W,Z5 w W->W.cell? ⟨R,0,none⟩=some (.string (bs t))/\W.cell? ⟨R,2,none⟩=some (.int .i64 ((t.length-l.length:Nat):Int))):=fun W hW=>⟨cell_of (h.below hW).blk rfl,cell_of (h.below hW).blk rfl⟩
 have hlen:(l.drop 1).length<=500:=by have:=h.le;have:=h.tw;have:=h.Cv;rw[cm];omega
 by_cases hq:(l.drop 1).contains c=true
 ·have e1:jI (eo t wh) c l=.ok (jo c l,pass ((jo c l).length+2) l):=by unfold jI;rw[if_pos hq]
  rw[e1];have hqp:=G6 hq;have HK:Hid (∀W,Z4 229 #[.string (bs (l.drop 1)),.string (bs [c])] W fun e w'=>(∃y,e=.returned (.tuple #[.string (bs (jo c l)),y,.bool true]))/\Z5 W w'):=fun W=>(JR W _ _ _ (N_ hq hlen W)).mono fun e w' x=>⟨⟨_,x.1⟩,x.2⟩
  have Vy:Hid (∀W,Z5 w W->Z4 84 #[ptr R,.int .i64 (((jo c l).length:Int)+2)] W fun e w'=>e=.returned (.tuple #[])/\RD R t wh n w' (pass ((jo c l).length+2) l)/\Fr (fun k=>k=R) W w'):=fun W hW=>by have:=xy ((jo c l).length+2) (h.below hW) hqp;rw[dE]at this;exact this
  have hwr:IntKind.i64.wrap (((jo c l).length:Int)+2)=((jo c l).length:Int)+2:=by have:=h.le;have:=h.tw;have:=h.Cv;rw[aM];omega
  have hz:=gS (jo c l);generalize ((t.length-l.length:Nat):Int)=at_ at*
  generalize jo c l=T at*
  generalize hX:pass (T.length+2) l=X at*
  generalize bs [c]=S at*
  generalize l.drop 1=D at*
  clear h hp hq e1 hqp t_ hlen hX;cases b1 with
  |true=>
   clear h2;go_enter func223,ntmps223;go_wp2_with(go_at_call 135;refine HP.out.mono ?_;rintro e w1 ⟨rfl,hb⟩;obtain⟨c0,c2⟩:=HC.out _ hb);go_region_held3 (fun W=>W.cell? ⟨R,0,none⟩=some (.string (bs t))/\W.cell? ⟨R,2,none⟩=some (.int .i64 at_))
    (first|exact⟨c0,c2⟩|exact HC.out _ hb2)
    (first|(go_at_call 229;refine(HK.out _).mono ?_;rintro e w3 ⟨⟨y,rfl⟩,hb3⟩;have hb2:Z5 w w3:=zM hb ⟨hb3.os,hb3.tape,hb3.output,hb3.size,hb3.block⟩;clear hb3))
   all_goals
    go_wp2_with(go_at_call 84;refine(Vy.out _ hb2).mono ?_;rintro e w4 ⟨rfl,rd,fr⟩);go_ret;exact⟨_,rfl,rfl,rd,(Fr.below hb2).same fr⟩
  |false=>
   have h3:=h2 rfl;clear h2;go_enter func223,ntmps223;go_wp2_with(go_at_call 135;refine HP.out.mono ?_;rintro e w1 ⟨rfl,hb⟩;obtain⟨c0,c2⟩:=HC.out _ hb);go_region_held3 (fun W=>W.cell? ⟨R,0,none⟩=some (.string (bs t))/\W.cell? ⟨R,2,none⟩=some (.int .i64 at_))
    (first|exact⟨c0,c2⟩|exact HC.out _ hb2)
    (first|(go_at_call 229;refine(HK.out _).mono ?_;rintro e w3 ⟨⟨y,rfl⟩,hb3⟩;have hb2:Z5 w w3:=zM hb ⟨hb3.os,hb3.tape,hb3.output,hb3.size,hb3.block⟩;clear hb3))
   all_goals
    go_wp2_with(go_at_call 84;refine(Vy.out _ hb2).mono ?_;rintro e w4 ⟨rfl,rd,fr⟩);go_ret;exact⟨_,rfl,rfl,rd,(Fr.below hb2).same fr⟩
 ·have hq':(l.drop 1).contains c=false:=by simpa using hq
  have e1:jI (eo t wh) c l=.error (bad (eo t wh) []):=by unfold jI;rw[if_neg hq]
  rw[e1];have HK:Hid (∀W,Z4 229 #[.string (bs (l.drop 1)),.string (bs [c])] W fun e w'=>(∃x y,e=.returned (.tuple #[.string x,y,.bool false]))/\Z5 W w'):=fun W=>(JR W _ _ _ (Ss hq' W)).mono fun e w' x=>⟨⟨_,_,x.1⟩,x.2⟩
  have hE:∀W,Z5 w W->W.frozen? ⟨R,2,none⟩=false/\(∃W',W.setCell ⟨R,2,none⟩ (.int .i64 (t.length:Int))=W'/\Fr (fun k=>k=R) w W'/\Z4 87 #[ptr R] W' (oy R t (bad (eo t wh) []) W')):=fun W hW=>by
   have hb:=(h.below hW).blk;refine⟨d_ hb,_,rfl,(Fr.below hW).set _ _ (fun _=>rfl),tX (n:=n) ⟨?_,List.nil_suffix,h.tw,h.Cv,h.n8⟩⟩;rw[ej hb];simp
  have HE:=a_ hE;have hz:=gS t;generalize ((t.length-l.length:Nat):Int)=at_ at*
  generalize bs [c]=S at*
  generalize l.drop 1=D at*
  clear h hp hq e1 t_ hlen hE hq';cases b1 with
  |true=>
   clear h2;go_enter func223,ntmps223;go_wp2_with(go_at_call 135;refine HP.out.mono ?_;rintro e w1 ⟨rfl,hb⟩;obtain⟨c0,c2⟩:=HC.out _ hb);go_region_held3 (fun W=>W.cell? ⟨R,0,none⟩=some (.string (bs t))/\W.cell? ⟨R,2,none⟩=some (.int .i64 at_))
    (first|exact⟨c0,c2⟩|exact HC.out _ hb2)
    (first|(go_at_call 229;refine(HK.out _).mono ?_;rintro e w3 ⟨⟨x,y,rfl⟩,hb3⟩;have hb2:Z5 w w3:=zM hb ⟨hb3.os,hb3.tape,hb3.output,hb3.size,hb3.block⟩;clear hb3))
   all_goals
    obtain⟨d0,d2⟩:=HC.out _ hb2;obtain⟨f2,W',hW',NJ,UN⟩:=HE.out _ hb2;have Sr:=a_ UN;clear UN;go_wp2_with(first|(go_at_call 87;refine(Sr.out).mono ?_;rintro e w4 ⟨rfl,fr⟩));exact⟨rfl,rfl,NJ.same fr⟩
  |false=>
   have h3:=h2 rfl;clear h2;go_enter func223,ntmps223;go_wp2_with(go_at_call 135;refine HP.out.mono ?_;rintro e w1 ⟨rfl,hb⟩;obtain⟨c0,c2⟩:=HC.out _ hb);go_region_held3 (fun W=>W.cell? ⟨R,0,none⟩=some (.string (bs t))/\W.cell? ⟨R,2,none⟩=some (.int .i64 at_))
    (first|exact⟨c0,c2⟩|exact HC.out _ hb2)
    (first|(go_at_call 229;refine(HK.out _).mono ?_;rintro e w3 ⟨⟨x,y,rfl⟩,hb3⟩;have hb2:Z5 w w3:=zM hb ⟨hb3.os,hb3.tape,hb3.output,hb3.size,hb3.block⟩;clear hb3))
   all_goals
    obtain⟨d0,d2⟩:=HC.out _ hb2;obtain⟨f2,W',hW',NJ,UN⟩:=HE.out _ hb2;have Sr:=a_ UN;clear UN;go_wp2_with(first|(go_at_call 87;refine(Sr.out).mono ?_;rintro e w4 ⟨rfl,fr⟩));exact⟨rfl,rfl,NJ.same fr⟩
theorem AF(h:RD R t wh n w l):Z4 223 #[ptr R] w (Ends R t wh n VS w (quoted (eo t wh) l)):=by
 unfold quoted;by_cases h1:part l=[34]
 ·rw[if_pos h1];exact wm (b1:=true) h h1 (by rw[fE];rfl) (fun e=>by cases e)
 ·rw[if_neg h1];by_cases h2:part l=[39]
  ·rw[if_pos h2];exact wm (b1:=false) h h2 (by rw[fE];rfl) (fun e=>by rw[fE];rfl)
  ·rw[if_neg h2];have HP:=a_ (jD h);have HA:Hid (∀W,Z5 w W->Z4 87 #[ptr R] W (oy R t (bad (eo t wh) l) W)):=fun W hW=>tX (h.below hW);have e1:((bs (part l)).toList==[34])=false:=by rw[fE];simpa using h1
   have e2:((bs (part l)).toList==[39])=false:=by rw[fE];simpa using h2
   generalize bs (part l)=S at*
   clear h h1 h2;go_enter func223,ntmps223;go_wp2_with(first|(go_at_call 135;refine HP.out.mono ?_;rintro e w1 ⟨rfl,hb⟩)|(go_at_call 87;refine(HA.out _ hb).mono ?_;rintro e w2 ⟨rfl,fr⟩));exact⟨rfl,rfl,(Fr.below hb).same fr⟩
end
section
variable{w w' w1 w2:World}{F G:Nat->Prop}{R:Nat}{t l l':L}{wh n:Nat}
theorem ua(p:L)(h:RD R t wh n w l):Z4 179 #[ptr R,.string ⟨p.toArray⟩] w fun e w'=>match want (eo t wh) p l with
  | .ok l'=>e=.returned (.tuple #[])/\RD R t wh n w' l'/\Fr (fun k=>k=R) w w'
  | .error y=>oy R t y w e w':=by
 unfold want;by_cases hp:part l=p
 ·rw[if_pos hp];exact N9 h hp
 ·rw[if_neg hp];exact Sq h hp
theorem oT(p:L)(h:RD R t wh n w l)(b:Bool)(hb:decide (part l=p)=b):Z4 86 #[ptr R,.string ⟨p.toArray⟩] w fun e w'=>e=.returned (.bool b)/\RD R t wh n w' (if b=true then pass p.length l else l)/\Fr (fun k=>k=R) w w':=by
 cases b with
 |true=>exact Eo h (by simpa using hb)
 |false=>exact(JQ h (by simpa using hb)).mono fun e w' x=>⟨x.1,h.below x.2,Fr.below x.2⟩
theorem p8(h:RD R t wh n w l):Z4 133 #[ptr R] w (Ends R t wh n VB w (im (eo t wh) l)):=by
 obtain⟨b,hb⟩:∃b,decide (part l=[47,47])=b:=⟨_,rfl⟩
 have HT:=a_ (oT [47,47] h b hb);cases b with
 |true=>
  rw[im,if_pos (by simpa using hb)];clear h hb;go_enter func133,ntmps133;go_wp2_with(first|(go_at_call 86;refine HT.out.mono ?_;rintro e w1 ⟨rfl,rd,fr⟩));go_ret;exact⟨_,rfl,rfl,rd,fr⟩
 |false=>
  rw[im,if_neg (by simpa using hb)];have HW:Hid (∀W,RD R t wh n W l->Z4 179 #[ptr R,.string ⟨#[47]⟩] W fun e w'=>match want (eo t wh) [47] l with
   | .ok l'=>e=.returned (.tuple #[])/\RD R t wh n w' l'/\Fr (fun k=>k=R) W w'
   | .error y=>oy R t y W e w'):=fun W hW=>ua [47] hW
  clear h hb;cases hx:want (eo t wh) [47] l with
  |error y=>
   simp only[hx]at HW;simp only[oq];clear hx;go_enter func133,ntmps133;go_wp2_with(first|(go_at_call 86;refine HT.out.mono ?_;rintro e w1 ⟨rfl,rd,fr⟩)|(go_at_call 179;refine(HW.out _ rd).mono ?_;rintro e w2 ⟨rfl,lC⟩));exact⟨rfl,rfl,fr.same lC⟩
  |ok l1=>
   simp only[hx]at HW;simp only[oq];clear hx;go_enter func133,ntmps133;go_wp2_with(first|(go_at_call 86;refine HT.out.mono ?_;rintro e w1 ⟨rfl,rd,fr⟩)|(go_at_call 179;refine(HW.out _ rd).mono ?_;rintro e w2 ⟨rfl,rQ,lC⟩));go_ret;exact⟨_,rfl,rfl,rQ,fr.same lC⟩
theorem JS(h:RD R t wh n w l):Z4 225 #[ptr R] w (Ends R t wh n VS w (attr (eo t wh) l)):=by
 have HW:=a_ (ua [64] h);unfold attr;cases hx:want (eo t wh) [64] l with
 |error y=>
  simp only[hx]at HW;simp only[oq];clear hx h;go_enter func225,ntmps225;go_wp2_with(first|(go_at_call 179;refine(HW.out).mono ?_;rintro e w2 ⟨rfl,lC⟩));exact⟨rfl,rfl,lC⟩
 |ok l1=>
  simp only[hx]at HW;simp only[oq];have HN:Hid (∀W,RD R t wh n W l1->Z4 199 #[ptr R] W (Ends R t wh n VS W (name (eo t wh) l1))):=fun W hW=>tY hW;clear hx h;cases hy:name (eo t wh) l1 with
  |error y=>
   rw[hy]at HN;clear hy;go_enter func225,ntmps225;go_wp2_with(first|(go_at_call 179;refine(HW.out).mono ?_;rintro e w2 ⟨rfl,rd,fr⟩)|(go_at_call 199;refine(HN.out _ rd).mono ?_;rintro e w3 ⟨rfl,lC⟩));exact⟨rfl,rfl,fr.same lC⟩
  |ok z=>
   obtain⟨a,l2⟩:=z;rw[hy]at HN;clear hy;go_enter func225,ntmps225;go_wp2_with(first|(go_at_call 179;refine(HW.out).mono ?_;rintro e w2 ⟨rfl,rd,fr⟩)|(go_at_call 199;refine(HN.out _ rd).mono ?_;rintro e w3 ⟨v,rfl,rfl,rQ,lC⟩));go_ret;exact⟨_,rfl,rfl,rQ,fr.same lC⟩
end
section
variable{w w' w1 w2:World}{F G:Nat->Prop}{R:Nat}{t l l':L}{wh n:Nat}
theorem qV{p l1:L}(hx:want (eo t wh) p l=.ok l1)(h:RD R t wh n w l):Z4 179 #[ptr R,.string ⟨p.toArray⟩] w fun e w'=>e=.returned (.tuple #[])/\RD R t wh n w' l1/\Fr (fun k=>k=R) w w':=by have:=ua p h;simpa only[hx]using this
theorem qW{p:L}{y:Nat×Nat}(hx:want (eo t wh) p l=.error y)(h:RD R t wh n w l):Z4 179 #[ptr R,.string ⟨p.toArray⟩] w fun e w'=>e=lY y.1 y.2 t/\Fr (fun k=>k=R) w w':=by have:=ua p h;simp only[hx]at this;exact this
theorem Sv(h:RD R t wh n w l):Z4 175 #[ptr R] w (Ends R t wh n VS w (test (eo t wh) l)):=by
 obtain⟨b,hb⟩:∃b,decide (part l=[42])=b:=⟨_,rfl⟩
 have HT:=a_ (oT [42] h b hb);cases b with
 |true=>
  rw[test,if_pos (by simpa using hb)];clear h hb;go_enter func175,ntmps175;go_wp2_with(first|(go_at_call 86;refine(HT.out).mono ?_;rintro e w1 ⟨rfl,Cx,xb⟩));go_ret;exact⟨_,rfl,rfl,Cx,xb⟩
 |false=>
  rw[test,if_neg (by simpa using hb)];obtain⟨c,hc⟩:∃c,calls xV l=c:=⟨_,rfl⟩
  have HC:Hid (∀W,RD R t wh n W l->Z4 198 #[ptr R,.string ⟨#[116,101,120,116]⟩] W (Z7 (.bool c) W)):=fun W hW=>by have:=x6 xV hW;rw[hc]at this;exact this
  clear h hb;cases c with
  |false=>
   rw[if_neg (by rw[hc];simp)];have HN:Hid (∀W,RD R t wh n W l->Z4 199 #[ptr R] W (Ends R t wh n VS W (name (eo t wh) l))):=fun W hW=>tY hW;clear hc;cases hy:name (eo t wh) l with
   |error y=>
    rw[hy]at HN;clear hy;go_enter func175,ntmps175;go_wp2_with(first|(go_at_call 199;refine(HN.out _ rQ).mono ?_;rintro e w3 ⟨rfl,jC⟩)|(go_at_call 198;refine(HC.out _ Cx).mono ?_;rintro e w2 ⟨rfl,hb2⟩;have rQ:=Cx.below hb2;have lC:=xb.on hb2)|(go_at_call 86;refine(HT.out).mono ?_;rintro e w1 ⟨rfl,Cx,xb⟩));exact⟨rfl,rfl,lC.same jC⟩
   |ok z=>
    obtain⟨a,l2⟩:=z;rw[hy]at HN;clear hy;go_enter func175,ntmps175;go_wp2_with(first|(go_at_call 199;refine(HN.out _ rQ).mono ?_;rintro e w3 ⟨v,rfl,rfl,sY,jC⟩)|(go_at_call 198;refine(HC.out _ Cx).mono ?_;rintro e w2 ⟨rfl,hb2⟩;have rQ:=Cx.below hb2;have lC:=xb.on hb2)|(go_at_call 86;refine(HT.out).mono ?_;rintro e w1 ⟨rfl,Cx,xb⟩));go_ret;exact⟨_,rfl,rfl,sY,lC.same jC⟩
  |true=>
   rw[if_pos hc];clear hc;cases hx1:want (eo t wh) [116,101,120,116] l with
   |error y=>
    have W1:Hid (∀W,RD R t wh n W l->Z4 179 #[ptr R,.string ⟨#[116,101,120,116]⟩] W fun e w'=>e=lY y.1 y.2 t/\Fr (fun k=>k=R) W w'):=fun W hW=>qW hx1 hW;simp only[oq];clear hx1;go_enter func175,ntmps175;go_wp2_with(first|(go_at_call 179;refine(W1.out _ rQ).mono ?_;rintro e w9 ⟨rfl,Yz⟩)|(go_at_call 198;refine(HC.out _ Cx).mono ?_;rintro e w2 ⟨rfl,hb2⟩;have rQ:=Cx.below hb2;have lC:=xb.on hb2)|(go_at_call 86;refine(HT.out).mono ?_;rintro e w1 ⟨rfl,Cx,xb⟩));exact⟨rfl,rfl,lC.same Yz⟩
   |ok l1=>
    have W1:Hid (∀W,RD R t wh n W l->Z4 179 #[ptr R,.string ⟨#[116,101,120,116]⟩] W fun e w'=>e=.returned (.tuple #[])/\RD R t wh n w' l1/\Fr (fun k=>k=R) W w'):=fun W hW=>qV hx1 hW;simp only[oq];clear hx1;cases hx2:want (eo t wh) [40] l1 with
    |error y=>
     have W2:Hid (∀W,RD R t wh n W l1->Z4 179 #[ptr R,.string ⟨#[40]⟩] W fun e w'=>e=lY y.1 y.2 t/\Fr (fun k=>k=R) W w'):=fun W hW=>qW hx2 hW;simp only[oq];clear hx2;go_enter func175,ntmps175;go_wp2_with(first|(go_at_call 179;refine(W2.out _ sY).mono ?_;rintro e w9 ⟨rfl,Yz⟩)|(go_at_call 179;refine(W1.out _ rQ).mono ?_;rintro e w3 ⟨rfl,sY,jC⟩;have jC:=lC.same jC)|(go_at_call 198;refine(HC.out _ Cx).mono ?_;rintro e w2 ⟨rfl,hb2⟩;have rQ:=Cx.below hb2;have lC:=xb.on hb2)|(go_at_call 86;refine(HT.out).mono ?_;rintro e w1 ⟨rfl,Cx,xb⟩));exact⟨rfl,rfl,jC.same Yz⟩
    |ok l2=>
     have W2:Hid (∀W,RD R t wh n W l1->Z4 179 #[ptr R,.string ⟨#[40]⟩] W fun e w'=>e=.returned (.tuple #[])/\RD R t wh n w' l2/\Fr (fun k=>k=R) W w'):=fun W hW=>qV hx2 hW;simp only[oq];clear hx2;cases hx3:want (eo t wh) [41] l2 with
     |error y=>
      have W3:Hid (∀W,RD R t wh n W l2->Z4 179 #[ptr R,.string ⟨#[41]⟩] W fun e w'=>e=lY y.1 y.2 t/\Fr (fun k=>k=R) W w'):=fun W hW=>qW hx3 hW;simp only[oq];clear hx3;go_enter func175,ntmps175;go_wp2_with(first|(go_at_call 179;refine(W3.out _ ji).mono ?_;rintro e w9 ⟨rfl,Yz⟩)|(go_at_call 179;refine(W2.out _ sY).mono ?_;rintro e w4 ⟨rfl,ji,iD⟩;have iD:=jC.same iD)|(go_at_call 179;refine(W1.out _ rQ).mono ?_;rintro e w3 ⟨rfl,sY,jC⟩;have jC:=lC.same jC)|(go_at_call 198;refine(HC.out _ Cx).mono ?_;rintro e w2 ⟨rfl,hb2⟩;have rQ:=Cx.below hb2;have lC:=xb.on hb2)|(go_at_call 86;refine(HT.out).mono ?_;rintro e w1 ⟨rfl,Cx,xb⟩));exact⟨rfl,rfl,iD.same Yz⟩
     |ok l3=>
      have W3:Hid (∀W,RD R t wh n W l2->Z4 179 #[ptr R,.string ⟨#[41]⟩] W fun e w'=>e=.returned (.tuple #[])/\RD R t wh n w' l3/\Fr (fun k=>k=R) W w'):=fun W hW=>qV hx3 hW;simp only[oq];clear hx3;go_enter func175,ntmps175;go_wp2_with(first|(go_at_call 179;refine(W3.out _ ji).mono ?_;rintro e w5 ⟨rfl,rR,lD⟩;have lD:=iD.same lD)|(go_at_call 179;refine(W2.out _ sY).mono ?_;rintro e w4 ⟨rfl,ji,iD⟩;have iD:=jC.same iD)|(go_at_call 179;refine(W1.out _ rQ).mono ?_;rintro e w3 ⟨rfl,sY,jC⟩;have jC:=lC.same jC)|(go_at_call 198;refine(HC.out _ Cx).mono ?_;rintro e w2 ⟨rfl,hb2⟩;have rQ:=Cx.below hb2;have lC:=xb.on hb2)|(go_at_call 86;refine(HT.out).mono ?_;rintro e w1 ⟨rfl,Cx,xb⟩));go_ret;exact⟨_,rfl,rfl,rR,lD⟩
end
section
def gw.len:gw->Nat
 | .nil=>0
 | .cons _ _ _ m=>m.len+1
def gR.len:gR->Nat
 | .nil=>0
 | .cons _ _ _ _ _ m=>m.len+1
def sl(w:World)(A:Nat->Prop)(e:TypeId)(v:Value)(n:Nat)(k:Nat->Prop):Prop:=
 (n=0/\v=fo)\/∃g cap cur,v=Z9 g n cap/\A g/\w.heap[g]?=some (.cells cur e (0,0))/\n<=1000/\(0<n/\n<=cap)/\k g
mutual
def oz(w:World)(A:Nat->Prop)(tS tP:TypeId):Nat->Nat->gw->Prop
 |_,_,.nil=>True
 |g,i,.cons d t ps m=>w.cell? ⟨g,i*3,none⟩=some (.bool d)/\w.cell? ⟨g,i*3+1,none⟩=some (.string (bs t))/\
  (∃v,w.cell? ⟨g,i*3+2,none⟩=some v/\sl w A tP v ps.len fun g=>la w A tS tP g 0 ps)/\oz w A tS tP g (i+1) m
def la(w:World)(A:Nat->Prop)(tS tP:TypeId):Nat->Nat->gR->Prop
 |_,_,.nil=>True
 |g,i,.cons op ks ss at_ tx m=>w.cell? ⟨g,i*5,none⟩=some (.string (bs op))/\
  (∃v,w.cell? ⟨g,i*5+1,none⟩=some v/\sl w A tP v ks.len fun g=>la w A tS tP g 0 ks)/\
  (∃v,w.cell? ⟨g,i*5+2,none⟩=some v/\sl w A tS v ss.len fun g=>oz w A tS tP g 0 ss)/\
  w.cell? ⟨g,i*5+3,none⟩=some (.string (bs at_))/\w.cell? ⟨g,i*5+4,none⟩=some (.string (bs tx))/\la w A tS tP g (i+1) m
end
def p9(w:World)(A:Nat->Prop)(tS tP:TypeId)(v:Value)(s:gw):Prop:=sl w A tS v s.len fun g=>oz w A tS tP g 0 s
def pP(w:World)(A:Nat->Prop)(tS tP:TypeId)(v:Value)(s:gR):Prop:=sl w A tP v s.len fun g=>la w A tS tP g 0 s
variable{w w' w1 w2:World}{A A' B:Nat->Prop}{tS tP:TypeId}{v:Value}
theorem sl.shape{e:TypeId}{n:Nat}{k:Nat->Prop}(h:sl w A e v n k):∃ai cap,v=.slice ai n cap:=by
 rcases h with⟨rfl,rfl⟩|⟨g,cap,cur,rfl,_⟩
 ·exact⟨_,_,rfl⟩
 ·exact⟨_,_,rfl⟩
def Move(A A':Nat->Prop)(w w':World):Prop:=∀b,A b->b<w.heap.size->A' b/\w'.heap[b]?=w.heap[b]?
theorem sl.move(hm:Move A A' w w'){e:TypeId}{n:Nat}{k k':Nat->Prop}(h:sl w A e v n k)(hk:∀g,A g->g<w.heap.size->k g->k' g):sl w' A' e v n k':=by
 rcases h with h|⟨g,cap,cur,hv,ha,hg,hn,h0,hr⟩
 ·exact Or.inl h
 ·obtain⟨h1,h2⟩:=hm g ha (dS hg);exact Or.inr ⟨g,cap,cur,hv,h1,h2.trans hg,hn,h0,hk g ha (dS hg) hr⟩
mutual
theorem oz.move(hm:Move A A' w w'):∀(s:gw) (g i:Nat),w'.heap[g]?=w.heap[g]?->oz w A tS tP g i s->oz w' A' tS tP g i s
 | .nil,_,_,_,_=>by simp only[oz]
 | .cons d t ps m,g,i,hg,h=>by
  simp only[oz]at h ⊢;obtain⟨h0,h1,⟨v,h2,h3⟩,h4⟩:=h;have up:∀j u,w.cell? ⟨g,j,none⟩=some u->w'.cell? ⟨g,j,none⟩=some u:=fun j u hj=>(ar hg).trans hj;exact⟨up _ _ h0,up _ _ h1,⟨v,up _ _ h2,h3.move hm fun g' ha hl hr=>la.move hm ps g' 0 (hm g' ha hl).2 hr⟩,oz.move hm m g (i+1) hg h4⟩
theorem la.move(hm:Move A A' w w'):∀(s:gR) (g i:Nat),w'.heap[g]?=w.heap[g]?->la w A tS tP g i s->la w' A' tS tP g i s
 | .nil,_,_,_,_=>by simp only[la]
 | .cons op ks ss at_ tx m,g,i,hg,h=>by
  simp only[la]at h ⊢;obtain⟨h0,⟨v,h1,h2⟩,⟨u,h3,h4⟩,h5,h6,h7⟩:=h;have up:∀j u,w.cell? ⟨g,j,none⟩=some u->w'.cell? ⟨g,j,none⟩=some u:=fun j u hj=>(ar hg).trans hj;exact⟨up _ _ h0,⟨v,up _ _ h1,h2.move hm fun g' ha hl hr=>la.move hm ks g' 0 (hm g' ha hl).2 hr⟩,⟨u,up _ _ h3,h4.move hm fun g' ha hl hr=>oz.move hm ss g' 0 (hm g' ha hl).2 hr⟩,up _ _ h5,up _ _ h6,la.move hm m g (i+1) hg h7⟩
end
theorem p9.move(hm:Move A A' w w'){s:gw}(h:p9 w A tS tP v s):p9 w' A' tS tP v s:=sl.move hm h fun g ha hl hr=>oz.move hm s g 0 (hm g ha hl).2 hr
theorem pP.move(hm:Move A A' w w'){s:gR}(h:pP w A tS tP v s):pP w' A' tS tP v s:=sl.move hm h fun g ha hl hr=>la.move hm s g 0 (hm g ha hl).2 hr
def SV(A:Nat->Prop)(tS tP:TypeId)(w:World)(v:Value)(s:iV):Prop:=∃vp,v=.agg #[.bool s.deep,.string (bs s.test),vp]/\pP w A tS tP vp s.gm
def PV(A:Nat->Prop)(tS tP:TypeId)(w:World)(v:Value)(p:gB):Prop:=∃vk vs,v=.agg #[.string (bs p.op),vk,vs,.string (bs p.attr),.string (bs p.text)]/\pP w A tS tP vk p.kids/\p9 w A tS tP vs p.steps
def ie(l:List (iV×Value)):List Value:=l.flatMap fun x=>[.bool x.1.deep,.string (bs x.1.test),x.2]
def jq(l:List (gB×Value×Value)):List Value:=l.flatMap fun x=>[.string (bs x.1.op),x.2.1,x.2.2,.string (bs x.1.attr),.string (bs x.1.text)]
theorem x7(l:List (gB×Value×Value)):(jq l).length=l.length*5:=by
 induction l with
 |nil=>rfl
 |cons x l ih=>simp only[jq,cG,ax,aC,aI]at*;omega
theorem x8(l:List (iV×Value))(x:iV×Value):ie (l++[x])=ie l++[.bool x.1.deep,.string (bs x.1.test),x.2]:=by simp[ie]
theorem G7(l:List (gB×Value×Value))(x:gB×Value×Value):jq (l++[x])=jq l++[.string (bs x.1.op),x.2.1,x.2.2,.string (bs x.1.attr),.string (bs x.1.text)]:=by simp[jq]
structure GS(lo:Nat)(tS tP:TypeId)(w:World)(v:Value)(l:List iV):Prop where
 ex:∃xs:List (iV×Value),xs.map (·.1)=l/\w.ownsRow 0 tS 3 v l.length (ie xs)/\∀x∈xs,pP w (fun b=>lo<=b/\some b≠v.ownBlock) tS tP x.2 x.1.gm
 own:∀k,v.ownBlock=some k->lo<=k
structure GP(lo:Nat)(tS tP:TypeId)(w:World)(v:Value)(l:List gB):Prop where
 ex:∃xs:List (gB×Value×Value),xs.map (·.1)=l/\w.ownsRow 0 tP 5 v l.length (jq xs)/\∀x∈xs,pP w (fun b=>lo<=b/\some b≠v.ownBlock) tS tP x.2.1 x.1.kids/\p9 w (fun b=>lo<=b/\some b≠v.ownBlock) tS tP x.2.2 x.1.steps
 own:∀k,v.ownBlock=some k->lo<=k
variable{lo:Nat}{l:List iV}{lp:List gB}
theorem GS.zero:GS lo tS tP w fo []:=⟨⟨[],rfl,⟨rfl,Or.inl ⟨rfl,rfl⟩⟩,fun x hx=>by simp at hx⟩,fun k e=>by cases e⟩
theorem GP.zero:GP lo tS tP w fo []:=⟨⟨[],rfl,⟨rfl,Or.inl ⟨rfl,rfl⟩⟩,fun x hx=>by simp at hx⟩,fun k e=>by cases e⟩
theorem GS.fr{F:Nat->Prop}(h:GS lo tS tP w v l)(hf:Fr F w w')(hF:∀k,F k->k<w.heap.size->k<lo):GS lo tS tP w' v l:=by
 obtain⟨xs,h1,h2,h3⟩:=h.ex;have hb:∀b,lo<=b->b<w.heap.size->w'.heap[b]?=w.heap[b]?:=fun b h1 h2=>hf.block b h2 (fun x=>by have:=hF b x h2;omega);exact⟨⟨xs,h1,dY h2 fun k e=>hb k (h.own k e) (eu h2 e),fun x hx=>(h3 x hx).move fun b ha hl=>⟨ha,hb b ha.1 hl⟩⟩,h.own⟩
theorem GP.fr{F:Nat->Prop}(h:GP lo tS tP w v lp)(hf:Fr F w w')(hF:∀k,F k->k<w.heap.size->k<lo):GP lo tS tP w' v lp:=by
 obtain⟨xs,h1,h2,h3⟩:=h.ex;have hb:∀b,lo<=b->b<w.heap.size->w'.heap[b]?=w.heap[b]?:=fun b h1 h2=>hf.block b h2 (fun x=>by have:=hF b x h2;omega);exact⟨⟨xs,h1,dY h2 fun k e=>hb k (h.own k e) (eu h2 e),fun x hx=>⟨(h3 x hx).1.move fun b ha hl=>⟨ha,hb b ha.1 hl⟩,(h3 x hx).2.move fun b ha hl=>⟨ha,hb b ha.1 hl⟩⟩⟩,h.own⟩
theorem Cz(g:Nat):∀(ss:List iV) (i:Nat),(∀k s,ss[k]?=some s->w.cell? ⟨g,(i+k)*3,none⟩=some (.bool s.deep)/\w.cell? ⟨g,(i+k)*3+1,none⟩=some (.string (bs s.test))/\∃v,w.cell? ⟨g,(i+k)*3+2,none⟩=some v/\pP w A tS tP v s.gm)->oz w A tS tP g i (gw.of ss)
 |[],i,_=>by simp only[gw.of,oz]
 |s::ss,i,h=>by
  simp only[gw.of,oz];obtain⟨h0,h1,h2⟩:=h 0 s rfl;refine⟨h0,h1,h2,Cz g ss (i+1) fun k s hk=>?_⟩;have:=h (k+1) s (by simpa using hk);rwa[show i+(k+1)=i+1+k by omega]at this
theorem JT(g:Nat):∀(ss:List gB) (i:Nat),(∀k s,ss[k]?=some s->w.cell? ⟨g,(i+k)*5,none⟩=some (.string (bs s.op))/\(∃v,w.cell? ⟨g,(i+k)*5+1,none⟩=some v/\pP w A tS tP v s.kids)/\(∃v,w.cell? ⟨g,(i+k)*5+2,none⟩=some v/\p9 w A tS tP v s.steps)/\w.cell? ⟨g,(i+k)*5+3,none⟩=some (.string (bs s.attr))/\w.cell? ⟨g,(i+k)*5+4,none⟩=some (.string (bs s.text)))->la w A tS tP g i (gR.of ss)
 |[],i,_=>by simp only[gR.of,la]
 |s::ss,i,h=>by
  simp only[gR.of,la];obtain⟨h0,h1,h2,h3,h4⟩:=h 0 s rfl;refine⟨h0,h1,h2,h3,h4,JT g ss (i+1) fun k s hk=>?_⟩;have:=h (k+1) s (by simpa using hk);rwa[show i+(k+1)=i+1+k by omega]at this
theorem gw.vq:∀ss:List iV,(gw.of ss).len=ss.length
 |[]=>rfl
 |s::ss=>by simp only[gw.of,gw.len,gw.vq ss,aC]
theorem gR.vq:∀ss:List gB,(gR.of ss).len=ss.length
 |[]=>rfl
 |s::ss=>by simp only[gR.of,gR.len,gR.vq ss,aC]
theorem jV:∀(xs:List (iV×Value)) (k:Nat) (x:iV×Value) (c:Nat) (u:Value),xs[k]?=some x->[Value.bool x.1.deep,.string (bs x.1.test),x.2][c]?=some u->(ie xs)[k*3+c]?=some u
 |[],k,x,c,u,h,_=>by simp at h
 |y::xs,0,x,c,u,h,hc=>by
  obtain rfl:y=x:=by simpa using h
  have hl:c<3:=by have:=(List.getElem?_eq_some_iff.1 hc).1;simpa using this
  show (_++ie xs)[0*3+c]?=_;rw[aU (by simp;omega)];simpa using hc
 |y::xs,k+1,x,c,u,h,hc=>by
  have:=jV xs k x c u (by simpa using h) hc;show (_++ie xs)[(k+1)*3+c]?=_;rw[aW (by simp;omega)];rw[<-this];congr 1;simp;omega
theorem mz:∀(xs:List (gB×Value×Value)) (k:Nat) (x:gB×Value×Value) (c:Nat) (u:Value),xs[k]?=some x->[Value.string (bs x.1.op),x.2.1,x.2.2,.string (bs x.1.attr),.string (bs x.1.text)][c]?=some u->(jq xs)[k*5+c]?=some u
 |[],k,x,c,u,h,_=>by simp at h
 |y::xs,0,x,c,u,h,hc=>by
  obtain rfl:y=x:=by simpa using h
  have hl:c<5:=by have:=(List.getElem?_eq_some_iff.1 hc).1;simpa using this
  show (_++jq xs)[0*5+c]?=_;rw[aU (by simp;omega)];simpa using hc
 |y::xs,k+1,x,c,u,h,hc=>by
  have:=mz xs k x c u (by simpa using h) hc;show (_++jq xs)[(k+1)*5+c]?=_;rw[aW (by simp;omega)];rw[<-this];congr 1;simp;omega
theorem iG{e:TypeId}{sz g n cap j:Nat}{xs:List Value}{u:Value}(h:w.ownsRow 0 e sz (Z9 g n cap) n xs)(hj:xs[j]?=some u):w.cell? ⟨g,j,none⟩=some u:=by
 rcases h.2 with⟨e1,_⟩|⟨g',cap',cur,e1,h0,hg,h1,h2,h3,h4⟩
 ·cases e1
 ·cases e1;refine cell_of hg ?_;rw[<-h4,bS]at hj;split at hj
  ·simpa using hj
  ·cases hj
theorem vr{α β:Type}{f:α->β}{xs:List α}{l:List β}(h:xs.map f=l){k:Nat}{s:β}(hk:l[k]?=some s):∃x,xs[k]?=some x/\f x=s:=by
 rw[<-h,bX]at hk;cases hx:xs[k]? with
 |none=>rw[hx]at hk;cases hk
 |some x=>rw[hx]at hk;exact⟨x,rfl,by simpa using hk⟩
theorem mM{α:Type}{xs:List α}{k:Nat}{x:α}(h:xs[k]?=some x):x∈xs:=bP h
theorem GS.done(h:GS lo tS tP w v l)(hn:l.length<=1000)(hne:l=[]->v=fo):p9 w (fun b=>lo<=b) tS tP v (gw.of l):=by
 obtain⟨xs,h1,h2,h3⟩:=h.ex;unfold p9;rw[gw.vq];obtain⟨ai,cap,rfl⟩:=dU h2;rcases h2.2 with⟨e,e2⟩|⟨g,cap',cur,e1,h0,hg,hr⟩
 ·exact Or.inl ⟨e2,e⟩
 ·cases e1;by_cases hz:l.length=0
  ·have:=hne (List.length_eq_zero_iff.1 hz);cases this
  refine Or.inr ⟨g,cap,cur,rfl,h.own g rfl,hg,hn,by omega,Cz g l 0 fun k s hk=>?_⟩;obtain⟨x,hx,rfl⟩:=vr h1 hk;rw[aG];exact⟨iG h2 (jV xs k x 0 _ hx rfl),iG h2 (jV xs k x 1 _ hx rfl),x.2,iG h2 (jV xs k x 2 _ hx rfl),(h3 x (mM hx)).move fun b ha _=>⟨ha.1,rfl⟩⟩
theorem GP.done(h:GP lo tS tP w v lp)(hn:lp.length<=1000)(hne:lp=[]->v=fo):pP w (fun b=>lo<=b) tS tP v (gR.of lp):=by
 obtain⟨xs,h1,h2,h3⟩:=h.ex;unfold pP;rw[gR.vq];obtain⟨ai,cap,rfl⟩:=dU h2;rcases h2.2 with⟨e,e2⟩|⟨g,cap',cur,e1,h0,hg,hr⟩
 ·exact Or.inl ⟨e2,e⟩
 ·cases e1;by_cases hz:lp.length=0
  ·have:=hne (List.length_eq_zero_iff.1 hz);cases this
  refine Or.inr ⟨g,cap,cur,rfl,h.own g rfl,hg,hn,by omega,JT g lp 0 fun k s hk=>?_⟩;obtain⟨x,hx,rfl⟩:=vr h1 hk;rw[aG];exact⟨iG h2 (mz xs k x 0 _ hx rfl),⟨x.2.1,iG h2 (mz xs k x 1 _ hx rfl),(h3 x (mM hx)).1.move fun b ha _=>⟨ha.1,rfl⟩⟩,⟨x.2.2,iG h2 (mz xs k x 2 _ hx rfl),(h3 x (mM hx)).2.move fun b ha _=>⟨ha.1,rfl⟩⟩,iG h2 (mz xs k x 3 _ hx rfl),iG h2 (mz xs k x 4 _ hx rfl)⟩
theorem GS.push{v':Value}{s:iV}{vp:Value}(h:GS lo tS tP w1 v l){xs:List (iV×Value)}(h1:xs.map (·.1)=l)(h3:∀x∈xs,pP w1 (fun b=>lo<=b/\some b≠v.ownBlock) tS tP x.2 x.1.gm)(hs:pP w1 (fun b=>lo<=b/\some b≠v.ownBlock) tS tP vp s.gm)(px:lo<=w1.heap.size)
  (ho:w2.ownsRow 0 tS 3 v' (l.length+1) (ie xs++[.bool s.deep,.string (bs s.test),vp])) (hg:w1.grownBy w2 v.ownBlock) (hat:v'.ownBlock=v.ownBlock\/v'.ownBlock=some w1.heap.size):GS lo tS tP w2 v' (l++[s]):=by
 have hm:Move (fun b=>lo<=b/\some b≠v.ownBlock) (fun b=>lo<=b/\some b≠v'.ownBlock) w1 w2:=fun b ha hl=>⟨⟨ha.1,by rcases hat with e|e<;>rw[e];exact ha.2;intro x;cases x;omega⟩,hg.block b hl ha.2⟩
 refine⟨⟨xs++[(s,vp)],by rw[bF,h1];rfl,by rw[ax,x8];exact ho,fun x hx=>?_⟩,fun k e=>?_⟩
 ·rcases List.mem_append.1 hx with hx|hx
  ·exact(h3 x hx).move hm
  ·obtain rfl:x=(s,vp):=by simpa using hx
   exact hs.move hm
 ·rcases hat with x|x
  ·exact h.own k (x▸e)
  ·rw[x]at e;cases e;exact px
theorem GP.push{v':Value}{s:gB}{vk vs:Value}(h:GP lo tS tP w1 v lp){xs:List (gB×Value×Value)}(h1:xs.map (·.1)=lp)(h3:∀x∈xs,pP w1 (fun b=>lo<=b/\some b≠v.ownBlock) tS tP x.2.1 x.1.kids/\p9 w1 (fun b=>lo<=b/\some b≠v.ownBlock) tS tP x.2.2 x.1.steps)
  (hs:pP w1 (fun b=>lo<=b/\some b≠v.ownBlock) tS tP vk s.kids/\p9 w1 (fun b=>lo<=b/\some b≠v.ownBlock) tS tP vs s.steps) (px:lo<=w1.heap.size)
  (ho:w2.ownsRow 0 tP 5 v' (lp.length+1) (jq xs++[.string (bs s.op),vk,vs,.string (bs s.attr),.string (bs s.text)])) (hg:w1.grownBy w2 v.ownBlock) (hat:v'.ownBlock=v.ownBlock\/v'.ownBlock=some w1.heap.size):GP lo tS tP w2 v' (lp++[s]):=by
 have hm:Move (fun b=>lo<=b/\some b≠v.ownBlock) (fun b=>lo<=b/\some b≠v'.ownBlock) w1 w2:=fun b ha hl=>⟨⟨ha.1,by rcases hat with e|e<;>rw[e];exact ha.2;intro x;cases x;omega⟩,hg.block b hl ha.2⟩
 refine⟨⟨xs++[(s,vk,vs)],by rw[bF,h1];rfl,by rw[ax,G7];exact ho,fun x hx=>?_⟩,fun k e=>?_⟩
 ·rcases List.mem_append.1 hx with hx|hx
  ·exact⟨(h3 x hx).1.move hm,(h3 x hx).2.move hm⟩
  ·obtain rfl:x=(s,vk,vs):=by simpa using hx
   exact⟨hs.1.move hm,hs.2.move hm⟩
 ·rcases hat with x|x
  ·exact h.own k (x▸e)
  ·rw[x]at e;cases e;exact px
end
section
variable{w w' w1 w2:World}{F G:Nat->Prop}{R:Nat}{t l l':L}{wh n:Nat}
def Lays{α:Type}(R:Nat)(t:L)(wh n:Nat)(F:Nat->Prop)(X:World->α->Prop)(w:World)(x:Rs α)(e:Ending)(w':World):Prop:=match x with
 | .ok (a,l')=>e=.returned (.tuple #[])/\RD R t wh n w' l'/\X w' a/\Fr F w w'
 | .error y=>e=lY y.1 y.2 t/\Fr F w w'
theorem RD.nest(h:RD R t wh n w l)(m:Nat)(hm:m<=8):RD R t wh m (w.setCell ⟨R,3,none⟩ (.int .i64 m)) l:=
 ⟨ej h.blk _,h.wZ,h.tw,h.Cv,hm⟩
theorem wo{fv:Value}{o s:L}(h:RD R t wh 8 w l):Z4 176 #[ptr R,.string ⟨o.toArray⟩,.string ⟨s.toArray⟩,fv] w fun e w'=>e=lY 8 l.length t/\Fr (fun k=>k=R) w w':=by
 have c2:w.cell? ⟨R,2,none⟩=some (.int .i64 ((t.length-l.length:Nat):Int)):=cell_of h.blk rfl;have c3:w.cell? ⟨R,3,none⟩=some (.int .i64 8):=cell_of h.blk rfl;have HF:=a_ (Fr.refl (fun k=>k=R) w);clear h;go_enter func176,ntmps176;go_wp2;exact⟨rfl,rfl,HF.out⟩
theorem AG{k:FuncId}{Vz:Array Value}{o s:L}{X:World->gB->Prop}{f:L->Rs gB}(h:RD R t wh n w l)(hn:n<8)(hF:F R)
  (hen:∀args w,(callFunc k args).run prog w=.ok (.enter k args) w)
  (ou:∀W l1,want (eo t wh) o l=.ok l1->RD R t wh (n+1) W l1->Fr (fun k=>k=R) w W->Z4 k Vz W (Lays R t wh (n+1) F X w (f l1)))
  (hX:∀W W' p,X W p->Fr (fun k=>k=R) W W'->X W' p):
  Z4 176 #[ptr R,.string ⟨o.toArray⟩,.string ⟨s.toArray⟩,.func (.func k) #[] Vz] w (Lays R t wh n F X w (within (eo t wh) (some f) o s l)):=by
 have c3:w.cell? ⟨R,3,none⟩=some (.int .i64 n):=cell_of h.blk rfl;have h8:((n:Int)==8)=false:=by simp;omega
 have h8':(n==8)=false:=by simp;omega
 unfold within;cases hx:want (eo t wh) o l with
 |error y=>
  have HW:=a_ (qW hx h);have HF:=a_ hF;simp only[oq];clear hx h ou hX hF;go_enter func176,ntmps176;go_wp2_with(first|(go_at_call 179;refine(HW.out).mono ?_;rintro e w2 ⟨rfl,lC⟩));exact⟨rfl,rfl,lC.mono fun k e=>e▸HF.out⟩
 |ok l1=>
  have HW:=a_ (qV hx h);simp only[oq];have hr1:IntKind.i64.wrap ((n:Int)+1)=(n:Int)+1:=by rw[aM];omega
  have hr2:IntKind.i64.wrap (((n:Int)+1)-1)=(n:Int):=by rw[aM];omega
  have YA:Hid (∀W,RD R t wh n W l1->Fr (fun k=>k=R) w W->W.cell? ⟨R,3,none⟩=some (.int .i64 n)/\W.frozen? ⟨R,3,none⟩=false/\Z4 k Vz (W.setCell ⟨R,3,none⟩ (.int .i64 ((n:Int)+1))) (Lays R t wh (n+1) F X w (f l1))):=fun W hW fr=>
   ⟨cell_of hW.blk rfl,d_ hW.blk,ou _ l1 hx (hW.nest (n+1) (by omega)) (fr.set _ _ fun _=>rfl)⟩
  have HFX:Hid (F R/\∀W W' p,X W p->Fr (fun k=>k=R) W W'->X W' p):=⟨hF,hX⟩
  clear hx h ou hX hF;cases hy:f l1 with
  |error y=>
   rw[hy]at YA;simp only[thn];clear hy;go_enter func176,ntmps176;go_wp2_with(first|(go_at_call 179;refine(HW.out).mono ?_;rintro e w2 ⟨rfl,rQ,lC⟩;obtain⟨d3,f3,hc⟩:=YA.out _ rQ lC;have HC:=a_ hc;clear hc));refine HC.out.mono ?_;rintro e w3 ⟨rfl,jC⟩;go_wp2;exact⟨rfl,rfl,jC⟩
  |ok z=>
   obtain⟨p,l2⟩:=z;rw[hy]at YA;simp only[thn];clear hy;cases hv:want (eo t wh) s l2 with
   |error y=>
    have HV:Hid (∀W,RD R t wh (n+1) W l2->Z4 179 #[ptr R,.string ⟨s.toArray⟩] W fun e w'=>e=lY y.1 y.2 t/\Fr (fun k=>k=R) W w'):=fun W hW=>qW hv hW;clear hv;go_enter func176,ntmps176;go_wp2_with(first|(go_at_call 179;refine(HW.out).mono ?_;rintro e w2 ⟨rfl,rQ,lC⟩;obtain⟨d3,f3,hc⟩:=YA.out _ rQ lC;have HC:=a_ hc;clear hc));refine HC.out.mono ?_;rintro e w3 ⟨rfl,sY,hx3,jC⟩;go_wp2_with(first|(go_at_call 179;refine(HV.out _ sY).mono ?_;rintro e w4 ⟨rfl,iD⟩));exact⟨rfl,rfl,jC.same (iD.mono fun k e=>e▸HFX.out.1)⟩
   |ok l3=>
    have HV:Hid (∀W,RD R t wh (n+1) W l2->Z4 179 #[ptr R,.string ⟨s.toArray⟩] W fun e w'=>e=.returned (.tuple #[])/\RD R t wh (n+1) w' l3/\Fr (fun k=>k=R) W w'):=fun W hW=>qV hv hW;have HE:Hid (∀W,RD R t wh (n+1) W l3->W.cell? ⟨R,3,none⟩=some (.int .i64 ((n:Int)+1))/\W.frozen? ⟨R,3,none⟩=false/\RD R t wh n (W.setCell ⟨R,3,none⟩ (.int .i64 n)) l3):=fun W hW=>⟨cell_of hW.blk rfl,d_ hW.blk,hW.nest n (by omega)⟩
    clear hv;go_enter func176,ntmps176;go_wp2_with(first|(go_at_call 179;refine(HW.out).mono ?_;rintro e w2 ⟨rfl,rQ,lC⟩;obtain⟨d3,f3,hc⟩:=YA.out _ rQ lC;have HC:=a_ hc;clear hc));refine HC.out.mono ?_;rintro e w3 ⟨rfl,sY,hx3,jC⟩;have HX3:=a_ hx3;clear hx3;go_wp2_with(first|(go_at_call 179;refine(HV.out _ sY).mono ?_;rintro e w4 ⟨rfl,ji,iD⟩;obtain⟨d4,f4,rR⟩:=HE.out _ ji))
    go_end0
    have lD:Fr (fun k=>k=R) w3 (w4.setCell ⟨R,3,none⟩ (.int .i64 n)):=iD.set _ _ fun _=>rfl;exact⟨rfl,rR,HFX.out.2 _ _ _ HX3.out lD,jC.same (lD.mono fun k e=>e▸HFX.out.1)⟩
end
section
variable{w w' w1 w2:World}{F G:Nat->Prop}{R:Nat}{t l l':L}{wh n:Nat}
theorem Oa:(prog.info? 144).map (fun i=>(i.zero,i.size,i.bytes))=some (some (.agg #[.bool false,.string ⟨#[]⟩,.slice none 0 0]),3,48):=by kernel_rfl
theorem Ob:(prog.info? 146).map (fun i=>(i.zero,i.size,i.bytes))=some (some (.agg #[.string ⟨#[]⟩,.slice none 0 0,.slice none 0 0,.string ⟨#[]⟩,.string ⟨#[]⟩]),5,96):=by kernel_rfl
theorem eP{P:Program}{ops:Array Oper}{o:Oper}{a:Act}{w:World}{K:Act->World->Prop}{Q:Exit->Act->World->Prop}{E:Prop}
  (hg:o.guard=none) (s x:Operand) (t:TypeId) (hop:o.op=Op.call {callee:=Callee.builtin Builtin.append,args:=#[s,x],argTypes:=#[t,t]})
  (e:TypeId) (i:TypeInfo) (z:Value) (size bytes:Nat) (h1:P.underlying t=some (.slice e)) (h2:P.info? e=some i) (h3:i.zero=some z) (h4:i.size=size) (h5:i.bytes=bytes) (h6:z.cells.size=size) (h7:0<size)
  (v:Value) (n:Nat) (xs:List Value) (hs:a.eval s=v) (hown:w.ownsRow 0 e size v n xs)
  (ad:Addr) (m c:Nat) (news:List Value) (hx:a.eval x=.slice (some ad) m c) (hn:news.length=m*size) (hc:∀j u,news[j]?=some u->w.cell? (ad.add j)=some u) (h1c:∀u∈news,u.oneCell'=true)
  (b1:n+m<=maxLen) (b2:(n+m)*bytes<=140737488355328)
  (hK:∀v' w',w'.ownsRow 0 e size v' (n+m) (xs++news)->w.grownBy w' v.ownBlock->(v'.ownBlock=v.ownBlock\/v'.ownBlock=some w.heap.size)->K (a.put o.dst v') w'):
  if Region.wanted o (yielded ops a.tmps)=true then Oper.wp P o a w K Q else E:=by
 have hw:Region.wanted o (yielded ops a.tmps)=true:=by simp[Region.wanted,hg]
 rw[if_pos hw];obtain⟨v',w',hrun,r1,r2,_,r4⟩:=cY (P:=P) w 0 t o.type e i z size bytes h1 h2 h3 h4 h5 h6 h7 v n xs hown ad m c news hn hc h1c b1 b2 (aB _);unfold Oper.wp;simp[execOp,hop,resolve,invoke,builtin,hs,hx,hrun,Result.andThen];exact hK v' w' r1 r2 r4
def x9(R:Nat)(t:L)(wh n:Nat)(f:L->Rs gB):Prop:=∀W l,RD R t wh n W l->Z4 178 #[ptr R] W (Ends R t wh n (PV (fun b=>W.heap.size<=b) 144 146) W (f l))
theorem p_{P:Program}{ops:Array Oper}{o:Oper}{a:Act}{w:World}{K:Act->World->Prop}{Q:Exit->Act->World->Prop}{E:Prop}(hg:o.guard=none)(ty:TypeId)(x y:Operand)(ho:o.op=.store ty x y)
  (b off:Nat) (cells:Array Value) (hx:a.eval x=.pointer (some ⟨b,off,none⟩)) (hy:a.eval y=.agg cells) (ht:w.there b off cells.size) (hi:(P.info? ty).map (·.size)=some cells.size) (h1:cells.all (·.oneCell')=true)
  (h:K (a.put o.dst undef) (w.setCells b off cells.toList)):if Region.wanted o (yielded ops a.tmps)=true then Oper.wp P o a w K Q else E:=by
 have hw:Region.wanted o (yielded ops a.tmps)=true:=by simp[Region.wanted,hg]
 rw[if_pos hw];exact wp_store_mid ty x y ho b off cells hx hy ht hi h1 h
theorem ub{g:Nat}:∀(vs:List Value) (o:Nat) (w:World) {cur:Array Value} {t:TypeId},w.heap[g]?=some (.cells cur t (0,0))->∃cur',(w.setCells g o vs).heap[g]?=some (.cells cur' t (0,0))/\cur'.size=cur.size/\∀j,cur'[j]?=if o<=j/\j<o+vs.length/\j<cur.size then vs[j-o]? else cur[j]?
 |[],o,w,cur,t,h=>⟨cur,h,rfl,fun j=>by rw[if_neg (by simp;omega)]⟩
 |v::vs,o,w,cur,t,h=>by
  have h1:=ej (i:=o) h v;obtain⟨cur',h2,h3,h4⟩:=ub vs (o+1) _ h1;refine⟨cur',h2,by rw[h3];simp,fun j=>?_⟩;rw[h4 j];simp only[Array.size_setIfInBounds,aC];by_cases hj:j=o
  ·subst hj;rw[if_neg (by omega)];by_cases hz:j<cur.size
   ·rw[if_pos (by omega)];simp[hz]
   ·rw[if_neg (by omega)];simp[hz]
  ·by_cases hc:o+1<=j/\j<o+1+vs.length/\j<cur.size
   ·rw[if_pos hc,if_pos (by omega),show j-o=(j-(o+1))+1 by omega,List.getElem?_cons_succ]
   ·rw[if_neg hc,if_neg (by omega),cZ (by omega)]
theorem fq{g b:Nat}(hb:b≠g):∀(vs:List Value) (o:Nat) (w:World),(w.setCells g o vs).heap[b]?=w.heap[b]?
 |[],_,_=>rfl
 |v::vs,o,w=>(fq hb vs (o+1) _).trans (ak _ _ _ _ hb)
theorem lF{g:Nat}:∀(vs:List Value) (o:Nat) (w:World),(w.setCells g o vs).os=w.os/\(w.setCells g o vs).tape=w.tape/\(w.setCells g o vs).output=w.output/\(w.setCells g o vs).heap.size=w.heap.size
 |[],_,_=>⟨rfl,rfl,rfl,rfl⟩
 |v::vs,o,w=>by
  obtain⟨h1,h2,h3,h4⟩:=lF vs (o+1) (w.setCell ⟨g,o,none⟩ v);exact⟨h1,h2,h3,h4.trans (by simp[World.setCell])⟩
theorem x_{e:TypeId}{sz g k cap:Nat}{xs zs ys:List Value}(h:w.ownsRow 0 e sz (Z9 g (k+1) cap) (k+1) (xs++zs))(hx:xs.length=k*sz)(hz:zs.length=sz)(hy:ys.length=sz):
  (w.setCells g (k*sz) ys).ownsRow 0 e sz (Z9 g (k+1) cap) (k+1) (xs++ys)/\w.there g (k*sz) sz:=by
 have hl:=h.1;rcases h.2 with⟨e1,_⟩|⟨g',cap',cur,e1,h0,hg,h1,h2,h3,h4⟩
 ·cases e1
 ·cases e1;have hk:(k+1)*sz=k*sz+sz:=by rw[Nat.add_mul];omega
  have hsz:(k+1)*sz<=cur.size:=by
   have:=aL List.length h4;rw[bJ,ax]at this;simp only[Array.length_toList]at this;omega
  constructor
  ·obtain⟨cur',q1,q2,q3⟩:=ub ys (k*sz) w hg;refine⟨by rw[ax]at hl ⊢;omega,Or.inr ⟨g,cap,cur',rfl,h0,q1,h1,h2,by rw[q2];exact h3,?_⟩⟩;apply List.ext_getElem?;intro j;rw[bS];by_cases hj:j<(k+1)*sz
   ·rw[if_pos hj,dG,q3 j];by_cases RQ:k*sz<=j
    ·rw[if_pos ⟨RQ,by omega,by omega⟩,aW (by omega),hx]
    ·rw[if_neg (by omega),aU (by omega)];have:=aL (·[j]?) h4;simp only[bS,if_pos hj,dG]at this;rw[this,aU (by omega)]
   ·rw[if_neg hj,cM (by rw[ax];omega)]
  ·intro j hj;refine⟨?_,d_ hg⟩;have:k*sz+j<cur.size:=by omega
   rw[cell_of hg (v:=cur[k*sz+j]) (by simp[this])];rfl
theorem ya{A:Nat->Prop}{vk vs:Value}{p:gB}(h:pP w A 144 146 vk p.kids/\p9 w A 144 146 vs p.steps)(o:Obj):pP (w.alloc o) A 144 146 vk p.kids/\p9 (w.alloc o) A 144 146 vs p.steps:=by
 have hm:Move A A w (w.alloc o):=fun b ha hl=>⟨ha,ay _ _ _ hl⟩
 exact⟨h.1.move hm,h.2.move hm⟩
def AH(lo Bs Br R:Nat)(d:Bool)(te:L)(ps:List gB)(w':World)(p:gB):Prop:=∃pi pc,w'.heap[Bs]?=some (.cells #[.bool d,.string (bs te),.slice pi (ps.length+1) pc] 144 (0,0))/\GP lo 144 146 w' (.slice pi (ps.length+1) pc) (ps++[p])/\w'.heap[Br]?=some (.cells #[ptr R] 170 (0,0))
theorem Oc{Bs Br lo pc:Nat}{pi:Option Addr}{d:Bool}{te:L}{ps:List gB}{f:L->Rs gB}{y:Nat×Nat}(hc:x9 R t wh n f)(h:RD R t wh n w l)(hs:w.heap[Bs]?=some (.cells #[.bool d,.string (bs te),.slice pi ps.length pc] 144 (0,0)))(hr:w.heap[Br]?=some (.cells #[ptr R] 170 (0,0)))(hg:GP lo 144 146 w (.slice pi ps.length pc) ps)(hR:R<lo)(hB:Bs<lo)(Od:Br<lo)(Oe:R≠Bs)(NL:R≠Br)(VA:Bs≠Br)(px:lo<=w.heap.size)(hn:ps.length<=500)(hf:f l=.error y)(hF:∀k,k=R->F k):Z4 177 #[ptr Bs,ptr Br] w fun e w'=>e=lY y.1 y.2 t/\Fr F w w':=by
 have c0:w.cell? ⟨Br,0,none⟩=some (ptr R):=cell_of hr rfl;have Sw:∀k,(Value.slice pi ps.length pc).ownBlock=some k->k<w.heap.size:=fun k e=>by obtain⟨xs,_,h2,_⟩:=hg.ex;exact eu h2 e
 have HK:Hid (∀W,Fr (fun k=>k=R) w W->W.cell? ⟨Br,0,none⟩=some (ptr R)/\W.cell? ⟨Bs,2,none⟩=some (.slice pi ps.length pc)/\W.heap[Bs]?=some (.cells #[.bool d,.string (bs te),.slice pi ps.length pc] 144 (0,0))/\W.heap[Br]?=some (.cells #[ptr R] 170 (0,0))/\GP lo 144 146 W (.slice pi ps.length pc) ps):=fun W hW=>by
  have h1:=(hW.block Br (dS hr) (fun e=>NL e.symm)).trans hr;have h2:=(hW.block Bs (dS hs) (fun e=>Oe e.symm)).trans hs;exact⟨cell_of h1 rfl,cell_of h2 rfl,h2,h1,hg.fr hW fun k e _=>by omega⟩
 have HC:Hid (∀W,Fr (fun _=>False) w W->Z4 178 #[ptr R] W (Ends R t wh n (PV (fun b=>W.heap.size<=b) 144 146) W (.error y))):=fun W hW=>by have:=hc W l (h.fr hW (fun x=>x));rw[hf]at this;exact this
 have HF:=a_ hF;have YB:Fr (fun _=>False) w w.drew:=(Fr.refl _ w).drewN 1;clear hc h hs hr hg hf Sw hF;go_enter func177,ntmps177;go_wp2_with fail;refine wp_region_held_drew (S:=(fun W=>W.cell? ⟨Br,0,none⟩=some (ptr R))) (by kernel_rfl) c0 (fun hHeld=>?_);generalize w.drew=W0 at*
 have fr:=YB;clear YB;refine wpAnyH_take (i:=0) (v:=?_) rfl (by kernel_rfl) (by kernel_rfl) (by kernel_rfl) (fun _ _ _ h=>h) (Or.inl ⟨by rfl,?_⟩) (by assumption) ?_
 rotate_left
 ·(intro w hSw;(try dsimp only at hSw);go_simp;(try with_reducible rfl))
 (try simp only[Act.put,ae,af,aj])
 refine wpAnyH_take (i:=2) (v:=?_) rfl (by kernel_rfl) (by kernel_rfl) (by kernel_rfl) (fun _ _ _ h=>h) (Or.inl ⟨by rfl,?_⟩) (by assumption) ?_
 rotate_left
 ·(intro w hSw;(try dsimp only at hSw);go_simp;(try with_reducible rfl))
 (try simp only[Act.put,ae,af,aj])
 refine wpAnyH_ready (rs:=[1,3,5]) (by kernel_rfl) (by simp) ?_;refine AllReadyH.cons rfl (fun K hK=>?_) (AllReadyH.cons rfl (fun K hK=>?_) (AllReadyH.cons rfl (fun K hK=>?_) AllReadyH.nil))
 ·have ud:=(HK.out _ (fr.mono fun _ x=>x.elim)).2.1
  go_simp
  refine hK.out _ _ hHeld (fun _=>?_);clear hK K ud
  (try simp only[Act.put,ae,af,aj])
  refine wpAnyH_take (i:=4) (v:=?_) rfl (by kernel_rfl) (by kernel_rfl) (by kernel_rfl) (fun _ _ _ h=>h) (Or.inl ⟨by rfl,?_⟩) (by assumption) ?_
  rotate_left
  ·(intro w hSw;(try dsimp only at hSw);go_simp;(try with_reducible rfl))
  (try simp only[Act.put,ae,af,aj])
  refine wpAnyH_ready (rs:=[3,5]) (by kernel_rfl) (by simp) ?_;refine AllReadyH.cons rfl (fun K hK=>?_) (AllReadyH.cons rfl (fun K hK=>?_) AllReadyH.nil)
  ·have hcc:=HC.out _ fr
   go_simp
   refine hcc.mono ?_;rintro e W3 ⟨rfl,jC⟩;exact⟨rfl,rfl,((fr.mono (fun _ x=>x.elim)).same jC).mono HF.out⟩
  ·go_simp
   refine hK.out _ _ (dX _ hHeld) (fun hHeld=>?_);clear hK K
   (try simp only[Act.put,ae,af,aj])
   have sj:=dT W0 (.cells #[.string ⟨#[]⟩,.slice none 0 0,.slice none 0 0,.string ⟨#[]⟩,.string ⟨#[]⟩] 146);have w_:lo<=W0.heap.size:=aw px fr.size;have fr:=fr.alloc (.cells #[.string ⟨#[]⟩,.slice none 0 0,.slice none 0 0,.string ⟨#[]⟩,.string ⟨#[]⟩] 146);generalize UO:W0.heap.size=nb at*
   generalize W0.alloc (.cells #[.string ⟨#[]⟩,.slice none 0 0,.slice none 0 0,.string ⟨#[]⟩,.string ⟨#[]⟩] 146)=W5 at*
   refine wpAnyH_ready (rs:=[3]) (by kernel_rfl) (by simp) ?_;refine AllReadyH.cons rfl (fun K hK=>?_) AllReadyH.nil
   ·have hcc:=HC.out _ fr
    go_simp
    refine hcc.mono ?_;rintro e W3 ⟨rfl,jC⟩;exact⟨rfl,rfl,((fr.mono (fun _ x=>x.elim)).same jC).mono HF.out⟩
 ·have hcc:=HC.out _ fr
  go_simp
  refine hcc.mono ?_;rintro e W3 ⟨rfl,jC⟩;exact⟨rfl,rfl,((fr.mono (fun _ x=>x.elim)).same jC).mono HF.out⟩
 ·go_simp
  refine hK.out _ _ (dX _ hHeld) (fun hHeld=>?_);clear hK K
  (try simp only[Act.put,ae,af,aj])
  have sj:=dT W0 (.cells #[.string ⟨#[]⟩,.slice none 0 0,.slice none 0 0,.string ⟨#[]⟩,.string ⟨#[]⟩] 146);have w_:lo<=W0.heap.size:=aw px fr.size;have fr:=fr.alloc (.cells #[.string ⟨#[]⟩,.slice none 0 0,.slice none 0 0,.string ⟨#[]⟩,.string ⟨#[]⟩] 146);generalize UO:W0.heap.size=nb at*
  generalize W0.alloc (.cells #[.string ⟨#[]⟩,.slice none 0 0,.slice none 0 0,.string ⟨#[]⟩,.string ⟨#[]⟩] 146)=W5 at*
  refine wpAnyH_ready (rs:=[1,3]) (by kernel_rfl) (by simp) ?_;refine AllReadyH.cons rfl (fun K hK=>?_) (AllReadyH.cons rfl (fun K hK=>?_) AllReadyH.nil)
  ·have ud:=(HK.out _ (fr.mono fun _ x=>x.elim)).2.1
   go_simp
   refine hK.out _ _ hHeld (fun _=>?_);clear hK K ud
   (try simp only[Act.put,ae,af,aj])
   refine wpAnyH_take (i:=4) (v:=?_) rfl (by kernel_rfl) (by kernel_rfl) (by kernel_rfl) (fun _ _ _ h=>h) (Or.inl ⟨by rfl,?_⟩) (by assumption) ?_
   rotate_left
   ·(intro w hSw;(try dsimp only at hSw);go_simp;(try with_reducible rfl))
   (try simp only[Act.put,ae,af,aj])
   refine wpAnyH_ready (rs:=[3]) (by kernel_rfl) (by simp) ?_;refine AllReadyH.cons rfl (fun K hK=>?_) AllReadyH.nil
   ·have hcc:=HC.out _ fr
    go_simp
    refine hcc.mono ?_;rintro e W3 ⟨rfl,jC⟩;exact⟨rfl,rfl,((fr.mono (fun _ x=>x.elim)).same jC).mono HF.out⟩
  ·have hcc:=HC.out _ fr
   go_simp
   refine hcc.mono ?_;rintro e W3 ⟨rfl,jC⟩;exact⟨rfl,rfl,((fr.mono (fun _ x=>x.elim)).same jC).mono HF.out⟩
end
end Go.Proofs.YtclgfepngpeifaaGreatDoor
