import Derived.Test.YtclgfepngpeifaaGreatDoorXA
import Derived.Lib.SlTrimSet
import Derived.OneCell
import Derived.OwnWalk
import Derived.Maps.AppendAt
import Derived.Maps.OwnSet
import Derived.Deep.RegionLaw
import Derived.Deep.RegionHeld3
import Derived.Deep.QuietTactic
import Derived.BigRegion
import Derived.BigQuiet
import Derived.WalkLawsBesides
import Derived.Defers
import Derived.Recover
import Derived.Test.YtclgfepngpeifaaGreatDoorXaa
set_option linter.unusedVariables false
set_option linter.unusedSimpArgs false
set_option maxHeartbeats 32000000
set_option maxRecDepth 100000
namespace Go.Proofs.YtclgfepngpeifaaGreatDoor
open Go Tryz
section
abbrev L:=List UInt8
abbrev Rs(α:Type):=Except (Nat×Nat) (α×L)
def bs(l:L):ByteArray:=⟨l.toArray⟩
mutual
inductive gh where
 |nil
 |cons (deep:Bool) (test:L) (gu:gR) (more:gh)
inductive gR where
 |nil
 |cons (op:L) (kids:gR) (steps:gh) (attr text:L) (more:gR)
end
structure iE where
 deep:Bool
 test:L
 gu:gR
structure gz where
 op:L
 kids:gR
 steps:gh
 attr:L
 text:L
def gh.of:List iE->gh
 |[]=> .nil
 |s::l=> .cons s.deep s.test s.gu (gh.of l)
def gR.of:List gz->gR
 |[]=> .nil
 |p::l=> .cons p.op p.kids p.steps p.attr p.text (gR.of l)
def skip(l:L):L:=Lib.trimLeftS l [9,10,13,32]
def nm(l:L):Nat:=Ch.name (bs l)
def part(l:L):L:=if 0<nm l then l.take (nm l)else if Lib.hasPrefix l [47,47]=true\/Lib.hasPrefix l [33,61]=true then l.take 2 else l.take 1
def pass(n:Nat)(l:L):L:=skip (l.drop n)
def bad(cut:Bool)(l:L):Nat×Nat:=(if l=[]/\cut=true then 2 else 3,l.length)
def want(cut:Bool)(p l:L):Except (Nat×Nat) L:=if part l=p then .ok (pass p.length l)else .error (bad cut l)
def calls(word l:L):Bool:=part l==word&&Lib.hasPrefix (skip (l.drop word.length)) [40]
abbrev xZ:L:=[110,111,116]
abbrev AF:L:=[116,101,120,116]
def name(cut:Bool)(l:L):Rs L:=if nm l=0\/calls xZ l=true\/calls AF l=true then .error (bad cut l)else .ok (l.take (nm l),pass (nm l) l)
def jz(c:UInt8)(l:L):L:=(l.drop 1).takeWhile (· !=c)
def kH(cut:Bool)(c:UInt8)(l:L):Rs L:=if(l.drop 1).contains c=true then .ok (jz c l,pass ((jz c l).length+2) l)else .error (bad cut [])
def quoted(cut:Bool)(l:L):Rs L:=if part l=[34]then kH cut 34 l else if part l=[39]then kH cut 39 l else .error (bad cut l)
def thn{α β:Type}(x:Rs α)(f:α->L->Rs β):Rs β:=match x with
 | .error e=> .error e
 | .ok (a,l)=>f a l
def oM{β:Type}(x:Except (Nat×Nat) L)(f:L->Rs β):Rs β:=match x with
 | .error e=> .error e
 | .ok l=>f l
def within(cut:Bool)(eW:Option (L->Rs gz))(o s:L)(l:L):Rs gz:=match eW with
 |none=> .error (8,l.length)
 |some f=>oM (want cut o l) fun l=>thn (f l) fun p l=>oM (want cut s l) fun l=> .ok (p,l)
def gu(cut:Bool)(eW:Option (L->Rs gz)):Nat->L->Rs (List gz)
 |0,l=> .ok ([],l)
 |f+1,l=>if part l=[91]then thn (within cut eW [91] [93] l) fun p l=>thn (gu cut eW f l) fun ps l=> .ok (p::ps,l)else .ok ([],l)
def test(cut:Bool)(l:L):Rs L:=
 if part l=[42]then .ok ([42],pass 1 l)
 else if calls AF l=true then oM (want cut AF l) fun l=>oM (want cut [40] l) fun l=>oM (want cut [41] l) fun l=> .ok ([35],l)
 else name cut l
def step(cut:Bool)(eW:Option (L->Rs gz))(deep:Bool)(l:L):Rs iE:=thn (test cut l) fun t l=>thn (gu cut eW (l.length+1) l) fun ps l=> .ok (⟨deep,t,gR.of ps⟩,l)
def iy(cut:Bool)(l:L):Rs Bool:=if part l=[47,47]then .ok (true,pass 2 l)else oM (want cut [47] l) fun l=> .ok (false,l)
def fy(s:iE)(l:L):Bool:=s.test !=[35]&&(part l==[47]||part l==[47,47])
def j6(cut:Bool)(eW:Option (L->Rs gz)):Nat->iE->L->Rs (List iE)
 |0,_,l=> .ok ([],l)
 |f+1,s,l=>if fy s l=true then thn (iy cut l) fun d l=>thn (step cut eW d l) fun s l=>thn (j6 cut eW f s l) fun ss l=> .ok (s::ss,l)else .ok ([],l)
def path(cut:Bool)(eW:Option (L->Rs gz))(l:L):Rs (List iE):=thn (iy cut l) fun d l=>thn (step cut eW d l) fun s l=>thn (j6 cut eW (l.length+1) s l) fun ss l=> .ok (s::ss,l)
def attr(cut:Bool)(l:L):Rs L:=oM (want cut [64] l) fun l=>name cut l
def kI(cut:Bool)(eW:Option (L->Rs gz)):Nat->iE->L->Rs (List iE×L)
 |0,_,l=> .ok (([],[]),l)
 |f+1,s,l=>if fy s l=true then thn (iy cut l) fun d l=>if d=false/\part l=[64]then thn (attr cut l) fun a l=> .ok (([],a),l)else
  thn (step cut eW d l) fun s l=>thn (kI cut eW f s l) fun x l=> .ok ((s::x.1,x.2),l)else .ok (([],[]),l)
def oN(cut:Bool)(eW:Option (L->Rs gz))(deep:Bool)(l:L):Rs gz:=thn (step cut eW deep l) fun s l=>thn (kI cut eW (l.length+1) s l) fun x l=> .ok (⟨[],.nil,gh.of (s::x.1),x.2,[]⟩,l)
def dot(cut:Bool)(eW:Option (L->Rs gz))(l:L):Rs gz:=oM (want cut [46] l) fun l=>if part l=[47,47]then oN cut eW true (pass 2 l)else .ok (⟨[],.nil,.nil,[],[]⟩,l)
def value(cut:Bool)(eW:Option (L->Rs gz))(l:L):Rs gz:=
 if part l=[46]then dot cut eW l else if part l=[64]then thn (attr cut l) fun a l=> .ok (⟨[],.nil,.nil,a,[]⟩,l)else oN cut eW false l
abbrev Cv:L:=[104,97,115]
def compared(cut:Bool)(p:gz)(l:L):Rs gz:=
 if part l=[61]then thn (quoted cut (pass 1 l)) fun t l=> .ok (⟨[61],p.kids,p.steps,p.attr,t⟩,l)
 else if part l=[33,61]then thn (quoted cut (pass 2 l)) fun t l=> .ok (⟨[33,61],p.kids,p.steps,p.attr,t⟩,l)
 else .ok (⟨Cv,p.kids,p.steps,p.attr,p.text⟩,l)
def one(cut:Bool)(eW:Option (L->Rs gz))(l:L):Rs gz:=
 if calls xZ l=true then oM (want cut xZ l) fun l=>thn (within cut eW [40] [41] l) fun p l=> .ok (⟨xZ,gR.of [p],.nil,[],[]⟩,l)
 else if part l=[40]then within cut eW [40] [41] l
 else thn (value cut eW l) fun p l=>compared cut p l
def j7(word:L)(read:L->Rs gz):Nat->L->Rs (List gz)
 |0,l=> .ok ([],l)
 |f+1,l=>if part l=word then thn (read (pass word.length l)) fun p l=>thn (j7 word read f l) fun ps l=> .ok (p::ps,l)else .ok ([],l)
def joined(word:L)(read:L->Rs gz)(l:L):Rs gz:=thn (read l) fun p l=>if part l=word then thn (j7 word read (l.length+1) l) fun ps l=> .ok (⟨word,gR.of (p::ps),.nil,[],[]⟩,l)else .ok (p,l)
abbrev X4:L:=[111,114]
abbrev X5:L:=[97,110,100]
def both(cut:Bool)(eW:Option (L->Rs gz)):L->Rs gz:=joined X5 (one cut eW)
def cond(cut:Bool)(eW:Option (L->Rs gz)):L->Rs gz:=joined X4 (both cut eW)
def x6(cut:Bool):Nat->L->Rs gz
 |0=>cond cut none
 |d+1=>cond cut (some (x6 cut d))
def vH(cut:Bool):Nat->Option (L->Rs gz)
 |0=>none
 |d+1=>some (x6 cut d)
def ku(cut:Bool):Nat->L->Rs (List (List iE))
 |0,l=> .ok ([],l)
 |f+1,l=>if part l=[124]then thn (path cut (vH cut 8) (pass 1 l)) fun p l=>thn (ku cut f l) fun ps l=> .ok (p::ps,l)else .ok ([],l)
def query(cut:Bool)(l:L):Rs (List (List iE)):=thn (path cut (vH cut 8) (pass 0 l)) fun p l=>thn (ku cut (l.length+1) l) fun ps l=>if l=[]/\cut=false then .ok (p::ps,l)else .error (bad cut l)
def cutAt(q:L):L:=q.take (Ch.bad (bs q))
def JE(q:L):Bool:=decide ((cutAt q).length<q.length)
def parse(q:L):Except (Nat×Nat) (List (List iE)):=
 if 500<q.length then .error (1,0)else match query (JE q) (cutAt q)with
  | .error e=> .error (e.1,(cutAt q).length-e.2)
  | .ok x=> .ok x.1
theorem Eb(l:L):skip l<:+l:=List.dropWhile_suffix _
theorem jr(n:Nat)(l:L):pass n l<:+l:=(Eb _).trans (List.drop_suffix _ _)
theorem xB{n:Nat}{l:L}(hn:0<n)(hl:l≠[]):(pass n l).length<l.length:=by
 have h1:=(Eb (l.drop n)).length_le;have h2:l.length≠0:=fun e=>hl (List.length_eq_zero_iff.1 e);simp only[b9]at h1;unfold pass;omega
theorem NT:part []=[]:=by simp[part]
theorem xC{l p:L}(h:part l=p)(hp:p≠[]):l≠[]:=by rintro rfl;exact hp (h.symm.trans NT)
def gy{α:Type}(l:L)(x:Rs α):Prop:=∀a l',x=.ok (a,l')->l'<:+l
def X6(l:L)(x:Except (Nat×Nat) L):Prop:=∀l',x=.ok l'->l'<:+l
theorem gy.ok{α:Type}{l l':L}{a:α}(h:l'<:+l):gy l (.ok (a,l')):=by intro b Va e;cases e;exact h
theorem gy.error{α:Type}{l:L}{e:Nat×Nat}:gy (α:=α) l (.error e):=by intro b Va h;cases h
theorem gy.thn{α β:Type}{l:L}{x:Rs α}{f:α->L->Rs β}(h:gy l x)(hf:∀a l',gy l' (f a l')):gy l (thn x f):=by
 intro b Va e;cases x with
 |error y=>cases e
 |ok y=>obtain⟨a,l'⟩:=y;exact(hf a l' b Va e).trans (h a l' rfl)
theorem gy.oM{β:Type}{l:L}{x:Except (Nat×Nat) L}{f:L->Rs β}(h:X6 l x)(hf:∀l',gy l' (f l')):gy l (oM x f):=by
 intro b Va e;cases x with
 |error y=>cases e
 |ok l'=>exact(hf l' b Va e).trans (h l' rfl)
theorem gy.from{α:Type}{l l':L}{x:Rs α}(h:gy l' x)(hl:l'<:+l):gy l x:=fun a Va e=>(h a Va e).trans hl
theorem j8(cut:Bool)(p l:L):X6 l (want cut p l):=by
 intro l' h;unfold want at h;split at h
 ·cases h;exact jr _ _
 ·cases h
theorem JF{cut:Bool}{p l l':L}(hp:p≠[])(h:want cut p l=.ok l'):l'.length<l.length:=by
 unfold want at h;split at h
 ·next e=>cases h;exact xB (by cases p;exact absurd rfl hp;simp) (xC e hp)
 ·cases h
theorem Ec(cut:Bool)(l:L):gy l (name cut l):=by
 unfold name;split
 ·exact gy.error
 ·exact gy.ok (jr _ _)
theorem ua(cut:Bool)(c:UInt8)(l:L):gy l (kH cut c l):=by
 unfold kH;split
 ·exact gy.ok (jr _ _)
 ·exact gy.error
theorem x7(cut:Bool)(l:L):gy l (quoted cut l):=by
 unfold quoted;split
 ·exact ua _ _ _
 ·split
  ·exact ua _ _ _
  ·exact gy.error
def ub(eW:Option (L->Rs gz)):Prop:=∀f,eW=some f->∀l,gy l (f l)
variable{cut:Bool}{eW:Option (L->Rs gz)}
theorem td(hi:ub eW)(o s l:L):gy l (within cut eW o s l):=by
 unfold within;cases eW with
 |none=>exact gy.error
 |some f=>exact gy.oM (j8 _ _ _) fun l=>gy.thn (hi f rfl l) fun p l=>gy.oM (j8 _ _ _) fun l=>gy.ok (aO _)
theorem KD(hi:ub eW){o s l l':L}{p:gz}(ho:o≠[])(h:within cut eW o s l=.ok (p,l')):l'.length<l.length:=by
 unfold within at h;cases eW with
 |none=>cases h
 |some f=>
  simp only[oM]at h;cases e:want cut o l with
  |error y=>rw[e]at h;cases h
  |ok l1=>
   rw[e]at h;have:=(gy.thn (hi f rfl l1) (fun p l=>gy.oM (j8 cut s l) fun l=>gy.ok (a:=p) (aO l)) p l' h).length_le;have:=JF ho e;omega
theorem AG(hi:ub eW):∀f l,gy l (gu cut eW f l)
 |0,l=>gy.ok (aO _)
 |f+1,l=>by
  unfold gu;split
  ·exact gy.thn (td hi _ _ _) fun p l=>gy.thn (AG hi f l) fun ps l=>gy.ok (aO _)
  ·exact gy.ok (aO _)
theorem Ed(l:L):gy l (test cut l):=by
 unfold test;split
 ·exact gy.ok (jr _ _)
 ·split
  ·exact gy.oM (j8 _ _ _) fun l=>gy.oM (j8 _ _ _) fun l=>gy.oM (j8 _ _ _) fun l=>gy.ok (aO _)
  ·exact Ec _ _
theorem kJ(hi:ub eW)(d:Bool)(l:L):gy l (step cut eW d l):=gy.thn (Ed l) fun t l=>gy.thn (AG hi _ _) fun ps l=>gy.ok (aO _)
theorem rh(l:L):gy l (iy cut l):=by
 unfold iy;split
 ·exact gy.ok (jr _ _)
 ·exact gy.oM (j8 _ _ _) fun l=>gy.ok (aO _)
theorem p8{l l':L}{d:Bool}(h:iy cut l=.ok (d,l')):l'.length<l.length:=by
 unfold iy at h;split at h
 ·next e=>cases h;exact xB (by decide) (xC e (by decide))
 ·simp only[oM]at h;cases e:want cut [47] l with
  |error y=>rw[e]at h;cases h
  |ok l1=>rw[e]at h;cases h;exact JF (by decide) e
theorem ud(hi:ub eW):∀f s l,gy l (j6 cut eW f s l)
 |0,_,l=>gy.ok (aO _)
 |f+1,s,l=>by
  unfold j6;split
  ·exact gy.thn (rh l) fun d l=>gy.thn (kJ hi d l) fun s l=>gy.thn (ud hi f s l) fun ss l=>gy.ok (aO _)
  ·exact gy.ok (aO _)
theorem Ee(hi:ub eW)(l:L):gy l (path cut eW l):=gy.thn (rh l) fun d l=>gy.thn (kJ hi d l) fun s l=>gy.thn (ud hi _ s l) fun ss l=>gy.ok (aO _)
theorem Ef(l:L):gy l (attr cut l):=gy.oM (j8 _ _ _) fun l=>Ec _ _
theorem wK(hi:ub eW):∀f s l,gy l (kI cut eW f s l)
 |0,_,l=>gy.ok (aO _)
 |f+1,s,l=>by
  unfold kI;split
  ·refine gy.thn (rh l) fun d l=>?_;split
   ·exact gy.thn (Ef l) fun a l=>gy.ok (aO _)
   ·exact gy.thn (kJ hi d l) fun s l=>gy.thn (wK hi f s l) fun ss l=>gy.ok (aO _)
  ·exact gy.ok (aO _)
theorem x8(hi:ub eW)(d:Bool)(l:L):gy l (oN cut eW d l):=gy.thn (kJ hi d l) fun s l=>gy.thn (wK hi _ s l) fun ss l=>gy.ok (aO _)
theorem RH(hi:ub eW)(l:L):gy l (dot cut eW l):=by
 refine gy.oM (j8 _ _ _) fun l=>?_;split
 ·exact(x8 hi _ _).from (jr _ _)
 ·exact gy.ok (aO _)
theorem KE(hi:ub eW)(l:L):gy l (value cut eW l):=by
 unfold value;split
 ·exact RH hi l
 ·split
  ·exact gy.thn (Ef l) fun a l=>gy.ok (aO _)
  ·exact x8 hi _ _
theorem Cw(p:gz)(l:L):gy l (compared cut p l):=by
 unfold compared;split
 ·exact(gy.thn (x7 _ _) fun a l=>gy.ok (aO _)).from (jr _ _)
 ·split
  ·exact(gy.thn (x7 _ _) fun a l=>gy.ok (aO _)).from (jr _ _)
  ·exact gy.ok (aO _)
theorem Cx(hi:ub eW)(l:L):gy l (one cut eW l):=by
 unfold one;split
 ·exact gy.oM (j8 _ _ _) fun l=>gy.thn (td hi _ _ _) fun p l=>gy.ok (aO _)
 ·split
  ·exact td hi _ _ _
  ·exact gy.thn (KE hi l) fun p l=>Cw p l
theorem ue{word:L}{read:L->Rs gz}(hr:∀l,gy l (read l)):∀f l,gy l (j7 word read f l)
 |0,l=>gy.ok (aO _)
 |f+1,l=>by
  unfold j7;split
  ·exact(gy.thn (hr _) fun p l=>gy.thn (ue hr f l) fun ps l=>gy.ok (aO _)).from (jr _ _)
  ·exact gy.ok (aO _)
theorem tj{word:L}{read:L->Rs gz}(hr:∀l,gy l (read l))(l:L):gy l (joined word read l):=by
 refine gy.thn (hr l) fun p l=>?_;split
 ·exact gy.thn (ue hr _ _) fun ps l=>gy.ok (aO _)
 ·exact gy.ok (aO _)
theorem Eg(hi:ub eW)(l:L):gy l (cond cut eW l):=tj (fun l=>tj (Cx hi) l) l
theorem tk:∀d l,gy l (x6 cut d l)
 |0,l=>Eg (fun f e=>by cases e) l
 |d+1,l=>Eg (fun f e=>by cases e;exact tk d) l
theorem Eh:∀d,ub (vH cut d)
 |0=>fun f e=>by cases e
 |d+1=>fun f e=>by cases e;exact tk d
end
end Go.Proofs.YtclgfepngpeifaaGreatDoor
namespace Go.Proofs.YtclgfepngpeifaaGreatDoor
open Go.RowKit Go.Maps Go.Lib Tryz
section
structure Fr(F:Nat->Prop)(w w':World):Prop where
 os:w'.os=w.os
 tape:w'.tape=w.tape
 output:w'.output=w.output
 size:w.heap.size<=w'.heap.size
 block:∀k,k<w.heap.size->¬F k->w'.heap[k]?=w.heap[k]?
variable{w w' w1 w2:World}{F G:Nat->Prop}{R:Nat}
theorem Fr.refl(F:Nat->Prop)(w:World):Fr F w w:=⟨rfl,rfl,rfl,au _,fun _ _ _=>rfl⟩
theorem Fr.trans(h:Fr F w w1)(k:Fr G w1 w2)(hG:∀i,i<w.heap.size->G i->F i):Fr F w w2:=
 ⟨k.os.trans h.os,k.tape.trans h.tape,k.output.trans h.output,aw h.size k.size,fun i hi hf=>
  (k.block i (aq hi h.size) (fun e=>hf (hG i hi e))).trans (h.block i hi hf)⟩
theorem Fr.same(h:Fr F w w1)(k:Fr F w1 w2):Fr F w w2:=h.trans k fun _ _ x=>x
theorem Fr.below(h:Z5 w w'):Fr F w w':=⟨h.os,h.tape,h.output,h.size,fun k hk _=>h.block k hk⟩
theorem Fr.on(h:Fr F w w1)(k:Z5 w1 w2):Fr F w w2:=h.same (Fr.below k)
theorem Fr.up{K:Nat}(fr:Fr F w w')(hF:∀k,F k->K<=k)(hK:K<=w.heap.size):Below K w w':=
 ⟨fr.os,fr.tape,fr.output,fr.size,fun k hk=>fr.block k (by omega) (fun x=>by have:=hF k x;omega)⟩
theorem Fr.alloc(h:Fr F w w')(o:Obj):Fr F w (w'.alloc o):=
 ⟨h.os,h.tape,h.output,by have:=h.size;simp;omega,fun k hk hf=>(ay _ _ _ (aq hk h.size)).trans (h.block k hk hf)⟩
theorem Fr.drewN(h:Fr F w w')(n:Nat):Fr F w (w'.drewN n):=⟨h.os,h.tape,h.output,h.size,h.block⟩
theorem Fr.set(h:Fr F w w')(a:Addr)(u:Value)(ha:a.block<w.heap.size->F a.block):Fr F w (w'.setCell a u):=
 ⟨h.os,h.tape,h.output,by have:=h.size;simpa [World.setCell]using this,fun k hk hf=>(ak _ _ _ _ (fun e=>hf (by subst e;exact ha hk))).trans (h.block k hk hf)⟩
theorem Fr.mono(h:Fr F w w')(hG:∀k,F k->G k):Fr G w w':=⟨h.os,h.tape,h.output,h.size,fun k hk hf=>h.block k hk (fun x=>hf (hG k x))⟩
theorem eG{K K':Nat}(h:Below K w w')(hK:K'<=K):Below K' w w':=⟨h.os,h.tape,h.output,h.size,fun k hk=>h.block k (by omega)⟩
theorem zR(h1:Z5 w w1)(h2:Z5 w1 w2):Z5 w w2:=h1.trans (eG h2 h1.size)
theorem cell_of{R i:Nat}{cs:Array Value}{t:TypeId}{v:Value}(h:w.heap[R]?=some (.cells cs t (0,0)))(hi:cs[i]?=some v):w.cell? ⟨R,i,none⟩=some v:=by simp[World.cell?,h,hi]
theorem dY{R i:Nat}{cs:Array Value}{t:TypeId}(h:w.heap[R]?=some (.cells cs t (0,0))):w.frozen? ⟨R,i,none⟩=false:=by simp[World.frozen?,h]
theorem eh{R i:Nat}{cs:Array Value}{t:TypeId}(h:w.heap[R]?=some (.cells cs t (0,0)))(v:Value):(w.setCell ⟨R,i,none⟩ v).heap[R]?=some (.cells (cs.setIfInBounds i v) t (0,0)):=by
 rw[setCell_eq_setRow w R i cs t (0,0) v h];exact setRow_heap w R cs _ t _ h
theorem dQ{k:Nat}{o:Obj}(h:w.heap[k]?=some o):k<w.heap.size:=(Array.getElem?_eq_some_iff.1 h).1
theorem dV{a:Addr}{v:Value}(o:Obj)(h:w.cell? a=some v):(w.alloc o).cell? a=some v:=
 (ar (ay w o a.block (aD w a h))).trans h
theorem dR(w:World)(o:Obj):(w.alloc o).heap[w.heap.size]?=some o:=bf w o
theorem dS{B:Nat}{e:TypeId}{s:Nat}{v:Value}{n:Nat}{xs:List Value}(h:w.ownsRow B e s v n xs):∃ao cap,v=.slice ao n cap:=by
 rcases h.2 with⟨rfl,rfl⟩|⟨g,cap,cur,rfl,_⟩
 ·exact⟨_,_,rfl⟩
 ·exact⟨_,_,rfl⟩
theorem dW{e:TypeId}{s:Nat}{v:Value}{n:Nat}{xs:List Value}(h:w.ownsRow 0 e s v n xs)(hk:∀k,v.ownBlock=some k->w'.heap[k]?=w.heap[k]?):w'.ownsRow 0 e s v n xs:=by
 refine⟨h.1,?_⟩;rcases h.2 with hn|⟨g,cap,cur,rfl,hb,hg,rest⟩
 ·exact Or.inl hn
 ·exact Or.inr ⟨g,cap,cur,rfl,hb,by rw[hk g rfl];exact hg,rest⟩
theorem fq{e:TypeId}{s:Nat}{v:Value}{n:Nat}{xs:List Value}(h:w.ownsRow 0 e s v n xs){k:Nat}(hk:v.ownBlock=some k):∃cur,w.heap[k]?=some (.cells cur e (0,0)):=by
 rcases h.2 with⟨rfl,_⟩|⟨g,cap,cur,rfl,hb,hg,rest⟩
 ·simp[Value.ownBlock]at hk
 ·simp[Value.ownBlock]at hk;subst hk;exact⟨cur,hg⟩
theorem ej{e:TypeId}{sz n:Nat}{v:Value}{xs:List Value}(h:w.ownsRow 0 e sz v n xs){k:Nat}(hk:v.ownBlock=some k):k<w.heap.size:=by obtain⟨c,hc⟩:=fq h hk;exact dQ hc
abbrev fh:Value:=.slice none 0 0
structure RD(R:Nat)(t:L)(wh n:Nat)(w:World)(l:L):Prop where
 blk:w.heap[R]?=some (.cells #[.string (bs t),.int .i64 wh,.int .i64 ((t.length-l.length:Nat):Int),.int .i64 n] 125 (0,0))
 xh:l<:+t
 tw:t.length<=wh
 Cz:wh<=500
 n8:n<=8
variable{t l l':L}{wh n:Nat}
theorem RD.lt(h:RD R t wh n w l):R<w.heap.size:=dQ h.blk
theorem RD.below(h:RD R t wh n w l)(hb:Z5 w w'):RD R t wh n w' l:=⟨(hb.block R h.lt).trans h.blk,h.xh,h.tw,h.Cz,h.n8⟩
theorem RD.fr(h:RD R t wh n w l)(hb:Fr F w w')(hR:¬F R):RD R t wh n w' l:=⟨(hb.block R h.lt hR).trans h.blk,h.xh,h.tw,h.Cz,h.n8⟩
theorem RD.le(h:RD R t wh n w l):l.length<=t.length:=h.xh.length_le
theorem Ei(h:l<:+t):t.drop (t.length-l.length)=l:=by
 obtain⟨p,rfl⟩:=h;simp[List.drop_append]
theorem gY(l:L):(bs l).size=l.length:=by simp[bs,ByteArray.size]
theorem oO(l:L):(bs l).data.toList=l:=by simp[bs]
theorem fe(l:L):(bs l).toList=l:=by rw[ByteArray.toList_eq,oO]
theorem kh(l:L)(i j:Nat):(bs l).extract i j=bs ((l.drop i).take (j-i)):=by simp[bs,ByteArray.extract_mk]
theorem x9(h:l<:+t)(w:World):(Instr.slice 9 (.string (bs t)) (some (.int .i64 ((t.length-l.length:Nat):Int))) none none).run prog w=.ok (.string (bs l)) w:=by
 have e:bs l=(bs t).extract (t.length-l.length) (bs t).size:=by rw[kh,gY,Ei h,bS (by have:=h.length_le;omega)]
 have hle:=h.length_le;rw[run_slice_string_from_if _ _ _ _ _ underlying9,if_pos ⟨by omega,by rw[gY];omega⟩,e];rfl
end
section
variable{w w' w1 w2:World}{F G:Nat->Prop}{R:Nat}{t l l':L}{wh n:Nat}
abbrev lZ(no k:Nat)(t:L):Ending:=.panicked [{v:=.iface 122 (.agg #[.int .i64 no,.int .i64 ((t.length-k:Nat):Int)]),recovered:=false}]
abbrev ei(t:L)(wh:Nat):Bool:=decide (t.length<wh)
theorem uf(h:RD R t wh n w l):Z4 87 #[Z8 R] w fun e w'=>e=lZ (bad (ei t wh) l).1 (bad (ei t wh) l).2 t/\Fr (fun k=>k=R) w w':=by
 have c0:w.cell? ⟨R,0,none⟩=some (.string (bs t)):=cell_of h.blk rfl;have c1:w.cell? ⟨R,1,none⟩=some (.int .i64 wh):=cell_of h.blk rfl;have c2:w.cell? ⟨R,2,none⟩=some (.int .i64 ((t.length-l.length:Nat):Int)):=cell_of h.blk rfl;have hle:=h.le;have G1:=h.tw;obtain⟨at_,ha⟩:∃k,t.length-l.length=k:=⟨_,rfl⟩
 obtain⟨b1,hb1⟩:∃b,decide (l=[])=b:=⟨_,rfl⟩
 have hb2:((at_:Int)==((bs t).size:Int))=b1:=by
  rw[gY,<-hb1,bC];simp only[bk,aR];constructor
  ·intro e;exact List.length_eq_zero_iff.1 (by omega)
  ·rintro rfl;simp at ha;omega
 have nR:bad (ei t wh) l=(if b1=true/\decide (t.length<wh)=true then 2 else 3,l.length):=by simp only[bad,ei,<-hb1,aR]
 have hlt:b1=true->decide (at_<wh)=decide (t.length<wh):=by intro e;rw[<-hb1,aR]at e;subst e;simp at ha;subst ha;rfl
 have RJ:∀no:Nat,lZ no l.length t=.panicked [{v:=.iface 122 (.agg #[.int .i64 no,.int .i64 at_]),recovered:=false}]:=fun no=>by rw[lZ,ha]
 rw[ha]at c2;rw[nR];have HF:=a_ (Fr.refl (fun k=>k=R) w);have HT:=a_ RJ;clear h nR hb1 hle G1 ha RJ;cases b1 with
 |false=>
  simp only[aA,false_and,aQ];go_enter func87,ntmps87;go_wp2_with fail;go_quiet(fail);go_wp2;exact⟨rfl,(HT.out 3).symm,HF.out.drewN _⟩
 |true=>
  obtain⟨b2,hb3⟩:∃b,decide (t.length<wh)=b:=⟨_,rfl⟩
  have Ej:=hlt rfl;rw[hb3]at Ej ⊢;clear hlt hb3;cases b2 with
  |false=>
   simp only[aA,and_false,aQ];go_enter func87,ntmps87;go_wp2_with fail;go_quiet(fail);go_wp2;exact⟨rfl,(HT.out 3).symm,HF.out.drewN _⟩
  |true=>
   simp only[and_self,if_true];go_enter func87,ntmps87;go_wp2_with fail;go_quiet(fail);go_wp2;exact⟨rfl,(HT.out 2).symm,HF.out.drewN _⟩
theorem p9(s:ByteArray):∀f pos,pos<=s.size->Ch.fp s f pos<=s.size:=by
 intro f;induction f with
 |zero=>intro pos h;exact h
 |succ f ih=>
  intro pos h;unfold Ch.fp;split
  ·split
   ·exact ih _ (Ch.eE s pos ‹_›).1
   ·omega
  ·omega
theorem Ur(l:L):nm l<=l.length:=by have:=p9 (bs l) ((bs l).size+1) 0 (aB _);rw[gY]at this;unfold nm Ch.name;rw[gY];exact this
theorem p_(l:L)(k:Nat)(hk:k<=l.length)(w:World):(Instr.slice 9 (.string (bs l)) none (some (.int .i64 (k:Int))) none).run prog w=.ok (.string (bs (l.take k))) w:=by
 rw[run_slice_string_to_if _ _ _ _ _ underlying9,if_pos ⟨by omega,by rw[gY];omega⟩,kh];simp
theorem KF(l:L)(hk:1<=l.length)(w:World):(Instr.slice 9 (.string (bs l)) none (some (.int .i64 1)) none).run prog w=.ok (.string (bs (l.take 1))) w:=p_ l 1 hk w
theorem AH(l:L)(hk:2<=l.length)(w:World):(Instr.slice 9 (.string (bs l)) none (some (.int .i64 2)) none).run prog w=.ok (.string (bs (l.take 2))) w:=p_ l 2 hk w
theorem qa{nq:Nat}(hb:Below (w.drewN nq).heap.size (w.drewN nq) w'):Z5 w w':=⟨hb.os,hb.tape,hb.output,hb.size,hb.block⟩
theorem X7{l:L}{a b:UInt8}(h:Lib.hasPrefix l [a,b]=true):2<=l.length:=by
 match l,h with
 |[],h=>simp[Lib.hasPrefix,List.isPrefixOf]at h
 |[x],h=>simp[Lib.hasPrefix,List.isPrefixOf]at h
 |x::y::r,h=>simp
theorem jA(h:RD R t wh n w l):Z4 135 #[Z8 R] w (Z7 (.string (bs (part l))) w):=by
 have c0:w.cell? ⟨R,0,none⟩=some (.string (bs t)):=cell_of h.blk rfl;have c2:w.cell? ⟨R,2,none⟩=some (.int .i64 ((t.length-l.length:Nat):Int)):=cell_of h.blk rfl;have hr:=x9 h.xh;have ri:∀w:World,Z4 157 #[.string (bs l)] w (Z7 (.int .i64 (nm l)) w):=fun w=>q_ (bs l) w (by rw[gY];have:=h.le;have:=h.tw;have:=h.Cz;omega);have hp:∀(p:L) (w:World),Z4 129 #[.string (bs l),.string ⟨p.toArray⟩] w (Z6 (.bool (Lib.hasPrefix l p)) w):=fun p w=>by have:=strings_HasPrefix (bs l) ⟨p.toArray⟩ w;rw[oO]at this;simpa using this
 have xk:=Ur l;have Ek:∀x,x=part l->bs x=bs (part l):=fun x e=>by rw[e]
 generalize hat:(((t.length-l.length:Nat)):Int)=at_ at*
 have HP:=a_ hp;have El:=a_ ri;have HB:=a_ (Below.refl w.heap.size w);clear h hp ri hat;by_cases h0:0<nm l
 ·have e1:part l=l.take (nm l):=by unfold part;rw[if_pos h0]
  rw[e1];have ht:=p_ l (nm l) xk;generalize hN:nm l=N at*
  have hd:decide (0<N)=true:=by simpa using h0
  clear e1 Ek;have G2:decide ((N:Int)>0)=true:=by simp;omega
  go_enter func135,ntmps135;go_wp2_with fail;go_quiet(fail);go_wp2_with(go_at_call 157;refine(El.out _).mono ?_;rintro e w' ⟨rfl,hb⟩);go_ret;exact⟨by first|rfl|simp[kh],qa hb⟩
 ·have e0:nm l=0:=by omega
  rw[e0]at El;have hd:decide ((0:Int)>0)=false:=rfl;obtain⟨b1,hb1⟩:∃b,Lib.hasPrefix l [47,47]=b:=⟨_,rfl⟩
  cases b1 with
  |true=>
   have e1:part l=l.take 2:=by unfold part;rw[if_neg h0,if_pos (Or.inl hb1)]
   rw[e1];have ht:=AH l (X7 hb1);have H1:=HP.out [47,47];rw[hb1]at H1;have HH:=a_ H1;clear H1 e1 h0 e0 hb1 Ek xk;go_enter func135,ntmps135;go_wp2_with fail;go_quiet(fail);go_wp2_with(first|(go_at_call 157;refine(El.out _).mono ?_;rintro e w' ⟨rfl,hb⟩)|(go_at_call 129;refine(HH.out _).mono ?_;rintro e w' ⟨rfl,rfl⟩));go_ret;exact⟨by first|rfl|simp[kh],qa hb⟩
  |false=>
   obtain⟨b2,hb2⟩:∃b,Lib.hasPrefix l [33,61]=b:=⟨_,rfl⟩
   cases b2 with
   |true=>
    have e1:part l=l.take 2:=by unfold part;rw[if_neg h0,if_pos (Or.inr hb2)]
    rw[e1];have ht:=AH l (X7 hb2);clear e1 h0 e0 Ek xk;go_enter func135,ntmps135;go_wp2_with fail;go_quiet(fail);go_wp2_with(first|(go_at_call 157;refine(El.out _).mono ?_;rintro e w' ⟨rfl,hb⟩)|(go_at_call 129;refine(HP.out _ _).mono ?_;rintro e w' ⟨rfl,rfl⟩));go_ret;exact⟨by first|rfl|simp[kh],qa hb⟩
   |false=>
    have e1:part l=l.take 1:=by unfold part;rw[if_neg h0,if_neg (by rw[hb1,hb2];simp)]
    rw[e1];by_cases hl:l=[]
    ·have hem:(bs l).toList.isEmpty=true:=by rw[fe,hl];rfl
     have HQ:Hid (bs (l.take 1)=⟨#[]⟩):=by rw[hl];rfl
     clear e1 h0 e0 Ek xk hl;go_enter func135,ntmps135;go_wp2_with fail;go_quiet(fail);go_wp2_with(first|(go_at_call 157;refine(El.out _).mono ?_;rintro e w' ⟨rfl,hb⟩)|(go_at_call 129;refine(HP.out _ _).mono ?_;rintro e w' ⟨rfl,rfl⟩));go_ret;exact⟨by rw[HQ.out];rfl,qa hb⟩
    ·have hlen:1<=l.length:=by cases l;exact absurd rfl hl;simp
     have ht:=KF l hlen;have hne:((bs l).data.toList==[])=false:=by rw[oO];cases l;exact absurd rfl hl;rfl
     have KG:(bs l).toList.isEmpty=false:=by rw[fe];cases l;exact absurd rfl hl;rfl
     clear e1 h0 e0 Ek xk;go_enter func135,ntmps135;go_wp2_with fail;go_quiet(fail);go_wp2_with(first|(go_at_call 157;refine(El.out _).mono ?_;rintro e w' ⟨rfl,hb⟩)|(go_at_call 129;refine(HP.out _ _).mono ?_;rintro e w' ⟨rfl,rfl⟩));go_ret;exact⟨by first|rfl|simp[kh],qa hb⟩
end
section
variable{w w' w1 w2:World}{F G:Nat->Prop}{R:Nat}{t l l':L}{wh n:Nat}
theorem rj(h:l<:+t)(m:Nat)(hm:m<=l.length)(w:World):(Instr.slice 9 (.string (bs t)) (some (.int .i64 (((t.length-l.length:Nat):Int)+m))) none none).run prog w=.ok (.string (bs (l.drop m))) w:=by
 have hs:l.drop m<:+t:=(List.drop_suffix _ _).trans h;have:=x9 hs w;have hle:=h.length_le;have hlen:(l.drop m).length=l.length-m:=b9;rw[show (((t.length-l.length:Nat):Int)+m)=((t.length-(l.drop m).length:Nat):Int) by rw[hlen];omega];exact this
theorem rk(t l:L)(m:Nat)(h:l<:+t)(ht:t.length<=500)(hm:m<=l.length):IntKind.i64.wrap (((t.length-l.length:Nat):Int)+m)=((t.length-l.length:Nat):Int)+m/\
  IntKind.i64.wrap ((t.length:Int)-((pass m l).length:Int))=((t.length-(pass m l).length:Nat):Int):=by
 have h1:=h.length_le;have h2:=(jr m l).length_le;rw[aM,aM];omega
theorem JG(l:L)(w:World):Z4 131 #[.string (bs l),.string ⟨#[9,10,13,32]⟩] w (Z7 (.string (bs (skip l))) w):=by have:=strings_TrimLeft_blanks (bs l) w;rw[oO]at this;exact this
theorem xD(m:Nat)(h:RD R t wh n w l)(hm:m<=l.length):Z4 84 #[Z8 R,.int .i64 m] w fun e w'=>e=.returned (.tuple #[])/\RD R t wh n w' (pass m l)/\Fr (fun k=>k=R) w w':=by
 have c0:w.cell? ⟨R,0,none⟩=some (.string (bs t)):=cell_of h.blk rfl;have c2:w.cell? ⟨R,2,none⟩=some (.int .i64 ((t.length-l.length:Nat):Int)):=cell_of h.blk rfl;have hr:=rj h.xh m hm;obtain⟨n1,n2⟩:=rk t l m h.xh (by have:=h.tw;have:=h.Cz;omega) hm;have hz1:=gY t;have hz2:=gY (pass m l);have HT:=a_ (JG (l.drop m));have H:=a_ h;clear h;have hp:skip (l.drop m)=pass m l:=rfl;rw[hp]at HT;generalize ((t.length-l.length:Nat):Int)=at_ at*
 have HC:Hid (∀W,Z5 w W->W.cell? ⟨R,0,none⟩=some (.string (bs t))):=fun W hW=>(ar (hW.block R H.out.lt)).trans c0;have hE:∀W,Z5 w W->W.cell? ⟨R,2,none⟩=some (.int .i64 at_)/\W.frozen? ⟨R,2,none⟩=false/\RD R t wh n (W.setCell ⟨R,2,none⟩ (.int .i64 ((t.length-(pass m l).length:Nat):Int))) (pass m l)/\Fr (fun k=>k=R) w (W.setCell ⟨R,2,none⟩ (.int .i64 ((t.length-(pass m l).length:Nat):Int))):=fun W hW=>by
  have hb:=(hW.block R H.out.lt).trans H.out.blk;exact⟨(ar (hW.block R H.out.lt)).trans c2,dY hb,⟨eh hb _,(jr m l).trans H.out.xh,H.out.tw,H.out.Cz,H.out.n8⟩,(Fr.below hW).set _ _ (fun _=>rfl)⟩
 have HE:=a_ hE;have d0:∀k,(w.drewN k).cell? ⟨R,0,none⟩=some (.string (bs t)):=fun _=>c0;clear hE hp;have HB0:Hid (∀k,Z5 w (w.drewN k)):=fun k=>⟨rfl,rfl,rfl,au _,fun _ _=>rfl⟩
 go_enter func84,ntmps84;go_wp2_with fail;go_quiet(fail);go_wp2_with fail;obtain⟨NU,RM,rd',Nr⟩:=HE.out _ (HB0.out nq);go_region_held3 (fun W=>W.cell? ⟨R,0,none⟩=some (.string (bs t)))
  (first|exact c0|exact HC.out _ hb2|exact cell_of rd'.blk rfl)
  (first|(go_at_call 131;refine(HT.out _).mono ?_;rintro e w3 ⟨rfl,hb⟩;have hb2:Z5 w w3:=⟨hb.os,hb.tape,hb.output,hb.size,hb.block⟩;clear hb;obtain⟨NU,RM,rd',Nr⟩:=HE.out _ hb2))
 all_goals
  go_end0
  exact⟨rfl,rd',Nr⟩
theorem x_(l:L):(part l).length<=l.length:=by
 unfold part;split
 ·exact List.length_take_le' _ _
 ·split<;>exact List.length_take_le' _ _
theorem eqL(a b:L):((bs a).toList==(bs b).toList)=(a==b):=by rw[fe,fe]
theorem Em{p:L}(h:RD R t wh n w l)(hp:part l=p):Z4 86 #[Z8 R,.string (bs p)] w fun e w'=>e=.returned (.bool true)/\RD R t wh n w' (pass p.length l)/\Fr (fun k=>k=R) w w':=by
 have HP:=a_ (jA h);have HA:Hid (∀W,Z5 w W->Z4 84 #[Z8 R,.int .i64 (p.length:Int)] W fun e w'=>e=.returned (.tuple #[])/\RD R t wh n w' (pass p.length l)/\Fr (fun k=>k=R) W w'):=fun W hW=>xD p.length (h.below hW) (by rw[<-hp];exact x_ l);rw[hp]at HP;have hne:((bs p).toList==(bs p).toList)=true:=by simp
 have hz:=gY p;clear h hp;go_enter func86,ntmps86;go_wp2_with(first|(go_at_call 135;refine HP.out.mono ?_;rintro e w1 ⟨rfl,hb⟩)|(go_at_call 84;refine(HA.out _ hb).mono ?_;rintro e w2 ⟨rfl,rd,fr⟩));go_ret;exact⟨rfl,rd,(Fr.below hb).same fr⟩
theorem JH{p:L}(h:RD R t wh n w l)(hp:part l≠p):Z4 86 #[Z8 R,.string (bs p)] w (Z7 (.bool false) w):=by
 have HP:=a_ (jA h);have hne:((bs (part l)).toList==(bs p).toList)=false:=by rw[eqL];simpa using hp
 clear h hp;go_enter func86,ntmps86;go_wp2_with(first|(go_at_call 135;refine HP.out.mono ?_;rintro e w1 ⟨rfl,hb⟩));go_ret;exact⟨rfl,hb⟩
def ou(R:Nat)(t:L)(x:Nat×Nat)(w:World)(e:Ending)(w':World):Prop:=e=lZ x.1 x.2 t/\Fr (fun k=>k=R) w w'
theorem ou.after{x:Nat×Nat}{e:Ending}(h:ou R t x w1 e w2)(fr:Fr (fun k=>k=R) w w1):ou R t x w e w2:=⟨h.1,fr.same h.2⟩
theorem NV{p:L}(h:RD R t wh n w l)(hp:part l=p):Z4 179 #[Z8 R,.string (bs p)] w fun e w'=>e=.returned (.tuple #[])/\RD R t wh n w' (pass p.length l)/\Fr (fun k=>k=R) w w':=by
 have HP:=a_ (Em h hp);clear h hp;go_enter func179,ntmps179;go_wp2_with(first|(go_at_call 86;refine HP.out.mono ?_;rintro e w1 ⟨rfl,rd,fr⟩))
 go_end0
 exact⟨rfl,rd,fr⟩
theorem RN{p:L}(h:RD R t wh n w l)(hp:part l≠p):Z4 179 #[Z8 R,.string (bs p)] w (ou R t (bad (ei t wh) l) w):=by
 have HP:=a_ (JH h hp);have HA:Hid (∀W,Z5 w W->Z4 87 #[Z8 R] W (ou R t (bad (ei t wh) l) W)):=fun W hW=>uf (h.below hW);clear h hp;go_enter func179,ntmps179;go_wp2_with(first|(go_at_call 86;refine HP.out.mono ?_;rintro e w1 ⟨rfl,hb⟩)|(go_at_call 87;refine(HA.out _ hb).mono ?_;rintro e w2 ⟨rfl,fr⟩));exact⟨rfl,rfl,(Fr.below hb).same fr⟩
end
section
variable{w w' w1 w2:World}{F G:Nat->Prop}{R:Nat}{t l l':L}{wh n:Nat}
def Ends{α:Type}(R:Nat)(t:L)(wh n:Nat)(V:World->Value->α->Prop)(w:World)(x:Rs α)(e:Ending)(w':World):Prop:=match x with
 | .ok (a,l')=>∃v,e=.returned v/\V w' v a/\RD R t wh n w' l'/\Fr (fun k=>k=R) w w'
 | .error y=>ou R t y w e w'
def VS(_:World)(v:Value)(a:L):Prop:=v=.string (bs a)
def VB(_:World)(v:Value)(a:Bool):Prop:=v=.bool a
abbrev ptr(R:Nat):Value:=Z8 R
theorem ya(word:L)(h:RD R t wh n w l):Z4 198 #[ptr R,.string (bs word)] w (Z7 (.bool (calls word l)) w):=by
 have HP:=a_ (jA h);by_cases hp:part l=word
 ·have hm:word.length<=l.length:=by rw[<-hp];exact x_ l
  have e1:calls word l=Lib.hasPrefix (skip (l.drop word.length)) [40]:=by unfold calls;rw[hp];simp
  rw[e1];rw[hp]at HP;have hne:((bs word).toList==(bs word).toList)=true:=by simp
  have hz:=gY word;have hr:=rj h.xh word.length hm;obtain⟨n1,n2⟩:=rk t l word.length h.xh (by have:=h.tw;have:=h.Cz;omega) hm;have HT:=a_ (JG (l.drop word.length));have hc:∀W,Z5 w W->W.cell? ⟨R,0,none⟩=some (.string (bs t))/\W.cell? ⟨R,2,none⟩=some (.int .i64 ((t.length-l.length:Nat):Int)):=fun W hW=>⟨cell_of (h.below hW).blk rfl,cell_of (h.below hW).blk rfl⟩
  have HC:=a_ hc;have HH:Hid (∀W,Z4 129 #[.string (bs (skip (l.drop word.length))),.string ⟨#[40]⟩] W (Z6 (.bool (Lib.hasPrefix (skip (l.drop word.length)) [40])) W)):=fun W=>by have:=strings_HasPrefix (bs (skip (l.drop word.length))) ⟨#[40]⟩ W;rw[oO]at this;exact this
  generalize ((t.length-l.length:Nat):Int)=at_ at*
  generalize skip (l.drop word.length)=sk at*
  clear h hp e1 hc n2;go_enter func198,ntmps198;go_wp2_with(first|(go_at_call 135;refine HP.out.mono ?_;rintro e w1 ⟨rfl,hb⟩;obtain⟨c0,c2⟩:=HC.out _ hb));go_region_held3 (fun W=>W.cell? ⟨R,0,none⟩=some (.string (bs t))/\W.cell? ⟨R,2,none⟩=some (.int .i64 at_))
   (first|exact⟨c0,c2⟩|exact HC.out _ hb2)
   (first|(go_at_call 131;refine(HT.out _).mono ?_;rintro e w3 ⟨rfl,hb3⟩;have hb2:Z5 w w3:=zR hb ⟨hb3.os,hb3.tape,hb3.output,hb3.size,hb3.block⟩;clear hb3))
  all_goals
   go_wp2_with(first|(go_at_call 129;refine(HH.out _).mono ?_;rintro e w4 ⟨rfl,rfl⟩));go_ret;exact⟨rfl,hb2⟩
 ·have e1:calls word l=false:=by unfold calls;simp[hp]
  rw[e1];have hne:((bs (part l)).toList==(bs word).toList)=false:=by rw[eqL];simpa using hp
  clear h hp e1;go_enter func198,ntmps198;go_wp2_with(first|(go_at_call 135;refine HP.out.mono ?_;rintro e w1 ⟨rfl,hb⟩));go_ret;exact⟨rfl,hb⟩
theorem KH(h:l<:+t)(m:Nat)(hm:m<=l.length)(w:World):(Instr.slice 9 (.string (bs t)) (some (.int .i64 ((t.length-l.length:Nat):Int))) (some (.int .i64 (((t.length-l.length:Nat):Int)+m))) none).run prog w=.ok (.string (bs (l.take m))) w:=by
 have hle:=h.length_le;have:=run_slice_string (P:=prog) w 9 (bs t) .i64 .i64 ((t.length-l.length:Nat):Int) (((t.length-l.length:Nat):Int)+m) underlying9 (by omega) (by omega) (by rw[gY];omega);have e:(((t.length-l.length:Nat):Int)+m).toNat-((t.length-l.length:Nat):Int).toNat=m:=by omega
 rw[this,kh,e,aH,Ei h]
theorem ug(h:RD R t wh n w l):Z4 199 #[ptr R] w (Ends R t wh n VS w (name (ei t wh) l)):=by
 have c0:w.cell? ⟨R,0,none⟩=some (.string (bs t)):=cell_of h.blk rfl;have c2:w.cell? ⟨R,2,none⟩=some (.int .i64 ((t.length-l.length:Nat):Int)):=cell_of h.blk rfl;have hr:=x9 h.xh;have xk:=Ur l;have El:Hid (∀w:World,Z4 157 #[.string (bs l)] w (Z7 (.int .i64 (nm l)) w)):=fun w=>q_ (bs l) w (by rw[gY];have:=h.le;have:=h.tw;have:=h.Cz;omega);have GF:Hid (∀(word:L) (W:World),Z5 w W->Z4 198 #[ptr R,.string (bs word)] W (Z7 (.bool (calls word l)) W)):=fun word W hW=>ya word (h.below hW);have RO:Hid (∀W,Z5 w W->Z4 87 #[ptr R] W (ou R t (bad (ei t wh) l) W)):=fun W hW=>uf (h.below hW);have Vb:Hid (∀W,Z5 w W->Z4 84 #[ptr R,.int .i64 (nm l)] W fun e w'=>e=.returned (.tuple #[])/\RD R t wh n w' (pass (nm l) l)/\Fr (fun k=>k=R) W w'):=fun W hW=>xD _ (h.below hW) xk;have HC:Hid (∀W,Z5 w W->W.cell? ⟨R,0,none⟩=some (.string (bs t))/\W.cell? ⟨R,2,none⟩=some (.int .i64 ((t.length-l.length:Nat):Int))):=fun W hW=>⟨cell_of (h.below hW).blk rfl,cell_of (h.below hW).blk rfl⟩
 have hs:=KH h.xh (nm l) xk;have hwr:IntKind.i64.wrap (((t.length-l.length:Nat):Int)+nm l)=((t.length-l.length:Nat):Int)+nm l:=(rk t l (nm l) h.xh (by have:=h.tw;have:=h.Cz;omega) xk).1;obtain⟨b0,hb0⟩:∃b,decide (nm l=0)=b:=⟨_,rfl⟩
 have h0:((nm l:Int)==0)=b0:=by rw[<-hb0,bC];simp
 obtain⟨b1,hb1⟩:∃b,calls xZ l=b:=⟨_,rfl⟩
 obtain⟨b2,hb2⟩:∃b,calls AF l=b:=⟨_,rfl⟩
 have hname:name (ei t wh) l=if b0=true\/b1=true\/b2=true then .error (bad (ei t wh) l)else .ok (l.take (nm l),pass (nm l) l):=by unfold name;rw[hb1,hb2,<-hb0];simp only[aR]
 have hb1:calls [110,111,116] l=b1:=hb1;have hb2:calls [116,101,120,116] l=b2:=hb2;have GF:Hid (∀(word:L) (W:World),Z5 w W->Z4 198 #[ptr R,.string ⟨word.toArray⟩] W (Z7 (.bool (calls word l)) W)):=fun word W hW=>GF.out word W hW;rw[hname];clear h hname hb0 xk;generalize ((t.length-l.length:Nat):Int)=at_ at*
 generalize nm l=N at*
 cases b0 with
 |true=>
   simp only[aA,false_or,cm,true_or,or_true,if_true,aQ];go_enter func199,ntmps199;go_wp2_with fail;go_region_held3 (fun W=>W.cell? ⟨R,0,none⟩=some (.string (bs t))/\W.cell? ⟨R,2,none⟩=some (.int .i64 at_))
     (first|exact⟨c0,c2⟩|exact HC.out _ hb)
     (first|(go_at_call 157;refine(El.out _).mono ?_;rintro e w1 ⟨rfl,hb3⟩;have hb:Z5 w w1:=⟨hb3.os,hb3.tape,hb3.output,hb3.size,hb3.block⟩;clear hb3))
   all_goals
     go_wp2_with(first|(go_at_call 87;refine(RO.out _ hb).mono ?_;rintro e w2 ⟨rfl,fr⟩));exact⟨rfl,rfl,(Fr.below hb).same fr⟩
 |false=>
  cases b1 with
  |true=>
   simp only[aA,false_or,cm,true_or,or_true,if_true,aQ];go_enter func199,ntmps199;go_wp2_with fail;go_region_held3 (fun W=>W.cell? ⟨R,0,none⟩=some (.string (bs t))/\W.cell? ⟨R,2,none⟩=some (.int .i64 at_))
     (first|exact⟨c0,c2⟩|exact HC.out _ hb)
     (first|(go_at_call 157;refine(El.out _).mono ?_;rintro e w1 ⟨rfl,hb3⟩;have hb:Z5 w w1:=⟨hb3.os,hb3.tape,hb3.output,hb3.size,hb3.block⟩;clear hb3))
   all_goals
     go_wp2_with(first|(go_at_call 198;refine(GF.out _ _ hb).mono ?_;rintro e w2 ⟨rfl,hb4⟩;have mh:=zR hb hb4)|(go_at_call 87;refine(RO.out _ mh).mono ?_;rintro e w2 ⟨rfl,fr⟩));exact⟨rfl,rfl,(Fr.below mh).same fr⟩
  |false=>
   cases b2 with
   |true=>
    simp only[aA,false_or,cm,true_or,or_true,if_true,aQ];go_enter func199,ntmps199;go_wp2_with fail;go_region_held3 (fun W=>W.cell? ⟨R,0,none⟩=some (.string (bs t))/\W.cell? ⟨R,2,none⟩=some (.int .i64 at_))
      (first|exact⟨c0,c2⟩|exact HC.out _ hb)
      (first|(go_at_call 157;refine(El.out _).mono ?_;rintro e w1 ⟨rfl,hb3⟩;have hb:Z5 w w1:=⟨hb3.os,hb3.tape,hb3.output,hb3.size,hb3.block⟩;clear hb3))
    all_goals
      go_wp2_with(first|(go_at_call 198;first|(refine(GF.out _ _ mh).mono ?_;rintro e w3 ⟨rfl,Xl⟩;have Ns:=zR mh Xl)|(refine(GF.out _ _ hb).mono ?_;rintro e w2 ⟨rfl,hb4⟩;have mh:=zR hb hb4))|(go_at_call 87;refine(RO.out _ Ns).mono ?_;rintro e w2 ⟨rfl,fr⟩));exact⟨rfl,rfl,(Fr.below Ns).same fr⟩
   |false=>
    simp only[aA,false_or,cm,true_or,or_true,if_true,aQ];go_enter func199,ntmps199;go_wp2_with fail;go_region_held3 (fun W=>W.cell? ⟨R,0,none⟩=some (.string (bs t))/\W.cell? ⟨R,2,none⟩=some (.int .i64 at_))
      (first|exact⟨c0,c2⟩|exact HC.out _ hb)
      (first|(go_at_call 157;refine(El.out _).mono ?_;rintro e w1 ⟨rfl,hb3⟩;have hb:Z5 w w1:=⟨hb3.os,hb3.tape,hb3.output,hb3.size,hb3.block⟩;clear hb3))
    all_goals
      go_wp2_with(first|(go_at_call 198;first|(refine(GF.out _ _ mh).mono ?_;rintro e w3 ⟨rfl,Xl⟩;have Ns:=zR mh Xl;obtain⟨d0,d2⟩:=HC.out _ Ns)|(refine(GF.out _ _ hb).mono ?_;rintro e w2 ⟨rfl,hb4⟩;have mh:=zR hb hb4)));go_quiet(fail);have hb8:Z5 w (w3.drewN nq):=⟨Ns.os,Ns.tape,Ns.output,Ns.size,Ns.block⟩
      go_wp2_with(go_at_call 84;refine(Vb.out _ hb8).mono ?_;rintro e w4 ⟨rfl,rd,fr⟩);go_ret;exact⟨_,rfl,rfl,rd,(Fr.below Ns).same ⟨fr.os,fr.tape,fr.output,fr.size,fr.block⟩⟩
end
section
variable{w w' w1 w2:World}{F G:Nat->Prop}{R:Nat}{t l l':L}{wh n:Nat}
theorem tq(c:UInt8):∀l:L,Lib.indexByte l c=if l.contains c=true then((l.takeWhile (· !=c)).length:Int)else-1
 |[]=>by simp[Lib.indexByte]
 |b::l=>by
  have ih:=tq c l;unfold Lib.indexByte;by_cases hb:b=c
  ·subst hb;simp
  ·have h1:(b==c)=false:=by simpa using hb
   have h2:(b !=c)=true:=by simpa using hb
   have h3:(c==b)=false:=by simpa using fun e:c=b=>hb e.symm
   rw[h1];simp only[aA,aQ,dp,h3,Bool.false_or,List.takeWhile_cons,h2,if_true];rw[ih];split
   ·rw[if_neg (by simp<;>omega)];simp
   ·rw[if_pos (by simp)]
theorem En(l:L)(c:UInt8)(w:World):Z4 231 #[.string (bs l),.string (bs [c])] w (Z6 (.int .i64 (Lib.indexByte l c)) w):=by
 have HB:Hid (Z4 222 #[.string (bs l),.int .u8 (c.toNat:Int)] w (Z6 (.int .i64 (Lib.indexByte l c)) w)):=by
  apply a_;have:=stringslite_IndexByte (bs l) (c.toNat:Int) w;rw[oO]at this;simpa using this
 have hz:(bs [c]).size=1:=rfl;have hg:(Instr.index 9 (.string (bs [c])) (.int .i64 0)).run prog w=.ok (.int .u8 (c.toNat:Int)) w:=by kernel_rfl
 obtain⟨b,hb⟩:∃b,((bs [c]).toList==(bs l).toList)=b:=⟨_,rfl⟩
 have hx:b=true->Lib.indexByte l c=0:=by
  intro e;rw[e,eqL]at hb;have:[c]=l:=by simpa using hb
  subst this;simp[Lib.indexByte]
 generalize Lib.indexByte l c=X at*
 generalize bs [c]=S at*
 cases b with
 |true=>
  have:=hx rfl;subst this;clear hx;go_enter func231,ntmps231;go_wp2_with(go_at_call 222;refine HB.out.mono ?_;rintro e w1 ⟨rfl,rfl⟩);go_ret;exact⟨rfl,rfl⟩
 |false=>
  clear hx;go_enter func231,ntmps231;go_wp2_with(go_at_call 222;refine HB.out.mono ?_;rintro e w1 ⟨rfl,rfl⟩);go_ret;exact⟨rfl,rfl⟩
theorem uh{c:UInt8}{l:L}(h:l.contains c=true):(l.takeWhile (· !=c)).length<l.length:=by
 induction l with
 |nil=>simp at h
 |cons b l ih=>
  rw[List.takeWhile_cons];split
  ·next hb=>
   have:l.contains c=true:=by
    rw[dp]at h;rcases Bool.or_eq_true_iff.1 h with e|e
    ·simp at hb e;exact absurd e.symm hb
    ·exact e
   simp;exact ih this
  ·simp
theorem G3(c:UInt8)(l:L):l.take (l.takeWhile (· !=c)).length=l.takeWhile (· !=c):=by
 obtain⟨r,hr⟩:=List.takeWhile_prefix (· !=c) (l:=l)
 conv=>lhs;arg 2;rw[<-hr]
 simp
theorem NW{c:UInt8}(h:l.contains c=true)(hl:l.length<=500)(w:World):Z4 230 #[.string (bs l),.string (bs [c])] w fun e w'=>e=.returned (.tuple #[.string (bs (l.takeWhile (· !=c))),.string (bs (l.drop ((l.takeWhile (· !=c)).length+1))),.bool true])/\Z5 w w':=by
 have HI:=a_ (En l c w);rw[tq,if_pos h]at HI;have hc:=uh h;have ht:=p_ l (l.takeWhile (· !=c)).length (by omega);rw[G3]at ht;have hz:(bs [c]).size=1:=rfl;have hr:∀W,(Instr.slice 9 (.string (bs l)) (some (.int .i64 (((l.takeWhile (· !=c)).length:Int)+1))) none none).run prog W=.ok (.string (bs (l.drop ((l.takeWhile (· !=c)).length+1)))) W:=fun W=>by
  have:=rj (aO l) ((l.takeWhile (· !=c)).length+1) (by omega) W;simpa using this
 have hwr:IntKind.i64.wrap (((l.takeWhile (· !=c)).length:Int)+1)=((l.takeWhile (· !=c)).length:Int)+1:=by rw[aM];omega
 generalize l.takeWhile (· !=c)=T at*
 generalize l.drop (T.length+1)=D at*
 have CA:decide ((T.length:Int)≥0)=true:=by simp
 have abw:(0:Int)<=(T.length:Int):=by omega
 generalize bs [c]=S at*
 generalize T.length=k at*
 have HB:Hid (∀k,Z5 w (w.drewN k)):=fun k=>⟨rfl,rfl,rfl,au _,fun _ _=>rfl⟩
 clear h hc;go_enter func230,ntmps230;go_wp2_with(go_at_call 231;refine HI.out.mono ?_;rintro e w1 ⟨rfl,hw⟩;have hw':=hw.symm;clear hw;subst hw');go_quiet(fail);go_wp2;refine aJ (v:=.tuple #[.string (bs T),.string (bs D),.bool true]) (by simp[results,results230,go_sem]) rfl ⟨rfl,HB.out _⟩
theorem RP{c:UInt8}(h:l.contains c=false)(w:World):Z4 230 #[.string (bs l),.string (bs [c])] w (Z7 (.tuple #[.string (bs l),.string (bs []),.bool false]) w):=by
 have HI:=a_ (En l c w);rw[tq,if_neg (by rw[h];simp)]at HI;generalize bs [c]=S at*
 have HB:Hid (∀k,Z5 w (w.drewN k)):=fun k=>⟨rfl,rfl,rfl,au _,fun _ _=>rfl⟩
 have HB0:Hid (Z5 w w):=Below.refl _ _;clear h;go_enter func230,ntmps230;go_wp2_with(go_at_call 231;refine HI.out.mono ?_;rintro e w1 ⟨rfl,hw⟩;have hw':=hw.symm;clear hw;subst hw');first
  |(go_quiet(fail);go_wp2;refine aJ (v:=.tuple #[.string (bs l),.string (bs []),.bool false]) (by simp[results,results230,go_sem];rfl) rfl ⟨rfl,HB.out _⟩)
  |refine aJ (v:=.tuple #[.string (bs l),.string (bs []),.bool false]) (by simp[results,results230,go_sem];rfl) rfl ⟨rfl,HB0.out⟩
theorem JK{c:UInt8}(w:World)(x y:Value)(b:Bool)(h:Z4 230 #[.string (bs l),.string (bs [c])] w (Z7 (.tuple #[x,y,.bool b]) w)):
  Z4 229 #[.string (bs l),.string (bs [c])] w (Z7 (.tuple #[x,y,.bool b]) w):=by
 have HI:=a_ h;generalize bs [c]=S at*
 clear h;go_enter func229,ntmps229;go_wp2_with(go_at_call 230;refine HI.out.mono ?_;rintro e w1 ⟨rfl,hw⟩);refine aJ (v:=.tuple #[x,y,.bool b]) (by simp[results,results229,go_sem]) rfl ⟨rfl,hw⟩
end
section
variable{w w' w1 w2:World}{F G:Nat->Prop}{R:Nat}{t l l':L}{wh n:Nat}
theorem G4{c:UInt8}{l:L}(h:(l.drop 1).contains c=true):(jz c l).length+2<=l.length:=by
 have:=uh h;rw[b9]at this;unfold jz;omega
theorem wL{c:UInt8}{b1:Bool}(h:RD R t wh n w l)(hp:part l=[c])(h1:((bs [c]).toList==[34])=b1)(h2:b1=false->((bs [c]).toList==[39])=true):Z4 223 #[ptr R] w (Ends R t wh n VS w (kH (ei t wh) c l)):=by
 have uj:1<=l.length:=by have:=x_ l;rw[hp]at this;simpa using this
 have HP:=a_ (jA h);rw[hp]at HP;have hr:∀W,(Instr.slice 9 (.string (bs t)) (some (.int .i64 (((t.length-l.length:Nat):Int)+1))) none none).run prog W=.ok (.string (bs (l.drop 1))) W:=rj h.xh 1 uj;have n1:IntKind.i64.wrap (((t.length-l.length:Nat):Int)+1)=((t.length-l.length:Nat):Int)+1:=(rk t l 1 h.xh (by have:=h.tw;have:=h.Cz;omega) uj).1;have HC:Hid (∀W,Z5 w W->W.cell? ⟨R,0,none⟩=some (.string (bs t))/\W.cell? ⟨R,2,none⟩=some (.int .i64 ((t.length-l.length:Nat):Int))):=fun W hW=>⟨cell_of (h.below hW).blk rfl,cell_of (h.below hW).blk rfl⟩
 have hlen:(l.drop 1).length<=500:=by have:=h.le;have:=h.tw;have:=h.Cz;rw[b9];omega
 by_cases hq:(l.drop 1).contains c=true
 ·have e1:kH (ei t wh) c l=.ok (jz c l,pass ((jz c l).length+2) l):=by unfold kH;rw[if_pos hq]
  rw[e1];have hqp:=G4 hq;have HK:Hid (∀W,Z4 229 #[.string (bs (l.drop 1)),.string (bs [c])] W fun e w'=>(∃y,e=.returned (.tuple #[.string (bs (jz c l)),y,.bool true]))/\Z5 W w'):=fun W=>(JK W _ _ _ (NW hq hlen W)).mono fun e w' x=>⟨⟨_,x.1⟩,x.2⟩
  have Vb:Hid (∀W,Z5 w W->Z4 84 #[ptr R,.int .i64 (((jz c l).length:Int)+2)] W fun e w'=>e=.returned (.tuple #[])/\RD R t wh n w' (pass ((jz c l).length+2) l)/\Fr (fun k=>k=R) W w'):=fun W hW=>by have:=xD ((jz c l).length+2) (h.below hW) hqp;rw[dC]at this;exact this
  have hwr:IntKind.i64.wrap (((jz c l).length:Int)+2)=((jz c l).length:Int)+2:=by have:=h.le;have:=h.tw;have:=h.Cz;rw[aM];omega
  have hz:=gY (jz c l);generalize ((t.length-l.length:Nat):Int)=at_ at*
  generalize jz c l=T at*
  generalize hX:pass (T.length+2) l=X at*
  generalize bs [c]=S at*
  generalize l.drop 1=D at*
  clear h hp hq e1 hqp uj hlen hX;cases b1 with
  |true=>
   clear h2;go_enter func223,ntmps223;go_wp2_with(go_at_call 135;refine HP.out.mono ?_;rintro e w1 ⟨rfl,hb⟩;obtain⟨c0,c2⟩:=HC.out _ hb);go_region_held3 (fun W=>W.cell? ⟨R,0,none⟩=some (.string (bs t))/\W.cell? ⟨R,2,none⟩=some (.int .i64 at_))
    (first|exact⟨c0,c2⟩|exact HC.out _ hb2)
    (first|(go_at_call 229;refine(HK.out _).mono ?_;rintro e w3 ⟨⟨y,rfl⟩,hb3⟩;have hb2:Z5 w w3:=zR hb ⟨hb3.os,hb3.tape,hb3.output,hb3.size,hb3.block⟩;clear hb3))
   all_goals
    go_wp2_with(go_at_call 84;refine(Vb.out _ hb2).mono ?_;rintro e w4 ⟨rfl,rd,fr⟩);go_ret;exact⟨_,rfl,rfl,rd,(Fr.below hb2).same fr⟩
  |false=>
   have h3:=h2 rfl;clear h2;go_enter func223,ntmps223;go_wp2_with(go_at_call 135;refine HP.out.mono ?_;rintro e w1 ⟨rfl,hb⟩;obtain⟨c0,c2⟩:=HC.out _ hb);go_region_held3 (fun W=>W.cell? ⟨R,0,none⟩=some (.string (bs t))/\W.cell? ⟨R,2,none⟩=some (.int .i64 at_))
    (first|exact⟨c0,c2⟩|exact HC.out _ hb2)
    (first|(go_at_call 229;refine(HK.out _).mono ?_;rintro e w3 ⟨⟨y,rfl⟩,hb3⟩;have hb2:Z5 w w3:=zR hb ⟨hb3.os,hb3.tape,hb3.output,hb3.size,hb3.block⟩;clear hb3))
   all_goals
    go_wp2_with(go_at_call 84;refine(Vb.out _ hb2).mono ?_;rintro e w4 ⟨rfl,rd,fr⟩);go_ret;exact⟨_,rfl,rfl,rd,(Fr.below hb2).same fr⟩
 ·have hq':(l.drop 1).contains c=false:=by simpa using hq
  have e1:kH (ei t wh) c l=.error (bad (ei t wh) []):=by unfold kH;rw[if_neg hq]
  rw[e1];have HK:Hid (∀W,Z4 229 #[.string (bs (l.drop 1)),.string (bs [c])] W fun e w'=>(∃x y,e=.returned (.tuple #[.string x,y,.bool false]))/\Z5 W w'):=fun W=>(JK W _ _ _ (RP hq' W)).mono fun e w' x=>⟨⟨_,_,x.1⟩,x.2⟩
  have hE:∀W,Z5 w W->W.frozen? ⟨R,2,none⟩=false/\(∃W',W.setCell ⟨R,2,none⟩ (.int .i64 (t.length:Int))=W'/\Fr (fun k=>k=R) w W'/\Z4 87 #[ptr R] W' (ou R t (bad (ei t wh) []) W')):=fun W hW=>by
   have hb:=(h.below hW).blk;refine⟨dY hb,_,rfl,(Fr.below hW).set _ _ (fun _=>rfl),uf (n:=n) ⟨?_,List.nil_suffix,h.tw,h.Cz,h.n8⟩⟩;rw[eh hb];simp
  have HE:=a_ hE;have hz:=gY t;generalize ((t.length-l.length:Nat):Int)=at_ at*
  generalize bs [c]=S at*
  generalize l.drop 1=D at*
  clear h hp hq e1 uj hlen hE hq';cases b1 with
  |true=>
   clear h2;go_enter func223,ntmps223;go_wp2_with(go_at_call 135;refine HP.out.mono ?_;rintro e w1 ⟨rfl,hb⟩;obtain⟨c0,c2⟩:=HC.out _ hb);go_region_held3 (fun W=>W.cell? ⟨R,0,none⟩=some (.string (bs t))/\W.cell? ⟨R,2,none⟩=some (.int .i64 at_))
    (first|exact⟨c0,c2⟩|exact HC.out _ hb2)
    (first|(go_at_call 229;refine(HK.out _).mono ?_;rintro e w3 ⟨⟨x,y,rfl⟩,hb3⟩;have hb2:Z5 w w3:=zR hb ⟨hb3.os,hb3.tape,hb3.output,hb3.size,hb3.block⟩;clear hb3))
   all_goals
    obtain⟨d0,d2⟩:=HC.out _ hb2;obtain⟨f2,W',hW',Nr,Us⟩:=HE.out _ hb2;have RO:=a_ Us;clear Us;go_wp2_with(first|(go_at_call 87;refine(RO.out).mono ?_;rintro e w4 ⟨rfl,fr⟩));exact⟨rfl,rfl,Nr.same fr⟩
  |false=>
   have h3:=h2 rfl;clear h2;go_enter func223,ntmps223;go_wp2_with(go_at_call 135;refine HP.out.mono ?_;rintro e w1 ⟨rfl,hb⟩;obtain⟨c0,c2⟩:=HC.out _ hb);go_region_held3 (fun W=>W.cell? ⟨R,0,none⟩=some (.string (bs t))/\W.cell? ⟨R,2,none⟩=some (.int .i64 at_))
    (first|exact⟨c0,c2⟩|exact HC.out _ hb2)
    (first|(go_at_call 229;refine(HK.out _).mono ?_;rintro e w3 ⟨⟨x,y,rfl⟩,hb3⟩;have hb2:Z5 w w3:=zR hb ⟨hb3.os,hb3.tape,hb3.output,hb3.size,hb3.block⟩;clear hb3))
   all_goals
    obtain⟨d0,d2⟩:=HC.out _ hb2;obtain⟨f2,W',hW',Nr,Us⟩:=HE.out _ hb2;have RO:=a_ Us;clear Us;go_wp2_with(first|(go_at_call 87;refine(RO.out).mono ?_;rintro e w4 ⟨rfl,fr⟩));exact⟨rfl,rfl,Nr.same fr⟩
theorem AJ(h:RD R t wh n w l):Z4 223 #[ptr R] w (Ends R t wh n VS w (quoted (ei t wh) l)):=by
 unfold quoted;by_cases h1:part l=[34]
 ·rw[if_pos h1];exact wL (b1:=true) h h1 (by rw[fe];rfl) (fun e=>by cases e)
 ·rw[if_neg h1];by_cases h2:part l=[39]
  ·rw[if_pos h2];exact wL (b1:=false) h h2 (by rw[fe];rfl) (fun e=>by rw[fe];rfl)
  ·rw[if_neg h2];have HP:=a_ (jA h);have HA:Hid (∀W,Z5 w W->Z4 87 #[ptr R] W (ou R t (bad (ei t wh) l) W)):=fun W hW=>uf (h.below hW);have e1:((bs (part l)).toList==[34])=false:=by rw[fe];simpa using h1
   have e2:((bs (part l)).toList==[39])=false:=by rw[fe];simpa using h2
   generalize bs (part l)=S at*
   clear h h1 h2;go_enter func223,ntmps223;go_wp2_with(first|(go_at_call 135;refine HP.out.mono ?_;rintro e w1 ⟨rfl,hb⟩)|(go_at_call 87;refine(HA.out _ hb).mono ?_;rintro e w2 ⟨rfl,fr⟩));exact⟨rfl,rfl,(Fr.below hb).same fr⟩
end
section
variable{w w' w1 w2:World}{F G:Nat->Prop}{R:Nat}{t l l':L}{wh n:Nat}
theorem uk(p:L)(h:RD R t wh n w l):Z4 179 #[ptr R,.string ⟨p.toArray⟩] w fun e w'=>match want (ei t wh) p l with
  | .ok l'=>e=.returned (.tuple #[])/\RD R t wh n w' l'/\Fr (fun k=>k=R) w w'
  | .error y=>ou R t y w e w':=by
 unfold want;by_cases hp:part l=p
 ·rw[if_pos hp];exact NV h hp
 ·rw[if_neg hp];exact RN h hp
theorem oP(p:L)(h:RD R t wh n w l)(b:Bool)(hb:decide (part l=p)=b):Z4 86 #[ptr R,.string ⟨p.toArray⟩] w fun e w'=>e=.returned (.bool b)/\RD R t wh n w' (if b=true then pass p.length l else l)/\Fr (fun k=>k=R) w w':=by
 cases b with
 |true=>exact Em h (by simpa using hb)
 |false=>exact(JH h (by simpa using hb)).mono fun e w' x=>⟨x.1,h.below x.2,Fr.below x.2⟩
theorem qc(h:RD R t wh n w l):Z4 133 #[ptr R] w (Ends R t wh n VB w (iy (ei t wh) l)):=by
 obtain⟨b,hb⟩:∃b,decide (part l=[47,47])=b:=⟨_,rfl⟩
 have HT:=a_ (oP [47,47] h b hb);cases b with
 |true=>
  rw[iy,if_pos (by simpa using hb)];clear h hb;go_enter func133,ntmps133;go_wp2_with(first|(go_at_call 86;refine HT.out.mono ?_;rintro e w1 ⟨rfl,rd,fr⟩));go_ret;exact⟨_,rfl,rfl,rd,fr⟩
 |false=>
  rw[iy,if_neg (by simpa using hb)];have HW:Hid (∀W,RD R t wh n W l->Z4 179 #[ptr R,.string ⟨#[47]⟩] W fun e w'=>match want (ei t wh) [47] l with
   | .ok l'=>e=.returned (.tuple #[])/\RD R t wh n w' l'/\Fr (fun k=>k=R) W w'
   | .error y=>ou R t y W e w'):=fun W hW=>uk [47] hW
  clear h hb;cases hx:want (ei t wh) [47] l with
  |error y=>
   simp only[hx]at HW;simp only[oM];clear hx;go_enter func133,ntmps133;go_wp2_with(first|(go_at_call 86;refine HT.out.mono ?_;rintro e w1 ⟨rfl,rd,fr⟩)|(go_at_call 179;refine(HW.out _ rd).mono ?_;rintro e w2 ⟨rfl,lI⟩));exact⟨rfl,rfl,fr.same lI⟩
  |ok l1=>
   simp only[hx]at HW;simp only[oM];clear hx;go_enter func133,ntmps133;go_wp2_with(first|(go_at_call 86;refine HT.out.mono ?_;rintro e w1 ⟨rfl,rd,fr⟩)|(go_at_call 179;refine(HW.out _ rd).mono ?_;rintro e w2 ⟨rfl,r_,lI⟩));go_ret;exact⟨_,rfl,rfl,r_,fr.same lI⟩
theorem JL(h:RD R t wh n w l):Z4 225 #[ptr R] w (Ends R t wh n VS w (attr (ei t wh) l)):=by
 have HW:=a_ (uk [64] h);unfold attr;cases hx:want (ei t wh) [64] l with
 |error y=>
  simp only[hx]at HW;simp only[oM];clear hx h;go_enter func225,ntmps225;go_wp2_with(first|(go_at_call 179;refine(HW.out).mono ?_;rintro e w2 ⟨rfl,lI⟩));exact⟨rfl,rfl,lI⟩
 |ok l1=>
  simp only[hx]at HW;simp only[oM];have HN:Hid (∀W,RD R t wh n W l1->Z4 199 #[ptr R] W (Ends R t wh n VS W (name (ei t wh) l1))):=fun W hW=>ug hW;clear hx h;cases hy:name (ei t wh) l1 with
  |error y=>
   rw[hy]at HN;clear hy;go_enter func225,ntmps225;go_wp2_with(first|(go_at_call 179;refine(HW.out).mono ?_;rintro e w2 ⟨rfl,rd,fr⟩)|(go_at_call 199;refine(HN.out _ rd).mono ?_;rintro e w3 ⟨rfl,lI⟩));exact⟨rfl,rfl,fr.same lI⟩
  |ok z=>
   obtain⟨a,l2⟩:=z;rw[hy]at HN;clear hy;go_enter func225,ntmps225;go_wp2_with(first|(go_at_call 179;refine(HW.out).mono ?_;rintro e w2 ⟨rfl,rd,fr⟩)|(go_at_call 199;refine(HN.out _ rd).mono ?_;rintro e w3 ⟨v,rfl,rfl,r_,lI⟩));go_ret;exact⟨_,rfl,rfl,r_,fr.same lI⟩
end
section
variable{w w' w1 w2:World}{F G:Nat->Prop}{R:Nat}{t l l':L}{wh n:Nat}
theorem rp{p l1:L}(hx:want (ei t wh) p l=.ok l1)(h:RD R t wh n w l):Z4 179 #[ptr R,.string ⟨p.toArray⟩] w fun e w'=>e=.returned (.tuple #[])/\RD R t wh n w' l1/\Fr (fun k=>k=R) w w':=by have:=uk p h;simpa only[hx]using this
theorem rq{p:L}{y:Nat×Nat}(hx:want (ei t wh) p l=.error y)(h:RD R t wh n w l):Z4 179 #[ptr R,.string ⟨p.toArray⟩] w fun e w'=>e=lZ y.1 y.2 t/\Fr (fun k=>k=R) w w':=by have:=uk p h;simp only[hx]at this;exact this
theorem RQ(h:RD R t wh n w l):Z4 175 #[ptr R] w (Ends R t wh n VS w (test (ei t wh) l)):=by
 obtain⟨b,hb⟩:∃b,decide (part l=[42])=b:=⟨_,rfl⟩
 have HT:=a_ (oP [42] h b hb);cases b with
 |true=>
  rw[test,if_pos (by simpa using hb)];clear h hb;go_enter func175,ntmps175;go_wp2_with(first|(go_at_call 86;refine(HT.out).mono ?_;rintro e w1 ⟨rfl,CB,xl⟩));go_ret;exact⟨_,rfl,rfl,CB,xl⟩
 |false=>
  rw[test,if_neg (by simpa using hb)];obtain⟨c,hc⟩:∃c,calls AF l=c:=⟨_,rfl⟩
  have HC:Hid (∀W,RD R t wh n W l->Z4 198 #[ptr R,.string ⟨#[116,101,120,116]⟩] W (Z7 (.bool c) W)):=fun W hW=>by have:=ya AF hW;rw[hc]at this;exact this
  clear h hb;cases c with
  |false=>
   rw[if_neg (by rw[hc];simp)];have HN:Hid (∀W,RD R t wh n W l->Z4 199 #[ptr R] W (Ends R t wh n VS W (name (ei t wh) l))):=fun W hW=>ug hW;clear hc;cases hy:name (ei t wh) l with
   |error y=>
    rw[hy]at HN;clear hy;go_enter func175,ntmps175;go_wp2_with(first|(go_at_call 199;refine(HN.out _ r_).mono ?_;rintro e w3 ⟨rfl,jy⟩)|(go_at_call 198;refine(HC.out _ CB).mono ?_;rintro e w2 ⟨rfl,hb2⟩;have r_:=CB.below hb2;have lI:=xl.on hb2)|(go_at_call 86;refine(HT.out).mono ?_;rintro e w1 ⟨rfl,CB,xl⟩));exact⟨rfl,rfl,lI.same jy⟩
   |ok z=>
    obtain⟨a,l2⟩:=z;rw[hy]at HN;clear hy;go_enter func175,ntmps175;go_wp2_with(first|(go_at_call 199;refine(HN.out _ r_).mono ?_;rintro e w3 ⟨v,rfl,rfl,tu,jy⟩)|(go_at_call 198;refine(HC.out _ CB).mono ?_;rintro e w2 ⟨rfl,hb2⟩;have r_:=CB.below hb2;have lI:=xl.on hb2)|(go_at_call 86;refine(HT.out).mono ?_;rintro e w1 ⟨rfl,CB,xl⟩));go_ret;exact⟨_,rfl,rfl,tu,lI.same jy⟩
  |true=>
   rw[if_pos hc];clear hc;cases hx1:want (ei t wh) [116,101,120,116] l with
   |error y=>
    have W1:Hid (∀W,RD R t wh n W l->Z4 179 #[ptr R,.string ⟨#[116,101,120,116]⟩] W fun e w'=>e=lZ y.1 y.2 t/\Fr (fun k=>k=R) W w'):=fun W hW=>rq hx1 hW;simp only[oM];clear hx1;go_enter func175,ntmps175;go_wp2_with(first|(go_at_call 179;refine(W1.out _ r_).mono ?_;rintro e w9 ⟨rfl,X8⟩)|(go_at_call 198;refine(HC.out _ CB).mono ?_;rintro e w2 ⟨rfl,hb2⟩;have r_:=CB.below hb2;have lI:=xl.on hb2)|(go_at_call 86;refine(HT.out).mono ?_;rintro e w1 ⟨rfl,CB,xl⟩));exact⟨rfl,rfl,lI.same X8⟩
   |ok l1=>
    have W1:Hid (∀W,RD R t wh n W l->Z4 179 #[ptr R,.string ⟨#[116,101,120,116]⟩] W fun e w'=>e=.returned (.tuple #[])/\RD R t wh n w' l1/\Fr (fun k=>k=R) W w'):=fun W hW=>rp hx1 hW;simp only[oM];clear hx1;cases hx2:want (ei t wh) [40] l1 with
    |error y=>
     have W2:Hid (∀W,RD R t wh n W l1->Z4 179 #[ptr R,.string ⟨#[40]⟩] W fun e w'=>e=lZ y.1 y.2 t/\Fr (fun k=>k=R) W w'):=fun W hW=>rq hx2 hW;simp only[oM];clear hx2;go_enter func175,ntmps175;go_wp2_with(first|(go_at_call 179;refine(W2.out _ tu).mono ?_;rintro e w9 ⟨rfl,X8⟩)|(go_at_call 179;refine(W1.out _ r_).mono ?_;rintro e w3 ⟨rfl,tu,jy⟩;have jy:=lI.same jy)|(go_at_call 198;refine(HC.out _ CB).mono ?_;rintro e w2 ⟨rfl,hb2⟩;have r_:=CB.below hb2;have lI:=xl.on hb2)|(go_at_call 86;refine(HT.out).mono ?_;rintro e w1 ⟨rfl,CB,xl⟩));exact⟨rfl,rfl,jy.same X8⟩
    |ok l2=>
     have W2:Hid (∀W,RD R t wh n W l1->Z4 179 #[ptr R,.string ⟨#[40]⟩] W fun e w'=>e=.returned (.tuple #[])/\RD R t wh n w' l2/\Fr (fun k=>k=R) W w'):=fun W hW=>rp hx2 hW;simp only[oM];clear hx2;cases hx3:want (ei t wh) [41] l2 with
     |error y=>
      have W3:Hid (∀W,RD R t wh n W l2->Z4 179 #[ptr R,.string ⟨#[41]⟩] W fun e w'=>e=lZ y.1 y.2 t/\Fr (fun k=>k=R) W w'):=fun W hW=>rq hx3 hW;simp only[oM];clear hx3;go_enter func175,ntmps175;go_wp2_with(first|(go_at_call 179;refine(W3.out _ jf).mono ?_;rintro e w9 ⟨rfl,X8⟩)|(go_at_call 179;refine(W2.out _ tu).mono ?_;rintro e w4 ⟨rfl,jf,iz⟩;have iz:=jy.same iz)|(go_at_call 179;refine(W1.out _ r_).mono ?_;rintro e w3 ⟨rfl,tu,jy⟩;have jy:=lI.same jy)|(go_at_call 198;refine(HC.out _ CB).mono ?_;rintro e w2 ⟨rfl,hb2⟩;have r_:=CB.below hb2;have lI:=xl.on hb2)|(go_at_call 86;refine(HT.out).mono ?_;rintro e w1 ⟨rfl,CB,xl⟩));exact⟨rfl,rfl,iz.same X8⟩
     |ok l3=>
      have W3:Hid (∀W,RD R t wh n W l2->Z4 179 #[ptr R,.string ⟨#[41]⟩] W fun e w'=>e=.returned (.tuple #[])/\RD R t wh n w' l3/\Fr (fun k=>k=R) W w'):=fun W hW=>rp hx3 hW;simp only[oM];clear hx3;go_enter func175,ntmps175;go_wp2_with(first|(go_at_call 179;refine(W3.out _ jf).mono ?_;rintro e w5 ⟨rfl,sf,lJ⟩;have lJ:=iz.same lJ)|(go_at_call 179;refine(W2.out _ tu).mono ?_;rintro e w4 ⟨rfl,jf,iz⟩;have iz:=jy.same iz)|(go_at_call 179;refine(W1.out _ r_).mono ?_;rintro e w3 ⟨rfl,tu,jy⟩;have jy:=lI.same jy)|(go_at_call 198;refine(HC.out _ CB).mono ?_;rintro e w2 ⟨rfl,hb2⟩;have r_:=CB.below hb2;have lI:=xl.on hb2)|(go_at_call 86;refine(HT.out).mono ?_;rintro e w1 ⟨rfl,CB,xl⟩));go_ret;exact⟨_,rfl,rfl,sf,lJ⟩
end
section
def gh.len:gh->Nat
 | .nil=>0
 | .cons _ _ _ m=>m.len+1
def gR.len:gR->Nat
 | .nil=>0
 | .cons _ _ _ _ _ m=>m.len+1
def sl(w:World)(A:Nat->Prop)(e:TypeId)(v:Value)(n:Nat)(k:Nat->Prop):Prop:=
 (n=0/\v=fh)\/∃g cap cur,v=Z9 g n cap/\A g/\w.heap[g]?=some (.cells cur e (0,0))/\n<=1000/\(0<n/\n<=cap)/\k g
mutual
def ow(w:World)(A:Nat->Prop)(tS tP:TypeId):Nat->Nat->gh->Prop
 |_,_,.nil=>True
 |g,i,.cons d t ps m=>w.cell? ⟨g,i*3,none⟩=some (.bool d)/\w.cell? ⟨g,i*3+1,none⟩=some (.string (bs t))/\
  (∃v,w.cell? ⟨g,i*3+2,none⟩=some v/\sl w A tP v ps.len fun g=>lf w A tS tP g 0 ps)/\ow w A tS tP g (i+1) m
def lf(w:World)(A:Nat->Prop)(tS tP:TypeId):Nat->Nat->gR->Prop
 |_,_,.nil=>True
 |g,i,.cons op ks ss at_ tx m=>w.cell? ⟨g,i*5,none⟩=some (.string (bs op))/\
  (∃v,w.cell? ⟨g,i*5+1,none⟩=some v/\sl w A tP v ks.len fun g=>lf w A tS tP g 0 ks)/\
  (∃v,w.cell? ⟨g,i*5+2,none⟩=some v/\sl w A tS v ss.len fun g=>ow w A tS tP g 0 ss)/\
  w.cell? ⟨g,i*5+3,none⟩=some (.string (bs at_))/\w.cell? ⟨g,i*5+4,none⟩=some (.string (bs tx))/\lf w A tS tP g (i+1) m
end
def qd(w:World)(A:Nat->Prop)(tS tP:TypeId)(v:Value)(s:gh):Prop:=sl w A tS v s.len fun g=>ow w A tS tP g 0 s
def pV(w:World)(A:Nat->Prop)(tS tP:TypeId)(v:Value)(s:gR):Prop:=sl w A tP v s.len fun g=>lf w A tS tP g 0 s
variable{w w' w1 w2:World}{A A' B:Nat->Prop}{tS tP:TypeId}{v:Value}
theorem sl.shape{e:TypeId}{n:Nat}{k:Nat->Prop}(h:sl w A e v n k):∃ai cap,v=.slice ai n cap:=by
 rcases h with⟨rfl,rfl⟩|⟨g,cap,cur,rfl,_⟩
 ·exact⟨_,_,rfl⟩
 ·exact⟨_,_,rfl⟩
def Move(A A':Nat->Prop)(w w':World):Prop:=∀b,A b->b<w.heap.size->A' b/\w'.heap[b]?=w.heap[b]?
theorem sl.move(hm:Move A A' w w'){e:TypeId}{n:Nat}{k k':Nat->Prop}(h:sl w A e v n k)(hk:∀g,A g->g<w.heap.size->k g->k' g):sl w' A' e v n k':=by
 rcases h with h|⟨g,cap,cur,hv,ha,hg,hn,h0,hr⟩
 ·exact Or.inl h
 ·obtain⟨h1,h2⟩:=hm g ha (dQ hg);exact Or.inr ⟨g,cap,cur,hv,h1,h2.trans hg,hn,h0,hk g ha (dQ hg) hr⟩
mutual
theorem ow.move(hm:Move A A' w w'):∀(s:gh) (g i:Nat),w'.heap[g]?=w.heap[g]?->ow w A tS tP g i s->ow w' A' tS tP g i s
 | .nil,_,_,_,_=>by simp only[ow]
 | .cons d t ps m,g,i,hg,h=>by
  simp only[ow]at h ⊢;obtain⟨h0,h1,⟨v,h2,h3⟩,h4⟩:=h;have up:∀j u,w.cell? ⟨g,j,none⟩=some u->w'.cell? ⟨g,j,none⟩=some u:=fun j u hj=>(ar hg).trans hj;exact⟨up _ _ h0,up _ _ h1,⟨v,up _ _ h2,h3.move hm fun g' ha hl hr=>lf.move hm ps g' 0 (hm g' ha hl).2 hr⟩,ow.move hm m g (i+1) hg h4⟩
theorem lf.move(hm:Move A A' w w'):∀(s:gR) (g i:Nat),w'.heap[g]?=w.heap[g]?->lf w A tS tP g i s->lf w' A' tS tP g i s
 | .nil,_,_,_,_=>by simp only[lf]
 | .cons op ks ss at_ tx m,g,i,hg,h=>by
  simp only[lf]at h ⊢;obtain⟨h0,⟨v,h1,h2⟩,⟨u,h3,h4⟩,h5,h6,h7⟩:=h;have up:∀j u,w.cell? ⟨g,j,none⟩=some u->w'.cell? ⟨g,j,none⟩=some u:=fun j u hj=>(ar hg).trans hj;exact⟨up _ _ h0,⟨v,up _ _ h1,h2.move hm fun g' ha hl hr=>lf.move hm ks g' 0 (hm g' ha hl).2 hr⟩,⟨u,up _ _ h3,h4.move hm fun g' ha hl hr=>ow.move hm ss g' 0 (hm g' ha hl).2 hr⟩,up _ _ h5,up _ _ h6,lf.move hm m g (i+1) hg h7⟩
end
theorem qd.move(hm:Move A A' w w'){s:gh}(h:qd w A tS tP v s):qd w' A' tS tP v s:=sl.move hm h fun g ha hl hr=>ow.move hm s g 0 (hm g ha hl).2 hr
theorem pV.move(hm:Move A A' w w'){s:gR}(h:pV w A tS tP v s):pV w' A' tS tP v s:=sl.move hm h fun g ha hl hr=>lf.move hm s g 0 (hm g ha hl).2 hr
def SV(A:Nat->Prop)(tS tP:TypeId)(w:World)(v:Value)(s:iE):Prop:=∃vp,v=.agg #[.bool s.deep,.string (bs s.test),vp]/\pV w A tS tP vp s.gu
def PV(A:Nat->Prop)(tS tP:TypeId)(w:World)(v:Value)(p:gz):Prop:=∃vk vs,v=.agg #[.string (bs p.op),vk,vs,.string (bs p.attr),.string (bs p.text)]/\pV w A tS tP vk p.kids/\qd w A tS tP vs p.steps
def gZ(l:List (iE×Value)):List Value:=l.flatMap fun x=>[.bool x.1.deep,.string (bs x.1.test),x.2]
def jl(l:List (gz×Value×Value)):List Value:=l.flatMap fun x=>[.string (bs x.1.op),x.2.1,x.2.2,.string (bs x.1.attr),.string (bs x.1.text)]
theorem yb(l:List (gz×Value×Value)):(jl l).length=l.length*5:=by
 induction l with
 |nil=>rfl
 |cons x l ih=>simp only[jl,cE,ax,aC,aI]at*;omega
theorem yc(l:List (iE×Value))(x:iE×Value):gZ (l++[x])=gZ l++[.bool x.1.deep,.string (bs x.1.test),x.2]:=by simp[gZ]
theorem G5(l:List (gz×Value×Value))(x:gz×Value×Value):jl (l++[x])=jl l++[.string (bs x.1.op),x.2.1,x.2.2,.string (bs x.1.attr),.string (bs x.1.text)]:=by simp[jl]
structure GS(lo:Nat)(tS tP:TypeId)(w:World)(v:Value)(l:List iE):Prop where
 ex:∃xs:List (iE×Value),xs.map (·.1)=l/\w.ownsRow 0 tS 3 v l.length (gZ xs)/\∀x∈xs,pV w (fun b=>lo<=b/\some b≠v.ownBlock) tS tP x.2 x.1.gu
 own:∀k,v.ownBlock=some k->lo<=k
structure GP(lo:Nat)(tS tP:TypeId)(w:World)(v:Value)(l:List gz):Prop where
 ex:∃xs:List (gz×Value×Value),xs.map (·.1)=l/\w.ownsRow 0 tP 5 v l.length (jl xs)/\∀x∈xs,pV w (fun b=>lo<=b/\some b≠v.ownBlock) tS tP x.2.1 x.1.kids/\qd w (fun b=>lo<=b/\some b≠v.ownBlock) tS tP x.2.2 x.1.steps
 own:∀k,v.ownBlock=some k->lo<=k
variable{lo:Nat}{l:List iE}{lp:List gz}
theorem GS.zero:GS lo tS tP w fh []:=⟨⟨[],rfl,⟨rfl,Or.inl ⟨rfl,rfl⟩⟩,fun x hx=>by simp at hx⟩,fun k e=>by cases e⟩
theorem GP.zero:GP lo tS tP w fh []:=⟨⟨[],rfl,⟨rfl,Or.inl ⟨rfl,rfl⟩⟩,fun x hx=>by simp at hx⟩,fun k e=>by cases e⟩
theorem GS.fr{F:Nat->Prop}(h:GS lo tS tP w v l)(hf:Fr F w w')(hF:∀k,F k->k<w.heap.size->k<lo):GS lo tS tP w' v l:=by
 obtain⟨xs,h1,h2,h3⟩:=h.ex;have hb:∀b,lo<=b->b<w.heap.size->w'.heap[b]?=w.heap[b]?:=fun b h1 h2=>hf.block b h2 (fun x=>by have:=hF b x h2;omega);exact⟨⟨xs,h1,dW h2 fun k e=>hb k (h.own k e) (ej h2 e),fun x hx=>(h3 x hx).move fun b ha hl=>⟨ha,hb b ha.1 hl⟩⟩,h.own⟩
theorem GP.fr{F:Nat->Prop}(h:GP lo tS tP w v lp)(hf:Fr F w w')(hF:∀k,F k->k<w.heap.size->k<lo):GP lo tS tP w' v lp:=by
 obtain⟨xs,h1,h2,h3⟩:=h.ex;have hb:∀b,lo<=b->b<w.heap.size->w'.heap[b]?=w.heap[b]?:=fun b h1 h2=>hf.block b h2 (fun x=>by have:=hF b x h2;omega);exact⟨⟨xs,h1,dW h2 fun k e=>hb k (h.own k e) (ej h2 e),fun x hx=>⟨(h3 x hx).1.move fun b ha hl=>⟨ha,hb b ha.1 hl⟩,(h3 x hx).2.move fun b ha hl=>⟨ha,hb b ha.1 hl⟩⟩⟩,h.own⟩
theorem CC(g:Nat):∀(ss:List iE) (i:Nat),(∀k s,ss[k]?=some s->w.cell? ⟨g,(i+k)*3,none⟩=some (.bool s.deep)/\w.cell? ⟨g,(i+k)*3+1,none⟩=some (.string (bs s.test))/\∃v,w.cell? ⟨g,(i+k)*3+2,none⟩=some v/\pV w A tS tP v s.gu)->ow w A tS tP g i (gh.of ss)
 |[],i,_=>by simp only[gh.of,ow]
 |s::ss,i,h=>by
  simp only[gh.of,ow];obtain⟨h0,h1,h2⟩:=h 0 s rfl;refine⟨h0,h1,h2,CC g ss (i+1) fun k s hk=>?_⟩;have:=h (k+1) s (by simpa using hk);rwa[show i+(k+1)=i+1+k by omega]at this
theorem JM(g:Nat):∀(ss:List gz) (i:Nat),(∀k s,ss[k]?=some s->w.cell? ⟨g,(i+k)*5,none⟩=some (.string (bs s.op))/\(∃v,w.cell? ⟨g,(i+k)*5+1,none⟩=some v/\pV w A tS tP v s.kids)/\(∃v,w.cell? ⟨g,(i+k)*5+2,none⟩=some v/\qd w A tS tP v s.steps)/\w.cell? ⟨g,(i+k)*5+3,none⟩=some (.string (bs s.attr))/\w.cell? ⟨g,(i+k)*5+4,none⟩=some (.string (bs s.text)))->lf w A tS tP g i (gR.of ss)
 |[],i,_=>by simp only[gR.of,lf]
 |s::ss,i,h=>by
  simp only[gR.of,lf];obtain⟨h0,h1,h2,h3,h4⟩:=h 0 s rfl;refine⟨h0,h1,h2,h3,h4,JM g ss (i+1) fun k s hk=>?_⟩;have:=h (k+1) s (by simpa using hk);rwa[show i+(k+1)=i+1+k by omega]at this
theorem gh.vI:∀ss:List iE,(gh.of ss).len=ss.length
 |[]=>rfl
 |s::ss=>by simp only[gh.of,gh.len,gh.vI ss,aC]
theorem gR.vI:∀ss:List gz,(gR.of ss).len=ss.length
 |[]=>rfl
 |s::ss=>by simp only[gR.of,gR.len,gR.vI ss,aC]
theorem jR:∀(xs:List (iE×Value)) (k:Nat) (x:iE×Value) (c:Nat) (u:Value),xs[k]?=some x->[Value.bool x.1.deep,.string (bs x.1.test),x.2][c]?=some u->(gZ xs)[k*3+c]?=some u
 |[],k,x,c,u,h,_=>by simp at h
 |y::xs,0,x,c,u,h,hc=>by
  obtain rfl:y=x:=by simpa using h
  have hl:c<3:=by have:=(List.getElem?_eq_some_iff.1 hc).1;simpa using this
  show (_++gZ xs)[0*3+c]?=_;rw[aU (by simp;omega)];simpa using hc
 |y::xs,k+1,x,c,u,h,hc=>by
  have:=jR xs k x c u (by simpa using h) hc;show (_++gZ xs)[(k+1)*3+c]?=_;rw[aW (by simp;omega)];rw[<-this];congr 1;simp;omega
theorem mC:∀(xs:List (gz×Value×Value)) (k:Nat) (x:gz×Value×Value) (c:Nat) (u:Value),xs[k]?=some x->[Value.string (bs x.1.op),x.2.1,x.2.2,.string (bs x.1.attr),.string (bs x.1.text)][c]?=some u->(jl xs)[k*5+c]?=some u
 |[],k,x,c,u,h,_=>by simp at h
 |y::xs,0,x,c,u,h,hc=>by
  obtain rfl:y=x:=by simpa using h
  have hl:c<5:=by have:=(List.getElem?_eq_some_iff.1 hc).1;simpa using this
  show (_++jl xs)[0*5+c]?=_;rw[aU (by simp;omega)];simpa using hc
 |y::xs,k+1,x,c,u,h,hc=>by
  have:=mC xs k x c u (by simpa using h) hc;show (_++jl xs)[(k+1)*5+c]?=_;rw[aW (by simp;omega)];rw[<-this];congr 1;simp;omega
theorem iB{e:TypeId}{sz g n cap j:Nat}{xs:List Value}{u:Value}(h:w.ownsRow 0 e sz (Z9 g n cap) n xs)(hj:xs[j]?=some u):w.cell? ⟨g,j,none⟩=some u:=by
 rcases h.2 with⟨e1,_⟩|⟨g',cap',cur,e1,h0,hg,h1,h2,h3,h4⟩
 ·cases e1
 ·cases e1;refine cell_of hg ?_;rw[<-h4,bR]at hj;split at hj
  ·simpa using hj
  ·cases hj
theorem vJ{α β:Type}{f:α->β}{xs:List α}{l:List β}(h:xs.map f=l){k:Nat}{s:β}(hk:l[k]?=some s):∃x,xs[k]?=some x/\f x=s:=by
 rw[<-h,bW]at hk;cases hx:xs[k]? with
 |none=>rw[hx]at hk;cases hk
 |some x=>rw[hx]at hk;exact⟨x,rfl,by simpa using hk⟩
theorem mN{α:Type}{xs:List α}{k:Nat}{x:α}(h:xs[k]?=some x):x∈xs:=bO h
theorem GS.done(h:GS lo tS tP w v l)(hn:l.length<=1000)(hne:l=[]->v=fh):qd w (fun b=>lo<=b) tS tP v (gh.of l):=by
 obtain⟨xs,h1,h2,h3⟩:=h.ex;unfold qd;rw[gh.vI];obtain⟨ai,cap,rfl⟩:=dS h2;rcases h2.2 with⟨e,e2⟩|⟨g,cap',cur,e1,h0,hg,hr⟩
 ·exact Or.inl ⟨e2,e⟩
 ·cases e1;by_cases hz:l.length=0
  ·have:=hne (List.length_eq_zero_iff.1 hz);cases this
  refine Or.inr ⟨g,cap,cur,rfl,h.own g rfl,hg,hn,by omega,CC g l 0 fun k s hk=>?_⟩;obtain⟨x,hx,rfl⟩:=vJ h1 hk;rw[aG];exact⟨iB h2 (jR xs k x 0 _ hx rfl),iB h2 (jR xs k x 1 _ hx rfl),x.2,iB h2 (jR xs k x 2 _ hx rfl),(h3 x (mN hx)).move fun b ha _=>⟨ha.1,rfl⟩⟩
theorem GP.done(h:GP lo tS tP w v lp)(hn:lp.length<=1000)(hne:lp=[]->v=fh):pV w (fun b=>lo<=b) tS tP v (gR.of lp):=by
 obtain⟨xs,h1,h2,h3⟩:=h.ex;unfold pV;rw[gR.vI];obtain⟨ai,cap,rfl⟩:=dS h2;rcases h2.2 with⟨e,e2⟩|⟨g,cap',cur,e1,h0,hg,hr⟩
 ·exact Or.inl ⟨e2,e⟩
 ·cases e1;by_cases hz:lp.length=0
  ·have:=hne (List.length_eq_zero_iff.1 hz);cases this
  refine Or.inr ⟨g,cap,cur,rfl,h.own g rfl,hg,hn,by omega,JM g lp 0 fun k s hk=>?_⟩;obtain⟨x,hx,rfl⟩:=vJ h1 hk;rw[aG];exact⟨iB h2 (mC xs k x 0 _ hx rfl),⟨x.2.1,iB h2 (mC xs k x 1 _ hx rfl),(h3 x (mN hx)).1.move fun b ha _=>⟨ha.1,rfl⟩⟩,⟨x.2.2,iB h2 (mC xs k x 2 _ hx rfl),(h3 x (mN hx)).2.move fun b ha _=>⟨ha.1,rfl⟩⟩,iB h2 (mC xs k x 3 _ hx rfl),iB h2 (mC xs k x 4 _ hx rfl)⟩
theorem GS.push{v':Value}{s:iE}{vp:Value}(h:GS lo tS tP w1 v l){xs:List (iE×Value)}(h1:xs.map (·.1)=l)(h3:∀x∈xs,pV w1 (fun b=>lo<=b/\some b≠v.ownBlock) tS tP x.2 x.1.gu)(hs:pV w1 (fun b=>lo<=b/\some b≠v.ownBlock) tS tP vp s.gu)(py:lo<=w1.heap.size)
  (ho:w2.ownsRow 0 tS 3 v' (l.length+1) (gZ xs++[.bool s.deep,.string (bs s.test),vp])) (hg:w1.grownBy w2 v.ownBlock) (hat:v'.ownBlock=v.ownBlock\/v'.ownBlock=some w1.heap.size):GS lo tS tP w2 v' (l++[s]):=by
 have hm:Move (fun b=>lo<=b/\some b≠v.ownBlock) (fun b=>lo<=b/\some b≠v'.ownBlock) w1 w2:=fun b ha hl=>⟨⟨ha.1,by rcases hat with e|e<;>rw[e];exact ha.2;intro x;cases x;omega⟩,hg.block b hl ha.2⟩
 refine⟨⟨xs++[(s,vp)],by rw[bE,h1];rfl,by rw[ax,yc];exact ho,fun x hx=>?_⟩,fun k e=>?_⟩
 ·rcases List.mem_append.1 hx with hx|hx
  ·exact(h3 x hx).move hm
  ·obtain rfl:x=(s,vp):=by simpa using hx
   exact hs.move hm
 ·rcases hat with x|x
  ·exact h.own k (x▸e)
  ·rw[x]at e;cases e;exact py
theorem GP.push{v':Value}{s:gz}{vk vs:Value}(h:GP lo tS tP w1 v lp){xs:List (gz×Value×Value)}(h1:xs.map (·.1)=lp)(h3:∀x∈xs,pV w1 (fun b=>lo<=b/\some b≠v.ownBlock) tS tP x.2.1 x.1.kids/\qd w1 (fun b=>lo<=b/\some b≠v.ownBlock) tS tP x.2.2 x.1.steps)
  (hs:pV w1 (fun b=>lo<=b/\some b≠v.ownBlock) tS tP vk s.kids/\qd w1 (fun b=>lo<=b/\some b≠v.ownBlock) tS tP vs s.steps) (py:lo<=w1.heap.size)
  (ho:w2.ownsRow 0 tP 5 v' (lp.length+1) (jl xs++[.string (bs s.op),vk,vs,.string (bs s.attr),.string (bs s.text)])) (hg:w1.grownBy w2 v.ownBlock) (hat:v'.ownBlock=v.ownBlock\/v'.ownBlock=some w1.heap.size):GP lo tS tP w2 v' (lp++[s]):=by
 have hm:Move (fun b=>lo<=b/\some b≠v.ownBlock) (fun b=>lo<=b/\some b≠v'.ownBlock) w1 w2:=fun b ha hl=>⟨⟨ha.1,by rcases hat with e|e<;>rw[e];exact ha.2;intro x;cases x;omega⟩,hg.block b hl ha.2⟩
 refine⟨⟨xs++[(s,vk,vs)],by rw[bE,h1];rfl,by rw[ax,G5];exact ho,fun x hx=>?_⟩,fun k e=>?_⟩
 ·rcases List.mem_append.1 hx with hx|hx
  ·exact⟨(h3 x hx).1.move hm,(h3 x hx).2.move hm⟩
  ·obtain rfl:x=(s,vk,vs):=by simpa using hx
   exact⟨hs.1.move hm,hs.2.move hm⟩
 ·rcases hat with x|x
  ·exact h.own k (x▸e)
  ·rw[x]at e;cases e;exact py
end
section
variable{w w' w1 w2:World}{F G:Nat->Prop}{R:Nat}{t l l':L}{wh n:Nat}
def Lays{α:Type}(R:Nat)(t:L)(wh n:Nat)(F:Nat->Prop)(X:World->α->Prop)(w:World)(x:Rs α)(e:Ending)(w':World):Prop:=match x with
 | .ok (a,l')=>e=.returned (.tuple #[])/\RD R t wh n w' l'/\X w' a/\Fr F w w'
 | .error y=>e=lZ y.1 y.2 t/\Fr F w w'
theorem RD.nest(h:RD R t wh n w l)(m:Nat)(hm:m<=8):RD R t wh m (w.setCell ⟨R,3,none⟩ (.int .i64 m)) l:=
 ⟨eh h.blk _,h.xh,h.tw,h.Cz,hm⟩
theorem wM{fv:Value}{o s:L}(h:RD R t wh 8 w l):Z4 176 #[ptr R,.string ⟨o.toArray⟩,.string ⟨s.toArray⟩,fv] w fun e w'=>e=lZ 8 l.length t/\Fr (fun k=>k=R) w w':=by
 have c2:w.cell? ⟨R,2,none⟩=some (.int .i64 ((t.length-l.length:Nat):Int)):=cell_of h.blk rfl;have c3:w.cell? ⟨R,3,none⟩=some (.int .i64 8):=cell_of h.blk rfl;have HF:=a_ (Fr.refl (fun k=>k=R) w);clear h;go_enter func176,ntmps176;go_wp2;exact⟨rfl,rfl,HF.out⟩
theorem AK{k:FuncId}{Vc:Array Value}{o s:L}{X:World->gz->Prop}{f:L->Rs gz}(h:RD R t wh n w l)(hn:n<8)(hF:F R)
  (hen:∀args w,(callFunc k args).run prog w=.ok (.enter k args) w)
  (nB:∀W l1,want (ei t wh) o l=.ok l1->RD R t wh (n+1) W l1->Fr (fun k=>k=R) w W->Z4 k Vc W (Lays R t wh (n+1) F X w (f l1)))
  (hX:∀W W' p,X W p->Fr (fun k=>k=R) W W'->X W' p):
  Z4 176 #[ptr R,.string ⟨o.toArray⟩,.string ⟨s.toArray⟩,.func (.func k) #[] Vc] w (Lays R t wh n F X w (within (ei t wh) (some f) o s l)):=by
 have c3:w.cell? ⟨R,3,none⟩=some (.int .i64 n):=cell_of h.blk rfl;have h8:((n:Int)==8)=false:=by simp;omega
 have h8':(n==8)=false:=by simp;omega
 unfold within;cases hx:want (ei t wh) o l with
 |error y=>
  have HW:=a_ (rq hx h);have HF:=a_ hF;simp only[oM];clear hx h nB hX hF;go_enter func176,ntmps176;go_wp2_with(first|(go_at_call 179;refine(HW.out).mono ?_;rintro e w2 ⟨rfl,lI⟩));exact⟨rfl,rfl,lI.mono fun k e=>e▸HF.out⟩
 |ok l1=>
  have HW:=a_ (rp hx h);simp only[oM];have hr1:IntKind.i64.wrap ((n:Int)+1)=(n:Int)+1:=by rw[aM];omega
  have hr2:IntKind.i64.wrap (((n:Int)+1)-1)=(n:Int):=by rw[aM];omega
  have X9:Hid (∀W,RD R t wh n W l1->Fr (fun k=>k=R) w W->W.cell? ⟨R,3,none⟩=some (.int .i64 n)/\W.frozen? ⟨R,3,none⟩=false/\Z4 k Vc (W.setCell ⟨R,3,none⟩ (.int .i64 ((n:Int)+1))) (Lays R t wh (n+1) F X w (f l1))):=fun W hW fr=>
   ⟨cell_of hW.blk rfl,dY hW.blk,nB _ l1 hx (hW.nest (n+1) (by omega)) (fr.set _ _ fun _=>rfl)⟩
  have HFX:Hid (F R/\∀W W' p,X W p->Fr (fun k=>k=R) W W'->X W' p):=⟨hF,hX⟩
  clear hx h nB hX hF;cases hy:f l1 with
  |error y=>
   rw[hy]at X9;simp only[thn];clear hy;go_enter func176,ntmps176;go_wp2_with(first|(go_at_call 179;refine(HW.out).mono ?_;rintro e w2 ⟨rfl,r_,lI⟩;obtain⟨d3,f3,hc⟩:=X9.out _ r_ lI;have HC:=a_ hc;clear hc));refine HC.out.mono ?_;rintro e w3 ⟨rfl,jy⟩;go_wp2;exact⟨rfl,rfl,jy⟩
  |ok z=>
   obtain⟨p,l2⟩:=z;rw[hy]at X9;simp only[thn];clear hy;cases hv:want (ei t wh) s l2 with
   |error y=>
    have HV:Hid (∀W,RD R t wh (n+1) W l2->Z4 179 #[ptr R,.string ⟨s.toArray⟩] W fun e w'=>e=lZ y.1 y.2 t/\Fr (fun k=>k=R) W w'):=fun W hW=>rq hv hW;clear hv;go_enter func176,ntmps176;go_wp2_with(first|(go_at_call 179;refine(HW.out).mono ?_;rintro e w2 ⟨rfl,r_,lI⟩;obtain⟨d3,f3,hc⟩:=X9.out _ r_ lI;have HC:=a_ hc;clear hc));refine HC.out.mono ?_;rintro e w3 ⟨rfl,tu,hx3,jy⟩;go_wp2_with(first|(go_at_call 179;refine(HV.out _ tu).mono ?_;rintro e w4 ⟨rfl,iz⟩));exact⟨rfl,rfl,jy.same (iz.mono fun k e=>e▸HFX.out.1)⟩
   |ok l3=>
    have HV:Hid (∀W,RD R t wh (n+1) W l2->Z4 179 #[ptr R,.string ⟨s.toArray⟩] W fun e w'=>e=.returned (.tuple #[])/\RD R t wh (n+1) w' l3/\Fr (fun k=>k=R) W w'):=fun W hW=>rp hv hW;have HE:Hid (∀W,RD R t wh (n+1) W l3->W.cell? ⟨R,3,none⟩=some (.int .i64 ((n:Int)+1))/\W.frozen? ⟨R,3,none⟩=false/\RD R t wh n (W.setCell ⟨R,3,none⟩ (.int .i64 n)) l3):=fun W hW=>⟨cell_of hW.blk rfl,dY hW.blk,hW.nest n (by omega)⟩
    clear hv;go_enter func176,ntmps176;go_wp2_with(first|(go_at_call 179;refine(HW.out).mono ?_;rintro e w2 ⟨rfl,r_,lI⟩;obtain⟨d3,f3,hc⟩:=X9.out _ r_ lI;have HC:=a_ hc;clear hc));refine HC.out.mono ?_;rintro e w3 ⟨rfl,tu,hx3,jy⟩;have HX3:=a_ hx3;clear hx3;go_wp2_with(first|(go_at_call 179;refine(HV.out _ tu).mono ?_;rintro e w4 ⟨rfl,jf,iz⟩;obtain⟨d4,f4,sf⟩:=HE.out _ jf))
    go_end0
    have lJ:Fr (fun k=>k=R) w3 (w4.setCell ⟨R,3,none⟩ (.int .i64 n)):=iz.set _ _ fun _=>rfl;exact⟨rfl,sf,HFX.out.2 _ _ _ HX3.out lJ,jy.same (lJ.mono fun k e=>e▸HFX.out.1)⟩
end
section
variable{w w' w1 w2:World}{F G:Nat->Prop}{R:Nat}{t l l':L}{wh n:Nat}
theorem NY:(prog.info? 144).map (fun i=>(i.zero,i.size,i.bytes))=some (some (.agg #[.bool false,.string ⟨#[]⟩,.slice none 0 0]),3,48):=by kernel_rfl
theorem NZ:(prog.info? 146).map (fun i=>(i.zero,i.size,i.bytes))=some (some (.agg #[.string ⟨#[]⟩,.slice none 0 0,.slice none 0 0,.string ⟨#[]⟩,.string ⟨#[]⟩]),5,96):=by kernel_rfl
theorem eL{P:Program}{ops:Array Oper}{o:Oper}{a:Act}{w:World}{K:Act->World->Prop}{Q:Exit->Act->World->Prop}{E:Prop}
  (hg:o.guard=none) (s x:Operand) (t:TypeId) (hop:o.op=Op.call {callee:=Callee.builtin Builtin.append,args:=#[s,x],argTypes:=#[t,t]})
  (e:TypeId) (i:TypeInfo) (z:Value) (size bytes:Nat) (h1:P.underlying t=some (.slice e)) (h2:P.info? e=some i) (h3:i.zero=some z) (h4:i.size=size) (h5:i.bytes=bytes) (h6:z.cells.size=size) (h7:0<size)
  (v:Value) (n:Nat) (xs:List Value) (hs:a.eval s=v) (hown:w.ownsRow 0 e size v n xs)
  (ad:Addr) (m c:Nat) (news:List Value) (hx:a.eval x=.slice (some ad) m c) (hn:news.length=m*size) (hc:∀j u,news[j]?=some u->w.cell? (ad.add j)=some u) (h1c:∀u∈news,u.oneCell'=true)
  (b1:n+m<=maxLen) (b2:(n+m)*bytes<=140737488355328)
  (hK:∀v' w',w'.ownsRow 0 e size v' (n+m) (xs++news)->w.grownBy w' v.ownBlock->(v'.ownBlock=v.ownBlock\/v'.ownBlock=some w.heap.size)->K (a.put o.dst v') w'):
  if Region.wanted o (yielded ops a.tmps)=true then Oper.wp P o a w K Q else E:=by
 have hw:Region.wanted o (yielded ops a.tmps)=true:=by simp[Region.wanted,hg]
 rw[if_pos hw];obtain⟨v',w',hrun,r1,r2,_,r4⟩:=cW (P:=P) w 0 t o.type e i z size bytes h1 h2 h3 h4 h5 h6 h7 v n xs hown ad m c news hn hc h1c b1 b2 (aB _);unfold Oper.wp;simp[execOp,hop,resolve,invoke,builtin,hs,hx,hrun,Result.andThen];exact hK v' w' r1 r2 r4
def ye(R:Nat)(t:L)(wh n:Nat)(f:L->Rs gz):Prop:=∀W l,RD R t wh n W l->Z4 178 #[ptr R] W (Ends R t wh n (PV (fun b=>W.heap.size<=b) 144 146) W (f l))
theorem qf{P:Program}{ops:Array Oper}{o:Oper}{a:Act}{w:World}{K:Act->World->Prop}{Q:Exit->Act->World->Prop}{E:Prop}(hg:o.guard=none)(ty:TypeId)(x y:Operand)(ho:o.op=.store ty x y)
  (b off:Nat) (cells:Array Value) (hx:a.eval x=.pointer (some ⟨b,off,none⟩)) (hy:a.eval y=.agg cells) (ht:w.there b off cells.size) (hi:(P.info? ty).map (·.size)=some cells.size) (h1:cells.all (·.oneCell')=true)
  (h:K (a.put o.dst undef) (w.setCells b off cells.toList)):if Region.wanted o (yielded ops a.tmps)=true then Oper.wp P o a w K Q else E:=by
 have hw:Region.wanted o (yielded ops a.tmps)=true:=by simp[Region.wanted,hg]
 rw[if_pos hw];exact wp_store_mid ty x y ho b off cells hx hy ht hi h1 h
theorem um{g:Nat}:∀(vs:List Value) (o:Nat) (w:World) {cur:Array Value} {t:TypeId},w.heap[g]?=some (.cells cur t (0,0))->∃cur',(w.setCells g o vs).heap[g]?=some (.cells cur' t (0,0))/\cur'.size=cur.size/\∀j,cur'[j]?=if o<=j/\j<o+vs.length/\j<cur.size then vs[j-o]? else cur[j]?
 |[],o,w,cur,t,h=>⟨cur,h,rfl,fun j=>by rw[if_neg (by simp;omega)]⟩
 |v::vs,o,w,cur,t,h=>by
  have h1:=eh (i:=o) h v;obtain⟨cur',h2,h3,h4⟩:=um vs (o+1) _ h1;refine⟨cur',h2,by rw[h3];simp,fun j=>?_⟩;rw[h4 j];simp only[Array.size_setIfInBounds,aC];by_cases hj:j=o
  ·subst hj;rw[if_neg (by omega)];by_cases hz:j<cur.size
   ·rw[if_pos (by omega)];simp[hz]
   ·rw[if_neg (by omega)];simp[hz]
  ·by_cases hc:o+1<=j/\j<o+1+vs.length/\j<cur.size
   ·rw[if_pos hc,if_pos (by omega),show j-o=(j-(o+1))+1 by omega,List.getElem?_cons_succ]
   ·rw[if_neg hc,if_neg (by omega),cX (by omega)]
theorem fk{g b:Nat}(hb:b≠g):∀(vs:List Value) (o:Nat) (w:World),(w.setCells g o vs).heap[b]?=w.heap[b]?
 |[],_,_=>rfl
 |v::vs,o,w=>(fk hb vs (o+1) _).trans (ak _ _ _ _ hb)
theorem lK{g:Nat}:∀(vs:List Value) (o:Nat) (w:World),(w.setCells g o vs).os=w.os/\(w.setCells g o vs).tape=w.tape/\(w.setCells g o vs).output=w.output/\(w.setCells g o vs).heap.size=w.heap.size
 |[],_,_=>⟨rfl,rfl,rfl,rfl⟩
 |v::vs,o,w=>by
  obtain⟨h1,h2,h3,h4⟩:=lK vs (o+1) (w.setCell ⟨g,o,none⟩ v);exact⟨h1,h2,h3,h4.trans (by simp[World.setCell])⟩
theorem yf{e:TypeId}{sz g k cap:Nat}{xs zs ys:List Value}(h:w.ownsRow 0 e sz (Z9 g (k+1) cap) (k+1) (xs++zs))(hx:xs.length=k*sz)(hz:zs.length=sz)(hy:ys.length=sz):
  (w.setCells g (k*sz) ys).ownsRow 0 e sz (Z9 g (k+1) cap) (k+1) (xs++ys)/\w.there g (k*sz) sz:=by
 have hl:=h.1;rcases h.2 with⟨e1,_⟩|⟨g',cap',cur,e1,h0,hg,h1,h2,h3,h4⟩
 ·cases e1
 ·cases e1;have hk:(k+1)*sz=k*sz+sz:=by rw[Nat.add_mul];omega
  have hsz:(k+1)*sz<=cur.size:=by
   have:=aL List.length h4;rw[bI,ax]at this;simp only[Array.length_toList]at this;omega
  constructor
  ·obtain⟨cur',q1,q2,q3⟩:=um ys (k*sz) w hg;refine⟨by rw[ax]at hl ⊢;omega,Or.inr ⟨g,cap,cur',rfl,h0,q1,h1,h2,by rw[q2];exact h3,?_⟩⟩;apply List.ext_getElem?;intro j;rw[bR];by_cases hj:j<(k+1)*sz
   ·rw[if_pos hj,dE,q3 j];by_cases Rk:k*sz<=j
    ·rw[if_pos ⟨Rk,by omega,by omega⟩,aW (by omega),hx]
    ·rw[if_neg (by omega),aU (by omega)];have:=aL (·[j]?) h4;simp only[bR,if_pos hj,dE]at this;rw[this,aU (by omega)]
   ·rw[if_neg hj,cK (by rw[ax];omega)]
  ·intro j hj;refine⟨?_,dY hg⟩;have:k*sz+j<cur.size:=by omega
   rw[cell_of hg (v:=cur[k*sz+j]) (by simp[this])];rfl
theorem yg{A:Nat->Prop}{vk vs:Value}{p:gz}(h:pV w A 144 146 vk p.kids/\qd w A 144 146 vs p.steps)(o:Obj):pV (w.alloc o) A 144 146 vk p.kids/\qd (w.alloc o) A 144 146 vs p.steps:=by
 have hm:Move A A w (w.alloc o):=fun b ha hl=>⟨ha,ay _ _ _ hl⟩
 exact⟨h.1.move hm,h.2.move hm⟩
def AL(lo Bs Br R:Nat)(d:Bool)(te:L)(ps:List gz)(w':World)(p:gz):Prop:=∃pi pc,w'.heap[Bs]?=some (.cells #[.bool d,.string (bs te),.slice pi (ps.length+1) pc] 144 (0,0))/\GP lo 144 146 w' (.slice pi (ps.length+1) pc) (ps++[p])/\w'.heap[Br]?=some (.cells #[ptr R] 170 (0,0))
theorem N0{Bs Br lo pc:Nat}{pi:Option Addr}{d:Bool}{te:L}{ps:List gz}{f:L->Rs gz}{y:Nat×Nat}(hc:ye R t wh n f)(h:RD R t wh n w l)(hs:w.heap[Bs]?=some (.cells #[.bool d,.string (bs te),.slice pi ps.length pc] 144 (0,0)))(hr:w.heap[Br]?=some (.cells #[ptr R] 170 (0,0)))(hg:GP lo 144 146 w (.slice pi ps.length pc) ps)(hR:R<lo)(hB:Bs<lo)(N1:Br<lo)(N3:R≠Bs)(Nt:R≠Br)(Vd:Bs≠Br)(py:lo<=w.heap.size)(hn:ps.length<=500)(hf:f l=.error y)(hF:∀k,k=R->F k):Z4 177 #[ptr Bs,ptr Br] w fun e w'=>e=lZ y.1 y.2 t/\Fr F w w':=by
 have c0:w.cell? ⟨Br,0,none⟩=some (ptr R):=cell_of hr rfl;have RT:∀k,(Value.slice pi ps.length pc).ownBlock=some k->k<w.heap.size:=fun k e=>by obtain⟨xs,_,h2,_⟩:=hg.ex;exact ej h2 e
 have HK:Hid (∀W,Fr (fun k=>k=R) w W->W.cell? ⟨Br,0,none⟩=some (ptr R)/\W.cell? ⟨Bs,2,none⟩=some (.slice pi ps.length pc)/\W.heap[Bs]?=some (.cells #[.bool d,.string (bs te),.slice pi ps.length pc] 144 (0,0))/\W.heap[Br]?=some (.cells #[ptr R] 170 (0,0))/\GP lo 144 146 W (.slice pi ps.length pc) ps):=fun W hW=>by
  have h1:=(hW.block Br (dQ hr) (fun e=>Nt e.symm)).trans hr;have h2:=(hW.block Bs (dQ hs) (fun e=>N3 e.symm)).trans hs;exact⟨cell_of h1 rfl,cell_of h2 rfl,h2,h1,hg.fr hW fun k e _=>by omega⟩
 have HC:Hid (∀W,Fr (fun _=>False) w W->Z4 178 #[ptr R] W (Ends R t wh n (PV (fun b=>W.heap.size<=b) 144 146) W (.error y))):=fun W hW=>by have:=hc W l (h.fr hW (fun x=>x));rw[hf]at this;exact this
 have HF:=a_ hF;have X_:Fr (fun _=>False) w w.drew:=(Fr.refl _ w).drewN 1;clear hc h hs hr hg hf RT hF;go_enter func177,ntmps177;go_wp2_with fail;refine wp_region_held_drew (S:=(fun W=>W.cell? ⟨Br,0,none⟩=some (ptr R))) (by kernel_rfl) c0 (fun hHeld=>?_);generalize w.drew=W0 at*
 have fr:=X_;clear X_;refine wpAnyH_take (i:=0) (v:=?_) rfl (by kernel_rfl) (by kernel_rfl) (by kernel_rfl) (fun _ _ _ h=>h) (Or.inl ⟨by rfl,?_⟩) (by assumption) ?_
 rotate_left
 ·(intro w hSw;(try dsimp only at hSw);go_simp;(try with_reducible rfl))
 (try simp only[Act.put,ae,af,aj])
 refine wpAnyH_take (i:=2) (v:=?_) rfl (by kernel_rfl) (by kernel_rfl) (by kernel_rfl) (fun _ _ _ h=>h) (Or.inl ⟨by rfl,?_⟩) (by assumption) ?_
 rotate_left
 ·(intro w hSw;(try dsimp only at hSw);go_simp;(try with_reducible rfl))
 (try simp only[Act.put,ae,af,aj])
 refine wpAnyH_ready (rs:=[1,3,5]) (by kernel_rfl) (by simp) ?_;refine AllReadyH.cons rfl (fun K hK=>?_) (AllReadyH.cons rfl (fun K hK=>?_) (AllReadyH.cons rfl (fun K hK=>?_) AllReadyH.nil))
 ·have uo:=(HK.out _ (fr.mono fun _ x=>x.elim)).2.1
  go_simp
  refine hK.out _ _ hHeld (fun _=>?_);clear hK K uo
  (try simp only[Act.put,ae,af,aj])
  refine wpAnyH_take (i:=4) (v:=?_) rfl (by kernel_rfl) (by kernel_rfl) (by kernel_rfl) (fun _ _ _ h=>h) (Or.inl ⟨by rfl,?_⟩) (by assumption) ?_
  rotate_left
  ·(intro w hSw;(try dsimp only at hSw);go_simp;(try with_reducible rfl))
  (try simp only[Act.put,ae,af,aj])
  refine wpAnyH_ready (rs:=[3,5]) (by kernel_rfl) (by simp) ?_;refine AllReadyH.cons rfl (fun K hK=>?_) (AllReadyH.cons rfl (fun K hK=>?_) AllReadyH.nil)
  ·have hcc:=HC.out _ fr
   go_simp
   refine hcc.mono ?_;rintro e W3 ⟨rfl,jy⟩;exact⟨rfl,rfl,((fr.mono (fun _ x=>x.elim)).same jy).mono HF.out⟩
  ·go_simp
   refine hK.out _ _ (dV _ hHeld) (fun hHeld=>?_);clear hK K
   (try simp only[Act.put,ae,af,aj])
   have sJ:=dR W0 (.cells #[.string ⟨#[]⟩,.slice none 0 0,.slice none 0 0,.string ⟨#[]⟩,.string ⟨#[]⟩] 146);have xk:lo<=W0.heap.size:=aw py fr.size;have fr:=fr.alloc (.cells #[.string ⟨#[]⟩,.slice none 0 0,.slice none 0 0,.string ⟨#[]⟩,.string ⟨#[]⟩] 146);generalize Ut:W0.heap.size=nb at*
   generalize W0.alloc (.cells #[.string ⟨#[]⟩,.slice none 0 0,.slice none 0 0,.string ⟨#[]⟩,.string ⟨#[]⟩] 146)=W5 at*
   refine wpAnyH_ready (rs:=[3]) (by kernel_rfl) (by simp) ?_;refine AllReadyH.cons rfl (fun K hK=>?_) AllReadyH.nil
   ·have hcc:=HC.out _ fr
    go_simp
    refine hcc.mono ?_;rintro e W3 ⟨rfl,jy⟩;exact⟨rfl,rfl,((fr.mono (fun _ x=>x.elim)).same jy).mono HF.out⟩
 ·have hcc:=HC.out _ fr
  go_simp
  refine hcc.mono ?_;rintro e W3 ⟨rfl,jy⟩;exact⟨rfl,rfl,((fr.mono (fun _ x=>x.elim)).same jy).mono HF.out⟩
 ·go_simp
  refine hK.out _ _ (dV _ hHeld) (fun hHeld=>?_);clear hK K
  (try simp only[Act.put,ae,af,aj])
  have sJ:=dR W0 (.cells #[.string ⟨#[]⟩,.slice none 0 0,.slice none 0 0,.string ⟨#[]⟩,.string ⟨#[]⟩] 146);have xk:lo<=W0.heap.size:=aw py fr.size;have fr:=fr.alloc (.cells #[.string ⟨#[]⟩,.slice none 0 0,.slice none 0 0,.string ⟨#[]⟩,.string ⟨#[]⟩] 146);generalize Ut:W0.heap.size=nb at*
  generalize W0.alloc (.cells #[.string ⟨#[]⟩,.slice none 0 0,.slice none 0 0,.string ⟨#[]⟩,.string ⟨#[]⟩] 146)=W5 at*
  refine wpAnyH_ready (rs:=[1,3]) (by kernel_rfl) (by simp) ?_;refine AllReadyH.cons rfl (fun K hK=>?_) (AllReadyH.cons rfl (fun K hK=>?_) AllReadyH.nil)
  ·have uo:=(HK.out _ (fr.mono fun _ x=>x.elim)).2.1
   go_simp
   refine hK.out _ _ hHeld (fun _=>?_);clear hK K uo
   (try simp only[Act.put,ae,af,aj])
   refine wpAnyH_take (i:=4) (v:=?_) rfl (by kernel_rfl) (by kernel_rfl) (by kernel_rfl) (fun _ _ _ h=>h) (Or.inl ⟨by rfl,?_⟩) (by assumption) ?_
   rotate_left
   ·(intro w hSw;(try dsimp only at hSw);go_simp;(try with_reducible rfl))
   (try simp only[Act.put,ae,af,aj])
   refine wpAnyH_ready (rs:=[3]) (by kernel_rfl) (by simp) ?_;refine AllReadyH.cons rfl (fun K hK=>?_) AllReadyH.nil
   ·have hcc:=HC.out _ fr
    go_simp
    refine hcc.mono ?_;rintro e W3 ⟨rfl,jy⟩;exact⟨rfl,rfl,((fr.mono (fun _ x=>x.elim)).same jy).mono HF.out⟩
  ·have hcc:=HC.out _ fr
   go_simp
   refine hcc.mono ?_;rintro e W3 ⟨rfl,jy⟩;exact⟨rfl,rfl,((fr.mono (fun _ x=>x.elim)).same jy).mono HF.out⟩
end
end Go.Proofs.YtclgfepngpeifaaGreatDoor
