import Derived.Test.YtjecakcpcnmieaaGreatDoorHA
import Derived.StringKeys
import Derived.Test.YtjecakcpcnmieaaGreatDoorHam
import Derived.Test.YtjecakcpcnmieaaGreatDoorHan
set_option linter.unusedVariables false
set_option linter.unusedSimpArgs false
set_option maxHeartbeats 32000000
set_option maxRecDepth 100000
namespace Go.Proofs.YtjecakcpcnmieaaGreatDoor
namespace K
open Go.RowKit Go.Maps Tryz
section
variable{F:Nat->Prop}{R:Nat}{w w':World}{s:Src}{p:jt}{st:St}{c:Int}
theorem eJ.Sp{w':World}{s:Src}{p':jt}{iJ:St}{pl:Pl}(h:gb (Grow F w w') R w' s p' iJ)(hf:Frame F w w'):eJ F R w s ⟨iJ,.go (.plain pl)⟩ (.returned (.tuple #[pl.val,.nilIface])) w':=
 ⟨p',h,hf,_,rfl,rfl⟩
theorem Frame.wQ(hR:F R)(i:Nat)(v:Value):Frame F w (w.setCell ⟨R,i,none⟩ v):=
 ⟨rfl,rfl,rfl,by simp[World.setCell],fun k _ hf=>af _ _ _ _ (fun e=>hf (by rw[e];exact hR))⟩
theorem gb.scalar{s':Src}{iJ:St}(h:gb F R w s p st)(i:Nat)(v:Value)(hc:(cellsOf s p st).setIfInBounds i v=cellsOf s' p iJ)(ho:Own F R (w.setCell ⟨R,i,none⟩ v) p st->Own F R (w.setCell ⟨R,i,none⟩ v) p iJ):gb F R (w.setCell ⟨R,i,none⟩ v) s' p iJ:=
 h.wQ (fun k hk=>af _ _ _ _ hk) (by simp[World.setCell]) (by rw[<-hc];exact eV h.blk v) ho
theorem gb.Sq(h:gb F R w' s p st)(hs:w'.heap.size=w.heap.size):gb (Grow F w w') R w' s p st:=
 h.mono (fun _ x=>Or.inl x) (fun k hk=>hk.elim (h.lt k) (fun x=>x.2))
theorem Gb(h:gb F R w s p st)(ZE:ux c):
  Z4 226 #[Z8 R,.int .i32 c] w (eJ F R w s (kq s.at_ st c)):=by
 have hat:=h.cell 2 rfl;have hb:=sD c w;have H:=a_ h;clear h;unfold kq;generalize Tk.blank c=b at*
 cases b
 ·simp only[aA,bf];by_cases h1:c=61
  ·subst h1;go_enter func226,ntmps226;go_wp2_with(go_at_call 152;refine hb.mono ?_;rintro e w1 ⟨rfl,rfl⟩)
   go_ret2
   exact eJ.pM H.out (Below.refl _ _)
  ·have e1:(c==61)=false:=by simpa using h1
   rw[if_neg h1];clear h1;go_enter func226,ntmps226;go_wp2_with(first|(go_at_call 152;refine hb.mono ?_;rintro e w1 ⟨rfl,rfl⟩)|(go_at_call 85;refine(gS R c s.at_ _ hat).mono ?_;rintro e w1 ⟨rfl,rfl⟩))
   go_ret2
   exact eJ.iC H.out (Below.refl _ _)
 ·simp only[if_true];go_enter func226,ntmps226;go_wp2_with(go_at_call 152;refine hb.mono ?_;rintro e w1 ⟨rfl,rfl⟩)
  go_ret2
  exact eJ.pM H.out (Below.refl _ _)
theorem NP(h:gb F R w s p st)(ZE:ux c):
  Z4 242 #[Z8 R,.int .i32 c] w (eJ F R w s (step .lU s.at_ st c)):=by
 have hat:=h.cell 2 rfl;have hq:w.cell? ⟨R,17,none⟩=some (.int .i32 st.quote):=h.cell 17 rfl;have f17:=h.free 17;have hb:=sD c w;have H:=a_ h;clear h;show Calls _ _ _ _ (eJ F R w s (if Tk.blank c=true then⟨st,.go (.plain .lU)⟩else if c=34\/c=39 then⟨{st with quote:=c},.go (.plain .iW)⟩else⟨st,.fail (Tk.why c) s.at_⟩));generalize Tk.blank c=b at*
 cases b
 ·simp only[aA,bf];by_cases h1:c=34
  ·rw[if_pos (Or.inl h1)];have e1:(c==34)=true:=by simpa using h1
   clear h1;go_enter func242,ntmps242;go_wp2_with(go_at_call 152;refine hb.mono ?_;rintro e w1 ⟨rfl,rfl⟩)
   go_ret2
   exact eJ.Sp ((H.out.scalar (iJ:={st with quote:=c}) 17 (.int .i32 c) rfl (fun o=>⟨o.run,o.jJ,o.apart,o.told,o.iD,o.b_,o.fe,o.names⟩)).Sq (by simp[World.setCell])) (Frame.wQ H.out.j5 _ _)
  ·have e1:(c==34)=false:=by simpa using h1
   by_cases h2:c=39
   ·rw[if_pos (Or.inr h2)];have e2:(c==39)=true:=by simpa using h2
    clear h2 h1;go_enter func242,ntmps242;go_wp2_with(go_at_call 152;refine hb.mono ?_;rintro e w1 ⟨rfl,rfl⟩)
    go_ret2
    exact eJ.Sp ((H.out.scalar (iJ:={st with quote:=c}) 17 (.int .i32 c) rfl (fun o=>⟨o.run,o.jJ,o.apart,o.told,o.iD,o.b_,o.fe,o.names⟩)).Sq (by simp[World.setCell])) (Frame.wQ H.out.j5 _ _)
   ·rw[if_neg (by omega)];have e2:(c==39)=false:=by simpa using h2
    clear h2 h1;go_enter func242,ntmps242;go_wp2_with(first|(go_at_call 152;refine hb.mono ?_;rintro e w1 ⟨rfl,rfl⟩)|(go_at_call 85;refine(gS R c s.at_ _ hat).mono ?_;rintro e w1 ⟨rfl,rfl⟩))
    go_ret2
    exact eJ.iC H.out (Below.refl _ _)
 ·simp only[if_true];go_enter func242,ntmps242;go_wp2_with(go_at_call 152;refine hb.mono ?_;rintro e w1 ⟨rfl,rfl⟩)
  go_ret2
  exact eJ.pM H.out (Below.refl _ _)
theorem Wp(h:gb F R w s p st)(ZE:ux c):
  Z4 117 #[Z8 R,.int .i32 c] w (eJ F R w s (step .oT s.at_ st c)):=by
 have hat:=h.cell 2 rfl;have H:=a_ h;clear h;by_cases h1:c=45
 ·subst h1;go_enter func117,ntmps117;go_wp2_with(go_at_call 155;refine(nM ⟨#[45]⟩ 156 _ (by decide+kernel)).mono ?_;rintro e w1 ⟨rfl,rfl⟩)
  go_ret2
  exact eJ.word (l:=[45]) (pl:=.remark) H.out
 ·have e1:(c==45)=false:=by simpa using h1
  by_cases h2:c=91
  ·subst h2;go_enter func117,ntmps117;go_wp2_with(go_at_call 155;refine(nM ⟨#[67,68,65,84,65,91]⟩ 157 _ (by decide+kernel)).mono ?_;rintro e w1 ⟨rfl,rfl⟩)
   go_ret2
   exact eJ.word (l:=[67,68,65,84,65,91]) (pl:=.iB) H.out
  ·have e2:(c==91)=false:=by simpa using h2
   rw[show step .oT s.at_ st c=⟨st,.fail (Tk.why c) s.at_⟩ by simp[step,h1,h2]];clear h1 h2;go_enter func117,ntmps117;go_wp2_with(go_at_call 85;refine(gS R c s.at_ _ hat).mono ?_;rintro e w1 ⟨rfl,rfl⟩)
   go_ret2
   exact eJ.iC H.out (Below.refl _ _)
theorem JK(h:gb F R w s p st)(ZE:ux c)(hs:st.Small):
  Z4 115 #[Z8 R,.int .i32 c] w (eJ F R w s (step .closing s.at_ st c)):=by
 have hat:=h.cell 2 rfl;have hb:=sD c w;have htc:=nB h (by have:=hs.told;omega);have H:=a_ h;clear h hs;show Calls _ _ _ _ (eJ F R w s (if Tk.blank c=true then⟨st,.go (.plain .closing)⟩else if c=62 then⟨st.gv,.go (.plain .between)⟩else⟨st,.fail (Tk.why c) s.at_⟩));generalize Tk.blank c=b at*
 generalize st.gv=rD at*
 cases b
 ·simp only[aA,bf];by_cases h1:c=62
  ·rw[if_pos h1];have e1:(c==62)=true:=by simpa using h1
   clear h1;go_enter func115,ntmps115;go_wp2_with(first|(go_at_call 152;refine hb.mono ?_;rintro e w1 ⟨rfl,rfl⟩)|(go_at_call 153;refine htc.mono ?_;rintro e w1 ⟨rfl,p1,r1,f1⟩))
   go_ret2
   exact eJ.Sp r1 f1
  ·rw[if_neg h1];have e1:(c==62)=false:=by simpa using h1
   clear h1;go_enter func115,ntmps115;go_wp2_with(first|(go_at_call 152;refine hb.mono ?_;rintro e w1 ⟨rfl,rfl⟩)|(go_at_call 85;refine(gS R c s.at_ _ hat).mono ?_;rintro e w1 ⟨rfl,rfl⟩))
   go_ret2
   exact eJ.iC H.out (Below.refl _ _)
 ·simp only[if_true];go_enter func115,ntmps115;go_wp2_with(go_at_call 152;refine hb.mono ?_;rintro e w1 ⟨rfl,rfl⟩)
  go_ret2
  exact eJ.pM H.out (Below.refl _ _)
theorem oU(h:gb F R w s p st)(ZE:ux c)(hs:st.Small):
  Z4 118 #[Z8 R,.int .i32 c] w (eJ F R w s (jS s.at_ st c)):=by
 have hat:=h.cell 2 rfl;have hb:=sD c w;have hto:=qH h (by have:=hs.told;omega);have H:=a_ h;clear h hs;unfold jS;generalize Tk.blank c=b at*
 generalize st.fo=rD at*
 cases b
 ·simp only[aA,bf];by_cases h0:c=47
  ·rw[if_pos h0];have e0:(c==47)=true:=by simpa using h0
   clear h0;go_enter func118,ntmps118;go_wp2_with(go_at_call 152;refine hb.mono ?_;rintro e w1 ⟨rfl,rfl⟩)
   go_ret2
   exact eJ.pM H.out (Below.refl _ _)
  ·rw[if_neg h0];have e0:(c==47)=false:=by simpa using h0
   clear h0;by_cases h1:c=62
   ·rw[if_pos h1];have e1:(c==62)=true:=by simpa using h1
    clear h1;go_enter func118,ntmps118;go_wp2_with(first|(go_at_call 152;refine hb.mono ?_;rintro e w1 ⟨rfl,rfl⟩)|(go_at_call 160;refine hto.mono ?_;rintro e w1 ⟨rfl,p1,r1,f1⟩))
    go_ret2
    exact eJ.Sp r1 f1
   ·rw[if_neg h1];have e1:(c==62)=false:=by simpa using h1
    clear h1;go_enter func118,ntmps118;go_wp2_with(first|(go_at_call 152;refine hb.mono ?_;rintro e w1 ⟨rfl,rfl⟩)|(go_at_call 85;refine(gS R c s.at_ _ hat).mono ?_;rintro e w1 ⟨rfl,rfl⟩))
    go_ret2
    exact eJ.iC H.out (Below.refl _ _)
 ·simp only[if_true];go_enter func118,ntmps118;go_wp2_with(go_at_call 152;refine hb.mono ?_;rintro e w1 ⟨rfl,rfl⟩)
  go_ret2
  exact eJ.pM H.out (Below.refl _ _)
theorem DZ(st:St):st.fo.told.length<=st.told.length+2:=by
 unfold St.fo St.eK;split
 ·simp
 ·simp[St.clear,St.eH]
theorem u_(h:gb F R w s p st)(ZE:ux c)(hs:st.Small):
  Z4 159 #[Z8 R,.int .i32 c] w (eJ F R w s (step .jL s.at_ st c)):=by
 have hat:=h.cell 2 rfl;have hto:=qH h (by have:=hs.told;omega);have hsl:st.fo.told.length<=1099511627780:=by have:=hs.told;have:=DZ st;omega
 have H:=a_ h;clear h hs;show Calls _ _ _ _ (eJ F R w s (if c=62 then⟨st.fo.gv,.go (.plain .between)⟩else⟨st,.fail (Tk.why c) s.at_⟩));generalize st.fo=rD at*
 by_cases h1:c=62
 ·rw[if_pos h1];have e1:(c==62)=true:=by simpa using h1
  clear h1;have htc:∀{w1:World} {p1:jt},gb (Grow F w w1) R w1 s p1 rD->_:=fun{w1 p1} r=>nB r hsl;go_enter func159,ntmps159;go_wp2_with(first|(go_at_call 160;refine hto.mono ?_;rintro e w1 ⟨rfl,p1,r1,f1⟩));refine(nB r1 hsl).mono ?_;rintro e w2 ⟨rfl,p2,r2,f2⟩;go_wp2
  go_ret2
  exact eJ.Sp (r2.join f1.size f2.size) (f1.trans f2)
 ·rw[if_neg h1];have e1:(c==62)=false:=by simpa using h1
  clear h1;go_enter func159,ntmps159;go_wp2_with(go_at_call 85;refine(gS R c s.at_ _ hat).mono ?_;rintro e w1 ⟨rfl,rfl⟩)
  go_ret2
  exact eJ.iC H.out (Below.refl _ _)
end
section
variable{F:Nat->Prop}{R:Nat}{w w':World}{s:Src}{p:jt}{st:St}{c:Int}
theorem gb.drew(h:gb F R w s p st):gb F R w.drew s p st:=⟨h.blk,h.j5,h.lt,h.own.frame (fun _ _ _=>rfl) (fun _ x=>x)⟩
theorem lX(h:gb F R w s p st)(i:Rn)(c q:Int)(hc:Scalar c)(hn:(st.run i).length<=70368744177700):
  Z4 86 #[.pointer (some ⟨R,i.off,none⟩),.int .i32 c,.int .i64 q] w.drew fun e w'=>e=.returned (.tuple #[])/\∃v,gb (Grow F w w') R w' s (p.eH i v) (st.put i c q)/\Frame F w w'/\Kept R (p.run i).ownBlock w w':=by
 refine(Wd h.drew i c q hc (by omega)).mono ?_;rintro e w1 ⟨rfl,v,r1,k1⟩;have k2:Kept R (p.run i).ownBlock w w1:=⟨k1.os,k1.tape,k1.output,k1.size,k1.block⟩
 exact⟨rfl,v,r1,h.ZD k2,k2⟩
theorem ja(st:St)(i j:Rn)(c q:Int):((st.put i c q).run j).length<=(st.run j).length+4:=by
 simp only[St.put,St.eH];split
 ·rename_i e;subst e;have:=ry c;simp;omega
 ·omega
theorem zI(h:gb F R w s p st)(hc:ux c)(hs:(st.run .text).length<=70368744177690):
  Z4 157 #[Z8 R,.int .i32 c] w (eJ F R w s (fY s.at_ st c)):=by
 have hat:w.cell? ⟨R,2,none⟩=some (.int .i64 s.at_):=h.cell 2 rfl;unfold fY;by_cases h1:c=93
 ·rw[if_pos h1];have e1:(c==93)=true:=by simpa using h1
  have H:=a_ h;clear h1 h hc hs;go_enter func157,ntmps157;go_wp2
  go_ret2
  exact eJ.pM H.out (Below.refl _ _)
 ·rw[if_neg h1];have e1:(c==93)=false:=by simpa using h1
  by_cases h2:c<0
  ·rw[if_pos h2];have H:=a_ h;clear h1 h hc hs;go_enter func157,ntmps157;go_wp2_with(go_at_call 85;refine(gS R c s.at_ _ hat).mono ?_;rintro e w1 ⟨rfl,rfl⟩)
   go_ret2
   exact eJ.iC H.out (Below.refl _ _)
  ·rw[if_neg h2];have hp:=lX h .text c s.at_ (pN hc (by omega)) (by omega);have H:=a_ h;clear h1 h hc hs;generalize st.put .text c s.at_=rD at*
   go_enter func157,ntmps157;go_wp2_with fail;go_region_held3 (fun W=>W.cell? ⟨R,2,none⟩=some (.int .i64 s.at_))
    (first|exact hat|exact nz)
    (first|(go_at_call 86;refine hp.mono ?_;rintro e w1 ⟨rfl,v,r1,f1,k1⟩;have nz:w1.cell? ⟨R,2,none⟩=some (.int .i64 s.at_):=r1.cell 2 rfl))
   all_goals
    go_wp2
    go_ret2
    exact eJ.Sp r1 f1
theorem qG.mono{F':Nat->Prop}{b:Nat}{x:Value}{t:TypeId}(h:qG F R w b x t)(hF:∀k,F k->F' k):qG F' R w b x t:=⟨h.1,hF b h.2.1,h.2.2⟩
theorem gJ.mono{F':Nat->Prop}{v:Value}{pt:Part}(h:gJ F R w v pt)(hF:∀k,F k->F' k):gJ F' R w v pt:=by
 cases pt with
 |plain p=>exact h
 |word l p=>obtain⟨b1,b2,e,h1,h2⟩:=h;exact⟨b1,b2,e,h1.mono hF,h2.mono hF⟩
 |name i p=>obtain⟨b1,b2,b3,e,h1,h2,h3⟩:=h;exact⟨b1,b2,b3,e,h1.mono hF,h2.mono hF,h3.mono hF⟩
 |ref i p=>obtain⟨b1,b2,b3,e,h1,h2,h3⟩:=h;exact⟨b1,b2,b3,e,h1.mono hF,h2.mono hF,h3.mono hF⟩
theorem eJ.after{w1 w2:World}{o:Out}{e:Ending}(h:eJ (Grow F w w1) R w1 s o e w2)(f1:Frame F w w1):eJ F R w s o e w2:=by
 obtain⟨p',r,f,h⟩:=h;refine⟨p',r.join f1.size f.size,f1.trans f,?_⟩;cases hr:o.res with
 |go part=>rw[hr]at h;obtain⟨v,h1,h2⟩:=h;exact⟨v,h1,h2.mono fun k hk=>(Grow.trans f1.size f.size k).1 hk⟩
 |stop=>rw[hr]at h;exact h
 |fail no q=>rw[hr]at h;exact h
def Src.Fits(s:Src):Prop:=0<=s.at_/\s.at_<=1152921504606846976
theorem zJ(h:gb F R w s p st)(hc:ux c)(hs:(st.run .text).length<=70368744177680)(hf:s.Fits):
  Z4 194 #[Z8 R,.int .i32 c] w (eJ F R w s (fZ s.at_ st c)):=by
 have hat:w.cell? ⟨R,2,none⟩=some (.int .i64 s.at_):=h.cell 2 rfl;obtain⟨hf0,Wq⟩:=hf;unfold fZ;by_cases h1:c=93
 ·rw[if_pos h1];have e1:(c==93)=true:=by simpa using h1
  have H:=a_ h;clear h1 h hc hs;go_enter func194,ntmps194;go_wp2
  go_ret2
  exact eJ.pM H.out (Below.refl _ _)
 ·rw[if_neg h1];have e1:(c==93)=false:=by simpa using h1
  have hp:=lX h .text 93 (s.at_-1) (by unfold Scalar;omega) (by omega);have hl:=ja st .text .text 93 (s.at_-1);have yh:∀(w1:World) (p1:jt),gb (Grow F w w1) R w1 s p1 (st.put .text 93 (s.at_-1))->Z4 157 #[Z8 R,.int .i32 c] w1 (eJ (Grow F w w1) R w1 s (fY s.at_ (st.put .text 93 (s.at_-1)) c)):=fun _ _ r=>zI r hc (by omega);have P0:=a_ yh;have hwr:IntKind.i64.wrap (s.at_-1)=s.at_-1:=by rw[aD];omega
  clear h1 h hc hs hl yh;generalize st.put .text 93 (s.at_-1)=rD at*
  generalize fY s.at_ rD c=o at*
  go_enter func194,ntmps194;go_wp2_with fail;go_region_held3 (fun W=>W.cell? ⟨R,2,none⟩=some (.int .i64 s.at_))
   (first|exact hat|exact nz)
   (first|(go_at_call 86;refine hp.mono ?_;rintro e w1 ⟨rfl,v,r1,f1,k1⟩;have nz:w1.cell? ⟨R,2,none⟩=some (.int .i64 s.at_):=r1.cell 2 rfl))
  all_goals
   go_wp2_with(go_at_call 157;refine(P0.out _ _ r1).mono ?_);intro e w2 hP;obtain⟨v1,v2,rfl⟩:=hP.two;go_wp2
   go_ret2
   exact hP.after f1
theorem Gc(h:gb F R w s p st)(hc:ux c)(hs:(st.run .text).length<=70368744177670)(hf:s.Fits):
  Z4 224 #[Z8 R,.int .i32 c] w (eJ F R w s (step .brackets s.at_ st c)):=by
 have hat:w.cell? ⟨R,2,none⟩=some (.int .i64 s.at_):=h.cell 2 rfl;have hf':=hf;obtain⟨hf0,Wq⟩:=hf;show Calls _ _ _ _ (eJ F R w s (if c=62 then⟨st,.go (.plain .between)⟩else fZ s.at_ (st.put .text 93 (s.at_-2)) c));by_cases h1:c=62
 ·rw[if_pos h1];have e1:(c==62)=true:=by simpa using h1
  have H:=a_ h;clear h1 h hc hs hf';go_enter func224,ntmps224;go_wp2
  go_ret2
  exact eJ.pM H.out (Below.refl _ _)
 ·rw[if_neg h1];have e1:(c==62)=false:=by simpa using h1
  have hp:=lX h .text 93 (s.at_-2) (by unfold Scalar;omega) (by omega);have hl:=ja st .text .text 93 (s.at_-2);have yh:∀(w1:World) (p1:jt),gb (Grow F w w1) R w1 s p1 (st.put .text 93 (s.at_-2))->Z4 194 #[Z8 R,.int .i32 c] w1 (eJ (Grow F w w1) R w1 s (fZ s.at_ (st.put .text 93 (s.at_-2)) c)):=fun _ _ r=>zJ r hc (by omega) hf';have P0:=a_ yh;have hwr:IntKind.i64.wrap (s.at_-2)=s.at_-2:=by rw[aD];omega
  clear h1 h hc hs hl yh hf';generalize st.put .text 93 (s.at_-2)=rD at*
  generalize fZ s.at_ rD c=o at*
  go_enter func224,ntmps224;go_wp2_with fail;go_region_held3 (fun W=>W.cell? ⟨R,2,none⟩=some (.int .i64 s.at_))
   (first|exact hat|exact nz)
   (first|(go_at_call 86;refine hp.mono ?_;rintro e w1 ⟨rfl,v,r1,f1,k1⟩;have nz:w1.cell? ⟨R,2,none⟩=some (.int .i64 s.at_):=r1.cell 2 rfl))
  all_goals
   go_wp2_with(go_at_call 194;refine(P0.out _ _ r1).mono ?_);intro e w2 hP;obtain⟨v1,v2,rfl⟩:=hP.two;go_wp2
   go_ret2
   exact hP.after f1
end
section
variable{F:Nat->Prop}{R:Nat}{w w':World}{s:Src}{p:jt}{st:St}{c:Int}
def mv(x:UInt8)(l:List UInt8)(k:Pl)(q:Int)(st:St)(c:Int):Out:=
 if c=x.toNat then(if l=[]then⟨st,.go (.plain k)⟩else⟨st,.go (.word l k)⟩)else⟨st,.fail (Tk.why c) q⟩
theorem jA{b:Nat}{x:Value}{t:TypeId}(h:qG F R w b x t):w.cell? ⟨b,0,none⟩=some x:=cell_of h.1 rfl
theorem eJ.ZO{w0:World}{l:List UInt8}{pl:Pl}(h:gb F R w0 s p st)(hb:Z5 w0 w):eJ F R w0 s ⟨st,.go (.word l pl)⟩ (.returned (.tuple #[.func (.func 192) #[] #[vB w.heap.size,vB (w.heap.size+1)],.nilIface])) ((w.alloc (.cells #[eZ l] 9)).alloc (.cells #[pl.val] 128)):=by
 have hR:=h.lt R h.j5;have hs:=hb.size;have hb2:Z5 w0 ((w.alloc (.cells #[eZ l] 9)).alloc (.cells #[pl.val] 128)):=(hb.alloc hs _).alloc (by simp;omega) _;refine⟨p,h.below hb2,Frame.below hb2,_,rfl,w.heap.size,w.heap.size+1,rfl,⟨?_,Or.inr ⟨by omega,by simp;omega⟩,by omega⟩,⟨?_,Or.inr ⟨by omega,by simp⟩,by omega⟩⟩
 ·rw[ap _ _ _ (by simp)];exact bu w _
 ·have:=bu (w.alloc (.cells #[eZ l] 9)) (.cells #[pl.val] 128);simpa using this
theorem Gd(w:World)(o o':Obj):Z5 w ((w.drew.alloc o).alloc o'):=((Below.refl _ w).drew.alloc (ah _) o).alloc (by simp) o'
theorem Wr(h:gb F R w s p st)(b1 b2:Nat)(x:UInt8)(l:List UInt8)(k:Pl)(h1:qG F R w b1 (eZ (x::l)) 9)(h2:qG F R w b2 k.val 128)(hl:l.length<=10):
  Z4 192 #[Z8 R,.int .i32 c,Z8 b1,Z8 b2] w (eJ F R w s (mv x l k s.at_ st c)):=by
 have hat:w.cell? ⟨R,2,none⟩=some (.int .i64 s.at_):=h.cell 2 rfl;obtain⟨t,ht⟩:∃t:ByteArray,t=⟨(x::l).toArray⟩:=⟨_,rfl⟩
 have c1:w.cell? ⟨b1,0,none⟩=some (.string t):=by rw[ht];exact jA h1
 have c2:w.cell? ⟨b2,0,none⟩=some (.func (.func k.fn) #[] #[]):=jA h2;have hsz:t.size=l.length+1:=by rw[ht];show (x::l).toArray.size=_;simp
 have hs0:0<t.size:=by omega
 have hx:wrap32 ((t[0]'hs0).toNat:Int)=x.toNat:=by
  subst ht;have:(x.toNat:Int)<256:=by have:=x.toNat_lt;omega
  show wrap32 (x.toNat:Int)=x.toNat;unfold wrap32;omega
 have NQ:(t.extract 1 t.size)=⟨l.toArray⟩:=by
  rw[ht];apply cM;simp[ByteArray.size]
 have H:=a_ h;clear h h1 h2 ht;unfold mv;have yi:k.val=.func (.func k.fn) #[] #[]:=rfl;have Ws:=a_ yi;generalize k.fn=kn at*
 clear yi;by_cases hc:c=x.toNat
 ·rw[if_pos hc];have e1:(c !=wrap32 ((t[0]'hs0).toNat:Int))=false:=by rw[hx,hc];simp
  clear hc hx;have hs1:(1:Int)<=(t.size:Int):=by omega
  by_cases hl0:l=[]
  ·rw[if_pos hl0];have hem:(t.extract 1 t.size).toList.isEmpty=true:=by rw[NQ,hl0];decide+kernel
   clear NQ hl0 hl hsz;go_enter func192,ntmps192;go_wp2_with fail;go_region_held3 (fun W=>W.cell? ⟨b1,0,none⟩=some (.string t)/\W.cell? ⟨b2,0,none⟩=some (.func (.func kn) #[] #[]))
    (first|exact⟨c1,c2⟩|exact⟨eF _ (eF _ c1),eF _ (eF _ c2)⟩)
    (first|(go_at_call 155;refine(DR _ _ _ hem).mono ?_;rintro e w1 ⟨rfl,rfl⟩))
   all_goals
    go_wp2
    go_ret2
    rw[<-Ws.out];exact eJ.pM H.out (Gd _ _ _)
  ·rw[if_neg hl0];have hem:(t.extract 1 t.size).toList.isEmpty=false:=by
    rw[NQ,cH];cases l with
    |nil=>exact absurd rfl hl0
    |cons a b=>rfl
   have HX:=a_ NQ;clear NQ hl0 hl hsz;go_enter func192,ntmps192;go_wp2_with fail;go_region_held3 (fun W=>W.cell? ⟨b1,0,none⟩=some (.string t)/\W.cell? ⟨b2,0,none⟩=some (.func (.func kn) #[] #[]))
    (first|exact⟨c1,c2⟩|exact⟨eF _ (eF _ c1),eF _ (eF _ c2)⟩)
    (first|(go_at_call 155;refine(nM _ _ _ hem).mono ?_;rintro e w1 ⟨rfl,rfl⟩))
   all_goals
    go_wp2
    go_ret2
    rw[<-Ws.out,HX.out];exact eJ.ZO H.out (Below.refl _ w).drew
 ·rw[if_neg hc];have e1:(c !=wrap32 ((t[0]'hs0).toNat:Int))=true:=by rw[hx];simpa using hc
  clear hc hx NQ hl hsz;go_enter func192,ntmps192;go_wp2_with(go_at_call 85;refine(gS R c s.at_ _ hat).mono ?_;rintro e w1 ⟨rfl,rfl⟩)
  go_ret2
  exact eJ.iC H.out (Below.refl _ _)
end
section
variable{F:Nat->Prop}{R:Nat}{w w':World}{s:Src}{p:jt}{st:St}{c:Int}
theorem Ge(W:World)(n:Nat)(h:W.heap.size=n)(v:Value)(t:TypeId):(W.alloc (.cells #[v] t)).cell? ⟨n,0,none⟩=some v:=by subst h;exact cell_of (bu W _) rfl
theorem Gf(W:World)(n:Nat)(h:W.heap.size=n)(v:Value)(t:TypeId):(W.alloc (.cells #[v] t)).frozen? ⟨n,0,none⟩=false:=by subst h;exact eP (bu W _)
theorem rE(W:World)(a:Addr)(u v:Value)(h1:v.oneCell'=true)(h:W.cell? a=some u)(hf:W.frozen? a=false):(store a v).run prog W=.ok () (W.setCell a v):=by
 rw[run_store prog W a v _ h1,h];simp[hf]
theorem Be(R o kn:Nat)(x y:Value)(w:World)(hlt:R<w.heap.size)(c0:w.cell? ⟨R,o,none⟩=some x)(c1:w.cell? ⟨R,o+1,none⟩=some y)(f0:w.frozen? ⟨R,o,none⟩=false)(f1:w.frozen? ⟨R,o+1,none⟩=false):
  Z4 114 #[.pointer (some ⟨R,o,none⟩),.func (.func kn) #[] #[]] w fun e w'=>e=.returned (.func (.func 150) #[] #[.pointer (some ⟨w.heap.size,0,none⟩),.pointer (some ⟨w.heap.size+1,0,none⟩),.pointer (some ⟨w.heap.size+1+1,0,none⟩)])/\
   w'=((((w.setCell ⟨R,o,none⟩ (.slice none 0 0)).setCell ⟨R,o+1,none⟩ (.int .i64 0)).alloc (.cells #[.pointer (some ⟨R,o,none⟩)] 182)).alloc (.cells #[.func (.func kn) #[] #[]] 128)).alloc (.cells #[.func (.func 150) #[] #[.pointer (some ⟨w.heap.size,0,none⟩),.pointer (some ⟨w.heap.size+1,0,none⟩),.pointer (some ⟨w.heap.size+1+1,0,none⟩)]] 128):=by
 have k0:=Ge ((((w.setCell ⟨R,o,none⟩ (.slice none 0 0)).setCell ⟨R,o+1,none⟩ (.int .i64 0)).alloc (.cells #[.pointer (some ⟨R,o,none⟩)] 182)).alloc (.cells #[.func (.func kn) #[] #[]] 128)) (w.heap.size+1+1) (by simp[World.setCell]) .nilFunc 128;have k1:=Gf ((((w.setCell ⟨R,o,none⟩ (.slice none 0 0)).setCell ⟨R,o+1,none⟩ (.int .i64 0)).alloc (.cells #[.pointer (some ⟨R,o,none⟩)] 182)).alloc (.cells #[.func (.func kn) #[] #[]] 128)) (w.heap.size+1+1) (by simp[World.setCell]) .nilFunc 128;have hst:=rE _ _ _ (.func (.func 150) #[] #[.pointer (some ⟨w.heap.size,0,none⟩),.pointer (some ⟨w.heap.size+1,0,none⟩),.pointer (some ⟨w.heap.size+1+1,0,none⟩)]) rfl k0 k1;clear k0 k1;go_enter func114,ntmps114;go_wp2;go_ret;exact⟨rfl,rfl⟩
theorem gb.zK(h:gb F R w s p st)(i:Rn):gb F R ((w.setCell ⟨R,i.off,none⟩ (.slice none 0 0)).setCell ⟨R,i.off+1,none⟩ (.int .i64 0)) s (p.eH i (.slice none 0 0)) (st.clear i):=by
 have hb:=eV (i:=i.off+1) (eV (i:=i.off) h.blk (.slice none 0 0)) (.int .i64 0);have hk:∀k,k≠R->((w.setCell ⟨R,i.off,none⟩ (.slice none 0 0)).setCell ⟨R,i.off+1,none⟩ (.int .i64 0)).heap[k]?=w.heap[k]?:=fun k hk=>by rw[af _ _ _ _ hk,af _ _ _ _ hk]
 have hs:((w.setCell ⟨R,i.off,none⟩ (.slice none 0 0)).setCell ⟨R,i.off+1,none⟩ (.int .i64 0)).heap.size=w.heap.size:=by simp[World.setCell]
 generalize (w.setCell ⟨R,i.off,none⟩ (.slice none 0 0)).setCell ⟨R,i.off+1,none⟩ (.int .i64 0)=w2 at*
 have hlt:∀k,F k->k<w2.heap.size:=fun k hf=>by rw[hs];exact h.lt k hf
 refine⟨?_,h.j5,hlt,(h.own.frame (fun k _ hr=>hk k hr) (fun _ x=>x)).clear hlt h.j5 i⟩;rw[hb];cases i<;>rfl
theorem Frame.zK(h:gb F R w s p st)(i:Rn):Frame F w ((w.setCell ⟨R,i.off,none⟩ (.slice none 0 0)).setCell ⟨R,i.off+1,none⟩ (.int .i64 0)):=
 (Frame.wQ h.j5 _ _).same (Frame.wQ h.j5 _ _)
theorem uy(s:Src)(p:jt)(st:St)(i:Rn)(h:gb F R w s p st):w.cell? ⟨R,i.off,none⟩=some (p.run i)/\w.cell? ⟨R,i.off+1,none⟩=some (.int .i64 (st.fD i)):=
 ⟨cell_of h.blk (sG s p st i).1,cell_of h.blk (sG s p st i).2⟩
theorem D1(w:World)(a b c:Obj):Z5 w (((w.alloc a).alloc b).alloc c)/\(((w.alloc a).alloc b).alloc c).heap[w.heap.size]?=some a/\(((w.alloc a).alloc b).alloc c).heap[w.heap.size+1]?=some b/\(((w.alloc a).alloc b).alloc c).heap[w.heap.size+1+1]?=some c/\(((w.alloc a).alloc b).alloc c).heap.size=w.heap.size+3:=by
 refine⟨(sH w a b).alloc (by simp;omega) c,?_,?_,?_,by simp⟩
 ·rw[ap _ _ _ (by simp;omega),ap _ _ _ (by simp)];exact bu w a
 ·rw[ap _ _ _ (by simp)];have:=bu (w.alloc a) b;simpa using this
 ·have:=bu ((w.alloc a).alloc b) c;simpa using this
theorem qh(h:gb F R w s p st)(i:Rn)(k:Pl):
  Z4 114 #[.pointer (some ⟨R,i.off,none⟩),.func (.func k.fn) #[] #[]] w fun e w'=>∃b1 b2 b3 p',e=.returned (.func (.func 150) #[] #[Z8 b1,Z8 b2,Z8 b3])/\
   qG (Grow F w w') R w' b1 (.pointer (some ⟨R,i.off,none⟩)) 182/\qG (Grow F w w') R w' b2 k.val 128/\qG (Grow F w w') R w' b3 (.func (.func 150) #[] #[Z8 b1,Z8 b2,Z8 b3]) 128/\
   gb (Grow F w w') R w' s p' (st.clear i)/\Frame F w w':=by
 have hR:=h.lt R h.j5;refine(Be R i.off k.fn _ _ w hR (uy s p st i h).1 (uy s p st i h).2 (eP h.blk) (eP h.blk)).mono ?_;rintro e w' ⟨rfl,rfl⟩;have r:=h.zK i;have f:=Frame.zK h i;have hsz:((w.setCell ⟨R,i.off,none⟩ (.slice none 0 0)).setCell ⟨R,i.off+1,none⟩ (.int .i64 0)).heap.size=w.heap.size:=by simp[World.setCell]
 generalize (w.setCell ⟨R,i.off,none⟩ (.slice none 0 0)).setCell ⟨R,i.off+1,none⟩ (.int .i64 0)=w2 at*
 obtain⟨hb,a1,a2,a3,az⟩:=D1 w2 (.cells #[.pointer (some ⟨R,i.off,none⟩)] 182) (.cells #[.func (.func k.fn) #[] #[]] 128) (.cells #[.func (.func 150) #[] #[.pointer (some ⟨w.heap.size,0,none⟩),.pointer (some ⟨w.heap.size+1,0,none⟩),.pointer (some ⟨w.heap.size+1+1,0,none⟩)]] 128);generalize ((w2.alloc (.cells #[.pointer (some ⟨R,i.off,none⟩)] 182)).alloc (.cells #[.func (.func k.fn) #[] #[]] 128)).alloc (.cells #[.func (.func 150) #[] #[.pointer (some ⟨w.heap.size,0,none⟩),.pointer (some ⟨w.heap.size+1,0,none⟩),.pointer (some ⟨w.heap.size+1+1,0,none⟩)]] 128)=w3 at*
 rw[hsz]at a1 a2 a3 az;have hG:∀k,Grow F w2 w3 k->Grow F w w3 k:=fun k hk=>by unfold Grow at*;rw[hsz]at hk;exact hk
 refine⟨w.heap.size,w.heap.size+1,w.heap.size+1+1,_,rfl,⟨a1,Or.inr (by omega),by omega⟩,⟨a2,Or.inr (by omega),by omega⟩,⟨a3,Or.inr (by omega),by omega⟩,(r.below hb).mono hG (fun k hk=>?_),f.same (Frame.below hb)⟩;exact(r.below hb).lt k (by unfold Grow at*;rw[hsz];exact hk)
end
section
variable{F:Nat->Prop}{R:Nat}{w w':World}{s:Src}{p:jt}{st:St}{c:Int}
def stName(i:Rn)(k:Pl)(q:Int)(st:St)(c:Int):Out:=
 if(st.run i).length=0 then gh i k q st c else if(Ch.fw c||Ch.gz c)=true then⟨st.put i c q,.go (.name i k)⟩else step k q st c
theorem nj{b:Nat}{x:Value}{t:TypeId}{i:Rn}(h:qG F R w b x t)(ho:Own F R w p st)(ht:t≠5)(hlt:∀k,F k->k<w.heap.size)(hK:Kept R (p.run i).ownBlock w w'):qG (Grow F w w') R w' b x t:=by
 refine⟨?_,Or.inl h.2.1,h.2.2⟩;rw[hK.block b (hlt b h.2.1) h.2.2 ?_]
 ·exact h.1
 ·intro e;obtain⟨cur,hc⟩:=fX (ho.run i) e.symm;rw[h.1]at hc;simp only[aJ,cY]at hc;exact ht hc.2.1
theorem lD{b:Nat}{x:Value}{t:TypeId}(h:qG F R w b x t)(hlt:∀k,F k->k<w.heap.size)(hb:Z5 w w'):qG (Grow F w w') R w' b x t:=
 ⟨(hb.block b (hlt b h.2.1)).trans h.1,Or.inl h.2.1,h.2.2⟩
def jB(F:Nat->Prop)(R:Nat)(w:World)(i:Rn)(k:Pl)(b1 b2 b3:Nat):Prop:=
 qG F R w b1 (.pointer (some ⟨R,i.off,none⟩)) 182/\qG F R w b2 k.val 128/\qG F R w b3 (.func (.func 150) #[] #[Z8 b1,Z8 b2,Z8 b3]) 128
theorem jB.below{i:Rn}{k:Pl}{b1 b2 b3:Nat}(h:jB F R w i k b1 b2 b3)(hlt:∀k,F k->k<w.heap.size)(hb:Z5 w w'):jB (Grow F w w') R w' i k b1 b2 b3:=
 ⟨lD h.1 hlt hb,lD h.2.1 hlt hb,lD h.2.2 hlt hb⟩
theorem jB.kept{i j:Rn}{k:Pl}{b1 b2 b3:Nat}(h:jB F R w i k b1 b2 b3)(ho:Own F R w p st)(hlt:∀k,F k->k<w.heap.size)(hK:Kept R (p.run j).ownBlock w w'):jB (Grow F w w') R w' i k b1 b2 b3:=
 ⟨nj h.1 ho (by decide) hlt hK,nj h.2.1 ho (by decide) hlt hK,nj h.2.2 ho (by decide) hlt hK⟩
theorem xG{w1 w2:World}{i:Rn}{k:Pl}{b1 b2 b3:Nat}{v:Value}{iJ:St}(hb:Z5 w w1)(r2:gb (Grow (Grow F w w1) w1 w2) R w2 s (p.eH i v) iJ)(f2:Frame (Grow F w w1) w1 w2)(hn:jB (Grow (Grow F w w1) w1 w2) R w2 i k b1 b2 b3):
  eJ F R w s ⟨iJ,.go (.name i k)⟩ (.returned (.tuple #[.func (.func 150) #[] #[Z8 b1,Z8 b2,Z8 b3],.nilIface])) w2:=by
 have f1:Frame F w w1:=Frame.below hb;refine⟨_,r2.join f1.size f2.size,f1.trans f2,_,rfl,?_⟩;exact gJ.mono (F:=Grow (Grow F w w1) w1 w2) (pt:=.name i k) ⟨b1,b2,b3,rfl,hn.1,hn.2.1,hn.2.2⟩ (fun k hk=>(Grow.trans f1.size f2.size k).1 hk)
theorem Gg(k:Pl):∀args w,(callFunc k.fn args).run prog w=.ok (.enter k.fn args) w:=by
 cases k with
 |between=>exact enters_of func49 (by kernel_rfl) rfl
 |less=>exact enters_of func82 (by kernel_rfl) rfl
 |oT=>exact enters_of func117 (by kernel_rfl) rfl
 |remark=>exact enters_of func156 (by kernel_rfl) rfl
 |DN=>exact enters_of func193 (by kernel_rfl) rfl
 |iP=>exact enters_of func116 (by kernel_rfl) rfl
 |order=>exact enters_of func154 (by kernel_rfl) rfl
 |mark=>exact enters_of func191 (by kernel_rfl) rfl
 |iB=>exact enters_of func157 (by kernel_rfl) rfl
 |bracket=>exact enters_of func194 (by kernel_rfl) rfl
 |brackets=>exact enters_of func224 (by kernel_rfl) rfl
 |part=>exact enters_of func118 (by kernel_rfl) rfl
 |eY=>exact enters_of func158 (by kernel_rfl) rfl
 |jR=>exact enters_of func195 (by kernel_rfl) rfl
 |rz=>exact enters_of func226 (by kernel_rfl) rfl
 |lU=>exact enters_of func242 (by kernel_rfl) rfl
 |iW=>exact enters_of func253 (by kernel_rfl) rfl
 |jL=>exact enters_of func159 (by kernel_rfl) rfl
 |closing=>exact enters_of func115 (by kernel_rfl) rfl
theorem yv(h:gb F R w s p st)(hc:ux c)(i:Rn)(k:Pl)(b1 b2 b3:Nat)(hN:jB F R w i k b1 b2 b3)(hs:(st.run i).length<=70368744177680)
  (abe:(st.run i).length≠0->∀(F1:Nat->Prop) (w1:World) (p1:jt),gb F1 R w1 s p1 st->Z4 k.fn #[Z8 R,.int .i32 c] w1 (eJ F1 R w1 s (step k s.at_ st c))):
  Z4 150 #[Z8 R,.int .i32 c,Z8 b1,Z8 b2,Z8 b3] w (eJ F R w s (stName i k s.at_ st c)):=by
 have hat:w.cell? ⟨R,2,none⟩=some (.int .i64 s.at_):=h.cell 2 rfl;have hR:=h.lt R h.j5;have k1:=jA hN.1;have k2:w.cell? ⟨b2,0,none⟩=some (.func (.func k.fn) #[] #[]):=jA hN.2.1;obtain⟨ao,cap,hv⟩:=eE (h.own.run i);have c0:w.cell? ⟨R,i.off,none⟩=some (.slice ao (st.run i).length cap):=by rw[<-hv];exact(uy s p st i h).1
 have hbn:=oC c hc;have Yn:=ml c hc
 --what put does,behind a look at the character
 have hput:0<=c->∀w1,Z5 w w1->Z4 86 #[.pointer (some ⟨R,i.off,none⟩),.int .i32 c,.int .i64 s.at_] w1.drew fun e w2=>e=.returned (.tuple #[])/\∃v,gb (Grow (Grow F w w1) w1 w2) R w2 s (p.eH i v) (st.put i c s.at_)/\Frame (Grow F w w1) w1 w2/\jB (Grow (Grow F w w1) w1 w2) R w2 i k b1 b2 b3:=by
  intro h0 w1 hb;refine(lX (h.below hb) i c s.at_ (pN hc h0) (by omega)).mono ?_;rintro e w2 ⟨rfl,v,r,f,kk⟩;exact⟨rfl,v,r,f,(hN.below h.lt hb).kept (h.below hb).own (h.below hb).lt kk⟩
 have hbo:Ch.fw c=true->0<=c:=fun e=>by have:=(Ch.fT c).1 e;omega
 have hgo:(Ch.fw c||Ch.gz c)=true->0<=c:=fun e=>by
  rw[bw]at e;rcases e with e|e
  ·have:=(Ch.fT c).1 e;omega
  ·have:=(Ch.jq c).1 e;omega
 have hen:=Gg k;have hb1:=h.lt b1 hN.1.2.1;have hb2:=h.lt b2 hN.2.1.2.1;have HN:=a_ hN;have H:=a_ h;have HP:=a_ hput;have HBE:=a_ abe;have HBO:=a_ hbo;have HGO:=a_ hgo;clear h hN hput abe hbo hgo hv hs hc;unfold stName gh;generalize st.put i c s.at_=rD at*
 generalize yh:step k s.at_ st c=so at*
 clear yh;generalize Ch.fw c=bb at*
 generalize (bb||Ch.gz c)=gg at*
 generalize hn:(st.run i).length=n at*
 clear hn;by_cases AV:n=0
 ·subst AV;simp only[if_true];cases bb
  ·simp only[aA,bf];go_enter func150,ntmps150;go_wp2_with(go_at_call 151;refine(hbn _).mono ?_;rintro e w1 ⟨rfl,l_⟩);refine(gS R c s.at_ _ ((l_.cell hR).trans hat)).mono ?_;rintro e w2 ⟨rfl,rfl⟩;go_wp2
   go_ret2
   exact eJ.iC H.out l_
  ·simp only[if_true];go_enter func150,ntmps150;go_wp2_with(go_at_call 151;refine(hbn _).mono ?_;rintro e w1 ⟨rfl,l_⟩);have hc0:0<=c:=by first|exact HBO.out rfl|exact HBO.out trivial
   have k1':=(l_.cell hb1).trans k1;have JL:=(l_.cell hR).trans hat;go_region_held3 (fun W=>W.cell? ⟨b1,0,none⟩=some (.pointer (some ⟨R,i.off,none⟩))/\W.cell? ⟨R,2,none⟩=some (.int .i64 s.at_))
    (first|exact⟨k1',JL⟩|exact⟨ZP,Sr⟩)
    (first|(go_at_call 86;refine(HP.out hc0 _ l_).mono ?_;rintro e w2 ⟨rfl,v,r2,f2,n2⟩;have ZP:=jA n2.1;have acE:=jA n2.2.2;have Sr:w2.cell? ⟨R,2,none⟩=some (.int .i64 s.at_):=r2.cell 2 rfl;have N2:=a_ n2;clear n2))
   all_goals
    go_wp2
    go_ret2
    exact xG l_ r2 f2 N2.out
 ·have e0:((n:Int)==0)=false:=by
   have:(n:Int)≠0:=by omega
   simpa using this
  rw[if_neg AV];have acF:=a_ (HBE.out AV);clear AV;cases gg
  ·simp only[aA,bf];go_enter func150,ntmps150;go_wp2_with(go_at_call 120;refine(Yn _).mono ?_;rintro e w1 ⟨rfl,l_⟩;have k2':=(l_.cell hb2).trans k2);refine(acF.out _ _ _ (H.out.below l_)).mono ?_;intro e w2 hP;obtain⟨v1,v2,rfl⟩:=hP.two;go_wp2
   go_ret2
   exact hP.after (Frame.below l_)
  ·simp only[if_true];go_enter func150,ntmps150;go_wp2_with(go_at_call 120;refine(Yn _).mono ?_;rintro e w1 ⟨rfl,l_⟩);have hc0:0<=c:=by first|exact HGO.out rfl|exact HGO.out trivial
   have k1':=(l_.cell hb1).trans k1;have JL:=(l_.cell hR).trans hat;go_region_held3 (fun W=>W.cell? ⟨b1,0,none⟩=some (.pointer (some ⟨R,i.off,none⟩))/\W.cell? ⟨R,2,none⟩=some (.int .i64 s.at_))
    (first|exact⟨k1',JL⟩|exact⟨ZP,Sr⟩)
    (first|(go_at_call 86;refine(HP.out hc0 _ l_).mono ?_;rintro e w2 ⟨rfl,v,r2,f2,n2⟩;have ZP:=jA n2.1;have acE:=jA n2.2.2;have Sr:w2.cell? ⟨R,2,none⟩=some (.int .i64 s.at_):=r2.cell 2 rfl;have N2:=a_ n2;clear n2))
   all_goals
    go_wp2
    go_ret2
    exact xG l_ r2 f2 N2.out
end
section
variable{F:Nat->Prop}{R:Nat}{w w':World}{s:Src}{p:jt}{st:St}{c:Int}
theorem sM(st:St)(i:Rn):((st.clear i).run i).length=0:=by simp[St.clear,St.eH]
theorem D3(i:Rn)(k:Pl)(q:Int)(st:St)(c:Int):stName i k q (st.clear i) c=gh i k q (st.clear i) c:=by unfold stName;rw[if_pos (sM st i)]
theorem B9(h:gb F R w s p st)(hc:ux c)(i:Rn)(k:Pl){b1 b2 b3:Nat}{w1:World}{p1:jt}
  (hN:jB (Grow F w w1) R w1 i k b1 b2 b3) (r1:gb (Grow F w w1) R w1 s p1 (st.clear i)):
  Z4 150 #[Z8 R,.int .i32 c,Z8 b1,Z8 b2,Z8 b3] w1 (eJ (Grow F w w1) R w1 s (gh i k s.at_ (st.clear i) c)):=by
 rw[<-D3];exact yv r1 hc i k b1 b2 b3 hN (by rw[sM];omega) (fun hne=>absurd (sM st i) hne)
theorem eJ.ZQ{w1:World}{p1:jt}{i:Rn}{k:Pl}{b1 b2 b3:Nat}{iJ:St}(hN:jB (Grow F w w1) R w1 i k b1 b2 b3)(r1:gb (Grow F w w1) R w1 s p1 iJ)(f1:Frame F w w1):
  eJ F R w s ⟨iJ,.go (.name i k)⟩ (.returned (.tuple #[.func (.func 150) #[] #[Z8 b1,Z8 b2,Z8 b3],.nilIface])) w1:=
 ⟨p1,r1,f1,_,rfl,b1,b2,b3,rfl,hN.1,hN.2.1,hN.2.2⟩
theorem Wt(h:gb F R w s p st)(hc:ux c):
  Z4 82 #[Z8 R,.int .i32 c] w (eJ F R w s (step .less s.at_ st c)):=by
 have hw1:Z4 114 #[.pointer (some ⟨R,9,none⟩),.func (.func 115) #[] #[]] w _:=qh h .name .closing;have hw2:Z4 114 #[.pointer (some ⟨R,9,none⟩),.func (.func 118) #[] #[]] w _:=qh h .name .part;have H:=a_ h;have HC:=a_ hc;clear h hc;show Calls _ _ _ _ (eJ F R w s (if c=47 then⟨st.clear .name,.go (.name .name .closing)⟩else if c=63 then⟨st,.go (.plain .iP)⟩else if c=33 then⟨st,.go (.plain .oT)⟩else gh .name .part s.at_ (st.clear .name) c));by_cases h1:c=47
 ·rw[if_pos h1];have e1:(c==47)=true:=by simpa using h1
  clear h1 hw2;go_enter func82,ntmps82;go_wp2_with(go_at_call 114;refine hw1.mono ?_;rintro e w1 ⟨b1,b2,b3,p1,rfl,x1,x2,x3,r1,f1⟩)
  go_ret2
  exact eJ.ZQ ⟨x1,x2,x3⟩ r1 f1
 ·rw[if_neg h1];have e1:(c==47)=false:=by simpa using h1
  clear h1 hw1;by_cases h2:c=63
  ·rw[if_pos h2];have e2:(c==63)=true:=by simpa using h2
   clear h2;go_enter func82,ntmps82;go_wp2
   go_ret2
   exact eJ.pM H.out (Below.refl _ _)
  ·rw[if_neg h2];have e2:(c==63)=false:=by simpa using h2
   clear h2;by_cases h3:c=33
   ·rw[if_pos h3];have e3:(c==33)=true:=by simpa using h3
    clear h3;go_enter func82,ntmps82;go_wp2
    go_ret2
    exact eJ.pM H.out (Below.refl _ _)
   ·rw[if_neg h3];have e3:(c==33)=false:=by simpa using h3
    clear h3;generalize yh:gh .name .part s.at_ (st.clear .name) c=so at*
    have P0:=a_ yh;clear yh;go_enter func82,ntmps82;go_wp2_with(first|(go_at_call 114;refine hw2.mono ?_;rintro e w1 ⟨b1,b2,b3,p1,rfl,x1,x2,x3,r1,f1⟩));have fg:=B9 H.out HC.out .name .part ⟨x1,x2,x3⟩ r1;rw[P0.out]at fg;refine fg.mono ?_;intro e w2 hP;obtain⟨v1,v2,rfl⟩:=hP.two;go_wp2
    go_ret2
    exact hP.after f1
theorem NR(h:gb F R w s p st)(hc:ux c)(hs:st.Small):
  Z4 158 #[Z8 R,.int .i32 c] w (eJ F R w s (step .eY s.at_ st c)):=by
 have hbn:=oC c hc w;have H:=a_ h;have HC:=a_ hc;have HS:=a_ hs;clear h hc hs;show Calls _ _ _ _ (eJ F R w s (if Ch.fw c=true then gh .attr .jR s.at_ (st.clear .attr) c else jS s.at_ st c));generalize yh:gh .attr .jR s.at_ (st.clear .attr) c=so at*
 generalize hsp:jS s.at_ st c=sp at*
 have P0:=a_ yh;have HSP:=a_ hsp;clear yh hsp;generalize Ch.fw c=b at*
 cases b
 ·simp only[aA,bf];go_enter func158,ntmps158;go_wp2_with(first|(go_at_call 151;refine hbn.mono ?_;rintro e w1 ⟨rfl,l_⟩));have fg:=oU (H.out.below l_) HC.out HS.out;rw[HSP.out]at fg;refine fg.mono ?_;intro e w2 hP;obtain⟨v1,v2,rfl⟩:=hP.two;go_wp2
  go_ret2
  exact hP.after (Frame.below l_)
 ·simp only[if_true];go_enter func158,ntmps158;go_wp2_with(first|(go_at_call 151;refine hbn.mono ?_;rintro e w1 ⟨rfl,l_⟩));have hwn:Z4 114 #[.pointer (some ⟨R,13,none⟩),.func (.func 195) #[] #[]] w1 _:=qh (H.out.below l_) .attr .jR;refine hwn.mono ?_;rintro e w2 ⟨b1,b2,b3,p1,rfl,x1,x2,x3,r1,f1⟩;go_wp2_with fail;have fg:=B9 (H.out.below l_) HC.out .attr .jR ⟨x1,x2,x3⟩ r1;rw[P0.out]at fg;refine fg.mono ?_;intro e w3 hP;obtain⟨v1,v2,rfl⟩:=hP.two;go_wp2
  go_ret2
  exact(hP.after f1).after (Frame.below l_)
end
section
variable{F:Nat->Prop}{R:Nat}{w w':World}{s:Src}{p:jt}{st:St}{c:Int}
theorem Dp:Keyed prog 9:=string_keyed underlying9
theorem D4(w:World):(zeroValue 318).run prog w=.ok (.agg #[]) w:=by kernel_rfl
theorem B_(l:List (List UInt8))(x:List UInt8):Maps.has (mo l) (Lit.string x)=l.contains x:=by
 unfold mo;rw[has_setOf _ _ _ (by intro y hy;obtain⟨z,_,rfl⟩:=List.mem_map.1 hy;exact trivial)];rw[bL];simp[Lit.sameKey]
theorem zL(l:List (List UInt8))(x:List UInt8):(mo l).put (Lit.string x) (.agg [])=mo (l++[x]):=by
 unfold mo;rw[bp,bB,bZ,setOf_snoc]
theorem Own.Gh(h:Own F R w p st)(hlt:∀k,F k->k<w.heap.size)(b:Nat)(l:List (List UInt8))(hk:∀k,k<w.heap.size->k≠R->p.names≠ .map (some k)->w'.heap[k]?=w.heap[k]?)(hb:b≠R)(hF:Grow F w w' b)
  (hm:w'.ownsMap prog 9 unitElem b l.length (mo l)):Own (Grow F w w') R w' {p with names:=.map (some b)} {st with names:=l}:=by
 have nm:∀k v e sz n xs,w.ownsRow 0 e sz v n xs->v.ownBlock=some k->p.names≠ .map (some k):=by
  intro k v e sz n xs ho hv hn;rcases h.names with⟨e,_⟩|⟨b',e,_,_,h4⟩
  ·rw[e]at hn;cases hn
  ·rw[e]at hn;cases hn;exact DL ho h4 hv
 obtain⟨cs,hc,hT⟩:=h.told;refine⟨fun i=>eI (h.run i) fun k e=>hk k (hlt k (h.jJ i k e).1) (h.jJ i k e).2 (nm k _ _ _ _ _ (h.run i) e),fun i k e=>⟨Or.inl (h.jJ i k e).1,(h.jJ i k e).2⟩,h.apart,
  ⟨cs,eI hc fun k e=>hk k (hlt k (h.iD k e).1) (h.iD k e).2 (nm k _ _ _ _ _ hc e),hT.frame fun k n xs v' PZ hv a b c=>⟨hk k (hlt k a) b (nm k _ _ _ _ _ PZ hv),Or.inl a,c⟩⟩,fun k e=>⟨Or.inl (h.iD k e).1,(h.iD k e).2⟩,
  eI h.b_ fun k e=>hk k (hlt k (h.fe k e).1) (h.fe k e).2 (nm k _ _ _ _ _ h.b_ e),fun k e=>⟨Or.inl (h.fe k e).1,(h.fe k e).2⟩,Or.inr ⟨b,rfl,hF,hb,hm⟩⟩
theorem Bf(h:gb F R w s p st)(hs:(st.run .attr).length<=70368744177680)(hh:st.names.contains (st.run .attr)=true):
  Z4 225 #[Z8 R] w (Z7 (oD 5 (st.fD .attr)) w):=by
 obtain⟨ao,cap,hv⟩:=eE (h.own.run .attr);have c13:w.cell? ⟨R,13,none⟩=some (.slice ao (st.run .attr).length cap):=by rw[<-hv];exact h.cell 13 rfl
 have c14:w.cell? ⟨R,14,none⟩=some (.int .i64 (st.fD .attr)):=h.cell 14 rfl;have hcv:(convert 49 9 (.slice ao (st.run .attr).length cap)).run prog w=.ok (.string ⟨(st.run .attr).toArray⟩) w:=by rw[<-hv];exact ko (h.own.run .attr)
 have hlt:=h.lt R h.j5;rcases h.own.names with⟨_,hn⟩|⟨b,hp,_,_,hm⟩
 ·rw[hn]at hh;simp at hh
 have c12:w.cell? ⟨R,12,none⟩=some (.map (some b)):=by rw[<-hp];exact h.cell 12 rfl
 have hkey:keyOf prog 9 (.string ⟨(st.run .attr).toArray⟩)=some (.string (st.run .attr)):=by
  have:=dG (P:=prog) underlying9 (s:=⟨(st.run .attr).toArray⟩) (by show (st.run .attr).toArray.size<=_;unfold maxLen;simp;omega);simpa using this
 have FB:Maps.has (mo st.names) (Lit.string (st.run .attr))=true:=by rw[B_];exact hh
 have HH:=a_ FB;have HM:=a_ hm;have HK:=a_ hkey;clear h hh hv hp hm hkey FB;generalize (st.run .attr)=nm at*
 go_enter func225,ntmps225;go_wp2_with(at_lookup;refine wpList_lookup_own_unit _ rfl _ _ 131 rfl 9 318 Dp underlying131 (D4 _) b st.names.length _ rfl HM.out _ _ rfl HK.out ?_;rw[HH.out]);go_ret;exact⟨rfl,(Below.refl _ _).alloc (ah _) _⟩
theorem ZR(b:Nat)(w:World):(binOp .eql 131 (.map (some b)) (.map none)).run prog w=.ok (.bool false) w:=by kernel_rfl
theorem Wu(w:World):(binOp .eql 131 (.map none) (.map none)).run prog w=.ok (.bool true) w:=by kernel_rfl
theorem Gi{b:Nat}{w1 w2:World}(h:gb F R w s p st)(b1:Z5 w w1)(hp:p.names=.map (some b))(hF:F b)(hb:b≠R)(hm:w2.ownsMap prog 9 unitElem b (st.names++[st.run .attr]).length (mo (st.names++[st.run .attr])))(hg:w1.grownBy w2 (some b)):
  gb (Grow F w w2) R w2 s p {st with names:=st.names++[st.run .attr]}/\Frame F w w2:=by
 have hR:=h.lt R h.j5;have hsz:w.heap.size<=w2.heap.size:=ar b1.size hg.size;have hk:∀k,k<w.heap.size->k≠b->w2.heap[k]?=w.heap[k]?:=fun k hl hn=>(hg.block k (ak hl b1.size) (by simpa using hn)).trans (b1.block k hl);have o1:=h.own.Gh (w':=w2) h.lt b (st.names++[st.run .attr]) (fun k hl _ hn=>hk k hl (fun e=>hn (by rw[hp,e]))) hb (Or.inl hF) hm;refine⟨⟨?_,Or.inl h.j5,i_ h.lt hsz,?_⟩,⟨hg.os.trans b1.os,hg.tape.trans b1.tape,hg.output.trans b1.output,hsz,fun k hl hf=>hk k hl (fun e=>hf (e▸hF))⟩⟩
 ·rw[hk R hR (fun e=>hb e.symm)];exact h.blk
 ·have:{p with names:=.map (some b)}=p:=by rw[<-hp]
  rw[this]at o1;exact o1
theorem Gj(h:gb F R w s p st)(hs:(st.run .attr).length<=70368744177680)(hs2:st.names.length<=1099511627790)(hh:st.names.contains (st.run .attr)=false)(Jg:p.names≠ .map none):
  Z4 225 #[Z8 R] w fun e w'=>e=.returned .nilIface/\∃p',gb (Grow F w w') R w' s p' {st with names:=st.names++[st.run .attr]}/\Frame F w w':=by
 obtain⟨ao,cap,hv⟩:=eE (h.own.run .attr);have c13:w.cell? ⟨R,13,none⟩=some (.slice ao (st.run .attr).length cap):=by rw[<-hv];exact h.cell 13 rfl
 have hcv:(convert 49 9 (.slice ao (st.run .attr).length cap)).run prog w=.ok (.string ⟨(st.run .attr).toArray⟩) w:=by rw[<-hv];exact ko (h.own.run .attr)
 have hlt:=h.lt R h.j5;rcases h.own.names with⟨hn,_⟩|⟨b,hp,hF,hb,hm⟩
 ·exact absurd hn Jg
 have c12:w.cell? ⟨R,12,none⟩=some (.map (some b)):=by rw[<-hp];exact h.cell 12 rfl
 have hkey:keyOf prog 9 (.string ⟨(st.run .attr).toArray⟩)=some (.string (st.run .attr)):=by
  have:=dG (P:=prog) underlying9 (s:=⟨(st.run .attr).toArray⟩) (by show (st.run .attr).toArray.size<=_;unfold maxLen;simp;omega);simpa using this
 have FB:Maps.has (mo st.names) (Lit.string (st.run .attr))=false:=by rw[B_];exact hh
 have hclose:=fun(w1 w2:World) b1 hm hg=>Gi (w1:=w1) (w2:=w2) h b1 hp hF hb hm hg;have hput:=zL st.names (st.run .attr);have HP:=a_ hput;have AR:=a_ hclose;have HH:=a_ FB;have HM:=a_ hm;have HK:=a_ hkey;clear h hh hv hp hm hkey FB hclose hput Jg hF hb;have hlen:(st.names++[st.run .attr]).length=st.names.length+1:=by simp
 have HLN:=a_ hlen;clear hlen;generalize qC:(st.run .attr)=nm at*
 clear qC;have hqm:=ZR b;go_enter func225,ntmps225;go_wp2_with(first
  |(at_lookup;refine wpList_lookup_own_unit _ rfl _ _ 131 rfl 9 318 Dp underlying131 (D4 _) b st.names.length _ rfl HM.out _ _ rfl HK.out ?_;rw[HH.out])
  |(at_mapUpdate;refine dZ _ rfl _ _ _ 131 rfl 9 318 Dp underlying131 (unitElem (H:=Unit)) b st.names.length _ rfl (HM.out.alloc _) (by unfold maxLen;omega) _ _ _ rfl rfl HK.out _ [] unitElem_mk ?_;intro w1 Gk JM))
 go_ret;rw[HP.out]at Gk;obtain⟨r2,f2⟩:=AR.out _ _ ((Below.refl _ w).alloc (ah _) _) (by rw[HLN.out];exact Gk) JM;exact⟨rfl,p,r2,f2⟩
theorem NT(W:World)(n:Nat)(h:W.heap.size=n):(W.alloc (.map #[] 0)).ownsMap prog 9 unitElem n 0 (mo []):=by subst h;exact World.ownsMap_made W prog 9 unitElem
theorem vE{nm:List UInt8}{w2:World}(h:gb F R w s p st)(hm:w2.ownsMap prog 9 unitElem (w.heap.size+1) 1 (mo [nm]))
  (hg:(((w.setCell ⟨R,12,none⟩ (.map (some (w.heap.size+1)))).alloc (.cells #[] 318)).alloc (.map #[] 0)).grownBy w2 (some (w.heap.size+1))):
  gb (Grow F w w2) R w2 s {p with names:=.map (some (w.heap.size+1))} {st with names:=[nm]}/\Frame F w w2:=by
 have hR:=h.lt R h.j5;have hz:=hg.size;simp[World.setCell]at hz;have hsz:w.heap.size<=w2.heap.size:=by omega
 have xv:∀k,k<w.heap.size->w2.heap[k]?=(w.setCell ⟨R,12,none⟩ (.map (some (w.heap.size+1)))).heap[k]?:=fun k hl=>by rw[hg.block k (by simp[World.setCell];omega) (by simp;omega),ap _ _ _ (by simp[World.setCell];omega),ap _ _ _ (by simp[World.setCell];omega)]
 have hk:∀k,k<w.heap.size->k≠R->w2.heap[k]?=w.heap[k]?:=fun k hl hn=>(xv k hl).trans (af _ _ _ _ hn);have o1:=h.own.Gh (w':=w2) h.lt (w.heap.size+1) [nm] (fun k hl hr _=>hk k hl hr) (by omega) (Or.inr ⟨by omega,by omega⟩) hm;refine⟨⟨?_,Or.inl h.j5,i_ h.lt hsz,o1⟩,⟨hg.os,hg.tape,hg.output,hsz,fun k hl hf=>hk k hl (fun e=>hf (e▸h.j5))⟩⟩;rw[xv R hR,eV h.blk];rfl
theorem Bg(h:gb F R w s p st)(hs:(st.run .attr).length<=70368744177680)(Jg:p.names=.map none):
  Z4 225 #[Z8 R] w fun e w'=>e=.returned .nilIface/\∃p',gb (Grow F w w') R w' s p' {st with names:=[st.run .attr]}/\Frame F w w':=by
 obtain⟨ao,cap,hv⟩:=eE (h.own.run .attr);have c13:w.cell? ⟨R,13,none⟩=some (.slice ao (st.run .attr).length cap):=by rw[<-hv];exact h.cell 13 rfl
 have hcv:(convert 49 9 (.slice ao (st.run .attr).length cap)).run prog w=.ok (.string ⟨(st.run .attr).toArray⟩) w:=by rw[<-hv];exact ko (h.own.run .attr)
 have hlt:=h.lt R h.j5;have c12:w.cell? ⟨R,12,none⟩=some (.map none):=by rw[<-Jg];exact h.cell 12 rfl
 have f12:=h.free 12;have hkey:keyOf prog 9 (.string ⟨(st.run .attr).toArray⟩)=some (.string (st.run .attr)):=by
  have:=dG (P:=prog) underlying9 (s:=⟨(st.run .attr).toArray⟩) (by show (st.run .attr).toArray.size<=_;unfold maxLen;simp;omega);simpa using this
 have hnil:=fun W:World=>look_nil (w:=W) true Dp underlying131 (D4 W) hkey;have ES:= @run_makeMap prog;have H:=a_ h;have HK:=a_ hkey;clear h hv hkey Jg;generalize qC:(st.run .attr)=nm at*
 have Ff:=a_ qC;clear qC;have hqm:=Wu;go_enter func225,ntmps225;go_wp2_with(at_mapUpdate;refine dZ _ rfl _ _ _ 131 rfl 9 318 Dp underlying131 (unitElem (H:=Unit)) (w.heap.size+1) 0 (mo []) rfl (NT _ _ (by simp[World.setCell])) (by unfold maxLen;omega) _ _ _ rfl rfl HK.out _ [] unitElem_mk ?_;intro w1 Gk JM);go_ret;rw[zL]at Gk;obtain⟨r2,f2⟩:=vE H.out (nm:=nm) Gk JM;first|exact⟨rfl,_,r2,f2⟩|exact⟨rfl,⟨_,r2⟩,f2⟩
theorem Gm(h:gb F R w s p st)(hs:(st.run .attr).length<=70368744177680)(hs2:st.names.length<=1099511627790):
  Z4 225 #[Z8 R] w fun e w'=>if st.names.contains (st.run .attr)=true then e=.returned (oD 5 (st.fD .attr))/\Z5 w w'
   else e=.returned .nilIface/\∃p',gb (Grow F w w') R w' s p' {st with names:=st.names++[st.run .attr]}/\Frame F w w':=by
 cases hh:st.names.contains (st.run .attr)
 ·simp only[aA,bf];by_cases hn:p.names=.map none
  ·rcases h.own.names with⟨_,hl⟩|⟨b,hp,_⟩
   ·have:=Bg h hs hn;rw[hl];exact this
   ·rw[hp]at hn;cases hn
  ·exact Gj h hs hs2 hh hn
 ·simp only[if_true];exact Bf h hs hh
theorem JN(h:gb F R w s p st)(hc:ux c)(hs:(st.run .attr).length<=70368744177680)(hs2:st.names.length<=1099511627790):
  Z4 195 #[Z8 R,.int .i32 c] w (eJ F R w s (step .jR s.at_ st c)):=by
 have ha:=Gm h hs hs2;show Calls _ _ _ _ (eJ F R w s (if st.names.contains (st.run .attr)=true then⟨st,.fail 5 (st.fD .attr)⟩else kq s.at_ {st with names:=st.names++[st.run .attr]} c));have hq1:∀W:World,(binOp .neq 100 (oD 5 (st.fD .attr)) .nilIface).run prog W=.ok (.bool true) W:=fun W=>by unfold oD;kernel_rfl
 have hq2:∀W:World,(binOp .neq 100 .nilIface .nilIface).run prog W=.ok (.bool false) W:=fun W=>by kernel_rfl
 have H:=a_ h;clear h hs hs2;generalize {st with names:=st.names++[st.run .attr]}=rD at*
 generalize st.names.contains (st.run .attr)=b at*
 cases b
 ·simp only[aA,bf]at ha ⊢;go_enter func195,ntmps195;go_wp2_with(first|(go_at_call 225;refine ha.mono ?_;rintro e w1 ⟨rfl,p1,r1,f1⟩));refine(Gb r1 hc).mono ?_;intro e w2 hP;obtain⟨v1,v2,rfl⟩:=hP.two;go_wp2
  go_ret2
  exact hP.after f1
 ·simp only[if_true,oD]at ha hq1 ⊢;go_enter func195,ntmps195;go_wp2_with(first|(go_at_call 225;refine ha.mono ?_;rintro e w1 ⟨rfl,l_⟩))
  go_ret2
  exact eJ.iC H.out l_
end
section
variable{F:Nat->Prop}{R:Nat}{w w':World}{s:Src}{p:jt}{st:St}{c:Int}
def gV(F:Nat->Prop)(R:Nat)(w:World)(i:Rn)(k:Pl)(b1 b2 b3:Nat):Prop:=
 qG F R w b1 (.func (.func 119) #[] #[Z8 b1,Z8 b2,Z8 b3]) 128/\qG F R w b2 (.pointer (some ⟨R,i.off,none⟩)) 182/\qG F R w b3 k.val 128
theorem gV.below{i:Rn}{k:Pl}{b1 b2 b3:Nat}(h:gV F R w i k b1 b2 b3)(hlt:∀k,F k->k<w.heap.size)(hb:Z5 w w'):gV (Grow F w w') R w' i k b1 b2 b3:=
 ⟨lD h.1 hlt hb,lD h.2.1 hlt hb,lD h.2.2 hlt hb⟩
theorem gV.kept{i j:Rn}{k:Pl}{b1 b2 b3:Nat}(h:gV F R w i k b1 b2 b3)(ho:Own F R w p st)(hlt:∀k,F k->k<w.heap.size)(hK:Kept R (p.run j).ownBlock w w'):gV (Grow F w w') R w' i k b1 b2 b3:=
 ⟨nj h.1 ho (by decide) hlt hK,nj h.2.1 ho (by decide) hlt hK,nj h.2.2 ho (by decide) hlt hK⟩
theorem NU(h:gb F R w s p st)(i:Rn)(k:Pl):∃W0,W0=(((w.setCell ⟨R,18,none⟩ (.slice none 0 0)).setCell ⟨R,19,none⟩ (.int .i64 0)).alloc (.cells #[.pointer (some ⟨R,i.off,none⟩)] 182)).alloc (.cells #[.func (.func k.fn) #[] #[]] 128)/\
  gb (Grow F w W0) R W0 s (p.eH .ref (.slice none 0 0)) (st.clear .ref)/\Frame F w W0/\qG (Grow F w W0) R W0 w.heap.size (.pointer (some ⟨R,i.off,none⟩)) 182/\qG (Grow F w W0) R W0 (w.heap.size+1) k.val 128/\W0.heap.size=w.heap.size+2:=by
 have hR:=h.lt R h.j5;refine⟨_,rfl,?_⟩;have r:=h.zK .ref;have f:=Frame.zK h .ref;change gb F R ((w.setCell ⟨R,18,none⟩ (.slice none 0 0)).setCell ⟨R,19,none⟩ (.int .i64 0)) s _ _ at r;change Frame F w ((w.setCell ⟨R,18,none⟩ (.slice none 0 0)).setCell ⟨R,19,none⟩ (.int .i64 0))at f;have hsz:((w.setCell ⟨R,18,none⟩ (.slice none 0 0)).setCell ⟨R,19,none⟩ (.int .i64 0)).heap.size=w.heap.size:=by simp[World.setCell]
 generalize (w.setCell ⟨R,18,none⟩ (.slice none 0 0)).setCell ⟨R,19,none⟩ (.int .i64 0)=w2 at*
 have hb:=sH w2 (.cells #[.pointer (some ⟨R,i.off,none⟩)] 182) (.cells #[.func (.func k.fn) #[] #[]] 128);have a1:((w2.alloc (.cells #[.pointer (some ⟨R,i.off,none⟩)] 182)).alloc (.cells #[.func (.func k.fn) #[] #[]] 128)).heap[w.heap.size]?=some (.cells #[.pointer (some ⟨R,i.off,none⟩)] 182):=by
  rw[<-hsz,ap _ _ _ (by simp)];exact bu w2 _
 have a2:((w2.alloc (.cells #[.pointer (some ⟨R,i.off,none⟩)] 182)).alloc (.cells #[.func (.func k.fn) #[] #[]] 128)).heap[w.heap.size+1]?=some (.cells #[.func (.func k.fn) #[] #[]] 128):=by
  rw[<-hsz];have:=bu (w2.alloc (.cells #[.pointer (some ⟨R,i.off,none⟩)] 182)) (.cells #[.func (.func k.fn) #[] #[]] 128);simpa using this
 have az:((w2.alloc (.cells #[.pointer (some ⟨R,i.off,none⟩)] 182)).alloc (.cells #[.func (.func k.fn) #[] #[]] 128)).heap.size=w.heap.size+2:=by rw[<-hsz];simp
 generalize (w2.alloc (.cells #[.pointer (some ⟨R,i.off,none⟩)] 182)).alloc (.cells #[.func (.func k.fn) #[] #[]] 128)=w3 at*
 have hG:∀k,Grow F w2 w3 k->Grow F w w3 k:=fun k hk=>by unfold Grow at*;rw[hsz]at hk;exact hk
 refine⟨(r.below hb).mono hG (fun k hk=>(r.below hb).lt k (by unfold Grow at*;rw[hsz];exact hk)),f.same (Frame.below hb),⟨a1,Or.inr (by omega),by omega⟩,⟨a2,Or.inr (by omega),by omega⟩,az⟩
theorem JO{W0 w2:World}{p2:jt}{rD:St}{i:Rn}{k:Pl}{b2 b3:Nat}(f0:Frame F w W0)(r2:gb (Grow (Grow F w W0) W0 w2) R w2 s p2 rD)(f2:Frame (Grow F w W0) W0 w2)(x2:qG (Grow (Grow F w W0) W0 w2) R w2 b2 (.pointer (some ⟨R,i.off,none⟩)) 182)(x3:qG (Grow (Grow F w W0) W0 w2) R w2 b3 k.val 128):
  ∃w3,w3=w2.alloc (.cells #[.func (.func 119) #[] #[.pointer (some ⟨w2.heap.size,0,none⟩),Z8 b2,Z8 b3]] 128)/\gV (Grow F w w3) R w3 i k w2.heap.size b2 b3/\(∃p',gb (Grow F w w3) R w3 s p' rD)/\Frame F w w3:=by
 refine⟨_,rfl,?_⟩;have hR:=r2.lt R r2.j5;have hb:Z5 w2 (w2.alloc (.cells #[.func (.func 119) #[] #[.pointer (some ⟨w2.heap.size,0,none⟩),Z8 b2,Z8 b3]] 128)):=(Below.refl _ w2).alloc (ah _) _;have a1:=bu w2 (.cells #[.func (.func 119) #[] #[.pointer (some ⟨w2.heap.size,0,none⟩),Z8 b2,Z8 b3]] 128);have az:(w2.alloc (.cells #[.func (.func 119) #[] #[.pointer (some ⟨w2.heap.size,0,none⟩),Z8 b2,Z8 b3]] 128)).heap.size=w2.heap.size+1:=by simp
 generalize w2.alloc (.cells #[.func (.func 119) #[] #[.pointer (some ⟨w2.heap.size,0,none⟩),Z8 b2,Z8 b3]] 128)=w3 at*
 have f01:Frame F w w2:=f0.trans f2;have hG:∀k,Grow (Grow (Grow F w W0) W0 w2) w2 w3 k->Grow F w w3 k:=fun k hk=>(Grow.trans f01.size hb.size k).1 (hk.elim (fun x=>Or.inl ((Grow.trans f0.size f2.size k).1 x)) Or.inr);have hG':∀k,Grow F w w3 k->Grow (Grow (Grow F w W0) W0 w2) w2 w3 k:=fun k hk=>((Grow.trans f01.size hb.size k).2 hk).elim (fun x=>Or.inl ((Grow.trans f0.size f2.size k).2 x)) Or.inr;have y2:=lD x2 r2.lt hb;have y3:=lD x3 r2.lt hb;have Zr:w.heap.size<=w2.heap.size:=f01.size;refine⟨⟨⟨a1,Or.inr (by omega),by omega⟩,y2.mono hG,y3.mono hG⟩,⟨_,(r2.below hb).mono hG (fun k hk=>(r2.below hb).lt k (hG' k hk))⟩,?_⟩;exact f01.trans (Frame.below hb)
theorem t_(h:gb F R w s p st)(i:Rn)(k:Pl):
  Z4 83 #[Z8 R,.pointer (some ⟨R,i.off,none⟩),.func (.func k.fn) #[] #[]] w fun e w'=>∃b1 b2 b3,e=.returned (.func (.func 119) #[] #[Z8 b1,Z8 b2,Z8 b3])/\
   gV (Grow F w w') R w' i k b1 b2 b3/\(∃p',gb (Grow F w w') R w' s p' ((st.clear .ref).put .ref 38 s.at_))/\Frame F w w':=by
 have hlt:=h.lt R h.j5;have c18:w.cell? ⟨R,18,none⟩=some (p.run .ref):=h.cell 18 rfl;have c19:w.cell? ⟨R,19,none⟩=some (.int .i64 (st.fD .ref)):=h.cell 19 rfl;have f18:=h.free 18;have f19:=h.free 19;have hat:w.cell? ⟨R,2,none⟩=some (.int .i64 s.at_):=h.cell 2 rfl;obtain⟨W0,hW,r0,f0,x1,x2,hz⟩:=NU h i k;have hp:=lX r0 .ref 38 s.at_ (by unfold Scalar;omega) (by rw[sM];omega);have VH:W0.cell? ⟨R,2,none⟩=some (.int .i64 s.at_):=r0.cell 2 rfl;have HW:=a_ hW;rw[hW]at hp VH;have R0:=a_ r0;have F0:=a_ f0;have X1:=a_ x1;have X2:=a_ x2;clear h hW r0 f0 x1 x2 hz;generalize (st.clear .ref).put .ref 38 s.at_=rD at*
 have kI:∀w2 v,gb (Grow (Grow F w W0) W0 w2) R w2 s ((p.eH .ref (.slice none 0 0)).eH .ref v) rD->Frame (Grow F w W0) W0 w2->Kept R ((p.eH .ref (.slice none 0 0)).run .ref).ownBlock W0 w2->_:=fun w2 v r2 f2 k2=>
  JO (i:=i) (k:=k) F0.out r2 f2 (nj (i:=.ref) X1.out R0.out.own (by decide) R0.out.lt k2) (nj (i:=.ref) X2.out R0.out.own (by decide) R0.out.lt k2)
 rw[HW.out]at kI;have HF:=a_ kI;clear kI R0 F0 X1 X2;have HW2:=HW.out;subst HW2;clear HW;generalize hkn:k.fn=kn at*
 clear hkn;go_enter func83,ntmps83;go_wp2_with fail;go_region_held3 (fun W=>W.cell? ⟨R,2,none⟩=some (.int .i64 s.at_))
  (first|exact VH|exact nz)
  (first|(go_at_call 86;refine hp.mono ?_;rintro e w2 ⟨rfl,v,r2,f2,k2⟩;have nz:w2.cell? ⟨R,2,none⟩=some (.int .i64 s.at_):=r2.cell 2 rfl;have hst:=rE _ _ _ (.func (.func 119) #[] #[.pointer (some ⟨w2.heap.size,0,none⟩),.pointer (some ⟨w.heap.size,0,none⟩),.pointer (some ⟨w.heap.size+1,0,none⟩)]) rfl (Ge w2 w2.heap.size rfl .nilFunc 128) (Gf w2 w2.heap.size rfl .nilFunc 128)))
 all_goals
  go_wp2;go_ret;obtain⟨w3,rfl,y1,y2,y3⟩:=HF.out w2 v r2 f2 k2;exact⟨_,_,_,rfl,y1,y2,y3⟩
end
section
variable{F:Nat->Prop}{R:Nat}{w w':World}{s:Src}{p:jt}{st:St}{c:Int}
theorem eJ.Yo{w1:World}{p1:jt}{i:Rn}{k:Pl}{b1 b2 b3:Nat}{iJ:St}(hN:gV (Grow F w w1) R w1 i k b1 b2 b3)(r1:gb (Grow F w w1) R w1 s p1 iJ)(f1:Frame F w w1):
  eJ F R w s ⟨iJ,.go (.ref i k)⟩ (.returned (.tuple #[.func (.func 119) #[] #[Z8 b1,Z8 b2,Z8 b3],.nilIface])) w1:=
 ⟨p1,r1,f1,_,rfl,b1,b2,b3,rfl,hN.1,hN.2.1,hN.2.2⟩
theorem JP(h:gb F R w s p st)(hc:ux c)(hs:st.Small):
  Z4 49 #[Z8 R,.int .i32 c] w (eJ F R w s (step .between s.at_ st c)):=by
 have hat:w.cell? ⟨R,2,none⟩=some (.int .i64 s.at_):=h.cell 2 rfl;show Calls _ _ _ _ (eJ F R w s (if c=60 then⟨{st with gD:=s.at_},.go (.plain .less)⟩else if c=38 then⟨(st.clear .ref).put .ref 38 s.at_,.go (.ref .text .between)⟩else if c= -1 then⟨st.eK,.stop⟩else if c= -2 then⟨st,.fail 2 s.at_⟩else⟨st.put .text c s.at_,.go (.plain .between)⟩));by_cases h1:c=60
 ·rw[if_pos h1];have e1:(c==60)=true:=by simpa using h1
  have c8:w.cell? ⟨R,8,none⟩=some (.int .i64 st.gD):=h.cell 8 rfl;have f8:=h.free 8;have H:=a_ h;clear h1 h hc hs;go_enter func49,ntmps49;go_wp2
  go_ret2
  exact eJ.Sp ((H.out.scalar (iJ:={st with gD:=s.at_}) 8 (.int .i64 s.at_) rfl (fun o=>⟨o.run,o.jJ,o.apart,o.told,o.iD,o.b_,o.fe,o.names⟩)).Sq (by simp[World.setCell])) (Frame.wQ H.out.j5 _ _)
 rw[if_neg h1];have e1:(c==60)=false:=by simpa using h1
 clear h1;by_cases h2:c=38
 ·rw[if_pos h2];have e2:(c==38)=true:=by simpa using h2
  have hr:Z4 83 #[Z8 R,.pointer (some ⟨R,6,none⟩),.func (.func 49) #[] #[]] w _:=t_ h .text .between;clear h2 h hc hs;go_enter func49,ntmps49;go_wp2_with(go_at_call 83;refine hr.mono ?_;rintro e w1 ⟨b1,b2,b3,rfl,x,⟨p1,r1⟩,f1⟩)
  go_ret2
  exact eJ.Yo x r1 f1
 rw[if_neg h2];have e2:(c==38)=false:=by simpa using h2
 clear h2;by_cases h3:c= -1
 ·rw[if_pos h3];have e3:(c== -1)=true:=by simpa using h3
  have ht:=qg h (by have:=hs.told;omega);generalize st.eK=rD at*
  clear h3 h hc hs;go_enter func49,ntmps49;go_wp2_with(go_at_call 84;refine ht.mono ?_;rintro e w1 ⟨rfl,p1,r1,f1,_,_⟩)
  go_ret2
  exact⟨p1,r1,f1,rfl⟩
 rw[if_neg h3];have e3:(c== -1)=false:=by simpa using h3
 by_cases h4:c= -2
 ·rw[if_pos h4];have e4:(c== -2)=true:=by simpa using h4
  have hw:Tk.why c=2:=by simp[Tk.why,h4]
  have H:=a_ h;have HW:=a_ hw;clear h3 h4 h hc hs hw;go_enter func49,ntmps49;go_wp2_with(go_at_call 85;refine(gS R c s.at_ _ hat).mono ?_;rintro e w1 ⟨rfl,rfl⟩)
  go_ret2
  rw[<-HW.out];exact eJ.iC H.out (Below.refl _ _)
 ·rw[if_neg h4];have e4:(c== -2)=false:=by simpa using h4
  have Df:=hc.lo;have hp:=lX h .text c s.at_ (pN hc (by omega)) (by have:=hs.run .text;omega);generalize st.put .text c s.at_=rD at*
  clear h3 h4 h hc hs Df;go_enter func49,ntmps49;go_wp2_with fail;go_region_held3 (fun W=>W.cell? ⟨R,2,none⟩=some (.int .i64 s.at_))
   (first|exact hat|exact nz)
   (first|(go_at_call 86;refine hp.mono ?_;rintro e w1 ⟨rfl,v,r1,f1,k1⟩;have nz:w1.cell? ⟨R,2,none⟩=some (.int .i64 s.at_):=r1.cell 2 rfl))
  all_goals
   go_wp2
   go_ret2
   exact eJ.Sp r1 f1
theorem NV(h:gb F R w s p st)(hc:ux c)(hs:st.Small):
  Z4 253 #[Z8 R,.int .i32 c] w (eJ F R w s (step .iW s.at_ st c)):=by
 have hat:w.cell? ⟨R,2,none⟩=some (.int .i64 s.at_):=h.cell 2 rfl;have c17:w.cell? ⟨R,17,none⟩=some (.int .i32 st.quote):=h.cell 17 rfl;show Calls _ _ _ _ (eJ F R w s (if c=st.quote then⟨st.addAttr,.go (.plain .part)⟩else if c=38 then⟨(st.clear .ref).put .ref 38 s.at_,.go (.ref .value .iW)⟩else if c=60\/c<0 then⟨st,.fail (Tk.why c) s.at_⟩else⟨st.put .value c s.at_,.go (.plain .iW)⟩));by_cases h1:c=st.quote
 ·rw[if_pos h1];have e1:(c==st.quote)=true:=by simpa using h1
  have ha:=Ga h (by have:=hs.b_;omega);generalize st.addAttr=rD at*
  clear h1 h hc hs;go_enter func253,ntmps253;go_wp2_with(go_at_call 262;refine ha.mono ?_;rintro e w1 ⟨rfl,p1,r1,f1⟩)
  go_ret2
  exact eJ.Sp r1 f1
 rw[if_neg h1];have e1:(c==st.quote)=false:=by simpa using h1
 clear h1;by_cases h2:c=38
 ·rw[if_pos h2];have e2:(c==38)=true:=by simpa using h2
  have hr:Z4 83 #[Z8 R,.pointer (some ⟨R,15,none⟩),.func (.func 253) #[] #[]] w _:=t_ h .value .iW;clear h2 h hc hs;go_enter func253,ntmps253;go_wp2_with(go_at_call 83;refine hr.mono ?_;rintro e w1 ⟨b1,b2,b3,rfl,x,⟨p1,r1⟩,f1⟩)
  go_ret2
  exact eJ.Yo x r1 f1
 rw[if_neg h2];have e2:(c==38)=false:=by simpa using h2
 clear h2;by_cases h3:c=60
 ·rw[if_pos (Or.inl h3)];have e3:(c==60)=true:=by simpa using h3
  have H:=a_ h;clear h3 h hc hs;go_enter func253,ntmps253;go_wp2_with(go_at_call 85;refine(gS R c s.at_ _ hat).mono ?_;rintro e w1 ⟨rfl,rfl⟩)
  go_ret2
  exact eJ.iC H.out (Below.refl _ _)
 have e3:(c==60)=false:=by simpa using h3
 by_cases h4:c<0
 ·rw[if_pos (Or.inr h4)];have H:=a_ h;clear h3 h hc hs;go_enter func253,ntmps253;go_wp2_with(go_at_call 85;refine(gS R c s.at_ _ hat).mono ?_;rintro e w1 ⟨rfl,rfl⟩)
  go_ret2
  exact eJ.iC H.out (Below.refl _ _)
 ·rw[if_neg (by omega)];have hp:=lX h .value c s.at_ (pN hc (by omega)) (by have:=hs.run .value;omega);generalize st.put .value c s.at_=rD at*
  clear h3 h hc hs;go_enter func253,ntmps253;go_wp2_with fail;go_region_held3 (fun W=>W.cell? ⟨R,2,none⟩=some (.int .i64 s.at_))
   (first|exact hat|exact nz)
   (first|(go_at_call 86;refine hp.mono ?_;rintro e w1 ⟨rfl,v,r1,f1,k1⟩;have nz:w1.cell? ⟨R,2,none⟩=some (.int .i64 s.at_):=r1.cell 2 rfl))
  all_goals
   go_wp2
   go_ret2
   exact eJ.Sp r1 f1
end
section
variable{F:Nat->Prop}{R:Nat}{w w':World}{s:Src}{p:jt}{st:St}{c:Int}
def Tk.qI(c:Int):Bool:=c==35||c==59||(decide (c<128)&&(Ch.fw c||Ch.gz c))
theorem sN{c:Int}(h:Tk.qI c=true):0<=c/\c<128:=by
 simp only[Tk.qI,bw,aY,bA,ba]at h;rcases h with(h|h)|⟨h1,h|h⟩
 ·omega
 ·omega
 ·have:=(Ch.fT c).1 h;omega
 ·have:=(Ch.jq c).1 h;omega
theorem Wv(h:gb F R w s p st)(hc:ux c)(v1 v2 v3:Value)(hb:Tk.qI c=false):
  Z4 119 #[Z8 R,.int .i32 c,v1,v2,v3] w (eJ F R w s ⟨st,.fail 4 (st.fD .ref)⟩):=by
 have c19:w.cell? ⟨R,19,none⟩=some (.int .i64 (st.fD .ref)):=h.cell 19 rfl;have hlt:=h.lt R h.j5;have Yn:=ml c hc w;simp only[Tk.qI,dC,Bool.and_eq_false_iff]at hb;obtain⟨⟨e35,e59⟩,e3⟩:=hb;have abf:(c !=35)=true:=by simp[bne,e35]
 have acG:(c !=59)=true:=by simp[bne,e59]
 have H:=a_ h;clear h hc;by_cases adE:128<=c
 ·clear e3;go_enter func119,ntmps119;go_wp2_with fail;go_region_held3 (fun W=>W.cell? ⟨R,19,none⟩=some (.int .i64 (st.fD .ref)))
   (first|exact c19)
   (fail)
  all_goals
   go_wp2
   go_ret2
   exact eJ.iC H.out (Below.refl _ w).drew
 ·have hg:(Ch.fw c||Ch.gz c)=false:=by
   rcases e3 with e|e
   ·simp only[cW]at e;omega
   ·rw[dC];exact e
  rw[hg]at Yn;clear e3 hg;go_enter func119,ntmps119;go_wp2_with(go_at_call 120;refine Yn.mono ?_;rintro e w1 ⟨rfl,l_⟩);have ZS:=(l_.cell hlt).trans c19;go_region_held3 (fun W=>W.cell? ⟨R,19,none⟩=some (.int .i64 (st.fD .ref)))
   (first|exact ZS)
   (fail)
  all_goals
   go_wp2
   go_ret2
   exact eJ.iC H.out l_.drew
theorem zM{w1 w2:World}{i:Rn}{k:Pl}{b1 b2 b3:Nat}{p2:jt}{iJ:St}(hb:Z5 w w1)(r2:gb (Grow (Grow F w w1) w1 w2) R w2 s p2 iJ)(f2:Frame (Grow F w w1) w1 w2)(hn:gV (Grow (Grow F w w1) w1 w2) R w2 i k b1 b2 b3):
  eJ F R w s ⟨iJ,.go (.ref i k)⟩ (.returned (.tuple #[.func (.func 119) #[] #[Z8 b1,Z8 b2,Z8 b3],.nilIface])) w2:=by
 have f1:Frame F w w1:=Frame.below hb;refine⟨_,r2.join f1.size f2.size,f1.trans f2,_,rfl,?_⟩;exact gJ.mono (F:=Grow (Grow F w w1) w1 w2) (pt:=.ref i k) ⟨b1,b2,b3,rfl,hn.1,hn.2.1,hn.2.2⟩ (fun k hk=>(Grow.trans f1.size f2.size k).1 hk)
theorem L5(h:gb F R w s p st)(hc:Scalar c)(i:Rn)(k:Pl)(b1 b2 b3:Nat)(hN:gV F R w i k b1 b2 b3)(hs:(st.run .ref).length<=70368744177680)(w1:World)(hb:Z5 w w1):
  Z4 86 #[.pointer (some ⟨R,18,none⟩),.int .i32 c,.int .i64 s.at_] w1.drew fun e w2=>e=.returned (.tuple #[])/\∃v,gb (Grow (Grow F w w1) w1 w2) R w2 s (p.eH .ref v) (st.put .ref c s.at_)/\Frame (Grow F w w1) w1 w2/\gV (Grow (Grow F w w1) w1 w2) R w2 i k b1 b2 b3:=by
 have hp:Z4 86 #[.pointer (some ⟨R,18,none⟩),.int .i32 c,.int .i64 s.at_] w1.drew _:=lX (h.below hb) .ref c s.at_ hc (by omega);refine hp.mono ?_;rintro e w2 ⟨rfl,v,r,f,kk⟩;exact⟨rfl,v,r,f,(hN.below h.lt hb).kept (h.below hb).own (h.below hb).lt kk⟩
theorem Ss(h:gb F R w s p st)(hc:ux c)(i:Rn)(k:Pl)(b1 b2 b3:Nat)(hN:gV F R w i k b1 b2 b3)(hs:(st.run .ref).length<=70368744177680)(hb:Tk.qI c=true)(oy:c≠59):
  Z4 119 #[Z8 R,.int .i32 c,Z8 b1,Z8 b2,Z8 b3] w (eJ F R w s ⟨st.put .ref c s.at_,.go (.ref i k)⟩):=by
 have hat:w.cell? ⟨R,2,none⟩=some (.int .i64 s.at_):=h.cell 2 rfl;have hlt:=h.lt R h.j5;have Yn:=ml c hc w;have hp:=L5 h (pN hc (sN hb).1) i k b1 b2 b3 hN hs;have acG:(c !=59)=true:=by simpa using oy
 have hb0:=sN hb;simp only[Tk.qI,bw,aY,bA,ba]at hb;have HP:=a_ hp;clear h hc hN hs hp;generalize st.put .ref c s.at_=rD at*
 by_cases h35:c=35
 ·have abf:(c !=35)=false:=by simpa using h35
  have hp0:=HP.out w (Below.refl _ _);clear hb h35 oy HP;go_enter func119,ntmps119;go_wp2_with fail;go_region_held3 (fun W=>W.cell? ⟨R,2,none⟩=some (.int .i64 s.at_))
   (first|exact hat|exact nz)
   (first|(go_at_call 86;refine hp0.mono ?_;rintro e w2 ⟨rfl,v,r2,f2,n2⟩;have nz:w2.cell? ⟨R,2,none⟩=some (.int .i64 s.at_):=r2.cell 2 rfl;have k1:=jA n2.1;have N2:=a_ n2;clear n2))
  all_goals
   go_wp2
   go_ret2
   exact zM (Below.refl _ _) r2 f2 N2.out
 ·have abf:(c !=35)=true:=by simpa using h35
  have hg:(Ch.fw c||Ch.gz c)=true:=by
   rcases hb with(h|h)|h
   ·exact absurd h h35
   ·exact absurd h oy
   ·rw[bw];exact h.2
  rw[hg]at Yn;clear hb h35 oy hg;go_enter func119,ntmps119;go_wp2_with(go_at_call 120;refine Yn.mono ?_;rintro e w1 ⟨rfl,l_⟩);have acH:=(l_.cell hlt).trans hat;have X9:=HP.out w1 l_;go_region_held3 (fun W=>W.cell? ⟨R,2,none⟩=some (.int .i64 s.at_))
   (first|exact acH|exact nz)
   (first|(go_at_call 86;refine X9.mono ?_;rintro e w2 ⟨rfl,v,r2,f2,n2⟩;have nz:w2.cell? ⟨R,2,none⟩=some (.int .i64 s.at_):=r2.cell 2 rfl;have k1:=jA n2.1;have N2:=a_ n2;clear n2))
  all_goals
   go_wp2
   go_ret2
   exact zM l_ r2 f2 N2.out
end
section
variable{F:Nat->Prop}{R:Nat}{w w':World}{s:Src}{p:jt}{st:St}{c:Int}
theorem Bh(t:ByteArray)(i:Nat)(h:i<t.size):Scalar ((Utf8.decode t i).1:Int):=by
 have h0:0<=Ch.bz t i:=by unfold Ch.bz;rw[if_pos h];omega
 have bad:Utf8.decode t i=(65533,1)->Scalar ((Utf8.decode t i).1:Int):=fun e=>by rw[e];unfold Scalar;simp
 by_cases a1:Ch.bz t i<128
 ·rw[Ch.g_ h0 a1];unfold Scalar;simp only;omega
 by_cases a2:Ch.bz t i<192
 ·exact bad (Ch.fS (Or.inl ⟨by omega,a2⟩))
 by_cases a3:Ch.bz t i<224
 ·by_cases c1:Ch.cont t (i+1)
  ·have hd:=Ch.iR (by omega) a3 c1;split at hd
   ·rw[hd];unfold Ch.cont at c1;rename_i hz;simp only[Ch.acc,ay]at hz ⊢;unfold Scalar;omega
   ·exact bad hd
  ·exact bad (Ch.ik (by omega) a3 c1)
 by_cases a4:Ch.bz t i<240
 ·by_cases c1:Ch.cont t (i+1)/\Ch.cont t (i+2)
  ·have hd:=Ch.gM (by omega) a4 c1.1 c1.2;split at hd
   ·rename_i hz;rw[hd];have:=(Ch.mj _).1 hz.2;unfold Scalar;simp only;omega
   ·exact bad hd
  ·exact bad (Ch.fA (by omega) a4 (by
    by_cases x:Ch.cont t (i+1)
    ·exact Or.inr fun y=>c1 ⟨x,y⟩
    ·exact Or.inl x))
 by_cases a5:Ch.bz t i<248
 ·by_cases c1:Ch.cont t (i+1)/\Ch.cont t (i+2)/\Ch.cont t (i+3)
  ·have hd:=Ch.iy (by omega) a5 c1.1 c1.2.1 c1.2.2;split at hd
   ·rename_i hz;rw[hd];have:=(Ch.mj _).1 hz.2;unfold Scalar;simp only;omega
   ·exact bad hd
  ·exact bad (Ch.fh (by omega) a5 (by
    by_cases x:Ch.cont t (i+1)
    ·by_cases y:Ch.cont t (i+2)
     ·exact Or.inr (Or.inr fun z=>c1 ⟨x,y,z⟩)
     ·exact Or.inr (Or.inl y)
    ·exact Or.inl x))
 ·exact bad (Ch.fS (Or.inr (by omega)))
def gB(i:Rn)(t:ByteArray)(q:Int):Nat->Nat->St->St
 |0,_,st=>st
 |f+1,pos,st=>if pos<t.size then gB i t q f (pos+(Utf8.decode t pos).2) (st.put i ((Utf8.decode t pos).1:Int) q)else st
def St.pj(st:St)(i:Rn)(t:ByteArray)(q:Int):St:=gB i t q (t.size+1) 0 st
structure RL(F:Nat->Prop)(R:Nat)(w:World)(s:Src)(i:Rn)(k:Pl)(b1 b2 b3:Nat)(t:ByteArray)(it:Nat)(q:Int)(Yp:St)(n0:Nat)(wr:World)(pos:Nat):Prop where
 ex:∃(Fr:Nat->Prop) (p':jt) (iJ:St) (fuel:Nat),t.size<pos+fuel/\gB i t q fuel pos iJ=Yp.pj i t q/\¬Fr it/\gb Fr R wr s p' iJ/\gV Fr R wr i k b1 b2 b3/\(∀k,Fr k->Grow F w wr k)/\Frame F w wr/\iJ.fD .ref=q/\(iJ.run i).length<=n0+4*pos
 le:pos<=t.size
 hit:wr.heap[it]?=some (.stringIter t pos)
 hw:w.heap.size<=it
variable{i:Rn}{k:Pl}{b1 b2 b3:Nat}{t:ByteArray}{it:Nat}{q:Int}{Yp:St}{n0:Nat}{wr:World}{pos:Nat}
theorem gb.iterAt{Fr:Nat->Prop}(h:gb Fr R wr s p st)(hn:¬Fr it)(pos':Nat):gb Fr R (wr.iterAt it t pos') s p st:=by
 have hk:∀k,Fr k->(wr.iterAt it t pos').heap[k]?=wr.heap[k]?:=fun k hf=>Lib.iterAt_other wr it k t pos' (fun e=>hn (e▸hf));exact⟨(hk R h.j5).trans h.blk,h.j5,fun k hf=>by rw[Lib.iterAt_size];exact h.lt k hf,h.own.frame (fun k hf _=>hk k hf) (fun _ x=>x)⟩
theorem qG.iterAt{Fr:Nat->Prop}{b:Nat}{x:Value}{ty:TypeId}(h:qG Fr R wr b x ty)(hn:¬Fr it)(pos':Nat):qG Fr R (wr.iterAt it t pos') b x ty:=
 ⟨(Lib.iterAt_other wr it b t pos' (fun e=>hn (e▸h.2.1))).trans h.1,h.2⟩
theorem gV.iterAt{Fr:Nat->Prop}(h:gV Fr R wr i k b1 b2 b3)(hn:¬Fr it)(pos':Nat):gV Fr R (wr.iterAt it t pos') i k b1 b2 b3:=
 ⟨h.1.iterAt hn pos',h.2.1.iterAt hn pos',h.2.2.iterAt hn pos'⟩
theorem zN(st:St)(i:Rn)(c q:Int)(hi:i≠ .ref):(st.put i c q).fD .ref=st.fD .ref:=by simp[St.put,St.eH,Ne.symm hi]
theorem RL.step(h:RL F R w s i k b1 b2 b3 t it q Yp n0 wr pos)(hi:i≠ .ref)(hp:pos<t.size)(AV:n0+4*t.size<=70368744177680):
  (wr.iterAt it t (pos+(Utf8.decode t pos).2)).cell? ⟨b2,0,none⟩=some (.pointer (some ⟨R,i.off,none⟩))/\(wr.iterAt it t (pos+(Utf8.decode t pos).2)).cell? ⟨R,19,none⟩=some (.int .i64 q)/\
  Z4 86 #[.pointer (some ⟨R,i.off,none⟩),.int .i32 ((Utf8.decode t pos).1:Int),.int .i64 q] (wr.iterAt it t (pos+(Utf8.decode t pos).2)).drew fun e w5=>e=.returned (.tuple #[])/\RL F R w s i k b1 b2 b3 t it q Yp n0 w5 (pos+(Utf8.decode t pos).2)/\w5.cell? ⟨b2,0,none⟩=some (.pointer (some ⟨R,i.off,none⟩))/\w5.cell? ⟨R,19,none⟩=some (.int .i64 q):=by
 obtain⟨⟨Fr,p',iJ,fuel,hf,he,hnF,r,bx,hG,fr,hq,hl⟩,hle,hit,hw⟩:=h;have hwd:=Ch.fk t pos hp;have r1:=r.iterAt (t:=t) hnF (pos+(Utf8.decode t pos).2);have bx1:=bx.iterAt (t:=t) hnF (pos+(Utf8.decode t pos).2);have JQ:=Lib.iterAt_heap wr it t pos (pos+(Utf8.decode t pos).2) hit;have hsz:=Lib.iterAt_size wr it t (pos+(Utf8.decode t pos).2);have lJ:Frame F w (wr.iterAt it t (pos+(Utf8.decode t pos).2)):=⟨fr.os,fr.tape,fr.output,by rw[hsz];exact fr.size,fun k hk hF=>(Lib.iterAt_other wr it k t _ (by omega)).trans (fr.block k hk hF)⟩
 have hsc:=Bh t pos hp;have adF:=ry ((Utf8.decode t pos).1:Int);obtain⟨f,rfl⟩:∃f,fuel=f+1:=⟨fuel-1,by omega⟩
 have he2:gB i t q f (pos+(Utf8.decode t pos).2) (iJ.put i ((Utf8.decode t pos).1:Int) q)=Yp.pj i t q:=by rw[<-he];simp only[gB,hp,if_true]
 generalize (wr.iterAt it t (pos+(Utf8.decode t pos).2))=w4 at*
 generalize hrn:((Utf8.decode t pos).1:Int)=rn at*
 generalize (Utf8.decode t pos).2=wd at*
 have c19:w4.cell? ⟨R,19,none⟩=some (.int .i64 q):=by rw[<-hq];exact r1.cell 19 rfl
 refine⟨jA bx1.2.1,c19,?_⟩;refine(lX r1 i rn q hsc (by omega)).mono ?_;rintro e w5 ⟨rfl,v,r5,f5,k5⟩;have acI:w5.heap[it]?=some (.stringIter t (pos+wd)):=by
  have hlt:it<w4.heap.size:=(Array.getElem?_eq_some_iff.1 JQ).1;have hR:it≠R:=fun e=>by rw[e]at JQ;rw[r1.blk]at JQ;cases JQ
  rw[k5.block it hlt hR ?_]
  ·exact JQ
  ·intro e;obtain⟨cur,hc⟩:=fX (r1.own.run i) e.symm;rw[JQ]at hc;cases hc
 have bx5:=bx1.kept r1.own r1.lt k5;refine⟨rfl,⟨⟨Grow Fr w4 w5,_,_,f,by omega,he2,?_,r5,bx5,?_,?_,?_,?_⟩,by omega,acI,hw⟩,jA bx5.2.1,?_⟩
 ·intro hx;rcases hx with hx|hx
  ·exact hnF hx
  ·have hlt:it<w4.heap.size:=(Array.getElem?_eq_some_iff.1 JQ).1;omega
 ·intro j hj;rcases hj with hj|hj
  ·rcases hG j hj with hx|hx
   ·exact Or.inl hx
   ·exact Or.inr ⟨hx.1,by have:=f5.size;omega⟩
  ·exact Or.inr ⟨by have:=lJ.size;omega,hj.2⟩
 ·exact⟨f5.os.trans lJ.os,f5.tape.trans lJ.tape,f5.output.trans lJ.output,ar lJ.size f5.size,fun j hj hF=>(f5.block j (ak hj lJ.size) (fun x=>(hG j x).elim hF (fun y=>by omega))).trans (lJ.block j hj hF)⟩
 ·rw[zN _ _ _ _ hi];exact hq
 ·have:=ja iJ i i rn q;omega
 ·have hq5:(iJ.put i rn q).fD .ref=q:=by rw[zN _ _ _ _ hi];exact hq
  have:=r5.cell 19 rfl;rw[<-hq5];exact this
theorem RL.last(h:RL F R w s i k b1 b2 b3 t it q Yp n0 wr pos)(hp:¬pos<t.size)(hlt:∀k,F k->k<w.heap.size):
  wr.cell? ⟨b3,0,none⟩=some k.val/\eJ F R w s ⟨Yp.pj i t q,.go (.plain k)⟩ (.returned (.tuple #[k.val,.nilIface])) wr:=by
 obtain⟨⟨Fr,p',iJ,fuel,hf,he,hnF,r,bx,hG,fr,hq,hl⟩,hle,hit,hw⟩:=h;refine⟨jA bx.2.2,?_⟩;obtain⟨f,rfl⟩:∃f,fuel=f+1:=⟨fuel-1,by omega⟩
 have he2:iJ=Yp.pj i t q:=by rw[<-he];simp only[gB,hp,bf]
 rw[<-he2];exact eJ.Sp (r.mono hG (i_ hlt fr.size)) fr
theorem Ca(t:ByteArray):∀f pos acc,(Ch.gA t f pos acc).1.length<=acc.length+4*f:=by
 intro f;induction f with
 |zero=>intro pos acc;simp[Ch.gA]
 |succ f ih=>
  intro pos acc;unfold Ch.gA;have h1:=ih (pos+(Ch.eR t pos).2.toNat) (acc++Lib.encodeRune (Ch.eR t pos).1);have h2:=ih (pos+(Utf8.decode t pos).2) (acc++Lib.encodeRune (Utf8.decode t pos).1);have h3:=ry (Ch.eR t pos).1;have h4:=ry ((Utf8.decode t pos).1:Int);simp only[ae]at h1 h2
  repeat' split
  all_goals first|(simp only[aq];omega)|omega
end
section
variable{F:Nat->Prop}{R:Nat}{w w':World}{s:Src}{p:jt}{st:St}{c:Int}
def jX(i:Rn)(k:Pl)(fM:St):Out:=
 if(Ch.kP ⟨(fM.run .ref).toArray⟩).2.1=0 then⟨fM.pj i ⟨(Ch.kP ⟨(fM.run .ref).toArray⟩).1.toArray⟩ (fM.fD .ref),.go (.plain k)⟩else⟨fM,.fail 4 (fM.fD .ref)⟩
def oY(i:Rn)(k:Pl)(q:Int)(st:St)(c:Int):Out:=
 if Tk.qI c=true then(if c=59 then jX i k (st.put .ref 59 q)else⟨st.put .ref c q,.go (.ref i k)⟩)else⟨st,.fail 4 (st.fD .ref)⟩
theorem Cb(hT:EW w)(hf:Frame F w w')(h2:¬F 2):EW w':=by
 obtain⟨t,fr,hg⟩:=hT;exact⟨t,fr,by rw[hf.block 2 (Array.getElem?_eq_some_iff.1 hg).1 h2];exact hg⟩
theorem RL.start{w2 w3:World}{p2:jt}{fM:St}{i:Rn}{k:Pl}{b1 b2 b3:Nat}(t:ByteArray)(r2:gb (Grow F w w2) R w2 s p2 fM)(f2:Frame F w w2)(hN:gV (Grow F w w2) R w2 i k b1 b2 b3)(hb:Z5 w2 w3):
  RL F R w s i k b1 b2 b3 t w3.heap.size (fM.fD .ref) fM (fM.run i).length (w3.iter t 0) 0:=by
 have hb4:Z5 w2 (w3.iter t 0):=hb.alloc hb.size _;have hlt:=r2.lt;refine⟨⟨Grow F w w2,p2,fM,t.size+1,by omega,rfl,?_,?_,?_,?_,?_,rfl,by omega⟩,by omega,World.iter_heap w3 t 0,ar f2.size hb.size⟩
 ·intro hx;have:=hlt _ hx;have:=hb.size;omega
 ·exact⟨(hb4.block R (hlt R r2.j5)).trans r2.blk,r2.j5,fun j hj=>ak (hlt j hj) hb4.size,r2.own.frame (fun j hj _=>hb4.block j (hlt j hj)) (fun _ x=>x)⟩
 ·exact⟨⟨(hb4.block b1 (hlt b1 hN.1.2.1)).trans hN.1.1,hN.1.2⟩,⟨(hb4.block b2 (hlt b2 hN.2.1.2.1)).trans hN.2.1.1,hN.2.1.2⟩,⟨(hb4.block b3 (hlt b3 hN.2.2.2.1)).trans hN.2.2.1,hN.2.2.2⟩⟩
 ·intro j hj;rcases hj with hj|hj
  ·exact Or.inl hj
  ·exact Or.inr ⟨hj.1,by have:=hb4.size;omega⟩
 ·exact⟨hb4.os.trans f2.os,hb4.tape.trans f2.tape,hb4.output.trans f2.output,ar f2.size hb4.size,fun j hj hF=>(hb4.block j (ak hj f2.size)).trans (f2.block j hj hF)⟩
theorem Sv(h:gb F R w s p st)(i:Rn)(k:Pl)(b1 b2 b3:Nat)(hi:i≠ .ref)(hN:gV F R w i k b1 b2 b3)(hs:(st.run i).length+16*(st.run .ref).length+120<=70368744177664)(hT:EW w)(h2:¬F 2):
  Z4 119 #[Z8 R,.int .i32 59,Z8 b1,Z8 b2,Z8 b3] w (eJ F R w s (jX i k (st.put .ref 59 s.at_))):=by
 have hat:w.cell? ⟨R,2,none⟩=some (.int .i64 s.at_):=h.cell 2 rfl;have hp:=L5 h (c:=59) (by unfold Scalar;omega) i k b1 b2 b3 hN (by omega) w (Below.refl _ _);have tR:=ja st .ref .ref 59 s.at_;have hl2:=ja st .ref i 59 s.at_;have HT:=a_ hT;have H2:=a_ h2;have HLT:=a_ h.lt;clear h hN hT h2;generalize st.put .ref 59 s.at_=fM at*
 have yh:jX i k fM=if(Ch.kP ⟨(fM.run .ref).toArray⟩).2.1=0 then⟨fM.pj i ⟨(Ch.kP ⟨(fM.run .ref).toArray⟩).1.toArray⟩ (fM.fD .ref),.go (.plain k)⟩else⟨fM,.fail 4 (fM.fD .ref)⟩:=rfl;generalize jX i k fM=so at*
 have P0:=a_ yh;clear yh;go_enter func119,ntmps119;go_wp2_with fail;go_region_held3 (fun W=>W.cell? ⟨R,2,none⟩=some (.int .i64 s.at_))
  (first|exact hat|exact nz)
  (first|(go_at_call 86;refine hp.mono ?_;rintro e w2 ⟨rfl,v,r2,f2,n2⟩;have nz:w2.cell? ⟨R,2,none⟩=some (.int .i64 s.at_):=r2.cell 2 rfl;have N2:=a_ n2;clear n2))
 clear hp;have U2:Frame F w w2:=(Frame.refl F w).trans f2;have Ww:gb (Grow F w w2) R w2 s _ fM:=r2.join (ah _) f2.size;have n2':gV (Grow F w w2) R w2 i k b1 b2 b3:=⟨N2.out.1.mono fun j hj=>(Grow.trans (ah _) f2.size j).1 hj,N2.out.2.1.mono fun j hj=>(Grow.trans (ah _) f2.size j).1 hj,N2.out.2.2.mono fun j hj=>(Grow.trans (ah _) f2.size j).1 hj⟩
 have yY:=Ww.lt R Ww.j5;obtain⟨ao,cap,hv⟩:=eE (Ww.own.run .ref);have c18:w2.cell? ⟨R,18,none⟩=some (.slice ao (fM.run .ref).length cap):=by rw[<-hv];exact Ww.cell 18 rfl
 have c19:w2.cell? ⟨R,19,none⟩=some (.int .i64 (fM.fD .ref)):=Ww.cell 19 rfl;have hcv:(convert 49 9 (.slice ao (fM.run .ref).length cap)).run prog w2=.ok (.string ⟨(fM.run .ref).toArray⟩) w2:=by rw[<-hv];exact ko (Ww.own.run .ref)
 have hsz:(⟨(fM.run .ref).toArray⟩:ByteArray).size=(fM.run .ref).length:=by show (fM.run .ref).toArray.size=_;simp
 have ZT:=DB ⟨(fM.run .ref).toArray⟩ w2 (by rw[hsz];omega) (Cb HT.out U2 H2.out);have hul:=Ca ⟨(fM.run .ref).toArray⟩ (((⟨(fM.run .ref).toArray⟩:ByteArray).size)+1) 0 [];have Wx:(Ch.kP ⟨(fM.run .ref).toArray⟩).1.length<=4*((fM.run .ref).length+1):=by unfold Ch.kP;rw[hsz]at hul ⊢;simpa using hul
 clear hul;have hst:=fun t w3 hb=>RL.start (k:=k) (w3:=w3) (i:=i) t Ww U2 n2' hb;have R2:=a_ Ww;have F2:=a_ U2;have HST:=a_ hst;have HU:=a_ Wx;clear r2 f2 N2 Ww U2 n2' hst hv Wx nz;generalize hX:Ch.kP ⟨(fM.run .ref).toArray⟩=X at*
 clear hX;obtain⟨X1,X2,X3⟩:=X;by_cases hz:X2=0
 ·have yh:so=⟨fM.pj i ⟨X1.toArray⟩ (fM.fD .ref),.go (.plain k)⟩:=by rw[P0.out,if_pos hz]
  subst hz;obtain⟨t,ht⟩:∃t:ByteArray,t=⟨X1.toArray⟩:=⟨_,rfl⟩
  have htz:t.size<=4*((fM.run .ref).length+1):=by rw[ht];show X1.toArray.size<=_;simpa using HU.out
  rw[<-ht]at ZT yh;subst yh;have AV:(fM.run i).length+4*t.size<=70368744177680:=by omega
  have HN0:=a_ AV;clear P0 HU ht htz AV tR hl2 hs hsz;have yi:k.val=.func (.func k.fn) #[] #[]:=rfl;have Ws:=a_ yi;clear yi;go_wp2_with(go_at_call 121;refine ZT.mono ?_;rintro e w3 ⟨rfl,P7⟩);have abg:=HST.out t w3 P7;have HS0:=a_ abg;clear abg ZT hcv c18 c19 HST;generalize (fM.run i).length=n0 at*
  go_loopw [] (fun wr=>∃pos,RL F R w s i k b1 b2 b3 t w3.heap.size (fM.fD .ref) fM n0 wr pos) (fun wr=>t.size-wr.iterPos w3.heap.size)
  case atStart=>exact⟨0,HS0.out⟩
  case round=>
   obtain⟨pos,ZU⟩:=hrel;by_cases hp:pos<t.size
   ·have tM:∀ty,(Instr.next (.pointer (some ⟨w3.heap.size,0,none⟩)) true ty).run prog wr=_:=fun ty=>Lib.run_next_any_at wr w3.heap.size t pos ty ZU.hit hp;obtain⟨d1,d2,d3⟩:=ZU.step hi hp HN0.out;have hwd:=Ch.fk t pos hp;have HRL:=a_ ZU;clear ZU;generalize ((Utf8.decode t pos).1:Int)=rn at*
    go_wp2_with fail;go_region_held3 (fun W=>W.cell? ⟨b2,0,none⟩=some (.pointer (some ⟨R,i.off,none⟩))/\W.cell? ⟨R,19,none⟩=some (.int .i64 (fM.fD .ref)))
     (first|exact⟨d1,d2⟩|exact⟨g1,g2⟩)
     (first|(go_at_call 86;refine d3.mono ?_;rintro e w5 ⟨rfl,hr5,g1,g2⟩))
    all_goals
     go_wp2
     go_roundw
     case rel=>exact⟨_,hr5⟩
     case measure=>
      simp only[World.iterPos,hr5.hit,HRL.out.hit];omega
   ·have tM:∀ty,(Instr.next (.pointer (some ⟨w3.heap.size,0,none⟩)) true ty).run prog wr=_:=fun ty=>Lib.run_next_end_at wr w3.heap.size t pos ty ZU.hit hp;obtain⟨d1,d2⟩:=ZU.last hp HLT.out;rw[Ws.out]at d1 d2;have D2:=a_ d2;clear ZU d2;go_wp2
    go_ret2
    exact D2.out
 ·have ez:(X2 !=0)=true:=by simpa using hz
  have yh:so=⟨fM,.fail 4 (fM.fD .ref)⟩:=by rw[P0.out,if_neg hz]
  subst yh;clear hz P0;go_wp2_with(go_at_call 121;refine ZT.mono ?_;rintro e w3 ⟨rfl,P7⟩);have ZS:=(P7.cell yY).trans c19;go_region_held3 (fun W=>W.cell? ⟨R,19,none⟩=some (.int .i64 (fM.fD .ref)))
   (first|exact ZS)
   (fail)
  all_goals
   go_wp2
   go_ret2
   exact(eJ.iC R2.out P7.drew).after F2.out
end
section
variable{F:Nat->Prop}{R:Nat}{w w':World}{s:Src}{p:jt}{st:St}{c:Int}
structure St.Sw(st:St):Prop where
 run:∀i,(st.run i).length<=70368744177664
 told:st.told.length<=1099511627776
 b_:st.b_.length<=1099511627776
 names:st.names.length<=1099511627776
theorem St.Sw.small(h:st.Sw):st.Small:=⟨fun i=>by have:=h.run i;omega,h.told,h.b_,h.names⟩
theorem Gn(k:Pl)(h:gb F R w s p st)(hc:ux c)(hs:st.Sw)(hf:s.Fits):
  Z4 k.fn #[Z8 R,.int .i32 c] w (eJ F R w s (step k s.at_ st c)):=by
 have ht:=hs.run .text;have ha:=hs.run .attr;have hn:=hs.names;cases k with
 |between=>exact JP h hc hs.small
 |less=>exact Wt h hc
 |oT=>exact Wp h hc
 |remark=>exact BX h hc
 |DN=>exact Wi h hc
 |iP=>exact DS h hc
 |order=>exact FZ h hc
 |mark=>exact Wh h hc
 |iB=>exact zI h hc (by omega)
 |bracket=>exact zJ h hc (by omega) hf
 |brackets=>exact Gc h hc (by omega) hf
 |part=>exact oU h hc hs.small
 |eY=>exact NR h hc hs.small
 |jR=>exact JN h hc (by omega) (by omega)
 |rz=>exact Gb h hc
 |lU=>exact NP h hc
 |iW=>exact NV h hc hs.small
 |jL=>exact u_ h hc hs.small
 |closing=>exact JK h hc hs.small
def d_(pt:Part)(q:Int)(st:St)(c:Int):Out:=
 match pt with
 | .plain k=>step k q st c
 | .word [] k=>⟨st,.go (.plain k)⟩
 | .word (x::l) k=>mv x l k q st c
 | .name i k=>stName i k q st c
 | .ref i k=>oY i k q st c
def Part.Sound:Part->Prop
 | .plain _=>True
 | .word l _=>l≠[]/\l.length<=10
 | .name _ _=>True
 | .ref i _=>i≠ .ref
theorem NW(pt:Part)(v:Value)(h:gb F R w s p st)(Gp:gJ F R w v pt)(yh:pt.Sound)(hc:ux c)(hs:st.Sw)(hx:∀i k,pt=.ref i k->(st.run i).length+16*(st.run .ref).length+120<=70368744177664)(hf:s.Fits)(hT:EW w)(h2:¬F 2):
  ∃f cs,v=.func (.func f) #[] cs/\(∀args w,(callFunc f args).run prog w=.ok (.enter f args) w)/\Z4 f (#[Z8 R,.int .i32 c]++cs) w (eJ F R w s (d_ pt s.at_ st c)):=by
 cases pt with
 |plain k=>exact⟨k.fn,#[],Gp,Gg k,Gn k h hc hs hf⟩
 |word l k=>
  obtain⟨b1,b2,rfl,x1,x2⟩:=Gp;cases l with
  |nil=>exact absurd rfl yh.1
  |cons x l=>exact⟨192,_,rfl,enters_of func192 (by kernel_rfl) rfl,Wr h b1 b2 x l k x1 x2 (by have:=yh.2;simp at this;omega)⟩
 |name i k=>
  obtain⟨b1,b2,b3,rfl,x1,x2,x3⟩:=Gp;exact⟨150,_,rfl,enters_of func150 (by kernel_rfl) rfl,yv h hc i k b1 b2 b3 ⟨x1,x2,x3⟩ (by have:=hs.run i;omega) (fun _ F1 w1 p1 r=>Gn k r hc hs hf)⟩
 |ref i k=>
  obtain⟨b1,b2,b3,rfl,x1,x2,x3⟩:=Gp;refine⟨119,_,rfl,enters_of func119 (by kernel_rfl) rfl,?_⟩;have hr:=hs.run .ref;show Z4 119 _ w (eJ F R w s (oY i k s.at_ st c));unfold oY;cases hb:Tk.qI c
  ·simp only[aA,bf];exact Wv h hc _ _ _ hb
  ·simp only[if_true];by_cases oy:c=59
   ·subst oy;rw[if_pos rfl];exact Sv h i k b1 b2 b3 yh ⟨x1,x2,x3⟩ (hx i k rfl) hT h2
   ·rw[if_neg oy];exact Ss h hc i k b1 b2 b3 ⟨x1,x2,x3⟩ (by omega) hb oy
theorem zO(k:Pl)(q:Int)(st:St)(c:Int):∀pt,(step k q st c).res=.go pt->pt.Sound:=by
 intro pt;cases k<;>simp only[step,jS,gh,kq,iL,jg,fY,fZ]<;>(repeat' split)<;>intro e<;>first|(cases e;done)|(cases e;simp[Part.Sound])
end
end K
end Go.Proofs.YtjecakcpcnmieaaGreatDoor
