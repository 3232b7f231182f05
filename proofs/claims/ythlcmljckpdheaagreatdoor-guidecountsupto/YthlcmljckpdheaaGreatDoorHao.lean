import Derived.Test.YthlcmljckpdheaaGreatDoorHA
import Derived.StringKeys
import Derived.Test.YthlcmljckpdheaaGreatDoorHam
import Derived.Test.YthlcmljckpdheaaGreatDoorHan
set_option linter.unusedVariables false
set_option linter.unusedSimpArgs false
set_option maxHeartbeats 32000000
set_option maxRecDepth 100000
namespace Go.Proofs.YthlcmljckpdheaaGreatDoor
namespace K
open Go.RowKit Go.Maps Tryz
section
variable{F:Nat->Prop}{R:Nat}{w w':World}{s:Src}{p:jl}{st:St}{c:Int}
theorem eJ.PO{w':World}{s:Src}{p':jl}{iG:St}{pl:Pl}(h:fV (Grow F w w') R w' s p' iG)(hf:Frame F w w'):eJ F R w s ⟨iG,.go (.plain pl)⟩ (.returned (.tuple #[pl.val,.nilIface])) w':=
 ⟨p',h,hf,_,rfl,rfl⟩
theorem Frame.Ho(hR:F R)(i:Nat)(v:Value):Frame F w (w.setCell ⟨R,i,none⟩ v):=
 ⟨rfl,rfl,rfl,by simp[World.setCell],fun k _ hf=>ae _ _ _ _ (fun e=>hf (by rw[e];exact hR))⟩
theorem fV.scalar{s':Src}{iG:St}(h:fV F R w s p st)(i:Nat)(v:Value)(hc:(cellsOf s p st).setIfInBounds i v=cellsOf s' p iG)(ho:Own F R (w.setCell ⟨R,i,none⟩ v) p st->Own F R (w.setCell ⟨R,i,none⟩ v) p iG):fV F R (w.setCell ⟨R,i,none⟩ v) s' p iG:=
 h.Ho (fun k hk=>ae _ _ _ _ hk) (by simp[World.setCell]) (by rw[<-hc];exact fe h.blk v) ho
theorem fV.PP(h:fV F R w' s p st)(hs:w'.heap.size=w.heap.size):fV (Grow F w w') R w' s p st:=
 h.mono (fun _ x=>Or.inl x) (fun k hk=>hk.elim (h.lt k) (fun x=>x.2))
theorem EM(h:fV F R w s p st)(Xc:tD c):
  Z4 223 #[Z8 R,.int .i32 c] w (eJ F R w s (jX s.at_ st c)):=by
 have hat:=h.cell 2 rfl;have hb:=rN c w;have H:=a_ h;clear h;unfold jX;generalize Tk.blank c=b at*
 cases b
 ·simp only[ay,bf];by_cases h1:c=61
  ·subst h1;go_enter func223,ntmps223;go_wp2_with(go_at_call 145;refine hb.mono ?_;rintro e w1 ⟨rfl,rfl⟩)
   go_ret2
   exact eJ.pq H.out (Below.refl _ _)
  ·have e1:(c==61)=false:=by simpa using h1
   rw[if_neg h1];clear h1;go_enter func223,ntmps223;go_wp2_with(first|(go_at_call 145;refine hb.mono ?_;rintro e w1 ⟨rfl,rfl⟩)|(go_at_call 59;refine(gR R c s.at_ _ hat).mono ?_;rintro e w1 ⟨rfl,rfl⟩))
   go_ret2
   exact eJ.iw H.out (Below.refl _ _)
 ·simp only[if_true];go_enter func223,ntmps223;go_wp2_with(go_at_call 145;refine hb.mono ?_;rintro e w1 ⟨rfl,rfl⟩)
  go_ret2
  exact eJ.pq H.out (Below.refl _ _)
theorem LN(h:fV F R w s p st)(Xc:tD c):
  Z4 235 #[Z8 R,.int .i32 c] w (eJ F R w s (step .lx s.at_ st c)):=by
 have hat:=h.cell 2 rfl;have hq:w.cell? ⟨R,17,none⟩=some (.int .i32 st.quote):=h.cell 17 rfl;have f17:=h.free 17;have hb:=rN c w;have H:=a_ h;clear h;show Calls _ _ _ _ (eJ F R w s (if Tk.blank c=true then⟨st,.go (.plain .lx)⟩else if c=34\/c=39 then⟨{st with quote:=c},.go (.plain .iP)⟩else⟨st,.fail (Tk.why c) s.at_⟩));generalize Tk.blank c=b at*
 cases b
 ·simp only[ay,bf];by_cases h1:c=34
  ·rw[if_pos (Or.inl h1)];have e1:(c==34)=true:=by simpa using h1
   clear h1;go_enter func235,ntmps235;go_wp2_with(go_at_call 145;refine hb.mono ?_;rintro e w1 ⟨rfl,rfl⟩)
   go_ret2
   exact eJ.PO ((H.out.scalar (iG:={st with quote:=c}) 17 (.int .i32 c) rfl (fun o=>⟨o.run,o.jE,o.apart,o.told,o.iy,o.d_,o.fg,o.names⟩)).PP (by simp[World.setCell])) (Frame.Ho H.out.jP _ _)
  ·have e1:(c==34)=false:=by simpa using h1
   by_cases h2:c=39
   ·rw[if_pos (Or.inr h2)];have e2:(c==39)=true:=by simpa using h2
    clear h2 h1;go_enter func235,ntmps235;go_wp2_with(go_at_call 145;refine hb.mono ?_;rintro e w1 ⟨rfl,rfl⟩)
    go_ret2
    exact eJ.PO ((H.out.scalar (iG:={st with quote:=c}) 17 (.int .i32 c) rfl (fun o=>⟨o.run,o.jE,o.apart,o.told,o.iy,o.d_,o.fg,o.names⟩)).PP (by simp[World.setCell])) (Frame.Ho H.out.jP _ _)
   ·rw[if_neg (by omega)];have e2:(c==39)=false:=by simpa using h2
    clear h2 h1;go_enter func235,ntmps235;go_wp2_with(first|(go_at_call 145;refine hb.mono ?_;rintro e w1 ⟨rfl,rfl⟩)|(go_at_call 59;refine(gR R c s.at_ _ hat).mono ?_;rintro e w1 ⟨rfl,rfl⟩))
    go_ret2
    exact eJ.iw H.out (Below.refl _ _)
 ·simp only[if_true];go_enter func235,ntmps235;go_wp2_with(go_at_call 145;refine hb.mono ?_;rintro e w1 ⟨rfl,rfl⟩)
  go_ret2
  exact eJ.pq H.out (Below.refl _ _)
theorem Uc(h:fV F R w s p st)(Xc:tD c):
  Z4 98 #[Z8 R,.int .i32 c] w (eJ F R w s (step .oV s.at_ st c)):=by
 have hat:=h.cell 2 rfl;have H:=a_ h;clear h;by_cases h1:c=45
 ·subst h1;go_enter func98,ntmps98;go_wp2_with(go_at_call 148;refine(na ⟨#[45]⟩ 149 _ (by decide+kernel)).mono ?_;rintro e w1 ⟨rfl,rfl⟩)
  go_ret2
  exact eJ.word (l:=[45]) (pl:=.remark) H.out
 ·have e1:(c==45)=false:=by simpa using h1
  by_cases h2:c=91
  ·subst h2;go_enter func98,ntmps98;go_wp2_with(go_at_call 148;refine(na ⟨#[67,68,65,84,65,91]⟩ 150 _ (by decide+kernel)).mono ?_;rintro e w1 ⟨rfl,rfl⟩)
   go_ret2
   exact eJ.word (l:=[67,68,65,84,65,91]) (pl:=.iu) H.out
  ·have e2:(c==91)=false:=by simpa using h2
   rw[show step .oV s.at_ st c=⟨st,.fail (Tk.why c) s.at_⟩ by simp[step,h1,h2]];clear h1 h2;go_enter func98,ntmps98;go_wp2_with(go_at_call 59;refine(gR R c s.at_ _ hat).mono ?_;rintro e w1 ⟨rfl,rfl⟩)
   go_ret2
   exact eJ.iw H.out (Below.refl _ _)
theorem Hs(h:fV F R w s p st)(Xc:tD c)(hs:st.Small):
  Z4 96 #[Z8 R,.int .i32 c] w (eJ F R w s (step .closing s.at_ st c)):=by
 have hat:=h.cell 2 rfl;have hb:=rN c w;have htc:=mQ h (by have:=hs.told;omega);have H:=a_ h;clear h hs;show Calls _ _ _ _ (eJ F R w s (if Tk.blank c=true then⟨st,.go (.plain .closing)⟩else if c=62 then⟨st.gh,.go (.plain .between)⟩else⟨st,.fail (Tk.why c) s.at_⟩));generalize Tk.blank c=b at*
 generalize st.gh=qW at*
 cases b
 ·simp only[ay,bf];by_cases h1:c=62
  ·rw[if_pos h1];have e1:(c==62)=true:=by simpa using h1
   clear h1;go_enter func96,ntmps96;go_wp2_with(first|(go_at_call 145;refine hb.mono ?_;rintro e w1 ⟨rfl,rfl⟩)|(go_at_call 146;refine htc.mono ?_;rintro e w1 ⟨rfl,p1,r1,f1⟩))
   go_ret2
   exact eJ.PO r1 f1
  ·rw[if_neg h1];have e1:(c==62)=false:=by simpa using h1
   clear h1;go_enter func96,ntmps96;go_wp2_with(first|(go_at_call 145;refine hb.mono ?_;rintro e w1 ⟨rfl,rfl⟩)|(go_at_call 59;refine(gR R c s.at_ _ hat).mono ?_;rintro e w1 ⟨rfl,rfl⟩))
   go_ret2
   exact eJ.iw H.out (Below.refl _ _)
 ·simp only[if_true];go_enter func96,ntmps96;go_wp2_with(go_at_call 145;refine hb.mono ?_;rintro e w1 ⟨rfl,rfl⟩)
  go_ret2
  exact eJ.pq H.out (Below.refl _ _)
theorem ow(h:fV F R w s p st)(Xc:tD c)(hs:st.Small):
  Z4 99 #[Z8 R,.int .i32 c] w (eJ F R w s (jM s.at_ st c)):=by
 have hat:=h.cell 2 rfl;have hb:=rN c w;have hto:=qi h (by have:=hs.told;omega);have H:=a_ h;clear h hs;unfold jM;generalize Tk.blank c=b at*
 generalize st.fl=qW at*
 cases b
 ·simp only[ay,bf];by_cases h0:c=47
  ·rw[if_pos h0];have e0:(c==47)=true:=by simpa using h0
   clear h0;go_enter func99,ntmps99;go_wp2_with(go_at_call 145;refine hb.mono ?_;rintro e w1 ⟨rfl,rfl⟩)
   go_ret2
   exact eJ.pq H.out (Below.refl _ _)
  ·rw[if_neg h0];have e0:(c==47)=false:=by simpa using h0
   clear h0;by_cases h1:c=62
   ·rw[if_pos h1];have e1:(c==62)=true:=by simpa using h1
    clear h1;go_enter func99,ntmps99;go_wp2_with(first|(go_at_call 145;refine hb.mono ?_;rintro e w1 ⟨rfl,rfl⟩)|(go_at_call 153;refine hto.mono ?_;rintro e w1 ⟨rfl,p1,r1,f1⟩))
    go_ret2
    exact eJ.PO r1 f1
   ·rw[if_neg h1];have e1:(c==62)=false:=by simpa using h1
    clear h1;go_enter func99,ntmps99;go_wp2_with(first|(go_at_call 145;refine hb.mono ?_;rintro e w1 ⟨rfl,rfl⟩)|(go_at_call 59;refine(gR R c s.at_ _ hat).mono ?_;rintro e w1 ⟨rfl,rfl⟩))
    go_ret2
    exact eJ.iw H.out (Below.refl _ _)
 ·simp only[if_true];go_enter func99,ntmps99;go_wp2_with(go_at_call 145;refine hb.mono ?_;rintro e w1 ⟨rfl,rfl⟩)
  go_ret2
  exact eJ.pq H.out (Below.refl _ _)
theorem CL(st:St):st.fl.told.length<=st.told.length+2:=by
 unfold St.fl St.eK;split
 ·simp
 ·simp[St.clear,St.eI]
theorem um(h:fV F R w s p st)(Xc:tD c)(hs:st.Small):
  Z4 152 #[Z8 R,.int .i32 c] w (eJ F R w s (step .jF s.at_ st c)):=by
 have hat:=h.cell 2 rfl;have hto:=qi h (by have:=hs.told;omega);have hsl:st.fl.told.length<=1099511627780:=by have:=hs.told;have:=CL st;omega
 have H:=a_ h;clear h hs;show Calls _ _ _ _ (eJ F R w s (if c=62 then⟨st.fl.gh,.go (.plain .between)⟩else⟨st,.fail (Tk.why c) s.at_⟩));generalize st.fl=qW at*
 by_cases h1:c=62
 ·rw[if_pos h1];have e1:(c==62)=true:=by simpa using h1
  clear h1;have htc:∀{w1:World} {p1:jl},fV (Grow F w w1) R w1 s p1 qW->_:=fun{w1 p1} r=>mQ r hsl;go_enter func152,ntmps152;go_wp2_with(first|(go_at_call 153;refine hto.mono ?_;rintro e w1 ⟨rfl,p1,r1,f1⟩));refine(mQ r1 hsl).mono ?_;rintro e w2 ⟨rfl,p2,r2,f2⟩;go_wp2
  go_ret2
  exact eJ.PO (r2.join f1.size f2.size) (f1.trans f2)
 ·rw[if_neg h1];have e1:(c==62)=false:=by simpa using h1
  clear h1;go_enter func152,ntmps152;go_wp2_with(go_at_call 59;refine(gR R c s.at_ _ hat).mono ?_;rintro e w1 ⟨rfl,rfl⟩)
  go_ret2
  exact eJ.iw H.out (Below.refl _ _)
end
section
variable{F:Nat->Prop}{R:Nat}{w w':World}{s:Src}{p:jl}{st:St}{c:Int}
theorem fV.drew(h:fV F R w s p st):fV F R w.drew s p st:=⟨h.blk,h.jP,h.lt,h.own.frame (fun _ _ _=>rfl) (fun _ x=>x)⟩
theorem lA(h:fV F R w s p st)(i:Rn)(c q:Int)(hc:Scalar c)(hn:(st.run i).length<=70368744177700):
  Z4 60 #[.pointer (some ⟨R,i.off,none⟩),.int .i32 c,.int .i64 q] w.drew fun e w'=>e=.returned (.tuple #[])/\∃v,fV (Grow F w w') R w' s (p.eI i v) (st.put i c q)/\Frame F w w'/\Kept R (p.run i).ownBlock w w':=by
 refine(TX h.drew i c q hc (by omega)).mono ?_;rintro e w1 ⟨rfl,v,r1,k1⟩;have k2:Kept R (p.run i).ownBlock w w1:=⟨k1.os,k1.tape,k1.output,k1.size,k1.block⟩
 exact⟨rfl,v,r1,h.Xb k2,k2⟩
theorem iY(st:St)(i j:Rn)(c q:Int):((st.put i c q).run j).length<=(st.run j).length+4:=by
 simp only[St.put,St.eI];split
 ·rename_i e;subst e;have:=qQ c;simp;omega
 ·omega
theorem yE(h:fV F R w s p st)(hc:tD c)(hs:(st.run .text).length<=70368744177690):
  Z4 150 #[Z8 R,.int .i32 c] w (eJ F R w s (fR s.at_ st c)):=by
 have hat:w.cell? ⟨R,2,none⟩=some (.int .i64 s.at_):=h.cell 2 rfl;unfold fR;by_cases h1:c=93
 ·rw[if_pos h1];have e1:(c==93)=true:=by simpa using h1
  have H:=a_ h;clear h1 h hc hs;go_enter func150,ntmps150;go_wp2
  go_ret2
  exact eJ.pq H.out (Below.refl _ _)
 ·rw[if_neg h1];have e1:(c==93)=false:=by simpa using h1
  by_cases h2:c<0
  ·rw[if_pos h2];have H:=a_ h;clear h1 h hc hs;go_enter func150,ntmps150;go_wp2_with(go_at_call 59;refine(gR R c s.at_ _ hat).mono ?_;rintro e w1 ⟨rfl,rfl⟩)
   go_ret2
   exact eJ.iw H.out (Below.refl _ _)
  ·rw[if_neg h2];have hp:=lA h .text c s.at_ (pu hc (by omega)) (by omega);have H:=a_ h;clear h1 h hc hs;generalize st.put .text c s.at_=qW at*
   go_enter func150,ntmps150;go_wp2_with fail;go_region_held3 (fun W=>W.cell? ⟨R,2,none⟩=some (.int .i64 s.at_))
    (first|exact hat|exact mP)
    (first|(go_at_call 60;refine hp.mono ?_;rintro e w1 ⟨rfl,v,r1,f1,k1⟩;have mP:w1.cell? ⟨R,2,none⟩=some (.int .i64 s.at_):=r1.cell 2 rfl))
   all_goals
    go_wp2
    go_ret2
    exact eJ.PO r1 f1
theorem qh.mono{F':Nat->Prop}{b:Nat}{x:Value}{t:TypeId}(h:qh F R w b x t)(hF:∀k,F k->F' k):qh F' R w b x t:=⟨h.1,hF b h.2.1,h.2.2⟩
theorem gG.mono{F':Nat->Prop}{v:Value}{pt:Part}(h:gG F R w v pt)(hF:∀k,F k->F' k):gG F' R w v pt:=by
 cases pt with
 |plain p=>exact h
 |word l p=>obtain⟨b1,b2,e,h1,h2⟩:=h;exact⟨b1,b2,e,h1.mono hF,h2.mono hF⟩
 |name i p=>obtain⟨b1,b2,b3,e,h1,h2,h3⟩:=h;exact⟨b1,b2,b3,e,h1.mono hF,h2.mono hF,h3.mono hF⟩
 |ref i p=>obtain⟨b1,b2,b3,e,h1,h2,h3⟩:=h;exact⟨b1,b2,b3,e,h1.mono hF,h2.mono hF,h3.mono hF⟩
theorem eJ.after{w1 w2:World}{o:Out}{e:Ending}(h:eJ (Grow F w w1) R w1 s o e w2)(f1:Frame F w w1):eJ F R w s o e w2:=by
 obtain⟨p',r,f,h⟩:=h;refine⟨p',r.join f1.size f.size,f1.trans f,?_⟩;cases hr:o.res with
 |go part=>rw[hr]at h;obtain⟨v,h1,h2⟩:=h;exact⟨v,h1,h2.mono fun k hk=>(Grow.trans f1.size f.size k).1 hk⟩
 |stop=>rw[hr]at h;exact h
 |fail no q=>rw[hr]at h;exact h
def Src.Fits(s:Src):Prop:=0<=s.at_/\s.at_<=1152921504606846976
theorem yF(h:fV F R w s p st)(hc:tD c)(hs:(st.run .text).length<=70368744177680)(hf:s.Fits):
  Z4 193 #[Z8 R,.int .i32 c] w (eJ F R w s (fS s.at_ st c)):=by
 have hat:w.cell? ⟨R,2,none⟩=some (.int .i64 s.at_):=h.cell 2 rfl;obtain⟨ZP,ZQ⟩:=hf;unfold fS;by_cases h1:c=93
 ·rw[if_pos h1];have e1:(c==93)=true:=by simpa using h1
  have H:=a_ h;clear h1 h hc hs;go_enter func193,ntmps193;go_wp2
  go_ret2
  exact eJ.pq H.out (Below.refl _ _)
 ·rw[if_neg h1];have e1:(c==93)=false:=by simpa using h1
  have hp:=lA h .text 93 (s.at_-1) (by unfold Scalar;omega) (by omega);have hl:=iY st .text .text 93 (s.at_-1);have xf:∀(w1:World) (p1:jl),fV (Grow F w w1) R w1 s p1 (st.put .text 93 (s.at_-1))->Z4 150 #[Z8 R,.int .i32 c] w1 (eJ (Grow F w w1) R w1 s (fR s.at_ (st.put .text 93 (s.at_-1)) c)):=fun _ _ r=>yE r hc (by omega);have NK:=a_ xf;have hwr:IntKind.i64.wrap (s.at_-1)=s.at_-1:=by rw[aI];omega
  clear h1 h hc hs hl xf;generalize st.put .text 93 (s.at_-1)=qW at*
  generalize fR s.at_ qW c=o at*
  go_enter func193,ntmps193;go_wp2_with fail;go_region_held3 (fun W=>W.cell? ⟨R,2,none⟩=some (.int .i64 s.at_))
   (first|exact hat|exact mP)
   (first|(go_at_call 60;refine hp.mono ?_;rintro e w1 ⟨rfl,v,r1,f1,k1⟩;have mP:w1.cell? ⟨R,2,none⟩=some (.int .i64 s.at_):=r1.cell 2 rfl))
  all_goals
   go_wp2_with(go_at_call 150;refine(NK.out _ _ r1).mono ?_);intro e w2 hP;obtain⟨v1,v2,rfl⟩:=hP.two;go_wp2
   go_ret2
   exact hP.after f1
theorem EN(h:fV F R w s p st)(hc:tD c)(hs:(st.run .text).length<=70368744177670)(hf:s.Fits):
  Z4 221 #[Z8 R,.int .i32 c] w (eJ F R w s (step .brackets s.at_ st c)):=by
 have hat:w.cell? ⟨R,2,none⟩=some (.int .i64 s.at_):=h.cell 2 rfl;have hf':=hf;obtain⟨ZP,ZQ⟩:=hf;show Calls _ _ _ _ (eJ F R w s (if c=62 then⟨st,.go (.plain .between)⟩else fS s.at_ (st.put .text 93 (s.at_-2)) c));by_cases h1:c=62
 ·rw[if_pos h1];have e1:(c==62)=true:=by simpa using h1
  have H:=a_ h;clear h1 h hc hs hf';go_enter func221,ntmps221;go_wp2
  go_ret2
  exact eJ.pq H.out (Below.refl _ _)
 ·rw[if_neg h1];have e1:(c==62)=false:=by simpa using h1
  have hp:=lA h .text 93 (s.at_-2) (by unfold Scalar;omega) (by omega);have hl:=iY st .text .text 93 (s.at_-2);have xf:∀(w1:World) (p1:jl),fV (Grow F w w1) R w1 s p1 (st.put .text 93 (s.at_-2))->Z4 193 #[Z8 R,.int .i32 c] w1 (eJ (Grow F w w1) R w1 s (fS s.at_ (st.put .text 93 (s.at_-2)) c)):=fun _ _ r=>yF r hc (by omega) hf';have NK:=a_ xf;have hwr:IntKind.i64.wrap (s.at_-2)=s.at_-2:=by rw[aI];omega
  clear h1 h hc hs hl xf hf';generalize st.put .text 93 (s.at_-2)=qW at*
  generalize fS s.at_ qW c=o at*
  go_enter func221,ntmps221;go_wp2_with fail;go_region_held3 (fun W=>W.cell? ⟨R,2,none⟩=some (.int .i64 s.at_))
   (first|exact hat|exact mP)
   (first|(go_at_call 60;refine hp.mono ?_;rintro e w1 ⟨rfl,v,r1,f1,k1⟩;have mP:w1.cell? ⟨R,2,none⟩=some (.int .i64 s.at_):=r1.cell 2 rfl))
  all_goals
   go_wp2_with(go_at_call 193;refine(NK.out _ _ r1).mono ?_);intro e w2 hP;obtain⟨v1,v2,rfl⟩:=hP.two;go_wp2
   go_ret2
   exact hP.after f1
end
section
variable{F:Nat->Prop}{R:Nat}{w w':World}{s:Src}{p:jl}{st:St}{c:Int}
def lT(x:UInt8)(l:List UInt8)(k:Pl)(q:Int)(st:St)(c:Int):Out:=
 if c=x.toNat then(if l=[]then⟨st,.go (.plain k)⟩else⟨st,.go (.word l k)⟩)else⟨st,.fail (Tk.why c) q⟩
theorem jw{b:Nat}{x:Value}{t:TypeId}(h:qh F R w b x t):w.cell? ⟨b,0,none⟩=some x:=cell_of h.1 rfl
theorem eJ.Xn{w0:World}{l:List UInt8}{pl:Pl}(h:fV F R w0 s p st)(hb:Z5 w0 w):eJ F R w0 s ⟨st,.go (.word l pl)⟩ (.returned (.tuple #[.func (.func 191) #[] #[uG w.heap.size,uG (w.heap.size+1)],.nilIface])) ((w.alloc (.cells #[e8 l] 9)).alloc (.cells #[pl.val] 100)):=by
 have hR:=h.lt R h.jP;have hs:=hb.size;have hb2:Z5 w0 ((w.alloc (.cells #[e8 l] 9)).alloc (.cells #[pl.val] 100)):=(hb.alloc hs _).alloc (by simp;omega) _;refine⟨p,h.below hb2,Frame.below hb2,_,rfl,w.heap.size,w.heap.size+1,rfl,⟨?_,Or.inr ⟨by omega,by simp;omega⟩,by omega⟩,⟨?_,Or.inr ⟨by omega,by simp⟩,by omega⟩⟩
 ·rw[ak _ _ _ (by simp)];exact bD w _
 ·have:=bD (w.alloc (.cells #[e8 l] 9)) (.cells #[pl.val] 100);simpa using this
theorem EO(w:World)(o o':Obj):Z5 w ((w.drew.alloc o).alloc o'):=((Below.refl _ w).drew.alloc (aj _) o).alloc (by simp) o'
theorem Ud(h:fV F R w s p st)(b1 b2:Nat)(x:UInt8)(l:List UInt8)(k:Pl)(h1:qh F R w b1 (e8 (x::l)) 9)(h2:qh F R w b2 k.val 100)(hl:l.length<=10):
  Z4 191 #[Z8 R,.int .i32 c,Z8 b1,Z8 b2] w (eJ F R w s (lT x l k s.at_ st c)):=by
 have hat:w.cell? ⟨R,2,none⟩=some (.int .i64 s.at_):=h.cell 2 rfl;obtain⟨t,ht⟩:∃t:ByteArray,t=⟨(x::l).toArray⟩:=⟨_,rfl⟩
 have c1:w.cell? ⟨b1,0,none⟩=some (.string t):=by rw[ht];exact jw h1
 have c2:w.cell? ⟨b2,0,none⟩=some (.func (.func k.fn) #[] #[]):=jw h2;have hsz:t.size=l.length+1:=by rw[ht];show (x::l).toArray.size=_;simp
 have hs0:0<t.size:=by omega
 have hx:wrap32 ((t[0]'hs0).toNat:Int)=x.toNat:=by
  subst ht;have:(x.toNat:Int)<256:=by have:=x.toNat_lt;omega
  show wrap32 (x.toNat:Int)=x.toNat;unfold wrap32;omega
 have LP:(t.extract 1 t.size)=⟨l.toArray⟩:=by
  rw[ht];apply cq;simp[ByteArray.size]
 have H:=a_ h;clear h h1 h2 ht;unfold lT;have vw:k.val=.func (.func k.fn) #[] #[]:=rfl;have Xo:=a_ vw;generalize k.fn=kn at*
 clear vw;by_cases hc:c=x.toNat
 ·rw[if_pos hc];have e1:(c !=wrap32 ((t[0]'hs0).toNat:Int))=false:=by rw[hx,hc];simp
  clear hc hx;have hs1:(1:Int)<=(t.size:Int):=by omega
  by_cases hl0:l=[]
  ·rw[if_pos hl0];have NZ:(t.extract 1 t.size).toList.isEmpty=true:=by rw[LP,hl0];decide+kernel
   clear LP hl0 hl hsz;go_enter func191,ntmps191;go_wp2_with fail;go_region_held3 (fun W=>W.cell? ⟨b1,0,none⟩=some (.string t)/\W.cell? ⟨b2,0,none⟩=some (.func (.func kn) #[] #[]))
    (first|exact⟨c1,c2⟩|exact⟨eG _ (eG _ c1),eG _ (eG _ c2)⟩)
    (first|(go_at_call 148;refine(CD _ _ _ NZ).mono ?_;rintro e w1 ⟨rfl,rfl⟩))
   all_goals
    go_wp2
    go_ret2
    rw[<-Xo.out];exact eJ.pq H.out (EO _ _ _)
  ·rw[if_neg hl0];have NZ:(t.extract 1 t.size).toList.isEmpty=false:=by
    rw[LP,cG];cases l with
    |nil=>exact absurd rfl hl0
    |cons a b=>rfl
   have HX:=a_ LP;clear LP hl0 hl hsz;go_enter func191,ntmps191;go_wp2_with fail;go_region_held3 (fun W=>W.cell? ⟨b1,0,none⟩=some (.string t)/\W.cell? ⟨b2,0,none⟩=some (.func (.func kn) #[] #[]))
    (first|exact⟨c1,c2⟩|exact⟨eG _ (eG _ c1),eG _ (eG _ c2)⟩)
    (first|(go_at_call 148;refine(na _ _ _ NZ).mono ?_;rintro e w1 ⟨rfl,rfl⟩))
   all_goals
    go_wp2
    go_ret2
    rw[<-Xo.out,HX.out];exact eJ.Xn H.out (Below.refl _ w).drew
 ·rw[if_neg hc];have e1:(c !=wrap32 ((t[0]'hs0).toNat:Int))=true:=by rw[hx];simpa using hc
  clear hc hx LP hl hsz;go_enter func191,ntmps191;go_wp2_with(go_at_call 59;refine(gR R c s.at_ _ hat).mono ?_;rintro e w1 ⟨rfl,rfl⟩)
  go_ret2
  exact eJ.iw H.out (Below.refl _ _)
end
section
variable{F:Nat->Prop}{R:Nat}{w w':World}{s:Src}{p:jl}{st:St}{c:Int}
theorem EP(W:World)(n:Nat)(h:W.heap.size=n)(v:Value)(t:TypeId):(W.alloc (.cells #[v] t)).cell? ⟨n,0,none⟩=some v:=by subst h;exact cell_of (bD W _) rfl
theorem EQ(W:World)(n:Nat)(h:W.heap.size=n)(v:Value)(t:TypeId):(W.alloc (.cells #[v] t)).frozen? ⟨n,0,none⟩=false:=by subst h;exact eR (bD W _)
theorem qX(W:World)(a:Addr)(u v:Value)(h1:v.oneCell'=true)(h:W.cell? a=some u)(hf:W.frozen? a=false):(store a v).run prog W=.ok () (W.setCell a v):=by
 rw[run_store prog W a v _ h1,h];simp[hf]
theorem zX(R o kn:Nat)(x y:Value)(w:World)(hlt:R<w.heap.size)(c0:w.cell? ⟨R,o,none⟩=some x)(c1:w.cell? ⟨R,o+1,none⟩=some y)(f0:w.frozen? ⟨R,o,none⟩=false)(f1:w.frozen? ⟨R,o+1,none⟩=false):
  Z4 95 #[.pointer (some ⟨R,o,none⟩),.func (.func kn) #[] #[]] w fun e w'=>e=.returned (.func (.func 143) #[] #[.pointer (some ⟨w.heap.size,0,none⟩),.pointer (some ⟨w.heap.size+1,0,none⟩),.pointer (some ⟨w.heap.size+1+1,0,none⟩)])/\
   w'=((((w.setCell ⟨R,o,none⟩ (.slice none 0 0)).setCell ⟨R,o+1,none⟩ (.int .i64 0)).alloc (.cells #[.pointer (some ⟨R,o,none⟩)] 159)).alloc (.cells #[.func (.func kn) #[] #[]] 100)).alloc (.cells #[.func (.func 143) #[] #[.pointer (some ⟨w.heap.size,0,none⟩),.pointer (some ⟨w.heap.size+1,0,none⟩),.pointer (some ⟨w.heap.size+1+1,0,none⟩)]] 100):=by
 have k0:=EP ((((w.setCell ⟨R,o,none⟩ (.slice none 0 0)).setCell ⟨R,o+1,none⟩ (.int .i64 0)).alloc (.cells #[.pointer (some ⟨R,o,none⟩)] 159)).alloc (.cells #[.func (.func kn) #[] #[]] 100)) (w.heap.size+1+1) (by simp[World.setCell]) .nilFunc 100;have k1:=EQ ((((w.setCell ⟨R,o,none⟩ (.slice none 0 0)).setCell ⟨R,o+1,none⟩ (.int .i64 0)).alloc (.cells #[.pointer (some ⟨R,o,none⟩)] 159)).alloc (.cells #[.func (.func kn) #[] #[]] 100)) (w.heap.size+1+1) (by simp[World.setCell]) .nilFunc 100;have hst:=qX _ _ _ (.func (.func 143) #[] #[.pointer (some ⟨w.heap.size,0,none⟩),.pointer (some ⟨w.heap.size+1,0,none⟩),.pointer (some ⟨w.heap.size+1+1,0,none⟩)]) rfl k0 k1;clear k0 k1;go_enter func95,ntmps95;go_wp2;go_ret;exact⟨rfl,rfl⟩
theorem fV.yG(h:fV F R w s p st)(i:Rn):fV F R ((w.setCell ⟨R,i.off,none⟩ (.slice none 0 0)).setCell ⟨R,i.off+1,none⟩ (.int .i64 0)) s (p.eI i (.slice none 0 0)) (st.clear i):=by
 have hb:=fe (i:=i.off+1) (fe (i:=i.off) h.blk (.slice none 0 0)) (.int .i64 0);have hk:∀k,k≠R->((w.setCell ⟨R,i.off,none⟩ (.slice none 0 0)).setCell ⟨R,i.off+1,none⟩ (.int .i64 0)).heap[k]?=w.heap[k]?:=fun k hk=>by rw[ae _ _ _ _ hk,ae _ _ _ _ hk]
 have hs:((w.setCell ⟨R,i.off,none⟩ (.slice none 0 0)).setCell ⟨R,i.off+1,none⟩ (.int .i64 0)).heap.size=w.heap.size:=by simp[World.setCell]
 generalize (w.setCell ⟨R,i.off,none⟩ (.slice none 0 0)).setCell ⟨R,i.off+1,none⟩ (.int .i64 0)=w2 at*
 have hlt:∀k,F k->k<w2.heap.size:=fun k hf=>by rw[hs];exact h.lt k hf
 refine⟨?_,h.jP,hlt,(h.own.frame (fun k _ hr=>hk k hr) (fun _ x=>x)).clear hlt h.jP i⟩;rw[hb];cases i<;>rfl
theorem Frame.yG(h:fV F R w s p st)(i:Rn):Frame F w ((w.setCell ⟨R,i.off,none⟩ (.slice none 0 0)).setCell ⟨R,i.off+1,none⟩ (.int .i64 0)):=
 (Frame.Ho h.jP _ _).same (Frame.Ho h.jP _ _)
theorem tE(s:Src)(p:jl)(st:St)(i:Rn)(h:fV F R w s p st):w.cell? ⟨R,i.off,none⟩=some (p.run i)/\w.cell? ⟨R,i.off+1,none⟩=some (.int .i64 (st.fD i)):=
 ⟨cell_of h.blk (rO s p st i).1,cell_of h.blk (rO s p st i).2⟩
theorem CN(w:World)(a b c:Obj):Z5 w (((w.alloc a).alloc b).alloc c)/\(((w.alloc a).alloc b).alloc c).heap[w.heap.size]?=some a/\(((w.alloc a).alloc b).alloc c).heap[w.heap.size+1]?=some b/\(((w.alloc a).alloc b).alloc c).heap[w.heap.size+1+1]?=some c/\(((w.alloc a).alloc b).alloc c).heap.size=w.heap.size+3:=by
 refine⟨(rP w a b).alloc (by simp;omega) c,?_,?_,?_,by simp⟩
 ·rw[ak _ _ _ (by simp;omega),ak _ _ _ (by simp)];exact bD w a
 ·rw[ak _ _ _ (by simp)];have:=bD (w.alloc a) b;simpa using this
 ·have:=bD ((w.alloc a).alloc b) c;simpa using this
theorem pS(h:fV F R w s p st)(i:Rn)(k:Pl):
  Z4 95 #[.pointer (some ⟨R,i.off,none⟩),.func (.func k.fn) #[] #[]] w fun e w'=>∃b1 b2 b3 p',e=.returned (.func (.func 143) #[] #[Z8 b1,Z8 b2,Z8 b3])/\
   qh (Grow F w w') R w' b1 (.pointer (some ⟨R,i.off,none⟩)) 159/\qh (Grow F w w') R w' b2 k.val 100/\qh (Grow F w w') R w' b3 (.func (.func 143) #[] #[Z8 b1,Z8 b2,Z8 b3]) 100/\
   fV (Grow F w w') R w' s p' (st.clear i)/\Frame F w w':=by
 have hR:=h.lt R h.jP;refine(zX R i.off k.fn _ _ w hR (tE s p st i h).1 (tE s p st i h).2 (eR h.blk) (eR h.blk)).mono ?_;rintro e w' ⟨rfl,rfl⟩;have r:=h.yG i;have f:=Frame.yG h i;have hsz:((w.setCell ⟨R,i.off,none⟩ (.slice none 0 0)).setCell ⟨R,i.off+1,none⟩ (.int .i64 0)).heap.size=w.heap.size:=by simp[World.setCell]
 generalize (w.setCell ⟨R,i.off,none⟩ (.slice none 0 0)).setCell ⟨R,i.off+1,none⟩ (.int .i64 0)=w2 at*
 obtain⟨hb,a1,a2,a3,az⟩:=CN w2 (.cells #[.pointer (some ⟨R,i.off,none⟩)] 159) (.cells #[.func (.func k.fn) #[] #[]] 100) (.cells #[.func (.func 143) #[] #[.pointer (some ⟨w.heap.size,0,none⟩),.pointer (some ⟨w.heap.size+1,0,none⟩),.pointer (some ⟨w.heap.size+1+1,0,none⟩)]] 100);generalize ((w2.alloc (.cells #[.pointer (some ⟨R,i.off,none⟩)] 159)).alloc (.cells #[.func (.func k.fn) #[] #[]] 100)).alloc (.cells #[.func (.func 143) #[] #[.pointer (some ⟨w.heap.size,0,none⟩),.pointer (some ⟨w.heap.size+1,0,none⟩),.pointer (some ⟨w.heap.size+1+1,0,none⟩)]] 100)=w3 at*
 rw[hsz]at a1 a2 a3 az;have hG:∀k,Grow F w2 w3 k->Grow F w w3 k:=fun k hk=>by unfold Grow at*;rw[hsz]at hk;exact hk
 refine⟨w.heap.size,w.heap.size+1,w.heap.size+1+1,_,rfl,⟨a1,Or.inr (by omega),by omega⟩,⟨a2,Or.inr (by omega),by omega⟩,⟨a3,Or.inr (by omega),by omega⟩,(r.below hb).mono hG (fun k hk=>?_),f.same (Frame.below hb)⟩;exact(r.below hb).lt k (by unfold Grow at*;rw[hsz];exact hk)
end
section
variable{F:Nat->Prop}{R:Nat}{w w':World}{s:Src}{p:jl}{st:St}{c:Int}
def stName(i:Rn)(k:Pl)(q:Int)(st:St)(c:Int):Out:=
 if(st.run i).length=0 then fX i k q st c else if(Ch.ft c||Ch.gj c)=true then⟨st.put i c q,.go (.name i k)⟩else step k q st c
theorem mF{b:Nat}{x:Value}{t:TypeId}{i:Rn}(h:qh F R w b x t)(ho:Own F R w p st)(ht:t≠5)(hlt:∀k,F k->k<w.heap.size)(hK:Kept R (p.run i).ownBlock w w'):qh (Grow F w w') R w' b x t:=by
 refine⟨?_,Or.inl h.2.1,h.2.2⟩;rw[hK.block b (hlt b h.2.1) h.2.2 ?_]
 ·exact h.1
 ·intro e;obtain⟨cur,hc⟩:=fW (ho.run i) e.symm;rw[h.1]at hc;simp only[aX,cZ]at hc;exact ht hc.2.1
theorem kY{b:Nat}{x:Value}{t:TypeId}(h:qh F R w b x t)(hlt:∀k,F k->k<w.heap.size)(hb:Z5 w w'):qh (Grow F w w') R w' b x t:=
 ⟨(hb.block b (hlt b h.2.1)).trans h.1,Or.inl h.2.1,h.2.2⟩
def jx(F:Nat->Prop)(R:Nat)(w:World)(i:Rn)(k:Pl)(b1 b2 b3:Nat):Prop:=
 qh F R w b1 (.pointer (some ⟨R,i.off,none⟩)) 159/\qh F R w b2 k.val 100/\qh F R w b3 (.func (.func 143) #[] #[Z8 b1,Z8 b2,Z8 b3]) 100
theorem jx.below{i:Rn}{k:Pl}{b1 b2 b3:Nat}(h:jx F R w i k b1 b2 b3)(hlt:∀k,F k->k<w.heap.size)(hb:Z5 w w'):jx (Grow F w w') R w' i k b1 b2 b3:=
 ⟨kY h.1 hlt hb,kY h.2.1 hlt hb,kY h.2.2 hlt hb⟩
theorem jx.kept{i j:Rn}{k:Pl}{b1 b2 b3:Nat}(h:jx F R w i k b1 b2 b3)(ho:Own F R w p st)(hlt:∀k,F k->k<w.heap.size)(hK:Kept R (p.run j).ownBlock w w'):jx (Grow F w w') R w' i k b1 b2 b3:=
 ⟨mF h.1 ho (by decide) hlt hK,mF h.2.1 ho (by decide) hlt hK,mF h.2.2 ho (by decide) hlt hK⟩
theorem wL{w1 w2:World}{i:Rn}{k:Pl}{b1 b2 b3:Nat}{v:Value}{iG:St}(hb:Z5 w w1)(r2:fV (Grow (Grow F w w1) w1 w2) R w2 s (p.eI i v) iG)(f2:Frame (Grow F w w1) w1 w2)(hn:jx (Grow (Grow F w w1) w1 w2) R w2 i k b1 b2 b3):
  eJ F R w s ⟨iG,.go (.name i k)⟩ (.returned (.tuple #[.func (.func 143) #[] #[Z8 b1,Z8 b2,Z8 b3],.nilIface])) w2:=by
 have f1:Frame F w w1:=Frame.below hb;refine⟨_,r2.join f1.size f2.size,f1.trans f2,_,rfl,?_⟩;exact gG.mono (F:=Grow (Grow F w w1) w1 w2) (pt:=.name i k) ⟨b1,b2,b3,rfl,hn.1,hn.2.1,hn.2.2⟩ (fun k hk=>(Grow.trans f1.size f2.size k).1 hk)
theorem ER(k:Pl):∀args w,(callFunc k.fn args).run prog w=.ok (.enter k.fn args) w:=by
 cases k with
 |between=>exact enters_of func28 (by kernel_rfl) rfl
 |less=>exact enters_of func56 (by kernel_rfl) rfl
 |oV=>exact enters_of func98 (by kernel_rfl) rfl
 |remark=>exact enters_of func149 (by kernel_rfl) rfl
 |CC=>exact enters_of func192 (by kernel_rfl) rfl
 |iK=>exact enters_of func97 (by kernel_rfl) rfl
 |order=>exact enters_of func147 (by kernel_rfl) rfl
 |mark=>exact enters_of func190 (by kernel_rfl) rfl
 |iu=>exact enters_of func150 (by kernel_rfl) rfl
 |bracket=>exact enters_of func193 (by kernel_rfl) rfl
 |brackets=>exact enters_of func221 (by kernel_rfl) rfl
 |part=>exact enters_of func99 (by kernel_rfl) rfl
 |fh=>exact enters_of func151 (by kernel_rfl) rfl
 |jL=>exact enters_of func194 (by kernel_rfl) rfl
 |qR=>exact enters_of func223 (by kernel_rfl) rfl
 |lx=>exact enters_of func235 (by kernel_rfl) rfl
 |iP=>exact enters_of func246 (by kernel_rfl) rfl
 |jF=>exact enters_of func152 (by kernel_rfl) rfl
 |closing=>exact enters_of func96 (by kernel_rfl) rfl
theorem xr(h:fV F R w s p st)(hc:tD c)(i:Rn)(k:Pl)(b1 b2 b3:Nat)(hN:jx F R w i k b1 b2 b3)(hs:(st.run i).length<=70368744177680)
  (ZR:(st.run i).length≠0->∀(F1:Nat->Prop) (w1:World) (p1:jl),fV F1 R w1 s p1 st->Z4 k.fn #[Z8 R,.int .i32 c] w1 (eJ F1 R w1 s (step k s.at_ st c))):
  Z4 143 #[Z8 R,.int .i32 c,Z8 b1,Z8 b2,Z8 b3] w (eJ F R w s (stName i k s.at_ st c)):=by
 have hat:w.cell? ⟨R,2,none⟩=some (.int .i64 s.at_):=h.cell 2 rfl;have hR:=h.lt R h.jP;have k1:=jw hN.1;have k2:w.cell? ⟨b2,0,none⟩=some (.func (.func k.fn) #[] #[]):=jw hN.2.1;obtain⟨ao,cap,hv⟩:=eF (h.own.run i);have c0:w.cell? ⟨R,i.off,none⟩=some (.slice ao (st.run i).length cap):=by rw[<-hv];exact(tE s p st i h).1
 have ZS:=nS c hc;have VD:=lO c hc
 --what put does,behind a look at the character
 have hput:0<=c->∀w1,Z5 w w1->Z4 60 #[.pointer (some ⟨R,i.off,none⟩),.int .i32 c,.int .i64 s.at_] w1.drew fun e w2=>e=.returned (.tuple #[])/\∃v,fV (Grow (Grow F w w1) w1 w2) R w2 s (p.eI i v) (st.put i c s.at_)/\Frame (Grow F w w1) w1 w2/\jx (Grow (Grow F w w1) w1 w2) R w2 i k b1 b2 b3:=by
  intro h0 w1 hb;refine(lA (h.below hb) i c s.at_ (pu hc h0) (by omega)).mono ?_;rintro e w2 ⟨rfl,v,r,f,kk⟩;exact⟨rfl,v,r,f,(hN.below h.lt hb).kept (h.below hb).own (h.below hb).lt kk⟩
 have hbo:Ch.ft c=true->0<=c:=fun e=>by have:=(Ch.fT c).1 e;omega
 have hgo:(Ch.ft c||Ch.gj c)=true->0<=c:=fun e=>by
  rw[bE]at e;rcases e with e|e
  ·have:=(Ch.fT c).1 e;omega
  ·have:=(Ch.jh c).1 e;omega
 have hen:=ER k;have hb1:=h.lt b1 hN.1.2.1;have hb2:=h.lt b2 hN.2.1.2.1;have HN:=a_ hN;have H:=a_ h;have HP:=a_ hput;have HBE:=a_ ZR;have HBO:=a_ hbo;have HGO:=a_ hgo;clear h hN hput ZR hbo hgo hv hs hc;unfold stName fX;generalize st.put i c s.at_=qW at*
 generalize xf:step k s.at_ st c=so at*
 clear xf;generalize Ch.ft c=bb at*
 generalize (bb||Ch.gj c)=gg at*
 generalize hn:(st.run i).length=n at*
 clear hn;by_cases zP:n=0
 ·subst zP;simp only[if_true];cases bb
  ·simp only[ay,bf];go_enter func143,ntmps143;go_wp2_with(go_at_call 144;refine(ZS _).mono ?_;rintro e w1 ⟨rfl,lI⟩);refine(gR R c s.at_ _ ((lI.cell hR).trans hat)).mono ?_;rintro e w2 ⟨rfl,rfl⟩;go_wp2
   go_ret2
   exact eJ.iw H.out lI
  ·simp only[if_true];go_enter func143,ntmps143;go_wp2_with(go_at_call 144;refine(ZS _).mono ?_;rintro e w1 ⟨rfl,lI⟩);have hc0:0<=c:=by first|exact HBO.out rfl|exact HBO.out trivial
   have k1':=(lI.cell hb1).trans k1;have Ht:=(lI.cell hR).trans hat;go_region_held3 (fun W=>W.cell? ⟨b1,0,none⟩=some (.pointer (some ⟨R,i.off,none⟩))/\W.cell? ⟨R,2,none⟩=some (.int .i64 s.at_))
    (first|exact⟨k1',Ht⟩|exact⟨Xp,PQ⟩)
    (first|(go_at_call 60;refine(HP.out hc0 _ lI).mono ?_;rintro e w2 ⟨rfl,v,r2,f2,n2⟩;have Xp:=jw n2.1;have abh:=jw n2.2.2;have PQ:w2.cell? ⟨R,2,none⟩=some (.int .i64 s.at_):=r2.cell 2 rfl;have N2:=a_ n2;clear n2))
   all_goals
    go_wp2
    go_ret2
    exact wL lI r2 f2 N2.out
 ·have e0:((n:Int)==0)=false:=by
   have:(n:Int)≠0:=by omega
   simpa using this
  rw[if_neg zP];have abj:=a_ (HBE.out zP);clear zP;cases gg
  ·simp only[ay,bf];go_enter func143,ntmps143;go_wp2_with(go_at_call 101;refine(VD _).mono ?_;rintro e w1 ⟨rfl,lI⟩;have k2':=(lI.cell hb2).trans k2);refine(abj.out _ _ _ (H.out.below lI)).mono ?_;intro e w2 hP;obtain⟨v1,v2,rfl⟩:=hP.two;go_wp2
   go_ret2
   exact hP.after (Frame.below lI)
  ·simp only[if_true];go_enter func143,ntmps143;go_wp2_with(go_at_call 101;refine(VD _).mono ?_;rintro e w1 ⟨rfl,lI⟩);have hc0:0<=c:=by first|exact HGO.out rfl|exact HGO.out trivial
   have k1':=(lI.cell hb1).trans k1;have Ht:=(lI.cell hR).trans hat;go_region_held3 (fun W=>W.cell? ⟨b1,0,none⟩=some (.pointer (some ⟨R,i.off,none⟩))/\W.cell? ⟨R,2,none⟩=some (.int .i64 s.at_))
    (first|exact⟨k1',Ht⟩|exact⟨Xp,PQ⟩)
    (first|(go_at_call 60;refine(HP.out hc0 _ lI).mono ?_;rintro e w2 ⟨rfl,v,r2,f2,n2⟩;have Xp:=jw n2.1;have abh:=jw n2.2.2;have PQ:w2.cell? ⟨R,2,none⟩=some (.int .i64 s.at_):=r2.cell 2 rfl;have N2:=a_ n2;clear n2))
   all_goals
    go_wp2
    go_ret2
    exact wL lI r2 f2 N2.out
end
section
variable{F:Nat->Prop}{R:Nat}{w w':World}{s:Src}{p:jl}{st:St}{c:Int}
theorem rS(st:St)(i:Rn):((st.clear i).run i).length=0:=by simp[St.clear,St.eI]
theorem CO(i:Rn)(k:Pl)(q:Int)(st:St)(c:Int):stName i k q (st.clear i) c=fX i k q (st.clear i) c:=by unfold stName;rw[if_pos (rS st i)]
theorem AO(h:fV F R w s p st)(hc:tD c)(i:Rn)(k:Pl){b1 b2 b3:Nat}{w1:World}{p1:jl}
  (hN:jx (Grow F w w1) R w1 i k b1 b2 b3) (r1:fV (Grow F w w1) R w1 s p1 (st.clear i)):
  Z4 143 #[Z8 R,.int .i32 c,Z8 b1,Z8 b2,Z8 b3] w1 (eJ (Grow F w w1) R w1 s (fX i k s.at_ (st.clear i) c)):=by
 rw[<-CO];exact xr r1 hc i k b1 b2 b3 hN (by rw[rS];omega) (fun hne=>absurd (rS st i) hne)
theorem eJ.Xq{w1:World}{p1:jl}{i:Rn}{k:Pl}{b1 b2 b3:Nat}{iG:St}(hN:jx (Grow F w w1) R w1 i k b1 b2 b3)(r1:fV (Grow F w w1) R w1 s p1 iG)(f1:Frame F w w1):
  eJ F R w s ⟨iG,.go (.name i k)⟩ (.returned (.tuple #[.func (.func 143) #[] #[Z8 b1,Z8 b2,Z8 b3],.nilIface])) w1:=
 ⟨p1,r1,f1,_,rfl,b1,b2,b3,rfl,hN.1,hN.2.1,hN.2.2⟩
theorem Ue(h:fV F R w s p st)(hc:tD c):
  Z4 56 #[Z8 R,.int .i32 c] w (eJ F R w s (step .less s.at_ st c)):=by
 have hw1:Z4 95 #[.pointer (some ⟨R,9,none⟩),.func (.func 96) #[] #[]] w _:=pS h .name .closing;have hw2:Z4 95 #[.pointer (some ⟨R,9,none⟩),.func (.func 99) #[] #[]] w _:=pS h .name .part;have H:=a_ h;have HC:=a_ hc;clear h hc;show Calls _ _ _ _ (eJ F R w s (if c=47 then⟨st.clear .name,.go (.name .name .closing)⟩else if c=63 then⟨st,.go (.plain .iK)⟩else if c=33 then⟨st,.go (.plain .oV)⟩else fX .name .part s.at_ (st.clear .name) c));by_cases h1:c=47
 ·rw[if_pos h1];have e1:(c==47)=true:=by simpa using h1
  clear h1 hw2;go_enter func56,ntmps56;go_wp2_with(go_at_call 95;refine hw1.mono ?_;rintro e w1 ⟨b1,b2,b3,p1,rfl,x1,x2,x3,r1,f1⟩)
  go_ret2
  exact eJ.Xq ⟨x1,x2,x3⟩ r1 f1
 ·rw[if_neg h1];have e1:(c==47)=false:=by simpa using h1
  clear h1 hw1;by_cases h2:c=63
  ·rw[if_pos h2];have e2:(c==63)=true:=by simpa using h2
   clear h2;go_enter func56,ntmps56;go_wp2
   go_ret2
   exact eJ.pq H.out (Below.refl _ _)
  ·rw[if_neg h2];have e2:(c==63)=false:=by simpa using h2
   clear h2;by_cases h3:c=33
   ·rw[if_pos h3];have e3:(c==33)=true:=by simpa using h3
    clear h3;go_enter func56,ntmps56;go_wp2
    go_ret2
    exact eJ.pq H.out (Below.refl _ _)
   ·rw[if_neg h3];have e3:(c==33)=false:=by simpa using h3
    clear h3;generalize xf:fX .name .part s.at_ (st.clear .name) c=so at*
    have NK:=a_ xf;clear xf;go_enter func56,ntmps56;go_wp2_with(first|(go_at_call 95;refine hw2.mono ?_;rintro e w1 ⟨b1,b2,b3,p1,rfl,x1,x2,x3,r1,f1⟩));have fy:=AO H.out HC.out .name .part ⟨x1,x2,x3⟩ r1;rw[NK.out]at fy;refine fy.mono ?_;intro e w2 hP;obtain⟨v1,v2,rfl⟩:=hP.two;go_wp2
    go_ret2
    exact hP.after f1
theorem LQ(h:fV F R w s p st)(hc:tD c)(hs:st.Small):
  Z4 151 #[Z8 R,.int .i32 c] w (eJ F R w s (step .fh s.at_ st c)):=by
 have ZS:=nS c hc w;have H:=a_ h;have HC:=a_ hc;have HS:=a_ hs;clear h hc hs;show Calls _ _ _ _ (eJ F R w s (if Ch.ft c=true then fX .attr .jL s.at_ (st.clear .attr) c else jM s.at_ st c));generalize xf:fX .attr .jL s.at_ (st.clear .attr) c=so at*
 generalize hsp:jM s.at_ st c=sp at*
 have NK:=a_ xf;have HSP:=a_ hsp;clear xf hsp;generalize Ch.ft c=b at*
 cases b
 ·simp only[ay,bf];go_enter func151,ntmps151;go_wp2_with(first|(go_at_call 144;refine ZS.mono ?_;rintro e w1 ⟨rfl,lI⟩));have fy:=ow (H.out.below lI) HC.out HS.out;rw[HSP.out]at fy;refine fy.mono ?_;intro e w2 hP;obtain⟨v1,v2,rfl⟩:=hP.two;go_wp2
  go_ret2
  exact hP.after (Frame.below lI)
 ·simp only[if_true];go_enter func151,ntmps151;go_wp2_with(first|(go_at_call 144;refine ZS.mono ?_;rintro e w1 ⟨rfl,lI⟩));have hwn:Z4 95 #[.pointer (some ⟨R,13,none⟩),.func (.func 194) #[] #[]] w1 _:=pS (H.out.below lI) .attr .jL;refine hwn.mono ?_;rintro e w2 ⟨b1,b2,b3,p1,rfl,x1,x2,x3,r1,f1⟩;go_wp2_with fail;have fy:=AO (H.out.below lI) HC.out .attr .jL ⟨x1,x2,x3⟩ r1;rw[NK.out]at fy;refine fy.mono ?_;intro e w3 hP;obtain⟨v1,v2,rfl⟩:=hP.two;go_wp2
  go_ret2
  exact(hP.after f1).after (Frame.below lI)
end
section
variable{F:Nat->Prop}{R:Nat}{w w':World}{s:Src}{p:jl}{st:St}{c:Int}
theorem Cf:Keyed prog 9:=string_keyed underlying9
theorem CP(w:World):(zeroValue 313).run prog w=.ok (.agg #[]) w:=by kernel_rfl
theorem AP(l:List (List UInt8))(x:List UInt8):Maps.has (lQ l) (Lit.string x)=l.contains x:=by
 unfold lQ;rw[has_setOf _ _ _ (by intro y hy;obtain⟨z,_,rfl⟩:=List.mem_map.1 hy;exact trivial)];rw[bK];simp[Lit.sameKey]
theorem yH(l:List (List UInt8))(x:List UInt8):(lQ l).put (Lit.string x) (.agg [])=lQ (l++[x]):=by
 unfold lQ;rw[aR,bC,b9,setOf_snoc]
theorem Own.ES(h:Own F R w p st)(hlt:∀k,F k->k<w.heap.size)(b:Nat)(l:List (List UInt8))(hk:∀k,k<w.heap.size->k≠R->p.names≠ .map (some k)->w'.heap[k]?=w.heap[k]?)(hb:b≠R)(hF:Grow F w w' b)
  (hm:w'.ownsMap prog 9 unitElem b l.length (lQ l)):Own (Grow F w w') R w' {p with names:=.map (some b)} {st with names:=l}:=by
 have nm:∀k v e sz n xs,w.ownsRow 0 e sz v n xs->v.ownBlock=some k->p.names≠ .map (some k):=by
  intro k v e sz n xs ho hv hn;rcases h.names with⟨e,_⟩|⟨b',e,_,_,h4⟩
  ·rw[e]at hn;cases hn
  ·rw[e]at hn;cases hn;exact Cz ho h4 hv
 obtain⟨cs,hc,hT⟩:=h.told;refine⟨fun i=>eH (h.run i) fun k e=>hk k (hlt k (h.jE i k e).1) (h.jE i k e).2 (nm k _ _ _ _ _ (h.run i) e),fun i k e=>⟨Or.inl (h.jE i k e).1,(h.jE i k e).2⟩,h.apart,
  ⟨cs,eH hc fun k e=>hk k (hlt k (h.iy k e).1) (h.iy k e).2 (nm k _ _ _ _ _ hc e),hT.frame fun k n xs v' NI hv a b c=>⟨hk k (hlt k a) b (nm k _ _ _ _ _ NI hv),Or.inl a,c⟩⟩,fun k e=>⟨Or.inl (h.iy k e).1,(h.iy k e).2⟩,
  eH h.d_ fun k e=>hk k (hlt k (h.fg k e).1) (h.fg k e).2 (nm k _ _ _ _ _ h.d_ e),fun k e=>⟨Or.inl (h.fg k e).1,(h.fg k e).2⟩,Or.inr ⟨b,rfl,hF,hb,hm⟩⟩
theorem zY(h:fV F R w s p st)(hs:(st.run .attr).length<=70368744177680)(hh:st.names.contains (st.run .attr)=true):
  Z4 222 #[Z8 R] w (Z7 (nT 5 (st.fD .attr)) w):=by
 obtain⟨ao,cap,hv⟩:=eF (h.own.run .attr);have c13:w.cell? ⟨R,13,none⟩=some (.slice ao (st.run .attr).length cap):=by rw[<-hv];exact h.cell 13 rfl
 have c14:w.cell? ⟨R,14,none⟩=some (.int .i64 (st.fD .attr)):=h.cell 14 rfl;have hcv:(convert 101 9 (.slice ao (st.run .attr).length cap)).run prog w=.ok (.string ⟨(st.run .attr).toArray⟩) w:=by rw[<-hv];exact jW (h.own.run .attr)
 have hlt:=h.lt R h.jP;rcases h.own.names with⟨_,hn⟩|⟨b,hp,_,_,hm⟩
 ·rw[hn]at hh;simp at hh
 have c12:w.cell? ⟨R,12,none⟩=some (.map (some b)):=by rw[<-hp];exact h.cell 12 rfl
 have hkey:keyOf prog 9 (.string ⟨(st.run .attr).toArray⟩)=some (.string (st.run .attr)):=by
  have:=dF (P:=prog) underlying9 (s:=⟨(st.run .attr).toArray⟩) (by show (st.run .attr).toArray.size<=_;unfold maxLen;simp;omega);simpa using this
 have Ei:Maps.has (lQ st.names) (Lit.string (st.run .attr))=true:=by rw[AP];exact hh
 have HH:=a_ Ei;have HM:=a_ hm;have HK:=a_ hkey;clear h hh hv hp hm hkey Ei;generalize (st.run .attr)=nm at*
 go_enter func222,ntmps222;go_wp2_with(at_lookup;refine wpList_lookup_own_unit _ rfl _ _ 104 rfl 9 313 Cf underlying104 (CP _) b st.names.length _ rfl HM.out _ _ rfl HK.out ?_;rw[HH.out]);go_ret;exact⟨rfl,(Below.refl _ _).alloc (aj _) _⟩
theorem Xr(b:Nat)(w:World):(binOp .eql 104 (.map (some b)) (.map none)).run prog w=.ok (.bool false) w:=by kernel_rfl
theorem Uf(w:World):(binOp .eql 104 (.map none) (.map none)).run prog w=.ok (.bool true) w:=by kernel_rfl
theorem ET{b:Nat}{w1 w2:World}(h:fV F R w s p st)(b1:Z5 w w1)(hp:p.names=.map (some b))(hF:F b)(hb:b≠R)(hm:w2.ownsMap prog 9 unitElem b (st.names++[st.run .attr]).length (lQ (st.names++[st.run .attr])))(hg:w1.grownBy w2 (some b)):
  fV (Grow F w w2) R w2 s p {st with names:=st.names++[st.run .attr]}/\Frame F w w2:=by
 have hR:=h.lt R h.jP;have hsz:w.heap.size<=w2.heap.size:=aw b1.size hg.size;have hk:∀k,k<w.heap.size->k≠b->w2.heap[k]?=w.heap[k]?:=fun k hl hn=>(hg.block k (ah hl b1.size) (by simpa using hn)).trans (b1.block k hl);have o1:=h.own.ES (w':=w2) h.lt b (st.names++[st.run .attr]) (fun k hl _ hn=>hk k hl (fun e=>hn (by rw[hp,e]))) hb (Or.inl hF) hm;refine⟨⟨?_,Or.inl h.jP,iX h.lt hsz,?_⟩,⟨hg.os.trans b1.os,hg.tape.trans b1.tape,hg.output.trans b1.output,hsz,fun k hl hf=>hk k hl (fun e=>hf (e▸hF))⟩⟩
 ·rw[hk R hR (fun e=>hb e.symm)];exact h.blk
 ·have:{p with names:=.map (some b)}=p:=by rw[<-hp]
  rw[this]at o1;exact o1
theorem EU(h:fV F R w s p st)(hs:(st.run .attr).length<=70368744177680)(hs2:st.names.length<=1099511627790)(hh:st.names.contains (st.run .attr)=false)(K5:p.names≠ .map none):
  Z4 222 #[Z8 R] w fun e w'=>e=.returned .nilIface/\∃p',fV (Grow F w w') R w' s p' {st with names:=st.names++[st.run .attr]}/\Frame F w w':=by
 obtain⟨ao,cap,hv⟩:=eF (h.own.run .attr);have c13:w.cell? ⟨R,13,none⟩=some (.slice ao (st.run .attr).length cap):=by rw[<-hv];exact h.cell 13 rfl
 have hcv:(convert 101 9 (.slice ao (st.run .attr).length cap)).run prog w=.ok (.string ⟨(st.run .attr).toArray⟩) w:=by rw[<-hv];exact jW (h.own.run .attr)
 have hlt:=h.lt R h.jP;rcases h.own.names with⟨hn,_⟩|⟨b,hp,hF,hb,hm⟩
 ·exact absurd hn K5
 have c12:w.cell? ⟨R,12,none⟩=some (.map (some b)):=by rw[<-hp];exact h.cell 12 rfl
 have hkey:keyOf prog 9 (.string ⟨(st.run .attr).toArray⟩)=some (.string (st.run .attr)):=by
  have:=dF (P:=prog) underlying9 (s:=⟨(st.run .attr).toArray⟩) (by show (st.run .attr).toArray.size<=_;unfold maxLen;simp;omega);simpa using this
 have Ei:Maps.has (lQ st.names) (Lit.string (st.run .attr))=false:=by rw[AP];exact hh
 have hclose:=fun(w1 w2:World) b1 hm hg=>ET (w1:=w1) (w2:=w2) h b1 hp hF hb hm hg;have hput:=yH st.names (st.run .attr);have HP:=a_ hput;have KG:=a_ hclose;have HH:=a_ Ei;have HM:=a_ hm;have HK:=a_ hkey;clear h hh hv hp hm hkey Ei hclose hput K5 hF hb;have hlen:(st.names++[st.run .attr]).length=st.names.length+1:=by simp
 have HLN:=a_ hlen;clear hlen;generalize qF:(st.run .attr)=nm at*
 clear qF;have hqm:=Xr b;go_enter func222,ntmps222;go_wp2_with(first
  |(at_lookup;refine wpList_lookup_own_unit _ rfl _ _ 104 rfl 9 313 Cf underlying104 (CP _) b st.names.length _ rfl HM.out _ _ rfl HK.out ?_;rw[HH.out])
  |(at_mapUpdate;refine dY _ rfl _ _ _ 104 rfl 9 313 Cf underlying104 (unitElem (H:=Unit)) b st.names.length _ rfl (HM.out.alloc _) (by unfold maxLen;omega) _ _ _ rfl rfl HK.out _ [] unitElem_mk ?_;intro w1 EV Hu))
 go_ret;rw[HP.out]at EV;obtain⟨r2,f2⟩:=KG.out _ _ ((Below.refl _ w).alloc (aj _) _) (by rw[HLN.out];exact EV) Hu;exact⟨rfl,p,r2,f2⟩
theorem LR(W:World)(n:Nat)(h:W.heap.size=n):(W.alloc (.map #[] 0)).ownsMap prog 9 unitElem n 0 (lQ []):=by subst h;exact World.ownsMap_made W prog 9 unitElem
theorem uJ{nm:List UInt8}{w2:World}(h:fV F R w s p st)(hm:w2.ownsMap prog 9 unitElem (w.heap.size+1) 1 (lQ [nm]))
  (hg:(((w.setCell ⟨R,12,none⟩ (.map (some (w.heap.size+1)))).alloc (.cells #[] 313)).alloc (.map #[] 0)).grownBy w2 (some (w.heap.size+1))):
  fV (Grow F w w2) R w2 s {p with names:=.map (some (w.heap.size+1))} {st with names:=[nm]}/\Frame F w w2:=by
 have hR:=h.lt R h.jP;have hz:=hg.size;simp[World.setCell]at hz;have hsz:w.heap.size<=w2.heap.size:=by omega
 have Sk:∀k,k<w.heap.size->w2.heap[k]?=(w.setCell ⟨R,12,none⟩ (.map (some (w.heap.size+1)))).heap[k]?:=fun k hl=>by rw[hg.block k (by simp[World.setCell];omega) (by simp;omega),ak _ _ _ (by simp[World.setCell];omega),ak _ _ _ (by simp[World.setCell];omega)]
 have hk:∀k,k<w.heap.size->k≠R->w2.heap[k]?=w.heap[k]?:=fun k hl hn=>(Sk k hl).trans (ae _ _ _ _ hn);have o1:=h.own.ES (w':=w2) h.lt (w.heap.size+1) [nm] (fun k hl hr _=>hk k hl hr) (by omega) (Or.inr ⟨by omega,by omega⟩) hm;refine⟨⟨?_,Or.inl h.jP,iX h.lt hsz,o1⟩,⟨hg.os,hg.tape,hg.output,hsz,fun k hl hf=>hk k hl (fun e=>hf (e▸h.jP))⟩⟩;rw[Sk R hR,fe h.blk];rfl
theorem zZ(h:fV F R w s p st)(hs:(st.run .attr).length<=70368744177680)(K5:p.names=.map none):
  Z4 222 #[Z8 R] w fun e w'=>e=.returned .nilIface/\∃p',fV (Grow F w w') R w' s p' {st with names:=[st.run .attr]}/\Frame F w w':=by
 obtain⟨ao,cap,hv⟩:=eF (h.own.run .attr);have c13:w.cell? ⟨R,13,none⟩=some (.slice ao (st.run .attr).length cap):=by rw[<-hv];exact h.cell 13 rfl
 have hcv:(convert 101 9 (.slice ao (st.run .attr).length cap)).run prog w=.ok (.string ⟨(st.run .attr).toArray⟩) w:=by rw[<-hv];exact jW (h.own.run .attr)
 have hlt:=h.lt R h.jP;have c12:w.cell? ⟨R,12,none⟩=some (.map none):=by rw[<-K5];exact h.cell 12 rfl
 have f12:=h.free 12;have hkey:keyOf prog 9 (.string ⟨(st.run .attr).toArray⟩)=some (.string (st.run .attr)):=by
  have:=dF (P:=prog) underlying9 (s:=⟨(st.run .attr).toArray⟩) (by show (st.run .attr).toArray.size<=_;unfold maxLen;simp;omega);simpa using this
 have hnil:=fun W:World=>look_nil (w:=W) true Cf underlying104 (CP W) hkey;have DS:= @run_makeMap prog;have H:=a_ h;have HK:=a_ hkey;clear h hv hkey K5;generalize qF:(st.run .attr)=nm at*
 have D6:=a_ qF;clear qF;have hqm:=Uf;go_enter func222,ntmps222;go_wp2_with(at_mapUpdate;refine dY _ rfl _ _ _ 104 rfl 9 313 Cf underlying104 (unitElem (H:=Unit)) (w.heap.size+1) 0 (lQ []) rfl (LR _ _ (by simp[World.setCell])) (by unfold maxLen;omega) _ _ _ rfl rfl HK.out _ [] unitElem_mk ?_;intro w1 EV Hu);go_ret;rw[yH]at EV;obtain⟨r2,f2⟩:=uJ H.out (nm:=nm) EV Hu;first|exact⟨rfl,_,r2,f2⟩|exact⟨rfl,⟨_,r2⟩,f2⟩
theorem EW(h:fV F R w s p st)(hs:(st.run .attr).length<=70368744177680)(hs2:st.names.length<=1099511627790):
  Z4 222 #[Z8 R] w fun e w'=>if st.names.contains (st.run .attr)=true then e=.returned (nT 5 (st.fD .attr))/\Z5 w w'
   else e=.returned .nilIface/\∃p',fV (Grow F w w') R w' s p' {st with names:=st.names++[st.run .attr]}/\Frame F w w':=by
 cases hh:st.names.contains (st.run .attr)
 ·simp only[ay,bf];by_cases hn:p.names=.map none
  ·rcases h.own.names with⟨_,hl⟩|⟨b,hp,_⟩
   ·have:=zZ h hs hn;rw[hl];exact this
   ·rw[hp]at hn;cases hn
  ·exact EU h hs hs2 hh hn
 ·simp only[if_true];exact zY h hs hh
theorem Hv(h:fV F R w s p st)(hc:tD c)(hs:(st.run .attr).length<=70368744177680)(hs2:st.names.length<=1099511627790):
  Z4 194 #[Z8 R,.int .i32 c] w (eJ F R w s (step .jL s.at_ st c)):=by
 have ha:=EW h hs hs2;show Calls _ _ _ _ (eJ F R w s (if st.names.contains (st.run .attr)=true then⟨st,.fail 5 (st.fD .attr)⟩else jX s.at_ {st with names:=st.names++[st.run .attr]} c));have hq1:∀W:World,(binOp .neq 133 (nT 5 (st.fD .attr)) .nilIface).run prog W=.ok (.bool true) W:=fun W=>by unfold nT;kernel_rfl
 have hq2:∀W:World,(binOp .neq 133 .nilIface .nilIface).run prog W=.ok (.bool false) W:=fun W=>by kernel_rfl
 have H:=a_ h;clear h hs hs2;generalize {st with names:=st.names++[st.run .attr]}=qW at*
 generalize st.names.contains (st.run .attr)=b at*
 cases b
 ·simp only[ay,bf]at ha ⊢;go_enter func194,ntmps194;go_wp2_with(first|(go_at_call 222;refine ha.mono ?_;rintro e w1 ⟨rfl,p1,r1,f1⟩));refine(EM r1 hc).mono ?_;intro e w2 hP;obtain⟨v1,v2,rfl⟩:=hP.two;go_wp2
  go_ret2
  exact hP.after f1
 ·simp only[if_true,nT]at ha hq1 ⊢;go_enter func194,ntmps194;go_wp2_with(first|(go_at_call 222;refine ha.mono ?_;rintro e w1 ⟨rfl,lI⟩))
  go_ret2
  exact eJ.iw H.out lI
end
section
variable{F:Nat->Prop}{R:Nat}{w w':World}{s:Src}{p:jl}{st:St}{c:Int}
def gU(F:Nat->Prop)(R:Nat)(w:World)(i:Rn)(k:Pl)(b1 b2 b3:Nat):Prop:=
 qh F R w b1 (.func (.func 100) #[] #[Z8 b1,Z8 b2,Z8 b3]) 100/\qh F R w b2 (.pointer (some ⟨R,i.off,none⟩)) 159/\qh F R w b3 k.val 100
theorem gU.below{i:Rn}{k:Pl}{b1 b2 b3:Nat}(h:gU F R w i k b1 b2 b3)(hlt:∀k,F k->k<w.heap.size)(hb:Z5 w w'):gU (Grow F w w') R w' i k b1 b2 b3:=
 ⟨kY h.1 hlt hb,kY h.2.1 hlt hb,kY h.2.2 hlt hb⟩
theorem gU.kept{i j:Rn}{k:Pl}{b1 b2 b3:Nat}(h:gU F R w i k b1 b2 b3)(ho:Own F R w p st)(hlt:∀k,F k->k<w.heap.size)(hK:Kept R (p.run j).ownBlock w w'):gU (Grow F w w') R w' i k b1 b2 b3:=
 ⟨mF h.1 ho (by decide) hlt hK,mF h.2.1 ho (by decide) hlt hK,mF h.2.2 ho (by decide) hlt hK⟩
theorem LS(h:fV F R w s p st)(i:Rn)(k:Pl):∃W0,W0=(((w.setCell ⟨R,18,none⟩ (.slice none 0 0)).setCell ⟨R,19,none⟩ (.int .i64 0)).alloc (.cells #[.pointer (some ⟨R,i.off,none⟩)] 159)).alloc (.cells #[.func (.func k.fn) #[] #[]] 100)/\
  fV (Grow F w W0) R W0 s (p.eI .ref (.slice none 0 0)) (st.clear .ref)/\Frame F w W0/\qh (Grow F w W0) R W0 w.heap.size (.pointer (some ⟨R,i.off,none⟩)) 159/\qh (Grow F w W0) R W0 (w.heap.size+1) k.val 100/\W0.heap.size=w.heap.size+2:=by
 have hR:=h.lt R h.jP;refine⟨_,rfl,?_⟩;have r:=h.yG .ref;have f:=Frame.yG h .ref;change fV F R ((w.setCell ⟨R,18,none⟩ (.slice none 0 0)).setCell ⟨R,19,none⟩ (.int .i64 0)) s _ _ at r;change Frame F w ((w.setCell ⟨R,18,none⟩ (.slice none 0 0)).setCell ⟨R,19,none⟩ (.int .i64 0))at f;have hsz:((w.setCell ⟨R,18,none⟩ (.slice none 0 0)).setCell ⟨R,19,none⟩ (.int .i64 0)).heap.size=w.heap.size:=by simp[World.setCell]
 generalize (w.setCell ⟨R,18,none⟩ (.slice none 0 0)).setCell ⟨R,19,none⟩ (.int .i64 0)=w2 at*
 have hb:=rP w2 (.cells #[.pointer (some ⟨R,i.off,none⟩)] 159) (.cells #[.func (.func k.fn) #[] #[]] 100);have a1:((w2.alloc (.cells #[.pointer (some ⟨R,i.off,none⟩)] 159)).alloc (.cells #[.func (.func k.fn) #[] #[]] 100)).heap[w.heap.size]?=some (.cells #[.pointer (some ⟨R,i.off,none⟩)] 159):=by
  rw[<-hsz,ak _ _ _ (by simp)];exact bD w2 _
 have a2:((w2.alloc (.cells #[.pointer (some ⟨R,i.off,none⟩)] 159)).alloc (.cells #[.func (.func k.fn) #[] #[]] 100)).heap[w.heap.size+1]?=some (.cells #[.func (.func k.fn) #[] #[]] 100):=by
  rw[<-hsz];have:=bD (w2.alloc (.cells #[.pointer (some ⟨R,i.off,none⟩)] 159)) (.cells #[.func (.func k.fn) #[] #[]] 100);simpa using this
 have az:((w2.alloc (.cells #[.pointer (some ⟨R,i.off,none⟩)] 159)).alloc (.cells #[.func (.func k.fn) #[] #[]] 100)).heap.size=w.heap.size+2:=by rw[<-hsz];simp
 generalize (w2.alloc (.cells #[.pointer (some ⟨R,i.off,none⟩)] 159)).alloc (.cells #[.func (.func k.fn) #[] #[]] 100)=w3 at*
 have hG:∀k,Grow F w2 w3 k->Grow F w w3 k:=fun k hk=>by unfold Grow at*;rw[hsz]at hk;exact hk
 refine⟨(r.below hb).mono hG (fun k hk=>(r.below hb).lt k (by unfold Grow at*;rw[hsz];exact hk)),f.same (Frame.below hb),⟨a1,Or.inr (by omega),by omega⟩,⟨a2,Or.inr (by omega),by omega⟩,az⟩
theorem Hw{W0 w2:World}{p2:jl}{qW:St}{i:Rn}{k:Pl}{b2 b3:Nat}(f0:Frame F w W0)(r2:fV (Grow (Grow F w W0) W0 w2) R w2 s p2 qW)(f2:Frame (Grow F w W0) W0 w2)(x2:qh (Grow (Grow F w W0) W0 w2) R w2 b2 (.pointer (some ⟨R,i.off,none⟩)) 159)(x3:qh (Grow (Grow F w W0) W0 w2) R w2 b3 k.val 100):
  ∃w3,w3=w2.alloc (.cells #[.func (.func 100) #[] #[.pointer (some ⟨w2.heap.size,0,none⟩),Z8 b2,Z8 b3]] 100)/\gU (Grow F w w3) R w3 i k w2.heap.size b2 b3/\(∃p',fV (Grow F w w3) R w3 s p' qW)/\Frame F w w3:=by
 refine⟨_,rfl,?_⟩;have hR:=r2.lt R r2.jP;have hb:Z5 w2 (w2.alloc (.cells #[.func (.func 100) #[] #[.pointer (some ⟨w2.heap.size,0,none⟩),Z8 b2,Z8 b3]] 100)):=(Below.refl _ w2).alloc (aj _) _;have a1:=bD w2 (.cells #[.func (.func 100) #[] #[.pointer (some ⟨w2.heap.size,0,none⟩),Z8 b2,Z8 b3]] 100);have az:(w2.alloc (.cells #[.func (.func 100) #[] #[.pointer (some ⟨w2.heap.size,0,none⟩),Z8 b2,Z8 b3]] 100)).heap.size=w2.heap.size+1:=by simp
 generalize w2.alloc (.cells #[.func (.func 100) #[] #[.pointer (some ⟨w2.heap.size,0,none⟩),Z8 b2,Z8 b3]] 100)=w3 at*
 have f01:Frame F w w2:=f0.trans f2;have hG:∀k,Grow (Grow (Grow F w W0) W0 w2) w2 w3 k->Grow F w w3 k:=fun k hk=>(Grow.trans f01.size hb.size k).1 (hk.elim (fun x=>Or.inl ((Grow.trans f0.size f2.size k).1 x)) Or.inr);have ZT:∀k,Grow F w w3 k->Grow (Grow (Grow F w W0) W0 w2) w2 w3 k:=fun k hk=>((Grow.trans f01.size hb.size k).2 hk).elim (fun x=>Or.inl ((Grow.trans f0.size f2.size k).2 x)) Or.inr;have y2:=kY x2 r2.lt hb;have y3:=kY x3 r2.lt hb;have ZD:w.heap.size<=w2.heap.size:=f01.size;refine⟨⟨⟨a1,Or.inr (by omega),by omega⟩,y2.mono hG,y3.mono hG⟩,⟨_,(r2.below hb).mono hG (fun k hk=>(r2.below hb).lt k (ZT k hk))⟩,?_⟩;exact f01.trans (Frame.below hb)
theorem sR(h:fV F R w s p st)(i:Rn)(k:Pl):
  Z4 57 #[Z8 R,.pointer (some ⟨R,i.off,none⟩),.func (.func k.fn) #[] #[]] w fun e w'=>∃b1 b2 b3,e=.returned (.func (.func 100) #[] #[Z8 b1,Z8 b2,Z8 b3])/\
   gU (Grow F w w') R w' i k b1 b2 b3/\(∃p',fV (Grow F w w') R w' s p' ((st.clear .ref).put .ref 38 s.at_))/\Frame F w w':=by
 have hlt:=h.lt R h.jP;have c18:w.cell? ⟨R,18,none⟩=some (p.run .ref):=h.cell 18 rfl;have c19:w.cell? ⟨R,19,none⟩=some (.int .i64 (st.fD .ref)):=h.cell 19 rfl;have f18:=h.free 18;have f19:=h.free 19;have hat:w.cell? ⟨R,2,none⟩=some (.int .i64 s.at_):=h.cell 2 rfl;obtain⟨W0,hW,r0,f0,x1,x2,hz⟩:=LS h i k;have hp:=lA r0 .ref 38 s.at_ (by unfold Scalar;omega) (by rw[rS];omega);have Tp:W0.cell? ⟨R,2,none⟩=some (.int .i64 s.at_):=r0.cell 2 rfl;have HW:=a_ hW;rw[hW]at hp Tp;have R0:=a_ r0;have F0:=a_ f0;have X1:=a_ x1;have X2:=a_ x2;clear h hW r0 f0 x1 x2 hz;generalize (st.clear .ref).put .ref 38 s.at_=qW at*
 have kh:∀w2 v,fV (Grow (Grow F w W0) W0 w2) R w2 s ((p.eI .ref (.slice none 0 0)).eI .ref v) qW->Frame (Grow F w W0) W0 w2->Kept R ((p.eI .ref (.slice none 0 0)).run .ref).ownBlock W0 w2->_:=fun w2 v r2 f2 k2=>
  Hw (i:=i) (k:=k) F0.out r2 f2 (mF (i:=.ref) X1.out R0.out.own (by decide) R0.out.lt k2) (mF (i:=.ref) X2.out R0.out.own (by decide) R0.out.lt k2)
 rw[HW.out]at kh;have HF:=a_ kh;clear kh R0 F0 X1 X2;have HW2:=HW.out;subst HW2;clear HW;generalize hkn:k.fn=kn at*
 clear hkn;go_enter func57,ntmps57;go_wp2_with fail;go_region_held3 (fun W=>W.cell? ⟨R,2,none⟩=some (.int .i64 s.at_))
  (first|exact Tp|exact mP)
  (first|(go_at_call 60;refine hp.mono ?_;rintro e w2 ⟨rfl,v,r2,f2,k2⟩;have mP:w2.cell? ⟨R,2,none⟩=some (.int .i64 s.at_):=r2.cell 2 rfl;have hst:=qX _ _ _ (.func (.func 100) #[] #[.pointer (some ⟨w2.heap.size,0,none⟩),.pointer (some ⟨w.heap.size,0,none⟩),.pointer (some ⟨w.heap.size+1,0,none⟩)]) rfl (EP w2 w2.heap.size rfl .nilFunc 100) (EQ w2 w2.heap.size rfl .nilFunc 100)))
 all_goals
  go_wp2;go_ret;obtain⟨w3,rfl,y1,y2,y3⟩:=HF.out w2 v r2 f2 k2;exact⟨_,_,_,rfl,y1,y2,y3⟩
end
section
variable{F:Nat->Prop}{R:Nat}{w w':World}{s:Src}{p:jl}{st:St}{c:Int}
theorem eJ.VE{w1:World}{p1:jl}{i:Rn}{k:Pl}{b1 b2 b3:Nat}{iG:St}(hN:gU (Grow F w w1) R w1 i k b1 b2 b3)(r1:fV (Grow F w w1) R w1 s p1 iG)(f1:Frame F w w1):
  eJ F R w s ⟨iG,.go (.ref i k)⟩ (.returned (.tuple #[.func (.func 100) #[] #[Z8 b1,Z8 b2,Z8 b3],.nilIface])) w1:=
 ⟨p1,r1,f1,_,rfl,b1,b2,b3,rfl,hN.1,hN.2.1,hN.2.2⟩
theorem Hx(h:fV F R w s p st)(hc:tD c)(hs:st.Small):
  Z4 28 #[Z8 R,.int .i32 c] w (eJ F R w s (step .between s.at_ st c)):=by
 have hat:w.cell? ⟨R,2,none⟩=some (.int .i64 s.at_):=h.cell 2 rfl;show Calls _ _ _ _ (eJ F R w s (if c=60 then⟨{st with gy:=s.at_},.go (.plain .less)⟩else if c=38 then⟨(st.clear .ref).put .ref 38 s.at_,.go (.ref .text .between)⟩else if c= -1 then⟨st.eK,.stop⟩else if c= -2 then⟨st,.fail 2 s.at_⟩else⟨st.put .text c s.at_,.go (.plain .between)⟩));by_cases h1:c=60
 ·rw[if_pos h1];have e1:(c==60)=true:=by simpa using h1
  have c8:w.cell? ⟨R,8,none⟩=some (.int .i64 st.gy):=h.cell 8 rfl;have f8:=h.free 8;have H:=a_ h;clear h1 h hc hs;go_enter func28,ntmps28;go_wp2
  go_ret2
  exact eJ.PO ((H.out.scalar (iG:={st with gy:=s.at_}) 8 (.int .i64 s.at_) rfl (fun o=>⟨o.run,o.jE,o.apart,o.told,o.iy,o.d_,o.fg,o.names⟩)).PP (by simp[World.setCell])) (Frame.Ho H.out.jP _ _)
 rw[if_neg h1];have e1:(c==60)=false:=by simpa using h1
 clear h1;by_cases h2:c=38
 ·rw[if_pos h2];have e2:(c==38)=true:=by simpa using h2
  have hr:Z4 57 #[Z8 R,.pointer (some ⟨R,6,none⟩),.func (.func 28) #[] #[]] w _:=sR h .text .between;clear h2 h hc hs;go_enter func28,ntmps28;go_wp2_with(go_at_call 57;refine hr.mono ?_;rintro e w1 ⟨b1,b2,b3,rfl,x,⟨p1,r1⟩,f1⟩)
  go_ret2
  exact eJ.VE x r1 f1
 rw[if_neg h2];have e2:(c==38)=false:=by simpa using h2
 clear h2;by_cases h3:c= -1
 ·rw[if_pos h3];have e3:(c== -1)=true:=by simpa using h3
  have ht:=pR h (by have:=hs.told;omega);generalize st.eK=qW at*
  clear h3 h hc hs;go_enter func28,ntmps28;go_wp2_with(go_at_call 58;refine ht.mono ?_;rintro e w1 ⟨rfl,p1,r1,f1,_,_⟩)
  go_ret2
  exact⟨p1,r1,f1,rfl⟩
 rw[if_neg h3];have e3:(c== -1)=false:=by simpa using h3
 by_cases h4:c= -2
 ·rw[if_pos h4];have e4:(c== -2)=true:=by simpa using h4
  have hw:Tk.why c=2:=by simp[Tk.why,h4]
  have H:=a_ h;have HW:=a_ hw;clear h3 h4 h hc hs hw;go_enter func28,ntmps28;go_wp2_with(go_at_call 59;refine(gR R c s.at_ _ hat).mono ?_;rintro e w1 ⟨rfl,rfl⟩)
  go_ret2
  rw[<-HW.out];exact eJ.iw H.out (Below.refl _ _)
 ·rw[if_neg h4];have e4:(c== -2)=false:=by simpa using h4
  have ox:=hc.lo;have hp:=lA h .text c s.at_ (pu hc (by omega)) (by have:=hs.run .text;omega);generalize st.put .text c s.at_=qW at*
  clear h3 h4 h hc hs ox;go_enter func28,ntmps28;go_wp2_with fail;go_region_held3 (fun W=>W.cell? ⟨R,2,none⟩=some (.int .i64 s.at_))
   (first|exact hat|exact mP)
   (first|(go_at_call 60;refine hp.mono ?_;rintro e w1 ⟨rfl,v,r1,f1,k1⟩;have mP:w1.cell? ⟨R,2,none⟩=some (.int .i64 s.at_):=r1.cell 2 rfl))
  all_goals
   go_wp2
   go_ret2
   exact eJ.PO r1 f1
theorem LU(h:fV F R w s p st)(hc:tD c)(hs:st.Small):
  Z4 246 #[Z8 R,.int .i32 c] w (eJ F R w s (step .iP s.at_ st c)):=by
 have hat:w.cell? ⟨R,2,none⟩=some (.int .i64 s.at_):=h.cell 2 rfl;have c17:w.cell? ⟨R,17,none⟩=some (.int .i32 st.quote):=h.cell 17 rfl;show Calls _ _ _ _ (eJ F R w s (if c=st.quote then⟨st.iW,.go (.plain .part)⟩else if c=38 then⟨(st.clear .ref).put .ref 38 s.at_,.go (.ref .value .iP)⟩else if c=60\/c<0 then⟨st,.fail (Tk.why c) s.at_⟩else⟨st.put .value c s.at_,.go (.plain .iP)⟩));by_cases h1:c=st.quote
 ·rw[if_pos h1];have e1:(c==st.quote)=true:=by simpa using h1
  have ha:=EL h (by have:=hs.d_;omega);generalize st.iW=qW at*
  clear h1 h hc hs;go_enter func246,ntmps246;go_wp2_with(go_at_call 255;refine ha.mono ?_;rintro e w1 ⟨rfl,p1,r1,f1⟩)
  go_ret2
  exact eJ.PO r1 f1
 rw[if_neg h1];have e1:(c==st.quote)=false:=by simpa using h1
 clear h1;by_cases h2:c=38
 ·rw[if_pos h2];have e2:(c==38)=true:=by simpa using h2
  have hr:Z4 57 #[Z8 R,.pointer (some ⟨R,15,none⟩),.func (.func 246) #[] #[]] w _:=sR h .value .iP;clear h2 h hc hs;go_enter func246,ntmps246;go_wp2_with(go_at_call 57;refine hr.mono ?_;rintro e w1 ⟨b1,b2,b3,rfl,x,⟨p1,r1⟩,f1⟩)
  go_ret2
  exact eJ.VE x r1 f1
 rw[if_neg h2];have e2:(c==38)=false:=by simpa using h2
 clear h2;by_cases h3:c=60
 ·rw[if_pos (Or.inl h3)];have e3:(c==60)=true:=by simpa using h3
  have H:=a_ h;clear h3 h hc hs;go_enter func246,ntmps246;go_wp2_with(go_at_call 59;refine(gR R c s.at_ _ hat).mono ?_;rintro e w1 ⟨rfl,rfl⟩)
  go_ret2
  exact eJ.iw H.out (Below.refl _ _)
 have e3:(c==60)=false:=by simpa using h3
 by_cases h4:c<0
 ·rw[if_pos (Or.inr h4)];have H:=a_ h;clear h3 h hc hs;go_enter func246,ntmps246;go_wp2_with(go_at_call 59;refine(gR R c s.at_ _ hat).mono ?_;rintro e w1 ⟨rfl,rfl⟩)
  go_ret2
  exact eJ.iw H.out (Below.refl _ _)
 ·rw[if_neg (by omega)];have hp:=lA h .value c s.at_ (pu hc (by omega)) (by have:=hs.run .value;omega);generalize st.put .value c s.at_=qW at*
  clear h3 h hc hs;go_enter func246,ntmps246;go_wp2_with fail;go_region_held3 (fun W=>W.cell? ⟨R,2,none⟩=some (.int .i64 s.at_))
   (first|exact hat|exact mP)
   (first|(go_at_call 60;refine hp.mono ?_;rintro e w1 ⟨rfl,v,r1,f1,k1⟩;have mP:w1.cell? ⟨R,2,none⟩=some (.int .i64 s.at_):=r1.cell 2 rfl))
  all_goals
   go_wp2
   go_ret2
   exact eJ.PO r1 f1
end
section
variable{F:Nat->Prop}{R:Nat}{w w':World}{s:Src}{p:jl}{st:St}{c:Int}
def Tk.qj(c:Int):Bool:=c==35||c==59||(decide (c<128)&&(Ch.ft c||Ch.gj c))
theorem rT{c:Int}(h:Tk.qj c=true):0<=c/\c<128:=by
 simp only[Tk.qj,bE,aV,bG,aW]at h;rcases h with(h|h)|⟨h1,h|h⟩
 ·omega
 ·omega
 ·have:=(Ch.fT c).1 h;omega
 ·have:=(Ch.jh c).1 h;omega
theorem Ug(h:fV F R w s p st)(hc:tD c)(v1 v2 v3:Value)(hb:Tk.qj c=false):
  Z4 100 #[Z8 R,.int .i32 c,v1,v2,v3] w (eJ F R w s ⟨st,.fail 4 (st.fD .ref)⟩):=by
 have c19:w.cell? ⟨R,19,none⟩=some (.int .i64 (st.fD .ref)):=h.cell 19 rfl;have hlt:=h.lt R h.jP;have VD:=lO c hc w;simp only[Tk.qj,dB,Bool.and_eq_false_iff]at hb;obtain⟨⟨e35,e59⟩,e3⟩:=hb;have ZU:(c !=35)=true:=by simp[bne,e35]
 have abk:(c !=59)=true:=by simp[bne,e59]
 have H:=a_ h;clear h hc;by_cases aci:128<=c
 ·clear e3;go_enter func100,ntmps100;go_wp2_with fail;go_region_held3 (fun W=>W.cell? ⟨R,19,none⟩=some (.int .i64 (st.fD .ref)))
   (first|exact c19)
   (fail)
  all_goals
   go_wp2
   go_ret2
   exact eJ.iw H.out (Below.refl _ w).drew
 ·have hg:(Ch.ft c||Ch.gj c)=false:=by
   rcases e3 with e|e
   ·simp only[cX]at e;omega
   ·rw[dB];exact e
  rw[hg]at VD;clear e3 hg;go_enter func100,ntmps100;go_wp2_with(go_at_call 101;refine VD.mono ?_;rintro e w1 ⟨rfl,lI⟩);have Xs:=(lI.cell hlt).trans c19;go_region_held3 (fun W=>W.cell? ⟨R,19,none⟩=some (.int .i64 (st.fD .ref)))
   (first|exact Xs)
   (fail)
  all_goals
   go_wp2
   go_ret2
   exact eJ.iw H.out lI.drew
theorem yI{w1 w2:World}{i:Rn}{k:Pl}{b1 b2 b3:Nat}{p2:jl}{iG:St}(hb:Z5 w w1)(r2:fV (Grow (Grow F w w1) w1 w2) R w2 s p2 iG)(f2:Frame (Grow F w w1) w1 w2)(hn:gU (Grow (Grow F w w1) w1 w2) R w2 i k b1 b2 b3):
  eJ F R w s ⟨iG,.go (.ref i k)⟩ (.returned (.tuple #[.func (.func 100) #[] #[Z8 b1,Z8 b2,Z8 b3],.nilIface])) w2:=by
 have f1:Frame F w w1:=Frame.below hb;refine⟨_,r2.join f1.size f2.size,f1.trans f2,_,rfl,?_⟩;exact gG.mono (F:=Grow (Grow F w w1) w1 w2) (pt:=.ref i k) ⟨b1,b2,b3,rfl,hn.1,hn.2.1,hn.2.2⟩ (fun k hk=>(Grow.trans f1.size f2.size k).1 hk)
theorem J1(h:fV F R w s p st)(hc:Scalar c)(i:Rn)(k:Pl)(b1 b2 b3:Nat)(hN:gU F R w i k b1 b2 b3)(hs:(st.run .ref).length<=70368744177680)(w1:World)(hb:Z5 w w1):
  Z4 60 #[.pointer (some ⟨R,18,none⟩),.int .i32 c,.int .i64 s.at_] w1.drew fun e w2=>e=.returned (.tuple #[])/\∃v,fV (Grow (Grow F w w1) w1 w2) R w2 s (p.eI .ref v) (st.put .ref c s.at_)/\Frame (Grow F w w1) w1 w2/\gU (Grow (Grow F w w1) w1 w2) R w2 i k b1 b2 b3:=by
 have hp:Z4 60 #[.pointer (some ⟨R,18,none⟩),.int .i32 c,.int .i64 s.at_] w1.drew _:=lA (h.below hb) .ref c s.at_ hc (by omega);refine hp.mono ?_;rintro e w2 ⟨rfl,v,r,f,kk⟩;exact⟨rfl,v,r,f,(hN.below h.lt hb).kept (h.below hb).own (h.below hb).lt kk⟩
theorem PS(h:fV F R w s p st)(hc:tD c)(i:Rn)(k:Pl)(b1 b2 b3:Nat)(hN:gU F R w i k b1 b2 b3)(hs:(st.run .ref).length<=70368744177680)(hb:Tk.qj c=true)(nQ:c≠59):
  Z4 100 #[Z8 R,.int .i32 c,Z8 b1,Z8 b2,Z8 b3] w (eJ F R w s ⟨st.put .ref c s.at_,.go (.ref i k)⟩):=by
 have hat:w.cell? ⟨R,2,none⟩=some (.int .i64 s.at_):=h.cell 2 rfl;have hlt:=h.lt R h.jP;have VD:=lO c hc w;have hp:=J1 h (pu hc (rT hb).1) i k b1 b2 b3 hN hs;have abk:(c !=59)=true:=by simpa using nQ
 have hb0:=rT hb;simp only[Tk.qj,bE,aV,bG,aW]at hb;have HP:=a_ hp;clear h hc hN hs hp;generalize st.put .ref c s.at_=qW at*
 by_cases ZV:c=35
 ·have ZU:(c !=35)=false:=by simpa using ZV
  have hp0:=HP.out w (Below.refl _ _);clear hb ZV nQ HP;go_enter func100,ntmps100;go_wp2_with fail;go_region_held3 (fun W=>W.cell? ⟨R,2,none⟩=some (.int .i64 s.at_))
   (first|exact hat|exact mP)
   (first|(go_at_call 60;refine hp0.mono ?_;rintro e w2 ⟨rfl,v,r2,f2,n2⟩;have mP:w2.cell? ⟨R,2,none⟩=some (.int .i64 s.at_):=r2.cell 2 rfl;have k1:=jw n2.1;have N2:=a_ n2;clear n2))
  all_goals
   go_wp2
   go_ret2
   exact yI (Below.refl _ _) r2 f2 N2.out
 ·have ZU:(c !=35)=true:=by simpa using ZV
  have hg:(Ch.ft c||Ch.gj c)=true:=by
   rcases hb with(h|h)|h
   ·exact absurd h ZV
   ·exact absurd h nQ
   ·rw[bE];exact h.2
  rw[hg]at VD;clear hb ZV nQ hg;go_enter func100,ntmps100;go_wp2_with(go_at_call 101;refine VD.mono ?_;rintro e w1 ⟨rfl,lI⟩);have abl:=(lI.cell hlt).trans hat;have Zs:=HP.out w1 lI;go_region_held3 (fun W=>W.cell? ⟨R,2,none⟩=some (.int .i64 s.at_))
   (first|exact abl|exact mP)
   (first|(go_at_call 60;refine Zs.mono ?_;rintro e w2 ⟨rfl,v,r2,f2,n2⟩;have mP:w2.cell? ⟨R,2,none⟩=some (.int .i64 s.at_):=r2.cell 2 rfl;have k1:=jw n2.1;have N2:=a_ n2;clear n2))
  all_goals
   go_wp2
   go_ret2
   exact yI lI r2 f2 N2.out
end
section
variable{F:Nat->Prop}{R:Nat}{w w':World}{s:Src}{p:jl}{st:St}{c:Int}
theorem z6(t:ByteArray)(i:Nat)(h:i<t.size):Scalar ((Utf8.decode t i).1:Int):=by
 have h0:0<=Ch.bz t i:=by unfold Ch.bz;rw[if_pos h];omega
 have bad:Utf8.decode t i=(65533,1)->Scalar ((Utf8.decode t i).1:Int):=fun e=>by rw[e];unfold Scalar;simp
 by_cases a1:Ch.bz t i<128
 ·rw[Ch.gM h0 a1];unfold Scalar;simp only;omega
 by_cases a2:Ch.bz t i<192
 ·exact bad (Ch.fN (Or.inl ⟨by omega,a2⟩))
 by_cases a3:Ch.bz t i<224
 ·by_cases c1:Ch.cont t (i+1)
  ·have hd:=Ch.iN (by omega) a3 c1;split at hd
   ·rw[hd];unfold Ch.cont at c1;rename_i hz;simp only[Ch.acc,ax]at hz ⊢;unfold Scalar;omega
   ·exact bad hd
  ·exact bad (Ch.ie (by omega) a3 c1)
 by_cases a4:Ch.bz t i<240
 ·by_cases c1:Ch.cont t (i+1)/\Ch.cont t (i+2)
  ·have hd:=Ch.gJ (by omega) a4 c1.1 c1.2;split at hd
   ·rename_i hz;rw[hd];have:=(Ch.lN _).1 hz.2;unfold Scalar;simp only;omega
   ·exact bad hd
  ·exact bad (Ch.fE (by omega) a4 (by
    by_cases x:Ch.cont t (i+1)
    ·exact Or.inr fun y=>c1 ⟨x,y⟩
    ·exact Or.inl x))
 by_cases a5:Ch.bz t i<248
 ·by_cases c1:Ch.cont t (i+1)/\Ch.cont t (i+2)/\Ch.cont t (i+3)
  ·have hd:=Ch.il (by omega) a5 c1.1 c1.2.1 c1.2.2;split at hd
   ·rename_i hz;rw[hd];have:=(Ch.lN _).1 hz.2;unfold Scalar;simp only;omega
   ·exact bad hd
  ·exact bad (Ch.fq (by omega) a5 (by
    by_cases x:Ch.cont t (i+1)
    ·by_cases y:Ch.cont t (i+2)
     ·exact Or.inr (Or.inr fun z=>c1 ⟨x,y,z⟩)
     ·exact Or.inr (Or.inl y)
    ·exact Or.inl x))
 ·exact bad (Ch.fN (Or.inr (by omega)))
def gv(i:Rn)(t:ByteArray)(q:Int):Nat->Nat->St->St
 |0,_,st=>st
 |f+1,pos,st=>if pos<t.size then gv i t q f (pos+(Utf8.decode t pos).2) (st.put i ((Utf8.decode t pos).1:Int) q)else st
def St.oW(st:St)(i:Rn)(t:ByteArray)(q:Int):St:=gv i t q (t.size+1) 0 st
structure RL(F:Nat->Prop)(R:Nat)(w:World)(s:Src)(i:Rn)(k:Pl)(b1 b2 b3:Nat)(t:ByteArray)(it:Nat)(q:Int)(VF:St)(n0:Nat)(wr:World)(pos:Nat):Prop where
 ex:∃(Fr:Nat->Prop) (p':jl) (iG:St) (fuel:Nat),t.size<pos+fuel/\gv i t q fuel pos iG=VF.oW i t q/\¬Fr it/\fV Fr R wr s p' iG/\gU Fr R wr i k b1 b2 b3/\(∀k,Fr k->Grow F w wr k)/\Frame F w wr/\iG.fD .ref=q/\(iG.run i).length<=n0+4*pos
 le:pos<=t.size
 hit:wr.heap[it]?=some (.stringIter t pos)
 hw:w.heap.size<=it
variable{i:Rn}{k:Pl}{b1 b2 b3:Nat}{t:ByteArray}{it:Nat}{q:Int}{VF:St}{n0:Nat}{wr:World}{pos:Nat}
theorem fV.iterAt{Fr:Nat->Prop}(h:fV Fr R wr s p st)(hn:¬Fr it)(pos':Nat):fV Fr R (wr.iterAt it t pos') s p st:=by
 have hk:∀k,Fr k->(wr.iterAt it t pos').heap[k]?=wr.heap[k]?:=fun k hf=>Lib.iterAt_other wr it k t pos' (fun e=>hn (e▸hf));exact⟨(hk R h.jP).trans h.blk,h.jP,fun k hf=>by rw[Lib.iterAt_size];exact h.lt k hf,h.own.frame (fun k hf _=>hk k hf) (fun _ x=>x)⟩
theorem qh.iterAt{Fr:Nat->Prop}{b:Nat}{x:Value}{ty:TypeId}(h:qh Fr R wr b x ty)(hn:¬Fr it)(pos':Nat):qh Fr R (wr.iterAt it t pos') b x ty:=
 ⟨(Lib.iterAt_other wr it b t pos' (fun e=>hn (e▸h.2.1))).trans h.1,h.2⟩
theorem gU.iterAt{Fr:Nat->Prop}(h:gU Fr R wr i k b1 b2 b3)(hn:¬Fr it)(pos':Nat):gU Fr R (wr.iterAt it t pos') i k b1 b2 b3:=
 ⟨h.1.iterAt hn pos',h.2.1.iterAt hn pos',h.2.2.iterAt hn pos'⟩
theorem yJ(st:St)(i:Rn)(c q:Int)(hi:i≠ .ref):(st.put i c q).fD .ref=st.fD .ref:=by simp[St.put,St.eI,Ne.symm hi]
theorem RL.step(h:RL F R w s i k b1 b2 b3 t it q VF n0 wr pos)(hi:i≠ .ref)(hp:pos<t.size)(zP:n0+4*t.size<=70368744177680):
  (wr.iterAt it t (pos+(Utf8.decode t pos).2)).cell? ⟨b2,0,none⟩=some (.pointer (some ⟨R,i.off,none⟩))/\(wr.iterAt it t (pos+(Utf8.decode t pos).2)).cell? ⟨R,19,none⟩=some (.int .i64 q)/\
  Z4 60 #[.pointer (some ⟨R,i.off,none⟩),.int .i32 ((Utf8.decode t pos).1:Int),.int .i64 q] (wr.iterAt it t (pos+(Utf8.decode t pos).2)).drew fun e w5=>e=.returned (.tuple #[])/\RL F R w s i k b1 b2 b3 t it q VF n0 w5 (pos+(Utf8.decode t pos).2)/\w5.cell? ⟨b2,0,none⟩=some (.pointer (some ⟨R,i.off,none⟩))/\w5.cell? ⟨R,19,none⟩=some (.int .i64 q):=by
 obtain⟨⟨Fr,p',iG,fuel,hf,he,hnF,r,bx,hG,fr,hq,hl⟩,hle,hit,hw⟩:=h;have hwd:=Ch.fo t pos hp;have r1:=r.iterAt (t:=t) hnF (pos+(Utf8.decode t pos).2);have bx1:=bx.iterAt (t:=t) hnF (pos+(Utf8.decode t pos).2);have Hy:=Lib.iterAt_heap wr it t pos (pos+(Utf8.decode t pos).2) hit;have hsz:=Lib.iterAt_size wr it t (pos+(Utf8.decode t pos).2);have k8:Frame F w (wr.iterAt it t (pos+(Utf8.decode t pos).2)):=⟨fr.os,fr.tape,fr.output,by rw[hsz];exact fr.size,fun k hk hF=>(Lib.iterAt_other wr it k t _ (by omega)).trans (fr.block k hk hF)⟩
 have hsc:=z6 t pos hp;have acj:=qQ ((Utf8.decode t pos).1:Int);obtain⟨f,rfl⟩:∃f,fuel=f+1:=⟨fuel-1,by omega⟩
 have ZW:gv i t q f (pos+(Utf8.decode t pos).2) (iG.put i ((Utf8.decode t pos).1:Int) q)=VF.oW i t q:=by rw[<-he];simp only[gv,hp,if_true]
 generalize (wr.iterAt it t (pos+(Utf8.decode t pos).2))=w4 at*
 generalize hrn:((Utf8.decode t pos).1:Int)=rn at*
 generalize (Utf8.decode t pos).2=wd at*
 have c19:w4.cell? ⟨R,19,none⟩=some (.int .i64 q):=by rw[<-hq];exact r1.cell 19 rfl
 refine⟨jw bx1.2.1,c19,?_⟩;refine(lA r1 i rn q hsc (by omega)).mono ?_;rintro e w5 ⟨rfl,v,r5,f5,k5⟩;have abm:w5.heap[it]?=some (.stringIter t (pos+wd)):=by
  have hlt:it<w4.heap.size:=(Array.getElem?_eq_some_iff.1 Hy).1;have hR:it≠R:=fun e=>by rw[e]at Hy;rw[r1.blk]at Hy;cases Hy
  rw[k5.block it hlt hR ?_]
  ·exact Hy
  ·intro e;obtain⟨cur,hc⟩:=fW (r1.own.run i) e.symm;rw[Hy]at hc;cases hc
 have bx5:=bx1.kept r1.own r1.lt k5;refine⟨rfl,⟨⟨Grow Fr w4 w5,_,_,f,by omega,ZW,?_,r5,bx5,?_,?_,?_,?_⟩,by omega,abm,hw⟩,jw bx5.2.1,?_⟩
 ·intro hx;rcases hx with hx|hx
  ·exact hnF hx
  ·have hlt:it<w4.heap.size:=(Array.getElem?_eq_some_iff.1 Hy).1;omega
 ·intro j hj;rcases hj with hj|hj
  ·rcases hG j hj with hx|hx
   ·exact Or.inl hx
   ·exact Or.inr ⟨hx.1,by have:=f5.size;omega⟩
  ·exact Or.inr ⟨by have:=k8.size;omega,hj.2⟩
 ·exact⟨f5.os.trans k8.os,f5.tape.trans k8.tape,f5.output.trans k8.output,aw k8.size f5.size,fun j hj hF=>(f5.block j (ah hj k8.size) (fun x=>(hG j x).elim hF (fun y=>by omega))).trans (k8.block j hj hF)⟩
 ·rw[yJ _ _ _ _ hi];exact hq
 ·have:=iY iG i i rn q;omega
 ·have hq5:(iG.put i rn q).fD .ref=q:=by rw[yJ _ _ _ _ hi];exact hq
  have:=r5.cell 19 rfl;rw[<-hq5];exact this
theorem RL.last(h:RL F R w s i k b1 b2 b3 t it q VF n0 wr pos)(hp:¬pos<t.size)(hlt:∀k,F k->k<w.heap.size):
  wr.cell? ⟨b3,0,none⟩=some k.val/\eJ F R w s ⟨VF.oW i t q,.go (.plain k)⟩ (.returned (.tuple #[k.val,.nilIface])) wr:=by
 obtain⟨⟨Fr,p',iG,fuel,hf,he,hnF,r,bx,hG,fr,hq,hl⟩,hle,hit,hw⟩:=h;refine⟨jw bx.2.2,?_⟩;obtain⟨f,rfl⟩:∃f,fuel=f+1:=⟨fuel-1,by omega⟩
 have ZW:iG=VF.oW i t q:=by rw[<-he];simp only[gv,hp,bf]
 rw[<-ZW];exact eJ.PO (r.mono hG (iX hlt fr.size)) fr
theorem AQ(t:ByteArray):∀f pos acc,(Ch.gm t f pos acc).1.length<=acc.length+4*f:=by
 intro f;induction f with
 |zero=>intro pos acc;simp[Ch.gm]
 |succ f ih=>
  intro pos acc;unfold Ch.gm;have h1:=ih (pos+(Ch.eU t pos).2.toNat) (acc++Lib.encodeRune (Ch.eU t pos).1);have h2:=ih (pos+(Utf8.decode t pos).2) (acc++Lib.encodeRune (Utf8.decode t pos).1);have h3:=qQ (Ch.eU t pos).1;have h4:=qQ ((Utf8.decode t pos).1:Int);simp only[af]at h1 h2
  repeat' split
  all_goals first|(simp only[aF];omega)|omega
end
section
variable{F:Nat->Prop}{R:Nat}{w w':World}{s:Src}{p:jl}{st:St}{c:Int}
def jQ(i:Rn)(k:Pl)(fI:St):Out:=
 if(Ch.kx ⟨(fI.run .ref).toArray⟩).2.1=0 then⟨fI.oW i ⟨(Ch.kx ⟨(fI.run .ref).toArray⟩).1.toArray⟩ (fI.fD .ref),.go (.plain k)⟩else⟨fI,.fail 4 (fI.fD .ref)⟩
def oB(i:Rn)(k:Pl)(q:Int)(st:St)(c:Int):Out:=
 if Tk.qj c=true then(if c=59 then jQ i k (st.put .ref 59 q)else⟨st.put .ref c q,.go (.ref i k)⟩)else⟨st,.fail 4 (st.fD .ref)⟩
theorem AR(hT:DG w)(hf:Frame F w w')(h2:¬F 3):DG w':=by
 obtain⟨t,fr,hg⟩:=hT;exact⟨t,fr,by rw[hf.block 3 (Array.getElem?_eq_some_iff.1 hg).1 h2];exact hg⟩
theorem RL.start{w2 w3:World}{p2:jl}{fI:St}{i:Rn}{k:Pl}{b1 b2 b3:Nat}(t:ByteArray)(r2:fV (Grow F w w2) R w2 s p2 fI)(f2:Frame F w w2)(hN:gU (Grow F w w2) R w2 i k b1 b2 b3)(hb:Z5 w2 w3):
  RL F R w s i k b1 b2 b3 t w3.heap.size (fI.fD .ref) fI (fI.run i).length (w3.iter t 0) 0:=by
 have hb4:Z5 w2 (w3.iter t 0):=hb.alloc hb.size _;have hlt:=r2.lt;refine⟨⟨Grow F w w2,p2,fI,t.size+1,by omega,rfl,?_,?_,?_,?_,?_,rfl,by omega⟩,by omega,World.iter_heap w3 t 0,aw f2.size hb.size⟩
 ·intro hx;have:=hlt _ hx;have:=hb.size;omega
 ·exact⟨(hb4.block R (hlt R r2.jP)).trans r2.blk,r2.jP,fun j hj=>ah (hlt j hj) hb4.size,r2.own.frame (fun j hj _=>hb4.block j (hlt j hj)) (fun _ x=>x)⟩
 ·exact⟨⟨(hb4.block b1 (hlt b1 hN.1.2.1)).trans hN.1.1,hN.1.2⟩,⟨(hb4.block b2 (hlt b2 hN.2.1.2.1)).trans hN.2.1.1,hN.2.1.2⟩,⟨(hb4.block b3 (hlt b3 hN.2.2.2.1)).trans hN.2.2.1,hN.2.2.2⟩⟩
 ·intro j hj;rcases hj with hj|hj
  ·exact Or.inl hj
  ·exact Or.inr ⟨hj.1,by have:=hb4.size;omega⟩
 ·exact⟨hb4.os.trans f2.os,hb4.tape.trans f2.tape,hb4.output.trans f2.output,aw f2.size hb4.size,fun j hj hF=>(hb4.block j (ah hj f2.size)).trans (f2.block j hj hF)⟩
theorem PT(h:fV F R w s p st)(i:Rn)(k:Pl)(b1 b2 b3:Nat)(hi:i≠ .ref)(hN:gU F R w i k b1 b2 b3)(hs:(st.run i).length+16*(st.run .ref).length+120<=70368744177664)(hT:DG w)(h2:¬F 3):
  Z4 100 #[Z8 R,.int .i32 59,Z8 b1,Z8 b2,Z8 b3] w (eJ F R w s (jQ i k (st.put .ref 59 s.at_))):=by
 have hat:w.cell? ⟨R,2,none⟩=some (.int .i64 s.at_):=h.cell 2 rfl;have hp:=J1 h (c:=59) (by unfold Scalar;omega) i k b1 b2 b3 hN (by omega) w (Below.refl _ _);have Gh:=iY st .ref .ref 59 s.at_;have hl2:=iY st .ref i 59 s.at_;have HT:=a_ hT;have H2:=a_ h2;have HLT:=a_ h.lt;clear h hN hT h2;generalize st.put .ref 59 s.at_=fI at*
 have xf:jQ i k fI=if(Ch.kx ⟨(fI.run .ref).toArray⟩).2.1=0 then⟨fI.oW i ⟨(Ch.kx ⟨(fI.run .ref).toArray⟩).1.toArray⟩ (fI.fD .ref),.go (.plain k)⟩else⟨fI,.fail 4 (fI.fD .ref)⟩:=rfl;generalize jQ i k fI=so at*
 have NK:=a_ xf;clear xf;go_enter func100,ntmps100;go_wp2_with fail;go_region_held3 (fun W=>W.cell? ⟨R,2,none⟩=some (.int .i64 s.at_))
  (first|exact hat|exact mP)
  (first|(go_at_call 60;refine hp.mono ?_;rintro e w2 ⟨rfl,v,r2,f2,n2⟩;have mP:w2.cell? ⟨R,2,none⟩=some (.int .i64 s.at_):=r2.cell 2 rfl;have N2:=a_ n2;clear n2))
 clear hp;have Sj:Frame F w w2:=(Frame.refl F w).trans f2;have Uh:fV (Grow F w w2) R w2 s _ fI:=r2.join (aj _) f2.size;have n2':gU (Grow F w w2) R w2 i k b1 b2 b3:=⟨N2.out.1.mono fun j hj=>(Grow.trans (aj _) f2.size j).1 hj,N2.out.2.1.mono fun j hj=>(Grow.trans (aj _) f2.size j).1 hj,N2.out.2.2.mono fun j hj=>(Grow.trans (aj _) f2.size j).1 hj⟩
 have zK:=Uh.lt R Uh.jP;obtain⟨ao,cap,hv⟩:=eF (Uh.own.run .ref);have c18:w2.cell? ⟨R,18,none⟩=some (.slice ao (fI.run .ref).length cap):=by rw[<-hv];exact Uh.cell 18 rfl
 have c19:w2.cell? ⟨R,19,none⟩=some (.int .i64 (fI.fD .ref)):=Uh.cell 19 rfl;have hcv:(convert 101 9 (.slice ao (fI.run .ref).length cap)).run prog w2=.ok (.string ⟨(fI.run .ref).toArray⟩) w2:=by rw[<-hv];exact jW (Uh.own.run .ref)
 have hsz:(⟨(fI.run .ref).toArray⟩:ByteArray).size=(fI.run .ref).length:=by show (fI.run .ref).toArray.size=_;simp
 have LV:=Cv ⟨(fI.run .ref).toArray⟩ w2 (by rw[hsz];omega) (AR HT.out Sj H2.out);have Sq:=AQ ⟨(fI.run .ref).toArray⟩ (((⟨(fI.run .ref).toArray⟩:ByteArray).size)+1) 0 [];have Ui:(Ch.kx ⟨(fI.run .ref).toArray⟩).1.length<=4*((fI.run .ref).length+1):=by unfold Ch.kx;rw[hsz]at Sq ⊢;simpa using Sq
 clear Sq;have hst:=fun t w3 hb=>RL.start (k:=k) (w3:=w3) (i:=i) t Uh Sj n2' hb;have R2:=a_ Uh;have F2:=a_ Sj;have HST:=a_ hst;have HU:=a_ Ui;clear r2 f2 N2 Uh Sj n2' hst hv Ui mP;generalize hX:Ch.kx ⟨(fI.run .ref).toArray⟩=X at*
 clear hX;obtain⟨X1,X2,X3⟩:=X;by_cases hz:X2=0
 ·have xf:so=⟨fI.oW i ⟨X1.toArray⟩ (fI.fD .ref),.go (.plain k)⟩:=by rw[NK.out,if_pos hz]
  subst hz;obtain⟨t,ht⟩:∃t:ByteArray,t=⟨X1.toArray⟩:=⟨_,rfl⟩
  have htz:t.size<=4*((fI.run .ref).length+1):=by rw[ht];show X1.toArray.size<=_;simpa using HU.out
  rw[<-ht]at LV xf;subst xf;have zP:(fI.run i).length+4*t.size<=70368744177680:=by omega
  have HN0:=a_ zP;clear NK HU ht htz zP Gh hl2 hs hsz;have vw:k.val=.func (.func k.fn) #[] #[]:=rfl;have Xo:=a_ vw;clear vw;go_wp2_with(go_at_call 102;refine LV.mono ?_;rintro e w3 ⟨rfl,NL⟩);have ZX:=HST.out t w3 NL;have HS0:=a_ ZX;clear ZX LV hcv c18 c19 HST;generalize (fI.run i).length=n0 at*
  go_loopw [] (fun wr=>∃pos,RL F R w s i k b1 b2 b3 t w3.heap.size (fI.fD .ref) fI n0 wr pos) (fun wr=>t.size-wr.iterPos w3.heap.size)
  case atStart=>exact⟨0,HS0.out⟩
  case round=>
   obtain⟨pos,VG⟩:=hrel;by_cases hp:pos<t.size
   ·have Gv:∀ty,(Instr.next (.pointer (some ⟨w3.heap.size,0,none⟩)) true ty).run prog wr=_:=fun ty=>Lib.run_next_any_at wr w3.heap.size t pos ty VG.hit hp;obtain⟨d1,d2,d3⟩:=VG.step hi hp HN0.out;have hwd:=Ch.fo t pos hp;have HRL:=a_ VG;clear VG;generalize ((Utf8.decode t pos).1:Int)=rn at*
    go_wp2_with fail;go_region_held3 (fun W=>W.cell? ⟨b2,0,none⟩=some (.pointer (some ⟨R,i.off,none⟩))/\W.cell? ⟨R,19,none⟩=some (.int .i64 (fI.fD .ref)))
     (first|exact⟨d1,d2⟩|exact⟨g1,g2⟩)
     (first|(go_at_call 60;refine d3.mono ?_;rintro e w5 ⟨rfl,hr5,g1,g2⟩))
    all_goals
     go_wp2
     go_roundw
     case rel=>exact⟨_,hr5⟩
     case measure=>
      simp only[World.iterPos,hr5.hit,HRL.out.hit];omega
   ·have Gv:∀ty,(Instr.next (.pointer (some ⟨w3.heap.size,0,none⟩)) true ty).run prog wr=_:=fun ty=>Lib.run_next_end_at wr w3.heap.size t pos ty VG.hit hp;obtain⟨d1,d2⟩:=VG.last hp HLT.out;rw[Xo.out]at d1 d2;have D2:=a_ d2;clear VG d2;go_wp2
    go_ret2
    exact D2.out
 ·have ez:(X2 !=0)=true:=by simpa using hz
  have xf:so=⟨fI,.fail 4 (fI.fD .ref)⟩:=by rw[NK.out,if_neg hz]
  subst xf;clear hz NK;go_wp2_with(go_at_call 102;refine LV.mono ?_;rintro e w3 ⟨rfl,NL⟩);have Xs:=(NL.cell zK).trans c19;go_region_held3 (fun W=>W.cell? ⟨R,19,none⟩=some (.int .i64 (fI.fD .ref)))
   (first|exact Xs)
   (fail)
  all_goals
   go_wp2
   go_ret2
   exact(eJ.iw R2.out NL.drew).after F2.out
end
section
variable{F:Nat->Prop}{R:Nat}{w w':World}{s:Src}{p:jl}{st:St}{c:Int}
structure St.PU(st:St):Prop where
 run:∀i,(st.run i).length<=70368744177664
 told:st.told.length<=1099511627776
 d_:st.d_.length<=1099511627776
 names:st.names.length<=1099511627776
theorem St.PU.small(h:st.PU):st.Small:=⟨fun i=>by have:=h.run i;omega,h.told,h.d_,h.names⟩
theorem EX(k:Pl)(h:fV F R w s p st)(hc:tD c)(hs:st.PU)(hf:s.Fits):
  Z4 k.fn #[Z8 R,.int .i32 c] w (eJ F R w s (step k s.at_ st c)):=by
 have ht:=hs.run .text;have ha:=hs.run .attr;have hn:=hs.names;cases k with
 |between=>exact Hx h hc hs.small
 |less=>exact Ue h hc
 |oV=>exact Uc h hc
 |remark=>exact AF h hc
 |CC=>exact T6 h hc
 |iK=>exact CF h hc
 |order=>exact EG h hc
 |mark=>exact TY h hc
 |iu=>exact yE h hc (by omega)
 |bracket=>exact yF h hc (by omega) hf
 |brackets=>exact EN h hc (by omega) hf
 |part=>exact ow h hc hs.small
 |fh=>exact LQ h hc hs.small
 |jL=>exact Hv h hc (by omega) (by omega)
 |qR=>exact EM h hc
 |lx=>exact LN h hc
 |iP=>exact LU h hc hs.small
 |jF=>exact um h hc hs.small
 |closing=>exact Hs h hc hs.small
def b_(pt:Part)(q:Int)(st:St)(c:Int):Out:=
 match pt with
 | .plain k=>step k q st c
 | .word [] k=>⟨st,.go (.plain k)⟩
 | .word (x::l) k=>lT x l k q st c
 | .name i k=>stName i k q st c
 | .ref i k=>oB i k q st c
def Part.Sound:Part->Prop
 | .plain _=>True
 | .word l _=>l≠[]/\l.length<=10
 | .name _ _=>True
 | .ref i _=>i≠ .ref
theorem LW(pt:Part)(v:Value)(h:fV F R w s p st)(z7:gG F R w v pt)(xf:pt.Sound)(hc:tD c)(hs:st.PU)(hx:∀i k,pt=.ref i k->(st.run i).length+16*(st.run .ref).length+120<=70368744177664)(hf:s.Fits)(hT:DG w)(h2:¬F 3):
  ∃f cs,v=.func (.func f) #[] cs/\(∀args w,(callFunc f args).run prog w=.ok (.enter f args) w)/\Z4 f (#[Z8 R,.int .i32 c]++cs) w (eJ F R w s (b_ pt s.at_ st c)):=by
 cases pt with
 |plain k=>exact⟨k.fn,#[],z7,ER k,EX k h hc hs hf⟩
 |word l k=>
  obtain⟨b1,b2,rfl,x1,x2⟩:=z7;cases l with
  |nil=>exact absurd rfl xf.1
  |cons x l=>exact⟨191,_,rfl,enters_of func191 (by kernel_rfl) rfl,Ud h b1 b2 x l k x1 x2 (by have:=xf.2;simp at this;omega)⟩
 |name i k=>
  obtain⟨b1,b2,b3,rfl,x1,x2,x3⟩:=z7;exact⟨143,_,rfl,enters_of func143 (by kernel_rfl) rfl,xr h hc i k b1 b2 b3 ⟨x1,x2,x3⟩ (by have:=hs.run i;omega) (fun _ F1 w1 p1 r=>EX k r hc hs hf)⟩
 |ref i k=>
  obtain⟨b1,b2,b3,rfl,x1,x2,x3⟩:=z7;refine⟨100,_,rfl,enters_of func100 (by kernel_rfl) rfl,?_⟩;have hr:=hs.run .ref;show Z4 100 _ w (eJ F R w s (oB i k s.at_ st c));unfold oB;cases hb:Tk.qj c
  ·simp only[ay,bf];exact Ug h hc _ _ _ hb
  ·simp only[if_true];by_cases nQ:c=59
   ·subst nQ;rw[if_pos rfl];exact PT h i k b1 b2 b3 xf ⟨x1,x2,x3⟩ (hx i k rfl) hT h2
   ·rw[if_neg nQ];exact PS h hc i k b1 b2 b3 ⟨x1,x2,x3⟩ (by omega) hb nQ
theorem yK(k:Pl)(q:Int)(st:St)(c:Int):∀pt,(step k q st c).res=.go pt->pt.Sound:=by
 intro pt;cases k<;>simp only[step,jM,fX,jX,iH,jd,fR,fS]<;>(repeat' split)<;>intro e<;>first|(cases e;done)|(cases e;simp[Part.Sound])
end
end K
end Go.Proofs.YthlcmljckpdheaaGreatDoor
