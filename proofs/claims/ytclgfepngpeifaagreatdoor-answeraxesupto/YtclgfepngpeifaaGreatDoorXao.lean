import Derived.Test.YtclgfepngpeifaaGreatDoorXA
import Derived.StringKeys
import Derived.Test.YtclgfepngpeifaaGreatDoorXam
import Derived.Test.YtclgfepngpeifaaGreatDoorXan
set_option linter.unusedVariables false
set_option linter.unusedSimpArgs false
set_option maxHeartbeats 32000000
set_option maxRecDepth 100000
namespace Go.Proofs.YtclgfepngpeifaaGreatDoor
namespace K
open Go.RowKit Go.Maps Tryz
section
variable{F:Nat->Prop}{R:Nat}{w w':World}{s:Src}{p:Ptr}{st:St}{c:Int}
theorem dU.Pt{w':World}{s:Src}{p':Ptr}{gV:St}{pl:Pl}(h:fB (Grow F w w') R w' s p' gV)(hf:Frame F w w'):dU F R w s ⟨gV,.go (.plain pl)⟩ (.returned (.tuple #[pl.val,.nilIface])) w':=
 ⟨p',h,hf,_,rfl,rfl⟩
theorem Frame.Hz(hR:F R)(i:Nat)(v:Value):Frame F w (w.setCell ⟨R,i,none⟩ v):=
 ⟨rfl,rfl,rfl,by simp[World.setCell],fun k _ hf=>ak _ _ _ _ (fun e=>hf (by rw[e];exact hR))⟩
theorem fB.scalar{s':Src}{gV:St}(h:fB F R w s p st)(i:Nat)(v:Value)(hc:(cellsOf s p st).setIfInBounds i v=cellsOf s' p gV)(ho:Own F R (w.setCell ⟨R,i,none⟩ v) p st->Own F R (w.setCell ⟨R,i,none⟩ v) p gV):fB F R (w.setCell ⟨R,i,none⟩ v) s' p gV:=
 h.Hz (fun k hk=>ak _ _ _ _ hk) (by simp[World.setCell]) (by rw[<-hc];exact eh h.blk v) ho
theorem fB.Pv(h:fB F R w' s p st)(hs:w'.heap.size=w.heap.size):fB (Grow F w w') R w' s p st:=
 h.mono (fun _ x=>Or.inl x) (fun k hk=>hk.elim (h.lt k) (fun x=>x.2))
theorem E_(h:fB F R w s p st)(VT:tG c):
  Z4 207 #[Z8 R,.int .i32 c] w (dU F R w s (jH s.at_ st c)):=by
 have hat:=h.cell 2 rfl;have hb:=rG c w;have H:=a_ h;clear h;unfold jH;generalize Tk.blank c=b at*
 cases b
 ·simp only[aA,aQ];by_cases h1:c=61
  ·subst h1;go_enter func207,ntmps207;go_wp2_with(go_at_call 148;refine hb.mono ?_;rintro e w1 ⟨rfl,rfl⟩)
   go_ret2
   exact dU.oz H.out (Below.refl _ _)
  ·have e1:(c==61)=false:=by simpa using h1
   rw[if_neg h1];clear h1;go_enter func207,ntmps207;go_wp2_with(first|(go_at_call 148;refine hb.mono ?_;rintro e w1 ⟨rfl,rfl⟩)|(go_at_call 63;refine(fX R c s.at_ _ hat).mono ?_;rintro e w1 ⟨rfl,rfl⟩))
   go_ret2
   exact dU.gI H.out (Below.refl _ _)
 ·simp only[if_true];go_enter func207,ntmps207;go_wp2_with(go_at_call 148;refine hb.mono ?_;rintro e w1 ⟨rfl,rfl⟩)
  go_ret2
  exact dU.oz H.out (Below.refl _ _)
theorem LG(h:fB F R w s p st)(VT:tG c):
  Z4 213 #[Z8 R,.int .i32 c] w (dU F R w s (step .kQ s.at_ st c)):=by
 have hat:=h.cell 2 rfl;have hq:w.cell? ⟨R,17,none⟩=some (.int .i32 st.quote):=h.cell 17 rfl;have f17:=h.free 17;have hb:=rG c w;have H:=a_ h;clear h;show Calls _ _ _ _ (dU F R w s (if Tk.blank c=true then⟨st,.go (.plain .kQ)⟩else if c=34\/c=39 then⟨{st with quote:=c},.go (.plain .ik)⟩else⟨st,.fail (Tk.why c) s.at_⟩));generalize Tk.blank c=b at*
 cases b
 ·simp only[aA,aQ];by_cases h1:c=34
  ·rw[if_pos (Or.inl h1)];have e1:(c==34)=true:=by simpa using h1
   clear h1;go_enter func213,ntmps213;go_wp2_with(go_at_call 148;refine hb.mono ?_;rintro e w1 ⟨rfl,rfl⟩)
   go_ret2
   exact dU.Pt ((H.out.scalar (gV:={st with quote:=c}) 17 (.int .i32 c) rfl (fun o=>⟨o.run,o.jg,o.apart,o.told,o.gK,o.attrs,o.ew,o.names⟩)).Pv (by simp[World.setCell])) (Frame.Hz H.out.jt _ _)
  ·have e1:(c==34)=false:=by simpa using h1
   by_cases h2:c=39
   ·rw[if_pos (Or.inr h2)];have e2:(c==39)=true:=by simpa using h2
    clear h2 h1;go_enter func213,ntmps213;go_wp2_with(go_at_call 148;refine hb.mono ?_;rintro e w1 ⟨rfl,rfl⟩)
    go_ret2
    exact dU.Pt ((H.out.scalar (gV:={st with quote:=c}) 17 (.int .i32 c) rfl (fun o=>⟨o.run,o.jg,o.apart,o.told,o.gK,o.attrs,o.ew,o.names⟩)).Pv (by simp[World.setCell])) (Frame.Hz H.out.jt _ _)
   ·rw[if_neg (by omega)];have e2:(c==39)=false:=by simpa using h2
    clear h2 h1;go_enter func213,ntmps213;go_wp2_with(first|(go_at_call 148;refine hb.mono ?_;rintro e w1 ⟨rfl,rfl⟩)|(go_at_call 63;refine(fX R c s.at_ _ hat).mono ?_;rintro e w1 ⟨rfl,rfl⟩))
    go_ret2
    exact dU.gI H.out (Below.refl _ _)
 ·simp only[if_true];go_enter func213,ntmps213;go_wp2_with(go_at_call 148;refine hb.mono ?_;rintro e w1 ⟨rfl,rfl⟩)
  go_ret2
  exact dU.oz H.out (Below.refl _ _)
theorem S9(h:fB F R w s p st)(VT:tG c):
  Z4 110 #[Z8 R,.int .i32 c] w (dU F R w s (step .nU s.at_ st c)):=by
 have hat:=h.cell 2 rfl;have H:=a_ h;clear h;by_cases h1:c=45
 ·subst h1;go_enter func110,ntmps110;go_wp2_with(go_at_call 151;refine(ml ⟨#[45]⟩ 152 _ (by decide+kernel)).mono ?_;rintro e w1 ⟨rfl,rfl⟩)
  go_ret2
  exact dU.word (l:=[45]) (pl:=.remark) H.out
 ·have e1:(c==45)=false:=by simpa using h1
  by_cases h2:c=91
  ·subst h2;go_enter func110,ntmps110;go_wp2_with(go_at_call 151;refine(ml ⟨#[67,68,65,84,65,91]⟩ 153 _ (by decide+kernel)).mono ?_;rintro e w1 ⟨rfl,rfl⟩)
   go_ret2
   exact dU.word (l:=[67,68,65,84,65,91]) (pl:=.gH) H.out
  ·have e2:(c==91)=false:=by simpa using h2
   rw[show step .nU s.at_ st c=⟨st,.fail (Tk.why c) s.at_⟩ by simp[step,h1,h2]];clear h1 h2;go_enter func110,ntmps110;go_wp2_with(go_at_call 63;refine(fX R c s.at_ _ hat).mono ?_;rintro e w1 ⟨rfl,rfl⟩)
   go_ret2
   exact dU.gI H.out (Below.refl _ _)
theorem Ic(h:fB F R w s p st)(VT:tG c)(hs:st.Small):
  Z4 108 #[Z8 R,.int .i32 c] w (dU F R w s (step .closing s.at_ st c)):=by
 have hat:=h.cell 2 rfl;have hb:=rG c w;have htc:=l6 h (by have:=hs.told;omega);have H:=a_ h;clear h hs;show Calls _ _ _ _ (dU F R w s (if Tk.blank c=true then⟨st,.go (.plain .closing)⟩else if c=62 then⟨st.fI,.go (.plain .between)⟩else⟨st,.fail (Tk.why c) s.at_⟩));generalize Tk.blank c=b at*
 generalize st.fI=qz at*
 cases b
 ·simp only[aA,aQ];by_cases h1:c=62
  ·rw[if_pos h1];have e1:(c==62)=true:=by simpa using h1
   clear h1;go_enter func108,ntmps108;go_wp2_with(first|(go_at_call 148;refine hb.mono ?_;rintro e w1 ⟨rfl,rfl⟩)|(go_at_call 149;refine htc.mono ?_;rintro e w1 ⟨rfl,p1,r1,f1⟩))
   go_ret2
   exact dU.Pt r1 f1
  ·rw[if_neg h1];have e1:(c==62)=false:=by simpa using h1
   clear h1;go_enter func108,ntmps108;go_wp2_with(first|(go_at_call 148;refine hb.mono ?_;rintro e w1 ⟨rfl,rfl⟩)|(go_at_call 63;refine(fX R c s.at_ _ hat).mono ?_;rintro e w1 ⟨rfl,rfl⟩))
   go_ret2
   exact dU.gI H.out (Below.refl _ _)
 ·simp only[if_true];go_enter func108,ntmps108;go_wp2_with(go_at_call 148;refine hb.mono ?_;rintro e w1 ⟨rfl,rfl⟩)
  go_ret2
  exact dU.oz H.out (Below.refl _ _)
theorem jA(h:fB F R w s p st)(VT:tG c)(hs:st.Small):
  Z4 111 #[Z8 R,.int .i32 c] w (dU F R w s (jo s.at_ st c)):=by
 have hat:=h.cell 2 rfl;have hb:=rG c w;have hto:=pM h (by have:=hs.told;omega);have H:=a_ h;clear h hs;unfold jo;generalize Tk.blank c=b at*
 generalize st.eD=qz at*
 cases b
 ·simp only[aA,aQ];by_cases h0:c=47
  ·rw[if_pos h0];have e0:(c==47)=true:=by simpa using h0
   clear h0;go_enter func111,ntmps111;go_wp2_with(go_at_call 148;refine hb.mono ?_;rintro e w1 ⟨rfl,rfl⟩)
   go_ret2
   exact dU.oz H.out (Below.refl _ _)
  ·rw[if_neg h0];have e0:(c==47)=false:=by simpa using h0
   clear h0;by_cases h1:c=62
   ·rw[if_pos h1];have e1:(c==62)=true:=by simpa using h1
    clear h1;go_enter func111,ntmps111;go_wp2_with(first|(go_at_call 148;refine hb.mono ?_;rintro e w1 ⟨rfl,rfl⟩)|(go_at_call 156;refine hto.mono ?_;rintro e w1 ⟨rfl,p1,r1,f1⟩))
    go_ret2
    exact dU.Pt r1 f1
   ·rw[if_neg h1];have e1:(c==62)=false:=by simpa using h1
    clear h1;go_enter func111,ntmps111;go_wp2_with(first|(go_at_call 148;refine hb.mono ?_;rintro e w1 ⟨rfl,rfl⟩)|(go_at_call 63;refine(fX R c s.at_ _ hat).mono ?_;rintro e w1 ⟨rfl,rfl⟩))
    go_ret2
    exact dU.gI H.out (Below.refl _ _)
 ·simp only[if_true];go_enter func111,ntmps111;go_wp2_with(go_at_call 148;refine hb.mono ?_;rintro e w1 ⟨rfl,rfl⟩)
  go_ret2
  exact dU.oz H.out (Below.refl _ _)
theorem C7(st:St):st.eD.told.length<=st.told.length+2:=by
 unfold St.eD St.dX;split
 ·simp
 ·simp[St.clear,St.dT]
theorem qc(h:fB F R w s p st)(VT:tG c)(hs:st.Small):
  Z4 155 #[Z8 R,.int .i32 c] w (dU F R w s (step .iy s.at_ st c)):=by
 have hat:=h.cell 2 rfl;have hto:=pM h (by have:=hs.told;omega);have hsl:st.eD.told.length<=1099511627780:=by have:=hs.told;have:=C7 st;omega
 have H:=a_ h;clear h hs;show Calls _ _ _ _ (dU F R w s (if c=62 then⟨st.eD.fI,.go (.plain .between)⟩else⟨st,.fail (Tk.why c) s.at_⟩));generalize st.eD=qz at*
 by_cases h1:c=62
 ·rw[if_pos h1];have e1:(c==62)=true:=by simpa using h1
  clear h1;have htc:∀{w1:World} {p1:Ptr},fB (Grow F w w1) R w1 s p1 qz->_:=fun{w1 p1} r=>l6 r hsl;go_enter func155,ntmps155;go_wp2_with(first|(go_at_call 156;refine hto.mono ?_;rintro e w1 ⟨rfl,p1,r1,f1⟩));refine(l6 r1 hsl).mono ?_;rintro e w2 ⟨rfl,p2,r2,f2⟩;go_wp2
  go_ret2
  exact dU.Pt (r2.join f1.size f2.size) (f1.trans f2)
 ·rw[if_neg h1];have e1:(c==62)=false:=by simpa using h1
  clear h1;go_enter func155,ntmps155;go_wp2_with(go_at_call 63;refine(fX R c s.at_ _ hat).mono ?_;rintro e w1 ⟨rfl,rfl⟩)
  go_ret2
  exact dU.gI H.out (Below.refl _ _)
end
section
variable{F:Nat->Prop}{R:Nat}{w w':World}{s:Src}{p:Ptr}{st:St}{c:Int}
theorem fB.drew(h:fB F R w s p st):fB F R w.drew s p st:=⟨h.blk,h.jt,h.lt,h.own.frame (fun _ _ _=>rfl) (fun _ x=>x)⟩
theorem kV(h:fB F R w s p st)(i:Rn)(c q:Int)(hc:h_ c)(hn:(st.run i).length<=70368744177700):
  Z4 64 #[.pointer (some ⟨R,i.off,none⟩),.int .i32 c,.int .i64 q] w.drew fun e w'=>e=.returned (.tuple #[])/\∃v,fB (Grow F w w') R w' s (p.dT i v) (st.put i c q)/\Frame F w w'/\Kept R (p.run i).ownBlock w w':=by
 refine(S0 h.drew i c q hc (by omega)).mono ?_;rintro e w1 ⟨rfl,v,r1,k1⟩;have k2:Kept R (p.run i).ownBlock w w1:=⟨k1.os,k1.tape,k1.output,k1.size,k1.block⟩
 exact⟨rfl,v,r1,h.VR k2,k2⟩
theorem iw(st:St)(i j:Rn)(c q:Int):((st.put i c q).run j).length<=(st.run j).length+4:=by
 simp only[St.put,St.dT];split
 ·rename_i e;subst e;have:=qq c;simp;omega
 ·omega
theorem yO(h:fB F R w s p st)(hc:tG c)(hs:(st.run .text).length<=70368744177690):
  Z4 153 #[Z8 R,.int .i32 c] w (dU F R w s (fw s.at_ st c)):=by
 have hat:w.cell? ⟨R,2,none⟩=some (.int .i64 s.at_):=h.cell 2 rfl;unfold fw;by_cases h1:c=93
 ·rw[if_pos h1];have e1:(c==93)=true:=by simpa using h1
  have H:=a_ h;clear h1 h hc hs;go_enter func153,ntmps153;go_wp2
  go_ret2
  exact dU.oz H.out (Below.refl _ _)
 ·rw[if_neg h1];have e1:(c==93)=false:=by simpa using h1
  by_cases h2:c<0
  ·rw[if_pos h2];have H:=a_ h;clear h1 h hc hs;go_enter func153,ntmps153;go_wp2_with(go_at_call 63;refine(fX R c s.at_ _ hat).mono ?_;rintro e w1 ⟨rfl,rfl⟩)
   go_ret2
   exact dU.gI H.out (Below.refl _ _)
  ·rw[if_neg h2];have hp:=kV h .text c s.at_ (oB hc (by omega)) (by omega);have H:=a_ h;clear h1 h hc hs;generalize st.put .text c s.at_=qz at*
   go_enter func153,ntmps153;go_wp2_with fail;go_region_held3 (fun W=>W.cell? ⟨R,2,none⟩=some (.int .i64 s.at_))
    (first|exact hat|exact mW)
    (first|(go_at_call 64;refine hp.mono ?_;rintro e w1 ⟨rfl,v,r1,f1,k1⟩;have mW:w1.cell? ⟨R,2,none⟩=some (.int .i64 s.at_):=r1.cell 2 rfl))
   all_goals
    go_wp2
    go_ret2
    exact dU.Pt r1 f1
theorem pL.mono{F':Nat->Prop}{b:Nat}{x:Value}{t:TypeId}(h:pL F R w b x t)(hF:∀k,F k->F' k):pL F' R w b x t:=⟨h.1,hF b h.2.1,h.2.2⟩
theorem fU.mono{F':Nat->Prop}{v:Value}{pt:Part}(h:fU F R w v pt)(hF:∀k,F k->F' k):fU F' R w v pt:=by
 cases pt with
 |plain p=>exact h
 |word l p=>obtain⟨b1,b2,e,h1,h2⟩:=h;exact⟨b1,b2,e,h1.mono hF,h2.mono hF⟩
 |name i p=>obtain⟨b1,b2,b3,e,h1,h2,h3⟩:=h;exact⟨b1,b2,b3,e,h1.mono hF,h2.mono hF,h3.mono hF⟩
 |ref i p=>obtain⟨b1,b2,b3,e,h1,h2,h3⟩:=h;exact⟨b1,b2,b3,e,h1.mono hF,h2.mono hF,h3.mono hF⟩
theorem dU.after{w1 w2:World}{o:Out}{e:Ending}(h:dU (Grow F w w1) R w1 s o e w2)(f1:Frame F w w1):dU F R w s o e w2:=by
 obtain⟨p',r,f,h⟩:=h;refine⟨p',r.join f1.size f.size,f1.trans f,?_⟩;cases hr:o.res with
 |go part=>rw[hr]at h;obtain⟨v,h1,h2⟩:=h;exact⟨v,h1,h2.mono fun k hk=>(Grow.trans f1.size f.size k).1 hk⟩
 |stop=>rw[hr]at h;exact h
 |fail no q=>rw[hr]at h;exact h
def Src.Fits(s:Src):Prop:=0<=s.at_/\s.at_<=1152921504606846976
theorem yP(h:fB F R w s p st)(hc:tG c)(hs:(st.run .text).length<=70368744177680)(hf:s.Fits):
  Z4 188 #[Z8 R,.int .i32 c] w (dU F R w s (fx s.at_ st c)):=by
 have hat:w.cell? ⟨R,2,none⟩=some (.int .i64 s.at_):=h.cell 2 rfl;obtain⟨Zb,Rm⟩:=hf;unfold fx;by_cases h1:c=93
 ·rw[if_pos h1];have e1:(c==93)=true:=by simpa using h1
  have H:=a_ h;clear h1 h hc hs;go_enter func188,ntmps188;go_wp2
  go_ret2
  exact dU.oz H.out (Below.refl _ _)
 ·rw[if_neg h1];have e1:(c==93)=false:=by simpa using h1
  have hp:=kV h .text 93 (s.at_-1) (by unfold h_;omega) (by omega);have hl:=iw st .text .text 93 (s.at_-1);have xr:∀(w1:World) (p1:Ptr),fB (Grow F w w1) R w1 s p1 (st.put .text 93 (s.at_-1))->Z4 153 #[Z8 R,.int .i32 c] w1 (dU (Grow F w w1) R w1 s (fw s.at_ (st.put .text 93 (s.at_-1)) c)):=fun _ _ r=>yO r hc (by omega);have NH:=a_ xr;have hwr:IntKind.i64.wrap (s.at_-1)=s.at_-1:=by rw[aM];omega
  clear h1 h hc hs hl xr;generalize st.put .text 93 (s.at_-1)=qz at*
  generalize fw s.at_ qz c=o at*
  go_enter func188,ntmps188;go_wp2_with fail;go_region_held3 (fun W=>W.cell? ⟨R,2,none⟩=some (.int .i64 s.at_))
   (first|exact hat|exact mW)
   (first|(go_at_call 64;refine hp.mono ?_;rintro e w1 ⟨rfl,v,r1,f1,k1⟩;have mW:w1.cell? ⟨R,2,none⟩=some (.int .i64 s.at_):=r1.cell 2 rfl))
  all_goals
   go_wp2_with(go_at_call 153;refine(NH.out _ _ r1).mono ?_);intro e w2 hP;obtain⟨v1,v2,rfl⟩:=hP.two;go_wp2
   go_ret2
   exact hP.after f1
theorem Fa(h:fB F R w s p st)(hc:tG c)(hs:(st.run .text).length<=70368744177670)(hf:s.Fits):
  Z4 205 #[Z8 R,.int .i32 c] w (dU F R w s (step .brackets s.at_ st c)):=by
 have hat:w.cell? ⟨R,2,none⟩=some (.int .i64 s.at_):=h.cell 2 rfl;have hf':=hf;obtain⟨Zb,Rm⟩:=hf;show Calls _ _ _ _ (dU F R w s (if c=62 then⟨st,.go (.plain .between)⟩else fx s.at_ (st.put .text 93 (s.at_-2)) c));by_cases h1:c=62
 ·rw[if_pos h1];have e1:(c==62)=true:=by simpa using h1
  have H:=a_ h;clear h1 h hc hs hf';go_enter func205,ntmps205;go_wp2
  go_ret2
  exact dU.oz H.out (Below.refl _ _)
 ·rw[if_neg h1];have e1:(c==62)=false:=by simpa using h1
  have hp:=kV h .text 93 (s.at_-2) (by unfold h_;omega) (by omega);have hl:=iw st .text .text 93 (s.at_-2);have xr:∀(w1:World) (p1:Ptr),fB (Grow F w w1) R w1 s p1 (st.put .text 93 (s.at_-2))->Z4 188 #[Z8 R,.int .i32 c] w1 (dU (Grow F w w1) R w1 s (fx s.at_ (st.put .text 93 (s.at_-2)) c)):=fun _ _ r=>yP r hc (by omega) hf';have NH:=a_ xr;have hwr:IntKind.i64.wrap (s.at_-2)=s.at_-2:=by rw[aM];omega
  clear h1 h hc hs hl xr hf';generalize st.put .text 93 (s.at_-2)=qz at*
  generalize fx s.at_ qz c=o at*
  go_enter func205,ntmps205;go_wp2_with fail;go_region_held3 (fun W=>W.cell? ⟨R,2,none⟩=some (.int .i64 s.at_))
   (first|exact hat|exact mW)
   (first|(go_at_call 64;refine hp.mono ?_;rintro e w1 ⟨rfl,v,r1,f1,k1⟩;have mW:w1.cell? ⟨R,2,none⟩=some (.int .i64 s.at_):=r1.cell 2 rfl))
  all_goals
   go_wp2_with(go_at_call 188;refine(NH.out _ _ r1).mono ?_);intro e w2 hP;obtain⟨v1,v2,rfl⟩:=hP.two;go_wp2
   go_ret2
   exact hP.after f1
end
section
variable{F:Nat->Prop}{R:Nat}{w w':World}{s:Src}{p:Ptr}{st:St}{c:Int}
def lx(x:UInt8)(l:List UInt8)(k:Pl)(q:Int)(st:St)(c:Int):Out:=
 if c=x.toNat then(if l=[]then⟨st,.go (.plain k)⟩else⟨st,.go (.word l k)⟩)else⟨st,.fail (Tk.why c) q⟩
theorem iW{b:Nat}{x:Value}{t:TypeId}(h:pL F R w b x t):w.cell? ⟨b,0,none⟩=some x:=cell_of h.1 rfl
theorem dU.V5{w0:World}{l:List UInt8}{pl:Pl}(h:fB F R w0 s p st)(hb:Z5 w0 w):dU F R w0 s ⟨st,.go (.word l pl)⟩ (.returned (.tuple #[.func (.func 186) #[] #[uH w.heap.size,uH (w.heap.size+1)],.nilIface])) ((w.alloc (.cells #[eu l] 9)).alloc (.cells #[pl.val] 100)):=by
 have hR:=h.lt R h.jt;have hs:=hb.size;have hb2:Z5 w0 ((w.alloc (.cells #[eu l] 9)).alloc (.cells #[pl.val] 100)):=(hb.alloc hs _).alloc (by simp;omega) _;refine⟨p,h.below hb2,Frame.below hb2,_,rfl,w.heap.size,w.heap.size+1,rfl,⟨?_,Or.inr ⟨by omega,by simp;omega⟩,by omega⟩,⟨?_,Or.inr ⟨by omega,by simp⟩,by omega⟩⟩
 ·rw[ay _ _ _ (by simp)];exact bf w _
 ·have:=bf (w.alloc (.cells #[eu l] 9)) (.cells #[pl.val] 100);simpa using this
theorem Fb(w:World)(o o':Obj):Z5 w ((w.drew.alloc o).alloc o'):=((Below.refl _ w).drew.alloc (au _) o).alloc (by simp) o'
theorem S_(h:fB F R w s p st)(b1 b2:Nat)(x:UInt8)(l:List UInt8)(k:Pl)(h1:pL F R w b1 (eu (x::l)) 9)(h2:pL F R w b2 k.val 100)(hl:l.length<=10):
  Z4 186 #[Z8 R,.int .i32 c,Z8 b1,Z8 b2] w (dU F R w s (lx x l k s.at_ st c)):=by
 have hat:w.cell? ⟨R,2,none⟩=some (.int .i64 s.at_):=h.cell 2 rfl;obtain⟨t,ht⟩:∃t:ByteArray,t=⟨(x::l).toArray⟩:=⟨_,rfl⟩
 have c1:w.cell? ⟨b1,0,none⟩=some (.string t):=by rw[ht];exact iW h1
 have c2:w.cell? ⟨b2,0,none⟩=some (.func (.func k.fn) #[] #[]):=iW h2;have hsz:t.size=l.length+1:=by rw[ht];show (x::l).toArray.size=_;simp
 have hs0:0<t.size:=by omega
 have hx:wrap32 ((t[0]'hs0).toNat:Int)=x.toNat:=by
  subst ht;have:(x.toNat:Int)<256:=by have:=x.toNat_lt;omega
  show wrap32 (x.toNat:Int)=x.toNat;unfold wrap32;omega
 have LH:(t.extract 1 t.size)=⟨l.toArray⟩:=by
  rw[ht];apply cN;simp[ByteArray.size]
 have H:=a_ h;clear h h1 h2 ht;unfold lx;have vC:k.val=.func (.func k.fn) #[] #[]:=rfl;have V6:=a_ vC;generalize k.fn=kn at*
 clear vC;by_cases hc:c=x.toNat
 ·rw[if_pos hc];have e1:(c !=wrap32 ((t[0]'hs0).toNat:Int))=false:=by rw[hx,hc];simp
  clear hc hx;have hs1:(1:Int)<=(t.size:Int):=by omega
  by_cases hl0:l=[]
  ·rw[if_pos hl0];have hem:(t.extract 1 t.size).toList.isEmpty=true:=by rw[LH,hl0];decide+kernel
   clear LH hl0 hl hsz;go_enter func186,ntmps186;go_wp2_with fail;go_region_held3 (fun W=>W.cell? ⟨b1,0,none⟩=some (.string t)/\W.cell? ⟨b2,0,none⟩=some (.func (.func kn) #[] #[]))
    (first|exact⟨c1,c2⟩|exact⟨dV _ (dV _ c1),dV _ (dV _ c2)⟩)
    (first|(go_at_call 151;refine(CV _ _ _ hem).mono ?_;rintro e w1 ⟨rfl,rfl⟩))
   all_goals
    go_wp2
    go_ret2
    rw[<-V6.out];exact dU.oz H.out (Fb _ _ _)
  ·rw[if_neg hl0];have hem:(t.extract 1 t.size).toList.isEmpty=false:=by
    rw[LH,cH];cases l with
    |nil=>exact absurd rfl hl0
    |cons a b=>rfl
   have HX:=a_ LH;clear LH hl0 hl hsz;go_enter func186,ntmps186;go_wp2_with fail;go_region_held3 (fun W=>W.cell? ⟨b1,0,none⟩=some (.string t)/\W.cell? ⟨b2,0,none⟩=some (.func (.func kn) #[] #[]))
    (first|exact⟨c1,c2⟩|exact⟨dV _ (dV _ c1),dV _ (dV _ c2)⟩)
    (first|(go_at_call 151;refine(ml _ _ _ hem).mono ?_;rintro e w1 ⟨rfl,rfl⟩))
   all_goals
    go_wp2
    go_ret2
    rw[<-V6.out,HX.out];exact dU.V5 H.out (Below.refl _ w).drew
 ·rw[if_neg hc];have e1:(c !=wrap32 ((t[0]'hs0).toNat:Int))=true:=by rw[hx];simpa using hc
  clear hc hx LH hl hsz;go_enter func186,ntmps186;go_wp2_with(go_at_call 63;refine(fX R c s.at_ _ hat).mono ?_;rintro e w1 ⟨rfl,rfl⟩)
  go_ret2
  exact dU.gI H.out (Below.refl _ _)
end
section
variable{F:Nat->Prop}{R:Nat}{w w':World}{s:Src}{p:Ptr}{st:St}{c:Int}
theorem Fe(W:World)(n:Nat)(h:W.heap.size=n)(v:Value)(t:TypeId):(W.alloc (.cells #[v] t)).cell? ⟨n,0,none⟩=some v:=by subst h;exact cell_of (bf W _) rfl
theorem Ff(W:World)(n:Nat)(h:W.heap.size=n)(v:Value)(t:TypeId):(W.alloc (.cells #[v] t)).frozen? ⟨n,0,none⟩=false:=by subst h;exact dY (bf W _)
theorem qE(W:World)(a:Addr)(u v:Value)(h1:v.oneCell'=true)(h:W.cell? a=some u)(hf:W.frozen? a=false):(store a v).run prog W=.ok () (W.setCell a v):=by
 rw[run_store prog W a v _ h1,h];simp[hf]
theorem Al(R o kn:Nat)(x y:Value)(w:World)(hlt:R<w.heap.size)(c0:w.cell? ⟨R,o,none⟩=some x)(c1:w.cell? ⟨R,o+1,none⟩=some y)(f0:w.frozen? ⟨R,o,none⟩=false)(f1:w.frozen? ⟨R,o+1,none⟩=false):
  Z4 107 #[.pointer (some ⟨R,o,none⟩),.func (.func kn) #[] #[]] w fun e w'=>e=.returned (.func (.func 146) #[] #[.pointer (some ⟨w.heap.size,0,none⟩),.pointer (some ⟨w.heap.size+1,0,none⟩),.pointer (some ⟨w.heap.size+1+1,0,none⟩)])/\
   w'=((((w.setCell ⟨R,o,none⟩ (.slice none 0 0)).setCell ⟨R,o+1,none⟩ (.int .i64 0)).alloc (.cells #[.pointer (some ⟨R,o,none⟩)] 154)).alloc (.cells #[.func (.func kn) #[] #[]] 100)).alloc (.cells #[.func (.func 146) #[] #[.pointer (some ⟨w.heap.size,0,none⟩),.pointer (some ⟨w.heap.size+1,0,none⟩),.pointer (some ⟨w.heap.size+1+1,0,none⟩)]] 100):=by
 have k0:=Fe ((((w.setCell ⟨R,o,none⟩ (.slice none 0 0)).setCell ⟨R,o+1,none⟩ (.int .i64 0)).alloc (.cells #[.pointer (some ⟨R,o,none⟩)] 154)).alloc (.cells #[.func (.func kn) #[] #[]] 100)) (w.heap.size+1+1) (by simp[World.setCell]) .nilFunc 100;have k1:=Ff ((((w.setCell ⟨R,o,none⟩ (.slice none 0 0)).setCell ⟨R,o+1,none⟩ (.int .i64 0)).alloc (.cells #[.pointer (some ⟨R,o,none⟩)] 154)).alloc (.cells #[.func (.func kn) #[] #[]] 100)) (w.heap.size+1+1) (by simp[World.setCell]) .nilFunc 100;have hst:=qE _ _ _ (.func (.func 146) #[] #[.pointer (some ⟨w.heap.size,0,none⟩),.pointer (some ⟨w.heap.size+1,0,none⟩),.pointer (some ⟨w.heap.size+1+1,0,none⟩)]) rfl k0 k1;clear k0 k1;go_enter func107,ntmps107;go_wp2;go_ret;exact⟨rfl,rfl⟩
theorem fB.yQ(h:fB F R w s p st)(i:Rn):fB F R ((w.setCell ⟨R,i.off,none⟩ (.slice none 0 0)).setCell ⟨R,i.off+1,none⟩ (.int .i64 0)) s (p.dT i (.slice none 0 0)) (st.clear i):=by
 have hb:=eh (i:=i.off+1) (eh (i:=i.off) h.blk (.slice none 0 0)) (.int .i64 0);have hk:∀k,k≠R->((w.setCell ⟨R,i.off,none⟩ (.slice none 0 0)).setCell ⟨R,i.off+1,none⟩ (.int .i64 0)).heap[k]?=w.heap[k]?:=fun k hk=>by rw[ak _ _ _ _ hk,ak _ _ _ _ hk]
 have hs:((w.setCell ⟨R,i.off,none⟩ (.slice none 0 0)).setCell ⟨R,i.off+1,none⟩ (.int .i64 0)).heap.size=w.heap.size:=by simp[World.setCell]
 generalize (w.setCell ⟨R,i.off,none⟩ (.slice none 0 0)).setCell ⟨R,i.off+1,none⟩ (.int .i64 0)=w2 at*
 have hlt:∀k,F k->k<w2.heap.size:=fun k hf=>by rw[hs];exact h.lt k hf
 refine⟨?_,h.jt,hlt,(h.own.frame (fun k _ hr=>hk k hr) (fun _ x=>x)).clear hlt h.jt i⟩;rw[hb];cases i<;>rfl
theorem Frame.yQ(h:fB F R w s p st)(i:Rn):Frame F w ((w.setCell ⟨R,i.off,none⟩ (.slice none 0 0)).setCell ⟨R,i.off+1,none⟩ (.int .i64 0)):=
 (Frame.Hz h.jt _ _).same (Frame.Hz h.jt _ _)
theorem tH(s:Src)(p:Ptr)(st:St)(i:Rn)(h:fB F R w s p st):w.cell? ⟨R,i.off,none⟩=some (p.run i)/\w.cell? ⟨R,i.off+1,none⟩=some (.int .i64 (st.eP i)):=
 ⟨cell_of h.blk (rH s p st i).1,cell_of h.blk (rH s p st i).2⟩
theorem size_setCell(w:World)(a:Addr)(v:Value):(w.setCell a v).heap.size=w.heap.size:=by simp[World.setCell]
theorem C8(w:World)(a b c:Obj):Z5 w (((w.alloc a).alloc b).alloc c)/\(((w.alloc a).alloc b).alloc c).heap[w.heap.size]?=some a/\(((w.alloc a).alloc b).alloc c).heap[w.heap.size+1]?=some b/\(((w.alloc a).alloc b).alloc c).heap[w.heap.size+1+1]?=some c/\(((w.alloc a).alloc b).alloc c).heap.size=w.heap.size+3:=by
 refine⟨(rI w a b).alloc (by simp;omega) c,?_,?_,?_,by simp⟩
 ·rw[ay _ _ _ (by simp;omega),ay _ _ _ (by simp)];exact bf w a
 ·rw[ay _ _ _ (by simp)];have:=bf (w.alloc a) b;simpa using this
 ·have:=bf ((w.alloc a).alloc b) c;simpa using this
theorem o6(h:fB F R w s p st)(i:Rn)(k:Pl):
  Z4 107 #[.pointer (some ⟨R,i.off,none⟩),.func (.func k.fn) #[] #[]] w fun e w'=>∃b1 b2 b3 p',e=.returned (.func (.func 146) #[] #[Z8 b1,Z8 b2,Z8 b3])/\
   pL (Grow F w w') R w' b1 (.pointer (some ⟨R,i.off,none⟩)) 154/\pL (Grow F w w') R w' b2 k.val 100/\pL (Grow F w w') R w' b3 (.func (.func 146) #[] #[Z8 b1,Z8 b2,Z8 b3]) 100/\
   fB (Grow F w w') R w' s p' (st.clear i)/\Frame F w w':=by
 have hR:=h.lt R h.jt;refine(Al R i.off k.fn _ _ w hR (tH s p st i h).1 (tH s p st i h).2 (dY h.blk) (dY h.blk)).mono ?_;rintro e w' ⟨rfl,rfl⟩;have r:=h.yQ i;have f:=Frame.yQ h i;have hsz:((w.setCell ⟨R,i.off,none⟩ (.slice none 0 0)).setCell ⟨R,i.off+1,none⟩ (.int .i64 0)).heap.size=w.heap.size:=by simp[World.setCell]
 generalize (w.setCell ⟨R,i.off,none⟩ (.slice none 0 0)).setCell ⟨R,i.off+1,none⟩ (.int .i64 0)=w2 at*
 obtain⟨hb,a1,a2,a3,az⟩:=C8 w2 (.cells #[.pointer (some ⟨R,i.off,none⟩)] 154) (.cells #[.func (.func k.fn) #[] #[]] 100) (.cells #[.func (.func 146) #[] #[.pointer (some ⟨w.heap.size,0,none⟩),.pointer (some ⟨w.heap.size+1,0,none⟩),.pointer (some ⟨w.heap.size+1+1,0,none⟩)]] 100);generalize ((w2.alloc (.cells #[.pointer (some ⟨R,i.off,none⟩)] 154)).alloc (.cells #[.func (.func k.fn) #[] #[]] 100)).alloc (.cells #[.func (.func 146) #[] #[.pointer (some ⟨w.heap.size,0,none⟩),.pointer (some ⟨w.heap.size+1,0,none⟩),.pointer (some ⟨w.heap.size+1+1,0,none⟩)]] 100)=w3 at*
 rw[hsz]at a1 a2 a3 az;have hG:∀k,Grow F w2 w3 k->Grow F w w3 k:=fun k hk=>by unfold Grow at*;rw[hsz]at hk;exact hk
 refine⟨w.heap.size,w.heap.size+1,w.heap.size+1+1,_,rfl,⟨a1,Or.inr (by omega),by omega⟩,⟨a2,Or.inr (by omega),by omega⟩,⟨a3,Or.inr (by omega),by omega⟩,(r.below hb).mono hG (fun k hk=>?_),f.same (Frame.below hb)⟩;exact(r.below hb).lt k (by unfold Grow at*;rw[hsz];exact hk)
end
section
variable{F:Nat->Prop}{R:Nat}{w w':World}{s:Src}{p:Ptr}{st:St}{c:Int}
def stName(i:Rn)(k:Pl)(q:Int)(st:St)(c:Int):Out:=
 if(st.run i).length=0 then fC i k q st c else if(Ch.eI c||Ch.fy c)=true then⟨st.put i c q,.go (.name i k)⟩else step k q st c
theorem lU{b:Nat}{x:Value}{t:TypeId}{i:Rn}(h:pL F R w b x t)(ho:Own F R w p st)(ht:t≠5)(hlt:∀k,F k->k<w.heap.size)(hK:Kept R (p.run i).ownBlock w w'):pL (Grow F w w') R w' b x t:=by
 refine⟨?_,Or.inl h.2.1,h.2.2⟩;rw[hK.block b (hlt b h.2.1) h.2.2 ?_]
 ·exact h.1
 ·intro e;obtain⟨cur,hc⟩:=fq (ho.run i) e.symm;rw[h.1]at hc;simp only[bK,cU]at hc;exact ht hc.2.1
theorem kA{b:Nat}{x:Value}{t:TypeId}(h:pL F R w b x t)(hlt:∀k,F k->k<w.heap.size)(hb:Z5 w w'):pL (Grow F w w') R w' b x t:=
 ⟨(hb.block b (hlt b h.2.1)).trans h.1,Or.inl h.2.1,h.2.2⟩
def iX(F:Nat->Prop)(R:Nat)(w:World)(i:Rn)(k:Pl)(b1 b2 b3:Nat):Prop:=
 pL F R w b1 (.pointer (some ⟨R,i.off,none⟩)) 154/\pL F R w b2 k.val 100/\pL F R w b3 (.func (.func 146) #[] #[Z8 b1,Z8 b2,Z8 b3]) 100
theorem iX.below{i:Rn}{k:Pl}{b1 b2 b3:Nat}(h:iX F R w i k b1 b2 b3)(hlt:∀k,F k->k<w.heap.size)(hb:Z5 w w'):iX (Grow F w w') R w' i k b1 b2 b3:=
 ⟨kA h.1 hlt hb,kA h.2.1 hlt hb,kA h.2.2 hlt hb⟩
theorem iX.kept{i j:Rn}{k:Pl}{b1 b2 b3:Nat}(h:iX F R w i k b1 b2 b3)(ho:Own F R w p st)(hlt:∀k,F k->k<w.heap.size)(hK:Kept R (p.run j).ownBlock w w'):iX (Grow F w w') R w' i k b1 b2 b3:=
 ⟨lU h.1 ho (by decide) hlt hK,lU h.2.1 ho (by decide) hlt hK,lU h.2.2 ho (by decide) hlt hK⟩
theorem wU{w1 w2:World}{i:Rn}{k:Pl}{b1 b2 b3:Nat}{v:Value}{gV:St}(hb:Z5 w w1)(r2:fB (Grow (Grow F w w1) w1 w2) R w2 s (p.dT i v) gV)(f2:Frame (Grow F w w1) w1 w2)(hn:iX (Grow (Grow F w w1) w1 w2) R w2 i k b1 b2 b3):
  dU F R w s ⟨gV,.go (.name i k)⟩ (.returned (.tuple #[.func (.func 146) #[] #[Z8 b1,Z8 b2,Z8 b3],.nilIface])) w2:=by
 have f1:Frame F w w1:=Frame.below hb;refine⟨_,r2.join f1.size f2.size,f1.trans f2,_,rfl,?_⟩;exact fU.mono (F:=Grow (Grow F w w1) w1 w2) (pt:=.name i k) ⟨b1,b2,b3,rfl,hn.1,hn.2.1,hn.2.2⟩ (fun k hk=>(Grow.trans f1.size f2.size k).1 hk)
theorem Fg(k:Pl):∀args w,(callFunc k.fn args).run prog w=.ok (.enter k.fn args) w:=by
 cases k with
 |between=>exact enters_of func34 (by kernel_rfl) rfl
 |less=>exact enters_of func60 (by kernel_rfl) rfl
 |nU=>exact enters_of func110 (by kernel_rfl) rfl
 |remark=>exact enters_of func152 (by kernel_rfl) rfl
 |dash=>exact enters_of func187 (by kernel_rfl) rfl
 |ie=>exact enters_of func109 (by kernel_rfl) rfl
 |order=>exact enters_of func150 (by kernel_rfl) rfl
 |mark=>exact enters_of func185 (by kernel_rfl) rfl
 |gH=>exact enters_of func153 (by kernel_rfl) rfl
 |bracket=>exact enters_of func188 (by kernel_rfl) rfl
 |brackets=>exact enters_of func205 (by kernel_rfl) rfl
 |part=>exact enters_of func111 (by kernel_rfl) rfl
 |ey=>exact enters_of func154 (by kernel_rfl) rfl
 |jn=>exact enters_of func189 (by kernel_rfl) rfl
 |qu=>exact enters_of func207 (by kernel_rfl) rfl
 |kQ=>exact enters_of func213 (by kernel_rfl) rfl
 |ik=>exact enters_of func221 (by kernel_rfl) rfl
 |iy=>exact enters_of func155 (by kernel_rfl) rfl
 |closing=>exact enters_of func108 (by kernel_rfl) rfl
theorem ug(h:fB F R w s p st)(hc:tG c)(i:Rn)(k:Pl)(b1 b2 b3:Nat)(hN:iX F R w i k b1 b2 b3)(hs:(st.run i).length<=70368744177680)
  (Zc:(st.run i).length≠0->∀(F1:Nat->Prop) (w1:World) (p1:Ptr),fB F1 R w1 s p1 st->Z4 k.fn #[Z8 R,.int .i32 c] w1 (dU F1 R w1 s (step k s.at_ st c))):
  Z4 146 #[Z8 R,.int .i32 c,Z8 b1,Z8 b2,Z8 b3] w (dU F R w s (stName i k s.at_ st c)):=by
 have hat:w.cell? ⟨R,2,none⟩=some (.int .i64 s.at_):=h.cell 2 rfl;have hR:=h.lt R h.jt;have k1:=iW hN.1;have k2:w.cell? ⟨b2,0,none⟩=some (.func (.func k.fn) #[] #[]):=iW hN.2.1;obtain⟨ao,cap,hv⟩:=dS (h.own.run i);have c0:w.cell? ⟨R,i.off,none⟩=some (.slice ao (st.run i).length cap):=by rw[<-hv];exact(tH s p st i h).1
 have Es:=mS c hc;have Ol:=ll c hc
 --what put does,behind a look at the character
 have hput:0<=c->∀w1,Z5 w w1->Z4 64 #[.pointer (some ⟨R,i.off,none⟩),.int .i32 c,.int .i64 s.at_] w1.drew fun e w2=>e=.returned (.tuple #[])/\∃v,fB (Grow (Grow F w w1) w1 w2) R w2 s (p.dT i v) (st.put i c s.at_)/\Frame (Grow F w w1) w1 w2/\iX (Grow (Grow F w w1) w1 w2) R w2 i k b1 b2 b3:=by
  intro h0 w1 hb;refine(kV (h.below hb) i c s.at_ (oB hc h0) (by omega)).mono ?_;rintro e w2 ⟨rfl,v,r,f,kk⟩;exact⟨rfl,v,r,f,(hN.below h.lt hb).kept (h.below hb).own (h.below hb).lt kk⟩
 have hbo:Ch.eI c=true->0<=c:=fun e=>by have:=(Ch.fA c).1 e;omega
 have hgo:(Ch.eI c||Ch.fy c)=true->0<=c:=fun e=>by
  rw[bm]at e;rcases e with e|e
  ·have:=(Ch.fA c).1 e;omega
  ·have:=(Ch.iG c).1 e;omega
 have hen:=Fg k;have hb1:=h.lt b1 hN.1.2.1;have hb2:=h.lt b2 hN.2.1.2.1;have HN:=a_ hN;have H:=a_ h;have HP:=a_ hput;have HBE:=a_ Zc;have HBO:=a_ hbo;have HGO:=a_ hgo;clear h hN hput Zc hbo hgo hv hs hc;unfold stName fC;generalize st.put i c s.at_=qz at*
 generalize xr:step k s.at_ st c=so at*
 clear xr;generalize Ch.eI c=bb at*
 generalize (bb||Ch.fy c)=gg at*
 generalize hn:(st.run i).length=n at*
 clear hn;by_cases D4:n=0
 ·subst D4;simp only[if_true];cases bb
  ·simp only[aA,aQ];go_enter func146,ntmps146;go_wp2_with(go_at_call 147;refine(Es _).mono ?_;rintro e w1 ⟨rfl,la⟩);refine(fX R c s.at_ _ ((la.cell hR).trans hat)).mono ?_;rintro e w2 ⟨rfl,rfl⟩;go_wp2
   go_ret2
   exact dU.gI H.out la
  ·simp only[if_true];go_enter func146,ntmps146;go_wp2_with(go_at_call 147;refine(Es _).mono ?_;rintro e w1 ⟨rfl,la⟩);have hc0:0<=c:=by first|exact HBO.out rfl|exact HBO.out trivial
   have k1':=(la.cell hb1).trans k1;have Ie:=(la.cell hR).trans hat;go_region_held3 (fun W=>W.cell? ⟨b1,0,none⟩=some (.pointer (some ⟨R,i.off,none⟩))/\W.cell? ⟨R,2,none⟩=some (.int .i64 s.at_))
    (first|exact⟨k1',Ie⟩|exact⟨V7,Pw⟩)
    (first|(go_at_call 64;refine(HP.out hc0 _ la).mono ?_;rintro e w2 ⟨rfl,v,r2,f2,n2⟩;have V7:=iW n2.1;have aaR:=iW n2.2.2;have Pw:w2.cell? ⟨R,2,none⟩=some (.int .i64 s.at_):=r2.cell 2 rfl;have N2:=a_ n2;clear n2))
   all_goals
    go_wp2
    go_ret2
    exact wU la r2 f2 N2.out
 ·have e0:((n:Int)==0)=false:=by
   have:(n:Int)≠0:=by omega
   simpa using this
  rw[if_neg D4];have aaS:=a_ (HBE.out D4);clear D4;cases gg
  ·simp only[aA,aQ];go_enter func146,ntmps146;go_wp2_with(go_at_call 113;refine(Ol _).mono ?_;rintro e w1 ⟨rfl,la⟩;have k2':=(la.cell hb2).trans k2);refine(aaS.out _ _ _ (H.out.below la)).mono ?_;intro e w2 hP;obtain⟨v1,v2,rfl⟩:=hP.two;go_wp2
   go_ret2
   exact hP.after (Frame.below la)
  ·simp only[if_true];go_enter func146,ntmps146;go_wp2_with(go_at_call 113;refine(Ol _).mono ?_;rintro e w1 ⟨rfl,la⟩);have hc0:0<=c:=by first|exact HGO.out rfl|exact HGO.out trivial
   have k1':=(la.cell hb1).trans k1;have Ie:=(la.cell hR).trans hat;go_region_held3 (fun W=>W.cell? ⟨b1,0,none⟩=some (.pointer (some ⟨R,i.off,none⟩))/\W.cell? ⟨R,2,none⟩=some (.int .i64 s.at_))
    (first|exact⟨k1',Ie⟩|exact⟨V7,Pw⟩)
    (first|(go_at_call 64;refine(HP.out hc0 _ la).mono ?_;rintro e w2 ⟨rfl,v,r2,f2,n2⟩;have V7:=iW n2.1;have aaR:=iW n2.2.2;have Pw:w2.cell? ⟨R,2,none⟩=some (.int .i64 s.at_):=r2.cell 2 rfl;have N2:=a_ n2;clear n2))
   all_goals
    go_wp2
    go_ret2
    exact wU la r2 f2 N2.out
end
section
variable{F:Nat->Prop}{R:Nat}{w w':World}{s:Src}{p:Ptr}{st:St}{c:Int}
theorem rL(st:St)(i:Rn):((st.clear i).run i).length=0:=by simp[St.clear,St.dT]
theorem C9(i:Rn)(k:Pl)(q:Int)(st:St)(c:Int):stName i k q (st.clear i) c=fC i k q (st.clear i) c:=by unfold stName;rw[if_pos (rL st i)]
theorem Bl(h:fB F R w s p st)(hc:tG c)(i:Rn)(k:Pl){b1 b2 b3:Nat}{w1:World}{p1:Ptr}
  (hN:iX (Grow F w w1) R w1 i k b1 b2 b3) (r1:fB (Grow F w w1) R w1 s p1 (st.clear i)):
  Z4 146 #[Z8 R,.int .i32 c,Z8 b1,Z8 b2,Z8 b3] w1 (dU (Grow F w w1) R w1 s (fC i k s.at_ (st.clear i) c)):=by
 rw[<-C9];exact ug r1 hc i k b1 b2 b3 hN (by rw[rL];omega) (fun hne=>absurd (rL st i) hne)
theorem dU.V8{w1:World}{p1:Ptr}{i:Rn}{k:Pl}{b1 b2 b3:Nat}{gV:St}(hN:iX (Grow F w w1) R w1 i k b1 b2 b3)(r1:fB (Grow F w w1) R w1 s p1 gV)(f1:Frame F w w1):
  dU F R w s ⟨gV,.go (.name i k)⟩ (.returned (.tuple #[.func (.func 146) #[] #[Z8 b1,Z8 b2,Z8 b3],.nilIface])) w1:=
 ⟨p1,r1,f1,_,rfl,b1,b2,b3,rfl,hN.1,hN.2.1,hN.2.2⟩
theorem Ta(h:fB F R w s p st)(hc:tG c):
  Z4 60 #[Z8 R,.int .i32 c] w (dU F R w s (step .less s.at_ st c)):=by
 have hw1:Z4 107 #[.pointer (some ⟨R,9,none⟩),.func (.func 108) #[] #[]] w _:=o6 h .name .closing;have hw2:Z4 107 #[.pointer (some ⟨R,9,none⟩),.func (.func 111) #[] #[]] w _:=o6 h .name .part;have H:=a_ h;have HC:=a_ hc;clear h hc;show Calls _ _ _ _ (dU F R w s (if c=47 then⟨st.clear .name,.go (.name .name .closing)⟩else if c=63 then⟨st,.go (.plain .ie)⟩else if c=33 then⟨st,.go (.plain .nU)⟩else fC .name .part s.at_ (st.clear .name) c));by_cases h1:c=47
 ·rw[if_pos h1];have e1:(c==47)=true:=by simpa using h1
  clear h1 hw2;go_enter func60,ntmps60;go_wp2_with(go_at_call 107;refine hw1.mono ?_;rintro e w1 ⟨b1,b2,b3,p1,rfl,x1,x2,x3,r1,f1⟩)
  go_ret2
  exact dU.V8 ⟨x1,x2,x3⟩ r1 f1
 ·rw[if_neg h1];have e1:(c==47)=false:=by simpa using h1
  clear h1 hw1;by_cases h2:c=63
  ·rw[if_pos h2];have e2:(c==63)=true:=by simpa using h2
   clear h2;go_enter func60,ntmps60;go_wp2
   go_ret2
   exact dU.oz H.out (Below.refl _ _)
  ·rw[if_neg h2];have e2:(c==63)=false:=by simpa using h2
   clear h2;by_cases h3:c=33
   ·rw[if_pos h3];have e3:(c==33)=true:=by simpa using h3
    clear h3;go_enter func60,ntmps60;go_wp2
    go_ret2
    exact dU.oz H.out (Below.refl _ _)
   ·rw[if_neg h3];have e3:(c==33)=false:=by simpa using h3
    clear h3;generalize xr:fC .name .part s.at_ (st.clear .name) c=so at*
    have NH:=a_ xr;clear xr;go_enter func60,ntmps60;go_wp2_with(first|(go_at_call 107;refine hw2.mono ?_;rintro e w1 ⟨b1,b2,b3,p1,rfl,x1,x2,x3,r1,f1⟩));have eR:=Bl H.out HC.out .name .part ⟨x1,x2,x3⟩ r1;rw[NH.out]at eR;refine eR.mono ?_;intro e w2 hP;obtain⟨v1,v2,rfl⟩:=hP.two;go_wp2
    go_ret2
    exact hP.after f1
theorem LJ(h:fB F R w s p st)(hc:tG c)(hs:st.Small):
  Z4 154 #[Z8 R,.int .i32 c] w (dU F R w s (step .ey s.at_ st c)):=by
 have Es:=mS c hc w;have H:=a_ h;have HC:=a_ hc;have HS:=a_ hs;clear h hc hs;show Calls _ _ _ _ (dU F R w s (if Ch.eI c=true then fC .attr .jn s.at_ (st.clear .attr) c else jo s.at_ st c));generalize xr:fC .attr .jn s.at_ (st.clear .attr) c=so at*
 generalize hsp:jo s.at_ st c=sp at*
 have NH:=a_ xr;have HSP:=a_ hsp;clear xr hsp;generalize Ch.eI c=b at*
 cases b
 ·simp only[aA,aQ];go_enter func154,ntmps154;go_wp2_with(first|(go_at_call 147;refine Es.mono ?_;rintro e w1 ⟨rfl,la⟩));have eR:=jA (H.out.below la) HC.out HS.out;rw[HSP.out]at eR;refine eR.mono ?_;intro e w2 hP;obtain⟨v1,v2,rfl⟩:=hP.two;go_wp2
  go_ret2
  exact hP.after (Frame.below la)
 ·simp only[if_true];go_enter func154,ntmps154;go_wp2_with(first|(go_at_call 147;refine Es.mono ?_;rintro e w1 ⟨rfl,la⟩));have hwn:Z4 107 #[.pointer (some ⟨R,13,none⟩),.func (.func 189) #[] #[]] w1 _:=o6 (H.out.below la) .attr .jn;refine hwn.mono ?_;rintro e w2 ⟨b1,b2,b3,p1,rfl,x1,x2,x3,r1,f1⟩;go_wp2_with fail;have eR:=Bl (H.out.below la) HC.out .attr .jn ⟨x1,x2,x3⟩ r1;rw[NH.out]at eR;refine eR.mono ?_;intro e w3 hP;obtain⟨v1,v2,rfl⟩:=hP.two;go_wp2
  go_ret2
  exact(hP.after f1).after (Frame.below la)
end
section
variable{F:Nat->Prop}{R:Nat}{w w':World}{s:Src}{p:Ptr}{st:St}{c:Int}
theorem Px:Keyed prog 9:=string_keyed underlying9
theorem C_(w:World):(zeroValue 279).run prog w=.ok (.agg #[]) w:=by kernel_rfl
theorem Bn(l:List (List UInt8))(x:List UInt8):Maps.has (lr l) (Lit.string x)=l.contains x:=by
 unfold lr;rw[has_setOf _ _ _ (by intro y hy;obtain⟨z,_,rfl⟩:=List.mem_map.1 hy;exact trivial)];rw[bC];simp[Lit.sameKey]
theorem yR(l:List (List UInt8))(x:List UInt8):(lr l).put (Lit.string x) (.agg [])=lr (l++[x]):=by
 unfold lr;rw[bE,bN,cF,setOf_snoc]
theorem Own.Fh(h:Own F R w p st)(hlt:∀k,F k->k<w.heap.size)(b:Nat)(l:List (List UInt8))(hk:∀k,k<w.heap.size->k≠R->p.names≠ .map (some k)->w'.heap[k]?=w.heap[k]?)(hb:b≠R)(hF:Grow F w w' b)
  (hm:w'.ownsMap prog 9 unitElem b l.length (lr l)):Own (Grow F w w') R w' {p with names:=.map (some b)} {st with names:=l}:=by
 have nm:∀k v e sz n xs,w.ownsRow 0 e sz v n xs->v.ownBlock=some k->p.names≠ .map (some k):=by
  intro k v e sz n xs ho hv hn;rcases h.names with⟨e,_⟩|⟨b',e,_,_,h4⟩
  ·rw[e]at hn;cases hn
  ·rw[e]at hn;cases hn;exact CT ho h4 hv
 obtain⟨cs,hc,hT⟩:=h.told;refine⟨fun i=>dW (h.run i) fun k e=>hk k (hlt k (h.jg i k e).1) (h.jg i k e).2 (nm k _ _ _ _ _ (h.run i) e),fun i k e=>⟨Or.inl (h.jg i k e).1,(h.jg i k e).2⟩,h.apart,
  ⟨cs,dW hc fun k e=>hk k (hlt k (h.gK k e).1) (h.gK k e).2 (nm k _ _ _ _ _ hc e),hT.frame fun k n xs v' NF hv a b c=>⟨hk k (hlt k a) b (nm k _ _ _ _ _ NF hv),Or.inl a,c⟩⟩,fun k e=>⟨Or.inl (h.gK k e).1,(h.gK k e).2⟩,
  dW h.attrs fun k e=>hk k (hlt k (h.ew k e).1) (h.ew k e).2 (nm k _ _ _ _ _ h.attrs e),fun k e=>⟨Or.inl (h.ew k e).1,(h.ew k e).2⟩,Or.inr ⟨b,rfl,hF,hb,hm⟩⟩
theorem Am(h:fB F R w s p st)(hs:(st.run .attr).length<=70368744177680)(hh:st.names.contains (st.run .attr)=true):
  Z4 206 #[Z8 R] w (Z7 (mU 5 (st.eP .attr)) w):=by
 obtain⟨ao,cap,hv⟩:=dS (h.own.run .attr);have c13:w.cell? ⟨R,13,none⟩=some (.slice ao (st.run .attr).length cap):=by rw[<-hv];exact h.cell 13 rfl
 have c14:w.cell? ⟨R,14,none⟩=some (.int .i64 (st.eP .attr)):=h.cell 14 rfl;have hcv:(convert 101 9 (.slice ao (st.run .attr).length cap)).run prog w=.ok (.string ⟨(st.run .attr).toArray⟩) w:=by rw[<-hv];exact kR (h.own.run .attr)
 have hlt:=h.lt R h.jt;rcases h.own.names with⟨_,hn⟩|⟨b,hp,_,_,hm⟩
 ·rw[hn]at hh;simp at hh
 have c12:w.cell? ⟨R,12,none⟩=some (.map (some b)):=by rw[<-hp];exact h.cell 12 rfl
 have hkey:keyOf prog 9 (.string ⟨(st.run .attr).toArray⟩)=some (.string (st.run .attr)):=by
  have:=dm (P:=prog) underlying9 (s:=⟨(st.run .attr).toArray⟩) (by show (st.run .attr).toArray.size<=_;unfold maxLen;simp;omega);simpa using this
 have Py:Maps.has (lr st.names) (Lit.string (st.run .attr))=true:=by rw[Bn];exact hh
 have HH:=a_ Py;have HM:=a_ hm;have HK:=a_ hkey;clear h hh hv hp hm hkey Py;generalize (st.run .attr)=nm at*
 go_enter func206,ntmps206;go_wp2_with(at_lookup;refine wpList_lookup_own_unit _ rfl _ _ 104 rfl 9 279 Px underlying104 (C_ _) b st.names.length _ rfl HM.out _ _ rfl HK.out ?_;rw[HH.out]);go_ret;exact⟨rfl,(Below.refl _ _).alloc (au _) _⟩
theorem V9(b:Nat)(w:World):(binOp .eql 104 (.map (some b)) (.map none)).run prog w=.ok (.bool false) w:=by kernel_rfl
theorem Tb(w:World):(binOp .eql 104 (.map none) (.map none)).run prog w=.ok (.bool true) w:=by kernel_rfl
theorem Fi{b:Nat}{w1 w2:World}(h:fB F R w s p st)(b1:Z5 w w1)(hp:p.names=.map (some b))(hF:F b)(hb:b≠R)(hm:w2.ownsMap prog 9 unitElem b (st.names++[st.run .attr]).length (lr (st.names++[st.run .attr])))(hg:w1.grownBy w2 (some b)):
  fB (Grow F w w2) R w2 s p {st with names:=st.names++[st.run .attr]}/\Frame F w w2:=by
 have hR:=h.lt R h.jt;have hsz:w.heap.size<=w2.heap.size:=aw b1.size hg.size;have hk:∀k,k<w.heap.size->k≠b->w2.heap[k]?=w.heap[k]?:=fun k hl hn=>(hg.block k (aq hl b1.size) (by simpa using hn)).trans (b1.block k hl);have o1:=h.own.Fh (w':=w2) h.lt b (st.names++[st.run .attr]) (fun k hl _ hn=>hk k hl (fun e=>hn (by rw[hp,e]))) hb (Or.inl hF) hm;refine⟨⟨?_,Or.inl h.jt,iu h.lt hsz,?_⟩,⟨hg.os.trans b1.os,hg.tape.trans b1.tape,hg.output.trans b1.output,hsz,fun k hl hf=>hk k hl (fun e=>hf (e▸hF))⟩⟩
 ·rw[hk R hR (fun e=>hb e.symm)];exact h.blk
 ·have:{p with names:=.map (some b)}=p:=by rw[<-hp]
  rw[this]at o1;exact o1
theorem Fj(h:fB F R w s p st)(hs:(st.run .attr).length<=70368744177680)(hs2:st.names.length<=1099511627790)(hh:st.names.contains (st.run .attr)=false)(Hy:p.names≠ .map none):
  Z4 206 #[Z8 R] w fun e w'=>e=.returned .nilIface/\∃p',fB (Grow F w w') R w' s p' {st with names:=st.names++[st.run .attr]}/\Frame F w w':=by
 obtain⟨ao,cap,hv⟩:=dS (h.own.run .attr);have c13:w.cell? ⟨R,13,none⟩=some (.slice ao (st.run .attr).length cap):=by rw[<-hv];exact h.cell 13 rfl
 have hcv:(convert 101 9 (.slice ao (st.run .attr).length cap)).run prog w=.ok (.string ⟨(st.run .attr).toArray⟩) w:=by rw[<-hv];exact kR (h.own.run .attr)
 have hlt:=h.lt R h.jt;rcases h.own.names with⟨hn,_⟩|⟨b,hp,hF,hb,hm⟩
 ·exact absurd hn Hy
 have c12:w.cell? ⟨R,12,none⟩=some (.map (some b)):=by rw[<-hp];exact h.cell 12 rfl
 have hkey:keyOf prog 9 (.string ⟨(st.run .attr).toArray⟩)=some (.string (st.run .attr)):=by
  have:=dm (P:=prog) underlying9 (s:=⟨(st.run .attr).toArray⟩) (by show (st.run .attr).toArray.size<=_;unfold maxLen;simp;omega);simpa using this
 have Py:Maps.has (lr st.names) (Lit.string (st.run .attr))=false:=by rw[Bn];exact hh
 have hclose:=fun(w1 w2:World) b1 hm hg=>Fi (w1:=w1) (w2:=w2) h b1 hp hF hb hm hg;have hput:=yR st.names (st.run .attr);have HP:=a_ hput;have GF:=a_ hclose;have HH:=a_ Py;have HM:=a_ hm;have HK:=a_ hkey;clear h hh hv hp hm hkey Py hclose hput Hy hF hb;have hlen:(st.names++[st.run .attr]).length=st.names.length+1:=by simp
 have HLN:=a_ hlen;clear hlen;generalize ri:(st.run .attr)=nm at*
 clear ri;have hqm:=V9 b;go_enter func206,ntmps206;go_wp2_with(first
  |(at_lookup;refine wpList_lookup_own_unit _ rfl _ _ 104 rfl 9 279 Px underlying104 (C_ _) b st.names.length _ rfl HM.out _ _ rfl HK.out ?_;rw[HH.out])
  |(at_mapUpdate;refine wpList_mapUpdate_own _ rfl _ _ _ 104 rfl 9 279 Px underlying104 (unitElem (H:=Unit)) b st.names.length _ rfl (HM.out.alloc _) (by unfold maxLen;omega) _ _ _ rfl rfl HK.out _ [] unitElem_mk ?_;intro w1 Fk Ig))
 go_ret;rw[HP.out]at Fk;obtain⟨r2,f2⟩:=GF.out _ _ ((Below.refl _ w).alloc (au _) _) (by rw[HLN.out];exact Fk) Ig;exact⟨rfl,p,r2,f2⟩
theorem LK(W:World)(n:Nat)(h:W.heap.size=n):(W.alloc (.map #[] 0)).ownsMap prog 9 unitElem n 0 (lr []):=by subst h;exact World.ownsMap_made W prog 9 unitElem
theorem uK{nm:List UInt8}{w2:World}(h:fB F R w s p st)(hm:w2.ownsMap prog 9 unitElem (w.heap.size+1) 1 (lr [nm]))
  (hg:(((w.setCell ⟨R,12,none⟩ (.map (some (w.heap.size+1)))).alloc (.cells #[] 279)).alloc (.map #[] 0)).grownBy w2 (some (w.heap.size+1))):
  fB (Grow F w w2) R w2 s {p with names:=.map (some (w.heap.size+1))} {st with names:=[nm]}/\Frame F w w2:=by
 have hR:=h.lt R h.jt;have hz:=hg.size;simp[World.setCell]at hz;have hsz:w.heap.size<=w2.heap.size:=by omega
 have UO:∀k,k<w.heap.size->w2.heap[k]?=(w.setCell ⟨R,12,none⟩ (.map (some (w.heap.size+1)))).heap[k]?:=fun k hl=>by rw[hg.block k (by simp[World.setCell];omega) (by simp;omega),ay _ _ _ (by simp[World.setCell];omega),ay _ _ _ (by simp[World.setCell];omega)]
 have hk:∀k,k<w.heap.size->k≠R->w2.heap[k]?=w.heap[k]?:=fun k hl hn=>(UO k hl).trans (ak _ _ _ _ hn);have o1:=h.own.Fh (w':=w2) h.lt (w.heap.size+1) [nm] (fun k hl hr _=>hk k hl hr) (by omega) (Or.inr ⟨by omega,by omega⟩) hm;refine⟨⟨?_,Or.inl h.jt,iu h.lt hsz,o1⟩,⟨hg.os,hg.tape,hg.output,hsz,fun k hl hf=>hk k hl (fun e=>hf (e▸h.jt))⟩⟩;rw[UO R hR,eh h.blk];rfl
theorem Ao(h:fB F R w s p st)(hs:(st.run .attr).length<=70368744177680)(Hy:p.names=.map none):
  Z4 206 #[Z8 R] w fun e w'=>e=.returned .nilIface/\∃p',fB (Grow F w w') R w' s p' {st with names:=[st.run .attr]}/\Frame F w w':=by
 obtain⟨ao,cap,hv⟩:=dS (h.own.run .attr);have c13:w.cell? ⟨R,13,none⟩=some (.slice ao (st.run .attr).length cap):=by rw[<-hv];exact h.cell 13 rfl
 have hcv:(convert 101 9 (.slice ao (st.run .attr).length cap)).run prog w=.ok (.string ⟨(st.run .attr).toArray⟩) w:=by rw[<-hv];exact kR (h.own.run .attr)
 have hlt:=h.lt R h.jt;have c12:w.cell? ⟨R,12,none⟩=some (.map none):=by rw[<-Hy];exact h.cell 12 rfl
 have f12:=h.free 12;have hkey:keyOf prog 9 (.string ⟨(st.run .attr).toArray⟩)=some (.string (st.run .attr)):=by
  have:=dm (P:=prog) underlying9 (s:=⟨(st.run .attr).toArray⟩) (by show (st.run .attr).toArray.size<=_;unfold maxLen;simp;omega);simpa using this
 have hnil:=fun W:World=>look_nil (w:=W) true Px underlying104 (C_ W) hkey;have KA:= @run_makeMap prog;have H:=a_ h;have HK:=a_ hkey;clear h hv hkey Hy;generalize ri:(st.run .attr)=nm at*
 have El:=a_ ri;clear ri;have hqm:=Tb;go_enter func206,ntmps206;go_wp2_with(at_mapUpdate;refine wpList_mapUpdate_own _ rfl _ _ _ 104 rfl 9 279 Px underlying104 (unitElem (H:=Unit)) (w.heap.size+1) 0 (lr []) rfl (LK _ _ (by simp[World.setCell])) (by unfold maxLen;omega) _ _ _ rfl rfl HK.out _ [] unitElem_mk ?_;intro w1 Fk Ig);go_ret;rw[yR]at Fk;obtain⟨r2,f2⟩:=uK H.out (nm:=nm) Fk Ig;first|exact⟨rfl,_,r2,f2⟩|exact⟨rfl,⟨_,r2⟩,f2⟩
theorem Fl(h:fB F R w s p st)(hs:(st.run .attr).length<=70368744177680)(hs2:st.names.length<=1099511627790):
  Z4 206 #[Z8 R] w fun e w'=>if st.names.contains (st.run .attr)=true then e=.returned (mU 5 (st.eP .attr))/\Z5 w w'
   else e=.returned .nilIface/\∃p',fB (Grow F w w') R w' s p' {st with names:=st.names++[st.run .attr]}/\Frame F w w':=by
 cases hh:st.names.contains (st.run .attr)
 ·simp only[aA,aQ];by_cases hn:p.names=.map none
  ·rcases h.own.names with⟨_,hl⟩|⟨b,hp,_⟩
   ·have:=Ao h hs hn;rw[hl];exact this
   ·rw[hp]at hn;cases hn
  ·exact Fj h hs hs2 hh hn
 ·simp only[if_true];exact Am h hs hh
theorem Ih(h:fB F R w s p st)(hc:tG c)(hs:(st.run .attr).length<=70368744177680)(hs2:st.names.length<=1099511627790):
  Z4 189 #[Z8 R,.int .i32 c] w (dU F R w s (step .jn s.at_ st c)):=by
 have ha:=Fl h hs hs2;show Calls _ _ _ _ (dU F R w s (if st.names.contains (st.run .attr)=true then⟨st,.fail 5 (st.eP .attr)⟩else jH s.at_ {st with names:=st.names++[st.run .attr]} c));have hq1:∀W:World,(binOp .neq 131 (mU 5 (st.eP .attr)) .nilIface).run prog W=.ok (.bool true) W:=fun W=>by unfold mU;kernel_rfl
 have hq2:∀W:World,(binOp .neq 131 .nilIface .nilIface).run prog W=.ok (.bool false) W:=fun W=>by kernel_rfl
 have H:=a_ h;clear h hs hs2;generalize {st with names:=st.names++[st.run .attr]}=qz at*
 generalize st.names.contains (st.run .attr)=b at*
 cases b
 ·simp only[aA,aQ]at ha ⊢;go_enter func189,ntmps189;go_wp2_with(first|(go_at_call 206;refine ha.mono ?_;rintro e w1 ⟨rfl,p1,r1,f1⟩));refine(E_ r1 hc).mono ?_;intro e w2 hP;obtain⟨v1,v2,rfl⟩:=hP.two;go_wp2
  go_ret2
  exact hP.after f1
 ·simp only[if_true,mU]at ha hq1 ⊢;go_enter func189,ntmps189;go_wp2_with(first|(go_at_call 206;refine ha.mono ?_;rintro e w1 ⟨rfl,la⟩))
  go_ret2
  exact dU.gI H.out la
end
section
variable{F:Nat->Prop}{R:Nat}{w w':World}{s:Src}{p:Ptr}{st:St}{c:Int}
def f_(F:Nat->Prop)(R:Nat)(w:World)(i:Rn)(k:Pl)(b1 b2 b3:Nat):Prop:=
 pL F R w b1 (.func (.func 112) #[] #[Z8 b1,Z8 b2,Z8 b3]) 100/\pL F R w b2 (.pointer (some ⟨R,i.off,none⟩)) 154/\pL F R w b3 k.val 100
theorem f_.below{i:Rn}{k:Pl}{b1 b2 b3:Nat}(h:f_ F R w i k b1 b2 b3)(hlt:∀k,F k->k<w.heap.size)(hb:Z5 w w'):f_ (Grow F w w') R w' i k b1 b2 b3:=
 ⟨kA h.1 hlt hb,kA h.2.1 hlt hb,kA h.2.2 hlt hb⟩
theorem f_.kept{i j:Rn}{k:Pl}{b1 b2 b3:Nat}(h:f_ F R w i k b1 b2 b3)(ho:Own F R w p st)(hlt:∀k,F k->k<w.heap.size)(hK:Kept R (p.run j).ownBlock w w'):f_ (Grow F w w') R w' i k b1 b2 b3:=
 ⟨lU h.1 ho (by decide) hlt hK,lU h.2.1 ho (by decide) hlt hK,lU h.2.2 ho (by decide) hlt hK⟩
theorem LL(h:fB F R w s p st)(i:Rn)(k:Pl):∃W0,W0=(((w.setCell ⟨R,18,none⟩ (.slice none 0 0)).setCell ⟨R,19,none⟩ (.int .i64 0)).alloc (.cells #[.pointer (some ⟨R,i.off,none⟩)] 154)).alloc (.cells #[.func (.func k.fn) #[] #[]] 100)/\
  fB (Grow F w W0) R W0 s (p.dT .ref (.slice none 0 0)) (st.clear .ref)/\Frame F w W0/\pL (Grow F w W0) R W0 w.heap.size (.pointer (some ⟨R,i.off,none⟩)) 154/\pL (Grow F w W0) R W0 (w.heap.size+1) k.val 100/\W0.heap.size=w.heap.size+2:=by
 have hR:=h.lt R h.jt;refine⟨_,rfl,?_⟩;have r:=h.yQ .ref;have f:=Frame.yQ h .ref;change fB F R ((w.setCell ⟨R,18,none⟩ (.slice none 0 0)).setCell ⟨R,19,none⟩ (.int .i64 0)) s _ _ at r;change Frame F w ((w.setCell ⟨R,18,none⟩ (.slice none 0 0)).setCell ⟨R,19,none⟩ (.int .i64 0))at f;have hsz:((w.setCell ⟨R,18,none⟩ (.slice none 0 0)).setCell ⟨R,19,none⟩ (.int .i64 0)).heap.size=w.heap.size:=by simp[World.setCell]
 generalize (w.setCell ⟨R,18,none⟩ (.slice none 0 0)).setCell ⟨R,19,none⟩ (.int .i64 0)=w2 at*
 have hb:=rI w2 (.cells #[.pointer (some ⟨R,i.off,none⟩)] 154) (.cells #[.func (.func k.fn) #[] #[]] 100);have a1:((w2.alloc (.cells #[.pointer (some ⟨R,i.off,none⟩)] 154)).alloc (.cells #[.func (.func k.fn) #[] #[]] 100)).heap[w.heap.size]?=some (.cells #[.pointer (some ⟨R,i.off,none⟩)] 154):=by
  rw[<-hsz,ay _ _ _ (by simp)];exact bf w2 _
 have a2:((w2.alloc (.cells #[.pointer (some ⟨R,i.off,none⟩)] 154)).alloc (.cells #[.func (.func k.fn) #[] #[]] 100)).heap[w.heap.size+1]?=some (.cells #[.func (.func k.fn) #[] #[]] 100):=by
  rw[<-hsz];have:=bf (w2.alloc (.cells #[.pointer (some ⟨R,i.off,none⟩)] 154)) (.cells #[.func (.func k.fn) #[] #[]] 100);simpa using this
 have az:((w2.alloc (.cells #[.pointer (some ⟨R,i.off,none⟩)] 154)).alloc (.cells #[.func (.func k.fn) #[] #[]] 100)).heap.size=w.heap.size+2:=by rw[<-hsz];simp
 generalize (w2.alloc (.cells #[.pointer (some ⟨R,i.off,none⟩)] 154)).alloc (.cells #[.func (.func k.fn) #[] #[]] 100)=w3 at*
 have hG:∀k,Grow F w2 w3 k->Grow F w w3 k:=fun k hk=>by unfold Grow at*;rw[hsz]at hk;exact hk
 refine⟨(r.below hb).mono hG (fun k hk=>(r.below hb).lt k (by unfold Grow at*;rw[hsz];exact hk)),f.same (Frame.below hb),⟨a1,Or.inr (by omega),by omega⟩,⟨a2,Or.inr (by omega),by omega⟩,az⟩
theorem Ii{W0 w2:World}{p2:Ptr}{qz:St}{i:Rn}{k:Pl}{b2 b3:Nat}(f0:Frame F w W0)(r2:fB (Grow (Grow F w W0) W0 w2) R w2 s p2 qz)(f2:Frame (Grow F w W0) W0 w2)(x2:pL (Grow (Grow F w W0) W0 w2) R w2 b2 (.pointer (some ⟨R,i.off,none⟩)) 154)(x3:pL (Grow (Grow F w W0) W0 w2) R w2 b3 k.val 100):
  ∃w3,w3=w2.alloc (.cells #[.func (.func 112) #[] #[.pointer (some ⟨w2.heap.size,0,none⟩),Z8 b2,Z8 b3]] 100)/\f_ (Grow F w w3) R w3 i k w2.heap.size b2 b3/\(∃p',fB (Grow F w w3) R w3 s p' qz)/\Frame F w w3:=by
 refine⟨_,rfl,?_⟩;have hR:=r2.lt R r2.jt;have hb:Z5 w2 (w2.alloc (.cells #[.func (.func 112) #[] #[.pointer (some ⟨w2.heap.size,0,none⟩),Z8 b2,Z8 b3]] 100)):=(Below.refl _ w2).alloc (au _) _;have a1:=bf w2 (.cells #[.func (.func 112) #[] #[.pointer (some ⟨w2.heap.size,0,none⟩),Z8 b2,Z8 b3]] 100);have az:(w2.alloc (.cells #[.func (.func 112) #[] #[.pointer (some ⟨w2.heap.size,0,none⟩),Z8 b2,Z8 b3]] 100)).heap.size=w2.heap.size+1:=by simp
 generalize w2.alloc (.cells #[.func (.func 112) #[] #[.pointer (some ⟨w2.heap.size,0,none⟩),Z8 b2,Z8 b3]] 100)=w3 at*
 have f01:Frame F w w2:=f0.trans f2;have hG:∀k,Grow (Grow (Grow F w W0) W0 w2) w2 w3 k->Grow F w w3 k:=fun k hk=>(Grow.trans f01.size hb.size k).1 (hk.elim (fun x=>Or.inl ((Grow.trans f0.size f2.size k).1 x)) Or.inr);have Zd:∀k,Grow F w w3 k->Grow (Grow (Grow F w W0) W0 w2) w2 w3 k:=fun k hk=>((Grow.trans f01.size hb.size k).2 hk).elim (fun x=>Or.inl ((Grow.trans f0.size f2.size k).2 x)) Or.inr;have y2:=kA x2 r2.lt hb;have y3:=kA x3 r2.lt hb;have Vo:w.heap.size<=w2.heap.size:=f01.size;refine⟨⟨⟨a1,Or.inr (by omega),by omega⟩,y2.mono hG,y3.mono hG⟩,⟨_,(r2.below hb).mono hG (fun k hk=>(r2.below hb).lt k (Zd k hk))⟩,?_⟩;exact f01.trans (Frame.below hb)
theorem sU(h:fB F R w s p st)(i:Rn)(k:Pl):
  Z4 61 #[Z8 R,.pointer (some ⟨R,i.off,none⟩),.func (.func k.fn) #[] #[]] w fun e w'=>∃b1 b2 b3,e=.returned (.func (.func 112) #[] #[Z8 b1,Z8 b2,Z8 b3])/\
   f_ (Grow F w w') R w' i k b1 b2 b3/\(∃p',fB (Grow F w w') R w' s p' ((st.clear .ref).put .ref 38 s.at_))/\Frame F w w':=by
 have hlt:=h.lt R h.jt;have c18:w.cell? ⟨R,18,none⟩=some (p.run .ref):=h.cell 18 rfl;have c19:w.cell? ⟨R,19,none⟩=some (.int .i64 (st.eP .ref)):=h.cell 19 rfl;have f18:=h.free 18;have f19:=h.free 19;have hat:w.cell? ⟨R,2,none⟩=some (.int .i64 s.at_):=h.cell 2 rfl;obtain⟨W0,hW,r0,f0,x1,x2,hz⟩:=LL h i k;have hp:=kV r0 .ref 38 s.at_ (by unfold h_;omega) (by rw[rL];omega);have Ze:W0.cell? ⟨R,2,none⟩=some (.int .i64 s.at_):=r0.cell 2 rfl;have HW:=a_ hW;rw[hW]at hp Ze;have R0:=a_ r0;have F0:=a_ f0;have X1:=a_ x1;have X2:=a_ x2;clear h hW r0 f0 x1 x2 hz;generalize (st.clear .ref).put .ref 38 s.at_=qz at*
 have iT:∀w2 v,fB (Grow (Grow F w W0) W0 w2) R w2 s ((p.dT .ref (.slice none 0 0)).dT .ref v) qz->Frame (Grow F w W0) W0 w2->Kept R ((p.dT .ref (.slice none 0 0)).run .ref).ownBlock W0 w2->_:=fun w2 v r2 f2 k2=>
  Ii (i:=i) (k:=k) F0.out r2 f2 (lU (i:=.ref) X1.out R0.out.own (by decide) R0.out.lt k2) (lU (i:=.ref) X2.out R0.out.own (by decide) R0.out.lt k2)
 rw[HW.out]at iT;have HF:=a_ iT;clear iT R0 F0 X1 X2;have HW2:=HW.out;subst HW2;clear HW;generalize hkn:k.fn=kn at*
 clear hkn;go_enter func61,ntmps61;go_wp2_with fail;go_region_held3 (fun W=>W.cell? ⟨R,2,none⟩=some (.int .i64 s.at_))
  (first|exact Ze|exact mW)
  (first|(go_at_call 64;refine hp.mono ?_;rintro e w2 ⟨rfl,v,r2,f2,k2⟩;have mW:w2.cell? ⟨R,2,none⟩=some (.int .i64 s.at_):=r2.cell 2 rfl;have hst:=qE _ _ _ (.func (.func 112) #[] #[.pointer (some ⟨w2.heap.size,0,none⟩),.pointer (some ⟨w.heap.size,0,none⟩),.pointer (some ⟨w.heap.size+1,0,none⟩)]) rfl (Fe w2 w2.heap.size rfl .nilFunc 100) (Ff w2 w2.heap.size rfl .nilFunc 100)))
 all_goals
  go_wp2;go_ret;obtain⟨w3,rfl,y1,y2,y3⟩:=HF.out w2 v r2 f2 k2;exact⟨_,_,_,rfl,y1,y2,y3⟩
end
section
variable{F:Nat->Prop}{R:Nat}{w w':World}{s:Src}{p:Ptr}{st:St}{c:Int}
theorem dU.UQ{w1:World}{p1:Ptr}{i:Rn}{k:Pl}{b1 b2 b3:Nat}{gV:St}(hN:f_ (Grow F w w1) R w1 i k b1 b2 b3)(r1:fB (Grow F w w1) R w1 s p1 gV)(f1:Frame F w w1):
  dU F R w s ⟨gV,.go (.ref i k)⟩ (.returned (.tuple #[.func (.func 112) #[] #[Z8 b1,Z8 b2,Z8 b3],.nilIface])) w1:=
 ⟨p1,r1,f1,_,rfl,b1,b2,b3,rfl,hN.1,hN.2.1,hN.2.2⟩
theorem Ij(h:fB F R w s p st)(hc:tG c)(hs:st.Small):
  Z4 34 #[Z8 R,.int .i32 c] w (dU F R w s (step .between s.at_ st c)):=by
 have hat:w.cell? ⟨R,2,none⟩=some (.int .i64 s.at_):=h.cell 2 rfl;show Calls _ _ _ _ (dU F R w s (if c=60 then⟨{st with fP:=s.at_},.go (.plain .less)⟩else if c=38 then⟨(st.clear .ref).put .ref 38 s.at_,.go (.ref .text .between)⟩else if c= -1 then⟨st.dX,.stop⟩else if c= -2 then⟨st,.fail 2 s.at_⟩else⟨st.put .text c s.at_,.go (.plain .between)⟩));by_cases h1:c=60
 ·rw[if_pos h1];have e1:(c==60)=true:=by simpa using h1
  have c8:w.cell? ⟨R,8,none⟩=some (.int .i64 st.fP):=h.cell 8 rfl;have f8:=h.free 8;have H:=a_ h;clear h1 h hc hs;go_enter func34,ntmps34;go_wp2
  go_ret2
  exact dU.Pt ((H.out.scalar (gV:={st with fP:=s.at_}) 8 (.int .i64 s.at_) rfl (fun o=>⟨o.run,o.jg,o.apart,o.told,o.gK,o.attrs,o.ew,o.names⟩)).Pv (by simp[World.setCell])) (Frame.Hz H.out.jt _ _)
 rw[if_neg h1];have e1:(c==60)=false:=by simpa using h1
 clear h1;by_cases h2:c=38
 ·rw[if_pos h2];have e2:(c==38)=true:=by simpa using h2
  have hr:Z4 61 #[Z8 R,.pointer (some ⟨R,6,none⟩),.func (.func 34) #[] #[]] w _:=sU h .text .between;clear h2 h hc hs;go_enter func34,ntmps34;go_wp2_with(go_at_call 61;refine hr.mono ?_;rintro e w1 ⟨b1,b2,b3,rfl,x,⟨p1,r1⟩,f1⟩)
  go_ret2
  exact dU.UQ x r1 f1
 rw[if_neg h2];have e2:(c==38)=false:=by simpa using h2
 clear h2;by_cases h3:c= -1
 ·rw[if_pos h3];have e3:(c== -1)=true:=by simpa using h3
  have ht:=oZ h (by have:=hs.told;omega);generalize st.dX=qz at*
  clear h3 h hc hs;go_enter func34,ntmps34;go_wp2_with(go_at_call 62;refine ht.mono ?_;rintro e w1 ⟨rfl,p1,r1,f1,_,_⟩)
  go_ret2
  exact⟨p1,r1,f1,rfl⟩
 rw[if_neg h3];have e3:(c== -1)=false:=by simpa using h3
 by_cases h4:c= -2
 ·rw[if_pos h4];have e4:(c== -2)=true:=by simpa using h4
  have hw:Tk.why c=2:=by simp[Tk.why,h4]
  have H:=a_ h;have HW:=a_ hw;clear h3 h4 h hc hs hw;go_enter func34,ntmps34;go_wp2_with(go_at_call 63;refine(fX R c s.at_ _ hat).mono ?_;rintro e w1 ⟨rfl,rfl⟩)
  go_ret2
  rw[<-HW.out];exact dU.gI H.out (Below.refl _ _)
 ·rw[if_neg h4];have e4:(c== -2)=false:=by simpa using h4
  have py:=hc.lo;have hp:=kV h .text c s.at_ (oB hc (by omega)) (by have:=hs.run .text;omega);generalize st.put .text c s.at_=qz at*
  clear h3 h4 h hc hs py;go_enter func34,ntmps34;go_wp2_with fail;go_region_held3 (fun W=>W.cell? ⟨R,2,none⟩=some (.int .i64 s.at_))
   (first|exact hat|exact mW)
   (first|(go_at_call 64;refine hp.mono ?_;rintro e w1 ⟨rfl,v,r1,f1,k1⟩;have mW:w1.cell? ⟨R,2,none⟩=some (.int .i64 s.at_):=r1.cell 2 rfl))
  all_goals
   go_wp2
   go_ret2
   exact dU.Pt r1 f1
theorem LM(h:fB F R w s p st)(hc:tG c)(hs:st.Small):
  Z4 221 #[Z8 R,.int .i32 c] w (dU F R w s (step .ik s.at_ st c)):=by
 have hat:w.cell? ⟨R,2,none⟩=some (.int .i64 s.at_):=h.cell 2 rfl;have c17:w.cell? ⟨R,17,none⟩=some (.int .i32 st.quote):=h.cell 17 rfl;show Calls _ _ _ _ (dU F R w s (if c=st.quote then⟨st.addAttr,.go (.plain .part)⟩else if c=38 then⟨(st.clear .ref).put .ref 38 s.at_,.go (.ref .value .ik)⟩else if c=60\/c<0 then⟨st,.fail (Tk.why c) s.at_⟩else⟨st.put .value c s.at_,.go (.plain .ik)⟩));by_cases h1:c=st.quote
 ·rw[if_pos h1];have e1:(c==st.quote)=true:=by simpa using h1
  have ha:=E9 h (by have:=hs.attrs;omega);generalize st.addAttr=qz at*
  clear h1 h hc hs;go_enter func221,ntmps221;go_wp2_with(go_at_call 227;refine ha.mono ?_;rintro e w1 ⟨rfl,p1,r1,f1⟩)
  go_ret2
  exact dU.Pt r1 f1
 rw[if_neg h1];have e1:(c==st.quote)=false:=by simpa using h1
 clear h1;by_cases h2:c=38
 ·rw[if_pos h2];have e2:(c==38)=true:=by simpa using h2
  have hr:Z4 61 #[Z8 R,.pointer (some ⟨R,15,none⟩),.func (.func 221) #[] #[]] w _:=sU h .value .ik;clear h2 h hc hs;go_enter func221,ntmps221;go_wp2_with(go_at_call 61;refine hr.mono ?_;rintro e w1 ⟨b1,b2,b3,rfl,x,⟨p1,r1⟩,f1⟩)
  go_ret2
  exact dU.UQ x r1 f1
 rw[if_neg h2];have e2:(c==38)=false:=by simpa using h2
 clear h2;by_cases h3:c=60
 ·rw[if_pos (Or.inl h3)];have e3:(c==60)=true:=by simpa using h3
  have H:=a_ h;clear h3 h hc hs;go_enter func221,ntmps221;go_wp2_with(go_at_call 63;refine(fX R c s.at_ _ hat).mono ?_;rintro e w1 ⟨rfl,rfl⟩)
  go_ret2
  exact dU.gI H.out (Below.refl _ _)
 have e3:(c==60)=false:=by simpa using h3
 by_cases h4:c<0
 ·rw[if_pos (Or.inr h4)];have H:=a_ h;clear h3 h hc hs;go_enter func221,ntmps221;go_wp2_with(go_at_call 63;refine(fX R c s.at_ _ hat).mono ?_;rintro e w1 ⟨rfl,rfl⟩)
  go_ret2
  exact dU.gI H.out (Below.refl _ _)
 ·rw[if_neg (by omega)];have hp:=kV h .value c s.at_ (oB hc (by omega)) (by have:=hs.run .value;omega);generalize st.put .value c s.at_=qz at*
  clear h3 h hc hs;go_enter func221,ntmps221;go_wp2_with fail;go_region_held3 (fun W=>W.cell? ⟨R,2,none⟩=some (.int .i64 s.at_))
   (first|exact hat|exact mW)
   (first|(go_at_call 64;refine hp.mono ?_;rintro e w1 ⟨rfl,v,r1,f1,k1⟩;have mW:w1.cell? ⟨R,2,none⟩=some (.int .i64 s.at_):=r1.cell 2 rfl))
  all_goals
   go_wp2
   go_ret2
   exact dU.Pt r1 f1
end
section
variable{F:Nat->Prop}{R:Nat}{w w':World}{s:Src}{p:Ptr}{st:St}{c:Int}
def Tk.pN(c:Int):Bool:=c==35||c==59||(decide (c<128)&&(Ch.eI c||Ch.fy c))
theorem rM{c:Int}(h:Tk.pN c=true):0<=c/\c<128:=by
 simp only[Tk.pN,bm,aT,bk,aR]at h;rcases h with(h|h)|⟨h1,h|h⟩
 ·omega
 ·omega
 ·have:=(Ch.fA c).1 h;omega
 ·have:=(Ch.iG c).1 h;omega
theorem Tc(h:fB F R w s p st)(hc:tG c)(v1 v2 v3:Value)(hb:Tk.pN c=false):
  Z4 112 #[Z8 R,.int .i32 c,v1,v2,v3] w (dU F R w s ⟨st,.fail 4 (st.eP .ref)⟩):=by
 have c19:w.cell? ⟨R,19,none⟩=some (.int .i64 (st.eP .ref)):=h.cell 19 rfl;have hlt:=h.lt R h.jt;have Ol:=ll c hc w;simp only[Tk.pN,dh,Bool.and_eq_false_iff]at hb;obtain⟨⟨e35,e59⟩,e3⟩:=hb;have Zf:(c !=35)=true:=by simp[bne,e35]
 have aaT:(c !=59)=true:=by simp[bne,e59]
 have H:=a_ h;clear h hc;by_cases abJ:128<=c
 ·clear e3;go_enter func112,ntmps112;go_wp2_with fail;go_region_held3 (fun W=>W.cell? ⟨R,19,none⟩=some (.int .i64 (st.eP .ref)))
   (first|exact c19)
   (fail)
  all_goals
   go_wp2
   go_ret2
   exact dU.gI H.out (Below.refl _ w).drew
 ·have hg:(Ch.eI c||Ch.fy c)=false:=by
   rcases e3 with e|e
   ·simp only[cR]at e;omega
   ·rw[dh];exact e
  rw[hg]at Ol;clear e3 hg;go_enter func112,ntmps112;go_wp2_with(go_at_call 113;refine Ol.mono ?_;rintro e w1 ⟨rfl,la⟩);have V_:=(la.cell hlt).trans c19;go_region_held3 (fun W=>W.cell? ⟨R,19,none⟩=some (.int .i64 (st.eP .ref)))
   (first|exact V_)
   (fail)
  all_goals
   go_wp2
   go_ret2
   exact dU.gI H.out la.drew
theorem yS{w1 w2:World}{i:Rn}{k:Pl}{b1 b2 b3:Nat}{p2:Ptr}{gV:St}(hb:Z5 w w1)(r2:fB (Grow (Grow F w w1) w1 w2) R w2 s p2 gV)(f2:Frame (Grow F w w1) w1 w2)(hn:f_ (Grow (Grow F w w1) w1 w2) R w2 i k b1 b2 b3):
  dU F R w s ⟨gV,.go (.ref i k)⟩ (.returned (.tuple #[.func (.func 112) #[] #[Z8 b1,Z8 b2,Z8 b3],.nilIface])) w2:=by
 have f1:Frame F w w1:=Frame.below hb;refine⟨_,r2.join f1.size f2.size,f1.trans f2,_,rfl,?_⟩;exact fU.mono (F:=Grow (Grow F w w1) w1 w2) (pt:=.ref i k) ⟨b1,b2,b3,rfl,hn.1,hn.2.1,hn.2.2⟩ (fun k hk=>(Grow.trans f1.size f2.size k).1 hk)
theorem Ka(h:fB F R w s p st)(hc:h_ c)(i:Rn)(k:Pl)(b1 b2 b3:Nat)(hN:f_ F R w i k b1 b2 b3)(hs:(st.run .ref).length<=70368744177680)(w1:World)(hb:Z5 w w1):
  Z4 64 #[.pointer (some ⟨R,18,none⟩),.int .i32 c,.int .i64 s.at_] w1.drew fun e w2=>e=.returned (.tuple #[])/\∃v,fB (Grow (Grow F w w1) w1 w2) R w2 s (p.dT .ref v) (st.put .ref c s.at_)/\Frame (Grow F w w1) w1 w2/\f_ (Grow (Grow F w w1) w1 w2) R w2 i k b1 b2 b3:=by
 have hp:Z4 64 #[.pointer (some ⟨R,18,none⟩),.int .i32 c,.int .i64 s.at_] w1.drew _:=kV (h.below hb) .ref c s.at_ hc (by omega);refine hp.mono ?_;rintro e w2 ⟨rfl,v,r,f,kk⟩;exact⟨rfl,v,r,f,(hN.below h.lt hb).kept (h.below hb).own (h.below hb).lt kk⟩
theorem Pz(h:fB F R w s p st)(hc:tG c)(i:Rn)(k:Pl)(b1 b2 b3:Nat)(hN:f_ F R w i k b1 b2 b3)(hs:(st.run .ref).length<=70368744177680)(hb:Tk.pN c=true)(mP:c≠59):
  Z4 112 #[Z8 R,.int .i32 c,Z8 b1,Z8 b2,Z8 b3] w (dU F R w s ⟨st.put .ref c s.at_,.go (.ref i k)⟩):=by
 have hat:w.cell? ⟨R,2,none⟩=some (.int .i64 s.at_):=h.cell 2 rfl;have hlt:=h.lt R h.jt;have Ol:=ll c hc w;have hp:=Ka h (oB hc (rM hb).1) i k b1 b2 b3 hN hs;have aaT:(c !=59)=true:=by simpa using mP
 have hb0:=rM hb;simp only[Tk.pN,bm,aT,bk,aR]at hb;have HP:=a_ hp;clear h hc hN hs hp;generalize st.put .ref c s.at_=qz at*
 by_cases Zg:c=35
 ·have Zf:(c !=35)=false:=by simpa using Zg
  have hp0:=HP.out w (Below.refl _ _);clear hb Zg mP HP;go_enter func112,ntmps112;go_wp2_with fail;go_region_held3 (fun W=>W.cell? ⟨R,2,none⟩=some (.int .i64 s.at_))
   (first|exact hat|exact mW)
   (first|(go_at_call 64;refine hp0.mono ?_;rintro e w2 ⟨rfl,v,r2,f2,n2⟩;have mW:w2.cell? ⟨R,2,none⟩=some (.int .i64 s.at_):=r2.cell 2 rfl;have k1:=iW n2.1;have N2:=a_ n2;clear n2))
  all_goals
   go_wp2
   go_ret2
   exact yS (Below.refl _ _) r2 f2 N2.out
 ·have Zf:(c !=35)=true:=by simpa using Zg
  have hg:(Ch.eI c||Ch.fy c)=true:=by
   rcases hb with(h|h)|h
   ·exact absurd h Zg
   ·exact absurd h mP
   ·rw[bm];exact h.2
  rw[hg]at Ol;clear hb Zg mP hg;go_enter func112,ntmps112;go_wp2_with(go_at_call 113;refine Ol.mono ?_;rintro e w1 ⟨rfl,la⟩);have aaU:=(la.cell hlt).trans hat;have hp1:=HP.out w1 la;go_region_held3 (fun W=>W.cell? ⟨R,2,none⟩=some (.int .i64 s.at_))
   (first|exact aaU|exact mW)
   (first|(go_at_call 64;refine hp1.mono ?_;rintro e w2 ⟨rfl,v,r2,f2,n2⟩;have mW:w2.cell? ⟨R,2,none⟩=some (.int .i64 s.at_):=r2.cell 2 rfl;have k1:=iW n2.1;have N2:=a_ n2;clear n2))
  all_goals
   go_wp2
   go_ret2
   exact yS la r2 f2 N2.out
end
section
variable{F:Nat->Prop}{R:Nat}{w w':World}{s:Src}{p:Ptr}{st:St}{c:Int}
theorem Ap(t:ByteArray)(i:Nat)(h:i<t.size):h_ ((Utf8.decode t i).1:Int):=by
 have h0:0<=Ch.bz t i:=by unfold Ch.bz;rw[if_pos h];omega
 have bad:Utf8.decode t i=(65533,1)->h_ ((Utf8.decode t i).1:Int):=fun e=>by rw[e];unfold h_;simp
 by_cases a1:Ch.bz t i<128
 ·rw[Ch.gi h0 a1];unfold h_;simp only;omega
 by_cases a2:Ch.bz t i<192
 ·exact bad (Ch.fH (Or.inl ⟨by omega,a2⟩))
 by_cases a3:Ch.bz t i<224
 ·by_cases c1:Ch.cont t (i+1)
  ·have hd:=Ch.iF (by omega) a3 c1;split at hd
   ·rw[hd];unfold Ch.cont at c1;rename_i hz;simp only[Ch.acc,aG]at hz ⊢;unfold h_;omega
   ·exact bad hd
  ·exact bad (Ch.ib (by omega) a3 c1)
 by_cases a4:Ch.bz t i<240
 ·by_cases c1:Ch.cont t (i+1)/\Ch.cont t (i+2)
  ·have hd:=Ch.gj (by omega) a4 c1.1 c1.2;split at hd
   ·rename_i hz;rw[hd];have:=(Ch.lj _).1 hz.2;unfold h_;simp only;omega
   ·exact bad hd
  ·exact bad (Ch.eV (by omega) a4 (by
    by_cases x:Ch.cont t (i+1)
    ·exact Or.inr fun y=>c1 ⟨x,y⟩
    ·exact Or.inl x))
 by_cases a5:Ch.bz t i<248
 ·by_cases c1:Ch.cont t (i+1)/\Ch.cont t (i+2)/\Ch.cont t (i+3)
  ·have hd:=Ch.ic (by omega) a5 c1.1 c1.2.1 c1.2.2;split at hd
   ·rename_i hz;rw[hd];have:=(Ch.lj _).1 hz.2;unfold h_;simp only;omega
   ·exact bad hd
  ·exact bad (Ch.eH (by omega) a5 (by
    by_cases x:Ch.cont t (i+1)
    ·by_cases y:Ch.cont t (i+2)
     ·exact Or.inr (Or.inr fun z=>c1 ⟨x,y,z⟩)
     ·exact Or.inr (Or.inl y)
    ·exact Or.inl x))
 ·exact bad (Ch.fH (Or.inr (by omega)))
def fN(i:Rn)(t:ByteArray)(q:Int):Nat->Nat->St->St
 |0,_,st=>st
 |f+1,pos,st=>if pos<t.size then fN i t q f (pos+(Utf8.decode t pos).2) (st.put i ((Utf8.decode t pos).1:Int) q)else st
def St.nV(st:St)(i:Rn)(t:ByteArray)(q:Int):St:=fN i t q (t.size+1) 0 st
structure RL(F:Nat->Prop)(R:Nat)(w:World)(s:Src)(i:Rn)(k:Pl)(b1 b2 b3:Nat)(t:ByteArray)(it:Nat)(q:Int)(UR:St)(n0:Nat)(wr:World)(pos:Nat):Prop where
 ex:∃(Fr:Nat->Prop) (p':Ptr) (gV:St) (fuel:Nat),t.size<pos+fuel/\fN i t q fuel pos gV=UR.nV i t q/\¬Fr it/\fB Fr R wr s p' gV/\f_ Fr R wr i k b1 b2 b3/\(∀k,Fr k->Grow F w wr k)/\Frame F w wr/\gV.eP .ref=q/\(gV.run i).length<=n0+4*pos
 le:pos<=t.size
 hit:wr.heap[it]?=some (.stringIter t pos)
 hw:w.heap.size<=it
variable{i:Rn}{k:Pl}{b1 b2 b3:Nat}{t:ByteArray}{it:Nat}{q:Int}{UR:St}{n0:Nat}{wr:World}{pos:Nat}
theorem fB.iterAt{Fr:Nat->Prop}(h:fB Fr R wr s p st)(hn:¬Fr it)(pos':Nat):fB Fr R (wr.iterAt it t pos') s p st:=by
 have hk:∀k,Fr k->(wr.iterAt it t pos').heap[k]?=wr.heap[k]?:=fun k hf=>Lib.iterAt_other wr it k t pos' (fun e=>hn (e▸hf));exact⟨(hk R h.jt).trans h.blk,h.jt,fun k hf=>by rw[Lib.iterAt_size];exact h.lt k hf,h.own.frame (fun k hf _=>hk k hf) (fun _ x=>x)⟩
theorem pL.iterAt{Fr:Nat->Prop}{b:Nat}{x:Value}{ty:TypeId}(h:pL Fr R wr b x ty)(hn:¬Fr it)(pos':Nat):pL Fr R (wr.iterAt it t pos') b x ty:=
 ⟨(Lib.iterAt_other wr it b t pos' (fun e=>hn (e▸h.2.1))).trans h.1,h.2⟩
theorem f_.iterAt{Fr:Nat->Prop}(h:f_ Fr R wr i k b1 b2 b3)(hn:¬Fr it)(pos':Nat):f_ Fr R (wr.iterAt it t pos') i k b1 b2 b3:=
 ⟨h.1.iterAt hn pos',h.2.1.iterAt hn pos',h.2.2.iterAt hn pos'⟩
theorem yT(st:St)(i:Rn)(c q:Int)(hi:i≠ .ref):(st.put i c q).eP .ref=st.eP .ref:=by simp[St.put,St.dT,Ne.symm hi]
theorem RL.step(h:RL F R w s i k b1 b2 b3 t it q UR n0 wr pos)(hi:i≠ .ref)(hp:pos<t.size)(D4:n0+4*t.size<=70368744177680):
  (wr.iterAt it t (pos+(Utf8.decode t pos).2)).cell? ⟨b2,0,none⟩=some (.pointer (some ⟨R,i.off,none⟩))/\(wr.iterAt it t (pos+(Utf8.decode t pos).2)).cell? ⟨R,19,none⟩=some (.int .i64 q)/\
  Z4 64 #[.pointer (some ⟨R,i.off,none⟩),.int .i32 ((Utf8.decode t pos).1:Int),.int .i64 q] (wr.iterAt it t (pos+(Utf8.decode t pos).2)).drew fun e w5=>e=.returned (.tuple #[])/\RL F R w s i k b1 b2 b3 t it q UR n0 w5 (pos+(Utf8.decode t pos).2)/\w5.cell? ⟨b2,0,none⟩=some (.pointer (some ⟨R,i.off,none⟩))/\w5.cell? ⟨R,19,none⟩=some (.int .i64 q):=by
 obtain⟨⟨Fr,p',gV,fuel,hf,he,hnF,r,bx,hG,fr,hq,hl⟩,hle,hit,hw⟩:=h;have hwd:=Ch.eE t pos hp;have r1:=r.iterAt (t:=t) hnF (pos+(Utf8.decode t pos).2);have bx1:=bx.iterAt (t:=t) hnF (pos+(Utf8.decode t pos).2);have Ik:=Lib.iterAt_heap wr it t pos (pos+(Utf8.decode t pos).2) hit;have hsz:=Lib.iterAt_size wr it t (pos+(Utf8.decode t pos).2);have nx:Frame F w (wr.iterAt it t (pos+(Utf8.decode t pos).2)):=⟨fr.os,fr.tape,fr.output,by rw[hsz];exact fr.size,fun k hk hF=>(Lib.iterAt_other wr it k t _ (by omega)).trans (fr.block k hk hF)⟩
 have hsc:=Ap t pos hp;have abK:=qq ((Utf8.decode t pos).1:Int);obtain⟨f,rfl⟩:∃f,fuel=f+1:=⟨fuel-1,by omega⟩
 have Zh:fN i t q f (pos+(Utf8.decode t pos).2) (gV.put i ((Utf8.decode t pos).1:Int) q)=UR.nV i t q:=by rw[<-he];simp only[fN,hp,if_true]
 generalize (wr.iterAt it t (pos+(Utf8.decode t pos).2))=w4 at*
 generalize hrn:((Utf8.decode t pos).1:Int)=rn at*
 generalize (Utf8.decode t pos).2=wd at*
 have c19:w4.cell? ⟨R,19,none⟩=some (.int .i64 q):=by rw[<-hq];exact r1.cell 19 rfl
 refine⟨iW bx1.2.1,c19,?_⟩;refine(kV r1 i rn q hsc (by omega)).mono ?_;rintro e w5 ⟨rfl,v,r5,f5,k5⟩;have aaV:w5.heap[it]?=some (.stringIter t (pos+wd)):=by
  have hlt:it<w4.heap.size:=(Array.getElem?_eq_some_iff.1 Ik).1;have hR:it≠R:=fun e=>by rw[e]at Ik;rw[r1.blk]at Ik;cases Ik
  rw[k5.block it hlt hR ?_]
  ·exact Ik
  ·intro e;obtain⟨cur,hc⟩:=fq (r1.own.run i) e.symm;rw[Ik]at hc;cases hc
 have bx5:=bx1.kept r1.own r1.lt k5;refine⟨rfl,⟨⟨Grow Fr w4 w5,_,_,f,by omega,Zh,?_,r5,bx5,?_,?_,?_,?_⟩,by omega,aaV,hw⟩,iW bx5.2.1,?_⟩
 ·intro hx;rcases hx with hx|hx
  ·exact hnF hx
  ·have hlt:it<w4.heap.size:=(Array.getElem?_eq_some_iff.1 Ik).1;omega
 ·intro j hj;rcases hj with hj|hj
  ·rcases hG j hj with hx|hx
   ·exact Or.inl hx
   ·exact Or.inr ⟨hx.1,by have:=f5.size;omega⟩
  ·exact Or.inr ⟨by have:=nx.size;omega,hj.2⟩
 ·exact⟨f5.os.trans nx.os,f5.tape.trans nx.tape,f5.output.trans nx.output,aw nx.size f5.size,fun j hj hF=>(f5.block j (aq hj nx.size) (fun x=>(hG j x).elim hF (fun y=>by omega))).trans (nx.block j hj hF)⟩
 ·rw[yT _ _ _ _ hi];exact hq
 ·have:=iw gV i i rn q;omega
 ·have hq5:(gV.put i rn q).eP .ref=q:=by rw[yT _ _ _ _ hi];exact hq
  have:=r5.cell 19 rfl;rw[<-hq5];exact this
theorem RL.last(h:RL F R w s i k b1 b2 b3 t it q UR n0 wr pos)(hp:¬pos<t.size)(hlt:∀k,F k->k<w.heap.size):
  wr.cell? ⟨b3,0,none⟩=some k.val/\dU F R w s ⟨UR.nV i t q,.go (.plain k)⟩ (.returned (.tuple #[k.val,.nilIface])) wr:=by
 obtain⟨⟨Fr,p',gV,fuel,hf,he,hnF,r,bx,hG,fr,hq,hl⟩,hle,hit,hw⟩:=h;refine⟨iW bx.2.2,?_⟩;obtain⟨f,rfl⟩:∃f,fuel=f+1:=⟨fuel-1,by omega⟩
 have Zh:gV=UR.nV i t q:=by rw[<-he];simp only[fN,hp,aQ]
 rw[<-Zh];exact dU.Pt (r.mono hG (iu hlt fr.size)) fr
theorem Bq(t:ByteArray):∀f pos acc,(Ch.fL t f pos acc).1.length<=acc.length+4*f:=by
 intro f;induction f with
 |zero=>intro pos acc;simp[Ch.fL]
 |succ f ih=>
  intro pos acc;unfold Ch.fL;have h1:=ih (pos+(Ch.ed t pos).2.toNat) (acc++Lib.encodeRune (Ch.ed t pos).1);have h2:=ih (pos+(Utf8.decode t pos).2) (acc++Lib.encodeRune (Utf8.decode t pos).1);have h3:=qq (Ch.ed t pos).1;have h4:=qq ((Utf8.decode t pos).1:Int);simp only[ax]at h1 h2
  repeat' split
  all_goals first|(simp only[aI];omega)|omega
end
section
variable{F:Nat->Prop}{R:Nat}{w w':World}{s:Src}{p:Ptr}{st:St}{c:Int}
def ju(i:Rn)(k:Pl)(fg:St):Out:=
 if(Ch.jZ ⟨(fg.run .ref).toArray⟩).2.1=0 then⟨fg.nV i ⟨(Ch.jZ ⟨(fg.run .ref).toArray⟩).1.toArray⟩ (fg.eP .ref),.go (.plain k)⟩else⟨fg,.fail 4 (fg.eP .ref)⟩
def nG(i:Rn)(k:Pl)(q:Int)(st:St)(c:Int):Out:=
 if Tk.pN c=true then(if c=59 then ju i k (st.put .ref 59 q)else⟨st.put .ref c q,.go (.ref i k)⟩)else⟨st,.fail 4 (st.eP .ref)⟩
theorem Bt(hT:Li w)(hf:Frame F w w')(h2:¬F 2):Li w':=by
 obtain⟨t,fr,hg⟩:=hT;exact⟨t,fr,by rw[hf.block 2 (Array.getElem?_eq_some_iff.1 hg).1 h2];exact hg⟩
theorem RL.start{w2 w3:World}{p2:Ptr}{fg:St}{i:Rn}{k:Pl}{b1 b2 b3:Nat}(t:ByteArray)(r2:fB (Grow F w w2) R w2 s p2 fg)(f2:Frame F w w2)(hN:f_ (Grow F w w2) R w2 i k b1 b2 b3)(hb:Z5 w2 w3):
  RL F R w s i k b1 b2 b3 t w3.heap.size (fg.eP .ref) fg (fg.run i).length (w3.iter t 0) 0:=by
 have hb4:Z5 w2 (w3.iter t 0):=hb.alloc hb.size _;have hlt:=r2.lt;refine⟨⟨Grow F w w2,p2,fg,t.size+1,by omega,rfl,?_,?_,?_,?_,?_,rfl,by omega⟩,by omega,World.iter_heap w3 t 0,aw f2.size hb.size⟩
 ·intro hx;have:=hlt _ hx;have:=hb.size;omega
 ·exact⟨(hb4.block R (hlt R r2.jt)).trans r2.blk,r2.jt,fun j hj=>aq (hlt j hj) hb4.size,r2.own.frame (fun j hj _=>hb4.block j (hlt j hj)) (fun _ x=>x)⟩
 ·exact⟨⟨(hb4.block b1 (hlt b1 hN.1.2.1)).trans hN.1.1,hN.1.2⟩,⟨(hb4.block b2 (hlt b2 hN.2.1.2.1)).trans hN.2.1.1,hN.2.1.2⟩,⟨(hb4.block b3 (hlt b3 hN.2.2.2.1)).trans hN.2.2.1,hN.2.2.2⟩⟩
 ·intro j hj;rcases hj with hj|hj
  ·exact Or.inl hj
  ·exact Or.inr ⟨hj.1,by have:=hb4.size;omega⟩
 ·exact⟨hb4.os.trans f2.os,hb4.tape.trans f2.tape,hb4.output.trans f2.output,aw f2.size hb4.size,fun j hj hF=>(hb4.block j (aq hj f2.size)).trans (f2.block j hj hF)⟩
theorem PA(h:fB F R w s p st)(i:Rn)(k:Pl)(b1 b2 b3:Nat)(hi:i≠ .ref)(hN:f_ F R w i k b1 b2 b3)(hs:(st.run i).length+16*(st.run .ref).length+120<=70368744177664)(hT:Li w)(h2:¬F 2):
  Z4 112 #[Z8 R,.int .i32 59,Z8 b1,Z8 b2,Z8 b3] w (dU F R w s (ju i k (st.put .ref 59 s.at_))):=by
 have hat:w.cell? ⟨R,2,none⟩=some (.int .i64 s.at_):=h.cell 2 rfl;have hp:=Ka h (c:=59) (by unfold h_;omega) i k b1 b2 b3 hN (by omega) w (Below.refl _ _);have uj:=iw st .ref .ref 59 s.at_;have hl2:=iw st .ref i 59 s.at_;have HT:=a_ hT;have H2:=a_ h2;have HLT:=a_ h.lt;clear h hN hT h2;generalize st.put .ref 59 s.at_=fg at*
 have xr:ju i k fg=if(Ch.jZ ⟨(fg.run .ref).toArray⟩).2.1=0 then⟨fg.nV i ⟨(Ch.jZ ⟨(fg.run .ref).toArray⟩).1.toArray⟩ (fg.eP .ref),.go (.plain k)⟩else⟨fg,.fail 4 (fg.eP .ref)⟩:=rfl;generalize ju i k fg=so at*
 have NH:=a_ xr;clear xr;go_enter func112,ntmps112;go_wp2_with fail;go_region_held3 (fun W=>W.cell? ⟨R,2,none⟩=some (.int .i64 s.at_))
  (first|exact hat|exact mW)
  (first|(go_at_call 64;refine hp.mono ?_;rintro e w2 ⟨rfl,v,r2,f2,n2⟩;have mW:w2.cell? ⟨R,2,none⟩=some (.int .i64 s.at_):=r2.cell 2 rfl;have N2:=a_ n2;clear n2))
 clear hp;have RM:Frame F w w2:=(Frame.refl F w).trans f2;have Td:fB (Grow F w w2) R w2 s _ fg:=r2.join (au _) f2.size;have n2':f_ (Grow F w w2) R w2 i k b1 b2 b3:=⟨N2.out.1.mono fun j hj=>(Grow.trans (au _) f2.size j).1 hj,N2.out.2.1.mono fun j hj=>(Grow.trans (au _) f2.size j).1 hj,N2.out.2.2.mono fun j hj=>(Grow.trans (au _) f2.size j).1 hj⟩
 have Ej:=Td.lt R Td.jt;obtain⟨ao,cap,hv⟩:=dS (Td.own.run .ref);have c18:w2.cell? ⟨R,18,none⟩=some (.slice ao (fg.run .ref).length cap):=by rw[<-hv];exact Td.cell 18 rfl
 have c19:w2.cell? ⟨R,19,none⟩=some (.int .i64 (fg.eP .ref)):=Td.cell 19 rfl;have hcv:(convert 101 9 (.slice ao (fg.run .ref).length cap)).run prog w2=.ok (.string ⟨(fg.run .ref).toArray⟩) w2:=by rw[<-hv];exact kR (Td.own.run .ref)
 have hsz:(⟨(fg.run .ref).toArray⟩:ByteArray).size=(fg.run .ref).length:=by show (fg.run .ref).toArray.size=_;simp
 have Wa:=CN ⟨(fg.run .ref).toArray⟩ w2 (by rw[hsz];omega) (Bt HT.out RM H2.out);have ND:=Bq ⟨(fg.run .ref).toArray⟩ (((⟨(fg.run .ref).toArray⟩:ByteArray).size)+1) 0 [];have Te:(Ch.jZ ⟨(fg.run .ref).toArray⟩).1.length<=4*((fg.run .ref).length+1):=by unfold Ch.jZ;rw[hsz]at ND ⊢;simpa using ND
 clear ND;have hst:=fun t w3 hb=>RL.start (k:=k) (w3:=w3) (i:=i) t Td RM n2' hb;have R2:=a_ Td;have F2:=a_ RM;have HST:=a_ hst;have HU:=a_ Te;clear r2 f2 N2 Td RM n2' hst hv Te mW;generalize hX:Ch.jZ ⟨(fg.run .ref).toArray⟩=X at*
 clear hX;obtain⟨X1,X2,X3⟩:=X;by_cases hz:X2=0
 ·have xr:so=⟨fg.nV i ⟨X1.toArray⟩ (fg.eP .ref),.go (.plain k)⟩:=by rw[NH.out,if_pos hz]
  subst hz;obtain⟨t,ht⟩:∃t:ByteArray,t=⟨X1.toArray⟩:=⟨_,rfl⟩
  have htz:t.size<=4*((fg.run .ref).length+1):=by rw[ht];show X1.toArray.size<=_;simpa using HU.out
  rw[<-ht]at Wa xr;subst xr;have D4:(fg.run i).length+4*t.size<=70368744177680:=by omega
  have HN0:=a_ D4;clear NH HU ht htz D4 uj hl2 hs hsz;have vC:k.val=.func (.func k.fn) #[] #[]:=rfl;have V6:=a_ vC;clear vC;go_wp2_with(go_at_call 114;refine Wa.mono ?_;rintro e w3 ⟨rfl,NI⟩);have Zi:=HST.out t w3 NI;have HS0:=a_ Zi;clear Zi Wa hcv c18 c19 HST;generalize (fg.run i).length=n0 at*
  go_loopw [] (fun wr=>∃pos,RL F R w s i k b1 b2 b3 t w3.heap.size (fg.eP .ref) fg n0 wr pos) (fun wr=>t.size-wr.iterPos w3.heap.size)
  case atStart=>exact⟨0,HS0.out⟩
  case round=>
   obtain⟨pos,Wc⟩:=hrel;by_cases hp:pos<t.size
   ·have D_:∀ty,(Instr.next (.pointer (some ⟨w3.heap.size,0,none⟩)) true ty).run prog wr=_:=fun ty=>Lib.run_next_any_at wr w3.heap.size t pos ty Wc.hit hp;obtain⟨d1,d2,d3⟩:=Wc.step hi hp HN0.out;have hwd:=Ch.eE t pos hp;have HRL:=a_ Wc;clear Wc;generalize ((Utf8.decode t pos).1:Int)=rn at*
    go_wp2_with fail;go_region_held3 (fun W=>W.cell? ⟨b2,0,none⟩=some (.pointer (some ⟨R,i.off,none⟩))/\W.cell? ⟨R,19,none⟩=some (.int .i64 (fg.eP .ref)))
     (first|exact⟨d1,d2⟩|exact⟨g1,g2⟩)
     (first|(go_at_call 64;refine d3.mono ?_;rintro e w5 ⟨rfl,hr5,g1,g2⟩))
    all_goals
     go_wp2
     go_roundw
     case rel=>exact⟨_,hr5⟩
     case measure=>
      simp only[World.iterPos,hr5.hit,HRL.out.hit];omega
   ·have D_:∀ty,(Instr.next (.pointer (some ⟨w3.heap.size,0,none⟩)) true ty).run prog wr=_:=fun ty=>Lib.run_next_end_at wr w3.heap.size t pos ty Wc.hit hp;obtain⟨d1,d2⟩:=Wc.last hp HLT.out;rw[V6.out]at d1 d2;have D2:=a_ d2;clear Wc d2;go_wp2
    go_ret2
    exact D2.out
 ·have ez:(X2 !=0)=true:=by simpa using hz
  have xr:so=⟨fg,.fail 4 (fg.eP .ref)⟩:=by rw[NH.out,if_neg hz]
  subst xr;clear hz NH;go_wp2_with(go_at_call 114;refine Wa.mono ?_;rintro e w3 ⟨rfl,NI⟩);have V_:=(NI.cell Ej).trans c19;go_region_held3 (fun W=>W.cell? ⟨R,19,none⟩=some (.int .i64 (fg.eP .ref)))
   (first|exact V_)
   (fail)
  all_goals
   go_wp2
   go_ret2
   exact(dU.gI R2.out NI.drew).after F2.out
end
section
variable{F:Nat->Prop}{R:Nat}{w w':World}{s:Src}{p:Ptr}{st:St}{c:Int}
structure St.PB(st:St):Prop where
 run:∀i,(st.run i).length<=70368744177664
 told:st.told.length<=1099511627776
 attrs:st.attrs.length<=1099511627776
 names:st.names.length<=1099511627776
theorem St.PB.small(h:st.PB):st.Small:=⟨fun i=>by have:=h.run i;omega,h.told,h.attrs,h.names⟩
theorem Fm(k:Pl)(h:fB F R w s p st)(hc:tG c)(hs:st.PB)(hf:s.Fits):
  Z4 k.fn #[Z8 R,.int .i32 c] w (dU F R w s (step k s.at_ st c)):=by
 have ht:=hs.run .text;have ha:=hs.run .attr;have hn:=hs.names;cases k with
 |between=>exact Ij h hc hs.small
 |less=>exact Ta h hc
 |nU=>exact S9 h hc
 |remark=>exact Be h hc
 |dash=>exact S2 h hc
 |ie=>exact CW h hc
 |order=>exact E3 h hc
 |mark=>exact S1 h hc
 |gH=>exact yO h hc (by omega)
 |bracket=>exact yP h hc (by omega) hf
 |brackets=>exact Fa h hc (by omega) hf
 |part=>exact jA h hc hs.small
 |ey=>exact LJ h hc hs.small
 |jn=>exact Ih h hc (by omega) (by omega)
 |qu=>exact E_ h hc
 |kQ=>exact LG h hc
 |ik=>exact LM h hc hs.small
 |iy=>exact qc h hc hs.small
 |closing=>exact Ic h hc hs.small
def b_(pt:Part)(q:Int)(st:St)(c:Int):Out:=
 match pt with
 | .plain k=>step k q st c
 | .word [] k=>⟨st,.go (.plain k)⟩
 | .word (x::l) k=>lx x l k q st c
 | .name i k=>stName i k q st c
 | .ref i k=>nG i k q st c
def Part.uL:Part->Prop
 | .plain _=>True
 | .word l _=>l≠[]/\l.length<=10
 | .name _ _=>True
 | .ref i _=>i≠ .ref
theorem LN(pt:Part)(v:Value)(h:fB F R w s p st)(Fp:fU F R w v pt)(xr:pt.uL)(hc:tG c)(hs:st.PB)(hx:∀i k,pt=.ref i k->(st.run i).length+16*(st.run .ref).length+120<=70368744177664)(hf:s.Fits)(hT:Li w)(h2:¬F 2):
  ∃f cs,v=.func (.func f) #[] cs/\(∀args w,(callFunc f args).run prog w=.ok (.enter f args) w)/\Z4 f (#[Z8 R,.int .i32 c]++cs) w (dU F R w s (b_ pt s.at_ st c)):=by
 cases pt with
 |plain k=>exact⟨k.fn,#[],Fp,Fg k,Fm k h hc hs hf⟩
 |word l k=>
  obtain⟨b1,b2,rfl,x1,x2⟩:=Fp;cases l with
  |nil=>exact absurd rfl xr.1
  |cons x l=>exact⟨186,_,rfl,enters_of func186 (by kernel_rfl) rfl,S_ h b1 b2 x l k x1 x2 (by have:=xr.2;simp at this;omega)⟩
 |name i k=>
  obtain⟨b1,b2,b3,rfl,x1,x2,x3⟩:=Fp;exact⟨146,_,rfl,enters_of func146 (by kernel_rfl) rfl,ug h hc i k b1 b2 b3 ⟨x1,x2,x3⟩ (by have:=hs.run i;omega) (fun _ F1 w1 p1 r=>Fm k r hc hs hf)⟩
 |ref i k=>
  obtain⟨b1,b2,b3,rfl,x1,x2,x3⟩:=Fp;refine⟨112,_,rfl,enters_of func112 (by kernel_rfl) rfl,?_⟩;have hr:=hs.run .ref;show Z4 112 _ w (dU F R w s (nG i k s.at_ st c));unfold nG;cases hb:Tk.pN c
  ·simp only[aA,aQ];exact Tc h hc _ _ _ hb
  ·simp only[if_true];by_cases mP:c=59
   ·subst mP;rw[if_pos rfl];exact PA h i k b1 b2 b3 xr ⟨x1,x2,x3⟩ (hx i k rfl) hT h2
   ·rw[if_neg mP];exact Pz h hc i k b1 b2 b3 ⟨x1,x2,x3⟩ (by omega) hb mP
theorem yU(k:Pl)(q:Int)(st:St)(c:Int):∀pt,(step k q st c).res=.go pt->pt.uL:=by
 intro pt;cases k<;>simp only[step,jo,fC,jH,gW,iC,fw,fx]<;>(repeat' split)<;>intro e<;>first|(cases e;done)|(cases e;simp[Part.uL])
end
end K
end Go.Proofs.YtclgfepngpeifaaGreatDoor
