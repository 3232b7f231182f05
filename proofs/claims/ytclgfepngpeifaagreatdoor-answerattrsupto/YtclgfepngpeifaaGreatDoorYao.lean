import Derived.Test.YtclgfepngpeifaaGreatDoorYA
import Derived.StringKeys
import Derived.Test.YtclgfepngpeifaaGreatDoorYam
import Derived.Test.YtclgfepngpeifaaGreatDoorYan
set_option linter.unusedVariables false
set_option linter.unusedSimpArgs false
set_option maxHeartbeats 32000000
set_option maxRecDepth 100000
namespace Go.Proofs.YtclgfepngpeifaaGreatDoor
namespace K
open Go.RowKit Go.Maps Tryz
section
variable{F:Nat->Prop}{R:Nat}{w w':World}{s:Src}{p:Ptr}{st:St}{c:Int}
theorem dW.PG{w':World}{s:Src}{p':Ptr}{ia:St}{pl:Pl}(h:fF (Grow F w w') R w' s p' ia)(hf:Frame F w w'):dW F R w s ⟨ia,.go (.plain pl)⟩ (.returned (.tuple #[pl.val,.nilIface])) w':=
 ⟨p',h,hf,_,rfl,rfl⟩
theorem Frame.Ie(hR:F R)(i:Nat)(v:Value):Frame F w (w.setCell ⟨R,i,none⟩ v):=
 ⟨rfl,rfl,rfl,by simp[World.setCell],fun k _ hf=>ak _ _ _ _ (fun e=>hf (by rw[e];exact hR))⟩
theorem fF.scalar{s':Src}{ia:St}(h:fF F R w s p st)(i:Nat)(v:Value)(hc:(cellsOf s p st).setIfInBounds i v=cellsOf s' p ia)(ho:Own F R (w.setCell ⟨R,i,none⟩ v) p st->Own F R (w.setCell ⟨R,i,none⟩ v) p ia):fF F R (w.setCell ⟨R,i,none⟩ v) s' p ia:=
 h.Ie (fun k hk=>ak _ _ _ _ hk) (by simp[World.setCell]) (by rw[<-hc];exact ej h.blk v) ho
theorem fF.PH(h:fF F R w' s p st)(hs:w'.heap.size=w.heap.size):fF (Grow F w w') R w' s p st:=
 h.mono (fun _ x=>Or.inl x) (fun k hk=>hk.elim (h.lt k) (fun x=>x.2))
theorem Fe(h:fF F R w s p st)(Wo:s9 c):
  Z4 207 #[Z8 R,.int .i32 c] w (dW F R w s (jK s.at_ st c)):=by
 have hat:=h.cell 2 rfl;have hb:=rj c w;have H:=a_ h;clear h;unfold jK;generalize Tk.blank c=b at*
 cases b
 ·simp only[aA,aQ];by_cases h1:c=61
  ·subst h1;go_enter func207,ntmps207;go_wp2_with(go_at_call 148;refine hb.mono ?_;rintro e w1 ⟨rfl,rfl⟩)
   go_ret2
   exact dW.oD H.out (Below.refl _ _)
  ·have e1:(c==61)=false:=by simpa using h1
   rw[if_neg h1];clear h1;go_enter func207,ntmps207;go_wp2_with(first|(go_at_call 148;refine hb.mono ?_;rintro e w1 ⟨rfl,rfl⟩)|(go_at_call 63;refine(gh R c s.at_ _ hat).mono ?_;rintro e w1 ⟨rfl,rfl⟩))
   go_ret2
   exact dW.gP H.out (Below.refl _ _)
 ·simp only[if_true];go_enter func207,ntmps207;go_wp2_with(go_at_call 148;refine hb.mono ?_;rintro e w1 ⟨rfl,rfl⟩)
  go_ret2
  exact dW.oD H.out (Below.refl _ _)
theorem LV(h:fF F R w s p st)(Wo:s9 c):
  Z4 213 #[Z8 R,.int .i32 c] w (dW F R w s (step .kP s.at_ st c)):=by
 have hat:=h.cell 2 rfl;have hq:w.cell? ⟨R,17,none⟩=some (.int .i32 st.quote):=h.cell 17 rfl;have f17:=h.free 17;have hb:=rj c w;have H:=a_ h;clear h;show Calls _ _ _ _ (dW F R w s (if Tk.blank c=true then⟨st,.go (.plain .kP)⟩else if c=34\/c=39 then⟨{st with quote:=c},.go (.plain .iw)⟩else⟨st,.fail (Tk.why c) s.at_⟩));generalize Tk.blank c=b at*
 cases b
 ·simp only[aA,aQ];by_cases h1:c=34
  ·rw[if_pos (Or.inl h1)];have e1:(c==34)=true:=by simpa using h1
   clear h1;go_enter func213,ntmps213;go_wp2_with(go_at_call 148;refine hb.mono ?_;rintro e w1 ⟨rfl,rfl⟩)
   go_ret2
   exact dW.PG ((H.out.scalar (ia:={st with quote:=c}) 17 (.int .i32 c) rfl (fun o=>⟨o.run,o.jk,o.apart,o.told,o.gV,o.attrs,o.eB,o.names⟩)).PH (by simp[World.setCell])) (Frame.Ie H.out.jz _ _)
  ·have e1:(c==34)=false:=by simpa using h1
   by_cases h2:c=39
   ·rw[if_pos (Or.inr h2)];have e2:(c==39)=true:=by simpa using h2
    clear h2 h1;go_enter func213,ntmps213;go_wp2_with(go_at_call 148;refine hb.mono ?_;rintro e w1 ⟨rfl,rfl⟩)
    go_ret2
    exact dW.PG ((H.out.scalar (ia:={st with quote:=c}) 17 (.int .i32 c) rfl (fun o=>⟨o.run,o.jk,o.apart,o.told,o.gV,o.attrs,o.eB,o.names⟩)).PH (by simp[World.setCell])) (Frame.Ie H.out.jz _ _)
   ·rw[if_neg (by omega)];have e2:(c==39)=false:=by simpa using h2
    clear h2 h1;go_enter func213,ntmps213;go_wp2_with(first|(go_at_call 148;refine hb.mono ?_;rintro e w1 ⟨rfl,rfl⟩)|(go_at_call 63;refine(gh R c s.at_ _ hat).mono ?_;rintro e w1 ⟨rfl,rfl⟩))
    go_ret2
    exact dW.gP H.out (Below.refl _ _)
 ·simp only[if_true];go_enter func213,ntmps213;go_wp2_with(go_at_call 148;refine hb.mono ?_;rintro e w1 ⟨rfl,rfl⟩)
  go_ret2
  exact dW.oD H.out (Below.refl _ _)
theorem Ty(h:fF F R w s p st)(Wo:s9 c):
  Z4 110 #[Z8 R,.int .i32 c] w (dW F R w s (step .nW s.at_ st c)):=by
 have hat:=h.cell 2 rfl;have H:=a_ h;clear h;by_cases h1:c=45
 ·subst h1;go_enter func110,ntmps110;go_wp2_with(go_at_call 151;refine(mh ⟨#[45]⟩ 152 _ (by decide+kernel)).mono ?_;rintro e w1 ⟨rfl,rfl⟩)
  go_ret2
  exact dW.word (l:=[45]) (pl:=.remark) H.out
 ·have e1:(c==45)=false:=by simpa using h1
  by_cases h2:c=91
  ·subst h2;go_enter func110,ntmps110;go_wp2_with(go_at_call 151;refine(mh ⟨#[67,68,65,84,65,91]⟩ 153 _ (by decide+kernel)).mono ?_;rintro e w1 ⟨rfl,rfl⟩)
   go_ret2
   exact dW.word (l:=[67,68,65,84,65,91]) (pl:=.gM) H.out
  ·have e2:(c==91)=false:=by simpa using h2
   rw[show step .nW s.at_ st c=⟨st,.fail (Tk.why c) s.at_⟩ by simp[step,h1,h2]];clear h1 h2;go_enter func110,ntmps110;go_wp2_with(go_at_call 63;refine(gh R c s.at_ _ hat).mono ?_;rintro e w1 ⟨rfl,rfl⟩)
   go_ret2
   exact dW.gP H.out (Below.refl _ _)
theorem Ij(h:fF F R w s p st)(Wo:s9 c)(hs:st.Small):
  Z4 108 #[Z8 R,.int .i32 c] w (dW F R w s (step .closing s.at_ st c)):=by
 have hat:=h.cell 2 rfl;have hb:=rj c w;have htc:=l5 h (by have:=hs.told;omega);have H:=a_ h;clear h hs;show Calls _ _ _ _ (dW F R w s (if Tk.blank c=true then⟨st,.go (.plain .closing)⟩else if c=62 then⟨st.fO,.go (.plain .between)⟩else⟨st,.fail (Tk.why c) s.at_⟩));generalize Tk.blank c=b at*
 generalize st.fO=qu at*
 cases b
 ·simp only[aA,aQ];by_cases h1:c=62
  ·rw[if_pos h1];have e1:(c==62)=true:=by simpa using h1
   clear h1;go_enter func108,ntmps108;go_wp2_with(first|(go_at_call 148;refine hb.mono ?_;rintro e w1 ⟨rfl,rfl⟩)|(go_at_call 149;refine htc.mono ?_;rintro e w1 ⟨rfl,p1,r1,f1⟩))
   go_ret2
   exact dW.PG r1 f1
  ·rw[if_neg h1];have e1:(c==62)=false:=by simpa using h1
   clear h1;go_enter func108,ntmps108;go_wp2_with(first|(go_at_call 148;refine hb.mono ?_;rintro e w1 ⟨rfl,rfl⟩)|(go_at_call 63;refine(gh R c s.at_ _ hat).mono ?_;rintro e w1 ⟨rfl,rfl⟩))
   go_ret2
   exact dW.gP H.out (Below.refl _ _)
 ·simp only[if_true];go_enter func108,ntmps108;go_wp2_with(go_at_call 148;refine hb.mono ?_;rintro e w1 ⟨rfl,rfl⟩)
  go_ret2
  exact dW.oD H.out (Below.refl _ _)
theorem jD(h:fF F R w s p st)(Wo:s9 c)(hs:st.Small):
  Z4 111 #[Z8 R,.int .i32 c] w (dW F R w s (jt s.at_ st c)):=by
 have hat:=h.cell 2 rfl;have hb:=rj c w;have hto:=pG h (by have:=hs.told;omega);have H:=a_ h;clear h hs;unfold jt;generalize Tk.blank c=b at*
 generalize st.eI=qu at*
 cases b
 ·simp only[aA,aQ];by_cases h0:c=47
  ·rw[if_pos h0];have e0:(c==47)=true:=by simpa using h0
   clear h0;go_enter func111,ntmps111;go_wp2_with(go_at_call 148;refine hb.mono ?_;rintro e w1 ⟨rfl,rfl⟩)
   go_ret2
   exact dW.oD H.out (Below.refl _ _)
  ·rw[if_neg h0];have e0:(c==47)=false:=by simpa using h0
   clear h0;by_cases h1:c=62
   ·rw[if_pos h1];have e1:(c==62)=true:=by simpa using h1
    clear h1;go_enter func111,ntmps111;go_wp2_with(first|(go_at_call 148;refine hb.mono ?_;rintro e w1 ⟨rfl,rfl⟩)|(go_at_call 156;refine hto.mono ?_;rintro e w1 ⟨rfl,p1,r1,f1⟩))
    go_ret2
    exact dW.PG r1 f1
   ·rw[if_neg h1];have e1:(c==62)=false:=by simpa using h1
    clear h1;go_enter func111,ntmps111;go_wp2_with(first|(go_at_call 148;refine hb.mono ?_;rintro e w1 ⟨rfl,rfl⟩)|(go_at_call 63;refine(gh R c s.at_ _ hat).mono ?_;rintro e w1 ⟨rfl,rfl⟩))
    go_ret2
    exact dW.gP H.out (Below.refl _ _)
 ·simp only[if_true];go_enter func111,ntmps111;go_wp2_with(go_at_call 148;refine hb.mono ?_;rintro e w1 ⟨rfl,rfl⟩)
  go_ret2
  exact dW.oD H.out (Below.refl _ _)
theorem C0(st:St):st.eI.told.length<=st.told.length+2:=by
 unfold St.eI St.dZ;split
 ·simp
 ·simp[St.clear,St.dV]
theorem p8(h:fF F R w s p st)(Wo:s9 c)(hs:st.Small):
  Z4 155 #[Z8 R,.int .i32 c] w (dW F R w s (step .im s.at_ st c)):=by
 have hat:=h.cell 2 rfl;have hto:=pG h (by have:=hs.told;omega);have hsl:st.eI.told.length<=1099511627780:=by have:=hs.told;have:=C0 st;omega
 have H:=a_ h;clear h hs;show Calls _ _ _ _ (dW F R w s (if c=62 then⟨st.eI.fO,.go (.plain .between)⟩else⟨st,.fail (Tk.why c) s.at_⟩));generalize st.eI=qu at*
 by_cases h1:c=62
 ·rw[if_pos h1];have e1:(c==62)=true:=by simpa using h1
  clear h1;have htc:∀{w1:World} {p1:Ptr},fF (Grow F w w1) R w1 s p1 qu->_:=fun{w1 p1} r=>l5 r hsl;go_enter func155,ntmps155;go_wp2_with(first|(go_at_call 156;refine hto.mono ?_;rintro e w1 ⟨rfl,p1,r1,f1⟩));refine(l5 r1 hsl).mono ?_;rintro e w2 ⟨rfl,p2,r2,f2⟩;go_wp2
  go_ret2
  exact dW.PG (r2.join f1.size f2.size) (f1.trans f2)
 ·rw[if_neg h1];have e1:(c==62)=false:=by simpa using h1
  clear h1;go_enter func155,ntmps155;go_wp2_with(go_at_call 63;refine(gh R c s.at_ _ hat).mono ?_;rintro e w1 ⟨rfl,rfl⟩)
  go_ret2
  exact dW.gP H.out (Below.refl _ _)
end
section
variable{F:Nat->Prop}{R:Nat}{w w':World}{s:Src}{p:Ptr}{st:St}{c:Int}
theorem fF.drew(h:fF F R w s p st):fF F R w.drew s p st:=⟨h.blk,h.jz,h.lt,h.own.frame (fun _ _ _=>rfl) (fun _ x=>x)⟩
theorem kU(h:fF F R w s p st)(i:Rn)(c q:Int)(hc:ig c)(hn:(st.run i).length<=70368744177700):
  Z4 64 #[.pointer (some ⟨R,i.off,none⟩),.int .i32 c,.int .i64 q] w.drew fun e w'=>e=.returned (.tuple #[])/\∃v,fF (Grow F w w') R w' s (p.dV i v) (st.put i c q)/\Frame F w w'/\Kept R (p.run i).ownBlock w w':=by
 refine(Tn h.drew i c q hc (by omega)).mono ?_;rintro e w1 ⟨rfl,v,r1,k1⟩;have k2:Kept R (p.run i).ownBlock w w1:=⟨k1.os,k1.tape,k1.output,k1.size,k1.block⟩
 exact⟨rfl,v,r1,h.Wn k2,k2⟩
theorem iB(st:St)(i j:Rn)(c q:Int):((st.put i c q).run j).length<=(st.run j).length+4:=by
 simp only[St.put,St.dV];split
 ·rename_i e;subst e;have:=ql c;simp;omega
 ·omega
theorem yI(h:fF F R w s p st)(hc:s9 c)(hs:(st.run .text).length<=70368744177690):
  Z4 153 #[Z8 R,.int .i32 c] w (dW F R w s (fB s.at_ st c)):=by
 have hat:w.cell? ⟨R,2,none⟩=some (.int .i64 s.at_):=h.cell 2 rfl;unfold fB;by_cases h1:c=93
 ·rw[if_pos h1];have e1:(c==93)=true:=by simpa using h1
  have H:=a_ h;clear h1 h hc hs;go_enter func153,ntmps153;go_wp2
  go_ret2
  exact dW.oD H.out (Below.refl _ _)
 ·rw[if_neg h1];have e1:(c==93)=false:=by simpa using h1
  by_cases h2:c<0
  ·rw[if_pos h2];have H:=a_ h;clear h1 h hc hs;go_enter func153,ntmps153;go_wp2_with(go_at_call 63;refine(gh R c s.at_ _ hat).mono ?_;rintro e w1 ⟨rfl,rfl⟩)
   go_ret2
   exact dW.gP H.out (Below.refl _ _)
  ·rw[if_neg h2];have hp:=kU h .text c s.at_ (oF hc (by omega)) (by omega);have H:=a_ h;clear h1 h hc hs;generalize st.put .text c s.at_=qu at*
   go_enter func153,ntmps153;go_wp2_with fail;go_region_held3 (fun W=>W.cell? ⟨R,2,none⟩=some (.int .i64 s.at_))
    (first|exact hat|exact mV)
    (first|(go_at_call 64;refine hp.mono ?_;rintro e w1 ⟨rfl,v,r1,f1,k1⟩;have mV:w1.cell? ⟨R,2,none⟩=some (.int .i64 s.at_):=r1.cell 2 rfl))
   all_goals
    go_wp2
    go_ret2
    exact dW.PG r1 f1
theorem pF.mono{F':Nat->Prop}{b:Nat}{x:Value}{t:TypeId}(h:pF F R w b x t)(hF:∀k,F k->F' k):pF F' R w b x t:=⟨h.1,hF b h.2.1,h.2.2⟩
theorem fZ.mono{F':Nat->Prop}{v:Value}{pt:Part}(h:fZ F R w v pt)(hF:∀k,F k->F' k):fZ F' R w v pt:=by
 cases pt with
 |plain p=>exact h
 |word l p=>obtain⟨b1,b2,e,h1,h2⟩:=h;exact⟨b1,b2,e,h1.mono hF,h2.mono hF⟩
 |name i p=>obtain⟨b1,b2,b3,e,h1,h2,h3⟩:=h;exact⟨b1,b2,b3,e,h1.mono hF,h2.mono hF,h3.mono hF⟩
 |ref i p=>obtain⟨b1,b2,b3,e,h1,h2,h3⟩:=h;exact⟨b1,b2,b3,e,h1.mono hF,h2.mono hF,h3.mono hF⟩
theorem dW.after{w1 w2:World}{o:Out}{e:Ending}(h:dW (Grow F w w1) R w1 s o e w2)(f1:Frame F w w1):dW F R w s o e w2:=by
 obtain⟨p',r,f,h⟩:=h;refine⟨p',r.join f1.size f.size,f1.trans f,?_⟩;cases hr:o.res with
 |go part=>rw[hr]at h;obtain⟨v,h1,h2⟩:=h;exact⟨v,h1,h2.mono fun k hk=>(Grow.trans f1.size f.size k).1 hk⟩
 |stop=>rw[hr]at h;exact h
 |fail no q=>rw[hr]at h;exact h
def Src.Fits(s:Src):Prop:=0<=s.at_/\s.at_<=1152921504606846976
theorem yJ(h:fF F R w s p st)(hc:s9 c)(hs:(st.run .text).length<=70368744177680)(hf:s.Fits):
  Z4 188 #[Z8 R,.int .i32 c] w (dW F R w s (fC s.at_ st c)):=by
 have hat:w.cell? ⟨R,2,none⟩=some (.int .i64 s.at_):=h.cell 2 rfl;obtain⟨ZD,RU⟩:=hf;unfold fC;by_cases h1:c=93
 ·rw[if_pos h1];have e1:(c==93)=true:=by simpa using h1
  have H:=a_ h;clear h1 h hc hs;go_enter func188,ntmps188;go_wp2
  go_ret2
  exact dW.oD H.out (Below.refl _ _)
 ·rw[if_neg h1];have e1:(c==93)=false:=by simpa using h1
  have hp:=kU h .text 93 (s.at_-1) (by unfold ig;omega) (by omega);have hl:=iB st .text .text 93 (s.at_-1);have xk:∀(w1:World) (p1:Ptr),fF (Grow F w w1) R w1 s p1 (st.put .text 93 (s.at_-1))->Z4 153 #[Z8 R,.int .i32 c] w1 (dW (Grow F w w1) R w1 s (fB s.at_ (st.put .text 93 (s.at_-1)) c)):=fun _ _ r=>yI r hc (by omega);have NW:=a_ xk;have hwr:IntKind.i64.wrap (s.at_-1)=s.at_-1:=by rw[aM];omega
  clear h1 h hc hs hl xk;generalize st.put .text 93 (s.at_-1)=qu at*
  generalize fB s.at_ qu c=o at*
  go_enter func188,ntmps188;go_wp2_with fail;go_region_held3 (fun W=>W.cell? ⟨R,2,none⟩=some (.int .i64 s.at_))
   (first|exact hat|exact mV)
   (first|(go_at_call 64;refine hp.mono ?_;rintro e w1 ⟨rfl,v,r1,f1,k1⟩;have mV:w1.cell? ⟨R,2,none⟩=some (.int .i64 s.at_):=r1.cell 2 rfl))
  all_goals
   go_wp2_with(go_at_call 153;refine(NW.out _ _ r1).mono ?_);intro e w2 hP;obtain⟨v1,v2,rfl⟩:=hP.two;go_wp2
   go_ret2
   exact hP.after f1
theorem Ff(h:fF F R w s p st)(hc:s9 c)(hs:(st.run .text).length<=70368744177670)(hf:s.Fits):
  Z4 205 #[Z8 R,.int .i32 c] w (dW F R w s (step .brackets s.at_ st c)):=by
 have hat:w.cell? ⟨R,2,none⟩=some (.int .i64 s.at_):=h.cell 2 rfl;have hf':=hf;obtain⟨ZD,RU⟩:=hf;show Calls _ _ _ _ (dW F R w s (if c=62 then⟨st,.go (.plain .between)⟩else fC s.at_ (st.put .text 93 (s.at_-2)) c));by_cases h1:c=62
 ·rw[if_pos h1];have e1:(c==62)=true:=by simpa using h1
  have H:=a_ h;clear h1 h hc hs hf';go_enter func205,ntmps205;go_wp2
  go_ret2
  exact dW.oD H.out (Below.refl _ _)
 ·rw[if_neg h1];have e1:(c==62)=false:=by simpa using h1
  have hp:=kU h .text 93 (s.at_-2) (by unfold ig;omega) (by omega);have hl:=iB st .text .text 93 (s.at_-2);have xk:∀(w1:World) (p1:Ptr),fF (Grow F w w1) R w1 s p1 (st.put .text 93 (s.at_-2))->Z4 188 #[Z8 R,.int .i32 c] w1 (dW (Grow F w w1) R w1 s (fC s.at_ (st.put .text 93 (s.at_-2)) c)):=fun _ _ r=>yJ r hc (by omega) hf';have NW:=a_ xk;have hwr:IntKind.i64.wrap (s.at_-2)=s.at_-2:=by rw[aM];omega
  clear h1 h hc hs hl xk hf';generalize st.put .text 93 (s.at_-2)=qu at*
  generalize fC s.at_ qu c=o at*
  go_enter func205,ntmps205;go_wp2_with fail;go_region_held3 (fun W=>W.cell? ⟨R,2,none⟩=some (.int .i64 s.at_))
   (first|exact hat|exact mV)
   (first|(go_at_call 64;refine hp.mono ?_;rintro e w1 ⟨rfl,v,r1,f1,k1⟩;have mV:w1.cell? ⟨R,2,none⟩=some (.int .i64 s.at_):=r1.cell 2 rfl))
  all_goals
   go_wp2_with(go_at_call 188;refine(NW.out _ _ r1).mono ?_);intro e w2 hP;obtain⟨v1,v2,rfl⟩:=hP.two;go_wp2
   go_ret2
   exact hP.after f1
end
section
variable{F:Nat->Prop}{R:Nat}{w w':World}{s:Src}{p:Ptr}{st:St}{c:Int}
def ll(x:UInt8)(l:List UInt8)(k:Pl)(q:Int)(st:St)(c:Int):Out:=
 if c=x.toNat then(if l=[]then⟨st,.go (.plain k)⟩else⟨st,.go (.word l k)⟩)else⟨st,.fail (Tk.why c) q⟩
theorem iZ{b:Nat}{x:Value}{t:TypeId}(h:pF F R w b x t):w.cell? ⟨b,0,none⟩=some x:=cell_of h.1 rfl
theorem dW.Wy{w0:World}{l:List UInt8}{pl:Pl}(h:fF F R w0 s p st)(hb:Z5 w0 w):dW F R w0 s ⟨st,.go (.word l pl)⟩ (.returned (.tuple #[.func (.func 186) #[] #[ux w.heap.size,ux (w.heap.size+1)],.nilIface])) ((w.alloc (.cells #[eA l] 9)).alloc (.cells #[pl.val] 100)):=by
 have hR:=h.lt R h.jz;have hs:=hb.size;have hb2:Z5 w0 ((w.alloc (.cells #[eA l] 9)).alloc (.cells #[pl.val] 100)):=(hb.alloc hs _).alloc (by simp;omega) _;refine⟨p,h.below hb2,Frame.below hb2,_,rfl,w.heap.size,w.heap.size+1,rfl,⟨?_,Or.inr ⟨by omega,by simp;omega⟩,by omega⟩,⟨?_,Or.inr ⟨by omega,by simp⟩,by omega⟩⟩
 ·rw[ay _ _ _ (by simp)];exact bf w _
 ·have:=bf (w.alloc (.cells #[eA l] 9)) (.cells #[pl.val] 100);simpa using this
theorem Fg(w:World)(o o':Obj):Z5 w ((w.drew.alloc o).alloc o'):=((Below.refl _ w).drew.alloc (au _) o).alloc (by simp) o'
theorem Tz(h:fF F R w s p st)(b1 b2:Nat)(x:UInt8)(l:List UInt8)(k:Pl)(h1:pF F R w b1 (eA (x::l)) 9)(h2:pF F R w b2 k.val 100)(hl:l.length<=10):
  Z4 186 #[Z8 R,.int .i32 c,Z8 b1,Z8 b2] w (dW F R w s (ll x l k s.at_ st c)):=by
 have hat:w.cell? ⟨R,2,none⟩=some (.int .i64 s.at_):=h.cell 2 rfl;obtain⟨t,ht⟩:∃t:ByteArray,t=⟨(x::l).toArray⟩:=⟨_,rfl⟩
 have c1:w.cell? ⟨b1,0,none⟩=some (.string t):=by rw[ht];exact iZ h1
 have c2:w.cell? ⟨b2,0,none⟩=some (.func (.func k.fn) #[] #[]):=iZ h2;have hsz:t.size=l.length+1:=by rw[ht];show (x::l).toArray.size=_;simp
 have hs0:0<t.size:=by omega
 have hx:wrap32 ((t[0]'hs0).toNat:Int)=x.toNat:=by
  subst ht;have:(x.toNat:Int)<256:=by have:=x.toNat_lt;omega
  show wrap32 (x.toNat:Int)=x.toNat;unfold wrap32;omega
 have LW:(t.extract 1 t.size)=⟨l.toArray⟩:=by
  rw[ht];apply cQ;simp[ByteArray.size]
 have H:=a_ h;clear h h1 h2 ht;unfold ll;have u_:k.val=.func (.func k.fn) #[] #[]:=rfl;have Wz:=a_ u_;generalize k.fn=kn at*
 clear u_;by_cases hc:c=x.toNat
 ·rw[if_pos hc];have e1:(c !=wrap32 ((t[0]'hs0).toNat:Int))=false:=by rw[hx,hc];simp
  clear hc hx;have hs1:(1:Int)<=(t.size:Int):=by omega
  by_cases hl0:l=[]
  ·rw[if_pos hl0];have hem:(t.extract 1 t.size).toList.isEmpty=true:=by rw[LW,hl0];decide+kernel
   clear LW hl0 hl hsz;go_enter func186,ntmps186;go_wp2_with fail;go_region_held3 (fun W=>W.cell? ⟨b1,0,none⟩=some (.string t)/\W.cell? ⟨b2,0,none⟩=some (.func (.func kn) #[] #[]))
    (first|exact⟨c1,c2⟩|exact⟨dX _ (dX _ c1),dX _ (dX _ c2)⟩)
    (first|(go_at_call 151;refine(CU _ _ _ hem).mono ?_;rintro e w1 ⟨rfl,rfl⟩))
   all_goals
    go_wp2
    go_ret2
    rw[<-Wz.out];exact dW.oD H.out (Fg _ _ _)
  ·rw[if_neg hl0];have hem:(t.extract 1 t.size).toList.isEmpty=false:=by
    rw[LW,cJ];cases l with
    |nil=>exact absurd rfl hl0
    |cons a b=>rfl
   have HX:=a_ LW;clear LW hl0 hl hsz;go_enter func186,ntmps186;go_wp2_with fail;go_region_held3 (fun W=>W.cell? ⟨b1,0,none⟩=some (.string t)/\W.cell? ⟨b2,0,none⟩=some (.func (.func kn) #[] #[]))
    (first|exact⟨c1,c2⟩|exact⟨dX _ (dX _ c1),dX _ (dX _ c2)⟩)
    (first|(go_at_call 151;refine(mh _ _ _ hem).mono ?_;rintro e w1 ⟨rfl,rfl⟩))
   all_goals
    go_wp2
    go_ret2
    rw[<-Wz.out,HX.out];exact dW.Wy H.out (Below.refl _ w).drew
 ·rw[if_neg hc];have e1:(c !=wrap32 ((t[0]'hs0).toNat:Int))=true:=by rw[hx];simpa using hc
  clear hc hx LW hl hsz;go_enter func186,ntmps186;go_wp2_with(go_at_call 63;refine(gh R c s.at_ _ hat).mono ?_;rintro e w1 ⟨rfl,rfl⟩)
  go_ret2
  exact dW.gP H.out (Below.refl _ _)
end
section
variable{F:Nat->Prop}{R:Nat}{w w':World}{s:Src}{p:Ptr}{st:St}{c:Int}
theorem Fh(W:World)(n:Nat)(h:W.heap.size=n)(v:Value)(t:TypeId):(W.alloc (.cells #[v] t)).cell? ⟨n,0,none⟩=some v:=by subst h;exact cell_of (bf W _) rfl
theorem Fi(W:World)(n:Nat)(h:W.heap.size=n)(v:Value)(t:TypeId):(W.alloc (.cells #[v] t)).frozen? ⟨n,0,none⟩=false:=by subst h;exact d_ (bf W _)
theorem qw(W:World)(a:Addr)(u v:Value)(h1:v.oneCell'=true)(h:W.cell? a=some u)(hf:W.frozen? a=false):(store a v).run prog W=.ok () (W.setCell a v):=by
 rw[run_store prog W a v _ h1,h];simp[hf]
theorem Ai(R o kn:Nat)(x y:Value)(w:World)(hlt:R<w.heap.size)(c0:w.cell? ⟨R,o,none⟩=some x)(c1:w.cell? ⟨R,o+1,none⟩=some y)(f0:w.frozen? ⟨R,o,none⟩=false)(f1:w.frozen? ⟨R,o+1,none⟩=false):
  Z4 107 #[.pointer (some ⟨R,o,none⟩),.func (.func kn) #[] #[]] w fun e w'=>e=.returned (.func (.func 146) #[] #[.pointer (some ⟨w.heap.size,0,none⟩),.pointer (some ⟨w.heap.size+1,0,none⟩),.pointer (some ⟨w.heap.size+1+1,0,none⟩)])/\
   w'=((((w.setCell ⟨R,o,none⟩ (.slice none 0 0)).setCell ⟨R,o+1,none⟩ (.int .i64 0)).alloc (.cells #[.pointer (some ⟨R,o,none⟩)] 154)).alloc (.cells #[.func (.func kn) #[] #[]] 100)).alloc (.cells #[.func (.func 146) #[] #[.pointer (some ⟨w.heap.size,0,none⟩),.pointer (some ⟨w.heap.size+1,0,none⟩),.pointer (some ⟨w.heap.size+1+1,0,none⟩)]] 100):=by
 have k0:=Fh ((((w.setCell ⟨R,o,none⟩ (.slice none 0 0)).setCell ⟨R,o+1,none⟩ (.int .i64 0)).alloc (.cells #[.pointer (some ⟨R,o,none⟩)] 154)).alloc (.cells #[.func (.func kn) #[] #[]] 100)) (w.heap.size+1+1) (by simp[World.setCell]) .nilFunc 100;have k1:=Fi ((((w.setCell ⟨R,o,none⟩ (.slice none 0 0)).setCell ⟨R,o+1,none⟩ (.int .i64 0)).alloc (.cells #[.pointer (some ⟨R,o,none⟩)] 154)).alloc (.cells #[.func (.func kn) #[] #[]] 100)) (w.heap.size+1+1) (by simp[World.setCell]) .nilFunc 100;have hst:=qw _ _ _ (.func (.func 146) #[] #[.pointer (some ⟨w.heap.size,0,none⟩),.pointer (some ⟨w.heap.size+1,0,none⟩),.pointer (some ⟨w.heap.size+1+1,0,none⟩)]) rfl k0 k1;clear k0 k1;go_enter func107,ntmps107;go_wp2;go_ret;exact⟨rfl,rfl⟩
theorem fF.yK(h:fF F R w s p st)(i:Rn):fF F R ((w.setCell ⟨R,i.off,none⟩ (.slice none 0 0)).setCell ⟨R,i.off+1,none⟩ (.int .i64 0)) s (p.dV i (.slice none 0 0)) (st.clear i):=by
 have hb:=ej (i:=i.off+1) (ej (i:=i.off) h.blk (.slice none 0 0)) (.int .i64 0);have hk:∀k,k≠R->((w.setCell ⟨R,i.off,none⟩ (.slice none 0 0)).setCell ⟨R,i.off+1,none⟩ (.int .i64 0)).heap[k]?=w.heap[k]?:=fun k hk=>by rw[ak _ _ _ _ hk,ak _ _ _ _ hk]
 have hs:((w.setCell ⟨R,i.off,none⟩ (.slice none 0 0)).setCell ⟨R,i.off+1,none⟩ (.int .i64 0)).heap.size=w.heap.size:=by simp[World.setCell]
 generalize (w.setCell ⟨R,i.off,none⟩ (.slice none 0 0)).setCell ⟨R,i.off+1,none⟩ (.int .i64 0)=w2 at*
 have hlt:∀k,F k->k<w2.heap.size:=fun k hf=>by rw[hs];exact h.lt k hf
 refine⟨?_,h.jz,hlt,(h.own.frame (fun k _ hr=>hk k hr) (fun _ x=>x)).clear hlt h.jz i⟩;rw[hb];cases i<;>rfl
theorem Frame.yK(h:fF F R w s p st)(i:Rn):Frame F w ((w.setCell ⟨R,i.off,none⟩ (.slice none 0 0)).setCell ⟨R,i.off+1,none⟩ (.int .i64 0)):=
 (Frame.Ie h.jz _ _).same (Frame.Ie h.jz _ _)
theorem td(s:Src)(p:Ptr)(st:St)(i:Rn)(h:fF F R w s p st):w.cell? ⟨R,i.off,none⟩=some (p.run i)/\w.cell? ⟨R,i.off+1,none⟩=some (.int .i64 (st.eV i)):=
 ⟨cell_of h.blk (rk s p st i).1,cell_of h.blk (rk s p st i).2⟩
theorem size_setCell(w:World)(a:Addr)(v:Value):(w.setCell a v).heap.size=w.heap.size:=by simp[World.setCell]
theorem C7(w:World)(a b c:Obj):Z5 w (((w.alloc a).alloc b).alloc c)/\(((w.alloc a).alloc b).alloc c).heap[w.heap.size]?=some a/\(((w.alloc a).alloc b).alloc c).heap[w.heap.size+1]?=some b/\(((w.alloc a).alloc b).alloc c).heap[w.heap.size+1+1]?=some c/\(((w.alloc a).alloc b).alloc c).heap.size=w.heap.size+3:=by
 refine⟨(rp w a b).alloc (by simp;omega) c,?_,?_,?_,by simp⟩
 ·rw[ay _ _ _ (by simp;omega),ay _ _ _ (by simp)];exact bf w a
 ·rw[ay _ _ _ (by simp)];have:=bf (w.alloc a) b;simpa using this
 ·have:=bf ((w.alloc a).alloc b) c;simpa using this
theorem o7(h:fF F R w s p st)(i:Rn)(k:Pl):
  Z4 107 #[.pointer (some ⟨R,i.off,none⟩),.func (.func k.fn) #[] #[]] w fun e w'=>∃b1 b2 b3 p',e=.returned (.func (.func 146) #[] #[Z8 b1,Z8 b2,Z8 b3])/\
   pF (Grow F w w') R w' b1 (.pointer (some ⟨R,i.off,none⟩)) 154/\pF (Grow F w w') R w' b2 k.val 100/\pF (Grow F w w') R w' b3 (.func (.func 146) #[] #[Z8 b1,Z8 b2,Z8 b3]) 100/\
   fF (Grow F w w') R w' s p' (st.clear i)/\Frame F w w':=by
 have hR:=h.lt R h.jz;refine(Ai R i.off k.fn _ _ w hR (td s p st i h).1 (td s p st i h).2 (d_ h.blk) (d_ h.blk)).mono ?_;rintro e w' ⟨rfl,rfl⟩;have r:=h.yK i;have f:=Frame.yK h i;have hsz:((w.setCell ⟨R,i.off,none⟩ (.slice none 0 0)).setCell ⟨R,i.off+1,none⟩ (.int .i64 0)).heap.size=w.heap.size:=by simp[World.setCell]
 generalize (w.setCell ⟨R,i.off,none⟩ (.slice none 0 0)).setCell ⟨R,i.off+1,none⟩ (.int .i64 0)=w2 at*
 obtain⟨hb,a1,a2,a3,az⟩:=C7 w2 (.cells #[.pointer (some ⟨R,i.off,none⟩)] 154) (.cells #[.func (.func k.fn) #[] #[]] 100) (.cells #[.func (.func 146) #[] #[.pointer (some ⟨w.heap.size,0,none⟩),.pointer (some ⟨w.heap.size+1,0,none⟩),.pointer (some ⟨w.heap.size+1+1,0,none⟩)]] 100);generalize ((w2.alloc (.cells #[.pointer (some ⟨R,i.off,none⟩)] 154)).alloc (.cells #[.func (.func k.fn) #[] #[]] 100)).alloc (.cells #[.func (.func 146) #[] #[.pointer (some ⟨w.heap.size,0,none⟩),.pointer (some ⟨w.heap.size+1,0,none⟩),.pointer (some ⟨w.heap.size+1+1,0,none⟩)]] 100)=w3 at*
 rw[hsz]at a1 a2 a3 az;have hG:∀k,Grow F w2 w3 k->Grow F w w3 k:=fun k hk=>by unfold Grow at*;rw[hsz]at hk;exact hk
 refine⟨w.heap.size,w.heap.size+1,w.heap.size+1+1,_,rfl,⟨a1,Or.inr (by omega),by omega⟩,⟨a2,Or.inr (by omega),by omega⟩,⟨a3,Or.inr (by omega),by omega⟩,(r.below hb).mono hG (fun k hk=>?_),f.same (Frame.below hb)⟩;exact(r.below hb).lt k (by unfold Grow at*;rw[hsz];exact hk)
end
section
variable{F:Nat->Prop}{R:Nat}{w w':World}{s:Src}{p:Ptr}{st:St}{c:Int}
def stName(i:Rn)(k:Pl)(q:Int)(st:St)(c:Int):Out:=
 if(st.run i).length=0 then fH i k q st c else if(Ch.eG c||Ch.fk c)=true then⟨st.put i c q,.go (.name i k)⟩else step k q st c
theorem lT{b:Nat}{x:Value}{t:TypeId}{i:Rn}(h:pF F R w b x t)(ho:Own F R w p st)(ht:t≠5)(hlt:∀k,F k->k<w.heap.size)(hK:Kept R (p.run i).ownBlock w w'):pF (Grow F w w') R w' b x t:=by
 refine⟨?_,Or.inl h.2.1,h.2.2⟩;rw[hK.block b (hlt b h.2.1) h.2.2 ?_]
 ·exact h.1
 ·intro e;obtain⟨cur,hc⟩:=fA (ho.run i) e.symm;rw[h.1]at hc;simp only[bL,cW]at hc;exact ht hc.2.1
theorem kD{b:Nat}{x:Value}{t:TypeId}(h:pF F R w b x t)(hlt:∀k,F k->k<w.heap.size)(hb:Z5 w w'):pF (Grow F w w') R w' b x t:=
 ⟨(hb.block b (hlt b h.2.1)).trans h.1,Or.inl h.2.1,h.2.2⟩
def i_(F:Nat->Prop)(R:Nat)(w:World)(i:Rn)(k:Pl)(b1 b2 b3:Nat):Prop:=
 pF F R w b1 (.pointer (some ⟨R,i.off,none⟩)) 154/\pF F R w b2 k.val 100/\pF F R w b3 (.func (.func 146) #[] #[Z8 b1,Z8 b2,Z8 b3]) 100
theorem i_.below{i:Rn}{k:Pl}{b1 b2 b3:Nat}(h:i_ F R w i k b1 b2 b3)(hlt:∀k,F k->k<w.heap.size)(hb:Z5 w w'):i_ (Grow F w w') R w' i k b1 b2 b3:=
 ⟨kD h.1 hlt hb,kD h.2.1 hlt hb,kD h.2.2 hlt hb⟩
theorem i_.kept{i j:Rn}{k:Pl}{b1 b2 b3:Nat}(h:i_ F R w i k b1 b2 b3)(ho:Own F R w p st)(hlt:∀k,F k->k<w.heap.size)(hK:Kept R (p.run j).ownBlock w w'):i_ (Grow F w w') R w' i k b1 b2 b3:=
 ⟨lT h.1 ho (by decide) hlt hK,lT h.2.1 ho (by decide) hlt hK,lT h.2.2 ho (by decide) hlt hK⟩
theorem wJ{w1 w2:World}{i:Rn}{k:Pl}{b1 b2 b3:Nat}{v:Value}{ia:St}(hb:Z5 w w1)(r2:fF (Grow (Grow F w w1) w1 w2) R w2 s (p.dV i v) ia)(f2:Frame (Grow F w w1) w1 w2)(hn:i_ (Grow (Grow F w w1) w1 w2) R w2 i k b1 b2 b3):
  dW F R w s ⟨ia,.go (.name i k)⟩ (.returned (.tuple #[.func (.func 146) #[] #[Z8 b1,Z8 b2,Z8 b3],.nilIface])) w2:=by
 have f1:Frame F w w1:=Frame.below hb;refine⟨_,r2.join f1.size f2.size,f1.trans f2,_,rfl,?_⟩;exact fZ.mono (F:=Grow (Grow F w w1) w1 w2) (pt:=.name i k) ⟨b1,b2,b3,rfl,hn.1,hn.2.1,hn.2.2⟩ (fun k hk=>(Grow.trans f1.size f2.size k).1 hk)
theorem Fj(k:Pl):∀args w,(callFunc k.fn args).run prog w=.ok (.enter k.fn args) w:=by
 cases k with
 |between=>exact enters_of func34 (by kernel_rfl) rfl
 |less=>exact enters_of func60 (by kernel_rfl) rfl
 |nW=>exact enters_of func110 (by kernel_rfl) rfl
 |remark=>exact enters_of func152 (by kernel_rfl) rfl
 |dash=>exact enters_of func187 (by kernel_rfl) rfl
 |ik=>exact enters_of func109 (by kernel_rfl) rfl
 |order=>exact enters_of func150 (by kernel_rfl) rfl
 |mark=>exact enters_of func185 (by kernel_rfl) rfl
 |gM=>exact enters_of func153 (by kernel_rfl) rfl
 |bracket=>exact enters_of func188 (by kernel_rfl) rfl
 |brackets=>exact enters_of func205 (by kernel_rfl) rfl
 |part=>exact enters_of func111 (by kernel_rfl) rfl
 |eD=>exact enters_of func154 (by kernel_rfl) rfl
 |js=>exact enters_of func189 (by kernel_rfl) rfl
 |qm=>exact enters_of func207 (by kernel_rfl) rfl
 |kP=>exact enters_of func213 (by kernel_rfl) rfl
 |iw=>exact enters_of func221 (by kernel_rfl) rfl
 |im=>exact enters_of func155 (by kernel_rfl) rfl
 |closing=>exact enters_of func108 (by kernel_rfl) rfl
theorem tY(h:fF F R w s p st)(hc:s9 c)(i:Rn)(k:Pl)(b1 b2 b3:Nat)(hN:i_ F R w i k b1 b2 b3)(hs:(st.run i).length<=70368744177680)
  (ZE:(st.run i).length≠0->∀(F1:Nat->Prop) (w1:World) (p1:Ptr),fF F1 R w1 s p1 st->Z4 k.fn #[Z8 R,.int .i32 c] w1 (dW F1 R w1 s (step k s.at_ st c))):
  Z4 146 #[Z8 R,.int .i32 c,Z8 b1,Z8 b2,Z8 b3] w (dW F R w s (stName i k s.at_ st c)):=by
 have hat:w.cell? ⟨R,2,none⟩=some (.int .i64 s.at_):=h.cell 2 rfl;have hR:=h.lt R h.jz;have k1:=iZ hN.1;have k2:w.cell? ⟨b2,0,none⟩=some (.func (.func k.fn) #[] #[]):=iZ hN.2.1;obtain⟨ao,cap,hv⟩:=dU (h.own.run i);have c0:w.cell? ⟨R,i.off,none⟩=some (.slice ao (st.run i).length cap):=by rw[<-hv];exact(td s p st i h).1
 have Eu:=mQ c hc;have OA:=lg c hc
 --what put does,behind a look at the character
 have hput:0<=c->∀w1,Z5 w w1->Z4 64 #[.pointer (some ⟨R,i.off,none⟩),.int .i32 c,.int .i64 s.at_] w1.drew fun e w2=>e=.returned (.tuple #[])/\∃v,fF (Grow (Grow F w w1) w1 w2) R w2 s (p.dV i v) (st.put i c s.at_)/\Frame (Grow F w w1) w1 w2/\i_ (Grow (Grow F w w1) w1 w2) R w2 i k b1 b2 b3:=by
  intro h0 w1 hb;refine(kU (h.below hb) i c s.at_ (oF hc h0) (by omega)).mono ?_;rintro e w2 ⟨rfl,v,r,f,kk⟩;exact⟨rfl,v,r,f,(hN.below h.lt hb).kept (h.below hb).own (h.below hb).lt kk⟩
 have hbo:Ch.eG c=true->0<=c:=fun e=>by have:=(Ch.fD c).1 e;omega
 have hgo:(Ch.eG c||Ch.fk c)=true->0<=c:=fun e=>by
  rw[bm]at e;rcases e with e|e
  ·have:=(Ch.fD c).1 e;omega
  ·have:=(Ch.iK c).1 e;omega
 have hen:=Fj k;have hb1:=h.lt b1 hN.1.2.1;have hb2:=h.lt b2 hN.2.1.2.1;have HN:=a_ hN;have H:=a_ h;have HP:=a_ hput;have HBE:=a_ ZE;have HBO:=a_ hbo;have HGO:=a_ hgo;clear h hN hput ZE hbo hgo hv hs hc;unfold stName fH;generalize st.put i c s.at_=qu at*
 generalize xk:step k s.at_ st c=so at*
 clear xk;generalize Ch.eG c=bb at*
 generalize (bb||Ch.fk c)=gg at*
 generalize hn:(st.run i).length=n at*
 clear hn;by_cases D5:n=0
 ·subst D5;simp only[if_true];cases bb
  ·simp only[aA,aQ];go_enter func146,ntmps146;go_wp2_with(go_at_call 147;refine(Eu _).mono ?_;rintro e w1 ⟨rfl,k_⟩);refine(gh R c s.at_ _ ((k_.cell hR).trans hat)).mono ?_;rintro e w2 ⟨rfl,rfl⟩;go_wp2
   go_ret2
   exact dW.gP H.out k_
  ·simp only[if_true];go_enter func146,ntmps146;go_wp2_with(go_at_call 147;refine(Eu _).mono ?_;rintro e w1 ⟨rfl,k_⟩);have hc0:0<=c:=by first|exact HBO.out rfl|exact HBO.out trivial
   have k1':=(k_.cell hb1).trans k1;have Ik:=(k_.cell hR).trans hat;go_region_held3 (fun W=>W.cell? ⟨b1,0,none⟩=some (.pointer (some ⟨R,i.off,none⟩))/\W.cell? ⟨R,2,none⟩=some (.int .i64 s.at_))
    (first|exact⟨k1',Ik⟩|exact⟨WA,PJ⟩)
    (first|(go_at_call 64;refine(HP.out hc0 _ k_).mono ?_;rintro e w2 ⟨rfl,v,r2,f2,n2⟩;have WA:=iZ n2.1;have aa0:=iZ n2.2.2;have PJ:w2.cell? ⟨R,2,none⟩=some (.int .i64 s.at_):=r2.cell 2 rfl;have N2:=a_ n2;clear n2))
   all_goals
    go_wp2
    go_ret2
    exact wJ k_ r2 f2 N2.out
 ·have e0:((n:Int)==0)=false:=by
   have:(n:Int)≠0:=by omega
   simpa using this
  rw[if_neg D5];have aa1:=a_ (HBE.out D5);clear D5;cases gg
  ·simp only[aA,aQ];go_enter func146,ntmps146;go_wp2_with(go_at_call 113;refine(OA _).mono ?_;rintro e w1 ⟨rfl,k_⟩;have k2':=(k_.cell hb2).trans k2);refine(aa1.out _ _ _ (H.out.below k_)).mono ?_;intro e w2 hP;obtain⟨v1,v2,rfl⟩:=hP.two;go_wp2
   go_ret2
   exact hP.after (Frame.below k_)
  ·simp only[if_true];go_enter func146,ntmps146;go_wp2_with(go_at_call 113;refine(OA _).mono ?_;rintro e w1 ⟨rfl,k_⟩);have hc0:0<=c:=by first|exact HGO.out rfl|exact HGO.out trivial
   have k1':=(k_.cell hb1).trans k1;have Ik:=(k_.cell hR).trans hat;go_region_held3 (fun W=>W.cell? ⟨b1,0,none⟩=some (.pointer (some ⟨R,i.off,none⟩))/\W.cell? ⟨R,2,none⟩=some (.int .i64 s.at_))
    (first|exact⟨k1',Ik⟩|exact⟨WA,PJ⟩)
    (first|(go_at_call 64;refine(HP.out hc0 _ k_).mono ?_;rintro e w2 ⟨rfl,v,r2,f2,n2⟩;have WA:=iZ n2.1;have aa0:=iZ n2.2.2;have PJ:w2.cell? ⟨R,2,none⟩=some (.int .i64 s.at_):=r2.cell 2 rfl;have N2:=a_ n2;clear n2))
   all_goals
    go_wp2
    go_ret2
    exact wJ k_ r2 f2 N2.out
end
section
variable{F:Nat->Prop}{R:Nat}{w w':World}{s:Src}{p:Ptr}{st:St}{c:Int}
theorem ry(st:St)(i:Rn):((st.clear i).run i).length=0:=by simp[St.clear,St.dV]
theorem C8(i:Rn)(k:Pl)(q:Int)(st:St)(c:Int):stName i k q (st.clear i) c=fH i k q (st.clear i) c:=by unfold stName;rw[if_pos (ry st i)]
theorem Bj(h:fF F R w s p st)(hc:s9 c)(i:Rn)(k:Pl){b1 b2 b3:Nat}{w1:World}{p1:Ptr}
  (hN:i_ (Grow F w w1) R w1 i k b1 b2 b3) (r1:fF (Grow F w w1) R w1 s p1 (st.clear i)):
  Z4 146 #[Z8 R,.int .i32 c,Z8 b1,Z8 b2,Z8 b3] w1 (dW (Grow F w w1) R w1 s (fH i k s.at_ (st.clear i) c)):=by
 rw[<-C8];exact tY r1 hc i k b1 b2 b3 hN (by rw[ry];omega) (fun hne=>absurd (ry st i) hne)
theorem dW.WB{w1:World}{p1:Ptr}{i:Rn}{k:Pl}{b1 b2 b3:Nat}{ia:St}(hN:i_ (Grow F w w1) R w1 i k b1 b2 b3)(r1:fF (Grow F w w1) R w1 s p1 ia)(f1:Frame F w w1):
  dW F R w s ⟨ia,.go (.name i k)⟩ (.returned (.tuple #[.func (.func 146) #[] #[Z8 b1,Z8 b2,Z8 b3],.nilIface])) w1:=
 ⟨p1,r1,f1,_,rfl,b1,b2,b3,rfl,hN.1,hN.2.1,hN.2.2⟩
theorem TB(h:fF F R w s p st)(hc:s9 c):
  Z4 60 #[Z8 R,.int .i32 c] w (dW F R w s (step .less s.at_ st c)):=by
 have hw1:Z4 107 #[.pointer (some ⟨R,9,none⟩),.func (.func 108) #[] #[]] w _:=o7 h .name .closing;have hw2:Z4 107 #[.pointer (some ⟨R,9,none⟩),.func (.func 111) #[] #[]] w _:=o7 h .name .part;have H:=a_ h;have HC:=a_ hc;clear h hc;show Calls _ _ _ _ (dW F R w s (if c=47 then⟨st.clear .name,.go (.name .name .closing)⟩else if c=63 then⟨st,.go (.plain .ik)⟩else if c=33 then⟨st,.go (.plain .nW)⟩else fH .name .part s.at_ (st.clear .name) c));by_cases h1:c=47
 ·rw[if_pos h1];have e1:(c==47)=true:=by simpa using h1
  clear h1 hw2;go_enter func60,ntmps60;go_wp2_with(go_at_call 107;refine hw1.mono ?_;rintro e w1 ⟨b1,b2,b3,p1,rfl,x1,x2,x3,r1,f1⟩)
  go_ret2
  exact dW.WB ⟨x1,x2,x3⟩ r1 f1
 ·rw[if_neg h1];have e1:(c==47)=false:=by simpa using h1
  clear h1 hw1;by_cases h2:c=63
  ·rw[if_pos h2];have e2:(c==63)=true:=by simpa using h2
   clear h2;go_enter func60,ntmps60;go_wp2
   go_ret2
   exact dW.oD H.out (Below.refl _ _)
  ·rw[if_neg h2];have e2:(c==63)=false:=by simpa using h2
   clear h2;by_cases h3:c=33
   ·rw[if_pos h3];have e3:(c==33)=true:=by simpa using h3
    clear h3;go_enter func60,ntmps60;go_wp2
    go_ret2
    exact dW.oD H.out (Below.refl _ _)
   ·rw[if_neg h3];have e3:(c==33)=false:=by simpa using h3
    clear h3;generalize xk:fH .name .part s.at_ (st.clear .name) c=so at*
    have NW:=a_ xk;clear xk;go_enter func60,ntmps60;go_wp2_with(first|(go_at_call 107;refine hw2.mono ?_;rintro e w1 ⟨b1,b2,b3,p1,rfl,x1,x2,x3,r1,f1⟩));have eX:=Bj H.out HC.out .name .part ⟨x1,x2,x3⟩ r1;rw[NW.out]at eX;refine eX.mono ?_;intro e w2 hP;obtain⟨v1,v2,rfl⟩:=hP.two;go_wp2
    go_ret2
    exact hP.after f1
theorem LX(h:fF F R w s p st)(hc:s9 c)(hs:st.Small):
  Z4 154 #[Z8 R,.int .i32 c] w (dW F R w s (step .eD s.at_ st c)):=by
 have Eu:=mQ c hc w;have H:=a_ h;have HC:=a_ hc;have HS:=a_ hs;clear h hc hs;show Calls _ _ _ _ (dW F R w s (if Ch.eG c=true then fH .attr .js s.at_ (st.clear .attr) c else jt s.at_ st c));generalize xk:fH .attr .js s.at_ (st.clear .attr) c=so at*
 generalize hsp:jt s.at_ st c=sp at*
 have NW:=a_ xk;have HSP:=a_ hsp;clear xk hsp;generalize Ch.eG c=b at*
 cases b
 ·simp only[aA,aQ];go_enter func154,ntmps154;go_wp2_with(first|(go_at_call 147;refine Eu.mono ?_;rintro e w1 ⟨rfl,k_⟩));have eX:=jD (H.out.below k_) HC.out HS.out;rw[HSP.out]at eX;refine eX.mono ?_;intro e w2 hP;obtain⟨v1,v2,rfl⟩:=hP.two;go_wp2
  go_ret2
  exact hP.after (Frame.below k_)
 ·simp only[if_true];go_enter func154,ntmps154;go_wp2_with(first|(go_at_call 147;refine Eu.mono ?_;rintro e w1 ⟨rfl,k_⟩));have hwn:Z4 107 #[.pointer (some ⟨R,13,none⟩),.func (.func 189) #[] #[]] w1 _:=o7 (H.out.below k_) .attr .js;refine hwn.mono ?_;rintro e w2 ⟨b1,b2,b3,p1,rfl,x1,x2,x3,r1,f1⟩;go_wp2_with fail;have eX:=Bj (H.out.below k_) HC.out .attr .js ⟨x1,x2,x3⟩ r1;rw[NW.out]at eX;refine eX.mono ?_;intro e w3 hP;obtain⟨v1,v2,rfl⟩:=hP.two;go_wp2
  go_ret2
  exact(hP.after f1).after (Frame.below k_)
end
section
variable{F:Nat->Prop}{R:Nat}{w w':World}{s:Src}{p:Ptr}{st:St}{c:Int}
theorem PK:Keyed prog 9:=string_keyed underlying9
theorem C9(w:World):(zeroValue 279).run prog w=.ok (.agg #[]) w:=by kernel_rfl
theorem Bk(l:List (List UInt8))(x:List UInt8):Maps.has (lh l) (Lit.string x)=l.contains x:=by
 unfold lh;rw[has_setOf _ _ _ (by intro y hy;obtain⟨z,_,rfl⟩:=List.mem_map.1 hy;exact trivial)];rw[bD];simp[Lit.sameKey]
theorem yL(l:List (List UInt8))(x:List UInt8):(lh l).put (Lit.string x) (.agg [])=lh (l++[x]):=by
 unfold lh;rw[bF,bO,cH,setOf_snoc]
theorem Own.Fk(h:Own F R w p st)(hlt:∀k,F k->k<w.heap.size)(b:Nat)(l:List (List UInt8))(hk:∀k,k<w.heap.size->k≠R->p.names≠ .map (some k)->w'.heap[k]?=w.heap[k]?)(hb:b≠R)(hF:Grow F w w' b)
  (hm:w'.ownsMap prog 9 unitElem b l.length (lh l)):Own (Grow F w w') R w' {p with names:=.map (some b)} {st with names:=l}:=by
 have nm:∀k v e sz n xs,w.ownsRow 0 e sz v n xs->v.ownBlock=some k->p.names≠ .map (some k):=by
  intro k v e sz n xs ho hv hn;rcases h.names with⟨e,_⟩|⟨b',e,_,_,h4⟩
  ·rw[e]at hn;cases hn
  ·rw[e]at hn;cases hn;exact CR ho h4 hv
 obtain⟨cs,hc,hT⟩:=h.told;refine⟨fun i=>dY (h.run i) fun k e=>hk k (hlt k (h.jk i k e).1) (h.jk i k e).2 (nm k _ _ _ _ _ (h.run i) e),fun i k e=>⟨Or.inl (h.jk i k e).1,(h.jk i k e).2⟩,h.apart,
  ⟨cs,dY hc fun k e=>hk k (hlt k (h.gV k e).1) (h.gV k e).2 (nm k _ _ _ _ _ hc e),hT.frame fun k n xs v' D7 hv a b c=>⟨hk k (hlt k a) b (nm k _ _ _ _ _ D7 hv),Or.inl a,c⟩⟩,fun k e=>⟨Or.inl (h.gV k e).1,(h.gV k e).2⟩,
  dY h.attrs fun k e=>hk k (hlt k (h.eB k e).1) (h.eB k e).2 (nm k _ _ _ _ _ h.attrs e),fun k e=>⟨Or.inl (h.eB k e).1,(h.eB k e).2⟩,Or.inr ⟨b,rfl,hF,hb,hm⟩⟩
theorem Aj(h:fF F R w s p st)(hs:(st.run .attr).length<=70368744177680)(hh:st.names.contains (st.run .attr)=true):
  Z4 206 #[Z8 R] w (Z7 (mS 5 (st.eV .attr)) w):=by
 obtain⟨ao,cap,hv⟩:=dU (h.own.run .attr);have c13:w.cell? ⟨R,13,none⟩=some (.slice ao (st.run .attr).length cap):=by rw[<-hv];exact h.cell 13 rfl
 have c14:w.cell? ⟨R,14,none⟩=some (.int .i64 (st.eV .attr)):=h.cell 14 rfl;have hcv:(convert 101 9 (.slice ao (st.run .attr).length cap)).run prog w=.ok (.string ⟨(st.run .attr).toArray⟩) w:=by rw[<-hv];exact kQ (h.own.run .attr)
 have hlt:=h.lt R h.jz;rcases h.own.names with⟨_,hn⟩|⟨b,hp,_,_,hm⟩
 ·rw[hn]at hh;simp at hh
 have c12:w.cell? ⟨R,12,none⟩=some (.map (some b)):=by rw[<-hp];exact h.cell 12 rfl
 have hkey:keyOf prog 9 (.string ⟨(st.run .attr).toArray⟩)=some (.string (st.run .attr)):=by
  have:=dp (P:=prog) underlying9 (s:=⟨(st.run .attr).toArray⟩) (by show (st.run .attr).toArray.size<=_;unfold maxLen;simp;omega);simpa using this
 have PL:Maps.has (lh st.names) (Lit.string (st.run .attr))=true:=by rw[Bk];exact hh
 have HH:=a_ PL;have HM:=a_ hm;have HK:=a_ hkey;clear h hh hv hp hm hkey PL;generalize (st.run .attr)=nm at*
 go_enter func206,ntmps206;go_wp2_with(at_lookup;refine wpList_lookup_own_unit _ rfl _ _ 104 rfl 9 279 PK underlying104 (C9 _) b st.names.length _ rfl HM.out _ _ rfl HK.out ?_;rw[HH.out]);go_ret;exact⟨rfl,(Below.refl _ _).alloc (au _) _⟩
theorem WC(b:Nat)(w:World):(binOp .eql 104 (.map (some b)) (.map none)).run prog w=.ok (.bool false) w:=by kernel_rfl
theorem TC(w:World):(binOp .eql 104 (.map none) (.map none)).run prog w=.ok (.bool true) w:=by kernel_rfl
theorem Fl{b:Nat}{w1 w2:World}(h:fF F R w s p st)(b1:Z5 w w1)(hp:p.names=.map (some b))(hF:F b)(hb:b≠R)(hm:w2.ownsMap prog 9 unitElem b (st.names++[st.run .attr]).length (lh (st.names++[st.run .attr])))(hg:w1.grownBy w2 (some b)):
  fF (Grow F w w2) R w2 s p {st with names:=st.names++[st.run .attr]}/\Frame F w w2:=by
 have hR:=h.lt R h.jz;have hsz:w.heap.size<=w2.heap.size:=aw b1.size hg.size;have hk:∀k,k<w.heap.size->k≠b->w2.heap[k]?=w.heap[k]?:=fun k hl hn=>(hg.block k (aq hl b1.size) (by simpa using hn)).trans (b1.block k hl);have o1:=h.own.Fk (w':=w2) h.lt b (st.names++[st.run .attr]) (fun k hl _ hn=>hk k hl (fun e=>hn (by rw[hp,e]))) hb (Or.inl hF) hm;refine⟨⟨?_,Or.inl h.jz,iA h.lt hsz,?_⟩,⟨hg.os.trans b1.os,hg.tape.trans b1.tape,hg.output.trans b1.output,hsz,fun k hl hf=>hk k hl (fun e=>hf (e▸hF))⟩⟩
 ·rw[hk R hR (fun e=>hb e.symm)];exact h.blk
 ·have:{p with names:=.map (some b)}=p:=by rw[<-hp]
  rw[this]at o1;exact o1
theorem Fm(h:fF F R w s p st)(hs:(st.run .attr).length<=70368744177680)(hs2:st.names.length<=1099511627790)(hh:st.names.contains (st.run .attr)=false)(D6:p.names≠ .map none):
  Z4 206 #[Z8 R] w fun e w'=>e=.returned .nilIface/\∃p',fF (Grow F w w') R w' s p' {st with names:=st.names++[st.run .attr]}/\Frame F w w':=by
 obtain⟨ao,cap,hv⟩:=dU (h.own.run .attr);have c13:w.cell? ⟨R,13,none⟩=some (.slice ao (st.run .attr).length cap):=by rw[<-hv];exact h.cell 13 rfl
 have hcv:(convert 101 9 (.slice ao (st.run .attr).length cap)).run prog w=.ok (.string ⟨(st.run .attr).toArray⟩) w:=by rw[<-hv];exact kQ (h.own.run .attr)
 have hlt:=h.lt R h.jz;rcases h.own.names with⟨hn,_⟩|⟨b,hp,hF,hb,hm⟩
 ·exact absurd hn D6
 have c12:w.cell? ⟨R,12,none⟩=some (.map (some b)):=by rw[<-hp];exact h.cell 12 rfl
 have hkey:keyOf prog 9 (.string ⟨(st.run .attr).toArray⟩)=some (.string (st.run .attr)):=by
  have:=dp (P:=prog) underlying9 (s:=⟨(st.run .attr).toArray⟩) (by show (st.run .attr).toArray.size<=_;unfold maxLen;simp;omega);simpa using this
 have PL:Maps.has (lh st.names) (Lit.string (st.run .attr))=false:=by rw[Bk];exact hh
 have hclose:=fun(w1 w2:World) b1 hm hg=>Fl (w1:=w1) (w2:=w2) h b1 hp hF hb hm hg;have hput:=yL st.names (st.run .attr);have HP:=a_ hput;have GM:=a_ hclose;have HH:=a_ PL;have HM:=a_ hm;have HK:=a_ hkey;clear h hh hv hp hm hkey PL hclose hput D6 hF hb;have hlen:(st.names++[st.run .attr]).length=st.names.length+1:=by simp
 have HLN:=a_ hlen;clear hlen;generalize qR:(st.run .attr)=nm at*
 clear qR;have hqm:=WC b;go_enter func206,ntmps206;go_wp2_with(first
  |(at_lookup;refine wpList_lookup_own_unit _ rfl _ _ 104 rfl 9 279 PK underlying104 (C9 _) b st.names.length _ rfl HM.out _ _ rfl HK.out ?_;rw[HH.out])
  |(at_mapUpdate;refine wpList_mapUpdate_own _ rfl _ _ _ 104 rfl 9 279 PK underlying104 (unitElem (H:=Unit)) b st.names.length _ rfl (HM.out.alloc _) (by unfold maxLen;omega) _ _ _ rfl rfl HK.out _ [] unitElem_mk ?_;intro w1 Fp Il))
 go_ret;rw[HP.out]at Fp;obtain⟨r2,f2⟩:=GM.out _ _ ((Below.refl _ w).alloc (au _) _) (by rw[HLN.out];exact Fp) Il;exact⟨rfl,p,r2,f2⟩
theorem LY(W:World)(n:Nat)(h:W.heap.size=n):(W.alloc (.map #[] 0)).ownsMap prog 9 unitElem n 0 (lh []):=by subst h;exact World.ownsMap_made W prog 9 unitElem
theorem uA{nm:List UInt8}{w2:World}(h:fF F R w s p st)(hm:w2.ownsMap prog 9 unitElem (w.heap.size+1) 1 (lh [nm]))
  (hg:(((w.setCell ⟨R,12,none⟩ (.map (some (w.heap.size+1)))).alloc (.cells #[] 279)).alloc (.map #[] 0)).grownBy w2 (some (w.heap.size+1))):
  fF (Grow F w w2) R w2 s {p with names:=.map (some (w.heap.size+1))} {st with names:=[nm]}/\Frame F w w2:=by
 have hR:=h.lt R h.jz;have hz:=hg.size;simp[World.setCell]at hz;have hsz:w.heap.size<=w2.heap.size:=by omega
 have U_:∀k,k<w.heap.size->w2.heap[k]?=(w.setCell ⟨R,12,none⟩ (.map (some (w.heap.size+1)))).heap[k]?:=fun k hl=>by rw[hg.block k (by simp[World.setCell];omega) (by simp;omega),ay _ _ _ (by simp[World.setCell];omega),ay _ _ _ (by simp[World.setCell];omega)]
 have hk:∀k,k<w.heap.size->k≠R->w2.heap[k]?=w.heap[k]?:=fun k hl hn=>(U_ k hl).trans (ak _ _ _ _ hn);have o1:=h.own.Fk (w':=w2) h.lt (w.heap.size+1) [nm] (fun k hl hr _=>hk k hl hr) (by omega) (Or.inr ⟨by omega,by omega⟩) hm;refine⟨⟨?_,Or.inl h.jz,iA h.lt hsz,o1⟩,⟨hg.os,hg.tape,hg.output,hsz,fun k hl hf=>hk k hl (fun e=>hf (e▸h.jz))⟩⟩;rw[U_ R hR,ej h.blk];rfl
theorem Ak(h:fF F R w s p st)(hs:(st.run .attr).length<=70368744177680)(D6:p.names=.map none):
  Z4 206 #[Z8 R] w fun e w'=>e=.returned .nilIface/\∃p',fF (Grow F w w') R w' s p' {st with names:=[st.run .attr]}/\Frame F w w':=by
 obtain⟨ao,cap,hv⟩:=dU (h.own.run .attr);have c13:w.cell? ⟨R,13,none⟩=some (.slice ao (st.run .attr).length cap):=by rw[<-hv];exact h.cell 13 rfl
 have hcv:(convert 101 9 (.slice ao (st.run .attr).length cap)).run prog w=.ok (.string ⟨(st.run .attr).toArray⟩) w:=by rw[<-hv];exact kQ (h.own.run .attr)
 have hlt:=h.lt R h.jz;have c12:w.cell? ⟨R,12,none⟩=some (.map none):=by rw[<-D6];exact h.cell 12 rfl
 have f12:=h.free 12;have hkey:keyOf prog 9 (.string ⟨(st.run .attr).toArray⟩)=some (.string (st.run .attr)):=by
  have:=dp (P:=prog) underlying9 (s:=⟨(st.run .attr).toArray⟩) (by show (st.run .attr).toArray.size<=_;unfold maxLen;simp;omega);simpa using this
 have hnil:=fun W:World=>look_nil (w:=W) true PK underlying104 (C9 W) hkey;have KM:= @run_makeMap prog;have H:=a_ h;have HK:=a_ hkey;clear h hv hkey D6;generalize qR:(st.run .attr)=nm at*
 have En:=a_ qR;clear qR;have hqm:=TC;go_enter func206,ntmps206;go_wp2_with(at_mapUpdate;refine wpList_mapUpdate_own _ rfl _ _ _ 104 rfl 9 279 PK underlying104 (unitElem (H:=Unit)) (w.heap.size+1) 0 (lh []) rfl (LY _ _ (by simp[World.setCell])) (by unfold maxLen;omega) _ _ _ rfl rfl HK.out _ [] unitElem_mk ?_;intro w1 Fp Il);go_ret;rw[yL]at Fp;obtain⟨r2,f2⟩:=uA H.out (nm:=nm) Fp Il;first|exact⟨rfl,_,r2,f2⟩|exact⟨rfl,⟨_,r2⟩,f2⟩
theorem Fq(h:fF F R w s p st)(hs:(st.run .attr).length<=70368744177680)(hs2:st.names.length<=1099511627790):
  Z4 206 #[Z8 R] w fun e w'=>if st.names.contains (st.run .attr)=true then e=.returned (mS 5 (st.eV .attr))/\Z5 w w'
   else e=.returned .nilIface/\∃p',fF (Grow F w w') R w' s p' {st with names:=st.names++[st.run .attr]}/\Frame F w w':=by
 cases hh:st.names.contains (st.run .attr)
 ·simp only[aA,aQ];by_cases hn:p.names=.map none
  ·rcases h.own.names with⟨_,hl⟩|⟨b,hp,_⟩
   ·have:=Ak h hs hn;rw[hl];exact this
   ·rw[hp]at hn;cases hn
  ·exact Fm h hs hs2 hh hn
 ·simp only[if_true];exact Aj h hs hh
theorem Im(h:fF F R w s p st)(hc:s9 c)(hs:(st.run .attr).length<=70368744177680)(hs2:st.names.length<=1099511627790):
  Z4 189 #[Z8 R,.int .i32 c] w (dW F R w s (step .js s.at_ st c)):=by
 have ha:=Fq h hs hs2;show Calls _ _ _ _ (dW F R w s (if st.names.contains (st.run .attr)=true then⟨st,.fail 5 (st.eV .attr)⟩else jK s.at_ {st with names:=st.names++[st.run .attr]} c));have hq1:∀W:World,(binOp .neq 131 (mS 5 (st.eV .attr)) .nilIface).run prog W=.ok (.bool true) W:=fun W=>by unfold mS;kernel_rfl
 have hq2:∀W:World,(binOp .neq 131 .nilIface .nilIface).run prog W=.ok (.bool false) W:=fun W=>by kernel_rfl
 have H:=a_ h;clear h hs hs2;generalize {st with names:=st.names++[st.run .attr]}=qu at*
 generalize st.names.contains (st.run .attr)=b at*
 cases b
 ·simp only[aA,aQ]at ha ⊢;go_enter func189,ntmps189;go_wp2_with(first|(go_at_call 206;refine ha.mono ?_;rintro e w1 ⟨rfl,p1,r1,f1⟩));refine(Fe r1 hc).mono ?_;intro e w2 hP;obtain⟨v1,v2,rfl⟩:=hP.two;go_wp2
  go_ret2
  exact hP.after f1
 ·simp only[if_true,mS]at ha hq1 ⊢;go_enter func189,ntmps189;go_wp2_with(first|(go_at_call 206;refine ha.mono ?_;rintro e w1 ⟨rfl,k_⟩))
  go_ret2
  exact dW.gP H.out k_
end
section
variable{F:Nat->Prop}{R:Nat}{w w':World}{s:Src}{p:Ptr}{st:St}{c:Int}
def gu(F:Nat->Prop)(R:Nat)(w:World)(i:Rn)(k:Pl)(b1 b2 b3:Nat):Prop:=
 pF F R w b1 (.func (.func 112) #[] #[Z8 b1,Z8 b2,Z8 b3]) 100/\pF F R w b2 (.pointer (some ⟨R,i.off,none⟩)) 154/\pF F R w b3 k.val 100
theorem gu.below{i:Rn}{k:Pl}{b1 b2 b3:Nat}(h:gu F R w i k b1 b2 b3)(hlt:∀k,F k->k<w.heap.size)(hb:Z5 w w'):gu (Grow F w w') R w' i k b1 b2 b3:=
 ⟨kD h.1 hlt hb,kD h.2.1 hlt hb,kD h.2.2 hlt hb⟩
theorem gu.kept{i j:Rn}{k:Pl}{b1 b2 b3:Nat}(h:gu F R w i k b1 b2 b3)(ho:Own F R w p st)(hlt:∀k,F k->k<w.heap.size)(hK:Kept R (p.run j).ownBlock w w'):gu (Grow F w w') R w' i k b1 b2 b3:=
 ⟨lT h.1 ho (by decide) hlt hK,lT h.2.1 ho (by decide) hlt hK,lT h.2.2 ho (by decide) hlt hK⟩
theorem LZ(h:fF F R w s p st)(i:Rn)(k:Pl):∃W0,W0=(((w.setCell ⟨R,18,none⟩ (.slice none 0 0)).setCell ⟨R,19,none⟩ (.int .i64 0)).alloc (.cells #[.pointer (some ⟨R,i.off,none⟩)] 154)).alloc (.cells #[.func (.func k.fn) #[] #[]] 100)/\
  fF (Grow F w W0) R W0 s (p.dV .ref (.slice none 0 0)) (st.clear .ref)/\Frame F w W0/\pF (Grow F w W0) R W0 w.heap.size (.pointer (some ⟨R,i.off,none⟩)) 154/\pF (Grow F w W0) R W0 (w.heap.size+1) k.val 100/\W0.heap.size=w.heap.size+2:=by
 have hR:=h.lt R h.jz;refine⟨_,rfl,?_⟩;have r:=h.yK .ref;have f:=Frame.yK h .ref;change fF F R ((w.setCell ⟨R,18,none⟩ (.slice none 0 0)).setCell ⟨R,19,none⟩ (.int .i64 0)) s _ _ at r;change Frame F w ((w.setCell ⟨R,18,none⟩ (.slice none 0 0)).setCell ⟨R,19,none⟩ (.int .i64 0))at f;have hsz:((w.setCell ⟨R,18,none⟩ (.slice none 0 0)).setCell ⟨R,19,none⟩ (.int .i64 0)).heap.size=w.heap.size:=by simp[World.setCell]
 generalize (w.setCell ⟨R,18,none⟩ (.slice none 0 0)).setCell ⟨R,19,none⟩ (.int .i64 0)=w2 at*
 have hb:=rp w2 (.cells #[.pointer (some ⟨R,i.off,none⟩)] 154) (.cells #[.func (.func k.fn) #[] #[]] 100);have a1:((w2.alloc (.cells #[.pointer (some ⟨R,i.off,none⟩)] 154)).alloc (.cells #[.func (.func k.fn) #[] #[]] 100)).heap[w.heap.size]?=some (.cells #[.pointer (some ⟨R,i.off,none⟩)] 154):=by
  rw[<-hsz,ay _ _ _ (by simp)];exact bf w2 _
 have a2:((w2.alloc (.cells #[.pointer (some ⟨R,i.off,none⟩)] 154)).alloc (.cells #[.func (.func k.fn) #[] #[]] 100)).heap[w.heap.size+1]?=some (.cells #[.func (.func k.fn) #[] #[]] 100):=by
  rw[<-hsz];have:=bf (w2.alloc (.cells #[.pointer (some ⟨R,i.off,none⟩)] 154)) (.cells #[.func (.func k.fn) #[] #[]] 100);simpa using this
 have az:((w2.alloc (.cells #[.pointer (some ⟨R,i.off,none⟩)] 154)).alloc (.cells #[.func (.func k.fn) #[] #[]] 100)).heap.size=w.heap.size+2:=by rw[<-hsz];simp
 generalize (w2.alloc (.cells #[.pointer (some ⟨R,i.off,none⟩)] 154)).alloc (.cells #[.func (.func k.fn) #[] #[]] 100)=w3 at*
 have hG:∀k,Grow F w2 w3 k->Grow F w w3 k:=fun k hk=>by unfold Grow at*;rw[hsz]at hk;exact hk
 refine⟨(r.below hb).mono hG (fun k hk=>(r.below hb).lt k (by unfold Grow at*;rw[hsz];exact hk)),f.same (Frame.below hb),⟨a1,Or.inr (by omega),by omega⟩,⟨a2,Or.inr (by omega),by omega⟩,az⟩
theorem Io{W0 w2:World}{p2:Ptr}{qu:St}{i:Rn}{k:Pl}{b2 b3:Nat}(f0:Frame F w W0)(r2:fF (Grow (Grow F w W0) W0 w2) R w2 s p2 qu)(f2:Frame (Grow F w W0) W0 w2)(x2:pF (Grow (Grow F w W0) W0 w2) R w2 b2 (.pointer (some ⟨R,i.off,none⟩)) 154)(x3:pF (Grow (Grow F w W0) W0 w2) R w2 b3 k.val 100):
  ∃w3,w3=w2.alloc (.cells #[.func (.func 112) #[] #[.pointer (some ⟨w2.heap.size,0,none⟩),Z8 b2,Z8 b3]] 100)/\gu (Grow F w w3) R w3 i k w2.heap.size b2 b3/\(∃p',fF (Grow F w w3) R w3 s p' qu)/\Frame F w w3:=by
 refine⟨_,rfl,?_⟩;have hR:=r2.lt R r2.jz;have hb:Z5 w2 (w2.alloc (.cells #[.func (.func 112) #[] #[.pointer (some ⟨w2.heap.size,0,none⟩),Z8 b2,Z8 b3]] 100)):=(Below.refl _ w2).alloc (au _) _;have a1:=bf w2 (.cells #[.func (.func 112) #[] #[.pointer (some ⟨w2.heap.size,0,none⟩),Z8 b2,Z8 b3]] 100);have az:(w2.alloc (.cells #[.func (.func 112) #[] #[.pointer (some ⟨w2.heap.size,0,none⟩),Z8 b2,Z8 b3]] 100)).heap.size=w2.heap.size+1:=by simp
 generalize w2.alloc (.cells #[.func (.func 112) #[] #[.pointer (some ⟨w2.heap.size,0,none⟩),Z8 b2,Z8 b3]] 100)=w3 at*
 have f01:Frame F w w2:=f0.trans f2;have hG:∀k,Grow (Grow (Grow F w W0) W0 w2) w2 w3 k->Grow F w w3 k:=fun k hk=>(Grow.trans f01.size hb.size k).1 (hk.elim (fun x=>Or.inl ((Grow.trans f0.size f2.size k).1 x)) Or.inr);have ZF:∀k,Grow F w w3 k->Grow (Grow (Grow F w W0) W0 w2) w2 w3 k:=fun k hk=>((Grow.trans f01.size hb.size k).2 hk).elim (fun x=>Or.inl ((Grow.trans f0.size f2.size k).2 x)) Or.inr;have y2:=kD x2 r2.lt hb;have y3:=kD x3 r2.lt hb;have VN:w.heap.size<=w2.heap.size:=f01.size;refine⟨⟨⟨a1,Or.inr (by omega),by omega⟩,y2.mono hG,y3.mono hG⟩,⟨_,(r2.below hb).mono hG (fun k hk=>(r2.below hb).lt k (ZF k hk))⟩,?_⟩;exact f01.trans (Frame.below hb)
theorem sI(h:fF F R w s p st)(i:Rn)(k:Pl):
  Z4 61 #[Z8 R,.pointer (some ⟨R,i.off,none⟩),.func (.func k.fn) #[] #[]] w fun e w'=>∃b1 b2 b3,e=.returned (.func (.func 112) #[] #[Z8 b1,Z8 b2,Z8 b3])/\
   gu (Grow F w w') R w' i k b1 b2 b3/\(∃p',fF (Grow F w w') R w' s p' ((st.clear .ref).put .ref 38 s.at_))/\Frame F w w':=by
 have hlt:=h.lt R h.jz;have c18:w.cell? ⟨R,18,none⟩=some (p.run .ref):=h.cell 18 rfl;have c19:w.cell? ⟨R,19,none⟩=some (.int .i64 (st.eV .ref)):=h.cell 19 rfl;have f18:=h.free 18;have f19:=h.free 19;have hat:w.cell? ⟨R,2,none⟩=some (.int .i64 s.at_):=h.cell 2 rfl;obtain⟨W0,hW,r0,f0,x1,x2,hz⟩:=LZ h i k;have hp:=kU r0 .ref 38 s.at_ (by unfold ig;omega) (by rw[ry];omega);have ZG:W0.cell? ⟨R,2,none⟩=some (.int .i64 s.at_):=r0.cell 2 rfl;have HW:=a_ hW;rw[hW]at hp ZG;have R0:=a_ r0;have F0:=a_ f0;have X1:=a_ x1;have X2:=a_ x2;clear h hW r0 f0 x1 x2 hz;generalize (st.clear .ref).put .ref 38 s.at_=qu at*
 have iW:∀w2 v,fF (Grow (Grow F w W0) W0 w2) R w2 s ((p.dV .ref (.slice none 0 0)).dV .ref v) qu->Frame (Grow F w W0) W0 w2->Kept R ((p.dV .ref (.slice none 0 0)).run .ref).ownBlock W0 w2->_:=fun w2 v r2 f2 k2=>
  Io (i:=i) (k:=k) F0.out r2 f2 (lT (i:=.ref) X1.out R0.out.own (by decide) R0.out.lt k2) (lT (i:=.ref) X2.out R0.out.own (by decide) R0.out.lt k2)
 rw[HW.out]at iW;have HF:=a_ iW;clear iW R0 F0 X1 X2;have HW2:=HW.out;subst HW2;clear HW;generalize hkn:k.fn=kn at*
 clear hkn;go_enter func61,ntmps61;go_wp2_with fail;go_region_held3 (fun W=>W.cell? ⟨R,2,none⟩=some (.int .i64 s.at_))
  (first|exact ZG|exact mV)
  (first|(go_at_call 64;refine hp.mono ?_;rintro e w2 ⟨rfl,v,r2,f2,k2⟩;have mV:w2.cell? ⟨R,2,none⟩=some (.int .i64 s.at_):=r2.cell 2 rfl;have hst:=qw _ _ _ (.func (.func 112) #[] #[.pointer (some ⟨w2.heap.size,0,none⟩),.pointer (some ⟨w.heap.size,0,none⟩),.pointer (some ⟨w.heap.size+1,0,none⟩)]) rfl (Fh w2 w2.heap.size rfl .nilFunc 100) (Fi w2 w2.heap.size rfl .nilFunc 100)))
 all_goals
  go_wp2;go_ret;obtain⟨w3,rfl,y1,y2,y3⟩:=HF.out w2 v r2 f2 k2;exact⟨_,_,_,rfl,y1,y2,y3⟩
end
section
variable{F:Nat->Prop}{R:Nat}{w w':World}{s:Src}{p:Ptr}{st:St}{c:Int}
theorem dW.Va{w1:World}{p1:Ptr}{i:Rn}{k:Pl}{b1 b2 b3:Nat}{ia:St}(hN:gu (Grow F w w1) R w1 i k b1 b2 b3)(r1:fF (Grow F w w1) R w1 s p1 ia)(f1:Frame F w w1):
  dW F R w s ⟨ia,.go (.ref i k)⟩ (.returned (.tuple #[.func (.func 112) #[] #[Z8 b1,Z8 b2,Z8 b3],.nilIface])) w1:=
 ⟨p1,r1,f1,_,rfl,b1,b2,b3,rfl,hN.1,hN.2.1,hN.2.2⟩
theorem Ip(h:fF F R w s p st)(hc:s9 c)(hs:st.Small):
  Z4 34 #[Z8 R,.int .i32 c] w (dW F R w s (step .between s.at_ st c)):=by
 have hat:w.cell? ⟨R,2,none⟩=some (.int .i64 s.at_):=h.cell 2 rfl;show Calls _ _ _ _ (dW F R w s (if c=60 then⟨{st with fV:=s.at_},.go (.plain .less)⟩else if c=38 then⟨(st.clear .ref).put .ref 38 s.at_,.go (.ref .text .between)⟩else if c= -1 then⟨st.dZ,.stop⟩else if c= -2 then⟨st,.fail 2 s.at_⟩else⟨st.put .text c s.at_,.go (.plain .between)⟩));by_cases h1:c=60
 ·rw[if_pos h1];have e1:(c==60)=true:=by simpa using h1
  have c8:w.cell? ⟨R,8,none⟩=some (.int .i64 st.fV):=h.cell 8 rfl;have f8:=h.free 8;have H:=a_ h;clear h1 h hc hs;go_enter func34,ntmps34;go_wp2
  go_ret2
  exact dW.PG ((H.out.scalar (ia:={st with fV:=s.at_}) 8 (.int .i64 s.at_) rfl (fun o=>⟨o.run,o.jk,o.apart,o.told,o.gV,o.attrs,o.eB,o.names⟩)).PH (by simp[World.setCell])) (Frame.Ie H.out.jz _ _)
 rw[if_neg h1];have e1:(c==60)=false:=by simpa using h1
 clear h1;by_cases h2:c=38
 ·rw[if_pos h2];have e2:(c==38)=true:=by simpa using h2
  have hr:Z4 61 #[Z8 R,.pointer (some ⟨R,6,none⟩),.func (.func 34) #[] #[]] w _:=sI h .text .between;clear h2 h hc hs;go_enter func34,ntmps34;go_wp2_with(go_at_call 61;refine hr.mono ?_;rintro e w1 ⟨b1,b2,b3,rfl,x,⟨p1,r1⟩,f1⟩)
  go_ret2
  exact dW.Va x r1 f1
 rw[if_neg h2];have e2:(c==38)=false:=by simpa using h2
 clear h2;by_cases h3:c= -1
 ·rw[if_pos h3];have e3:(c== -1)=true:=by simpa using h3
  have ht:=o6 h (by have:=hs.told;omega);generalize st.dZ=qu at*
  clear h3 h hc hs;go_enter func34,ntmps34;go_wp2_with(go_at_call 62;refine ht.mono ?_;rintro e w1 ⟨rfl,p1,r1,f1,_,_⟩)
  go_ret2
  exact⟨p1,r1,f1,rfl⟩
 rw[if_neg h3];have e3:(c== -1)=false:=by simpa using h3
 by_cases h4:c= -2
 ·rw[if_pos h4];have e4:(c== -2)=true:=by simpa using h4
  have hw:Tk.why c=2:=by simp[Tk.why,h4]
  have H:=a_ h;have HW:=a_ hw;clear h3 h4 h hc hs hw;go_enter func34,ntmps34;go_wp2_with(go_at_call 63;refine(gh R c s.at_ _ hat).mono ?_;rintro e w1 ⟨rfl,rfl⟩)
  go_ret2
  rw[<-HW.out];exact dW.gP H.out (Below.refl _ _)
 ·rw[if_neg h4];have e4:(c== -2)=false:=by simpa using h4
  have px:=hc.lo;have hp:=kU h .text c s.at_ (oF hc (by omega)) (by have:=hs.run .text;omega);generalize st.put .text c s.at_=qu at*
  clear h3 h4 h hc hs px;go_enter func34,ntmps34;go_wp2_with fail;go_region_held3 (fun W=>W.cell? ⟨R,2,none⟩=some (.int .i64 s.at_))
   (first|exact hat|exact mV)
   (first|(go_at_call 64;refine hp.mono ?_;rintro e w1 ⟨rfl,v,r1,f1,k1⟩;have mV:w1.cell? ⟨R,2,none⟩=some (.int .i64 s.at_):=r1.cell 2 rfl))
  all_goals
   go_wp2
   go_ret2
   exact dW.PG r1 f1
theorem L5(h:fF F R w s p st)(hc:s9 c)(hs:st.Small):
  Z4 221 #[Z8 R,.int .i32 c] w (dW F R w s (step .iw s.at_ st c)):=by
 have hat:w.cell? ⟨R,2,none⟩=some (.int .i64 s.at_):=h.cell 2 rfl;have c17:w.cell? ⟨R,17,none⟩=some (.int .i32 st.quote):=h.cell 17 rfl;show Calls _ _ _ _ (dW F R w s (if c=st.quote then⟨st.addAttr,.go (.plain .part)⟩else if c=38 then⟨(st.clear .ref).put .ref 38 s.at_,.go (.ref .value .iw)⟩else if c=60\/c<0 then⟨st,.fail (Tk.why c) s.at_⟩else⟨st.put .value c s.at_,.go (.plain .iw)⟩));by_cases h1:c=st.quote
 ·rw[if_pos h1];have e1:(c==st.quote)=true:=by simpa using h1
  have ha:=Fb h (by have:=hs.attrs;omega);generalize st.addAttr=qu at*
  clear h1 h hc hs;go_enter func221,ntmps221;go_wp2_with(go_at_call 227;refine ha.mono ?_;rintro e w1 ⟨rfl,p1,r1,f1⟩)
  go_ret2
  exact dW.PG r1 f1
 rw[if_neg h1];have e1:(c==st.quote)=false:=by simpa using h1
 clear h1;by_cases h2:c=38
 ·rw[if_pos h2];have e2:(c==38)=true:=by simpa using h2
  have hr:Z4 61 #[Z8 R,.pointer (some ⟨R,15,none⟩),.func (.func 221) #[] #[]] w _:=sI h .value .iw;clear h2 h hc hs;go_enter func221,ntmps221;go_wp2_with(go_at_call 61;refine hr.mono ?_;rintro e w1 ⟨b1,b2,b3,rfl,x,⟨p1,r1⟩,f1⟩)
  go_ret2
  exact dW.Va x r1 f1
 rw[if_neg h2];have e2:(c==38)=false:=by simpa using h2
 clear h2;by_cases h3:c=60
 ·rw[if_pos (Or.inl h3)];have e3:(c==60)=true:=by simpa using h3
  have H:=a_ h;clear h3 h hc hs;go_enter func221,ntmps221;go_wp2_with(go_at_call 63;refine(gh R c s.at_ _ hat).mono ?_;rintro e w1 ⟨rfl,rfl⟩)
  go_ret2
  exact dW.gP H.out (Below.refl _ _)
 have e3:(c==60)=false:=by simpa using h3
 by_cases h4:c<0
 ·rw[if_pos (Or.inr h4)];have H:=a_ h;clear h3 h hc hs;go_enter func221,ntmps221;go_wp2_with(go_at_call 63;refine(gh R c s.at_ _ hat).mono ?_;rintro e w1 ⟨rfl,rfl⟩)
  go_ret2
  exact dW.gP H.out (Below.refl _ _)
 ·rw[if_neg (by omega)];have hp:=kU h .value c s.at_ (oF hc (by omega)) (by have:=hs.run .value;omega);generalize st.put .value c s.at_=qu at*
  clear h3 h hc hs;go_enter func221,ntmps221;go_wp2_with fail;go_region_held3 (fun W=>W.cell? ⟨R,2,none⟩=some (.int .i64 s.at_))
   (first|exact hat|exact mV)
   (first|(go_at_call 64;refine hp.mono ?_;rintro e w1 ⟨rfl,v,r1,f1,k1⟩;have mV:w1.cell? ⟨R,2,none⟩=some (.int .i64 s.at_):=r1.cell 2 rfl))
  all_goals
   go_wp2
   go_ret2
   exact dW.PG r1 f1
end
section
variable{F:Nat->Prop}{R:Nat}{w w':World}{s:Src}{p:Ptr}{st:St}{c:Int}
def Tk.pH(c:Int):Bool:=c==35||c==59||(decide (c<128)&&(Ch.eG c||Ch.fk c))
theorem rz{c:Int}(h:Tk.pH c=true):0<=c/\c<128:=by
 simp only[Tk.pH,bm,aT,bk,aR]at h;rcases h with(h|h)|⟨h1,h|h⟩
 ·omega
 ·omega
 ·have:=(Ch.fD c).1 h;omega
 ·have:=(Ch.iK c).1 h;omega
theorem TD(h:fF F R w s p st)(hc:s9 c)(v1 v2 v3:Value)(hb:Tk.pH c=false):
  Z4 112 #[Z8 R,.int .i32 c,v1,v2,v3] w (dW F R w s ⟨st,.fail 4 (st.eV .ref)⟩):=by
 have c19:w.cell? ⟨R,19,none⟩=some (.int .i64 (st.eV .ref)):=h.cell 19 rfl;have hlt:=h.lt R h.jz;have OA:=lg c hc w;simp only[Tk.pH,dm,Bool.and_eq_false_iff]at hb;obtain⟨⟨e35,e59⟩,e3⟩:=hb;have ZH:(c !=35)=true:=by simp[bne,e35]
 have aa2:(c !=59)=true:=by simp[bne,e59]
 have H:=a_ h;clear h hc;by_cases abN:128<=c
 ·clear e3;go_enter func112,ntmps112;go_wp2_with fail;go_region_held3 (fun W=>W.cell? ⟨R,19,none⟩=some (.int .i64 (st.eV .ref)))
   (first|exact c19)
   (fail)
  all_goals
   go_wp2
   go_ret2
   exact dW.gP H.out (Below.refl _ w).drew
 ·have hg:(Ch.eG c||Ch.fk c)=false:=by
   rcases e3 with e|e
   ·simp only[cV]at e;omega
   ·rw[dm];exact e
  rw[hg]at OA;clear e3 hg;go_enter func112,ntmps112;go_wp2_with(go_at_call 113;refine OA.mono ?_;rintro e w1 ⟨rfl,k_⟩);have WD:=(k_.cell hlt).trans c19;go_region_held3 (fun W=>W.cell? ⟨R,19,none⟩=some (.int .i64 (st.eV .ref)))
   (first|exact WD)
   (fail)
  all_goals
   go_wp2
   go_ret2
   exact dW.gP H.out k_.drew
theorem yM{w1 w2:World}{i:Rn}{k:Pl}{b1 b2 b3:Nat}{p2:Ptr}{ia:St}(hb:Z5 w w1)(r2:fF (Grow (Grow F w w1) w1 w2) R w2 s p2 ia)(f2:Frame (Grow F w w1) w1 w2)(hn:gu (Grow (Grow F w w1) w1 w2) R w2 i k b1 b2 b3):
  dW F R w s ⟨ia,.go (.ref i k)⟩ (.returned (.tuple #[.func (.func 112) #[] #[Z8 b1,Z8 b2,Z8 b3],.nilIface])) w2:=by
 have f1:Frame F w w1:=Frame.below hb;refine⟨_,r2.join f1.size f2.size,f1.trans f2,_,rfl,?_⟩;exact fZ.mono (F:=Grow (Grow F w w1) w1 w2) (pt:=.ref i k) ⟨b1,b2,b3,rfl,hn.1,hn.2.1,hn.2.2⟩ (fun k hk=>(Grow.trans f1.size f2.size k).1 hk)
theorem Kj(h:fF F R w s p st)(hc:ig c)(i:Rn)(k:Pl)(b1 b2 b3:Nat)(hN:gu F R w i k b1 b2 b3)(hs:(st.run .ref).length<=70368744177680)(w1:World)(hb:Z5 w w1):
  Z4 64 #[.pointer (some ⟨R,18,none⟩),.int .i32 c,.int .i64 s.at_] w1.drew fun e w2=>e=.returned (.tuple #[])/\∃v,fF (Grow (Grow F w w1) w1 w2) R w2 s (p.dV .ref v) (st.put .ref c s.at_)/\Frame (Grow F w w1) w1 w2/\gu (Grow (Grow F w w1) w1 w2) R w2 i k b1 b2 b3:=by
 have hp:Z4 64 #[.pointer (some ⟨R,18,none⟩),.int .i32 c,.int .i64 s.at_] w1.drew _:=kU (h.below hb) .ref c s.at_ hc (by omega);refine hp.mono ?_;rintro e w2 ⟨rfl,v,r,f,kk⟩;exact⟨rfl,v,r,f,(hN.below h.lt hb).kept (h.below hb).own (h.below hb).lt kk⟩
theorem PN(h:fF F R w s p st)(hc:s9 c)(i:Rn)(k:Pl)(b1 b2 b3:Nat)(hN:gu F R w i k b1 b2 b3)(hs:(st.run .ref).length<=70368744177680)(hb:Tk.pH c=true)(mO:c≠59):
  Z4 112 #[Z8 R,.int .i32 c,Z8 b1,Z8 b2,Z8 b3] w (dW F R w s ⟨st.put .ref c s.at_,.go (.ref i k)⟩):=by
 have hat:w.cell? ⟨R,2,none⟩=some (.int .i64 s.at_):=h.cell 2 rfl;have hlt:=h.lt R h.jz;have OA:=lg c hc w;have hp:=Kj h (oF hc (rz hb).1) i k b1 b2 b3 hN hs;have aa2:(c !=59)=true:=by simpa using mO
 have hb0:=rz hb;simp only[Tk.pH,bm,aT,bk,aR]at hb;have HP:=a_ hp;clear h hc hN hs hp;generalize st.put .ref c s.at_=qu at*
 by_cases ZI:c=35
 ·have ZH:(c !=35)=false:=by simpa using ZI
  have hp0:=HP.out w (Below.refl _ _);clear hb ZI mO HP;go_enter func112,ntmps112;go_wp2_with fail;go_region_held3 (fun W=>W.cell? ⟨R,2,none⟩=some (.int .i64 s.at_))
   (first|exact hat|exact mV)
   (first|(go_at_call 64;refine hp0.mono ?_;rintro e w2 ⟨rfl,v,r2,f2,n2⟩;have mV:w2.cell? ⟨R,2,none⟩=some (.int .i64 s.at_):=r2.cell 2 rfl;have k1:=iZ n2.1;have N2:=a_ n2;clear n2))
  all_goals
   go_wp2
   go_ret2
   exact yM (Below.refl _ _) r2 f2 N2.out
 ·have ZH:(c !=35)=true:=by simpa using ZI
  have hg:(Ch.eG c||Ch.fk c)=true:=by
   rcases hb with(h|h)|h
   ·exact absurd h ZI
   ·exact absurd h mO
   ·rw[bm];exact h.2
  rw[hg]at OA;clear hb ZI mO hg;go_enter func112,ntmps112;go_wp2_with(go_at_call 113;refine OA.mono ?_;rintro e w1 ⟨rfl,k_⟩);have aa3:=(k_.cell hlt).trans hat;have hp1:=HP.out w1 k_;go_region_held3 (fun W=>W.cell? ⟨R,2,none⟩=some (.int .i64 s.at_))
   (first|exact aa3|exact mV)
   (first|(go_at_call 64;refine hp1.mono ?_;rintro e w2 ⟨rfl,v,r2,f2,n2⟩;have mV:w2.cell? ⟨R,2,none⟩=some (.int .i64 s.at_):=r2.cell 2 rfl;have k1:=iZ n2.1;have N2:=a_ n2;clear n2))
  all_goals
   go_wp2
   go_ret2
   exact yM k_ r2 f2 N2.out
end
section
variable{F:Nat->Prop}{R:Nat}{w w':World}{s:Src}{p:Ptr}{st:St}{c:Int}
theorem Al(t:ByteArray)(i:Nat)(h:i<t.size):ig ((Utf8.decode t i).1:Int):=by
 have h0:0<=Ch.bz t i:=by unfold Ch.bz;rw[if_pos h];omega
 have bad:Utf8.decode t i=(65533,1)->ig ((Utf8.decode t i).1:Int):=fun e=>by rw[e];unfold ig;simp
 by_cases a1:Ch.bz t i<128
 ·rw[Ch.fN h0 a1];unfold ig;simp only;omega
 by_cases a2:Ch.bz t i<192
 ·exact bad (Ch.fx (Or.inl ⟨by omega,a2⟩))
 by_cases a3:Ch.bz t i<224
 ·by_cases c1:Ch.cont t (i+1)
  ·have hd:=Ch.gD (by omega) a3 c1;split at hd
   ·rw[hd];unfold Ch.cont at c1;rename_i hz;simp only[Ch.acc,aG]at hz ⊢;unfold ig;omega
   ·exact bad hd
  ·exact bad (Ch.gJ (by omega) a3 c1)
 by_cases a4:Ch.bz t i<240
 ·by_cases c1:Ch.cont t (i+1)/\Ch.cont t (i+2)
  ·have hd:=Ch.fG (by omega) a4 c1.1 c1.2;split at hd
   ·rename_i hz;rw[hd];have:=(Ch.lf _).1 hz.2;unfold ig;simp only;omega
   ·exact bad hd
  ·exact bad (Ch.eQ (by omega) a4 (by
    by_cases x:Ch.cont t (i+1)
    ·exact Or.inr fun y=>c1 ⟨x,y⟩
    ·exact Or.inl x))
 by_cases a5:Ch.bz t i<248
 ·by_cases c1:Ch.cont t (i+1)/\Ch.cont t (i+2)/\Ch.cont t (i+3)
  ·have hd:=Ch.gj (by omega) a5 c1.1 c1.2.1 c1.2.2;split at hd
   ·rename_i hz;rw[hd];have:=(Ch.lf _).1 hz.2;unfold ig;simp only;omega
   ·exact bad hd
  ·exact bad (Ch.eF (by omega) a5 (by
    by_cases x:Ch.cont t (i+1)
    ·by_cases y:Ch.cont t (i+2)
     ·exact Or.inr (Or.inr fun z=>c1 ⟨x,y,z⟩)
     ·exact Or.inr (Or.inl y)
    ·exact Or.inl x))
 ·exact bad (Ch.fx (Or.inr (by omega)))
def fT(i:Rn)(t:ByteArray)(q:Int):Nat->Nat->St->St
 |0,_,st=>st
 |f+1,pos,st=>if pos<t.size then fT i t q f (pos+(Utf8.decode t pos).2) (st.put i ((Utf8.decode t pos).1:Int) q)else st
def St.nY(st:St)(i:Rn)(t:ByteArray)(q:Int):St:=fT i t q (t.size+1) 0 st
structure RL(F:Nat->Prop)(R:Nat)(w:World)(s:Src)(i:Rn)(k:Pl)(b1 b2 b3:Nat)(t:ByteArray)(it:Nat)(q:Int)(Vb:St)(n0:Nat)(wr:World)(pos:Nat):Prop where
 ex:∃(Fr:Nat->Prop) (p':Ptr) (ia:St) (fuel:Nat),t.size<pos+fuel/\fT i t q fuel pos ia=Vb.nY i t q/\¬Fr it/\fF Fr R wr s p' ia/\gu Fr R wr i k b1 b2 b3/\(∀k,Fr k->Grow F w wr k)/\Frame F w wr/\ia.eV .ref=q/\(ia.run i).length<=n0+4*pos
 le:pos<=t.size
 hit:wr.heap[it]?=some (.stringIter t pos)
 hw:w.heap.size<=it
variable{i:Rn}{k:Pl}{b1 b2 b3:Nat}{t:ByteArray}{it:Nat}{q:Int}{Vb:St}{n0:Nat}{wr:World}{pos:Nat}
theorem fF.iterAt{Fr:Nat->Prop}(h:fF Fr R wr s p st)(hn:¬Fr it)(pos':Nat):fF Fr R (wr.iterAt it t pos') s p st:=by
 have hk:∀k,Fr k->(wr.iterAt it t pos').heap[k]?=wr.heap[k]?:=fun k hf=>Lib.iterAt_other wr it k t pos' (fun e=>hn (e▸hf));exact⟨(hk R h.jz).trans h.blk,h.jz,fun k hf=>by rw[Lib.iterAt_size];exact h.lt k hf,h.own.frame (fun k hf _=>hk k hf) (fun _ x=>x)⟩
theorem pF.iterAt{Fr:Nat->Prop}{b:Nat}{x:Value}{ty:TypeId}(h:pF Fr R wr b x ty)(hn:¬Fr it)(pos':Nat):pF Fr R (wr.iterAt it t pos') b x ty:=
 ⟨(Lib.iterAt_other wr it b t pos' (fun e=>hn (e▸h.2.1))).trans h.1,h.2⟩
theorem gu.iterAt{Fr:Nat->Prop}(h:gu Fr R wr i k b1 b2 b3)(hn:¬Fr it)(pos':Nat):gu Fr R (wr.iterAt it t pos') i k b1 b2 b3:=
 ⟨h.1.iterAt hn pos',h.2.1.iterAt hn pos',h.2.2.iterAt hn pos'⟩
theorem yN(st:St)(i:Rn)(c q:Int)(hi:i≠ .ref):(st.put i c q).eV .ref=st.eV .ref:=by simp[St.put,St.dV,Ne.symm hi]
theorem RL.step(h:RL F R w s i k b1 b2 b3 t it q Vb n0 wr pos)(hi:i≠ .ref)(hp:pos<t.size)(D5:n0+4*t.size<=70368744177680):
  (wr.iterAt it t (pos+(Utf8.decode t pos).2)).cell? ⟨b2,0,none⟩=some (.pointer (some ⟨R,i.off,none⟩))/\(wr.iterAt it t (pos+(Utf8.decode t pos).2)).cell? ⟨R,19,none⟩=some (.int .i64 q)/\
  Z4 64 #[.pointer (some ⟨R,i.off,none⟩),.int .i32 ((Utf8.decode t pos).1:Int),.int .i64 q] (wr.iterAt it t (pos+(Utf8.decode t pos).2)).drew fun e w5=>e=.returned (.tuple #[])/\RL F R w s i k b1 b2 b3 t it q Vb n0 w5 (pos+(Utf8.decode t pos).2)/\w5.cell? ⟨b2,0,none⟩=some (.pointer (some ⟨R,i.off,none⟩))/\w5.cell? ⟨R,19,none⟩=some (.int .i64 q):=by
 obtain⟨⟨Fr,p',ia,fuel,hf,he,hnF,r,bx,hG,fr,hq,hl⟩,hle,hit,hw⟩:=h;have hwd:=Ch.ek t pos hp;have r1:=r.iterAt (t:=t) hnF (pos+(Utf8.decode t pos).2);have bx1:=bx.iterAt (t:=t) hnF (pos+(Utf8.decode t pos).2);have Iq:=Lib.iterAt_heap wr it t pos (pos+(Utf8.decode t pos).2) hit;have hsz:=Lib.iterAt_size wr it t (pos+(Utf8.decode t pos).2);have nx:Frame F w (wr.iterAt it t (pos+(Utf8.decode t pos).2)):=⟨fr.os,fr.tape,fr.output,by rw[hsz];exact fr.size,fun k hk hF=>(Lib.iterAt_other wr it k t _ (by omega)).trans (fr.block k hk hF)⟩
 have hsc:=Al t pos hp;have abO:=ql ((Utf8.decode t pos).1:Int);obtain⟨f,rfl⟩:∃f,fuel=f+1:=⟨fuel-1,by omega⟩
 have ZJ:fT i t q f (pos+(Utf8.decode t pos).2) (ia.put i ((Utf8.decode t pos).1:Int) q)=Vb.nY i t q:=by rw[<-he];simp only[fT,hp,if_true]
 generalize (wr.iterAt it t (pos+(Utf8.decode t pos).2))=w4 at*
 generalize hrn:((Utf8.decode t pos).1:Int)=rn at*
 generalize (Utf8.decode t pos).2=wd at*
 have c19:w4.cell? ⟨R,19,none⟩=some (.int .i64 q):=by rw[<-hq];exact r1.cell 19 rfl
 refine⟨iZ bx1.2.1,c19,?_⟩;refine(kU r1 i rn q hsc (by omega)).mono ?_;rintro e w5 ⟨rfl,v,r5,f5,k5⟩;have aa4:w5.heap[it]?=some (.stringIter t (pos+wd)):=by
  have hlt:it<w4.heap.size:=(Array.getElem?_eq_some_iff.1 Iq).1;have hR:it≠R:=fun e=>by rw[e]at Iq;rw[r1.blk]at Iq;cases Iq
  rw[k5.block it hlt hR ?_]
  ·exact Iq
  ·intro e;obtain⟨cur,hc⟩:=fA (r1.own.run i) e.symm;rw[Iq]at hc;cases hc
 have bx5:=bx1.kept r1.own r1.lt k5;refine⟨rfl,⟨⟨Grow Fr w4 w5,_,_,f,by omega,ZJ,?_,r5,bx5,?_,?_,?_,?_⟩,by omega,aa4,hw⟩,iZ bx5.2.1,?_⟩
 ·intro hx;rcases hx with hx|hx
  ·exact hnF hx
  ·have hlt:it<w4.heap.size:=(Array.getElem?_eq_some_iff.1 Iq).1;omega
 ·intro j hj;rcases hj with hj|hj
  ·rcases hG j hj with hx|hx
   ·exact Or.inl hx
   ·exact Or.inr ⟨hx.1,by have:=f5.size;omega⟩
  ·exact Or.inr ⟨by have:=nx.size;omega,hj.2⟩
 ·exact⟨f5.os.trans nx.os,f5.tape.trans nx.tape,f5.output.trans nx.output,aw nx.size f5.size,fun j hj hF=>(f5.block j (aq hj nx.size) (fun x=>(hG j x).elim hF (fun y=>by omega))).trans (nx.block j hj hF)⟩
 ·rw[yN _ _ _ _ hi];exact hq
 ·have:=iB ia i i rn q;omega
 ·have hq5:(ia.put i rn q).eV .ref=q:=by rw[yN _ _ _ _ hi];exact hq
  have:=r5.cell 19 rfl;rw[<-hq5];exact this
theorem RL.last(h:RL F R w s i k b1 b2 b3 t it q Vb n0 wr pos)(hp:¬pos<t.size)(hlt:∀k,F k->k<w.heap.size):
  wr.cell? ⟨b3,0,none⟩=some k.val/\dW F R w s ⟨Vb.nY i t q,.go (.plain k)⟩ (.returned (.tuple #[k.val,.nilIface])) wr:=by
 obtain⟨⟨Fr,p',ia,fuel,hf,he,hnF,r,bx,hG,fr,hq,hl⟩,hle,hit,hw⟩:=h;refine⟨iZ bx.2.2,?_⟩;obtain⟨f,rfl⟩:∃f,fuel=f+1:=⟨fuel-1,by omega⟩
 have ZJ:ia=Vb.nY i t q:=by rw[<-he];simp only[fT,hp,aQ]
 rw[<-ZJ];exact dW.PG (r.mono hG (iA hlt fr.size)) fr
theorem Bl(t:ByteArray):∀f pos acc,(Ch.fR t f pos acc).1.length<=acc.length+4*f:=by
 intro f;induction f with
 |zero=>intro pos acc;simp[Ch.fR]
 |succ f ih=>
  intro pos acc;unfold Ch.fR;have h1:=ih (pos+(Ch.eh t pos).2.toNat) (acc++Lib.encodeRune (Ch.eh t pos).1);have h2:=ih (pos+(Utf8.decode t pos).2) (acc++Lib.encodeRune (Utf8.decode t pos).1);have h3:=ql (Ch.eh t pos).1;have h4:=ql ((Utf8.decode t pos).1:Int);simp only[ax]at h1 h2
  repeat' split
  all_goals first|(simp only[aI];omega)|omega
end
section
variable{F:Nat->Prop}{R:Nat}{w w':World}{s:Src}{p:Ptr}{st:St}{c:Int}
def jA(i:Rn)(k:Pl)(fl:St):Out:=
 if(Ch.j5 ⟨(fl.run .ref).toArray⟩).2.1=0 then⟨fl.nY i ⟨(Ch.j5 ⟨(fl.run .ref).toArray⟩).1.toArray⟩ (fl.eV .ref),.go (.plain k)⟩else⟨fl,.fail 4 (fl.eV .ref)⟩
def nH(i:Rn)(k:Pl)(q:Int)(st:St)(c:Int):Out:=
 if Tk.pH c=true then(if c=59 then jA i k (st.put .ref 59 q)else⟨st.put .ref c q,.go (.ref i k)⟩)else⟨st,.fail 4 (st.eV .ref)⟩
theorem Bn(hT:Ls w)(hf:Frame F w w')(h2:¬F 2):Ls w':=by
 obtain⟨t,fr,hg⟩:=hT;exact⟨t,fr,by rw[hf.block 2 (Array.getElem?_eq_some_iff.1 hg).1 h2];exact hg⟩
theorem RL.start{w2 w3:World}{p2:Ptr}{fl:St}{i:Rn}{k:Pl}{b1 b2 b3:Nat}(t:ByteArray)(r2:fF (Grow F w w2) R w2 s p2 fl)(f2:Frame F w w2)(hN:gu (Grow F w w2) R w2 i k b1 b2 b3)(hb:Z5 w2 w3):
  RL F R w s i k b1 b2 b3 t w3.heap.size (fl.eV .ref) fl (fl.run i).length (w3.iter t 0) 0:=by
 have hb4:Z5 w2 (w3.iter t 0):=hb.alloc hb.size _;have hlt:=r2.lt;refine⟨⟨Grow F w w2,p2,fl,t.size+1,by omega,rfl,?_,?_,?_,?_,?_,rfl,by omega⟩,by omega,World.iter_heap w3 t 0,aw f2.size hb.size⟩
 ·intro hx;have:=hlt _ hx;have:=hb.size;omega
 ·exact⟨(hb4.block R (hlt R r2.jz)).trans r2.blk,r2.jz,fun j hj=>aq (hlt j hj) hb4.size,r2.own.frame (fun j hj _=>hb4.block j (hlt j hj)) (fun _ x=>x)⟩
 ·exact⟨⟨(hb4.block b1 (hlt b1 hN.1.2.1)).trans hN.1.1,hN.1.2⟩,⟨(hb4.block b2 (hlt b2 hN.2.1.2.1)).trans hN.2.1.1,hN.2.1.2⟩,⟨(hb4.block b3 (hlt b3 hN.2.2.2.1)).trans hN.2.2.1,hN.2.2.2⟩⟩
 ·intro j hj;rcases hj with hj|hj
  ·exact Or.inl hj
  ·exact Or.inr ⟨hj.1,by have:=hb4.size;omega⟩
 ·exact⟨hb4.os.trans f2.os,hb4.tape.trans f2.tape,hb4.output.trans f2.output,aw f2.size hb4.size,fun j hj hF=>(hb4.block j (aq hj f2.size)).trans (f2.block j hj hF)⟩
theorem PO(h:fF F R w s p st)(i:Rn)(k:Pl)(b1 b2 b3:Nat)(hi:i≠ .ref)(hN:gu F R w i k b1 b2 b3)(hs:(st.run i).length+16*(st.run .ref).length+120<=70368744177664)(hT:Ls w)(h2:¬F 2):
  Z4 112 #[Z8 R,.int .i32 59,Z8 b1,Z8 b2,Z8 b3] w (dW F R w s (jA i k (st.put .ref 59 s.at_))):=by
 have hat:w.cell? ⟨R,2,none⟩=some (.int .i64 s.at_):=h.cell 2 rfl;have hp:=Kj h (c:=59) (by unfold ig;omega) i k b1 b2 b3 hN (by omega) w (Below.refl _ _);have t_:=iB st .ref .ref 59 s.at_;have hl2:=iB st .ref i 59 s.at_;have HT:=a_ hT;have H2:=a_ h2;have HLT:=a_ h.lt;clear h hN hT h2;generalize st.put .ref 59 s.at_=fl at*
 have xk:jA i k fl=if(Ch.j5 ⟨(fl.run .ref).toArray⟩).2.1=0 then⟨fl.nY i ⟨(Ch.j5 ⟨(fl.run .ref).toArray⟩).1.toArray⟩ (fl.eV .ref),.go (.plain k)⟩else⟨fl,.fail 4 (fl.eV .ref)⟩:=rfl;generalize jA i k fl=so at*
 have NW:=a_ xk;clear xk;go_enter func112,ntmps112;go_wp2_with fail;go_region_held3 (fun W=>W.cell? ⟨R,2,none⟩=some (.int .i64 s.at_))
  (first|exact hat|exact mV)
  (first|(go_at_call 64;refine hp.mono ?_;rintro e w2 ⟨rfl,v,r2,f2,n2⟩;have mV:w2.cell? ⟨R,2,none⟩=some (.int .i64 s.at_):=r2.cell 2 rfl;have N2:=a_ n2;clear n2))
 clear hp;have Sn:Frame F w w2:=(Frame.refl F w).trans f2;have TE:fF (Grow F w w2) R w2 s _ fl:=r2.join (au _) f2.size;have n2':gu (Grow F w w2) R w2 i k b1 b2 b3:=⟨N2.out.1.mono fun j hj=>(Grow.trans (au _) f2.size j).1 hj,N2.out.2.1.mono fun j hj=>(Grow.trans (au _) f2.size j).1 hj,N2.out.2.2.mono fun j hj=>(Grow.trans (au _) f2.size j).1 hj⟩
 have zQ:=TE.lt R TE.jz;obtain⟨ao,cap,hv⟩:=dU (TE.own.run .ref);have c18:w2.cell? ⟨R,18,none⟩=some (.slice ao (fl.run .ref).length cap):=by rw[<-hv];exact TE.cell 18 rfl
 have c19:w2.cell? ⟨R,19,none⟩=some (.int .i64 (fl.eV .ref)):=TE.cell 19 rfl;have hcv:(convert 101 9 (.slice ao (fl.run .ref).length cap)).run prog w2=.ok (.string ⟨(fl.run .ref).toArray⟩) w2:=by rw[<-hv];exact kQ (TE.own.run .ref)
 have hsz:(⟨(fl.run .ref).toArray⟩:ByteArray).size=(fl.run .ref).length:=by show (fl.run .ref).toArray.size=_;simp
 have WE:=CL ⟨(fl.run .ref).toArray⟩ w2 (by rw[hsz];omega) (Bn HT.out Sn H2.out);have Te:=Bl ⟨(fl.run .ref).toArray⟩ (((⟨(fl.run .ref).toArray⟩:ByteArray).size)+1) 0 [];have TF:(Ch.j5 ⟨(fl.run .ref).toArray⟩).1.length<=4*((fl.run .ref).length+1):=by unfold Ch.j5;rw[hsz]at Te ⊢;simpa using Te
 clear Te;have hst:=fun t w3 hb=>RL.start (k:=k) (w3:=w3) (i:=i) t TE Sn n2' hb;have R2:=a_ TE;have F2:=a_ Sn;have HST:=a_ hst;have HU:=a_ TF;clear r2 f2 N2 TE Sn n2' hst hv TF mV;generalize hX:Ch.j5 ⟨(fl.run .ref).toArray⟩=X at*
 clear hX;obtain⟨X1,X2,X3⟩:=X;by_cases hz:X2=0
 ·have xk:so=⟨fl.nY i ⟨X1.toArray⟩ (fl.eV .ref),.go (.plain k)⟩:=by rw[NW.out,if_pos hz]
  subst hz;obtain⟨t,ht⟩:∃t:ByteArray,t=⟨X1.toArray⟩:=⟨_,rfl⟩
  have htz:t.size<=4*((fl.run .ref).length+1):=by rw[ht];show X1.toArray.size<=_;simpa using HU.out
  rw[<-ht]at WE xk;subst xk;have D5:(fl.run i).length+4*t.size<=70368744177680:=by omega
  have HN0:=a_ D5;clear NW HU ht htz D5 t_ hl2 hs hsz;have u_:k.val=.func (.func k.fn) #[] #[]:=rfl;have Wz:=a_ u_;clear u_;go_wp2_with(go_at_call 114;refine WE.mono ?_;rintro e w3 ⟨rfl,NY⟩);have ZK:=HST.out t w3 NY;have HS0:=a_ ZK;clear ZK WE hcv c18 c19 HST;generalize (fl.run i).length=n0 at*
  go_loopw [] (fun wr=>∃pos,RL F R w s i k b1 b2 b3 t w3.heap.size (fl.eV .ref) fl n0 wr pos) (fun wr=>t.size-wr.iterPos w3.heap.size)
  case atStart=>exact⟨0,HS0.out⟩
  case round=>
   obtain⟨pos,WG⟩:=hrel;by_cases hp:pos<t.size
   ·have Ec:∀ty,(Instr.next (.pointer (some ⟨w3.heap.size,0,none⟩)) true ty).run prog wr=_:=fun ty=>Lib.run_next_any_at wr w3.heap.size t pos ty WG.hit hp;obtain⟨d1,d2,d3⟩:=WG.step hi hp HN0.out;have hwd:=Ch.ek t pos hp;have HRL:=a_ WG;clear WG;generalize ((Utf8.decode t pos).1:Int)=rn at*
    go_wp2_with fail;go_region_held3 (fun W=>W.cell? ⟨b2,0,none⟩=some (.pointer (some ⟨R,i.off,none⟩))/\W.cell? ⟨R,19,none⟩=some (.int .i64 (fl.eV .ref)))
     (first|exact⟨d1,d2⟩|exact⟨g1,g2⟩)
     (first|(go_at_call 64;refine d3.mono ?_;rintro e w5 ⟨rfl,hr5,g1,g2⟩))
    all_goals
     go_wp2
     go_roundw
     case rel=>exact⟨_,hr5⟩
     case measure=>
      simp only[World.iterPos,hr5.hit,HRL.out.hit];omega
   ·have Ec:∀ty,(Instr.next (.pointer (some ⟨w3.heap.size,0,none⟩)) true ty).run prog wr=_:=fun ty=>Lib.run_next_end_at wr w3.heap.size t pos ty WG.hit hp;obtain⟨d1,d2⟩:=WG.last hp HLT.out;rw[Wz.out]at d1 d2;have D2:=a_ d2;clear WG d2;go_wp2
    go_ret2
    exact D2.out
 ·have ez:(X2 !=0)=true:=by simpa using hz
  have xk:so=⟨fl,.fail 4 (fl.eV .ref)⟩:=by rw[NW.out,if_neg hz]
  subst xk;clear hz NW;go_wp2_with(go_at_call 114;refine WE.mono ?_;rintro e w3 ⟨rfl,NY⟩);have WD:=(NY.cell zQ).trans c19;go_region_held3 (fun W=>W.cell? ⟨R,19,none⟩=some (.int .i64 (fl.eV .ref)))
   (first|exact WD)
   (fail)
  all_goals
   go_wp2
   go_ret2
   exact(dW.gP R2.out NY.drew).after F2.out
end
section
variable{F:Nat->Prop}{R:Nat}{w w':World}{s:Src}{p:Ptr}{st:St}{c:Int}
structure St.PQ(st:St):Prop where
 run:∀i,(st.run i).length<=70368744177664
 told:st.told.length<=1099511627776
 attrs:st.attrs.length<=1099511627776
 names:st.names.length<=1099511627776
theorem St.PQ.small(h:st.PQ):st.Small:=⟨fun i=>by have:=h.run i;omega,h.told,h.attrs,h.names⟩
theorem Fs(k:Pl)(h:fF F R w s p st)(hc:s9 c)(hs:st.PQ)(hf:s.Fits):
  Z4 k.fn #[Z8 R,.int .i32 c] w (dW F R w s (step k s.at_ st c)):=by
 have ht:=hs.run .text;have ha:=hs.run .attr;have hn:=hs.names;cases k with
 |between=>exact Ip h hc hs.small
 |less=>exact TB h hc
 |nW=>exact Ty h hc
 |remark=>exact Bb h hc
 |dash=>exact Tq h hc
 |ik=>exact CV h hc
 |order=>exact E7 h hc
 |mark=>exact Tp h hc
 |gM=>exact yI h hc (by omega)
 |bracket=>exact yJ h hc (by omega) hf
 |brackets=>exact Ff h hc (by omega) hf
 |part=>exact jD h hc hs.small
 |eD=>exact LX h hc hs.small
 |js=>exact Im h hc (by omega) (by omega)
 |qm=>exact Fe h hc
 |kP=>exact LV h hc
 |iw=>exact L5 h hc hs.small
 |im=>exact p8 h hc hs.small
 |closing=>exact Ij h hc hs.small
def b_(pt:Part)(q:Int)(st:St)(c:Int):Out:=
 match pt with
 | .plain k=>step k q st c
 | .word [] k=>⟨st,.go (.plain k)⟩
 | .word (x::l) k=>ll x l k q st c
 | .name i k=>stName i k q st c
 | .ref i k=>nH i k q st c
def Part.uB:Part->Prop
 | .plain _=>True
 | .word l _=>l≠[]/\l.length<=10
 | .name _ _=>True
 | .ref i _=>i≠ .ref
theorem L6(pt:Part)(v:Value)(h:fF F R w s p st)(Fu:fZ F R w v pt)(xk:pt.uB)(hc:s9 c)(hs:st.PQ)(hx:∀i k,pt=.ref i k->(st.run i).length+16*(st.run .ref).length+120<=70368744177664)(hf:s.Fits)(hT:Ls w)(h2:¬F 2):
  ∃f cs,v=.func (.func f) #[] cs/\(∀args w,(callFunc f args).run prog w=.ok (.enter f args) w)/\Z4 f (#[Z8 R,.int .i32 c]++cs) w (dW F R w s (b_ pt s.at_ st c)):=by
 cases pt with
 |plain k=>exact⟨k.fn,#[],Fu,Fj k,Fs k h hc hs hf⟩
 |word l k=>
  obtain⟨b1,b2,rfl,x1,x2⟩:=Fu;cases l with
  |nil=>exact absurd rfl xk.1
  |cons x l=>exact⟨186,_,rfl,enters_of func186 (by kernel_rfl) rfl,Tz h b1 b2 x l k x1 x2 (by have:=xk.2;simp at this;omega)⟩
 |name i k=>
  obtain⟨b1,b2,b3,rfl,x1,x2,x3⟩:=Fu;exact⟨146,_,rfl,enters_of func146 (by kernel_rfl) rfl,tY h hc i k b1 b2 b3 ⟨x1,x2,x3⟩ (by have:=hs.run i;omega) (fun _ F1 w1 p1 r=>Fs k r hc hs hf)⟩
 |ref i k=>
  obtain⟨b1,b2,b3,rfl,x1,x2,x3⟩:=Fu;refine⟨112,_,rfl,enters_of func112 (by kernel_rfl) rfl,?_⟩;have hr:=hs.run .ref;show Z4 112 _ w (dW F R w s (nH i k s.at_ st c));unfold nH;cases hb:Tk.pH c
  ·simp only[aA,aQ];exact TD h hc _ _ _ hb
  ·simp only[if_true];by_cases mO:c=59
   ·subst mO;rw[if_pos rfl];exact PO h i k b1 b2 b3 xk ⟨x1,x2,x3⟩ (hx i k rfl) hT h2
   ·rw[if_neg mO];exact PN h hc i k b1 b2 b3 ⟨x1,x2,x3⟩ (by omega) hb mO
theorem yO(k:Pl)(q:Int)(st:St)(c:Int):∀pt,(step k q st c).res=.go pt->pt.uB:=by
 intro pt;cases k<;>simp only[step,jt,fH,jK,ib,iH,fB,fC]<;>(repeat' split)<;>intro e<;>first|(cases e;done)|(cases e;simp[Part.uB])
end
end K
end Go.Proofs.YtclgfepngpeifaaGreatDoor
