/- Cki to Ckk: Layer check: expressions. -/
import Derived.Test.YtcchdlnfeijinaaGreatDoorNaf
namespace Go.Proofs.YtcchdlnfeijinaaGreatDoor
open Go.Proofs.Tryz
set_option linter.unusedSimpArgs false
set_option linter.unusedVariables false
set_option maxHeartbeats 4000000
set_option maxRecDepth 100000
section
open Go Go.RowKit Go.Maps
def Sx (S S':CkS):Prop:=∃JY scv',S'={S with vls:=JY,scv:=scv'}/\∀j,j≠S.fi->JY[j]? =S.vls[j]?
theorem Sx.refl (S:CkS):Sx S S:=⟨_,_,rfl,fun _ _=>rfl⟩
theorem Sx.trans {a b c:CkS}(h:Sx a b)(k:Sx b c):Sx a c:=by
 obtain ⟨v,s,rfl,hv⟩:=h;obtain ⟨v',s',rfl,Py⟩:=k;exact ⟨v',s',rfl,fun j hj=>(Py j hj).trans (hv j hj)⟩
abbrev jU (no p:Int):Ending:=.panicked [{v:=.iface tFt (.agg #[Iv no,Iv p]),recovered:=false}]
def fo (X:CkX) (S:CkS) (r:Ck Cs) (w:World) (e:Ending) (w':World):Prop:=
 (∃τ,r=.ok τ/\e=.returned (.tuple #[])/\∃S',Sx S S'/\CkV X S' τ w'/\Below X.B w w')∨(∃no p,r=.er no p/\e=.panicked [{v:=.iface tFt (.agg #[Iv no,Iv p]),recovered:=false}]/\Below X.B w w')
theorem eU {p:Int}{tr:List (Int×Int)}{ks:List Nat}(h:(ks.all fun k=>ji (dJ tr k))=true):aO p tr ks=.ok ():=by
 unfold aO;rw [h]
 rfl
theorem gK {p:Int}{tr:List (Int×Int)}{ks:List Nat}(h:(ks.all fun k=>ji (dJ tr k))=false):aO p tr ks=.er 6 p:=by
 unfold aO;rw [h]
 rfl
structure NdW (X:CkX) (K:Kn) (σ:Cs) (x:CN):Prop where
 s:x.h.s.length<=1000000
 ks:∀k∈x.kids,k<X.ns.length
 kl:x.kids.length<=1000000
 sc:σ.sc.length<=1000000
 fn:∀m,fE σ.sc x.h.s=some m->m.so=4->∃j:Nat,m.rf=j/\j<X.fl.length
 np:K.np=X.fl.map fun f=>f.1.ps.length
theorem Hg {X:CkX}{S:CkS}{σ:Cs}{w:World}{K:Kn}(h:CkV X S σ w){i:Nat}{x:CN}(hx:X.ns[i]? =some x)(hw:NdW X K σ x)(ho:x.h.op=2) :
  Calls prog 129 #[ckp X,ndp X i] w (fo X S (dm K x.h x.kids i σ) w):=by
 have mf:=h.aU;have hil:=(zS.1 hx).1;have Bo:=h.ai hx 0 (by omega)
 simp only [aA,List.getElem?_cons_succ,List.getElem?_cons_zero,Nat.add_zero] at Bo;rw [ho] at Bo;have e:dm K x.h x.kids i σ=(aW x.h [1,2] σ.sc).bind fun m=>.ok (bY (bC σ i m.rf) i m.vl):=by simp [dm,ho]
 rw [e];obtain ⟨R,hR⟩:∃R:Ending->World->Prop,fo X S ((aW x.h [1,2] σ.sc).bind fun m=>.ok (bY (bC σ i m.rf) i m.vl)) w=R:=⟨_,rfl⟩
 rw [hR];have av:Zw w (w.alloc (.cells #[Iv 1,Iv 2] aC)):=(zB _ _).alloc (zL _) _;have HF:=Hy (kC (h.on av) hx (by unfold maxLen;have:=hw.s;omega) hw.sc (so:=[1,2]) (n:=2) (g:=w.heap.size) rfl (by omega) (Blk.new w aC _))
 have HB:=Hy (av.mono h.Ble);have HR:=Hy hR;clear h hR av e;go_enter func129,ntmps129;go_wp2_with fail;refine HF.mono ?_;clear HF;rintro e w1 (⟨m,hm,rfl,hC,hb⟩|⟨no,p,hm,rfl,hb⟩)
 ·have XZ:=hC.aU;have VZ:=hC.nod.frozenAt (i * 8+6);have Qo:=hC.ai hx 6 (by omega)
  simp only [aA,List.getElem?_cons_succ,List.getElem?_cons_zero] at Qo;have HE:=Hy (show R (.returned (.tuple #[])) (w1.setCell (Ad X.nB (i * 8+6)) (Iv m.vl)) by
   rw [<-HR.out];exact .inl ⟨_,by rw [hm];rfl,rfl,S,Sx.refl S,hC.ty hil m.vl,(HB.trans hb).setCell (p:=(Ad X.nB (i * 8+6))) (show X.B<=X.nB from hC.hB.2.1) _⟩)
  clear hC hb hm;go_wp2_with fail;go_end0;exact HE
 ·have HE:=Hy (show R (jU no p) w1 by
   rw [<-HR.out];exact .inr ⟨no,p,by rw [hm];rfl,rfl,HB.trans hb⟩)
  clear hb hm;go_wp2_with fail;exact aG rfl HE
-- EXPR
theorem Hf {X:CkX}{S:CkS}{σ:Cs}{w:World}{K:Kn}(h:CkV X S σ w){i:Nat}{x:CN}(hx:X.ns[i]? =some x)(hw:NdW X K σ x)(ho:x.h.op=3) :
  Calls prog 129 #[ckp X,ndp X i] w (fo X S (dm K x.h x.kids i σ) w):=by
 have mf:=h.aU;have hil:=(zS.1 hx).1;have Bo:=h.ai hx 0 (by omega)
 simp only [aA,List.getElem?_cons_succ,List.getElem?_cons_zero,Nat.add_zero] at Bo;rw [ho] at Bo;have e:dm K x.h x.kids i σ=(aW x.h [3] σ.sc).bind fun m=>(aO x.h.p (bY (bC σ i m.rf) i m.vl).tr x.kids).bind fun _=>.ok (bY (bC σ i m.rf) i m.vl):=by simp [dm,ho]
 rw [e];obtain ⟨R,hR⟩:∃R:Ending->World->Prop,fo X S ((aW x.h [3] σ.sc).bind fun m=>(aO x.h.p (bY (bC σ i m.rf) i m.vl).tr x.kids).bind fun _=>.ok (bY (bC σ i m.rf) i m.vl)) w=R:=⟨_,rfl⟩
 rw [hR];have HR:=Hy hR;have HN:=Hy hw;have av:Zw w (w.alloc (.cells #[Iv 3] aC)):=(zB _ _).alloc (zL _) _;have HF:=Hy (kC (h.on av) hx (by unfold maxLen;have:=hw.s;omega) hw.sc (so:=[3]) (n:=1) (g:=w.heap.size) rfl (by omega) (Blk.new w aC _))
 have HB:=Hy (av.mono h.Ble);clear h hR e av;go_enter func129,ntmps129;go_wp2_with fail;refine HF.mono ?_;clear HF;rintro e w1 (⟨m,hm,rfl,hC,hb⟩|⟨no,p,hm,rfl,hb⟩)
 ·have XZ:=hC.aU;have VZ:=hC.nod.frozenAt (i * 8+6);have Qo:=hC.ai hx 6 (by omega)
  simp only [aA,List.getElem?_cons_succ,List.getElem?_cons_zero] at Qo;have qM:=hC.ty hil m.vl;have aU:=(HB.trans hb).setCell (p:=(Ad X.nB (i * 8+6))) (show X.B<=X.nB from hC.hB.2.1) (Iv m.vl)
  obtain ⟨A,c,hv,hk⟩:=qM.kids hx;have Du:=qM.ai hx 5 (by omega)
  simp only [aA,List.getElem?_cons_succ,List.getElem?_cons_zero] at Du;rw [hv] at Du;have J3:=qM.aU;have HV:=Hy (gM qM hx hw.ks (n:=x.kids.length) rfl hw.kl hk (A:=A) (c:=c));have HC:=Hy2 qM aU;have HM:=Hy hm;clear hC hb hm qM aU hv hk;go_upto_region 5 with (fail);generalize w1.setCell (Ad X.nB (i * 8+6)) (Iv m.vl)=W2 at *;go_wp2_with fail;refine HV.mono ?_;clear HV;rintro e w3 ⟨⟨ha,rfl⟩|⟨ha,rfl⟩,rfl⟩
  ·have HE:=Hy (show R (.returned (.tuple #[])) W2 by
    rw [<-HR.out];exact .inl ⟨_,by rw [HM.out,Ck.bind_ok,eU ha];rfl,rfl,S,Sx.refl S,HC.1,HC.2⟩)
   clear ha;go_wp2_with fail;go_end0;exact HE
  ·have HE:=Hy (show R (jU 6 x.h.p) W2 by
    rw [<-HR.out];exact .inr ⟨6,x.h.p,by rw [HM.out,Ck.bind_ok,gK ha];rfl,rfl,HC.2⟩)
   clear ha;go_wp2_with fail;exact aG rfl HE
 ·have HE:=Hy (show R (jU no p) w1 by
   rw [<-HR.out];exact .inr ⟨no,p,by rw [hm];rfl,rfl,HB.trans hb⟩)
  clear hb hm;go_wp2_with fail;exact aG rfl HE
theorem G9 {X:CkX}{S:CkS}{σ:Cs}{w:World}{K:Kn}(h:CkV X S σ w){i:Nat}{x:CN}(hx:X.ns[i]? =some x)(hw:NdW X K σ x)(ho:x.h.op=6) :
  Calls prog 129 #[ckp X,ndp X i] w (fo X S (dm K x.h x.kids i σ) w):=by
 have mf:=h.aU;have hil:=(zS.1 hx).1;have Bo:=h.ai hx 0 (by omega)
 simp only [aA,List.getElem?_cons_succ,List.getElem?_cons_zero,Nat.add_zero] at Bo;rw [ho] at Bo;have e:dm K x.h x.kids i σ=(aO x.h.p σ.tr x.kids).bind fun _=>.ok (bY σ i (iol (decide (x.h.to=2)))):=by simp [dm,ho]
 rw [e];obtain ⟨R,hR⟩:∃R:Ending->World->Prop,fo X S ((aO x.h.p σ.tr x.kids).bind fun _=>.ok (bY σ i (iol (decide (x.h.to=2))))) w=R:=⟨_,rfl⟩
 rw [hR];have HR:=Hy hR;have HN:=Hy hw;obtain ⟨A,c,hv,hk⟩:=h.kids hx;have Du:=h.ai hx 5 (by omega)
 simp only [aA,List.getElem?_cons_succ,List.getElem?_cons_zero] at Du;rw [hv] at Du;have HV:=Hy (gM h hx hw.ks (n:=x.kids.length) rfl hw.kl hk (A:=A) (c:=c));have H:=Hy h;have VZ:=h.nod.frozenAt (i * 8+6);have Qo:=h.ai hx 6 (by omega)
 have NI:=h.ai hx 3 (by omega)
 have ZI:=h.ai hx 4 (by omega)
 simp only [aA,List.getElem?_cons_succ,List.getElem?_cons_zero] at Qo NI ZI;clear h hR e hv hk;go_enter func129,ntmps129;go_wp2_with fail;refine HV.mono ?_;clear HV;rintro e w3 ⟨⟨ha,rfl⟩|⟨ha,rfl⟩,rfl⟩
 ·have hdt:(x.h.to == 2)=decide (x.h.to=2):=by by_cases h2:x.h.to=2 <;> simp [h2]
  have HE:=Hy (show R (.returned (.tuple #[])) (w.setCell (Ad X.nB (i * 8+6)) (Iv (iol (decide (x.h.to=2))))) by
   rw [<-HR.out];exact .inl ⟨_,by rw [eU ha];rfl,rfl,S,Sx.refl S,H.ty hil _,(zB _ _).setCell (p:=(Ad X.nB (i * 8+6))) (show X.B<=X.nB from H.hB.2.1) _⟩)
  have HI:=fun W=>ou (decide (x.h.to=2)) W
  rw [<-hdt] at HI HE;have Za:=Hy HI;clear ha HI hdt;generalize x.h.to=tt at *;go_wp2_with (go_at_call 93;refine (Za _).mono ?_;rintro e w5 ⟨rfl,rfl⟩);go_end0;exact HE
 ·have HE:=Hy (show R (jU 6 x.h.p) w by
   rw [<-HR.out];exact .inr ⟨6,x.h.p,by rw [gK ha];rfl,rfl,zB _ _⟩)
  clear ha;go_wp2_with fail;exact aG rfl HE
theorem He {X:CkX}{S:CkS}{σ:Cs}{w:World}{K:Kn}(h:CkV X S σ w){i:Nat}{x:CN}(hx:X.ns[i]? =some x)(hw:NdW X K σ x)(ho:x.h.op=4){k0:Nat}(hk0:x.kids=[k0]) :
  Calls prog 129 #[ckp X,ndp X i] w (fo X S (dm K x.h x.kids i σ) w):=by
 have mf:=h.aU;have hil:=(zS.1 hx).1;have Bo:=h.ai hx 0 (by omega)
 simp only [aA,List.getElem?_cons_succ,List.getElem?_cons_zero,Nat.add_zero] at Bo;rw [ho] at Bo;have e:dm K x.h x.kids i σ=(aO x.h.p σ.tr x.kids).bind fun _=>.ok (bY σ i (iol (!decide (x.h.s=[33]) && dw σ.tr (kid x.kids 0)))):=by simp [dm,ho]
 rw [e];obtain ⟨R,hR⟩:∃R:Ending->World->Prop,fo X S ((aO x.h.p σ.tr x.kids).bind fun _=>.ok (bY σ i (iol (!decide (x.h.s=[33]) && dw σ.tr (kid x.kids 0))))) w=R:=⟨_,rfl⟩
 rw [hR];have HR:=Hy hR;have HN:=Hy hw;obtain ⟨A,c,hv,hk⟩:=h.kids hx;have Du:=h.ai hx 5 (by omega)
 simp only [aA,List.getElem?_cons_succ,List.getElem?_cons_zero] at Du;rw [hv] at Du;have HV:=Hy (gM h hx hw.ks (n:=x.kids.length) rfl hw.kl hk (A:=A) (c:=c));have H:=Hy h;have VZ:=h.nod.frozenAt (i * 8+6);have Qo:=h.ai hx 6 (by omega)
 have NI:=h.ai hx 3 (by omega)
 have ZI:=h.ai hx 4 (by omega)
 simp only [aA,List.getElem?_cons_succ,List.getElem?_cons_zero] at Qo NI ZI;have h0:k0<X.ns.length:=hw.ks k0 (by rw [hk0];simp)
 have Ru:kid x.kids 0=k0:=by rw [hk0];rfl
 obtain ⟨g,o,rfl,hg,Gq⟩:∃g o,A=some (Ad g o)/\g<w.heap.size/\Ce w g o (Iv (k0:Nat)):=by
  rw [hk0] at hk;rcases hk with e|⟨g,o,e,hg,hc⟩
  ·cases e
  ·exact ⟨g,o,e,hg,hc 0 k0 rfl⟩
 have sZ:x.kids.length=1:=by rw [hk0];rfl
 rw [sZ] at Du HV;clear h hR e hv hk;go_enter func129,ntmps129;go_wp2_with fail;refine HV.mono ?_;clear HV;rintro e w3 ⟨⟨ha,rfl⟩|⟨ha,rfl⟩,rfl⟩
 ·rw [Ru] at HR;have HL:=Hy (rC H h0);by_cases hs:x.h.s=[33]
  ·have ef:(!decide (x.h.s=[33]) && dw σ.tr k0)=false:=by simp [hs]
   rw [ef] at HR;rw [hs] at NI;have HE:=Hy (show R (.returned (.tuple #[])) (w.setCell (Ad X.nB (i * 8+6)) (Iv (iol false))) by
    rw [<-HR.out];exact .inl ⟨_,by rw [eU ha];rfl,rfl,S,Sx.refl S,H.ty hil _,(zB _ _).setCell (p:=(Ad X.nB (i * 8+6))) (show X.B<=X.nB from H.hB.2.1) _⟩)
   have HI:=Hy fun W=>ou false W
   clear ha ef hs;go_wp2_with (go_at_call 93;refine (HI _).mono ?_;rintro e w5 ⟨rfl,rfl⟩);go_end0;exact HE
  ·have ef:(!decide (x.h.s=[33]) && dw σ.tr k0)=dw σ.tr k0:=by simp [hs]
   rw [ef] at HR;have hb33:(x.h.s == [33])=false:=by simp [hs]
   have hb33':(x.h.s != [33])=true:=by simp [hs]
   have HE:=Hy (show R (.returned (.tuple #[])) (w.setCell (Ad X.nB (i * 8+6)) (Iv (iol (dw σ.tr k0)))) by
    rw [<-HR.out];exact .inl ⟨_,by rw [eU ha];rfl,rfl,S,Sx.refl S,H.ty hil _,(zB _ _).setCell (p:=(Ad X.nB (i * 8+6))) (show X.B<=X.nB from H.hB.2.1) _⟩)
   have HI:=Hy fun W=>ou (dw σ.tr k0) W
   generalize dw σ.tr k0=lb at *;generalize x.h.s=ss at *;clear ha ef hs;go_wp2_with (first|(go_at_call 93;refine (HI _).mono ?_;rintro e w5 ⟨rfl,rfl⟩)|(go_at_call 154;refine HL.mono ?_;rintro e w5 ⟨rfl,rfl⟩))
   go_end0;exact HE
 ·have HE:=Hy (show R (jU 6 x.h.p) w by
   rw [<-HR.out];exact .inr ⟨6,x.h.p,by rw [gK ha];rfl,rfl,zB _ _⟩)
  clear ha;go_wp2_with fail;exact aG rfl HE
theorem Ha {X:CkX}{S:CkS}{σ:Cs}{w:World}{K:Kn}(h:CkV X S σ w){i:Nat}{x:CN}(hx:X.ns[i]? =some x)(hw:NdW X K σ x)(ho:x.h.op=5){k0 k1:Nat}(hk0:x.kids=[k0,k1]) :
  Calls prog 129 #[ckp X,ndp X i] w (fo X S (dm K x.h x.kids i σ) w):=by
 have mf:=h.aU;have hil:=(zS.1 hx).1;have Bo:=h.ai hx 0 (by omega)
 simp only [aA,List.getElem?_cons_succ,List.getElem?_cons_zero,Nat.add_zero] at Bo;rw [ho] at Bo;have e:dm K x.h x.kids i σ=(aO x.h.p σ.tr x.kids).bind fun _=>.ok (bY σ i (iol (jy x.h.s (dw σ.tr (kid x.kids 0)) (dw σ.tr (kid x.kids 1))))):=by simp [dm,ho]
 rw [e];obtain ⟨R,hR⟩:∃R:Ending->World->Prop,fo X S ((aO x.h.p σ.tr x.kids).bind fun _=>.ok (bY σ i (iol (jy x.h.s (dw σ.tr (kid x.kids 0)) (dw σ.tr (kid x.kids 1)))))) w=R:=⟨_,rfl⟩
 rw [hR];have HR:=Hy hR;have HN:=Hy hw;obtain ⟨A,c,hv,hk⟩:=h.kids hx;have Du:=h.ai hx 5 (by omega)
 simp only [aA,List.getElem?_cons_succ,List.getElem?_cons_zero] at Du;rw [hv] at Du;have HV:=Hy (gM h hx hw.ks (n:=x.kids.length) rfl hw.kl hk (A:=A) (c:=c));have H:=Hy h;have VZ:=h.nod.frozenAt (i * 8+6);have Qo:=h.ai hx 6 (by omega)
 have NI:=h.ai hx 3 (by omega)
 have ZI:=h.ai hx 4 (by omega)
 simp only [aA,List.getElem?_cons_succ,List.getElem?_cons_zero] at Qo NI ZI;have h0:k0<X.ns.length:=hw.ks k0 (by rw [hk0];simp)
 have h1:k1<X.ns.length:=hw.ks k1 (by rw [hk0];simp)
 have Ru:kid x.kids 0=k0:=by rw [hk0];rfl
 have Um:kid x.kids 1=k1:=by rw [hk0];rfl
 rw [Ru,Um] at HR;have HL:=Hy (GI h hx hk0 h0 h1);clear Ru Um hk0;clear h hR e hv hk;go_enter func129,ntmps129;go_wp2_with fail;refine HV.mono ?_;clear HV;rintro e w3 ⟨⟨ha,rfl⟩|⟨ha,rfl⟩,rfl⟩
 ·skip
  obtain ⟨bl,eu⟩:=zN (jy x.h.s (dw σ.tr k0) (dw σ.tr k1));rw [eu] at HL HR;have HI:=Hy fun W=>ou bl W
  have HVO:Hid ((aO x.h.p σ.tr x.kids)=.ok ()):=Hy (eU ha);clear ha eu;go_wp2_with fail;refine HL.mono ?_;clear HL;rintro e w4 ⟨rfl,NJ⟩;have QI:=H.on NJ;have hf64:=QI.nod.frozenAt (i * 8+6);have hc64:=QI.ai hx 6 (by omega)
  simp only [aA,List.getElem?_cons_succ,List.getElem?_cons_zero] at hc64;have hnl4:=QI.aU;have HE:=Hy (show R (.returned (.tuple #[])) (w4.setCell (Ad X.nB (i * 8+6)) (Iv (iol bl))) by
   rw [<-HR.out];exact .inl ⟨_,by rw [HVO.out];rfl,rfl,S,Sx.refl S,QI.ty hil _,(NJ.mono H.Ble).setCell (p:=(Ad X.nB (i * 8+6))) (show X.B<=X.nB from H.hB.2.1) _⟩)
  clear QI NJ;go_wp2_with (go_at_call 93;refine (HI _).mono ?_;rintro e w5 ⟨rfl,rfl⟩);go_end0;exact HE
 ·have HE:=Hy (show R (jU 6 x.h.p) w by
   rw [<-HR.out];exact .inr ⟨6,x.h.p,by rw [gK ha];rfl,rfl,zB _ _⟩)
  clear ha;go_wp2_with fail;exact aG rfl HE
theorem G7 {X:CkX}{S:CkS}{σ:Cs}{w:World}{K:Kn}(h:CkV X S σ w){i:Nat}{x:CN}(hx:X.ns[i]? =some x)(hw:NdW X K σ x)(ho:x.h.op=8) :
  Calls prog 129 #[ckp X,ndp X i] w (fo X S (dm K x.h x.kids i σ) w):=by
 have mf:=h.aU;have hil:=(zS.1 hx).1;have Bo:=h.ai hx 0 (by omega)
 simp only [aA,List.getElem?_cons_succ,List.getElem?_cons_zero,Nat.add_zero] at Bo;rw [ho] at Bo;have e:dm K x.h x.kids i σ=.ok (bY σ i 2):=by simp [dm,ho]
 rw [e];obtain ⟨R,hR⟩:∃R:Ending->World->Prop,fo X S (.ok (bY σ i 2)) w=R:=⟨_,rfl⟩;rw [hR];have HR:=Hy hR;have HN:=Hy hw;have H:=Hy h;have VZ:=h.nod.frozenAt (i * 8+6);have Qo:=h.ai hx 6 (by omega)
 simp only [aA,List.getElem?_cons_succ,List.getElem?_cons_zero] at Qo;clear h hR e;go_enter func129,ntmps129;have HE:=Hy (show R (.returned (.tuple #[])) (w.setCell (Ad X.nB (i * 8+6)) (Iv 2)) by
  rw [<-HR.out];exact .inl ⟨_,rfl,rfl,S,Sx.refl S,H.ty hil _,(zB _ _).setCell (p:=(Ad X.nB (i * 8+6))) (show X.B<=X.nB from H.hB.2.1) _⟩)
 go_wp2_with fail;go_end0;exact HE
theorem Ih {a b:Nat}(h:((a:Int) != (b:Int))=true):a≠b:=by
 intro e;subst e;simp at h
theorem Il {a b:Nat}(h:((a:Int) != (b:Int))=false):a=b:=by
 have h2:(a:Int)=b:=by simpa using h
 omega
theorem Bl {h:Hd}{so:List Int}{sc:List Scp}{m:Mg}(e:aW h so sc=.ok m):fE sc h.s=some m/\m.so∈so:=by
 unfold aW at e;cases hl:fE sc h.s with
 |none=>rw [hl] at e;cases e
 |some q=>
  rw [hl] at e;simp only at e;split at e
  ·rename_i hq;cases e;exact ⟨rfl,hq⟩
  ·cases e
theorem ym {σ:Cs}{i:Nat}(hi:i<σ.tr.length)(r t:Int):(bY (bC σ i r) i t).tr.getD i (0,0)=(t,r):=by
 simp [bY,bC,hi]
theorem G8 {X:CkX}{S:CkS}{σ:Cs}{w:World}{K:Kn}(h:CkV X S σ w){i:Nat}{x:CN}(hx:X.ns[i]? =some x)(hw:NdW X K σ x)(ho:x.h.op=7) :
  Calls prog 129 #[ckp X,ndp X i] w (fo X S (dm K x.h x.kids i σ) w):=by
 have mf:=h.aU;have hil:=(zS.1 hx).1;have Bo:=h.ai hx 0 (by omega)
 simp only [aA,List.getElem?_cons_succ,List.getElem?_cons_zero,Nat.add_zero] at Bo;rw [ho] at Bo;have e:dm K x.h x.kids i σ=(aW x.h [4] σ.sc).bind fun m=>(refuse (decide (x.kids.length≠K.np.getD m.rf.toNat 0)) 7 x.h.p).bind fun _=>(aO x.h.p (bY (bC σ i m.rf) i m.vl).tr x.kids).bind fun _=>.ok (bY (bC σ i m.rf) i m.vl):=by simp [dm,ho]
 rw [e];obtain ⟨R,hR⟩:∃R:Ending->World->Prop,fo X S ((aW x.h [4] σ.sc).bind fun m=>(refuse (decide (x.kids.length≠K.np.getD m.rf.toNat 0)) 7 x.h.p).bind fun _=>(aO x.h.p (bY (bC σ i m.rf) i m.vl).tr x.kids).bind fun _=>.ok (bY (bC σ i m.rf) i m.vl)) w=R:=⟨_,rfl⟩
 rw [hR];have HR:=Hy hR;have HN:=Hy hw;have av:Zw w (w.alloc (.cells #[Iv 4] aC)):=(zB _ _).alloc (zL _) _;have HF:=Hy (kC (h.on av) hx (by unfold maxLen;have:=hw.s;omega) hw.sc (so:=[4]) (n:=1) (g:=w.heap.size) rfl (by omega) (Blk.new w aC _))
 have HB:=Hy (av.mono h.Ble);clear h hR e av;go_enter func129,ntmps129;go_wp2_with fail;refine HF.mono ?_;clear HF;rintro e w1 (⟨m,hm,rfl,hC,hb⟩|⟨no,p,hm,rfl,hb⟩)
 ·have XZ:=hC.aU;have VZ:=hC.nod.frozenAt (i * 8+6);have Qo:=hC.ai hx 6 (by omega)
  simp only [aA,List.getElem?_cons_succ,List.getElem?_cons_zero] at Qo;have qM:=hC.ty hil m.vl;have aU:=(HB.trans hb).setCell (p:=(Ad X.nB (i * 8+6))) (show X.B<=X.nB from hC.hB.2.1) (Iv m.vl)
  obtain ⟨A,c,hv,hk⟩:=qM.kids hx;have Du:=qM.ai hx 5 (by omega)
  simp only [aA,List.getElem?_cons_succ,List.getElem?_cons_zero] at Du;rw [hv] at Du;have J3:=qM.aU;have HC:=Hy2 qM aU;have Qu:=Hy hv;obtain ⟨Oa,PY⟩:=Bl hm;obtain ⟨j,hj,xP⟩:=hw.fn m Oa (by simpa using PY)
  obtain ⟨f,hf⟩:∃f,X.fl[j]? =some f:=⟨_,List.getElem?_eq_getElem xP⟩;obtain ⟨fv,JO⟩:∃v,S.vls[j]? =some v:=⟨_,List.getElem?_eq_getElem (by rw [qM.vll];exact xP)⟩
  obtain ⟨pA,pc,Qc⟩:=dL (qM.prm f (zG hf)).1;have Qd:=qM.eZ hf JO 2 (by omega)
  simp only [fnC,List.getElem?_cons_succ,List.getElem?_cons_zero] at Qd;rw [Qc] at Qd;have h7:=qM.ai hx 7 (by omega)
  rw [ym (by have:=hC.trl;simp only [bC,List.length_set] at this;omega)] at h7
  simp only [aA,List.getElem?_cons_succ,List.getElem?_cons_zero] at h7;rw [hj] at h7;have h1p:=qM.ai hx 1 (by omega)
  simp only [aA,List.getElem?_cons_succ,List.getElem?_cons_zero] at h1p;have c1:=qM.c1;have eu:=qM.chk.lt;have uo:=qM.sI;have hjI:(j:Int)<X.fl.length:=by omega
  have WS:K.np.getD m.rf.toNat 0=f.1.ps.length:=by
   rw [hw.np,hj];simp [hf]
  have Z6:=Hy WS;have HM:=Hy hm;clear hC hb hm aU Oa PY hj WS Qc hf JO;go_upto_region 17 with (fail);clear Qo VZ Bo XZ mf;generalize w1.setCell (Ad X.nB (i * 8+6)) (Iv m.vl)=W2 at *;obtain ⟨pl,F9⟩:=zN f.1.ps.length;rw [F9] at Qd Z6;obtain ⟨kl,sZ⟩:=zN x.kids.length;have Rf:=Hy sZ;rw [sZ] at Du;have HS:Hid (∀Wx,Zw W2 Wx->Ce Wx X.nB (i * 8+5) (.slice A kl c)/\Ce Wx X.b 1 (Sl X.fB X.fl.length X.fc)/\Ce Wx X.nB (i * 8+7) (Iv (j:Int))/\Ce Wx X.fB (j * 6+2) (.slice pA pl pc)/\Ce Wx X.nB (i * 8+1) (Iv x.h.p)/\X.nB<Wx.heap.size/\X.b<Wx.heap.size/\X.fB<Wx.heap.size):=Hy fun Wx hW=>by
   have hz:=hW.size;exact ⟨(hW.cell (p:=(Ad X.nB (i * 8+5))) J3).trans Du,(hW.cell (p:=Ad X.b 1) eu).trans c1,(hW.cell (p:=(Ad X.nB (i * 8+7))) J3).trans h7,(hW.cell (p:=(Ad X.fB (j * 6+2))) uo).trans Qd,(hW.cell (p:=(Ad X.nB (i * 8+1))) J3).trans h1p,by omega,by omega,by omega⟩
  have Tv:Hid (∀W b,Zw W2 W->Calls prog 48 #[.bool b,Iv 7,Iv x.h.p] W fun e w'=>(b=true/\e=.panicked [{v:=.iface tFt (.agg #[Iv 7,Iv x.h.p]),recovered:=false}]∨b=false/\e=.returned (.tuple #[]))/\Zw W2 w'):=Hy fun W b hW=>
   (df b 7 x.h.p W).mono fun e w' h=>⟨h.1,by rw [<-h.2];exact hW⟩
  have HE7:Hid (∀W,Zw W2 W->kl≠pl->R (.panicked [{v:=.iface tFt (.agg #[Iv 7,Iv x.h.p]),recovered:=false}]) W):=Hy fun W hW aD=>by
   rw [<-HR.out];exact .inr ⟨7,x.h.p,by rw [HM.out,Ck.bind_ok,Z6.out,Rf.out];simp [refuse,aD],rfl,HC.2.trans (hW.mono HC.1.Ble)⟩
  have J:Zw W2 W2:=zB _ _;clear sZ F9 hk qM;go_region_held2 (fun Wx=>Ce Wx X.nB (i * 8+5) (.slice A kl c)/\Ce Wx X.b 1 (Sl X.fB X.fl.length X.fc)/\Ce Wx X.nB (i * 8+7) (Iv (j:Int))/\Ce Wx X.fB (j * 6+2) (.slice pA pl pc)/\Ce Wx X.nB (i * 8+1) (Iv x.h.p)/\X.nB<Wx.heap.size/\X.b<Wx.heap.size/\X.fB<Wx.heap.size)
   (first|exact ⟨Du,c1,h7,Qd,h1p,J3,eu,uo⟩|exact HS _ J)
   (first
    | (go_at_call 48;(with_reducible refine Calls.mono (Tv.out _ _ (by first|exact J|exact J.drew)) ?_);rintro e v2 ⟨⟨hm,rfl⟩|⟨hm,rfl⟩,J⟩;(refine aG rfl ?_;exact HE7 _ J (Ih hm));have NL:=Hy hm;clear hm))
  all_goals
   have Lu:kl=pl:=Il NL;have Ac:=HC.1.on J;obtain ⟨A',c',Py,WV⟩:=Ac.kids hx;rw [Qu.out] at Py;simp only [Value.slice.injEq,true_and] at Py;obtain ⟨rfl,rfl⟩:=Py;have VO:=Ac.aU;have HV:=Hy (gM Ac hx hw.ks (n:=kl) Rf (by have:=hw.kl;have:=Rf.out;omega) WV (A:=A) (c:=c))
   have Mw:=Hy2 Ac (HC.2.trans (J.mono HC.1.Ble));have HKP:=Hy Lu;clear Ac J WV Lu;go_wp2_with fail;refine HV.mono ?_;clear HV;rintro e w3 ⟨⟨ha,rfl⟩|⟨ha,rfl⟩,rfl⟩
   ·have HE:=Hy (show R (.returned (.tuple #[])) v2 by
     rw [<-HR.out];exact .inl ⟨_,by rw [HM.out,Ck.bind_ok,Z6.out,Rf.out,HKP.out,eU ha];simp [refuse],rfl,S,Sx.refl S,Mw.1,Mw.2⟩)
    clear ha;go_wp2_with fail;go_end0;exact HE
   ·have HE:=Hy (show R (jU 6 x.h.p) v2 by
     rw [<-HR.out];exact .inr ⟨6,x.h.p,by rw [HM.out,Ck.bind_ok,Z6.out,Rf.out,HKP.out,gK ha];simp [refuse],rfl,Mw.2⟩)
    clear ha;go_wp2_with fail;exact aG rfl HE
 ·have HE:=Hy (show R (jU no p) w1 by
   rw [<-HR.out];exact .inr ⟨no,p,by rw [hm];rfl,rfl,HB.trans hb⟩)
  clear hb hm;go_wp2_with fail;exact aG rfl HE
end
section
open Go Go.RowKit Go.Maps
theorem Dp {kl:Nat}{ft:Int}{bb r:Bool}(h:(decide (0<kl) == decide (ft=0))=bb)(hm:(decide (0<kl) == (ft == 0))=r):bb=r:=by
 have e:(ft == 0)=decide (ft=0):=by by_cases h2:ft=0 <;> simp [h2]
 rw [<-h,<-hm,e]
theorem CQ {X:CkX}{S:CkS}{σ:Cs}{w:World}{K:Kn}(h:CkV X S σ w){i:Nat}{x:CN}(hx:X.ns[i]? =some x)(hw:NdW X K σ x)(ho:x.h.op=13) :
  Calls prog 130 #[ckp X,ndp X i] w (fo X S (dh K x.h x.kids i σ) w):=by
 have mf:=h.aU;have hil:=(zS.1 hx).1;have Bo:=h.ai hx 0 (by omega)
 simp only [aA,List.getElem?_cons_succ,List.getElem?_cons_zero,Nat.add_zero] at Bo;rw [ho] at Bo;have e:dh K x.h x.kids i σ=(aW x.h [1,2] σ.sc).bind fun m=>(aO x.h.p (bC σ i m.rf).tr x.kids).bind fun _=>.ok (bC σ i m.rf):=by simp [dh,ho]
 rw [e];obtain ⟨R,hR⟩:∃R:Ending->World->Prop,fo X S ((aW x.h [1,2] σ.sc).bind fun m=>(aO x.h.p (bC σ i m.rf).tr x.kids).bind fun _=>.ok (bC σ i m.rf)) w=R:=⟨_,rfl⟩
 rw [hR];have HR:=Hy hR;have HN:=Hy hw;have av:Zw w (w.alloc (.cells #[Iv 1,Iv 2] aC)):=(zB _ _).alloc (zL _) _;have HF:=Hy (kC (h.on av) hx (by unfold maxLen;have:=hw.s;omega) hw.sc (so:=[1,2]) (n:=2) (g:=w.heap.size) rfl (by omega) (Blk.new w aC _))
 have HB:=Hy (av.mono h.Ble);clear h hR e av;go_enter func130,ntmps130;go_wp2_with fail;refine HF.mono ?_;clear HF;rintro e w1 (⟨m,hm,rfl,hC,hb⟩|⟨no,p,hm,rfl,hb⟩)
 ·obtain ⟨A,c,hv,hk⟩:=hC.kids hx;have Du:=hC.ai hx 5 (by omega)
  simp only [aA,List.getElem?_cons_succ,List.getElem?_cons_zero] at Du;rw [hv] at Du;have J3:=hC.aU;have HV:=Hy (gM hC hx hw.ks (n:=x.kids.length) rfl hw.kl hk (A:=A) (c:=c));have HC:=Hy2 hC (HB.trans hb);have HM:=Hy hm;clear hC hb hm hv hk;go_wp2_with fail;refine HV.mono ?_;clear HV;rintro e w3 ⟨⟨ha,rfl⟩|⟨ha,rfl⟩,rfl⟩
  ·have HE:=Hy (show R (.returned (.tuple #[])) w1 by
    rw [<-HR.out];exact .inl ⟨_,by rw [HM.out,Ck.bind_ok,eU ha];rfl,rfl,S,Sx.refl S,HC.1,HC.2⟩)
   clear ha;go_wp2_with fail;go_end0;exact HE
  ·have HE:=Hy (show R (jU 6 x.h.p) w1 by
    rw [<-HR.out];exact .inr ⟨6,x.h.p,by rw [HM.out,Ck.bind_ok,gK ha];rfl,rfl,HC.2⟩)
   clear ha;go_wp2_with fail;exact aG rfl HE
 ·have HE:=Hy (show R (jU no p) w1 by
   rw [<-HR.out];exact .inr ⟨no,p,by rw [hm];rfl,rfl,HB.trans hb⟩)
  clear hb hm;go_wp2_with fail;exact aG rfl HE
theorem CP {X:CkX}{S:CkS}{σ:Cs}{w:World}{K:Kn}(h:CkV X S σ w){i:Nat}{x:CN}(hx:X.ns[i]? =some x)(hw:NdW X K σ x)(ho:x.h.op=14) :
  Calls prog 130 #[ckp X,ndp X i] w (fo X S (dh K x.h x.kids i σ) w):=by
 have mf:=h.aU;have hil:=(zS.1 hx).1;have Bo:=h.ai hx 0 (by omega)
 simp only [aA,List.getElem?_cons_succ,List.getElem?_cons_zero,Nat.add_zero] at Bo;rw [ho] at Bo;have e:dh K x.h x.kids i σ=(aW x.h [3] σ.sc).bind fun m=>(aO x.h.p (bC σ i m.rf).tr x.kids).bind fun _=>.ok (bC σ i m.rf):=by simp [dh,ho]
 rw [e];obtain ⟨R,hR⟩:∃R:Ending->World->Prop,fo X S ((aW x.h [3] σ.sc).bind fun m=>(aO x.h.p (bC σ i m.rf).tr x.kids).bind fun _=>.ok (bC σ i m.rf)) w=R:=⟨_,rfl⟩
 rw [hR];have HR:=Hy hR;have HN:=Hy hw;have av:Zw w (w.alloc (.cells #[Iv 3] aC)):=(zB _ _).alloc (zL _) _;have HF:=Hy (kC (h.on av) hx (by unfold maxLen;have:=hw.s;omega) hw.sc (so:=[3]) (n:=1) (g:=w.heap.size) rfl (by omega) (Blk.new w aC _))
 have HB:=Hy (av.mono h.Ble);clear h hR e av;go_enter func130,ntmps130;go_wp2_with fail;refine HF.mono ?_;clear HF;rintro e w1 (⟨m,hm,rfl,hC,hb⟩|⟨no,p,hm,rfl,hb⟩)
 ·obtain ⟨A,c,hv,hk⟩:=hC.kids hx;have Du:=hC.ai hx 5 (by omega)
  simp only [aA,List.getElem?_cons_succ,List.getElem?_cons_zero] at Du;rw [hv] at Du;have J3:=hC.aU;have HV:=Hy (gM hC hx hw.ks (n:=x.kids.length) rfl hw.kl hk (A:=A) (c:=c));have HC:=Hy2 hC (HB.trans hb);have HM:=Hy hm;clear hC hb hm hv hk;go_wp2_with fail;refine HV.mono ?_;clear HV;rintro e w3 ⟨⟨ha,rfl⟩|⟨ha,rfl⟩,rfl⟩
  ·have HE:=Hy (show R (.returned (.tuple #[])) w1 by
    rw [<-HR.out];exact .inl ⟨_,by rw [HM.out,Ck.bind_ok,eU ha];rfl,rfl,S,Sx.refl S,HC.1,HC.2⟩)
   clear ha;go_wp2_with fail;go_end0;exact HE
  ·have HE:=Hy (show R (jU 6 x.h.p) w1 by
    rw [<-HR.out];exact .inr ⟨6,x.h.p,by rw [HM.out,Ck.bind_ok,gK ha];rfl,rfl,HC.2⟩)
   clear ha;go_wp2_with fail;exact aG rfl HE
 ·have HE:=Hy (show R (jU no p) w1 by
   rw [<-HR.out];exact .inr ⟨no,p,by rw [hm];rfl,rfl,HB.trans hb⟩)
  clear hb hm;go_wp2_with fail;exact aG rfl HE
theorem CG {X:CkX}{S:CkS}{σ:Cs}{w:World}{K:Kn}(h:CkV X S σ w){i:Nat}{x:CN}(hx:X.ns[i]? =some x)(hw:NdW X K σ x)(ho:x.h.op=20) :
  Calls prog 130 #[ckp X,ndp X i] w (fo X S (dh K x.h x.kids i σ) w):=by
 have mf:=h.aU;have hil:=(zS.1 hx).1;have Bo:=h.ai hx 0 (by omega)
 simp only [aA,List.getElem?_cons_succ,List.getElem?_cons_zero,Nat.add_zero] at Bo;rw [ho] at Bo;have e:dh K x.h x.kids i σ=(aO x.h.p σ.tr x.kids).bind fun _=>.ok σ:=by simp [dh,ho]
 rw [e];obtain ⟨R,hR⟩:∃R:Ending->World->Prop,fo X S ((aO x.h.p σ.tr x.kids).bind fun _=>.ok σ) w=R:=⟨_,rfl⟩
 rw [hR];have HR:=Hy hR;have HN:=Hy hw;obtain ⟨A,c,hv,hk⟩:=h.kids hx;have Du:=h.ai hx 5 (by omega)
 simp only [aA,List.getElem?_cons_succ,List.getElem?_cons_zero] at Du;rw [hv] at Du;have HV:=Hy (gM h hx hw.ks (n:=x.kids.length) rfl hw.kl hk (A:=A) (c:=c));have H:=Hy h;clear h hR e hv hk;go_enter func130,ntmps130;go_wp2_with fail;refine HV.mono ?_;clear HV;rintro e w3 ⟨⟨ha,rfl⟩|⟨ha,rfl⟩,rfl⟩
 ·have HE:=Hy (show R (.returned (.tuple #[])) w by
   rw [<-HR.out];exact .inl ⟨_,by rw [eU ha];rfl,rfl,S,Sx.refl S,H,zB _ _⟩)
  clear ha;go_wp2_with fail;go_end0;exact HE
 ·have HE:=Hy (show R (jU 6 x.h.p) w by
   rw [<-HR.out];exact .inr ⟨6,x.h.p,by rw [gK ha];rfl,rfl,zB _ _⟩)
  clear ha;go_wp2_with fail;exact aG rfl HE
theorem CO {X:CkX}{S:CkS}{σ:Cs}{w:World}{K:Kn}(h:CkV X S σ w){i:Nat}{x:CN}(hx:X.ns[i]? =some x)(hw:NdW X K σ x)(ho:x.h.op=15){k0:Nat}{kr:List Nat}(hk0:x.kids=k0 ::kr) :
  Calls prog 130 #[ckp X,ndp X i] w (fo X S (dh K x.h x.kids i σ) w):=by
 have mf:=h.aU;have hil:=(zS.1 hx).1;have Bo:=h.ai hx 0 (by omega)
 simp only [aA,List.getElem?_cons_succ,List.getElem?_cons_zero,Nat.add_zero] at Bo;rw [ho] at Bo;have e:dh K x.h x.kids i σ=(aO x.h.p σ.tr [kid x.kids 0]).bind fun _=>.ok σ:=by simp [dh,ho]
 rw [e];obtain ⟨R,hR⟩:∃R:Ending->World->Prop,fo X S ((aO x.h.p σ.tr [kid x.kids 0]).bind fun _=>.ok σ) w=R:=⟨_,rfl⟩
 rw [hR];have HR:=Hy hR;have HN:=Hy hw;obtain ⟨A,c,hv,hk⟩:=h.kids hx;have Du:=h.ai hx 5 (by omega)
 simp only [aA,List.getElem?_cons_succ,List.getElem?_cons_zero] at Du;rw [hv] at Du;have h0:k0<X.ns.length:=hw.ks k0 (by rw [hk0];simp)
 have Ru:kid x.kids 0=k0:=by rw [hk0];rfl
 rw [Ru] at HR;obtain ⟨g,o,rfl,hg,Gq⟩:∃g o,A=some (Ad g o)/\g<w.heap.size/\Ce w g o (Iv (k0:Nat)):=by
  rw [hk0] at hk;rcases hk with e|⟨g,o,e,hg,hc⟩
  ·cases e
  ·exact ⟨g,o,e,hg,hc 0 k0 rfl⟩
 obtain ⟨kl,sZ⟩:=zN x.kids.length;have Lu:0<kl:=by rw [<-sZ,hk0];simp
 rw [sZ] at Du;have av:Zw w (w.alloc (.cells #[Iv (k0:Nat)] aC)):=(zB _ _).alloc (zL _) _;have H:=Hy2 (h.on av) (av.mono h.Ble);have HV:=Hy (gM (h.on av) hx (ks:=[k0]) (by intro k hk;simp at hk;rw [hk];exact h0) (n:=1) rfl (by omega) (.inr ⟨w.heap.size,0,rfl,by simp,fun j k hj=>by
  have:=(Blk.new w aC #[Iv (k0:Nat)]).cell j;rw [Nat.zero_add,this];cases j with
  |zero=>simp at hj;rw [hj];rfl
  |succ j=>simp at hj⟩) (A:=some (Ad w.heap.size 0)) (c:=1))
 clear h hR e hv hk hk0 Ru sZ av;go_enter func130,ntmps130;go_wp2_with fail;refine HV.mono ?_;clear HV;rintro e w3 ⟨⟨ha,rfl⟩|⟨ha,rfl⟩,rfl⟩
 ·have HE:=Hy (show R (.returned (.tuple #[])) (w.alloc (.cells #[Iv (k0:Nat)] aC)) by
   rw [<-HR.out];exact .inl ⟨_,by rw [eU ha];rfl,rfl,S,Sx.refl S,H.1,H.2⟩)
  clear ha;go_wp2_with fail;go_end0;exact HE
 ·have HE:=Hy (show R (jU 6 x.h.p) (w.alloc (.cells #[Iv (k0:Nat)] aC)) by
   rw [<-HR.out];exact .inr ⟨6,x.h.p,by rw [gK ha];rfl,rfl,H.2⟩)
  clear ha;go_wp2_with fail;exact aG rfl HE
theorem CL {X:CkX}{S:CkS}{σ:Cs}{w:World}{K:Kn}(h:CkV X S σ w){i:Nat}{x:CN}(hx:X.ns[i]? =some x)(hw:NdW X K σ x)(ho:x.h.op=16){k0:Nat}{kr:List Nat}(hk0:x.kids=k0 ::kr) :
  Calls prog 130 #[ckp X,ndp X i] w (fo X S (dh K x.h x.kids i σ) w):=by
 have mf:=h.aU;have hil:=(zS.1 hx).1;have Bo:=h.ai hx 0 (by omega)
 simp only [aA,List.getElem?_cons_succ,List.getElem?_cons_zero,Nat.add_zero] at Bo;rw [ho] at Bo;have e:dh K x.h x.kids i σ=(aO x.h.p σ.tr [kid x.kids 0]).bind fun _=>.ok σ:=by simp [dh,ho]
 rw [e];obtain ⟨R,hR⟩:∃R:Ending->World->Prop,fo X S ((aO x.h.p σ.tr [kid x.kids 0]).bind fun _=>.ok σ) w=R:=⟨_,rfl⟩
 rw [hR];have HR:=Hy hR;have HN:=Hy hw;obtain ⟨A,c,hv,hk⟩:=h.kids hx;have Du:=h.ai hx 5 (by omega)
 simp only [aA,List.getElem?_cons_succ,List.getElem?_cons_zero] at Du;rw [hv] at Du;have h0:k0<X.ns.length:=hw.ks k0 (by rw [hk0];simp)
 have Ru:kid x.kids 0=k0:=by rw [hk0];rfl
 rw [Ru] at HR;obtain ⟨g,o,rfl,hg,Gq⟩:∃g o,A=some (Ad g o)/\g<w.heap.size/\Ce w g o (Iv (k0:Nat)):=by
  rw [hk0] at hk;rcases hk with e|⟨g,o,e,hg,hc⟩
  ·cases e
  ·exact ⟨g,o,e,hg,hc 0 k0 rfl⟩
 obtain ⟨kl,sZ⟩:=zN x.kids.length;have Lu:0<kl:=by rw [<-sZ,hk0];simp
 rw [sZ] at Du;have av:Zw w (w.alloc (.cells #[Iv (k0:Nat)] aC)):=(zB _ _).alloc (zL _) _;have H:=Hy2 (h.on av) (av.mono h.Ble);have HV:=Hy (gM (h.on av) hx (ks:=[k0]) (by intro k hk;simp at hk;rw [hk];exact h0) (n:=1) rfl (by omega) (.inr ⟨w.heap.size,0,rfl,by simp,fun j k hj=>by
  have:=(Blk.new w aC #[Iv (k0:Nat)]).cell j;rw [Nat.zero_add,this];cases j with
  |zero=>simp at hj;rw [hj];rfl
  |succ j=>simp at hj⟩) (A:=some (Ad w.heap.size 0)) (c:=1))
 clear h hR e hv hk hk0 Ru sZ av;go_enter func130,ntmps130;go_wp2_with fail;refine HV.mono ?_;clear HV;rintro e w3 ⟨⟨ha,rfl⟩|⟨ha,rfl⟩,rfl⟩
 ·have HE:=Hy (show R (.returned (.tuple #[])) (w.alloc (.cells #[Iv (k0:Nat)] aC)) by
   rw [<-HR.out];exact .inl ⟨_,by rw [eU ha];rfl,rfl,S,Sx.refl S,H.1,H.2⟩)
  clear ha;go_wp2_with fail;go_end0;exact HE
 ·have HE:=Hy (show R (jU 6 x.h.p) (w.alloc (.cells #[Iv (k0:Nat)] aC)) by
   rw [<-HR.out];exact .inr ⟨6,x.h.p,by rw [gK ha];rfl,rfl,H.2⟩)
  clear ha;go_wp2_with fail;exact aG rfl HE
theorem CK {X:CkX}{S:CkS}{σ:Cs}{w:World}{K:Kn}(h:CkV X S σ w){i:Nat}{x:CN}(hx:X.ns[i]? =some x)(hw:NdW X K σ x)(ho:x.h.op=17)(on:S.on=true)(Ob:(look S.lb x.h.s).isSome=decide (x.h.s∈K.lb)) :
  Calls prog 130 #[ckp X,ndp X i] w (fo X S (dh K x.h x.kids i σ) w):=by
 have mf:=h.aU;have hil:=(zS.1 hx).1;have Bo:=h.ai hx 0 (by omega)
 simp only [aA,List.getElem?_cons_succ,List.getElem?_cons_zero,Nat.add_zero] at Bo;rw [ho] at Bo;have e:dh K x.h x.kids i σ=(refuse (!decide (x.h.s∈K.lb)) 8 x.h.p).bind fun _=>.ok σ:=by simp [dh,ho]
 rw [e];obtain ⟨R,hR⟩:∃R:Ending->World->Prop,fo X S ((refuse (!decide (x.h.s∈K.lb)) 8 x.h.p).bind fun _=>.ok σ) w=R:=⟨_,rfl⟩
 rw [hR];have HR:=Hy hR;have HN:=Hy hw;have c6:=h.c6;rw [(h.lab on).2.2] at c6;have eu:=h.chk.lt;have Ab:=h.ai hx 1 (by omega)
 have NI:=h.ai hx 3 (by omega)
 simp only [aA,List.getElem?_cons_succ,List.getElem?_cons_zero] at Ab NI;obtain ⟨bb,DW⟩:=zN (decide (x.h.s∈K.lb));obtain ⟨n0,Pf⟩:∃n,(look S.lb x.h.s).getD 0=n:=⟨_,rfl⟩;have Oa:(Instr.lookup tLm (.map (some S.lbB)) (Ss x.h.s) true).run prog w.drew=.ok (.tuple #[Iv n0,.bool bb]) w.drew:=by
  have:=(h.drew.lab on).2.1.get (x:=x.h.s) (by unfold maxLen;have:=hw.s;omega)
  rw [Ob,DW,Pf] at this;exact this
 rw [DW] at HR;have H:=Hy h;clear h hR e DW Pf Ob;go_enter func130,ntmps130;go_upto_region 16 with (fail);go_region;cases bb
 ·have HE:=Hy (show R (jU 8 x.h.p) w.drew by
   rw [<-HR.out];exact .inr ⟨8,x.h.p,rfl,rfl,(zB _ _).drew⟩)
  go_wp2_with fail;refine (iH _ _ _).mono ?_;rintro e w9 ⟨rfl,rfl⟩;go_wp2_with fail;exact aG rfl HE
 ·have HE:=Hy (show R (.returned (.tuple #[])) w.drew by
   rw [<-HR.out];exact .inl ⟨_,rfl,rfl,S,Sx.refl S,H.drew,(zB _ _).drew⟩)
  go_wp2_with fail;refine (kz _ _ _).mono ?_;rintro e w9 ⟨rfl,rfl⟩;go_wp2_with fail;go_end0;exact HE
theorem CJ {X:CkX}{S:CkS}{σ:Cs}{w:World}{K:Kn}(h:CkV X S σ w){i:Nat}{x:CN}(hx:X.ns[i]? =some x)(hw:NdW X K σ x)(ho:x.h.op=19)(on:S.on=true){f:Fn'×Value}(hf:X.fl[S.fi]? =some f)(Tk:K.ft=f.1.ty) :
  Calls prog 130 #[ckp X,ndp X i] w (fo X S (dh K x.h x.kids i σ) w):=by
 have mf:=h.aU;have hil:=(zS.1 hx).1;have Bo:=h.ai hx 0 (by omega)
 simp only [aA,List.getElem?_cons_succ,List.getElem?_cons_zero,Nat.add_zero] at Bo;rw [ho] at Bo;have e:dh K x.h x.kids i σ=(refuse (decide (0<x.kids.length) == decide (K.ft=0)) 6 x.h.p).bind fun _=>(aO x.h.p σ.tr x.kids).bind fun _=>.ok σ:=by simp [dh,ho]
 rw [e];obtain ⟨R,hR⟩:∃R:Ending->World->Prop,fo X S ((refuse (decide (0<x.kids.length) == decide (K.ft=0)) 6 x.h.p).bind fun _=>(aO x.h.p σ.tr x.kids).bind fun _=>.ok σ) w=R:=⟨_,rfl⟩
 rw [hR];have HR:=Hy hR;have HN:=Hy hw;obtain ⟨A,c,hv,hk⟩:=h.kids hx;have Du:=h.ai hx 5 (by omega)
 have Ab:=h.ai hx 1 (by omega)
 simp only [aA,List.getElem?_cons_succ,List.getElem?_cons_zero] at Du Ab;rw [hv] at Du;obtain ⟨fv,JO,-⟩:=h.var on;have Lt:=h.eZ hf JO 1 (by omega)
 simp only [fnC,List.getElem?_cons_succ,List.getElem?_cons_zero] at Lt;rw [<-Tk] at Lt;have c5:=h.c5;rw [(h.fil on).2] at c5;have eu:=h.chk.lt;have uo:=h.sI;obtain ⟨kl,sZ⟩:=zN x.kids.length;rw [sZ] at Du HR;have Rf:=Hy sZ;have HKK:=Hy2 hv hw;have H:=Hy h;obtain ⟨bb,DW⟩:∃b,(decide (0<kl) == decide (K.ft=0))=b:=⟨_,rfl⟩;have QO:=Hy DW;rw [DW] at HR;have HS:Hid (∀Wx,Zw w Wx->Ce Wx X.nB (i * 8+5) (.slice A kl c)/\Ce Wx X.b 5 (.pointer (some (Ad X.fB (S.fi * 6))))/\Ce Wx X.fB (S.fi * 6+1) (Iv K.ft)/\Ce Wx X.nB (i * 8+1) (Iv x.h.p)/\X.nB<Wx.heap.size/\X.b<Wx.heap.size/\X.fB<Wx.heap.size):=Hy fun Wx hW=>by
  have hz:=hW.size;exact ⟨(hW.cell (p:=(Ad X.nB (i * 8+5))) mf).trans Du,(hW.cell (p:=Ad X.b 5) eu).trans c5,(hW.cell (p:=(Ad X.fB (S.fi * 6+1))) uo).trans Lt,(hW.cell (p:=(Ad X.nB (i * 8+1))) mf).trans Ab,by omega,by omega,by omega⟩
 have Tv:Hid (∀W b,Zw w W->Calls prog 48 #[.bool b,Iv 6,Iv x.h.p] W fun e w'=>(b=true/\e=.panicked [{v:=.iface tFt (.agg #[Iv 6,Iv x.h.p]),recovered:=false}]∨b=false/\e=.returned (.tuple #[]))/\Zw w w'):=Hy fun W b hW=>
  (df b 6 x.h.p W).mono fun e w' h=>⟨h.1,by rw [<-h.2];exact hW⟩
 have HE7:Hid (∀W,Zw w W->bb=true->R (.panicked [{v:=.iface tFt (.agg #[Iv 6,Iv x.h.p]),recovered:=false}]) W):=Hy fun W hW aD=>by
  rw [<-HR.out];exact .inr ⟨6,x.h.p,by rw [aD];rfl,rfl,hW.mono h.Ble⟩
 have J:Zw w w:=zB _ _;clear h hR e hv hk Tk JO sZ DW;go_enter func130,ntmps130;go_upto_region 19 with (fail);go_region_held2 (fun Wx=>Ce Wx X.nB (i * 8+5) (.slice A kl c)/\Ce Wx X.b 5 (.pointer (some (Ad X.fB (S.fi * 6))))/\Ce Wx X.fB (S.fi * 6+1) (Iv K.ft)/\Ce Wx X.nB (i * 8+1) (Iv x.h.p)/\X.nB<Wx.heap.size/\X.b<Wx.heap.size/\X.fB<Wx.heap.size)
  (first|exact ⟨Du,c5,Lt,Ab,mf,eu,uo⟩|exact HS _ J)
  (first
   | (go_at_call 48;(with_reducible refine Calls.mono (Tv.out _ _ (by first|exact J|exact J.drew)) ?_);rintro e v2 ⟨⟨hm,rfl⟩|⟨hm,rfl⟩,J⟩;(refine aG rfl ?_;exact HE7 _ J (Dp QO hm));have NL:=Hy hm;clear hm))
 all_goals
  have Q6:bb=false:=Dp QO NL;have Ac:=H.on J;obtain ⟨A',c',Py,WV⟩:=Ac.kids hx;rw [HKK.1] at Py;simp only [Value.slice.injEq,true_and] at Py;obtain ⟨rfl,rfl⟩:=Py;have VO:=Ac.aU;have HV:=Hy (gM Ac hx hw.ks (n:=kl) Rf (by have:=hw.kl;have:=Rf.out;omega) WV (A:=A) (c:=c))
  have Mw:=Hy2 Ac (J.mono H.Ble);have HBF:=Hy Q6;clear Ac J WV Q6;go_wp2_with fail;refine HV.mono ?_;clear HV;rintro e w3 ⟨⟨ha,rfl⟩|⟨ha,rfl⟩,rfl⟩
  ·have HE:=Hy (show R (.returned (.tuple #[])) v2 by
    rw [<-HR.out];exact .inl ⟨_,by rw [HBF.out,eU ha];rfl,rfl,S,Sx.refl S,Mw.1,Mw.2⟩)
   clear ha;go_wp2_with fail;go_end0;exact HE
  ·have HE:=Hy (show R (jU 6 x.h.p) v2 by
    rw [<-HR.out];exact .inr ⟨6,x.h.p,by rw [HBF.out,gK ha];rfl,rfl,Mw.2⟩)
   clear ha;go_wp2_with fail;exact aG rfl HE
end
section
open Go Go.RowKit Go.Maps
theorem BM {n:Nat}(h:decide ((64:Int)<=(n:Int))=true):64<=n:=by
 have:=of_decide_eq_true h;omega
theorem BA {n:Nat}(h:decide ((64:Int)<=(n:Int))=false):n<64:=by
 have:=of_decide_eq_false h;omega
theorem CR {X:CkX}{S:CkS}{σ:Cs}{w:World}{K:Kn}(h:CkV X S σ w){i:Nat}{x:CN}(hx:X.ns[i]? =some x)(hw:NdW X K σ x)(ho:x.h.op=12)(on:S.on=true){k:Nat}(bT:σ.sc.length=k+1)(hl:(σ.sc.getLast?.getD []).length<=2000000)(Bt:σ.vs.length<=1000000) :
  Calls prog 130 #[ckp X,ndp X i] w (fo X S (dh K x.h x.kids i σ) w):=by
 have mf:=h.aU;have hil:=(zS.1 hx).1;have Bo:=h.ai hx 0 (by omega)
 simp only [aA,List.getElem?_cons_succ,List.getElem?_cons_zero,Nat.add_zero] at Bo;rw [ho] at Bo;have e:dh K x.h x.kids i σ=(aO x.h.p σ.tr x.kids).bind fun _=>(refuse (look (σ.sc.getLast?.getD []) x.h.s).isSome 5 x.h.p).bind fun _=>(refuse (decide (64<=σ.vs.length)) 9 x.h.p).bind fun _=>.ok {(bC σ i σ.vs.length) with sc:=decl σ.sc x.h.s ⟨1,σ.vs.length,x.h.to⟩,vs:=σ.vs ++ [x.h.to]}:=by simp [dh,ho]
 rw [e];obtain ⟨R,hR⟩:∃R:Ending->World->Prop,fo X S ((aO x.h.p σ.tr x.kids).bind fun _=>(refuse (look (σ.sc.getLast?.getD []) x.h.s).isSome 5 x.h.p).bind fun _=>(refuse (decide (64<=σ.vs.length)) 9 x.h.p).bind fun _=>.ok {(bC σ i σ.vs.length) with sc:=decl σ.sc x.h.s ⟨1,σ.vs.length,x.h.to⟩,vs:=σ.vs ++ [x.h.to]}) w=R:=⟨_,rfl⟩
 rw [hR];have HR:=Hy hR;have HN:=Hy hw;obtain ⟨A,c,hv,hk⟩:=h.kids hx;have Du:=h.ai hx 5 (by omega)
 simp only [aA,List.getElem?_cons_succ,List.getElem?_cons_zero] at Du;rw [hv] at Du;have HV:=Hy (gM h hx hw.ks (n:=x.kids.length) rfl hw.kl hk (A:=A) (c:=c));have H:=Hy h;have Lh:x.h.s.length<=maxLen:=by unfold maxLen;have:=hw.s;omega
 have hk2:k<=1000000:=by have:=hw.sc;omega
 obtain ⟨A3,n3,c3,Es⟩:∃A n c,S.scv=.slice A n c:=by
  obtain ⟨A3,c3,e⟩:=dL h.sco;exact ⟨A3,_,c3,e⟩
 have Ez:=h.c3;rw [Es] at Ez;have eu:=h.chk.lt;have Ab:=h.ai hx 1 (by omega)
 have NI:=h.ai hx 3 (by omega)
 simp only [aA,List.getElem?_cons_succ,List.getElem?_cons_zero] at Ab NI;obtain ⟨bh,OG⟩:∃b,(look (σ.sc.getLast?.getD []) x.h.s).isSome=b:=⟨_,rfl⟩;have Qy:Hid (∀W,Zw w W->Calls prog 49 #[.slice A3 n3 c3,Ss x.h.s] W fun e w'=>e=.returned (.bool bh)/\Zw w w'):=Hy fun W hW=>by
  have OT:=(h.on hW).scs;rw [Es] at OT;rw [<-OG];exact (qC OT bT hk2 Lh).mono fun e w' h=>⟨h.1,hW.trans (h.2.mono hW.size)⟩
 have HS:Hid (∀Wx,Zw w Wx->Ce Wx X.b 3 (.slice A3 n3 c3)/\Ce Wx X.nB (i * 8+3) (Ss x.h.s)/\Ce Wx X.nB (i * 8+1) (Iv x.h.p)/\X.nB<Wx.heap.size/\X.b<Wx.heap.size):=Hy fun Wx hW=>by
  have hz:=hW.size;exact ⟨(hW.cell (p:=Ad X.b 3) eu).trans Ez,(hW.cell (p:=(Ad X.nB (i * 8+3))) mf).trans NI,(hW.cell (p:=(Ad X.nB (i * 8+1))) mf).trans Ab,by omega,by omega⟩
 have Tv:Hid (∀W b,Zw w W->Calls prog 48 #[.bool b,Iv 5,Iv x.h.p] W fun e w'=>(b=true/\e=.panicked [{v:=.iface tFt (.agg #[Iv 5,Iv x.h.p]),recovered:=false}]∨b=false/\e=.returned (.tuple #[]))/\Zw w w'):=Hy fun W b hW=>
  (df b 5 x.h.p W).mono fun e w' h=>⟨h.1,by rw [<-h.2];exact hW⟩
 rw [OG] at HR;have UZ:Hid ((x.kids.all fun k=>ji (dJ σ.tr k))=true->∀W,Zw w W->bh=true->R (.panicked [{v:=.iface tFt (.agg #[Iv 5,Iv x.h.p]),recovered:=false}]) W):=Hy fun ha W hW aD=>by
  rw [<-HR.out];exact .inr ⟨5,x.h.p,by rw [eU ha,aD];rfl,rfl,hW.mono h.Ble⟩
 have J:Zw w w:=zB _ _;have HK:=Hy3 bT hl Bt;clear h hR e hv hk OG Es hl bT;go_enter func130,ntmps130;go_wp2_with fail;refine HV.mono ?_;clear HV;rintro e w3 ⟨⟨ha,rfl⟩|⟨ha,rfl⟩,rfl⟩
 ·have HA:=Hy ha;clear ha;go_upto_region 3 with (fail);go_cut [] (fun wx=>bh=false/\Zw w wx)
  case first=>
   go_region_held2 (fun Wx=>Ce Wx X.b 3 (.slice A3 n3 c3)/\Ce Wx X.nB (i * 8+3) (Ss x.h.s)/\Ce Wx X.nB (i * 8+1) (Iv x.h.p)/\X.nB<Wx.heap.size/\X.b<Wx.heap.size)
    (first|exact ⟨Ez,NI,Ab,mf,eu⟩|exact HS _ J)
    (first
     | (go_at_call 49;(with_reducible refine Calls.mono (Qy.out _ (by first|exact J|exact J.drew)) ?_);rintro e v1 ⟨rfl,J⟩)
     | (go_at_call 48;(with_reducible refine Calls.mono (Tv.out _ _ (by first|exact J|exact J.drew)) ?_);rintro e v2 ⟨⟨hm,rfl⟩|⟨hm,rfl⟩,J⟩;(refine aG rfl ?_;exact UZ HA _ J hm);have NL:=Hy hm;clear hm))
   all_goals
    go_wp2_with fail;go_meet;exact ⟨NL,J⟩
  case rest=>
   obtain ⟨Q6,VC⟩:=hcut;have Ac:=H.on VC;obtain ⟨VV,hVV,hVr⟩:=Ac.var on;obtain ⟨VA,vc,rfl⟩:=dL hVr;obtain ⟨f,hf⟩:∃x,X.fl[S.fi]? =some x:=⟨_,List.getElem?_eq_getElem (Ac.fil on).1⟩;have v5:=Ac.eZ hf hVV 5 (by omega)
   simp only [fnC,List.getElem?_cons_succ,List.getElem?_cons_zero] at v5;have c5:=Ac.c5;rw [(Ac.fil on).2] at c5;have uo:=Ac.sI;have Yy:=Ac.chk.lt;have VO:=Ac.aU;have QT:=Ac.ai hx 1 (by omega)
   simp only [aA,List.getElem?_cons_succ,List.getElem?_cons_zero] at QT;obtain ⟨vl,XK⟩:=zN σ.vs.length;have Gx:=Hy XK;rw [XK] at v5;have Vm:Hid (∀Wx,Zw wc Wx->Ce Wx X.b 5 (.pointer (some (Ad X.fB (S.fi * 6))))/\Ce Wx X.fB (S.fi * 6+5) (.slice VA vl vc)/\Ce Wx X.nB (i * 8+1) (Iv x.h.p)/\X.nB<Wx.heap.size/\X.b<Wx.heap.size/\X.fB<Wx.heap.size):=Hy fun Wx hW=>by
    have hz:=hW.size;exact ⟨(hW.cell (p:=Ad X.b 5) Yy).trans c5,(hW.cell (p:=(Ad X.fB (S.fi * 6+5))) uo).trans v5,(hW.cell (p:=(Ad X.nB (i * 8+1))) VO).trans QT,by omega,by omega,by omega⟩
   have UR:Hid (∀W b,Zw wc W->Calls prog 48 #[.bool b,Iv 9,Iv x.h.p] W fun e w'=>(b=true/\e=.panicked [{v:=.iface tFt (.agg #[Iv 9,Iv x.h.p]),recovered:=false}]∨b=false/\e=.returned (.tuple #[]))/\Zw wc w'):=Hy fun W b hW=>
    (df b 9 x.h.p W).mono fun e w' h=>⟨h.1,by rw [<-h.2];exact hW⟩
   have Ze:Hid (∀W,Zw wc W->64<=vl->R (.panicked [{v:=.iface tFt (.agg #[Iv 9,Iv x.h.p]),recovered:=false}]) W):=Hy fun W hW aD=>by
    rw [<-HR.out];exact .inr ⟨9,x.h.p,by rw [eU HA.out,Q6,Gx.out];simp [refuse,aD],rfl,(VC.trans (hW.mono VC.size)).mono H.Ble⟩
   have J:Zw wc wc:=zB _ _;have Mw:=Hy3 Ac (VC.mono H.Ble) Q6;clear XK hVr hVV hf Ac HS Tv UZ Qy Ez Ab NI mf VC Q6;go_upto_region 4 with (fail);go_cut [] (fun wx=>vl<64/\Zw wc wx)
   case first=>
    go_region_held2 (fun Wx=>Ce Wx X.b 5 (.pointer (some (Ad X.fB (S.fi * 6))))/\Ce Wx X.fB (S.fi * 6+5) (.slice VA vl vc)/\Ce Wx X.nB (i * 8+1) (Iv x.h.p)/\X.nB<Wx.heap.size/\X.b<Wx.heap.size/\X.fB<Wx.heap.size)
     (first|exact ⟨c5,v5,QT,VO,Yy,uo⟩|exact Vm _ J)
     (first
      | (go_at_call 48;(with_reducible refine Calls.mono (UR.out _ _ (by first|exact J|exact J.drew)) ?_);rintro e v2 ⟨⟨hm,rfl⟩|⟨hm,rfl⟩,J⟩;(refine aG rfl ?_;exact Ze _ J (BM hm));have NL:=Hy hm;clear hm))
    all_goals
     go_wp2_with fail;go_meet;exact ⟨BA NL,J⟩
   case rest=>
    obtain ⟨h64,hw4⟩:=hcut;have QI:=Mw.1.on hw4;have hB4:=Mw.2.1.trans (hw4.mono Mw.1.Ble);have q3:=QI.ai hx 3 (by omega)
    have q4:=QI.ai hx 4 (by omega)
    simp only [aA,List.getElem?_cons_succ,List.getElem?_cons_zero] at q3 q4;have ql:=QI.aU;have HAV:=Hy (nG QI on HK.1 hk2 HK.2.1 HK.2.2 Lh x.h.to);have HAD:Hid (∀W,W=wc∨W=wc.drew->Calls prog 56 #[ckp X,Ss x.h.s,Iv x.h.to] W fun e w'=>e=.returned (Iv (σ.vs.length:Nat))/\∃v',CkV X {S with vls:=S.vls.set S.fi v'} {σ with sc:=decl σ.sc x.h.s ⟨1,σ.vs.length,x.h.to⟩,vs:=σ.vs ++ [x.h.to]} w'/\Below X.B wc w'):=Hy fun W hW=>by
     rcases hW with rfl|rfl
     ·exact HAV
     ·exact (nG QI.drew on HK.1 hk2 HK.2.1 HK.2.2 Lh x.h.to).mono fun e w' ⟨h1,v',h2,h3⟩=>⟨h1,v',h2,(zB _ _).drew.trans h3⟩
    have Pw:=Hy3 QI hB4 h64;clear HAV QI hB4 hw4 QT v5 c5;go_upto_region 5 with (fail);go_region_held2 (fun Wx=>Ce Wx X.nB (i * 8+3) (Ss x.h.s)/\Ce Wx X.nB (i * 8+4) (Iv x.h.to)/\X.nB<Wx.heap.size)
     (first|exact ⟨q3,q4,ql⟩|exact HX|exact QL)
     (first
      | (go_at_call 56;(with_reducible refine Calls.mono (HAD.out _ (by first|exact .inl rfl|exact .inr rfl)) ?_);rintro e w5 ⟨rfl,v',E9,qK⟩;have hf7:=E9.nod.frozenAt (i * 8+7);have hc7:=E9.ai hx 7 (by omega);simp only [aA,List.getElem?_cons_succ,List.getElem?_cons_zero] at hc7;have hl5:=E9.aU;have HX:=Hy3 (show Ce w5 X.nB (i * 8+3) (Ss x.h.s) from E9.ai hx 3 (by omega)) (show Ce w5 X.nB (i * 8+4) (Iv x.h.to) from E9.ai hx 4 (by omega)) hl5;have NS:=E9.rf hil (σ.vs.length:Nat);have QL:=Hy3 (show (w5.setCell (Ad X.nB (i * 8+7)) (Iv (σ.vs.length:Nat))).cell? (Ad X.nB (i * 8+3))=some (Ss x.h.s) from NS.ai hx 3 (by omega)) (show (w5.setCell (Ad X.nB (i * 8+7)) (Iv (σ.vs.length:Nat))).cell? (Ad X.nB (i * 8+4))=some (Iv x.h.to) from NS.ai hx 4 (by omega)) NS.aU;have Wz:=Hy2 NS qK;clear E9 qK NS))
    all_goals
     have HE:=Hy (show R (.returned (.tuple #[])) (w5.setCell (Ad X.nB (i * 8+7)) (Iv (σ.vs.length:Nat))) by
      rw [<-HR.out];have h64':¬ 64<=σ.vs.length:=by have:=Gx.out;have:=Pw.2.2;omega
      refine .inl ⟨_,by rw [eU HA.out,Mw.2.2];simp only [Ck.bind_ok,refuse,decide_eq_false h64'];rfl,rfl,_,⟨_,_,rfl,fun j hj=>List.getElem?_set_ne (fun e=>hj e.symm)⟩,Wz.1,?_⟩
      exact (Pw.2.1.trans Wz.2).setCell (p:=(Ad X.nB (i * 8+7))) (show X.B<=X.nB from H.hB.2.1) _)
     go_wp2_with fail;go_end0;exact HE
 ·have HE:=Hy (show R (jU 6 x.h.p) w by
   rw [<-HR.out];exact .inr ⟨6,x.h.p,by rw [gK ha];rfl,rfl,zB _ _⟩)
  clear ha;go_wp2_with fail;exact aG rfl HE
end
section
open Go Go.RowKit Go.Maps
theorem G6 {X:CkX}{S:CkS}{σ:Cs}{w:World}{K:Kn}(h:CkV X S σ w){i:Nat}{x:CN}(hx:X.ns[i]? =some x)(h2:x.h.op≠2)(h3:x.h.op≠3)(h4:x.h.op≠4)(h5:x.h.op≠5)(h6:x.h.op≠6)(h7:x.h.op≠7)(h8:x.h.op≠8) :
  Calls prog 129 #[ckp X,ndp X i] w (fo X S (dm K x.h x.kids i σ) w):=by
 have mf:=h.aU;have Bo:=h.ai hx 0 (by omega)
 simp only [aA,List.getElem?_cons_succ,List.getElem?_cons_zero,Nat.add_zero] at Bo;have e:dm K x.h x.kids i σ=.ok σ:=by simp [dm,h2,h3,h4,h5,h6,h7,h8]
 rw [e];have HE:Hid (fo X S (.ok σ) w (.returned (.tuple #[])) w):=Hy (.inl ⟨σ,rfl,rfl,S,Sx.refl S,h,zB _ _⟩);obtain ⟨R,hR⟩:∃R:Ending->World->Prop,fo X S (.ok σ) w=R:=⟨_,rfl⟩;rw [hR] at HE |-;generalize x.h.op=op at *;have b2:(op == 2)=false:=by simp [h2]
 have b3:(op == 3)=false:=by simp [h3]
 have b4:(op == 4)=false:=by simp [h4]
 have b5:(op == 5)=false:=by simp [h5]
 have b6:(op == 6)=false:=by simp [h6]
 have b7:(op == 7)=false:=by simp [h7]
 have b8:(op == 8)=false:=by simp [h8]
 clear h hR e h2 h3 h4 h5 h6 h7 h8;go_enter func129,ntmps129;go_wp2_with fail;go_end0;exact HE
theorem Fj {X:CkX}{S:CkS}{σ:Cs}{w:World}{K:Kn}(h:CkV X S σ w){i:Nat}{x:CN}(hx:X.ns[i]? =some x)(h2:x.h.op≠12)(h3:x.h.op≠13)(h4:x.h.op≠14)(h5:x.h.op≠15)(h6:x.h.op≠16)(h7:x.h.op≠17)(h8:x.h.op≠19)(h9:x.h.op≠20) :
  Calls prog 130 #[ckp X,ndp X i] w (fo X S (dh K x.h x.kids i σ) w):=by
 have mf:=h.aU;have Bo:=h.ai hx 0 (by omega)
 simp only [aA,List.getElem?_cons_succ,List.getElem?_cons_zero,Nat.add_zero] at Bo;have e:dh K x.h x.kids i σ=.ok σ:=by simp [dh,h2,h3,h4,h5,h6,h7,h8,h9]
 rw [e];have HE:Hid (fo X S (.ok σ) w (.returned (.tuple #[])) w):=Hy (.inl ⟨σ,rfl,rfl,S,Sx.refl S,h,zB _ _⟩);obtain ⟨R,hR⟩:∃R:Ending->World->Prop,fo X S (.ok σ) w=R:=⟨_,rfl⟩;rw [hR] at HE |-;generalize x.h.op=op at *;have b2:(op == 12)=false:=by simp [h2]
 have b3:(op == 13)=false:=by simp [h3]
 have b4:(op == 14)=false:=by simp [h4]
 have b5:(op == 15)=false:=by simp [h5]
 have b6:(op == 16)=false:=by simp [h6]
 have b7:(op == 17)=false:=by simp [h7]
 have b8:(op == 19)=false:=by simp [h8]
 have b9:(op == 20)=false:=by simp [h9]
 clear h hR e h2 h3 h4 h5 h6 h7 h8 h9;go_enter func130,ntmps130;go_wp2_with fail;go_end0;exact HE
structure ArW (h:Hd) (ks:List Nat):Prop where
 one:h.op=4->∃k,ks=[k]
 two:h.op=5->∃k l,ks=[k,l]
 some_:h.op=15∨h.op=16->∃k l,ks=k ::l
structure KnW (X:CkX) (S:CkS) (K:Kn):Prop where
 on:S.on=true
 ft:∃f,X.fl[S.fi]? =some f/\K.ft=f.1.ty
 lb:∀s,(look S.lb s).isSome=decide (s∈K.lb)
 np:K.np=X.fl.map fun f=>f.1.ps.length
theorem KnW.sx {X:CkX}{S S':CkS}{K:Kn}(h:KnW X S K)(hs:Sx S S'):KnW X S' K:=by
 obtain ⟨v,s,rfl,_⟩:=hs;exact ⟨h.on,h.ft,h.lb,h.np⟩
theorem EA {X:CkX}{S:CkS}{σ:Cs}{w:World}{K:Kn}(h:CkV X S σ w){i:Nat}{x:CN}(hx:X.ns[i]? =some x)(hw:NdW X K σ x)(ha:ArW x.h x.kids) :
  Calls prog 129 #[ckp X,ndp X i] w (fo X S (dm K x.h x.kids i σ) w):=by
 by_cases h2:x.h.op=2
 ·exact Hg h hx hw h2
 by_cases h3:x.h.op=3
 ·exact Hf h hx hw h3
 by_cases h4:x.h.op=4
 ·obtain ⟨k,hk⟩:=ha.one h4;exact He h hx hw h4 hk
 by_cases h5:x.h.op=5
 ·obtain ⟨k,l,hk⟩:=ha.two h5;exact Ha h hx hw h5 hk
 by_cases h6:x.h.op=6
 ·exact G9 h hx hw h6
 by_cases h7:x.h.op=7
 ·exact G8 h hx hw h7
 by_cases h8:x.h.op=8
 ·exact G7 h hx hw h8
 exact G6 h hx h2 h3 h4 h5 h6 h7 h8
structure WfS (X:CkX) (σ:Cs):Prop where
 one:1<=σ.sc.length
 vs:σ.vs.length<=64
 ln:∀s∈σ.sc,s.length<=1000000+σ.vs.length
 fn:∀s∈σ.sc,∀p∈s,p.2.so=4->∃j:Nat,p.2.rf=j/\j<X.fl.length
theorem oq {α:Type}{l:List (Nm'×α)}{x:Nm'}{m:α}(h:look l x=some m):∃p∈l,p.2=m:=by
 unfold look at h;cases hf:l.find? fun y=>decide (y.1=x) with
 |none=>rw [hf] at h;cases h
 |some p=>
  rw [hf] at h;exact ⟨p,List.mem_of_find?_eq_some hf,Option.some.inj h⟩
theorem BB {l:List Scp}{x:Nm'}{m:Mg}(h:fE l x=some m):∃s∈l,∃p∈s,p.2=m:=by
 unfold fE at h;obtain ⟨s,hs,hl⟩:=List.exists_of_findSome?_eq_some h;exact ⟨s,by simpa using hs,oq hl⟩
theorem WfS.last {X:CkX}{σ:Cs}(h:WfS X σ):(σ.sc.getLast?.getD []).length<=2000000:=by
 cases hl:σ.sc.getLast? with
 |none=>simp
 |some s=>
  have:=h.ln s (List.mem_of_getLast? hl);have:=h.vs;simp only [Option.getD_some];omega
theorem CB {X:CkX}{S:CkS}{σ:Cs}{w:World}{K:Kn}(h:CkV X S σ w){i:Nat}{x:CN}(hx:X.ns[i]? =some x)(hw:NdW X K σ x)(ha:ArW x.h x.kids)(hk:KnW X S K)(hs:WfS X σ) :
  Calls prog 130 #[ckp X,ndp X i] w (fo X S (dh K x.h x.kids i σ) w):=by
 by_cases h2:x.h.op=12
 ·exact CR h hx hw h2 hk.on (k:=σ.sc.length - 1) (by have:=hs.one;omega) hs.last (by have:=hs.vs;omega)
 by_cases h3:x.h.op=13
 ·exact CQ h hx hw h3
 by_cases h4:x.h.op=14
 ·exact CP h hx hw h4
 by_cases h5:x.h.op=15
 ·obtain ⟨k,l,sZ⟩:=ha.some_ (.inl h5);exact CO h hx hw h5 sZ
 by_cases h6:x.h.op=16
 ·obtain ⟨k,l,sZ⟩:=ha.some_ (.inr h6);exact CL h hx hw h6 sZ
 by_cases h7:x.h.op=17
 ·exact CK h hx hw h7 hk.on (hk.lb _)
 by_cases h8:x.h.op=19
 ·obtain ⟨f,hf,Tk⟩:=hk.ft;exact CJ h hx hw h8 hk.on hf Tk
 by_cases h9:x.h.op=20
 ·exact CG h hx hw h9
 exact Fj h hx h2 h3 h4 h5 h6 h7 h8 h9
theorem aa {α β:Type}{r:Ck α}{f:α->Ck β}{b:β}(h:r.bind f=.ok b):∃a,r=.ok a/\f a=.ok b:=by
 cases r with
 |ok a=>exact ⟨a,rfl,h⟩
 |er n p=>cases h
theorem kg {b:Bool}{n p:Int}{u:Unit}(h:refuse b n p=.ok u):b=false:=by
 cases b
 ·rfl
 ·cases h
def EW (σ τ:Cs):Prop:=τ.sc=σ.sc/\τ.vs=σ.vs
theorem iV {σ τ:Cs}(h:EW σ τ){X:CkX}(hw:WfS X σ):WfS X τ/\τ.sc.length=σ.sc.length:=by
 obtain ⟨h1,h2⟩:=h;exact ⟨⟨by rw [h1];exact hw.one,by rw [h2];exact hw.vs,by rw [h1,h2];exact hw.ln,by rw [h1];exact hw.fn⟩,by rw [h1]⟩
theorem ui {K:Kn}{h:Hd}{ks:List Nat}{i:Nat}{σ τ:Cs}(e:dm K h ks i σ=.ok τ):EW σ τ:=by
 unfold dm at e;split at e
 ·obtain ⟨m,-,e⟩:=aa e;cases e;exact ⟨rfl,rfl⟩
 split at e
 ·obtain ⟨m,-,e⟩:=aa e;obtain ⟨_,-,e⟩:=aa e;cases e;exact ⟨rfl,rfl⟩
 split at e
 ·obtain ⟨m,-,e⟩:=aa e;cases e;exact ⟨rfl,rfl⟩
 split at e
 ·obtain ⟨m,-,e⟩:=aa e;cases e;exact ⟨rfl,rfl⟩
 split at e
 ·obtain ⟨m,-,e⟩:=aa e;cases e;exact ⟨rfl,rfl⟩
 split at e
 ·obtain ⟨m,-,e⟩:=aa e;obtain ⟨_,-,e⟩:=aa e;obtain ⟨_,-,e⟩:=aa e;cases e;exact ⟨rfl,rfl⟩
 split at e
 ·cases e;exact ⟨rfl,rfl⟩
 ·cases e;exact ⟨rfl,rfl⟩
theorem FI {X:CkX}{K:Kn}{h:Hd}{ks:List Nat}{i:Nat}{σ τ:Cs}(e:eB K h ks i σ=.ok τ)(hw:WfS X σ):WfS X τ/\τ.sc.length=σ.sc.length:=by
 unfold eB at e;split at e
 ·exact iV (ui e) hw
 unfold dh at e;split at e
 ·obtain ⟨_,-,e⟩:=aa e;obtain ⟨_,-,e⟩:=aa e;obtain ⟨_,h64,e⟩:=aa e;have h64:=kg h64;simp only [decide_eq_false_iff_not] at h64;cases e;have Pd:=hw.one;have hk:σ.sc.length=(σ.sc.length - 1)+1:=by omega
  have hd:=rW hk h.s ⟨1,σ.vs.length,h.to⟩;refine ⟨⟨?_,?_,?_,?_⟩,?_⟩
  ·simp only [hd,List.length_set];exact Pd
  ·simp only [List.length_append,List.length_cons,List.length_nil];omega
  ·intro s hs;simp only [hd] at hs;simp only [List.length_append,List.length_cons,List.length_nil];rcases List.mem_or_eq_of_mem_set hs with h1|rfl
   ·have:=hw.ln s h1;omega
   ·have:=hw.ln _ (List.getElem_mem (show σ.sc.length - 1<σ.sc.length by omega))
    simp only [List.length_cons];omega
  ·intro s hs p hp h4;simp only [hd] at hs;rcases List.mem_or_eq_of_mem_set hs with h1|rfl
   ·exact hw.fn s h1 p hp h4
   ·rcases List.mem_cons.1 hp with rfl|hp
    ·simp at h4
    ·exact hw.fn _ (List.getElem_mem (show σ.sc.length - 1<σ.sc.length by omega)) p hp h4
  ·simp only [hd,List.length_set]
 split at e
 ·obtain ⟨m,-,e⟩:=aa e;obtain ⟨_,-,e⟩:=aa e;cases e;refine iV (σ:=σ) ?_ hw;exact ⟨rfl,rfl⟩
 split at e
 ·obtain ⟨m,-,e⟩:=aa e;obtain ⟨_,-,e⟩:=aa e;cases e;refine iV (σ:=σ) ?_ hw;exact ⟨rfl,rfl⟩
 split at e
 ·obtain ⟨m,-,e⟩:=aa e;cases e;refine iV (σ:=σ) ?_ hw;exact ⟨rfl,rfl⟩
 split at e
 ·obtain ⟨m,-,e⟩:=aa e;cases e;refine iV (σ:=σ) ?_ hw;exact ⟨rfl,rfl⟩
 split at e
 ·obtain ⟨m,-,e⟩:=aa e;obtain ⟨_,-,e⟩:=aa e;cases e;refine iV (σ:=σ) ?_ hw;exact ⟨rfl,rfl⟩
 split at e
 ·obtain ⟨m,-,e⟩:=aa e;cases e;refine iV (σ:=σ) ?_ hw;exact ⟨rfl,rfl⟩
 ·cases e;refine iV (σ:=σ) ?_ hw;exact ⟨rfl,rfl⟩
end
end Go.Proofs.YtcchdlnfeijinaaGreatDoor
