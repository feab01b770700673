/- Parf to Parj: Layer parse: the walks of the functions that read operands: parentheses, operands. -/
import Derived.Test.YtcchdlnfeijinaaGreatDoorNak
import Derived.Deep.RegionHeld2
import Derived.Deep.LoopGhost
import Derived.Deep.AppendLies
namespace Go.Proofs.YtcchdlnfeijinaaGreatDoor
open Go.Proofs.Tryz
set_option linter.unusedSimpArgs false
set_option linter.unusedVariables false
set_option maxHeartbeats 4000000
set_option maxRecDepth 100000
section
open Go.RowKit
theorem rk1 {h:Hd}{k:Fo}{c:Nat}:(Fo.one h k).roots c=[c+k.size]:=rfl
theorem BG {X:Rdr}{w W:World}{v u:Value}{s:St}{ns:List NV}(h:Cur X w v W s ns u)(hh:Hd)(k:Fo){c:Nat}:(W.alloc (.cells #[Iv (c+k.size:Nat)] tI)).ownsRow X.base tI 1 (Sl W.heap.size 1 1) ((Fo.one hh k).roots c).length (bU ((Fo.one hh k).roots c)):=
 World.ownsRow_lit (base:=X.base) (e:=tI) (size:=1) W #[Iv (c+k.size:Nat)] 1 h.at_.eu (by decide) rfl
theorem vC {X:Rdr}{r:Md->St->Rs Fo}(hO:KOp X r)(hX:KEx X r){w:World}{s:St}{ns:List NV}{v:Value}(h:At X w s ns v)(d:Nat)(hd:d<=40)(aD:s.l≠[])(hno:gB X.e r d s≠.out) :
  Calls prog 198 #[rd X,Iv d] w (RT X w ns v (gB X.e r d s)):=by
 have hC:=Cur.start h;obtain ⟨M,hM⟩:=zN (gB X.e r d s);rw [hM];have HM:=Hy hM;have HO:=Hy hno;have C0:=Hy hC;clear hM h hC hno;have uo:=fun t W=>oH t W
 have Ky:Hid (((d:Int)+1)=((d+1:Nat):Int)):=Hy (by simp)
 go_enter func198,ntmps198;go_wp2_with fail;refine (gQ C0.out aD).mono ?_;rintro e w1 ⟨rfl,hC,hK⟩;have C1:=Hy hC;clear hC hK;rw [aP];generalize IL:pk X.e s=t;go_wp2_with fail;refine (jS C1.out).mono ?_;rintro e w2 ⟨rfl,hC,hK⟩;have C2:=Hy hC;clear hC hK;go_wp2_with fail;refine (kQ C2.out _).mono ?_;rintro e w3 ⟨rfl,hC,hK⟩;have C3:=Hy hC;clear hC hK;go_wp2_with fail;refine (mM _ (q (pk X.e s.nx)) (fw _) w3 C3.out.at_.env).mono ?_;rintro e w4 ⟨rfl,rfl⟩;cases hk:eH (q (pk X.e s.nx))
 ·have QV:=hk;have iA:r (.bin (d+1) 1) s.nx≠.out:=by
   have:=HO.out;simp only [gB,lC,hk,if_true,if_false] at this;exact dD this
  go_wp2_with fail;rw [Ky.out];refine (hX (d+1) w3 s.nx ns v (by omega) C3.out.at_ iA).mono ?_
  intro e w5 jB;have hR:=(C3.out).rd jB;rcases hR.cases with ⟨no,p,hm,rfl,hb⟩|⟨h5,k5,s5,v5,O3,hm,rfl,hC,hK,hF⟩
  ·have HE:gB X.e r d s=.er no p:=by simp only [gB,lC,hk,hm,zR]
   have HH:=Hy2 HE hb;clear HE hb hm;go_wp2_with fail;refine ae rfl ?_;rw [<-HM.out,HH.1];exact ⟨rfl,HH.2⟩
  have E5:=Hy hm;have C5:=Hy hC;have F5:=Hy hF;clear hm hC hK hR jB hF;go_wp2_with fail;refine (bI C5.out (by simp) [41] (by simp)).mono ?_
  intro e w6 hR;rcases hR.cases with ⟨no,p,hm,rfl,hb⟩|⟨a6,s6,hm,rfl,hC,hK⟩
  ·have HE:gB X.e r d s=.er no p:=by simp only [gB,lC,hk,E5.out,hm,zR]
   have HH:=Hy2 HE hb;clear HE hb hm;go_wp2_with fail;refine ae rfl ?_;rw [<-HM.out,HH.1];exact ⟨rfl,HH.2⟩
  have E6:=Hy hm;have C6:=Hy hC;clear hm hC hK hR;have HE:gB X.e r d s=.ok (Fo.one h5 k5) s6:=by simp only [gB,lC,hk,E5.out,E6.out,zR]
  have HE:=Hy HE;go_wp2_with fail;go_ret;rw [<-HM.out,HE.out];exact ⟨v5,O3,h5,k5,rfl,rfl,C6.out.at_,C6.out.kp,F5.out⟩
 ·have QV:=hk;rename_i k;by_cases hk0:k=0
  ·subst hk0;have iA:r (.bin (d+1) 1) s.nx≠.out:=by
    have:=HO.out;simp only [gB,lC,hk,if_true,if_true,if_false] at this;exact dD this
   go_wp2_with fail;rw [Ky.out];refine (hX (d+1) w3 s.nx ns v (by omega) C3.out.at_ iA).mono ?_
   intro e w5 jB;have hR:=(C3.out).rd jB;rcases hR.cases with ⟨no,p,hm,rfl,hb⟩|⟨h5,k5,s5,v5,O3,hm,rfl,hC,hK,hF⟩
   ·have HE:gB X.e r d s=.er no p:=by simp only [gB,lC,hk,if_true,hm,zR]
    have HH:=Hy2 HE hb;clear HE hb hm;go_wp2_with fail;refine ae rfl ?_;rw [<-HM.out,HH.1];exact ⟨rfl,HH.2⟩
   have E5:=Hy hm;have C5:=Hy hC;have F5:=Hy hF;clear hm hC hK hR jB hF;go_wp2_with fail;refine (bI C5.out (by simp) [41] (by simp)).mono ?_
   intro e w6 hR;rcases hR.cases with ⟨no,p,hm,rfl,hb⟩|⟨a6,s6,hm,rfl,hC,hK⟩
   ·have HE:gB X.e r d s=.er no p:=by simp only [gB,lC,hk,if_true,E5.out,hm,zR]
    have HH:=Hy2 HE hb;clear HE hb hm;go_wp2_with fail;refine ae rfl ?_;rw [<-HM.out,HH.1];exact ⟨rfl,HH.2⟩
   have E6:=Hy hm;have C6:=Hy hC;clear hm hC hK hR;have HE:gB X.e r d s=.ok (Fo.one h5 k5) s6:=by simp only [gB,lC,hk,if_true,E5.out,E6.out,zR]
   have HE:=Hy HE;go_wp2_with fail;go_ret;rw [<-HM.out,HE.out];exact ⟨v5,O3,h5,k5,rfl,rfl,C6.out.at_,C6.out.kp,F5.out⟩
  ·have bT:=hk0;have QX:s.nx.l≠[]:=fun e=>by
    simp only [pk,e,List.headD_nil,lY C3.out.at_.fin] at hk;simp [eH,pK,lQ,iO,pM] at hk
   go_wp2_with fail;refine (gQ C3.out QX).mono ?_;rintro e w5 ⟨rfl,hC,hK⟩;have C5:=Hy hC;clear hC hK;go_wp2_with fail;refine (bI C5.out (by simp) [41] (by simp)).mono ?_
   intro e w6 hR;rcases hR.cases with ⟨no,p,hm,rfl,hb⟩|⟨a6,s6,hm,rfl,hC,hK⟩
   ·have HE:gB X.e r d s=.er no p:=by simp only [gB,lC,hk,if_neg hk0,hm,zR]
    have HH:=Hy2 HE hb;clear HE hb hm;go_wp2_with fail;refine ae rfl ?_;rw [<-HM.out,HH.1];exact ⟨rfl,HH.2⟩
   have E6:=Hy hm;have C6:=Hy hC;clear hm hC hK hR;have iA:r (.opd (d+1)) s6≠.out:=by
    have:=HO.out;simp only [gB,hk,if_neg hk0,E6.out,Rs.bind_ok] at this;exact dD this
   go_wp2_with fail;rw [Ky.out];refine (hO (d+1) w6 s6 ns v (by omega) C6.out.at_ iA).mono ?_
   intro e w7 jB;have hR:=(C6.out).rd jB;rcases hR.cases with ⟨no,p,hm,rfl,hb⟩|⟨h7,k7,s7,v7,nk7,hm,rfl,hC,hK,hF⟩
   ·have HE:gB X.e r d s=.er no p:=by simp only [gB,lC,hk,if_neg hk0,E6.out,hm,zR]
    have HH:=Hy2 HE hb;clear HE hb hm;go_wp2_with fail;refine ae rfl ?_;rw [<-HM.out,HH.1];exact ⟨rfl,HH.2⟩
   have E7:=Hy hm;have C7:=Hy hC;have F7:=Hy hF;clear hm hC hK hR jB hF;go_wp2_with fail;have Tf:=rk1 (k:=k7) (h:=h7) (c:=ns.length);refine (iD ((C7.out.alloc _)) ⟨6,t.p,0,[],k,0⟩ (Fo.one h7 k7) F7.out (fr1 C7.out) (BG C7.out _ _)).mono ?_;have HE:gB X.e r d s=bz ⟨6,t.p,0,[],k,0⟩ (Fo.one h7 k7) s7:=by rw [<-IL];simp only [gB,lC,hk,if_neg hk0,E6.out,E7.out,zR]
   have HE:=Hy HE;intro e Ng hR;have HR:=Hy hR;rcases hR.form with ⟨i,rfl⟩|⟨ch,rfl⟩
   ·clear hR;go_wp2_with fail;go_ret;rw [<-HM.out,HE.out];exact HR
   ·clear hR;go_wp2_with fail;refine ae rfl ?_;rw [<-HM.out,HE.out];exact HR
end
section
open Go.RowKit
theorem DT {e:Tok}{x y z:List UInt8}{s:St}{no p:Int}{f:St->Rs Fo}(h:((must e x s).bind fun _ s=>(must e y s).bind fun _ s=>must e z s)=.er no p) :
  ((must e x s).bind fun _ s'=>(must e y s').bind fun _ s'=>(must e z s').bind fun _ s'=>f s')=.er no p:=by
 cases h1:must e x s with
 |ok a s1=>
  rw [h1] at h;simp only [Rs.bind] at h |-;cases h2:must e y s1 with
  |ok a s2=>
   rw [h2] at h;simp only at h |-;rw [h]
  |er _ _=>rw [h2] at h;cases h;rfl
  |out=>rw [h2] at h;cases h
 |er _ _=>rw [h1] at h;cases h;rfl
 |out=>rw [h1] at h;cases h
theorem DR {e:Tok}{x y z:List UInt8}{s s':St}{a:Unit}{f:St->Rs Fo}(h:((must e x s).bind fun _ s=>(must e y s).bind fun _ s=>must e z s)=.ok a s') :
  ((must e x s).bind fun _ s'=>(must e y s').bind fun _ s'=>(must e z s').bind fun _ s'=>f s')=f s':=by
 cases h1:must e x s with
 |ok a s1=>
  rw [h1] at h;simp only [Rs.bind] at h |-;cases h2:must e y s1 with
  |ok a s2=>
   rw [h2] at h;simp only at h |-;rw [h]
  |er _ _=>rw [h2] at h;cases h
  |out=>rw [h2] at h;cases h
 |er _ _=>rw [h1] at h;cases h
 |out=>rw [h1] at h;cases h
theorem mq {X:Rdr}{r:Md->St->Rs Fo}(hB:KBn X r):KEx X r:=by
 intro d w s ns v hd h hno;go_enter func145,ntmps145;go_wp2_with fail;refine (hB d 1 w s ns v hd (zL _) (by omega) h hno).mono ?_
 intro e w1 hR;have HR:=Hy hR;rcases hR.form with ⟨i,rfl⟩|⟨ch,rfl⟩
 ·clear hR;go_wp2_with fail;go_ret;exact HR
 ·clear hR;go_wp2_with fail;exact ae rfl HR
theorem wU {X:Rdr}{r:Md->St->Rs Fo}(hO:KOp X r)(hX:KEx X r)(hA:KAr X r)(hL:KEl X r){w:World}{s:St}{ns:List NV}{v:Value}(h:At X w s ns v)(d:Nat)(hd:d<=100)(hno:lZ X.e r d s≠.out) :
  Calls prog 183 #[rd X,Iv d] w (RT X w ns v (lZ X.e r d s)):=by
 have hC:=Cur.start h;obtain ⟨M,hM⟩:=zN (lZ X.e r d s);rw [hM];have HM:=Hy hM;have HO:=Hy hno;have C0:=Hy hC;clear hM h hC hno;have Ky:Hid (((d:Int)+1)=((d+1:Nat):Int)):=Hy (by simp)
 go_enter func183,ntmps183;go_wp2_with fail;refine (Ay C0.out d (by omega)).mono ?_
 intro e w1 hR;rcases hR.cases with ⟨no,p,hm,rfl,hb⟩|⟨a1,s1,hm,rfl,hC,hK⟩
 ·have HE:lZ X.e r d s=.er no p:=by simp only [lZ,hm,zR]
  have HH:=Hy2 HE hb;clear HE hb hm;go_wp2_with fail;refine ae rfl ?_;rw [<-HM.out,HH.1];exact ⟨rfl,HH.2⟩
 have E1:=Hy hm;have C1:=Hy hC;clear hm hC hK hR;obtain ⟨U5,Od⟩:s1=s/\d<=40:=by
  have:=E1.out;unfold fM at this;split at this
  ·cases this
  ·cases this;exact ⟨rfl,by omega⟩
 subst U5;go_wp2_with fail;refine (jS C1.out).mono ?_;rintro e w2 ⟨rfl,hC,hK⟩;have C2:=Hy hC;clear hC hK;have UJ:=E1.out;rw [aP];have aD:pk X.e s1≠X.e->s1.l≠[]:=fun h1 e=>h1 (by simp [pk,e])
 have DJ:lZ X.e r d s1=if (pk X.e s1).k=2 then wX X.e s1 else if jX (pk X.e s1) then mK X.e r d s1 else if q (pk X.e s1)=[45]∨q (pk X.e s1)=[126]∨q (pk X.e s1)=[33] then unB X.e r d s1 else if q (pk X.e s1)=[40] then gB X.e r d s1 else if q (pk X.e s1)=wIn then inB X.e s1 else wr X.e 2 s1:=by
  simp only [lZ,E1.out,Rs.bind_ok]
 have FK:=C2.out.at_.fin;generalize IL:pk X.e s1=t at *;clear UJ;by_cases h2:t.k=2
 ·have Pf:=h2;have hn:=aD (fun h1=>by rw [h1,FK] at h2;cases h2)
  rw [if_pos h2] at DJ;have Tn:decide (t.k=2)=true:=by simpa using h2
  have HE:=Hy DJ;clear DJ;go_wp2_with fail;have C9:=Hy (C2.out.alloc (.cells #[Iv 2,Iv t.p,Iv t.n,Ss t.s] tE));refine (yE C9.out.at_ hn).mono ?_;intro e Ou jB;have hR:RT X w ns v (wX X.e s1) e Ou:=kw C9.out jB;have HR:=Hy hR;rcases hR.form with ⟨i,rfl⟩|⟨ch,rfl⟩
  ·clear hR jB;go_wp2_with fail;go_ret;rw [<-HM.out,HE.out];exact HR
  ·clear hR jB;go_wp2_with fail;refine ae rfl ?_;rw [<-HM.out,HE.out];exact HR
 have Tn:decide (t.k=2)=false:=by simpa using h2
 rw [if_neg h2] at DJ;have Lx:=Hy DJ;clear DJ;go_wp2_with fail;refine (xN (C2.out.alloc (.cells (fJ t) tE)) t).mono ?_;rintro e w3 ⟨rfl,hC,hK⟩;have C3:=Hy hC;have T3:=Hy ((C2.out.new tE (fJ t)).kept hK);obtain ⟨Wp,SI,Wo,SH,SE⟩:=(T3.out).blk.tok;clear hC hK;have DJ:=Lx.out;cases hn:jX t
 ·have Pf:=hn;rw [hn] at DJ;simp only [Bool.false_eq_true,if_false] at DJ;have Vo:=Hy DJ;clear DJ;go_wp2_with fail;refine (kQ C3.out t).mono ?_;rintro e w4 ⟨rfl,hC,hK⟩;have C4:=Hy hC;have T4:=Hy ((T3.out).kept hK);obtain ⟨Wp,SI,Wo,SH,SE⟩:=(T4.out).blk.tok;clear hC hK;have DJ:=Vo.out;clear Lx;by_cases hu:q t=[45]∨q t=[126]∨q t=[33]
  ·have hu0:=hu;rw [if_pos hu] at DJ;have HE:=Hy DJ;clear DJ;have hn:=aD (fun h1=>by rw [h1,lY FK] at hu;simp at hu)
   have hs:q t=t.s:=by
    unfold q at hu |-;split
    ·rfl
    ·rename_i h';rw [if_neg h'] at hu;simp at hu
   have iA:r (.opd (d+1)) s1.nx≠.out:=by
    have:=HO.out;rw [HE.out] at this;simp only [unB] at this;exact dD this
   have HU:Hid (∀R,Calls prog 120 #[rd X] w4 R->Calls prog 120 #[rd X] w4 R):=Hy (fun _ h=>h)
   rcases hu with hu|hu|hu
   ·have hu0:=hu;rw [hu];go_wp2_with fail;refine (gQ C4.out hn).mono ?_;rintro e w5 ⟨rfl,hC,hK⟩;have C5:=Hy hC;clear hC hK;rw [IL,aP];go_wp2_with fail;have T5:=C5.out.new tE (fJ t);have CA:=C5.out.alloc (.cells (fJ t) tE);unfold fJ at T5 CA;generalize w5.alloc (Obj.cells #[Iv t.k,Iv t.p,Iv t.n,Ss t.s] tE)=W5 at *;have T6:Loc X W5 v w5.heap.size tE (fJ t):=T5;obtain ⟨Wp,SI,Wo,SH,SE⟩:=T6.blk.tok;have YW:=Hy T6;have Og:=CA.tree fun W hW=>hO (d+1) W s1.nx ns v (by omega) hW iA
    have Na:=fun no p (hm:r (.opd (d+1)) s1.nx=.er no p)=>(by rw [HE.out];simp only [unB,hm,Rs.aB]:lZ X.e r d s1=.er no p)
    have QL:=Hy Og;have Ol:=Hy Na;have Tu:Hid (IntKind.i64.wrap ((d:Int)+1)=((d+1:Nat):Int)):=Hy (by rw [IntKind.wrap_i64];omega)
    clear Og Na T5 T6 CA;go_region_held2 (fun W=>Ce W w5.heap.size 1 (Iv t.p)/\Ce W w5.heap.size 3 (Ss t.s)/\w5.heap.size<W.heap.size) (first|exact ⟨SI,SH,SE⟩|exact ⟨Xo,Xn,Xm⟩|exact nP ⟨Xo,Xn,Xm⟩ _|exact ⟨T71,T73,T7l⟩) (first|(go_at_call 183;rw [Tu.out];refine (QL _ (by exact bd1 _)).mono ?_;intro e w6 hR;rcases hR.cases with ⟨no,p,hm,rfl,hb⟩|⟨h6,k6,s6,v6,nk6,hm,rfl,hC,hK,hF⟩;(refine ae rfl ?_;rw [<-HM.out,Ol.out no p hm];exact ⟨rfl,hb⟩);have C6:=Hy hC;have F6:=Hy hF;have E6:=Hy hm;have T6:=(YW.go (bd1 _)).kept hK;have HT6:=Hy T6;obtain ⟨-,Xo,-,Xn,Xm⟩:=T6.blk.tok;clear hR hm hC hF hK T6)|(go_at_call 144;refine (zh (C6.out.alloc _) ⟨4,t.p,0,t.s,0,0⟩ (Fo.one h6 k6) F6.out (fr1 C6.out) (BG C6.out _ _)).mono ?_;rintro e w7 ⟨hR,⟨no,p,rfl⟩|⟨i,u7,rfl,hK⟩⟩;(refine ae rfl ?_;rw [<-HM.out,HE.out];simp only [unB,E6.out,Rs.bind_ok];rw [IL];exact hR);have HR:=Hy hR;obtain ⟨-,T71,-,T73,T7l⟩:=((HT6.alloc _).kept hK).blk.tok;clear hR hK))
    all_goals
     go_wp2_with fail;go_ret;rw [<-HM.out,HE.out];simp only [unB,E6.out,Rs.bind_ok];rw [IL];exact HR
   ·have hu0:=hu;rw [hu];go_wp2_with fail;refine (gQ C4.out hn).mono ?_;rintro e w5 ⟨rfl,hC,hK⟩;have C5:=Hy hC;clear hC hK;rw [IL,aP];go_wp2_with fail;have T5:=C5.out.new tE (fJ t);have CA:=C5.out.alloc (.cells (fJ t) tE);unfold fJ at T5 CA;generalize w5.alloc (Obj.cells #[Iv t.k,Iv t.p,Iv t.n,Ss t.s] tE)=W5 at *;have T6:Loc X W5 v w5.heap.size tE (fJ t):=T5;obtain ⟨Wp,SI,Wo,SH,SE⟩:=T6.blk.tok;have YW:=Hy T6;have Og:=CA.tree fun W hW=>hO (d+1) W s1.nx ns v (by omega) hW iA
    have Na:=fun no p (hm:r (.opd (d+1)) s1.nx=.er no p)=>(by rw [HE.out];simp only [unB,hm,Rs.aB]:lZ X.e r d s1=.er no p)
    have QL:=Hy Og;have Ol:=Hy Na;have Tu:Hid (IntKind.i64.wrap ((d:Int)+1)=((d+1:Nat):Int)):=Hy (by rw [IntKind.wrap_i64];omega)
    clear Og Na T5 T6 CA;go_region_held2 (fun W=>Ce W w5.heap.size 1 (Iv t.p)/\Ce W w5.heap.size 3 (Ss t.s)/\w5.heap.size<W.heap.size) (first|exact ⟨SI,SH,SE⟩|exact ⟨Xo,Xn,Xm⟩|exact nP ⟨Xo,Xn,Xm⟩ _|exact ⟨T71,T73,T7l⟩) (first|(go_at_call 183;rw [Tu.out];refine (QL _ (by exact bd1 _)).mono ?_;intro e w6 hR;rcases hR.cases with ⟨no,p,hm,rfl,hb⟩|⟨h6,k6,s6,v6,nk6,hm,rfl,hC,hK,hF⟩;(refine ae rfl ?_;rw [<-HM.out,Ol.out no p hm];exact ⟨rfl,hb⟩);have C6:=Hy hC;have F6:=Hy hF;have E6:=Hy hm;have T6:=(YW.go (bd1 _)).kept hK;have HT6:=Hy T6;obtain ⟨-,Xo,-,Xn,Xm⟩:=T6.blk.tok;clear hR hm hC hF hK T6)|(go_at_call 144;refine (zh (C6.out.alloc _) ⟨4,t.p,0,t.s,0,0⟩ (Fo.one h6 k6) F6.out (fr1 C6.out) (BG C6.out _ _)).mono ?_;rintro e w7 ⟨hR,⟨no,p,rfl⟩|⟨i,u7,rfl,hK⟩⟩;(refine ae rfl ?_;rw [<-HM.out,HE.out];simp only [unB,E6.out,Rs.bind_ok];rw [IL];exact hR);have HR:=Hy hR;obtain ⟨-,T71,-,T73,T7l⟩:=((HT6.alloc _).kept hK).blk.tok;clear hR hK))
    all_goals
     go_wp2_with fail;go_ret;rw [<-HM.out,HE.out];simp only [unB,E6.out,Rs.bind_ok];rw [IL];exact HR
   ·have hu0:=hu;rw [hu];go_wp2_with fail;refine (gQ C4.out hn).mono ?_;rintro e w5 ⟨rfl,hC,hK⟩;have C5:=Hy hC;clear hC hK;rw [IL,aP];go_wp2_with fail;have T5:=C5.out.new tE (fJ t);have CA:=C5.out.alloc (.cells (fJ t) tE);unfold fJ at T5 CA;generalize w5.alloc (Obj.cells #[Iv t.k,Iv t.p,Iv t.n,Ss t.s] tE)=W5 at *;have T6:Loc X W5 v w5.heap.size tE (fJ t):=T5;obtain ⟨Wp,SI,Wo,SH,SE⟩:=T6.blk.tok;have YW:=Hy T6;have Og:=CA.tree fun W hW=>hO (d+1) W s1.nx ns v (by omega) hW iA
    have Na:=fun no p (hm:r (.opd (d+1)) s1.nx=.er no p)=>(by rw [HE.out];simp only [unB,hm,Rs.aB]:lZ X.e r d s1=.er no p)
    have QL:=Hy Og;have Ol:=Hy Na;have Tu:Hid (IntKind.i64.wrap ((d:Int)+1)=((d+1:Nat):Int)):=Hy (by rw [IntKind.wrap_i64];omega)
    clear Og Na T5 T6 CA;go_region_held2 (fun W=>Ce W w5.heap.size 1 (Iv t.p)/\Ce W w5.heap.size 3 (Ss t.s)/\w5.heap.size<W.heap.size) (first|exact ⟨SI,SH,SE⟩|exact ⟨Xo,Xn,Xm⟩|exact nP ⟨Xo,Xn,Xm⟩ _|exact ⟨T71,T73,T7l⟩) (first|(go_at_call 183;rw [Tu.out];refine (QL _ (by exact bd1 _)).mono ?_;intro e w6 hR;rcases hR.cases with ⟨no,p,hm,rfl,hb⟩|⟨h6,k6,s6,v6,nk6,hm,rfl,hC,hK,hF⟩;(refine ae rfl ?_;rw [<-HM.out,Ol.out no p hm];exact ⟨rfl,hb⟩);have C6:=Hy hC;have F6:=Hy hF;have E6:=Hy hm;have T6:=(YW.go (bd1 _)).kept hK;have HT6:=Hy T6;obtain ⟨-,Xo,-,Xn,Xm⟩:=T6.blk.tok;clear hR hm hC hF hK T6)|(go_at_call 144;refine (zh (C6.out.alloc _) ⟨4,t.p,0,t.s,0,0⟩ (Fo.one h6 k6) F6.out (fr1 C6.out) (BG C6.out _ _)).mono ?_;rintro e w7 ⟨hR,⟨no,p,rfl⟩|⟨i,u7,rfl,hK⟩⟩;(refine ae rfl ?_;rw [<-HM.out,HE.out];simp only [unB,E6.out,Rs.bind_ok];rw [IL];exact hR);have HR:=Hy hR;obtain ⟨-,T71,-,T73,T7l⟩:=((HT6.alloc _).kept hK).blk.tok;clear hR hK))
    all_goals
     go_wp2_with fail;go_ret;rw [<-HM.out,HE.out];simp only [unB,E6.out,Rs.bind_ok];rw [IL];exact HR
  have hu1:(q t == [45])=false:=by simp only [beq_eq_false_iff_ne];exact fun h'=>hu (.inl h')
  have XL:(q t == [126])=false:=by simp only [beq_eq_false_iff_ne];exact fun h'=>hu (.inr (.inl h'))
  have hu3:(q t == [33])=false:=by simp only [beq_eq_false_iff_ne];exact fun h'=>hu (.inr (.inr h'))
  rw [if_neg hu] at DJ;by_cases hp:q t=[40]
  ·have hp0:=hp;have hn:=aD (fun h1=>by rw [h1,lY FK] at hp;simp at hp)
   rw [if_pos hp] at DJ;have HE:=Hy DJ;clear DJ;rw [hp];go_wp2_with fail;have C9:=C4;refine (vC hO hX C9.out.at_ d Od hn (by have:=HO.out;rw [HE.out] at this;exact this)).mono ?_
   intro e Ou jB;have hR:RT X w ns v (gB X.e r d s1) e Ou:=kw C9.out jB;have HR:=Hy hR;rcases hR.form with ⟨i,rfl⟩|⟨ch,rfl⟩
   ·clear hR jB;go_wp2_with fail;go_ret;rw [<-HM.out,HE.out];exact HR
   ·clear hR jB;go_wp2_with fail;refine ae rfl ?_;rw [<-HM.out,HE.out];exact HR
  have Lt:(q t == [40])=false:=by simpa using hp
  rw [if_neg hp] at DJ;by_cases hi:q t=wIn
  ·have hi0:=hi;rw [if_pos hi] at DJ;have HE:=Hy DJ;clear DJ;rw [hi];unfold wIn;go_wp2_with fail;refine (Hz C4.out rfl wIn [40] [41] (by simp [wIn]) (by simp) (by simp)).mono ?_
   intro e w5 hR;rcases hR.cases with ⟨no,p,hm,rfl,hb⟩|⟨a5,s5,hm,rfl,hC,hK⟩
   ·have Ol:inB X.e s1=.er no p:=by
     simp only [inB];exact DT hm
    have HH:=Hy2 Ol hb;clear Ol hb hm;go_wp2_with fail;refine ae rfl ?_;rw [<-HM.out,HE.out,HH.1];exact ⟨rfl,HH.2⟩
   have UZ:=Hy (DR (f:=fun s=>bz ⟨8,(pk X.e s1).p,0,[],0,0⟩ .nil s) hm)
   have C5:=Hy hC;obtain ⟨Wp,SI,Wo,SH,SE⟩:=(T4.out.kept hK).blk.tok;clear hm hC hK hR;go_wp2_with fail;refine (ny C5.out ⟨8,t.p,0,[],0,0⟩).mono ?_;intro e Ng hR;have HR:=Hy hR;rcases hR.form with ⟨i,rfl⟩|⟨ch,rfl⟩
   ·clear hR;go_wp2_with fail;go_ret;rw [<-HM.out,HE.out];simp only [inB];rw [UZ.out,IL];exact HR
   ·clear hR;go_wp2_with fail;refine ae rfl ?_;rw [<-HM.out,HE.out];simp only [inB];rw [UZ.out,IL];exact HR
  ·have hi0:=hi;have hi1:(q t == [105,110])=false:=by simpa [wIn] using hi
   rw [if_neg hi] at DJ;have HE:=Hy DJ;clear DJ;go_wp2_with fail;refine (mJ C4.out 2).mono ?_;rintro e w5 ⟨rfl,hb⟩;have HB:=Hy hb;clear hb;go_wp2_with fail;refine ae rfl ?_;rw [<-HM.out,HE.out];exact ⟨by rw [IL];rfl,HB⟩
 ·have Pf:=hn;rw [if_pos hn] at DJ;have HE:=Hy DJ;clear DJ;go_wp2_with fail;have C9:=C3;refine (uw hA hL C9.out.at_ d Od (by have:=HO.out;rw [HE.out] at this;exact this)).mono ?_
  intro e Ou jB;have hR:RT X w ns v (mK X.e r d s1) e Ou:=kw C9.out jB;have HR:=Hy hR;rcases hR.form with ⟨i,rfl⟩|⟨ch,rfl⟩
  ·clear hR jB;go_wp2_with fail;go_ret;rw [<-HM.out,HE.out];exact HR
  ·clear hR jB;go_wp2_with fail;refine ae rfl ?_;rw [<-HM.out,HE.out];exact HR
end
section
open Go.RowKit
theorem Kw {X:Rdr}{w W:World}{v u:Value}{s:St}{ns:List NV}(h:Cur X w v W s ns u)(h1 h2:Hd)(k1 k2:Fo){c:Nat}:(W.alloc (.cells #[Iv (c+k1.size:Nat),Iv (c+(Fo.one h1 k1).size+k2.size:Nat)] tI)).ownsRow X.base tI 1 (Sl W.heap.size 2 2)
  (((Fo.one h1 k1).app (Fo.one h2 k2)).roots c).length (bU (((Fo.one h1 k1).app (Fo.one h2 k2)).roots c)):=by
 have e:((Fo.one h1 k1).app (Fo.one h2 k2)).roots c=[c+k1.size,c+(Fo.one h1 k1).size+k2.size]:=by rw [Fo.jB];rfl
 rw [e];exact World.ownsRow_lit (base:=X.base) (e:=tI) (size:=1) W #[Iv (c+k1.size:Nat),Iv (c+(Fo.one h1 k1).size+k2.size:Nat)] 2 h.at_.eu (by decide) rfl
theorem qc {w:World}{Zl NM:List NV}{x y:Fo}{c:Nat}(h1:Fl w Zl x c)(h2:Fl w NM y (c+x.size)):Fl w (Zl ++ NM) (x.app y) c:=
 ⟨by rw [List.map_append,h1.eq,h2.eq,Fo.Ey],fun z hz=>(List.mem_append.1 hz).elim (h1.new z) (h2.new z)⟩
theorem RT.cases {X:Rdr}{w:World}{v:Value}{s:St}{ns:List NV}(h0:At X w s ns v){R:Rs Fo}{e:Ending}{w':World}(h:RT X w ns v R e w') :
  (∃no p,R=.er no p/\e=.panicked [{v:=.iface tF (fQ no p),recovered:=false}]/\Below X.base w w')∨
  (∃hh k s' v' nk,R=.ok (Fo.one hh k) s'/\e=.returned (Iv (ns.length+k.size:Nat))/\Cur X w v w' s' (ns ++ nk) v'/\Fl w nk (Fo.one hh k) ns.length):=by
 cases R with
 |ok a s'=>obtain ⟨v',nk,h',k,rfl,h2,h3,h4,h5⟩:=h;exact .inr ⟨h',k,s',v',nk,rfl,h2,⟨h3,h4,h4.below h0⟩,h5⟩
 |er no p=>exact .inl ⟨no,p,rfl,h⟩
 |out=>exact h.elim
theorem zo {X:Rdr}(n:Nat)(hO:KOp X (run X.e n))(hB:∀j,j<n->KBn X (run X.e j)){w:World}{s:St}{ns:List NV}{v:Value}(h:At X w s ns v)(d l:Nat)(hd:d<=100)(hl1:1<=l)(OE:l<=11)
  (hno:vR (run X.e n) d l s≠.out):Calls prog 163 #[rd X,Iv d,Iv l] w (RT X w ns v (vR (run X.e n) d l s)):=by
 have hC:=Cur.start h;obtain ⟨M,hM⟩:=zN (vR (run X.e n) d l s);rw [hM];have HM:=Hy hM;have HO:=Hy hno;have C0:=Hy hC;clear hM h hC hno;have QV:run X.e n (.opd d) s≠.out:=dD HO;go_enter func163,ntmps163;go_wp2_with fail;refine (hO d w s ns v hd C0.out.at_ QV).mono ?_;intro e w1 jB;have hR:=C0.out.rd jB;rcases hR.cases with ⟨no,p,hm,rfl,hb⟩|⟨h1,k1,s1,v1,Zl,hm,rfl,hC,hK,hF⟩
 ·have HE:vR (run X.e n) d l s=.er no p:=by simp only [vR,hm,Rs.aB]
  have HH:=Hy2 HE hb;clear HE hb hm;go_wp2_with fail;refine ae rfl ?_;rw [<-HM.out,HH.1];exact ⟨rfl,HH.2⟩
 have Kk:run X.e n (.loop d l (Fo.one h1 k1)) s1=M:=by rw [<-HM.out];simp only [vR,hm,Rs.bind_ok]
 have hMo:M≠.out:=by rw [<-HM.out];exact HO
 have PN:=Hy hMo;have RJ:=Hy Kk;have C1:=Hy hC;have F1:=Hy hF;clear hm hC hK hR jB hF Kk QV hMo;go_wp2_with fail;go_loopg [7] n (fun g s7 wx=>∃(hh:Hd) (kk:Fo) (s':St) (nk:List NV) (u:Value),g<=n/\s7=Iv (ns.length+kk.size:Nat)/\Cur X w v wx s' (ns ++ nk) u/\Fl w nk (Fo.one hh kk) ns.length/\run X.e g (.loop d l (Fo.one hh kk)) s'=M)
 case atStart=>exact ⟨h1,k1,s1,Zl,v1,Nat.le_refl _,rfl,C1.out,F1.out,RJ⟩
 case round=>
  obtain ⟨hh,kk,s',nk,u,hg,rfl,hC,hF,Kk⟩:=hrel;cases gk with
  |zero=>exact absurd Kk.symm PN
  |succ j=>
  have DJ:l6 X.e (run X.e j) d l (Fo.one hh kk) s'=M:=Kk;have Lx:=Hy DJ;have C2:=Hy hC;have F2:=Hy hF;clear Kk DJ hC hF;go_wp2_with fail;refine (jS C2.out).mono ?_;rintro e w3 ⟨rfl,hC,hK⟩;have C3:=Hy hC;clear hC hK;go_wp2_with fail;refine (kQ C3.out _).mono ?_;rintro e w4 ⟨rfl,hC,hK⟩;have C4:=Hy hC;clear hC hK;go_wp2_with fail;refine (BD _ (q (pk X.e s')) (fw _) w4).mono ?_;rintro e w5 ⟨rfl,rfl⟩;have hL:=yL (q (pk X.e s'));have aD:1<=lvl (q (pk X.e s'))->s'.l≠[]:=fun h1 e=>by
   simp only [pk,e,List.headD_nil,lY C4.out.at_.fin] at h1;simp [lvl] at h1
  have N9:l6 X.e (run X.e j) d l (Fo.one hh kk) s'=if lvl (q (pk X.e s'))<l then .ok (Fo.one hh kk) s' else (run X.e j (.bin d (lvl (q (pk X.e s'))+1)) s'.nx).bind fun b s1=>(bz ⟨5,(pk X.e s').p,0,(pk X.e s').s,0,0⟩ ((Fo.one hh kk).app b) s1).bind fun x s1=>run X.e j (.loop d l x) s1:=rfl
  generalize IL:pk X.e s'=t at *;generalize hT:lvl (q t)=T at *;by_cases hlt:T<l
  ·have hlt':(T:Int)< (l:Int):=by omega
   rw [if_pos hlt] at N9;have HE:=Hy N9;clear N9;go_wp2_with fail;go_ret;rw [<-Lx.out,HE.out];exact ⟨u,nk,hh,kk,rfl,rfl,C4.out.at_,C4.out.kp,F2.out⟩
  ·have hlt':¬ (T:Int)< (l:Int):=by omega
   rw [if_neg hlt] at N9;have hn:=aD (by omega)
   have iA:run X.e j (.bin d (T+1)) s'.nx≠.out:=by
    have h1:=PN.out;rw [<-Lx.out,N9] at h1;exact dD h1
   have HE:=Hy N9;have HTP:Hid (((T:Int)+1)=((T+1:Nat):Int)):=Hy (by simp)
   clear N9 aD;go_wp2_with fail;refine (gQ C4.out hn).mono ?_;rintro e w6 ⟨rfl,hC,hK⟩;have C6:=Hy hC;have T6:=Hy (hC.new tE (fJ t));clear hC hK;rw [IL,aP];go_wp2_with fail;rw [HTP.out];refine (hB j (by omega) d (T+1) _ s'.nx (ns ++ nk) u hd (by omega) (by omega) (C6.out.alloc (.cells (fJ t) tE)).at_ iA).mono ?_
   intro e w7 jB;have hR:=(C6.out.alloc (.cells (fJ t) tE)).rd jB;rcases hR.cases with ⟨no,p,hm,rfl,hb⟩|⟨h2,k2,s2,v2,NM,hm,rfl,hC,hK,hF⟩
   ·have HH:=Hy2 hm hb;clear hm hb hR jB;go_wp2_with fail;refine ae rfl ?_;rw [<-Lx.out,HE.out,HH.1];exact ⟨rfl,HH.2⟩
   have E7:=Hy hm;have C7:=Hy hC;have ZF:Fl w (nk ++ NM) ((Fo.one hh kk).app (Fo.one h2 k2)) ns.length:=qc F2.out (by rw [List.length_append,bS F2.out] at hF;exact hF)
   have F7:=Hy ZF;obtain ⟨Wp,SI,Wo,SH,SE⟩:=(T6.out.kept hK).blk.tok;have mf:(ns ++ nk).length=ns.length+(Fo.one hh kk).size:=by rw [List.length_append,bS F2.out]
   rw [mf];clear hm hC hK hR jB hF ZF iA;go_wp2_with fail;refine (iD (nk:=nk ++ NM) (by rw [<-List.append_assoc];exact C7.out.alloc _) ⟨5,t.p,0,t.s,0,0⟩ ((Fo.one hh kk).app (Fo.one h2 k2)) F7.out (fr1 C7.out) (Kw C7.out hh h2 kk k2)).mono ?_
   intro e w8 hR;rcases hR.cases C0.out.at_ with ⟨no,p,hm,rfl,hb⟩|⟨h3,k3,s3,v3,nk3,hm,rfl,hC,hF⟩
   ·have HH:=Hy2 hm hb;clear hm hb hR;go_wp2_with fail;refine ae rfl ?_;rw [<-Lx.out,HE.out,E7.out];simp only [Rs.bind_ok];rw [HH.1];exact ⟨rfl,HH.2⟩
   have HX:=Hy3 hC hF (show run X.e j (.loop d l (Fo.one h3 k3)) s3=M by rw [<-Lx.out,HE.out,E7.out];simp only [Rs.bind_ok];rw [hm];simp only [Rs.bind_ok])
   clear hm hC hF hR;go_wp2_with fail;go_roundg j
   case measure=>omega
   case rel=>exact ⟨h3,k3,s3,nk3,v3,by omega,rfl,HX.1,HX.2.1,HX.2.2⟩
end
section
open Go.RowKit
structure Acc (X:Rdr) (w W:World) (ns:List NV) (g n cp:Nat) (l:List Nat):Prop where
 row:W.ownsRow X.base tI 1 (Sl g n cp) l.length (bU l)
 new:w.heap.size<=g
 apart:∀x∈ns,x.v.ownBlock≠some g
theorem Acc.len {X:Rdr}{w W:World}{ns:List NV}{g n cp:Nat}{l:List Nat}(h:Acc X w W ns g n cp l):n=l.length:=by
 rcases h.row.2 with ⟨hv,_⟩|⟨g',cap,cur,hv,_⟩
 ·cases hv
 ·simp at hv;exact hv.2.1
theorem Acc.lt {X:Rdr}{w W:World}{ns:List NV}{g n cp:Nat}{l:List Nat}(h:Acc X w W ns g n cp l):X.base<=g/\g<W.heap.size:=h.row.lt g rfl
theorem Acc.blk {X:Rdr}{w W:World}{ns:List NV}{g n cp:Nat}{l:List Nat}(h:Acc X w W ns g n cp l):∃cs,W.heap[g]? =some (.cells cs tI (0,0)):=by
 rcases h.row.2 with ⟨hv,_⟩|⟨g',cap,cur,hv,_,hb,_⟩
 ·cases hv
 ·simp at hv;exact ⟨cur,by rw [hv.1];exact hb⟩
theorem At.grown {X:Rdr}{W w':World}{s:St}{ns:List NV}{u:Value}{g:Nat}{cs:Array Value}{row:Option Nat}(h:At X W s ns u)(hr:row=none∨row=some g)(hb:W.heap[g]? =some (.cells cs tI (0,0)))(mF:X.base<=g)(ha:∀x∈ns,x.v.ownBlock≠some g)
  (hg:W.grownBy w' row):At X w' s ns u:=by
 have hk:∀i,i<W.heap.size->i≠g->w'.heap[i]? =W.heap[i]?:=fun i hi aD=>hg.block i hi (fun e=>by rcases hr with hr|hr <;> rw [hr] at e <;> cases e;exact aD rfl)
 have h1:=h.hb;have h2:=h.blk.lt;exact {
  blk:=(hk _ h.blk.lt (fun e=>by have h3:=h.blk;unfold Blk at h3;rw [e,hb] at h3;cases h3)).trans h.blk
  suf:=h.suf
  len:=h.len
  toks:=h.toks.keep fun i o hi=>World.cell?_of_block (a:=Ad i o) (hk i (by omega) (by omega))
  txt:=h.txt
  fin:=h.fin
  cnt:=h.cnt
  max:=h.max
  rows:=aJ h.rows fun i hi=>hk i (h.rows.lt i hi).2 fun e=>by
   rcases h.rows.2 with ⟨hv,_⟩|⟨g',cap,cur,hv,_,Kq,_⟩
   ·rw [hv] at hi;simp [Value.ownBlock] at hi
   ·rw [hv] at hi;simp [Value.ownBlock] at hi;rw [hi,e,hb] at Kq;cases Kq
  kids:=fun x hx=>aJ (h.kids x hx) fun i hi=>hk i ((h.kids x hx).lt i hi).2 fun e=>ha x hx (by rw [hi,e])
  hb:=h.hb
  env:=h.env.same (hk _ h.env.szY (by have:=h.szE;omega)) hg.size
  szE:=h.szE
  mph:=(hk _ (Array.getElem?_eq_some_iff.1 h.mph).1 (fun e=>by
   have h3:=h.mph;rw [e,hb] at h3;have h4:=h.mpc;rw [<-Option.some.inj h3] at h4;simp [Obj.isCells] at h4)).trans h.mph
  mpc:=h.mpc}
theorem Acc.push {X:Rdr}{w W w1:World}{v u:Value}{s:St}{ns:List NV}{g n cp g1 PM:Nat}{l:List Nat}{x:Nat}(h:Acc X w W ns g n cp l)(hC:Cur X w v W s ns u){o:Obj}
  (hr:w1.ownsRow X.base tI 1 (Sl g1 (n+1) PM) (n+1) (bU l ++ [Iv (x:Nat)])) (hg:(W.alloc o).grownBy w1 (some g)) (kH:some g=some g1∨g1=W.heap.size+1) :
  Cur X w v w1 s ns u/\Acc X w w1 ns g1 (n+1) PM (l ++ [x]):=by
 obtain ⟨cs,hb⟩:=h.blk;have av:(W.alloc o).heap[g]? =some (.cells cs tI (0,0)):=(heap_alloc_old _ _ (h:=h.lt.2)).trans hb;have hA:=(hC.alloc o).at_.grown (.inr rfl) av h.lt.1 h.apart hg;have Qi:Below w.heap.size (W.alloc o) w1:=⟨hg.os,hg.tape,hg.output,hg.size,fun k hk=>hg.block k (zT hk (hC.alloc o).kp.size) (fun e=>by cases e;have:=h.new;omega)⟩
 refine ⟨⟨hA,(hC.alloc o).kp.down Qi,(hC.alloc o).low.trans ⟨hg.os,hg.tape,hg.output,hg.size,fun k hk=>hg.block k (by have:=(hC.alloc o).at_.eu;omega) (fun e=>by cases e;have:=h.lt.1;omega)⟩⟩,⟨?_,?_,?_⟩⟩
 ·have hl:=h.len;have e1:bU (l ++ [x])=bU l ++ [Iv (x:Nat)]:=by simp [bU]
  rw [e1,List.length_append,<-hl];exact hr
 ·rcases kH with e|e
  ·cases e;exact h.new
  ·have:=hC.kp.size;omega
 ·intro y hy e;rcases kH with e1|e1
  ·cases e1;exact h.apart y hy e
  ·have:=((hC.at_.kids y hy).lt g1 e).2;omega
theorem Acc.kept {X:Rdr}{w W W':World}{u u':Value}{s:St}{ns nk:List NV}{g n cp c:Nat}{l:List Nat}{a:Fo}(h:Acc X w W ns g n cp l)(hA:At X W s ns u)(hk:Kp X W u W' u')(hF:Fl W nk a c):Acc X w W' (ns ++ nk) g n cp l:=
 ⟨gH hA h.row hk,h.new,fun x hx e=>(List.mem_append.1 hx).elim (fun hx=>h.apart x hx e) fun hx=>by have:=hF.new x hx g e;have:=h.lt.2;omega⟩
theorem Acc.go {X:Rdr}{w W W':World}{ns:List NV}{g n cp:Nat}{l:List Nat}(h:Acc X w W ns g n cp l)(hb:Zw W W'):Acc X w W' ns g n cp l:=
 ⟨aJ h.row fun i hi=>hb.block _ (h.row.lt i hi).2,h.new,h.apart⟩
theorem Loc.grown {X:Rdr}{W W':World}{u:Value}{j g:Nat}{t:TypeId}{cs:Array Value}(h:Loc X W u j t cs)(hg:W.grownBy W' (some g))(aD:j≠g):Loc X W' u j t cs:=
 ⟨(hg.block j h.blk.lt (fun e=>by cases e;exact aD rfl)).trans h.blk,h.neb,h.neo,h.base⟩
theorem Acc.af {X:Rdr}{w W:World}{ns:List NV}{g n cp:Nat}{l:List Nat}(h:Acc X w W ns g n cp l){j:Nat}(aD:g≠j)(o:Nat)(x:Value):Acc X w (W.setCell (Ad j o) x) ns g n cp l:=
 ⟨aJ h.row fun i hi=>Below.heap_setCell W _ _ i (by simp [Value.ownBlock] at hi;simp;omega),h.new,h.apart⟩
theorem Acc.one {X:Rdr}{w W:World}{v u:Value}{s:St}{ns:List NV}(h:Cur X w v W s ns u)(x:Nat):Acc X w (W.alloc (.cells #[Iv (x:Nat)] tI)) ns W.heap.size 1 1 [x]:=
 ⟨World.ownsRow_lit (base:=X.base) (e:=tI) (size:=1) W #[Iv (x:Nat)] 1 h.at_.eu (by decide) rfl,h.kp.size,fun y hy e=>by have:=((h.at_.kids y hy).lt _ e).2;omega⟩
theorem Fo.iY (a:Fo):a.len<=a.size:=by
 induction a with
 |nil=>simp [Fo.len,Fo.size]
 |cons h k r _ ih=>simp only [Fo.len,Fo.size];omega
theorem Eh:(prog.info? tI).map (fun i=>(i.zero,i.size,i.bytes))=some (some (Iv 0),1,8):=by kernel_rfl
def nN (e:Tok) (k d:Nat) (s:St):Rs Fo:=if isT e [44] s then run e k (.args d) s.nx else .ok .nil s
theorem si {e:Tok}{k d:Nat}{s:St}:kT e (run e k) d s=(run e k (.bin d 1) s).bind fun a s=>(nN e k d s).bind fun b s=>.ok (a.app b) s:=by
 unfold kT
 congr 1
 funext a s1
 unfold nN;split
 ·rfl
 ·simp only [Rs.bind_ok,Fo.vS]
theorem Rs.bind_assoc {α β γ:Type}(r:Rs α)(f:α->St->Rs β)(g:β->St->Rs γ):(r.bind f).bind g=r.bind fun a s=>(f a s).bind g:=by cases r <;> rfl
theorem Cur.rt2 {X:Rdr}{w W:World}{v u:Value}{s:St}{ns:List NV}{R:Rs Fo}{e:Ending}{w':World}(h:Cur X w v W s ns u)(hr:RT X W ns u R e w') :
  (∃no p,R=.er no p/\e=.panicked [{v:=.iface tF (fQ no p),recovered:=false}]/\Below X.base w w')∨
  (∃hh k s' v' nk,R=.ok (Fo.one hh k) s'/\e=.returned (Iv (ns.length+k.size:Nat))/\Cur X w v w' s' (ns ++ nk) v'/\Kp X W u w' v'/\Fl W nk (Fo.one hh k) ns.length):=by
 cases R with
 |ok a s'=>obtain ⟨v',nk,h',k,rfl,h2,h3,h4,h5⟩:=hr;exact .inr ⟨h',k,s',v',nk,rfl,h2,h.step h3 h4,h4,h5⟩
 |er no p=>exact .inl ⟨no,p,rfl,hr.1,h.low.trans hr.2⟩
 |out=>exact hr.elim
theorem sJ {X:Rdr}(n:Nat)(hE:∀j,j<=n->KEx X (run X.e j)){w:World}{s:St}{ns:List NV}{v:Value}(h:At X w s ns v)(d:Nat)(hd:d<=100)
  (hno:kT X.e (run X.e n) d s≠.out):Calls prog 195 #[rd X,Iv d] w (RA X w ns v (kT X.e (run X.e n) d s)):=by
 have hC:=Cur.start h;obtain ⟨i0,hi,vQ,sI,ru⟩:=info_parts Eh;obtain ⟨M,hM⟩:=zN (kT X.e (run X.e n) d s);rw [hM];rw [si] at hM hno;have HM:=Hy hM;have PN:Hid (M≠.out):=Hy (by rw [<-hM];exact hno)
 have C0:=Hy hC;have QV:=dD hno;clear hM h hC hno;go_enter func195,ntmps195;go_wp2_with fail;refine (hE n (zL _) d w s ns v hd C0.out.at_ QV).mono ?_;intro e w1 jB;have hR:=C0.out.rd jB;rcases hR.cases with ⟨no,p,hm,rfl,hb⟩|⟨h1,k1,s1,v1,Zl,hm,rfl,hC,hK,hF⟩
 ·have HE:M=.er no p:=by rw [<-HM.out,hm];rfl
  have HH:=Hy2 HE hb;clear HE hb hm;go_wp2_with fail;refine ae rfl ?_;rw [HH.1];exact ⟨rfl,HH.2⟩
 have Kk:M=(nN X.e n d s1).bind fun b s=>.ok ((Fo.one h1 k1).app b) s:=by rw [<-HM.out,hm];rfl
 have C1:=Hy hC;have F1:=Hy hF;have RJ:=Hy Kk;have JG:(Fo.one h1 k1).roots ns.length=[ns.length+k1.size]:=rfl;have A1:=Hy (Acc.one hC (ns.length+k1.size));clear hm hC hK hR jB hF Kk QV;go_wp2_with fail;go_loopg [5] n (fun g s5 wx=>∃(a:Fo) (s':St) (nk:List NV) (u:Value) (b m cp:Nat),g<=n/\s5=Sl b m cp/\m<=4000/\Cur X w v wx s' (ns ++ nk) u/\Fl w nk a ns.length/\Acc X w wx (ns ++ nk) b m cp (a.roots ns.length)/\M=(nN X.e g d s').bind fun b s=>.ok (a.app b) s)
 case atStart=>exact ⟨Fo.one h1 k1,s1,Zl,v1,w1.heap.size,1,1,Nat.le_refl _,rfl,by omega,C1.out.alloc _,F1.out,A1.out,RJ⟩
 case round=>
  obtain ⟨a,s',nk,u,b,m,cp,hg,rfl,hm4,hC,hF,hA,Kk⟩:=hrel;have C2:=Hy hC;have F2:=Hy hF;have A2:=Hy hA;clear hC hF hA;go_wp2_with fail;refine (oN C2.out [44] (by simp)).mono ?_
  rintro e w3 ⟨rfl,hC,hK⟩;have C3:=Hy hC;have A3:=Hy (by have:=A2.out.kept (nk:=[]) C2.out.at_ hK (Fl.nil _ 0);rwa [List.append_nil] at this:Acc X w w3 (ns ++ nk) b m cp (a.roots ns.length))
  clear hC hK;cases hq:isT X.e [44] s'
  ·have UK:M=.ok a s':=by rw [Kk];simp only [nN,hq,Bool.false_eq_true,if_false,Rs.bind_ok,Fo.vS]
   have ha:acc X.e [44] s'=s':=by simp [acc,hq]
   rw [ha] at C3;have HE:=Hy UK;clear UK Kk ha;go_wp2_with fail;go_ret;rw [HE.out];exact ⟨u,nk,b,m,cp,rfl,C3.out.at_,C3.out.kp,F2.out,A3.out.row,A3.out.new,A3.out.apart⟩
  ·have ha:acc X.e [44] s'=s'.nx:=by simp [acc,hq]
   rw [ha] at C3;cases gk with
   |zero=>exact absurd (Kk.trans (by simp only [nN,hq,if_true];rfl)) PN
   |succ j=>
   have DJ:M=((run X.e j (.bin d 1) s'.nx).bind fun a2 s2=>(nN X.e j d s2).bind fun b s=>.ok ((a.app a2).app b) s):=by
    rw [Kk];simp only [nN,hq,if_true];show ((kT X.e (run X.e j) d s'.nx).bind _)=_;rw [si,Rs.bind_assoc]
    congr 1
    funext a2 s2
    rw [Rs.bind_assoc]
    congr 1
    funext b2 s3
    simp only [Rs.bind_ok,Fo.ut]
   have iA:run X.e j (.bin d 1) s'.nx≠.out:=dD (by rw [<-DJ];exact PN)
   have Lx:=Hy DJ;clear Kk DJ ha;go_wp2_with fail;refine (hE j (by omega) d w3 s'.nx (ns ++ nk) u hd C3.out.at_ iA).mono ?_
   intro e w4 jB;rcases C3.out.rt2 jB with ⟨no,p,hm,rfl,hb⟩|⟨h2,k2,s2,v2,NM,hm,rfl,hC,hK,hF⟩
   ·have HE:M=.er no p:=by rw [Lx.out,hm];rfl
    have HH:=Hy2 HE hb;clear HE hb hm;go_wp2_with fail;refine ae rfl ?_;rw [HH.1];exact ⟨rfl,HH.2⟩
   have mf:(ns ++ nk).length=ns.length+a.size:=by rw [List.length_append,bS F2.out]
   rw [mf] at hF |-;have hA4:=A3.out.kept C3.out.at_ hK hF;have TR:=hA4.row.alloc (.cells #[Iv (ns.length+a.size+k2.size:Nat)] tI);rw [<-hA4.len] at TR;have JG:(a.app (Fo.one h2 k2)).roots ns.length=a.roots ns.length ++ [ns.length+a.size+k2.size]:=by rw [Fo.jB];rfl
   have sQ:=hC.at_.max;have hcn:=hC.at_.cnt;have HX:=Hy4 hC hA4 (qc F2.out (hF.old C3.out.kp.size)) (show M=(nN X.e j d s2).bind fun b s=>.ok ((a.app (Fo.one h2 k2)).app b) s by rw [Lx.out,hm];rfl)
   have GZ:m+1<=4000:=by
    have h1:=hA4.len;rw [Fo.dK] at h1;have h3:=Fo.iY a;rw [List.length_append,mf] at hcn;have h4:=bS hF;have h5:(Fo.one h2 k2).size=k2.size+1:=by simp [Fo.one,Fo.size]
    omega
   have mF:=hC.at_.eu;have Rc:=Hy TR;have wJ:∀j u,[Iv (ns.length+a.size+k2.size:Nat)][j]? =some u->(w4.alloc (.cells #[Iv (ns.length+a.size+k2.size:Nat)] tI)).cell? (((Ad w4.heap.size 0):Addr).add j)=some u:=
    World.news_of_block (cs:=#[Iv (ns.length+a.size+k2.size:Nat)]) (heap_alloc_new w4 _)
   have HN:=Hy wJ;have HRT:=Hy JG;clear hm hC hK hF jB iA hA4 TR sQ hcn mf wJ JG;go_wp2_with (at_builtin;refine wpList_append_lies _ rfl _ _ 40 rfl X.base tI i0 _ 1 8 underlying40 hi vQ sI ru rfl (by decide) _ m _ rfl Rc (Ad w4.heap.size 0) 1 1 [Iv (ns.length+a.size+k2.size:Nat)] rfl rfl HN (by simp [Value.oneCell']) (by decide) (by unfold maxLen;omega) (by omega) (by simp;omega) (w4.heap.size+1) (by simp) ?_;intro g1 PM w5 TT Qk Pi hlt5;have hp:=HX.2.1.push HX.1 TT Qk Pi;rw [<-HRT.out] at hp;have HP:=Hy hp;clear hp TT Qk Pi)
   go_roundg j
   case measure=>omega
   case rel=>exact ⟨a.app (Fo.one h2 k2),s2,nk ++ NM,v2,g1,m+1,PM,by omega,rfl,GZ,by rw [<-List.append_assoc];exact HP.1,HX.2.2.1,by rw [<-List.append_assoc];exact HP.2,HX.2.2.2⟩
end
section
open Go.RowKit
theorem rQ (t:Tok)(w:World):(Instr.field tE (.agg #[Iv t.k,Iv t.p,Iv t.n,Ss t.s]) 3).run prog w=.ok (Ss t.s) w:=by
 kernel_rfl
theorem jL {e:Tok}{x y:List UInt8}{s s':St}{a:Unit}{α:Type}{f:St->Rs α}(h:((must e x s).bind fun _ s=>must e y s)=.ok a s') :
  ((must e x s).bind fun _ s'=>(must e y s').bind fun _ s'=>f s')=f s':=by
 cases h1:must e x s with
 |ok a s1=>rw [h1] at h;simp only [Rs.bind] at h |-;rw [h]
 |er _ _=>rw [h1] at h;cases h
 |out=>rw [h1] at h;cases h
theorem aR {e:Tok}{x y:List UInt8}{s:St}{no p:Int}{α:Type}{f:St->Rs α}(h:((must e x s).bind fun _ s=>must e y s)=.er no p) :
  ((must e x s).bind fun _ s'=>(must e y s').bind fun _ s'=>f s')=.er no p:=by
 cases h1:must e x s with
 |ok a s1=>rw [h1] at h;simp only [Rs.bind] at h |-;rw [h]
 |er _ _=>rw [h1] at h;cases h;rfl
 |out=>rw [h1] at h;cases h
theorem yg {X:Rdr}{r:Md->St->Rs Fo}(hX:KEx X r){w:World}{s:St}{ns:List NV}{v:Value}(h:At X w s ns v)(d:Nat)(hd:d<=40)(hno:cu X.e r d s≠.out) :
  Calls prog 181 #[rd X,Iv d] w (RA X w ns v (cu X.e r d s)):=by
 have hC:=Cur.start h;obtain ⟨M,hM⟩:=zN (cu X.e r d s);rw [hM];have HM:=Hy hM;have HO:=Hy hno;have C0:=Hy hC;clear hM h hC hno;have Ky:Hid (((d:Int)+1)=((d+1:Nat):Int)):=Hy (by simp)
 go_enter func181,ntmps181;go_wp2_with fail;refine (bI C0.out rfl [91] (by simp)).mono ?_
 intro e w1 hR;rcases hR.cases with ⟨no,p,hm,rfl,hb⟩|⟨a1,s1,hm,rfl,hC,hK⟩
 ·have HE:cu X.e r d s=.er no p:=by first|(simp only [cu,hm,zR];done)|(simp only [cu,aR hm,zR])
  have HH:=Hy2 HE hb;clear HE hb hm;go_wp2_with fail;refine ae rfl ?_;rw [<-HM.out,HH.1];exact ⟨rfl,HH.2⟩
 have E1:=Hy hm;have C1:=Hy hC;clear hm hC hK hR;have iA:r (.bin (d+1) 1) s1≠.out:=by
  have:=HO.out;simp only [cu,E1.out,zR] at this;exact dD this
 go_wp2_with fail;rw [Ky.out];refine (hX (d+1) w1 s1 ns v (by omega) C1.out.at_ iA).mono ?_
 intro e w2 jB;have hR:=(C1.out).rd jB;rcases hR.cases with ⟨no,p,hm,rfl,hb⟩|⟨h2,k2,s2,v2,NM,hm,rfl,hC,hK,hF⟩
 ·have HE:cu X.e r d s=.er no p:=by first|(simp only [cu,E1.out,hm,zR];done)|(simp only [cu,E1.out,aR hm,zR])
  have HH:=Hy2 HE hb;clear HE hb hm;go_wp2_with fail;refine ae rfl ?_;rw [<-HM.out,HH.1];exact ⟨rfl,HH.2⟩
 have E2:=Hy hm;have C2:=Hy hC;have F2:=Hy hF;clear hm hC hK hR jB hF;have J3:(ns ++ NM).length=ns.length+(Fo.one h2 k2).size:=by rw [List.length_append,bS F2.out]
 go_wp2_with fail;refine (Aw C2.out rfl [93] [61] (by simp) (by simp)).mono ?_
 intro e w3 hR;rcases hR.cases with ⟨no,p,hm,rfl,hb⟩|⟨a3,s3,hm,rfl,hC,hK⟩
 ·have HE:cu X.e r d s=.er no p:=by first|(simp only [cu,E1.out,E2.out,hm,zR];done)|(simp only [cu,E1.out,E2.out,aR hm,zR])
  have HH:=Hy2 HE hb;clear HE hb hm;go_wp2_with fail;refine ae rfl ?_;rw [<-HM.out,HH.1];exact ⟨rfl,HH.2⟩
 have E3:=Hy hm;have C3:=Hy hC;clear hm hC hK hR;have Pe:r (.bin (d+1) 1) s3≠.out:=by
  have:=HO.out;simp only [cu,E1.out,E2.out,jL E3.out,zR] at this;exact dD this
 go_wp2_with fail;rw [Ky.out];refine (hX (d+1) w3 s3 (ns ++ NM) v2 (by omega) C3.out.at_ Pe).mono ?_
 intro e w4 jB;have hR:=(C3.out).rd jB;rcases hR.cases with ⟨no,p,hm,rfl,hb⟩|⟨h4,k4,s4,v4,Zk,hm,rfl,hC,hK,hF⟩
 ·have HE:cu X.e r d s=.er no p:=by first|(simp only [cu,E1.out,E2.out,jL E3.out,hm,zR];done)|(simp only [cu,E1.out,E2.out,jL E3.out,aR hm,zR])
  have HH:=Hy2 HE hb;clear HE hb hm;go_wp2_with fail;refine ae rfl ?_;rw [<-HM.out,HH.1];exact ⟨rfl,HH.2⟩
 have E4:=Hy hm;have C4:=Hy hC;have F4:=Hy hF;clear hm hC hK hR jB hF;have Qq:=F4.out;rw [J3] at Qq;have FF:=Hy (qc F2.out Qq);rw [J3];go_wp2_with fail;refine (bI C4.out rfl [59] (by simp)).mono ?_
 intro e w5 hR;rcases hR.cases with ⟨no,p,hm,rfl,hb⟩|⟨a5,s5,hm,rfl,hC,hK⟩
 ·have HE:cu X.e r d s=.er no p:=by first|(simp only [cu,E1.out,E2.out,jL E3.out,E4.out,hm,zR];done)|(simp only [cu,E1.out,E2.out,jL E3.out,E4.out,aR hm,zR])
  have HH:=Hy2 HE hb;clear HE hb hm;go_wp2_with fail;refine ae rfl ?_;rw [<-HM.out,HH.1];exact ⟨rfl,HH.2⟩
 have E5:=Hy hm;have C5:=Hy hC;clear hm hC hK hR;have HE:cu X.e r d s=.ok ((Fo.one h2 k2).app (Fo.one h4 k4)) s5:=by simp only [cu,E1.out,E2.out,jL E3.out,E4.out,E5.out,zR]
 have HE:=Hy HE;go_wp2_with fail;go_ret;rw [<-HM.out,HE.out];exact ⟨v4,NM ++ Zk,w5.heap.size,2,2,rfl,by rw [<-List.append_assoc];exact (C5.out.alloc _).at_,(C5.out.alloc _).kp,FF.out,Kw C5.out h2 h4 k2 k4,C5.out.kp.size,by rw [<-List.append_assoc];exact fun y hy e=>Nat.lt_irrefl _ ((C5.out.at_.kids y hy).lt _ e).2⟩
theorem qa {X:Rdr}{r:Md->St->Rs Fo}(hX:KEx X r)(hS:KSt X r){w:World}{s:St}{ns:List NV}{v:Value}(h:At X w s ns v)(d:Nat)(hd:d<=40)(hno:cO X.e r d s≠.out) :
  Calls prog 146 #[rd X,Iv d] w (RA X w ns v (cO X.e r d s)):=by
 have hC:=Cur.start h;obtain ⟨M,hM⟩:=zN (cO X.e r d s);rw [hM];have HM:=Hy hM;have HO:=Hy hno;have C0:=Hy hC;clear hM h hC hno;have Ky:Hid (((d:Int)+1)=((d+1:Nat):Int)):=Hy (by simp)
 go_enter func146,ntmps146;go_wp2_with fail;refine (bI C0.out rfl [40] (by simp)).mono ?_
 intro e w1 hR;rcases hR.cases with ⟨no,p,hm,rfl,hb⟩|⟨a1,s1,hm,rfl,hC,hK⟩
 ·have HE:cO X.e r d s=.er no p:=by first|(simp only [cO,hm,zR];done)|(simp only [cO,aR hm,zR])
  have HH:=Hy2 HE hb;clear HE hb hm;go_wp2_with fail;refine ae rfl ?_;rw [<-HM.out,HH.1];exact ⟨rfl,HH.2⟩
 have E1:=Hy hm;have C1:=Hy hC;clear hm hC hK hR;have iA:r (.bin (d+1) 1) s1≠.out:=by
  have:=HO.out;simp only [cO,E1.out,zR] at this;exact dD this
 go_wp2_with fail;rw [Ky.out];refine (hX (d+1) w1 s1 ns v (by omega) C1.out.at_ iA).mono ?_
 intro e w2 jB;have hR:=(C1.out).rd jB;rcases hR.cases with ⟨no,p,hm,rfl,hb⟩|⟨h2,k2,s2,v2,NM,hm,rfl,hC,hK,hF⟩
 ·have HE:cO X.e r d s=.er no p:=by first|(simp only [cO,E1.out,hm,zR];done)|(simp only [cO,E1.out,aR hm,zR])
  have HH:=Hy2 HE hb;clear HE hb hm;go_wp2_with fail;refine ae rfl ?_;rw [<-HM.out,HH.1];exact ⟨rfl,HH.2⟩
 have E2:=Hy hm;have C2:=Hy hC;have F2:=Hy hF;clear hm hC hK hR jB hF;have J3:(ns ++ NM).length=ns.length+(Fo.one h2 k2).size:=by rw [List.length_append,bS F2.out]
 go_wp2_with fail;refine (bI C2.out rfl [41] (by simp)).mono ?_
 intro e w3 hR;rcases hR.cases with ⟨no,p,hm,rfl,hb⟩|⟨a3,s3,hm,rfl,hC,hK⟩
 ·have HE:cO X.e r d s=.er no p:=by first|(simp only [cO,E1.out,E2.out,hm,zR];done)|(simp only [cO,E1.out,E2.out,aR hm,zR])
  have HH:=Hy2 HE hb;clear HE hb hm;go_wp2_with fail;refine ae rfl ?_;rw [<-HM.out,HH.1];exact ⟨rfl,HH.2⟩
 have E3:=Hy hm;have C3:=Hy hC;clear hm hC hK hR;have Pe:r (.stm (d+1)) s3≠.out:=by
  have:=HO.out;simp only [cO,E1.out,E2.out,E3.out,zR] at this;exact dD this
 go_wp2_with fail;rw [Ky.out];refine (hS (d+1) w3 s3 (ns ++ NM) v2 (by omega) C3.out.at_ Pe).mono ?_
 intro e w4 jB;have hR:=(C3.out).rd jB;rcases hR.cases with ⟨no,p,hm,rfl,hb⟩|⟨h4,k4,s4,v4,Zk,hm,rfl,hC,hK,hF⟩
 ·have HE:cO X.e r d s=.er no p:=by first|(simp only [cO,E1.out,E2.out,E3.out,hm,zR];done)|(simp only [cO,E1.out,E2.out,E3.out,aR hm,zR])
  have HH:=Hy2 HE hb;clear HE hb hm;go_wp2_with fail;refine ae rfl ?_;rw [<-HM.out,HH.1];exact ⟨rfl,HH.2⟩
 have E4:=Hy hm;have C4:=Hy hC;have F4:=Hy hF;clear hm hC hK hR jB hF;have Qq:=F4.out;rw [J3] at Qq;have FF:=Hy (qc F2.out Qq);rw [J3];have HE:cO X.e r d s=.ok ((Fo.one h2 k2).app (Fo.one h4 k4)) s4:=by simp only [cO,E1.out,E2.out,E3.out,E4.out,zR]
 have HE:=Hy HE;go_wp2_with fail;go_ret;rw [<-HM.out,HE.out];exact ⟨v4,NM ++ Zk,w4.heap.size,2,2,rfl,by rw [<-List.append_assoc];exact (C4.out.alloc _).at_,(C4.out.alloc _).kp,FF.out,Kw C4.out h2 h4 k2 k4,C4.out.kp.size,by rw [<-List.append_assoc];exact fun y hy e=>Nat.lt_irrefl _ ((C4.out.at_.kids y hy).lt _ e).2⟩
theorem DY {X:Rdr}{r:Md->St->Rs Fo}(hX:KEx X r)(hS:KSt X r){w:World}{s:St}{ns:List NV}{v:Value}(h:At X w s ns v)(d:Nat)(hd:d<=40)(aD:s.l≠[])(hno:fI X.e r d s≠.out) :
  Calls prog 112 #[rd X,Iv d] w (RT X w ns v (fI X.e r d s)):=by
 have hC:=Cur.start h;obtain ⟨M,hM⟩:=zN (fI X.e r d s);rw [hM];have HM:=Hy hM;have HO:=Hy hno;have C0:=Hy hC;clear hM h hC hno;have uo:=fun t W=>oH t W
 have ZB:=fun t W=>rQ t W
 go_enter func112,ntmps112;go_wp2_with fail;refine (gQ C0.out aD).mono ?_;rintro e w1 ⟨rfl,hC,hK⟩;have C1:=Hy hC;clear hC hK;rw [aP];generalize IL:pk X.e s=t;have IC:w.heap.size<=w1.heap.size:=C1.out.kp.size;have N1:=Hy (C1.out.new tN (aH ⟨⟨16,t.p,0,[],0,0⟩,[],Sn⟩).toArray);go_wp2_with fail;have iA:cO X.e r d s.nx≠.out:=by
  have:=HO.out;simp only [fI] at this;exact dD this
 refine (qa hX hS (C1.out.alloc _).at_ d hd iA).mono ?_;intro e w2 hR;rcases (C1.out.alloc _).ra hR with ⟨no,p,hm,rfl,hb⟩|⟨a2,s2,v2,NM,g2,m2,QJ,hm,rfl,hC,hK,hF,JH,kH,ZK⟩
 ·have HE:fI X.e r d s=.er no p:=by first|(simp only [fI,hm,zR];done)|(simp only [fI,aR hm,zR])
  have HH:=Hy2 HE hb;clear HE hb hm;go_wp2_with fail;refine ae rfl ?_;rw [<-HM.out,HH.1];exact ⟨rfl,HH.2⟩
 have E2:=Hy hm;have C2:=Hy hC;have F2:=Hy hF;have N2:=Hy ((N1.out).kept hK);obtain ⟨-,-,-,-,-,YR,-,-,NK,YQ⟩:=N2.out.blk.node;have hgl2:w1.heap.size+1<=g2:=by simpa using kH
 have hwg:w.heap.size<=g2:=by omega
 have hgj:g2≠w1.heap.size:=by omega
 have Vw:=Hy (hC.af N2.out IC (by decide) 5 (Sl g2 m2 QJ))
 have Sj:=aJ (w':=w2.setCell (Ad w1.heap.size 5) (Sl g2 m2 QJ)) JH fun g' Ir=>Below.heap_setCell w2 _ _ g' (by simp [Value.ownBlock] at Ir;simp;omega)
 have K2:=Hy Sj;have Wq:Hid (Loc X (w2.setCell (Ad w1.heap.size 5) (Sl g2 m2 QJ)) v2 w1.heap.size tN (aH ⟨⟨16,t.p,0,[],0,0⟩,a2.roots ns.length,Sl g2 m2 QJ⟩).toArray):=Hy (N2.out.af 5 (Sl g2 m2 QJ));obtain ⟨n0,n1,n2,n3,n4,n5,n6,n7,nl,-⟩:=Wq.out.blk.node;clear hm hC hK hR hF JH kH Sj iA ZK;go_wp2_with fail;have qA:∀g,(Sl g2 m2 QJ).ownBlock=some g->w.heap.size<=g:=fun g hg=>by simp [Value.ownBlock] at hg;omega
 have CF:fI X.e r d s=bz ⟨16,t.p,0,[],0,0⟩ a2 s2:=by rw [<-IL];simp only [fI,E2.out,zR]
 have HE:=Hy CF;clear CF;refine (iD Vw.out ⟨16,t.p,0,[],0,0⟩ a2 F2.out qA K2.out).mono ?_;intro e Ng hR;have HR:=Hy hR;rcases hR.form with ⟨i,rfl⟩|⟨ch,rfl⟩
 ·clear hR;go_wp2_with fail;go_ret;rw [<-HM.out,HE.out];exact HR
 ·clear hR;go_wp2_with fail;refine ae rfl ?_;rw [<-HM.out,HE.out];exact HR
end
end Go.Proofs.YtcchdlnfeijinaaGreatDoor
