/- Park to Paro: Layer parse: the walks of the functions that read statements: simple ones. -/
import Derived.Test.YtcchdlnfeijinaaGreatDoorNal
import Derived.Deep.RegionLaw
namespace Go.Proofs.YtcchdlnfeijinaaGreatDoor
open Go.Proofs.Tryz
set_option linter.unusedSimpArgs false
set_option linter.unusedVariables false
set_option maxHeartbeats 4000000
set_option maxRecDepth 100000
section
open Go.RowKit
theorem pW {X:Rdr}{w W:World}{v u:Value}{s:St}{ns:List NV}(h:Cur X w v W s ns u)(hh:Hd)(k:Fo){c H:Nat}(hH:W.heap.size=H):(W.alloc (.cells #[Iv (c+k.size:Nat)] tI)).ownsRow X.base tI 1 (Sl H 1 1) ((Fo.one hh k).roots c).length (bU ((Fo.one hh k).roots c)):=by
 subst hH;exact BG h hh k
theorem Ec {X:Rdr}  {w:World} {s:St} {ns:List NV} {v:Value} (h:At X w s ns v) (d:Nat) (hd:d<=40) (aD:s.l≠[]) :
  Calls prog 113 #[rd X,Iv d] w (RT X w ns v (iB X.e d s)):=by
 have hC:=Cur.start h;obtain ⟨M,hM⟩:=zN (iB X.e d s);rw [hM];have HM:=Hy hM
 have C0:=Hy hC;clear hM h hC;have uo:=fun t W=>oH t W
 have ZB:=fun t W=>rQ t W
 go_enter func113,ntmps113;go_wp2_with fail;refine (gQ C0.out aD).mono ?_;rintro e w1 ⟨rfl,hC,hK⟩;have C1:=Hy hC;clear hC hK;rw [aP];generalize IL:pk X.e s=t;have IC:w.heap.size<=w1.heap.size:=C1.out.kp.size;have N1:=Hy (C1.out.new tN (aH ⟨⟨17,t.p,0,[],0,0⟩,[],Sn⟩).toArray);go_wp2_with fail;refine (pG (C1.out.alloc _)).mono ?_;intro e w2 hR;rcases hR.cases with ⟨no,p,hm,rfl,hb⟩|⟨a2,s2,hm,rfl,hC,hK⟩
 ·have HE:iB X.e d s=.er no p:=by first|(simp only [iB,hm,zR];done)|(simp only [iB,aR hm,zR])
  have HH:=Hy2 HE hb;clear HE hb hm;go_wp2_with fail;refine ae rfl ?_;rw [<-HM.out,HH.1];exact ⟨rfl,HH.2⟩
 have E2:=Hy hm;have C2:=Hy hC;have N2:=Hy ((N1.out).kept hK);clear hm hC hK hR;rw [aP];obtain ⟨-,-,-,QK,-,-,-,-,NK,-⟩:=N2.out.blk.node;have Nf:=N2.out.blk.oW 3;have Vw:=Hy (C2.out.af N2.out IC (by decide) 3 (Ss a2.s))
 have Wq:Hid (Loc X (w2.setCell (Ad w1.heap.size 3) (Ss a2.s)) v w1.heap.size tN (aH ⟨⟨17,t.p,0,a2.s,0,0⟩,[],Sn⟩).toArray):=Hy (N2.out.af 3 (Ss a2.s));go_wp2_with fail;refine (bI Vw.out (by simp) [59] (by simp)).mono ?_
 intro e w3 hR;rcases hR.cases with ⟨no,p,hm,rfl,hb⟩|⟨a3,s3,hm,rfl,hC,hK⟩
 ·have HE:iB X.e d s=.er no p:=by first|(simp only [iB,E2.out,hm,zR];done)|(simp only [iB,E2.out,aR hm,zR])
  have HH:=Hy2 HE hb;clear HE hb hm;go_wp2_with fail;refine ae rfl ?_;rw [<-HM.out,HH.1];exact ⟨rfl,HH.2⟩
 have E3:=Hy hm;have C3:=Hy hC;have N3:=Hy ((Wq.out).kept hK);clear hm hC hK hR;obtain ⟨n0,n1,n2,n3,n4,n5,n6,n7,nl,-⟩:=N3.out.blk.node;go_wp2_with fail;have CF:iB X.e d s=bz ⟨17,t.p,0,a2.s,0,0⟩ .nil s3:=by rw [<-IL];simp only [iB,E2.out,E3.out,zR]
 have HE:=Hy CF;clear CF;refine (ny C3.out ⟨17,t.p,0,a2.s,0,0⟩).mono ?_;intro e Ng hR;have HR:=Hy hR;rcases hR.form with ⟨i,rfl⟩|⟨ch,rfl⟩
 ·clear hR;go_wp2_with fail;go_ret;rw [<-HM.out,HE.out];exact HR
 ·clear hR;go_wp2_with fail;refine ae rfl ?_;rw [<-HM.out,HE.out];exact HR
theorem yC {X:Rdr}{r:Md->St->Rs Fo}(hX:KEx X r){w:World}{s:St}{ns:List NV}{v:Value}(h:At X w s ns v)(d:Nat)(hd:d<=40)(aD:s.l≠[])(hno:jr X.e r d s≠.out) :
  Calls prog 115 #[rd X,Iv d] w (RT X w ns v (jr X.e r d s)):=by
 have hC:=Cur.start h;obtain ⟨M,hM⟩:=zN (jr X.e r d s);rw [hM];have HM:=Hy hM;have HO:=Hy hno;have C0:=Hy hC;clear hM h hC hno;have uo:=fun t W=>oH t W
 have ZB:=fun t W=>rQ t W
 go_enter func115,ntmps115;go_wp2_with fail;refine (gQ C0.out aD).mono ?_;rintro e w1 ⟨rfl,hC,hK⟩;have C1:=Hy hC;clear hC hK;rw [aP];generalize IL:pk X.e s=t;have IC:w.heap.size<=w1.heap.size:=C1.out.kp.size;have N1:=Hy (C1.out.new tN (aH ⟨⟨20,t.p,0,[],0,0⟩,[],Sn⟩).toArray);go_wp2_with fail;have Ky:Hid (((d:Int)+1)=((d+1:Nat):Int)):=Hy (by simp)
 refine (bI (C1.out.alloc _) (by simp) [40] (by simp)).mono ?_
 intro e w2 hR;rcases hR.cases with ⟨no,p,hm,rfl,hb⟩|⟨a2,s2,hm,rfl,hC,hK⟩
 ·have HE:jr X.e r d s=.er no p:=by first|(simp only [jr,hm,zR];done)|(simp only [jr,aR hm,zR])
  have HH:=Hy2 HE hb;clear HE hb hm;go_wp2_with fail;refine ae rfl ?_;rw [<-HM.out,HH.1];exact ⟨rfl,HH.2⟩
 have E2:=Hy hm;have C2:=Hy hC;have N2:=Hy ((N1.out).kept hK);clear hm hC hK hR;have iA:r (.bin (d+1) 1) s2≠.out:=by
  have:=HO.out;simp only [jr,E2.out,zR] at this;exact dD this
 go_wp2_with fail;rw [Ky.out];refine (hX (d+1) w2 s2 ns v (by omega) C2.out.at_ iA).mono ?_
 intro e w3 jB;have hR:=(C2.out).rd jB;rcases hR.cases with ⟨no,p,hm,rfl,hb⟩|⟨h3,k3,s3,v3,nk3,hm,rfl,hC,hK,hF⟩
 ·have HE:jr X.e r d s=.er no p:=by first|(simp only [jr,E2.out,hm,zR];done)|(simp only [jr,E2.out,aR hm,zR])
  have HH:=Hy2 HE hb;clear HE hb hm;go_wp2_with fail;refine ae rfl ?_;rw [<-HM.out,HH.1];exact ⟨rfl,HH.2⟩
 have E3:=Hy hm;have C3:=Hy hC;have F3:=Hy hF;have N3:=Hy ((N2.out).kept hK);clear hm hC hK hR jB hF;obtain ⟨-,-,-,-,-,YR,-,-,NK,YQ⟩:=N3.out.blk.node;have WA:=Hy ((C3.out.af N3.out IC (by decide) 5 (Sl w3.heap.size 1 1)).alloc (.cells #[Iv (ns.length+k3.size:Nat)] tI))
 have YS:Hid (Loc X ((w3.setCell (Ad w1.heap.size 5) (Sl w3.heap.size 1 1)).alloc (.cells #[Iv (ns.length+k3.size:Nat)] tI)) v3 w1.heap.size tN (aH ⟨⟨20,t.p,0,[],0,0⟩,[ns.length+k3.size],Sl w3.heap.size 1 1⟩).toArray):=Hy ((N3.out.af 5 (Sl w3.heap.size 1 1)).alloc (.cells #[Iv (ns.length+k3.size:Nat)] tI));have K3s:=Hy (pW (C3.out.af N3.out IC (by decide) 5 (Sl w3.heap.size 1 1)) h3 k3 (c:=ns.length) (H:=w3.heap.size) (by simp))
 go_wp2_with fail;refine (Aw WA.out (by simp) [41] [59] (by simp) (by simp)).mono ?_
 intro e w4 hR;rcases hR.cases with ⟨no,p,hm,rfl,hb⟩|⟨a4,s4,hm,rfl,hC,hK⟩
 ·have HE:jr X.e r d s=.er no p:=by first|(simp only [jr,E2.out,E3.out,hm,zR];done)|(simp only [jr,E2.out,E3.out,aR hm,zR])
  have HH:=Hy2 HE hb;clear HE hb hm;go_wp2_with fail;refine ae rfl ?_;rw [<-HM.out,HH.1];exact ⟨rfl,HH.2⟩
 have E4:=Hy hm;have C4:=Hy hC;have N4:=Hy ((YS.out).kept hK);have K4:=Hy (gH (WA.out).at_ K3s.out hK);clear hm hC hK hR;obtain ⟨n0,n1,n2,n3,n4,n5,n6,n7,nl,-⟩:=N4.out.blk.node;go_wp2_with fail;have qA:∀g,(Sl w3.heap.size 1 1).ownBlock=some g->w.heap.size<=g:=fr1 C3.out;have CF:jr X.e r d s=bz ⟨20,t.p,0,[],0,0⟩ (Fo.one h3 k3) s4:=by rw [<-IL];simp only [jr,E2.out,E3.out,jL E4.out,zR]
 have HE:=Hy CF;clear CF;refine (iD C4.out ⟨20,t.p,0,[],0,0⟩ (Fo.one h3 k3) F3.out qA K4.out).mono ?_;intro e Ng hR;have HR:=Hy hR;rcases hR.form with ⟨i,rfl⟩|⟨ch,rfl⟩
 ·clear hR;go_wp2_with fail;go_ret;rw [<-HM.out,HE.out];exact HR
 ·clear hR;go_wp2_with fail;refine ae rfl ?_;rw [<-HM.out,HE.out];exact HR
theorem BF {X:Rdr}{r:Md->St->Rs Fo}(hX:KEx X r){w:World}{s:St}{ns:List NV}{v:Value}(h:At X w s ns v)(d:Nat)(hd:d<=40)(aD:s.l≠[])(hno:iR X.e r d s≠.out) :
  Calls prog 114 #[rd X,Iv d] w (RT X w ns v (iR X.e r d s)):=by
 have hC:=Cur.start h;obtain ⟨M,hM⟩:=zN (iR X.e r d s);rw [hM];have HM:=Hy hM;have HO:=Hy hno;have C0:=Hy hC;clear hM h hC hno;have uo:=fun t W=>oH t W
 have ZB:=fun t W=>rQ t W
 go_enter func114,ntmps114;go_wp2_with fail;refine (gQ C0.out aD).mono ?_;rintro e w1 ⟨rfl,hC,hK⟩;have C1:=Hy hC;clear hC hK;rw [aP];generalize IL:pk X.e s=t;have IC:w.heap.size<=w1.heap.size:=C1.out.kp.size;have N1:=Hy (C1.out.new tN (aH ⟨⟨19,t.p,0,[],0,0⟩,[],Sn⟩).toArray);go_wp2_with fail;have Ky:Hid (((d:Int)+1)=((d+1:Nat):Int)):=Hy (by simp)
 refine (EL (C1.out.alloc _) [59]).mono ?_;rintro e w2 ⟨rfl,hC,hK⟩;have C2:=Hy hC;have N2:=Hy ((N1.out).kept hK);clear hC hK;cases hq:isT X.e [59] s.nx
 ·have O8:=hq;have iA:r (.bin (d+1) 1) s.nx≠.out:=by
   have:=HO.out;simp only [iR,hq,zR] at this;exact dD this
  go_wp2_with fail;rw [Ky.out];refine (hX (d+1) w2 s.nx ns v (by omega) C2.out.at_ iA).mono ?_
  intro e w3 jB;have hR:=(C2.out).rd jB;rcases hR.cases with ⟨no,p,hm,rfl,hb⟩|⟨h3,k3,s3,v3,nk3,hm,rfl,hC,hK,hF⟩
  ·have HE:iR X.e r d s=.er no p:=by first|(simp only [iR,hq,hm,zR];done)|(simp only [iR,hq,aR hm,zR])
   have HH:=Hy2 HE hb;clear HE hb hm;go_wp2_with fail;refine ae rfl ?_;rw [<-HM.out,HH.1];exact ⟨rfl,HH.2⟩
  have E3:=Hy hm;have C3:=Hy hC;have F3:=Hy hF;have N3:=Hy ((N2.out).kept hK);clear hm hC hK hR jB hF;obtain ⟨-,-,-,-,-,YR,-,-,NK,YQ⟩:=N3.out.blk.node;have WA:=Hy ((C3.out.af N3.out IC (by decide) 5 (Sl w3.heap.size 1 1)).alloc (.cells #[Iv (ns.length+k3.size:Nat)] tI))
  have YS:Hid (Loc X ((w3.setCell (Ad w1.heap.size 5) (Sl w3.heap.size 1 1)).alloc (.cells #[Iv (ns.length+k3.size:Nat)] tI)) v3 w1.heap.size tN (aH ⟨⟨19,t.p,0,[],0,0⟩,[ns.length+k3.size],Sl w3.heap.size 1 1⟩).toArray):=Hy ((N3.out.af 5 (Sl w3.heap.size 1 1)).alloc (.cells #[Iv (ns.length+k3.size:Nat)] tI));have K3s:=Hy (pW (C3.out.af N3.out IC (by decide) 5 (Sl w3.heap.size 1 1)) h3 k3 (c:=ns.length) (H:=w3.heap.size) (by simp))
  go_wp2_with fail;refine (bI WA.out (by simp) [59] (by simp)).mono ?_
  intro e w4 hR;rcases hR.cases with ⟨no,p,hm,rfl,hb⟩|⟨a4,s4,hm,rfl,hC,hK⟩
  ·have HE:iR X.e r d s=.er no p:=by first|(simp only [iR,hq,E3.out,hm,zR];done)|(simp only [iR,hq,E3.out,aR hm,zR])
   have HH:=Hy2 HE hb;clear HE hb hm;go_wp2_with fail;refine ae rfl ?_;rw [<-HM.out,HH.1];exact ⟨rfl,HH.2⟩
  have E4:=Hy hm;have C4:=Hy hC;have N4:=Hy ((YS.out).kept hK);have K4:=Hy (gH (WA.out).at_ K3s.out hK);clear hm hC hK hR;obtain ⟨n0,n1,n2,n3,n4,n5,n6,n7,nl,-⟩:=N4.out.blk.node;go_wp2_with fail;have qA:∀g,(Sl w3.heap.size 1 1).ownBlock=some g->w.heap.size<=g:=fr1 C3.out;have CF:iR X.e r d s=bz ⟨19,t.p,0,[],0,0⟩ (Fo.one h3 k3) s4:=by rw [<-IL];simp only [iR,hq,E3.out,E4.out,zR]
  have HE:=Hy CF;clear CF;refine (iD C4.out ⟨19,t.p,0,[],0,0⟩ (Fo.one h3 k3) F3.out qA K4.out).mono ?_;intro e Ng hR;have HR:=Hy hR;rcases hR.form with ⟨i,rfl⟩|⟨ch,rfl⟩
  ·clear hR;go_wp2_with fail;go_ret;rw [<-HM.out,HE.out];exact HR
  ·clear hR;go_wp2_with fail;refine ae rfl ?_;rw [<-HM.out,HE.out];exact HR
 ·have O8:=hq;go_wp2_with fail;refine (bI C2.out rfl [59] (by simp)).mono ?_
  intro e w3 hR;rcases hR.cases with ⟨no,p,hm,rfl,hb⟩|⟨a3,s3,hm,rfl,hC,hK⟩
  ·have HE:iR X.e r d s=.er no p:=by first|(simp only [iR,hq,hm,zR];done)|(simp only [iR,hq,aR hm,zR])
   have HH:=Hy2 HE hb;clear HE hb hm;go_wp2_with fail;refine ae rfl ?_;rw [<-HM.out,HH.1];exact ⟨rfl,HH.2⟩
  have E3:=Hy hm;have C3:=Hy hC;have N3:=Hy ((N2.out).kept hK);clear hm hC hK hR;obtain ⟨n0,n1,n2,n3,n4,n5,n6,n7,nl,-⟩:=N3.out.blk.node;go_wp2_with fail;have CF:iR X.e r d s=bz ⟨19,t.p,0,[],0,0⟩ .nil s3:=by rw [<-IL];simp only [iR,hq,E3.out,zR]
  have HE:=Hy CF;clear CF;refine (ny C3.out ⟨19,t.p,0,[],0,0⟩).mono ?_;intro e Ng hR;have HR:=Hy hR;rcases hR.form with ⟨i,rfl⟩|⟨ch,rfl⟩
  ·clear hR;go_wp2_with fail;go_ret;rw [<-HM.out,HE.out];exact HR
  ·clear hR;go_wp2_with fail;refine ae rfl ?_;rw [<-HM.out,HE.out];exact HR
theorem BC {X:Rdr}{r:Md->St->Rs Fo}(hX:KEx X r){w:World}{s:St}{ns:List NV}{v:Value}(h:At X w s ns v)(d:Nat)(hd:d<=40)(hno:bH X.e r d s≠.out) :
  Calls prog 110 #[rd X,Iv d] w (RT X w ns v (bH X.e r d s)):=by
 have hC:=Cur.start h;obtain ⟨M,hM⟩:=zN (bH X.e r d s);rw [hM];have HM:=Hy hM;have HO:=Hy hno;have C0:=Hy hC;clear hM h hC hno;have uo:=fun t W=>oH t W
 have ZB:=fun t W=>rQ t W
 have Ky:Hid (((d:Int)+1)=((d+1:Nat):Int)):=Hy (by simp)
 go_enter func110,ntmps110;go_wp2_with fail;refine (jS C0.out).mono ?_;rintro e w1 ⟨rfl,hC,hK⟩;have C1:=Hy hC;clear hC hK;rw [aP];generalize IL:pk X.e s=t;have IC:w.heap.size<=w1.heap.size:=C1.out.kp.size;have N1:=Hy (C1.out.new tN (aH ⟨⟨12,t.p,0,[],0,0⟩,[],Sn⟩).toArray);go_wp2_with fail;refine (xM (C1.out.alloc _) (by simp) 1 2).mono ?_
 intro e w2 hR;rcases hR.cases with ⟨no,p,hm,rfl,hb⟩|⟨a2,s2,hm,rfl,hC,hK⟩
 ·have HE:bH X.e r d s=.er no p:=by first|(simp only [bH,hm,zR];done)|(simp only [bH,aR hm,zR])
  have HH:=Hy2 HE hb;clear HE hb hm;go_wp2_with fail;refine ae rfl ?_;rw [<-HM.out,HH.1];exact ⟨rfl,HH.2⟩
 have E2:=Hy hm;have C2:=Hy hC;have N2:=Hy ((N1.out).kept hK);clear hm hC hK hR;obtain ⟨-,-,-,-,Nc4,-,-,-,NK,-⟩:=N2.out.blk.node;have Nf:=N2.out.blk.oW 4;have Vw:=Hy (C2.out.af N2.out IC (by decide) 4 (Iv a2))
 have Wq:Hid (Loc X (w2.setCell (Ad w1.heap.size 4) (Iv a2)) v w1.heap.size tN (aH ⟨⟨12,t.p,0,[],a2,0⟩,[],Sn⟩).toArray):=Hy (N2.out.af 4 (Iv a2));go_wp2_with fail;refine (pG Vw.out).mono ?_;intro e w3 hR;rcases hR.cases with ⟨no,p,hm,rfl,hb⟩|⟨a3,s3,hm,rfl,hC,hK⟩
 ·have HE:bH X.e r d s=.er no p:=by first|(simp only [bH,E2.out,hm,zR];done)|(simp only [bH,E2.out,aR hm,zR])
  have HH:=Hy2 HE hb;clear HE hb hm;go_wp2_with fail;refine ae rfl ?_;rw [<-HM.out,HH.1];exact ⟨rfl,HH.2⟩
 have E3:=Hy hm;have C3:=Hy hC;have N3:=Hy ((Wq.out).kept hK);clear hm hC hK hR;rw [aP];obtain ⟨-,-,-,QK,-,-,-,-,NK,-⟩:=N3.out.blk.node;have Nf:=N3.out.blk.oW 3;have WA:=Hy (C3.out.af N3.out IC (by decide) 3 (Ss a3.s))
 have YS:Hid (Loc X (w3.setCell (Ad w1.heap.size 3) (Ss a3.s)) v w1.heap.size tN (aH ⟨⟨12,t.p,0,a3.s,a2,0⟩,[],Sn⟩).toArray):=Hy (N3.out.af 3 (Ss a3.s));go_wp2_with fail;refine (bI WA.out (by simp) [61] (by simp)).mono ?_
 intro e w4 hR;rcases hR.cases with ⟨no,p,hm,rfl,hb⟩|⟨a4,s4,hm,rfl,hC,hK⟩
 ·have HE:bH X.e r d s=.er no p:=by first|(simp only [bH,E2.out,E3.out,hm,zR];done)|(simp only [bH,E2.out,E3.out,aR hm,zR])
  have HH:=Hy2 HE hb;clear HE hb hm;go_wp2_with fail;refine ae rfl ?_;rw [<-HM.out,HH.1];exact ⟨rfl,HH.2⟩
 have E4:=Hy hm;have C4:=Hy hC;have N4:=Hy ((YS.out).kept hK);clear hm hC hK hR;have iA:r (.bin (d+1) 1) s4≠.out:=by
  have:=HO.out;simp only [bH,E2.out,E3.out,E4.out,zR] at this;exact dD this
 go_wp2_with fail;rw [Ky.out];refine (hX (d+1) w4 s4 ns v (by omega) C4.out.at_ iA).mono ?_
 intro e w5 jB;have hR:=(C4.out).rd jB;rcases hR.cases with ⟨no,p,hm,rfl,hb⟩|⟨h5,k5,s5,v5,O3,hm,rfl,hC,hK,hF⟩
 ·have HE:bH X.e r d s=.er no p:=by first|(simp only [bH,E2.out,E3.out,E4.out,hm,zR];done)|(simp only [bH,E2.out,E3.out,E4.out,aR hm,zR])
  have HH:=Hy2 HE hb;clear HE hb hm;go_wp2_with fail;refine ae rfl ?_;rw [<-HM.out,HH.1];exact ⟨rfl,HH.2⟩
 have E5:=Hy hm;have C5:=Hy hC;have F5:=Hy hF;have N5:=Hy ((N4.out).kept hK);clear hm hC hK hR jB hF;obtain ⟨-,-,-,-,-,YR,-,-,NK,YQ⟩:=N5.out.blk.node;have Zh:=Hy ((C5.out.af N5.out IC (by decide) 5 (Sl w5.heap.size 1 1)).alloc (.cells #[Iv (ns.length+k5.size:Nat)] tI))
 have N5s:Hid (Loc X ((w5.setCell (Ad w1.heap.size 5) (Sl w5.heap.size 1 1)).alloc (.cells #[Iv (ns.length+k5.size:Nat)] tI)) v5 w1.heap.size tN (aH ⟨⟨12,t.p,0,a3.s,a2,0⟩,[ns.length+k5.size],Sl w5.heap.size 1 1⟩).toArray):=Hy ((N5.out.af 5 (Sl w5.heap.size 1 1)).alloc (.cells #[Iv (ns.length+k5.size:Nat)] tI));have K5s:=Hy (pW (C5.out.af N5.out IC (by decide) 5 (Sl w5.heap.size 1 1)) h5 k5 (c:=ns.length) (H:=w5.heap.size) (by simp))
 go_wp2_with fail;refine (bI Zh.out (by simp) [59] (by simp)).mono ?_
 intro e w6 hR;rcases hR.cases with ⟨no,p,hm,rfl,hb⟩|⟨a6,s6,hm,rfl,hC,hK⟩
 ·have HE:bH X.e r d s=.er no p:=by first|(simp only [bH,E2.out,E3.out,E4.out,E5.out,hm,zR];done)|(simp only [bH,E2.out,E3.out,E4.out,E5.out,aR hm,zR])
  have HH:=Hy2 HE hb;clear HE hb hm;go_wp2_with fail;refine ae rfl ?_;rw [<-HM.out,HH.1];exact ⟨rfl,HH.2⟩
 have E6:=Hy hm;have C6:=Hy hC;have N6:=Hy ((N5s.out).kept hK);have K6:=Hy (gH (Zh.out).at_ K5s.out hK);clear hm hC hK hR;obtain ⟨n0,n1,n2,n3,n4,n5,n6,n7,nl,-⟩:=N6.out.blk.node;go_wp2_with fail;have qA:∀g,(Sl w5.heap.size 1 1).ownBlock=some g->w.heap.size<=g:=fr1 C5.out;have CF:bH X.e r d s=bz ⟨12,t.p,0,a3.s,a2,0⟩ (Fo.one h5 k5) s6:=by rw [<-IL];simp only [bH,E2.out,E3.out,E4.out,E5.out,E6.out,zR]
 have HE:=Hy CF;clear CF;refine (iD C6.out ⟨12,t.p,0,a3.s,a2,0⟩ (Fo.one h5 k5) F5.out qA K6.out).mono ?_;intro e Ng hR;have HR:=Hy hR;rcases hR.form with ⟨i,rfl⟩|⟨ch,rfl⟩
 ·clear hR;go_wp2_with fail;go_ret;rw [<-HM.out,HE.out];exact HR
 ·clear hR;go_wp2_with fail;refine ae rfl ?_;rw [<-HM.out,HE.out];exact HR
end
section
open Go.RowKit
theorem MK (k p n:Int)(s:ByteArray)(w:World):(Instr.field tE (.agg #[Iv k,Iv p,Iv n,.string s]) 2).run prog w=.ok (Iv n) w:=by
 kernel_rfl
theorem wI {X:Rdr}{w W:World}{s:St}{ns:List NV}{v u:Value}(h:Cur X w v W s ns u) :
  Calls prog 124 #[rd X] W (RC X w v W ns u (fun k=>Iv k) (lG X.e s)):=by
 obtain ⟨M,hM⟩:=zN (lG X.e s);rw [hM];have uo:=fun k p n s W=>MK k p n s W
 have C0:=Hy h;have eZ:lG X.e s=if (pk X.e s).k≠2 then .er 2 (pk X.e s).p else if (pk X.e s).n<1∨1024< (pk X.e s).n then .er 11 (pk X.e s).p else .ok (pk X.e s).n s.nx:=rfl
 have aD:(pk X.e s).k=2->s.l≠[]:=fun h2 e=>by
  have h3:=h.at_.fin;simp only [pk,e,List.headD_nil] at h2;rw [h3] at h2;cases h2
 rw [hM] at eZ;clear h hM;go_enter func124,ntmps124;go_wp2_with fail;refine (jS C0.out).mono ?_;rintro e w1 ⟨rfl,hC,hK⟩;have C1:=Hy hC;have N1:=Hy (hC.new tE (fJ (pk X.e s)));have K1:=Hy hK;clear hC hK;rw [aP];generalize IL:pk X.e s=t at *;by_cases h2:t.k=2
 ·have Tn:decide (t.k=2)=true:=by simpa using h2
  have hn:=aD h2;rw [if_neg (by simpa using h2)] at eZ
  by_cases h3:t.n<1
  ·have ZG:decide (t.n<1)=true:=by simpa using h3
   rw [if_pos (.inl h3)] at eZ;have HE:=Hy eZ;clear eZ aD;go_wp2_with fail;refine (mJ (C1.out.alloc _) 11).mono ?_;rintro e w2 ⟨rfl,hb⟩;have HB:=Hy hb;clear hb;go_wp2_with fail;refine ae rfl ?_;rw [HE.out];exact ⟨rfl,HB⟩
  ·have ZG:decide (t.n<1)=false:=by simpa using h3
   by_cases h4:1024<t.n
   ·have hd4:decide (1024<t.n)=true:=by simpa using h4
    rw [if_pos (.inr h4)] at eZ;have HE:=Hy eZ;clear eZ aD;go_wp2_with fail;refine (mJ (C1.out.alloc _) 11).mono ?_;rintro e w2 ⟨rfl,hb⟩;have HB:=Hy hb;clear hb;go_wp2_with fail;refine ae rfl ?_;rw [HE.out];exact ⟨rfl,HB⟩
   ·have hd4:decide (1024<t.n)=false:=by simpa using h4
    rw [if_neg (by omega)] at eZ
    have HE:=Hy eZ;clear eZ aD;go_wp2_with fail;refine (gQ (C1.out.alloc _) hn).mono ?_;rintro e w2 ⟨rfl,hC,hK⟩;have HC:=Hy2 hC (K1.out.trans ((Kp.of ((zB _ _).alloc (zL _) _)).trans hK));clear hC hK;rw [IL,aP];go_wp2_with fail;go_ret;rw [HE.out];exact ⟨rfl,HC⟩
 ·have Tn:decide (t.k=2)=false:=by simpa using h2
  rw [if_pos h2] at eZ;have HE:=Hy eZ;clear eZ aD;go_wp2_with fail;refine (mJ (C1.out.alloc _) 2).mono ?_;rintro e w2 ⟨rfl,hb⟩;have HB:=Hy hb;clear hb;go_wp2_with fail;refine ae rfl ?_;rw [HE.out];exact ⟨rfl,HB⟩
def pmA (p:Pm):Array Value:=#[Ss p.s,Iv p.ty]
def pmV (p:Pm):Value:=.agg (pmA p)
abbrev tP:TypeId:=45
theorem JK:(prog.info? tP).map (·.size)=some 2:=by kernel_rfl
theorem JB {fn:Func}{R:Ending->World->Prop}{a:Act}{w:World}{b:Nat}{p:Nat}{x:Pm}{T:TypeId}{fr:Nat×Nat}(hf:fn.results= #[.cell p tP])(hd:a.defers=[])
  (h2:a.tmps.getD p undef=Pt b) (hb:w.heap[b]? =some (.cells (pmA x) T fr))
  (hR:R (.returned (pmV x)) w):bodyPost prog fn R .ret a w:=
 bodyPost_ret (v:=pmV x) (results_cell_row hf _ _ b T _ fr _ h2 hb underlying45 rfl JK) hd hR
theorem tH {X:Rdr}{w W:World}{s:St}{ns:List NV}{v u:Value}(h:Cur X w v W s ns u) :
  Calls prog 149 #[rd X] W (RC X w v W ns u pmV (iI X.e s)):=by
 obtain ⟨M,hM⟩:=zN (iI X.e s);rw [hM];have HM:=Hy hM;have ZB:=fun t W=>rQ t W
 have C0:=Hy (h.alloc (.cells #[.string ⟨#[]⟩,Iv 0] tP));have N0:=Hy (h.new tP #[.string ⟨#[]⟩,Iv 0]);have hWl:=h.kp.size;clear h hM;go_enter func149,ntmps149;go_wp2_with fail;refine (xM C0.out (by simp) 1 2).mono ?_
 intro e w1 hR;rcases hR.cases with ⟨no,p,hm,rfl,hb⟩|⟨a1,s1,hm,rfl,hC,hK⟩
 ·have HH:=Hy2 (show M=.er no p by rw [<-HM.out];simp only [iI,hm,Rs.aB]) hb
  clear hm hb hR;go_wp2_with fail;refine ae rfl ?_;rw [HH.1];exact ⟨rfl,HH.2⟩
 have E1:=Hy hm;have C1:=Hy hC;have N1:=Hy (N0.out.kept hK);have K1:=Hy hK;clear hm hC hK hR;go_wp2_with fail;refine (pG C1.out).mono ?_;intro e w2 hR;rcases hR.cases with ⟨no,p,hm,rfl,hb⟩|⟨a2,s2,hm,rfl,hC,hK⟩
 ·have HH:=Hy2 (show M=.er no p by rw [<-HM.out];simp only [iI,E1.out,Rs.bind_ok,hm,Rs.aB]) hb
  clear hm hb hR;go_wp2_with fail;refine ae rfl ?_;rw [HH.1];exact ⟨rfl,HH.2⟩
 have HE:=Hy (show M=.ok ⟨a2.s,a1⟩ s2 by rw [<-HM.out];simp only [iI,E1.out,Rs.bind_ok,hm])
 have C2:=Hy hC;have N2:=Hy (N1.out.kept hK);have K2:=Hy (K1.out.trans hK);have c0:=N2.out.blk.cell 0;have c1:=N2.out.blk.cell 1;have f0:=N2.out.blk.frozen 0;have f1:=N2.out.blk.frozen 1;have hl:=N2.out.blk.lt;simp only [List.getElem?_toArray,List.getElem?_cons_zero,List.getElem?_cons_succ] at c0 c1;clear hm hC hK hR;rw [aP];go_wp2_with fail;have C3:=(C2.out.af N2.out hWl (by decide) 0 (Ss a2.s)).af (N2.out.af 0 (Ss a2.s)) hWl (by decide) 1 (Iv a1)
 have N3:Blk ((w2.setCell (Ad W.heap.size 0) (Ss a2.s)).setCell (Ad W.heap.size 1) (Iv a1)) W.heap.size tP (pmA ⟨a2.s,a1⟩):=((N2.out.af 0 (Ss a2.s)).af 1 (Iv a1)).blk;refine JB (x:=⟨a2.s,a1⟩) rfl rfl rfl N3 ?_;rw [HE.out];exact ⟨rfl,C3,((Kp.of ((Below.refl _ W).alloc (zL _) _)).trans K2.out).down (((zB _ _).setCell (p:=Ad W.heap.size 0) (zL _) _).setCell (p:=Ad W.heap.size 1) (zL _) _)⟩
end
section
open Go.RowKit
def glA (g:Gl):Array Value:=#[Ss g.s,Iv g.ty,Iv g.n,Iv g.p]
def glV (g:Gl):Value:=.agg (glA g)
abbrev tG:TypeId:=47
theorem KR:(prog.info? tG).map (·.size)=some 4:=by kernel_rfl
theorem yw {fn:Func}{R:Ending->World->Prop}{a:Act}{w:World}{b:Nat}{p:Nat}{x:Gl}{T:TypeId}{fr:Nat×Nat}(hf:fn.results= #[.cell p tG])(hd:a.defers=[])
  (h2:a.tmps.getD p undef=Pt b) (hb:w.heap[b]? =some (.cells (glA x) T fr))
  (hR:R (.returned (glV x)) w):bodyPost prog fn R .ret a w:=
 bodyPost_ret (v:=glV x) (results_cell_row hf _ _ b T _ fr _ h2 hb underlying47 rfl KR) hd hR
theorem Blk.gl {W:World}{j:Nat}{T:TypeId}{g:Gl}(h:Blk W j T (glA g)) :
  Ce W j 0 (Ss g.s)/\Ce W j 1 (Iv g.ty)/\Ce W j 2 (Iv g.n)/\Ce W j 3 (Iv g.p)/\j<W.heap.size/\
  (W.frozen? (Ad j 0)=false/\W.frozen? (Ad j 1)=false/\W.frozen? (Ad j 2)=false/\W.frozen? (Ad j 3)=false):=
 ⟨h.cell 0,h.cell 1,h.cell 2,h.cell 3,h.lt,h.frozen 0,h.frozen 1,h.frozen 2,h.frozen 3⟩
theorem rG {X:Rdr}{w W:World}{s:St}{ns:List NV}{v u:Value}(h:Cur X w v W s ns u)(kind:Int)(t:Tok) :
  Calls prog 84 #[rd X,Iv kind,iF t] W (RC X w v W ns u glV (dW X.e kind t s)):=by
 obtain ⟨M,hM⟩:=zN (dW X.e kind t s);rw [hM];have C0:=Hy (((h.alloc (.cells (fJ t) tE)).alloc (.cells (glA ⟨[],0,0,0⟩) tG)).alloc (.cells (glA ⟨t.s,kind,0,t.p⟩) tG));have R0':=Hy (((h.alloc (.cells (fJ t) tE)).new tG (glA ⟨[],0,0,0⟩)).alloc (.cells (glA ⟨t.s,kind,0,t.p⟩) tG));have N0:=Hy (((h.alloc (.cells (fJ t) tE)).alloc (.cells (glA ⟨[],0,0,0⟩) tG)).new tG (glA ⟨t.s,kind,0,t.p⟩));have hWl:=h.kp.size;have KW:Hid (Kp X W u (((W.alloc (.cells (fJ t) tE)).alloc (.cells (glA ⟨[],0,0,0⟩) tG)).alloc (.cells (glA ⟨t.s,kind,0,t.p⟩) tG)) u):=Hy (Kp.of ((((Below.refl _ W).alloc (zL _) _).alloc (by simp) _).alloc (by simp;omega) _))
 have e1:(W.alloc (.cells (fJ t) tE)).heap.size=W.heap.size+1:=by simp
 have e2:((W.alloc (.cells (fJ t) tE)).alloc (.cells (glA ⟨[],0,0,0⟩) tG)).heap.size=W.heap.size+1+1:=by simp
 rw [e1] at R0';rw [e2] at N0;have eZ:dW X.e kind t s=if kind=3∨isT X.e [91] s then (must X.e [91] s).bind fun _ s=>(lG X.e s).bind fun n s=>(must X.e [93] s).bind fun _ s=>(must X.e [59] s).bind fun _ s=>.ok ⟨t.s,kind,n,t.p⟩ s
  else (must X.e [59] s).bind fun _ s=>.ok ⟨t.s,kind,0,t.p⟩ s:=rfl
 rw [hM] at eZ;clear h hM e1 e2;rw [aP];go_enter func84,ntmps84;by_cases hk:kind=3
 ·subst hk;rw [if_pos (.inl rfl)] at eZ;have HM:=Hy eZ;clear eZ;go_wp2_with fail;refine (bI C0.out (by simp) [91] (by simp)).mono ?_
  intro e w1 hR;rcases hR.cases with ⟨no,p,hm,rfl,hb⟩|⟨a1,s1,hm,rfl,hC,hK⟩
  ·have HE:M=.er no p:=by rw [HM.out];simp only [hm,Rs.bind_ok,Rs.aB]
   have HH:=Hy2 HE hb;clear HE hb hm;go_wp2_with fail;refine ae rfl ?_;rw [HH.1];exact ⟨rfl,HH.2⟩
  have E1:=Hy hm;have C1:=Hy hC;have K1:=Hy ((KW.out).trans hK);have R1:=Hy ((R0'.out).kept hK);have N1:=Hy ((N0.out).kept hK);clear hm hC hK hR;go_wp2_with fail;refine (wI C1.out).mono ?_;intro e w2 hR;rcases hR.cases with ⟨no,p,hm,rfl,hb⟩|⟨a2,s2,hm,rfl,hC,hK⟩
  ·have HE:M=.er no p:=by rw [HM.out];simp only [E1.out,hm,Rs.bind_ok,Rs.aB]
   have HH:=Hy2 HE hb;clear HE hb hm;go_wp2_with fail;refine ae rfl ?_;rw [HH.1];exact ⟨rfl,HH.2⟩
  have E2:=Hy hm;have C2:=Hy hC;have K2:=Hy ((K1.out).trans hK);have R2:=Hy ((R1.out).kept hK);have N2:=Hy ((N1.out).kept hK);clear hm hC hK hR;obtain ⟨Vk,Vj,SK,QK,NK,ZY,Nf1,Nf2,YP⟩:=N2.out.blk.gl;have Vw:=Hy (C2.out.af N2.out (by omega) (by decide) 2 (Iv a2))
  have Wq:Hid (Loc X (w2.setCell (Ad (W.heap.size+1+1) 2) (Iv a2)) u (W.heap.size+1+1) tG (glA ⟨t.s,3,a2,t.p⟩)):=Hy (N2.out.af 2 (Iv a2));have R2s:=Hy (R2.out.far (by omega) 2 (Iv a2):Loc X (w2.setCell (Ad (W.heap.size+1+1) 2) (Iv a2)) u (W.heap.size+1) tG (glA ⟨[],0,0,0⟩))
  have K2s:=Hy (K2.out.down ((zB _ _).setCell (p:=(Ad (W.heap.size+1+1) 2)) (by simp;omega) (Iv a2)))
  clear Vk Vj QK ZY Nf1 YP;go_wp2_with fail;clear SK Nf2 NK;refine (bI Vw.out (by simp) [93] (by simp)).mono ?_
  intro e w3 hR;rcases hR.cases with ⟨no,p,hm,rfl,hb⟩|⟨a3,s3,hm,rfl,hC,hK⟩
  ·have HE:M=.er no p:=by rw [HM.out];simp only [E1.out,E2.out,hm,Rs.bind_ok,Rs.aB]
   have HH:=Hy2 HE hb;clear HE hb hm;go_wp2_with fail;refine ae rfl ?_;rw [HH.1];exact ⟨rfl,HH.2⟩
  have E3:=Hy hm;have C3:=Hy hC;have K3:=Hy ((K2s.out).trans hK);have R3:=Hy ((R2s.out).kept hK);have N3:=Hy ((Wq.out).kept hK);clear hm hC hK hR;go_wp2_with fail;refine (bI C3.out rfl [59] (by simp)).mono ?_
  intro e w4 hR;rcases hR.cases with ⟨no,p,hm,rfl,hb⟩|⟨a4,s4,hm,rfl,hC,hK⟩
  ·have HE:M=.er no p:=by rw [HM.out];simp only [E1.out,E2.out,E3.out,hm,Rs.bind_ok,Rs.aB]
   have HH:=Hy2 HE hb;clear HE hb hm;go_wp2_with fail;refine ae rfl ?_;rw [HH.1];exact ⟨rfl,HH.2⟩
  have E4:=Hy hm;have C4:=Hy hC;have K4:=Hy ((K3.out).trans hK);have R4:=Hy ((R3.out).kept hK);have N4:=Hy ((N3.out).kept hK);clear hm hC hK hR;have HE:=Hy (show M=.ok ⟨t.s,3,a2,t.p⟩ s4 by rw [HM.out];simp only [E1.out,E2.out,E3.out,E4.out,Rs.bind_ok])
  obtain ⟨Vk,Vj,SK,QK,NK,-⟩:=N4.out.blk.gl;obtain ⟨Rc0,Rc1,Rc2,Rc3,Rcl,Rf0,Rf1,Rf2,Rf3⟩:=R4.out.blk.gl;go_wp2_with fail;have C9:=((((C4.out.af R4.out (by omega) (by decide) 0 (Ss t.s)).af (R4.out.af 0 (Ss t.s)) (by omega) (by decide) 1 (Iv 3)).af ((R4.out.af 0 (Ss t.s)).af 1 (Iv 3)) (by omega) (by decide) 2 (Iv a2)).af (((R4.out.af 0 (Ss t.s)).af 1 (Iv 3)).af 2 (Iv a2)) (by omega) (by decide) 3 (Iv t.p))
  have R9:=((((R4.out.af 0 (Ss t.s)).af 1 (Iv 3)).af 2 (Iv a2)).af 3 (Iv t.p)).blk;refine yw (x:=⟨t.s,3,a2,t.p⟩) rfl rfl rfl R9 ?_;rw [HE.out];exact ⟨rfl,C9,K4.out.down (((((zB _ _).setCell (p:=(Ad (W.heap.size+1) 0)) (by simp) (Ss t.s)).setCell (p:=(Ad (W.heap.size+1) 1)) (by simp) (Iv 3)).setCell (p:=(Ad (W.heap.size+1) 2)) (by simp) (Iv a2)).setCell (p:=(Ad (W.heap.size+1) 3)) (by simp) (Iv t.p))⟩
 ·have ZG:decide (kind=3)=false:=by simpa using hk
  have HK3:=Hy hk;have Lc:=Hy eZ;clear hk eZ;go_wp2_with fail;refine (EL C0.out [91]).mono ?_;rintro e w1 ⟨rfl,hC,hK⟩;have C1:=Hy hC;have R1:=Hy (R0'.out.kept hK);have N1:=Hy (N0.out.kept hK);have K1:=Hy (KW.out.trans hK);have eZ:=Lc.out;clear hC hK;cases hq:isT X.e [91] s
  ·rw [if_neg (by simp [HK3.out,hq])] at eZ
   have HM:=Hy eZ;clear eZ;go_wp2_with fail;refine (bI C1.out (by simp) [59] (by simp)).mono ?_
   intro e w2 hR;rcases hR.cases with ⟨no,p,hm,rfl,hb⟩|⟨a2,s2,hm,rfl,hC,hK⟩
   ·have HE:M=.er no p:=by rw [HM.out];simp only [hm,Rs.bind_ok,Rs.aB]
    have HH:=Hy2 HE hb;clear HE hb hm;go_wp2_with fail;refine ae rfl ?_;rw [HH.1];exact ⟨rfl,HH.2⟩
   have E2:=Hy hm;have C2:=Hy hC;have K2:=Hy ((K1.out).trans hK);have R2:=Hy ((R1.out).kept hK);have N2:=Hy ((N1.out).kept hK);clear hm hC hK hR;have HE:=Hy (show M=.ok ⟨t.s,kind,0,t.p⟩ s2 by rw [HM.out];simp only [E2.out,Rs.bind_ok])
   obtain ⟨Vk,Vj,SK,QK,NK,-⟩:=N2.out.blk.gl;obtain ⟨Rc0,Rc1,Rc2,Rc3,Rcl,Rf0,Rf1,Rf2,Rf3⟩:=R2.out.blk.gl;go_wp2_with fail;have C9:=((((C2.out.af R2.out (by omega) (by decide) 0 (Ss t.s)).af (R2.out.af 0 (Ss t.s)) (by omega) (by decide) 1 (Iv kind)).af ((R2.out.af 0 (Ss t.s)).af 1 (Iv kind)) (by omega) (by decide) 2 (Iv 0)).af (((R2.out.af 0 (Ss t.s)).af 1 (Iv kind)).af 2 (Iv 0)) (by omega) (by decide) 3 (Iv t.p))
   have R9:=((((R2.out.af 0 (Ss t.s)).af 1 (Iv kind)).af 2 (Iv 0)).af 3 (Iv t.p)).blk;refine yw (x:=⟨t.s,kind,0,t.p⟩) rfl rfl rfl R9 ?_;rw [HE.out];exact ⟨rfl,C9,K2.out.down (((((zB _ _).setCell (p:=(Ad (W.heap.size+1) 0)) (by simp) (Ss t.s)).setCell (p:=(Ad (W.heap.size+1) 1)) (by simp) (Iv kind)).setCell (p:=(Ad (W.heap.size+1) 2)) (by simp) (Iv 0)).setCell (p:=(Ad (W.heap.size+1) 3)) (by simp) (Iv t.p))⟩
  ·rw [if_pos (.inr hq)] at eZ;have HM:=Hy eZ;clear eZ;go_wp2_with fail;refine (bI C1.out (by simp) [91] (by simp)).mono ?_
   intro e w2 hR;rcases hR.cases with ⟨no,p,hm,rfl,hb⟩|⟨a2,s2,hm,rfl,hC,hK⟩
   ·have HE:M=.er no p:=by rw [HM.out];simp only [hm,Rs.bind_ok,Rs.aB]
    have HH:=Hy2 HE hb;clear HE hb hm;go_wp2_with fail;refine ae rfl ?_;rw [HH.1];exact ⟨rfl,HH.2⟩
   have E2:=Hy hm;have C2:=Hy hC;have K2:=Hy ((K1.out).trans hK);have R2:=Hy ((R1.out).kept hK);have N2:=Hy ((N1.out).kept hK);clear hm hC hK hR;go_wp2_with fail;refine (wI C2.out).mono ?_;intro e w3 hR;rcases hR.cases with ⟨no,p,hm,rfl,hb⟩|⟨a3,s3,hm,rfl,hC,hK⟩
   ·have HE:M=.er no p:=by rw [HM.out];simp only [E2.out,hm,Rs.bind_ok,Rs.aB]
    have HH:=Hy2 HE hb;clear HE hb hm;go_wp2_with fail;refine ae rfl ?_;rw [HH.1];exact ⟨rfl,HH.2⟩
   have E3:=Hy hm;have C3:=Hy hC;have K3:=Hy ((K2.out).trans hK);have R3:=Hy ((R2.out).kept hK);have N3:=Hy ((N2.out).kept hK);clear hm hC hK hR;obtain ⟨Vk,Vj,SK,QK,NK,ZY,Nf1,Nf2,YP⟩:=N3.out.blk.gl;have WA:=Hy (C3.out.af N3.out (by omega) (by decide) 2 (Iv a3))
   have YS:Hid (Loc X (w3.setCell (Ad (W.heap.size+1+1) 2) (Iv a3)) u (W.heap.size+1+1) tG (glA ⟨t.s,kind,a3,t.p⟩)):=Hy (N3.out.af 2 (Iv a3));have R3s:=Hy (R3.out.far (by omega) 2 (Iv a3):Loc X (w3.setCell (Ad (W.heap.size+1+1) 2) (Iv a3)) u (W.heap.size+1) tG (glA ⟨[],0,0,0⟩))
   have K3s:=Hy (K3.out.down ((zB _ _).setCell (p:=(Ad (W.heap.size+1+1) 2)) (by simp;omega) (Iv a3)))
   clear Vk Vj QK ZY Nf1 YP;go_wp2_with fail;clear SK Nf2 NK;refine (bI WA.out (by simp) [93] (by simp)).mono ?_
   intro e w4 hR;rcases hR.cases with ⟨no,p,hm,rfl,hb⟩|⟨a4,s4,hm,rfl,hC,hK⟩
   ·have HE:M=.er no p:=by rw [HM.out];simp only [E2.out,E3.out,hm,Rs.bind_ok,Rs.aB]
    have HH:=Hy2 HE hb;clear HE hb hm;go_wp2_with fail;refine ae rfl ?_;rw [HH.1];exact ⟨rfl,HH.2⟩
   have E4:=Hy hm;have C4:=Hy hC;have K4:=Hy ((K3s.out).trans hK);have R4:=Hy ((R3s.out).kept hK);have N4:=Hy ((YS.out).kept hK);clear hm hC hK hR;go_wp2_with fail;refine (bI C4.out rfl [59] (by simp)).mono ?_
   intro e w5 hR;rcases hR.cases with ⟨no,p,hm,rfl,hb⟩|⟨a5,s5,hm,rfl,hC,hK⟩
   ·have HE:M=.er no p:=by rw [HM.out];simp only [E2.out,E3.out,E4.out,hm,Rs.bind_ok,Rs.aB]
    have HH:=Hy2 HE hb;clear HE hb hm;go_wp2_with fail;refine ae rfl ?_;rw [HH.1];exact ⟨rfl,HH.2⟩
   have E5:=Hy hm;have C5:=Hy hC;have K5:=Hy ((K4.out).trans hK);have R5:=Hy ((R4.out).kept hK);have N5:=Hy ((N4.out).kept hK);clear hm hC hK hR;have HE:=Hy (show M=.ok ⟨t.s,kind,a3,t.p⟩ s5 by rw [HM.out];simp only [E2.out,E3.out,E4.out,E5.out,Rs.bind_ok])
   obtain ⟨Vk,Vj,SK,QK,NK,-⟩:=N5.out.blk.gl;obtain ⟨Rc0,Rc1,Rc2,Rc3,Rcl,Rf0,Rf1,Rf2,Rf3⟩:=R5.out.blk.gl;go_wp2_with fail;have C9:=((((C5.out.af R5.out (by omega) (by decide) 0 (Ss t.s)).af (R5.out.af 0 (Ss t.s)) (by omega) (by decide) 1 (Iv kind)).af ((R5.out.af 0 (Ss t.s)).af 1 (Iv kind)) (by omega) (by decide) 2 (Iv a3)).af (((R5.out.af 0 (Ss t.s)).af 1 (Iv kind)).af 2 (Iv a3)) (by omega) (by decide) 3 (Iv t.p))
   have R9:=((((R5.out.af 0 (Ss t.s)).af 1 (Iv kind)).af 2 (Iv a3)).af 3 (Iv t.p)).blk;refine yw (x:=⟨t.s,kind,a3,t.p⟩) rfl rfl rfl R9 ?_;rw [HE.out];exact ⟨rfl,C9,K5.out.down (((((zB _ _).setCell (p:=(Ad (W.heap.size+1) 0)) (by simp) (Ss t.s)).setCell (p:=(Ad (W.heap.size+1) 1)) (by simp) (Iv kind)).setCell (p:=(Ad (W.heap.size+1) 2)) (by simp) (Iv a3)).setCell (p:=(Ad (W.heap.size+1) 3)) (by simp) (Iv t.p))⟩
end
section
open Go.RowKit
def pmC (p:Pm):List Value:=[Ss p.s,Iv p.ty]
def jq (l:List Pm):List Value:=l.flatMap pmC
theorem uL (l:List Pm)(x:Pm):jq (l ++ [x])=jq l ++ pmC x:=by simp [jq]
theorem KD:(prog.info? tP).map (fun i=>(i.zero,i.size,i.bytes))=some (some (.agg #[.string ⟨#[]⟩,Iv 0]),2,24):=by kernel_rfl
structure gJ (X:Rdr) (w W:World) (g n cp:Nat) (l:List Pm):Prop where
 row:W.ownsRow X.base tP 2 (Sl g n cp) n (jq l)
 new:w.heap.size<=g
theorem gJ.lt {X:Rdr}{w W:World}{g n cp:Nat}{l:List Pm}(h:gJ X w W g n cp l):X.base<=g/\g<W.heap.size:=h.row.lt g rfl
theorem gJ.blk {X:Rdr}{w W:World}{g n cp:Nat}{l:List Pm}(h:gJ X w W g n cp l):∃cs,W.heap[g]? =some (.cells cs tP (0,0)):=by
 rcases h.row.2 with ⟨hv,_⟩|⟨g',cap,cur,hv,_,hb,_⟩
 ·cases hv
 ·simp at hv;exact ⟨cur,by rw [hv.1];exact hb⟩
theorem gJ.own {X:Rdr}{w W:World}{s:St}{ns:List NV}{u:Value}{g n cp:Nat}{l:List Pm}(h:gJ X w W g n cp l)(hA:At X W s ns u):some g≠u.ownBlock:=fun e=>by
 obtain ⟨cs,hb⟩:=h.blk;rcases hA.rows.2 with ⟨hv,_⟩|⟨g',cap,cur,hv,_,Kq,_⟩
 ·rw [hv] at e;simp [Value.ownBlock] at e
 ·rw [hv] at e;simp [Value.ownBlock] at e;rw [<-e,hb] at Kq;simp at Kq;exact absurd Kq.2 (by decide)
theorem gJ.neb {X:Rdr}{w W:World}{s:St}{ns:List NV}{u:Value}{g n cp:Nat}{l:List Pm}(h:gJ X w W g n cp l)(hA:At X W s ns u):g≠X.b:=fun e=>by
 obtain ⟨cs,hb⟩:=h.blk;have h1:=hA.blk;unfold Blk at h1;rw [<-e,hb] at h1;simp at h1;exact absurd h1.2 (by decide)
theorem gJ.kept {X:Rdr}{w W W':World}{s:St}{ns:List NV}{u u':Value}{g n cp:Nat}{l:List Pm}(h:gJ X w W g n cp l)(hA:At X W s ns u)(hk:Kp X W u W' u'):gJ X w W' g n cp l:=
 ⟨aJ h.row fun i hi=>hk.block i (h.row.lt i hi).2 (by simp [Value.ownBlock] at hi;rw [<-hi];exact h.neb hA) (by simp [Value.ownBlock] at hi;rw [<-hi];exact h.own hA),h.new⟩
theorem gJ.one {X:Rdr}{w W:World}{v u:Value}{s:St}{ns:List NV}(h:Cur X w v W s ns u)(p:Pm):gJ X w (W.alloc (.cells (pmA p) tP)) W.heap.size 1 1 [p]:=
 ⟨World.ownsRow_lit (base:=X.base) (e:=tP) (size:=2) W (pmA p) 1 h.at_.eu (by decide) rfl,h.kp.size⟩
theorem gJ.push {X:Rdr}{w W w1:World}{v u:Value}{s:St}{ns:List NV}{g n cp g1 PM:Nat}{l:List Pm}{x:Pm}(h:gJ X w W g n cp l)(hC:Cur X w v W s ns u){o:Obj}
  (hr:w1.ownsRow X.base tP 2 (Sl g1 (n+1) PM) (n+1) (jq l ++ pmC x)) (hg:(W.alloc o).grownBy w1 (some g)) (kH:some g=some g1∨g1=W.heap.size+1) :
  Cur X w v w1 s ns u/\gJ X w w1 g1 (n+1) PM (l ++ [x]):=by
 obtain ⟨cs,hb⟩:=h.blk;have av:(W.alloc o).heap[g]? =some (.cells cs tP (0,0)):=(heap_alloc_old _ _ (h:=h.lt.2)).trans hb;have hA:=(hC.alloc o).at_.far av (by decide) h.lt.1 (h.own hC.at_) (fun i hi aD=>hg.block i hi (fun e=>by cases e;exact aD rfl)) hg.size
 have Qi:Below w.heap.size (W.alloc o) w1:=⟨hg.os,hg.tape,hg.output,hg.size,fun k hk=>hg.block k (zT hk (hC.alloc o).kp.size) (fun e=>by cases e;have:=h.new;omega)⟩
 refine ⟨⟨hA,(hC.alloc o).kp.down Qi,(hC.alloc o).low.trans ⟨hg.os,hg.tape,hg.output,hg.size,fun k hk=>hg.block k (by have:=(hC.alloc o).at_.eu;omega) (fun e=>by cases e;have:=h.lt.1;omega)⟩⟩,⟨by rw [uL];exact hr,?_⟩⟩
 rcases kH with e|e
 ·cases e;exact h.new
 ·have:=hC.kp.size;omega
def RP (X:Rdr) (w:World) (ns:List NV) (v:Value) (R:Rs (List Pm)) (e:Ending) (w':World):Prop:=
 match R with
 | .ok l s=>∃g n cp,e=.returned (Sl g n cp)/\Cur X w v w' s ns v/\gJ X w w' g n cp l
 | .er no p=>e=Pan no p/\Below X.base w w'
 | .out=>False
theorem yA {X:Rdr}(n:Nat){w:World}{s:St}{ns:List NV}{v:Value}(h:At X w s ns v)(hno:iw X.e n s≠.out) :
  Calls prog 123 #[rd X] w (RP X w ns v (iw X.e n s)):=by
 have C0:=Hy (Cur.start h);obtain ⟨i0,hi,vQ,sI,ru⟩:=info_parts KD;obtain ⟨M,hM⟩:=zN (iw X.e n s);rw [hM];have HM:=Hy hM;have PN:Hid (M≠.out):=Hy (by rw [<-hM];exact hno)
 have HT:=Hy h.len;clear hM hno h;go_enter func123,ntmps123;go_wp2_with fail;refine (tH C0.out).mono ?_;intro e w1 hR;rcases hR.cases with ⟨no,p,hm,rfl,hb⟩|⟨a1,s1,hm,rfl,hC,hK⟩
 ·have HH:=Hy2 (show M=.er no p by rw [<-HM.out];simp only [iw,hm,Rs.aB]) hb
  clear hm hb hR;go_wp2_with fail;refine ae rfl ?_;rw [HH.1];exact ⟨rfl,HH.2⟩
 have Kk:M=iW X.e n [a1] s1:=by rw [<-HM.out];simp only [iw,hm,Rs.bind_ok]
 have RJ:=Hy Kk;have C1:=Hy hC;have A1:=Hy (gJ.one hC a1);clear hm hC hK hR Kk;unfold pmV pmA;go_wp2_with fail;go_loopg [3] n (fun g s3 wx=>∃(l:List Pm) (s':St) (b m cp:Nat),g<=n/\s3=Sl b m cp/\m+s'.l.length<=X.T.length+1/\Cur X w v wx s' ns v/\gJ X w wx b m cp l/\M=iW X.e g l s')
 case atStart=>exact ⟨[a1],s1,w1.heap.size,1,1,Nat.le_refl _,rfl,by have:=C1.out.at_.pos.2;omega,C1.out.alloc _,A1.out,RJ⟩
 case round=>
  obtain ⟨l,s',b,m,cp,hg,rfl,Qf,hC,hA,Kk⟩:=hrel;cases gk with
  |zero=>exact absurd Kk PN
  |succ j=>
  have DJ:M=if isT X.e [44] s' then (iI X.e s'.nx).bind fun p s=>iW X.e j (l ++ [p]) s else .ok l s':=Kk
  have C2:=Hy hC;have A2:=Hy hA;have Lx:=Hy DJ;have HML:=Hy Qf;clear hC hA Kk DJ Qf;go_wp2_with fail;refine (oN C2.out [44] (by simp)).mono ?_
  rintro e w3 ⟨rfl,hC,hK⟩;have C3:=Hy hC;have A3:=Hy (A2.out.kept C2.out.at_ hK);clear hC hK;cases hq:isT X.e [44] s'
  ·have ha:acc X.e [44] s'=s':=by simp [acc,hq]
   rw [ha] at C3;have HE:Hid (M=.ok l s'):=Hy (by rw [Lx.out];simp [hq])
   clear ha;go_wp2_with fail;go_ret;rw [HE.out];exact ⟨b,m,cp,rfl,C3.out,A3.out⟩
  ·have ha:acc X.e [44] s'=s'.nx:=by simp [acc,hq]
   rw [ha] at C3;have YF:M=(iI X.e s'.nx).bind fun p s=>iW X.e j (l ++ [p]) s:=by rw [Lx.out];simp only [hq,if_true]
   have Vo:=Hy YF;have aD:s'.l≠[]:=fun e=>by
    simp only [isT,pk,e,List.headD_nil,lY C2.out.at_.fin,decide_eq_true_eq] at hq;cases hq
   have Zv:s'.nx.l.length+1=s'.l.length:=by
    cases hs:s'.l with
    |nil=>exact absurd hs aD
    |cons t r=>simp [St.nx,hs]
   clear ha YF;go_wp2_with fail;refine (tH C3.out).mono ?_;intro e w4 hR;rcases hR.cases with ⟨no,p,hm,rfl,hb⟩|⟨a4,s4,hm,rfl,hC,hK⟩
   ·have HH:=Hy2 (show M=.er no p by rw [Vo.out,hm];rfl) hb
    clear hm hb hR;go_wp2_with fail;refine ae rfl ?_;rw [HH.1];exact ⟨rfl,HH.2⟩
   have hl4:s4.l.length<=s'.nx.l.length:=by
    have h1:=jJ C2.out.at_.fin s'.nx;rw [hm] at h1;simp only [Ends,Rs.Sat] at h1;omega
   have HM4:Hid (M=iW X.e j (l ++ [a4]) s4):=Hy (by rw [Vo.out,hm];rfl)
   have C4:=Hy hC;have A4:=Hy (A3.out.kept C3.out.at_ hK);have GZ:m+1<=2000001:=by have:=HML.out;have:=HT.out;omega
   have mF:=hC.at_.eu;have Rc:=Hy (A4.out.row.alloc (.cells (pmA a4) tP));have HN:Hid (∀j u,(pmC a4)[j]? =some u->(w4.alloc (.cells (pmA a4) tP)).cell? (((Ad w4.heap.size 0):Addr).add j)=some u):=Hy (World.news_of_block (cs:=pmA a4) (heap_alloc_new w4 _));have HML4:Hid (m+1+s4.l.length<=X.T.length+1):=Hy (by have:=HML.out;omega)
   clear hm hC hK hR;unfold pmV pmA;go_wp2_with (at_builtin;refine wpList_append_lies _ rfl _ _ 39 rfl X.base tP i0 _ 2 24 underlying39 hi vQ sI ru rfl (by decide) _ m _ rfl Rc (Ad w4.heap.size 0) 1 1 (pmC a4) rfl rfl HN (by simp [pmC,Value.oneCell']) (by decide) (by unfold maxLen;omega) (by omega) (by simp;omega) (w4.heap.size+1) (by simp) ?_;intro g1 PM w5 TT Qk Pi hlt5;have hp:=A4.out.push C4.out TT Qk Pi;have HP:=Hy hp;clear hp TT Qk Pi)
   go_roundg j
   case measure=>omega
   case rel=>exact ⟨l ++ [a4],s4,g1,m+1,PM,by omega,rfl,HML4,HP.1,HP.2,HM4⟩
end
section
open Go.RowKit
theorem zm {X:Rdr}{r:Md->St->Rs Fo}(hX:KEx X r)(hS:KSt X r){w:World}{s:St}{ns:List NV}{v:Value}(h:At X w s ns v)(d:Nat)(hd:d<=40)(aD:s.l≠[])(hno:ifB X.e r d s≠.out) :
  Calls prog 111 #[rd X,Iv d] w (RT X w ns v (ifB X.e r d s)):=by
 have hC:=Cur.start h;obtain ⟨M,hM⟩:=zN (ifB X.e r d s);rw [hM];have HM:=Hy hM;have HO:=Hy hno;obtain ⟨i0,hi,vQ,sI,ru⟩:=info_parts Eh;have C0:=Hy hC;clear hM h hC hno;have uo:=fun t W=>oH t W
 have ZB:=fun t W=>rQ t W
 go_enter func111,ntmps111;go_wp2_with fail;refine (gQ C0.out aD).mono ?_;rintro e w1 ⟨rfl,hC,hK⟩;have C1:=Hy hC;clear hC hK;rw [aP];generalize IL:pk X.e s=t;have IC:w.heap.size<=w1.heap.size:=C1.out.kp.size;have N1:=Hy (C1.out.new tN (aH ⟨⟨15,t.p,0,[],0,0⟩,[],Sn⟩).toArray);go_wp2_with fail;have iA:cO X.e r d s.nx≠.out:=by
  have:=HO.out;simp only [ifB] at this;exact dD this
 refine (qa hX hS (C1.out.alloc _).at_ d hd iA).mono ?_;intro e w2 hR;rcases (C1.out.alloc _).ra hR with ⟨no,p,hm,rfl,hb⟩|⟨a2,s2,v2,NM,g2,m2,QJ,hm,rfl,hC,hK,hF,JH,kH,ZK⟩
 ·have HE:ifB X.e r d s=.er no p:=by first|(simp only [ifB,hm,zR];done)|(simp only [ifB,aR hm,zR])
  have HH:=Hy2 HE hb;clear HE hb hm;go_wp2_with fail;refine ae rfl ?_;rw [<-HM.out,HH.1];exact ⟨rfl,HH.2⟩
 have E2:=Hy hm;have C2:=Hy hC;have F2:=Hy hF;have N2:=Hy ((N1.out).kept hK);obtain ⟨-,-,-,-,-,YR,-,-,NK,YQ⟩:=N2.out.blk.node;have hgl2:w1.heap.size+1<=g2:=by simpa using kH
 have hwg:w.heap.size<=g2:=by omega
 have hgj:g2≠w1.heap.size:=by omega
 have Vw:=Hy (hC.af N2.out IC (by decide) 5 (Sl g2 m2 QJ))
 have Sj:=aJ (w':=w2.setCell (Ad w1.heap.size 5) (Sl g2 m2 QJ)) JH fun g' Ir=>Below.heap_setCell w2 _ _ g' (by simp [Value.ownBlock] at Ir;simp;omega)
 have K2:=Hy Sj;have Wq:Hid (Loc X (w2.setCell (Ad w1.heap.size 5) (Sl g2 m2 QJ)) v2 w1.heap.size tN (aH ⟨⟨15,t.p,0,[],0,0⟩,a2.roots ns.length,Sl g2 m2 QJ⟩).toArray):=Hy (N2.out.af 5 (Sl g2 m2 QJ));have A2:=Hy (⟨Sj,hwg,ZK⟩:Acc X w (w2.setCell (Ad w1.heap.size 5) (Sl g2 m2 QJ)) (ns ++ NM) g2 m2 QJ (a2.roots ns.length));clear hm hC hK hR hF JH kH Sj iA ZK;go_wp2_with fail;refine (oN Vw.out jG (by simp [jG])).mono ?_
 rintro e w3 ⟨rfl,hC,hK⟩;have C3:=Hy hC;have N3:=Hy (Wq.out.kept hK);have A3:=Hy (by have:=A2.out.kept (nk:=[]) Vw.out.at_ hK (Fl.nil _ 0);rwa [List.append_nil] at this:Acc X w w3 (ns ++ NM) g2 m2 QJ (a2.roots ns.length))
 clear hC hK;cases hq:isT X.e jG s2
 ·have O8:=hq;have ha:acc X.e jG s2=s2:=by simp [acc,hq]
  rw [ha] at C3;obtain ⟨n0,n1,n2,n3,n4,n5,n6,n7,nl,-⟩:=N3.out.blk.node;clear ha;go_wp2_with fail;have qA:∀g,(Sl g2 m2 QJ).ownBlock=some g->w.heap.size<=g:=fun g hg=>by simp [Value.ownBlock] at hg;omega
  have CF:ifB X.e r d s=bz ⟨15,t.p,0,[],0,0⟩ a2 s2:=by rw [<-IL];simp only [ifB,E2.out,hq,zR]
  have HE:=Hy CF;clear CF;refine (iD C3.out ⟨15,t.p,0,[],0,0⟩ a2 F2.out qA A3.out.row).mono ?_;intro e Ng hR;have HR:=Hy hR;rcases hR.form with ⟨i,rfl⟩|⟨ch,rfl⟩
  ·clear hR;go_wp2_with fail;go_ret;rw [<-HM.out,HE.out];exact HR
  ·clear hR;go_wp2_with fail;refine ae rfl ?_;rw [<-HM.out,HE.out];exact HR
 ·have O8:=hq;have ha:acc X.e jG s2=s2.nx:=by simp [acc,hq]
  rw [ha] at C3;clear ha;have Pe:r (.stm (d+1)) s2.nx≠.out:=by
   have:=HO.out;simp only [ifB,E2.out,hq,zR] at this;exact dD this
  obtain ⟨-,-,-,-,-,Mc5,-,-,NK,Mcf⟩:=N3.out.blk.node;have mf:(ns ++ NM).length=ns.length+a2.size:=by rw [List.length_append,bS F2.out]
  have Y4:=Hy mf;have Og:=fun (W:World) (hW:Zw w3 W)=>(hS (d+1) W s2.nx (ns ++ NM) v2 (by omega) (C3.out.go hW).at_ Pe).mono (fun e w' hr=>(C3.out.go hW).rt2 hr)
  have Na:=fun no p (hm:r (.stm (d+1)) s2.nx=.er no p)=>(by simp only [ifB,E2.out,hq,hm,zR]:ifB X.e r d s=.er no p)
  have QL:=Hy Og;have Ol:=Hy Na;have Tu:Hid (IntKind.i64.wrap ((d:Int)+1)=((d+1:Nat):Int)):=Hy (by rw [IntKind.wrap_i64];omega)
  have Qf:m2<=4000:=by
   have h1:=A3.out.len;rw [Fo.dK] at h1;have h2:=Fo.iY a2;have h3:=C3.out.at_.max;have h4:=C3.out.at_.cnt;omega
  clear Og Na Pe mf;go_wp2_with fail;go_region_law (first|(go_simp;go_at_call 143;rw [Tu.out];refine (QL _ (by exact bd1 _)).mono ?_;intro e w4 hR;rcases hR with ⟨no,p,hm,rfl,hb⟩|⟨h4,k4,s4,v4,Zk,hm,rfl,hC,hK,hF⟩;(refine ae rfl ?_;rw [<-HM.out,Ol.out no p hm];exact ⟨rfl,hb⟩);generalize Ue:(ns ++ NM).length+k4.size=n4;have HN4:=Hy Ue;have C4:=Hy hC;have F4:=Hy hF;have E4:=Hy hm;have N4:=Hy ((N3.out.go (bd1 _)).kept hK);have A4:=Hy ((A3.out.go (bd1 _)).kept (C3.out.go (bd1 _)).at_ hK hF);have R4:=A4.out.row.alloc (.cells #[Iv (n4:Nat)] tI);rw [<-A4.out.len] at R4;have Rc:=Hy R4;clear R4;obtain ⟨-,-,-,-,-,Pc5,-,-,Pcl,Pcf⟩:=N4.out.blk.node;clear hm hC hF hK Ue)|(refine step_append_lies _ rfl (.tmp 17) (.tmp 22) 40 rfl X.base tI i0 _ 1 8 underlying40 hi vQ sI ru rfl (by decide) _ m2 _ (by simp [Act.eval,Act.put]) Rc (Ad w4.heap.size 0) 1 1 [Iv (n4:Nat)] (by simp [Act.eval,Act.put]) rfl (World.news_of_block (cs:=#[Iv (n4:Nat)]) (heap_alloc_new w4 _)) (by simp [Value.oneCell']) (by decide) (by unfold maxLen;omega) (by omega) (by have:=C4.out.at_.eu;simp;omega) (w4.heap.size+1) (by simp) ?_;intro g5 ZV w5 TT Qk Pi hlt5;have hp:=A4.out.push C4.out TT Qk Pi;have HP:=Hy hp;have hg5j:g5≠w1.heap.size:=(by rcases Pi with e|e;(cases e;exact hgj);omega);have N5:=Hy ((N4.out.alloc (.cells #[Iv (n4:Nat)] tI)).grown Qk (Ne.symm hgj));obtain ⟨-,-,-,-,-,Qc5,-,-,Qcl,Qcf⟩:=N5.out.blk.node;clear hp TT Qk Pi))
  all_goals
   have C6:=Hy (HP.1.af N5.out IC (by decide) 5 (Sl g5 (m2+1) ZV))
   have JG:(a2.app (Fo.one h4 k4)).roots ns.length=a2.roots ns.length ++ [n4]:=by rw [Fo.jB,<-HN4.out,Y4.out];rfl
   have HA5:=HP.2.af hg5j 5 (Sl g5 (m2+1) ZV);rw [<-JG] at HA5;have A6:=Hy HA5;have N6:Hid (Loc X (w5.setCell (Ad w1.heap.size 5) (Sl g5 (m2+1) ZV)) v4 w1.heap.size tN (aH ⟨⟨15,t.p,0,[],0,0⟩,(a2.app (Fo.one h4 k4)).roots ns.length,Sl g5 (m2+1) ZV⟩).toArray):=Hy (N5.out.af 5 (Sl g5 (m2+1) ZV));obtain ⟨n0,n1,n2,n3,n4c,n5,n6,n7,nl,-⟩:=N6.out.blk.node;have EG:=F4.out;rw [Y4.out] at EG;have F5:=Hy (qc F2.out (EG.old C3.out.kp.size));have qA:∀g,(Sl g5 (m2+1) ZV).ownBlock=some g->w.heap.size<=g:=fun g hg=>by simp [Value.ownBlock] at hg;have:=A6.out.new;omega
   have HFR:=Hy qA;clear JG HA5 EG qA;go_wp2_with fail;have CF:ifB X.e r d s=bz ⟨15,t.p,0,[],0,0⟩ (a2.app (Fo.one h4 k4)) s4:=by rw [<-IL];simp only [ifB,E2.out,hq,E4.out,zR]
   have HE:=Hy CF;clear CF;refine (iD (nk:=NM ++ Zk) (by rw [<-List.append_assoc];exact C6.out) ⟨15,t.p,0,[],0,0⟩ (a2.app (Fo.one h4 k4)) F5.out HFR A6.out.row).mono ?_
   intro e Ng hR;have HR:=Hy hR;rcases hR.form with ⟨i,rfl⟩|⟨ch,rfl⟩
   ·clear hR;go_wp2_with fail;go_ret;rw [<-HM.out,HE.out];exact HR
   ·clear hR;go_wp2_with fail;refine ae rfl ?_;rw [<-HM.out,HE.out];exact HR
end
section
open Go.RowKit
theorem nE {W W':World}(h:W.grownBy W' none):Zw W W':=⟨h.os,h.tape,h.output,h.size,fun k hk=>h.block k hk (fun e=>by cases e)⟩
theorem Acc.first {X:Rdr}{w W w1:World}{v u:Value}{s:St}{ns:List NV}{g1 PM:Nat}{x:Nat}(hC:Cur X w v W s ns u){o:Obj}
  (hr:w1.ownsRow X.base tI 1 (Sl g1 (0+1) PM) (0+1) ([] ++ [Iv (x:Nat)])) (hg:(W.alloc o).grownBy w1 none) (kH:g1=W.heap.size+1) :
  Cur X w v w1 s ns u/\Acc X w w1 ns g1 (0+1) PM ([] ++ [x]):=
 ⟨(hC.alloc o).go (nE hg),hr,by have:=hC.kp.size;omega,fun y hy e=>by have:=((hC.at_.kids y hy).lt g1 e).2;omega⟩
theorem uq {X:Rdr}(n:Nat)(hS:∀j,j<=n->KSt X (run X.e j)){w:World}{s:St}{ns:List NV}{v:Value}(h:At X w s ns v)(d:Nat)(hd:d<=40)(hno:bu X.e (run X.e n) d s≠.out) :
  Calls prog 109 #[rd X,Iv d] w (RT X w ns v (bu X.e (run X.e n) d s)):=by
 have hC:=Cur.start h;obtain ⟨M,hM⟩:=zN (bu X.e (run X.e n) d s);rw [hM];have HM:=Hy hM;have HO:=Hy hno;obtain ⟨i0,hi,vQ,sI,ru⟩:=info_parts Eh;have C0:=Hy hC;clear hM h hC hno;have uo:=fun t W=>oH t W
 have Tu:Hid (IntKind.i64.wrap ((d:Int)+1)=((d+1:Nat):Int)):=Hy (by rw [IntKind.wrap_i64];omega)
 go_enter func109,ntmps109;go_wp2_with fail;refine (jS C0.out).mono ?_;rintro e w1 ⟨rfl,hC,hK⟩;have C1:=Hy hC;clear hC hK;rw [aP];generalize IL:pk X.e s=t;have IC:w.heap.size<=w1.heap.size:=C1.out.kp.size;have N1:=Hy (C1.out.new tN (aH ⟨⟨11,t.p,0,[],0,0⟩,[],Sn⟩).toArray);go_wp2_with fail;refine (bI (C1.out.alloc _) (by simp) [123] (by simp)).mono ?_
 intro e w2 hR;rcases hR.cases with ⟨no,p,hm,rfl,hb⟩|⟨a2,s2,hm,rfl,hC,hK⟩
 ·have HE:bu X.e (run X.e n) d s=.er no p:=by first|(simp only [bu,hm,zR];done)|(simp only [bu,aR hm,zR])
  have HH:=Hy2 HE hb;clear HE hb hm;go_wp2_with fail;refine ae rfl ?_;rw [<-HM.out,HH.1];exact ⟨rfl,HH.2⟩
 have E2:=Hy hm;have C2:=Hy hC;have N2:=Hy ((N1.out).kept hK);clear hm hC hK hR;have Kk:M=(run X.e n (.blk d) s2).bind fun b s=>bz ⟨11,t.p,0,[],0,0⟩ (Fo.app .nil b) s:=by
  rw [<-HM.out,<-IL];simp only [bu,E2.out,Rs.bind_ok,Fo.app]
 have PN:Hid (M≠.out):=Hy (by rw [<-HM.out];exact HO)
 have RJ:=Hy Kk;clear Kk;go_wp2_with fail;go_loopg [] n (fun g wx=>∃(a:Fo) (s':St) (nk:List NV) (u kv:Value),g<=n/\Cur X w v wx s' (ns ++ nk) u/\Fl w nk a ns.length/\Loc X wx u w1.heap.size tN (aH ⟨⟨11,t.p,0,[],0,0⟩,a.roots ns.length,kv⟩).toArray/\((a=.nil/\kv=Sn)∨∃b m cp,kv=Sl b m cp/\b≠w1.heap.size/\Acc X w wx (ns ++ nk) b m cp (a.roots ns.length))/\M=(run X.e g (.blk d) s').bind fun b s=>bz ⟨11,t.p,0,[],0,0⟩ (a.app b) s)
 case atStart=>exact ⟨.nil,s2,[],v,Sn,Nat.le_refl _,by rw [List.append_nil];exact C2.out,Fl.nil _ _,N2.out,.inl ⟨rfl,rfl⟩,RJ⟩
 case round=>
  obtain ⟨a,s3,nk,u,kv,hg,hC,hF,hN,JH,Kk⟩:=hrel;cases gk with
  |zero=>exact absurd Kk (by simp only [run,Rs.bind];exact PN)
  |succ j=>
  have DJ:M=(qw X.e (run X.e j) d s3).bind fun b s=>bz ⟨11,t.p,0,[],0,0⟩ (a.app b) s:=Kk
  have C3:=Hy hC;have F3:=Hy hF;have N3:=Hy hN;have HKV:=Hy JH;have Lx:=Hy DJ;clear hC hF hN JH Kk DJ;go_wp2_with fail;refine (oN C3.out [125] (by simp)).mono ?_
  rintro e w4 ⟨rfl,hC,hK⟩;have C4:=Hy hC;have N4:=Hy (N3.out.kept hK);have KV4:Hid ((a=.nil/\kv=Sn)∨∃b m cp,kv=Sl b m cp/\b≠w1.heap.size/\Acc X w w4 (ns ++ nk) b m cp (a.roots ns.length)):=Hy (HKV.imp id fun ⟨b,m,cp,h1,h2,h3⟩=>⟨b,m,cp,h1,h2,by have:=h3.kept (nk:=[]) C3.out.at_ hK (Fl.nil _ 0);rwa [List.append_nil] at this⟩)
  clear hC hK HKV;cases hq:isT X.e [125] s3
  ·have hq00:=hq;have ha:acc X.e [125] s3=s3:=by simp [acc,hq]
   rw [ha] at C4;clear ha;have YF:M=(run X.e j (.stm (d+1)) s3).bind fun x s=>((run X.e j (.blk d) s).bind fun b s=>bz ⟨11,t.p,0,[],0,0⟩ ((a.app x).app b) s):=by
    rw [Lx.out];simp only [qw,hq,Bool.false_eq_true,if_false,Rs.bind_assoc,Rs.bind_ok,Fo.ut]
   have Pe:run X.e j (.stm (d+1)) s3≠.out:=dD (by rw [<-YF];exact PN)
   have mf:(ns ++ nk).length=ns.length+a.size:=by rw [List.length_append,bS F3.out]
   have Y4:=Hy mf;have Og:=fun (W:World) (hW:Zw w4 W)=>(hS j (by omega) (d+1) W s3 (ns ++ nk) u (by omega) (C4.out.go hW).at_ Pe).mono (fun e w' hr=>(C4.out.go hW).rt2 hr)
   have Na:∀no p,run X.e j (.stm (d+1)) s3=.er no p->M=.er no p:=fun no p hm=>by rw [YF,hm];rfl
   have QL:=Hy Og;have Ol:=Hy Na;have Vo:=Hy YF;have Qp:a.len<=4000:=by
    have h2:=Fo.iY a;have h3:=C4.out.at_.max;have h4:=C4.out.at_.cnt;omega
   clear Og Na Pe mf YF;rcases KV4.out with ⟨ha0,Q0⟩|⟨b0,m0,cp0,Q0,hbj,Sw⟩
   ·have O8:=hq;subst ha0;subst Q0;obtain ⟨-,-,-,-,-,Mc5,-,-,NK,Mcf⟩:=N4.out.blk.node;go_wp2_with fail;go_region_law (first|(go_simp;go_at_call 143;rw [Tu.out];refine (QL _ (by exact bd1 _)).mono ?_;intro e w5 hR;rcases hR with ⟨no,p,hm,rfl,hb⟩|⟨h5,k5,s5,v5,O3,hm,rfl,hC,hK,hF⟩;(refine ae rfl ?_;rw [Ol.out no p hm];exact ⟨rfl,hb⟩);generalize Ti:(ns ++ nk).length+k5.size=n5;have HN5:=Hy Ti;have C5:=Hy hC;have F5:=Hy hF;have E5:=Hy hm;have N5:=Hy ((N4.out.go (bd1 _)).kept hK);obtain ⟨-,-,-,-,-,Pc5,-,-,Pcl,Pcf⟩:=N5.out.blk.node;clear hm hC hF hK Ti)|(refine step_append_lies _ rfl (.tmp 17) (.tmp 22) 40 rfl X.base tI i0 _ 1 8 underlying40 hi vQ sI ru rfl (by decide) (Sn) 0 [] (by simp [Act.eval,Act.put]) (World.ownsRow_nil _ _ _ _) (Ad w5.heap.size 0) 1 1 [Iv (n5:Nat)] (by simp [Act.eval,Act.put]) rfl (World.news_of_block (cs:=#[Iv (n5:Nat)]) (heap_alloc_new w5 _)) (by simp [Value.oneCell']) (by decide) (by unfold maxLen;decide) (by decide) (by have:=C5.out.at_.eu;simp;omega) (w5.heap.size+1) (by simp) ?_;intro g6 Qt w6 hr6 VW Sm hlt6;have Ij:g6=w5.heap.size+1:=Sm.resolve_left (by simp [Value.ownBlock]);have hg6n:(w5.alloc (.cells #[Iv (n5:Nat)] tI)).grownBy w6 none:=VW;have hp:=Acc.first (x:=n5) C5.out hr6 hg6n Ij;have Ut:g6≠w1.heap.size:=(by omega);clear Ij;have N6:=Hy ((N5.out.alloc (.cells #[Iv (n5:Nat)] tI)).go (nE hg6n));have HP:=Hy hp;obtain ⟨-,-,-,-,-,Qc5,-,-,Qcl,Qcf⟩:=N6.out.blk.node;clear hp hr6 Sm))
    all_goals
     have JG:(Fo.nil.app (Fo.one h5 k5)).roots ns.length=Fo.nil.roots ns.length ++ [n5]:=by rw [Fo.jB,<-HN5.out,Y4.out];rfl
     have C7:=Hy (HP.1.af N6.out IC (by decide) 5 (Sl g6 (0+1) Qt))
     have HA7:=HP.2.af Ut 5 (Sl g6 (0+1) Qt);have A7:Hid (Acc X w _ (ns ++ nk ++ O3) g6 (0+1) Qt ((Fo.nil.app (Fo.one h5 k5)).roots ns.length)):=Hy (by rw [JG];exact HA7)
     have N7:Hid (Loc X (w6.setCell (Ad w1.heap.size 5) (Sl g6 (0+1) Qt)) v5 w1.heap.size tN (aH ⟨⟨11,t.p,0,[],0,0⟩,(Fo.nil.app (Fo.one h5 k5)).roots ns.length,Sl g6 (0+1) Qt⟩).toArray):=Hy (N6.out.af 5 (Sl g6 (0+1) Qt));have EG:=F5.out;rw [Y4.out] at EG;have F7:=Hy (qc F3.out (EG.old C4.out.kp.size));have HM7:Hid (M=(run X.e j (.blk d) s5).bind fun b s=>bz ⟨11,t.p,0,[],0,0⟩ ((Fo.nil.app (Fo.one h5 k5)).app b) s):=Hy (by rw [Vo.out,E5.out];rfl)
     clear JG HA7 EG;go_wp2_with fail;go_roundg j
     case measure=>omega
     case rel=>exact ⟨Fo.nil.app (Fo.one h5 k5),s5,nk ++ O3,v5,(Sl g6 (0+1) Qt),by omega,by rw [<-List.append_assoc];exact C7.out,F7.out,N7.out,.inr ⟨g6,(0+1),Qt,rfl,Ut,by rw [<-List.append_assoc];exact A7.out⟩,HM7⟩
   ·have O8:=hq;subst Q0;have A4:=Hy Sw;have Qf:m0<=4000:=by
     have h1:=Sw.len;rw [Fo.dK] at h1;omega
    clear Sw;obtain ⟨-,-,-,-,-,Mc5,-,-,NK,Mcf⟩:=N4.out.blk.node;go_wp2_with fail;go_region_law (first|(go_simp;go_at_call 143;rw [Tu.out];refine (QL _ (by exact bd1 _)).mono ?_;intro e w5 hR;rcases hR with ⟨no,p,hm,rfl,hb⟩|⟨h5,k5,s5,v5,O3,hm,rfl,hC,hK,hF⟩;(refine ae rfl ?_;rw [Ol.out no p hm];exact ⟨rfl,hb⟩);generalize Ti:(ns ++ nk).length+k5.size=n5;have HN5:=Hy Ti;have C5:=Hy hC;have F5:=Hy hF;have E5:=Hy hm;have N5:=Hy ((N4.out.go (bd1 _)).kept hK);have A5:=Hy ((A4.out.go (bd1 _)).kept (C4.out.go (bd1 _)).at_ hK hF);have R5:=A5.out.row.alloc (.cells #[Iv (n5:Nat)] tI);rw [<-A5.out.len] at R5;have RH:=Hy R5;clear R5;obtain ⟨-,-,-,-,-,Pc5,-,-,Pcl,Pcf⟩:=N5.out.blk.node;clear hm hC hF hK Ti)|(refine step_append_lies _ rfl (.tmp 17) (.tmp 22) 40 rfl X.base tI i0 _ 1 8 underlying40 hi vQ sI ru rfl (by decide) _ m0 _ (by simp [Act.eval,Act.put]) RH (Ad w5.heap.size 0) 1 1 [Iv (n5:Nat)] (by simp [Act.eval,Act.put]) rfl (World.news_of_block (cs:=#[Iv (n5:Nat)]) (heap_alloc_new w5 _)) (by simp [Value.oneCell']) (by decide) (by unfold maxLen;omega) (by omega) (by have:=C5.out.at_.eu;simp;omega) (w5.heap.size+1) (by simp) ?_;intro g6 Qt w6 hr6 VW Sm hlt6;have hp:=A5.out.push C5.out hr6 VW Sm;have Ut:g6≠w1.heap.size:=(by rcases Sm with e|e;(cases e;exact hbj);omega);have N6:=Hy ((N5.out.alloc (.cells #[Iv (n5:Nat)] tI)).grown VW (Ne.symm hbj));have HP:=Hy hp;obtain ⟨-,-,-,-,-,Qc5,-,-,Qcl,Qcf⟩:=N6.out.blk.node;clear hp hr6 Sm))
    all_goals
     have JG:(a.app (Fo.one h5 k5)).roots ns.length=a.roots ns.length ++ [n5]:=by rw [Fo.jB,<-HN5.out,Y4.out];rfl
     have C7:=Hy (HP.1.af N6.out IC (by decide) 5 (Sl g6 (m0+1) Qt))
     have HA7:=HP.2.af Ut 5 (Sl g6 (m0+1) Qt);have A7:Hid (Acc X w _ (ns ++ nk ++ O3) g6 (m0+1) Qt ((a.app (Fo.one h5 k5)).roots ns.length)):=Hy (by rw [JG];exact HA7)
     have N7:Hid (Loc X (w6.setCell (Ad w1.heap.size 5) (Sl g6 (m0+1) Qt)) v5 w1.heap.size tN (aH ⟨⟨11,t.p,0,[],0,0⟩,(a.app (Fo.one h5 k5)).roots ns.length,Sl g6 (m0+1) Qt⟩).toArray):=Hy (N6.out.af 5 (Sl g6 (m0+1) Qt));have EG:=F5.out;rw [Y4.out] at EG;have F7:=Hy (qc F3.out (EG.old C4.out.kp.size));have HM7:Hid (M=(run X.e j (.blk d) s5).bind fun b s=>bz ⟨11,t.p,0,[],0,0⟩ ((a.app (Fo.one h5 k5)).app b) s):=Hy (by rw [Vo.out,E5.out];rfl)
     clear JG HA7 EG;go_wp2_with fail;go_roundg j
     case measure=>omega
     case rel=>exact ⟨a.app (Fo.one h5 k5),s5,nk ++ O3,v5,(Sl g6 (m0+1) Qt),by omega,by rw [<-List.append_assoc];exact C7.out,F7.out,N7.out,.inr ⟨g6,(m0+1),Qt,rfl,Ut,by rw [<-List.append_assoc];exact A7.out⟩,HM7⟩
  ·have hq00:=hq;have ha:acc X.e [125] s3=s3.nx:=by simp [acc,hq]
   rw [ha] at C4;clear ha;have HE:Hid (M=bz ⟨11,t.p,0,[],0,0⟩ a s3.nx):=Hy (by rw [Lx.out];simp only [qw,hq,if_true,Rs.bind_ok,Fo.vS])
   rcases KV4.out with ⟨ha0,Q0⟩|⟨b0,m0,cp0,Q0,hbj,Sw⟩
   ·have O8:=hq;subst ha0;subst Q0;obtain ⟨n0,n1,n2,n3,n4,n5,n6,n7,nl,-⟩:=N4.out.blk.node;go_wp2_with fail;refine (iD C4.out ⟨11,t.p,0,[],0,0⟩ .nil F3.out (fun g hg=>by cases hg) (World.ownsRow_nil _ _ _ _)).mono ?_
    intro e Ng hR;have HR:=Hy hR;rcases hR.form with ⟨i,rfl⟩|⟨ch,rfl⟩
    ·clear hR;go_wp2_with fail;go_ret;rw [HE.out];exact HR
    ·clear hR;go_wp2_with fail;refine ae rfl ?_;rw [HE.out];exact HR
   ·have O8:=hq;subst Q0;have A4:=Hy Sw;clear Sw;obtain ⟨n0,n1,n2,n3,n4,n5,n6,n7,nl,-⟩:=N4.out.blk.node;go_wp2_with fail;refine (iD C4.out ⟨11,t.p,0,[],0,0⟩ a F3.out (fun g hg=>by simp [Value.ownBlock] at hg;have:=A4.out.new;omega) A4.out.row).mono ?_
    intro e Ng hR;have HR:=Hy hR;rcases hR.form with ⟨i,rfl⟩|⟨ch,rfl⟩
    ·clear hR;go_wp2_with fail;go_ret;rw [HE.out];exact HR
    ·clear hR;go_wp2_with fail;refine ae rfl ?_;rw [HE.out];exact HR
end
end Go.Proofs.YtcchdlnfeijinaaGreatDoor
