/- Parv to Pazc: Layer parse: the walk of the function that reads an element. -/
import Derived.Test.YtcchdlnfeijinaaGreatDoorNam
import Derived.Deep.RegionHeld2
import Derived.MapKept
import Derived.Deep.Cut
namespace Go.Proofs.YtcchdlnfeijinaaGreatDoor
open Go.Proofs.Tryz
set_option linter.unusedSimpArgs false
set_option linter.unusedVariables false
set_option maxHeartbeats 4000000
set_option maxRecDepth 100000
section
open Go.RowKit
theorem xB {X:Rdr}{r:Md->St->Rs Fo}(hX:KEx X r){w:World}{s:St}{ns:List NV}{v:Value}(h:At X w s ns v)(f:Tok)(d:Nat)(hd:d<=100)(hno:dI X.e r f d s≠.out) :
  Calls prog 201 #[rd X,iF f,Iv d] w (RT X w ns v (dI X.e r f d s)):=by
 have hC:=Cur.start h;obtain ⟨M,hM⟩:=zN (dI X.e r f d s);rw [hM];have HM:=Hy hM;have HO:=Hy hno;have T0:=Hy (hC.new tE (fJ f));have C0:=Hy hC;clear hM h hC hno;rw [aP];go_enter func201,ntmps201;go_wp2_with fail;refine (bI (C0.out.alloc _) (by simp) [91] (by simp)).mono ?_
 intro e w1 hR;rcases hR.cases with ⟨no,p,hm,rfl,hb⟩|⟨a1,s1,hm,rfl,hC,hK⟩
 ·have HE:dI X.e r f d s=.er no p:=by first|(simp only [dI,hm,zR];done)|(simp only [dI,aR hm,zR])
  have HH:=Hy2 HE hb;clear HE hb hm;go_wp2_with fail;refine ae rfl ?_;rw [<-HM.out,HH.1];exact ⟨rfl,HH.2⟩
 have E1:=Hy hm;have C1:=Hy hC;have T1:=Hy ((T0.out).kept hK);obtain ⟨Wp,SI,Wo,SH,SE⟩:=(T1.out).blk.tok;clear hm hC hK hR;have iA:r (.bin d 1) s1≠.out:=by
  have:=HO.out;simp only [dI,E1.out,Rs.bind_ok] at this;exact dD this
 have IC:w.heap.size<=w1.heap.size:=C1.out.kp.size;have Og:=C1.out.tree fun W hW=>hX d W s1 ns v hd hW iA
 have Na:=fun no p (hm:r (.bin d 1) s1=.er no p)=>(by simp only [dI,E1.out,hm,Rs.bind_ok,Rs.aB]:dI X.e r f d s=.er no p)
 have QL:=Hy Og;have Ol:=Hy Na;clear Og Na iA hd;go_wp2_with fail;go_region_held2 (fun W=>Ce W w.heap.size 1 (Iv f.p)/\Ce W w.heap.size 3 (Ss f.s)/\w.heap.size<W.heap.size) (repeat (first|(with_reducible exact ⟨SI,SH,SE⟩)|(with_reducible exact ⟨T21,T23,T2l⟩)|(with_reducible refine Fs ?_)|(with_reducible refine nP ?_ _)|(with_reducible refine Ji ?_ (by omega) _ _))) (first|(go_at_call 145;refine (QL _ (by first|exact bd1 _|exact bd2 _ _)).mono ?_;intro e w2 hR;rcases hR.cases with ⟨no,p,hm,rfl,hb⟩|⟨h2,k2,s2,v2,NM,hm,rfl,hC,hK,hF⟩;(refine ae rfl ?_;rw [<-HM.out,Ol.out no p hm];exact ⟨rfl,hb⟩);generalize wW:ns.length+k2.size=n2;have HN:=Hy wW;clear wW;have C2:=Hy hC;have F2:=Hy hF;have E2:=Hy hm;have T2:=(T1.out.go (by first|exact bd1 _|exact bd2 _ _)).kept hK;obtain ⟨-,T21,-,T23,T2l⟩:=T2.blk.tok;(first|(have N2:=((C1.out.new tN (aH nz).toArray).go (bd1 _)).kept hK;obtain ⟨⟨N20,N21,N22,N23,N24,N25,N26,N27⟩,⟨M20,M21,M22,M23,M24,M25,M26,M27⟩,N2l⟩:=N2.blk.LC;have Ps:=Hy N2;clear N2)|skip);clear hR hm hC hF hK T2))
 ·have hk:=BG C2.out h2 k2 (c:=ns.length);rw [HN.out] at hk;have CX:=Hy ((C2.out.alloc (.cells #[Iv (n2:Nat)] tI)).alloc (.cells (aH ⟨⟨3,f.p,0,f.s,0,0⟩,(Fo.one h2 k2).roots ns.length,Sl w2.heap.size 1 1⟩).toArray tN));have NX:=(C2.out.alloc (.cells #[Iv (n2:Nat)] tI)).new tN (aH ⟨⟨3,f.p,0,f.s,0,0⟩,(Fo.one h2 k2).roots ns.length,Sl w2.heap.size 1 1⟩).toArray;rw [show (w2.alloc (.cells #[Iv (n2:Nat)] tI)).heap.size=w2.heap.size+1 by simp] at NX
  have NX:=Hy NX;have KX:=Hy (hk.alloc (.cells (aH ⟨⟨3,f.p,0,f.s,0,0⟩,(Fo.one h2 k2).roots ns.length,Sl w2.heap.size 1 1⟩).toArray tN));clear hk;go_wp2_with fail;refine (bI CX.out (by simp) [93] (by simp)).mono ?_
  intro e w6 hR;rcases hR.cases with ⟨no,p,hm,rfl,hb⟩|⟨a6,s6,hm,rfl,hC,hK⟩
  ·have HE:dI X.e r f d s=.er no p:=by first|(simp only [dI,E1.out,E2.out,hm,zR];done)|(simp only [dI,E1.out,E2.out,aR hm,zR])
   have HH:=Hy2 HE hb;clear HE hb hm;go_wp2_with fail;refine ae rfl ?_;rw [<-HM.out,HH.1];exact ⟨rfl,HH.2⟩
  have E6:=Hy hm;have C6:=Hy hC;have N6:=Hy (NX.out.kept hK);have K6:=Hy (gH CX.out.at_ KX.out hK);obtain ⟨n0,n1,nn2,n3,n4,n5,n6,n7,nl,-⟩:=N6.out.blk.node;clear hm hC hK hR;go_wp2_with fail;have qA:∀g,(Sl w2.heap.size 1 1).ownBlock=some g->w.heap.size<=g:=fun g hg=>by
   simp [Value.ownBlock] at hg;have:=C2.out.kp.size;omega
  have CF:dI X.e r f d s=bz ⟨3,f.p,0,f.s,0,0⟩ (Fo.one h2 k2) s6:=by simp only [dI,E1.out,E2.out,E6.out,zR]
  have HE:=Hy CF;clear CF;refine (iD C6.out ⟨3,f.p,0,f.s,0,0⟩ (Fo.one h2 k2) F2.out qA K6.out).mono ?_;intro e Ng hR;have HR:=Hy hR;rcases hR.form with ⟨i,rfl⟩|⟨ch,rfl⟩
  ·clear hR;go_wp2_with fail;go_ret;rw [<-HM.out,HE.out];exact HR
  ·clear hR;go_wp2_with fail;refine ae rfl ?_;rw [<-HM.out,HE.out];exact HR
 ·have hk:=pW (C2.out.alloc (.cells (aH ⟨⟨3,f.p,0,f.s,0,0⟩,(Fo.one h2 k2).roots ns.length,Sl (w2.heap.size+1) 1 1⟩).toArray tN)) h2 k2 (c:=ns.length) (H:=w2.heap.size+1) (by simp)
  rw [HN.out] at hk;have CX:=Hy ((C2.out.alloc (.cells (aH ⟨⟨3,f.p,0,f.s,0,0⟩,(Fo.one h2 k2).roots ns.length,Sl (w2.heap.size+1) 1 1⟩).toArray tN)).alloc (.cells #[Iv (n2:Nat)] tI));have NX:=Hy ((C2.out.new tN (aH ⟨⟨3,f.p,0,f.s,0,0⟩,(Fo.one h2 k2).roots ns.length,Sl (w2.heap.size+1) 1 1⟩).toArray).alloc (.cells #[Iv (n2:Nat)] tI));have KX:=Hy hk;clear hk;go_wp2_with fail;refine (bI CX.out (by simp) [93] (by simp)).mono ?_
  intro e w6 hR;rcases hR.cases with ⟨no,p,hm,rfl,hb⟩|⟨a6,s6,hm,rfl,hC,hK⟩
  ·have HE:dI X.e r f d s=.er no p:=by first|(simp only [dI,E1.out,E2.out,hm,zR];done)|(simp only [dI,E1.out,E2.out,aR hm,zR])
   have HH:=Hy2 HE hb;clear HE hb hm;go_wp2_with fail;refine ae rfl ?_;rw [<-HM.out,HH.1];exact ⟨rfl,HH.2⟩
  have E6:=Hy hm;have C6:=Hy hC;have N6:=Hy (NX.out.kept hK);have K6:=Hy (gH CX.out.at_ KX.out hK);obtain ⟨n0,n1,nn2,n3,n4,n5,n6,n7,nl,-⟩:=N6.out.blk.node;clear hm hC hK hR;go_wp2_with fail;have qA:∀g,(Sl (w2.heap.size+1) 1 1).ownBlock=some g->w.heap.size<=g:=fun g hg=>by
   simp [Value.ownBlock] at hg;have:=C2.out.kp.size;omega
  have CF:dI X.e r f d s=bz ⟨3,f.p,0,f.s,0,0⟩ (Fo.one h2 k2) s6:=by simp only [dI,E1.out,E2.out,E6.out,zR]
  have HE:=Hy CF;clear CF;refine (iD C6.out ⟨3,f.p,0,f.s,0,0⟩ (Fo.one h2 k2) F2.out qA K6.out).mono ?_;intro e Ng hR;have HR:=Hy hR;rcases hR.form with ⟨i,rfl⟩|⟨ch,rfl⟩
  ·clear hR;go_wp2_with fail;go_ret;rw [<-HM.out,HE.out];exact HR
  ·clear hR;go_wp2_with fail;refine ae rfl ?_;rw [<-HM.out,HE.out];exact HR
 ·have c8:=((((((((C2.out.af Ps IC (by decide) 0 (Iv 3)).af (Ps.af 0 (Iv 3)) IC (by decide) 1 (Iv f.p)).af ((Ps.af 0 (Iv 3)).af 1 (Iv f.p)) IC (by decide) 2 (Iv 0)).af (((Ps.af 0 (Iv 3)).af 1 (Iv f.p)).af 2 (Iv 0)) IC (by decide) 3 (Ss f.s)).af ((((Ps.af 0 (Iv 3)).af 1 (Iv f.p)).af 2 (Iv 0)).af 3 (Ss f.s)) IC (by decide) 4 (Iv 0)).af (((((Ps.af 0 (Iv 3)).af 1 (Iv f.p)).af 2 (Iv 0)).af 3 (Ss f.s)).af 4 (Iv 0)) IC (by decide) 5 (Sl w2.heap.size 1 1)).af ((((((Ps.af 0 (Iv 3)).af 1 (Iv f.p)).af 2 (Iv 0)).af 3 (Ss f.s)).af 4 (Iv 0)).af 5 (Sl w2.heap.size 1 1)) IC (by decide) 6 (Iv 0)).af (((((((Ps.af 0 (Iv 3)).af 1 (Iv f.p)).af 2 (Iv 0)).af 3 (Ss f.s)).af 4 (Iv 0)).af 5 (Sl w2.heap.size 1 1)).af 6 (Iv 0)) IC (by decide) 7 (Iv 0))
  have hk:=pW c8 h2 k2 (c:=ns.length) (H:=w2.heap.size) (by simp)
  rw [HN.out] at hk;have CX:=Hy (c8.alloc (.cells #[Iv (n2:Nat)] tI));have n8:Loc X ((((((((w2.setCell (Ad w1.heap.size 0) (Iv 3)).setCell (Ad w1.heap.size 1) (Iv f.p)).setCell (Ad w1.heap.size 2) (Iv 0)).setCell (Ad w1.heap.size 3) (Ss f.s)).setCell (Ad w1.heap.size 4) (Iv 0)).setCell (Ad w1.heap.size 5) (Sl w2.heap.size 1 1)).setCell (Ad w1.heap.size 6) (Iv 0)).setCell (Ad w1.heap.size 7) (Iv 0)) v2 w1.heap.size tN (aH ⟨⟨3,f.p,0,f.s,0,0⟩,(Fo.one h2 k2).roots ns.length,Sl w2.heap.size 1 1⟩).toArray:=((((((((Ps.af 0 (Iv 3)).af 1 (Iv f.p)).af 2 (Iv 0)).af 3 (Ss f.s)).af 4 (Iv 0)).af 5 (Sl w2.heap.size 1 1)).af 6 (Iv 0)).af 7 (Iv 0));have NX:=Hy (n8.alloc (.cells #[Iv (n2:Nat)] tI));have KX:=Hy hk;clear c8 n8;clear hk;go_wp2_with fail;refine (bI CX.out (by simp) [93] (by simp)).mono ?_
  intro e w6 hR;rcases hR.cases with ⟨no,p,hm,rfl,hb⟩|⟨a6,s6,hm,rfl,hC,hK⟩
  ·have HE:dI X.e r f d s=.er no p:=by first|(simp only [dI,E1.out,E2.out,hm,zR];done)|(simp only [dI,E1.out,E2.out,aR hm,zR])
   have HH:=Hy2 HE hb;clear HE hb hm;go_wp2_with fail;refine ae rfl ?_;rw [<-HM.out,HH.1];exact ⟨rfl,HH.2⟩
  have E6:=Hy hm;have C6:=Hy hC;have N6:=Hy (NX.out.kept hK);have K6:=Hy (gH CX.out.at_ KX.out hK);obtain ⟨n0,n1,nn2,n3,n4,n5,n6,n7,nl,-⟩:=N6.out.blk.node;clear hm hC hK hR;go_wp2_with fail;have qA:∀g,(Sl w2.heap.size 1 1).ownBlock=some g->w.heap.size<=g:=fun g hg=>by
   simp [Value.ownBlock] at hg;have:=C2.out.kp.size;omega
  have CF:dI X.e r f d s=bz ⟨3,f.p,0,f.s,0,0⟩ (Fo.one h2 k2) s6:=by simp only [dI,E1.out,E2.out,E6.out,zR]
  have HE:=Hy CF;clear CF;refine (iD C6.out ⟨3,f.p,0,f.s,0,0⟩ (Fo.one h2 k2) F2.out qA K6.out).mono ?_;intro e Ng hR;have HR:=Hy hR;rcases hR.form with ⟨i,rfl⟩|⟨ch,rfl⟩
  ·clear hR;go_wp2_with fail;go_ret;rw [<-HM.out,HE.out];exact HR
  ·clear hR;go_wp2_with fail;refine ae rfl ?_;rw [<-HM.out,HE.out];exact HR
end
section
open Go.RowKit
section
variable {W:World} {b:Nat} {x0 x1 x2 x3:Value}
theorem Df (h:Ce W b 0 x0/\Ce W b 1 x1/\Ce W b 2 x2/\Ce W b 3 x3/\b<W.heap.size)(o:Obj) :
  (W.alloc o).cell? (Ad b 0)=some x0/\(W.alloc o).cell? (Ad b 1)=some x1/\(W.alloc o).cell? (Ad b 2)=some x2/\(W.alloc o).cell? (Ad b 3)=some x3/\b< (W.alloc o).heap.size:=
 ⟨(World.cell?_alloc_lt W o _ h.2.2.2.2).trans h.1,(World.cell?_alloc_lt W o _ h.2.2.2.2).trans h.2.1,(World.cell?_alloc_lt W o _ h.2.2.2.2).trans h.2.2.1,(World.cell?_alloc_lt W o _ h.2.2.2.2).trans h.2.2.2.1,by simp;omega⟩
theorem FE (h:Ce W b 0 x0/\Ce W b 1 x1/\Ce W b 2 x2/\Ce W b 3 x3/\b<W.heap.size) :
  W.drew.cell? (Ad b 0)=some x0/\W.drew.cell? (Ad b 1)=some x1/\W.drew.cell? (Ad b 2)=some x2/\W.drew.cell? (Ad b 3)=some x3/\b<W.drew.heap.size:=h
theorem Ju (h:Ce W b 0 x0/\Ce W b 1 x1/\Ce W b 2 x2/\Ce W b 3 x3/\b<W.heap.size){i:Nat}(aD:i≠b)(o:Nat)(u:Value) :
  (W.setCell (Ad i o) u).cell? (Ad b 0)=some x0/\(W.setCell (Ad i o) u).cell? (Ad b 1)=some x1/\(W.setCell (Ad i o) u).cell? (Ad b 2)=some x2/\(W.setCell (Ad i o) u).cell? (Ad b 3)=some x3/\b< (W.setCell (Ad i o) u).heap.size:=by
 have k:∀j,(W.setCell (Ad i o) u).cell? (Ad b j)=W.cell? (Ad b j):=fun j=>World.cell?_of_block (a:=Ad b j) (Below.heap_setCell W (Ad i o) u b (Ne.symm aD))
 exact ⟨(k 0).trans h.1,(k 1).trans h.2.1,(k 2).trans h.2.2.1,(k 3).trans h.2.2.2.1,by simpa using h.2.2.2.2⟩
theorem Blk.MJ {j:Nat}{T:TypeId}{cs:Array Value}(h:Blk W j T cs):W.frozen? (Ad j 0)=false/\W.frozen? (Ad j 1)=false/\W.frozen? (Ad j 2)=false/\W.frozen? (Ad j 3)=false/\W.frozen? (Ad j 4)=false/\W.frozen? (Ad j 5)=false/\W.frozen? (Ad j 6)=false/\W.frozen? (Ad j 7)=false:=
 ⟨h.frozen 0,h.frozen 1,h.frozen 2,h.frozen 3,h.frozen 4,h.frozen 5,h.frozen 6,h.frozen 7⟩
end
theorem Bu {X:Rdr}{r:Md->St->Rs Fo}(hX:KEx X r)(hS:KSt X r)(hA:KAr X r){w:World}{s:St}{ns:List NV}{v:Value}(h:At X w s ns v)(d:Nat)(hd:d<=40)(hno:bV X.e r d s≠.out) :
  Calls prog 162 #[rd X,Iv d] w (RT X w ns v (bV X.e r d s)):=by
 have hC:=Cur.start h;obtain ⟨M,hM⟩:=zN (bV X.e r d s);rw [hM];have HM:=Hy hM;have HO:=Hy hno;have C0:=Hy hC;clear hM h hC hno;have Ky:Hid (((d:Int)+1)=((d+1:Nat):Int)):=Hy (by simp)
 have Tu:Hid (IntKind.i64.wrap ((d:Int)+1)=((d+1:Nat):Int)):=Hy (by rw [IntKind.wrap_i64];omega)
 go_enter func162,ntmps162;go_wp2_with fail;refine (pG C0.out).mono ?_;intro e w1 hR;rcases hR.cases with ⟨no,p,hm,rfl,hb⟩|⟨a1,s1,hm,rfl,hC,hK⟩
 ·have HE:bV X.e r d s=.er no p:=by first|(simp only [bV,hm,zR];done)|(simp only [bV,aR hm,zR])
  have HH:=Hy2 HE hb;clear HE hb hm;go_wp2_with fail;refine ae rfl ?_;rw [<-HM.out,HH.1];exact ⟨rfl,HH.2⟩
 have E1:=Hy hm;have C1:=Hy hC;clear hm hC hK hR;rw [aP];have IC:w.heap.size<=w1.heap.size:=C1.out.kp.size;have CA:=Hy ((C1.out.alloc (.cells (fJ a1) tE)).alloc (.cells (aH ⟨⟨0,a1.p,0,a1.s,0,0⟩,[],Sn⟩).toArray tN));have TA:=Hy ((C1.out.new tE (fJ a1)).alloc (.cells (aH ⟨⟨0,a1.p,0,a1.s,0,0⟩,[],Sn⟩).toArray tN));have nA:=(C1.out.alloc (.cells (fJ a1) tE)).new tN (aH ⟨⟨0,a1.p,0,a1.s,0,0⟩,[],Sn⟩).toArray;rw [show (w1.alloc (.cells (fJ a1) tE)).heap.size=w1.heap.size+1 by simp] at nA
 have NA:=Hy nA;clear nA;go_wp2_with fail;refine (jS CA.out).mono ?_;rintro e w2 ⟨rfl,hC,hK⟩;have C2:=Hy hC;have T2:=Hy ((TA.out).kept hK);have N2:=Hy ((NA.out).kept hK);clear hC hK;go_wp2_with fail;refine (kQ C2.out _).mono ?_;rintro e w3 ⟨rfl,hC,hK⟩;have C3:=Hy hC;have T3:=Hy ((T2.out).kept hK);have N3:=Hy ((N2.out).kept hK);clear hC hK;have eZ:bV X.e r d s=if q (pk X.e s1)=[61] then (r (.bin (d+1) 1) s1.nx).bind fun a s=>(must X.e [59] s).bind fun _ s=>bz ⟨13,a1.p,0,a1.s,0,0⟩ a s
  else if q (pk X.e s1)=[91] then (cu X.e r d s1).bind fun a s=>bz ⟨14,a1.p,0,a1.s,0,0⟩ a s
  else if q (pk X.e s1)=[40] then (dY X.e r a1 (d+1) s1).bind fun a s=>(must X.e [59] s).bind fun _ s=>bz ⟨21,a1.p,0,[],0,0⟩ a s
  else if q (pk X.e s1)=[58] then (r (.stm (d+1)) s1.nx).bind fun a s=>bz ⟨18,a1.p,0,a1.s,0,0⟩ a s
  else wr X.e 2 s1:=by
  simp only [bV,E1.out,Rs.bind_ok]
 have FK:=C3.out.at_.fin;have OB:q (pk X.e s1)≠[]->s1.l≠[]:=fun h1 e=>h1 (by simp only [pk,e,List.headD_nil,lY FK])
 generalize IL:pk X.e s1=t at *;by_cases hq:q t=[61]
 ·have O8:=hq;rw [if_pos hq] at eZ;have Lc:=Hy eZ;have hn:=OB (by rw [hq];simp)
  have iA:r (.bin (d+1) 1) s1.nx≠.out:=dD (by rw [<-eZ];exact HO)
  clear eZ OB;rw [hq];go_wp2_with fail;refine (gQ C3.out hn).mono ?_;rintro e w4 ⟨rfl,hC,hK⟩;have C4:=Hy hC;have T4:=Hy ((T3.out).kept hK);have N4:=Hy ((N3.out).kept hK);clear hC hK;go_wp2_with fail;rw [Ky.out];refine (hX (d+1) w4 s1.nx ns v (by omega) C4.out.at_ iA).mono ?_
  intro e w5 jB;have hR:=(C4.out).rd jB;rcases hR.cases with ⟨no,p,hm,rfl,hb⟩|⟨h5,k5,s5,v5,O3,hm,rfl,hC,hK,hF⟩
  ·have HE:bV X.e r d s=.er no p:=by
    rw [Lc.out];simp only [hm,Rs.bind_ok,Rs.aB]
   have HH:=Hy2 HE hb;clear HE hb hm;go_wp2_with fail;refine ae rfl ?_;rw [<-HM.out,HH.1];exact ⟨rfl,HH.2⟩
  have E5:=Hy hm;have C5:=Hy hC;have F5:=Hy hF;have T5:=Hy ((T4.out).kept hK);have N5:=Hy ((N4.out).kept hK);clear hm hC hK hR jB hF;obtain ⟨Vk,Vj,SK,QK,Nc4,YR,Nc6,Nc7,NK,YQ⟩:=N5.out.blk.node;have ZY:=N5.out.blk.oW 0;have Zh:=Hy (((C5.out.af N5.out (by omega) (by decide) 0 (Iv 13)).af (N5.out.af 0 (Iv 13)) (by omega) (by decide) 5 (Sl w5.heap.size 1 1)).alloc (.cells #[Iv (ns.length+k5.size:Nat)] tI))
  have N5s:Hid (Loc X (((w5.setCell (Ad (w1.heap.size+1) 0) (Iv 13)).setCell (Ad (w1.heap.size+1) 5) (Sl w5.heap.size 1 1)).alloc (.cells #[Iv (ns.length+k5.size:Nat)] tI)) v5 (w1.heap.size+1) tN (aH ⟨⟨13,a1.p,0,a1.s,0,0⟩,[ns.length+k5.size],Sl w5.heap.size 1 1⟩).toArray):=Hy (((N5.out.af 0 (Iv 13)).af 5 (Sl w5.heap.size 1 1)).alloc (.cells #[Iv (ns.length+k5.size:Nat)] tI));have K5s:=Hy (pW ((C5.out.af N5.out (by omega) (by decide) 0 (Iv 13)).af (N5.out.af 0 (Iv 13)) (by omega) (by decide) 5 (Sl w5.heap.size 1 1)) h5 k5 (c:=ns.length) (H:=w5.heap.size) (by simp))
  go_wp2_with fail;refine (bI Zh.out (by simp) [59] (by simp)).mono ?_
  intro e w6 hR;rcases hR.cases with ⟨no,p,hm,rfl,hb⟩|⟨a6,s6,hm,rfl,hC,hK⟩
  ·have HE:bV X.e r d s=.er no p:=by
    rw [Lc.out];simp only [E5.out,hm,Rs.bind_ok,Rs.aB]
   have HH:=Hy2 HE hb;clear HE hb hm;go_wp2_with fail;refine ae rfl ?_;rw [<-HM.out,HH.1];exact ⟨rfl,HH.2⟩
  have E6:=Hy hm;have C6:=Hy hC;have N6:=Hy ((N5s.out).kept hK);have K6:=Hy (gH (Zh.out).at_ K5s.out hK);clear hm hC hK hR;obtain ⟨n0,n1,n2,n3,n4,n5,n6,n7,nl,-⟩:=N6.out.blk.node;go_wp2_with fail;have qA:∀g,(Sl w5.heap.size 1 1).ownBlock=some g->w.heap.size<=g:=fr1 C5.out;have CF:bV X.e r d s=bz ⟨13,a1.p,0,a1.s,0,0⟩ (Fo.one h5 k5) s6:=by rw [Lc.out];simp only [E5.out,E6.out,Rs.bind_ok]
  have HE:=Hy CF;clear CF;refine (iD C6.out ⟨13,a1.p,0,a1.s,0,0⟩ (Fo.one h5 k5) F5.out qA K6.out).mono ?_;intro e Ng hR;have HR:=Hy hR;rcases hR.form with ⟨i,rfl⟩|⟨ch,rfl⟩
  ·clear hR;go_wp2_with fail;go_ret;rw [<-HM.out,HE.out];exact HR
  ·clear hR;go_wp2_with fail;refine ae rfl ?_;rw [<-HM.out,HE.out];exact HR
 by_cases hq2:q t=[91]
 ·have O8:=hq2;rw [if_neg hq,if_pos hq2] at eZ;have Lc:=Hy eZ;have iA:cu X.e r d s1≠.out:=dD (by rw [<-eZ];exact HO)
  clear eZ OB;rw [hq2];go_wp2_with fail;refine (yg hX C3.out.at_ d hd iA).mono ?_;intro e w4 hR;rcases (C3.out).ra hR with ⟨no,p,hm,rfl,hb⟩|⟨a4,s4,v4,Zk,g4,m4,ZW,hm,rfl,hC,hK,hF,JH,kH,ZK⟩
  ·have HE:bV X.e r d s=.er no p:=by
    rw [Lc.out];simp only [hm,Rs.bind_ok,Rs.aB]
   have HH:=Hy2 HE hb;clear HE hb hm;go_wp2_with fail;refine ae rfl ?_;rw [<-HM.out,HH.1];exact ⟨rfl,HH.2⟩
  have E4:=Hy hm;have C4:=Hy hC;have F4:=Hy hF;have T4:=Hy ((T3.out).kept hK);have N4:=Hy ((N3.out).kept hK);obtain ⟨Vk,Vj,SK,QK,Nc4,YR,Nc6,Nc7,NK,YQ⟩:=N4.out.blk.node;have ZY:=N4.out.blk.oW 0;have Ncl3:=N3.out.blk.lt;have hwg:w.heap.size<=g4:=by have:=C3.out.kp.size;omega
  have hgj:g4≠w1.heap.size+1:=by omega
  have C5:=Hy ((hC.af N4.out (by omega) (by decide) 0 (Iv 14)).af (N4.out.af 0 (Iv 14)) (by omega) (by decide) 5 (Sl g4 m4 ZW))
  have N5:Hid (Loc X ((w4.setCell (Ad (w1.heap.size+1) 0) (Iv 14)).setCell (Ad (w1.heap.size+1) 5) (Sl g4 m4 ZW)) v4 (w1.heap.size+1) tN (aH ⟨⟨14,a1.p,0,a1.s,0,0⟩,a4.roots ns.length,Sl g4 m4 ZW⟩).toArray):=Hy ((N4.out.af 0 (Iv 14)).af 5 (Sl g4 m4 ZW));have K5:=Hy (aJ (w':=(w4.setCell (Ad (w1.heap.size+1) 0) (Iv 14)).setCell (Ad (w1.heap.size+1) 5) (Sl g4 m4 ZW)) (aJ (w':=w4.setCell (Ad (w1.heap.size+1) 0) (Iv 14)) JH fun g' Ir=>Below.heap_setCell w4 _ _ g' (by simp [Value.ownBlock] at Ir;simp;omega)) fun g' Ir=>Below.heap_setCell _ _ _ g' (by simp [Value.ownBlock] at Ir;simp;omega))
  have qA:∀g,(Sl g4 m4 ZW).ownBlock=some g->w.heap.size<=g:=fun g hg=>by simp [Value.ownBlock] at hg;omega
  obtain ⟨n0,n1,n2,n3,n4,n5,n6,n7,nl,-⟩:=N5.out.blk.node;have HFR:=Hy qA;clear hm hC hK hR hF JH kH ZK iA qA n0 n1 n2 n3 n4 n5 n6 n7 nl;go_wp2_with fail;have CF:bV X.e r d s=bz ⟨14,a1.p,0,a1.s,0,0⟩ a4 s4:=by rw [Lc.out];simp only [E4.out,Rs.bind_ok]
  have HE:=Hy CF;clear CF;refine (iD C5.out ⟨14,a1.p,0,a1.s,0,0⟩ a4 F4.out HFR K5.out).mono ?_;intro e Ng hR;have HR:=Hy hR;rcases hR.form with ⟨i,rfl⟩|⟨ch,rfl⟩
  ·clear hR;go_wp2_with fail;go_ret;rw [<-HM.out,HE.out];exact HR
  ·clear hR;go_wp2_with fail;refine ae rfl ?_;rw [<-HM.out,HE.out];exact HR
 by_cases hq3:q t=[40]
 ·have O8:=hq3;rw [if_neg hq,if_neg hq2,if_pos hq3] at eZ;have Lc:=Hy eZ;have iA:dY X.e r a1 (d+1) s1≠.out:=dD (by rw [<-eZ];exact HO)
  have g1:(q t == [61])=false:=by simpa using hq
  have g2:(q t == [91])=false:=by simpa using hq2
  clear eZ OB hq hq2;have Og:=C3.out.tree fun W hW=>xL hA hW a1 (d+1) (by omega) iA
  have Na:=fun no p (hm:dY X.e r a1 (d+1) s1=.er no p)=>(by rw [Lc.out,hm];rfl:bV X.e r d s=.er no p)
  have QL:=Hy Og;have Ol:=Hy Na;obtain ⟨Wp,SI,Wo,SH,SE⟩:=T3.out.blk.tok;clear Og Na iA;rw [hq3];go_wp2_with fail;go_region_held2 (fun W=>Ce W w1.heap.size 0 (Iv a1.k)/\Ce W w1.heap.size 1 (Iv a1.p)/\Ce W w1.heap.size 2 (Iv a1.n)/\Ce W w1.heap.size 3 (Ss a1.s)/\w1.heap.size<W.heap.size) (repeat (first|(with_reducible exact ⟨Wp,SI,Wo,SH,SE⟩)|(with_reducible exact ⟨T50,T51,T52,T53,T5l⟩)|(with_reducible refine FE ?_)|(with_reducible refine Df ?_ _)|(with_reducible refine Ju ?_ (by omega) _ _))) (first|(go_at_call 182;rw [Tu.out,<-aP];refine (QL _ (by exact bd1 _)).mono ?_;intro e w5 hR;rcases hR.cases with ⟨no,p,hm,rfl,hb⟩|⟨h5,k5,s5,v5,O3,hm,rfl,hC,hK,hF⟩;(refine ae rfl ?_;rw [<-HM.out,Ol.out no p hm];exact ⟨rfl,hb⟩);generalize Ti:ns.length+k5.size=n5;have HN:=Hy Ti;clear Ti;have C5:=Hy hC;have F5:=Hy hF;have E5:=Hy hm;have T5:=(T3.out.go (bd1 _)).kept hK;have N5:=Hy ((N3.out.go (bd1 _)).kept hK);obtain ⟨T50,T51,T52,T53,T5l⟩:=T5.blk.tok;obtain ⟨N50,N51,N52,N53,N54,N55,N56,N57,N5l,-⟩:=N5.out.blk.node;obtain ⟨M50,M51,M52,M53,M54,M55,M56,M57⟩:=N5.out.blk.MJ;clear hR hm hC hF hK T5))
  have c8:=((((((((C5.out.af N5.out (by omega) (by decide) 0 (Iv 21)).af (N5.out.af 0 (Iv 21)) (by omega) (by decide) 1 (Iv a1.p)).af ((N5.out.af 0 (Iv 21)).af 1 (Iv a1.p)) (by omega) (by decide) 2 (Iv 0)).af (((N5.out.af 0 (Iv 21)).af 1 (Iv a1.p)).af 2 (Iv 0)) (by omega) (by decide) 3 (.string ⟨#[]⟩)).af ((((N5.out.af 0 (Iv 21)).af 1 (Iv a1.p)).af 2 (Iv 0)).af 3 (.string ⟨#[]⟩)) (by omega) (by decide) 4 (Iv 0)).af (((((N5.out.af 0 (Iv 21)).af 1 (Iv a1.p)).af 2 (Iv 0)).af 3 (.string ⟨#[]⟩)).af 4 (Iv 0)) (by omega) (by decide) 5 (Sl w5.heap.size 1 1)).af ((((((N5.out.af 0 (Iv 21)).af 1 (Iv a1.p)).af 2 (Iv 0)).af 3 (.string ⟨#[]⟩)).af 4 (Iv 0)).af 5 (Sl w5.heap.size 1 1)) (by omega) (by decide) 6 (Iv 0)).af (((((((N5.out.af 0 (Iv 21)).af 1 (Iv a1.p)).af 2 (Iv 0)).af 3 (.string ⟨#[]⟩)).af 4 (Iv 0)).af 5 (Sl w5.heap.size 1 1)).af 6 (Iv 0)) (by omega) (by decide) 7 (Iv 0))
  have hk:=pW c8 h5 k5 (c:=ns.length) (H:=w5.heap.size) (by simp)
  rw [HN.out] at hk;have CX:=Hy (c8.alloc (.cells #[Iv (n5:Nat)] tI));have n8:Loc X ((((((((w5.setCell (Ad (w1.heap.size+1) 0) (Iv 21)).setCell (Ad (w1.heap.size+1) 1) (Iv a1.p)).setCell (Ad (w1.heap.size+1) 2) (Iv 0)).setCell (Ad (w1.heap.size+1) 3) (.string ⟨#[]⟩)).setCell (Ad (w1.heap.size+1) 4) (Iv 0)).setCell (Ad (w1.heap.size+1) 5) (Sl w5.heap.size 1 1)).setCell (Ad (w1.heap.size+1) 6) (Iv 0)).setCell (Ad (w1.heap.size+1) 7) (Iv 0)) v5 (w1.heap.size+1) tN (aH ⟨⟨21,a1.p,0,[],0,0⟩,(Fo.one h5 k5).roots ns.length,Sl w5.heap.size 1 1⟩).toArray:=((((((((N5.out.af 0 (Iv 21)).af 1 (Iv a1.p)).af 2 (Iv 0)).af 3 (.string ⟨#[]⟩)).af 4 (Iv 0)).af 5 (Sl w5.heap.size 1 1)).af 6 (Iv 0)).af 7 (Iv 0));have NX:=Hy (n8.alloc (.cells #[Iv (n5:Nat)] tI));have KX:=Hy hk;clear c8 n8 hk;go_wp2_with fail;refine (bI CX.out (by simp) [59] (by simp)).mono ?_
  intro e w6 hR;rcases hR.cases with ⟨no,p,hm,rfl,hb⟩|⟨a6,s6,hm,rfl,hC,hK⟩
  ·have HE:bV X.e r d s=.er no p:=by
    rw [Lc.out];simp only [E5.out,hm,Rs.bind_ok,Rs.aB]
   have HH:=Hy2 HE hb;clear HE hb hm;go_wp2_with fail;refine ae rfl ?_;rw [<-HM.out,HH.1];exact ⟨rfl,HH.2⟩
  have E6:=Hy hm;have C6:=Hy hC;have N6:=Hy (NX.out.kept hK);have K6:=Hy (gH CX.out.at_ KX.out hK);obtain ⟨n0,n1,nn2,n3,n4,nn5,n6,n7,nl,-⟩:=N6.out.blk.node;clear hm hC hK hR;go_wp2_with fail;have qA:∀g,(Sl w5.heap.size 1 1).ownBlock=some g->w.heap.size<=g:=fr1 C5.out;have CF:bV X.e r d s=bz ⟨21,a1.p,0,[],0,0⟩ (Fo.one h5 k5) s6:=by rw [Lc.out];simp only [E5.out,E6.out,Rs.bind_ok]
  have HE:=Hy CF;clear CF;refine (iD C6.out ⟨21,a1.p,0,[],0,0⟩ (Fo.one h5 k5) F5.out qA K6.out).mono ?_;intro e Ng hR;have HR:=Hy hR;rcases hR.form with ⟨i,rfl⟩|⟨ch,rfl⟩
  ·clear hR;go_wp2_with fail;go_ret;rw [<-HM.out,HE.out];exact HR
  ·clear hR;go_wp2_with fail;refine ae rfl ?_;rw [<-HM.out,HE.out];exact HR
 by_cases hq4:q t=[58]
 ·have O8:=hq4;rw [if_neg hq,if_neg hq2,if_neg hq3,if_pos hq4] at eZ;have Lc:=Hy eZ;have hn:=OB (by rw [hq4];simp)
  have iA:r (.stm (d+1)) s1.nx≠.out:=dD (by rw [<-eZ];exact HO)
  clear eZ OB;rw [hq4];go_wp2_with fail;refine (gQ C3.out hn).mono ?_;rintro e w4 ⟨rfl,hC,hK⟩;have C4:=Hy hC;have T4:=Hy ((T3.out).kept hK);have N4:=Hy ((N3.out).kept hK);clear hC hK;go_wp2_with fail;rw [Ky.out];refine (hS (d+1) w4 s1.nx ns v (by omega) C4.out.at_ iA).mono ?_
  intro e w5 jB;have hR:=(C4.out).rd jB;rcases hR.cases with ⟨no,p,hm,rfl,hb⟩|⟨h5,k5,s5,v5,O3,hm,rfl,hC,hK,hF⟩
  ·have HE:bV X.e r d s=.er no p:=by
    rw [Lc.out];simp only [hm,Rs.bind_ok,Rs.aB]
   have HH:=Hy2 HE hb;clear HE hb hm;go_wp2_with fail;refine ae rfl ?_;rw [<-HM.out,HH.1];exact ⟨rfl,HH.2⟩
  have E5:=Hy hm;have C5:=Hy hC;have F5:=Hy hF;have T5:=Hy ((T4.out).kept hK);have N5:=Hy ((N4.out).kept hK);clear hm hC hK hR jB hF;obtain ⟨Vk,Vj,SK,QK,Nc4,YR,Nc6,Nc7,NK,YQ⟩:=N5.out.blk.node;have ZY:=N5.out.blk.oW 0;have Zh:=Hy (((C5.out.af N5.out (by omega) (by decide) 0 (Iv 18)).af (N5.out.af 0 (Iv 18)) (by omega) (by decide) 5 (Sl w5.heap.size 1 1)).alloc (.cells #[Iv (ns.length+k5.size:Nat)] tI))
  have N5s:Hid (Loc X (((w5.setCell (Ad (w1.heap.size+1) 0) (Iv 18)).setCell (Ad (w1.heap.size+1) 5) (Sl w5.heap.size 1 1)).alloc (.cells #[Iv (ns.length+k5.size:Nat)] tI)) v5 (w1.heap.size+1) tN (aH ⟨⟨18,a1.p,0,a1.s,0,0⟩,[ns.length+k5.size],Sl w5.heap.size 1 1⟩).toArray):=Hy (((N5.out.af 0 (Iv 18)).af 5 (Sl w5.heap.size 1 1)).alloc (.cells #[Iv (ns.length+k5.size:Nat)] tI));have K5s:=Hy (pW ((C5.out.af N5.out (by omega) (by decide) 0 (Iv 18)).af (N5.out.af 0 (Iv 18)) (by omega) (by decide) 5 (Sl w5.heap.size 1 1)) h5 k5 (c:=ns.length) (H:=w5.heap.size) (by simp))
  go_wp2_with fail;have qA:∀g,(Sl w5.heap.size 1 1).ownBlock=some g->w.heap.size<=g:=fr1 C5.out;have CF:bV X.e r d s=bz ⟨18,a1.p,0,a1.s,0,0⟩ (Fo.one h5 k5) s5:=by rw [Lc.out];simp only [E5.out,Rs.bind_ok]
  have HE:=Hy CF;clear CF;refine (iD Zh.out ⟨18,a1.p,0,a1.s,0,0⟩ (Fo.one h5 k5) F5.out qA K5s.out).mono ?_;intro e Ng hR;have HR:=Hy hR;rcases hR.form with ⟨i,rfl⟩|⟨ch,rfl⟩
  ·clear hR;go_wp2_with fail;go_ret;rw [<-HM.out,HE.out];exact HR
  ·clear hR;go_wp2_with fail;refine ae rfl ?_;rw [<-HM.out,HE.out];exact HR
 ·have O8:=hq4;rw [if_neg hq,if_neg hq2,if_neg hq3,if_neg hq4] at eZ;have HE:=Hy eZ;have g1:(q t == [61])=false:=by simpa using hq
  have g2:(q t == [91])=false:=by simpa using hq2
  have g3:(q t == [40])=false:=by simpa using hq3
  have g4:(q t == [58])=false:=by simpa using hq4
  clear eZ OB hq hq2 hq3 hq4;go_wp2_with fail;refine (mJ C3.out 2).mono ?_;rintro e w5 ⟨rfl,hb⟩;have HB:=Hy hb;clear hb;go_wp2_with fail;refine ae rfl ?_;rw [<-HM.out,HE.out];exact ⟨by rw [IL];rfl,HB⟩
end
section
open Go.RowKit Go.MapKept
def stK:List (List UInt8×Nat):=[([123],109),(lQ,110),(iO,110),(wIf,111),(gP,112),(jF,113),(dS,114),(mU,115)]
def wF:List MapEntry:=[⟨.string (str [123]),.func (.func 109) #[] #[],0⟩,⟨Ss lQ,.func (.func 110) #[] #[],1⟩,⟨Ss iO,.func (.func 110) #[] #[],2⟩,⟨Ss wIf,.func (.func 111) #[] #[],3⟩,⟨Ss gP,.func (.func 112) #[] #[],4⟩,⟨Ss jF,.func (.func 113) #[] #[],5⟩,⟨Ss dS,.func (.func 114) #[] #[],6⟩,⟨Ss mU,.func (.func 115) #[] #[],7⟩]
def stF (l:List UInt8):Option Nat:=(stK.find? fun p=>decide (p.1=l)).map (·.2)
theorem De (a b:List UInt8):(str a == str b)=decide (b=a):=by
 rw [Bool.eq_iff_iff,bytes_beq,decide_eq_true_eq];exact ⟨fun e=>by have:=congrArg (fun x=>x.data.toList) e;simpa using this.symm,fun e=>by rw [e]⟩
abbrev tM:TypeId:=124
theorem D5 (mb:Nat)(es:Array MapEntry)(clock:Nat)(Sr:es.toList=wF)(l:List UInt8)(w:World)(hb:w.heap[mb]? =some (.map es clock)) :
  (Instr.lookup tM (.map (some mb)) (Ss l) true).run prog w=.ok (.tuple #[match stF l with|some f=>.func (.func f) #[] #[]|none=>.nilFunc,.bool (stF l).isSome]) w:=by
 have hz:(zeroValue 149).run prog w=.ok .nilFunc w:=by kernel_rfl
 have hk:IsKey .string (Ss l):=by simp [IsKey]
 obtain ⟨a,ha,ZJ⟩:∃a,Instr.findNow .string (Ss l) es.toList 0=some a/\a.map (·.2)=(stF l).map fun f=>(.func (.func f) #[] #[]:Value):=by
  rw [Sr];simp only [wF,stF,stK,Instr.findNow,Instr.sameNow,De,List.find?_cons,List.find?_nil];by_cases h0:[123]=l
  ·simp [h0]
  by_cases h1:lQ=l
  ·simp [h0,h1]
  by_cases h2:iO=l
  ·simp [h0,h1,h2]
  by_cases h3:wIf=l
  ·simp [h0,h1,h2,h3]
  by_cases h4:gP=l
  ·simp [h0,h1,h2,h3,h4]
  by_cases h5:jF=l
  ·simp [h0,h1,h2,h3,h4,h5]
  by_cases h6:dS=l
  ·simp [h0,h1,h2,h3,h4,h5,h6]
  by_cases h7:mU=l
  ·simp [h0,h1,h2,h3,h4,h5,h6,h7]
  ·simp [h0,h1,h2,h3,h4,h5,h6,h7]
 have hfk:=run_findKey (P:=prog) (w:=w) (kt:=9) (d:=.string) (l:=es.toList) (k:=Ss l) underlying9 ha;have Uy:=fun b=>run_checkKey (P:=prog) (w:=w) (kt:=9) (d:=.string) (k:=Ss l) underlying9 hk b 9999
 cases a with
 |none=>
  have hs:stF l=none:=by cases h:stF l with
   |none=>rfl
   |some f=>rw [h] at ZJ;cases ZJ
  rw [hs];simp [Instr.lookup,run_underlying underlying124,MapKept.run_getObj_map hb,Uy,hfk,hz,Result.andThen]
 |some p=>
  obtain ⟨f,hs,hp⟩:∃f,stF l=some f/\p.2=.func (.func f) #[] #[]:=by cases h:stF l with
   |none=>rw [h] at ZJ;cases ZJ
   |some f=>rw [h] at ZJ;exact ⟨f,rfl,Option.some.inj ZJ⟩
  rw [hs];simp [Instr.lookup,run_underlying underlying124,MapKept.run_getObj_map hb,Uy,hfk,hp,Result.andThen]
theorem AY {e:Tok}{r:Md->St->Rs Fo}{d:Nat}{s:St} :
  (if jX (pk e s) then bV e r d s
 else if q (pk e s)=[123] then bu e r d s
 else if q (pk e s)=lQ then bH e r d s
 else if q (pk e s)=iO then bH e r d s
 else if q (pk e s)=wIf then ifB e r d s
 else if q (pk e s)=gP then fI e r d s
 else if q (pk e s)=jF then iB e d s
 else if q (pk e s)=dS then iR e r d s
 else if q (pk e s)=mU then jr e r d s
 else wr e 2 s)=if jX (pk e s) then bV e r d s else match stF (q (pk e s)) with|some f=>if f=109 then bu e r d s else if f=110 then bH e r d s else if f=111 then ifB e r d s else if f=112 then fI e r d s else if f=113 then iB e d s else if f=114 then iR e r d s else jr e r d s|none=>wr e 2 s:=by
 split
 ·rfl
 generalize q (pk e s)=l;by_cases h0:l=[123]
 ·subst h0;rfl
 by_cases h1:l=lQ
 ·subst h1;rfl
 by_cases h2:l=iO
 ·subst h2;rfl
 by_cases h3:l=wIf
 ·subst h3;rfl
 by_cases h4:l=gP
 ·subst h4;rfl
 by_cases h5:l=jF
 ·subst h5;rfl
 by_cases h6:l=dS
 ·subst h6;rfl
 by_cases h7:l=mU
 ·subst h7;rfl
 have hs:stF l=none:=by
  simp only [stF,stK,List.find?_cons,List.find?_nil,decide_eq_false (Ne.symm h0),decide_eq_false (Ne.symm h1),decide_eq_false (Ne.symm h2),decide_eq_false (Ne.symm h3),decide_eq_false (Ne.symm h4),decide_eq_false (Ne.symm h5),decide_eq_false (Ne.symm h6),decide_eq_false (Ne.symm h7),Option.map_none]
 rw [hs,if_neg h0,if_neg h1,if_neg h2,if_neg h3,if_neg h4,if_neg h5,if_neg h6,if_neg h7]
end
section
open Go.RowKit
theorem A8 {l:List UInt8}{f:Nat}(h:stF l=some f):f=109∨f=110∨f=111∨f=112∨f=113∨f=114∨f=115:=by
 unfold stF at h;cases hf:stK.find? fun p=>decide (p.1=l) with
 |none=>rw [hf] at h;cases h
 |some p=>
  rw [hf] at h;have hm:=List.mem_of_find?_eq_some hf;simp only [Option.map_some,Option.some.injEq] at h;subst h;simp only [stK,List.mem_cons,List.not_mem_nil,or_false] at hm;rcases hm with rfl|rfl|rfl|rfl|rfl|rfl|rfl|rfl <;> simp
theorem Fq:stF []=none:=by decide
theorem sw {X:Rdr}{r:Md->St->Rs Fo}{es:Array MapEntry}{clock:Nat}(QD:X.mo=.map es clock)(Sr:es.toList=wF)(hX:KEx X r)(hS:KSt X r)(hA:KAr X r)
  (hB:∀(d:Nat) (w:World) (s:St) (ns:List NV) (v:Value),d<=40->At X w s ns v->bu X.e r d s≠.out->Calls prog 109 #[rd X,Iv d] w (RT X w ns v (bu X.e r d s)))
  {w:World} {s:St} {ns:List NV} {v:Value} (h:At X w s ns v) (d:Nat) (hd:d<=100) (hno:jm X.e r d s≠.out) :
  Calls prog 143 #[rd X,Iv d] w (RT X w ns v (jm X.e r d s)):=by
 have hC:=Cur.start h;obtain ⟨M,hM⟩:=zN (jm X.e r d s);rw [hM];have HM:=Hy hM;have HO:=Hy hno;have C0:=Hy hC;clear hM h hC hno;go_enter func143,ntmps143;go_wp2_with fail;refine (Ay C0.out d (by omega)).mono ?_
 intro e w1 hR;rcases hR.cases with ⟨no,p,hm,rfl,hb⟩|⟨a1,s1,hm,rfl,hC,hK⟩
 ·have HE:jm X.e r d s=.er no p:=by first|(simp only [jm,hm,zR];done)|(simp only [jm,aR hm,zR])
  have HH:=Hy2 HE hb;clear HE hb hm;go_wp2_with fail;refine ae rfl ?_;rw [<-HM.out,HH.1];exact ⟨rfl,HH.2⟩
 have E1:=Hy hm;have C1:=Hy hC;clear hm hC hK hR;obtain ⟨U5,Od⟩:s1=s/\d<=40:=by
  have:=E1.out;unfold fM at this;split at this
  ·cases this
  ·cases this;exact ⟨rfl,by omega⟩
 subst U5;have DJ:jm X.e r d s1=if jX (pk X.e s1) then bV X.e r d s1 else match stF (q (pk X.e s1)) with|some f=>if f=109 then bu X.e r d s1 else if f=110 then bH X.e r d s1 else if f=111 then ifB X.e r d s1 else if f=112 then fI X.e r d s1 else if f=113 then iB X.e d s1 else if f=114 then iR X.e r d s1 else jr X.e r d s1|none=>wr X.e 2 s1:=by
  simp only [jm,E1.out,Rs.bind_ok];exact AY
 have Lx:=Hy DJ;clear DJ;go_wp2_with fail;refine (jS C1.out).mono ?_;rintro e w2 ⟨rfl,hC,hK⟩;have C2:=Hy hC;clear hC hK;go_wp2_with fail;refine (xN C2.out _).mono ?_;rintro e w3 ⟨rfl,hC,hK⟩;have C3:=Hy hC;clear hC hK;have FK:=C3.out.at_.fin;have OB:q (pk X.e s1)≠[]->s1.l≠[]:=fun h1 e=>h1 (by simp only [pk,e,List.headD_nil,lY FK])
 cases hn:jX (pk X.e s1)
 ·have Pf:=hn;have c7:=C3.out.at_.blk.cell 7;simp only [fZ,List.getElem?_toArray,List.getElem?_cons_zero,List.getElem?_cons_succ] at c7;have eu:=C3.out.at_.blk.lt;have HC:=Hy c7;unfold rd at *;have RI:=Hy Pf;clear Pf;clear hn;go_wp2_with fail;go_region_held2 (fun W=>Ce W X.b 7 (.map (some X.mb))/\X.b<W.heap.size) (first|(with_reducible exact ⟨c7,eu⟩)|exact ⟨c7,eu⟩|(with_reducible exact ⟨c75,hbl5⟩)|(with_reducible exact ⟨c76,hbl6⟩)) (first|(go_at_call 79;refine (jS (C3.out.go (bd1 _))).mono ?_;rintro e w5 ⟨rfl,hC,hK⟩;have C5:=Hy hC;have c75:=hC.at_.blk.cell 7;simp only [fZ,List.getElem?_toArray,List.getElem?_cons_zero,List.getElem?_cons_succ] at c75;have hbl5:=hC.at_.blk.lt;clear hC hK)|(go_at_call 117;refine (kQ C5.out _).mono ?_;rintro e w6 ⟨rfl,hC,hK⟩;have C6:=Hy hC;have c76:=hC.at_.blk.cell 7;simp only [fZ,List.getElem?_toArray,List.getElem?_cons_zero,List.getElem?_cons_succ] at c76;have hbl6:=hC.at_.blk.lt;have Oa:=D5 X.mb es clock Sr (q (pk X.e s1)) w6 (by rw [hC.at_.mph,QD]);generalize Yl:stF (q (pk X.e s1))=fq at Oa;have Rh:=Hy Yl;clear Yl hC hK))
  cases fq with
  |none=>
   have HE:jm X.e r d s1=wr X.e 2 s1:=by rw [Lx.out];simp only [RI.out,Bool.false_eq_true,if_false,Rh.out]
   have HE:=Hy HE;go_wp2_with fail;have hw:=mJ C6.out 2;unfold rd at hw;refine hw.mono ?_;rintro e w7 ⟨rfl,hb⟩;have HB:=Hy hb;clear hb hw;go_wp2_with fail;refine ae rfl ?_;rw [<-HM.out,HE.out];exact ⟨rfl,HB⟩
  |some f=>
   have aD:=OB (fun e=>by have h1:=Rh.out;rw [e,Fq] at h1;cases h1)
   have HNE:=Hy aD;clear aD OB;rcases A8 Rh with rfl|rfl|rfl|rfl|rfl|rfl|rfl
   ·have C9:=C6;go_wp2_with fail;have HE:jm X.e r d s1=bu X.e r d s1:=by rw [Lx.out];simp only [RI.out,Bool.false_eq_true,if_false,Rh.out];rfl
    have HE:=Hy HE;have Gq:=hB d w6 s1 ns v Od C9.out.at_ (by have:=HO.out;rw [HE.out] at this;exact this)
    unfold rd at Gq;refine Gq.mono ?_;intro e Ou jB;have hR:RT X w ns v (bu X.e r d s1) e Ou:=kw C9.out jB;have HR:=Hy hR;rcases hR.form with ⟨i,rfl⟩|⟨ch,rfl⟩
    ·clear hR jB Gq;go_wp2_with fail;go_ret;rw [<-HM.out,HE.out];exact HR
    ·clear hR jB Gq;go_wp2_with fail;refine ae rfl ?_;rw [<-HM.out,HE.out];exact HR
   ·have C9:=C6;go_wp2_with fail;have HE:jm X.e r d s1=bH X.e r d s1:=by rw [Lx.out];simp only [RI.out,Bool.false_eq_true,if_false,Rh.out];rfl
    have HE:=Hy HE;have Gq:=BC hX C9.out.at_ d Od (by have:=HO.out;rw [HE.out] at this;exact this)
    unfold rd at Gq;refine Gq.mono ?_;intro e Ou jB;have hR:RT X w ns v (bH X.e r d s1) e Ou:=kw C9.out jB;have HR:=Hy hR;rcases hR.form with ⟨i,rfl⟩|⟨ch,rfl⟩
    ·clear hR jB Gq;go_wp2_with fail;go_ret;rw [<-HM.out,HE.out];exact HR
    ·clear hR jB Gq;go_wp2_with fail;refine ae rfl ?_;rw [<-HM.out,HE.out];exact HR
   ·have C9:=C6;go_wp2_with fail;have HE:jm X.e r d s1=ifB X.e r d s1:=by rw [Lx.out];simp only [RI.out,Bool.false_eq_true,if_false,Rh.out];rfl
    have HE:=Hy HE;have Gq:=zm hX hS C9.out.at_ d Od HNE (by have:=HO.out;rw [HE.out] at this;exact this)
    unfold rd at Gq;refine Gq.mono ?_;intro e Ou jB;have hR:RT X w ns v (ifB X.e r d s1) e Ou:=kw C9.out jB;have HR:=Hy hR;rcases hR.form with ⟨i,rfl⟩|⟨ch,rfl⟩
    ·clear hR jB Gq;go_wp2_with fail;go_ret;rw [<-HM.out,HE.out];exact HR
    ·clear hR jB Gq;go_wp2_with fail;refine ae rfl ?_;rw [<-HM.out,HE.out];exact HR
   ·have C9:=C6;go_wp2_with fail;have HE:jm X.e r d s1=fI X.e r d s1:=by rw [Lx.out];simp only [RI.out,Bool.false_eq_true,if_false,Rh.out];rfl
    have HE:=Hy HE;have Gq:=DY hX hS C9.out.at_ d Od HNE (by have:=HO.out;rw [HE.out] at this;exact this)
    unfold rd at Gq;refine Gq.mono ?_;intro e Ou jB;have hR:RT X w ns v (fI X.e r d s1) e Ou:=kw C9.out jB;have HR:=Hy hR;rcases hR.form with ⟨i,rfl⟩|⟨ch,rfl⟩
    ·clear hR jB Gq;go_wp2_with fail;go_ret;rw [<-HM.out,HE.out];exact HR
    ·clear hR jB Gq;go_wp2_with fail;refine ae rfl ?_;rw [<-HM.out,HE.out];exact HR
   ·have C9:=C6;go_wp2_with fail;have HE:jm X.e r d s1=iB X.e d s1:=by rw [Lx.out];simp only [RI.out,Bool.false_eq_true,if_false,Rh.out];rfl
    have HE:=Hy HE;have Gq:=Ec C9.out.at_ d Od HNE;unfold rd at Gq;refine Gq.mono ?_;intro e Ou jB;have hR:RT X w ns v (iB X.e d s1) e Ou:=kw C9.out jB;have HR:=Hy hR;rcases hR.form with ⟨i,rfl⟩|⟨ch,rfl⟩
    ·clear hR jB Gq;go_wp2_with fail;go_ret;rw [<-HM.out,HE.out];exact HR
    ·clear hR jB Gq;go_wp2_with fail;refine ae rfl ?_;rw [<-HM.out,HE.out];exact HR
   ·have C9:=C6;go_wp2_with fail;have HE:jm X.e r d s1=iR X.e r d s1:=by rw [Lx.out];simp only [RI.out,Bool.false_eq_true,if_false,Rh.out];rfl
    have HE:=Hy HE;have Gq:=BF hX C9.out.at_ d Od HNE (by have:=HO.out;rw [HE.out] at this;exact this)
    unfold rd at Gq;refine Gq.mono ?_;intro e Ou jB;have hR:RT X w ns v (iR X.e r d s1) e Ou:=kw C9.out jB;have HR:=Hy hR;rcases hR.form with ⟨i,rfl⟩|⟨ch,rfl⟩
    ·clear hR jB Gq;go_wp2_with fail;go_ret;rw [<-HM.out,HE.out];exact HR
    ·clear hR jB Gq;go_wp2_with fail;refine ae rfl ?_;rw [<-HM.out,HE.out];exact HR
   ·have C9:=C6;go_wp2_with fail;have HE:jm X.e r d s1=jr X.e r d s1:=by rw [Lx.out];simp only [RI.out,Bool.false_eq_true,if_false,Rh.out];rfl
    have HE:=Hy HE;have Gq:=yC hX C9.out.at_ d Od HNE (by have:=HO.out;rw [HE.out] at this;exact this)
    unfold rd at Gq;refine Gq.mono ?_;intro e Ou jB;have hR:RT X w ns v (jr X.e r d s1) e Ou:=kw C9.out jB;have HR:=Hy hR;rcases hR.form with ⟨i,rfl⟩|⟨ch,rfl⟩
    ·clear hR jB Gq;go_wp2_with fail;go_ret;rw [<-HM.out,HE.out];exact HR
    ·clear hR jB Gq;go_wp2_with fail;refine ae rfl ?_;rw [<-HM.out,HE.out];exact HR
 ·have Pf:=hn;go_wp2_with fail;have C9:=C3;have HE:jm X.e r d s1=bV X.e r d s1:=by rw [Lx.out];simp only [hn,if_true]
  have HE:=Hy HE;refine (Bu hX hS hA C9.out.at_ d Od (by have:=HO.out;rw [HE.out] at this;exact this)).mono ?_
  intro e Ou jB;have hR:RT X w ns v (bV X.e r d s1) e Ou:=kw C9.out jB;have HR:=Hy hR;rcases hR.form with ⟨i,rfl⟩|⟨ch,rfl⟩
  ·clear hR jB;go_wp2_with fail;go_ret;rw [<-HM.out,HE.out];exact HR
  ·clear hR jB;go_wp2_with fail;refine ae rfl ?_;rw [<-HM.out,HE.out];exact HR
end
section
open Go.RowKit
theorem FH {X:Rdr}{es:Array MapEntry}{clock:Nat}(QD:X.mo=.map es clock)(Sr:es.toList=wF)(n:Nat):KBn X (run X.e n)/\KOp X (run X.e n)/\KAr X (run X.e n)/\KSt X (run X.e n):=by
 induction n using Nat.strongRecOn with
 |_ n ih=>
  cases n with
  |zero=>exact ⟨fun d l w s ns v _ _ _ _ h=>absurd rfl h,fun d w s ns v _ _ h=>absurd rfl h,fun d w s ns v _ _ h=>absurd rfl h,fun d w s ns v _ _ h=>absurd rfl h⟩
  |succ n=>
   have h0:=ih n (by omega)
   have hX:KEx X (run X.e n):=mq h0.1;have hL:KEl X (run X.e n):=fun f d w s ns v hd h hno=>xB hX h f d hd hno
   have hB:∀(d:Nat) (w:World) (s:St) (ns:List NV) (v:Value),d<=40->At X w s ns v->bu X.e (run X.e n) d s≠.out->Calls prog 109 #[rd X,Iv d] w (RT X w ns v (bu X.e (run X.e n) d s)):=
    fun d w s ns v hd h hno=>uq n (fun j hj=>(ih j (by omega)).2.2.2) h d hd hno
   exact ⟨fun d l w s ns v hd h1 h2 h hno=>zo n h0.2.1 (fun j hj=>(ih j (by omega)).1) h d l hd h1 h2 hno,
    fun d w s ns v hd h hno=>wU h0.2.1 hX h0.2.2.1 hL h d hd hno,
    fun d w s ns v hd h hno=>sJ n (fun j hj=>mq (ih j (by omega)).1) h d hd hno,
    fun d w s ns v hd h hno=>sw QD Sr hX h0.2.2.2 h0.2.2.1 hB h d hd hno⟩
theorem xO {X:Rdr}{es:Array MapEntry}{clock:Nat}(QD:X.mo=.map es clock)(Sr:es.toList=wF)(n:Nat){w:World}{s:St}{ns:List NV}{v:Value}(h:At X w s ns v)(d:Nat)(hd:d<=40)
  (hno:bu X.e (run X.e n) d s≠.out):Calls prog 109 #[rd X,Iv d] w (RT X w ns v (bu X.e (run X.e n) d s)):=
 uq n (fun j hj=>(FH QD Sr j).2.2.2) h d hd hno
end
section
open Go.RowKit
abbrev tFn:TypeId:=42
def fnA (f:Fn') (pv:Value) (b:Nat):Array Value:=#[Ss f.s,Iv f.ty,pv,Iv (b:Nat),Iv f.p,Sn]
def fnV (f:Fn') (pv:Value) (b:Nat):Value:=.agg (fnA f pv b)
theorem rP:(prog.info? tFn).map (·.size)=some 6:=by kernel_rfl
def fz:Fn':=⟨[],0,[],0,0⟩
theorem Dn {fn:Func}{R:Ending->World->Prop}{a:Act}{w:World}{b:Nat}{p:Nat}{x:Fn'}{pv:Value}{k:Nat}{T:TypeId}{fr:Nat×Nat}(hf:fn.results= #[.cell p tFn])(hd:a.defers=[])
  (h2:a.tmps.getD p undef=Pt b) (hb:w.heap[b]? =some (.cells (fnA x pv k) T fr))
  (hR:R (.returned (fnV x pv k)) w):bodyPost prog fn R .ret a w:=
 bodyPost_ret (v:=fnV x pv k) (results_cell_row hf _ _ b T _ fr _ h2 hb underlying42 rfl rP) hd hR
theorem Blk.fn {W:World}{j:Nat}{T:TypeId}{f:Fn'}{pv:Value}{k:Nat}(h:Blk W j T (fnA f pv k)) :
  (Ce W j 0 (Ss f.s)/\Ce W j 1 (Iv f.ty)/\Ce W j 2 pv/\Ce W j 3 (Iv (k:Nat))/\Ce W j 4 (Iv f.p)/\Ce W j 5 (Sn))/\j<W.heap.size/\
  (W.frozen? (Ad j 0)=false/\W.frozen? (Ad j 1)=false/\W.frozen? (Ad j 2)=false/\W.frozen? (Ad j 3)=false/\W.frozen? (Ad j 4)=false/\W.frozen? (Ad j 5)=false):=
 ⟨⟨h.cell 0,h.cell 1,h.cell 2,h.cell 3,h.cell 4,h.cell 5⟩,h.lt,h.frozen 0,h.frozen 1,h.frozen 2,h.frozen 3,h.frozen 4,h.frozen 5⟩
def PmS (X:Rdr) (w W:World) (pv:Value) (l:List Pm):Prop:=(l=[]/\pv=Sn)∨∃g n cp,pv=Sl g n cp/\gJ X w W g n cp l
theorem gJ.far {X:Rdr}{w W:World}{g n cp:Nat}{l:List Pm}(h:gJ X w W g n cp l){j:Nat}(aD:g≠j)(o:Nat)(x:Value):gJ X w (W.setCell (Ad j o) x) g n cp l:=
 ⟨aJ h.row fun i hi=>Below.heap_setCell W (Ad j o) x i (by simp [Value.ownBlock] at hi;rw [<-hi];exact aD),h.new⟩
theorem gJ.old {X:Rdr}{w W0 W:World}{g n cp:Nat}{l:List Pm}(h:gJ X W0 W g n cp l)(hs:w.heap.size<=W0.heap.size):gJ X w W g n cp l:=⟨h.row,Nat.le_trans hs h.new⟩
theorem PmS.far {X:Rdr}{w W:World}{pv:Value}{l:List Pm}(h:PmS X w W pv l){j:Nat}(aD:∀g,pv.ownBlock=some g->g≠j)(o:Nat)(x:Value):PmS X w (W.setCell (Ad j o) x) pv l:=
 h.imp id fun ⟨g,n,cp,h1,h2⟩=>⟨g,n,cp,h1,h2.far (aD g (by rw [h1];rfl)) o x⟩
theorem PmS.kept {X:Rdr}{w W W':World}{s:St}{ns:List NV}{u u' pv:Value}{l:List Pm}(h:PmS X w W pv l)(hA:At X W s ns u)(hk:Kp X W u W' u'):PmS X w W' pv l:=
 h.imp id fun ⟨g,n,cp,h1,h2⟩=>⟨g,n,cp,h1,h2.kept hA hk⟩
theorem below_setRow {B:Nat}(W:World)(j:Nat)(cs:Array Value)(h:B<=j):Below B W (W.setRow j cs):=⟨rfl,rfl,rfl,by simp,fun k hk=>setRow_other W j k cs (by omega)⟩
theorem Cur.qm {X:Rdr}{w W:World}{v u:Value}{s:St}{ns:List NV}{j:Nat}{t:TypeId}{cs:Array Value}(h:Cur X w v W s ns u)(hl:Loc X W u j t cs)(hw:w.heap.size<=j)(ht:t≠tR/\t≠tI)(cs':Array Value):Cur X w v (W.setRow j cs') s ns u where
 at_:=h.at_.far hl.blk ht hl.base hl.neo (fun g _ aD=>setRow_other W j g cs' aD) (by simp)
 kp:=h.kp.down (below_setRow W j cs' hw)
 low:=h.low.trans (below_setRow W j cs' hl.base)
theorem gJ.qm {X:Rdr}{w W:World}{g n cp:Nat}{l:List Pm}(h:gJ X w W g n cp l){j:Nat}(aD:g≠j)(cs:Array Value):gJ X w (W.setRow j cs) g n cp l:=
 ⟨aJ h.row fun i hi=>setRow_other W j i cs (by simp [Value.ownBlock] at hi;omega),h.new⟩
theorem PmS.qm {X:Rdr}{w W:World}{pv:Value}{l:List Pm}(h:PmS X w W pv l){j:Nat}(aD:∀g,pv.ownBlock=some g->g≠j)(cs:Array Value):PmS X w (W.setRow j cs) pv l:=
 h.imp id fun ⟨g,n,cp,h1,h2⟩=>⟨g,n,cp,h1,h2.qm (aD g (by rw [h1];rfl)) cs⟩
def RFn (X:Rdr) (w:World) (ns:List NV) (v:Value) (R:Rs (Fn'×Fo)) (e:Ending) (w':World):Prop:=
 match R with
 | .ok x s=>∃v' nk pv,e=.returned (fnV x.1 pv x.1.b)/\PmS X w w' pv x.1.ps/\At X w' s (ns ++ nk) v'/\Kp X w v w' v'/\Fl w nk x.2 ns.length
 | .er no p=>e=Pan no p/\Below X.base w w'
 | .out=>False
theorem RP.cases {X:Rdr}{w:World}{ns:List NV}{v:Value}{R:Rs (List Pm)}{e:Ending}{w':World}(h:RP X w ns v R e w') :
  (∃no p,R=.er no p/\e=.panicked [{v:=.iface tF (fQ no p),recovered:=false}]/\Below X.base w w')∨(∃l s' g n cp,R=.ok l s'/\e=.returned (Sl g n cp)/\Cur X w v w' s' ns v/\gJ X w w' g n cp l):=by
 cases R with
 |ok a s'=>obtain ⟨g,n,cp,h1,h2,h3⟩:=h;exact .inr ⟨a,s',g,n,cp,rfl,h1,h2,h3⟩
 |er no p=>exact .inl ⟨no,p,rfl,h⟩
 |out=>exact h.elim
theorem oz {X:Rdr}{es:Array MapEntry}{clock:Nat}(QD:X.mo=.map es clock)(Sr:es.toList=wF)(k:Nat){w:World}{s:St}{ns:List NV}{v:Value}(h:At X w s ns v)(kind:Int)(t:Tok)(hno:bE X.e k kind t s≠.out) :
  Calls prog 83 #[rd X,Iv kind,iF t] w (RFn X w ns v (bE X.e k kind t s)):=by
 have h0:=Cur.start h;have C0:=Hy ((h0.alloc (.cells (fJ t) tE)).alloc (.cells (fnA fz (Sn) 0) tFn));have R0:=Hy ((h0.alloc (.cells (fJ t) tE)).new tFn (fnA fz (Sn) 0));have T0:=Hy ((h0.new tE (fJ t)).alloc (.cells (fnA fz (Sn) 0) tFn));have e1:(w.alloc (.cells (fJ t) tE)).heap.size=w.heap.size+1:=by simp
 rw [e1] at R0;have eZ:bE X.e k kind t s=(must X.e [40] s).bind fun _ s=>(if isT X.e [41] s then Rs.ok [] s else iw X.e k s).bind fun ps s=>
  (must X.e [41] s).bind fun _ s=>(bu X.e (run X.e k) 1 s).bind fun b s=>.ok (⟨t.s,kind,ps,s.c - 1,t.p⟩,b) s:=rfl
 obtain ⟨M,hM⟩:=zN (bE X.e k kind t s);rw [hM] at eZ hno |-;have HM:=Hy eZ;have PN:=Hy hno;clear h hM e1 eZ hno h0;rw [aP];go_enter func83,ntmps83;go_wp2_with fail;refine (bI C0.out (by simp) [40] (by simp)).mono ?_
 intro e w1 hR;rcases hR.cases with ⟨no,p,hm,rfl,hb⟩|⟨a1,s1,hm,rfl,hC,hK⟩
 ·have HE:M=.er no p:=by rw [HM.out];simp only [hm,Rs.bind_ok,Rs.aB]
  have HH:=Hy2 HE hb;clear HE hb hm;go_wp2_with fail;refine ae rfl ?_;rw [HH.1];exact ⟨rfl,HH.2⟩
 have RJ:Hid (M=(if isT X.e [41] s1 then Rs.ok [] s1 else iw X.e k s1).bind fun ps s=>
  (must X.e [41] s).bind fun _ s=>(bu X.e (run X.e k) 1 s).bind fun b s=>.ok (⟨t.s,kind,ps,s.c - 1,t.p⟩,b) s):=Hy (by rw [HM.out,hm];rfl)
 have IC:w.heap.size+1+1<=w1.heap.size:=by have:=hK.size;simp at this;omega
 have C1:=Hy (hC.alloc (.cells (fnA ⟨t.s,kind,[],0,t.p⟩ (Sn) 0) tFn));have R1:=Hy ((R0.out.kept hK).alloc (.cells (fnA ⟨t.s,kind,[],0,t.p⟩ (Sn) 0) tFn));have N1:=Hy (hC.new tFn (fnA ⟨t.s,kind,[],0,t.p⟩ (Sn) 0));obtain ⟨T1,T2,T3,T4,T5⟩:=(T0.out.kept hK).blk.tok;clear hm hC hK hR;go_wp2_with fail;clear T1 T2 T3 T4 T5;refine (EL C1.out [41]).mono ?_;rintro e w2 ⟨rfl,hC,hK⟩;have C2:=Hy hC;have R2:=Hy (R1.out.kept hK);have N2:=Hy (N1.out.kept hK);clear hC hK;cases hq:isT X.e [41] s1
 ·have O8:=hq;have iA:iw X.e k s1≠.out:=fun e=>PN (by rw [RJ.out,if_neg (by simp [O8]),e];rfl)
  have I4:=Hy iA;clear iA;obtain ⟨-,NK,-⟩:=N2.out.blk.fn;go_wp2_with fail;refine (yA k C2.out.at_ I4).mono ?_;intro e w3 hR;rcases hR.cases with ⟨no,p,hm,rfl,hb⟩|⟨l,s3,g,n,cp,hm,rfl,hC,hA⟩
  ·have HE:M=.er no p:=by rw [RJ.out,if_neg (by simp [O8]),hm];rfl
   have HH:=Hy2 HE (C2.out.low.trans hb);clear HE hb hm;go_wp2_with fail;refine ae rfl ?_;rw [HH.1];exact ⟨rfl,HH.2⟩
  have MX:Hid (M=(must X.e [41] s3).bind fun _ s=>(bu X.e (run X.e k) 1 s).bind fun b s=>.ok (⟨t.s,kind,l,s.c - 1,t.p⟩,b) s):=Hy (by rw [RJ.out,if_neg (by simp [O8]),hm];rfl)
  have hgj:w1.heap.size<g:=zT NK hA.new;have C3:=Hy (C2.out.step hC.at_ hC.kp);have N3:=Hy (N2.out.kept hC.kp);have CX:=Hy (C3.out.af N3.out (by omega) (by decide) 2 (Sl g n cp))
  have NX:Hid (Loc X _ v w1.heap.size tFn (fnA ⟨t.s,kind,[],0,t.p⟩ (Sl g n cp) 0)):=Hy (N3.out.af 2 (Sl g n cp));have RX:=Hy ((R2.out.kept hC.kp).far (by omega) 2 (Sl g n cp):Loc X (w3.setCell (Ad w1.heap.size 2) (Sl g n cp)) v (w.heap.size+1) tFn (fnA fz (Sn) 0))
  have PX:Hid (PmS X w (w3.setCell (Ad w1.heap.size 2) (Sl g n cp)) (Sl g n cp) l):=Hy (.inr ⟨g,n,cp,rfl,(hA.old C2.out.kp.size).far (by omega) 2 _⟩)
  have GX:Hid (∀g',(Sl g n cp).ownBlock=some g'->g'≠w1.heap.size/\g'≠w.heap.size+1):=Hy (fun g' e=>by simp [Value.ownBlock] at e;omega)
  obtain ⟨⟨-,-,Pc2,-,-,-⟩,Pcl,⟨-,-,Pf2,-,-,-⟩⟩:=N3.out.blk.fn;clear hm hC hA hR I4 RJ;go_wp2_with fail;refine (bI CX.out (by simp) [41] (by simp)).mono ?_
  intro e w4 hR;rcases hR.cases with ⟨no,p,hm,rfl,hb⟩|⟨a4,s4,hm,rfl,hC,hK⟩
  ·have HE:M=.er no p:=by rw [MX.out,hm];rfl
   have HH:=Hy2 HE hb;clear HE hb hm;go_wp2_with fail;refine ae rfl ?_;rw [HH.1];exact ⟨rfl,HH.2⟩
  have M4:Hid (M=(bu X.e (run X.e k) 1 s4).bind fun b s=>.ok (⟨t.s,kind,l,s.c - 1,t.p⟩,b) s):=Hy (by rw [MX.out,hm];rfl)
  have C4:=Hy hC;have R4:=Hy (RX.out.kept hK);have N4:=Hy (NX.out.kept hK);have P4:=Hy (PX.out.kept CX.out.at_ hK);have HB4:Hid (bu X.e (run X.e k) 1 s4≠.out):=Hy (fun e=>PN (by rw [M4.out,e];rfl))
  clear hm hC hK hR;go_wp2_with fail;refine (xO QD Sr k C4.out.at_ 1 (by omega) HB4).mono ?_
  intro e w5 hR;rcases (C4.out.rd hR).cases with ⟨no,p,hm,rfl,hb⟩|⟨h5,k5,s5,v5,O3,hm,rfl,hC,hK,hF⟩
  ·have HE:M=.er no p:=by rw [M4.out,hm];rfl
   have HH:=Hy2 HE hb;clear HE hb hm hR;go_wp2_with fail;refine ae rfl ?_;rw [HH.1];exact ⟨rfl,HH.2⟩
  have Vb:s5.c - 1=ns.length+k5.size:=by
   have h1:=hC.at_.cnt;have h2:O3.length=k5.size+1:=bS hF;simp only [List.length_append] at h1;omega
  have M5:Hid (M=.ok (⟨t.s,kind,l,ns.length+k5.size,t.p⟩,Fo.one h5 k5) s5):=Hy (by rw [M4.out,hm,<-Vb];rfl)
  have R5:=Hy (R4.out.kept hK);have N5:=Hy (N4.out.kept hK);have P5:=Hy (P4.out.kept C4.out.at_ hK);have C5:=Hy hC;have F5:=Hy hF;clear hm hC hK hR hF Vb;generalize Ti:ns.length+k5.size=n5 at M5 |-;have aD:w1.heap.size≠w.heap.size+1:=by omega
  obtain ⟨⟨-,-,-,QK,-,-⟩,Nl,⟨-,-,-,YP,-,-⟩⟩:=N5.out.blk.fn;go_upto_region 7 with (fail);clear QK Nl YP;have C6:=C5.out.af N5.out (by omega) (by decide) 3 (Iv (n5:Nat))
  have R6:Loc X (w5.setCell (Ad w1.heap.size 3) (Iv (n5:Nat))) v5 (w.heap.size+1) tFn (fnA fz (Sn) 0):=R5.out.far (Ne.symm aD) 3 (Iv (n5:Nat));have P6:=P5.out.far (fun g h=>(GX.out g h).1) 3 (Iv (n5:Nat))
  have N6:Loc X (w5.setCell (Ad w1.heap.size 3) (Iv (n5:Nat))) v5 w1.heap.size tFn (fnA ⟨t.s,kind,l,n5,t.p⟩ (Sl g n cp) n5):=N5.out.af 3 (Iv (n5:Nat));generalize w5.setCell (Ad w1.heap.size 3) (Iv (n5:Nat))=W6 at C6 R6 P6 N6 |-;have C12:=Hy (C6.qm R6 (by omega) (by decide) (fnA ⟨t.s,kind,l,n5,t.p⟩ (Sl g n cp) n5))
  have P12:=Hy (P6.qm (fun g h=>(GX.out g h).2) (fnA ⟨t.s,kind,l,n5,t.p⟩ (Sl g n cp) n5))
  have Y2:Hid ((W6.setRow (w.heap.size+1) (fnA ⟨t.s,kind,l,n5,t.p⟩ (Sl g n cp) n5)).heap[w.heap.size+1]? =some (.cells (fnA ⟨t.s,kind,l,n5,t.p⟩ (Sl g n cp) n5) tFn (0,0))):=Hy (setRow_heap W6 (w.heap.size+1) _ _ tFn (0,0) R6.blk);have NB:=Hy N6.blk;have RB:=Hy R6.blk;clear C6 R6 P6 N6 Ti;refine wp_region_list ?_;refine wpList_load_row rfl tFn _ rfl w1.heap.size rfl tFn (fnA ⟨t.s,kind,l,n5,t.p⟩ (Sl g n cp) n5) (0,0) _ NB.out underlying42 rfl rP ?_;refine wpList_store_row rfl tFn _ _ rfl (w.heap.size+1) (fnA ⟨t.s,kind,l,n5,t.p⟩ (Sl g n cp) n5) rfl rfl tFn (fnA fz (Sn) 0) RB.out rP rfl (by simp [fnA,Value.oneCell']) ?_
  refine wpList_nil ?_;go_wp2_with fail;refine Dn (b:=w.heap.size+1) (T:=tFn) (fr:=(0,0)) (x:=⟨t.s,kind,l,n5,t.p⟩) (pv:=Sl g n cp) (k:=n5) rfl rfl rfl Y2 ?_;rw [M5.out];exact ⟨v5,O3,(Sl g n cp),rfl,P12.out,C12.out.at_,C12.out.kp,F5.out⟩
 ·have O8:=hq;have MX:Hid (M=(must X.e [41] s1).bind fun _ s=>(bu X.e (run X.e k) 1 s).bind fun b s=>.ok (⟨t.s,kind,[],s.c - 1,t.p⟩,b) s):=Hy (by rw [RJ.out,if_pos O8];rfl)
  have CX:=C2;have NX:=N2;have RX:=R2;have PX:Hid (PmS X w w2 (Sn) []):=Hy (.inl ⟨rfl,rfl⟩);have GX:Hid (∀g',(Sn).ownBlock=some g'->g'≠w1.heap.size/\g'≠w.heap.size+1):=Hy (fun g' e=>by cases e)
  clear RJ;go_wp2_with fail;refine (bI CX.out (by simp) [41] (by simp)).mono ?_
  intro e w4 hR;rcases hR.cases with ⟨no,p,hm,rfl,hb⟩|⟨a4,s4,hm,rfl,hC,hK⟩
  ·have HE:M=.er no p:=by rw [MX.out,hm];rfl
   have HH:=Hy2 HE hb;clear HE hb hm;go_wp2_with fail;refine ae rfl ?_;rw [HH.1];exact ⟨rfl,HH.2⟩
  have M4:Hid (M=(bu X.e (run X.e k) 1 s4).bind fun b s=>.ok (⟨t.s,kind,[],s.c - 1,t.p⟩,b) s):=Hy (by rw [MX.out,hm];rfl)
  have C4:=Hy hC;have R4:=Hy (RX.out.kept hK);have N4:=Hy (NX.out.kept hK);have P4:=Hy (PX.out.kept CX.out.at_ hK);have HB4:Hid (bu X.e (run X.e k) 1 s4≠.out):=Hy (fun e=>PN (by rw [M4.out,e];rfl))
  clear hm hC hK hR;go_wp2_with fail;refine (xO QD Sr k C4.out.at_ 1 (by omega) HB4).mono ?_
  intro e w5 hR;rcases (C4.out.rd hR).cases with ⟨no,p,hm,rfl,hb⟩|⟨h5,k5,s5,v5,O3,hm,rfl,hC,hK,hF⟩
  ·have HE:M=.er no p:=by rw [M4.out,hm];rfl
   have HH:=Hy2 HE hb;clear HE hb hm hR;go_wp2_with fail;refine ae rfl ?_;rw [HH.1];exact ⟨rfl,HH.2⟩
  have Vb:s5.c - 1=ns.length+k5.size:=by
   have h1:=hC.at_.cnt;have h2:O3.length=k5.size+1:=bS hF;simp only [List.length_append] at h1;omega
  have M5:Hid (M=.ok (⟨t.s,kind,[],ns.length+k5.size,t.p⟩,Fo.one h5 k5) s5):=Hy (by rw [M4.out,hm,<-Vb];rfl)
  have R5:=Hy (R4.out.kept hK);have N5:=Hy (N4.out.kept hK);have P5:=Hy (P4.out.kept C4.out.at_ hK);have C5:=Hy hC;have F5:=Hy hF;clear hm hC hK hR hF Vb;generalize Ti:ns.length+k5.size=n5 at M5 |-;have aD:w1.heap.size≠w.heap.size+1:=by omega
  obtain ⟨⟨-,-,-,QK,-,-⟩,Nl,⟨-,-,-,YP,-,-⟩⟩:=N5.out.blk.fn;go_upto_region 7 with (fail);clear QK Nl YP;have C6:=C5.out.af N5.out (by omega) (by decide) 3 (Iv (n5:Nat))
  have R6:Loc X (w5.setCell (Ad w1.heap.size 3) (Iv (n5:Nat))) v5 (w.heap.size+1) tFn (fnA fz (Sn) 0):=R5.out.far (Ne.symm aD) 3 (Iv (n5:Nat));have P6:=P5.out.far (fun g h=>(GX.out g h).1) 3 (Iv (n5:Nat))
  have N6:Loc X (w5.setCell (Ad w1.heap.size 3) (Iv (n5:Nat))) v5 w1.heap.size tFn (fnA ⟨t.s,kind,[],n5,t.p⟩ (Sn) n5):=N5.out.af 3 (Iv (n5:Nat));generalize w5.setCell (Ad w1.heap.size 3) (Iv (n5:Nat))=W6 at C6 R6 P6 N6 |-;have C12:=Hy (C6.qm R6 (by omega) (by decide) (fnA ⟨t.s,kind,[],n5,t.p⟩ (Sn) n5))
  have P12:=Hy (P6.qm (fun g h=>(GX.out g h).2) (fnA ⟨t.s,kind,[],n5,t.p⟩ (Sn) n5))
  have Y2:Hid ((W6.setRow (w.heap.size+1) (fnA ⟨t.s,kind,[],n5,t.p⟩ (Sn) n5)).heap[w.heap.size+1]? =some (.cells (fnA ⟨t.s,kind,[],n5,t.p⟩ (Sn) n5) tFn (0,0))):=Hy (setRow_heap W6 (w.heap.size+1) _ _ tFn (0,0) R6.blk);have NB:=Hy N6.blk;have RB:=Hy R6.blk;clear C6 R6 P6 N6 Ti;refine wp_region_list ?_;refine wpList_load_row rfl tFn _ rfl w1.heap.size rfl tFn (fnA ⟨t.s,kind,[],n5,t.p⟩ (Sn) n5) (0,0) _ NB.out underlying42 rfl rP ?_;refine wpList_store_row rfl tFn _ _ rfl (w.heap.size+1) (fnA ⟨t.s,kind,[],n5,t.p⟩ (Sn) n5) rfl rfl tFn (fnA fz (Sn) 0) RB.out rP rfl (by simp [fnA,Value.oneCell']) ?_
  refine wpList_nil ?_;go_wp2_with fail;refine Dn (b:=w.heap.size+1) (T:=tFn) (fr:=(0,0)) (x:=⟨t.s,kind,[],n5,t.p⟩) (pv:=Sn) (k:=n5) rfl rfl rfl Y2 ?_;rw [M5.out];exact ⟨v5,O3,(Sn),rfl,P12.out,C12.out.at_,C12.out.kp,F5.out⟩
end
section
open Go.RowKit
def j6 (T:TypeId):Prop:=T≠tR/\T≠tI/\T≠tN
structure iE (X:Rdr) (T:TypeId) (sz:Nat) (w W:World) (v:Value) (n:Nat) (cs:List Value):Prop where
 row:W.ownsRow X.base T sz v n cs
 new:∀g,v.ownBlock=some g->w.heap.size<=g
theorem iE.nil (X:Rdr)(T:TypeId)(sz:Nat)(w W:World):iE X T sz w W (Sn) 0 []:=⟨World.ownsRow_nil _ _ _ _,fun g h=>by cases h⟩
section
variable {X:Rdr} {T:TypeId} {sz:Nat} {w W W':World} {v u u' x:Value} {n:Nat} {cs:List Value} {s:St} {ns:List NV}
theorem iE.blk (h:iE X T sz w W x n cs){g:Nat}(hg:x.ownBlock=some g):X.base<=g/\g<W.heap.size/\∃c,W.heap[g]? =some (.cells c T (0,0)):=by
 refine ⟨(h.row.lt g hg).1,(h.row.lt g hg).2,?_⟩;rcases h.row.2 with ⟨hv,_⟩|⟨g',cap,cur,hv,_,hb,_⟩
 ·rw [hv] at hg;cases hg
 ·rw [hv] at hg;simp [Value.ownBlock] at hg;exact ⟨cur,by rw [<-hg];exact hb⟩
theorem iE.own (h:iE X T sz w W x n cs)(hT:j6 T)(hA:At X W s ns u){g:Nat}(hg:x.ownBlock=some g):some g≠u.ownBlock:=fun e=>by
 obtain ⟨-,-,c,hb⟩:=h.blk hg;rcases hA.rows.2 with ⟨hv,_⟩|⟨g',cap,cur,hv,_,Kq,_⟩
 ·rw [hv] at e;simp [Value.ownBlock] at e
 ·rw [hv] at e;simp [Value.ownBlock] at e;rw [<-e,hb] at Kq;simp at Kq;exact absurd Kq.2 hT.2.2
theorem iE.neb (h:iE X T sz w W x n cs)(hT:j6 T)(hA:At X W s ns u){g:Nat}(hg:x.ownBlock=some g):g≠X.b:=fun e=>by
 obtain ⟨-,-,c,hb⟩:=h.blk hg;have h1:=hA.blk;unfold Blk at h1;rw [<-e,hb] at h1;simp at h1;exact absurd h1.2 hT.1
theorem iE.kept (h:iE X T sz w W x n cs)(hT:j6 T)(hA:At X W s ns u)(hk:Kp X W u W' u'):iE X T sz w W' x n cs:=
 ⟨aJ h.row fun i hi=>hk.block i (h.row.lt i hi).2 (h.neb hT hA hi) (h.own hT hA hi),h.new⟩
theorem iE.far (h:iE X T sz w W x n cs){j:Nat}(aD:∀g,x.ownBlock=some g->g≠j)(o:Nat)(y:Value):iE X T sz w (W.setCell (Ad j o) y) x n cs:=
 ⟨aJ h.row fun i hi=>Below.heap_setCell W (Ad j o) y i (aD i hi),h.new⟩
theorem iE.go (h:iE X T sz w W x n cs)(hb:Zw W W'):iE X T sz w W' x n cs:=
 ⟨aJ h.row fun i hi=>hb.block i (h.row.lt i hi).2,h.new⟩
theorem iE.grown (h:iE X T sz w W x n cs){r:Option Nat}(hg:W.grownBy W' r)(hr:∀i,x.ownBlock=some i->r≠some i):iE X T sz w W' x n cs:=
 ⟨aJ h.row fun i hi=>hg.block i (h.row.lt i hi).2 (fun e=>hr i hi (by rw [<-e])),h.new⟩
theorem iE.push {w1:World}{x1:Value}{cs1:List Value}(h:iE X T sz w W x n cs)(hT:j6 T)(hC:Cur X w v W s ns u){o:Obj}
  (hr:w1.ownsRow X.base T sz x1 (n+1) cs1) (hg:(W.alloc o).grownBy w1 x.ownBlock) (kH:x1.ownBlock=x.ownBlock∨∀g,x1.ownBlock=some g->W.heap.size<=g) :
  Cur X w v w1 s ns u/\iE X T sz w w1 x1 (n+1) cs1:=by
 have hA:At X w1 s ns u:=by
  cases hx:x.ownBlock with
  |none=>
   rw [hx] at hg;exact (hC.alloc o).at_.below (nE hg)
  |some g=>
   obtain ⟨av,aU,c,hb⟩:=h.blk hx;have V7:(W.alloc o).heap[g]? =some (.cells c T (0,0)):=(heap_alloc_old _ _ (h:=aU)).trans hb;exact (hC.alloc o).at_.far V7 ⟨hT.1,hT.2.1⟩ av (h.own hT hC.at_ hx) (fun i hi aD=>hg.block i hi (fun e=>by rw [hx] at e;cases e;exact aD rfl)) hg.size
 have Qi:Below w.heap.size (W.alloc o) w1:=⟨hg.os,hg.tape,hg.output,hg.size,fun k hk=>hg.block k (zT hk (hC.alloc o).kp.size) (fun e=>by have:=h.new k e.symm;omega)⟩
 refine ⟨⟨hA,(hC.alloc o).kp.down Qi,(hC.alloc o).low.trans ⟨hg.os,hg.tape,hg.output,hg.size,fun k hk=>hg.block k (by have:=(hC.alloc o).at_.eu;omega) (fun e=>by have:=(h.blk e.symm).1;omega)⟩⟩,hr,?_⟩
 rcases kH with e|e
 ·rw [e];exact h.new
 ·intro g LZ;have:=e g LZ;have:=hC.kp.size;omega
end
end
end Go.Proofs.YtcchdlnfeijinaaGreatDoor
