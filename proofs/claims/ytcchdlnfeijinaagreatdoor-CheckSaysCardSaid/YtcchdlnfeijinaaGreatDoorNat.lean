/- Crg to Crs: Layer check, the document's answer: an expression. -/
import Derived.Test.YtcchdlnfeijinaaGreatDoorNas
import Derived.Test.YtcchdlnfeijinaaGreatDoorNar
namespace Go.Proofs.YtcchdlnfeijinaaGreatDoor
open Go.Proofs.Tryz
set_option linter.unusedSimpArgs false
set_option linter.unusedVariables false
set_option maxHeartbeats 4000000
set_option maxRecDepth 100000
section
open Go Go.RowKit Go.Maps
section
variable {X:RX} {S:RS} {w:World}
structure ArE (x:CN) (kn:Nat):Prop where
 one:x.h.op=3∨x.h.op=4∨x.h.op=6->1<=kn
 two:x.h.op=5->2<=kn
theorem EB (h:RV X S w){x:CN}{kn:Nat}(hx:NdX X x kn)(hS:SOk X S)(Gt:ArE x kn)(t:Int×Int) :
  Calls prog 99 #[crp X,ndV x.h x.v t] w fun e w'=>e=.returned (ndV x.h x.v (fO X.gs (X.fl.map (·.1)) S.tr (S.vs.getD S.F []) S.L x.h x.kids t S.d).1)/\NoP X {S with d:=(fO X.gs (X.fl.map (·.1)) S.tr (S.vs.getD S.F []) S.L x.h x.kids t S.d).2} w w':=by
 obtain ⟨rr,Gz⟩:∃r,(fO X.gs (X.fl.map (·.1)) S.tr (S.vs.getD S.F []) S.L x.h x.kids t S.d)=r:=⟨_,rfl⟩;rw [Gz];have hb:Zw w ((w.alloc (.cells (ndC x.h x.v t) tNd)).alloc (.cells #[Iv 0,Iv 0,Iv 0,.string ⟨#[]⟩,Iv 0,Sn,Iv 0,Iv 0] tNd)):=((zB _ _).alloc (zL _) _).alloc (by simp) _
 have k2:=(Blk.new w tNd (ndC x.h x.v t)).alloc (.cells #[Iv 0,Iv 0,Iv 0,.string ⟨#[]⟩,Iv 0,Sn,Iv 0,Iv 0] tNd);have k3:=Blk.new (w.alloc (.cells (ndC x.h x.v t) tNd)) tNd #[Iv 0,Iv 0,Iv 0,.string ⟨#[]⟩,Iv 0,Sn,Iv 0,Iv 0];rw [show (w.alloc (.cells (ndC x.h x.v t) tNd)).heap.size=w.heap.size+1 by simp] at k3
 have NR:=h.chk.lt;have h2:=h.on hb;have HX:=Hy4 hx hS hb h;have QF:=hx.le;obtain ⟨kA,kc,hv⟩:∃A c,x.v=.slice A kn c:=by have h9:=(RdS.av (h.ks x hx.mem).1).shape;rw [hx.len] at h9;exact h9
 clear h hx hS;obtain ⟨xh,xk,xv⟩:=x;simp only at hv;subst hv;obtain ⟨o1,o2,o3,o4,o5,o6⟩:=xh;obtain ⟨t1,t2⟩:=t;simp only at *;obtain ⟨zs,FV⟩:=zN (str o4);simp only [ndC,ndV,FV] at k2 k3 hb h2 HX |-;have HZ:=Hy FV;clear FV;go_enter func99,ntmps99;go_upto_region 1 with (fail);obtain ⟨H,hH⟩:=zN w.heap.size;rw [hH] at k2 k3;have Wd:X.b<H:=by omega
 generalize (w.alloc (.cells #[Iv o1,Iv o2,Iv o3,.string zs,Iv o5,.slice kA kn kc,Iv t1,Iv t2] tNd)).alloc (.cells #[Iv 0,Iv 0,Iv 0,.string ⟨#[]⟩,Iv 0,Sn,Iv 0,Iv 0] tNd)=W at *;have K2:=Hy k2;have KZ:=Hy k3;have H2:=Hy h2;try simp only [hH]
 have HH:=Hy hH;clear k2 k3 h2 hb NR hH;have yF:fO X.gs (X.fl.map (·.1)) S.tr (S.vs.getD S.F []) S.L ⟨o1,o2,o3,o4,o5,o6⟩ xk (t1,t2) S.d=rr:=Gz;have Jm:=Hy yF;have Vv:=Hy Gt;clear Gz yF Gt;have NP0:=Hy (NoP.refl H2);have Nb:=Hy (NoP.of HX.2.2.2 HX.2.2.1);have jk:=Hy2 K2.out KZ.out;have m0:Ce W H 0 (Iv o1):=K2.out.cell 0;have ml:=K2.out.lt;have Rf:=Hy (show xk.length=kn from HX.1.len)
 by_cases h8:o1=8
 ·subst h8;have HE:=Hy (show rr=((2,t2),S.d) by rw [<-Jm.out];rfl)
  have n6:Ce W H 6 (Iv t1):=K2.out.cell 6;have f6:=K2.out.frozen 6;have Ar:Blk (W.setCell (Ad H 6) (Iv 2)) H tNd #[Iv 8,Iv o2,Iv o3,.string zs,Iv o5,.slice kA kn kc,Iv 2,Iv t2]:=(jk.out.1.af 6 _);have Ae:Blk (W.setCell (Ad H 6) (Iv 2)) (H+1) tNd #[Iv 0,Iv 0,Iv 0,.string ⟨#[]⟩,Iv 0,Sn,Iv 0,Iv 0]:=(jk.out.2.far (p:=Ad H 6) (by simp) _)
  have lu:Below w.heap.size W (W.setCell (Ad H 6) (Iv 2)):=((Below.refl w.heap.size W).setCell (p:=Ad H 6) (by have:=HH.out;simp;omega) _)
  go_upto_region 24 with (fail);generalize (W.setCell (Ad H 6) (Iv 2))=W8 at *;have Jv:=Hy lu;clear lu;have b1:=Ar;have b2:=Ae;have kZ:=setRow_heap W8 (H+1) _ #[Iv 8,Iv o2,Iv o3,.string zs,Iv o5,.slice kA kn kc,Iv 2,Iv t2] tNd (0,0) b2;have oW:=Hy2 kZ (below_setRow (B:=w.heap.size) W8 (H+1) #[Iv 8,Iv o2,Iv o3,.string zs,Iv o5,.slice kA kn kc,Iv 2,Iv t2] (by have:=HH.out;omega))
  clear kZ;refine wp_region_list ?_;refine wpList_load_row rfl tNd _ rfl H rfl tNd _ (0,0) _ b1 underlying75 rfl ay ?_;refine wpList_store_row rfl tNd _ _ rfl (H+1) _ rfl rfl tNd #[Iv 0,Iv 0,Iv 0,.string ⟨#[]⟩,Iv 0,Sn,Iv 0,Iv 0] b2 ay rfl (by simp [Value.oneCell']) ?_
  refine wpList_nil ?_;go_wp2_with fail;refine bodyPost_ret (results_cell_row rfl _ _ (H+1) tNd _ (0,0) _ rfl oW.1 underlying75 rfl ay) rfl ?_;rw [HE.out];exact ⟨rfl,NoP.under HX.2.2.2 Nb.out (Jv.trans oW.2)⟩
 by_cases h2:o1=2
 ·subst h2;obtain ⟨⟨sd,sr,st⟩,hsc⟩:∃q,dA X.gs (X.fl.map (·.1)) (S.vs.getD S.F []) S.L ⟨2,o2,o3,o4,o5,o6⟩ S.d=q:=⟨_,rfl⟩;have HE:=Hy (show rr=((st,sr),sd) by rw [<-Jm.out];unfold fO;simp only [hsc];rfl)
  have Mq:=Hy (show Calls prog 132 #[crp X,.agg #[Iv 2,Iv o2,Iv o3,.string zs,Iv o5,.slice kA kn kc,Iv t1,Iv t2]] W fun e w'=>e=.returned (.tuple #[Iv sr,Iv st])/\NoP X {S with d:=sd} W w' by have h9:=zI H2 HX.1 HX.2.1 (t1,t2);simp only [ndV,HZ.out,hsc] at h9;exact h9)
  clear hsc;have n0:Ce W H 0 (Iv 2):=K2.out.cell 0;have n1:Ce W H 1 (Iv o2):=K2.out.cell 1;have n2:Ce W H 2 (Iv o3):=K2.out.cell 2;have n3:Ce W H 3 (.string zs):=K2.out.cell 3;have n4:Ce W H 4 (Iv o5):=K2.out.cell 4;have n5:Ce W H 5 (.slice kA kn kc):=K2.out.cell 5;have n6:Ce W H 6 (Iv t1):=K2.out.cell 6;have n7:Ce W H 7 (Iv t2):=K2.out.cell 7;have nl:=K2.out.lt;go_wp2_with fail;refine Mq.mono ?_;clear Mq;rintro e W1 ⟨rfl,hP⟩;have IU:=Hy (Nb.out.trans hP);have jH:=Hy2 (ak hP.gr jk.out.1 (by simp;omega)) (ak hP.gr jk.out.2 (by simp;omega))
  clear hP m0 ml n0 n1 n2 n3 n4 n5 n6 n7 nl;have n6:Ce W1 H 6 (Iv t1):=jH.out.1.cell 6;have n7:Ce W1 H 7 (Iv t2):=jH.out.1.cell 7;have f6:=jH.out.1.frozen 6;have f7:=jH.out.1.frozen 7;have nl:=jH.out.1.lt;have Ar:Blk ((W1.setCell (Ad H 7) (Iv sr)).setCell (Ad H 6) (Iv st)) H tNd #[Iv 2,Iv o2,Iv o3,.string zs,Iv o5,.slice kA kn kc,Iv st,Iv sr]:=((jH.out.1.af 7 _).af 6 _);have Ae:Blk ((W1.setCell (Ad H 7) (Iv sr)).setCell (Ad H 6) (Iv st)) (H+1) tNd #[Iv 0,Iv 0,Iv 0,.string ⟨#[]⟩,Iv 0,Sn,Iv 0,Iv 0]:=((jH.out.2.far (p:=Ad H 7) (by simp) _).far (p:=Ad H 6) (by simp) _)
  have lu:Below w.heap.size W1 ((W1.setCell (Ad H 7) (Iv sr)).setCell (Ad H 6) (Iv st)):=(((Below.refl w.heap.size W1).setCell (p:=Ad H 7) (by have:=HH.out;simp;omega) _).setCell (p:=Ad H 6) (by have:=HH.out;simp;omega) _)
  go_upto_region 24 with (fail);generalize ((W1.setCell (Ad H 7) (Iv sr)).setCell (Ad H 6) (Iv st))=W8 at *;have Jv:=Hy lu;clear lu;have b1:=Ar;have b2:=Ae;have kZ:=setRow_heap W8 (H+1) _ #[Iv 2,Iv o2,Iv o3,.string zs,Iv o5,.slice kA kn kc,Iv st,Iv sr] tNd (0,0) b2;have oW:=Hy2 kZ (below_setRow (B:=w.heap.size) W8 (H+1) #[Iv 2,Iv o2,Iv o3,.string zs,Iv o5,.slice kA kn kc,Iv st,Iv sr] (by have:=HH.out;omega))
  clear kZ;refine wp_region_list ?_;refine wpList_load_row rfl tNd _ rfl H rfl tNd _ (0,0) _ b1 underlying75 rfl ay ?_;refine wpList_store_row rfl tNd _ _ rfl (H+1) _ rfl rfl tNd #[Iv 0,Iv 0,Iv 0,.string ⟨#[]⟩,Iv 0,Sn,Iv 0,Iv 0] b2 ay rfl (by simp [Value.oneCell']) ?_
  refine wpList_nil ?_;go_wp2_with fail;refine bodyPost_ret (results_cell_row rfl _ _ (H+1) tNd _ (0,0) _ rfl oW.1 underlying75 rfl ay) rfl ?_;rw [HE.out];exact ⟨rfl,NoP.under HX.2.2.2 IU.out (Jv.trans oW.2)⟩
 by_cases h3:o1=3
 ·subst h3;obtain ⟨⟨sd,sr,st⟩,hsc⟩:∃q,eQ X.gs (X.fl.map (·.1)) S.L ⟨3,o2,o3,o4,o5,o6⟩ S.d=q:=⟨_,rfl⟩;have HE:=Hy (show rr=((st,sr),aN S.tr o2 (xk.take 1) sd) by rw [<-Jm.out];unfold fO;simp only [hsc];rfl)
  have bT:1<=kn:=Vv.one (.inl rfl);have Mq:=Hy (show Calls prog 134 #[crp X,.agg #[Iv 3,Iv o2,Iv o3,.string zs,Iv o5,.slice kA kn kc,Iv t1,Iv t2]] W fun e w'=>e=.returned (.tuple #[Iv sr,Iv st])/\NoP X {S with d:=sd} W w' by have h9:=ER H2 HX.1 HX.2.1 (t1,t2);simp only [ndV,HZ.out,hsc] at h9;exact h9)
  clear hsc;have n0:Ce W H 0 (Iv 3):=K2.out.cell 0;have n1:Ce W H 1 (Iv o2):=K2.out.cell 1;have n2:Ce W H 2 (Iv o3):=K2.out.cell 2;have n3:Ce W H 3 (.string zs):=K2.out.cell 3;have n4:Ce W H 4 (Iv o5):=K2.out.cell 4;have n5:Ce W H 5 (.slice kA kn kc):=K2.out.cell 5;have n6:Ce W H 6 (Iv t1):=K2.out.cell 6;have n7:Ce W H 7 (Iv t2):=K2.out.cell 7;have nl:=K2.out.lt;go_wp2_with fail;refine Mq.mono ?_;clear Mq;rintro e W1 ⟨rfl,hP⟩;have IU:=Hy (Nb.out.trans hP);have jH:=Hy2 (ak hP.gr jk.out.1 (by simp;omega)) (ak hP.gr jk.out.2 (by simp;omega))
  clear hP m0 ml n0 n1 n2 n3 n4 n5 n6 n7 nl;have n6:Ce W1 H 6 (Iv t1):=jH.out.1.cell 6;have n7:Ce W1 H 7 (Iv t2):=jH.out.1.cell 7;have f6:=jH.out.1.frozen 6;have f7:=jH.out.1.frozen 7;have nl:=jH.out.1.lt;have Ar:Blk ((W1.setCell (Ad H 7) (Iv sr)).setCell (Ad H 6) (Iv st)) H tNd #[Iv 3,Iv o2,Iv o3,.string zs,Iv o5,.slice kA kn kc,Iv st,Iv sr]:=((jH.out.1.af 7 _).af 6 _);have Ae:Blk ((W1.setCell (Ad H 7) (Iv sr)).setCell (Ad H 6) (Iv st)) (H+1) tNd #[Iv 0,Iv 0,Iv 0,.string ⟨#[]⟩,Iv 0,Sn,Iv 0,Iv 0]:=((jH.out.2.far (p:=Ad H 7) (by simp) _).far (p:=Ad H 6) (by simp) _)
  have lu:Below w.heap.size W1 ((W1.setCell (Ad H 7) (Iv sr)).setCell (Ad H 6) (Iv st)):=(((Below.refl w.heap.size W1).setCell (p:=Ad H 7) (by have:=HH.out;simp;omega) _).setCell (p:=Ad H 6) (by have:=HH.out;simp;omega) _)
  go_upto_region 8 with (fail);generalize ((W1.setCell (Ad H 7) (Iv sr)).setCell (Ad H 6) (Iv st))=W2 at *;have Rz:=Hy (NoP.under HX.2.2.2 IU.out lu);have zU:=Hy2 Ar Ae;clear lu Ar Ae;clear n6 n7 f6 f7 nl;have n0:Ce W2 H 0 (Iv 3):=zU.out.1.cell 0;have n1:Ce W2 H 1 (Iv o2):=zU.out.1.cell 1;have n2:Ce W2 H 2 (Iv o3):=zU.out.1.cell 2;have n3:Ce W2 H 3 (.string zs):=zU.out.1.cell 3;have n4:Ce W2 H 4 (Iv o5):=zU.out.1.cell 4;have n5:Ce W2 H 5 (.slice kA kn kc):=zU.out.1.cell 5;have n6:Ce W2 H 6 (Iv st):=zU.out.1.cell 6;have n7:Ce W2 H 7 (Iv sr):=zU.out.1.cell 7;have nl:=zU.out.1.lt;have Gx:=Hy (show Calls prog 133 #[crp X,.agg #[Iv 3,Iv o2,Iv o3,.string zs,Iv o5,.slice kA kn kc,Iv st,Iv sr],Iv 1] W2 fun e w'=>e=.returned (.tuple #[])/\NoP X {S with d:=aN S.tr o2 (xk.take 1) sd} W2 w' by have h9:=dB (S:={S with d:=sd}) Rz.out.rv HX.1 (st,sr) 1 bT;simp only [ndV,HZ.out] at h9;exact h9)
  go_wp2_with fail;refine Gx.mono ?_;clear Gx;rintro e W3 ⟨rfl,hP⟩;have UM:=Hy (Rz.out.trans hP);have JX:=Hy2 (ak hP.gr zU.out.1 (by simp;omega)) (ak hP.gr zU.out.2 (by simp;omega))
  clear hP;clear n0 n1 n2 n3 n4 n5 n6 n7 nl;have Ar:=JX.out.1;have Ae:=JX.out.2;have lu:Below w.heap.size W3 W3:=zB _ _;go_upto_region 24 with (fail);have Jv:=Hy lu;clear lu;have b1:=Ar;have b2:=Ae;have kZ:=setRow_heap W3 (H+1) _ #[Iv 3,Iv o2,Iv o3,.string zs,Iv o5,.slice kA kn kc,Iv st,Iv sr] tNd (0,0) b2;have oW:=Hy2 kZ (below_setRow (B:=w.heap.size) W3 (H+1) #[Iv 3,Iv o2,Iv o3,.string zs,Iv o5,.slice kA kn kc,Iv st,Iv sr] (by have:=HH.out;omega))
  clear kZ;refine wp_region_list ?_;refine wpList_load_row rfl tNd _ rfl H rfl tNd _ (0,0) _ b1 underlying75 rfl ay ?_;refine wpList_store_row rfl tNd _ _ rfl (H+1) _ rfl rfl tNd #[Iv 0,Iv 0,Iv 0,.string ⟨#[]⟩,Iv 0,Sn,Iv 0,Iv 0] b2 ay rfl (by simp [Value.oneCell']) ?_
  refine wpList_nil ?_;go_wp2_with fail;refine bodyPost_ret (results_cell_row rfl _ _ (H+1) tNd _ (0,0) _ rfl oW.1 underlying75 rfl ay) rfl ?_;rw [HE.out];exact ⟨rfl,NoP.under HX.2.2.2 UM.out (Jv.trans oW.2)⟩
 by_cases h4:o1=4
 ·subst h4;have bT:1<=kn:=Vv.one (.inr (.inl rfl));obtain ⟨k0,hk0⟩:∃k,xk[0]? =some k:=⟨_,List.getElem?_eq_getElem (by have:=Rf.out;omega)⟩
  have Ru:kid xk 0=k0:=by simp [kid,List.getD,hk0]
  obtain ⟨ty,hty⟩:=zN (dJ S.tr k0);have Vu:=Hy (show rr=((if o4=[33] then 1 else ty,t2),aN S.tr o2 (xk.take 1) S.d) by rw [<-Jm.out,<-hty,<-Ru];rfl)
  clear m0 ml;have n0:Ce W H 0 (Iv 4):=jk.out.1.cell 0;have n1:Ce W H 1 (Iv o2):=jk.out.1.cell 1;have n2:Ce W H 2 (Iv o3):=jk.out.1.cell 2;have n3:Ce W H 3 (.string zs):=jk.out.1.cell 3;have n4:Ce W H 4 (Iv o5):=jk.out.1.cell 4;have n5:Ce W H 5 (.slice kA kn kc):=jk.out.1.cell 5;have n6:Ce W H 6 (Iv t1):=jk.out.1.cell 6;have n7:Ce W H 7 (Iv t2):=jk.out.1.cell 7;have nl:=jk.out.1.lt;have Gx:=Hy (show Calls prog 133 #[crp X,.agg #[Iv 4,Iv o2,Iv o3,.string zs,Iv o5,.slice kA kn kc,Iv t1,Iv t2],Iv 1] W fun e w'=>e=.returned (.tuple #[])/\NoP X {S with d:=aN S.tr o2 (xk.take 1) S.d} W w' by have h9:=dB (S:={S with d:=S.d}) Nb.out.rv HX.1 (t1,t2) 1 bT;simp only [ndV,HZ.out] at h9;exact h9)
  go_wp2_with fail;refine Gx.mono ?_;clear Gx;rintro e W1 ⟨rfl,hP⟩;have IU:=Hy (Nb.out.trans hP);have jH:=Hy2 (ak hP.gr jk.out.1 (by simp;omega)) (ak hP.gr jk.out.2 (by simp;omega))
  clear hP;clear n0 n1 n2 n3 n4 n5 n6 n7 nl;have UW:=Hy (show Calls prog 135 #[crp X,.agg #[Iv 4,Iv o2,Iv o3,.string zs,Iv o5,.slice kA kn kc,Iv t1,Iv t2],Iv 0] W1 fun e w'=>e=.returned (Iv ty)/\Zw W1 w' by have h9:=uU IU.out.rv HX.1 (t1,t2) hk0;simp only [ndV,HZ.out,hty] at h9;exact h9)
  clear hk0 Ru hty;have n0:Ce W1 H 0 (Iv 4):=jH.out.1.cell 0;have n1:Ce W1 H 1 (Iv o2):=jH.out.1.cell 1;have n2:Ce W1 H 2 (Iv o3):=jH.out.1.cell 2;have n3:Ce W1 H 3 (.string zs):=jH.out.1.cell 3;have n4:Ce W1 H 4 (Iv o5):=jH.out.1.cell 4;have n5:Ce W1 H 5 (.slice kA kn kc):=jH.out.1.cell 5;have n6:Ce W1 H 6 (Iv t1):=jH.out.1.cell 6;have n7:Ce W1 H 7 (Iv t2):=jH.out.1.cell 7;have nl:=jH.out.1.lt;go_wp2_with fail;refine UW.mono ?_;clear UW;rintro e W2 ⟨rfl,aU⟩;have Rz:=Hy (IU.out.low aU);have zU:=Hy2 (jH.out.1.below aU jH.out.1.lt) (jH.out.2.below aU jH.out.2.lt);clear aU;clear n0 n1 n2 n3 n4 n5 n6 n7 nl;have n6:Ce W2 H 6 (Iv t1):=zU.out.1.cell 6;have n7:Ce W2 H 7 (Iv t2):=zU.out.1.cell 7;have f6:=zU.out.1.frozen 6;have f7:=zU.out.1.frozen 7;have nl:=zU.out.1.lt;have Ar:Blk (W2.setCell (Ad H 6) (Iv ty)) H tNd #[Iv 4,Iv o2,Iv o3,.string zs,Iv o5,.slice kA kn kc,Iv ty,Iv t2]:=(zU.out.1.af 6 _);have Ae:Blk (W2.setCell (Ad H 6) (Iv ty)) (H+1) tNd #[Iv 0,Iv 0,Iv 0,.string ⟨#[]⟩,Iv 0,Sn,Iv 0,Iv 0]:=(zU.out.2.far (p:=Ad H 6) (by simp) _)
  have lu:Below w.heap.size W2 (W2.setCell (Ad H 6) (Iv ty)):=((Below.refl w.heap.size W2).setCell (p:=Ad H 6) (by have:=HH.out;simp;omega) _)
  go_upto_region 12 with (fail);generalize (W2.setCell (Ad H 6) (Iv ty))=W3 at *;have UM:=Hy (NoP.under HX.2.2.2 Rz.out lu);have JX:=Hy2 Ar Ae;clear lu Ar Ae;clear n6 n7 f6 f7 nl;have n3:Ce W3 H 3 (.string zs):=JX.out.1.cell 3;have n6:Ce W3 H 6 (Iv ty):=JX.out.1.cell 6;have n7:Ce W3 H 7 (Iv t2):=JX.out.1.cell 7;have f6:=JX.out.1.frozen 6;have f7:=JX.out.1.frozen 7;have nl:=JX.out.1.lt;by_cases e4:o4=[33]
  ·have s0:(zs.toList == [33])=true:=by rw [<-HZ.out,e4];simp [str]
   have HE:=Hy (show rr=((1,t2),aN S.tr o2 (xk.take 1) S.d) by rw [Vu.out,if_pos e4])
   clear e4;have Ar:Blk (W3.setCell (Ad H 6) (Iv 1)) H tNd #[Iv 4,Iv o2,Iv o3,.string zs,Iv o5,.slice kA kn kc,Iv 1,Iv t2]:=(JX.out.1.af 6 _);have Ae:Blk (W3.setCell (Ad H 6) (Iv 1)) (H+1) tNd #[Iv 0,Iv 0,Iv 0,.string ⟨#[]⟩,Iv 0,Sn,Iv 0,Iv 0]:=(JX.out.2.far (p:=Ad H 6) (by simp) _)
   have lu:Below w.heap.size W3 (W3.setCell (Ad H 6) (Iv 1)):=((Below.refl w.heap.size W3).setCell (p:=Ad H 6) (by have:=HH.out;simp;omega) _)
   go_upto_region 24 with (fail);generalize (W3.setCell (Ad H 6) (Iv 1))=W8 at *;have Jv:=Hy lu;clear lu;have b1:=Ar;have b2:=Ae;have kZ:=setRow_heap W8 (H+1) _ #[Iv 4,Iv o2,Iv o3,.string zs,Iv o5,.slice kA kn kc,Iv 1,Iv t2] tNd (0,0) b2;have oW:=Hy2 kZ (below_setRow (B:=w.heap.size) W8 (H+1) #[Iv 4,Iv o2,Iv o3,.string zs,Iv o5,.slice kA kn kc,Iv 1,Iv t2] (by have:=HH.out;omega))
   clear kZ;refine wp_region_list ?_;refine wpList_load_row rfl tNd _ rfl H rfl tNd _ (0,0) _ b1 underlying75 rfl ay ?_;refine wpList_store_row rfl tNd _ _ rfl (H+1) _ rfl rfl tNd #[Iv 0,Iv 0,Iv 0,.string ⟨#[]⟩,Iv 0,Sn,Iv 0,Iv 0] b2 ay rfl (by simp [Value.oneCell']) ?_
   refine wpList_nil ?_;go_wp2_with fail;refine bodyPost_ret (results_cell_row rfl _ _ (H+1) tNd _ (0,0) _ rfl oW.1 underlying75 rfl ay) rfl ?_;rw [HE.out];exact ⟨rfl,NoP.under HX.2.2.2 UM.out (Jv.trans oW.2)⟩
  ·have s0:(zs.toList == [33])=false:=by
    have e9:(str o4).toList=o4:=by simp [str]
    rw [<-HZ.out,e9];simpa using e4
   have HE:=Hy (show rr=((ty,t2),aN S.tr o2 (xk.take 1) S.d) by rw [Vu.out,if_neg e4])
   clear e4;have Ar:=JX.out.1;have Ae:=JX.out.2;have lu:Below w.heap.size W3 W3:=zB _ _;go_upto_region 24 with (fail);have Jv:=Hy lu;clear lu;have b1:=Ar;have b2:=Ae;have kZ:=setRow_heap W3 (H+1) _ #[Iv 4,Iv o2,Iv o3,.string zs,Iv o5,.slice kA kn kc,Iv ty,Iv t2] tNd (0,0) b2;have oW:=Hy2 kZ (below_setRow (B:=w.heap.size) W3 (H+1) #[Iv 4,Iv o2,Iv o3,.string zs,Iv o5,.slice kA kn kc,Iv ty,Iv t2] (by have:=HH.out;omega))
   clear kZ;refine wp_region_list ?_;refine wpList_load_row rfl tNd _ rfl H rfl tNd _ (0,0) _ b1 underlying75 rfl ay ?_;refine wpList_store_row rfl tNd _ _ rfl (H+1) _ rfl rfl tNd #[Iv 0,Iv 0,Iv 0,.string ⟨#[]⟩,Iv 0,Sn,Iv 0,Iv 0] b2 ay rfl (by simp [Value.oneCell']) ?_
   refine wpList_nil ?_;go_wp2_with fail;refine bodyPost_ret (results_cell_row rfl _ _ (H+1) tNd _ (0,0) _ rfl oW.1 underlying75 rfl ay) rfl ?_;rw [HE.out];exact ⟨rfl,NoP.under HX.2.2.2 UM.out (Jv.trans oW.2)⟩
 by_cases h6:o1=6
 ·subst h6;have bT:1<=kn:=Vv.one (.inr (.inr rfl));have Vu:=Hy (show rr=((if o5=2 then 2 else 1,t2),aN S.tr o2 (xk.take 1) S.d) by rw [<-Jm.out];rfl)
  clear m0 ml;have n0:Ce W H 0 (Iv 6):=jk.out.1.cell 0;have n1:Ce W H 1 (Iv o2):=jk.out.1.cell 1;have n2:Ce W H 2 (Iv o3):=jk.out.1.cell 2;have n3:Ce W H 3 (.string zs):=jk.out.1.cell 3;have n4:Ce W H 4 (Iv o5):=jk.out.1.cell 4;have n5:Ce W H 5 (.slice kA kn kc):=jk.out.1.cell 5;have n6:Ce W H 6 (Iv t1):=jk.out.1.cell 6;have n7:Ce W H 7 (Iv t2):=jk.out.1.cell 7;have nl:=jk.out.1.lt;have Gx:=Hy (show Calls prog 133 #[crp X,.agg #[Iv 6,Iv o2,Iv o3,.string zs,Iv o5,.slice kA kn kc,Iv t1,Iv t2],Iv 1] W fun e w'=>e=.returned (.tuple #[])/\NoP X {S with d:=aN S.tr o2 (xk.take 1) S.d} W w' by have h9:=dB (S:={S with d:=S.d}) Nb.out.rv HX.1 (t1,t2) 1 bT;simp only [ndV,HZ.out] at h9;exact h9)
  go_wp2_with fail;refine Gx.mono ?_;clear Gx;rintro e W1 ⟨rfl,hP⟩;have IU:=Hy (Nb.out.trans hP);have jH:=Hy2 (ak hP.gr jk.out.1 (by simp;omega)) (ak hP.gr jk.out.2 (by simp;omega))
  clear hP;clear n0 n1 n2 n3 n4 n5 n6 n7 nl;have n6:Ce W1 H 6 (Iv t1):=jH.out.1.cell 6;have n7:Ce W1 H 7 (Iv t2):=jH.out.1.cell 7;have f6:=jH.out.1.frozen 6;have f7:=jH.out.1.frozen 7;have nl:=jH.out.1.lt;have Ar:Blk (W1.setCell (Ad H 6) (Iv 1)) H tNd #[Iv 6,Iv o2,Iv o3,.string zs,Iv o5,.slice kA kn kc,Iv 1,Iv t2]:=(jH.out.1.af 6 _);have Ae:Blk (W1.setCell (Ad H 6) (Iv 1)) (H+1) tNd #[Iv 0,Iv 0,Iv 0,.string ⟨#[]⟩,Iv 0,Sn,Iv 0,Iv 0]:=(jH.out.2.far (p:=Ad H 6) (by simp) _)
  have lu:Below w.heap.size W1 (W1.setCell (Ad H 6) (Iv 1)):=((Below.refl w.heap.size W1).setCell (p:=Ad H 6) (by have:=HH.out;simp;omega) _)
  go_upto_region 17 with (fail);generalize (W1.setCell (Ad H 6) (Iv 1))=W3 at *;have UM:=Hy (NoP.under HX.2.2.2 IU.out lu);have JX:=Hy2 Ar Ae;clear lu Ar Ae;clear n6 n7 f6 f7 nl;have n4:Ce W3 H 4 (Iv o5):=JX.out.1.cell 4;have n6:Ce W3 H 6 (Iv 1):=JX.out.1.cell 6;have n7:Ce W3 H 7 (Iv t2):=JX.out.1.cell 7;have f6:=JX.out.1.frozen 6;have f7:=JX.out.1.frozen 7;have nl:=JX.out.1.lt;by_cases e4:o5=2
  ·have HE:=Hy (show rr=((2,t2),aN S.tr o2 (xk.take 1) S.d) by rw [Vu.out,if_pos e4])
   subst e4;have Ar:Blk (W3.setCell (Ad H 6) (Iv 2)) H tNd #[Iv 6,Iv o2,Iv o3,.string zs,Iv 2,.slice kA kn kc,Iv 2,Iv t2]:=(JX.out.1.af 6 _);have Ae:Blk (W3.setCell (Ad H 6) (Iv 2)) (H+1) tNd #[Iv 0,Iv 0,Iv 0,.string ⟨#[]⟩,Iv 0,Sn,Iv 0,Iv 0]:=(JX.out.2.far (p:=Ad H 6) (by simp) _)
   have lu:Below w.heap.size W3 (W3.setCell (Ad H 6) (Iv 2)):=((Below.refl w.heap.size W3).setCell (p:=Ad H 6) (by have:=HH.out;simp;omega) _)
   go_upto_region 24 with (fail);generalize (W3.setCell (Ad H 6) (Iv 2))=W8 at *;have Jv:=Hy lu;clear lu;have b1:=Ar;have b2:=Ae;have kZ:=setRow_heap W8 (H+1) _ #[Iv 6,Iv o2,Iv o3,.string zs,Iv 2,.slice kA kn kc,Iv 2,Iv t2] tNd (0,0) b2;have oW:=Hy2 kZ (below_setRow (B:=w.heap.size) W8 (H+1) #[Iv 6,Iv o2,Iv o3,.string zs,Iv 2,.slice kA kn kc,Iv 2,Iv t2] (by have:=HH.out;omega))
   clear kZ;refine wp_region_list ?_;refine wpList_load_row rfl tNd _ rfl H rfl tNd _ (0,0) _ b1 underlying75 rfl ay ?_;refine wpList_store_row rfl tNd _ _ rfl (H+1) _ rfl rfl tNd #[Iv 0,Iv 0,Iv 0,.string ⟨#[]⟩,Iv 0,Sn,Iv 0,Iv 0] b2 ay rfl (by simp [Value.oneCell']) ?_
   refine wpList_nil ?_;go_wp2_with fail;refine bodyPost_ret (results_cell_row rfl _ _ (H+1) tNd _ (0,0) _ rfl oW.1 underlying75 rfl ay) rfl ?_;rw [HE.out];exact ⟨rfl,NoP.under HX.2.2.2 UM.out (Jv.trans oW.2)⟩
  ·have HE:=Hy (show rr=((1,t2),aN S.tr o2 (xk.take 1) S.d) by rw [Vu.out,if_neg e4])
   have Ar:=JX.out.1;have Ae:=JX.out.2;have lu:Below w.heap.size W3 W3:=zB _ _;go_upto_region 24 with (fail);have Jv:=Hy lu;clear lu;have b1:=Ar;have b2:=Ae;have kZ:=setRow_heap W3 (H+1) _ #[Iv 6,Iv o2,Iv o3,.string zs,Iv o5,.slice kA kn kc,Iv 1,Iv t2] tNd (0,0) b2;have oW:=Hy2 kZ (below_setRow (B:=w.heap.size) W3 (H+1) #[Iv 6,Iv o2,Iv o3,.string zs,Iv o5,.slice kA kn kc,Iv 1,Iv t2] (by have:=HH.out;omega))
   clear kZ;refine wp_region_list ?_;refine wpList_load_row rfl tNd _ rfl H rfl tNd _ (0,0) _ b1 underlying75 rfl ay ?_;refine wpList_store_row rfl tNd _ _ rfl (H+1) _ rfl rfl tNd #[Iv 0,Iv 0,Iv 0,.string ⟨#[]⟩,Iv 0,Sn,Iv 0,Iv 0] b2 ay rfl (by simp [Value.oneCell']) ?_
   refine wpList_nil ?_;go_wp2_with fail;refine bodyPost_ret (results_cell_row rfl _ _ (H+1) tNd _ (0,0) _ rfl oW.1 underlying75 rfl ay) rfl ?_;rw [HE.out];exact ⟨rfl,NoP.under HX.2.2.2 UM.out (Jv.trans oW.2)⟩
 by_cases h5:o1=5
 ·subst h5;have bT:2<=kn:=Vv.two rfl;obtain ⟨k0,hk0⟩:∃k,xk[0]? =some k:=⟨_,List.getElem?_eq_getElem (by have:=Rf.out;omega)⟩
  obtain ⟨k1,Yh⟩:∃k,xk[1]? =some k:=⟨_,List.getElem?_eq_getElem (by have:=Rf.out;omega)⟩
  have hkk0:kid xk 0=k0:=by simp [kid,List.getD,hk0]
  have Um:kid xk 1=k1:=by simp [kid,List.getD,Yh]
  obtain ⟨ty,hty⟩:=zN (xU o4 (dJ S.tr k0) (dJ S.tr k1));have HE:=Hy (show rr=((ty,t2),aN S.tr o2 (xk.take 2) S.d) by rw [<-Jm.out,<-hty,<-hkk0,<-Um];rfl)
  clear m0 ml;have n0:Ce W H 0 (Iv 5):=jk.out.1.cell 0;have n1:Ce W H 1 (Iv o2):=jk.out.1.cell 1;have n2:Ce W H 2 (Iv o3):=jk.out.1.cell 2;have n3:Ce W H 3 (.string zs):=jk.out.1.cell 3;have n4:Ce W H 4 (Iv o5):=jk.out.1.cell 4;have n5:Ce W H 5 (.slice kA kn kc):=jk.out.1.cell 5;have n6:Ce W H 6 (Iv t1):=jk.out.1.cell 6;have n7:Ce W H 7 (Iv t2):=jk.out.1.cell 7;have nl:=jk.out.1.lt;have Gx:=Hy (show Calls prog 133 #[crp X,.agg #[Iv 5,Iv o2,Iv o3,.string zs,Iv o5,.slice kA kn kc,Iv t1,Iv t2],Iv 2] W fun e w'=>e=.returned (.tuple #[])/\NoP X {S with d:=aN S.tr o2 (xk.take 2) S.d} W w' by have h9:=dB (S:={S with d:=S.d}) Nb.out.rv HX.1 (t1,t2) 2 bT;simp only [ndV,HZ.out] at h9;exact h9)
  go_wp2_with fail;refine Gx.mono ?_;clear Gx;rintro e W1 ⟨rfl,hP⟩;have IU:=Hy (Nb.out.trans hP);have jH:=Hy2 (ak hP.gr jk.out.1 (by simp;omega)) (ak hP.gr jk.out.2 (by simp;omega))
  clear hP;clear n0 n1 n2 n3 n4 n5 n6 n7 nl;have UW:=Hy (show Calls prog 136 #[crp X,.agg #[Iv 5,Iv o2,Iv o3,.string zs,Iv o5,.slice kA kn kc,Iv t1,Iv t2]] W1 fun e w'=>e=.returned (Iv ty)/\Zw W1 w' by have h9:=Ik IU.out.rv HX.1 (t1,t2) hk0 Yh;simp only [ndV,HZ.out,hty] at h9;exact h9)
  clear hk0 Yh hkk0 Um hty;have n0:Ce W1 H 0 (Iv 5):=jH.out.1.cell 0;have n1:Ce W1 H 1 (Iv o2):=jH.out.1.cell 1;have n2:Ce W1 H 2 (Iv o3):=jH.out.1.cell 2;have n3:Ce W1 H 3 (.string zs):=jH.out.1.cell 3;have n4:Ce W1 H 4 (Iv o5):=jH.out.1.cell 4;have n5:Ce W1 H 5 (.slice kA kn kc):=jH.out.1.cell 5;have n6:Ce W1 H 6 (Iv t1):=jH.out.1.cell 6;have n7:Ce W1 H 7 (Iv t2):=jH.out.1.cell 7;have nl:=jH.out.1.lt;go_wp2_with fail;refine UW.mono ?_;clear UW;rintro e W2 ⟨rfl,aU⟩;have Rz:=Hy (IU.out.low aU);have zU:=Hy2 (jH.out.1.below aU jH.out.1.lt) (jH.out.2.below aU jH.out.2.lt);clear aU;clear n0 n1 n2 n3 n4 n5 n6 n7 nl;have n6:Ce W2 H 6 (Iv t1):=zU.out.1.cell 6;have n7:Ce W2 H 7 (Iv t2):=zU.out.1.cell 7;have f6:=zU.out.1.frozen 6;have f7:=zU.out.1.frozen 7;have nl:=zU.out.1.lt;have Ar:Blk (W2.setCell (Ad H 6) (Iv ty)) H tNd #[Iv 5,Iv o2,Iv o3,.string zs,Iv o5,.slice kA kn kc,Iv ty,Iv t2]:=(zU.out.1.af 6 _);have Ae:Blk (W2.setCell (Ad H 6) (Iv ty)) (H+1) tNd #[Iv 0,Iv 0,Iv 0,.string ⟨#[]⟩,Iv 0,Sn,Iv 0,Iv 0]:=(zU.out.2.far (p:=Ad H 6) (by simp) _)
  have lu:Below w.heap.size W2 (W2.setCell (Ad H 6) (Iv ty)):=((Below.refl w.heap.size W2).setCell (p:=Ad H 6) (by have:=HH.out;simp;omega) _)
  go_upto_region 24 with (fail);generalize (W2.setCell (Ad H 6) (Iv ty))=W8 at *;have Jv:=Hy lu;clear lu;have b1:=Ar;have b2:=Ae;have kZ:=setRow_heap W8 (H+1) _ #[Iv 5,Iv o2,Iv o3,.string zs,Iv o5,.slice kA kn kc,Iv ty,Iv t2] tNd (0,0) b2;have oW:=Hy2 kZ (below_setRow (B:=w.heap.size) W8 (H+1) #[Iv 5,Iv o2,Iv o3,.string zs,Iv o5,.slice kA kn kc,Iv ty,Iv t2] (by have:=HH.out;omega))
  clear kZ;refine wp_region_list ?_;refine wpList_load_row rfl tNd _ rfl H rfl tNd _ (0,0) _ b1 underlying75 rfl ay ?_;refine wpList_store_row rfl tNd _ _ rfl (H+1) _ rfl rfl tNd #[Iv 0,Iv 0,Iv 0,.string ⟨#[]⟩,Iv 0,Sn,Iv 0,Iv 0] b2 ay rfl (by simp [Value.oneCell']) ?_
  refine wpList_nil ?_;go_wp2_with fail;refine bodyPost_ret (results_cell_row rfl _ _ (H+1) tNd _ (0,0) _ rfl oW.1 underlying75 rfl ay) rfl ?_;rw [HE.out];exact ⟨rfl,NoP.under HX.2.2.2 Rz.out (Jv.trans oW.2)⟩
 by_cases h7:o1=7
 ·subst h7;obtain ⟨⟨⟨ct,cr⟩,cd⟩,JQ⟩:∃q,kP X.gs (X.fl.map (·.1)) S.tr S.L ⟨7,o2,o3,o4,o5,o6⟩ xk (t1,t2) S.d=q:=⟨_,rfl⟩;have HE:=Hy (show rr=((ct,cr),cd) by rw [<-Jm.out];unfold fO;exact JQ)
  have UW:=Hy (show Calls prog 137 #[crp X,.agg #[Iv 7,Iv o2,Iv o3,.string zs,Iv o5,.slice kA kn kc,Iv t1,Iv t2]] W fun e w'=>e=.returned (.agg #[Iv 7,Iv o2,Iv o3,.string zs,Iv o5,.slice kA kn kc,Iv ct,Iv cr])/\NoP X {S with d:=cd} W w' by have h9:=MO H2 HX.1 HX.2.1 (t1,t2);simp only [ndV,HZ.out,JQ] at h9;exact h9)
  clear JQ m0 ml;have n0:Ce W H 0 (Iv 7):=K2.out.cell 0;have n1:Ce W H 1 (Iv o2):=K2.out.cell 1;have n2:Ce W H 2 (Iv o3):=K2.out.cell 2;have n3:Ce W H 3 (.string zs):=K2.out.cell 3;have n4:Ce W H 4 (Iv o5):=K2.out.cell 4;have n5:Ce W H 5 (.slice kA kn kc):=K2.out.cell 5;have n6:Ce W H 6 (Iv t1):=K2.out.cell 6;have n7:Ce W H 7 (Iv t2):=K2.out.cell 7;have nl:=K2.out.lt;go_wp2_with fail;refine UW.mono ?_;clear UW;rintro e W1 ⟨rfl,hP⟩;have IU:=Hy (Nb.out.trans hP);have b2:=ak hP.gr jk.out.2 (by simp;omega)
  have kZ:=setRow_heap W1 (H+1) _ #[Iv 7,Iv o2,Iv o3,.string zs,Iv o5,.slice kA kn kc,Iv ct,Iv cr] tNd (0,0) b2;have oW:=Hy2 kZ (below_setRow (B:=w.heap.size) W1 (H+1) #[Iv 7,Iv o2,Iv o3,.string zs,Iv o5,.slice kA kn kc,Iv ct,Iv cr] (by have:=HH.out;omega))
  clear kZ hP;clear n0 n1 n2 n3 n4 n5 n6 n7 nl;go_wp2_with (refine wpList_store_row rfl tNd _ _ rfl (H+1) _ rfl rfl tNd #[Iv 0,Iv 0,Iv 0,.string ⟨#[]⟩,Iv 0,Sn,Iv 0,Iv 0] b2 ay rfl (by simp [Value.oneCell']) ?_)
  refine bodyPost_ret (results_cell_row rfl _ _ (H+1) tNd _ (0,0) _ rfl oW.1 underlying75 rfl ay) rfl ?_;rw [HE.out];exact ⟨rfl,NoP.under HX.2.2.2 IU.out oW.2⟩
 have HE:=Hy (show rr=((t1,t2),S.d) by rw [<-Jm.out];unfold fO;simp only [h8,h2,h3,h4,h6,h5,h7,if_false])
 have Ar:=jk.out.1;have Ae:=jk.out.2;have lu:Below w.heap.size W W:=zB _ _;go_upto_region 24 with (fail);have Jv:=Hy lu;clear lu;have b1:=Ar;have b2:=Ae;have kZ:=setRow_heap W (H+1) _ #[Iv o1,Iv o2,Iv o3,.string zs,Iv o5,.slice kA kn kc,Iv t1,Iv t2] tNd (0,0) b2;have oW:=Hy2 kZ (below_setRow (B:=w.heap.size) W (H+1) #[Iv o1,Iv o2,Iv o3,.string zs,Iv o5,.slice kA kn kc,Iv t1,Iv t2] (by have:=HH.out;omega))
 clear kZ;refine wp_region_list ?_;refine wpList_load_row rfl tNd _ rfl H rfl tNd _ (0,0) _ b1 underlying75 rfl ay ?_;refine wpList_store_row rfl tNd _ _ rfl (H+1) _ rfl rfl tNd #[Iv 0,Iv 0,Iv 0,.string ⟨#[]⟩,Iv 0,Sn,Iv 0,Iv 0] b2 ay rfl (by simp [Value.oneCell']) ?_
 refine wpList_nil ?_;go_wp2_with fail;refine bodyPost_ret (results_cell_row rfl _ _ (H+1) tNd _ (0,0) _ rfl oW.1 underlying75 rfl ay) rfl ?_;rw [HE.out];exact ⟨rfl,NoP.under HX.2.2.2 Nb.out (Jv.trans oW.2)⟩
end
end
section
open Go Go.RowKit Go.Maps
def Fo.off:Fo->Nat->Nat->Nat
 | .nil,d,_=>d
 | .cons _ _ _,d,0=>d
 | .cons _ k r,d,i+1=>r.off (d+k.size+1) i
theorem Fo.kH (F:Fo)(d:Nat):F.off d 0=d:=by cases F <;> rfl
theorem Fo.DC (F:Fo):∀(d i a:Nat),(F.roots d)[i]? =some a->F.off d (i+1)=a+1:=by
 induction F with
 |nil=>intro d i a h;simp [Fo.roots] at h
 |cons hh k r _ ih=>
  intro d i a h;cases i with
  |zero=>
   rw [Fo.roots,List.getElem?_cons_zero,Option.some.injEq] at h;subst h;simp only [Fo.off,Fo.kH]
  |succ i=>
   rw [Fo.roots,List.getElem?_cons_succ] at h;simp only [Fo.off];exact ih _ i a h
theorem Fo.F9 (F:Fo):∀d,F.off d F.len=d+F.size:=by
 induction F with
 |nil=>intro d;simp [Fo.off,Fo.size]
 |cons hh k r _ ih=>intro d;simp only [Fo.len,Fo.off,ih,Fo.size];omega
theorem Fo.JX (F:Fo):∀d j,d<=F.off d j:=by
 induction F with
 |nil=>intro d j;simp [Fo.off]
 |cons hh k r _ ih=>
  intro d j;cases j with
  |zero=>simp [Fo.off]
  |succ j=>have:=ih (d+k.size+1) j;simp only [Fo.off];omega
theorem Fo.JW (F:Fo):∀d j,j<=F.len->F.off d j<=d+F.size:=by
 induction F with
 |nil=>intro d j _;simp [Fo.off]
 |cons hh k r _ ih=>
  intro d j hj;cases j with
  |zero=>simp [Fo.off]
  |succ j=>simp only [Fo.len] at hj;have:=ih (d+k.size+1) j (by omega);simp only [Fo.off,Fo.size];omega
section
variable {X:RX} {S:RS} {w:World}
theorem KJ (h:RV X S w)(wW:X.ns.length<=1000000)(sZ:∀x∈X.ns,x.kids.length<=1000000)(t:Nat)(F:Fo) :
  ∀(d:Nat),(∀m n,(F.flat d)[m]? =some n->(X.ns.map CN.nd)[d+m]? =some n)->∀(i a:Nat),(F.roots d)[i]? =some a->∀W,Zw w W->
  Calls prog 62 #[crp X,Iv (t:Nat),Iv (a:Nat)] W fun e w'=>e=.returned (.bool (decide (F.off d i<=t/\t<=a)))/\Zw W w':=by
 induction F with
 |nil=>intro d _ i a ha;simp [Fo.roots] at ha
 |cons hd k r ih1 ih2=>
  intro d xu i a ha W hW;cases i with
  |succ i=>
   rw [Fo.roots,List.getElem?_cons_succ] at ha;exact ih2 (d+k.size+1) (fun m n hn=>by rw [show d+k.size+1+m=d+(k.size+1+m) by omega];exact xu _ _ (by rw [gW];exact hn)) i a ha W hW
  |zero=>
   rw [Fo.roots,List.getElem?_cons_zero,Option.some.injEq] at ha;have IH:=Hy (ih1 d (fun m n hn=>xu m n (jO hn)))
   have LC:=xu _ _ (iN (h:=hd) (k:=k) (r:=r) (c:=d));have Sd:=k.F9 d;clear ih1 ih2 xu;rw [Fo.kH];rw [ha] at LC;rw [List.getElem?_map] at LC;obtain ⟨⟨xh,xk,xv⟩,hx,hxe⟩:∃x,X.ns[a]? =some x/\x.nd=⟨hd,k.roots d⟩:=by
    cases hx:X.ns[a]? with
    |none=>rw [hx] at LC;cases LC
    |some x=>rw [hx] at LC;exact ⟨x,rfl,Option.some.inj LC⟩
   simp only [CN.nd,Nd.mk.injEq] at hxe;obtain ⟨-,rfl⟩:=hxe;obtain ⟨u,hu⟩:∃u,S.tr[a]? =some u:=⟨_,List.getElem?_eq_getElem (by rw [h.tl];exact (zS.1 hx).1)⟩
   have hR:=h.on hW;have c2:=hR.c2;have hl:=hR.chk.lt;have rn:=RdS.av hR.n;have rk:=RdS.av (hR.ks _ (zG hx)).1;have hk2:=sZ _ (zG hx);simp only at rk hk2;obtain ⟨kl,VR⟩:=zN (k.roots d);rw [VR] at rk hk2;obtain ⟨kn,Ey⟩:=zN kl.length;rw [Ey] at rk hk2;obtain ⟨kA,kc,rfl⟩:=rk.shape;have Qp:=(zS.1 hx).1;obtain ⟨nn,DC⟩:=zN X.ns.length;rw [DC] at c2 rn Qp wW;have u5:(aI X.ns S.tr)[a * 8+5]? =some (.slice kA kn kc):=aV X.ns S.tr a 5 (by omega) hx hu
   obtain ⟨g,o,hA,hg,hc⟩:=rn.get (dQ u5);have y5:Ce W g (o+a * 8+5) (.slice kA kn kc):=hc _ _ u5;rw [hA] at c2;have haI:(a:Int)<nn:=by omega
   have Yf:k.len=kn:=by rw [<-Ey,<-VR,Fo.dK]
   rw [Yf] at Sd;obtain ⟨R,hRr⟩:=zN (decide (d<=t/\t<=a));rw [hRr];have HX:=Hy7 hRr ha Sd VR Ey rk hW;have HL:=Hy Yf;clear hRr ha Sd VR Ey rk hW LC hx hu hR hA u5 hc rn DC Yf h sZ;by_cases hta:t=a
   ·have HR:Hid (R=true):=Hy (by rw [<-HX.1];have:=HX.2.1;simp;omega)
    subst hta;go_enter func62,ntmps62;go_wp2_with fail;go_ret;rw [HR.out];exact ⟨rfl,zB _ _⟩
   ·have q0:decide ((t:Int)=(a:Int))=false:=by simp;omega
    have q0b:((t:Int) == (a:Int))=false:=by rw [beq_eq_false_iff_ne];omega
    go_enter func62,ntmps62;go_wp2_with fail;go_loopw [8] (fun v wr=>∃q:Nat,q<=kn/\v=Iv q/\¬ (d<=t/\t<k.off d q)/\Zw W wr) (fun v _=>kn - (intOf v).toNat)
    case atStart=>exact ⟨0,by omega,rfl,by rw [Fo.kH];omega,zB _ _⟩
    case round=>
     obtain ⟨q,hq,rfl,hno,hb⟩:=hrel;by_cases hlt:q<kn
     ·obtain ⟨b,MN⟩:∃b,kl[q]? =some b:=⟨_,List.getElem?_eq_getElem (by have:=HX.2.2.2.2.1;omega)⟩
      have v1:(ints (bK kl))[q]? =some (Iv (b:Nat)):=by simp [ints,bK,MN]
      obtain ⟨g5,o5',rfl,Qk,Rj⟩:=HX.2.2.2.2.2.1.get (dQ v1);have Rj:=(hb.cell (p:=(Ad g5 (o5'+q))) Qk).trans (Rj _ _ v1);have hg5':=zT Qk hb.size;have hqI:(q:Int)<kn:=by omega
      have WQ:=k.DC d q b (by rw [HX.2.2.2.1];exact MN)
      obtain ⟨bb,DW⟩:=zN (decide (k.off d q<=t/\t<=b));have HC:=Hy (IH.out q b (by rw [HX.2.2.2.1];exact MN) wr (HX.2.2.2.2.2.2.trans (hb.mono HX.2.2.2.2.2.2.size)))
      rw [DW] at HC;have HB:=Hy4 hb hno DW WQ;clear hb hno MN v1 WQ DW Qk;go_wp2_with fail;refine HC.mono ?_;clear HC;rintro e w5 ⟨rfl,qK⟩;have QA:=Hy (HB.1.trans (qK.mono HB.1.size));clear qK Rj hg5';cases bb with
      |true=>
       have HR:Hid (R=true):=Hy (by
        rw [<-HX.1];have h1:=of_decide_eq_true HB.2.2.1;have h2:=HB.2.2.2;have h3:=HX.2.1;have h4:=HX.2.2.1;have h6:=k.JX d q;have h7:=k.JW d (q+1) (by have:=HL.out;omega)
        simp;omega)
       go_wp2_with fail;go_ret;rw [HR.out];exact ⟨rfl,QA⟩
      |false=>
       have HN:=Hy (show ¬ (d<=t/\t<k.off d (q+1)) by
        have h1:=of_decide_eq_false HB.2.2.1;have h2:=HB.2.2.2;have h3:=HB.2.1;omega)
       go_wp2_with fail;go_roundw
       case rel=>exact ⟨q+1,by omega,by go_num,HN,QA⟩
       case measure=>simp [intOf];omega
     ·obtain rfl:q=kn:=by omega
      have HR:Hid (R=false):=Hy (by
       rw [<-HX.1];have h3:=HX.2.1;have h4:=HX.2.2.1;rw [h4] at hno;simp;omega)
      have HB:=Hy hb;clear hb hno;go_wp2_with fail;go_ret;rw [HR.out];exact ⟨rfl,HB⟩
end
end
section
open Go Go.RowKit Go.Maps
def pX (ns:List CN) (lo b:Nat) (x:Nm') (j:Nat):Bool:=
 match ns[j]? with
 |some n=>decide (n.h.op=18) && (decide (n.h.s=x) && decide (lo<=j/\j<=b))
 |none=>false
def iZ (ns:List CN) (lo b:Nat) (x:Nm'):Nat->Nat
 |0=>0
 |m+1=>iZ ns lo b x m+(if pX ns lo b x m then 1 else 0)
theorem Gs (ns:List CN)(lo b:Nat)(x:Nm'):∀m,iZ ns lo b x m<=m:=by
 intro m
 induction m with
 |zero=>simp [iZ]
 |succ m ih=>simp only [iZ];split <;> omega
section
variable {X:RX} {S:RS} {w:World}
def InT (X:RX) (S:RS) (w:World) (lo b:Nat):Prop:=∀(t:Nat) (W:World),Zw w W->Calls prog 62 #[crp X,Iv (t:Nat),Iv (b:Nat)] W fun e w'=>e=.returned (.bool (decide (lo<=t/\t<=b)))/\Zw W w'
theorem uf (h:RV X S w){lo b:Nat}(hT:InT X S w lo b){f:Fn'×Value}(hf:X.fl[S.F]? =some f)(hb:f.1.b=b)(x:Nm')(m:Nat)(hm:m<=X.ns.length)(wW:X.ns.length<=1000000) :
  Calls prog 63 #[crp X,.string (str x),Iv (m:Nat)] w fun e w'=>e=.returned (Iv (iZ X.ns lo b x m:Nat))/\Zw w w':=by
 have HT:=Hy hT;obtain ⟨zx,OP⟩:=zN (str x);rw [OP];obtain ⟨vv,Oy⟩:∃v,S.vls[S.F]? =some v:=⟨_,List.getElem?_eq_getElem (by rw [h.vl];exact (zS.1 hf).1)⟩
 have We:=(zS.1 hf).1;have HX:=Hy6 h OP hf hb Oy hm;clear h OP hf hb Oy hT;have GZ:m<=1000000:=by omega
 obtain ⟨SF,Rw⟩:=zN S.F;obtain ⟨fn,ut⟩:=zN X.fl.length;obtain ⟨nn,DC⟩:=zN X.ns.length;have HN:=Hy3 Rw ut DC;rw [Rw,ut] at We;rw [DC] at hm wW;clear Rw ut DC;go_enter func63,ntmps63;go_wp2_with fail;go_loopw [7,8] (fun v7 v wr=>∃k:Nat,k<=m/\v=Iv k/\v7=Iv (iZ X.ns lo b x k:Nat)/\Zw w wr) (fun _ v _=>m - (intOf v).toNat)
 case atStart=>exact ⟨0,by omega,rfl,rfl,zB _ _⟩
 case round=>
  obtain ⟨k,hk,rfl,rfl,bW⟩:=hrel;have Rq:iZ X.ns lo b x k<=k:=Gs _ _ _ _ _;obtain ⟨lr,X9⟩:=zN (iZ X.ns lo b x k);rw [X9] at Rq |-;have HLR:=Hy X9;clear X9;by_cases hlt:k<m
  ·have Ey:k<nn:=by omega
   obtain ⟨y,hy⟩:∃y,X.ns[k]? =some y:=⟨_,List.getElem?_eq_getElem (by have:=HN.out.2.2;omega)⟩
   have hR:=HX.out.1.on bW;obtain ⟨u,hu⟩:∃u,S.tr[k]? =some u:=⟨_,List.getElem?_eq_getElem (by rw [hR.tl];have:=HN.out.2.2;omega)⟩
   have u0:(aI X.ns S.tr)[k * 8]? =some (Iv y.h.op):=aV X.ns S.tr k 0 (by omega) hy hu
   have u3:(aI X.ns S.tr)[k * 8+3]? =some (.string (str y.h.s)):=aV X.ns S.tr k 3 (by omega) hy hu
   have f3:(dE X.fl S.vls)[SF * 6+3]? =some (Iv (b:Nat)):=by
    have h9:=bQ X.fl S.vls S.F 3 (by omega) HX.out.2.2.1 HX.out.2.2.2.2.1
    rw [HN.out.1] at h9;rw [h9,<-HX.out.2.2.2.1];rfl
   have rn:=RdS.av hR.n;have rf:=RdS.av hR.f;have c1:=hR.c1;have c2:=hR.c2;have c3:=hR.c3;rw [HN.out.2.1] at c1 rf;rw [HN.out.2.2] at c2 rn;rw [HN.out.1] at c3;obtain ⟨g,o,hA,hg,hc⟩:=rn.get (dQ u0);obtain ⟨g2,Vy,hA2,Cm,IR⟩:=rf.get (dQ f3);have y0:Ce wr g (o+k * 8) (Iv y.h.op):=hc _ _ u0;have y3:Ce wr g (o+k * 8+3) (.string (str y.h.s)):=hc _ _ u3;have y4:Ce wr g2 (Vy+SF * 6+3) (Iv (b:Nat)):=IR _ _ f3;rw [hA] at c2;rw [hA2] at c1;have cl:=hR.chk.lt;have Qj:(k:Int)<m:=by omega
   have hkN:(k:Int)<nn:=by omega
   have YI:(SF:Int)<fn:=by omega
   have Di:iZ X.ns lo b x (k+1)=lr+(if decide (y.h.op=18) && (decide (y.h.s=x) && decide (lo<=k/\k<=b)) then 1 else 0):=by rw [iZ,HLR.out];simp only [pX,hy]
   obtain ⟨yo,hyo⟩:=zN y.h.op;obtain ⟨zy,Tz⟩:=zN (str y.h.s);rw [hyo] at y0 Di;rw [Tz] at y3;have hlr3:lr<=1000000:=by omega
   have Cb:=Hy bW;by_cases h18:yo=18
   ·subst h18;by_cases hxs:y.h.s=x
    ·have hE:zy=zx:=by rw [<-Tz,hxs,HX.out.2.1]
     subst hE;obtain ⟨bb,DW⟩:=zN (decide (lo<=k/\k<=b));have HC:=Hy (show ∀W,Zw wr W->Calls prog 62 #[crp X,Iv (k:Nat),Iv (b:Nat)] W fun e w'=>e=.returned (.bool bb)/\Zw wr w' from fun W hW=>by
      have h9:=HT.out k W (bW.trans (hW.mono bW.size));rw [DW] at h9;exact h9.mono fun e w' h=>⟨h.1,hW.trans (h.2.mono hW.size)⟩)
     have HL:=Hy (show iZ X.ns lo b x (k+1)=lr+(if bb then 1 else 0) by rw [Di,DW,hxs];simp)
     have HS:Hid (∀Wx,Zw wr Wx->Ce Wx X.b 1 (.slice (some ⟨g2,Vy,none⟩) fn X.fc)/\Ce Wx X.b 2 (.slice (some ⟨g,o,none⟩) nn X.nc)/\Ce Wx X.b 3 (Iv (SF:Nat))/\X.b<Wx.heap.size/\Ce Wx g (o+k * 8) (Iv 18)/\Ce Wx g (o+k * 8+3) (.string zy)/\g<Wx.heap.size/\Ce Wx g2 (Vy+SF * 6+3) (Iv (b:Nat))/\g2<Wx.heap.size):=Hy fun Wx hW=>
      ⟨(hW.cell (p:=⟨X.b,1,none⟩) cl).trans c1,(hW.cell (p:=⟨X.b,2,none⟩) cl).trans c2,(hW.cell (p:=⟨X.b,3,none⟩) cl).trans c3,Nat.lt_of_lt_of_le cl hW.size,(hW.cell (p:=⟨g,_,none⟩) hg).trans y0,(hW.cell (p:=⟨g,_,none⟩) hg).trans y3,Nat.lt_of_lt_of_le hg hW.size,(hW.cell (p:=⟨g2,_,none⟩) Cm).trans y4,Nat.lt_of_lt_of_le Cm hW.size⟩
     have J:Zw wr wr:=zB _ _;have q1:decide ((18:Int)=18)=true:=by decide
     have q2:(zy.toList == zy.toList)=true:=by simp
     clear DW Di bW hy hR hu u0 u3 f3 rn rf hA hA2 hc IR hyo Tz hxs;go_upto_region 5 with (fail);go_region_held2 (fun Wx=>Ce Wx X.b 1 (.slice (some ⟨g2,Vy,none⟩) fn X.fc)/\Ce Wx X.b 2 (.slice (some ⟨g,o,none⟩) nn X.nc)/\Ce Wx X.b 3 (Iv (SF:Nat))/\X.b<Wx.heap.size/\Ce Wx g (o+k * 8) (Iv 18)/\Ce Wx g (o+k * 8+3) (.string zy)/\g<Wx.heap.size/\Ce Wx g2 (Vy+SF * 6+3) (Iv (b:Nat))/\g2<Wx.heap.size)
      (first|exact ⟨c1,c2,c3,cl,y0,y3,hg,y4,Cm⟩|exact HS.out _ J)
      ((go_at_call 62;(with_reducible refine Calls.mono (HC.out _ (by first|exact J|exact J.drew)) ?_);rintro e v1 ⟨rfl,J⟩))
     all_goals
      have HJ:=Hy (Cb.out.trans (Below.mono (show Zw wr _ from by first|exact J|exact J.drew) Cb.out.size))
      cases bb with
      |true=>
       go_wp2_with fail;go_roundw
       case rel=>exact ⟨k+1,by omega,by go_num,by rw [HL.out];go_num,HJ.out⟩
       case measure=>simp [intOf];omega
      |false=>
       go_wp2_with fail;go_roundw
       case rel=>exact ⟨k+1,by omega,by go_num,by rw [HL.out];simp,HJ.out⟩
       case measure=>simp [intOf];omega
    ·have s0:=mG Tz HX.out.2.1 hxs;have q1:decide ((18:Int)=18)=true:=by decide
     have HL:=Hy (show iZ X.ns lo b x (k+1)=lr by rw [Di];simp [hxs])
     clear Di bW hy hR hu u0 u3 f3 rn rf hA hA2 hc IR hyo Tz hxs;go_upto_region 5 with (fail);go_quiet (fail);all_goals
      go_wp2_with fail;go_roundw
      case rel=>exact ⟨k+1,by omega,by go_num,by rw [HL.out],by first|exact Cb.out|exact Cb.out.drew|exact Cb.out.trans (below_drewN _ _ _)⟩
      case measure=>simp [intOf];omega
   ·have q1:decide (yo=18)=false:=by simp [h18]
    have q1b:(yo == 18)=false:=by simp [h18]
    have HS:Hid (∀Wx,Zw wr Wx->Ce Wx X.b 1 (.slice (some ⟨g2,Vy,none⟩) fn X.fc)/\Ce Wx X.b 2 (.slice (some ⟨g,o,none⟩) nn X.nc)/\Ce Wx X.b 3 (Iv (SF:Nat))/\X.b<Wx.heap.size/\Ce Wx g (o+k * 8) (Iv yo)/\Ce Wx g (o+k * 8+3) (.string zy)/\g<Wx.heap.size/\Ce Wx g2 (Vy+SF * 6+3) (Iv (b:Nat))/\g2<Wx.heap.size):=Hy fun Wx hW=>
     ⟨(hW.cell (p:=⟨X.b,1,none⟩) cl).trans c1,(hW.cell (p:=⟨X.b,2,none⟩) cl).trans c2,(hW.cell (p:=⟨X.b,3,none⟩) cl).trans c3,Nat.lt_of_lt_of_le cl hW.size,(hW.cell (p:=⟨g,_,none⟩) hg).trans y0,(hW.cell (p:=⟨g,_,none⟩) hg).trans y3,Nat.lt_of_lt_of_le hg hW.size,(hW.cell (p:=⟨g2,_,none⟩) Cm).trans y4,Nat.lt_of_lt_of_le Cm hW.size⟩
    have J:Zw wr wr:=zB _ _;have HL:=Hy (show iZ X.ns lo b x (k+1)=lr by rw [Di];simp [h18])
    clear Di bW hy hR hu u0 u3 f3 rn rf hA hA2 hc IR hyo Tz;go_upto_region 5 with (fail);go_quiet (fail);all_goals
     go_wp2_with fail;go_roundw
     case rel=>exact ⟨k+1,by omega,by go_num,by rw [HL.out],by first|exact Cb.out|exact Cb.out.drew|exact Cb.out.trans (below_drewN _ _ _)⟩
     case measure=>simp [intOf];omega
  ·obtain rfl:k=m:=by omega
   have Cb:=Hy bW;clear bW;go_wp2_with fail;go_ret;exact ⟨(by rw [HLR.out];try rfl),Cb.out⟩
end
end
section
open Go Go.RowKit Go.Maps
def jN (ns:List CN) (lo b m:Nat):Bool:=
 match ns[m]? with
 |some n=>decide (n.h.op=18) && (decide (lo<=m/\m<=b) && decide (0<iZ ns lo b n.h.s m))
 |none=>false
def jv (ns:List CN) (lo b:Nat):Nat->Int×Int->Int×Int
 |0,d=>d
 |m+1,d=>dN (jv ns lo b m d) (jN ns lo b m) 5 ((ns[m]?.map fun n=>n.h.p).getD 0)
theorem Ea (n:Nd):∀(a:List Nd) (l:List Nm'),jd (a ++ [n]) l=(jd a l).bind fun l'=>if n.h.op=18 then (if n.h.s∈l' then .er 5 n.h.p else .ok (l' ++ [n.h.s])) else .ok l':=by
 intro a
 induction a with
 |nil=>
  intro l;simp only [List.nil_append,jd,Ck.bind_ok]
 |cons x a ih=>
  intro l;simp only [List.cons_append,jd];split
  ·split
   ·rfl
   ·exact ih _
  ·exact ih _
theorem Kt (ns:List CN)(WB:List Nd)(lo b:Nat)(uM:WB.length+lo=b+1)(xu:∀j n,WB[j]? =some n->(ns.map CN.nd)[lo+j]? =some n):∀m,m<=ns.length->
  match jd (WB.take (m - lo)) [] with
  | .ok l=>jv ns lo b m (0,0)=(0,0)/\∀x,x∈l↔0<iZ ns lo b x m
  | .er n p=>jv ns lo b m (0,0)=(n,p)/\n≠0:=by
 intro m
 induction m with
 |zero=>intro _;rw [Nat.zero_sub,List.take_zero];simp [jd,jv,iZ]
 |succ m ih=>
  intro hm;have ih:=ih (by omega)
  obtain ⟨y,hy⟩:∃y,ns[m]? =some y:=⟨_,List.getElem?_eq_getElem (by omega)⟩
  by_cases hin:lo<=m/\m<=b
  ·obtain ⟨n,hn⟩:∃n,WB[m - lo]? =some n:=⟨_,List.getElem?_eq_getElem (by omega)⟩
   have DC:=xu _ _ hn;rw [show lo+(m - lo)=m by omega,List.getElem?_map,hy,Option.map_some,Option.some.injEq] at DC
   subst DC;rw [show m+1 - lo=(m - lo)+1 by omega,List.take_add_one,hn,Option.toList_some,Ea]
   cases hl:jd (WB.take (m - lo)) [] with
   |er n p=>
    rw [hl] at ih;simp only [Ck.aB];rw [jv,ih.1,cZ (d:=(n,p)) ih.2];exact ⟨rfl,ih.2⟩
   |ok l=>
    rw [hl] at ih;simp only [Ck.bind_ok];rw [jv,ih.1];have V4:decide (lo<=m/\m<=b)=true:=by simp [hin]
    by_cases h18:y.nd.h.op=18
    ·rw [if_pos h18];have SC:y.h.op=18:=h18;by_cases hmem:y.nd.h.s∈l
     ·rw [if_pos hmem];have h0:=(ih.2 _).1 hmem;have e:jN ns lo b m=true:=by unfold jN;rw [hy];simp only [V4,SC,decide_true,Bool.true_and];exact decide_eq_true h0
      rw [e,dX rfl,hy];exact ⟨rfl,by decide⟩
     ·rw [if_neg hmem];have h0:¬ 0<iZ ns lo b y.h.s m:=fun h=>hmem ((ih.2 _).2 h)
      have e:jN ns lo b m=false:=by unfold jN;rw [hy];simp only [V4,SC,decide_true,Bool.true_and];exact decide_eq_false h0
      rw [e,bP];refine ⟨rfl,fun x=>?_⟩
      rw [iZ,List.mem_append,List.mem_singleton,ih.2 x];have e2:pX ns lo b x m=decide (y.h.s=x):=by unfold pX;rw [hy];simp only [V4,SC,decide_true,Bool.true_and,Bool.and_true]
      rw [e2];by_cases hx:y.h.s=x
      ·simp [hx,CN.nd]
      ·have Zr:¬ x=y.nd.h.s:=fun e=>hx e.symm
       simp [hx,Zr]
    ·rw [if_neg h18];have SC:¬ y.h.op=18:=h18;have e:jN ns lo b m=false:=by unfold jN;rw [hy];simp [SC]
     rw [e,bP];refine ⟨rfl,fun x=>?_⟩
     have e2:pX ns lo b x m=false:=by unfold pX;rw [hy];simp [SC]
     rw [iZ,e2,ih.2 x];simp
  ·have e:jN ns lo b m=false:=by unfold jN;rw [hy];simp only [decide_eq_false hin,Bool.false_and,Bool.and_false]
   have e2:∀x,pX ns lo b x m=false:=fun x=>by unfold pX;rw [hy];simp only [decide_eq_false hin,Bool.and_false]
   have ht:WB.take (m+1 - lo)=WB.take (m - lo):=by
    by_cases h1:m<lo
    ·rw [show m+1 - lo=0 by omega,show m - lo=0 by omega]
    ·rw [List.take_of_length_le (by omega),List.take_of_length_le (by omega)]
   rw [ht];cases hl:jd (WB.take (m - lo)) [] with
   |er n p=>
    rw [hl] at ih;simp only;rw [jv,ih.1,cZ (d:=(n,p)) ih.2];exact ⟨rfl,ih.2⟩
   |ok l=>
    rw [hl] at ih;simp only;rw [jv,ih.1,e,bP];refine ⟨rfl,fun x=>?_⟩
    rw [iZ,e2 x,ih.2 x];simp
def iy:List Pm->Nat->List Vr
 | [],_=>[]
 |p ::l,i=>⟨p.s,i,1⟩ ::iy l (i+1)
theorem Bq:∀(ps:List Pm) (vs:List Int) (s:Scp),dH [lK ps vs s] 1=(s.reverse.map fun y=>(⟨y.1,y.2.rf.toNat,1⟩:Vr)) ++ iy ps vs.length:=by
 intro ps
 induction ps with
 |nil=>intro vs s;simp [lK,iy,dH]
 |cons p l ih=>
  intro vs s;rw [lK,ih,iy,List.length_append,List.length_cons,List.length_nil,List.reverse_cons,List.map_append,List.append_assoc];simp
theorem JN:∀(ps:List Pm) (vs:List Int) (s:Scp),(∀p∈ps,p.ty=1∨p.ty=2)->nI [s] vs->nI [lK ps vs s] (vs ++ ps.map (·.ty)):=by
 intro ps
 induction ps with
 |nil=>intro vs s _ h;simpa [lK] using h
 |cons p l ih=>
  intro vs s hp h;have h9:=ih (vs ++ [p.ty]) ((p.s,⟨1,vs.length,p.ty⟩) ::s) (fun q hq=>hp q (by simp [hq])) (fun z hz y hy=>by
   rw [List.mem_singleton] at hz;subst hz;rcases List.mem_cons.1 hy with rfl|hy
   ·exact ⟨rfl,⟨_,rfl,by simp⟩,hp p (by simp)⟩
   ·exact (nI.app (x:=[p.ty]) h) s (by simp) y hy)
  rw [List.append_assoc] at h9;exact h9
section
variable (gs:List Gl) (fs:List Fn') (ns:List CN)
def fH (f:Fn') (h:Hd) (k:Fo) (c:Nat) (tr:List (Int×Int)) (d:Int×Int):Rst:=
 aQ gs fs f.ty (fun x=>iZ ns c (c+k.size) x ns.length) (.cons h k .nil) c ⟨tr,iy f.ps 0,0,f.ps.map (·.ty),jv ns c (c+k.size) ns.length d⟩
def fU:List Fn'->Fo->Nat->List (Int×Int)->Int×Int->(List (Int×Int)×List (List Int))×(Int×Int)
 | [],_,_,tr,d=>((tr,[]),d)
 |_ ::_,.nil,_,tr,d=>((tr,[]),d)
 |f ::l,.cons h k r,c,tr,d=>if d.1≠0 then ((tr,[]),d) else
  (((fU l r (c+k.size+1) (fH gs fs ns f h k c tr d).tr (fH gs fs ns f h k c tr d).d).1.1,(fH gs fs ns f h k c tr d).vs ::(fU l r (c+k.size+1) (fH gs fs ns f h k c tr d).tr (fH gs fs ns f h k c tr d).d).1.2),
   (fU l r (c+k.size+1) (fH gs fs ns f h k c tr d).tr (fH gs fs ns f h k c tr d).d).2)
def iX (d:Int×Int):Int×Int:=
 match (eY fs bn).bind fun i=>fs[i]? with
 |none=>dN d true 12 0
 |some f=>dN d (decide (f.ty≠1) || decide (0<f.ps.length)) 12 f.p
end
structure EvP (gs:List Gl) (fs:List Fn') (G:Scp):Prop where
 G:ScR G gs fs
 D:∀f∈fs,dZ gs f.s=none
 gn:∀g∈gs,0<=g.n
 gt:∀g∈gs,g.n=0->g.ty=1∨g.ty=2
 ft:∀f∈fs,f.ty=0∨f.ty=1∨f.ty=2
 pt:∀f∈fs,∀p∈f.ps,p.ty=1∨p.ty=2
theorem EvP.ev {gs:List Gl}{fs:List Fn'}{G:Scp}(E:EvP gs fs G){K:Kn}(WS:K.np=fs.map fun f=>f.ps.length){lab:Nm'->Nat}(hl:∀x,lab x=0↔x ∉ K.lb):EvR gs fs G K lab:=by
 refine ⟨E.G.gok,fun x i hi=>?_,E.gn,E.gt,E.ft,WS,hl⟩
 cases h2:eY fs x with
 |none=>rfl
 |some j=>
  unfold eY at h2;obtain ⟨hj,h3,-⟩:=List.findIdx?_eq_some_iff_getElem.1 h2;have h4:=E.D _ (List.getElem_mem hj);simp only [decide_eq_true_eq] at h3;rw [h3,hi] at h4;cases h4
theorem Ib {gs:List Gl}{fs:List Fn'}{G:Scp}(E:EvP gs fs G){ns:List CN}{f:Fn'}(hf:f∈fs){h:Hd}{k:Fo}{c:Nat}{tr:List (Int×Int)}(h11:h.op=11)(OW:k.sh)(Gt:k.ar)(xu:∀j n,((Fo.cons h k .nil).flat c)[j]? =some n->(ns.map CN.nd)[c+j]? =some n)(JQ:c+k.size<ns.length)(Oo:tr.length=ns.length)(hT:TyW tr) :
  match jT (fs.map fun f=>f.ps.length) G f h k c tr with
  | .ok x=>(fH gs fs ns f h k c tr (0,0)).tr=x.1/\(fH gs fs ns f h k c tr (0,0)).vs=x.2/\(fH gs fs ns f h k c tr (0,0)).d=(0,0)/\TyW x.1
  | .er n p=>(fH gs fs ns f h k c tr (0,0)).d=(n,p)/\n≠0:=by
 have Di:=Kt ns ((Fo.cons h k .nil).flat c) c (c+k.size) (by rw [Fo.aD];simp only [Fo.size];omega) xu ns.length (zL _)
 rw [List.take_of_length_le (by rw [Fo.aD];simp only [Fo.size];omega)] at Di
 unfold jT fH;cases hl:jd ((Fo.cons h k .nil).flat c) [] with
 |er n p=>
  rw [hl] at Di;simp only [Ck.aB];rw [Di.1,qH _ _ _ _ Di.2];exact ⟨rfl,Di.2⟩
 |ok lb=>
  rw [hl] at Di;simp only [Ck.bind_ok];rw [Di.1];have Ev:=E.ev (K:=⟨fs.map fun f=>f.ps.length,f.ty,lb⟩) rfl (lab:=fun x=>iZ ns c (c+k.size) x ns.length) (fun x=>by
   have h9:=Di.2 x;constructor
   ·intro e hm;have:=h9.1 hm;omega
   ·intro hm;have:=mt h9.2 hm;omega)
  have F9:=Bq f.ps [] [];have Qc:=JN f.ps [] [] (E.pt f hf) (fun z hz y hy=>by rw [List.mem_singleton] at hz;subst hz;cases hy)
  simp only [List.reverse_nil,List.map_nil,List.nil_append,List.length_nil] at F9 Qc;have R:Rel G ⟨tr,[G,lK f.ps [] []],f.ps.map (·.ty)⟩ [lK f.ps [] []] ⟨tr,iy f.ps 0,1,f.ps.map (·.ty),(0,0)⟩:=
   ⟨rfl,rfl,rfl,rfl,F9.symm,rfl,Qc,hT,by simp⟩
  have h9:=walk_eq Ev k c _ _ _ OW Gt (by simp only;omega) R
  simp only at h9;simp only [aQ,ne_eq,not_true_eq_false,if_false,h11,if_true];cases hv:dF ⟨fs.map fun f=>f.ps.length,f.ty,lb⟩ k c ⟨tr,[G,lK f.ps [] []],f.ps.map (·.ty)⟩ with
  |er n p=>
   rw [hv] at h9;simp only [Ck.aB];rw [show (0:Int)+1=1 from rfl,if_neg (by rw [h9.1];exact h9.2)]
   exact h9
  |ok τ=>
   rw [hv] at h9;obtain ⟨FR,R2,-,-⟩:=h9;simp only [Ck.bind_ok];rw [show (0:Int)+1=1 from rfl,if_pos (by rw [R2.d]),tT h11]
   exact ⟨R2.tr,R2.vs,R2.d,R2.ty⟩
theorem Ig {gs:List Gl}{fs:List Fn'}{G:Scp}(E:EvP gs fs G){ns:List CN}{V:Tok->Prop}:∀(l:List Fn') (F:Fo) (c:Nat) (tr:List (Int×Int)),(∀f∈l,f∈fs)->Bls V F->(∀j n,(F.flat c)[j]? =some n->(ns.map CN.nd)[c+j]? =some n)->tr.length=ns.length->TyW tr->
  match dR (fs.map fun f=>f.ps.length) G l F c tr with
  | .ok y=>fU gs fs ns l F c tr (0,0)=(y,(0,0))
  | .er n p=>(fU gs fs ns l F c tr (0,0)).2=(n,p)/\n≠0:=by
 intro l
 induction l with
 |nil=>intro F c tr _ _ _ _ _;simp only [dR,fU]
 |cons f l ih=>
  intro F c tr hl hB xu Oo hT;cases F with
  |nil=>simp only [dR,fU]
  |cons h k r=>
   have sQ:c+k.size<ns.length:=by
    have h9:=xu _ _ (iN (h:=h) (k:=k) (r:=r) (c:=c));have:=(zS.1 h9).1
    simpa using this
   have h9:=Ib E (hl f (by simp)) (ns:=ns) (h:=h) (k:=k) (c:=c) (tr:=tr) hB.1 hB.sh.2.1 hB.ar.2.1 (fun j n hn=>by
    rcases jP hn with ⟨_,wW⟩|⟨rfl,rfl⟩|⟨m,rfl,wW⟩
    ·exact xu _ _ (jO wW)
    ·exact xu _ _ iN
    ·simp [Fo.flat] at wW) sQ Oo hT
   rw [kR];rw [fU,if_neg (by simp)]
   cases hb:jT (fs.map fun f=>f.ps.length) G f h k c tr with
   |er n p=>
    rw [hb] at h9;simp only [Ck.aB];rw [h9.1];refine ⟨?_,h9.2⟩;cases l with
    |nil=>simp only [fU]
    |cons g l=>
     cases r with
     |nil=>simp only [fU]
     |cons h' k' r'=>rw [fU,if_pos h9.2]
   |ok x=>
    rw [hb] at h9;obtain ⟨a1,a2,a3,a4⟩:=h9;simp only [Ck.bind_ok];rw [a1,a2,a3];have hx:x.1.length=ns.length:=by
     unfold jT at hb;obtain ⟨lb,-,hb⟩:=aa hb;obtain ⟨τ,h3,hb⟩:=aa hb;cases hb;have:=(iP _ _ _ _ _ h3).ln;simp only at this |-;omega
    have h10:=ih r (c+k.size+1) x.1 (fun g hg=>hl g (by simp [hg])) hB.2.2.2 (fun j n hn=>by
     rw [show c+k.size+1+j=c+(k.size+1+j) by omega]
     exact xu _ _ (by rw [gW];exact hn)) hx a4
    cases hy:dR (fs.map fun f=>f.ps.length) G l r (c+k.size+1) x.1 with
    |er n p=>rw [hy] at h10;exact h10
    |ok y=>rw [hy] at h10;simp only [Ck.bind_ok];rw [h10]
end
section
open Go Go.RowKit Go.Maps
def xw (pg:Pg):Int×Int:=pE pg.g pg.f pg.f 0 (kL pg.g pg.g 0 0 (0,0))
def wP (pg:Pg) (ns:List CN):(List (Int×Int)×List (List Int))×(Int×Int):=
 ((fU pg.g pg.f ns pg.f pg.t 0 (tr0 (pg.t.flat 0)) (xw pg)).1,iX pg.f (fU pg.g pg.f ns pg.f pg.t 0 (tr0 (pg.t.flat 0)) (xw pg)).2)
theorem GY (F:Fo)(h:F.sh):∀(c:Nat) (n:Nd),n∈F.flat c->Sh n.h:=by
 induction F with
 |nil=>intro c n hn;simp [Fo.flat] at hn
 |cons hh k r ih1 ih2=>
  intro c n hn;simp only [Fo.flat,List.mem_append,List.mem_cons] at hn;rcases hn with hn|rfl|hn
  ·exact ih1 h.2.1 c n hn
  ·exact h.1
  ·exact ih2 h.2.2 _ n hn
theorem nD (gs:List Gl)(fs:List Fn')(ns:List CN):∀(l:List Fn') (F:Fo) (c:Nat) (tr:List (Int×Int)) (d:Int×Int),d.1≠0->fU gs fs ns l F c tr d=((tr,[]),d):=by
 intro l F c tr d h;cases l with
 |nil=>simp only [fU]
 |cons f l=>
  cases F with
  |nil=>simp only [fU]
  |cons hh k r=>rw [fU,if_pos h]
theorem lh (fs:List Fn'){d:Int×Int}(h:d.1≠0):iX fs d=d:=by
 unfold iX;split
 ·exact cZ h _ _ _
 ·exact cZ h _ _ _
theorem main_eq {gs:List Gl}{fs:List Fn'}{G:Scp}(E:EvP gs fs G) :
  match jh G fs with
  | .ok _=>iX fs (0,0)=(0,0)
  | .er n p=>iX fs (0,0)=(n,p)/\n≠0:=by
 have hk:=E.G.gok;unfold jh iX;cases hl:look G bn with
 |none=>
  obtain ⟨-,a2⟩:=hk.no _ hl;simp only;rw [a2];exact ⟨dX rfl _ _,by decide⟩
 |some m=>
  rcases hk.yes _ _ hl with ⟨i,g,a1,a2,rfl⟩|⟨a1,i,f,a2,a3,rfl⟩
  ·have PY:(gMg g i).so≠4:=by unfold gMg;split <;> simp
   simp only;rw [if_pos PY];have h2:eY fs bn=none:=by
    have Ev:=E.ev (K:=⟨fs.map fun f=>f.ps.length,0,[]⟩) rfl (lab:=fun _=>0) (fun x=>by simp)
    exact Ev.D _ _ a1
   rw [h2];exact ⟨dX rfl _ _,by decide⟩
  ·simp only;rw [if_neg (by simp),a2,Int.toNat_natCast,a3]
   simp only [Option.bind_some,a3];by_cases e:f.ty≠1∨f.ps≠[]
   ·rw [if_pos e];have h9:(decide (f.ty≠1) || decide (0<f.ps.length))=true:=by
     rcases e with e|e
     ·simp [e]
     ·have:0<f.ps.length:=List.length_pos_iff.2 e;simp [this]
    rw [h9];exact ⟨dX rfl _ _,by decide⟩
   ·rw [if_neg e];have h9:(decide (f.ty≠1) || decide (0<f.ps.length))=false:=by
     have e1:f.ty=1:=by
      by_cases h:f.ty=1
      ·exact h
      ·exact absurd (.inl h) e
     have e2:f.ps=[]:=by
      by_cases h:f.ps=[]
      ·exact h
      ·exact absurd (.inr h) e
     simp [e1,e2]
    rw [h9];exact bP _ _ _
theorem JF {pg:Pg}{K:Nat}{s:St}(hp:pJ TkV K pg s){ns:List CN}(hns:ns.map CN.nd=pg.t.flat 0) :
  match aX pg with
  | .ok y=>wP pg ns=(y,(0,0))
  | .er n p=>(wP pg ns).2=(n,p)/\n≠0:=by
 have h1:=GQ pg.g pg.g [] 0 [] rfl (fun x=>by simp [look,dZ,eY]) (by omega) (by omega)
 have Fg:ns.length=(pg.t.flat 0).length:=by rw [<-hns,List.length_map]
 unfold aX wP xw;rw [List.length_nil] at h1;cases hg:eF pg.g 0 0 [] with
 |er n p=>
  rw [hg] at h1;simp only [Ck.aB];rw [h1.1,kM _ _ _ _ _ h1.2,nD _ _ _ _ _ _ _ _ h1.2,lh _ h1.2];exact ⟨rfl,h1.2⟩
 |ok s1=>
  rw [hg] at h1;simp only [Ck.bind_ok];rw [h1.1];have h2:=KU pg.g pg.f pg.f [] s1 rfl h1.2;rw [List.length_nil] at h2;cases hf:jf pg.f 0 s1 with
  |er n p=>
   rw [hf] at h2;simp only [Ck.aB];rw [h2.1,nD _ _ _ _ _ _ _ _ h2.2,lh _ h2.2];exact ⟨rfl,h2.2⟩
  |ok G=>
   rw [hf] at h2;simp only [Ck.bind_ok];rw [h2.1];have E:EvP pg.g pg.f G:=⟨h2.2.1,h2.2.2,fun g hg=>(hp.gl g hg).n.1,fun g hg h0=>by have h8:=(hp.gl g hg).ty;have h9:=(hp.gl g hg).ar;omega,fun f hf=>(hp.fn f hf).ty,fun f hf p hp'=>((hp.fn f hf).ps p hp').1⟩
   have h3:=Ig E (ns:=ns) (V:=TkV) pg.f pg.t 0 (tr0 (pg.t.flat 0)) (fun f hf=>hf) hp.bl (fun j n hn=>by rw [Nat.zero_add,hns];exact hn) (by unfold tr0;rw [List.length_map,Fg]) (fun t ht=>by
    unfold tr0 at ht;obtain ⟨n,hn,rfl⟩:=List.mem_map.1 ht;simp only;split
    ·rename_i ho;obtain ⟨j,hj,rfl⟩:=List.getElem_of_mem hn;have OW:=GY pg.t hp.bl.sh 0 _ (List.getElem_mem hj);exact .inr (OW.1 ho)
    ·exact .inl rfl)
   have h4:=main_eq E;cases hb:dR (pg.f.map fun f=>f.ps.length) G pg.f pg.t 0 (tr0 (pg.t.flat 0)) with
   |er n p=>
    rw [hb] at h3;simp only [Ck.aB];rw [h3.1,lh _ h3.2];exact ⟨rfl,h3.2⟩
   |ok y=>
    rw [hb] at h3;simp only [Ck.bind_ok];rw [h3];cases hm:jh G pg.f with
    |er n p=>rw [hm] at h4;exact h4
    |ok u=>rw [hm] at h4;simp only [Ck.bind_ok];rw [h4]
end
end Go.Proofs.YtcchdlnfeijinaaGreatDoor
