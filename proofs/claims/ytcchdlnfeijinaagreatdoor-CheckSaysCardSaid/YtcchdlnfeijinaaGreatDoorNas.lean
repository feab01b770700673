/- Crd to Crf: Layer check, the document's answer: a scalar, an array. -/
import Derived.Test.YtcchdlnfeijinaaGreatDoorNar
namespace Go.Proofs.YtcchdlnfeijinaaGreatDoor
open Go.Proofs.Tryz
set_option linter.unusedSimpArgs false
set_option linter.unusedVariables false
set_option maxHeartbeats 4000000
set_option maxRecDepth 100000
section
open Go Go.RowKit Go.Maps
structure SOk (X:RX) (S:RS):Prop where
 F:S.F<X.fl.length
 L:∀y∈S.L,y.i< (S.vs.getD S.F []).length
 Ln:S.L.length<=1000000
 vn:(S.vs.getD S.F []).length<=1000000
 g:X.gs.length<=1000000
 f:X.fl.length<=1000000
theorem Ct {L:List Vr}{x:Nm'}{v:Nat}(h:gy L x=some v):∃y∈L,y.i=v:=by
 unfold gy at h;cases hf:L.reverse.find? fun y=>decide (y.s=x) with
 |none=>rw [hf] at h;cases h
 |some y=>rw [hf] at h;exact ⟨y,List.mem_reverse.1 (List.mem_of_find?_eq_some hf),Option.some.inj h⟩
theorem Aj {l:List Gl}{x:Nm'}{i:Nat}(h:dZ l x=some i):i<l.length:=by
 unfold dZ at h;exact (List.findIdx?_eq_some_iff_getElem.1 h).1
theorem Ak {l:List Fn'}{x:Nm'}{i:Nat}(h:eY l x=some i):i<l.length:=by
 unfold eY at h;exact (List.findIdx?_eq_some_iff_getElem.1 h).1
theorem NoP.drewN {X:RX}{S':RS}{w w':World}(h:NoP X S' w w')(d:Nat):NoP X S' w (w'.drewN d):=h.low (below_drewN _ _ _)
section
variable {X:RX} {S:RS} {w:World}
theorem zI (h:RV X S w){x:CN}{kn:Nat}(hx:NdX X x kn)(hS:SOk X S)(t:Int×Int) :
  Calls prog 132 #[crp X,ndV x.h x.v t] w fun e w'=>e=.returned (.tuple #[Iv (dA X.gs (X.fl.map (·.1)) (S.vs.getD S.F []) S.L x.h S.d).2.1,Iv (dA X.gs (X.fl.map (·.1)) (S.vs.getD S.F []) S.L x.h S.d).2.2])/\NoP X {S with d:=(dA X.gs (X.fl.map (·.1)) (S.vs.getD S.F []) S.L x.h S.d).1} w w':=by
 obtain ⟨rr,Gz⟩:∃r,(dA X.gs (X.fl.map (·.1)) (S.vs.getD S.F []) S.L x.h S.d)=r:=⟨_,rfl⟩;rw [Gz];have hb:Below w.heap.size w (w.alloc (.cells (ndC x.h x.v t) tNd)):=(zB _ _).alloc (zL _) _;have k2:=Blk.new w tNd (ndC x.h x.v t);have NR:=h.chk.lt;have h2:=h.on hb;have HX:=Hy3 hx hS hb;have QF:=hx.le;obtain ⟨kA,kc,hv⟩:∃A c,x.v=.slice A kn c:=by have h9:=(RdS.av (h.ks x hx.mem).1).shape;rw [hx.len] at h9;exact h9
 clear h hx hS;obtain ⟨xh,xk,xv⟩:=x;simp only at hv;subst hv;obtain ⟨o1,o2,o3,o4,o5,o6⟩:=xh;obtain ⟨t1,t2⟩:=t;simp only at *;obtain ⟨zs,FV⟩:=zN (str o4);simp only [ndC,ndV,FV] at k2 hb h2 HX |-;have HZ:=Hy FV;clear FV;go_enter func132,ntmps132;go_upto_region 1 with (fail);obtain ⟨H,hH⟩:=zN w.heap.size;rw [hH] at k2;have Wd:X.b<H:=by omega
 generalize w.alloc (.cells #[Iv o1,Iv o2,Iv o3,.string zs,Iv o5,.slice kA kn kc,Iv t1,Iv t2] tNd)=W at *;have K2:=Hy k2;have H2:=Hy h2;try simp only [hH]
 have HH:=Hy hH;clear k2 h2 hb NR hH;obtain ⟨nm,Eo⟩:=zN (cK X.gs (X.fl.map (·.1)) S.L o4);have HK:Hid (∀W',Below W.heap.size W W'->Calls prog 156 #[crp X,.string zs] W' fun e w'=>e=.returned (.bool nm)/\Below W.heap.size W w'):=Hy fun W' dK=>by
  rw [<-HZ.out];exact (yJ (H2.on dK) o4 HX.2.1.Ln HX.2.1.g HX.2.1.f).mono fun e w' h=>⟨by rw [h.1,Eo],dK.trans (h.2.mono dK.size)⟩
 have HN:Hid (∀W',Below W.heap.size W W'->Calls prog 31 #[crp X,.bool (!nm),Iv 4,Iv o2] W' fun e w'=>e=.returned (.tuple #[])/\NoP X {S with d:=dN S.d (!nm) 4 o2} W w'):=Hy fun W' dK=>
  (dz (H2.on dK) (!nm) 4 o2).mono fun e w' h=>⟨h.1,NoP.before dK h.2⟩
 have HS:Hid (∀Wx,Below W.heap.size W Wx->Wx.cell? ⟨H,1,none⟩=some (Iv o2)/\Wx.cell? ⟨H,3,none⟩=some (.string zs)/\H<Wx.heap.size):=Hy fun Wx hW=>by
  have u:=K2.out.below hW K2.out.lt;exact ⟨u.cell 1,u.cell 3,u.lt⟩
 have qh:Hid (∀Wx,W.grownBy Wx (some X.b)->Wx.cell? ⟨H,1,none⟩=some (Iv o2)/\Wx.cell? ⟨H,3,none⟩=some (.string zs)/\H<Wx.heap.size):=Hy fun Wx hW=>by
  have u:=ak hW K2.out (by simp;omega)
  exact ⟨u.cell 1,u.cell 3,u.lt⟩
 obtain ⟨m1,m3,ml⟩:=HS W (zB _ _);have J:Below W.heap.size W W:=zB _ _;have HNM:=Hy Eo;clear Eo;go_cut [] (fun wx=>NoP X {S with d:=dN S.d (!nm) 4 o2} W wx)
 case first=>
  go_region_held2 (fun Wx=>Wx.cell? ⟨H,1,none⟩=some (Iv o2)/\Wx.cell? ⟨H,3,none⟩=some (.string zs)/\H<Wx.heap.size)
   (first|exact ⟨m1,m3,ml⟩|exact qh _ P2.gr|exact HS _ J)
   (first
   | (go_at_call 156;(with_reducible refine Calls.mono (HK.out _ (by first|exact J|exact J.drew)) ?_);rintro e v1 ⟨rfl,J⟩)
   | (go_at_call 31;(with_reducible refine Calls.mono (HN.out _ (by first|exact J|exact J.drew)) ?_);rintro e v2 ⟨rfl,P2⟩))
  all_goals
   go_wp2_with fail;go_meet;first|exact P2|exact P2.drew
 case rest=>
  obtain ⟨W1,MQ⟩:=zQ wc;subst MQ;have HC:=Hy hcut;have K3:=Hy (ak hcut.gr K2.out (by simp;omega))
  clear hcut HS qh HK HN m1 m3 ml J;have c6:=HC.rv;have HV:=Hy (show Calls prog 157 #[crp X,.string zs] W1 fun e w'=>e=.returned (Iv (oI (gy S.L o4)))/\Below W1.heap.size W1 w' by rw [<-HZ.out];exact uy HC.rv o4 HX.2.1.Ln)
  clear c6;have m3:W1.cell? ⟨H,3,none⟩=_:=K3.out.cell 3;have ml:=K3.out.lt;have yF:dA X.gs (X.fl.map (·.1)) (S.vs.getD S.F []) S.L ⟨o1,o2,o3,o4,o5,o6⟩ S.d=rr:=Gz;unfold dA at yF;simp only [HNM.out] at yF;cases Nk:gy S.L o4 with
  |some v=>
   rw [Nk] at yF HV;simp only at yF;have q0:(0:Int)<=(v:Int):=by omega
   simp only [oI] at HV;have Jm:=Hy yF;have HVR:=Hy Nk;clear Gz yF Nk;go_wp2_with fail;refine HV.mono ?_;clear HV;rintro e W2 ⟨rfl,aU⟩;have OH:=HC.low aU;have Oh:=OH.rv;obtain ⟨⟨f,pv⟩,hf⟩:∃f,X.fl[S.F]? =some f:=⟨_,List.getElem?_eq_getElem HX.2.1.F⟩;obtain ⟨vv,Oy⟩:∃v,S.vls[S.F]? =some v:=⟨_,List.getElem?_eq_getElem (by have:=Oh.vl;simp only at this;rw [this];exact HX.2.1.F)⟩
   obtain ⟨l,hl⟩:∃l,S.vs[S.F]? =some l:=⟨_,List.getElem?_eq_getElem (by have:=Oh.vn;simp only at this;rw [this];exact HX.2.1.F)⟩
   have hld:S.vs.getD S.F []=l:=by simp [List.getD,hl]
   have Bt:v<l.length:=by
    obtain ⟨y,hy,rfl⟩:=Ct HVR;rw [<-hld];exact HX.2.1.L y hy
   obtain ⟨lv,Ui⟩:∃q,l[v]? =some q:=⟨_,List.getElem?_eq_getElem Bt⟩;have VP:l.getD v 0=lv:=by simp [List.getD,Ui]
   have xc:=RdS.av (Oh.cur vv l Oy hl);obtain ⟨ln,Fg⟩:=zN l.length;rw [Fg] at xc Bt;obtain ⟨vA,vc,rfl⟩:=xc.shape;have u5:(dE X.fl S.vls)[S.F * 6+5]? =some (.slice vA ln vc):=bQ X.fl S.vls S.F 5 (by omega) hf Oy
   have Te:=RdS.av Oh.f;have c1:=Oh.c1;obtain ⟨fn,ut⟩:=zN X.fl.length;rw [ut] at Te c1;obtain ⟨b,o,hA,eu,hc⟩:=Te.get (fun e=>by simp only at e;rw [e] at u5;cases u5)
   have y5:W2.cell? ⟨b,o+S.F * 6+5,none⟩=some (.slice vA ln vc):=hc _ _ u5;have v1:(ints l)[v]? =some (Iv lv):=by simp [ints,Ui]
   obtain ⟨b2,Vy,rfl,UB,IR⟩:=xc.get (fun e=>by rw [e] at v1;cases v1)
   have y6:W2.cell? ⟨b2,Vy+v,none⟩=some (Iv lv):=IR _ _ v1;rw [hA] at c1;have c3:=Oh.c3;simp only at c3;have YI:(S.F:Int)<fn:=by have:=HX.2.1.F;omega
   have hvI:(v:Int)<ln:=by omega
   have hXl:=Oh.chk.lt;have I4:=Hy OH;have HE:Hid (rr=(dN S.d (!nm) 4 o2,(v:Int),lv)):=Hy (by rw [<-Jm.out,hld,VP])
   obtain ⟨SF,Rw⟩:=zN S.F;rw [Rw] at y5 c3 YI;clear aU OH Oh hf Oy hl hld Bt Ui VP xc Fg u5 Te ut hA hc v1 IR m3 ml Rw;go_upto_region 4 with (fail);go_quiet (fail);go_wp2_with fail;go_ret2;rw [HE.out];refine ⟨rfl,NoP.before HX.2.2 ?_⟩;first|exact I4|exact I4.drew|exact I4.drewN _
  |none=>
   rw [Nk] at yF HV;simp only at yF;simp only [oI] at HV;have Jm:=Hy yF;clear Gz yF Nk;go_wp2_with fail;refine HV.mono ?_;clear HV;rintro e W2 ⟨rfl,aU⟩;have I4:=Hy (HC.low aU);have K4:=Hy (K3.out.below aU K3.out.lt);obtain ⟨gn,qm⟩:=zN X.gs.length;obtain ⟨og,Ub⟩:=zN (dZ X.gs o4);have HG:Hid (∀W',Below W2.heap.size W2 W'->Calls prog 60 #[crp X,.string zs,Iv (gn:Nat)] W' fun e w'=>e=.returned (Iv (oI og))/\Below W2.heap.size W2 w'):=Hy fun W' dK=>by
    rw [<-HZ.out,<-qm,<-Ub];exact (mI (I4.rv.on dK) o4 HX.2.1.g).mono fun e w' h=>⟨h.1,dK.trans (h.2.mono dK.size)⟩
   have HS:Hid (∀Wx,Below W2.heap.size W2 Wx->Wx.cell? ⟨H,3,none⟩=some (.string zs)/\H<Wx.heap.size/\Wx.cell? ⟨X.b,0,none⟩=some (.slice X.gA gn X.gc)/\X.b<Wx.heap.size):=Hy fun Wx hW=>by
    have u:=K4.out.below hW K4.out.lt;have u2:=(I4.rv.on hW);have u3:=u2.c0;rw [qm] at u3;exact ⟨u.cell 3,u.lt,u3,u2.chk.lt⟩
   obtain ⟨WG,Ov,c0,cl⟩:=HS W2 (zB _ _);have J:Below W2.heap.size W2 W2:=zB _ _;have OL:=Hy2 qm Ub;clear aU m3 ml qm Ub;go_upto_region 5 with (fail);go_cut [7] (fun v7 wx=>v7=Iv (oI og)/\Below W2.heap.size W2 wx)
   case first=>
    go_region_held2 (fun Wx=>Wx.cell? ⟨H,3,none⟩=some (.string zs)/\H<Wx.heap.size/\Wx.cell? ⟨X.b,0,none⟩=some (.slice X.gA gn X.gc)/\X.b<Wx.heap.size)
     (first|exact ⟨WG,Ov,c0,cl⟩|exact HS _ J)
     ((go_at_call 60;(with_reducible refine Calls.mono (HG.out _ (by first|exact J|exact J.drew)) ?_);rintro e v1 ⟨rfl,J⟩))
    all_goals
     go_wp2_with fail;go_meet;exact ⟨rfl,by first|exact J|exact J.drew⟩
   case rest=>
    obtain ⟨rfl,Tp⟩:=hcut;obtain ⟨W3,hW3⟩:=zQ wc;subst hW3;have hP3:=I4.low Tp;have k5:=K4.out.below Tp K4.out.lt;clear HS HG WG Ov c0 cl J Tp;have Qw:=Hy k5;have KT:=Hy hP3;have hER:∀dd,dd=dN (dN S.d (!nm) 4 o2) true 6 o2->rr=(dd,0,1)->∀W',NoP X {S with d:=dd} W W'->NoP X {S with d:=rr.1} w W':=fun dd _ e W' hP=>by rw [e];exact NoP.before HX.2.2 hP
    have HER:=Hy hER;clear hP3 k5 hER;have m2:W3.cell? ⟨H,1,none⟩=some (Iv o2):=Qw.cell 1;have ml:=Qw.lt;have Oj:=Hy (dz KT.rv true 6 o2);simp only at Oj;cases og with
    |none=>
     have he:rr=(dN (dN S.d (!nm) 4 o2) true 6 o2,0,1):=by rw [<-Jm.out,OL.2];rfl
     have HE:=Hy he;clear he;simp only [oI];go_wp2_with fail;refine Oj.mono ?_;clear Oj;rintro e W4 ⟨rfl,Kr⟩;have QM:=Hy (HER _ rfl HE _ (KT.trans Kr));clear Kr;go_wp2_with fail;go_ret2;exact ⟨(by rw [HE.out];try rfl),QM⟩
    |some g=>
     have kH:=Aj OL.2;obtain ⟨xg,RY⟩:∃q,X.gs[g]? =some q:=⟨_,List.getElem?_eq_getElem kH⟩;have hu:=fun i hi=>aY glC 4 (fun _=>rfl) X.gs g i hi
     simp only [RY,Option.bind_some] at hu;have u1:(X.gs.flatMap glC)[g * 4+1]? =some (Iv xg.ty):=hu 1 (by omega)
     have u2:(X.gs.flatMap glC)[g * 4+2]? =some (Iv xg.n):=hu 2 (by omega)
     have U6:=RdS.av KT.rv.g;have c0:=KT.rv.c0;have cl:=KT.rv.chk.lt;have qm:=OL.1;rw [qm] at U6 c0 kH;obtain ⟨b,o,hA,eu,hc⟩:=U6.get (fun e=>by rw [e] at u1;cases u1)
     have y1:W3.cell? ⟨b,o+g * 4+1,none⟩=some (Iv xg.ty):=hc _ _ u1;have y2:W3.cell? ⟨b,o+g * 4+2,none⟩=some (Iv xg.n):=hc _ _ u2;rw [hA] at c0;have hgI:(g:Int)<gn:=by omega
     have Qm:¬ (g:Int)<0:=by omega
     obtain ⟨xn,RU⟩:=zN xg.n;obtain ⟨xt,TB⟩:=zN xg.ty;rw [RU] at y2;rw [TB] at y1;have Kq:g<=1000000:=by have:=HX.2.1.g;omega
     simp only [oI];by_cases h0:0<xn
     ·have he:rr=(dN (dN S.d (!nm) 4 o2) true 6 o2,0,1):=by rw [<-Jm.out,OL.2];simp [RY,RU,h0]
      have HE:=Hy he;clear he hu u1 u2 U6 hc RY kH hA qm RU TB;go_wp2_with fail;refine Oj.mono ?_;clear Oj;rintro e W4 ⟨rfl,Kr⟩;have QM:=Hy (HER _ rfl HE _ (KT.trans Kr));clear Kr;go_wp2_with fail;go_ret2;exact ⟨(by rw [HE.out];try rfl),QM⟩
     ·have he:rr=(dN S.d (!nm) 4 o2,-1 - (g:Int),xt):=by rw [<-Jm.out,OL.2];simp [RY,RU,h0,TB]
      have HE:=Hy he;have hwr:IntKind.i64.wrap (-1 - (g:Int))= -1 - (g:Int):=wrap_small (by omega) (by omega)
      clear he hu u1 u2 U6 hc RY kH hA qm RU TB Oj;go_upto_region 9 with (fail);go_quiet (fail);go_wp2_with fail;go_ret2;rw [HE.out];refine ⟨rfl,NoP.before HX.2.2 ?_⟩;first|exact KT|exact KT.drew|exact KT.drewN _
theorem ER (h:RV X S w){x:CN}{kn:Nat}(hx:NdX X x kn)(hS:SOk X S)(t:Int×Int) :
  Calls prog 134 #[crp X,ndV x.h x.v t] w fun e w'=>e=.returned (.tuple #[Iv (eQ X.gs (X.fl.map (·.1)) S.L x.h S.d).2.1,Iv (eQ X.gs (X.fl.map (·.1)) S.L x.h S.d).2.2])/\NoP X {S with d:=(eQ X.gs (X.fl.map (·.1)) S.L x.h S.d).1} w w':=by
 obtain ⟨rr,Gz⟩:∃r,(eQ X.gs (X.fl.map (·.1)) S.L x.h S.d)=r:=⟨_,rfl⟩;rw [Gz];have hb:Below w.heap.size w (w.alloc (.cells (ndC x.h x.v t) tNd)):=(zB _ _).alloc (zL _) _;have k2:=Blk.new w tNd (ndC x.h x.v t);have NR:=h.chk.lt;have h2:=h.on hb;have HX:=Hy3 hx hS hb;have QF:=hx.le;obtain ⟨kA,kc,hv⟩:∃A c,x.v=.slice A kn c:=by have h9:=(RdS.av (h.ks x hx.mem).1).shape;rw [hx.len] at h9;exact h9
 clear h hx hS;obtain ⟨xh,xk,xv⟩:=x;simp only at hv;subst hv;obtain ⟨o1,o2,o3,o4,o5,o6⟩:=xh;obtain ⟨t1,t2⟩:=t;simp only at *;obtain ⟨zs,FV⟩:=zN (str o4);simp only [ndC,ndV,FV] at k2 hb h2 HX |-;have HZ:=Hy FV;clear FV;go_enter func134,ntmps134;go_upto_region 1 with (fail);obtain ⟨H,hH⟩:=zN w.heap.size;rw [hH] at k2;have Wd:X.b<H:=by omega
 generalize w.alloc (.cells #[Iv o1,Iv o2,Iv o3,.string zs,Iv o5,.slice kA kn kc,Iv t1,Iv t2] tNd)=W at *;have K2:=Hy k2;have H2:=Hy h2;try simp only [hH]
 have HH:=Hy hH;clear k2 h2 hb NR hH;obtain ⟨nm,Eo⟩:=zN (cK X.gs (X.fl.map (·.1)) S.L o4);have HK:Hid (∀W',Below W.heap.size W W'->Calls prog 156 #[crp X,.string zs] W' fun e w'=>e=.returned (.bool nm)/\Below W.heap.size W w'):=Hy fun W' dK=>by
  rw [<-HZ.out];exact (yJ (H2.on dK) o4 HX.2.1.Ln HX.2.1.g HX.2.1.f).mono fun e w' h=>⟨by rw [h.1,Eo],dK.trans (h.2.mono dK.size)⟩
 have HN:Hid (∀W',Below W.heap.size W W'->Calls prog 31 #[crp X,.bool (!nm),Iv 4,Iv o2] W' fun e w'=>e=.returned (.tuple #[])/\NoP X {S with d:=dN S.d (!nm) 4 o2} W w'):=Hy fun W' dK=>
  (dz (H2.on dK) (!nm) 4 o2).mono fun e w' h=>⟨h.1,NoP.before dK h.2⟩
 have HS:Hid (∀Wx,Below W.heap.size W Wx->Wx.cell? ⟨H,1,none⟩=some (Iv o2)/\Wx.cell? ⟨H,3,none⟩=some (.string zs)/\H<Wx.heap.size):=Hy fun Wx hW=>by
  have u:=K2.out.below hW K2.out.lt;exact ⟨u.cell 1,u.cell 3,u.lt⟩
 have qh:Hid (∀Wx,W.grownBy Wx (some X.b)->Wx.cell? ⟨H,1,none⟩=some (Iv o2)/\Wx.cell? ⟨H,3,none⟩=some (.string zs)/\H<Wx.heap.size):=Hy fun Wx hW=>by
  have u:=ak hW K2.out (by simp;omega)
  exact ⟨u.cell 1,u.cell 3,u.lt⟩
 obtain ⟨m1,m3,ml⟩:=HS W (zB _ _);have J:Below W.heap.size W W:=zB _ _;have HNM:=Hy Eo;clear Eo;go_cut [] (fun wx=>NoP X {S with d:=dN S.d (!nm) 4 o2} W wx)
 case first=>
  go_region_held2 (fun Wx=>Wx.cell? ⟨H,1,none⟩=some (Iv o2)/\Wx.cell? ⟨H,3,none⟩=some (.string zs)/\H<Wx.heap.size)
   (first|exact ⟨m1,m3,ml⟩|exact qh _ P2.gr|exact HS _ J)
   (first
   | (go_at_call 156;(with_reducible refine Calls.mono (HK.out _ (by first|exact J|exact J.drew)) ?_);rintro e v1 ⟨rfl,J⟩)
   | (go_at_call 31;(with_reducible refine Calls.mono (HN.out _ (by first|exact J|exact J.drew)) ?_);rintro e v2 ⟨rfl,P2⟩))
  all_goals
   go_wp2_with fail;go_meet;first|exact P2|exact P2.drew
 case rest=>
  obtain ⟨W1,MQ⟩:=zQ wc;subst MQ;have HC:=Hy hcut;have K3:=Hy (ak hcut.gr K2.out (by simp;omega))
  clear hcut HS qh HK HN m1 m3 ml J;have yF:eQ X.gs (X.fl.map (·.1)) S.L ⟨o1,o2,o3,o4,o5,o6⟩ S.d=rr:=Gz;unfold eQ at yF;simp only [HNM.out] at yF;have Jm:=Hy yF;obtain ⟨gn,qm⟩:=zN X.gs.length;obtain ⟨og,Ub⟩:=zN (dZ X.gs o4);have HG:Hid (∀W',Below W1.heap.size W1 W'->Calls prog 60 #[crp X,.string zs,Iv (gn:Nat)] W' fun e w'=>e=.returned (Iv (oI og))/\Below W1.heap.size W1 w'):=Hy fun W' dK=>by
   rw [<-HZ.out,<-qm,<-Ub];exact (mI (HC.rv.on dK) o4 HX.2.1.g).mono fun e w' h=>⟨h.1,dK.trans (h.2.mono dK.size)⟩
  have HS:Hid (∀Wx,Below W1.heap.size W1 Wx->Wx.cell? ⟨H,3,none⟩=some (.string zs)/\H<Wx.heap.size/\Wx.cell? ⟨X.b,0,none⟩=some (.slice X.gA gn X.gc)/\X.b<Wx.heap.size):=Hy fun Wx hW=>by
   have u:=K3.out.below hW K3.out.lt;have u2:=(HC.rv.on hW);have u3:=u2.c0;rw [qm] at u3;exact ⟨u.cell 3,u.lt,u3,u2.chk.lt⟩
  obtain ⟨WG,Ov,c0,cl⟩:=HS W1 (zB _ _);have J:Below W1.heap.size W1 W1:=zB _ _;have OL:=Hy2 qm Ub;clear qm Ub Gz yF;go_upto_region 2 with (fail);go_cut [6] (fun v6 wx=>v6=Iv (oI og)/\Below W1.heap.size W1 wx)
  case first=>
   go_region_held2 (fun Wx=>Wx.cell? ⟨H,3,none⟩=some (.string zs)/\H<Wx.heap.size/\Wx.cell? ⟨X.b,0,none⟩=some (.slice X.gA gn X.gc)/\X.b<Wx.heap.size)
    (first|exact ⟨WG,Ov,c0,cl⟩|exact HS _ J)
    ((go_at_call 60;(with_reducible refine Calls.mono (HG.out _ (by first|exact J|exact J.drew)) ?_);rintro e v1 ⟨rfl,J⟩))
   all_goals
    go_wp2_with fail;go_meet;exact ⟨rfl,by first|exact J|exact J.drew⟩
  case rest=>
   obtain ⟨rfl,Tp⟩:=hcut;obtain ⟨W2,Sy⟩:=zQ wc;subst Sy;have OH:=HC.low Tp;have K4:=Hy (K3.out.below Tp K3.out.lt);clear HS HG WG Ov c0 cl J Tp;have HV:=Hy (show Calls prog 157 #[crp X,.string zs] W2 fun e w'=>e=.returned (Iv (oI (gy S.L o4)))/\Below W2.heap.size W2 w' by rw [<-HZ.out];exact uy OH.rv o4 HX.2.1.Ln)
   have I4:=Hy OH;have m3:W2.cell? ⟨H,3,none⟩=some (.string zs):=K4.out.cell 3;have ml:=K4.out.lt;clear OH;obtain ⟨ov,XW⟩:=zN (gy S.L o4);rw [XW] at HV;have Wu:=Hy XW;clear XW;go_wp2_with fail;refine HV.mono ?_;clear HV;rintro e W3 ⟨rfl,lW⟩;have KT:=Hy (I4.low lW);have Qw:=Hy (K4.out.below lW K4.out.lt);clear lW m3 ml;have hER:∀dd,rr=(dd,0,1)->∀W',NoP X {S with d:=dd} W W'->NoP X {S with d:=rr.1} w W':=fun dd e W' hP=>by rw [e];exact NoP.before HX.2.2 hP
   have HER:=Hy hER;clear hER;have m2:W3.cell? ⟨H,1,none⟩=some (Iv o2):=Qw.cell 1;have ml:=Qw.lt;have Oj:=Hy (dz KT.rv true 6 o2);simp only at Oj;cases ov with
   |some v=>
    have he:rr=(dN (dN S.d (!nm) 4 o2) true 6 o2,0,1):=by rw [<-Jm.out,Wu.out]
    have HE:=Hy he;have q0:(0:Int)<=(v:Int):=by omega
    clear he;rw [show oI (some v)=(v:Int) from rfl]
    go_wp2_with fail;refine Oj.mono ?_;clear Oj;rintro e W4 ⟨rfl,Kr⟩;have QM:=Hy (HER _ HE _ (KT.trans Kr));clear Kr;go_wp2_with fail;go_ret2;exact ⟨(by rw [HE.out];try rfl),QM⟩
   |none=>
    cases og with
    |none=>
     have he:rr=(dN (dN S.d (!nm) 4 o2) true 6 o2,0,1):=by rw [<-Jm.out,Wu.out,OL.2];rfl
     have HE:=Hy he;clear he;simp only [oI];go_wp2_with fail;refine Oj.mono ?_;clear Oj;rintro e W4 ⟨rfl,Kr⟩;have QM:=Hy (HER _ HE _ (KT.trans Kr));clear Kr;go_wp2_with fail;go_ret2;exact ⟨(by rw [HE.out];try rfl),QM⟩
    |some g=>
     have kH:=Aj OL.2;obtain ⟨xg,RY⟩:∃q,X.gs[g]? =some q:=⟨_,List.getElem?_eq_getElem kH⟩;have hu:=fun i hi=>aY glC 4 (fun _=>rfl) X.gs g i hi
     simp only [RY,Option.bind_some] at hu;have u1:(X.gs.flatMap glC)[g * 4+1]? =some (Iv xg.ty):=hu 1 (by omega)
     have u2:(X.gs.flatMap glC)[g * 4+2]? =some (Iv xg.n):=hu 2 (by omega)
     have U6:=RdS.av KT.rv.g;have c0:=KT.rv.c0;have cl:=KT.rv.chk.lt;have qm:=OL.1;rw [qm] at U6 c0 kH;obtain ⟨b,o,hA,eu,hc⟩:=U6.get (fun e=>by rw [e] at u1;cases u1)
     have y1:W3.cell? ⟨b,o+g * 4+1,none⟩=some (Iv xg.ty):=hc _ _ u1;have y2:W3.cell? ⟨b,o+g * 4+2,none⟩=some (Iv xg.n):=hc _ _ u2;rw [hA] at c0;have hgI:(g:Int)<gn:=by omega
     have Qm:¬ (g:Int)<0:=by omega
     obtain ⟨xn,RU⟩:=zN xg.n;obtain ⟨xt,TB⟩:=zN xg.ty;rw [RU] at y2;rw [TB] at y1;have Kq:g<=1000000:=by have:=HX.2.1.g;omega
     simp only [oI];by_cases h0:xn=0
     ·have he:rr=(dN (dN S.d (!nm) 4 o2) true 6 o2,0,1):=by rw [<-Jm.out,Wu.out,OL.2];simp [RY,RU,h0]
      have HE:=Hy he;rw [h0] at y2;clear he hu u1 u2 U6 hc RY kH hA qm RU TB;go_wp2_with fail;refine Oj.mono ?_;clear Oj;rintro e W4 ⟨rfl,Kr⟩;have QM:=Hy (HER _ HE _ (KT.trans Kr));clear Kr;go_wp2_with fail;go_ret2;exact ⟨(by rw [HE.out];try rfl),QM⟩
     ·by_cases h2:xt=2
      ·have he:rr=(dN S.d (!nm) 4 o2,(g:Int),2):=by rw [<-Jm.out,Wu.out,OL.2];simp [RY,RU,h0,TB,h2]
       have HE:=Hy he;rw [h2] at y1;clear he hu u1 u2 U6 hc RY kH hA qm RU TB Oj;go_wp2_with fail;go_ret2;rw [HE.out];exact ⟨rfl,NoP.before HX.2.2 KT⟩
      ·have he:rr=(dN S.d (!nm) 4 o2,(g:Int),1):=by rw [<-Jm.out,Wu.out,OL.2];simp [RY,RU,h0,TB,h2]
       have HE:=Hy he;clear he hu u1 u2 U6 hc RY kH hA qm RU TB Oj;go_wp2_with fail;go_ret2;rw [HE.out];exact ⟨rfl,NoP.before HX.2.2 KT⟩
end
end
section
open Go Go.RowKit Go.Maps
section
variable {X:RX} {S:RS} {w:World}
theorem NoP.under (h:RV X S w){d:Int×Int}{W w':World}(hP:NoP X {S with d:=d} w W)(hb:Below w.heap.size W w'):NoP X {S with d:=d} w w':=by
 have hWs:=hP.gr.size;have hg:w.grownBy w' (some X.b):=⟨hb.os.trans hP.gr.os,hb.tape.trans hP.gr.tape,hb.output.trans hP.gr.output,Nat.le_trans hWs hb.size,fun k hk hn=>(hb.block k hk).trans (hP.gr.block k hk hn)⟩
 have hk:Kind w X.b tCr:=h.chk.kind;have hr:∀{base sz n:Nat} {T:TypeId} {v:Value} {xs:List Value},w.ownsRow base T sz v n xs->T≠tCr->∀r,some X.b=some r->v.ownBlock≠some r:=by
  intro base sz n T v xs h1 hT r hr e;cases hr;exact au (ag h1 e) hk hT rfl
 refine ⟨?_,hg⟩;exact {
  chk:=(hb.block X.b h.chk.lt).trans hP.rv.chk
  g:=ah hg h.g (hr h.g (by decide))
  f:=ah hg h.f (hr h.f (by decide))
  n:=ah hg h.n (hr h.n (by decide))
  l:=ah hg h.l (hr h.l (by decide))
  ps:=fun x hx=>ah hg (h.ps x hx) (hr (h.ps x hx) (by decide))
  ks:=fun x hx=>az hg (h.ks x hx) (hr (h.ks x hx).1 (by decide))
  cur:=fun v l h1 h2=>ah hg (h.cur v l h1 h2) (hr (h.cur v l h1 h2) (by decide))
  old:=fun j v l h0 h1 h2=>az hg (h.old j v l h0 h1 h2) (hr (h.old j v l h0 h1 h2).1 (by decide))
  vl:=h.vl
  vn:=h.vn
  tl:=h.tl
  hB:=⟨h.hB.1,h.hB.2.1,Nat.le_trans h.hB.2.2 hg.size⟩}
theorem Lb:∀k,k<8->∃z,iC[k]? =some z/\(#[.string ⟨#[61,61]⟩,.string ⟨#[33,61]⟩,.string ⟨#[60]⟩,.string ⟨#[60,61]⟩,.string ⟨#[62]⟩,.string ⟨#[62,61]⟩,.string ⟨#[38,38]⟩,.string ⟨#[124,124]⟩]:Array Value)[k]? =some (.string (str z)):=by
 intro k hk
 match k,hk with
 |0,_=>exact ⟨_,rfl,rfl⟩
 |1,_=>exact ⟨_,rfl,rfl⟩
 |2,_=>exact ⟨_,rfl,rfl⟩
 |3,_=>exact ⟨_,rfl,rfl⟩
 |4,_=>exact ⟨_,rfl,rfl⟩
 |5,_=>exact ⟨_,rfl,rfl⟩
 |6,_=>exact ⟨_,rfl,rfl⟩
 |7,_=>exact ⟨_,rfl,rfl⟩
theorem Ik (h:RV X S w){x:CN}{kn:Nat}(hx:NdX X x kn)(t:Int×Int){k0 k1:Nat}(h0:x.kids[0]? =some k0)(h1:x.kids[1]? =some k1) :
  Calls prog 136 #[crp X,ndV x.h x.v t] w fun e w'=>e=.returned (Iv (xU x.h.s (dJ S.tr k0) (dJ S.tr k1)))/\Zw w w':=by
 have hK:∀(j k:Nat),x.kids[j]? =some k->∀W,Zw w W->Calls prog 135 #[crp X,ndV x.h x.v t,Iv (j:Nat)] W fun e w'=>e=.returned (Iv (dJ S.tr k))/\Zw W w':=fun j k hj W hW=>uU (h.on hW) hx t hj
 have SX:=Hy (show ∀W,Zw w W->Calls prog 135 #[crp X,ndV x.h x.v t,Iv 0] W fun e w'=>e=.returned (Iv (dJ S.tr k0))/\Zw W w' from hK 0 k0 h0)
 have SV:=Hy (show ∀W,Zw w W->Calls prog 135 #[crp X,ndV x.h x.v t,Iv 1] W fun e w'=>e=.returned (Iv (dJ S.tr k1))/\Zw W w' from hK 1 k1 h1)
 obtain ⟨b0,IB⟩:=zN (dJ S.tr k0);obtain ⟨b1,av⟩:=zN (dJ S.tr k1);rw [IB] at SX |-;rw [av] at SV |-;obtain ⟨rr,Gz⟩:=zN (xU x.h.s b0 b1);rw [Gz];have hv:=(RdS.av (h.ks x hx.mem).1).shape;rw [hx.len] at hv;obtain ⟨kA,kc,hv⟩:=hv;clear h hx hK h0 h1 IB av;obtain ⟨xh,xk,xv⟩:=x;simp only at hv;subst hv;obtain ⟨o1,o2,o3,o4,o5,o6⟩:=xh;obtain ⟨t1,t2⟩:=t;simp only [ndV] at *;obtain ⟨zs,FV⟩:=zN (str o4);rw [FV] at SX SV |-;have sQ:(w.alloc (.cells #[Iv o1,Iv o2,Iv o3,.string zs,Iv o5,.slice kA kn kc,Iv t1,Iv t2] tNd)).heap.size=w.heap.size+1:=by simp
 have bW:Zw w ((w.alloc (.cells #[Iv o1,Iv o2,Iv o3,.string zs,Iv o5,.slice kA kn kc,Iv t1,Iv t2] tNd)).alloc (.cells #[.string ⟨#[61,61]⟩,.string ⟨#[33,61]⟩,.string ⟨#[60]⟩,.string ⟨#[60,61]⟩,.string ⟨#[62]⟩,.string ⟨#[62,61]⟩,.string ⟨#[38,38]⟩,.string ⟨#[124,124]⟩] 9)):=((zB _ _).alloc (zL _) _).alloc (by simp) _
 have k1:=(Blk.new w tNd #[Iv o1,Iv o2,Iv o3,.string zs,Iv o5,.slice kA kn kc,Iv t1,Iv t2]).alloc (.cells #[.string ⟨#[61,61]⟩,.string ⟨#[33,61]⟩,.string ⟨#[60]⟩,.string ⟨#[60,61]⟩,.string ⟨#[62]⟩,.string ⟨#[62,61]⟩,.string ⟨#[38,38]⟩,.string ⟨#[124,124]⟩] 9);have k2:=Blk.new (w.alloc (.cells #[Iv o1,Iv o2,Iv o3,.string zs,Iv o5,.slice kA kn kc,Iv t1,Iv t2] tNd)) 9 #[.string ⟨#[61,61]⟩,.string ⟨#[33,61]⟩,.string ⟨#[60]⟩,.string ⟨#[60,61]⟩,.string ⟨#[62]⟩,.string ⟨#[62,61]⟩,.string ⟨#[38,38]⟩,.string ⟨#[124,124]⟩];rw [sQ] at k2;have HZ:=Hy2 FV Gz;clear FV Gz;go_enter func136,ntmps136;go_upto_region 2 with (fail);obtain ⟨H,hH⟩:=zN w.heap.size;rw [hH] at k1 k2;generalize (w.alloc (.cells #[Iv o1,Iv o2,Iv o3,.string zs,Iv o5,.slice kA kn kc,Iv t1,Iv t2] tNd)).alloc (.cells #[.string ⟨#[61,61]⟩,.string ⟨#[33,61]⟩,.string ⟨#[60]⟩,.string ⟨#[60,61]⟩,.string ⟨#[62]⟩,.string ⟨#[62,61]⟩,.string ⟨#[38,38]⟩,.string ⟨#[124,124]⟩] 9)=W at *;have QN:=Hy2 k1 k2;have Cb:=Hy bW;try simp only [hH]
 have HH:=Hy hH;clear k1 k2 bW hH sQ;go_wp2_with fail;go_loopw [6] (fun v wr=>∃k:Nat,k<=8/\v=Iv k/\(∀(j:Nat) (z:List UInt8),j<k->iC[j]? =some z->o4≠z)/\Zw W wr) (fun v _=>8 - (intOf v).toNat)
 case atStart=>exact ⟨0,by omega,rfl,fun j z hj=>by omega,zB _ _⟩
 case round=>
  obtain ⟨k,hk,rfl,hno,hb⟩:=hrel;have RQ:=QN.out.1.below hb QN.out.1.lt;have kb2:=QN.out.2.below hb QN.out.2.lt;have m3:Ce wr H 3 (.string zs):=RQ.cell 3;have l1:=RQ.lt;have l2:=kb2.lt;by_cases hlt:k<8
  ·obtain ⟨z,hz,ru⟩:=Lb k hlt;have y0:Ce wr (H+1) k (.string (str z)):=(kb2.cell k).trans ru;have Qj:(k:Int)<8:=by omega
   obtain ⟨zz,U3⟩:=zN (str z);rw [U3] at y0;have HB:=Hy hb;by_cases he:o4=z
   ·have hE:zs=zz:=by rw [<-HZ.out.1,<-U3,he]
    subst hE;have hmem:o4∈iC:=by rw [he];exact zG hz
    have HR:Hid (rr=1):=Hy (by rw [<-HZ.out.2];simp only [xU,hmem,if_true])
    clear hno hz ru U3 hb RQ kb2 he hmem;go_upto_region 5 with (fail);go_quiet (fail);go_wp2_with fail;go_ret;rw [HR.out];exact ⟨rfl,Cb.out.trans (Below.mono (by first|exact HB.out|exact HB.out.drew|exact HB.out.trans (below_drewN _ _ _)) Cb.out.size)⟩
   ·have s0:=mG HZ.out.1 U3 he;have HN:=Hy (show ∀(j:Nat) (y:List UInt8),j<k+1->iC[j]? =some y->o4≠y from fun j y hj hy=>by
     by_cases hjk:j<k
     ·exact hno j y hjk hy
     ·obtain rfl:j=k:=by omega
      rw [hz] at hy;cases hy;exact he)
    clear hno hz ru U3 hb RQ kb2 he;go_upto_region 5 with (fail);go_quiet (fail);go_wp2_with fail;go_roundw
    case rel=>exact ⟨k+1,by omega,by go_num,HN.out,by first|exact HB.out|exact HB.out.drew|exact HB.out.trans (below_drewN _ _ _)⟩
    case measure=>simp [intOf];omega
  ·obtain rfl:k=8:=by omega
   have Eo:o4 ∉ iC:=by
    intro hm;obtain ⟨j,hj,e⟩:=List.getElem_of_mem hm;exact hno j _ hj (zE hj) e.symm
   have QH:rr=if o4=[60,60]∨o4=[62,62]∨b0=2 then b0 else b1:=by rw [<-HZ.out.2];simp only [xU,Eo,if_false]
   have m0:Ce wr H 0 (Iv o1):=RQ.cell 0;have m1:Ce wr H 1 (Iv o2):=RQ.cell 1;have m2:Ce wr H 2 (Iv o3):=RQ.cell 2;have m4:Ce wr H 4 (Iv o5):=RQ.cell 4;have m5:Ce wr H 5 (.slice kA kn kc):=RQ.cell 5;have m6:Ce wr H 6 (Iv t1):=RQ.cell 6;have m7:Ce wr H 7 (Iv t2):=RQ.cell 7;have DW:=Cb.out.trans (hb.mono Cb.out.size);have HC0:=Hy (SX.out wr DW);have Tw:=Hy RQ;have QO:=Hy DW;clear hno hb RQ kb2 Eo DW;by_cases e1:o4=[60,60]
   ·have s0:(zs.toList == [60,60])=true:=by rw [<-HZ.out.1,e1];simp [str]
    have HR:Hid (rr=b0):=Hy (by rw [QH,if_pos (.inl e1)])
    clear e1 QH;go_wp2_with fail;refine HC0.out.mono ?_;rintro e w5 ⟨rfl,qK⟩;have QA:=Hy (QO.out.trans (qK.mono QO.out.size));clear qK;go_wp2_with fail;go_ret;rw [HR.out];exact ⟨rfl,QA.out⟩
   ·have s0:(zs.toList == [60,60])=false:=by
     have e9:(str o4).toList=o4:=by simp [str]
     rw [<-HZ.out.1,e9];simpa using e1
    by_cases e2:o4=[62,62]
    ·have s1:(zs.toList == [62,62])=true:=by rw [<-HZ.out.1,e2];simp [str]
     have HR:Hid (rr=b0):=Hy (by rw [QH,if_pos (.inr (.inl e2))])
     clear e1 e2 QH;go_wp2_with fail;refine HC0.out.mono ?_;rintro e w5 ⟨rfl,qK⟩;have QA:=Hy (QO.out.trans (qK.mono QO.out.size));clear qK;go_wp2_with fail;go_ret;rw [HR.out];exact ⟨rfl,QA.out⟩
    ·have s1:(zs.toList == [62,62])=false:=by
      have e9:(str o4).toList=o4:=by simp [str]
      rw [<-HZ.out.1,e9];simpa using e2
     have hRR2:rr=if b0=2 then b0 else b1:=by rw [QH];simp only [e1,e2,false_or]
     clear QH;have HRR2:=Hy hRR2;clear e1 e2 hRR2;go_wp2_with fail;refine HC0.out.mono ?_;rintro e w5 ⟨rfl,qK⟩;have U2:=Tw.out.below qK Tw.out.lt;have QA:=Hy (QO.out.trans (qK.mono QO.out.size));have n0:Ce w5 H 0 (Iv o1):=U2.cell 0;have n1:Ce w5 H 1 (Iv o2):=U2.cell 1;have n2:Ce w5 H 2 (Iv o3):=U2.cell 2;have n3:Ce w5 H 3 (.string zs):=U2.cell 3;have n4:Ce w5 H 4 (Iv o5):=U2.cell 4;have n5:Ce w5 H 5 (.slice kA kn kc):=U2.cell 5;have n6:Ce w5 H 6 (Iv t1):=U2.cell 6;have n7:Ce w5 H 7 (Iv t2):=U2.cell 7;have nl:=U2.lt;clear qK U2 HC0 m0 m1 m2 m3 m4 m5 m6 m7 l1 l2;by_cases e3:b0=2
     ·have q3:decide (b0=2)=true:=by simp [e3]
      have Wz:=Hy (SX.out w5 QA.out);have HR:Hid (rr=b0):=Hy (by rw [HRR2.out,if_pos e3])
      go_wp2_with fail;refine Wz.out.mono ?_;rintro e w6 ⟨rfl,Hu⟩;have HB6:=Hy (QA.out.trans (Hu.mono QA.out.size));clear Hu;go_wp2_with fail;go_ret;rw [HR.out];exact ⟨(by first|rfl|simp [e3]),HB6.out⟩
     ·have q3:decide (b0=2)=false:=by simp [e3]
      have Wz:=Hy (SV.out w5 QA.out);have HR:Hid (rr=b1):=Hy (by rw [HRR2.out,if_neg e3])
      go_wp2_with fail;refine Wz.out.mono ?_;rintro e w6 ⟨rfl,Hu⟩;have HB6:=Hy (QA.out.trans (Hu.mono QA.out.size));clear Hu;go_wp2_with fail;go_ret;rw [HR.out];exact ⟨(by first|rfl|simp [e3]),HB6.out⟩
end
end
section
open Go Go.RowKit Go.Maps
theorem dQ {α:Type}{l:List α}{j:Nat}{a:α}(h:l[j]? =some a):l≠[]:=fun e=>by rw [e] at h;cases h
theorem ay:(prog.info? tNd).map (·.size)=some 8:=by kernel_rfl
section
variable {X:RX} {S:RS} {w:World}
theorem MO (h:RV X S w){x:CN}{kn:Nat}(hx:NdX X x kn)(hS:SOk X S)(t:Int×Int) :
  Calls prog 137 #[crp X,ndV x.h x.v t] w fun e w'=>e=.returned (ndV x.h x.v (kP X.gs (X.fl.map (·.1)) S.tr S.L x.h x.kids t S.d).1)/\NoP X {S with d:=(kP X.gs (X.fl.map (·.1)) S.tr S.L x.h x.kids t S.d).2} w w':=by
 obtain ⟨rr,Gz⟩:∃r,(kP X.gs (X.fl.map (·.1)) S.tr S.L x.h x.kids t S.d)=r:=⟨_,rfl⟩;rw [Gz];have hb:Below w.heap.size w ((w.alloc (.cells (ndC x.h x.v t) tNd)).alloc (.cells #[Iv 0,Iv 0,Iv 0,.string ⟨#[]⟩,Iv 0,Sn,Iv 0,Iv 0] tNd)):=((zB _ _).alloc (zL _) _).alloc (by simp) _
 have k2:=(Blk.new w tNd (ndC x.h x.v t)).alloc (.cells #[Iv 0,Iv 0,Iv 0,.string ⟨#[]⟩,Iv 0,Sn,Iv 0,Iv 0] tNd);have k3:=Blk.new (w.alloc (.cells (ndC x.h x.v t) tNd)) tNd #[Iv 0,Iv 0,Iv 0,.string ⟨#[]⟩,Iv 0,Sn,Iv 0,Iv 0];rw [show (w.alloc (.cells (ndC x.h x.v t) tNd)).heap.size=w.heap.size+1 by simp] at k3
 have NR:=h.chk.lt;have h2:=h.on hb;have HX:=Hy4 hx hS hb h;have QF:=hx.le;obtain ⟨kA,kc,hv⟩:∃A c,x.v=.slice A kn c:=by have h9:=(RdS.av (h.ks x hx.mem).1).shape;rw [hx.len] at h9;exact h9
 clear h hx hS;obtain ⟨xh,xk,xv⟩:=x;simp only at hv;subst hv;obtain ⟨o1,o2,o3,o4,o5,o6⟩:=xh;obtain ⟨t1,t2⟩:=t;simp only at *;obtain ⟨zs,FV⟩:=zN (str o4);simp only [ndC,ndV,FV] at k2 k3 hb h2 HX |-;have HZ:=Hy FV;clear FV;go_enter func137,ntmps137;go_upto_region 1 with (fail);obtain ⟨H,hH⟩:=zN w.heap.size;rw [hH] at k2 k3;have Wd:X.b<H:=by omega
 generalize (w.alloc (.cells #[Iv o1,Iv o2,Iv o3,.string zs,Iv o5,.slice kA kn kc,Iv t1,Iv t2] tNd)).alloc (.cells #[Iv 0,Iv 0,Iv 0,.string ⟨#[]⟩,Iv 0,Sn,Iv 0,Iv 0] tNd)=W at *;have K2:=Hy k2;have KZ:=Hy k3;have H2:=Hy h2;try simp only [hH]
 have HH:=Hy hH;clear k2 k3 h2 hb NR hH;obtain ⟨nm,Eo⟩:=zN (cK X.gs (X.fl.map (·.1)) S.L o4);have HK:Hid (∀W',Below W.heap.size W W'->Calls prog 156 #[crp X,.string zs] W' fun e w'=>e=.returned (.bool nm)/\Below W.heap.size W w'):=Hy fun W' dK=>by
  rw [<-HZ.out];exact (yJ (H2.on dK) o4 HX.2.1.Ln HX.2.1.g HX.2.1.f).mono fun e w' h=>⟨by rw [h.1,Eo],dK.trans (h.2.mono dK.size)⟩
 have HN:Hid (∀W',Below W.heap.size W W'->Calls prog 31 #[crp X,.bool (!nm),Iv 4,Iv o2] W' fun e w'=>e=.returned (.tuple #[])/\NoP X {S with d:=dN S.d (!nm) 4 o2} W w'):=Hy fun W' dK=>
  (dz (H2.on dK) (!nm) 4 o2).mono fun e w' h=>⟨h.1,NoP.before dK h.2⟩
 have HS:Hid (∀Wx,Below W.heap.size W Wx->Wx.cell? (Ad H 1)=some (Iv o2)/\Wx.cell? (Ad H 3)=some (.string zs)/\H<Wx.heap.size):=Hy fun Wx hW=>by
  have u:=K2.out.below hW K2.out.lt;exact ⟨u.cell 1,u.cell 3,u.lt⟩
 have qh:Hid (∀Wx,W.grownBy Wx (some X.b)->Wx.cell? (Ad H 1)=some (Iv o2)/\Wx.cell? (Ad H 3)=some (.string zs)/\H<Wx.heap.size):=Hy fun Wx hW=>by
  have u:=ak hW K2.out (by simp;omega)
  exact ⟨u.cell 1,u.cell 3,u.lt⟩
 obtain ⟨m1,m3,ml⟩:=HS W (zB _ _);have J:Below W.heap.size W W:=zB _ _;have HNM:=Hy Eo;clear Eo;go_cut [] (fun wx=>NoP X {S with d:=dN S.d (!nm) 4 o2} W wx)
 case first=>
  go_region_held2 (fun Wx=>Wx.cell? (Ad H 1)=some (Iv o2)/\Wx.cell? (Ad H 3)=some (.string zs)/\H<Wx.heap.size)
   (first|exact ⟨m1,m3,ml⟩|exact qh _ P2.gr|exact HS _ J)
   (first
   | (go_at_call 156;(with_reducible refine Calls.mono (HK.out _ (by first|exact J|exact J.drew)) ?_);rintro e v1 ⟨rfl,J⟩)
   | (go_at_call 31;(with_reducible refine Calls.mono (HN.out _ (by first|exact J|exact J.drew)) ?_);rintro e v2 ⟨rfl,P2⟩))
  all_goals
   go_wp2_with fail;go_meet;first|exact P2|exact P2.drew
 case rest=>
  obtain ⟨W1,MQ⟩:=zQ wc;subst MQ;have HC:=Hy hcut;have K3:=Hy (ak hcut.gr K2.out (by simp;omega))
  clear hcut HS qh HK HN m1 m3 ml J;have yF:kP X.gs (X.fl.map (·.1)) S.tr S.L ⟨o1,o2,o3,o4,o5,o6⟩ xk (t1,t2) S.d=rr:=Gz;unfold kP at yF;simp only [HNM.out] at yF;have Jm:=Hy yF;have jH:=Hy (ak HC.gr KZ.out (by simp;omega))
  obtain ⟨fn,ut⟩:=zN X.fl.length;obtain ⟨og,Ub⟩:=zN (eY (X.fl.map (·.1)) o4);have HG:Hid (∀W',Below W1.heap.size W1 W'->Calls prog 30 #[crp X,.string zs,Iv (fn:Nat)] W' fun e w'=>e=.returned (Iv (oI og))/\Below W1.heap.size W1 w'):=Hy fun W' dK=>by
   rw [<-HZ.out,<-ut,<-Ub];exact (vw (HC.rv.on dK) o4 HX.2.1.f).mono fun e w' h=>⟨h.1,dK.trans (h.2.mono dK.size)⟩
  have HS:Hid (∀Wx,Below W1.heap.size W1 Wx->Wx.cell? (Ad H 3)=some (.string zs)/\H<Wx.heap.size/\Wx.cell? (Ad X.b 1)=some (.slice X.fA fn X.fc)/\X.b<Wx.heap.size):=Hy fun Wx hW=>by
   have u:=K3.out.below hW K3.out.lt;have u2:=(HC.rv.on hW);have u3:=u2.c1;rw [ut] at u3;exact ⟨u.cell 3,u.lt,u3,u2.chk.lt⟩
  obtain ⟨WG,Ov,c0,cl⟩:=HS W1 (zB _ _);have J:Below W1.heap.size W1 W1:=zB _ _;have OL:=Hy2 ut Ub;clear ut Ub Gz yF;go_upto_region 2 with (fail);go_cut [5] (fun v5 wx=>v5=Iv (oI og)/\Below W1.heap.size W1 wx)
  case first=>
   go_region_held2 (fun Wx=>Wx.cell? (Ad H 3)=some (.string zs)/\H<Wx.heap.size/\Wx.cell? (Ad X.b 1)=some (.slice X.fA fn X.fc)/\X.b<Wx.heap.size)
    (first|exact ⟨WG,Ov,c0,cl⟩|exact HS _ J)
    ((go_at_call 30;(with_reducible refine Calls.mono (HG.out _ (by first|exact J|exact J.drew)) ?_);rintro e v1 ⟨rfl,J⟩))
   all_goals
    go_wp2_with fail;go_meet;exact ⟨rfl,by first|exact J|exact J.drew⟩
  case rest=>
   obtain ⟨rfl,Tp⟩:=hcut;obtain ⟨W2,Sy⟩:=zQ wc;subst Sy;have OH:=HC.low Tp;have K4:=Hy (K3.out.below Tp K3.out.lt);have zU:=Hy (jH.out.below Tp jH.out.lt);clear HS HG WG Ov c0 cl J Tp jH;have HV:=Hy (show Calls prog 157 #[crp X,.string zs] W2 fun e w'=>e=.returned (Iv (oI (gy S.L o4)))/\Below W2.heap.size W2 w' by rw [<-HZ.out];exact uy OH.rv o4 HX.2.1.Ln)
   have I4:=Hy OH;have m3:W2.cell? (Ad H 3)=some (.string zs):=K4.out.cell 3;have ml:=K4.out.lt;clear OH;obtain ⟨ov,XW⟩:=zN (gy S.L o4);rw [XW] at HV;have Wu:=Hy XW;clear XW;go_wp2_with fail;refine HV.mono ?_;clear HV;rintro e W3 ⟨rfl,lW⟩;have KT:=Hy (I4.low lW);have Qw:=Hy (K4.out.below lW K4.out.lt);have JX:=Hy (zU.out.below lW zU.out.lt);clear lW m3 ml zU;have m2:W3.cell? (Ad H 1)=some (Iv o2):=Qw.cell 1;have ml:=Qw.lt;have Oj:=Hy (dz KT.rv true 6 o2);simp only at Oj;cases ov with
   |some v=>
    have he:rr=((t1,t2),dN (dN S.d (!nm) 4 o2) true 6 o2):=by rw [<-Jm.out,Wu.out]
    have q0:(0:Int)<=(v:Int):=by omega
    rw [show oI (some v)=(v:Int) from rfl]
    have HE:=Hy he;clear he;go_wp2_with fail;refine Oj.mono ?_;clear Oj;rintro e W4 ⟨rfl,Kr⟩;have hPw:=NoP.before HX.2.2.1 (KT.trans Kr);have QM:=Hy hPw;have FK:=ak Kr.gr Qw (by simp;omega)
    have Ri:=ak Kr.gr JX.out (by simp;omega)
    clear Kr hPw m2 ml;go_upto_region 5 with (fail);have b1:=FK;have b2:=Ri;have kZ:=setRow_heap W4 (H+1) _ #[Iv o1,Iv o2,Iv o3,.string zs,Iv o5,.slice kA kn kc,Iv t1,Iv t2] tNd (0,0) b2;have oW:=Hy2 kZ (below_setRow (B:=w.heap.size) W4 (H+1) #[Iv o1,Iv o2,Iv o3,.string zs,Iv o5,.slice kA kn kc,Iv t1,Iv t2] (by have:=HH.out;omega))
    clear kZ;refine wp_region_list ?_;refine wpList_load_row rfl tNd _ rfl H rfl tNd _ (0,0) _ b1 underlying75 rfl ay ?_;refine wpList_store_row rfl tNd _ _ rfl (H+1) _ rfl rfl tNd #[Iv 0,Iv 0,Iv 0,.string ⟨#[]⟩,Iv 0,Sn,Iv 0,Iv 0] b2 ay rfl (by simp [Value.oneCell']) ?_
    refine wpList_nil ?_;go_wp2_with fail;refine bodyPost_ret (results_cell_row rfl _ _ (H+1) tNd _ (0,0) _ rfl oW.1 underlying75 rfl ay) rfl ?_;rw [HE.out];exact ⟨rfl,NoP.under HX.2.2.2 QM oW.2⟩
   |none=>
    cases og with
    |none=>
     have he:rr=((t1,t2),dN (dN S.d (!nm) 4 o2) true 6 o2):=by rw [<-Jm.out,Wu.out,OL.2];rfl
     simp only [oI];have HE:=Hy he;clear he;go_wp2_with fail;refine Oj.mono ?_;clear Oj;rintro e W4 ⟨rfl,Kr⟩;have hPw:=NoP.before HX.2.2.1 (KT.trans Kr);have QM:=Hy hPw;have FK:=ak Kr.gr Qw (by simp;omega)
     have Ri:=ak Kr.gr JX.out (by simp;omega)
     clear Kr hPw m2 ml;go_upto_region 5 with (fail);have b1:=FK;have b2:=Ri;have kZ:=setRow_heap W4 (H+1) _ #[Iv o1,Iv o2,Iv o3,.string zs,Iv o5,.slice kA kn kc,Iv t1,Iv t2] tNd (0,0) b2;have oW:=Hy2 kZ (below_setRow (B:=w.heap.size) W4 (H+1) #[Iv o1,Iv o2,Iv o3,.string zs,Iv o5,.slice kA kn kc,Iv t1,Iv t2] (by have:=HH.out;omega))
     clear kZ;refine wp_region_list ?_;refine wpList_load_row rfl tNd _ rfl H rfl tNd _ (0,0) _ b1 underlying75 rfl ay ?_;refine wpList_store_row rfl tNd _ _ rfl (H+1) _ rfl rfl tNd #[Iv 0,Iv 0,Iv 0,.string ⟨#[]⟩,Iv 0,Sn,Iv 0,Iv 0] b2 ay rfl (by simp [Value.oneCell']) ?_
     refine wpList_nil ?_;go_wp2_with fail;refine bodyPost_ret (results_cell_row rfl _ _ (H+1) tNd _ (0,0) _ rfl oW.1 underlying75 rfl ay) rfl ?_;rw [HE.out];exact ⟨rfl,NoP.under HX.2.2.2 QM oW.2⟩
    |some f=>
     have kH:f<fn:=by have:=Ak OL.2;rw [List.length_map] at this;have:=OL.1;omega
     obtain ⟨⟨xf,pv⟩,VB⟩:∃q,X.fl[f]? =some q:=⟨_,List.getElem?_eq_getElem (by have:=OL.1;omega)⟩
     obtain ⟨vv,Oy⟩:∃v,S.vls[f]? =some v:=⟨_,List.getElem?_eq_getElem (by have h9:S.vls.length=X.fl.length:=KT.rv.vl;have:=OL.1;omega)⟩
     have Ie:=RdS.av (KT.rv.ps _ (zG VB));simp only at Ie;obtain ⟨pn,Da⟩:=zN xf.ps.length;rw [Da] at Ie;obtain ⟨pA,pc,rfl⟩:=Ie.shape;have u1:(dE X.fl S.vls)[f * 6+1]? =some (Iv xf.ty):=bQ X.fl S.vls f 1 (by omega) VB Oy
     have u2:(dE X.fl S.vls)[f * 6+2]? =some (.slice pA pn pc):=bQ X.fl S.vls f 2 (by omega) VB Oy
     obtain ⟨ft,Tk⟩:=zN xf.ty;rw [Tk] at u1;have he:rr=((ft,(f:Int)),aN S.tr o2 xk (dN (dN S.d (!nm) 4 o2) (decide (kn≠pn)) 7 o2)):=by
      rw [<-Jm.out,Wu.out,OL.2];simp only [Option.bind_some,List.getElem?_map,VB,Option.map_some,Tk,Da];rw [show xk.length=kn from HX.1.len]
     have HE:=Hy he;have hU:∀dd Wx,RV X {S with d:=dd} Wx->Wx.cell? (Ad X.b 1)=some (.slice X.fA fn X.fc)/\X.b<Wx.heap.size/\∃b o,X.fA=some (Ad b o)/\b<Wx.heap.size/\Wx.cell? (Ad b (o+f * 6+1))=some (Iv ft)/\Wx.cell? (Ad b (o+f * 6+2))=some (.slice pA pn pc):=fun dd Wx hR=>by
      have c1:=hR.c1;have Te:=RdS.av hR.f;rw [OL.1] at c1;obtain ⟨b,o,hA,eu,hc⟩:=Te.get (dQ u1);exact ⟨c1,hR.chk.lt,b,o,hA,eu,hc _ _ u1,hc _ _ u2⟩
     obtain ⟨c1,cl,b,o,hA,eu,y1,y2⟩:=hU _ W3 KT.rv;rw [hA] at c1;have hfI:(f:Int)<fn:=by omega
     have hf0:¬ (f:Int)<0:=by omega
     obtain ⟨bb,DW⟩:∃q,((kn:Int) != (pn:Int))=q:=⟨_,rfl⟩;have hbe:decide (kn≠pn)=bb:=by
      rw [<-DW];by_cases e:kn=pn
      ·simp [e]
      ·have e2:((kn:Int) != (pn:Int))=true:=by rw [bne_iff_ne];omega
       rw [e2];simpa using e
     rw [hbe] at he;have HE:=Hy he;have HN7:Hid (∀W',Below W3.heap.size W3 W'->Calls prog 31 #[crp X,.bool bb,Iv 7,Iv o2] W' fun e w'=>e=.returned (.tuple #[])/\NoP X {S with d:=dN (dN S.d (!nm) 4 o2) bb 7 o2} W3 w'):=Hy fun W' dK=>
      (dz (KT.rv.on dK) bb 7 o2).mono fun e w' h=>⟨h.1,NoP.before dK h.2⟩
     have HS:Hid (∀Wx,Below W3.heap.size W3 Wx->Wx.cell? (Ad H 1)=some (Iv o2)/\Wx.cell? (Ad H 5)=some (.slice kA kn kc)/\H<Wx.heap.size/\Wx.cell? (Ad X.b 1)=some (.slice (some (Ad b o)) fn X.fc)/\X.b<Wx.heap.size/\Wx.cell? (Ad b (o+f * 6+2))=some (.slice pA pn pc)/\b<Wx.heap.size):=Hy fun Wx hW=>by
      have u:=Qw.below hW Qw.lt;exact ⟨u.cell 1,u.cell 5,u.lt,(hW.cell (p:=Ad X.b 1) cl).trans c1,Nat.lt_of_lt_of_le cl hW.size,(hW.cell (p:=Ad b _) eu).trans y2,Nat.lt_of_lt_of_le eu hW.size⟩
     have qh:Hid (∀Wx,NoP X {S with d:=dN (dN S.d (!nm) 4 o2) bb 7 o2} W3 Wx->Wx.cell? (Ad H 1)=some (Iv o2)/\Wx.cell? (Ad H 5)=some (.slice kA kn kc)/\H<Wx.heap.size/\Wx.cell? (Ad X.b 1)=some (.slice (some (Ad b o)) fn X.fc)/\X.b<Wx.heap.size/\Wx.cell? (Ad b (o+f * 6+2))=some (.slice pA pn pc)/\b<Wx.heap.size):=Hy fun Wx hW=>by
      have u:=ak hW.gr Qw (by simp;omega)
      have Ab:=hW.rv.c1;rw [OL.1,hA] at Ab;have Te:=RdS.av hW.rv.f;rw [hA] at Te;obtain ⟨b',o',e,h1,h2⟩:=Te.get (dQ u1);simp only [Option.some.injEq,Addr.mk.injEq,and_true] at e;obtain ⟨rfl,rfl⟩:=e;exact ⟨u.cell 1,u.cell 5,u.lt,Ab,hW.rv.chk.lt,h2 _ _ u2,h1⟩
     obtain ⟨m1,m5,Ov,YM,cl',y2',bl'⟩:=HS W3 (zB _ _);have J:Below W3.heap.size W3 W3:=zB _ _;have HU2:=Hy hU;have HA:=Hy hA;clear hU he hbe kH VB Oy Ie Da u1 u2 Tk c1 cl eu y1 y2 m2 ml Oj hA;simp only [oI];go_upto_region 6 with (fail);go_cut [] (fun wx=>NoP X {S with d:=dN (dN S.d (!nm) 4 o2) bb 7 o2} W3 wx)
     case first=>
      go_region_held2 (fun Wx=>Wx.cell? (Ad H 1)=some (Iv o2)/\Wx.cell? (Ad H 5)=some (.slice kA kn kc)/\H<Wx.heap.size/\Wx.cell? (Ad X.b 1)=some (.slice (some (Ad b o)) fn X.fc)/\X.b<Wx.heap.size/\Wx.cell? (Ad b (o+f * 6+2))=some (.slice pA pn pc)/\b<Wx.heap.size)
       (first|exact ⟨m1,m5,Ov,YM,cl',y2',bl'⟩|exact qh _ P2|exact HS _ J)
       ((go_at_call 31;(with_reducible refine Calls.mono (HN7.out _ (by first|exact J|exact J.drew)) ?_);rintro e v2 ⟨rfl,P2⟩))
      all_goals
       go_wp2_with fail;go_meet;first|exact P2|exact P2.drew
     case rest=>
      obtain ⟨W5,hW5⟩:=zQ wc;subst hW5;have UG:=ak hcut.gr Qw (by simp;omega)
      have hZ6:=ak hcut.gr JX.out (by simp;omega)
      have Gx:=Hy (dB hcut.rv HX.1 (t1,t2) kn (zL _));simp only [ndV,HZ.out] at Gx;rw [show xk.take kn=xk by rw [<-HX.1.len];exact List.take_length] at Gx
      have OJ:=Hy (KT.trans hcut);have n0:W5.cell? (Ad H 0)=some (Iv o1):=UG.cell 0;have n1:W5.cell? (Ad H 1)=some (Iv o2):=UG.cell 1;have n2:W5.cell? (Ad H 2)=some (Iv o3):=UG.cell 2;have n3:W5.cell? (Ad H 3)=some (.string zs):=UG.cell 3;have n4:W5.cell? (Ad H 4)=some (Iv o5):=UG.cell 4;have n5:W5.cell? (Ad H 5)=some (.slice kA kn kc):=UG.cell 5;have n6:W5.cell? (Ad H 6)=some (Iv t1):=UG.cell 6;have n7:W5.cell? (Ad H 7)=some (Iv t2):=UG.cell 7;have nl:=UG.lt;have HKK:=Hy2 UG hZ6;clear hcut UG hZ6 HS qh HN7 m1 m5 Ov YM cl' y2' bl' J DW;go_wp2_with fail;refine Gx.mono ?_;clear Gx;rintro e W6 ⟨rfl,Q8⟩;have YE:=OJ.trans Q8;obtain ⟨c1,cl,b',o',Pq,eu,y1,-⟩:=HU2 _ W6 YE.rv;rw [HA.out] at Pq;simp only [Option.some.injEq,Addr.mk.injEq,and_true] at Pq;obtain ⟨rfl,rfl⟩:=Pq;rw [HA.out] at c1;have SB:=ak Q8.gr HKK.1 (by simp;omega)
      have hZ7:=ak Q8.gr HKK.2 (by simp;omega)
      have n6:W6.cell? (Ad H 6)=some (Iv t1):=SB.cell 6;have n7:W6.cell? (Ad H 7)=some (Iv t2):=SB.cell 7;have f6:=SB.frozen 6;have f7:=SB.frozen 7;have nl:=SB.lt;have Ar:Blk ((W6.setCell (Ad H 6) (Iv ft)).setCell (Ad H 7) (Iv (f:Int))) H tNd #[Iv o1,Iv o2,Iv o3,.string zs,Iv o5,.slice kA kn kc,Iv ft,Iv (f:Int)]:=(SB.af 6 _).af 7 _;have Ae:Blk ((W6.setCell (Ad H 6) (Iv ft)).setCell (Ad H 7) (Iv (f:Int))) (H+1) tNd #[Iv 0,Iv 0,Iv 0,.string ⟨#[]⟩,Iv 0,Sn,Iv 0,Iv 0]:=(hZ7.far (p:=Ad H 6) (by simp) _).far (p:=Ad H 7) (by simp) _
      have lu:Below w.heap.size W6 ((W6.setCell (Ad H 6) (Iv ft)).setCell (Ad H 7) (Iv (f:Int))):=((zB _ _).setCell (p:=Ad H 6) (by have:=HH.out;simp;omega) _).setCell (p:=Ad H 7) (by have:=HH.out;simp;omega) _
      have Vn:=Hy (NoP.before HX.2.2.1 YE);clear Q8 YE HKK SB hZ7;go_upto_region 10 with (fail);generalize (W6.setCell (Ad H 6) (Iv ft)).setCell (Ad H 7) (Iv (f:Int))=W8 at *;have Jv:=Hy lu;clear lu n6 n7 f6 f7 nl c1 cl eu y1;have b1:=Ar;have b2:=Ae;have kZ:=setRow_heap W8 (H+1) _ #[Iv o1,Iv o2,Iv o3,.string zs,Iv o5,.slice kA kn kc,Iv ft,Iv (f:Int)] tNd (0,0) b2;have oW:=Hy2 kZ (below_setRow (B:=w.heap.size) W8 (H+1) #[Iv o1,Iv o2,Iv o3,.string zs,Iv o5,.slice kA kn kc,Iv ft,Iv (f:Int)] (by have:=HH.out;omega))
      clear kZ;refine wp_region_list ?_;refine wpList_load_row rfl tNd _ rfl H rfl tNd _ (0,0) _ b1 underlying75 rfl ay ?_;refine wpList_store_row rfl tNd _ _ rfl (H+1) _ rfl rfl tNd #[Iv 0,Iv 0,Iv 0,.string ⟨#[]⟩,Iv 0,Sn,Iv 0,Iv 0] b2 ay rfl (by simp [Value.oneCell']) ?_
      refine wpList_nil ?_;go_wp2_with fail;refine bodyPost_ret (results_cell_row rfl _ _ (H+1) tNd _ (0,0) _ rfl oW.1 underlying75 rfl ay) rfl ?_;rw [HE.out];exact ⟨rfl,NoP.under HX.2.2.2 Vn (Jv.trans oW.2)⟩
end
end
end Go.Proofs.YtcchdlnfeijinaaGreatDoor
