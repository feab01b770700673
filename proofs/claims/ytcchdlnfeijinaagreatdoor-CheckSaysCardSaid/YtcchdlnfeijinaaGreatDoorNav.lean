/- Cru to Crv: Layer check, the document's answer: a local variable. -/
import Derived.Test.YtcchdlnfeijinaaGreatDoorNau
import Derived.Deep.RegionLaw
import Derived.Deep.AppendLies
import Derived.Deep.Onto
namespace Go.Proofs.YtcchdlnfeijinaaGreatDoor
open Go.Proofs.Tryz
set_option linter.unusedSimpArgs false
set_option linter.unusedVariables false
set_option maxHeartbeats 4000000
set_option maxRecDepth 100000
section
open Go Go.RowKit Go.Maps
theorem Cv (deep:Int)(x:Nm')(p:Int)(y:Vr):∀(l:List Vr) (d:Int×Int),twR deep x p (l ++ [y]) d=dN (twR deep x p l d) (decide (y.b=deep) && decide (y.s=x)) 5 p:=by
 intro l
 induction l with
 |nil=>intro d;rfl
 |cons a l ih=>intro d;simp only [List.cons_append,twR,ih]
section
variable {X:RX} {S:RS} {w:World}
theorem Gc (X:RX)(no p:Int)(w:World):Calls prog 31 #[crp X,.bool false,Iv no,Iv p] w fun e w'=>e=.returned (.tuple #[])/\w'=w:=by
 go_enter func31,ntmps31;go_wp2_with fail;go_end0;exact ⟨rfl,rfl⟩
theorem Kl (h:RV X S w){x:CN}{kn:Nat}(hx:NdX X x kn)(hS:SOk X S)(bT:1<=kn)(t:Int×Int) :
  Calls prog 131 #[crp X,ndV x.h x.v t] w fun e w'=>∃lv' v',e=.returned (ndV x.h x.v (t.1,((S.vs.getD S.F []).length:Int)))/\
   RV X {S with d:=dN (twR S.deep x.h.s x.h.p S.L (aN S.tr x.h.p (x.kids.take 1) S.d)) (decide (64<=(S.vs.getD S.F []).length)) 9 x.h.p,L:=S.L ++ [⟨x.h.s,(S.vs.getD S.F []).length,S.deep⟩],lv:=lv',vls:=S.vls.set S.F v',vs:=S.vs.set S.F (S.vs.getD S.F [] ++ [x.h.to])} w'/\FrP X w w':=by
 obtain ⟨D2,Xi⟩:=zN (twR S.deep x.h.s x.h.p S.L (aN S.tr x.h.p (x.kids.take 1) S.d));obtain ⟨l,hl⟩:=zN (S.vs.getD S.F []);rw [Xi,hl];have hb:Zw w ((w.alloc (.cells (ndC x.h x.v t) tNd)).alloc (.cells #[Iv 0,Iv 0,Iv 0,.string ⟨#[]⟩,Iv 0,.slice none 0 0,Iv 0,Iv 0] tNd)):=((zB _ _).alloc (zL _) _).alloc (by simp) _
 have k2:=(Blk.new w tNd (ndC x.h x.v t)).alloc (.cells #[Iv 0,Iv 0,Iv 0,.string ⟨#[]⟩,Iv 0,.slice none 0 0,Iv 0,Iv 0] tNd);have k3:=Blk.new (w.alloc (.cells (ndC x.h x.v t) tNd)) tNd #[Iv 0,Iv 0,Iv 0,.string ⟨#[]⟩,Iv 0,.slice none 0 0,Iv 0,Iv 0];rw [show (w.alloc (.cells (ndC x.h x.v t) tNd)).heap.size=w.heap.size+1 by simp] at k3
 have NR:=h.chk.lt;have h2:=h.on hb;have HX:=Hy4 hx hS hb h;have QF:=hx.le;obtain ⟨kA,kc,hv⟩:∃A c,x.v=.slice A kn c:=by have h9:=(RdS.av (h.ks x hx.mem).1).shape;rw [hx.len] at h9;exact h9
 clear h hx hS;obtain ⟨xh,xk,xv⟩:=x;simp only at hv;subst hv;obtain ⟨o1,o2,o3,o4,o5,o6⟩:=xh;obtain ⟨t1,t2⟩:=t;simp only at *;obtain ⟨zs,FV⟩:=zN (str o4);simp only [ndC,ndV,FV] at k2 k3 hb h2 HX |-;have HZ:=Hy FV;clear FV;go_enter func131,ntmps131;go_upto_region 1 with (fail);obtain ⟨H,hH⟩:=zN w.heap.size;rw [hH] at k2 k3;have Wd:X.b<H:=by omega
 generalize (w.alloc (.cells #[Iv o1,Iv o2,Iv o3,.string zs,Iv o5,.slice kA kn kc,Iv t1,Iv t2] tNd)).alloc (.cells #[Iv 0,Iv 0,Iv 0,.string ⟨#[]⟩,Iv 0,.slice none 0 0,Iv 0,Iv 0] tNd)=W at *;have K2:=Hy k2;have KZ:=Hy k3;have H2:=Hy h2;try simp only [hH]
 have HH:=Hy hH;clear k2 k3 h2 hb NR hH;have HD2:=Hy2 Xi hl;have hD2':twR S.deep o4 o2 S.L (aN S.tr o2 (xk.take 1) S.d)=D2:=Xi;have HD3:=Hy hD2';clear Xi hl hD2';have Nb:=Hy (NoP.of HX.out.2.2.2 HX.out.2.2.1);have jk:=Hy2 K2.out KZ.out;have n0:Ce W H 0 (Iv o1):=jk.out.1.cell 0;have n1:Ce W H 1 (Iv o2):=jk.out.1.cell 1;have n2:Ce W H 2 (Iv o3):=jk.out.1.cell 2;have n3:Ce W H 3 (.string zs):=jk.out.1.cell 3;have n4:Ce W H 4 (Iv o5):=jk.out.1.cell 4;have n5:Ce W H 5 (.slice kA kn kc):=jk.out.1.cell 5;have n6:Ce W H 6 (Iv t1):=jk.out.1.cell 6;have n7:Ce W H 7 (Iv t2):=jk.out.1.cell 7;have nl:=jk.out.1.lt;have Gx:=Hy (show Calls prog 133 #[crp X,.agg #[Iv o1,Iv o2,Iv o3,.string zs,Iv o5,.slice kA kn kc,Iv t1,Iv t2],Iv 1] W fun e w'=>e=.returned (.tuple #[])/\NoP X {S with d:=aN S.tr o2 (xk.take 1) S.d} W w' by have h9:=dB (S:={S with d:=S.d}) Nb.out.rv HX.out.1 (t1,t2) 1 bT;simp only [ndV,HZ.out] at h9;exact h9)
 go_wp2_with fail;refine Gx.out.mono ?_;clear Gx;rintro e W1 ⟨rfl,hP⟩;have IU:=Hy (Nb.out.trans hP);have jH:=Hy2 (ak hP.gr jk.out.1 (by simp;omega)) (ak hP.gr jk.out.2 (by simp;omega))
 clear hP;clear n0 n1 n2 n3 n4 n5 n6 n7 nl;obtain ⟨D1,Wl⟩:=zN (aN S.tr o2 (xk.take 1) S.d);rw [Wl] at IU HD3;obtain ⟨Ln,Xe⟩:=zN S.L.length;obtain ⟨deep,Tm⟩:=zN S.deep;have SS:=Hy2 Xe Tm;have hLm:Ln<=1000000:=by rw [<-Xe];exact HX.out.2.1.Ln
 have P1:=Hy (NoP.refl IU.out.rv);obtain ⟨lA,lc,Ui⟩:∃A c,S.lv=.slice A Ln c:=by have h9:=(RdS.av IU.out.rv.l).shape;rw [<-Xe];exact h9
 have Wv:=Hy Ui;have c4:=IU.out.rv.c4;simp only at c4;rw [Ui] at c4;have cl:=IU.out.rv.chk.lt;clear Wl Xe Tm Ui;go_wp2_with fail;go_loopw [5] (fun v wr=>∃j:Nat,j<=Ln/\v=Iv j/\NoP X {S with d:=twR S.deep o4 o2 (S.L.take j) D1} W1 wr) (fun v _=>Ln - (intOf v).toNat)
 case atStart=>exact ⟨0,by omega,rfl,P1.out⟩
 case round=>
  obtain ⟨j,hj,rfl,hP⟩:=hrel;have hR:=hP.rv;have kb:=ak hP.gr jH.out.1 (by simp;omega)
  have c4:=hR.c4;have c5:=hR.c5;have cl:=hR.chk.lt;simp only at c4 c5;rw [Wv.out] at c4;rw [SS.out.2] at c5;by_cases hlt:j<Ln
  ·obtain ⟨y,hy⟩:∃y,S.L[j]? =some y:=⟨_,List.getElem?_eq_getElem (by have:=SS.out.1;omega)⟩
   have hu:=fun i hi=>aY vrC 3 (fun _=>rfl) S.L j i hi
   simp only [hy,Option.bind_some] at hu;have u0:(S.L.flatMap vrC)[j * 3]? =some (.string (str y.s)):=hu 0 (by omega)
   have u2:(S.L.flatMap vrC)[j * 3+2]? =some (Iv y.b):=hu 2 (by omega)
   have VK:=RdS.av hR.l;simp only at VK;rw [Wv.out,SS.out.1] at VK;obtain ⟨lb,lo,rfl,Ob,hc⟩:=VK.get (dQ u0);have y0:=hc _ _ u0;have y2:Ce wr lb (lo+j * 3+2) (Iv y.b):=hc _ _ u2;obtain ⟨zy,Tz⟩:=zN (str y.s);obtain ⟨yb,hyb⟩:=zN y.b;rw [Tz] at y0;rw [hyb] at y2;have m1:Ce wr H 1 (Iv o2):=kb.cell 1;have m3:Ce wr H 3 (.string zs):=kb.cell 3;have ml:=kb.lt;have hjI:(j:Int)<Ln:=by omega
   have TH:twR S.deep o4 o2 (S.L.take (j+1)) D1=dN (twR S.deep o4 o2 (S.L.take j) D1) (decide (yb=deep) && decide (y.s=o4)) 5 o2:=by rw [List.take_add_one,hy,Option.toList_some,Cv,hyb,SS.out.2]
   have RI:Hid (∀bb,(decide (yb=deep) && decide (y.s=o4))=bb->∀W',Zw wr W'->Calls prog 31 #[crp X,.bool bb,Iv 5,Iv o2] W' fun e w'=>e=.returned (.tuple #[])/\NoP X {S with d:=twR S.deep o4 o2 (S.L.take (j+1)) D1} wr w'):=Hy fun bb DW W' dK=>
    (dz (hR.on dK) bb 5 o2).mono fun e w' h=>⟨h.1,by rw [TH,DW];exact NoP.before dK h.2⟩
   have hlX:lb≠X.b:=by
    have h8:=ag hR.l (show (S.lv).ownBlock=some lb by rw [Wv.out];rfl)
    exact au h8 hR.chk.kind (by decide)
   have HS:Hid (∀(Wx:World),Zw wr Wx->Ce Wx H 1 (Iv o2)/\Ce Wx H 3 (.string zs)/\H<Wx.heap.size/\Ce Wx X.b 4 (.slice (some ⟨lb,lo,none⟩) Ln lc)/\Ce Wx X.b 5 (Iv deep)/\X.b<Wx.heap.size/\Ce Wx lb (lo+j * 3) (.string zy)/\Ce Wx lb (lo+j * 3+2) (Iv yb)/\lb<Wx.heap.size):=Hy fun Wx hW=>by
    have u:=kb.below hW kb.lt;exact ⟨u.cell 1,u.cell 3,u.lt,(hW.cell (p:=⟨X.b,4,none⟩) cl).trans c4,(hW.cell (p:=⟨X.b,5,none⟩) cl).trans c5,Nat.lt_of_lt_of_le cl hW.size,(hW.cell (p:=⟨lb,_,none⟩) Ob).trans y0,(hW.cell (p:=⟨lb,_,none⟩) Ob).trans y2,Nat.lt_of_lt_of_le Ob hW.size⟩
   have qh:Hid (∀(Wx:World),NoP X {S with d:=twR S.deep o4 o2 (S.L.take (j+1)) D1} wr Wx->Ce Wx H 1 (Iv o2)/\Ce Wx H 3 (.string zs)/\H<Wx.heap.size/\Ce Wx X.b 4 (.slice (some ⟨lb,lo,none⟩) Ln lc)/\Ce Wx X.b 5 (Iv deep)/\X.b<Wx.heap.size/\Ce Wx lb (lo+j * 3) (.string zy)/\Ce Wx lb (lo+j * 3+2) (Iv yb)/\lb<Wx.heap.size):=Hy fun Wx hW=>by
    have u:=ak hW.gr kb (by simp;omega)
    have d4:=hW.rv.c4;have d5:=hW.rv.c5;simp only at d4 d5;rw [Wv.out] at d4;rw [SS.out.2] at d5;have XO:=RdS.av hW.rv.l;simp only at XO;rw [Wv.out,SS.out.1] at XO;obtain ⟨lb',lo',e,h1,h2⟩:=XO.get (dQ u0);simp only [Option.some.injEq,Addr.mk.injEq,and_true] at e;obtain ⟨rfl,rfl⟩:=e;exact ⟨u.cell 1,u.cell 3,u.lt,d4,d5,hW.rv.chk.lt,by rw [<-Tz];exact h2 _ _ u0,by rw [<-hyb];exact h2 _ _ u2,h1⟩
   have Pn:(decide (yb=deep) && decide (y.s=o4))=false->twR S.deep o4 o2 (S.L.take (j+1)) D1=twR S.deep o4 o2 (S.L.take j) D1:=fun e=>by rw [TH,e,bP]
   have J:Zw wr wr:=zB _ _;have Xu:=Hy hP;have HY:=Hy2 Tz hyb;clear hP hR kb hu u0 u2 VK hc Tz hyb TH hy hlX;by_cases hbd:yb=deep
   ·subst hbd;have q1:(yb == yb)=true:=by simp
    by_cases hxs:y.s=o4
    ·have hE:zy=zs:=by rw [<-HY.out.1,hxs,HZ.out]
     subst hE;have q2:(zy.toList == zy.toList)=true:=by simp
     have HN:=Hy (RI.out true (by simp [hxs]))
     clear RI hxs Pn;go_upto_region 5 with (fail);go_region_held2 (fun (Wx:World)=>Ce Wx H 1 (Iv o2)/\Ce Wx H 3 (.string zy)/\H<Wx.heap.size/\Ce Wx X.b 4 (.slice (some ⟨lb,lo,none⟩) Ln lc)/\Ce Wx X.b 5 (Iv yb)/\X.b<Wx.heap.size/\Ce Wx lb (lo+j * 3) (.string zy)/\Ce Wx lb (lo+j * 3+2) (Iv yb)/\lb<Wx.heap.size)
      (first|exact ⟨m1,m3,ml,c4,c5,cl,y0,y2,Ob⟩|exact qh.out _ P2|exact HS.out _ J)
      ((go_at_call 31;(with_reducible refine Calls.mono (HN.out _ (by first|exact J|exact J.drew)) ?_);rintro e v2 ⟨rfl,P2⟩))
     all_goals
      have HC:=Hy (Xu.out.trans (show NoP X {S with d:=twR S.deep o4 o2 (S.L.take (j+1)) D1} wr _ from by first|exact P2|exact P2.drew))
      clear P2;go_wp2_with fail;go_roundw
      case rel=>exact ⟨j+1,by omega,by go_num,HC.out⟩
      case measure=>simp [intOf];omega
    ·have s0:=mG HY.out.1 HZ.out hxs;have HN:=Hy (RI.out false (by simp [hxs]))
     clear RI hxs Pn;go_upto_region 5 with (fail);go_region_held2 (fun (Wx:World)=>Ce Wx H 1 (Iv o2)/\Ce Wx H 3 (.string zs)/\H<Wx.heap.size/\Ce Wx X.b 4 (.slice (some ⟨lb,lo,none⟩) Ln lc)/\Ce Wx X.b 5 (Iv yb)/\X.b<Wx.heap.size/\Ce Wx lb (lo+j * 3) (.string zy)/\Ce Wx lb (lo+j * 3+2) (Iv yb)/\lb<Wx.heap.size)
      (first|exact ⟨m1,m3,ml,c4,c5,cl,y0,y2,Ob⟩|exact qh.out _ P2|exact HS.out _ J)
      ((go_at_call 31;(with_reducible refine Calls.mono (HN.out _ (by first|exact J|exact J.drew)) ?_);rintro e v2 ⟨rfl,P2⟩))
     all_goals
      have HC:=Hy (Xu.out.trans (show NoP X {S with d:=twR S.deep o4 o2 (S.L.take (j+1)) D1} wr _ from by first|exact P2|exact P2.drew))
      clear P2;go_wp2_with fail;go_roundw
      case rel=>exact ⟨j+1,by omega,by go_num,HC.out⟩
      case measure=>simp [intOf];omega
   ·have q1:(yb == deep)=false:=by simp [hbd]
    have Oi:=Hy (show twR S.deep o4 o2 (S.L.take (j+1)) D1=twR S.deep o4 o2 (S.L.take j) D1 from Pn (by simp [hbd]))
    clear RI HS qh J Pn;go_upto_region 5 with (fail);go_quiet ((go_at_call 31;exact Calls.quiet_of_same (Gc X 5 o2 _)));go_wp2_with fail;go_roundw
    case rel=>exact ⟨j+1,by omega,by go_num,by rw [Oi.out];first|exact Xu.out|exact Xu.out.drew|exact Xu.out.drewN _⟩
    case measure=>simp [intOf];omega
  ·obtain rfl:Ln=j:=by omega
   have OH:NoP X {S with d:=D2} W1 wr:=by
    have h9:=hP;rw [List.take_of_length_le (by rw [SS.out.1];exact zL _)] at h9
    rw [HD3.out] at h9;exact h9
   have Oh:=OH.rv;obtain ⟨⟨f,pv⟩,hf⟩:∃f,X.fl[S.F]? =some f:=⟨_,List.getElem?_eq_getElem HX.out.2.1.F⟩;obtain ⟨vv,Oy⟩:∃v,S.vls[S.F]? =some v:=⟨_,List.getElem?_eq_getElem (by have h9:S.vls.length=X.fl.length:=Oh.vl;rw [h9];exact HX.out.2.1.F)⟩
   obtain ⟨l0,hl0⟩:∃l,S.vs[S.F]? =some l:=⟨_,List.getElem?_eq_getElem (by have h9:S.vs.length=X.fl.length:=Oh.vn;rw [h9];exact HX.out.2.1.F)⟩
   have Uj:l0=l:=by rw [<-HD2.out.2];simp [List.getD,hl0]
   subst Uj;have xc:=Oh.cur vv l0 Oy hl0;obtain ⟨ln,Fg⟩:=zN l0.length;have hcr:=RdS.av xc;rw [Fg] at hcr;obtain ⟨vA,vc,rfl⟩:=hcr.shape;have u5:(dE X.fl S.vls)[S.F * 6+5]? =some (.slice vA ln vc):=bQ X.fl S.vls S.F 5 (by omega) hf Oy
   have Te:=RdS.av Oh.f;have c1:=Oh.c1;have c3:=Oh.c3;simp only at c3;obtain ⟨fn,ut⟩:=zN X.fl.length;rw [ut] at Te c1;obtain ⟨b,o,hA,eu,hc⟩:=Te.get (dQ u5);have y5:Ce wr b (o+S.F * 6+5) (.slice vA ln vc):=hc _ _ u5;rw [hA] at c1;have YI:(S.F:Int)<fn:=by have:=HX.out.2.1.F;omega
   have hXl:=Oh.chk.lt;have I4:=Hy OH;have QN:=Hy2 kb (ak hP.gr jH.out.2 (by simp;omega))
   have HLM:=Hy (show ln<=1000000 by have h8:=HX.out.2.1.vn;rw [HD2.out.2] at h8;omega)
   have PO:=Hy3 Fg Oy hl0;obtain ⟨SF,Rw⟩:=zN S.F;have HSF:=Hy Rw;rw [Rw] at y5 c3 YI;clear hP OH hR Oh kb c5 hf Oy hl0 xc hcr Fg u5 Te ut hA hc Rw;go_upto_region 6 with (fail);go_cut [6] (fun v6 wx=>v6=.slice vA ln vc/\NoP X {S with d:=D2} W1 wx/\Zw wr wx)
   case first=>
    go_quiet (fail)
    go_wp2_with fail;go_meet;exact ⟨rfl,I4.out.drewN _,below_drewN _ _ _⟩
   case rest=>
    obtain ⟨rfl,Q8,Hu⟩:=hcut;obtain ⟨W6,hW6⟩:=zQ wc;subst hW6;have NP6:=Hy (IU.out.trans Q8);have UN:=Hy2 (QN.out.1.below Hu QN.out.1.lt) (QN.out.2.below Hu QN.out.2.lt);clear Q8 Hu QN I4 y5 c1 c3 YI hXl eu c4 cl;have n0:Ce W6 H 0 (Iv o1):=UN.out.1.cell 0;have n1:Ce W6 H 1 (Iv o2):=UN.out.1.cell 1;have n2:Ce W6 H 2 (Iv o3):=UN.out.1.cell 2;have n3:Ce W6 H 3 (.string zs):=UN.out.1.cell 3;have n4:Ce W6 H 4 (Iv o5):=UN.out.1.cell 4;have n5:Ce W6 H 5 (.slice kA kn kc):=UN.out.1.cell 5;have n6:Ce W6 H 6 (Iv t1):=UN.out.1.cell 6;have n7:Ce W6 H 7 (Iv t2):=UN.out.1.cell 7;have nl:=UN.out.1.lt;have I5:=Hy (show ∀bb,Calls prog 31 #[crp X,.bool bb,Iv 9,Iv o2] W6 fun e w'=>e=.returned (.tuple #[])/\NoP X {S with d:=dN D2 bb 9 o2} W6 w' from fun bb=>dz (S:={S with d:=D2}) NP6.out.rv bb 9 o2)
    go_wp2_with fail;refine (I5.out _).mono ?_;clear I5;rintro e W7 ⟨rfl,hP7⟩;rw [show decide ((64:Int)<=(ln:Int))=decide (64<=ln) from by rw [decide_eq_decide];omega] at hP7
    have NP7:=Hy (NP6.out.trans hP7);have YU:=Hy2 (ak hP7.gr UN.out.1 (by simp;omega)) (ak hP7.gr UN.out.2 (by simp;omega))
    clear hP7 n0 n1 n2 n3 n4 n5 n6 n7 nl;have n6:Ce W7 H 6 (Iv t1):=YU.out.1.cell 6;have n7:Ce W7 H 7 (Iv t2):=YU.out.1.cell 7;have f6:=YU.out.1.frozen 6;have f7:=YU.out.1.frozen 7;have nl:=YU.out.1.lt;have Ar:Blk (W7.setCell ⟨H,7,none⟩ (Iv (ln:Nat))) H tNd #[Iv o1,Iv o2,Iv o3,.string zs,Iv o5,.slice kA kn kc,Iv t1,Iv (ln:Nat)]:=(YU.out.1.af 7 _);have Ae:Blk (W7.setCell ⟨H,7,none⟩ (Iv (ln:Nat))) (H+1) tNd #[Iv 0,Iv 0,Iv 0,.string ⟨#[]⟩,Iv 0,.slice none 0 0,Iv 0,Iv 0]:=(YU.out.2.far (p:=⟨H,7,none⟩) (by simp) _)
    have lu:Below w.heap.size W7 (W7.setCell ⟨H,7,none⟩ (Iv (ln:Nat))):=((Below.refl w.heap.size W7).setCell (p:=⟨H,7,none⟩) (by have:=HH.out;simp;omega) _)
    go_upto_region 9 with (fail);generalize (W7.setCell ⟨H,7,none⟩ (Iv (ln:Nat)))=W8 at *;have NP8:=Hy (NoP.under HX.out.2.2.2 NP7.out lu);have ZZ:=Hy2 Ar Ae;clear lu Ar Ae;clear n6 n7 f6 f7 nl;obtain ⟨D3,hD3⟩:=zN (dN D2 (decide (64<=ln)) 9 o2);have R8:=NP8.out.rv;rw [hD3] at R8;have HD9:=Hy hD3;have hF8:FrP X w W8:=NoP.fr HX.out.2.2.2 NP8.out;have HF8:=Hy hF8;have c4:=R8.c4;have c5:=R8.c5;have cl:=R8.chk.lt;have f4:=R8.chk.frozen 4;simp only at c4 c5;rw [Wv.out] at c4;rw [SS.out.2] at c5;have n3:Ce W8 H 3 (.string zs):=ZZ.out.1.cell 3;have n7:Ce W8 H 7 (Iv (ln:Nat)):=ZZ.out.1.cell 7;have nl:=ZZ.out.1.lt;have QZ:=R8.l;simp only at QZ;rw [Wv.out,SS.out.1] at QZ;have Nt:some H≠(Value.slice lA Ln lc).ownBlock:=fun e=>au (ag QZ e.symm) ZZ.out.1.kind (by decide) rfl
    have QX:some X.b≠(Value.slice lA Ln lc).ownBlock:=fun e=>au (ag QZ e.symm) R8.chk.kind (by decide) rfl
    have av:Zw W8 (W8.alloc (.cells #[.string zs,Iv (ln:Nat),Iv deep] tVr)):=(zB _ _).alloc (zL _) _;have wJ:∀j u,[Value.string zs,Iv (ln:Nat),Iv deep][j]? =some u->(W8.alloc (.cells #[.string zs,Iv (ln:Nat),Iv deep] tVr)).cell? ((⟨W8.heap.size,0,none⟩:Addr).add j)=some u:=World.news_of_block (cs:=#[.string zs,Iv (ln:Nat),Iv deep]) (Blk.new W8 tVr #[.string zs,Iv (ln:Nat),Iv deep]);obtain ⟨i0,hi,vQ,sI,ru⟩:=dU Eg;have hB8:=R8.Bw;have HR8:=Hy R8;have HS:Hid (∀(Wx:World),Zw W8 Wx->Ce Wx H 3 (.string zs)/\Ce Wx H 7 (Iv (ln:Nat))/\H<Wx.heap.size/\Ce Wx X.b 5 (Iv deep)/\X.b<Wx.heap.size):=Hy fun Wx hW=>
     ⟨(hW.cell (p:=⟨H,3,none⟩) nl).trans n3,(hW.cell (p:=⟨H,7,none⟩) nl).trans n7,Nat.lt_of_lt_of_le nl hW.size,(hW.cell (p:=⟨X.b,5,none⟩) cl).trans c5,Nat.lt_of_lt_of_le cl hW.size⟩
    obtain ⟨a3,a7,al,a5,ab⟩:=HS.out _ av;have qh:Hid (∀(Wx:World),(W8.alloc (.cells #[.string zs,Iv (ln:Nat),Iv deep] tVr)).grownBy Wx (Value.slice lA Ln lc).ownBlock->Ce Wx H 3 (.string zs)/\Ce Wx H 7 (Iv (ln:Nat))/\H<Wx.heap.size/\Ce Wx X.b 5 (Iv deep)/\X.b<Wx.heap.size):=Hy fun Wx hW=>
     ⟨(hW.cell_far ⟨H,3,none⟩ al Nt).trans a3,(hW.cell_far ⟨H,7,none⟩ al Nt).trans a7,Nat.lt_of_lt_of_le al hW.size,(hW.cell_far ⟨X.b,5,none⟩ ab QX).trans a5,Nat.lt_of_lt_of_le ab hW.size⟩
    have Ms:Hid (∀(Wy:World) (v:Value),(W8.alloc (.cells #[.string zs,Iv (ln:Nat),Iv deep] tVr)).grownBy Wy (Value.slice lA Ln lc).ownBlock->(fun (Wx:World)=>Ce Wx H 3 (.string zs)/\Ce Wx H 7 (Iv (ln:Nat))/\H<Wx.heap.size/\Ce Wx X.b 5 (Iv deep)/\X.b<Wx.heap.size) (Wy.setCell ⟨X.b,4,none⟩ v)):=Hy fun Wy v hW=>by
     obtain ⟨b3,b7,bl,b5,bb⟩:=qh.out Wy hW;exact ⟨(World.cell?_setCell_far _ _ _ _ (by simp;omega)).trans b3,(World.cell?_setCell_far _ _ _ _ (by simp;omega)).trans b7,by simpa using bl,(World.cell?_setCell_other _ _ _ _ (by simp)).trans b5,by simpa using bb⟩
    have Xa:=av.cell (p:=⟨X.b,4,none⟩) cl;have MJ:=av.frozen (p:=⟨X.b,4,none⟩) cl;have HW:=Hy6 (QZ.alloc (.cells #[.string zs,Iv (ln:Nat),Iv deep] tVr)) wJ Nt QX (Xa.trans c4) (MJ.trans f4);have iK:=Hy av;have HL5:=Hy2 al ab;clear hD3 R8 hF8 QZ Nt QX av wJ Xa MJ f4;clear al ab a3 a7 a5;go_cut [] (fun wx=>∃lv',RV X {S with d:=D3,L:=S.L ++ [⟨o4,ln,S.deep⟩],lv:=lv'} wx/\FrP X W8 wx)
    case first=>
     refine wp_region_held_drew (S:=(fun (Wx:World)=>Ce Wx H 3 (.string zs)/\Ce Wx H 7 (Iv (ln:Nat))/\H<Wx.heap.size/\Ce Wx X.b 5 (Iv deep)/\X.b<Wx.heap.size)) (by kernel_rfl) (by exact ⟨n3,n7,nl,c5,cl⟩) (fun af=>?_)
     refine tQ 0 af ?_;refine tQ 1 af ?_;refine tQ 2 af ?_;refine tQ 3 af ?_;refine tQ 5 af ?_;refine tQ 6 af ?_;refine tQ 7 af ?_;refine tQ 8 af ?_;refine tQ 9 af ?_;refine tQ 10 af ?_;refine tQ 11 af ?_;refine tQ 12 af ?_;refine tQ 13 af ?_;try simp only [Act.put,zA]
     refine Fh (i:=4) (j:=14) rfl rfl (by kernel_rfl) (fun K hK=>?_) (fun K hK=>?_)
     ·go_simp
      clear af;refine hK.out _ _ ?_ (fun af=>?_)
      ·first|exact ⟨n3,n7,nl,c5,cl⟩|exact HS.out _ iK.out.drew
      clear hK K;try simp only [Act.put,zA]
      refine dC (i:=14) rfl (by kernel_rfl) (fun K hK=>?_)
      go_simp
      clear af;refine hK.out _ _ ?_ (fun af=>?_)
      ·exact HS.out _ iK.out.drew
      clear hK K;try simp only [Act.put,zA]
      refine dC (i:=15) rfl (by kernel_rfl) (fun K hK=>?_)
      refine step_append_lies _ rfl (.tmp 75) (.tmp 85) 71 rfl X.B tVr i0 (.agg #[.string ⟨#[]⟩,Iv 0,Iv 0]) 3 32 underlying71 hi vQ sI ru rfl (by decide) _ Ln (S.L.flatMap vrC) (by simp [Act.eval,Act.put]) HW.out.1 ⟨W8.heap.size,0,none⟩ 1 1 _ (by simp [Act.eval,Act.put]) rfl HW.out.2.1 (by simp [Value.oneCell']) (by decide) (by unfold maxLen;omega) (by omega) (by simp;omega) (W8.heap.size+1) (by simp) ?_;intro g1 cap w2 bB aB kH hlt2;have q4:=(aB.cell_far ⟨X.b,4,none⟩ HL5.out.2 HW.out.2.2.2.1).trans HW.out.2.2.2.2.1;have r4:=(aB.frozen_far ⟨X.b,4,none⟩ HL5.out.2 HW.out.2.2.2.1).trans HW.out.2.2.2.2.2;have HG:=Hy2 bB (jD aB);clear bB aB
      clear af;refine hK.out _ _ ?_ (fun af=>?_)
      ·exact qh.out _ HG.out.2
      clear hK K;refine tQ 16 af ?_;refine tQ 17 af ?_;try simp only [Act.put,zA]
      refine dC (i:=18) rfl (by kernel_rfl) (fun K hK=>?_)
      go_simp
      clear af;refine hK.out _ _ ?_ (fun af=>?_)
      ·exact Ms.out _ _ HG.out.2
      clear hK K;try simp only [Act.put,zA]
      refine wpAnyH_done (by kernel_rfl) ?_ _
      go_wp2_with fail;go_meet;have NW:=HR8.out.alloc (.cells #[.string zs,Iv (ln:Nat),Iv deep] tVr);have h9:=RV.scL (v':=.slice (some ⟨g1,0,none⟩) (Ln+1) cap) (L':=S.L ++ [⟨o4,ln,S.deep⟩]) NW (by simp only;rw [Wv.out];exact HG.out.2) (by
       have h8:=HG.out.1;simp only [List.length_append,List.length_singleton,SS.out.1,List.flatMap_append,List.flatMap_cons,List.flatMap_nil,List.append_nil,vrC,HZ.out,SS.out.2];exact h8)
      exact ⟨_,h9.1,(FrP.below hB8 iK.out).trans h9.2⟩
     ·go_simp
      clear af;refine hK.out _ _ ?_ (fun af=>?_)
      ·exact HS.out _ iK.out.drew
      clear hK K;try simp only [Act.put,zA]
      refine dC (i:=4) rfl (by kernel_rfl) (fun K hK=>?_)
      go_simp
      clear af;refine hK.out _ _ ?_ (fun af=>?_)
      ·first|exact ⟨n3,n7,nl,c5,cl⟩|exact HS.out _ iK.out.drew
      clear hK K;try simp only [Act.put,zA]
      refine dC (i:=15) rfl (by kernel_rfl) (fun K hK=>?_)
      refine step_append_lies _ rfl (.tmp 75) (.tmp 85) 71 rfl X.B tVr i0 (.agg #[.string ⟨#[]⟩,Iv 0,Iv 0]) 3 32 underlying71 hi vQ sI ru rfl (by decide) _ Ln (S.L.flatMap vrC) (by simp [Act.eval,Act.put]) HW.out.1 ⟨W8.heap.size,0,none⟩ 1 1 _ (by simp [Act.eval,Act.put]) rfl HW.out.2.1 (by simp [Value.oneCell']) (by decide) (by unfold maxLen;omega) (by omega) (by simp;omega) (W8.heap.size+1) (by simp) ?_;intro g1 cap w2 bB aB kH hlt2;have q4:=(aB.cell_far ⟨X.b,4,none⟩ HL5.out.2 HW.out.2.2.2.1).trans HW.out.2.2.2.2.1;have r4:=(aB.frozen_far ⟨X.b,4,none⟩ HL5.out.2 HW.out.2.2.2.1).trans HW.out.2.2.2.2.2;have HG:=Hy2 bB (jD aB);clear bB aB
      clear af;refine hK.out _ _ ?_ (fun af=>?_)
      ·exact qh.out _ HG.out.2
      clear hK K;refine tQ 16 af ?_;refine tQ 17 af ?_;try simp only [Act.put,zA]
      refine dC (i:=18) rfl (by kernel_rfl) (fun K hK=>?_)
      go_simp
      clear af;refine hK.out _ _ ?_ (fun af=>?_)
      ·exact Ms.out _ _ HG.out.2
      clear hK K;try simp only [Act.put,zA]
      refine wpAnyH_done (by kernel_rfl) ?_ _
      go_wp2_with fail;go_meet;have NW:=HR8.out.alloc (.cells #[.string zs,Iv (ln:Nat),Iv deep] tVr);have h9:=RV.scL (v':=.slice (some ⟨g1,0,none⟩) (Ln+1) cap) (L':=S.L ++ [⟨o4,ln,S.deep⟩]) NW (by simp only;rw [Wv.out];exact HG.out.2) (by
       have h8:=HG.out.1;simp only [List.length_append,List.length_singleton,SS.out.1,List.flatMap_append,List.flatMap_cons,List.flatMap_nil,List.append_nil,vrC,HZ.out,SS.out.2];exact h8)
      exact ⟨_,h9.1,(FrP.below hB8 iK.out).trans h9.2⟩
    case rest=>
     obtain ⟨lv',Tt,hF9⟩:=hcut;obtain ⟨W9,hW9⟩:=zQ wc;subst hW9;have hnH:∀m,H<=m->(Value.slice X.nA X.ns.length X.nc).ownBlock≠some m:=fun m hm=>HX.out.2.2.2.nLt (by have:=HH.out;omega)
     have KZ9:=Hy2 (hF9.blk ZZ.out.1 (hnH _ (zL _))) (hF9.blk ZZ.out.2 (hnH _ (by omega)))
     have HF9:=Hy (HF8.out.trans hF9);have Z5:=Hy Tt;clear HR8 HS qh Ms HW iK HL5 hi vQ sI ru n3 n7 nl c4 c5 cl hB8 hF9;have c1:=Tt.c1;have c3:=Tt.c3;have cl:=Tt.chk.lt;have hB9:=Tt.Bw;have We:=HX.out.2.1.F;have xc:=Tt.cur _ _ PO.out.2.1 PO.out.2.2;obtain ⟨g,MJ⟩:∃g,X.fA=some ⟨g,0,none⟩:=by
      rcases Tt.f.2 with ⟨_,e⟩|⟨g,_,_,e,_⟩
      ·omega
      ·simp only [Value.slice.injEq] at e;exact ⟨g,e.1⟩
     have WU:Kind W9 g tFu:=ag Tt.f (by rw [MJ];rfl)
     obtain ⟨⟨f,pv⟩,hf⟩:∃f,X.fl[S.F]? =some f:=⟨_,List.getElem?_eq_getElem We⟩;have u5:(dE X.fl S.vls)[S.F * 6+5]? =some (.slice vA ln vc):=bQ X.fl S.vls S.F 5 (by omega) hf PO.out.2.1
     obtain ⟨b',o',Pq,hbl',Uz⟩:=(RdS.av Tt.f).get (dQ u5);rw [MJ] at Pq;simp only [Option.some.injEq,Addr.mk.injEq,and_true] at Pq;obtain ⟨rfl,rfl⟩:=Pq;have y5:=Uz _ _ u5;have z5:W9.frozen? ⟨g,S.F * 6+5,none⟩=false:=by have h9:=Tt.f;rw [MJ] at h9;exact h9.frozenAt _
     simp only [Nat.zero_add] at y5;have U9:g≠X.b:=au WU Tt.chk.kind (by decide)
     have hgH:g≠H:=au WU KZ9.out.1.kind (by decide)
     have hrd:=RdS.av xc;rw [PO.out.1] at hrd;have HC:Hid (∀W',Zw W9 W'->Calls prog 86 #[.slice vA ln vc] W' fun e w'=>∃v,e=.returned v/\w'.ownsRow W9.heap.size aC 1 v ln (ints l0)/\Zw W9 w'/\Zw W' w'):=Hy fun W' dK=>
      (zi l0 ln PO.out.1 HLM.out vA vc W' (hrd.on dK)).mono fun e w' h=>by
       obtain ⟨v,h1,h2,h3⟩:=h;exact ⟨v,h1,h2.mono dK.size,dK.trans (h3.mono dK.size),h3⟩
     rw [MJ] at c1;simp only at c3;rw [HSF.out] at c3 y5 z5;obtain ⟨fn,ut⟩:=zN X.fl.length;rw [ut] at c1;have YI:(SF:Int)<fn:=by have:=HSF.out;omega
     have n4:Ce W9 H 4 (Iv o5):=KZ9.out.1.cell 4;have nl:=KZ9.out.1.lt;have HS:Hid (∀(Wx:World),Zw W9 Wx->Ce Wx X.b 1 (.slice (some ⟨g,0,none⟩) fn X.fc)/\Ce Wx X.b 3 (Iv (SF:Nat))/\X.b<Wx.heap.size/\Ce Wx H 4 (Iv o5)/\H<Wx.heap.size):=Hy fun Wx hW=>
      ⟨(hW.cell (p:=⟨X.b,1,none⟩) cl).trans c1,(hW.cell (p:=⟨X.b,3,none⟩) cl).trans c3,Nat.lt_of_lt_of_le cl hW.size,(hW.cell (p:=⟨H,4,none⟩) nl).trans n4,Nat.lt_of_lt_of_le nl hW.size⟩
     have Ms:Hid (∀(Wy:World) (v:Value),Zw W9 Wy->(fun (Wx:World)=>Ce Wx X.b 1 (.slice (some ⟨g,0,none⟩) fn X.fc)/\Ce Wx X.b 3 (Iv (SF:Nat))/\X.b<Wx.heap.size/\Ce Wx H 4 (Iv o5)/\H<Wx.heap.size) (Wy.setCell ⟨g,SF * 6+5,none⟩ v)):=Hy fun Wy v hW=>by
      obtain ⟨b1,b2,b3,b4,b5⟩:=HS.out Wy hW;exact ⟨(World.cell?_setCell_far _ _ _ _ U9).trans b1,(World.cell?_setCell_far _ _ _ _ U9).trans b2,by simpa using b3,(World.cell?_setCell_far _ _ _ _ hgH).trans b4,by simpa using b5⟩
     have J:Zw W9 W9:=zB _ _;have JA:Zw W9 (W9.alloc (.cells #[Iv o5] aC)):=(zB _ _).alloc (zL _) _;have ZA:=Hy (Blk.new W9 aC #[Iv o5]);obtain ⟨i0,hi,vQ,sI,ru⟩:=dU rD;have HY:=Hy3 hbl' y5 z5;have HFA:=Hy2 MJ We;have hln2:ln<=1000000:=HLM.out;clear Tt xc WU hf u5 Uz y5 z5 U9 hgH hrd MJ We hbl' ut;go_upto_region 10 with (fail);go_cut [] (fun wx=>∃v',RV X {S with d:=D3,L:=S.L ++ [⟨o4,ln,S.deep⟩],lv:=lv',vls:=S.vls.set S.F v',vs:=S.vs.set S.F (l0 ++ [o5])} wx/\FrP X W9 wx)
     case first=>
      refine wp_region_held_drew (S:=(fun (Wx:World)=>Ce Wx X.b 1 (.slice (some ⟨g,0,none⟩) fn X.fc)/\Ce Wx X.b 3 (Iv (SF:Nat))/\X.b<Wx.heap.size/\Ce Wx H 4 (Iv o5)/\H<Wx.heap.size)) (by kernel_rfl) (by exact HS.out _ J.drew) (fun af=>?_)
      refine tQ 0 af ?_;refine tQ 1 af ?_;refine tQ 2 af ?_;refine tQ 3 af ?_;refine tQ 4 af ?_;refine tQ 5 af ?_;refine tQ 6 af ?_;refine tQ 7 af ?_;refine tQ 8 af ?_;refine tQ 9 af ?_;refine tQ 11 af ?_;refine tQ 12 af ?_;try simp only [Act.put,zA]
      refine Fh (i:=10) (j:=13) rfl rfl (by kernel_rfl) (fun K hK=>?_) (fun K hK=>?_)
      ·go_simp
       first|(go_at_call 86;(with_reducible refine Calls.mono (HC.out _ (by first|exact J|exact J.drew|exact JA|exact JA.drew)) ?_);rintro e w9 ⟨v9,rfl,NW,Mk,Yz⟩)
       clear af;refine hK.out _ _ ?_ (fun af=>?_)
       ·first|exact HS.out _ Mk|exact HS.out _ Mk.drew
       clear hK K;try simp only [Act.put,zA]
       refine dC (i:=13) rfl (by kernel_rfl) (fun K hK=>?_)
       go_simp
       clear af;refine hK.out _ _ ?_ (fun af=>?_)
       ·first|exact HS.out _ JA|exact HS.out _ JA.drew|exact HS.out _ (Mk.alloc (by have:=Mk.size;omega) _)|exact HS.out _ (Mk.alloc (by have:=Mk.size;omega) _).drew
       clear hK K;try simp only [Act.put,zA]
       refine dC (i:=14) rfl (by kernel_rfl) (fun K hK=>?_)
       first|(refine step_append_lies _ rfl (.tmp 99) (.tmp 102) 40 rfl W9.heap.size aC i0 _ 1 8 underlying40 hi vQ sI ru rfl (by decide) _ ln (ints l0) (by simp [Act.eval,Act.put]) NW ⟨W9.heap.size,0,none⟩ 1 1 _ (by simp [Act.eval,Act.put]) rfl (World.news_of_block (cs:=#[Iv o5]) (Blk.below (show Blk (W9.alloc (.cells #[Iv o5] aC)).drew W9.heap.size aC #[Iv o5] from ZA.out) Yz (by simp))) (by simp [Value.oneCell']) (by decide) (by unfold maxLen;omega) (by omega) (by have:=Mk.size;simp;omega) w9.heap.size (by simp) ?_;intro g1 cap w2 bB aB kH hlt2;have Q9:Zw W9 w2:=(Mk).grown aB (by have:=Mk.size;simp;omega) (fun j ej=>(NW.lt j ej).1);have q5:=(Q9.cell (p:=⟨g,SF * 6+5,none⟩) HY.out.1).trans HY.out.2.1;have r5:=(Q9.frozen (p:=⟨g,SF * 6+5,none⟩) HY.out.1).trans HY.out.2.2;have HG:=Hy2 bB Q9;clear bB aB)|(refine step_append_lies _ rfl (.tmp 99) (.tmp 102) 40 rfl W9.heap.size aC i0 _ 1 8 underlying40 hi vQ sI ru rfl (by decide) _ ln (ints l0) (by simp [Act.eval,Act.put]) (NW.alloc _) ⟨w9.heap.size,0,none⟩ 1 1 _ (by simp [Act.eval,Act.put]) rfl (World.news_of_block (cs:=#[Iv o5]) (Blk.new w9 aC #[Iv o5])) (by simp [Value.oneCell']) (by decide) (by unfold maxLen;omega) (by omega) (by have:=Mk.size;simp;omega) (w9.heap.size+1) (by simp) ?_;intro g1 cap w2 bB aB kH hlt2;have Q9:Zw W9 w2:=(Mk.alloc (by have:=Mk.size;omega) _).grown aB (by have:=Mk.size;simp;omega) (fun j ej=>(NW.lt j ej).1);have q5:=(Q9.cell (p:=⟨g,SF * 6+5,none⟩) HY.out.1).trans HY.out.2.1;have r5:=(Q9.frozen (p:=⟨g,SF * 6+5,none⟩) HY.out.1).trans HY.out.2.2;have HG:=Hy2 bB Q9;clear bB aB)
       clear af;refine hK.out _ _ ?_ (fun af=>?_)
       ·exact HS.out _ HG.out.2
       clear hK K;refine tQ 15 af ?_;refine tQ 16 af ?_;try simp only [Act.put,zA]
       refine dC (i:=17) rfl (by kernel_rfl) (fun K hK=>?_)
       go_simp
       clear af;refine hK.out _ _ ?_ (fun af=>?_)
       ·exact Ms.out _ _ HG.out.2
       clear hK K;try simp only [Act.put,zA]
       refine wpAnyH_done (by kernel_rfl) ?_ _
       go_wp2_with fail;go_meet;have TU:=Z5.out;have Gz:w2.ownsRow S.H aC 1 (.slice (some ⟨g1,0,none⟩) (ln+1) cap) (l0 ++ [o5]).length (ints (l0 ++ [o5])):=by
        have h8:=HG.out.1.mono (base':=S.H) (by have h7:=TU.hB;simp only at h7;omega)
        simp only [List.length_append,List.length_singleton,PO.out.1,ints,List.map_append,List.map_cons,List.map_nil] at h8 |-;exact h8
       have h9:=RV.vars (c:=X.fc) TU HFA.out.1 HFA.out.2 HG.out.2 Gz;simp only [HSF.out] at h9 |-;exact ⟨_,h9.1,h9.2⟩
      ·go_simp
       clear af;refine hK.out _ _ ?_ (fun af=>?_)
       ·first|exact HS.out _ JA|exact HS.out _ JA.drew|exact HS.out _ (Mk.alloc (by have:=Mk.size;omega) _)|exact HS.out _ (Mk.alloc (by have:=Mk.size;omega) _).drew
       clear hK K;try simp only [Act.put,zA]
       refine dC (i:=10) rfl (by kernel_rfl) (fun K hK=>?_)
       go_simp
       first|(go_at_call 86;(with_reducible refine Calls.mono (HC.out _ (by first|exact J|exact J.drew|exact JA|exact JA.drew)) ?_);rintro e w9 ⟨v9,rfl,NW,Mk,Yz⟩)
       clear af;refine hK.out _ _ ?_ (fun af=>?_)
       ·first|exact HS.out _ Mk|exact HS.out _ Mk.drew
       clear hK K;try simp only [Act.put,zA]
       refine dC (i:=14) rfl (by kernel_rfl) (fun K hK=>?_)
       first|(refine step_append_lies _ rfl (.tmp 99) (.tmp 102) 40 rfl W9.heap.size aC i0 _ 1 8 underlying40 hi vQ sI ru rfl (by decide) _ ln (ints l0) (by simp [Act.eval,Act.put]) NW ⟨W9.heap.size,0,none⟩ 1 1 _ (by simp [Act.eval,Act.put]) rfl (World.news_of_block (cs:=#[Iv o5]) (Blk.below (show Blk (W9.alloc (.cells #[Iv o5] aC)).drew W9.heap.size aC #[Iv o5] from ZA.out) Yz (by simp))) (by simp [Value.oneCell']) (by decide) (by unfold maxLen;omega) (by omega) (by have:=Mk.size;simp;omega) w9.heap.size (by simp) ?_;intro g1 cap w2 bB aB kH hlt2;have Q9:Zw W9 w2:=(Mk).grown aB (by have:=Mk.size;simp;omega) (fun j ej=>(NW.lt j ej).1);have q5:=(Q9.cell (p:=⟨g,SF * 6+5,none⟩) HY.out.1).trans HY.out.2.1;have r5:=(Q9.frozen (p:=⟨g,SF * 6+5,none⟩) HY.out.1).trans HY.out.2.2;have HG:=Hy2 bB Q9;clear bB aB)|(refine step_append_lies _ rfl (.tmp 99) (.tmp 102) 40 rfl W9.heap.size aC i0 _ 1 8 underlying40 hi vQ sI ru rfl (by decide) _ ln (ints l0) (by simp [Act.eval,Act.put]) (NW.alloc _) ⟨w9.heap.size,0,none⟩ 1 1 _ (by simp [Act.eval,Act.put]) rfl (World.news_of_block (cs:=#[Iv o5]) (Blk.new w9 aC #[Iv o5])) (by simp [Value.oneCell']) (by decide) (by unfold maxLen;omega) (by omega) (by have:=Mk.size;simp;omega) (w9.heap.size+1) (by simp) ?_;intro g1 cap w2 bB aB kH hlt2;have Q9:Zw W9 w2:=(Mk.alloc (by have:=Mk.size;omega) _).grown aB (by have:=Mk.size;simp;omega) (fun j ej=>(NW.lt j ej).1);have q5:=(Q9.cell (p:=⟨g,SF * 6+5,none⟩) HY.out.1).trans HY.out.2.1;have r5:=(Q9.frozen (p:=⟨g,SF * 6+5,none⟩) HY.out.1).trans HY.out.2.2;have HG:=Hy2 bB Q9;clear bB aB)
       clear af;refine hK.out _ _ ?_ (fun af=>?_)
       ·exact HS.out _ HG.out.2
       clear hK K;refine tQ 15 af ?_;refine tQ 16 af ?_;try simp only [Act.put,zA]
       refine dC (i:=17) rfl (by kernel_rfl) (fun K hK=>?_)
       go_simp
       clear af;refine hK.out _ _ ?_ (fun af=>?_)
       ·exact Ms.out _ _ HG.out.2
       clear hK K;try simp only [Act.put,zA]
       refine wpAnyH_done (by kernel_rfl) ?_ _
       go_wp2_with fail;go_meet;have TU:=Z5.out;have Gz:w2.ownsRow S.H aC 1 (.slice (some ⟨g1,0,none⟩) (ln+1) cap) (l0 ++ [o5]).length (ints (l0 ++ [o5])):=by
        have h8:=HG.out.1.mono (base':=S.H) (by have h7:=TU.hB;simp only at h7;omega)
        simp only [List.length_append,List.length_singleton,PO.out.1,ints,List.map_append,List.map_cons,List.map_nil] at h8 |-;exact h8
       have h9:=RV.vars (c:=X.fc) TU HFA.out.1 HFA.out.2 HG.out.2 Gz;simp only [HSF.out] at h9 |-;exact ⟨_,h9.1,h9.2⟩
     case rest=>
      obtain ⟨v',hR10,Wj⟩:=hcut;obtain ⟨W10,hW10⟩:=zQ wc;subst hW10;have Ar:=Wj.blk KZ9.out.1 (hnH _ (zL _));have Ae:=Wj.blk KZ9.out.2 (hnH _ (by omega))
      have HF10:=Hy (HF9.out.trans Wj);have HR10:=Hy hR10;clear HS Ms HC J JA ZA HY hi vQ sI ru n4 nl c1 c3 cl hB9 Wj hR10;go_upto_region 11 with (fail);have b1:=Ar;have b2:=Ae;have kZ:=setRow_heap W10 (H+1) _ #[Iv o1,Iv o2,Iv o3,.string zs,Iv o5,.slice kA kn kc,Iv t1,Iv (ln:Nat)] tNd (0,0) b2;have oW:=Hy2 kZ (below_setRow (B:=w.heap.size) W10 (H+1) #[Iv o1,Iv o2,Iv o3,.string zs,Iv o5,.slice kA kn kc,Iv t1,Iv (ln:Nat)] (by have:=HH.out;omega))
      clear kZ;refine wp_region_list ?_;refine wpList_load_row rfl tNd _ rfl H rfl tNd _ (0,0) _ b1 underlying75 rfl ay ?_;refine wpList_store_row rfl tNd _ _ rfl (H+1) _ rfl rfl tNd #[Iv 0,Iv 0,Iv 0,.string ⟨#[]⟩,Iv 0,.slice none 0 0,Iv 0,Iv 0] b2 ay rfl (by simp [Value.oneCell']) ?_
      refine wpList_nil ?_;go_wp2_with fail;refine bodyPost_ret (results_cell_row rfl _ _ (H+1) tNd _ (0,0) _ rfl oW.out.1 underlying75 rfl ay) rfl ?_;have Zx:=Blk.kind Ae;exact ⟨lv',v',by rw [PO.out.1],by rw [PO.out.1,HD9.out];exact HR10.out.box Zx (hnH _ (by omega)) (uh _ _ _),(HF10.out).under (by have h7:=HX.out.2.2.2.Bw;exact h7) oW.out.2⟩
end
end
section
open Go Go.RowKit Go.Maps
theorem xV (n:Nat):((n:Int) == 0)=decide (n=0):=by rw [Bool.eq_iff_iff];simp
structure WkX (X:RX) (F lo b:Nat) (f:Fn'×Value):Prop where
 fF:X.fl[F]? =some f
 fb:f.1.b=b
 n2:X.ns.length<=1000000
 k2:∀x∈X.ns,x.kids.length<=1000000
 kd:∀x∈X.ns,∀k∈x.kids,k<X.ns.length
 ar:∀x∈X.ns,arity x.h.op x.kids.length=true
 gn:X.gs.length<=1000000
 fn:X.fl.length<=1000000
 it:∀(S:RS) (w:World),RV X S w->InT X S w lo b
abbrev dP (X:RX) (lo b:Nat):Nm'->Nat:=fun x=>iZ X.ns lo b x X.ns.length
abbrev rst (S:RS):Rst:=⟨S.tr,S.L,S.deep,S.vs.getD S.F [],S.d⟩
structure ArS (x:CN) (kn:Nat):Prop where
 one:x.h.op=12∨x.h.op=13∨x.h.op=15∨x.h.op=16∨x.h.op=20->1<=kn
 two:x.h.op=14->2<=kn
section
variable {X:RX} {S:RS} {w:World}
theorem LU (h:RV X S w){x:CN}{kn:Nat}(hx:NdX X x kn)(hS:SOk X S)(Gt:ArS x kn){lo b:Nat}{f:Fn'×Value}(hw:WkX X S.F lo b f)(h12:¬ x.h.op=12)(t:Int×Int)(rr:(Int×Int)×Int×Int)(Gz:((dM X.gs (X.fl.map (·.1)) f.1.ty (dP X lo b) x.h x.kids t (rst S)).1,(dM X.gs (X.fl.map (·.1)) f.1.ty (dP X lo b) x.h x.kids t (rst S)).2.d)=rr) :
  Calls prog 98 #[crp X,ndV x.h x.v t] w fun e w'=>e=.returned (ndV x.h x.v rr.1)/\NoP X {S with d:=rr.2} w w':=by
 have UQ:=Hy hw;clear hw;have hb:Zw w ((w.alloc (.cells (ndC x.h x.v t) tNd)).alloc (.cells #[Iv 0,Iv 0,Iv 0,.string ⟨#[]⟩,Iv 0,.slice none 0 0,Iv 0,Iv 0] tNd)):=((zB _ _).alloc (zL _) _).alloc (by simp) _
 have k2:=(Blk.new w tNd (ndC x.h x.v t)).alloc (.cells #[Iv 0,Iv 0,Iv 0,.string ⟨#[]⟩,Iv 0,.slice none 0 0,Iv 0,Iv 0] tNd);have k3:=Blk.new (w.alloc (.cells (ndC x.h x.v t) tNd)) tNd #[Iv 0,Iv 0,Iv 0,.string ⟨#[]⟩,Iv 0,.slice none 0 0,Iv 0,Iv 0];rw [show (w.alloc (.cells (ndC x.h x.v t) tNd)).heap.size=w.heap.size+1 by simp] at k3
 have NR:=h.chk.lt;have h2:=h.on hb;have HX:=Hy4 hx hS hb h;have QF:=hx.le;obtain ⟨kA,kc,hv⟩:∃A c,x.v=.slice A kn c:=by have h9:=(RdS.av (h.ks x hx.mem).1).shape;rw [hx.len] at h9;exact h9
 clear h hx hS;obtain ⟨xh,xk,xv⟩:=x;simp only at hv;subst hv;obtain ⟨o1,o2,o3,o4,o5,o6⟩:=xh;obtain ⟨t1,t2⟩:=t;simp only at *;obtain ⟨zs,FV⟩:=zN (str o4);simp only [ndC,ndV,FV] at k2 k3 hb h2 HX |-;have HZ:=Hy FV;clear FV;go_enter func98,ntmps98;go_upto_region 1 with (fail);obtain ⟨H,hH⟩:=zN w.heap.size;rw [hH] at k2 k3;have Wd:X.b<H:=by omega
 generalize (w.alloc (.cells #[Iv o1,Iv o2,Iv o3,.string zs,Iv o5,.slice kA kn kc,Iv t1,Iv t2] tNd)).alloc (.cells #[Iv 0,Iv 0,Iv 0,.string ⟨#[]⟩,Iv 0,.slice none 0 0,Iv 0,Iv 0] tNd)=W at *;have K2:=Hy k2;have KZ:=Hy k3;have H2:=Hy h2;try simp only [hH]
 have HH:=Hy hH;clear k2 k3 h2 hb NR hH;have yF:((dM X.gs (X.fl.map (·.1)) f.1.ty (dP X lo b) ⟨o1,o2,o3,o4,o5,o6⟩ xk (t1,t2) (rst S)).1,(dM X.gs (X.fl.map (·.1)) f.1.ty (dP X lo b) ⟨o1,o2,o3,o4,o5,o6⟩ xk (t1,t2) (rst S)).2.d)=rr:=Gz;have Jm:=Hy yF;have Vv:=Hy Gt;clear Gz yF Gt;have NP0:=Hy (NoP.refl H2.out);have Nb:=Hy (NoP.of HX.out.2.2.2 HX.out.2.2.1);have jk:=Hy2 K2.out KZ.out;have m0:Ce W H 0 (Iv o1):=K2.out.cell 0;have ml:=K2.out.lt;have Rf:=Hy (show xk.length=kn from HX.out.1.len)
 by_cases h13:o1=13
 ·subst h13;clear h12;obtain ⟨⟨sd,sr,st⟩,hsc⟩:∃q,dA X.gs (X.fl.map (·.1)) (S.vs.getD S.F []) S.L ⟨13,o2,o3,o4,o5,o6⟩ S.d=q:=⟨_,rfl⟩;have HE:=Hy (show rr=((t1,sr),aN S.tr o2 (xk.take 1) sd) by rw [<-Jm.out];unfold dM;simp only [rst,hsc];rfl)
  have bT:1<=kn:=Vv.out.one (.inr (.inl rfl));have Mq:=Hy (show Calls prog 132 #[crp X,.agg #[Iv 13,Iv o2,Iv o3,.string zs,Iv o5,.slice kA kn kc,Iv t1,Iv t2]] W fun e w'=>e=.returned (.tuple #[Iv sr,Iv st])/\NoP X {S with d:=sd} W w' by have h9:=zI H2.out HX.out.1 HX.out.2.1 (t1,t2);simp only [ndV,HZ.out,hsc] at h9;exact h9)
  clear hsc;have n0:Ce W H 0 (Iv 13):=K2.out.cell 0;have n1:Ce W H 1 (Iv o2):=K2.out.cell 1;have n2:Ce W H 2 (Iv o3):=K2.out.cell 2;have n3:Ce W H 3 (.string zs):=K2.out.cell 3;have n4:Ce W H 4 (Iv o5):=K2.out.cell 4;have n5:Ce W H 5 (.slice kA kn kc):=K2.out.cell 5;have n6:Ce W H 6 (Iv t1):=K2.out.cell 6;have n7:Ce W H 7 (Iv t2):=K2.out.cell 7;have nl:=K2.out.lt;go_wp2_with fail;refine Mq.out.mono ?_;clear Mq;rintro e W1 ⟨rfl,hP⟩;have IU:=Hy (Nb.out.trans hP);have jH:=Hy2 (ak hP.gr jk.out.1 (by simp;omega)) (ak hP.gr jk.out.2 (by simp;omega))
  clear hP m0 ml n0 n1 n2 n3 n4 n5 n6 n7 nl;have n6:Ce W1 H 6 (Iv t1):=jH.out.1.cell 6;have n7:Ce W1 H 7 (Iv t2):=jH.out.1.cell 7;have f6:=jH.out.1.frozen 6;have f7:=jH.out.1.frozen 7;have nl:=jH.out.1.lt;have Ar:Blk (W1.setCell ⟨H,7,none⟩ (Iv sr)) H tNd #[Iv 13,Iv o2,Iv o3,.string zs,Iv o5,.slice kA kn kc,Iv t1,Iv sr]:=(jH.out.1.af 7 _);have Ae:Blk (W1.setCell ⟨H,7,none⟩ (Iv sr)) (H+1) tNd #[Iv 0,Iv 0,Iv 0,.string ⟨#[]⟩,Iv 0,.slice none 0 0,Iv 0,Iv 0]:=(jH.out.2.far (p:=⟨H,7,none⟩) (by simp) _)
  have lu:Below w.heap.size W1 (W1.setCell ⟨H,7,none⟩ (Iv sr)):=((Below.refl w.heap.size W1).setCell (p:=⟨H,7,none⟩) (by have:=HH.out;simp;omega) _)
  go_upto_region 7 with (fail);generalize (W1.setCell ⟨H,7,none⟩ (Iv sr))=W2 at *;have Rz:=Hy (NoP.under HX.out.2.2.2 IU.out lu);have zU:=Hy2 Ar Ae;clear lu Ar Ae;clear n6 n7 f6 f7 nl;have n0:Ce W2 H 0 (Iv 13):=zU.out.1.cell 0;have n1:Ce W2 H 1 (Iv o2):=zU.out.1.cell 1;have n2:Ce W2 H 2 (Iv o3):=zU.out.1.cell 2;have n3:Ce W2 H 3 (.string zs):=zU.out.1.cell 3;have n4:Ce W2 H 4 (Iv o5):=zU.out.1.cell 4;have n5:Ce W2 H 5 (.slice kA kn kc):=zU.out.1.cell 5;have n6:Ce W2 H 6 (Iv t1):=zU.out.1.cell 6;have n7:Ce W2 H 7 (Iv sr):=zU.out.1.cell 7;have nl:=zU.out.1.lt;have Gx:=Hy (show Calls prog 133 #[crp X,.agg #[Iv 13,Iv o2,Iv o3,.string zs,Iv o5,.slice kA kn kc,Iv t1,Iv sr],Iv 1] W2 fun e w'=>e=.returned (.tuple #[])/\NoP X {S with d:=aN S.tr o2 (xk.take 1) sd} W2 w' by have h9:=dB (S:={S with d:=sd}) Rz.out.rv HX.out.1 (t1,sr) 1 bT;simp only [ndV,HZ.out] at h9;exact h9)
  go_wp2_with fail;refine Gx.out.mono ?_;clear Gx;rintro e W3 ⟨rfl,hP⟩;have UM:=Hy (Rz.out.trans hP);have JX:=Hy2 (ak hP.gr zU.out.1 (by simp;omega)) (ak hP.gr zU.out.2 (by simp;omega))
  clear hP;clear n0 n1 n2 n3 n4 n5 n6 n7 nl;have Ar:=JX.out.1;have Ae:=JX.out.2;have lu:Below w.heap.size W3 W3:=zB _ _;go_upto_region 21 with (fail);have Jv:=Hy lu;clear lu;have b1:=Ar;have b2:=Ae;have kZ:=setRow_heap W3 (H+1) _ #[Iv 13,Iv o2,Iv o3,.string zs,Iv o5,.slice kA kn kc,Iv t1,Iv sr] tNd (0,0) b2;have oW:=Hy2 kZ (below_setRow (B:=w.heap.size) W3 (H+1) #[Iv 13,Iv o2,Iv o3,.string zs,Iv o5,.slice kA kn kc,Iv t1,Iv sr] (by have:=HH.out;omega))
  clear kZ;refine wp_region_list ?_;refine wpList_load_row rfl tNd _ rfl H rfl tNd _ (0,0) _ b1 underlying75 rfl ay ?_;refine wpList_store_row rfl tNd _ _ rfl (H+1) _ rfl rfl tNd #[Iv 0,Iv 0,Iv 0,.string ⟨#[]⟩,Iv 0,.slice none 0 0,Iv 0,Iv 0] b2 ay rfl (by simp [Value.oneCell']) ?_
  refine wpList_nil ?_;go_wp2_with fail;refine bodyPost_ret (results_cell_row rfl _ _ (H+1) tNd _ (0,0) _ rfl oW.out.1 underlying75 rfl ay) rfl ?_;rw [HE.out];exact ⟨rfl,NoP.under HX.out.2.2.2 UM.out (Jv.out.trans oW.out.2)⟩
 by_cases h14:o1=14
 ·subst h14;clear h12;obtain ⟨⟨sd,sr,st⟩,hsc⟩:∃q,eQ X.gs (X.fl.map (·.1)) S.L ⟨14,o2,o3,o4,o5,o6⟩ S.d=q:=⟨_,rfl⟩;have HE:=Hy (show rr=((t1,sr),aN S.tr o2 (xk.take 2) sd) by rw [<-Jm.out];unfold dM;simp only [rst,hsc];rfl)
  have bT:2<=kn:=Vv.out.two rfl;have Mq:=Hy (show Calls prog 134 #[crp X,.agg #[Iv 14,Iv o2,Iv o3,.string zs,Iv o5,.slice kA kn kc,Iv t1,Iv t2]] W fun e w'=>e=.returned (.tuple #[Iv sr,Iv st])/\NoP X {S with d:=sd} W w' by have h9:=ER H2.out HX.out.1 HX.out.2.1 (t1,t2);simp only [ndV,HZ.out,hsc] at h9;exact h9)
  clear hsc;have n0:Ce W H 0 (Iv 14):=K2.out.cell 0;have n1:Ce W H 1 (Iv o2):=K2.out.cell 1;have n2:Ce W H 2 (Iv o3):=K2.out.cell 2;have n3:Ce W H 3 (.string zs):=K2.out.cell 3;have n4:Ce W H 4 (Iv o5):=K2.out.cell 4;have n5:Ce W H 5 (.slice kA kn kc):=K2.out.cell 5;have n6:Ce W H 6 (Iv t1):=K2.out.cell 6;have n7:Ce W H 7 (Iv t2):=K2.out.cell 7;have nl:=K2.out.lt;go_wp2_with fail;refine Mq.out.mono ?_;clear Mq;rintro e W1 ⟨rfl,hP⟩;have IU:=Hy (Nb.out.trans hP);have jH:=Hy2 (ak hP.gr jk.out.1 (by simp;omega)) (ak hP.gr jk.out.2 (by simp;omega))
  clear hP m0 ml n0 n1 n2 n3 n4 n5 n6 n7 nl;have n6:Ce W1 H 6 (Iv t1):=jH.out.1.cell 6;have n7:Ce W1 H 7 (Iv t2):=jH.out.1.cell 7;have f6:=jH.out.1.frozen 6;have f7:=jH.out.1.frozen 7;have nl:=jH.out.1.lt;have Ar:Blk (W1.setCell ⟨H,7,none⟩ (Iv sr)) H tNd #[Iv 14,Iv o2,Iv o3,.string zs,Iv o5,.slice kA kn kc,Iv t1,Iv sr]:=(jH.out.1.af 7 _);have Ae:Blk (W1.setCell ⟨H,7,none⟩ (Iv sr)) (H+1) tNd #[Iv 0,Iv 0,Iv 0,.string ⟨#[]⟩,Iv 0,.slice none 0 0,Iv 0,Iv 0]:=(jH.out.2.far (p:=⟨H,7,none⟩) (by simp) _)
  have lu:Below w.heap.size W1 (W1.setCell ⟨H,7,none⟩ (Iv sr)):=((Below.refl w.heap.size W1).setCell (p:=⟨H,7,none⟩) (by have:=HH.out;simp;omega) _)
  go_upto_region 11 with (fail);generalize (W1.setCell ⟨H,7,none⟩ (Iv sr))=W2 at *;have Rz:=Hy (NoP.under HX.out.2.2.2 IU.out lu);have zU:=Hy2 Ar Ae;clear lu Ar Ae;clear n6 n7 f6 f7 nl;have n0:Ce W2 H 0 (Iv 14):=zU.out.1.cell 0;have n1:Ce W2 H 1 (Iv o2):=zU.out.1.cell 1;have n2:Ce W2 H 2 (Iv o3):=zU.out.1.cell 2;have n3:Ce W2 H 3 (.string zs):=zU.out.1.cell 3;have n4:Ce W2 H 4 (Iv o5):=zU.out.1.cell 4;have n5:Ce W2 H 5 (.slice kA kn kc):=zU.out.1.cell 5;have n6:Ce W2 H 6 (Iv t1):=zU.out.1.cell 6;have n7:Ce W2 H 7 (Iv sr):=zU.out.1.cell 7;have nl:=zU.out.1.lt;have Gx:=Hy (show Calls prog 133 #[crp X,.agg #[Iv 14,Iv o2,Iv o3,.string zs,Iv o5,.slice kA kn kc,Iv t1,Iv sr],Iv 2] W2 fun e w'=>e=.returned (.tuple #[])/\NoP X {S with d:=aN S.tr o2 (xk.take 2) sd} W2 w' by have h9:=dB (S:={S with d:=sd}) Rz.out.rv HX.out.1 (t1,sr) 2 bT;simp only [ndV,HZ.out] at h9;exact h9)
  go_wp2_with fail;refine Gx.out.mono ?_;clear Gx;rintro e W3 ⟨rfl,hP⟩;have UM:=Hy (Rz.out.trans hP);have JX:=Hy2 (ak hP.gr zU.out.1 (by simp;omega)) (ak hP.gr zU.out.2 (by simp;omega))
  clear hP;clear n0 n1 n2 n3 n4 n5 n6 n7 nl;have Ar:=JX.out.1;have Ae:=JX.out.2;have lu:Below w.heap.size W3 W3:=zB _ _;go_upto_region 21 with (fail);have Jv:=Hy lu;clear lu;have b1:=Ar;have b2:=Ae;have kZ:=setRow_heap W3 (H+1) _ #[Iv 14,Iv o2,Iv o3,.string zs,Iv o5,.slice kA kn kc,Iv t1,Iv sr] tNd (0,0) b2;have oW:=Hy2 kZ (below_setRow (B:=w.heap.size) W3 (H+1) #[Iv 14,Iv o2,Iv o3,.string zs,Iv o5,.slice kA kn kc,Iv t1,Iv sr] (by have:=HH.out;omega))
  clear kZ;refine wp_region_list ?_;refine wpList_load_row rfl tNd _ rfl H rfl tNd _ (0,0) _ b1 underlying75 rfl ay ?_;refine wpList_store_row rfl tNd _ _ rfl (H+1) _ rfl rfl tNd #[Iv 0,Iv 0,Iv 0,.string ⟨#[]⟩,Iv 0,.slice none 0 0,Iv 0,Iv 0] b2 ay rfl (by simp [Value.oneCell']) ?_
  refine wpList_nil ?_;go_wp2_with fail;refine bodyPost_ret (results_cell_row rfl _ _ (H+1) tNd _ (0,0) _ rfl oW.out.1 underlying75 rfl ay) rfl ?_;rw [HE.out];exact ⟨rfl,NoP.under HX.out.2.2.2 UM.out (Jv.out.trans oW.out.2)⟩
 by_cases h15:o1=15
 ·subst h15;clear h12;have bT:1<=kn:=Vv.out.one (.inr (.inr (.inl rfl)));have HE:=Hy (show rr=((t1,t2),aN S.tr o2 (xk.take 1) S.d) by rw [<-Jm.out];rfl)
  clear m0 ml;have n0:Ce W H 0 (Iv 15):=jk.out.1.cell 0;have n1:Ce W H 1 (Iv o2):=jk.out.1.cell 1;have n2:Ce W H 2 (Iv o3):=jk.out.1.cell 2;have n3:Ce W H 3 (.string zs):=jk.out.1.cell 3;have n4:Ce W H 4 (Iv o5):=jk.out.1.cell 4;have n5:Ce W H 5 (.slice kA kn kc):=jk.out.1.cell 5;have n6:Ce W H 6 (Iv t1):=jk.out.1.cell 6;have n7:Ce W H 7 (Iv t2):=jk.out.1.cell 7;have nl:=jk.out.1.lt;have Gx:=Hy (show Calls prog 133 #[crp X,.agg #[Iv 15,Iv o2,Iv o3,.string zs,Iv o5,.slice kA kn kc,Iv t1,Iv t2],Iv 1] W fun e w'=>e=.returned (.tuple #[])/\NoP X {S with d:=aN S.tr o2 (xk.take 1) S.d} W w' by have h9:=dB (S:={S with d:=S.d}) Nb.out.rv HX.out.1 (t1,t2) 1 bT;simp only [ndV,HZ.out] at h9;exact h9)
  go_wp2_with fail;refine Gx.out.mono ?_;clear Gx;rintro e W1 ⟨rfl,hP⟩;have IU:=Hy (Nb.out.trans hP);have jH:=Hy2 (ak hP.gr jk.out.1 (by simp;omega)) (ak hP.gr jk.out.2 (by simp;omega))
  clear hP;clear n0 n1 n2 n3 n4 n5 n6 n7 nl;have Ar:=jH.out.1;have Ae:=jH.out.2;have lu:Below w.heap.size W1 W1:=zB _ _;go_upto_region 21 with (fail);have Jv:=Hy lu;clear lu;have b1:=Ar;have b2:=Ae;have kZ:=setRow_heap W1 (H+1) _ #[Iv 15,Iv o2,Iv o3,.string zs,Iv o5,.slice kA kn kc,Iv t1,Iv t2] tNd (0,0) b2;have oW:=Hy2 kZ (below_setRow (B:=w.heap.size) W1 (H+1) #[Iv 15,Iv o2,Iv o3,.string zs,Iv o5,.slice kA kn kc,Iv t1,Iv t2] (by have:=HH.out;omega))
  clear kZ;refine wp_region_list ?_;refine wpList_load_row rfl tNd _ rfl H rfl tNd _ (0,0) _ b1 underlying75 rfl ay ?_;refine wpList_store_row rfl tNd _ _ rfl (H+1) _ rfl rfl tNd #[Iv 0,Iv 0,Iv 0,.string ⟨#[]⟩,Iv 0,.slice none 0 0,Iv 0,Iv 0] b2 ay rfl (by simp [Value.oneCell']) ?_
  refine wpList_nil ?_;go_wp2_with fail;refine bodyPost_ret (results_cell_row rfl _ _ (H+1) tNd _ (0,0) _ rfl oW.out.1 underlying75 rfl ay) rfl ?_;rw [HE.out];exact ⟨rfl,NoP.under HX.out.2.2.2 IU.out (Jv.out.trans oW.out.2)⟩
 by_cases h16:o1=16
 ·subst h16;clear h12;have bT:1<=kn:=Vv.out.one (.inr (.inr (.inr (.inl rfl))));have HE:=Hy (show rr=((t1,t2),aN S.tr o2 (xk.take 1) S.d) by rw [<-Jm.out];rfl)
  clear m0 ml;have n0:Ce W H 0 (Iv 16):=jk.out.1.cell 0;have n1:Ce W H 1 (Iv o2):=jk.out.1.cell 1;have n2:Ce W H 2 (Iv o3):=jk.out.1.cell 2;have n3:Ce W H 3 (.string zs):=jk.out.1.cell 3;have n4:Ce W H 4 (Iv o5):=jk.out.1.cell 4;have n5:Ce W H 5 (.slice kA kn kc):=jk.out.1.cell 5;have n6:Ce W H 6 (Iv t1):=jk.out.1.cell 6;have n7:Ce W H 7 (Iv t2):=jk.out.1.cell 7;have nl:=jk.out.1.lt;have Gx:=Hy (show Calls prog 133 #[crp X,.agg #[Iv 16,Iv o2,Iv o3,.string zs,Iv o5,.slice kA kn kc,Iv t1,Iv t2],Iv 1] W fun e w'=>e=.returned (.tuple #[])/\NoP X {S with d:=aN S.tr o2 (xk.take 1) S.d} W w' by have h9:=dB (S:={S with d:=S.d}) Nb.out.rv HX.out.1 (t1,t2) 1 bT;simp only [ndV,HZ.out] at h9;exact h9)
  go_wp2_with fail;refine Gx.out.mono ?_;clear Gx;rintro e W1 ⟨rfl,hP⟩;have IU:=Hy (Nb.out.trans hP);have jH:=Hy2 (ak hP.gr jk.out.1 (by simp;omega)) (ak hP.gr jk.out.2 (by simp;omega))
  clear hP;clear n0 n1 n2 n3 n4 n5 n6 n7 nl;have Ar:=jH.out.1;have Ae:=jH.out.2;have lu:Below w.heap.size W1 W1:=zB _ _;go_upto_region 21 with (fail);have Jv:=Hy lu;clear lu;have b1:=Ar;have b2:=Ae;have kZ:=setRow_heap W1 (H+1) _ #[Iv 16,Iv o2,Iv o3,.string zs,Iv o5,.slice kA kn kc,Iv t1,Iv t2] tNd (0,0) b2;have oW:=Hy2 kZ (below_setRow (B:=w.heap.size) W1 (H+1) #[Iv 16,Iv o2,Iv o3,.string zs,Iv o5,.slice kA kn kc,Iv t1,Iv t2] (by have:=HH.out;omega))
  clear kZ;refine wp_region_list ?_;refine wpList_load_row rfl tNd _ rfl H rfl tNd _ (0,0) _ b1 underlying75 rfl ay ?_;refine wpList_store_row rfl tNd _ _ rfl (H+1) _ rfl rfl tNd #[Iv 0,Iv 0,Iv 0,.string ⟨#[]⟩,Iv 0,.slice none 0 0,Iv 0,Iv 0] b2 ay rfl (by simp [Value.oneCell']) ?_
  refine wpList_nil ?_;go_wp2_with fail;refine bodyPost_ret (results_cell_row rfl _ _ (H+1) tNd _ (0,0) _ rfl oW.out.1 underlying75 rfl ay) rfl ?_;rw [HE.out];exact ⟨rfl,NoP.under HX.out.2.2.2 IU.out (Jv.out.trans oW.out.2)⟩
 by_cases h20:o1=20
 ·subst h20;clear h12;have bT:1<=kn:=Vv.out.one (.inr (.inr (.inr (.inr rfl))));have HE:=Hy (show rr=((t1,t2),aN S.tr o2 (xk.take 1) S.d) by rw [<-Jm.out];rfl)
  clear m0 ml;have n0:Ce W H 0 (Iv 20):=jk.out.1.cell 0;have n1:Ce W H 1 (Iv o2):=jk.out.1.cell 1;have n2:Ce W H 2 (Iv o3):=jk.out.1.cell 2;have n3:Ce W H 3 (.string zs):=jk.out.1.cell 3;have n4:Ce W H 4 (Iv o5):=jk.out.1.cell 4;have n5:Ce W H 5 (.slice kA kn kc):=jk.out.1.cell 5;have n6:Ce W H 6 (Iv t1):=jk.out.1.cell 6;have n7:Ce W H 7 (Iv t2):=jk.out.1.cell 7;have nl:=jk.out.1.lt;have Gx:=Hy (show Calls prog 133 #[crp X,.agg #[Iv 20,Iv o2,Iv o3,.string zs,Iv o5,.slice kA kn kc,Iv t1,Iv t2],Iv 1] W fun e w'=>e=.returned (.tuple #[])/\NoP X {S with d:=aN S.tr o2 (xk.take 1) S.d} W w' by have h9:=dB (S:={S with d:=S.d}) Nb.out.rv HX.out.1 (t1,t2) 1 bT;simp only [ndV,HZ.out] at h9;exact h9)
  go_wp2_with fail;refine Gx.out.mono ?_;clear Gx;rintro e W1 ⟨rfl,hP⟩;have IU:=Hy (Nb.out.trans hP);have jH:=Hy2 (ak hP.gr jk.out.1 (by simp;omega)) (ak hP.gr jk.out.2 (by simp;omega))
  clear hP;clear n0 n1 n2 n3 n4 n5 n6 n7 nl;have Ar:=jH.out.1;have Ae:=jH.out.2;have lu:Below w.heap.size W1 W1:=zB _ _;go_upto_region 21 with (fail);have Jv:=Hy lu;clear lu;have b1:=Ar;have b2:=Ae;have kZ:=setRow_heap W1 (H+1) _ #[Iv 20,Iv o2,Iv o3,.string zs,Iv o5,.slice kA kn kc,Iv t1,Iv t2] tNd (0,0) b2;have oW:=Hy2 kZ (below_setRow (B:=w.heap.size) W1 (H+1) #[Iv 20,Iv o2,Iv o3,.string zs,Iv o5,.slice kA kn kc,Iv t1,Iv t2] (by have:=HH.out;omega))
  clear kZ;refine wp_region_list ?_;refine wpList_load_row rfl tNd _ rfl H rfl tNd _ (0,0) _ b1 underlying75 rfl ay ?_;refine wpList_store_row rfl tNd _ _ rfl (H+1) _ rfl rfl tNd #[Iv 0,Iv 0,Iv 0,.string ⟨#[]⟩,Iv 0,.slice none 0 0,Iv 0,Iv 0] b2 ay rfl (by simp [Value.oneCell']) ?_
  refine wpList_nil ?_;go_wp2_with fail;refine bodyPost_ret (results_cell_row rfl _ _ (H+1) tNd _ (0,0) _ rfl oW.out.1 underlying75 rfl ay) rfl ?_;rw [HE.out];exact ⟨rfl,NoP.under HX.out.2.2.2 IU.out (Jv.out.trans oW.out.2)⟩
 by_cases h17:o1=17
 ·subst h17;clear h12;obtain ⟨lr,Rq⟩:=zN (iZ X.ns lo b o4 X.ns.length);have HE:=Hy (show rr=((t1,t2),dN S.d (decide (lr=0)) 8 o2) by rw [<-Jm.out,<-Rq];rfl)
  obtain ⟨nn,DC⟩:=zN X.ns.length;have wW:=UQ.out.n2;have HLA:Hid (∀W',Zw W W'->Calls prog 63 #[crp X,.string zs,Iv (nn:Nat)] W' fun e w'=>e=.returned (Iv (lr:Nat))/\Zw W w'):=Hy fun W' dK=>by
   rw [<-HZ.out,<-DC,<-Rq];exact (uf (H2.out.on dK) (UQ.out.it S _ (H2.out.on dK)) UQ.out.fF UQ.out.fb o4 X.ns.length (zL _) wW).mono fun e w' h=>⟨h.1,dK.trans (h.2.mono dK.size)⟩
  have HN:Hid (∀bb W',Zw W W'->Calls prog 31 #[crp X,.bool bb,Iv 8,Iv o2] W' fun e w'=>e=.returned (.tuple #[])/\NoP X {S with d:=dN S.d bb 8 o2} W w'):=Hy fun bb W' dK=>
   (dz (H2.out.on dK) bb 8 o2).mono fun e w' h=>⟨h.1,NoP.before dK h.2⟩
  have c2:=H2.out.c2;rw [DC] at c2;have cl:=H2.out.chk.lt;have HS:Hid (∀Wx,Zw W Wx->Ce Wx H 1 (Iv o2)/\Ce Wx H 3 (.string zs)/\H<Wx.heap.size/\Ce Wx X.b 2 (.slice X.nA nn X.nc)/\X.b<Wx.heap.size):=Hy fun Wx hW=>by
   have u:=K2.out.below hW K2.out.lt;exact ⟨u.cell 1,u.cell 3,u.lt,(hW.cell (p:=⟨X.b,2,none⟩) cl).trans c2,Nat.lt_of_lt_of_le cl hW.size⟩
  have qh:Hid (∀Wx d,NoP X {S with d:=d} W Wx->Ce Wx H 1 (Iv o2)/\Ce Wx H 3 (.string zs)/\H<Wx.heap.size/\Ce Wx X.b 2 (.slice X.nA nn X.nc)/\X.b<Wx.heap.size):=Hy fun Wx d hW=>by
   have u:=ak hW.gr K2.out (by simp;omega)
   have u2:=hW.rv.c2;rw [DC] at u2;exact ⟨u.cell 1,u.cell 3,u.lt,u2,hW.rv.chk.lt⟩
  obtain ⟨m1,m3,Ov,c2',cl'⟩:=HS.out W (zB _ _);have J:Zw W W:=zB _ _;clear Rq DC c2 cl wW;go_upto_region 17 with (fail);clear m0 ml;go_region_held2 (fun Wx=>Ce Wx H 1 (Iv o2)/\Ce Wx H 3 (.string zs)/\H<Wx.heap.size/\Ce Wx X.b 2 (.slice X.nA nn X.nc)/\X.b<Wx.heap.size)
   (first|exact ⟨m1,m3,Ov,c2',cl'⟩|exact qh.out _ _ P2|exact HS.out _ J)
    (first
    | (go_at_call 63;(with_reducible refine Calls.mono (HLA.out _ (by first|exact J|exact J.drew)) ?_);rintro e v1 ⟨rfl,J⟩)
    | (go_at_call 31;(with_reducible refine Calls.mono (HN.out _ _ (by first|exact J|exact J.drew)) ?_);rintro e v2 ⟨rfl,P2⟩))
  have hcut:NoP X {S with d:=dN S.d (decide (lr=0)) 8 o2} W v2:=by first|exact P2|(rw [xV] at P2;exact P2)|simpa using P2
  obtain ⟨W1,MQ⟩:=zQ v2;subst MQ;clear P2;have IU:=Hy (Nb.out.trans hcut);have jH:=Hy2 (ak hcut.gr jk.out.1 (by simp;omega)) (ak hcut.gr jk.out.2 (by simp;omega))
  clear hcut HS qh HLA HN m1 m3 Ov c2' cl' J;have Ar:=jH.out.1;have Ae:=jH.out.2;have lu:Below w.heap.size W1 W1:=zB _ _;go_upto_region 21 with (fail);have Jv:=Hy lu;clear lu;have b1:=Ar;have b2:=Ae;have kZ:=setRow_heap W1 (H+1) _ #[Iv 17,Iv o2,Iv o3,.string zs,Iv o5,.slice kA kn kc,Iv t1,Iv t2] tNd (0,0) b2;have oW:=Hy2 kZ (below_setRow (B:=w.heap.size) W1 (H+1) #[Iv 17,Iv o2,Iv o3,.string zs,Iv o5,.slice kA kn kc,Iv t1,Iv t2] (by have:=HH.out;omega))
  clear kZ;refine wp_region_list ?_;refine wpList_load_row rfl tNd _ rfl H rfl tNd _ (0,0) _ b1 underlying75 rfl ay ?_;refine wpList_store_row rfl tNd _ _ rfl (H+1) _ rfl rfl tNd #[Iv 0,Iv 0,Iv 0,.string ⟨#[]⟩,Iv 0,.slice none 0 0,Iv 0,Iv 0] b2 ay rfl (by simp [Value.oneCell']) ?_
  refine wpList_nil ?_;go_wp2_with fail;refine bodyPost_ret (results_cell_row rfl _ _ (H+1) tNd _ (0,0) _ rfl oW.out.1 underlying75 rfl ay) rfl ?_;rw [HE.out];exact ⟨rfl,NoP.under HX.out.2.2.2 IU.out (Jv.out.trans oW.out.2)⟩
 by_cases h19:o1=19
 ·subst h19;clear h12;obtain ⟨ft,Tk⟩:=zN f.1.ty;have Vu:=Hy (show rr=((t1,t2),aN S.tr o2 xk (dN S.d (decide (0<kn) == decide (ft=0)) 6 o2)) by rw [<-Jm.out,<-Tk,<-Rf.out];rfl)
  have We:=(zS.1 UQ.out.fF).1;obtain ⟨vv,Oy⟩:∃v,S.vls[S.F]? =some v:=⟨_,List.getElem?_eq_getElem (by rw [H2.out.vl];exact We)⟩
  have f1:(dE X.fl S.vls)[S.F * 6+1]? =some (Iv ft):=by rw [<-Tk];exact bQ X.fl S.vls S.F 1 (by omega) UQ.out.fF Oy
  have rf:=RdS.av H2.out.f;obtain ⟨gb,go,hA,hg,hc⟩:=rf.get (dQ f1);have y1:Ce W gb (go+S.F * 6+1) (Iv ft):=hc _ _ f1;have c1:=H2.out.c1;have c3:=H2.out.c3;have cl:=H2.out.chk.lt;rw [hA] at c1;obtain ⟨fn,ut⟩:=zN X.fl.length;obtain ⟨SF,Rw⟩:=zN S.F;rw [ut] at c1 We;rw [Rw] at c3 y1 We;have YI:(SF:Int)<fn:=by omega
  have hlX:gb≠X.b:=by
   have h8:=ag H2.out.f (show (Value.slice X.fA X.fl.length X.fc).ownBlock=some gb by rw [hA];rfl)
   exact au h8 H2.out.chk.kind (by decide)
  have HS:Hid (∀Wx,Zw W Wx->Ce Wx H 1 (Iv o2)/\Ce Wx H 5 (.slice kA kn kc)/\H<Wx.heap.size/\Ce Wx X.b 1 (.slice (some ⟨gb,go,none⟩) fn X.fc)/\Ce Wx X.b 3 (Iv (SF:Nat))/\X.b<Wx.heap.size/\Ce Wx gb (go+SF * 6+1) (Iv ft)/\gb<Wx.heap.size):=Hy fun Wx hW=>by
   have u:=K2.out.below hW K2.out.lt;exact ⟨u.cell 1,u.cell 5,u.lt,(hW.cell (p:=⟨X.b,1,none⟩) cl).trans c1,(hW.cell (p:=⟨X.b,3,none⟩) cl).trans c3,Nat.lt_of_lt_of_le cl hW.size,(hW.cell (p:=⟨gb,_,none⟩) hg).trans y1,Nat.lt_of_lt_of_le hg hW.size⟩
  have qh:Hid (∀Wx d,NoP X {S with d:=d} W Wx->Ce Wx H 1 (Iv o2)/\Ce Wx H 5 (.slice kA kn kc)/\H<Wx.heap.size/\Ce Wx X.b 1 (.slice (some ⟨gb,go,none⟩) fn X.fc)/\Ce Wx X.b 3 (Iv (SF:Nat))/\X.b<Wx.heap.size/\Ce Wx gb (go+SF * 6+1) (Iv ft)/\gb<Wx.heap.size):=Hy fun Wx d hW=>by
   have u:=ak hW.gr K2.out (by simp;omega)
   have u1:=hW.rv.c1;have u3:=hW.rv.c3;simp only at u3;rw [ut,hA] at u1;rw [Rw] at u3;exact ⟨u.cell 1,u.cell 5,u.lt,u1,u3,hW.rv.chk.lt,(hW.gr.cell_far ⟨gb,_,none⟩ hg (by simpa using hlX)).trans y1,Nat.lt_of_lt_of_le hg hW.gr.size⟩
  have HN:Hid (∀bb W',Zw W W'->Calls prog 31 #[crp X,.bool bb,Iv 6,Iv o2] W' fun e w'=>e=.returned (.tuple #[])/\NoP X {S with d:=dN S.d bb 6 o2} W w'):=Hy fun bb W' dK=>
   (dz (H2.out.on dK) bb 6 o2).mono fun e w' h=>⟨h.1,NoP.before dK h.2⟩
  obtain ⟨m1,m5,Ov,YM,c3',cl',y1',Ir⟩:=HS.out W (zB _ _);have J:Zw W W:=zB _ _;clear Tk Oy f1 rf hA hc y1 c1 c3 cl ut Rw hg hlX;go_upto_region 19 with (fail);clear m0 ml;go_region_held2 (fun Wx=>Ce Wx H 1 (Iv o2)/\Ce Wx H 5 (.slice kA kn kc)/\H<Wx.heap.size/\Ce Wx X.b 1 (.slice (some ⟨gb,go,none⟩) fn X.fc)/\Ce Wx X.b 3 (Iv (SF:Nat))/\X.b<Wx.heap.size/\Ce Wx gb (go+SF * 6+1) (Iv ft)/\gb<Wx.heap.size)
   (first|exact ⟨m1,m5,Ov,YM,c3',cl',y1',Ir⟩|exact qh.out _ _ P2|exact HS.out _ J)
    ((go_at_call 31;(with_reducible refine Calls.mono (HN.out _ _ (by first|exact J|exact J.drew)) ?_);rintro e v2 ⟨rfl,P2⟩))
  have hcut:NoP X {S with d:=dN S.d (decide (0<kn) == decide (ft=0)) 6 o2} W v2:=by first|exact P2|(rw [xV] at P2;exact P2)|simpa using P2
  obtain ⟨W1,MQ⟩:=zQ v2;subst MQ;clear P2;have IU:=Hy (Nb.out.trans hcut);have jH:=Hy2 (ak hcut.gr jk.out.1 (by simp;omega)) (ak hcut.gr jk.out.2 (by simp;omega))
  clear hcut HS qh HN m1 m5 Ov YM c3' cl' y1' Ir J;obtain ⟨D1,Wl⟩:∃q,dN S.d (decide (0<kn) == decide (ft=0)) 6 o2=q:=⟨_,rfl⟩;rw [Wl] at IU Vu;have HE:=Hy (show rr=((t1,t2),aN S.tr o2 (xk.take kn) D1) by rw [Vu.out,List.take_of_length_le (by rw [Rf.out];exact zL _)])
  clear Wl;have n0:Ce W1 H 0 (Iv 19):=jH.out.1.cell 0;have n1:Ce W1 H 1 (Iv o2):=jH.out.1.cell 1;have n2:Ce W1 H 2 (Iv o3):=jH.out.1.cell 2;have n3:Ce W1 H 3 (.string zs):=jH.out.1.cell 3;have n4:Ce W1 H 4 (Iv o5):=jH.out.1.cell 4;have n5:Ce W1 H 5 (.slice kA kn kc):=jH.out.1.cell 5;have n6:Ce W1 H 6 (Iv t1):=jH.out.1.cell 6;have n7:Ce W1 H 7 (Iv t2):=jH.out.1.cell 7;have nl:=jH.out.1.lt;have Gx:=Hy (show Calls prog 133 #[crp X,.agg #[Iv 19,Iv o2,Iv o3,.string zs,Iv o5,.slice kA kn kc,Iv t1,Iv t2],Iv kn] W1 fun e w'=>e=.returned (.tuple #[])/\NoP X {S with d:=aN S.tr o2 (xk.take kn) D1} W1 w' by have h9:=dB (S:={S with d:=D1}) IU.out.rv HX.out.1 (t1,t2) kn (zL _);simp only [ndV,HZ.out] at h9;exact h9)
  go_wp2_with fail;refine Gx.out.mono ?_;clear Gx;rintro e W2 ⟨rfl,hP⟩;have Rz:=Hy (IU.out.trans hP);have zU:=Hy2 (ak hP.gr jH.out.1 (by simp;omega)) (ak hP.gr jH.out.2 (by simp;omega))
  clear hP;clear n0 n1 n2 n3 n4 n5 n6 n7 nl;have Ar:=zU.out.1;have Ae:=zU.out.2;have lu:Below w.heap.size W2 W2:=zB _ _;go_upto_region 21 with (fail);have Jv:=Hy lu;clear lu;have b1:=Ar;have b2:=Ae;have kZ:=setRow_heap W2 (H+1) _ #[Iv 19,Iv o2,Iv o3,.string zs,Iv o5,.slice kA kn kc,Iv t1,Iv t2] tNd (0,0) b2;have oW:=Hy2 kZ (below_setRow (B:=w.heap.size) W2 (H+1) #[Iv 19,Iv o2,Iv o3,.string zs,Iv o5,.slice kA kn kc,Iv t1,Iv t2] (by have:=HH.out;omega))
  clear kZ;refine wp_region_list ?_;refine wpList_load_row rfl tNd _ rfl H rfl tNd _ (0,0) _ b1 underlying75 rfl ay ?_;refine wpList_store_row rfl tNd _ _ rfl (H+1) _ rfl rfl tNd #[Iv 0,Iv 0,Iv 0,.string ⟨#[]⟩,Iv 0,.slice none 0 0,Iv 0,Iv 0] b2 ay rfl (by simp [Value.oneCell']) ?_
  refine wpList_nil ?_;go_wp2_with fail;refine bodyPost_ret (results_cell_row rfl _ _ (H+1) tNd _ (0,0) _ rfl oW.out.1 underlying75 rfl ay) rfl ?_;rw [HE.out];exact ⟨rfl,NoP.under HX.out.2.2.2 Rz.out (Jv.out.trans oW.out.2)⟩
 have HE:=Hy (show rr=((t1,t2),S.d) by rw [<-Jm.out];unfold dM;simp only [h12,h13,h14,h15,h16,h20,h17,h19,or_self,if_false])
 have Ar:=jk.out.1;have Ae:=jk.out.2;have lu:Below w.heap.size W W:=zB _ _;go_upto_region 21 with (fail);have Jv:=Hy lu;clear lu;have b1:=Ar;have b2:=Ae;have kZ:=setRow_heap W (H+1) _ #[Iv o1,Iv o2,Iv o3,.string zs,Iv o5,.slice kA kn kc,Iv t1,Iv t2] tNd (0,0) b2;have oW:=Hy2 kZ (below_setRow (B:=w.heap.size) W (H+1) #[Iv o1,Iv o2,Iv o3,.string zs,Iv o5,.slice kA kn kc,Iv t1,Iv t2] (by have:=HH.out;omega))
 clear kZ;refine wp_region_list ?_;refine wpList_load_row rfl tNd _ rfl H rfl tNd _ (0,0) _ b1 underlying75 rfl ay ?_;refine wpList_store_row rfl tNd _ _ rfl (H+1) _ rfl rfl tNd #[Iv 0,Iv 0,Iv 0,.string ⟨#[]⟩,Iv 0,.slice none 0 0,Iv 0,Iv 0] b2 ay rfl (by simp [Value.oneCell']) ?_
 refine wpList_nil ?_;go_wp2_with fail;refine bodyPost_ret (results_cell_row rfl _ _ (H+1) tNd _ (0,0) _ rfl oW.out.1 underlying75 rfl ay) rfl ?_;rw [HE.out];exact ⟨rfl,NoP.under HX.out.2.2.2 Nb.out (Jv.out.trans oW.out.2)⟩
end
end
end Go.Proofs.YtcchdlnfeijinaaGreatDoor
