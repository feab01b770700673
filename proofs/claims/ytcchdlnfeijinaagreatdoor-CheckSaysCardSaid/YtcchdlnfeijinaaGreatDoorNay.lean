/- Csa to Cme: Layer check, the document's answer: heads. -/
import Derived.Test.YtcchdlnfeijinaaGreatDoorNax
import Derived.Test.YtcchdlnfeijinaaGreatDoorNau
namespace Go.Proofs.YtcchdlnfeijinaaGreatDoor
open Go.Proofs.Tryz
set_option linter.unusedSimpArgs false
set_option linter.unusedVariables false
set_option maxHeartbeats 4000000
set_option maxRecDepth 100000
section
open Go Go.RowKit Go.Maps
theorem yc (a b:List UInt8):((str a).toList == (str b).toList)=decide (a=b):=by
 have e:∀l:List UInt8,(str l).toList=l:=fun l=>by simp [str]
 rw [e,e,Bool.eq_iff_iff];simp
theorem LY (g:Gl)(h0:0<=g.n)(h1:g.n<=1000000)(w:World):Calls prog 61 #[.agg #[.string (str g.s),Iv g.ty,Iv g.n,Iv g.p]] w fun e w'=>e=.returned (Iv (szR g))/\Below w.heap.size w w':=by
 obtain ⟨gs,Wn,gn,gp⟩:=g;simp only at h0 h1 |-;unfold szR;simp only;obtain ⟨zg,hz⟩:=zN (str gs);rw [hz];clear hz;by_cases h3:Wn=3
 ·subst h3;go_enter func61,ntmps61;go_wp2_with fail;go_ret;exact ⟨by simp,(zB _ _).alloc (zL _) _⟩
 ·by_cases h4:Wn=1
  ·subst h4;go_enter func61,ntmps61;go_wp2_with fail;go_ret;exact ⟨by simp,(zB _ _).alloc (zL _) _⟩
  ·have e:(if Wn=3 then 1 else if Wn=1 then 4 else 8:Int)=8:=by rw [if_neg h3,if_neg h4]
   rw [e];clear e;go_enter func61,ntmps61;go_wp2_with fail;go_ret;exact ⟨by simp,(zB _ _).alloc (zL _) _⟩
section
variable {X:RX} {S:RS} {w:World}
theorem KO (h:RV X S w)(kH:X.gs.length<=1000000)(uo:X.fl.length<=1000000)(qm:∀g∈X.gs,0<=g.n/\g.n<=1000000)(Da:∀x∈X.fl,x.1.ps.length<=1000000) :
  Calls prog 28 #[crp X] w fun e w'=>e=.returned (.tuple #[])/\NoP X {S with d:=pE X.gs (X.fl.map (·.1)) (X.fl.map (·.1)) 0 (kL X.gs X.gs 0 0 S.d)} w w':=by
 obtain ⟨D1,Wl⟩:=zN (kL X.gs X.gs 0 0 S.d);rw [Wl];obtain ⟨D2,Xi⟩:=zN (pE X.gs (X.fl.map (·.1)) (X.fl.map (·.1)) 0 D1);rw [Xi];obtain ⟨gl,VU⟩:=zN X.gs.length;obtain ⟨fl,Ym⟩:=zN X.fl.length;rw [VU] at kH;rw [Ym] at uo;have c0:=h.c0;have cl:=h.chk.lt;rw [VU] at c0;have HX:=Hy7 Wl Xi VU Ym qm Da h;clear h qm Da Wl Xi VU Ym;go_enter func28,ntmps28;go_wp2_with fail;go_loopw [2,3] (fun v2 v wr=>∃(k:Nat) (b:Int) (d:Int×Int),k<=gl/\v=Iv k/\v2=Iv b/\0<=b/\b<=1099511627776/\kL X.gs (X.gs.drop k) k b d=D1/\NoP X {S with d:=d} w wr) (fun _ v _=>gl - (intOf v).toNat)
 case atStart=>exact ⟨0,0,S.d,by omega,rfl,rfl,by omega,by omega,HX.out.1,NoP.refl HX.out.2.2.2.2.2.2⟩
 case round=>
  obtain ⟨k,b,d,hk,rfl,rfl,IB,av,Q3,hP⟩:=hrel;obtain ⟨wo,PT⟩:=zQ wr;subst PT;have c0:=hP.rv.c0;have cl:=hP.rv.chk.lt;rw [HX.out.2.2.1] at c0;by_cases hlt:k<gl
  case neg=>
   obtain rfl:gl=k:=by omega
   have hdr:X.gs.drop gl=[]:=List.drop_of_length_le (by have:=HX.out.2.2.1;omega)
   rw [hdr] at Q3;have Ja:d=D1:=Q3;subst Ja;have HP:=Hy hP;have c1:=hP.rv.c1;rw [HX.out.2.2.2.1] at c1;clear hP hdr Q3;go_wp2_with fail;go_loopw [5] (fun v wr=>∃(k:Nat) (d':Int×Int),k<=fl/\v=Iv k/\pE X.gs (X.fl.map (·.1)) ((X.fl.map (·.1)).drop k) k d'=D2/\NoP X {S with d:=d'} w wr) (fun v _=>fl - (intOf v).toNat)
   case atStart=>exact ⟨0,d,by omega,rfl,HX.out.2.1,HP.out⟩
   case round=>
    obtain ⟨k,d',hk,rfl,qA,hP⟩:=hrel;obtain ⟨wo,PT⟩:=zQ wr;subst PT;have c1:=hP.rv.c1;have cl:=hP.rv.chk.lt;rw [HX.out.2.2.2.1] at c1;by_cases hlt:k<fl
    case neg=>
     obtain rfl:fl=k:=by omega
     rw [List.drop_of_length_le (by rw [List.length_map];have:=HX.out.2.2.2.1;omega)] at qA
     have Tn:d'=D2:=qA;have HQ:=Hy (show NoP X {S with d:=D2} w wo from by rw [<-Tn];exact hP)
     clear hP qA Tn;go_wp2_with fail;go_end0;exact ⟨rfl,HQ.out⟩
    case pos=>
     obtain ⟨x,hx⟩:∃x,X.fl[k]? =some x:=⟨_,List.getElem?_eq_getElem (by have:=HX.out.2.2.2.1;omega)⟩
     have Da:=HX.out.2.2.2.2.2.1 x (zG hx);have Si:=zG hx;have hdr:(X.fl.map (·.1)).drop k=x.1 ::(X.fl.map (·.1)).drop (k+1):=by
      have h8:(X.fl.map (·.1))[k]? =some x.1:=by rw [List.getElem?_map,hx];rfl
      rw [List.drop_eq_getElem_cons (by exact (zS.1 h8).1),(zS.1 h8).2]
     rw [hdr,pE] at qA;have WV:k<S.vls.length:=by have h9:=hP.rv.vl;simp only at h9;rw [h9];have:=HX.out.2.2.2.1;omega
     have hk'':k<S.vs.length:=by have h9:=hP.rv.vn;simp only at h9;rw [h9];have:=HX.out.2.2.2.1;omega
     obtain ⟨fv,JO⟩:∃v,S.vls[k]? =some v:=⟨_,List.getElem?_eq_getElem WV⟩;obtain ⟨fl2,Uu⟩:∃l,S.vs[k]? =some l:=⟨_,List.getElem?_eq_getElem hk''⟩;obtain ⟨vA,vn,vc,rfl⟩:∃A n c,fv=.slice A n c:=by
      by_cases hkF:k=S.F
      ·subst hkF;obtain ⟨A,c,e⟩:=(RdS.av (hP.rv.cur _ _ JO Uu)).shape;exact ⟨A,_,c,e⟩
      ·obtain ⟨A,c,e⟩:=(RdS.av (hP.rv.old k _ _ hkF JO Uu).1).shape;exact ⟨A,_,c,e⟩
     have hc:=fun j hj=>bQ X.fl S.vls k j hj hx JO
     obtain ⟨gb,go,OX,Kq,hr⟩:=(RdS.av hP.rv.f).get (dQ (show (dE X.fl S.vls)[k * 6]? =some (.string (str x.1.s)) from hc 0 (by omega)))
     obtain ⟨SY,QU⟩:=zN (dZ X.gs x.1.s);obtain ⟨ofi,XX⟩:=zN (eY ((X.fl.map (·.1)).take k) x.1.s);rw [QU,XX] at qA;have hga:∀W' S',RV X S' W'->Calls prog 60 #[crp X,.string (str x.1.s),Iv (gl:Nat)] W' fun e w'=>e=.returned (Iv (oI SY))/\Below W'.heap.size W' w':=fun W' S' dK=>by
      rw [<-QU,<-HX.out.2.2.1];exact mI dK x.1.s (by rw [HX.out.2.2.1];exact kH)
     have ZE:∀W' S',RV X S' W'->Calls prog 30 #[crp X,.string (str x.1.s),Iv (k:Nat)] W' fun e w'=>e=.returned (Iv (oI ofi))/\Below W'.heap.size W' w':=fun W' S' dK=>by
      rw [<-XX];exact (rM dK x.1.s k (by have:=HX.out.2.2.2.1;omega) (by have:=HX.out.2.2.2.1;omega)).mono fun e w' h=>⟨h.1,by obtain ⟨q,rfl⟩:=h.2;exact below_drewN _ _ _⟩
     have qz:=hP.rv.ps x Si;obtain ⟨⟨fs,fty,uV,fb,fp⟩,pv⟩:=x;obtain ⟨zf,Zo⟩:=zN (str fs);obtain ⟨pn,XU⟩:=zN uV.length;simp only at qz Da qA Si;rw [XU] at qz Da;obtain ⟨pA,pc,rfl⟩:=(RdS.av qz).shape;simp only [Ss,fnC,Zo] at hc hga ZE;have y0:wo.cell? ⟨gb,go+k * 6,none⟩=_:=hr _ _ (hc 0 (by omega))
     have y1:wo.cell? ⟨gb,go+k * 6+1,none⟩=_:=hr _ _ (hc 1 (by omega))
     have y2:wo.cell? ⟨gb,go+k * 6+2,none⟩=_:=hr _ _ (hc 2 (by omega))
     have y3:wo.cell? ⟨gb,go+k * 6+3,none⟩=_:=hr _ _ (hc 3 (by omega))
     have y4:wo.cell? ⟨gb,go+k * 6+4,none⟩=_:=hr _ _ (hc 4 (by omega))
     have y5:wo.cell? ⟨gb,go+k * 6+5,none⟩=_:=hr _ _ (hc 5 (by omega))
     rw [OX] at c1;have Qj:(k:Int)<fl:=by omega
     have Vd:Below wo.heap.size wo (wo.alloc (.cells #[.string zf,Iv fty,.slice pA pn pc,Iv (fb:Nat),Iv fp,.slice vA vn vc] tFu)):=(zB _ _).alloc (zL _) _;have Nu:=Blk.new wo tFu #[.string zf,Iv fty,.slice pA pn pc,Iv (fb:Nat),Iv fp,.slice vA vn vc];have OH:=hP.low Vd;have HFR:=Hy qA;have HGA0:=Hy hga;have HFO0:=Hy ZE;have UV:=Hy2 XU Si;clear hP hx Si hdr qA WV hk'' JO Uu hr hc hga ZE QU XX Zo qz XU;go_upto_region 12 with (fail);obtain ⟨Kf,V9⟩:=zN wo.heap.size;rw [V9] at Nu;have LM:X.b≠Kf:=by omega
     generalize wo.alloc (.cells #[.string zf,Iv fty,.slice pA pn pc,Iv (fb:Nat),Iv fp,.slice vA vn vc] tFu)=W at *;have Vp:=Hy Nu;have I4:=Hy OH;try simp only [V9]
     have HKF:=Hy V9;clear Vd OH y0 y1 y2 y3 y4 y5 V9 Kq OX c1 cl;have n4:W.cell? ⟨Kf,4,none⟩=some (Iv fp):=Nu.cell 4;have nl:=Nu.lt;clear Nu;have I5:=Hy (show ∀bb,Calls prog 31 #[crp X,.bool bb,Iv 9,Iv fp] W fun e w'=>e=.returned (.tuple #[])/\NoP X {S with d:=dN d' bb 9 fp} W w' from fun bb=>dz (S:={S with d:=d'}) I4.out.rv bb 9 fp)
     go_wp2_with fail;refine (I5.out _).mono ?_;rintro e W1 ⟨rfl,P1⟩;rw [show decide ((32:Int)<=(k:Int))=decide (32<=k) from by rw [decide_eq_decide];omega] at P1
     obtain ⟨d1,Ja⟩:=zN (dN d' (decide (32<=k)) 9 fp);rw [Ja] at P1;have UX:=Hy HFR.out;rw [Ja] at UX;have Mt:=Hy (I4.out.trans P1);have SV:=Hy (ak P1.gr Vp.out (fun e=>LM (Option.some.inj e)))
     clear P1 Ja I5 n4 nl;have J:Below W1.heap.size W1 W1:=zB _ _;have c0:=Mt.out.rv.c0;have cl:=Mt.out.rv.chk.lt;rw [HX.out.2.2.1] at c0;have Zb:Hid (∀W',Below W1.heap.size W1 W'->Calls prog 60 #[crp X,.string zf,Iv (gl:Nat)] W' fun e w'=>e=.returned (Iv (oI SY))/\Below W1.heap.size W1 w'):=Hy fun W' dK=>
      (HGA0.out W' _ (Mt.out.rv.on dK)).mono fun e w' h=>⟨h.1,dK.trans (h.2.mono dK.size)⟩
     have HFO:Hid (∀W',Below W1.heap.size W1 W'->Calls prog 30 #[crp X,.string zf,Iv (k:Nat)] W' fun e w'=>e=.returned (Iv (oI ofi))/\Below W1.heap.size W1 w'):=Hy fun W' dK=>
      (HFO0.out W' _ (Mt.out.rv.on dK)).mono fun e w' h=>⟨h.1,dK.trans (h.2.mono dK.size)⟩
     have I5:Hid (∀bb W',Below W1.heap.size W1 W'->Calls prog 31 #[crp X,.bool bb,Iv 5,Iv fp] W' fun e w'=>e=.returned (.tuple #[])/\NoP X {S with d:=dN d1 bb 5 fp} W1 w'):=Hy fun bb W' dK=>
      (dz (Mt.out.rv.on dK) bb 5 fp).mono fun e w' h=>⟨h.1,NoP.before dK h.2⟩
     have HS:Hid (∀(Wx:World),Below W1.heap.size W1 Wx->Wx.cell? ⟨Kf,0,none⟩=some (.string zf)/\Wx.cell? ⟨Kf,4,none⟩=some (Iv fp)/\Kf<Wx.heap.size/\Wx.cell? ⟨X.b,0,none⟩=some (.slice X.gA gl X.gc)/\X.b<Wx.heap.size):=Hy fun Wx hW=>by
      have u:=SV.out.below hW SV.out.lt;exact ⟨u.cell 0,u.cell 4,u.lt,(hW.cell (p:=⟨X.b,0,none⟩) cl).trans c0,Nat.lt_of_lt_of_le cl hW.size⟩
     have qh:Hid (∀(Wx:World) (d:Int×Int),NoP X {S with d:=d} W1 Wx->Wx.cell? ⟨Kf,0,none⟩=some (.string zf)/\Wx.cell? ⟨Kf,4,none⟩=some (Iv fp)/\Kf<Wx.heap.size/\Wx.cell? ⟨X.b,0,none⟩=some (.slice X.gA gl X.gc)/\X.b<Wx.heap.size):=Hy fun Wx d hW=>by
      have u:=ak hW.gr SV.out (fun e=>LM (Option.some.inj e))
      have u2:=hW.rv.c0;rw [HX.out.2.2.1] at u2;exact ⟨u.cell 0,u.cell 4,u.lt,u2,hW.rv.chk.lt⟩
     go_upto_region 13 with (fail);go_cut [] (fun wx=>NoP X {S with d:=dN d1 (SY.isSome || ofi.isSome) 5 fp} W1 wx)
     case first=>
      cases SY with
      |some q=>
       have HGA:=Hy (show ∀W',Below W1.heap.size W1 W'->Calls prog 60 #[crp X,.string zf,Iv (gl:Nat)] W' fun e w'=>e=.returned (Iv (q:Nat))/\Below W1.heap.size W1 w' from Zb.out)
       refine wp_region_held_drew (S:=(fun (Wx:World)=>Wx.cell? ⟨Kf,0,none⟩=some (.string zf)/\Wx.cell? ⟨Kf,4,none⟩=some (Iv fp)/\Kf<Wx.heap.size/\Wx.cell? ⟨X.b,0,none⟩=some (.slice X.gA gl X.gc)/\X.b<Wx.heap.size)) (by kernel_rfl) (by exact HS.out _ J.drew) (fun af=>?_)
       refine tQ 0 af ?_;try simp only [Act.put,zA]
       refine tQ 1 af ?_;try simp only [Act.put,zA]
       refine tQ 2 af ?_;try simp only [Act.put,zA]
       refine tQ 3 af ?_;try simp only [Act.put,zA]
       refine tQ 4 af ?_;try simp only [Act.put,zA]
       refine tQ 5 af ?_;try simp only [Act.put,zA]
       refine tQ 6 af ?_;try simp only [Act.put,zA]
       refine tQ 7 af ?_;try simp only [Act.put,zA]
       refine tQ 8 af ?_;try simp only [Act.put,zA]
       refine tQ 9 af ?_;try simp only [Act.put,zA]
       refine tQ 20 af ?_;try simp only [Act.put,zA]
       refine tQ 21 af ?_;try simp only [Act.put,zA]
       refine dC (i:=10) rfl (by kernel_rfl) (fun K hK=>?_)
       go_simp
       go_at_call 60
       (with_reducible refine Calls.mono (HGA.out _ J.drew) ?_)
       rintro e v1 ⟨rfl,J1⟩;clear af;refine hK.out _ _ ?_ (fun af=>?_)
       ·exact HS.out _ J1
       clear hK K;refine tQ 11 af ?_;try simp only [Act.put,zA]
       refine tQ 12 af ?_;try simp only [Act.put,zA]
       refine tZ 13 af ?_;try simp only [Act.put,zA]
       refine tZ 14 af ?_;try simp only [Act.put,zA]
       refine tZ 15 af ?_;try simp only [Act.put,zA]
       refine tZ 16 af ?_;try simp only [Act.put,zA]
       refine tZ 17 af ?_;try simp only [Act.put,zA]
       refine tZ 18 af ?_;try simp only [Act.put,zA]
       refine tQ 19 af ?_;try simp only [Act.put,zA]
       refine dC (i:=22) rfl (by kernel_rfl) (fun K hK=>?_)
       go_simp
       go_at_call 31
       (with_reducible refine Calls.mono (I5.out _ _ J1) ?_)
       rintro e v3 ⟨rfl,P3⟩;clear af;refine hK.out _ _ ?_ (fun af=>?_)
       ·exact qh.out _ _ P3
       clear hK K;try simp only [Act.put,zA]
       refine wpAnyH_done (by kernel_rfl) ?_ _
       go_wp2_with fail;go_meet
       simpa using P3
      |none=>
       have HGA:=Hy (show ∀W',Below W1.heap.size W1 W'->Calls prog 60 #[crp X,.string zf,Iv (gl:Nat)] W' fun e w'=>e=.returned (Iv (-1))/\Below W1.heap.size W1 w' from Zb.out)
       refine wp_region_held_drew (S:=(fun (Wx:World)=>Wx.cell? ⟨Kf,0,none⟩=some (.string zf)/\Wx.cell? ⟨Kf,4,none⟩=some (Iv fp)/\Kf<Wx.heap.size/\Wx.cell? ⟨X.b,0,none⟩=some (.slice X.gA gl X.gc)/\X.b<Wx.heap.size)) (by kernel_rfl) (by exact HS.out _ J.drew) (fun af=>?_)
       refine tQ 0 af ?_;try simp only [Act.put,zA]
       refine tQ 1 af ?_;try simp only [Act.put,zA]
       refine tQ 2 af ?_;try simp only [Act.put,zA]
       refine tQ 3 af ?_;try simp only [Act.put,zA]
       refine tQ 4 af ?_;try simp only [Act.put,zA]
       refine tQ 5 af ?_;try simp only [Act.put,zA]
       refine tQ 6 af ?_;try simp only [Act.put,zA]
       refine tQ 7 af ?_;try simp only [Act.put,zA]
       refine tQ 8 af ?_;try simp only [Act.put,zA]
       refine tQ 9 af ?_;try simp only [Act.put,zA]
       refine tQ 20 af ?_;try simp only [Act.put,zA]
       refine tQ 21 af ?_;try simp only [Act.put,zA]
       refine dC (i:=10) rfl (by kernel_rfl) (fun K hK=>?_)
       go_simp
       go_at_call 60
       (with_reducible refine Calls.mono (HGA.out _ J.drew) ?_)
       rintro e v1 ⟨rfl,J1⟩;clear af;refine hK.out _ _ ?_ (fun af=>?_)
       ·exact HS.out _ J1
       clear hK K;refine tQ 11 af ?_;try simp only [Act.put,zA]
       refine tQ 12 af ?_;try simp only [Act.put,zA]
       refine tQ 13 af ?_;try simp only [Act.put,zA]
       refine tQ 14 af ?_;try simp only [Act.put,zA]
       refine tQ 15 af ?_;try simp only [Act.put,zA]
       refine tQ 16 af ?_;try simp only [Act.put,zA]
       refine dC (i:=17) rfl (by kernel_rfl) (fun K hK=>?_)
       go_simp
       go_at_call 30
       (with_reducible refine Calls.mono (HFO.out _ J1) ?_)
       rintro e v2 ⟨rfl,J2⟩;clear af;refine hK.out _ _ ?_ (fun af=>?_)
       ·exact HS.out _ J2
       clear hK K;refine tQ 18 af ?_;try simp only [Act.put,zA]
       refine tQ 19 af ?_;try simp only [Act.put,zA]
       refine dC (i:=22) rfl (by kernel_rfl) (fun K hK=>?_)
       go_simp
       go_at_call 31
       (with_reducible refine Calls.mono (I5.out _ _ J2) ?_)
       rintro e v3 ⟨rfl,P3⟩;clear af;refine hK.out _ _ ?_ (fun af=>?_)
       ·exact qh.out _ _ P3
       clear hK K;try simp only [Act.put,zA]
       refine wpAnyH_done (by kernel_rfl) ?_ _
       go_wp2_with fail;go_meet;rw [IE] at P3
       simpa using P3
     case rest=>
      obtain ⟨W2,Sy⟩:=zQ wc;subst Sy;obtain ⟨d2,Tn⟩:=zN (dN d1 (SY.isSome || ofi.isSome) 5 fp)
      rw [Tn] at hcut UX;have KT:=Hy (Mt.out.trans hcut);have hk3:=ak hcut.gr SV.out (fun e=>LM (Option.some.inj e))
      have HK3:=Hy hk3;have n2:W2.cell? ⟨Kf,2,none⟩=some (.slice pA pn pc):=hk3.cell 2;have n4:W2.cell? ⟨Kf,4,none⟩=some (Iv fp):=hk3.cell 4;have nl:=hk3.lt;clear hcut HS qh I5 HFO Zb HGA0 HFO0 J hk3 Tn c0 cl;have I5:=Hy (show ∀bb,Calls prog 31 #[crp X,.bool bb,Iv 9,Iv fp] W2 fun e w'=>e=.returned (.tuple #[])/\NoP X {S with d:=dN d2 bb 9 fp} W2 w' from fun bb=>dz (S:={S with d:=d2}) KT.out.rv bb 9 fp)
      go_wp2_with fail;refine (I5.out _).mono ?_;rintro e W4 ⟨rfl,P4⟩;rw [show decide ((8:Int)< (pn:Int))=decide (8<pn) from by rw [decide_eq_decide];omega] at P4
      obtain ⟨d3,ZG⟩:=zN (dN d2 (decide (8<pn)) 9 fp);rw [ZG] at P4;rw [UV.out.1,ZG] at UX;have QM:=Hy (KT.out.trans P4);have FK:=ak P4.gr HK3.out (fun e=>LM (Option.some.inj e))
      have HK4:=Hy FK;clear P4 ZG I5 n2 n4 nl;have n2:W4.cell? ⟨Kf,2,none⟩=some (.slice pA pn pc):=FK.cell 2;have nl:=FK.lt;clear FK;obtain ⟨DP,hDP⟩:=zN (uO fp uV [] d3);rw [hDP] at UX;have HDP:=Hy hDP;clear hDP;go_wp2_with fail;go_loopw [7] (fun v wr=>∃(k3:Nat) (d':Int×Int),k3<=pn/\v=Iv k3/\uO fp (uV.drop k3) ((uV.take k3).map (·.s)) d'=DP/\NoP X {S with d:=d'} W4 wr) (fun v _=>pn - (intOf v).toNat)
      case atStart=>exact ⟨0,d3,by omega,rfl,by rw [List.drop_zero,List.take_zero];exact HDP.out,NoP.refl QM.out.rv⟩
      case round=>
       obtain ⟨k3,d5,hk3,rfl,Ie,hP5⟩:=hrel;obtain ⟨w5,hw5⟩:=zQ wr;subst hw5;have MI:=ak hP5.gr HK4.out (fun e=>LM (Option.some.inj e))
       have n2:w5.cell? ⟨Kf,2,none⟩=some (.slice pA pn pc):=MI.cell 2;have nl:=MI.lt;by_cases hlt3:k3<pn
       case neg=>
        obtain rfl:pn=k3:=by omega
        rw [List.drop_of_length_le (by have:=UV.out.1;omega)] at Ie
        have hd5:d5=DP:=Ie;have HQ:=Hy (show NoP X {S with d:=DP} w w5 from by rw [<-hd5];exact QM.out.trans hP5)
        clear hP5 Ie hd5 MI;go_wp2_with fail;go_roundw
        case rel=>exact ⟨k+1,DP,by omega,by go_num,UX.out,HQ.out⟩
        case measure=>simp [intOf];omega
       case pos=>
        obtain ⟨p,hp⟩:∃p,uV[k3]? =some p:=⟨_,List.getElem?_eq_getElem (by have:=UV.out.1;omega)⟩
        have hdr3:uV.drop k3=p ::uV.drop (k3+1):=by rw [List.drop_eq_getElem_cons (by exact (zS.1 hp).1),(zS.1 hp).2]
        rw [hdr3,uO] at Ie;have hsn:(uV.take k3).map (·.s) ++ [p.s]=(uV.take (k3+1)).map (·.s):=by rw [List.take_add_one,hp,Option.toList_some,List.map_append];rfl
        rw [hsn] at Ie;obtain ⟨DQ,hDQ⟩:=zN (mP fp p.s ((uV.take k3).map (·.s)) d5);rw [hDQ] at Ie;have HPR:=Hy2 Ie hDQ;have UU:=Hy hp;have OJ:=Hy hP5;clear hP5 Ie hDQ hdr3 hsn hp MI;go_wp2_with fail;go_loopw [8] (fun v wr=>∃(j:Nat) (d4:Int×Int),j<=k3/\v=Iv j/\mP fp p.s (((uV.take k3).map (·.s)).drop j) d4=DQ/\NoP X {S with d:=d4} W4 wr) (fun v _=>k3 - (intOf v).toNat)
        case atStart=>exact ⟨0,d5,by omega,rfl,by rw [List.drop_zero];exact HPR.out.2,OJ.out⟩
        case round=>
         obtain ⟨j,d4,hj,rfl,WO,Q8⟩:=hrel;obtain ⟨w6,hw6⟩:=zQ wr;subst hw6;by_cases hlt4:j<k3
         case neg=>
          obtain rfl:k3=j:=by omega
          rw [List.drop_of_length_le (by rw [List.length_map,List.length_take];have:=UV.out.1;omega)] at WO
          have hd4:d4=DQ:=WO;have HQ:=Hy (show NoP X {S with d:=DQ} W4 w6 from by rw [<-hd4];exact Q8)
          clear Q8 WO hd4;go_wp2_with fail;go_roundw
          case rel=>exact ⟨k3+1,DQ,by omega,by go_num,HPR.out.1,HQ.out⟩
          case measure=>simp [intOf];omega
         case pos=>
          obtain ⟨pj,hpj⟩:∃p,uV[j]? =some p:=⟨_,List.getElem?_eq_getElem (by have:=UV.out.1;omega)⟩
          have Zu:((uV.take k3).map (·.s))[j]? =some pj.s:=by rw [List.getElem?_map,List.getElem?_take,if_pos hlt4,hpj];rfl
          have hdr4:((uV.take k3).map (·.s)).drop j=pj.s ::((uV.take k3).map (·.s)).drop (j+1):=by rw [List.drop_eq_getElem_cons (by exact (zS.1 Zu).1),(zS.1 Zu).2]
          rw [hdr4,mP] at WO;have qz:=Q8.rv.ps _ UV.out.2;simp only at qz;rw [UV.out.1] at qz;have huj:=aY cz 2 (fun _=>rfl) uV j 0 (by omega)
          have huk:=aY cz 2 (fun _=>rfl) uV k3 0 (by omega)
          simp only [Ss,hpj,UU.out,Option.bind_some,cz,List.getElem?_cons_zero,Nat.add_zero] at huj huk;obtain ⟨pb,po,rfl,Ua,Pb⟩:=(RdS.av qz).get (dQ huj);have zj0:=Pb _ _ huj;have zk0:=Pb _ _ huk;have Lu:pb≠X.b:=au (ag qz rfl) Q8.rv.chk.kind (by decide)
          obtain ⟨xj,hxj⟩:=zN pj.s;obtain ⟨xk,PR⟩:=zN p.s;rw [hxj] at zj0 WO;rw [PR] at zk0 WO;obtain ⟨zj,hzj⟩:=zN (str xj);obtain ⟨zk,hzk⟩:=zN (str xk);rw [hzj] at zj0;rw [hzk] at zk0;have HEQ:=Hy (show (zj.toList == zk.toList)=decide (xj=xk) from by rw [<-hzj,<-hzk];exact yc xj xk)
          have MI:=ak Q8.gr HK4.out (fun e=>LM (Option.some.inj e))
          have n2:w6.cell? ⟨Kf,2,none⟩=some (.slice (some ⟨pb,po,none⟩) pn pc):=MI.cell 2;have n4:w6.cell? ⟨Kf,4,none⟩=some (Iv fp):=MI.cell 4;have nl:=MI.lt;have hjI:(j:Int)<pn:=by omega
          have hk3I:(k3:Int)<pn:=by omega
          have Xu:=Hy Q8;have HJN:=Hy (show mP fp p.s (((uV.take k3).map (·.s)).drop (j+1)) (dN d4 (decide (xj=xk)) 5 fp)=DQ from by rw [PR];exact WO)
          have HS:Hid (∀(Wx:World),Below w6.heap.size w6 Wx->Wx.cell? ⟨Kf,2,none⟩=some (.slice (some ⟨pb,po,none⟩) pn pc)/\Wx.cell? ⟨Kf,4,none⟩=some (Iv fp)/\Kf<Wx.heap.size/\Wx.cell? ⟨pb,po+j * 2,none⟩=some (.string zj)/\Wx.cell? ⟨pb,po+k3 * 2,none⟩=some (.string zk)/\pb<Wx.heap.size):=Hy fun Wx hW=>
           ⟨(hW.cell (p:=⟨Kf,2,none⟩) nl).trans n2,(hW.cell (p:=⟨Kf,4,none⟩) nl).trans n4,Nat.lt_of_lt_of_le nl hW.size,(hW.cell (p:=⟨pb,_,none⟩) Ua).trans zj0,(hW.cell (p:=⟨pb,_,none⟩) Ua).trans zk0,Nat.lt_of_lt_of_le Ua hW.size⟩
          have qh:Hid (∀(Wx:World) (d:Int×Int),NoP X {S with d:=d} w6 Wx->Wx.cell? ⟨Kf,2,none⟩=some (.slice (some ⟨pb,po,none⟩) pn pc)/\Wx.cell? ⟨Kf,4,none⟩=some (Iv fp)/\Kf<Wx.heap.size/\Wx.cell? ⟨pb,po+j * 2,none⟩=some (.string zj)/\Wx.cell? ⟨pb,po+k3 * 2,none⟩=some (.string zk)/\pb<Wx.heap.size):=Hy fun Wx d hW=>
           ⟨(hW.gr.cell_far ⟨Kf,2,none⟩ nl (fun e=>LM (Option.some.inj e).symm)).trans n2,(hW.gr.cell_far ⟨Kf,4,none⟩ nl (fun e=>LM (Option.some.inj e).symm)).trans n4,Nat.lt_of_lt_of_le nl hW.gr.size,(hW.gr.cell_far ⟨pb,_,none⟩ Ua (fun e=>Lu (Option.some.inj e))).trans zj0,(hW.gr.cell_far ⟨pb,_,none⟩ Ua (fun e=>Lu (Option.some.inj e))).trans zk0,Nat.lt_of_lt_of_le Ua hW.gr.size⟩
          have I5:Hid (∀bb W',Below w6.heap.size w6 W'->Calls prog 31 #[crp X,.bool bb,Iv 5,Iv fp] W' fun e w'=>e=.returned (.tuple #[])/\NoP X {S with d:=dN d4 bb 5 fp} w6 w'):=Hy fun bb W' dK=>
           (dz (Xu.out.rv.on dK) bb 5 fp).mono fun e w' h=>⟨h.1,NoP.before dK h.2⟩
          clear Q8 hpj Zu hdr4 WO qz huj huk Pb Lu hxj PR hzj hzk MI;go_upto_region 21 with (fail);refine wp_region_held_drew (S:=(fun (Wx:World)=>Wx.cell? ⟨Kf,2,none⟩=some (.slice (some ⟨pb,po,none⟩) pn pc)/\Wx.cell? ⟨Kf,4,none⟩=some (Iv fp)/\Kf<Wx.heap.size/\Wx.cell? ⟨pb,po+j * 2,none⟩=some (.string zj)/\Wx.cell? ⟨pb,po+k3 * 2,none⟩=some (.string zk)/\pb<Wx.heap.size)) (by kernel_rfl) (by exact HS.out _ (zB _ _).drew) (fun af=>?_)
          refine tQ 0 af ?_;try simp only [Act.put,zA]
          refine tQ 1 af ?_;try simp only [Act.put,zA]
          refine tQ 2 af ?_;try simp only [Act.put,zA]
          refine tQ 3 af ?_;try simp only [Act.put,zA]
          refine tQ 4 af ?_;try simp only [Act.put,zA]
          refine tQ 5 af ?_;try simp only [Act.put,zA]
          refine tQ 6 af ?_;try simp only [Act.put,zA]
          refine tQ 7 af ?_;try simp only [Act.put,zA]
          refine tQ 8 af ?_;try simp only [Act.put,zA]
          refine tQ 9 af ?_;try simp only [Act.put,zA]
          refine tQ 10 af ?_;try simp only [Act.put,zA]
          refine tQ 11 af ?_;try simp only [Act.put,zA]
          refine tQ 12 af ?_;try simp only [Act.put,zA]
          refine tQ 13 af ?_;try simp only [Act.put,zA]
          refine tQ 14 af ?_;try simp only [Act.put,zA]
          refine tQ 15 af ?_;try simp only [Act.put,zA]
          refine dC (i:=16) rfl (by kernel_rfl) (fun K hK=>?_)
          go_simp
          go_at_call 31
          (with_reducible refine Calls.mono (I5.out _ _ (zB _ _).drew) ?_)
          rintro e v3 ⟨rfl,P3⟩;clear af;refine hK.out _ _ ?_ (fun af=>?_)
          ·exact qh.out _ _ P3
          clear hK K;try simp only [Act.put,zA]
          refine wpAnyH_done (by kernel_rfl) ?_ _
          have HQ:=Hy (show NoP X {S with d:=dN d4 (decide (xj=xk)) 5 fp} W4 v3 from by
           have h9:=Xu.out.trans P3;rw [HEQ.out] at h9;exact h9)
          clear P3 HS qh I5;go_wp2_with fail;go_roundw
          case rel=>exact ⟨j+1,_,by omega,by go_num,HJN.out,HQ.out⟩
          case measure=>simp [intOf];omega
  case pos=>
   obtain ⟨g,hg⟩:∃g,X.gs[k]? =some g:=⟨_,List.getElem?_eq_getElem (by have:=HX.out.2.2.1;omega)⟩
   have qm:=HX.out.2.2.2.2.1 g (zG hg);have hdr:X.gs.drop k=g ::X.gs.drop (k+1):=by
    rw [List.drop_eq_getElem_cons (by have:=(zS.1 hg).1;exact this),(zS.1 hg).2]
   rw [hdr,kL] at Q3;have sQ:=LY g qm.1 qm.2;have hszb:0<=szR g/\szR g<=8000000:=by
    have h8:=qm;unfold szR;have h7:max g.n 1<=1000000:=by omega
    have h6:1<=max g.n 1:=by omega
    split
    ·omega
    split
    ·omega
    ·omega
   obtain ⟨gb,go,OX,Kq,hr⟩:=(RdS.av hP.rv.g).get (dQ (show (X.gs.flatMap glC)[k * 4]? =some (.string (str g.s)) from by have h9:=aY glC 4 (fun _=>rfl) X.gs k 0 (by omega);rw [hg] at h9;exact h9))
   have hc:=fun j hj=>aY glC 4 (fun _=>rfl) X.gs k j hj
   simp only [hg,Option.bind_some] at hc;obtain ⟨SY,QU⟩:=zN (dZ (X.gs.take k) g.s);obtain ⟨sz,hszE⟩:=zN (szR g);rw [hszE] at Q3 sQ hszb;rw [QU] at Q3;have hgo:∀W',NoP X {S with d:=d} w W'->Calls prog 60 #[crp X,.string (str g.s),Iv (k:Nat)] W' fun e w'=>e=.returned (Iv (oI SY))/\Below W'.heap.size W' w':=fun W' dK=>by
    rw [<-QU];exact (ow dK.rv g.s k (by have:=HX.out.2.2.1;omega) (by have:=HX.out.2.2.1;omega)).mono fun e w' h=>⟨h.1,by obtain ⟨q,rfl⟩:=h.2;exact below_drewN _ _ _⟩
   obtain ⟨gs,Wn,gn,gp⟩:=g;obtain ⟨zg,hzg⟩:=zN (str gs);simp only [Ss,glC,hzg] at hc sQ hgo Q3;have y0:wo.cell? ⟨gb,go+k * 4,none⟩=_:=hr _ _ (hc 0 (by omega))
   have y1:wo.cell? ⟨gb,go+k * 4+1,none⟩=_:=hr _ _ (hc 1 (by omega))
   have y2:wo.cell? ⟨gb,go+k * 4+2,none⟩=_:=hr _ _ (hc 2 (by omega))
   have y3:wo.cell? ⟨gb,go+k * 4+3,none⟩=_:=hr _ _ (hc 3 (by omega))
   rw [OX] at c0;have Qj:(k:Int)<gl:=by omega
   have Vd:Below wo.heap.size wo (wo.alloc (.cells #[.string zg,Iv Wn,Iv gn,Iv gp] tGb)):=(zB _ _).alloc (zL _) _;have Nu:=Blk.new wo tGb #[.string zg,Iv Wn,Iv gn,Iv gp];have OH:=hP.low Vd;have HGR:=Hy Q3;have YX:=Hy sQ;have HGO0:=Hy hgo;clear hP hg qm hdr Q3 sQ hr hc hgo QU hszE hzg;go_upto_region 5 with (fail);obtain ⟨Kg,Xf⟩:=zN wo.heap.size;rw [Xf] at Nu;have LM:X.b≠Kg:=by omega
   generalize wo.alloc (.cells #[.string zg,Iv Wn,Iv gn,Iv gp] tGb)=W at *;have Vp:=Hy Nu;have I4:=Hy OH;try simp only [Xf]
   have HKG:=Hy Xf;clear Vd Nu OH y0 y1 y2 y3 Xf Kq OX;have J:Below W.heap.size W W:=zB _ _;have HGO:Hid (∀W',Below W.heap.size W W'->Calls prog 60 #[crp X,.string zg,Iv (k:Nat)] W' fun e w'=>e=.returned (Iv (oI SY))/\Below W.heap.size W w'):=Hy fun W' dK=>
    (HGO0.out W' (I4.out.low dK)).mono fun e w' h=>⟨h.1,dK.trans (h.2.mono dK.size)⟩
   have I5:Hid (∀bb W',Below W.heap.size W W'->Calls prog 31 #[crp X,.bool bb,Iv 5,Iv gp] W' fun e w'=>e=.returned (.tuple #[])/\NoP X {S with d:=dN d bb 5 gp} W w'):=Hy fun bb W' dK=>
    (dz (I4.out.rv.on dK) bb 5 gp).mono fun e w' h=>⟨h.1,NoP.before dK h.2⟩
   have HS:Hid (∀(Wx:World),Below W.heap.size W Wx->Wx.cell? ⟨Kg,0,none⟩=some (.string zg)/\Wx.cell? ⟨Kg,3,none⟩=some (Iv gp)/\Kg<Wx.heap.size):=Hy fun Wx hW=>by
    have u:=Vp.out.below hW Vp.out.lt;exact ⟨u.cell 0,u.cell 3,u.lt⟩
   have qh:Hid (∀(Wx:World) (d:Int×Int),NoP X {S with d:=d} W Wx->Wx.cell? ⟨Kg,0,none⟩=some (.string zg)/\Wx.cell? ⟨Kg,3,none⟩=some (Iv gp)/\Kg<Wx.heap.size):=Hy fun Wx d hW=>by
    have u:=ak hW.gr Vp.out (fun e=>LM (Option.some.inj e))
    exact ⟨u.cell 0,u.cell 3,u.lt⟩
   go_cut [] (fun wx=>NoP X {S with d:=dN d SY.isSome 5 gp} W wx)
   case first=>
    refine wp_region_held_drew (S:=(fun (Wx:World)=>Wx.cell? ⟨Kg,0,none⟩=some (.string zg)/\Wx.cell? ⟨Kg,3,none⟩=some (Iv gp)/\Kg<Wx.heap.size)) (by kernel_rfl) (by exact HS.out _ J.drew) (fun af=>?_)
    refine tQ 0 af ?_;try simp only [Act.put,zA]
    refine tQ 1 af ?_;try simp only [Act.put,zA]
    refine tQ 2 af ?_;try simp only [Act.put,zA]
    refine tQ 3 af ?_;try simp only [Act.put,zA]
    refine tQ 4 af ?_;try simp only [Act.put,zA]
    refine tQ 7 af ?_;try simp only [Act.put,zA]
    refine tQ 8 af ?_;try simp only [Act.put,zA]
    refine dC (i:=5) rfl (by kernel_rfl) (fun K hK=>?_)
    go_simp
    go_at_call 60
    (with_reducible refine Calls.mono (HGO.out _ J.drew) ?_)
    rintro e v1 ⟨rfl,J1⟩;clear af;refine hK.out _ _ ?_ (fun af=>?_)
    ·exact HS.out _ J1
    clear hK K;refine tQ 6 af ?_;try simp only [Act.put,zA]
    refine dC (i:=9) rfl (by kernel_rfl) (fun K hK=>?_)
    go_simp
    go_at_call 31
    (with_reducible refine Calls.mono (I5.out _ _ J1) ?_)
    rintro e v3 ⟨rfl,P3⟩;clear af;refine hK.out _ _ ?_ (fun af=>?_)
    ·exact qh.out _ _ P3
    clear hK K;try simp only [Act.put,zA]
    refine wpAnyH_done (by kernel_rfl) ?_ _
    go_wp2_with fail;go_meet;rw [IE] at P3;exact P3
   case rest=>
    obtain ⟨W5,hW5⟩:=zQ wc;subst hW5;have NP5:=Hy hcut;have LK:=ak hcut.gr Vp.out (fun e=>LM (Option.some.inj e))
    have Qw:=Hy LK;have n0:W5.cell? ⟨Kg,0,none⟩=some (.string zg):=LK.cell 0;have n1:W5.cell? ⟨Kg,1,none⟩=some (Iv Wn):=LK.cell 1;have n2:W5.cell? ⟨Kg,2,none⟩=some (Iv gn):=LK.cell 2;have n3:W5.cell? ⟨Kg,3,none⟩=some (Iv gp):=LK.cell 3;have nl:=LK.lt;clear hcut HS qh I5 HGO HGO0 J LK c0 cl;go_wp2_with fail;refine (YX.out _).mono ?_;rintro e W6 ⟨rfl,Hu⟩;have Yg:=Qw.out.below Hu Qw.out.lt;have n3':W6.cell? ⟨Kg,3,none⟩=some (Iv gp):=Yg.cell 3;have nl':=Yg.lt;have Vn:=Hy (NP5.out.low Hu);have I5:=Hy (show ∀bb,Calls prog 31 #[crp X,.bool bb,Iv 9,Iv gp] W6 fun e w'=>e=.returned (.tuple #[])/\NoP X {S with d:=dN (dN d SY.isSome 5 gp) bb 9 gp} W6 w' from fun bb=>dz (S:={S with d:=dN d SY.isSome 5 gp}) Vn.out.rv bb 9 gp)
    clear n0 n1 n2 n3 nl Hu Yg;go_wp2_with fail;refine (I5.out _).mono ?_;rintro e W7 ⟨rfl,P7⟩;have HQ:=Hy (show NoP X {S with d:=dN (dN d SY.isSome 5 gp) (decide (4096<min (b+sz) 1099511627776)) 9 gp} w W7 from by
     have h9:=I4.out.trans (Vn.out.trans P7);first|exact h9|simpa using h9)
    clear P7 n3' nl' I5;go_wp2_with fail;go_roundw
    case rel=>exact ⟨k+1,min (b+sz) 1099511627776,_,by omega,by go_num,rfl,by omega,by omega,HGR.out,HQ.out⟩
    case measure=>simp [intOf];omega
end
end
section
open Go Go.RowKit Go.Maps
theorem yn {W:World}{b i:Nat}{x y z:Value}(h:Ce W b 0 x/\Ce W b 1 y/\Ce W b 2 z/\b<W.heap.size)(aD:i≠b)(o:Nat)(u:Value) :
  (W.setCell (Ad i o) u).cell? (Ad b 0)=some x/\(W.setCell (Ad i o) u).cell? (Ad b 1)=some y/\(W.setCell (Ad i o) u).cell? (Ad b 2)=some z/\b< (W.setCell (Ad i o) u).heap.size:=by
 have hb:∀k,(W.setCell (Ad i o) u).cell? (Ad b k)=W.cell? (Ad b k):=fun k=>by
  simp only [World.cell?,Below.heap_setCell W (Ad i o) u b (fun e=>aD e.symm)]
 exact ⟨(hb 0).trans h.1,(hb 1).trans h.2.1,(hb 2).trans h.2.2.1,by simpa using h.2.2.2⟩
theorem Az {pg:Pg}{gs:List Gl}{fl:List (Fn'×Value)}{vls:List Value}{ns:List CN}{tr:List (Int×Int)}{vs:List (List Int)}{gA fA nA:Option Addr}{gc fc nc:Nat}{w:World}(h:PgR w gA fA nA gc fc nc gs fl vls ns tr vs)
  (hg:gs=pg.g) (hfe:fl.map (·.1)=pg.f) (aD:ns.map CN.nd=pg.t.flat 0) (kH:gs.length<=1000000) (uo:fl.length<=1000000) (mf:ns.length<=1000000) (F9:∀x∈fl,x.1.ps.length<=1000000) (sZ:∀x∈ns,x.kids.length<=1000000) (Bt:∀l∈vs,l.length<=1000000) :
  Calls prog 9 #[pgV gA fA nA gs.length gc fl.length fc ns.length nc] w fun e w'=>∃gA' yP zZ gc' xS yG ml yB ms,e=.returned (pgV gA' yP zZ gs.length gc' fl.length xS ns.length yG)/\PgC w.heap.size w' gA' yP zZ gc' xS yG pg ml yB ms tr vs/\Zw w w':=by
 subst hg;obtain ⟨ng,Qe⟩:=zN pg.g.length;obtain ⟨nf,NY⟩:=zN fl.length;obtain ⟨N,OI⟩:=zN ns.length;have hG:=h.pi.g;have hF:=h.pi.f;have hN:=h.pi.n;rw [Qe] at hG kH;rw [NY] at hF uo;rw [OI] at hN mf;have HC:Hid ((∀W,Zw w W->Calls prog 19 #[.slice gA ng gc] W fun e w'=>∃A c,e=.returned (.slice A ng c)/\w'.ownsRow w.heap.size tGb 4 (.slice A ng c) ng (pg.g.flatMap glC)/\Zw W w')/\
   (∀W,Zw w W->Calls prog 20 #[.slice fA nf fc] W fun e w'=>∃A c ms yB,e=.returned (.slice A nf c)/\ms.map (·.1)=fl.map (·.1)/\yB.length=nf/\w'.ownsRow w.heap.size tFu 6 (.slice A nf c) nf (dE ms yB)/\(∀x∈ms,w'.ownsRow w.heap.size tPr 2 x.2 x.1.ps.length (x.1.ps.flatMap cz))/\(∀(j:Nat) (u:Value) (l:List Int),yB[j]? =some u->vs[j]? =some l->w'.ownsRow w.heap.size aC 1 u l.length (ints l))/\Zw W w')/\
   (∀W,Zw w W->Calls prog 21 #[.slice nA N nc] W fun e w'=>∃A c ms,e=.returned (.slice A N c)/\ms.map CN.nd=ns.map CN.nd/\w'.ownsRow w.heap.size tNd 8 (.slice A N c) N (aI ms tr)/\(∀x∈ms,w'.ownsRow w.heap.size aC 1 x.v x.kids.length (ints (bK x.kids)))/\Zw W w')):=by
  refine Hy ⟨fun W hW=>?_,fun W hW=>?_,fun W hW=>?_⟩
  ·refine (Lf pg.g ng Qe kH gA gc W (hG.on hW)).mono ?_;rintro e w' ⟨v,rfl,hr,hb⟩;obtain ⟨A,c,rfl⟩:=bJ hr;exact ⟨A,c,rfl,bg hr hW.size,hb⟩
  ·refine (Ia fl vls vs nf NY uo (h.pi.vl.trans NY) (h.vn.trans NY) fA fc W (hF.on hW) (fun x hx=>(h.pi.ps x hx).on hW) (fun j v l a b=>(h.vr j v l a b).on hW) F9 Bt).mono ?_
   rintro e w' ⟨v,ms,yB,rfl,hm,hu,hr,hk,hv,hb⟩;obtain ⟨A,c,rfl⟩:=bJ hr;exact ⟨A,c,ms,yB,rfl,hm,hu,bg hr hW.size,fun x hx=>bg (hk x hx) hW.size,fun j u l a b=>bg (hv j u l a b) hW.size,hb⟩
  ·refine (H7 ns tr h.pi.tl N OI mf nA nc W (hN.on hW) (fun x hx=>(h.pi.ks x hx).on hW) sZ).mono ?_
   rintro e w' ⟨v,ms,rfl,hm,hr,hk,hb⟩;obtain ⟨A,c,rfl⟩:=bJ hr;exact ⟨A,c,ms,rfl,hm,bg hr hW.size,fun x hx=>bg (hk x hx) hW.size,hb⟩
 have HE:=Hy7 hfe aD Qe NY OI h.pi.tl h.vn;rw [Qe,NY,OI];clear hG hF hN hfe aD Qe NY OI kH uo F9 sZ Bt mf h;go_enter func9,ntmps9;go_upto_region 1 with (fail);have b1:Blk ((w.alloc (.cells #[.slice gA ng gc,.slice fA nf fc,.slice nA N nc] tPg)).alloc (.cells #[aS,aS,aS] tPg)) w.heap.size tPg #[.slice gA ng gc,.slice fA nf fc,.slice nA N nc]:=(Blk.new w tPg _).alloc _;have b2:=Blk.new (w.alloc (.cells #[.slice gA ng gc,.slice fA nf fc,.slice nA N nc] tPg)) tPg #[aS,aS,aS];have e2:(w.alloc (.cells #[.slice gA ng gc,.slice fA nf fc,.slice nA N nc] tPg)).heap.size=w.heap.size+1:=by simp
 rw [e2] at b2;have hb:Zw w ((w.alloc (.cells #[.slice gA ng gc,.slice fA nf fc,.slice nA N nc] tPg)).alloc (.cells #[aS,aS,aS] tPg)):=((zB _ _).alloc (zL _) _).alloc (by simp) _
 clear e2;generalize (w.alloc (.cells #[.slice gA ng gc,.slice fA nf fc,.slice nA N nc] tPg)).alloc (.cells #[aS,aS,aS] tPg)=W1 at *;have HB:=Hy hb;have B1:=Hy b1;have B2:=Hy b2;have p0:Ce W1 w.heap.size 0 (.slice gA ng gc):=b1.cell 0;have p1:Ce W1 w.heap.size 1 (.slice fA nf fc):=b1.cell 1;have p2:Ce W1 w.heap.size 2 (.slice nA N nc):=b1.cell 2;have pl:=b1.lt;clear hb b1 b2;go_region_held2 (fun W=>Ce W w.heap.size 0 (.slice gA ng gc)/\Ce W w.heap.size 1 (.slice fA nf fc)/\Ce W w.heap.size 2 (.slice nA N nc)/\w.heap.size<W.heap.size) (first|exact ⟨p0,p1,p2,pl⟩|exact ⟨q0,q1,q2,ql⟩|exact ⟨s0,s1,s2,sl⟩|exact ⟨t0,t1,t2,tl⟩|exact yn (yn (yn ⟨t0,t1,t2,tl⟩ (by omega) _ _) (by omega) _ _) (by omega) _ _)
  (first
   | (go_at_call 19;refine (HC.1 _ (by first|exact HB|exact HB.drew)).mono ?_;rintro e w1 ⟨A1,c1,rfl,r1,av⟩;have iK:Hid (Zw w w1):=Hy (by first|exact HB.trans (av.mono HB.size)|exact HB.drew.trans (av.mono HB.size));have B11:=Hy (show Blk w1 w.heap.size tPg #[.slice gA ng gc,.slice fA nf fc,.slice nA N nc] from (av.block _ B1.out.lt).trans B1.out);have B12:=Hy (show Blk w1 (w.heap.size+1) tPg #[aS,aS,aS] from (av.block _ B2.out.lt).trans B2.out);have R1:=Hy r1;have q0:Ce w1 w.heap.size 0 (.slice gA ng gc):=B11.out.cell 0;have q1:Ce w1 w.heap.size 1 (.slice fA nf fc):=B11.out.cell 1;have q2:Ce w1 w.heap.size 2 (.slice nA N nc):=B11.out.cell 2;have ql:=B11.out.lt;clear av r1)
   | (go_at_call 20;refine (HC.2.1 _ (by first|exact iK|exact iK.drew)).mono ?_;rintro e w2 ⟨A2,c2,ml,yB,rfl,GZ,XL,r2,rk2,rv2,aU⟩;have Nc:Hid (Zw w w2):=Hy (by first|exact iK.trans (aU.mono iK.size)|exact iK.drew.trans (aU.mono iK.size));have B21:=Hy (show Blk w2 w.heap.size tPg #[.slice gA ng gc,.slice fA nf fc,.slice nA N nc] from (aU.block _ B11.out.lt).trans B11.out);have B22:=Hy (show Blk w2 (w.heap.size+1) tPg #[aS,aS,aS] from (aU.block _ B12.out.lt).trans B12.out);have R2:=Hy6 (ic aU R1.out) r2 rk2 rv2 GZ XL;have s0:Ce w2 w.heap.size 0 (.slice gA ng gc):=B21.out.cell 0;have s1:Ce w2 w.heap.size 1 (.slice fA nf fc):=B21.out.cell 1;have s2:Ce w2 w.heap.size 2 (.slice nA N nc):=B21.out.cell 2;have sl:=B21.out.lt;clear aU r2 rk2 rv2 GZ XL)
   | (go_at_call 21;refine (HC.2.2 _ (by first|exact Nc|exact Nc.drew)).mono ?_;rintro e w3 ⟨A3,c3,ms,rfl,hm3,r3,rk3,lW⟩;have QB:Hid (Zw w w3):=Hy (by first|exact Nc.trans (lW.mono Nc.size)|exact Nc.drew.trans (lW.mono Nc.size));have B31:=Hy (show Blk w3 w.heap.size tPg #[.slice gA ng gc,.slice fA nf fc,.slice nA N nc] from (lW.block _ B21.out.lt).trans B21.out);have U1:=Hy (show Blk w3 (w.heap.size+1) tPg #[aS,aS,aS] from (lW.block _ B22.out.lt).trans B22.out);have R3:=Hy8 (ic lW R2.out.1) (ic lW R2.out.2.1) (fun x hx=>ic lW (R2.out.2.2.1 x hx)) (fun j u l a b=>ic lW (R2.out.2.2.2.1 j u l a b)) R2.out.2.2.2.2 r3 rk3 hm3;have t0:Ce w3 w.heap.size 0 (.slice gA ng gc):=B31.out.cell 0;have t1:Ce w3 w.heap.size 1 (.slice fA nf fc):=B31.out.cell 1;have t2:Ce w3 w.heap.size 2 (.slice nA N nc):=B31.out.cell 2;have tl:=B31.out.lt;have d0:Ce w3 (w.heap.size+1) 0 aS:=U1.out.cell 0;have d1:Ce w3 (w.heap.size+1) 1 aS:=U1.out.cell 1;have d2:Ce w3 (w.heap.size+1) 2 aS:=U1.out.cell 2;have dl:=U1.out.lt;have df0:=U1.out.frozen 0;have df1:=U1.out.frozen 1;have df2:=U1.out.frozen 2;clear lW r3 rk3 hm3))
 all_goals
  have hd:Blk (((w3.setCell (Ad (w.heap.size+1) 0) (.slice A1 ng c1)).setCell (Ad (w.heap.size+1) 1) (.slice A2 nf c2)).setCell (Ad (w.heap.size+1) 2) (.slice A3 N c3)) (w.heap.size+1) tPg #[.slice A1 ng c1,.slice A2 nf c2,.slice A3 N c3]:=((U1.out.af 0 _).af 1 _).af 2 _;have eu:Zw w (((w3.setCell (Ad (w.heap.size+1) 0) (.slice A1 ng c1)).setCell (Ad (w.heap.size+1) 1) (.slice A2 nf c2)).setCell (Ad (w.heap.size+1) 2) (.slice A3 N c3)):=((QB.setCell (p:=(Ad (w.heap.size+1) 0)) (by simp) _).setCell (p:=(Ad (w.heap.size+1) 1)) (by simp) _).setCell (p:=(Ad (w.heap.size+1) 2)) (by simp) _
  have Oc:∀{B n sz:Nat} {T:TypeId} {v:Value} {cs:List Value},w3.ownsRow B T sz v n cs->T≠tPg->(((w3.setCell (Ad (w.heap.size+1) 0) (.slice A1 ng c1)).setCell (Ad (w.heap.size+1) 1) (.slice A2 nf c2)).setCell (Ad (w.heap.size+1) 2) (.slice A3 N c3)).ownsRow B T sz v n cs:=fun {B n sz T v cs} h hT=>jR (jR (jR h U1.out hT) (U1.out.af 0 _) hT) ((U1.out.af 0 _).af 1 _) hT
  have QE:ml.length=nf:=by have h:=congrArg List.length R3.out.2.2.2.2.1.1;rw [List.length_map,List.length_map,HE.2.2.2.1] at h;exact h
  have hls:ms.length=N:=by have h:=congrArg List.length R3.out.2.2.2.2.2.2.2;rw [List.length_map,List.length_map,HE.2.2.2.2.1] at h;exact h
  have OM:=Hy (And.intro hd (And.intro eu (show PgC w.heap.size (((w3.setCell ⟨w.heap.size+1,0,none⟩ (.slice A1 ng c1)).setCell ⟨w.heap.size+1,1,none⟩ (.slice A2 nf c2)).setCell ⟨w.heap.size+1,2,none⟩ (.slice A3 N c3)) A1 A2 A3 c1 c2 c3 pg ml yB ms tr vs from
   {g:=by rw [HE.2.2.1];exact Oc R3.out.1 (by decide)
    f:=by rw [QE];exact Oc R3.out.2.1 (by decide)
    n:=by rw [hls];exact Oc R3.out.2.2.2.2.2.1 (by decide)
    vl:=R3.out.2.2.2.2.1.2.trans QE.symm
    tl:=by rw [hls,<-HE.2.2.2.2.1];exact HE.2.2.2.2.2.1
    vn:=by rw [QE,<-HE.2.2.2.1];exact HE.2.2.2.2.2.2
    ps:=fun x hx=>Oc (R3.out.2.2.1 x hx) (by decide)
    ks:=fun x hx=>Oc (R3.out.2.2.2.2.2.2.1 x hx) (by decide)
    vr:=fun j u l a b=>Oc (R3.out.2.2.2.1 j u l a b) (by decide)
    fe:=R3.out.2.2.2.2.1.1.trans HE.1
    ne:=R3.out.2.2.2.2.2.2.2.trans HE.2.1})))
  clear hd eu Oc QE hls;go_wp2_with fail;refine bodyPost_ret (results_cell_row rfl _ _ (w.heap.size+1) tPg _ (0,0) _ rfl OM.1 underlying27 rfl uN) rfl ?_;exact ⟨_,_,_,_,_,_,ml,yB,ms,rfl,OM.2.2,OM.2.1⟩
end
end Go.Proofs.YtcchdlnfeijinaaGreatDoor
