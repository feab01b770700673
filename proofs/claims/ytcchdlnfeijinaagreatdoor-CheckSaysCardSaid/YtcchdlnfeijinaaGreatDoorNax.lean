/- Crz to Crz: Layer check, the document's answer: a function's body. -/
import Derived.Test.YtcchdlnfeijinaaGreatDoorNaw
namespace Go.Proofs.YtcchdlnfeijinaaGreatDoor
open Go.Proofs.Tryz
set_option linter.unusedSimpArgs false
set_option linter.unusedVariables false
set_option maxHeartbeats 4000000
set_option maxRecDepth 100000
section
open Go Go.RowKit Go.Maps
theorem zA.{u}:(∀{α:Type u}(l:List α)(i:Nat)(a:α),l.toArray.setIfInBounds i a=(l.set i a).toArray)/\(∀{α:Type u}(x a:α)(l:List α),(x::l).set 0 a=a::l)/\(∀{α:Type u}(x a:α)(l:List α)(n:Nat),(x::l).set (n+1) a=x::l.set n a):=⟨fun l i a=>by simp,fun _ _ _=>rfl,fun _ _ _ _=>rfl⟩
theorem tJ (ps:List Pm):∀(k i:Nat) (p:Pm),ps[k]? =some p->iy (ps.take (k+1)) i=iy (ps.take k) i ++ [⟨p.s,i+k,1⟩]:=by
 induction ps with
 |nil=>intro k i p h;simp at h
 |cons q l ih=>
  intro k i p h;cases k with
  |zero=>
   rw [List.getElem?_cons_zero,Option.some.injEq] at h;subst h;simp [iy]
  |succ k=>
   rw [List.getElem?_cons_succ] at h;rw [List.take_succ_cons,iy,ih k (i+1) p h,List.take_succ_cons,iy,List.cons_append,show i+1+k=i+(k+1) by omega]
theorem zX {w:World}{B n sz:Nat}{t:TypeId}{v:Value}{xs:List Value}(h:w.ownsRow B t sz v n xs):∃A c,v=.slice A n c:=(RdS.av h).shape
theorem wS (ps:List Pm):∀i,(iy ps i).length=ps.length:=by
 induction ps with
 |nil=>intro i;rfl
 |cons q l ih=>intro i;simp [iy,ih]
theorem FY (ps:List Pm):∀i,∀y∈iy ps i,y.i<i+ps.length:=by
 induction ps with
 |nil=>intro i y hy;simp [iy] at hy
 |cons q l ih=>
  intro i y hy;rw [iy,List.mem_cons] at hy;rw [List.length_cons];rcases hy with rfl|hy
  ·simp
  ·have:=ih (i+1) y hy;omega
section
variable {X:RX} {S:RS} {w w':World}
theorem RV.begin (h:RV X S w){fi:Nat}(hi:fi<X.fl.length)(hv:S.vls[fi]? =some (.slice none 0 0))(hs:S.vs[fi]? =some []) :
  RV X ⟨fi,w.heap.size,[],.slice none 0 0,0,S.d,S.tr,S.vls,S.vs⟩ (((w.setCell ⟨X.b,3,none⟩ (Iv (fi:Nat))).setCell ⟨X.b,4,none⟩ (.slice none 0 0)).setCell ⟨X.b,5,none⟩ (Iv 0))/\
  w.grownBy (((w.setCell ⟨X.b,3,none⟩ (Iv (fi:Nat))).setCell ⟨X.b,4,none⟩ (.slice none 0 0)).setCell ⟨X.b,5,none⟩ (Iv 0)) (some X.b):=by
 have hk:Kind w X.b tCr:=h.chk.kind;have hg:=fG (fG (ko w X.b 3 (Iv (fi:Nat))) (ko _ X.b 4 (.slice none 0 0))) (ko _ X.b 5 (Iv 0));have hr:∀{base sz n:Nat} {T:TypeId} {v:Value} {xs:List Value},w.ownsRow base T sz v n xs->T≠tCr->∀r,some X.b=some r->v.ownBlock≠some r:=by
  intro base sz n T v xs h1 hT r hr e;cases hr;exact au (ag h1 e) hk hT rfl
 refine ⟨?_,hg⟩;exact {
  chk:=by
   have h9:=((h.chk.af 3 (Iv (fi:Nat))).af 4 (.slice none 0 0)).af 5 (Iv 0)
   simpa [gu] using h9
  g:=ah hg h.g (hr h.g (by decide))
  f:=ah hg h.f (hr h.f (by decide))
  n:=ah hg h.n (hr h.n (by decide))
  l:=World.ownsRow_nil _ _ _ _
  ps:=fun x hx=>ah hg (h.ps x hx) (hr (h.ps x hx) (by decide))
  ks:=fun x hx=>by
   have h9:=az hg (h.ks x hx) (hr (h.ks x hx).1 (by decide))
   exact ⟨h9.1,fun g Ir=>((h.ks x hx).1.lt g Ir).2⟩
  cur:=fun v l h1 h2=>by
   simp only at h1 h2;rw [hv] at h1;rw [hs] at h2;cases h1;cases h2;exact World.ownsRow_nil _ _ _ _
  old:=fun j v l h0 h1 h2=>by
   simp only at h0 h1 h2;by_cases hj:j=S.F
   ·subst hj;have h3:=h.cur v l h1 h2;exact ⟨(ah hg h3 (hr h3 (by decide))).mono h.hB.2.1,fun g Ir=>(h3.lt g Ir).2⟩
   ·have h3:=h.old j v l hj h1 h2;exact ⟨ah hg h3.1 (hr h3.1 (by decide)),fun g Ir=>(h3.1.lt g Ir).2⟩
  vl:=h.vl
  vn:=h.vn
  tl:=h.tl
  hB:=⟨h.hB.1,h.Bw,by simp⟩}
theorem RV.Ir (h:RV X S w){v v':Value}{l l':List Int}{g:Nat}(hA:X.fA=some ⟨g,0,none⟩)(hF:S.F<X.fl.length)(hv:S.vls[S.F]? =some v)(hl:S.vs[S.F]? =some l)(Qm:w.grownBy w' v.ownBlock)(ai:w'.ownsRow S.H aC 1 v' l'.length (ints l')) :
  RV X {S with vls:=S.vls.set S.F v',vs:=S.vs.set S.F l'} (w'.setCell ⟨g,S.F * 6+5,none⟩ v')/\FrP X w (w'.setCell ⟨g,S.F * 6+5,none⟩ v'):=by
 have xc:=h.cur v l hv hl;have Tj:∀r,v.ownBlock=some r->S.H<=r:=fun r hr=>(xc.lt r hr).1
 have O7:∀{base sz n:Nat} {T:TypeId} {u:Value} {xs:List Value},w.ownsRow base T sz u n xs->T≠aC->∀r,v.ownBlock=some r->u.ownBlock≠some r:=by
  intro base sz n T u xs h1 hT r hr e;exact au (ag h1 e) (ag xc hr) hT rfl
 have hrB:∀{sz n:Nat} {T:TypeId} {u:Value} {xs:List Value},lM w X.B S.H T sz u n xs->∀r,v.ownBlock=some r->u.ownBlock≠some r:=fun h1 r hr e=>by
  have h2:=h1.2 r e;have h3:=Tj r hr;omega
 have Bt:=h.vl;have NP:=h.vn;obtain ⟨f,hf⟩:∃x,X.fl[S.F]? =some x:=⟨_,List.getElem?_eq_getElem hF⟩;have qA:=ah Qm h.f (O7 h.f (by decide))
 rw [hA] at qA;obtain ⟨hn,hg⟩:=qA.stored (S.F * 6+5) v';rw [oG X.fl S.vls S.F hf hv v'] at hn;have hk:Kind w' g tFu:=ag qA rfl;have hr:∀{base sz n:Nat} {T:TypeId} {u:Value} {xs:List Value},w'.ownsRow base T sz u n xs->T≠tFu->∀r,some g=some r->u.ownBlock≠some r:=by
  intro base sz n T u xs h1 hT r hr e;cases hr;exact au (ag h1 e) hk hT rfl
 have two:∀{base sz n:Nat} {T:TypeId} {u:Value} {xs:List Value},w.ownsRow base T sz u n xs->T≠aC->T≠tFu->(w'.setCell ⟨g,S.F * 6+5,none⟩ v').ownsRow base T sz u n xs:=fun h1 hT YC=>
  ah hg (ah Qm h1 (O7 h1 hT)) (hr (ah Qm h1 (O7 h1 hT)) YC)
 have Bo:Blk w' X.b tCr (gu X S):=ak Qm h.chk (fun e=>au (ag xc e) h.chk.kind (by decide) rfl)
 refine ⟨?_,?_,?_⟩
 ·exact {
   chk:=ak hg Bo (fun e=>au Bo.kind hk (by decide) (Option.some.inj e).symm)
   g:=two h.g (by decide) (by decide)
   f:=by rw [hA];exact hn
   n:=two h.n (by decide) (by decide)
   l:=two h.l (by decide) (by decide)
   ps:=fun x hx=>two (h.ps x hx) (by decide) (by decide)
   ks:=fun x hx=>by
    have h3:=az Qm (h.ks x hx) (hrB (h.ks x hx));exact az hg h3 (hr h3.1 (by decide))
   cur:=fun u l h1 h2=>by
    simp only at h1 h2;rw [List.getElem?_set_self (by omega)] at h1 h2
    cases h1;cases h2;exact ah hg ai (hr ai (by decide))
   old:=fun j u l h0 h1 h2=>by
    simp only at h0 h1 h2;rw [List.getElem?_set_ne (fun e=>h0 e.symm)] at h1 h2
    have h3:=az Qm (h.old j u l h0 h1 h2) (hrB (h.old j u l h0 h1 h2));exact az hg h3 (hr h3.1 (by decide))
   vl:=by simpa using Bt
   vn:=by simpa using NP
   tl:=h.tl
   hB:=⟨h.hB.1,h.hB.2.1,by have:=h.hB.2.2;have:=Qm.size;simp;omega⟩}
 ·have hgB:X.B<=g:=(qA.lt g rfl).1;have h1:Below X.B w w':=⟨Qm.os,Qm.tape,Qm.output,Qm.size,fun m hm=>Qm.block m (zT hm h.Bw) (fun e=>by
   have h2:=Tj m e.symm;have h3:=h.hB.2.1;omega)⟩
  exact h1.setCell (p:=⟨g,S.F * 6+5,none⟩) hgB _
 ·intro m hm Ul _;have h1:w'.heap[m]? =w.heap[m]?:=Qm.block m hm (fun e=>au (ag xc e.symm) Ul (by decide) rfl)
  rw [hg.block m (zT hm Qm.size) (fun e=>by
   cases e;have Ye:Kind w' g tNd:=by obtain ⟨c,fz,e2⟩:=Ul;exact ⟨c,fz,h1.trans e2⟩
   exact au hk Ye (by decide) rfl)]
  exact h1
structure BdX (X:RX):Prop where
 n2:X.ns.length<=100000
 k2:∀x∈X.ns,x.kids.length<=1000000
 kd:∀x∈X.ns,∀k∈x.kids,k<X.ns.length
 ar:∀x∈X.ns,arity x.h.op x.kids.length=true
 gn:X.gs.length<=1000000
 fn:X.fl.length<=1000000
 pn:∀x∈X.fl,x.1.ps.length<=100000
theorem BdX.wk (hb:BdX X){fi c:Nat}{f:Fn'×Value}{h:Hd}{k:Fo}(hf:X.fl[fi]? =some f)(Nz:f.1.b=c+k.size)(xu:∀m n,((Fo.cons h k .nil).flat c)[m]? =some n->(X.ns.map CN.nd)[c+m]? =some n):WkX X fi c (c+k.size) f where
 fF:=hf
 fb:=Nz
 n2:=by have:=hb.n2;omega
 k2:=hb.k2
 kd:=hb.kd
 ar:=hb.ar
 gn:=hb.gn
 fn:=hb.fn
 it:=fun S w hR t W hW=>by
  have h9:=KJ hR (by have:=hb.n2;omega) hb.k2 t (.cons h k .nil) c xu 0 (c+k.size) rfl W hW
  rw [Fo.kH] at h9;exact h9
theorem MP (h:RV X S w)(hb:BdX X){fi c:Nat}{f:Fn'×Value}{hd:Hd}{kk:Fo}(hf:X.fl[fi]? =some f)(Nz:f.1.b=c+kk.size)(xu:∀m n,((Fo.cons hd kk .nil).flat c)[m]? =some n->(X.ns.map CN.nd)[c+m]? =some n)
  (hv:S.vls[fi]? =some (.slice none 0 0)) (hs:S.vs[fi]? =some []) :
  Calls prog 29 #[crp X,Iv (fi:Nat)] w fun e w'=>e=.returned (.tuple #[])/\∃H' lv' v',RV X ⟨fi,H',(fH X.gs (X.fl.map (·.1)) X.ns f.1 hd kk c S.tr S.d).L,lv',(fH X.gs (X.fl.map (·.1)) X.ns f.1 hd kk c S.tr S.d).deep,(fH X.gs (X.fl.map (·.1)) X.ns f.1 hd kk c S.tr S.d).d,(fH X.gs (X.fl.map (·.1)) X.ns f.1 hd kk c S.tr S.d).tr,S.vls.set fi v',S.vs.set fi (fH X.gs (X.fl.map (·.1)) X.ns f.1 hd kk c S.tr S.d).vs⟩ w'/\Below X.B w w':=by
 have UQ:=Hy (hb.wk hf Nz xu);have uo:=(zS.1 hf).1;obtain ⟨h1,LZ⟩:=h.begin uo hv hs;have Yk:fi<S.vls.length:=by rw [h.vl];exact uo
 have Yj:fi<S.vs.length:=by rw [h.vn];exact uo
 obtain ⟨H1,LP⟩:=zN w.heap.size;rw [LP] at h1;have Rp:=zG hf;have Da:=hb.pn _ Rp;obtain ⟨⟨fs,fty,uV,fb,fp⟩,fpv⟩:=f;simp only at Da Nz;obtain ⟨pn,XT⟩:=zN uV.length;have qz:=h.ps _ Rp;simp only at qz;rw [XT] at qz Da;obtain ⟨pA,pc,rfl⟩:=(RdS.av qz).shape;obtain ⟨gf,MJ⟩:∃g,X.fA=some ⟨g,0,none⟩:=by
  rcases h.f.2 with ⟨_,e⟩|⟨g,_,_,e,_⟩
  ·omega
  ·simp only [Value.slice.injEq] at e;exact ⟨g,e.1⟩
 have hc:=fun j hj=>bQ X.fl S.vls fi j hj hf hv
 have e0:(dE X.fl S.vls)[fi * 6]? =some (.string (str fs)):=hc 0 (by omega)
 obtain ⟨g',o',Pq,kH,qi⟩:=(RdS.av h1.f).get (dQ e0);rw [MJ] at Pq;simp only [Option.some.injEq,Addr.mk.injEq,and_true] at Pq;obtain ⟨rfl,rfl⟩:=Pq;obtain ⟨zf,Zo⟩:=zN (str fs);have y0:=qi _ _ (hc 0 (by omega))
 have y1:=qi _ _ (hc 1 (by omega))
 have y2:=qi _ _ (hc 2 (by omega))
 have y3:=qi _ _ (hc 3 (by omega))
 have y4:=qi _ _ (hc 4 (by omega))
 have y5:=qi _ _ (hc 5 (by omega))
 simp only [Ss,fnC,List.getElem?_cons_zero,List.getElem?_cons_succ,Nat.zero_add,Nat.add_zero,Zo] at y0 y1 y2 y3 y4 y5;obtain ⟨fn,ut⟩:=zN X.fl.length;have hfI:(fi:Int)<fn:=by omega
 have c1:=h1.c1;rw [ut,MJ] at c1;have k3:=h.c3;have k4:=h.c4;have k5:=h.c5;have q3:=h.chk.frozen 3;have q4:=h.chk.frozen 4;have q5:=h.chk.frozen 5;have cl:=h.chk.lt;obtain ⟨oF,hoF⟩:∃q:Value,Iv (S.F:Nat)=q:=⟨_,rfl⟩;obtain ⟨oD,hoD⟩:∃q:Value,Iv S.deep=q:=⟨_,rfl⟩;obtain ⟨oL,hoL⟩:∃q:Value,S.lv=q:=⟨_,rfl⟩;rw [hoF] at k3;rw [hoL] at k4;rw [hoD] at k5;have H1V:=Hy (show RV X (⟨fi,H1,[],(.slice none 0 0),0,S.d,S.tr,S.vls.set fi (.slice none 0 0),S.vs.set fi []⟩:RS) _ from by
  have e1:S.vls.set fi (.slice none 0 0)=S.vls:=by
   apply List.ext_getElem?;intro j;by_cases hj:fi=j
   ·subst hj;rw [List.getElem?_set_self Yk,hv]
   ·rw [List.getElem?_set_ne hj]
  have e2:S.vs.set fi []=S.vs:=by
   apply List.ext_getElem?;intro j;by_cases hj:fi=j
   ·subst hj;rw [List.getElem?_set_self Yj,hs]
   ·rw [List.getElem?_set_ne hj]
  rw [e1,e2];exact h1)
 have HX:=Hy11 h hb hf Nz uo XT MJ ut LP Yk Yj;have Z9:=Hy LZ;have HSEG:=Hy xu;have HZF:=Hy Zo;have HMF:=Hy Rp;clear h hb hf Nz uo XT MJ ut h1 LZ xu hv hs Rp hc e0 qi qz Zo hoF hoD hoL Yk Yj;go_enter func29,ntmps29;go_upto_region 3 with (fail);generalize ((w.setCell ⟨X.b,3,none⟩ (Iv (fi:Nat))).setCell ⟨X.b,4,none⟩ (.slice none 0 0)).setCell ⟨X.b,5,none⟩ (Iv 0)=W1 at *;clear k3 k4 k5 q3 q4 q5 oF oD oL;have cl1:=H1V.out.chk.lt;have Sy:Below W1.heap.size W1 (W1.alloc (.cells #[.string zf,Iv fty,.slice pA pn pc,Iv (fb:Nat),Iv fp,.slice none 0 0] tFu)):=(zB _ _).alloc (zL _) _;have hk2:=Blk.new W1 tFu #[.string zf,Iv fty,.slice pA pn pc,Iv (fb:Nat),Iv fp,.slice none 0 0];have Oh:=H1V.out.on Sy;go_upto_region 4 with (fail);obtain ⟨Kf,V9⟩:=zN W1.heap.size;rw [V9] at hk2;have Xf:gf≠Kf:=by omega
 have LM:X.b≠Kf:=by omega
 have hKH:H1<=Kf:=by have h9:=Z9.out.size;have h8:=HX.out.2.2.2.2.2.2.2.2.1;omega
 generalize W1.alloc (.cells #[.string zf,Iv fty,.slice pA pn pc,Iv (fb:Nat),Iv fp,.slice none 0 0] tFu)=W2 at *;have K2:=Hy hk2;have R2:=Hy Oh;have hFr2:Below X.B w W2:=by
  have h9:=HX.out.1.hB;have h8:=HX.out.1.Bw;have h7:=Z9.out.size;exact (kK Z9.out h9.1 h8).trans (Sy.mono (by omega))
 have FR2:=Hy hFr2;try simp only [V9]
 have HKF:=Hy V9;have n2:W2.cell? ⟨Kf,2,none⟩=some (.slice pA pn pc):=K2.out.cell 2;have nl:=K2.out.lt;clear Sy hk2 Oh hFr2 V9 y0 y1 y2 y3 y4 y5 c1 kH cl cl1;go_wp2_with fail;go_loopw [5] (fun v wr=>∃k:Nat,k<=pn/\v=Iv k/\(∃lv' v',RV X (⟨fi,H1,(iy (uV.take k) 0),lv',0,S.d,S.tr,S.vls.set fi v',S.vs.set fi ((uV.take k).map (·.ty))⟩:RS) wr)/\Blk wr Kf tFu #[.string zf,Iv fty,.slice pA pn pc,Iv (fb:Nat),Iv fp,.slice none 0 0]/\Below X.B w wr) (fun v _=>pn - (intOf v).toNat)
 case atStart=>exact ⟨0,by omega,rfl,⟨_,_,R2.out⟩,K2.out,FR2.out⟩
 case round=>
  obtain ⟨k,hk,rfl,⟨Px,v1,hR⟩,YG,hFb⟩:=hrel;obtain ⟨wo,PT⟩:=zQ wr;subst PT;have n2:wo.cell? ⟨Kf,2,none⟩=some (.slice pA pn pc):=YG.cell 2;have nl:=YG.lt;by_cases hlt:k<pn
  case neg=>
   obtain rfl:pn=k:=by omega
   rw [List.take_of_length_le (by have:=HX.out.2.2.2.2.2.1;omega)] at hR
   obtain ⟨S2,Vg⟩:∃q:RS,(⟨fi,H1,iy uV 0,Px,0,S.d,S.tr,S.vls.set fi v1,S.vs.set fi (uV.map (·.ty))⟩:RS)=q:=⟨_,rfl⟩;rw [Vg] at hR;have YZ:=Hy Vg;have R2':=Hy hR;have Tw:=Hy YG;have HFb:=Hy hFb;obtain ⟨nn,DC⟩:=zN X.ns.length;have hnn2:nn<=100000:=by have h9:=HX.out.2.1.n2;omega
   have Y3:=Hy DC;have c2:=hR.c2;have cl:=hR.chk.lt;rw [DC] at c2;clear hR YG hFb Vg DC;go_wp2_with fail;go_loopw [6] (fun v wr=>∃k:Nat,k<=nn/\v=Iv k/\NoP X {S2 with d:=jv X.ns c (c+kk.size) k S.d} wo wr) (fun v _=>nn - (intOf v).toNat)
   case atStart=>exact ⟨0,by omega,rfl,by
    have h9:=NoP.refl R2'.out;rw [show ({S2 with d:=jv X.ns c (c+kk.size) 0 S.d}:RS)=S2 from by rw [<-YZ.out];rfl]
    exact h9⟩
   case round=>
    obtain ⟨k,hk,rfl,hP⟩:=hrel;obtain ⟨wq,hwq⟩:=zQ wr;subst hwq;have c2:=hP.rv.c2;have cl:=hP.rv.chk.lt;rw [Y3.out] at c2;by_cases hlt:k<nn
    case neg=>
     obtain rfl:nn=k:=by omega
     obtain ⟨S3,hS3⟩:∃q:RS,({S2 with d:=jv X.ns c (c+kk.size) nn S.d}:RS)=q:=⟨_,rfl⟩;rw [hS3] at hP;have e3:S3=(⟨fi,H1,iy uV 0,Px,0,jv X.ns c (c+kk.size) nn S.d,S.tr,S.vls.set fi v1,S.vs.set fi (uV.map (·.ty))⟩:RS):=by rw [<-hS3,<-YZ.out]
     have er:rst S3=⟨S.tr,iy uV 0,0,uV.map (·.ty),jv X.ns c (c+kk.size) nn S.d⟩:=by
      rw [e3];simp only [rst,List.getD,List.getElem?_set_self HX.out.2.2.2.2.2.2.2.2.2.2,Option.getD_some]
     have Nz:=HX.out.2.2.2.1;have sQ:=UQ.out;have JQ:c+kk.size<nn:=by
      have h9:=HSEG.out (kk.size) _ (by have h8:=iN (h:=hd) (k:=kk) (r:=.nil) (c:=c);exact h8)
      have h8:=(zS.1 h9).1;rw [List.length_map,Y3.out] at h8;exact h8
     have HC:=Hy (show Calls prog 64 #[crp X,Iv (fb:Nat)] wq fun e w'=>e=.returned (.tuple #[])/\sK X S3 wq (sD X.gs (X.fl.map (·.1)) fty (dP X c (c+kk.size)) (.cons hd kk .nil) c 0 (rst S3)) w' from by
      rw [Nz];exact LD (P:=pn) UQ.out (by rw [Y3.out];omega) (.cons hd kk .nil) c HSEG.out 0 (c+kk.size) rfl S3 wq hP.rv (by rw [e3]) (by
        rw [er,Fo.kH];have h7:=HX.out.2.2.2.2.2.1;exact ⟨by simp only [wS];omega,by simp only [List.length_map];omega,fun y hy=>by have h6:=FY uV 0 y hy;simp only [List.length_map];omega⟩) (by rw [e3];exact Int.le_refl _) (by rw [e3];simp only [Fo.size];omega))
     rw [er] at HC;have kf:=ak hP.gr Tw.out (fun e=>LM (Option.some.inj e))
     have n3:wq.cell? ⟨Kf,3,none⟩=some (Iv (fb:Nat)):=kf.cell 3;have nlf:=kf.lt;have HP:=Hy hP;have Zf:=Hy e3;have HFBB:=Hy Nz;clear hP e3 er Nz sQ kf hS3;go_wp2_with fail;refine HC.out.mono ?_;clear HC;rintro e w5 ⟨rfl,lv5,v5,Me,EG⟩;have HQ:=Hy (show ∃H' lv' v',RV X ⟨fi,H',(fH X.gs (X.fl.map (·.1)) X.ns ⟨fs,fty,uV,fb,fp⟩ hd kk c S.tr S.d).L,lv',(fH X.gs (X.fl.map (·.1)) X.ns ⟨fs,fty,uV,fb,fp⟩ hd kk c S.tr S.d).deep,(fH X.gs (X.fl.map (·.1)) X.ns ⟨fs,fty,uV,fb,fp⟩ hd kk c S.tr S.d).d,(fH X.gs (X.fl.map (·.1)) X.ns ⟨fs,fty,uV,fb,fp⟩ hd kk c S.tr S.d).tr,S.vls.set fi v',S.vs.set fi (fH X.gs (X.fl.map (·.1)) X.ns ⟨fs,fty,uV,fb,fp⟩ hd kk c S.tr S.d).vs⟩ w5/\Below X.B w w5 from by
      have eb:fH X.gs (X.fl.map (·.1)) X.ns ⟨fs,fty,uV,fb,fp⟩ hd kk c S.tr S.d=sD X.gs (X.fl.map (·.1)) fty (dP X c (c+kk.size)) (.cons hd kk .nil) c 0 ⟨S.tr,iy uV 0,0,uV.map (·.ty),jv X.ns c (c+kk.size) nn S.d⟩:=by
       unfold fH;rw [gN,<-Y3.out];simp only [aQ,sD]
      rw [eb];refine ⟨H1,lv5,v5,?_,HFb.out.trans ((kK HP.out.gr R2'.out.hB.1 R2'.out.Bw).trans EG.low)⟩;rw [Zf.out] at Me;simp only [upd,List.set_set] at Me;exact Me)
     clear Me EG n3 nlf c2 cl;go_wp2_with fail;go_end0;exact ⟨rfl,HQ.out⟩
    case pos=>
     obtain ⟨⟨⟨o1,o2,o3,o4,o5,o6⟩,yk,yv⟩,hy⟩:∃y,X.ns[k]? =some y:=⟨_,List.getElem?_eq_getElem (by have:=Y3.out;omega)⟩
     obtain ⟨⟨t1,t2⟩,hu⟩:∃u,S2.tr[k]? =some u:=⟨_,List.getElem?_eq_getElem (by have h9:=R2'.out.tl;have:=Y3.out;omega)⟩
     obtain ⟨kA,kn,kc,rfl⟩:∃A n c,yv=.slice A n c:=by have h9:=(RdS.av (hP.rv.ks _ (zG hy)).1).shape;obtain ⟨A,c,e⟩:=h9;exact ⟨A,_,c,e⟩
     have hrn:=RdS.av hP.rv.n;have hc:=fun j hj=>aV X.ns S2.tr k j hj hy hu
     have e0:(aI X.ns S2.tr)[k * 8]? =some (Iv o1):=hc 0 (by omega)
     obtain ⟨gn,on,X4,qm,qi⟩:=hrn.get (dQ e0);obtain ⟨zs,FV⟩:=zN (str o4);have y0:wq.cell? ⟨gn,on+k * 8,none⟩=_:=qi _ _ (hc 0 (by omega))
     have y1:wq.cell? ⟨gn,on+k * 8+1,none⟩=_:=qi _ _ (hc 1 (by omega))
     have y2:wq.cell? ⟨gn,on+k * 8+2,none⟩=_:=qi _ _ (hc 2 (by omega))
     have y3:wq.cell? ⟨gn,on+k * 8+3,none⟩=_:=qi _ _ (hc 3 (by omega))
     have y4:wq.cell? ⟨gn,on+k * 8+4,none⟩=_:=qi _ _ (hc 4 (by omega))
     have y5:wq.cell? ⟨gn,on+k * 8+5,none⟩=_:=qi _ _ (hc 5 (by omega))
     have y6:wq.cell? ⟨gn,on+k * 8+6,none⟩=_:=qi _ _ (hc 6 (by omega))
     have y7:wq.cell? ⟨gn,on+k * 8+7,none⟩=_:=qi _ _ (hc 7 (by omega))
     simp only [Ss,aA,List.getElem?_cons_zero,List.getElem?_cons_succ,Nat.add_zero,FV] at y0 y1 y2 y3 y4 y5 y6 y7;rw [X4] at c2;have Qj:(k:Int)<nn:=by omega
     have kf:=ak hP.gr Tw.out (fun e=>LM (Option.some.inj e))
     have HLD:=Hy (show jv X.ns c (c+kk.size) (k+1) S.d=dN (jv X.ns c (c+kk.size) k S.d) (jN X.ns c (c+kk.size) k) 5 o2 from by rw [jv,hy];rfl)
     have Ws:=Hy (show jN X.ns c (c+kk.size) k=(decide (o1=18) && (decide (c<=k/\k<=c+kk.size) && decide (0<iZ X.ns c (c+kk.size) o4 k))) from by unfold jN;rw [hy])
     have HPr:=Hy hP;have Vd:Below wq.heap.size wq (wq.alloc (.cells #[Iv o1,Iv o2,Iv o3,.string zs,Iv o5,.slice kA kn kc,Iv t1,Iv t2] tNd)):=(zB _ _).alloc (zL _) _;have Nu:=Blk.new wq tNd #[Iv o1,Iv o2,Iv o3,.string zs,Iv o5,.slice kA kn kc,Iv t1,Iv t2];have hkf:=kf.alloc (.cells #[Iv o1,Iv o2,Iv o3,.string zs,Iv o5,.slice kA kn kc,Iv t1,Iv t2] tNd);have JW:=hP.rv.on Vd;have HZ:=Hy FV;clear hP hy hu hrn hc e0 X4 qi kf FV;go_upto_region 13 with (fail);obtain ⟨Hn,hHn⟩:=zN wq.heap.size;rw [hHn] at Nu;generalize wq.alloc (.cells #[Iv o1,Iv o2,Iv o3,.string zs,Iv o5,.slice kA kn kc,Iv t1,Iv t2] tNd)=W at *;have Vp:=Hy Nu;have HKF:=Hy hkf;have LW:=Hy JW;have vS:=Hy Vd;try simp only [hHn]
     have hHX:X.b<Hn:=by omega
     have HHn:=Hy hHn;clear Nu hkf JW Vd hHn y0 y1 y2 y3 y4 y5 y6 y7 c2 cl qm;have Nz:=HX.out.2.2.2.1;have wW:X.ns.length<=1000000:=by have h9:=HX.out.2.1.n2;omega
     have sZ:k<=X.ns.length:=by rw [Y3.out];omega
     have ZN:X.fl[S2.F]? =some (⟨fs,fty,uV,fb,fp⟩,.slice pA pn pc):=by rw [<-YZ.out];exact HX.out.2.2.1
     obtain ⟨bi,hbi⟩:=zN (decide (c<=k/\k<=c+kk.size));obtain ⟨lr,Rq⟩:=zN (iZ X.ns c (c+kk.size) o4 k);have Ko:Hid (∀W',Below W.heap.size W W'->Calls prog 62 #[crp X,Iv (k:Nat),Iv (fb:Nat)] W' fun e w'=>e=.returned (.bool bi)/\Below W.heap.size W w'):=Hy fun W' dK=>by
      rw [Nz,<-hbi];exact (UQ.out.it _ _ (LW.out.on dK) k W' (zB _ _)).mono fun e w' h=>⟨h.1,dK.trans (h.2.mono dK.size)⟩
     have HLA:Hid (∀W',Below W.heap.size W W'->Calls prog 63 #[crp X,.string zs,Iv (k:Nat)] W' fun e w'=>e=.returned (Iv (lr:Nat))/\Below W.heap.size W w'):=Hy fun W' dK=>by
      rw [<-HZ.out,<-Rq];exact (uf (LW.out.on dK) (UQ.out.it _ _ (LW.out.on dK)) ZN Nz o4 k sZ wW).mono fun e w' h=>⟨h.1,dK.trans (h.2.mono dK.size)⟩
     have I5:Hid (∀bb W',Below W.heap.size W W'->Calls prog 31 #[crp X,.bool bb,Iv 5,Iv o2] W' fun e w'=>e=.returned (.tuple #[])/\NoP X {S2 with d:=dN (jv X.ns c (c+kk.size) k S.d) bb 5 o2} W w'):=Hy fun bb W' dK=>
      (dz (LW.out.on dK) bb 5 o2).mono fun e w' h=>⟨h.1,NoP.before dK h.2⟩
     have HS:Hid (∀(Wx:World),Below W.heap.size W Wx->Wx.cell? ⟨Hn,0,none⟩=some (Iv o1)/\Wx.cell? ⟨Hn,1,none⟩=some (Iv o2)/\Wx.cell? ⟨Hn,3,none⟩=some (.string zs)/\Hn<Wx.heap.size/\Wx.cell? ⟨Kf,3,none⟩=some (Iv (fb:Nat))/\Kf<Wx.heap.size):=Hy fun Wx hW=>by
      have u:=Vp.out.below hW Vp.out.lt;have u2:=HKF.out.below hW HKF.out.lt;exact ⟨u.cell 0,u.cell 1,u.cell 3,u.lt,u2.cell 3,u2.lt⟩
     have qh:Hid (∀(Wx:World) (d:Int×Int),NoP X {S2 with d:=d} W Wx->Wx.cell? ⟨Hn,0,none⟩=some (Iv o1)/\Wx.cell? ⟨Hn,1,none⟩=some (Iv o2)/\Wx.cell? ⟨Hn,3,none⟩=some (.string zs)/\Hn<Wx.heap.size/\Wx.cell? ⟨Kf,3,none⟩=some (Iv (fb:Nat))/\Kf<Wx.heap.size):=Hy fun Wx d hW=>by
      have u:=ak hW.gr Vp.out (by simp;omega)
      have u2:=ak hW.gr HKF.out (fun e=>LM (Option.some.inj e))
      exact ⟨u.cell 0,u.cell 1,u.cell 3,u.lt,u2.cell 3,u2.lt⟩
     have J:Below W.heap.size W W:=zB _ _;rw [hbi,Rq] at Ws;clear Nz wW sZ ZN hbi Rq;by_cases h18:o1=18
     case neg=>
      have q1:decide (o1=18)=false:=by simp [h18]
      have q1b:(o1 == 18)=false:=by simp [h18]
      have Xp:=Hy (show jN X.ns c (c+kk.size) k=false from by rw [Ws.out,q1];rfl)
      refine wp_region_held_drew (S:=(fun (Wx:World)=>Wx.cell? ⟨Hn,0,none⟩=some (Iv o1)/\Wx.cell? ⟨Hn,1,none⟩=some (Iv o2)/\Wx.cell? ⟨Hn,3,none⟩=some (.string zs)/\Hn<Wx.heap.size/\Wx.cell? ⟨Kf,3,none⟩=some (Iv (fb:Nat))/\Kf<Wx.heap.size)) (by kernel_rfl) (by exact HS.out _ J.drew) (fun af=>?_)
      refine tQ 0 af ?_;try simp only [Act.put,zA]
      refine tQ 1 af ?_;try simp only [Act.put,zA]
      refine tQ 2 af ?_;try simp only [Act.put,zA]
      refine tQ 3 af ?_;try simp only [Act.put,zA]
      refine tQ 4 af ?_;try simp only [Act.put,zA]
      refine tZ 5 af ?_;try simp only [Act.put,zA]
      refine tZ 6 af ?_;try simp only [Act.put,zA]
      refine tZ 7 af ?_;try simp only [Act.put,zA]
      refine tZ 8 af ?_;try simp only [Act.put,zA]
      refine tZ 9 af ?_;try simp only [Act.put,zA]
      refine tQ 10 af ?_;try simp only [Act.put,zA]
      refine tQ 11 af ?_;try simp only [Act.put,zA]
      refine tZ 12 af ?_;try simp only [Act.put,zA]
      refine tZ 13 af ?_;try simp only [Act.put,zA]
      refine tZ 14 af ?_;try simp only [Act.put,zA]
      refine tZ 15 af ?_;try simp only [Act.put,zA]
      refine tZ 16 af ?_;try simp only [Act.put,zA]
      refine tZ 17 af ?_;try simp only [Act.put,zA]
      refine tQ 18 af ?_;try simp only [Act.put,zA]
      refine tQ 19 af ?_;try simp only [Act.put,zA]
      refine tQ 20 af ?_;try simp only [Act.put,zA]
      refine dC (i:=21) rfl (by kernel_rfl) (fun K hK=>?_)
      go_simp
      go_at_call 31
      (with_reducible refine Calls.mono (I5.out _ _ J.drew) ?_)
      rintro e v3 ⟨rfl,P3⟩;clear af;refine hK.out _ _ ?_ (fun af=>?_)
      ·exact qh.out _ _ P3
      clear hK K;try simp only [Act.put,zA]
      refine wpAnyH_done (by kernel_rfl) ?_ _
      have HQ:=Hy (show NoP X {S2 with d:=jv X.ns c (c+kk.size) (k+1) S.d} wo v3 from by
       have h9:=HPr.out.trans (NoP.before vS.out P3);rw [HLD.out,Xp.out];exact h9)
      clear P3 HS qh;go_wp2_with fail;go_roundw
      case rel=>exact ⟨k+1,by omega,by go_num,HQ.out⟩
      case measure=>simp [intOf];omega
     case pos=>
      subst h18;cases bi with
      |false=>
       have Xp:=Hy (show jN X.ns c (c+kk.size) k=false from by rw [Ws.out];rfl)
       refine wp_region_held_drew (S:=(fun (Wx:World)=>Wx.cell? ⟨Hn,0,none⟩=some (Iv 18)/\Wx.cell? ⟨Hn,1,none⟩=some (Iv o2)/\Wx.cell? ⟨Hn,3,none⟩=some (.string zs)/\Hn<Wx.heap.size/\Wx.cell? ⟨Kf,3,none⟩=some (Iv (fb:Nat))/\Kf<Wx.heap.size)) (by kernel_rfl) (by exact HS.out _ J.drew) (fun af=>?_)
       refine tQ 0 af ?_;try simp only [Act.put,zA]
       refine tQ 1 af ?_;try simp only [Act.put,zA]
       refine tQ 2 af ?_;try simp only [Act.put,zA]
       refine tQ 3 af ?_;try simp only [Act.put,zA]
       refine tQ 4 af ?_;try simp only [Act.put,zA]
       refine tQ 5 af ?_;try simp only [Act.put,zA]
       refine tQ 6 af ?_;try simp only [Act.put,zA]
       refine tQ 7 af ?_;try simp only [Act.put,zA]
       refine tQ 8 af ?_;try simp only [Act.put,zA]
       refine tQ 19 af ?_;try simp only [Act.put,zA]
       refine tQ 20 af ?_;try simp only [Act.put,zA]
       refine dC (i:=9) rfl (by kernel_rfl) (fun K hK=>?_)
       go_simp
       go_at_call 62
       (with_reducible refine Calls.mono (Ko.out _ J.drew) ?_)
       rintro e v1 ⟨rfl,J1⟩;clear af;refine hK.out _ _ ?_ (fun af=>?_)
       ·exact HS.out _ J1
       clear hK K;refine tQ 10 af ?_;try simp only [Act.put,zA]
       refine tQ 11 af ?_;try simp only [Act.put,zA]
       refine tZ 12 af ?_;try simp only [Act.put,zA]
       refine tZ 13 af ?_;try simp only [Act.put,zA]
       refine tZ 14 af ?_;try simp only [Act.put,zA]
       refine tZ 15 af ?_;try simp only [Act.put,zA]
       refine tZ 16 af ?_;try simp only [Act.put,zA]
       refine tZ 17 af ?_;try simp only [Act.put,zA]
       refine tQ 18 af ?_;try simp only [Act.put,zA]
       refine dC (i:=21) rfl (by kernel_rfl) (fun K hK=>?_)
       go_simp
       go_at_call 31
       (with_reducible refine Calls.mono (I5.out _ _ J1) ?_)
       rintro e v3 ⟨rfl,P3⟩;clear af;refine hK.out _ _ ?_ (fun af=>?_)
       ·exact qh.out _ _ P3
       clear hK K;try simp only [Act.put,zA]
       refine wpAnyH_done (by kernel_rfl) ?_ _
       have HQ:=Hy (show NoP X {S2 with d:=jv X.ns c (c+kk.size) (k+1) S.d} wo v3 from by
        have h9:=HPr.out.trans (NoP.before vS.out P3);rw [HLD.out,Xp.out];exact h9)
       clear P3 HS qh;go_wp2_with fail;go_roundw
       case rel=>exact ⟨k+1,by omega,by go_num,HQ.out⟩
       case measure=>simp [intOf];omega
      |true=>
       have Xp:=Hy (show jN X.ns c (c+kk.size) k=decide (0<lr) from by rw [Ws.out];simp)
       refine wp_region_held_drew (S:=(fun (Wx:World)=>Wx.cell? ⟨Hn,0,none⟩=some (Iv 18)/\Wx.cell? ⟨Hn,1,none⟩=some (Iv o2)/\Wx.cell? ⟨Hn,3,none⟩=some (.string zs)/\Hn<Wx.heap.size/\Wx.cell? ⟨Kf,3,none⟩=some (Iv (fb:Nat))/\Kf<Wx.heap.size)) (by kernel_rfl) (by exact HS.out _ J.drew) (fun af=>?_)
       refine tQ 0 af ?_;try simp only [Act.put,zA]
       refine tQ 1 af ?_;try simp only [Act.put,zA]
       refine tQ 2 af ?_;try simp only [Act.put,zA]
       refine tQ 3 af ?_;try simp only [Act.put,zA]
       refine tQ 4 af ?_;try simp only [Act.put,zA]
       refine tQ 5 af ?_;try simp only [Act.put,zA]
       refine tQ 6 af ?_;try simp only [Act.put,zA]
       refine tQ 7 af ?_;try simp only [Act.put,zA]
       refine tQ 8 af ?_;try simp only [Act.put,zA]
       refine tQ 19 af ?_;try simp only [Act.put,zA]
       refine tQ 20 af ?_;try simp only [Act.put,zA]
       refine dC (i:=9) rfl (by kernel_rfl) (fun K hK=>?_)
       go_simp
       go_at_call 62
       (with_reducible refine Calls.mono (Ko.out _ J.drew) ?_)
       rintro e v1 ⟨rfl,J1⟩;clear af;refine hK.out _ _ ?_ (fun af=>?_)
       ·exact HS.out _ J1
       clear hK K;refine tQ 10 af ?_;try simp only [Act.put,zA]
       refine tQ 11 af ?_;try simp only [Act.put,zA]
       refine tQ 12 af ?_;try simp only [Act.put,zA]
       refine tQ 13 af ?_;try simp only [Act.put,zA]
       refine tQ 14 af ?_;try simp only [Act.put,zA]
       refine tQ 15 af ?_;try simp only [Act.put,zA]
       refine dC (i:=16) rfl (by kernel_rfl) (fun K hK=>?_)
       go_simp
       go_at_call 63
       (with_reducible refine Calls.mono (HLA.out _ J1) ?_)
       rintro e v2 ⟨rfl,J2⟩;clear af;refine hK.out _ _ ?_ (fun af=>?_)
       ·exact HS.out _ J2
       clear hK K;refine tQ 17 af ?_;try simp only [Act.put,zA]
       refine tQ 18 af ?_;try simp only [Act.put,zA]
       refine dC (i:=21) rfl (by kernel_rfl) (fun K hK=>?_)
       go_simp
       go_at_call 31
       (with_reducible refine Calls.mono (I5.out _ _ J2) ?_)
       rintro e v3 ⟨rfl,P3⟩;clear af;refine hK.out _ _ ?_ (fun af=>?_)
       ·exact qh.out _ _ P3
       clear hK K;try simp only [Act.put,zA]
       refine wpAnyH_done (by kernel_rfl) ?_ _
       have HQ:=Hy (show NoP X {S2 with d:=jv X.ns c (c+kk.size) (k+1) S.d} wo v3 from by
        have h9:=HPr.out.trans (NoP.before vS.out P3);rw [HLD.out,Xp.out];first|exact h9|simpa using h9)
       clear P3 HS qh;go_wp2_with fail;go_roundw
       case rel=>exact ⟨k+1,by omega,by go_num,HQ.out⟩
       case measure=>simp [intOf];omega
  case pos=>
   obtain ⟨p,hp⟩:∃p,uV[k]? =some p:=⟨_,List.getElem?_eq_getElem (by have:=HX.out.2.2.2.2.2.1;omega)⟩
   have qz:=RdS.av (hR.ps _ HMF.out);simp only at qz;rw [HX.out.2.2.2.2.2.1] at qz;have hu:=fun i hi=>aY cz 2 (fun _=>rfl) uV k i hi
   simp only [hp,Option.bind_some] at hu;have u0:(uV.flatMap cz)[k * 2]? =some (.string (str p.s)):=hu 0 (by omega)
   have u1:(uV.flatMap cz)[k * 2+1]? =some (Iv p.ty):=hu 1 (by omega)
   obtain ⟨pb,po,rfl,Ua,Pb⟩:=qz.get (dQ u0);have z0:=Pb _ _ u0;have z1:wo.cell? ⟨pb,po+k * 2+1,none⟩=some (Iv p.ty):=Pb _ _ u1;have Lu:Kind wo pb tPr:=ag (hR.ps _ HMF.out) rfl;obtain ⟨zn,hzn⟩:=zN (str p.s);obtain ⟨pty,XQ⟩:=zN p.ty;rw [hzn] at z0;rw [XQ] at z1;have Qj:(k:Int)<pn:=by omega
   have c4:=hR.c4;have f4:=hR.chk.frozen 4;have cl:=hR.chk.lt;simp only at c4;have F9:(iy (uV.take k) 0).length=k:=by rw [wS,List.length_take];have:=HX.out.2.2.2.2.2.1;omega
   have QZ:=hR.l;simp only at QZ;rw [F9] at QZ;obtain ⟨lA,lc,rfl⟩:=zX QZ;have Nt:some X.b≠(Value.slice lA k lc).ownBlock:=fun e=>au (ag QZ e.symm) hR.chk.kind (by decide) rfl
   have QW:(Value.slice lA k lc).ownBlock≠some Kf:=fun e=>au (ag QZ e) YG.kind (by decide) rfl
   have Ud:some pb≠(Value.slice lA k lc).ownBlock:=fun e=>au (ag QZ e.symm) Lu (by decide) rfl
   have hpX:pb≠X.b:=au Lu hR.chk.kind (by decide)
   have av:Below wo.heap.size wo (wo.alloc (.cells #[.string zn,Iv (k:Nat),Iv 1] tVr)):=(zB _ _).alloc (zL _) _;have wJ:∀j u,[Value.string zn,Iv (k:Nat),Iv 1][j]? =some u->(wo.alloc (.cells #[.string zn,Iv (k:Nat),Iv 1] tVr)).cell? ((⟨wo.heap.size,0,none⟩:Addr).add j)=some u:=World.news_of_block (cs:=#[.string zn,Iv (k:Nat),Iv 1]) (Blk.new wo tVr #[.string zn,Iv (k:Nat),Iv 1]);obtain ⟨i0,hi,vQ,sI,ru⟩:=dU Eg;have Qr:=hR.Bw;have HS:Hid (∀(Wx:World),Below wo.heap.size wo Wx->Wx.cell? ⟨Kf,2,none⟩=some (.slice (some ⟨pb,po,none⟩) pn pc)/\Kf<Wx.heap.size/\Wx.cell? ⟨pb,po+k * 2,none⟩=some (.string zn)/\pb<Wx.heap.size):=Hy fun Wx hW=>
    ⟨(hW.cell (p:=⟨Kf,2,none⟩) nl).trans n2,Nat.lt_of_lt_of_le nl hW.size,(hW.cell (p:=⟨pb,_,none⟩) Ua).trans z0,Nat.lt_of_lt_of_le Ua hW.size⟩
   obtain ⟨a3,al,a5,ab⟩:=HS.out _ av;have qh:Hid (∀(Wx:World),(wo.alloc (.cells #[.string zn,Iv (k:Nat),Iv 1] tVr)).grownBy Wx (Value.slice lA k lc).ownBlock->Wx.cell? ⟨Kf,2,none⟩=some (.slice (some ⟨pb,po,none⟩) pn pc)/\Kf<Wx.heap.size/\Wx.cell? ⟨pb,po+k * 2,none⟩=some (.string zn)/\pb<Wx.heap.size):=Hy fun Wx hW=>
    ⟨(hW.cell_far ⟨Kf,2,none⟩ al (fun e=>QW e.symm)).trans a3,Nat.lt_of_lt_of_le al hW.size,(hW.cell_far ⟨pb,_,none⟩ ab Ud).trans a5,Nat.lt_of_lt_of_le ab hW.size⟩
   have Ms:Hid (∀(Wy:World) (v:Value),(wo.alloc (.cells #[.string zn,Iv (k:Nat),Iv 1] tVr)).grownBy Wy (Value.slice lA k lc).ownBlock->(fun (Wx:World)=>Wx.cell? ⟨Kf,2,none⟩=some (.slice (some ⟨pb,po,none⟩) pn pc)/\Kf<Wx.heap.size/\Wx.cell? ⟨pb,po+k * 2,none⟩=some (.string zn)/\pb<Wx.heap.size) (Wy.setCell ⟨X.b,4,none⟩ v)):=Hy fun Wy v hW=>by
    obtain ⟨b3,bl,b5,bb⟩:=qh.out Wy hW;exact ⟨(World.cell?_setCell_far _ _ _ _ LM).trans b3,by simpa using bl,(World.cell?_setCell_far _ _ _ _ (fun e=>hpX e.symm)).trans b5,by simpa using bb⟩
   have Xa:=av.cell (p:=⟨X.b,4,none⟩) cl;have MJ:=av.frozen (p:=⟨X.b,4,none⟩) cl;have HW:=Hy6 (QZ.alloc (.cells #[.string zn,Iv (k:Nat),Iv 1] tVr)) wJ Nt (zT cl av.size) (Xa.trans c4) (MJ.trans f4);have iK:=Hy av;have Tw:=Hy4 YG QW Lu F9;have HR:=Hy hR;have HFb:=Hy hFb;have UU:=Hy3 hp hzn XQ;have HU1:=Hy u1;clear hR YG hFb QZ Nt QW Ud av wJ Xa MJ f4 a3 al a5 ab hp hzn XQ hu u0 u1 Pb Lu qz F9;go_upto_region 7 with (fail);go_cut [] (fun wx=>∃lv',RV X (⟨fi,H1,(iy (uV.take k) 0 ++ [⟨p.s,k,1⟩]),lv',0,S.d,S.tr,S.vls.set fi v1,S.vs.set fi ((uV.take k).map (·.ty))⟩:RS) wx/\Blk wx Kf tFu #[.string zf,Iv fty,.slice (some ⟨pb,po,none⟩) pn pc,Iv (fb:Nat),Iv fp,.slice none 0 0]/\Below X.B wo wx/\Kind wx pb tPr/\pb<wx.heap.size)
   case first=>
    refine wp_region_held_drew (S:=(fun (Wx:World)=>Wx.cell? ⟨Kf,2,none⟩=some (.slice (some ⟨pb,po,none⟩) pn pc)/\Kf<Wx.heap.size/\Wx.cell? ⟨pb,po+k * 2,none⟩=some (.string zn)/\pb<Wx.heap.size)) (by kernel_rfl) (by exact HS.out _ (zB _ _).drew) (fun af=>?_)
    refine tQ 0 af ?_;try simp only [Act.put,zA]
    refine tQ 1 af ?_;try simp only [Act.put,zA]
    refine tQ 2 af ?_;try simp only [Act.put,zA]
    refine tQ 3 af ?_;try simp only [Act.put,zA]
    refine tQ 5 af ?_;try simp only [Act.put,zA]
    refine tQ 6 af ?_;try simp only [Act.put,zA]
    refine tQ 7 af ?_;try simp only [Act.put,zA]
    refine tQ 8 af ?_;try simp only [Act.put,zA]
    refine tQ 9 af ?_;try simp only [Act.put,zA]
    refine tQ 10 af ?_;try simp only [Act.put,zA]
    refine tQ 11 af ?_;try simp only [Act.put,zA]
    refine tQ 12 af ?_;try simp only [Act.put,zA]
    refine Fh (i:=4) (j:=13) rfl rfl (by kernel_rfl) (fun K hK=>?_) (fun K hK=>?_)
    ·go_simp
     clear af;refine hK.out _ _ ?_ (fun af=>?_)
     ·first|exact HS.out _ (zB _ _).drew|exact HS.out _ iK.out.drew
     clear hK K;try simp only [Act.put,zA]
     refine dC (i:=13) rfl (by kernel_rfl) (fun K hK=>?_)
     go_simp
     clear af;refine hK.out _ _ ?_ (fun af=>?_)
     ·exact HS.out _ iK.out.drew
     clear hK K;try simp only [Act.put,zA]
     refine dC (i:=14) rfl (by kernel_rfl) (fun K hK=>?_)
     refine step_append_lies _ rfl (.tmp 37) (.tmp 46) 71 rfl X.B tVr i0 (.agg #[.string ⟨#[]⟩,Iv 0,Iv 0]) 3 32 underlying71 hi vQ sI ru rfl (by decide) _ k ((iy (uV.take k) 0).flatMap vrC) (by simp [Act.eval,Act.put]) HW.out.1 ⟨wo.heap.size,0,none⟩ 1 1 _ (by simp [Act.eval,Act.put]) rfl HW.out.2.1 (by simp [Value.oneCell']) (by decide) (by unfold maxLen;omega) (by omega) (by simp;omega) (wo.heap.size+1) (by simp) ?_;intro g1 cap w2 bB aB kH hlt2;have q4:=(aB.cell_far ⟨X.b,4,none⟩ HW.out.2.2.2.1 HW.out.2.2.1).trans HW.out.2.2.2.2.1;have r4:=(aB.frozen_far ⟨X.b,4,none⟩ HW.out.2.2.2.1 HW.out.2.2.1).trans HW.out.2.2.2.2.2;have HG:=Hy2 bB (jD aB);clear bB aB
     clear af;refine hK.out _ _ ?_ (fun af=>?_)
     ·exact qh.out _ HG.out.2
     clear hK K;refine tQ 15 af ?_;try simp only [Act.put,zA]
     refine tQ 16 af ?_;try simp only [Act.put,zA]
     refine dC (i:=17) rfl (by kernel_rfl) (fun K hK=>?_)
     go_simp
     clear af;refine hK.out _ _ ?_ (fun af=>?_)
     ·exact Ms.out _ _ HG.out.2
     clear hK K;try simp only [Act.put,zA]
     refine wpAnyH_done (by kernel_rfl) ?_ _
     go_wp2_with fail;go_meet;have NW:=HR.out.alloc (.cells #[.string zn,Iv (k:Nat),Iv 1] tVr);have h9:=RV.scL (v':=.slice (some ⟨g1,0,none⟩) (k+1) cap) (L':=iy (uV.take k) 0 ++ [⟨p.s,k,1⟩]) NW HG.out.2 (by
      have h8:=HG.out.1;simp only [List.length_append,List.length_singleton,Tw.out.2.2.2,List.flatMap_append,List.flatMap_cons,List.flatMap_nil,List.append_nil,vrC,UU.out.2.1];exact h8)
     have Un:=Tw.out.1.alloc (.cells #[.string zn,Iv (k:Nat),Iv 1] tVr);have hk2:=(ak HG.out.2 Un Tw.out.2.1).far (p:=⟨X.b,4,none⟩) (fun e=>LM e.symm) (.slice (some ⟨g1,0,none⟩) (k+1) cap)
     have Wh:=(FrP.below Qr iK.out).trans h9.2;have XV:=h9.1.ps _ HMF.out;simp only at XV;exact ⟨_,h9.1,hk2,Wh.low,ag XV rfl,(ag XV rfl).lt⟩
    ·go_simp
     clear af;refine hK.out _ _ ?_ (fun af=>?_)
     ·exact HS.out _ iK.out.drew
     clear hK K;try simp only [Act.put,zA]
     refine dC (i:=4) rfl (by kernel_rfl) (fun K hK=>?_)
     go_simp
     clear af;refine hK.out _ _ ?_ (fun af=>?_)
     ·first|exact HS.out _ (zB _ _).drew|exact HS.out _ iK.out.drew
     clear hK K;try simp only [Act.put,zA]
     refine dC (i:=14) rfl (by kernel_rfl) (fun K hK=>?_)
     refine step_append_lies _ rfl (.tmp 37) (.tmp 46) 71 rfl X.B tVr i0 (.agg #[.string ⟨#[]⟩,Iv 0,Iv 0]) 3 32 underlying71 hi vQ sI ru rfl (by decide) _ k ((iy (uV.take k) 0).flatMap vrC) (by simp [Act.eval,Act.put]) HW.out.1 ⟨wo.heap.size,0,none⟩ 1 1 _ (by simp [Act.eval,Act.put]) rfl HW.out.2.1 (by simp [Value.oneCell']) (by decide) (by unfold maxLen;omega) (by omega) (by simp;omega) (wo.heap.size+1) (by simp) ?_;intro g1 cap w2 bB aB kH hlt2;have q4:=(aB.cell_far ⟨X.b,4,none⟩ HW.out.2.2.2.1 HW.out.2.2.1).trans HW.out.2.2.2.2.1;have r4:=(aB.frozen_far ⟨X.b,4,none⟩ HW.out.2.2.2.1 HW.out.2.2.1).trans HW.out.2.2.2.2.2;have HG:=Hy2 bB (jD aB);clear bB aB
     clear af;refine hK.out _ _ ?_ (fun af=>?_)
     ·exact qh.out _ HG.out.2
     clear hK K;refine tQ 15 af ?_;try simp only [Act.put,zA]
     refine tQ 16 af ?_;try simp only [Act.put,zA]
     refine dC (i:=17) rfl (by kernel_rfl) (fun K hK=>?_)
     go_simp
     clear af;refine hK.out _ _ ?_ (fun af=>?_)
     ·exact Ms.out _ _ HG.out.2
     clear hK K;try simp only [Act.put,zA]
     refine wpAnyH_done (by kernel_rfl) ?_ _
     go_wp2_with fail;go_meet;have NW:=HR.out.alloc (.cells #[.string zn,Iv (k:Nat),Iv 1] tVr);have h9:=RV.scL (v':=.slice (some ⟨g1,0,none⟩) (k+1) cap) (L':=iy (uV.take k) 0 ++ [⟨p.s,k,1⟩]) NW HG.out.2 (by
      have h8:=HG.out.1;simp only [List.length_append,List.length_singleton,Tw.out.2.2.2,List.flatMap_append,List.flatMap_cons,List.flatMap_nil,List.append_nil,vrC,UU.out.2.1];exact h8)
     have Un:=Tw.out.1.alloc (.cells #[.string zn,Iv (k:Nat),Iv 1] tVr);have hk2:=(ak HG.out.2 Un Tw.out.2.1).far (p:=⟨X.b,4,none⟩) (fun e=>LM e.symm) (.slice (some ⟨g1,0,none⟩) (k+1) cap)
     have Wh:=(FrP.below Qr iK.out).trans h9.2;have XV:=h9.1.ps _ HMF.out;simp only at XV;exact ⟨_,h9.1,hk2,Wh.low,ag XV rfl,(ag XV rfl).lt⟩
   case rest=>
    obtain ⟨S9,SA,SB,hF7,Yd,hpb7⟩:=hcut;obtain ⟨w7,hw7⟩:=zQ wc;subst hw7;clear HS qh Ms HW iK hi vQ sI ru z0 z1 c4 cl nl n2 Ua Qr;have hF:=HX.out.2.2.2.2.1;have hvS:(S.vls.set fi v1)[fi]? =some v1:=List.getElem?_set_self HX.out.2.2.2.2.2.2.2.2.2.1;have hsS:(S.vs.set fi ((uV.take k).map (·.ty)))[fi]? =some ((uV.take k).map (·.ty)):=List.getElem?_set_self HX.out.2.2.2.2.2.2.2.2.2.2;have xc:=SA.cur _ _ hvS hsS;have Qf:((uV.take k).map (·.ty)).length=k:=by rw [List.length_map,List.length_take];have:=HX.out.2.2.2.2.2.1;omega
    simp only at xc;rw [Qf] at xc;obtain ⟨vA,vc,rfl⟩:=zX xc;have u5:(dE X.fl (S.vls.set fi (.slice vA k vc)))[fi * 6+5]? =some (.slice vA k vc):=bQ X.fl _ fi 5 (by omega) HX.out.2.2.1 hvS
    obtain ⟨g'',o'',YK,Ij,hc7⟩:=(RdS.av SA.f).get (dQ u5);rw [HX.out.2.2.2.2.2.2.1] at YK;simp only [Option.some.injEq,Addr.mk.injEq,and_true] at YK;obtain ⟨rfl,rfl⟩:=YK;have y5:=hc7 _ _ u5;simp only [Nat.zero_add] at y5;have z5:w7.frozen? ⟨gf,fi * 6+5,none⟩=false:=by have h9:=SA.f;rw [HX.out.2.2.2.2.2.2.1] at h9;exact h9.frozenAt _
    have WU:Kind w7 gf tFu:=ag SA.f (by rw [HX.out.2.2.2.2.2.2.1];rfl)
    have U9:gf≠X.b:=au WU SA.chk.kind (by decide)
    have VN:=RdS.av (SA.ps _ HMF.out);simp only at VN;rw [HX.out.2.2.2.2.2.1] at VN;obtain ⟨pb',po',e',hpb7',hpc7⟩:=VN.get (dQ HU1.out);simp only [Option.some.injEq,Addr.mk.injEq,and_true] at e';obtain ⟨rfl,rfl⟩:=e';have z1:w7.cell? ⟨pb,po+k * 2+1,none⟩=some (Iv p.ty):=hpc7 _ _ HU1.out;rw [UU.out.2.2] at z1;have c1:=SA.c1;rw [HX.out.2.2.2.2.2.2.2.1,HX.out.2.2.2.2.2.2.1] at c1;have cl:=SA.chk.lt;have n2:w7.cell? ⟨Kf,2,none⟩=some (.slice (some ⟨pb,po,none⟩) pn pc):=SB.cell 2;have nl:=SB.lt;have Nt:some gf≠(Value.slice vA k vc).ownBlock:=fun e=>au (ag xc e.symm) WU (by decide) rfl
    have hneX:some X.b≠(Value.slice vA k vc).ownBlock:=fun e=>au (ag xc e.symm) SA.chk.kind (by decide) rfl
    have QW:(Value.slice vA k vc).ownBlock≠some Kf:=fun e=>au (ag xc e) SB.kind (by decide) rfl
    have Ud:some pb≠(Value.slice vA k vc).ownBlock:=fun e=>au (ag xc e.symm) Yd (by decide) rfl
    have hpg:gf≠pb:=au WU Yd (by decide)
    have av:Below w7.heap.size w7 (w7.alloc (.cells #[Iv pty] aC)):=(zB _ _).alloc (zL _) _;have wJ:∀j u,[Iv pty][j]? =some u->(w7.alloc (.cells #[Iv pty] aC)).cell? ((⟨w7.heap.size,0,none⟩:Addr).add j)=some u:=World.news_of_block (cs:=#[Iv pty]) (Blk.new w7 aC #[Iv pty]);obtain ⟨i0,hi,vQ,sI,ru⟩:=dU rD;have Qr:=SA.Bw;have hHw:H1<=w7.heap.size:=SA.hB.2.2;have HS:Hid (∀(Wx:World),Below w7.heap.size w7 Wx->Wx.cell? ⟨X.b,1,none⟩=some (.slice (some ⟨gf,0,none⟩) fn X.fc)/\X.b<Wx.heap.size/\Wx.cell? ⟨Kf,2,none⟩=some (.slice (some ⟨pb,po,none⟩) pn pc)/\Kf<Wx.heap.size/\Wx.cell? ⟨pb,po+k * 2+1,none⟩=some (Iv pty)/\pb<Wx.heap.size):=Hy fun Wx hW=>
     ⟨(hW.cell (p:=⟨X.b,1,none⟩) cl).trans c1,Nat.lt_of_lt_of_le cl hW.size,(hW.cell (p:=⟨Kf,2,none⟩) nl).trans n2,Nat.lt_of_lt_of_le nl hW.size,(hW.cell (p:=⟨pb,_,none⟩) hpb7).trans z1,Nat.lt_of_lt_of_le hpb7 hW.size⟩
    obtain ⟨a1,ax,a3,al,a5,ab⟩:=HS.out _ av;have qh:Hid (∀(Wx:World),(w7.alloc (.cells #[Iv pty] aC)).grownBy Wx (Value.slice vA k vc).ownBlock->Wx.cell? ⟨X.b,1,none⟩=some (.slice (some ⟨gf,0,none⟩) fn X.fc)/\X.b<Wx.heap.size/\Wx.cell? ⟨Kf,2,none⟩=some (.slice (some ⟨pb,po,none⟩) pn pc)/\Kf<Wx.heap.size/\Wx.cell? ⟨pb,po+k * 2+1,none⟩=some (Iv pty)/\pb<Wx.heap.size):=Hy fun Wx hW=>
     ⟨(hW.cell_far ⟨X.b,1,none⟩ ax hneX).trans a1,Nat.lt_of_lt_of_le ax hW.size,(hW.cell_far ⟨Kf,2,none⟩ al (fun e=>QW e.symm)).trans a3,Nat.lt_of_lt_of_le al hW.size,(hW.cell_far ⟨pb,_,none⟩ ab Ud).trans a5,Nat.lt_of_lt_of_le ab hW.size⟩
    have Ms:Hid (∀(Wy:World) (v:Value),(w7.alloc (.cells #[Iv pty] aC)).grownBy Wy (Value.slice vA k vc).ownBlock->(fun (Wx:World)=>Wx.cell? ⟨X.b,1,none⟩=some (.slice (some ⟨gf,0,none⟩) fn X.fc)/\X.b<Wx.heap.size/\Wx.cell? ⟨Kf,2,none⟩=some (.slice (some ⟨pb,po,none⟩) pn pc)/\Kf<Wx.heap.size/\Wx.cell? ⟨pb,po+k * 2+1,none⟩=some (Iv pty)/\pb<Wx.heap.size) (Wy.setCell ⟨gf,fi * 6+5,none⟩ v)):=Hy fun Wy v hW=>by
     obtain ⟨b1,bx,b3,bl,b5,bb⟩:=qh.out Wy hW;exact ⟨(World.cell?_setCell_far _ _ _ _ U9).trans b1,by simpa using bx,(World.cell?_setCell_far _ _ _ _ Xf).trans b3,by simpa using bl,(World.cell?_setCell_far _ _ _ _ hpg).trans b5,by simpa using bb⟩
    have Xa:=av.cell (p:=⟨gf,fi * 6+5,none⟩) Ij;have MJ:=av.frozen (p:=⟨gf,fi * 6+5,none⟩) Ij;have HW:=Hy6 (xc.alloc (.cells #[Iv pty] aC)) wJ Nt (zT Ij av.size) (Xa.trans y5) (MJ.trans z5);have iK:=Hy av;have Z7:=Hy3 SB QW Qf;have HR7:=Hy SA;have Z0:=Hy3 hvS hsS hF;have HF7:=Hy hF7;clear SA SB hF7 xc Nt hneX QW Ud av wJ Xa MJ z5 a1 ax a3 al a5 ab Yd hvS hsS hF Qf WU u5 hc7 VN hpc7 hpb7';go_upto_region 8 with (fail);refine wp_region_held_drew (S:=(fun (Wx:World)=>Wx.cell? ⟨X.b,1,none⟩=some (.slice (some ⟨gf,0,none⟩) fn X.fc)/\X.b<Wx.heap.size/\Wx.cell? ⟨Kf,2,none⟩=some (.slice (some ⟨pb,po,none⟩) pn pc)/\Kf<Wx.heap.size/\Wx.cell? ⟨pb,po+k * 2+1,none⟩=some (Iv pty)/\pb<Wx.heap.size)) (by kernel_rfl) (by exact HS.out _ (zB _ _).drew) (fun af=>?_)
    refine tQ 0 af ?_;try simp only [Act.put,zA]
    refine tQ 1 af ?_;try simp only [Act.put,zA]
    refine tQ 2 af ?_;try simp only [Act.put,zA]
    refine tQ 3 af ?_;try simp only [Act.put,zA]
    refine tQ 4 af ?_;try simp only [Act.put,zA]
    refine tQ 5 af ?_;try simp only [Act.put,zA]
    refine tQ 6 af ?_;try simp only [Act.put,zA]
    refine tQ 7 af ?_;try simp only [Act.put,zA]
    refine tQ 8 af ?_;try simp only [Act.put,zA]
    refine tQ 9 af ?_;try simp only [Act.put,zA]
    refine tQ 10 af ?_;try simp only [Act.put,zA]
    refine tQ 11 af ?_;try simp only [Act.put,zA]
    refine tQ 12 af ?_;try simp only [Act.put,zA]
    refine tQ 13 af ?_;try simp only [Act.put,zA]
    refine tQ 15 af ?_;try simp only [Act.put,zA]
    refine tQ 16 af ?_;try simp only [Act.put,zA]
    refine tQ 17 af ?_;try simp only [Act.put,zA]
    refine tQ 18 af ?_;try simp only [Act.put,zA]
    refine tQ 19 af ?_;try simp only [Act.put,zA]
    refine tQ 20 af ?_;try simp only [Act.put,zA]
    refine Fh (i:=14) (j:=21) rfl rfl (by kernel_rfl) (fun K hK=>?_) (fun K hK=>?_)
    ·go_simp
     clear af;refine hK.out _ _ ?_ (fun af=>?_)
     ·first|exact HS.out _ (zB _ _).drew|exact HS.out _ iK.out.drew
     clear hK K;try simp only [Act.put,zA]
     refine dC (i:=21) rfl (by kernel_rfl) (fun K hK=>?_)
     go_simp
     clear af;refine hK.out _ _ ?_ (fun af=>?_)
     ·exact HS.out _ iK.out.drew
     clear hK K;try simp only [Act.put,zA]
     refine dC (i:=22) rfl (by kernel_rfl) (fun K hK=>?_)
     refine step_append_lies _ rfl (.tmp 64) (.tmp 71) 40 rfl H1 aC i0 _ 1 8 underlying40 hi vQ sI ru rfl (by decide) _ k (ints ((uV.take k).map (fun q:Pm=>q.ty))) (by simp [Act.eval,Act.put]) HW.out.1 ⟨w7.heap.size,0,none⟩ 1 1 _ (by simp [Act.eval,Act.put]) rfl HW.out.2.1 (by simp [Value.oneCell']) (by decide) (by unfold maxLen;omega) (by omega) (by simp;omega) (w7.heap.size+1) (by simp) ?_;intro g1 cap w2 bB aB kH hlt2;have q4:=(aB.cell_far ⟨gf,fi * 6+5,none⟩ HW.out.2.2.2.1 HW.out.2.2.1).trans HW.out.2.2.2.2.1;have r4:=(aB.frozen_far ⟨gf,fi * 6+5,none⟩ HW.out.2.2.2.1 HW.out.2.2.1).trans HW.out.2.2.2.2.2;have HG:=Hy2 bB (jD aB);clear bB aB
     clear af;refine hK.out _ _ ?_ (fun af=>?_)
     ·exact qh.out _ HG.out.2
     clear hK K;refine tQ 23 af ?_;try simp only [Act.put,zA]
     refine tQ 24 af ?_;try simp only [Act.put,zA]
     refine dC (i:=25) rfl (by kernel_rfl) (fun K hK=>?_)
     go_simp
     clear af;refine hK.out _ _ ?_ (fun af=>?_)
     ·exact Ms.out _ _ HG.out.2
     clear hK K;try simp only [Act.put,zA]
     refine wpAnyH_done (by kernel_rfl) ?_ _
     have NW:=HR7.out.alloc (.cells #[Iv pty] aC);have Gz:w2.ownsRow H1 aC 1 (.slice (some ⟨g1,0,none⟩) (k+1) cap) ((uV.take (k+1)).map (·.ty)).length (ints ((uV.take (k+1)).map (·.ty))):=by
      have h8:=HG.out.1;rw [List.take_add_one,UU.out.1,Option.toList_some,List.map_append,List.length_append,Z7.out.2.2];simp only [ints,List.map_append,List.map_cons,List.map_nil,List.length_singleton,UU.out.2.2];exact h8
     have h9:=RV.Ir NW HX.out.2.2.2.2.2.2.1 Z0.out.2.2 Z0.out.1 Z0.out.2.1 HG.out.2 Gz;have Un:=Z7.out.1.alloc (.cells #[Iv pty] aC);have hk2:=(ak HG.out.2 Un Z7.out.2.1).far (p:=⟨gf,fi * 6+5,none⟩) (fun e=>Xf e.symm) (.slice (some ⟨g1,0,none⟩) (k+1) cap)
     have Wh:=(FrP.below Qr iK.out).trans h9.2;have HQ:=Hy (And.intro (show ∃lv' v',RV X (⟨fi,H1,(iy (uV.take (k+1)) 0),lv',0,S.d,S.tr,S.vls.set fi v',S.vs.set fi ((uV.take (k+1)).map (·.ty))⟩:RS) (w2.setCell ⟨gf,fi * 6+5,none⟩ (.slice (some ⟨g1,0,none⟩) (k+1) cap)) from by
      refine ⟨S9,.slice (some ⟨g1,0,none⟩) (k+1) cap,?_⟩;have h8:=h9.1;simp only [List.set_set] at h8;rw [tJ uV k 0 p UU.out.1,Nat.zero_add];exact h8) (And.intro hk2 ((HFb.out.trans HF7.out).trans Wh.low)))
     clear NW Gz h9 Un hk2 Wh HS qh Ms q4 r4;go_wp2_with fail;go_roundw
     case rel=>exact ⟨k+1,by omega,by go_num,HQ.out.1,HQ.out.2.1,HQ.out.2.2⟩
     case measure=>simp [intOf];omega
    ·go_simp
     clear af;refine hK.out _ _ ?_ (fun af=>?_)
     ·exact HS.out _ iK.out.drew
     clear hK K;try simp only [Act.put,zA]
     refine dC (i:=14) rfl (by kernel_rfl) (fun K hK=>?_)
     go_simp
     clear af;refine hK.out _ _ ?_ (fun af=>?_)
     ·first|exact HS.out _ (zB _ _).drew|exact HS.out _ iK.out.drew
     clear hK K;try simp only [Act.put,zA]
     refine dC (i:=22) rfl (by kernel_rfl) (fun K hK=>?_)
     refine step_append_lies _ rfl (.tmp 64) (.tmp 71) 40 rfl H1 aC i0 _ 1 8 underlying40 hi vQ sI ru rfl (by decide) _ k (ints ((uV.take k).map (fun q:Pm=>q.ty))) (by simp [Act.eval,Act.put]) HW.out.1 ⟨w7.heap.size,0,none⟩ 1 1 _ (by simp [Act.eval,Act.put]) rfl HW.out.2.1 (by simp [Value.oneCell']) (by decide) (by unfold maxLen;omega) (by omega) (by simp;omega) (w7.heap.size+1) (by simp) ?_;intro g1 cap w2 bB aB kH hlt2;have q4:=(aB.cell_far ⟨gf,fi * 6+5,none⟩ HW.out.2.2.2.1 HW.out.2.2.1).trans HW.out.2.2.2.2.1;have r4:=(aB.frozen_far ⟨gf,fi * 6+5,none⟩ HW.out.2.2.2.1 HW.out.2.2.1).trans HW.out.2.2.2.2.2;have HG:=Hy2 bB (jD aB);clear bB aB
     clear af;refine hK.out _ _ ?_ (fun af=>?_)
     ·exact qh.out _ HG.out.2
     clear hK K;refine tQ 23 af ?_;try simp only [Act.put,zA]
     refine tQ 24 af ?_;try simp only [Act.put,zA]
     refine dC (i:=25) rfl (by kernel_rfl) (fun K hK=>?_)
     go_simp
     clear af;refine hK.out _ _ ?_ (fun af=>?_)
     ·exact Ms.out _ _ HG.out.2
     clear hK K;try simp only [Act.put,zA]
     refine wpAnyH_done (by kernel_rfl) ?_ _
     have NW:=HR7.out.alloc (.cells #[Iv pty] aC);have Gz:w2.ownsRow H1 aC 1 (.slice (some ⟨g1,0,none⟩) (k+1) cap) ((uV.take (k+1)).map (·.ty)).length (ints ((uV.take (k+1)).map (·.ty))):=by
      have h8:=HG.out.1;rw [List.take_add_one,UU.out.1,Option.toList_some,List.map_append,List.length_append,Z7.out.2.2];simp only [ints,List.map_append,List.map_cons,List.map_nil,List.length_singleton,UU.out.2.2];exact h8
     have h9:=RV.Ir NW HX.out.2.2.2.2.2.2.1 Z0.out.2.2 Z0.out.1 Z0.out.2.1 HG.out.2 Gz;have Un:=Z7.out.1.alloc (.cells #[Iv pty] aC);have hk2:=(ak HG.out.2 Un Z7.out.2.1).far (p:=⟨gf,fi * 6+5,none⟩) (fun e=>Xf e.symm) (.slice (some ⟨g1,0,none⟩) (k+1) cap)
     have Wh:=(FrP.below Qr iK.out).trans h9.2;have HQ:=Hy (And.intro (show ∃lv' v',RV X (⟨fi,H1,(iy (uV.take (k+1)) 0),lv',0,S.d,S.tr,S.vls.set fi v',S.vs.set fi ((uV.take (k+1)).map (·.ty))⟩:RS) (w2.setCell ⟨gf,fi * 6+5,none⟩ (.slice (some ⟨g1,0,none⟩) (k+1) cap)) from by
      refine ⟨S9,.slice (some ⟨g1,0,none⟩) (k+1) cap,?_⟩;have h8:=h9.1;simp only [List.set_set] at h8;rw [tJ uV k 0 p UU.out.1,Nat.zero_add];exact h8) (And.intro hk2 ((HFb.out.trans HF7.out).trans Wh.low)))
     clear NW Gz h9 Un hk2 Wh HS qh Ms q4 r4;go_wp2_with fail;go_roundw
     case rel=>exact ⟨k+1,by omega,by go_num,HQ.out.1,HQ.out.2.1,HQ.out.2.2⟩
     case measure=>simp [intOf];omega
end
end
end Go.Proofs.YtcchdlnfeijinaaGreatDoor
