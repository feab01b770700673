/- Crx to Cry: Layer check, the document's answer: a statement; a node's row changes. -/
import Derived.Test.YtcchdlnfeijinaaGreatDoorNav
import Derived.Test.YtcchdlnfeijinaaGreatDoorNaj
namespace Go.Proofs.YtcchdlnfeijinaaGreatDoor
open Go.Proofs.Tryz
set_option linter.unusedSimpArgs false
set_option linter.unusedVariables false
set_option maxHeartbeats 4000000
set_option maxRecDepth 100000
section
open Go Go.RowKit Go.Maps
abbrev upd (S:RS) (lv':Value) (v':Value) (s:Rst):RS:=⟨S.F,S.H,s.L,lv',s.deep,s.d,s.tr,S.vls.set S.F v',S.vs.set S.F s.vs⟩
abbrev xC (S:RS):Value:=S.vls.getD S.F undef
theorem zC (S:RS)(a c:Value)(b d:Value)(s s':Rst):upd (upd S a b s) c d s'=upd S c d s':=by simp only [upd,List.set_set]
theorem jZ {S:RS}(hF:S.F<S.vs.length)(a:Value)(b:Value)(s:Rst):rst (upd S a b s)=s:=by
 simp only [rst,upd,List.getD,List.getElem?_set_self hF,Option.getD_some]
theorem nU {α:Type}(l:List α)(i:Nat)(d:α)(h:i<l.length):l.set i (l.getD i d)=l:=by
 simp [List.getD,List.getElem?_eq_getElem h]
theorem upd_same {S:RS}(hF:S.F<S.vs.length)(hV:S.F<S.vls.length):upd S S.lv (xC S) (rst S)=S:=by
 simp only [rst,upd,xC,nU _ _ _ hF,nU _ _ _ hV]
theorem LG {S:RS}(hF:S.F<S.vs.length)(hV:S.F<S.vls.length)(d:Int×Int):upd S S.lv (xC S) {rst S with d:=d}={S with d:=d}:=by
 simp only [rst,upd,xC,nU _ _ _ hF,nU _ _ _ hV]
theorem yj {gs:List Gl}{fs:List Fn'}{ft:Int}{lab:Nm'->Nat}{h:Hd}{ks:List Nat}{t:Int×Int}{s:Rst}(h12:¬ h.op=12):(dM gs fs ft lab h ks t s).2={s with d:=(dM gs fs ft lab h ks t s).2.d}:=by
 unfold dM;rw [if_neg h12];split
 ·rfl
 split
 ·rfl
 split
 ·rfl
 split
 ·rfl
 split
 ·rfl
 ·rfl
section
variable {X:RX} {S:RS} {w:World}
theorem RV.FS (h:RV X S w){F lo b:Nat}{f:Fn'×Value}(hw:WkX X F lo b f)(hF:S.F=F):S.F<S.vs.length:=by
 have h1:=(zS.1 hw.fF).1;rw [h.vn,hF];exact h1
theorem RV.V (h:RV X S w)(hF:S.F<S.vs.length):S.F<S.vls.length:=by rw [h.vl,<-h.vn];exact hF
theorem LV (h:RV X S w){x:CN}{kn:Nat}(hx:NdX X x kn)(hS:SOk X S)(bT:1<=kn)(h12:x.h.op=12)(t:Int×Int) :
  Calls prog 98 #[crp X,ndV x.h x.v t] w fun e w'=>∃lv' JY,e=.returned (ndV x.h x.v (l8 x.h x.kids t (rst S)).1)/\RV X (upd S lv' JY (l8 x.h x.kids t (rst S)).2) w'/\FrP X w w':=by
 obtain ⟨rr,Gz⟩:=zN (l8 x.h x.kids t (rst S));rw [Gz];have H12:=Hy h12;clear h12;have hb:Zw w ((w.alloc (.cells (ndC x.h x.v t) tNd)).alloc (.cells #[Iv 0,Iv 0,Iv 0,.string ⟨#[]⟩,Iv 0,.slice none 0 0,Iv 0,Iv 0] tNd)):=((zB _ _).alloc (zL _) _).alloc (by simp) _
 have k2:=(Blk.new w tNd (ndC x.h x.v t)).alloc (.cells #[Iv 0,Iv 0,Iv 0,.string ⟨#[]⟩,Iv 0,.slice none 0 0,Iv 0,Iv 0] tNd);have k3:=Blk.new (w.alloc (.cells (ndC x.h x.v t) tNd)) tNd #[Iv 0,Iv 0,Iv 0,.string ⟨#[]⟩,Iv 0,.slice none 0 0,Iv 0,Iv 0];rw [show (w.alloc (.cells (ndC x.h x.v t) tNd)).heap.size=w.heap.size+1 by simp] at k3
 have NR:=h.chk.lt;have h2:=h.on hb;have HX:=Hy4 hx hS hb h;have QF:=hx.le;obtain ⟨kA,kc,hv⟩:∃A c,x.v=.slice A kn c:=by have h9:=(RdS.av (h.ks x hx.mem).1).shape;rw [hx.len] at h9;exact h9
 clear h hx hS;obtain ⟨xh,xk,xv⟩:=x;simp only at hv;subst hv;obtain ⟨o1,o2,o3,o4,o5,o6⟩:=xh;obtain ⟨t1,t2⟩:=t;simp only at *;obtain ⟨zs,FV⟩:=zN (str o4);simp only [ndC,ndV,FV] at k2 k3 hb h2 HX |-;have HZ:=Hy FV;clear FV;go_enter func98,ntmps98;go_upto_region 1 with (fail);obtain ⟨H,hH⟩:=zN w.heap.size;rw [hH] at k2 k3;have Wd:X.b<H:=by omega
 generalize (w.alloc (.cells #[Iv o1,Iv o2,Iv o3,.string zs,Iv o5,.slice kA kn kc,Iv t1,Iv t2] tNd)).alloc (.cells #[Iv 0,Iv 0,Iv 0,.string ⟨#[]⟩,Iv 0,.slice none 0 0,Iv 0,Iv 0] tNd)=W at *;have K2:=Hy k2;have KZ:=Hy k3;have H2:=Hy h2;try simp only [hH]
 have HH:=Hy hH;clear k2 k3 h2 hb NR hH;have yF:l8 ⟨o1,o2,o3,o4,o5,o6⟩ xk (t1,t2) (rst S)=rr:=Gz;have Jm:=Hy yF;clear Gz yF;have jk:=Hy2 K2.out KZ.out;obtain ⟨ln,Fg⟩:∃q,(S.vs.getD S.F []).length=q:=⟨_,rfl⟩;have UW:=Hy (show Calls prog 131 #[crp X,.agg #[Iv o1,Iv o2,Iv o3,.string zs,Iv o5,.slice kA kn kc,Iv t1,Iv t2]] W fun e w'=>∃lv' v',e=.returned (.agg #[Iv o1,Iv o2,Iv o3,.string zs,Iv o5,.slice kA kn kc,Iv t1,Iv (ln:Nat)])/\RV X {S with d:=dN (twR S.deep o4 o2 S.L (aN S.tr o2 (xk.take 1) S.d)) (decide (64<=ln)) 9 o2,L:=S.L ++ [⟨o4,ln,S.deep⟩],lv:=lv',vls:=S.vls.set S.F v',vs:=S.vs.set S.F (S.vs.getD S.F [] ++ [o5])} w'/\FrP X W w' by have h9:=Kl H2.out HX.out.1 HX.out.2.1 bT (t1,t2);simp only [ndV,HZ.out,Fg] at h9;exact h9)
 have PO:=Hy Fg;clear Fg;have h12:o1=12:=H12.out;clear H12;subst h12;have n0:Ce W H 0 (Iv 12):=K2.out.cell 0;have n1:Ce W H 1 (Iv o2):=K2.out.cell 1;have n2:Ce W H 2 (Iv o3):=K2.out.cell 2;have n3:Ce W H 3 (.string zs):=K2.out.cell 3;have n4:Ce W H 4 (Iv o5):=K2.out.cell 4;have n5:Ce W H 5 (.slice kA kn kc):=K2.out.cell 5;have n6:Ce W H 6 (Iv t1):=K2.out.cell 6;have n7:Ce W H 7 (Iv t2):=K2.out.cell 7;have nl:=K2.out.lt;go_wp2_with fail;refine UW.out.mono ?_;clear UW;rintro e W1 ⟨lv',v',rfl,YD,hF1⟩;have b2:=hF1.blk jk.out.2 (HX.out.2.2.2.nLt (by have:=HH.out;omega))
 have kZ:=setRow_heap W1 (H+1) _ #[Iv 12,Iv o2,Iv o3,.string zs,Iv o5,.slice kA kn kc,Iv t1,Iv (ln:Nat)] tNd (0,0) b2;have oW:=Hy2 kZ (below_setRow (B:=w.heap.size) W1 (H+1) #[Iv 12,Iv o2,Iv o3,.string zs,Iv o5,.slice kA kn kc,Iv t1,Iv (ln:Nat)] (by have:=HH.out;omega))
 have HR1:=Hy (YD.box b2.kind (HX.out.2.2.2.nLt (by have:=HH.out;omega)) (uh W1 (H+1) #[Iv 12,Iv o2,Iv o3,.string zs,Iv o5,.slice kA kn kc,Iv t1,Iv (ln:Nat)]))
 have Vt:=Hy ((FrP.below HX.out.2.2.2.Bw HX.out.2.2.1).trans hF1);clear kZ YD hF1;clear n0 n1 n2 n3 n4 n5 n6 n7 nl;go_wp2_with (refine wpList_store_row rfl tNd _ _ rfl (H+1) _ rfl rfl tNd #[Iv 0,Iv 0,Iv 0,.string ⟨#[]⟩,Iv 0,.slice none 0 0,Iv 0,Iv 0] b2 ay rfl (by simp [Value.oneCell']) ?_)
 refine bodyPost_ret (results_cell_row rfl _ _ (H+1) tNd _ (0,0) _ rfl oW.out.1 underlying75 rfl ay) rfl ?_;have HB:=HX.out.2.2.2.Bw;rw [<-Jm.out];simp only [l8,PO.out];exact ⟨lv',_,trivial,HR1.out,Vt.out.under HB oW.out.2⟩
theorem CE (h:RV X S w){x:CN}{kn:Nat}(hx:NdX X x kn)(hS:SOk X S)(Gt:ArS x kn){lo b:Nat}{f:Fn'×Value}(hw:WkX X S.F lo b f)(t:Int×Int) :
  Calls prog 98 #[crp X,ndV x.h x.v t] w fun e w'=>∃lv' JY,e=.returned (ndV x.h x.v (dM X.gs (X.fl.map (·.1)) f.1.ty (dP X lo b) x.h x.kids t (rst S)).1)/\RV X (upd S lv' JY (dM X.gs (X.fl.map (·.1)) f.1.ty (dP X lo b) x.h x.kids t (rst S)).2) w'/\FrP X w w':=by
 by_cases h12:x.h.op=12
 ·have e:(dM X.gs (X.fl.map (·.1)) f.1.ty (dP X lo b) x.h x.kids t (rst S))=l8 x.h x.kids t (rst S):=by unfold dM;rw [if_pos h12]
  rw [e];exact LV h hx hS (Gt.one (.inl h12)) h12 t
 ·refine (LU h hx hS Gt hw h12 t _ rfl).mono ?_;rintro e w' ⟨rfl,hP⟩;refine ⟨S.lv,xC S,rfl,?_,hP.fr h⟩;rw [yj h12,LG (h.FS hw rfl) (h.V (h.FS hw rfl))];exact hP.rv
theorem y9 {B sz n g cap:Nat}{t:TypeId}{xs:List Value}(h:w.ownsRow B t sz (.slice (some ⟨g,0,none⟩) n cap) n xs):∀(us:List Value) (j:Nat) (rest:List Value),(∀i u,us[i]? =some u->xs[j+i]? =some u)->w.setCells g j (us ++ rest)=w.setCells g (j+us.length) rest:=by
 intro us
 induction us with
 |nil=>intro j rest _;rfl
 |cons u us ih=>
  intro j rest hu;rw [List.cons_append,World.setCells,lT h (by have:=hu 0 u rfl;simpa using this),ih (j+1) rest (fun i v hv=>by rw [show j+1+i=j+(i+1) by omega];exact hu (i+1) v hv),List.length_cons]
  congr 1
  omega
theorem RV.node (h:RV X S w){g:Nat}(hA:X.nA=some ⟨g,0,none⟩){a:Nat}{x:CN}(hx:X.ns[a]? =some x)(t':Int×Int) :
  RV X {S with tr:=S.tr.set a t'} (w.setCells g (a * 8) (aA x t'))/\w.grownBy (w.setCells g (a * 8) (aA x t')) (some g):=by
 obtain ⟨t,ht⟩:∃t,S.tr[a]? =some t:=⟨_,List.getElem?_eq_getElem (by rw [h.tl];exact (zS.1 hx).1)⟩
 have hn:=h.n;rw [hA] at hn;have e:w.setCells g (a * 8) (aA x t')=(w.setCell ⟨g,a * 8+6,none⟩ (Iv t'.1)).setCell ⟨g,a * 8+7,none⟩ (Iv t'.2):=by
  have h9:=y9 hn [Iv x.h.op,Iv x.h.p,Iv x.h.n,.string (str x.h.s),Iv x.h.to,x.v] (a * 8) [Iv t'.1,Iv t'.2] (fun i u hu=>by
   have h8:i<6:=(zS.1 hu).1;rw [aV X.ns S.tr a i (by omega) hx ht]
   rw [<-hu]
   match i,h8 with
   |0,_=>rfl
   |1,_=>rfl
   |2,_=>rfl
   |3,_=>rfl
   |4,_=>rfl
   |5,_=>rfl)
  exact h9
 rw [e];obtain ⟨n1,g1⟩:=hn.stored (a * 8+6) (Iv t'.1);obtain ⟨n2,g2⟩:=n1.stored (a * 8+7) (Iv t'.2);rw [ja X.ns S.tr a 6 (by omega) hx ht (t':=(t'.1,t.2)) _ rfl] at n1 n2
 obtain ⟨p1,p2⟩:=t';simp only at n1 n2 |-;rw [ja X.ns (S.tr.set a (p1,t.2)) a 7 (by omega) hx (t:=(p1,t.2)) (List.getElem?_set_self (zS.1 ht).1) (t':=(p1,p2)) (Iv p2) rfl,List.set_set] at n2
 have hg:=fG g1 g2;refine ⟨?_,hg⟩;have hk:Kind w g tNd:=ag hn rfl;have hr:∀{base sz n:Nat} {T:TypeId} {u:Value} {xs:List Value},w.ownsRow base T sz u n xs->T≠tNd->∀r,some g=some r->u.ownBlock≠some r:=by
  intro base sz n T u xs h1 hT r hr e;cases hr;exact au (ag h1 e) hk hT rfl
 exact {
  chk:=ak hg h.chk (fun e=>au h.chk.kind hk (by decide) (Option.some.inj e).symm)
  g:=ah hg h.g (hr h.g (by decide))
  f:=ah hg h.f (hr h.f (by decide))
  n:=by rw [hA];exact n2
  l:=ah hg h.l (hr h.l (by decide))
  ps:=fun x hx=>ah hg (h.ps x hx) (hr (h.ps x hx) (by decide))
  ks:=fun x hx=>az hg (h.ks x hx) (hr (h.ks x hx).1 (by decide))
  cur:=fun u l h1 h2=>ah hg (h.cur u l h1 h2) (hr (h.cur u l h1 h2) (by decide))
  old:=fun j u l h0 h1 h2=>az hg (h.old j u l h0 h1 h2) (hr (h.old j u l h0 h1 h2).1 (by decide))
  vl:=h.vl
  vn:=h.vn
  tl:=by simpa using h.tl
  hB:=⟨h.hB.1,h.hB.2.1,Nat.le_trans h.hB.2.2 hg.size⟩}
theorem RV.yG (h:RV X S w){g:Nat}(hA:X.nA=some ⟨g,0,none⟩){w':World}(hg:w.grownBy w' (some g)):FrP X w w':=by
 have hn:=h.n;rw [hA] at hn;have hgB:X.B<=g:=(hn.lt g rfl).1;exact ⟨kK hg hgB h.Bw,fun m hm _ hn=>hg.block m hm (fun e=>by cases e;exact hn (by rw [hA];rfl))⟩
end
end
section
open Go Go.RowKit Go.Maps
section
variable {gs:List Gl} {fs:List Fn'} {ft:Int} {lab:Nm'->Nat}
theorem q8 (h:Hd)(ks:List Nat)(i:Nat)(s:Rst):(bZ gs fs ft lab h ks i s).deep=s.deep:=by
 unfold bZ;exact (nO _ _ _ _).2
theorem tO (h:Hd)(ks:List Nat)(i:Nat)(s:Rst):∃l,(bZ gs fs ft lab h ks i s).L=s.L ++ l:=by
 unfold bZ;rcases wE (gs:=gs) (fs:=fs) (ft:=ft) (lab:=lab) h ks (fO gs fs s.tr s.vs s.L h ks (s.tr.getD i (0,0)) s.d).1 {s with d:=(fO gs fs s.tr s.vs s.L h ks (s.tr.getD i (0,0)) s.d).2} with ⟨h1,_⟩|⟨h1,_⟩
 ·exact ⟨[],by simp only;rw [h1,List.append_nil]⟩
 ·exact ⟨_,h1⟩
theorem lN (F:Fo):∀(c:Nat) (s:Rst),(aQ gs fs ft lab F c s).deep=s.deep/\∃l,(aQ gs fs ft lab F c s).L=s.L ++ l:=by
 induction F with
 |nil=>intro c s;exact ⟨rfl,[],(List.append_nil _).symm⟩
 |cons h k r ih1 ih2=>
  intro c s;rw [gN];have ht:(fu gs fs ft lab h k c s).deep=s.deep/\∃l,(fu gs fs ft lab h k c s).L=s.L ++ l:=by
   unfold fu;by_cases hd:s.d.1≠0
   ·rw [if_pos hd];exact ⟨rfl,[],(List.append_nil _).symm⟩
   ·rw [if_neg hd];by_cases h11:h.op=11
    ·rw [if_pos h11];obtain ⟨w1,l,w2⟩:=ih1 c {s with deep:=s.deep+1};have e1:(fC s.L.length (aQ gs fs ft lab k c {s with deep:=s.deep+1})).deep=s.deep:=by unfold fC;simp only;rw [w1];simp
     have e2:∃l',(fC s.L.length (aQ gs fs ft lab k c {s with deep:=s.deep+1})).L=s.L ++ l':=by
      unfold fC;simp only;by_cases h0:0< (aQ gs fs ft lab k c {s with deep:=s.deep+1}).deep - 1
      ·rw [if_pos h0,w2,List.take_left];exact ⟨[],(List.append_nil _).symm⟩
      ·rw [if_neg h0];exact ⟨l,w2⟩
     split
     ·refine ⟨(q8 _ _ _ _).trans e1,?_⟩;obtain ⟨l1,q1⟩:=e2;obtain ⟨l2,q2⟩:=tO (gs:=gs) (fs:=fs) (ft:=ft) (lab:=lab) h (k.roots c) (c+k.size) (fC s.L.length (aQ gs fs ft lab k c {s with deep:=s.deep+1}));exact ⟨l1 ++ l2,by rw [q2,q1,List.append_assoc]⟩
     ·exact ⟨e1,e2⟩
    ·rw [if_neg h11];obtain ⟨w1,l,w2⟩:=ih1 c s;split
     ·refine ⟨(q8 _ _ _ _).trans w1,?_⟩;obtain ⟨l2,q2⟩:=tO (gs:=gs) (fs:=fs) (ft:=ft) (lab:=lab) h (k.roots c) (c+k.size) (aQ gs fs ft lab k c s);exact ⟨l ++ l2,by rw [q2,w2,List.append_assoc]⟩
     ·exact ⟨w1,l,w2⟩
  obtain ⟨a1,l1,a2⟩:=ht;obtain ⟨b1,l2,b2⟩:=ih2 (c+k.size+1) (fu gs fs ft lab h k c s);exact ⟨b1.trans a1,l1 ++ l2,by rw [b2,a2,List.append_assoc]⟩
theorem nL (F:Fo):∀(c q:Nat) (s:Rst),(eT gs fs ft lab F c q s).deep=s.deep:=by
 induction F with
 |nil=>intro c q s;rfl
 |cons h k r _ ih2=>
  intro c q s;cases q with
  |zero=>rfl
  |succ q=>
   simp only [eT];rw [ih2];have h9:=(lN (gs:=gs) (fs:=fs) (ft:=ft) (lab:=lab) (.cons h k .nil) c s).1;rw [gN] at h9;exact h9
end
theorem uP {w:World}{B:Nat}{t:TypeId}{sz n c:Nat}{A:Option Addr}{xs:List Value}(h:w.ownsRow B t sz (.slice A n c) n xs){m:Nat}(hm:m<=n):w.ownsRow B t sz (.slice A m c) m (xs.take (m * sz)):=by
 obtain ⟨h1,h2⟩:=h;have h3:m * sz<=n * sz:=Nat.mul_le_mul_right _ hm;refine ⟨by rw [List.length_take];omega,?_⟩
 rcases h2 with ⟨e,e2⟩|⟨g,cap,cur,e,a1,a2,a3,a4,a5,a6⟩
 ·simp only [Value.slice.injEq] at e;obtain ⟨rfl,rfl,rfl⟩:=e;have:m=0:=by omega
  subst this;exact .inl ⟨rfl,rfl⟩
 ·simp only [Value.slice.injEq] at e;obtain ⟨rfl,-,rfl⟩:=e;exact .inr ⟨g,c,cur,rfl,a1,a2,by omega,a4,a5,by rw [<-a6,List.take_take];congr 1;omega⟩
theorem wT {w:World}{B:Nat}{t:TypeId}{sz n c:Nat}{A:Option Addr}{xs:List Value}(h:w.ownsRow B t sz (.slice A n c) n xs):n<=c/\c<=maxLen:=by
 rcases h.2 with ⟨e,e2⟩|⟨g,cap,cur,e,a1,a2,a3,a4,a5,a6⟩
 ·simp only [Value.slice.injEq] at e;obtain ⟨rfl,rfl,rfl⟩:=e;exact ⟨by omega,by unfold maxLen;omega⟩
 ·simp only [Value.slice.injEq] at e;obtain ⟨-,-,rfl⟩:=e;exact ⟨a3,a4⟩
theorem GU (L:List Vr):∀m,(L.flatMap vrC).take (m * 3)=(L.take m).flatMap vrC:=by
 induction L with
 |nil=>intro m;simp
 |cons y l ih=>
  intro m;cases m with
  |zero=>simp
  |succ m=>
   rw [List.flatMap_cons,List.take_succ_cons,List.flatMap_cons,<-ih m,show (m+1) * 3=(vrC y).length+m * 3 by simp [vrC];omega,List.take_length_add_append]
theorem Lp {x:CN}{kn:Nat}(h:arity x.h.op x.kids.length=true)(hk:x.kids.length=kn):ArE x kn/\ArS x kn:=by
 rw [hk] at h;unfold arity at h;refine ⟨⟨fun e=>?_,fun e=>?_⟩,⟨fun e=>?_,fun e=>?_⟩⟩
 ·rcases e with e|e|e <;> rw [e] at h <;> simp at h <;> omega
 ·rw [e] at h;simp at h;omega
 ·rcases e with e|e|e|e|e <;> rw [e] at h <;> simp at h <;> omega
 ·rw [e] at h;simp at h;omega
section
variable {X:RX}
def sK (X:RX) (S:RS) (w:World) (s:Rst) (w':World):Prop:=∃lv' JY,RV X (upd S lv' JY s) w'/\FrP X w w'
theorem uu {S:RS}{w:World}{P c:Nat}{F lo b:Nat}{f:Fn'×Value}(h:RV X S w)(hw:WkX X F lo b f)(hF:S.F=F)(Vf:Wb P c (rst S))(hP:P+c<=1000000):SOk X S:=
 ⟨by have h1:=(zS.1 hw.fF).1;rw [hF];exact h1,Vf.i,by have:=Vf.L;simp only [rst] at this;omega,by have:=Vf.v;simp only [rst] at this;omega,hw.gn,hw.fn⟩
theorem LD {Fi lo b:Nat}{f:Fn'×Value}(hw:WkX X Fi lo b f){P:Nat}(hP:P+X.ns.length<=900000)(F:Fo) :
  ∀(d:Nat),(∀m n,(F.flat d)[m]? =some n->(X.ns.map CN.nd)[d+m]? =some n)->∀(i a:Nat),(F.roots d)[i]? =some a->
  ∀(S:RS) (w:World),RV X S w->S.F=Fi->Wb P (F.off d i) (rst S)->0<=S.deep->S.deep+F.size<=1000000->
  Calls prog 64 #[crp X,Iv (a:Nat)] w fun e w'=>e=.returned (.tuple #[])/\sK X S w (sD X.gs (X.fl.map (·.1)) f.1.ty (dP X lo b) F d i (rst S)) w':=by
 induction F with
 |nil=>intro d _ i a ha;simp [Fo.roots] at ha
 |cons hd k r ih1 ih2=>
  intro d xu i a ha S w h hF Vf hd0 Ja;cases i with
  |succ i=>
   rw [Fo.roots,List.getElem?_cons_succ] at ha;simp only [sD];refine ih2 (d+k.size+1) (fun m n hn=>?_) i a ha S w h hF Vf hd0 (by simp only [Fo.size] at Ja;omega)
   rw [show d+k.size+1+m=d+(k.size+1+m) by omega]
   exact xu _ _ (by rw [gW];exact hn)
  |zero=>
   rw [Fo.roots,List.getElem?_cons_zero,Option.some.injEq] at ha;have IH:=Hy (ih1 d (fun m n hn=>xu m n (jO hn)))
   have LC:=xu _ _ (iN (h:=hd) (k:=k) (r:=r) (c:=d));clear ih1 ih2 xu;rw [Fo.kH] at Vf;simp only [sD];have hFS:=h.FS hw hF;have sQ:S.deep+k.size+1<=1000000:=by simp only [Fo.size] at Ja;omega
   clear Ja;by_cases he:S.d.1=0
   case neg=>
    obtain ⟨d1,Ja⟩:=zN S.d.1;have c6:=h.c6;have cl:=h.chk.lt;have HQ:=Hy (show sK X S w (fu X.gs (X.fl.map (·.1)) f.1.ty (dP X lo b) hd k d (rst S)) w from by
     unfold fu;rw [if_pos he];exact ⟨S.lv,xC S,by rw [upd_same hFS (h.V hFS)];exact h,FrP.refl _ _⟩)
    rw [Ja] at c6 he;clear h hw LC ha Vf hFS Ja hF IH sQ hd0;go_enter func64,ntmps64;go_wp2_with fail;refine bodyPost_ret (results_none rfl _ _ _) rfl ?_;exact ⟨rfl,HQ.out⟩
   case pos=>
    rw [ha] at LC;rw [List.getElem?_map] at LC;obtain ⟨⟨xh,xk,xv⟩,hx,hxe⟩:∃x,X.ns[a]? =some x/\x.nd=⟨hd,k.roots d⟩:=by
     cases hx:X.ns[a]? with
     |none=>rw [hx] at LC;cases LC
     |some x=>rw [hx] at LC;exact ⟨x,rfl,Option.some.inj LC⟩
    simp only [CN.nd,Nd.mk.injEq] at hxe;obtain ⟨rfl,PR⟩:=hxe;have hmem:=zG hx;obtain ⟨t,ht⟩:∃t,S.tr[a]? =some t:=⟨_,List.getElem?_eq_getElem (by rw [h.tl];exact (zS.1 hx).1)⟩
    obtain ⟨kn,Ey⟩:=zN xk.length;have hNX:NdX X ⟨xh,xk,xv⟩ kn:=⟨hmem,Ey,by rw [<-Ey];exact hw.k2 _ hmem,hw.kd _ hmem,hw.n2⟩
    have hAR:=Lp (hw.ar _ hmem) Ey;have sZ:k.len=kn:=by rw [<-Ey,PR,Fo.dK]
    have Qp:=(zS.1 hx).1;obtain ⟨kA,kc,rfl⟩:∃A c,xv=.slice A kn c:=by have h9:=(RdS.av (h.ks _ hmem).1).shape;rw [Ey] at h9;exact h9
    obtain ⟨gn,X4⟩:∃g,X.nA=some ⟨g,0,none⟩:=by
     rcases h.n.2 with ⟨_,e⟩|⟨g,_,_,e,_⟩
     ·omega
     ·simp only [Value.slice.injEq] at e;exact ⟨g,e.1⟩
    have hrn:=RdS.av h.n;obtain ⟨t1,t2⟩:=t;obtain ⟨o1,o2,o3,o4,o5,o6⟩:=xh;have hc:=fun j hj=>aV X.ns S.tr a j hj hx ht
    have e0:(aI X.ns S.tr)[a * 8]? =some (Iv o1):=hc 0 (by omega)
    obtain ⟨g',o',Pq,hg,qi⟩:=hrn.get (dQ e0);rw [X4] at Pq;simp only [Option.some.injEq,Addr.mk.injEq,and_true] at Pq;obtain ⟨rfl,rfl⟩:=Pq;obtain ⟨zs,FV⟩:=zN (str o4);have y0:=qi _ _ (hc 0 (by omega))
    have y1:=qi _ _ (hc 1 (by omega))
    have y2:=qi _ _ (hc 2 (by omega))
    have y3:=qi _ _ (hc 3 (by omega))
    have y4:=qi _ _ (hc 4 (by omega))
    have y5:=qi _ _ (hc 5 (by omega))
    have y6:=qi _ _ (hc 6 (by omega))
    have y7:=qi _ _ (hc 7 (by omega))
    simp only [Ss,aA,List.getElem?_cons_zero,List.getElem?_cons_succ,Nat.zero_add,Nat.add_zero,FV] at y0 y1 y2 y3 y4 y5 y6 y7;have c2:=h.c2;have c4:=h.c4;have c6:=h.c6;have cl:=h.chk.lt;rw [X4] at c2;rw [he] at c6;obtain ⟨nn,DC⟩:=zN X.ns.length;obtain ⟨Ln,Xe⟩:=zN S.L.length;obtain ⟨lA,lc,Ui⟩:∃A c,S.lv=.slice A Ln c:=by have h9:=(RdS.av h.l).shape;rw [Xe] at h9;exact h9
    rw [Ui] at c4;rw [DC] at c2;have haI:(a:Int)<nn:=by omega
    have hLm:Ln<=1000000:=by have h9:=Vf.L;simp only [rst] at h9;omega
    obtain ⟨deep,Tm⟩:=zN S.deep;have hd0':0<=deep:=by omega
    have hd1':deep<=1000000:=by omega
    have MQ:Below w.heap.size w (w.alloc (.cells #[Iv o1,Iv o2,Iv o3,.string zs,Iv o5,.slice kA kn kc,Iv t1,Iv t2] tNd)):=(zB _ _).alloc (zL _) _;have bT:=Blk.new w tNd #[Iv o1,Iv o2,Iv o3,.string zs,Iv o5,.slice kA kn kc,Iv t1,Iv t2];have YD:=h.on MQ;have HX:=Hy8 hNX hAR hFS Vf hF he sQ h;have HN:=Hy10 sZ Ey PR hx ht X4 DC Xe Ui Tm;have HZ:=Hy FV;have HW:=Hy hw;have HA:=Hy ha;have HP:=Hy hP;clear hNX hAR hFS Vf hF he sQ h sZ Ey PR hx ht X4 DC Xe Ui Tm FV hw ha hmem LC Qp hrn hc e0 qi hd0 hP;by_cases h11:o1=11
    case pos=>
     subst h11;have q11:decide ((11:Int)=11)=true:=by decide
     go_enter func64,ntmps64;go_upto_region 2 with (fail);obtain ⟨H,hH⟩:=zN w.heap.size;rw [hH] at bT;have Wd:X.b<H:=by omega
     have hgH:gn<H:=by omega
     generalize w.alloc (.cells #[Iv 11,Iv o2,Iv o3,.string zs,Iv o5,.slice kA kn kc,Iv t1,Iv t2] tNd)=W1 at *;have iK:=Hy MQ;have K1:=Hy bT;have R1:=Hy YD;try simp only [hH]
     have HH:=Hy hH;clear MQ bT YD y0 y1 y2 y3 y4 y5 y6 y7 c2 c6 hH hg cl c4;have m0:W1.cell? ⟨H,0,none⟩=some (Iv 11):=K1.out.cell 0;have ml:=K1.out.lt;have c4:=R1.out.c4;have c5:=R1.out.c5;have cl:=R1.out.chk.lt;have f5:=R1.out.chk.frozen 5;rw [HN.out.2.2.2.2.2.2.2.2.1] at c4;rw [HN.out.2.2.2.2.2.2.2.2.2] at c5;have Vh:=R1.out.Bw;have V3:=R1.out.own (j:=5) (u:=Iv (deep+1)) (S':={S with deep:=deep+1}) (by simp [gu]) rfl rfl rfl rfl rfl rfl rfl
     go_upto_region 6 with (fail);have R2:=Hy V3.1;have ZN:=NoP.fr R1.out ⟨V3.1,V3.2⟩;have K2:=Hy (ZN.blk K1.out (HX.out.2.2.2.2.2.2.2.nLt (by have:=HH.out;omega)))
     have F2:=Hy ((FrP.below HX.out.2.2.2.2.2.2.2.Bw iK.out).trans ZN);clear V3 ZN m0 ml c4 c5 cl f5 Vh;generalize W1.setCell ⟨X.b,5,none⟩ (Iv (deep+1))=W2 at *;obtain ⟨S1,Pp⟩:∃q:RS,({S with deep:=deep+1}:RS)=q:=⟨_,rfl⟩;rw [Pp] at R2;have Lv:=Hy Pp;have hm5:W2.cell? ⟨H,5,none⟩=some (.slice kA kn kc):=K2.out.cell 5;have Jf:=Hy (show S1.F=Fi/\S1.F<S1.vs.length/\Wb P d (rst S1)/\0<=S1.deep/\S1.deep+k.size<=1000000 from by
      have h1:=HX.out.2.2.2.2.1;have h2:=HX.out.2.2.1;have h3:=HX.out.2.2.2.1;have h4:=HX.out.2.2.2.2.2.2.1;have h5:=HN.out.2.2.2.2.2.2.2.2.2;rw [<-Lv.out];refine ⟨h1,h2,⟨h3.L,h3.v,h3.i⟩,?_,?_⟩ <;> (try simp only) <;> omega)
     have hkn2:kn<=1000000:=HX.out.1.le;have hml5:=K2.out.lt;clear Pp;go_wp2_with fail;go_loopw [7] (fun v wr=>∃q:Nat,q<=kn/\v=Iv q/\sK X S1 W2 (eT X.gs (X.fl.map (·.1)) f.1.ty (dP X lo b) k d q (rst S1)) wr) (fun v _=>kn - (intOf v).toNat)
     case atStart=>exact ⟨0,by omega,rfl,S1.lv,xC S1,by rw [mR,upd_same Jf.out.2.1 (R2.out.V Jf.out.2.1)];exact R2.out,FrP.refl _ _⟩
     case round=>
      obtain ⟨q,hq,rfl,Px,Gy,JW,UI⟩:=hrel;obtain ⟨wo,PT⟩:=zQ wr;subst PT;have kb:=UI.blk K2.out (HX.out.2.2.2.2.2.2.2.nLt (by have:=HH.out;omega))
      have n5:wo.cell? ⟨H,5,none⟩=some (.slice kA kn kc):=kb.cell 5;have nl:=kb.lt;by_cases hlt:q<kn
      ·obtain ⟨bk,MN⟩:∃bk,xk[q]? =some bk:=⟨_,List.getElem?_eq_getElem (by have:=HN.out.2.1;omega)⟩
       have v1:(ints (bK xk))[q]? =some (Iv (bk:Nat)):=by simp [ints,bK,MN]
       have Ny:=RdS.av (JW.ks _ HX.out.1.mem).1;simp only at Ny;rw [HN.out.2.1] at Ny;obtain ⟨g5,o5',rfl,Qk,Rj⟩:=Ny.get (dQ v1);have z5:=Rj _ _ v1;have hqI:(q:Int)<kn:=by omega
       have Qa:(k.roots d)[q]? =some bk:=by rw [<-HN.out.2.2.1];exact MN
       have VL:q<k.len:=by have:=HN.out.1;omega
       have hrs:rst (upd S1 Px Gy (eT X.gs (X.fl.map (·.1)) f.1.ty (dP X lo b) k d q (rst S1)))=eT X.gs (X.fl.map (·.1)) f.1.ty (dP X lo b) k d q (rst S1):=jZ Jf.out.2.1 _ _ _;have HC:=Hy (IH.out q bk Qa (upd S1 Px Gy (eT X.gs (X.fl.map (·.1)) f.1.ty (dP X lo b) k d q (rst S1))) wo JW Jf.out.1 (by
        rw [hrs];exact vZ k P d q _ (by omega) Jf.out.2.2.1) (by simp only;rw [nL];exact Jf.out.2.2.2.1) (by simp only;rw [nL];exact Jf.out.2.2.2.2))
       rw [hrs] at HC;have RL:=Hy2 UI VL;clear JW UI kb MN v1 Ny Rj Qa VL hrs;go_wp2_with fail;refine HC.out.mono ?_;clear HC;rintro e w5 ⟨rfl,S9,O1,Me,EG⟩;have HQ:=Hy (show sK X S1 W2 (eT X.gs (X.fl.map (·.1)) f.1.ty (dP X lo b) k d (q+1) (rst S1)) w5 from by
        rw [qI k d q _ RL.out.2];rw [zC] at Me;exact ⟨S9,O1,Me,RL.out.1.trans EG⟩)
       clear Me EG n5 nl z5 Qk;go_wp2_with fail;go_roundw
       case rel=>exact ⟨q+1,by omega,by go_num,HQ.out⟩
       case measure=>simp [intOf];omega
      ·obtain rfl:kn=q:=by omega
       rw [show eT X.gs (X.fl.map (·.1)) f.1.ty (dP X lo b) k d kn (rst S1)=aQ X.gs (X.fl.map (·.1)) f.1.ty (dP X lo b) k d (rst S1) from by rw [<-HN.out.1];exact sN _ _ _] at JW
       obtain ⟨s2,GN⟩:=zN (aQ X.gs (X.fl.map (·.1)) f.1.ty (dP X lo b) k d (rst S1));rw [GN] at JW;have QQ:s2.deep=S1.deep:=by rw [<-GN];exact (lN k d _).1
       have Sb:∃l,s2.L=S1.L ++ l:=by rw [<-GN];exact (lN k d _).2
       have TN:Wb P (d+k.size) s2:=by rw [<-GN];exact qG k P d _ Jf.out.2.2.1
       have TP:s2.tr.getD a (0,0)=(t1,t2):=by
        rw [<-GN,(vY k d _).2 a (by right;have:=HA.out;omega),<-Lv.out]
        simp [rst,List.getD,HN.out.2.2.2.2.1]
       have qh:=Hy5 GN QQ Sb TN TP;have c6:=JW.c6;have cl:=JW.chk.lt;have c5:=JW.c5;have f5:=JW.chk.frozen 5;have f4:=JW.chk.frozen 4;have c4:=JW.c4;simp only at c4 c5 c6;rw [show s2.deep=deep+1 from by rw [QQ,<-Lv.out]] at c5
       obtain ⟨SL,UF⟩:=zN s2.L.length;have Uj:=JW.l;simp only at Uj;obtain ⟨Ow,NT,VP⟩:∃A c,Px=.slice A SL c:=by have h9:=(RdS.av Uj).shape;rw [UF] at h9;exact h9
       subst VP;rw [UF] at Uj;have Yt:=wT Uj;have hLL:Ln<=SL:=by
        obtain ⟨l9,e9⟩:=Sb;have h8:=HN.out.2.2.2.2.2.2.2.1;rw [<-UF,e9,List.length_append,<-Lv.out];simp only;omega
       have hLL2:(Ln:Int)<=NT:=by omega
       have hLL3:NT<=9223372036854775807:=by have h8:=Yt.2;unfold maxLen at h8;omega
       have e3:upd S1 (.slice Ow SL NT) Gy s2=upd S (.slice Ow SL NT) Gy s2:=by rw [<-Lv.out]
       rw [e3] at JW;have V3:=JW.own (j:=5) (u:=Iv deep) (S':=upd S (.slice Ow SL NT) Gy {s2 with deep:=deep}) (by simp [gu]) rfl rfl rfl rfl rfl rfl rfl
       have hdF:=NoP.fr JW ⟨V3.1,V3.2⟩;have Ww:=Hy3 V3.1 (hdF.blk kb (HX.out.2.2.2.2.2.2.2.nLt (by have:=HH.out;omega))) ((F2.out.trans UI).trans hdF)
       have Y7:=Hy3 UF Yt hLL;have SQ:=Hy (show fu X.gs (X.fl.map (·.1)) f.1.ty (dP X lo b) ⟨11,o2,o3,o4,o5,o6⟩ k d (rst S)=(if s2.d.1=0 then bZ X.gs (X.fl.map (·.1)) f.1.ty (dP X lo b) ⟨11,o2,o3,o4,o5,o6⟩ xk a (fC Ln s2) else fC Ln s2) from by
        unfold fu;have h6:=HX.out.2.2.2.2.2.1;have h7:=qh.out.1;have h8:({rst S with deep:=(rst S).deep+1}:Rst)=rst S1:=by rw [<-Lv.out,<-HN.out.2.2.2.2.2.2.2.2.2]
        rw [if_neg (by simpa [rst] using h6),if_pos rfl,h8,h7,<-HN.out.2.2.1,HA.out]
        simp only [rst,HN.out.2.2.2.2.2.2.2.1])
       have OW:s2.deep - 1=deep:=by rw [QQ,<-Lv.out];simp
       have HSH:=Hy OW;clear V3 hdF Uj Yt UF hLL e3 OW;clear GN QQ Sb TN TP UI JW kb;by_cases Tm:0<deep
       ·obtain ⟨s3,LJ⟩:=zN (fC Ln s2);have OA:s3={s2 with deep:=deep,L:=s2.L.take Ln}:=by rw [<-LJ];unfold fC;simp only [HSH.out];rw [if_pos Tm]
        rw [LJ] at SQ;have Xq:=Hy (show fu X.gs (X.fl.map (·.1)) f.1.ty (dP X lo b) ⟨11,o2,o3,o4,o5,o6⟩ k d (rst S)=(if s3.d.1=0 then bZ X.gs (X.fl.map (·.1)) f.1.ty (dP X lo b) ⟨11,o2,o3,o4,o5,o6⟩ xk a s3 else s3) from by rw [SQ.out,OA])
        have Ms:=Hy (show s3.tr.getD a (0,0)=(t1,t2)/\Wb P (d+k.size) s3 from ⟨by rw [OA];exact qh.out.2.2.2.2,by rw [<-LJ];exact qN qh.out.2.2.2.1⟩)
        have VQ:=Ww.out.1.l;simp only at VQ;rw [Y7.out.1] at VQ;have JG:=uP VQ Y7.out.2.2;rw [GU] at JG;have hsc:=RV.scL (v':=.slice Ow Ln NT) (L':=s2.L.take Ln) Ww.out.1 (w':=(wo.setCell ⟨X.b,5,none⟩ (Iv deep))) ⟨rfl,rfl,rfl,Nat.le_refl _,fun _ _ _=>rfl⟩ (by
         rw [List.length_take,Y7.out.1,Nat.min_eq_left Y7.out.2.2];exact JG)
        have Mq:=Hy3 hsc.1 (hsc.2.blk Ww.out.2.1 (HX.out.2.2.2.2.2.2.2.nLt (by have:=HH.out;omega))) (Ww.out.2.2.trans hsc.2)
        have c6':s3.d.1=s2.d.1:=by rw [OA]
        have Zf:=Hy2 OA c6';clear LJ OA JG hsc c6' SQ VQ;go_upto_region 14 with (fail);clear c4 c5 c6 cl f4 f5 n5 nl;generalize (wo.setCell ⟨X.b,5,none⟩ (Iv deep)).setCell ⟨X.b,4,none⟩ (.slice Ow Ln NT)=wp at *;obtain ⟨vls,Oz⟩:=zN Gy;have LW:=Hy (show RV X (upd S (.slice Ow Ln NT) vls s3) wp from by rw [<-Oz,Zf.out.1];exact Mq.out.1)
        have RL:=Hy Mq.out.2.2;have QN:=Hy Mq.out.2.1;clear Mq Ww Oz;obtain ⟨wo,PT⟩:=zQ wp;subst PT;have c6:=LW.out.c6;have cl:=LW.out.chk.lt;simp only at c6;by_cases hz:s3.d.1=0
        case neg=>
         obtain ⟨d1,Ja⟩:=zN s3.d.1;rw [Ja] at c6;have sI:¬ d1=0:=by rw [<-Ja];exact hz
         have HQ:=Hy (show sK X S w (fu X.gs (X.fl.map (·.1)) f.1.ty (dP X lo b) ⟨11,o2,o3,o4,o5,o6⟩ k d (rst S)) wo from by
          rw [Xq.out,if_neg hz];exact ⟨_,_,LW.out,RL.out⟩)
         clear hz Ja;go_wp2_with fail;go_end0;exact ⟨rfl,HQ.out⟩
        case pos=>
         rw [hz] at c6;go_upto_region 15 with (fail);have hrs:rst (upd S (.slice Ow Ln NT) vls s3)=s3:=jZ HX.out.2.2.1 _ _ _;have Ba:=uu (S:=upd S (.slice Ow Ln NT) vls s3) LW.out HW.out HX.out.2.2.2.2.1 (by rw [hrs];exact Ms.out.2) (by have h8:=HP.out;have h7:=(zS.1 HN.out.2.2.2.1).1;have h6:=HA.out;omega)
         obtain ⟨⟨⟨et,er⟩,ed⟩,hE⟩:∃q,fO X.gs (X.fl.map (·.1)) s3.tr s3.vs s3.L ⟨11,o2,o3,o4,o5,o6⟩ xk (t1,t2) s3.d=q:=⟨_,rfl⟩;obtain ⟨⟨⟨st,sr⟩,s4⟩,UE⟩:∃q,dM X.gs (X.fl.map (·.1)) f.1.ty (dP X lo b) ⟨11,o2,o3,o4,o5,o6⟩ xk (et,er) {s3 with d:=ed}=q:=⟨_,rfl⟩;have Gv:(upd S (.slice Ow Ln NT) vls s3).vs.getD S.F []=s3.vs:=congrArg Rst.vs hrs;have J:Below wo.heap.size wo wo:=zB _ _;have Xw:Hid (∀W',Below wo.heap.size wo W'->Calls prog 99 #[crp X,.agg #[Iv 11,Iv o2,Iv o3,.string zs,Iv o5,.slice kA kn kc,Iv t1,Iv t2]] W' fun e w'=>e=.returned (.agg #[Iv 11,Iv o2,Iv o3,.string zs,Iv o5,.slice kA kn kc,Iv et,Iv er])/\NoP X (upd S (.slice Ow Ln NT) vls {s3 with d:=ed}) wo w'):=Hy fun W' dK=>by
          have h9:=EB (LW.out.on dK) HX.out.1 Ba HX.out.2.1.1 (t1,t2);simp only [Gv,hE,ndV,HZ.out] at h9;exact h9.mono fun e w' h=>⟨h.1,NoP.before dK h.2⟩
         have Oi:Hid (∀W',NoP X (upd S (.slice Ow Ln NT) vls {s3 with d:=ed}) wo W'->Calls prog 98 #[crp X,.agg #[Iv 11,Iv o2,Iv o3,.string zs,Iv o5,.slice kA kn kc,Iv et,Iv er]] W' fun e w'=>∃lv' JY,e=.returned (.agg #[Iv 11,Iv o2,Iv o3,.string zs,Iv o5,.slice kA kn kc,Iv st,Iv sr])/\RV X (upd (upd S (.slice Ow Ln NT) vls {s3 with d:=ed}) lv' JY s4) w'/\FrP X W' w'):=Hy fun W' dK=>by
          have TQ:rst (upd S (.slice Ow Ln NT) vls {s3 with d:=ed})={s3 with d:=ed}:=jZ HX.out.2.2.1 _ _ _;have h9:=CE (f:=f) (lo:=lo) (b:=b) dK.rv HX.out.1 ⟨Ba.F,Ba.L,Ba.Ln,Ba.vn,Ba.g,Ba.f⟩ HX.out.2.1.2 (by rw [HX.out.2.2.2.2.1];exact HW.out) (et,er)
          rw [TQ] at h9;simp only [UE,ndV,HZ.out] at h9;exact h9
         have HS:Hid (∀(Wx:World) (S':RS),RV X S' Wx->FrP X wo Wx->Wx.cell? ⟨H,0,none⟩=some (Iv 11)/\Wx.cell? ⟨H,1,none⟩=some (Iv o2)/\Wx.cell? ⟨H,2,none⟩=some (Iv o3)/\Wx.cell? ⟨H,3,none⟩=some (.string zs)/\Wx.cell? ⟨H,4,none⟩=some (Iv o5)/\Wx.cell? ⟨H,5,none⟩=some (.slice kA kn kc)/\Wx.cell? ⟨H,6,none⟩=some (Iv t1)/\Wx.cell? ⟨H,7,none⟩=some (Iv t2)/\H<Wx.heap.size/\Wx.cell? ⟨X.b,2,none⟩=some (.slice (some ⟨gn,0,none⟩) nn X.nc)/\X.b<Wx.heap.size):=Hy fun Wx S' hR hF=>by
          have u:=hF.blk QN.out (HX.out.2.2.2.2.2.2.2.nLt (by have:=HH.out;omega))
          have u2:=hR.c2;rw [HN.out.2.2.2.2.2.1,HN.out.2.2.2.2.2.2.1] at u2;exact ⟨u.cell 0,u.cell 1,u.cell 2,u.cell 3,u.cell 4,u.cell 5,u.cell 6,u.cell 7,u.lt,u2,hR.chk.lt⟩
         have CF:=Hy hE;have Xr:=Hy UE;clear hrs Ba hE UE Gv c6 cl;refine wp_region_held_drew (S:=(fun (Wx:World)=>Wx.cell? ⟨H,0,none⟩=some (Iv 11)/\Wx.cell? ⟨H,1,none⟩=some (Iv o2)/\Wx.cell? ⟨H,2,none⟩=some (Iv o3)/\Wx.cell? ⟨H,3,none⟩=some (.string zs)/\Wx.cell? ⟨H,4,none⟩=some (Iv o5)/\Wx.cell? ⟨H,5,none⟩=some (.slice kA kn kc)/\Wx.cell? ⟨H,6,none⟩=some (Iv t1)/\Wx.cell? ⟨H,7,none⟩=some (Iv t2)/\H<Wx.heap.size/\Wx.cell? ⟨X.b,2,none⟩=some (.slice (some ⟨gn,0,none⟩) nn X.nc)/\X.b<Wx.heap.size)) (by kernel_rfl) (by exact HS.out _ _ LW.out.drew ⟨⟨rfl,rfl,rfl,Nat.le_refl _,fun _ _=>rfl⟩,fun _ _ _ _=>rfl⟩) (fun af=>?_)
         refine tQ 0 af ?_;refine tQ 1 af ?_;refine tQ 2 af ?_;refine tQ 3 af ?_;refine tQ 4 af ?_;refine tQ 5 af ?_;refine tQ 6 af ?_;refine tQ 7 af ?_;refine tQ 8 af ?_;try simp only [Act.put,zA]
         refine dC (i:=9) rfl (by kernel_rfl) (fun K hK=>?_)
         go_simp
         go_at_call 99
         (with_reducible refine Calls.mono (Xw.out _ J.drew) ?_)
         rintro e v1 ⟨rfl,P1⟩;have Mt:=Hy2 P1 (P1.fr LW.out);clear P1;clear af;refine hK.out _ _ ?_ (fun af=>?_)
         ·exact HS.out _ _ Mt.out.1.rv Mt.out.2
         clear hK K;try simp only [Act.put,zA]
         refine dC (i:=10) rfl (by kernel_rfl) (fun K hK=>?_)
         go_simp
         go_at_call 98
         (with_reducible refine Calls.mono (Oi.out _ Mt.out.1) ?_)
         rintro e v2 ⟨S9,O1,rfl,O0,Qq⟩;have I4:=Hy2 O0 (Mt.out.2.trans Qq);have Me:=O0.node HN.out.2.2.2.2.2.1 HN.out.2.2.2.1 (st,sr);have EG:=O0.yG HN.out.2.2.2.2.2.1 Me.2;have OJ:=Hy2 Me.1 ((Mt.out.2.trans Qq).trans EG);have Ro:=O0.n;rw [HN.out.2.2.2.2.2.1] at Ro;have OQ:v2.there gn (a * 8) 8:=fun j hj=>⟨by
           have h8:=Ro.cellAt (a * 8+j) (by have h7:=(zS.1 HN.out.2.2.2.1).1;omega)
           rw [h8];rw [aV X.ns _ a j hj HN.out.2.2.2.1 (zE (by have h7:=O0.tl;simp only at h7;rw [h7];exact (zS.1 HN.out.2.2.2.1).1))]
           match j,hj with
           |0,_=>rfl
           |1,_=>rfl
           |2,_=>rfl
           |3,_=>rfl
           |4,_=>rfl
           |5,_=>rfl
           |6,_=>rfl
           |7,_=>rfl,Ro.frozenAt _⟩
         simp only [Ss,aA,HZ.out] at OJ;clear O0 Qq Me EG Ro;clear af;refine hK.out _ _ ?_ (fun af=>?_)
         ·exact HS.out _ _ I4.out.1 I4.out.2
         clear hK K;refine tQ 11 af ?_;try simp only [Act.put,zA]
         refine dC (i:=12) rfl (by kernel_rfl) (fun K hK=>?_)
         rw [if_pos (by rfl)]
         refine wp_store_mid 75 _ _ rfl gn (a * 8) #[Iv 11,Iv o2,Iv o3,.string zs,Iv o5,.slice kA kn kc,Iv st,Iv sr] (by simp [Act.eval,Act.put]) (by simp [Act.eval,Act.put]) OQ ay (by simp [Value.oneCell']) ?_
         clear af;refine hK.out _ _ ?_ (fun af=>?_)
         ·exact HS.out _ _ OJ.out.1 OJ.out.2
         clear hK K;try simp only [Act.put,zA]
         refine wpAnyH_done (by kernel_rfl) ?_ _
         clear OQ Mt I4;go_wp2_with fail;go_end0;refine ⟨rfl,S9,O1,?_,RL.out.trans OJ.out.2⟩;rw [Xq.out,if_pos hz];have e9:bZ X.gs (X.fl.map (·.1)) f.1.ty (dP X lo b) ⟨11,o2,o3,o4,o5,o6⟩ xk a s3={s4 with tr:=s4.tr.set a (st,sr)}:=by
          unfold bZ;rw [Ms.out.1,CF.out];simp only [Xr.out];have h9:=(nO (gs:=X.gs) (fs:=X.fl.map (·.1)) (ft:=f.1.ty) (lab:=dP X lo b) ⟨11,o2,o3,o4,o5,o6⟩ xk (et,er) {s3 with d:=ed}).1;rw [Xr.out] at h9;simp only at h9;rw [h9]
         rw [e9];have h9:=OJ.out.1;simp only [upd,List.set_set] at h9 |-;exact h9
       ·obtain ⟨s3,LJ⟩:=zN (fC Ln s2);have OA:s3={s2 with deep:=deep}:=by rw [<-LJ];unfold fC;simp only [HSH.out];rw [if_neg Tm]
        rw [LJ] at SQ;have Xq:=Hy (show fu X.gs (X.fl.map (·.1)) f.1.ty (dP X lo b) ⟨11,o2,o3,o4,o5,o6⟩ k d (rst S)=(if s3.d.1=0 then bZ X.gs (X.fl.map (·.1)) f.1.ty (dP X lo b) ⟨11,o2,o3,o4,o5,o6⟩ xk a s3 else s3) from by rw [SQ.out,OA])
        have Ms:=Hy (show s3.tr.getD a (0,0)=(t1,t2)/\Wb P (d+k.size) s3 from ⟨by rw [OA];exact qh.out.2.2.2.2,by rw [<-LJ];exact qN qh.out.2.2.2.1⟩)
        have Zf:=Hy OA;clear LJ OA SQ;go_upto_region 14 with (fail);clear c4 c5 c6 cl f4 f5 n5 nl;generalize wo.setCell ⟨X.b,5,none⟩ (Iv deep)=wp at *;obtain ⟨vls,Oz⟩:=zN Gy;have LW:=Hy (show RV X (upd S (.slice Ow SL NT) vls s3) wp from by rw [<-Oz,Zf.out];exact Ww.out.1)
        have RL:=Hy Ww.out.2.2;have QN:=Hy Ww.out.2.1;clear Ww Oz;obtain ⟨wo,PT⟩:=zQ wp;subst PT;have c6:=LW.out.c6;have cl:=LW.out.chk.lt;simp only at c6;by_cases hz:s3.d.1=0
        case neg=>
         obtain ⟨d1,Ja⟩:=zN s3.d.1;rw [Ja] at c6;have sI:¬ d1=0:=by rw [<-Ja];exact hz
         have HQ:=Hy (show sK X S w (fu X.gs (X.fl.map (·.1)) f.1.ty (dP X lo b) ⟨11,o2,o3,o4,o5,o6⟩ k d (rst S)) wo from by
          rw [Xq.out,if_neg hz];exact ⟨_,_,LW.out,RL.out⟩)
         clear hz Ja;go_wp2_with fail;go_end0;exact ⟨rfl,HQ.out⟩
        case pos=>
         rw [hz] at c6;go_upto_region 15 with (fail);have hrs:rst (upd S (.slice Ow SL NT) vls s3)=s3:=jZ HX.out.2.2.1 _ _ _;have Ba:=uu (S:=upd S (.slice Ow SL NT) vls s3) LW.out HW.out HX.out.2.2.2.2.1 (by rw [hrs];exact Ms.out.2) (by have h8:=HP.out;have h7:=(zS.1 HN.out.2.2.2.1).1;have h6:=HA.out;omega)
         obtain ⟨⟨⟨et,er⟩,ed⟩,hE⟩:∃q,fO X.gs (X.fl.map (·.1)) s3.tr s3.vs s3.L ⟨11,o2,o3,o4,o5,o6⟩ xk (t1,t2) s3.d=q:=⟨_,rfl⟩;obtain ⟨⟨⟨st,sr⟩,s4⟩,UE⟩:∃q,dM X.gs (X.fl.map (·.1)) f.1.ty (dP X lo b) ⟨11,o2,o3,o4,o5,o6⟩ xk (et,er) {s3 with d:=ed}=q:=⟨_,rfl⟩;have Gv:(upd S (.slice Ow SL NT) vls s3).vs.getD S.F []=s3.vs:=congrArg Rst.vs hrs;have J:Below wo.heap.size wo wo:=zB _ _;have Xw:Hid (∀W',Below wo.heap.size wo W'->Calls prog 99 #[crp X,.agg #[Iv 11,Iv o2,Iv o3,.string zs,Iv o5,.slice kA kn kc,Iv t1,Iv t2]] W' fun e w'=>e=.returned (.agg #[Iv 11,Iv o2,Iv o3,.string zs,Iv o5,.slice kA kn kc,Iv et,Iv er])/\NoP X (upd S (.slice Ow SL NT) vls {s3 with d:=ed}) wo w'):=Hy fun W' dK=>by
          have h9:=EB (LW.out.on dK) HX.out.1 Ba HX.out.2.1.1 (t1,t2);simp only [Gv,hE,ndV,HZ.out] at h9;exact h9.mono fun e w' h=>⟨h.1,NoP.before dK h.2⟩
         have Oi:Hid (∀W',NoP X (upd S (.slice Ow SL NT) vls {s3 with d:=ed}) wo W'->Calls prog 98 #[crp X,.agg #[Iv 11,Iv o2,Iv o3,.string zs,Iv o5,.slice kA kn kc,Iv et,Iv er]] W' fun e w'=>∃lv' JY,e=.returned (.agg #[Iv 11,Iv o2,Iv o3,.string zs,Iv o5,.slice kA kn kc,Iv st,Iv sr])/\RV X (upd (upd S (.slice Ow SL NT) vls {s3 with d:=ed}) lv' JY s4) w'/\FrP X W' w'):=Hy fun W' dK=>by
          have TQ:rst (upd S (.slice Ow SL NT) vls {s3 with d:=ed})={s3 with d:=ed}:=jZ HX.out.2.2.1 _ _ _;have h9:=CE (f:=f) (lo:=lo) (b:=b) dK.rv HX.out.1 ⟨Ba.F,Ba.L,Ba.Ln,Ba.vn,Ba.g,Ba.f⟩ HX.out.2.1.2 (by rw [HX.out.2.2.2.2.1];exact HW.out) (et,er)
          rw [TQ] at h9;simp only [UE,ndV,HZ.out] at h9;exact h9
         have HS:Hid (∀(Wx:World) (S':RS),RV X S' Wx->FrP X wo Wx->Wx.cell? ⟨H,0,none⟩=some (Iv 11)/\Wx.cell? ⟨H,1,none⟩=some (Iv o2)/\Wx.cell? ⟨H,2,none⟩=some (Iv o3)/\Wx.cell? ⟨H,3,none⟩=some (.string zs)/\Wx.cell? ⟨H,4,none⟩=some (Iv o5)/\Wx.cell? ⟨H,5,none⟩=some (.slice kA kn kc)/\Wx.cell? ⟨H,6,none⟩=some (Iv t1)/\Wx.cell? ⟨H,7,none⟩=some (Iv t2)/\H<Wx.heap.size/\Wx.cell? ⟨X.b,2,none⟩=some (.slice (some ⟨gn,0,none⟩) nn X.nc)/\X.b<Wx.heap.size):=Hy fun Wx S' hR hF=>by
          have u:=hF.blk QN.out (HX.out.2.2.2.2.2.2.2.nLt (by have:=HH.out;omega))
          have u2:=hR.c2;rw [HN.out.2.2.2.2.2.1,HN.out.2.2.2.2.2.2.1] at u2;exact ⟨u.cell 0,u.cell 1,u.cell 2,u.cell 3,u.cell 4,u.cell 5,u.cell 6,u.cell 7,u.lt,u2,hR.chk.lt⟩
         have CF:=Hy hE;have Xr:=Hy UE;clear hrs Ba hE UE Gv c6 cl;refine wp_region_held_drew (S:=(fun (Wx:World)=>Wx.cell? ⟨H,0,none⟩=some (Iv 11)/\Wx.cell? ⟨H,1,none⟩=some (Iv o2)/\Wx.cell? ⟨H,2,none⟩=some (Iv o3)/\Wx.cell? ⟨H,3,none⟩=some (.string zs)/\Wx.cell? ⟨H,4,none⟩=some (Iv o5)/\Wx.cell? ⟨H,5,none⟩=some (.slice kA kn kc)/\Wx.cell? ⟨H,6,none⟩=some (Iv t1)/\Wx.cell? ⟨H,7,none⟩=some (Iv t2)/\H<Wx.heap.size/\Wx.cell? ⟨X.b,2,none⟩=some (.slice (some ⟨gn,0,none⟩) nn X.nc)/\X.b<Wx.heap.size)) (by kernel_rfl) (by exact HS.out _ _ LW.out.drew ⟨⟨rfl,rfl,rfl,Nat.le_refl _,fun _ _=>rfl⟩,fun _ _ _ _=>rfl⟩) (fun af=>?_)
         refine tQ 0 af ?_;refine tQ 1 af ?_;refine tQ 2 af ?_;refine tQ 3 af ?_;refine tQ 4 af ?_;refine tQ 5 af ?_;refine tQ 6 af ?_;refine tQ 7 af ?_;refine tQ 8 af ?_;try simp only [Act.put,zA]
         refine dC (i:=9) rfl (by kernel_rfl) (fun K hK=>?_)
         go_simp
         go_at_call 99
         (with_reducible refine Calls.mono (Xw.out _ J.drew) ?_)
         rintro e v1 ⟨rfl,P1⟩;have Mt:=Hy2 P1 (P1.fr LW.out);clear P1;clear af;refine hK.out _ _ ?_ (fun af=>?_)
         ·exact HS.out _ _ Mt.out.1.rv Mt.out.2
         clear hK K;try simp only [Act.put,zA]
         refine dC (i:=10) rfl (by kernel_rfl) (fun K hK=>?_)
         go_simp
         go_at_call 98
         (with_reducible refine Calls.mono (Oi.out _ Mt.out.1) ?_)
         rintro e v2 ⟨S9,O1,rfl,O0,Qq⟩;have I4:=Hy2 O0 (Mt.out.2.trans Qq);have Me:=O0.node HN.out.2.2.2.2.2.1 HN.out.2.2.2.1 (st,sr);have EG:=O0.yG HN.out.2.2.2.2.2.1 Me.2;have OJ:=Hy2 Me.1 ((Mt.out.2.trans Qq).trans EG);have Ro:=O0.n;rw [HN.out.2.2.2.2.2.1] at Ro;have OQ:v2.there gn (a * 8) 8:=fun j hj=>⟨by
           have h8:=Ro.cellAt (a * 8+j) (by have h7:=(zS.1 HN.out.2.2.2.1).1;omega)
           rw [h8];rw [aV X.ns _ a j hj HN.out.2.2.2.1 (zE (by have h7:=O0.tl;simp only at h7;rw [h7];exact (zS.1 HN.out.2.2.2.1).1))]
           match j,hj with
           |0,_=>rfl
           |1,_=>rfl
           |2,_=>rfl
           |3,_=>rfl
           |4,_=>rfl
           |5,_=>rfl
           |6,_=>rfl
           |7,_=>rfl,Ro.frozenAt _⟩
         simp only [Ss,aA,HZ.out] at OJ;clear O0 Qq Me EG Ro;clear af;refine hK.out _ _ ?_ (fun af=>?_)
         ·exact HS.out _ _ I4.out.1 I4.out.2
         clear hK K;refine tQ 11 af ?_;try simp only [Act.put,zA]
         refine dC (i:=12) rfl (by kernel_rfl) (fun K hK=>?_)
         rw [if_pos (by rfl)]
         refine wp_store_mid 75 _ _ rfl gn (a * 8) #[Iv 11,Iv o2,Iv o3,.string zs,Iv o5,.slice kA kn kc,Iv st,Iv sr] (by simp [Act.eval,Act.put]) (by simp [Act.eval,Act.put]) OQ ay (by simp [Value.oneCell']) ?_
         clear af;refine hK.out _ _ ?_ (fun af=>?_)
         ·exact HS.out _ _ OJ.out.1 OJ.out.2
         clear hK K;try simp only [Act.put,zA]
         refine wpAnyH_done (by kernel_rfl) ?_ _
         clear OQ Mt I4;go_wp2_with fail;go_end0;refine ⟨rfl,S9,O1,?_,RL.out.trans OJ.out.2⟩;rw [Xq.out,if_pos hz];have e9:bZ X.gs (X.fl.map (·.1)) f.1.ty (dP X lo b) ⟨11,o2,o3,o4,o5,o6⟩ xk a s3={s4 with tr:=s4.tr.set a (st,sr)}:=by
          unfold bZ;rw [Ms.out.1,CF.out];simp only [Xr.out];have h9:=(nO (gs:=X.gs) (fs:=X.fl.map (·.1)) (ft:=f.1.ty) (lab:=dP X lo b) ⟨11,o2,o3,o4,o5,o6⟩ xk (et,er) {s3 with d:=ed}).1;rw [Xr.out] at h9;simp only at h9;rw [h9]
         rw [e9];have h9:=OJ.out.1;simp only [upd,List.set_set] at h9 |-;exact h9
    case neg=>
     have q11:decide (o1=11)=false:=by simp [h11]
     have q11b:(o1 == 11)=false:=by simp [h11]
     go_enter func64,ntmps64;go_upto_region 2 with (fail);obtain ⟨H,hH⟩:=zN w.heap.size;rw [hH] at bT;have Wd:X.b<H:=by omega
     have hgH:gn<H:=by omega
     generalize w.alloc (.cells #[Iv o1,Iv o2,Iv o3,.string zs,Iv o5,.slice kA kn kc,Iv t1,Iv t2] tNd)=W1 at *;have iK:=Hy MQ;have K1:=Hy bT;have R1:=Hy YD;try simp only [hH]
     have HH:=Hy hH;clear MQ bT YD y0 y1 y2 y3 y4 y5 y6 y7 c2 c6 hH hg cl c4;have m0:W1.cell? ⟨H,0,none⟩=some (Iv o1):=K1.out.cell 0;have ml:=K1.out.lt;have c4:=R1.out.c4;have c5:=R1.out.c5;have cl:=R1.out.chk.lt;have f5:=R1.out.chk.frozen 5;rw [HN.out.2.2.2.2.2.2.2.2.1] at c4;rw [HN.out.2.2.2.2.2.2.2.2.2] at c5;have Vh:=R1.out.Bw;go_upto_region 6 with (fail);have R2:=Hy R1.out;have K2:=Hy K1.out;have F2:=Hy (FrP.below HX.out.2.2.2.2.2.2.2.Bw iK.out);clear m0 ml c4 c5 cl f5 Vh;obtain ⟨W2,Sy⟩:=zQ W1;subst Sy;obtain ⟨S1,Pp⟩:∃q:RS,S=q:=⟨_,rfl⟩;rw [Pp] at R2;have Lv:=Hy Pp;have hm5:W2.cell? ⟨H,5,none⟩=some (.slice kA kn kc):=K2.out.cell 5;have Jf:=Hy (show S1.F=Fi/\S1.F<S1.vs.length/\Wb P d (rst S1)/\0<=S1.deep/\S1.deep+k.size<=1000000 from by
      have h1:=HX.out.2.2.2.2.1;have h2:=HX.out.2.2.1;have h3:=HX.out.2.2.2.1;have h4:=HX.out.2.2.2.2.2.2.1;have h5:=HN.out.2.2.2.2.2.2.2.2.2;rw [<-Lv.out];refine ⟨h1,h2,⟨h3.L,h3.v,h3.i⟩,?_,?_⟩ <;> (try simp only) <;> omega)
     have hkn2:kn<=1000000:=HX.out.1.le;have hml5:=K2.out.lt;clear Pp;go_wp2_with fail;go_loopw [7] (fun v wr=>∃q:Nat,q<=kn/\v=Iv q/\sK X S1 W2 (eT X.gs (X.fl.map (·.1)) f.1.ty (dP X lo b) k d q (rst S1)) wr) (fun v _=>kn - (intOf v).toNat)
     case atStart=>exact ⟨0,by omega,rfl,S1.lv,xC S1,by rw [mR,upd_same Jf.out.2.1 (R2.out.V Jf.out.2.1)];exact R2.out,FrP.refl _ _⟩
     case round=>
      obtain ⟨q,hq,rfl,Px,Gy,JW,UI⟩:=hrel;obtain ⟨wo,PT⟩:=zQ wr;subst PT;have kb:=UI.blk K2.out (HX.out.2.2.2.2.2.2.2.nLt (by have:=HH.out;omega))
      have n5:wo.cell? ⟨H,5,none⟩=some (.slice kA kn kc):=kb.cell 5;have nl:=kb.lt;by_cases hlt:q<kn
      ·obtain ⟨bk,MN⟩:∃bk,xk[q]? =some bk:=⟨_,List.getElem?_eq_getElem (by have:=HN.out.2.1;omega)⟩
       have v1:(ints (bK xk))[q]? =some (Iv (bk:Nat)):=by simp [ints,bK,MN]
       have Ny:=RdS.av (JW.ks _ HX.out.1.mem).1;simp only at Ny;rw [HN.out.2.1] at Ny;obtain ⟨g5,o5',rfl,Qk,Rj⟩:=Ny.get (dQ v1);have z5:=Rj _ _ v1;have hqI:(q:Int)<kn:=by omega
       have Qa:(k.roots d)[q]? =some bk:=by rw [<-HN.out.2.2.1];exact MN
       have VL:q<k.len:=by have:=HN.out.1;omega
       have hrs:rst (upd S1 Px Gy (eT X.gs (X.fl.map (·.1)) f.1.ty (dP X lo b) k d q (rst S1)))=eT X.gs (X.fl.map (·.1)) f.1.ty (dP X lo b) k d q (rst S1):=jZ Jf.out.2.1 _ _ _;have HC:=Hy (IH.out q bk Qa (upd S1 Px Gy (eT X.gs (X.fl.map (·.1)) f.1.ty (dP X lo b) k d q (rst S1))) wo JW Jf.out.1 (by
        rw [hrs];exact vZ k P d q _ (by omega) Jf.out.2.2.1) (by simp only;rw [nL];exact Jf.out.2.2.2.1) (by simp only;rw [nL];exact Jf.out.2.2.2.2))
       rw [hrs] at HC;have RL:=Hy2 UI VL;clear JW UI kb MN v1 Ny Rj Qa VL hrs;go_wp2_with fail;refine HC.out.mono ?_;clear HC;rintro e w5 ⟨rfl,S9,O1,Me,EG⟩;have HQ:=Hy (show sK X S1 W2 (eT X.gs (X.fl.map (·.1)) f.1.ty (dP X lo b) k d (q+1) (rst S1)) w5 from by
        rw [qI k d q _ RL.out.2];rw [zC] at Me;exact ⟨S9,O1,Me,RL.out.1.trans EG⟩)
       clear Me EG n5 nl z5 Qk;go_wp2_with fail;go_roundw
       case rel=>exact ⟨q+1,by omega,by go_num,HQ.out⟩
       case measure=>simp [intOf];omega
      ·obtain rfl:kn=q:=by omega
       rw [show eT X.gs (X.fl.map (·.1)) f.1.ty (dP X lo b) k d kn (rst S1)=aQ X.gs (X.fl.map (·.1)) f.1.ty (dP X lo b) k d (rst S1) from by rw [<-HN.out.1];exact sN _ _ _] at JW
       obtain ⟨s2,GN⟩:=zN (aQ X.gs (X.fl.map (·.1)) f.1.ty (dP X lo b) k d (rst S1));rw [GN] at JW;have QQ:s2.deep=S1.deep:=by rw [<-GN];exact (lN k d _).1
       have Sb:∃l,s2.L=S1.L ++ l:=by rw [<-GN];exact (lN k d _).2
       have TN:Wb P (d+k.size) s2:=by rw [<-GN];exact qG k P d _ Jf.out.2.2.1
       have TP:s2.tr.getD a (0,0)=(t1,t2):=by
        rw [<-GN,(vY k d _).2 a (by right;have:=HA.out;omega),<-Lv.out]
        simp [rst,List.getD,HN.out.2.2.2.2.1]
       have qh:=Hy5 GN QQ Sb TN TP;have c6:=JW.c6;have cl:=JW.chk.lt;simp only at c6;have e3:upd S1 Px Gy s2=upd S Px Gy s2:=by rw [<-Lv.out]
       rw [e3] at JW;obtain ⟨s3,LJ⟩:=zN s2;rw [LJ] at JW;have Xq:=Hy (show fu X.gs (X.fl.map (·.1)) f.1.ty (dP X lo b) ⟨o1,o2,o3,o4,o5,o6⟩ k d (rst S)=(if s3.d.1=0 then bZ X.gs (X.fl.map (·.1)) f.1.ty (dP X lo b) ⟨o1,o2,o3,o4,o5,o6⟩ xk a s3 else s3) from by
        unfold fu;have h6:=HX.out.2.2.2.2.2.1;have h7:=qh.out.1;rw [Lv.out,if_neg (by rw [<-Lv.out];simpa [rst] using h6),if_neg h11,h7,LJ,<-HN.out.2.2.1,HA.out])
       have Ms:=Hy (show s3.tr.getD a (0,0)=(t1,t2)/\Wb P (d+k.size) s3 from by rw [<-LJ];exact ⟨qh.out.2.2.2.2,qh.out.2.2.2.1⟩)
       have RL:=Hy (F2.out.trans UI);have LW:=Hy JW;have QN:=Hy kb;clear LJ e3 c6 cl;clear GN QQ Sb TN TP UI JW kb;go_upto_region 14 with (fail);clear n5 nl;have c6:=LW.out.c6;have cl:=LW.out.chk.lt;simp only at c6;by_cases hz:s3.d.1=0
       case neg=>
        obtain ⟨d1,Ja⟩:=zN s3.d.1;rw [Ja] at c6;have sI:¬ d1=0:=by rw [<-Ja];exact hz
        have HQ:=Hy (show sK X S w (fu X.gs (X.fl.map (·.1)) f.1.ty (dP X lo b) ⟨o1,o2,o3,o4,o5,o6⟩ k d (rst S)) wo from by
         rw [Xq.out,if_neg hz];exact ⟨_,_,LW.out,RL.out⟩)
        clear hz Ja;go_wp2_with fail;go_end0;exact ⟨rfl,HQ.out⟩
       case pos=>
        rw [hz] at c6;go_upto_region 15 with (fail);have hrs:rst (upd S Px Gy s3)=s3:=jZ HX.out.2.2.1 _ _ _;have Ba:=uu (S:=upd S Px Gy s3) LW.out HW.out HX.out.2.2.2.2.1 (by rw [hrs];exact Ms.out.2) (by have h8:=HP.out;have h7:=(zS.1 HN.out.2.2.2.1).1;have h6:=HA.out;omega)
        obtain ⟨⟨⟨et,er⟩,ed⟩,hE⟩:∃q,fO X.gs (X.fl.map (·.1)) s3.tr s3.vs s3.L ⟨o1,o2,o3,o4,o5,o6⟩ xk (t1,t2) s3.d=q:=⟨_,rfl⟩;obtain ⟨⟨⟨st,sr⟩,s4⟩,UE⟩:∃q,dM X.gs (X.fl.map (·.1)) f.1.ty (dP X lo b) ⟨o1,o2,o3,o4,o5,o6⟩ xk (et,er) {s3 with d:=ed}=q:=⟨_,rfl⟩;have Gv:(upd S Px Gy s3).vs.getD S.F []=s3.vs:=congrArg Rst.vs hrs;have J:Below wo.heap.size wo wo:=zB _ _;have Xw:Hid (∀W',Below wo.heap.size wo W'->Calls prog 99 #[crp X,.agg #[Iv o1,Iv o2,Iv o3,.string zs,Iv o5,.slice kA kn kc,Iv t1,Iv t2]] W' fun e w'=>e=.returned (.agg #[Iv o1,Iv o2,Iv o3,.string zs,Iv o5,.slice kA kn kc,Iv et,Iv er])/\NoP X (upd S Px Gy {s3 with d:=ed}) wo w'):=Hy fun W' dK=>by
         have h9:=EB (LW.out.on dK) HX.out.1 Ba HX.out.2.1.1 (t1,t2);simp only [Gv,hE,ndV,HZ.out] at h9;exact h9.mono fun e w' h=>⟨h.1,NoP.before dK h.2⟩
        have Oi:Hid (∀W',NoP X (upd S Px Gy {s3 with d:=ed}) wo W'->Calls prog 98 #[crp X,.agg #[Iv o1,Iv o2,Iv o3,.string zs,Iv o5,.slice kA kn kc,Iv et,Iv er]] W' fun e w'=>∃lv' JY,e=.returned (.agg #[Iv o1,Iv o2,Iv o3,.string zs,Iv o5,.slice kA kn kc,Iv st,Iv sr])/\RV X (upd (upd S Px Gy {s3 with d:=ed}) lv' JY s4) w'/\FrP X W' w'):=Hy fun W' dK=>by
         have TQ:rst (upd S Px Gy {s3 with d:=ed})={s3 with d:=ed}:=jZ HX.out.2.2.1 _ _ _;have h9:=CE (f:=f) (lo:=lo) (b:=b) dK.rv HX.out.1 ⟨Ba.F,Ba.L,Ba.Ln,Ba.vn,Ba.g,Ba.f⟩ HX.out.2.1.2 (by rw [HX.out.2.2.2.2.1];exact HW.out) (et,er)
         rw [TQ] at h9;simp only [UE,ndV,HZ.out] at h9;exact h9
        have HS:Hid (∀(Wx:World) (S':RS),RV X S' Wx->FrP X wo Wx->Wx.cell? ⟨H,0,none⟩=some (Iv o1)/\Wx.cell? ⟨H,1,none⟩=some (Iv o2)/\Wx.cell? ⟨H,2,none⟩=some (Iv o3)/\Wx.cell? ⟨H,3,none⟩=some (.string zs)/\Wx.cell? ⟨H,4,none⟩=some (Iv o5)/\Wx.cell? ⟨H,5,none⟩=some (.slice kA kn kc)/\Wx.cell? ⟨H,6,none⟩=some (Iv t1)/\Wx.cell? ⟨H,7,none⟩=some (Iv t2)/\H<Wx.heap.size/\Wx.cell? ⟨X.b,2,none⟩=some (.slice (some ⟨gn,0,none⟩) nn X.nc)/\X.b<Wx.heap.size):=Hy fun Wx S' hR hF=>by
         have u:=hF.blk QN.out (HX.out.2.2.2.2.2.2.2.nLt (by have:=HH.out;omega))
         have u2:=hR.c2;rw [HN.out.2.2.2.2.2.1,HN.out.2.2.2.2.2.2.1] at u2;exact ⟨u.cell 0,u.cell 1,u.cell 2,u.cell 3,u.cell 4,u.cell 5,u.cell 6,u.cell 7,u.lt,u2,hR.chk.lt⟩
        have CF:=Hy hE;have Xr:=Hy UE;clear hrs Ba hE UE Gv c6 cl;refine wp_region_held_drew (S:=(fun (Wx:World)=>Wx.cell? ⟨H,0,none⟩=some (Iv o1)/\Wx.cell? ⟨H,1,none⟩=some (Iv o2)/\Wx.cell? ⟨H,2,none⟩=some (Iv o3)/\Wx.cell? ⟨H,3,none⟩=some (.string zs)/\Wx.cell? ⟨H,4,none⟩=some (Iv o5)/\Wx.cell? ⟨H,5,none⟩=some (.slice kA kn kc)/\Wx.cell? ⟨H,6,none⟩=some (Iv t1)/\Wx.cell? ⟨H,7,none⟩=some (Iv t2)/\H<Wx.heap.size/\Wx.cell? ⟨X.b,2,none⟩=some (.slice (some ⟨gn,0,none⟩) nn X.nc)/\X.b<Wx.heap.size)) (by kernel_rfl) (by exact HS.out _ _ LW.out.drew ⟨⟨rfl,rfl,rfl,Nat.le_refl _,fun _ _=>rfl⟩,fun _ _ _ _=>rfl⟩) (fun af=>?_)
        refine tQ 0 af ?_;refine tQ 1 af ?_;refine tQ 2 af ?_;refine tQ 3 af ?_;refine tQ 4 af ?_;refine tQ 5 af ?_;refine tQ 6 af ?_;refine tQ 7 af ?_;refine tQ 8 af ?_;try simp only [Act.put,zA]
        refine dC (i:=9) rfl (by kernel_rfl) (fun K hK=>?_)
        go_simp
        go_at_call 99
        (with_reducible refine Calls.mono (Xw.out _ J.drew) ?_)
        rintro e v1 ⟨rfl,P1⟩;have Mt:=Hy2 P1 (P1.fr LW.out);clear P1;clear af;refine hK.out _ _ ?_ (fun af=>?_)
        ·exact HS.out _ _ Mt.out.1.rv Mt.out.2
        clear hK K;try simp only [Act.put,zA]
        refine dC (i:=10) rfl (by kernel_rfl) (fun K hK=>?_)
        go_simp
        go_at_call 98
        (with_reducible refine Calls.mono (Oi.out _ Mt.out.1) ?_)
        rintro e v2 ⟨S9,O1,rfl,O0,Qq⟩;have I4:=Hy2 O0 (Mt.out.2.trans Qq);have Me:=O0.node HN.out.2.2.2.2.2.1 HN.out.2.2.2.1 (st,sr);have EG:=O0.yG HN.out.2.2.2.2.2.1 Me.2;have OJ:=Hy2 Me.1 ((Mt.out.2.trans Qq).trans EG);have Ro:=O0.n;rw [HN.out.2.2.2.2.2.1] at Ro;have OQ:v2.there gn (a * 8) 8:=fun j hj=>⟨by
          have h8:=Ro.cellAt (a * 8+j) (by have h7:=(zS.1 HN.out.2.2.2.1).1;omega)
          rw [h8];rw [aV X.ns _ a j hj HN.out.2.2.2.1 (zE (by have h7:=O0.tl;simp only at h7;rw [h7];exact (zS.1 HN.out.2.2.2.1).1))]
          match j,hj with
          |0,_=>rfl
          |1,_=>rfl
          |2,_=>rfl
          |3,_=>rfl
          |4,_=>rfl
          |5,_=>rfl
          |6,_=>rfl
          |7,_=>rfl,Ro.frozenAt _⟩
        simp only [Ss,aA,HZ.out] at OJ;clear O0 Qq Me EG Ro;clear af;refine hK.out _ _ ?_ (fun af=>?_)
        ·exact HS.out _ _ I4.out.1 I4.out.2
        clear hK K;refine tQ 11 af ?_;try simp only [Act.put,zA]
        refine dC (i:=12) rfl (by kernel_rfl) (fun K hK=>?_)
        rw [if_pos (by rfl)]
        refine wp_store_mid 75 _ _ rfl gn (a * 8) #[Iv o1,Iv o2,Iv o3,.string zs,Iv o5,.slice kA kn kc,Iv st,Iv sr] (by simp [Act.eval,Act.put]) (by simp [Act.eval,Act.put]) OQ ay (by simp [Value.oneCell']) ?_
        clear af;refine hK.out _ _ ?_ (fun af=>?_)
        ·exact HS.out _ _ OJ.out.1 OJ.out.2
        clear hK K;try simp only [Act.put,zA]
        refine wpAnyH_done (by kernel_rfl) ?_ _
        clear OQ Mt I4;go_wp2_with fail;go_end0;refine ⟨rfl,S9,O1,?_,RL.out.trans OJ.out.2⟩;rw [Xq.out,if_pos hz];have e9:bZ X.gs (X.fl.map (·.1)) f.1.ty (dP X lo b) ⟨o1,o2,o3,o4,o5,o6⟩ xk a s3={s4 with tr:=s4.tr.set a (st,sr)}:=by
         unfold bZ;rw [Ms.out.1,CF.out];simp only [Xr.out];have h9:=(nO (gs:=X.gs) (fs:=X.fl.map (·.1)) (ft:=f.1.ty) (lab:=dP X lo b) ⟨o1,o2,o3,o4,o5,o6⟩ xk (et,er) {s3 with d:=ed}).1;rw [Xr.out] at h9;simp only at h9;rw [h9]
        rw [e9];have h9:=OJ.out.1;simp only [upd,List.set_set] at h9 |-;exact h9
end
end
end Go.Proofs.YtcchdlnfeijinaaGreatDoor
