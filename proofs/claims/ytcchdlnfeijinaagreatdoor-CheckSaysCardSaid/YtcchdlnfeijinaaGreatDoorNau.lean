/- Crt to Crt2: Layer check, the document's answer: the checker in memory when its variables change (c.L, a function -/
import Derived.Test.YtcchdlnfeijinaaGreatDoorNat
import Derived.Test.YtcchdlnfeijinaaGreatDoorNaq
import Derived.Deep.RegionHeld3
import Derived.Test.YtcchdlnfeijinaaGreatDoorNab
import Derived.Deep.RegionHeld2
import Derived.Deep.DeepCutAuto
namespace Go.Proofs.YtcchdlnfeijinaaGreatDoor
open Go.Proofs.Tryz
set_option linter.unusedSimpArgs false
set_option linter.unusedVariables false
set_option maxHeartbeats 4000000
set_option maxRecDepth 100000
section
open Go Go.RowKit Go.Maps
structure FrP (X:RX) (w w':World):Prop where
 low:Below X.B w w'
 box:∀m,m<w.heap.size->Kind w m tNd->(Value.slice X.nA X.ns.length X.nc).ownBlock≠some m->w'.heap[m]? =w.heap[m]?
theorem FrP.refl (X:RX)(w:World):FrP X w w:=⟨zB _ _,fun _ _ _ _=>rfl⟩
theorem FrP.trans {X:RX}{w w' w'':World}(h:FrP X w w')(h2:FrP X w' w''):FrP X w w'':=
 ⟨h.low.trans h2.low,fun m hm hk hn=>by
  have e:=h.box m hm hk hn;have hk2:Kind w' m tNd:=by obtain ⟨c,fz,e2⟩:=hk;exact ⟨c,fz,e.trans e2⟩
  exact (h2.box m (zT hm h.low.size) hk2 hn).trans e⟩
theorem FrP.below {X:RX}{w w':World}(hB:X.B<=w.heap.size)(h:Below w.heap.size w w'):FrP X w w':=⟨h.mono hB,fun m hm _ _=>h.block m hm⟩
theorem FrP.blk {X:RX}{w w':World}(h:FrP X w w'){b:Nat}{cs:Array Value}(hb:Blk w b tNd cs)(hn:(Value.slice X.nA X.ns.length X.nc).ownBlock≠some b):Blk w' b tNd cs:=(h.box b hb.lt hb.kind hn).trans hb
section
variable {X:RX} {S:RS} {w w':World}
theorem RV.Bw (h:RV X S w):X.B<=w.heap.size:=by have:=h.hB;omega
theorem NoP.fr {S':RS}(h0:RV X S w)(h:NoP X S' w w'):FrP X w w':=
 ⟨kK h.gr h0.hB.1 h0.Bw,fun m hm hk _=>h.gr.block m hm (fun e=>by cases e;exact au h0.chk.kind hk (by decide) rfl)⟩
theorem RV.scL (h:RV X S w){v':Value}{L':List Vr}(hg:w.grownBy w' S.lv.ownBlock)(ai:w'.ownsRow X.B tVr 3 v' L'.length (L'.flatMap vrC)) :
  RV X {S with L:=L',lv:=v'} (w'.setCell (Ad X.b 4) v')/\FrP X w (w'.setCell (Ad X.b 4) v'):=by
 have hr:∀{base sz n:Nat} {T:TypeId} {v:Value} {xs:List Value},w.ownsRow base T sz v n xs->T≠tVr->∀r,S.lv.ownBlock=some r->v.ownBlock≠some r:=by
  intro base sz n T v xs h1 hT r hr e;exact au (ag h1 e) (ag h.l hr) hT rfl
 have Uz:Blk w' X.b tCr (gu X S):=ak hg h.chk (fun e=>au (ag h.l e) h.chk.kind (by decide) rfl)
 have hk:Kind w' X.b tCr:=Uz.kind;have Cm:w'.grownBy (w'.setCell (Ad X.b 4) v') (some X.b):=⟨rfl,rfl,rfl,by simp,fun k _ hk=>heap_setCell_other w' (Ad X.b 4) k v' (fun e=>hk (by simp [e]))⟩
 have pY:∀{base sz n:Nat} {T:TypeId} {v:Value} {xs:List Value},w'.ownsRow base T sz v n xs->T≠tCr->∀r,some X.b=some r->v.ownBlock≠some r:=by
  intro base sz n T v xs h1 hT r hr e;cases hr;exact au (ag h1 e) hk hT rfl
 have two:∀{base sz n:Nat} {T:TypeId} {v:Value} {xs:List Value},w.ownsRow base T sz v n xs->T≠tVr->T≠tCr->(w'.setCell (Ad X.b 4) v').ownsRow base T sz v n xs:=fun h1 hT YC=>
  ah Cm (ah hg h1 (hr h1 hT)) (pY (ah hg h1 (hr h1 hT)) YC)
 refine ⟨?_,?_,?_⟩
 ·exact {
   chk:=by
    have:=Uz.af 4 v'
    simpa [gu] using this
   g:=two h.g (by decide) (by decide)
   f:=two h.f (by decide) (by decide)
   n:=two h.n (by decide) (by decide)
   l:=ah Cm ai (pY ai (by decide))
   ps:=fun x hx=>two (h.ps x hx) (by decide) (by decide)
   ks:=fun x hx=>⟨two (h.ks x hx).1 (by decide) (by decide),(h.ks x hx).2⟩
   cur:=fun v l h1 h2=>two (h.cur v l h1 h2) (by decide) (by decide)
   old:=fun j v l h0 h1 h2=>⟨two (h.old j v l h0 h1 h2).1 (by decide) (by decide),(h.old j v l h0 h1 h2).2⟩
   vl:=h.vl
   vn:=h.vn
   tl:=h.tl
   hB:=⟨h.hB.1,h.hB.2.1,by have:=h.hB.2.2;have:=hg.size;simp;omega⟩}
 ·have h1:Below X.B w w':=⟨hg.os,hg.tape,hg.output,hg.size,fun m hm=>hg.block m (zT hm h.Bw) (fun e=>by
   rcases h.l.2 with ⟨e2,_⟩|⟨g,cap,cur,e2,hb,_⟩
   ·rw [e2] at e;cases e
   ·rw [e2] at e;simp only [Value.ownBlock,Option.some.injEq] at e;omega)⟩
  exact h1.setCell (p:=Ad X.b 4) h.hB.1 _
 ·intro m hm Ul _;have h1:w'.heap[m]? =w.heap[m]?:=hg.block m hm (fun e=>au (ag h.l e.symm) Ul (by decide) rfl)
  rw [Cm.block m (zT hm hg.size) (fun e=>by cases e;exact au h.chk.kind Ul (by decide) rfl)]
  exact h1
theorem RV.vars (h:RV X S w){v':Value}{l':List Int}{g:Nat}{c:Nat}(hA:X.fA=some (Ad g 0))(hF:S.F<X.fl.length)(hb:Below w.heap.size w w')(ai:w'.ownsRow S.H aC 1 v' l'.length (ints l')) :
  RV X {S with vls:=S.vls.set S.F v',vs:=S.vs.set S.F l'} (w'.setCell (Ad g (S.F * 6+5)) v')/\FrP X w (w'.setCell (Ad g (S.F * 6+5)) v'):=by
 have h':=h.on hb;have Bt:=h.vl;have NP:=h.vn;obtain ⟨f,hf⟩:∃x,X.fl[S.F]? =some x:=⟨_,List.getElem?_eq_getElem hF⟩;obtain ⟨v,hv⟩:∃x,S.vls[S.F]? =some x:=⟨_,List.getElem?_eq_getElem (by omega)⟩
 have qA:=h'.f;rw [hA] at qA;obtain ⟨hn,hg⟩:=qA.stored (S.F * 6+5) v';have PZ:(dE X.fl S.vls).set (S.F * 6+5) v'=dE X.fl (S.vls.set S.F v'):=by
  unfold dE;have hz:(X.fl.zip S.vls)[S.F]? =some (f,v):=by rw [List.getElem?_zip_eq_some];exact ⟨hf,hv⟩
  have Ox:=(zS.1 hz).1;have Vz:(X.fl.zip S.vls)[S.F]=(f,v):=(zS.1 hz).2;rw [mi (fun y:(Fn'×Value)×Value=>fnC y.1 y.2) 6 (by omega) (fun _=>rfl) (X.fl.zip S.vls) S.F 5 Ox (by omega) (f,v') v' (by rw [Vz];rfl)]
  congr 1
  apply List.ext_getElem?;intro k;by_cases hk:S.F=k
  ·subst hk;rw [List.getElem?_set_self Ox]
   symm
   rw [List.getElem?_zip_eq_some];exact ⟨hf,List.getElem?_set_self (by omega)⟩
  ·rw [List.getElem?_set_ne hk];apply Option.ext;intro y;rw [List.getElem?_zip_eq_some,List.getElem?_zip_eq_some,List.getElem?_set_ne hk]
 rw [PZ] at hn;have hk:Kind w' g tFu:=ag qA rfl;have hr:∀{base sz n:Nat} {T:TypeId} {u:Value} {xs:List Value},w'.ownsRow base T sz u n xs->T≠tFu->∀r,some g=some r->u.ownBlock≠some r:=by
  intro base sz n T u xs h1 hT r hr e;cases hr;exact au (ag h1 e) hk hT rfl
 refine ⟨?_,?_,?_⟩
 ·exact {
   chk:=ak hg h'.chk (fun e=>au h'.chk.kind hk (by decide) (Option.some.inj e).symm)
   g:=ah hg h'.g (hr h'.g (by decide))
   f:=by rw [hA];exact hn
   n:=ah hg h'.n (hr h'.n (by decide))
   l:=ah hg h'.l (hr h'.l (by decide))
   ps:=fun x hx=>ah hg (h'.ps x hx) (hr (h'.ps x hx) (by decide))
   ks:=fun x hx=>az hg (h'.ks x hx) (hr (h'.ks x hx).1 (by decide))
   cur:=fun u l h1 h2=>by
    simp only at h1 h2;rw [List.getElem?_set_self (by omega)] at h1 h2
    cases h1;cases h2;exact ah hg ai (hr ai (by decide))
   old:=fun j u l h0 h1 h2=>by
    simp only at h0 h1 h2;rw [List.getElem?_set_ne (fun e=>h0 e.symm)] at h1 h2
    exact az hg (h'.old j u l h0 h1 h2) (hr (h'.old j u l h0 h1 h2).1 (by decide))
   vl:=by simpa using Bt
   vn:=by simpa using NP
   tl:=h.tl
   hB:=⟨h'.hB.1,h'.hB.2.1,by have:=h'.hB.2.2;simp;omega⟩}
 ·have hgB:X.B<=g:=by
   rcases qA.2 with ⟨e2,_⟩|⟨g',cap,cur,e2,hb',_⟩
   ·cases e2
   ·simp only [Value.slice.injEq,Option.some.injEq,Addr.mk.injEq,and_true] at e2;omega
  exact (hb.mono h.Bw).setCell (p:=(Ad g (S.F * 6+5))) hgB _
 ·intro m hm Ul _;rw [hg.block m (zT hm hb.size) (fun e=>by
   cases e;have Ye:Kind w' g tNd:=by obtain ⟨c,fz,e2⟩:=Ul;exact ⟨c,fz,(hb.block g hm).trans e2⟩
   exact au hk Ye (by decide) rfl)]
  exact hb.block m hm
end
end
section
open Go Go.RowKit Go.Maps
section
variable (gs:List Gl) (fs:List Fn') (ft:Int) (lab:Nm'->Nat)
def fu (h:Hd) (k:Fo) (c:Nat) (s:Rst):Rst:=
 if s.d.1≠0 then s else
  if h.op=11 then (if (aQ gs fs ft lab k c {s with deep:=s.deep+1}).d.1=0 then bZ gs fs ft lab h (k.roots c) (c+k.size) (fC s.L.length (aQ gs fs ft lab k c {s with deep:=s.deep+1})) else fC s.L.length (aQ gs fs ft lab k c {s with deep:=s.deep+1}))
  else (if (aQ gs fs ft lab k c s).d.1=0 then bZ gs fs ft lab h (k.roots c) (c+k.size) (aQ gs fs ft lab k c s) else aQ gs fs ft lab k c s)
def sD:Fo->Nat->Nat->Rst->Rst
 | .nil,_,_,s=>s
 | .cons h k _,c,0,s=>fu gs fs ft lab h k c s
 | .cons _ k r,c,i+1,s=>sD r (c+k.size+1) i s
def eT:Fo->Nat->Nat->Rst->Rst
 | .nil,_,_,s=>s
 | .cons _ _ _,_,0,s=>s
 | .cons h k r,c,i+1,s=>eT r (c+k.size+1) i (fu gs fs ft lab h k c s)
end
section
variable {gs:List Gl} {fs:List Fn'} {ft:Int} {lab:Nm'->Nat}
theorem gN (h:Hd)(k r:Fo)(c:Nat)(s:Rst):aQ gs fs ft lab (.cons h k r) c s=aQ gs fs ft lab r (c+k.size+1) (fu gs fs ft lab h k c s):=by rw [aQ];rfl
theorem mR (F:Fo)(c:Nat)(s:Rst):eT gs fs ft lab F c 0 s=s:=by cases F <;> rfl
theorem qI (F:Fo):∀(c q:Nat) (s:Rst),q<F.len->eT gs fs ft lab F c (q+1) s=sD gs fs ft lab F c q (eT gs fs ft lab F c q s):=by
 induction F with
 |nil=>intro c q s h;simp [Fo.len] at h
 |cons h k r _ ih=>
  intro c q s hq;cases q with
  |zero=>simp only [eT,mR,sD]
  |succ q=>
   simp only [Fo.len] at hq;have h9:=ih (c+k.size+1) q (fu gs fs ft lab h k c s) (by omega)
   simp only [eT,sD] at h9 |-;exact h9
theorem sN (F:Fo):∀(c:Nat) (s:Rst),eT gs fs ft lab F c F.len s=aQ gs fs ft lab F c s:=by
 induction F with
 |nil=>intro c s;rfl
 |cons h k r _ ih=>
  intro c s;rw [gN];simp only [Fo.len,eT];exact ih _ _
structure Wb (P c:Nat) (s:Rst):Prop where
 L:s.L.length<=P+c
 v:s.vs.length<=P+c
 i:∀y∈s.L,y.i<s.vs.length
theorem Wb.mono {P c c':Nat}{s:Rst}(h:Wb P c s)(hc:c<=c'):Wb P c' s:=⟨by have:=h.L;omega,by have:=h.v;omega,h.i⟩
theorem wE (h:Hd)(ks:List Nat)(t:Int×Int)(s:Rst) :
  ((dM gs fs ft lab h ks t s).2.L=s.L/\(dM gs fs ft lab h ks t s).2.vs=s.vs)∨
  ((dM gs fs ft lab h ks t s).2.L=s.L ++ [⟨h.s,s.vs.length,s.deep⟩]/\(dM gs fs ft lab h ks t s).2.vs=s.vs ++ [h.to]):=by
 unfold dM;by_cases h12:h.op=12
 ·rw [if_pos h12];exact .inr ⟨rfl,rfl⟩
 ·left
  rw [if_neg h12];split
  ·exact ⟨rfl,rfl⟩
  split
  ·exact ⟨rfl,rfl⟩
  split
  ·exact ⟨rfl,rfl⟩
  split
  ·exact ⟨rfl,rfl⟩
  split
  ·exact ⟨rfl,rfl⟩
  ·exact ⟨rfl,rfl⟩
theorem nO (h:Hd)(ks:List Nat)(t:Int×Int)(s:Rst):(dM gs fs ft lab h ks t s).2.tr=s.tr/\(dM gs fs ft lab h ks t s).2.deep=s.deep:=by
 unfold dM;split
 ·exact ⟨rfl,rfl⟩
 split
 ·exact ⟨rfl,rfl⟩
 split
 ·exact ⟨rfl,rfl⟩
 split
 ·exact ⟨rfl,rfl⟩
 split
 ·exact ⟨rfl,rfl⟩
 split
 ·exact ⟨rfl,rfl⟩
 ·exact ⟨rfl,rfl⟩
theorem Wb.app {P c:Nat}{s s':Rst}{x:Nm'}{b v:Int}(h:Wb P c s)(h1:s'.L=s.L ++ [⟨x,s.vs.length,b⟩])(h2:s'.vs=s.vs ++ [v]):Wb P (c+1) s':=by
 obtain ⟨a1,a2,a3⟩:=h;refine ⟨by rw [h1,List.length_append,List.length_singleton];omega,by rw [h2,List.length_append,List.length_singleton];omega,fun y hy=>?_⟩
 rw [h1,List.mem_append,List.mem_singleton] at hy;rw [h2,List.length_append,List.length_singleton];rcases hy with hy|rfl
 ·have:=a3 y hy;omega
 ·simp
theorem wY {P c:Nat}{h:Hd}{ks:List Nat}{i:Nat}{s:Rst}(w:Wb P c s):Wb P (c+1) (bZ gs fs ft lab h ks i s):=by
 unfold bZ;rcases wE (gs:=gs) (fs:=fs) (ft:=ft) (lab:=lab) h ks (fO gs fs s.tr s.vs s.L h ks (s.tr.getD i (0,0)) s.d).1 {s with d:=(fO gs fs s.tr s.vs s.L h ks (s.tr.getD i (0,0)) s.d).2} with ⟨h1,h2⟩|⟨h1,h2⟩
 ·simp only at h1 h2;obtain ⟨a1,a2,a3⟩:=w;exact ⟨by simp only;rw [h1];omega,by simp only;rw [h2];omega,by simp only;rw [h1,h2];exact a3⟩
 ·exact Wb.app w h1 h2
theorem qN {P c n:Nat}{s:Rst}(w:Wb P c s):Wb P c (fC n s):=by
 obtain ⟨a1,a2,a3⟩:=w;unfold fC;by_cases h:0<s.deep - 1
 ·simp only [if_pos h];exact ⟨by simp only [List.length_take];omega,a2,fun y hy=>a3 y (List.mem_of_mem_take hy)⟩
 ·simp only [if_neg h];exact ⟨a1,a2,a3⟩
theorem qG (F:Fo):∀(P c:Nat) (s:Rst),Wb P c s->Wb P (c+F.size) (aQ gs fs ft lab F c s):=by
 induction F with
 |nil=>intro P c s w;simpa [aQ,Fo.size] using w
 |cons h k r ih1 ih2=>
  intro P c s w;rw [gN];have ht:Wb P (c+k.size+1) (fu gs fs ft lab h k c s):=by
   unfold fu;by_cases hd:s.d.1≠0
   ·rw [if_pos hd];exact w.mono (by omega)
   ·rw [if_neg hd];by_cases h11:h.op=11
    ·rw [if_pos h11];have w1:=qN (n:=s.L.length) (ih1 P c {s with deep:=s.deep+1} ⟨w.L,w.v,w.i⟩);split
     ·exact wY w1
     ·exact w1.mono (by omega)
    ·rw [if_neg h11];have w1:=ih1 P c s w;split
     ·exact wY w1
     ·exact w1.mono (by omega)
  have h9:=ih2 P (c+k.size+1) _ ht;rw [show c+k.size+1+r.size=c+(Fo.cons h k r).size by simp only [Fo.size];omega] at h9
  exact h9
theorem vZ (F:Fo):∀(P c q:Nat) (s:Rst),q<=F.len->Wb P c s->Wb P (F.off c q) (eT gs fs ft lab F c q s):=by
 induction F with
 |nil=>intro P c q s _ w;simpa [eT,Fo.off] using w
 |cons h k r _ ih2=>
  intro P c q s hq w;cases q with
  |zero=>simpa [eT,Fo.off] using w
  |succ q=>
   simp only [Fo.len] at hq;simp only [eT,Fo.off];refine ih2 P _ q _ (by omega) ?_
   have h9:=qG (gs:=gs) (fs:=fs) (ft:=ft) (lab:=lab) (.cons h k .nil) P c s w;rw [gN] at h9;simp only [aQ,Fo.size] at h9;exact h9.mono (by omega)
theorem vo {tr:List (Int×Int)}{i j:Nat}(h:j≠i)(t:Int×Int):(tr.set i t).getD j (0,0)=tr.getD j (0,0):=by
 simp only [List.getD,List.getElem?_set_ne (fun e=>h e.symm)]
theorem oh {h:Hd}{ks:List Nat}{i:Nat}{s:Rst}:(bZ gs fs ft lab h ks i s).tr.length=s.tr.length/\∀j,j≠i->(bZ gs fs ft lab h ks i s).tr.getD j (0,0)=s.tr.getD j (0,0):=by
 unfold bZ;exact ⟨by simp,fun j hj=>vo hj _⟩
theorem vY (F:Fo):∀(c:Nat) (s:Rst),(aQ gs fs ft lab F c s).tr.length=s.tr.length/\∀j,(j<c∨c+F.size<=j)->(aQ gs fs ft lab F c s).tr.getD j (0,0)=s.tr.getD j (0,0):=by
 induction F with
 |nil=>intro c s;exact ⟨rfl,fun _ _=>rfl⟩
 |cons h k r ih1 ih2=>
  intro c s;rw [gN];have ht:(fu gs fs ft lab h k c s).tr.length=s.tr.length/\∀j,(j<c∨c+k.size+1<=j)->(fu gs fs ft lab h k c s).tr.getD j (0,0)=s.tr.getD j (0,0):=by
   unfold fu;by_cases hd:s.d.1≠0
   ·rw [if_pos hd];exact ⟨rfl,fun _ _=>rfl⟩
   ·rw [if_neg hd];by_cases h11:h.op=11
    ·rw [if_pos h11];have w1:=ih1 c {s with deep:=s.deep+1};have w2:(fC s.L.length (aQ gs fs ft lab k c {s with deep:=s.deep+1})).tr=(aQ gs fs ft lab k c {s with deep:=s.deep+1}).tr:=rfl;split
     ·refine ⟨oh.1.trans (by rw [w2];exact w1.1),fun j hj=>?_⟩
      rw [oh.2 j (by omega),w2,w1.2 j (by omega)]
     ·exact ⟨by rw [w2];exact w1.1,fun j hj=>by rw [w2,w1.2 j (by omega)]⟩
    ·rw [if_neg h11];have w1:=ih1 c s;split
     ·refine ⟨oh.1.trans w1.1,fun j hj=>?_⟩
      rw [oh.2 j (by omega),w1.2 j (by omega)]
     ·exact ⟨w1.1,fun j hj=>w1.2 j (by omega)⟩
  have h9:=ih2 (c+k.size+1) (fu gs fs ft lab h k c s);refine ⟨h9.1.trans ht.1,fun j hj=>?_⟩
  simp only [Fo.size] at hj;rw [h9.2 j (by omega),ht.2 j (by omega)]
end
end
section
open Go Go.RowKit Go.Maps
theorem zi (l:List Int)(n:Nat)(hn:l.length=n)(wW:n<=1000000)(A:Option Addr)(c:Nat)(w:World)(h1:RdS w (.slice A n c) n (ints l)) :
  Calls prog 86 #[.slice A n c] w fun e w'=>∃v,e=.returned v/\w'.ownsRow w.heap.size aC 1 v n (ints l)/\Below w.heap.size w w':=by
 obtain ⟨i0,hi,vQ,sI,ru⟩:=dU rD;go_enter func86,ntmps86;go_wp2;go_loopw [3,4] (fun v3 v wr=>∃k:Nat,k<=n/\v=Iv k/\wr.ownsRow w.heap.size aC 1 v3 k (ints (l.take k))/\Below w.heap.size w wr) (fun _ v _=>n - (intOf v).toNat)
 case atStart=>exact ⟨0,by omega,rfl,World.ownsRow_nil _ _ _ _,zB _ _⟩
 case round=>
  obtain ⟨k,hk,rfl,ai,hb⟩:=hrel;by_cases hlt:k<n
  ·obtain ⟨t,ht⟩:∃t,l[k]? =some t:=⟨_,List.getElem?_eq_getElem (by omega)⟩
   have u0:(ints l)[k]? =some (Iv t):=by simp [ints,ht]
   obtain ⟨g,o,rfl,hg,hx⟩:=(h1.on hb).get (fun e=>by rw [e] at u0;cases u0)
   have x0:wr.cell? (Ad g (o+k))=_:=hx _ _ u0;have Np:ints (l.take (k+1))=ints (l.take k) ++ [Iv t]:=by
    rw [List.take_add_one,ht];simp [ints]
   have HT:=Hy Np;clear Np ht u0 hx h1;go_wp2_with (at_builtin;refine zt aC 40 i0 _ 1 8 underlying40 hi vQ sI ru rfl (by omega) (by omega) w.heap.size w wr _ rfl _ k _ #[Iv t] rfl (by simp [Value.oneCell']) _ _ rfl rfl rfl rfl ai hb (zL _) (by omega) ?_;intro v' w1 qi av LZ OW)
   go_roundw
   case rel=>exact ⟨k+1,by omega,by go_num,by rw [HT.out];assumption,by assumption⟩
   case measure=>simp [intOf];omega
  ·obtain rfl:k=n:=by omega
   rw [<-hn,List.take_length] at ai;go_wp2;go_ret;exact ⟨_,rfl,by rw [<-hn];exact ai,hb⟩
theorem Ld (ps:List Pm)(n:Nat)(hn:ps.length=n)(wW:n<=1000000)(A:Option Addr)(c:Nat)(w:World)(h1:RdS w (.slice A n c) n (ps.flatMap cz)) :
  Calls prog 85 #[.slice A n c] w fun e w'=>∃v,e=.returned v/\w'.ownsRow w.heap.size tPr 2 v n (ps.flatMap cz)/\Below w.heap.size w w':=by
 obtain ⟨i0,hi,vQ,sI,ru⟩:=dU Af;go_enter func85,ntmps85;go_wp2;go_loopw [3,4] (fun v3 v wr=>∃k:Nat,k<=n/\v=Iv k/\wr.ownsRow w.heap.size tPr 2 v3 k ((ps.take k).flatMap cz)/\Below w.heap.size w wr) (fun _ v _=>n - (intOf v).toNat)
 case atStart=>exact ⟨0,by omega,rfl,World.ownsRow_nil _ _ _ _,zB _ _⟩
 case round=>
  obtain ⟨k,hk,rfl,ai,hb⟩:=hrel;by_cases hlt:k<n
  ·obtain ⟨t,ht⟩:∃t,ps[k]? =some t:=⟨_,List.getElem?_eq_getElem (by omega)⟩
   have hu:∀j,j<2->(ps.flatMap cz)[k * 2+j]? =(cz t)[j]?:=fun j hj=>by rw [aY cz 2 (fun _=>rfl) ps k j hj,ht];rfl
   have u0:(ps.flatMap cz)[k * 2]? =some (Ss t.s):=hu 0 (by omega)
   have u1:(ps.flatMap cz)[k * 2+1]? =some (Iv t.ty):=hu 1 (by omega)
   obtain ⟨g,o,rfl,hg,hx⟩:=(h1.on hb).get (fun e=>by rw [e] at u0;cases u0)
   have x0:wr.cell? (Ad g (o+k * 2))=_:=hx _ _ u0;have x1:wr.cell? (Ad g (o+k * 2+1))=_:=hx _ _ u1;have Np:(ps.take (k+1)).flatMap cz=(ps.take k).flatMap cz ++ [Ss t.s,Iv t.ty]:=by
    rw [List.take_add_one,ht];simp [cz]
   have HT:=Hy Np;clear Np ht hu u0 u1 hx h1;go_wp2_with (at_builtin;refine zt tPr 39 i0 _ 2 24 underlying39 hi vQ sI ru rfl (by omega) (by omega) w.heap.size w wr _ rfl _ k _ #[Ss t.s,Iv t.ty] rfl (by simp [Value.oneCell']) _ _ rfl rfl rfl rfl ai hb (zL _) (by omega) ?_;intro v' w1 qi av LZ OW)
   go_roundw
   case rel=>exact ⟨k+1,by omega,by go_num,by rw [HT.out];assumption,by assumption⟩
   case measure=>simp [intOf];omega
  ·obtain rfl:k=n:=by omega
   rw [<-hn,List.take_length] at ai;go_wp2;go_ret;exact ⟨_,rfl,by rw [<-hn];exact ai,hb⟩
theorem Lf (gs:List Gl)(n:Nat)(hn:gs.length=n)(wW:n<=1000000)(A:Option Addr)(c:Nat)(w:World)(h1:RdS w (.slice A n c) n (gs.flatMap glC)) :
  Calls prog 19 #[.slice A n c] w fun e w'=>∃v,e=.returned v/\w'.ownsRow w.heap.size tGb 4 v n (gs.flatMap glC)/\Below w.heap.size w w':=by
 obtain ⟨i0,hi,vQ,sI,ru⟩:=dU Ah;go_enter func19,ntmps19;go_wp2;go_loopw [3,4] (fun v3 v wr=>∃k:Nat,k<=n/\v=Iv k/\wr.ownsRow w.heap.size tGb 4 v3 k ((gs.take k).flatMap glC)/\Below w.heap.size w wr) (fun _ v _=>n - (intOf v).toNat)
 case atStart=>exact ⟨0,by omega,rfl,World.ownsRow_nil _ _ _ _,zB _ _⟩
 case round=>
  obtain ⟨k,hk,rfl,ai,hb⟩:=hrel;by_cases hlt:k<n
  ·obtain ⟨t,ht⟩:∃t,gs[k]? =some t:=⟨_,List.getElem?_eq_getElem (by omega)⟩
   have hu:∀j,j<4->(gs.flatMap glC)[k * 4+j]? =(glC t)[j]?:=fun j hj=>by rw [aY glC 4 (fun _=>rfl) gs k j hj,ht];rfl
   have u0:(gs.flatMap glC)[k * 4]? =some (Ss t.s):=hu 0 (by omega)
   have u1:(gs.flatMap glC)[k * 4+1]? =some (Iv t.ty):=hu 1 (by omega)
   have u2:(gs.flatMap glC)[k * 4+2]? =some (Iv t.n):=hu 2 (by omega)
   have u3:(gs.flatMap glC)[k * 4+3]? =some (Iv t.p):=hu 3 (by omega)
   obtain ⟨g,o,rfl,hg,hx⟩:=(h1.on hb).get (fun e=>by rw [e] at u0;cases u0)
   have x0:wr.cell? (Ad g (o+k * 4))=_:=hx _ _ u0;have x1:wr.cell? (Ad g (o+k * 4+1))=_:=hx _ _ u1;have x2:wr.cell? (Ad g (o+k * 4+2))=_:=hx _ _ u2;have x3:wr.cell? (Ad g (o+k * 4+3))=_:=hx _ _ u3;have Np:(gs.take (k+1)).flatMap glC=(gs.take k).flatMap glC ++ [Ss t.s,Iv t.ty,Iv t.n,Iv t.p]:=by
    rw [List.take_add_one,ht];simp [glC]
   have HT:=Hy Np;clear Np ht hu u0 u1 u2 u3 hx h1;go_wp2_with (at_builtin;refine zt tGb 23 i0 _ 4 40 underlying23 hi vQ sI ru rfl (by omega) (by omega) w.heap.size w wr _ rfl _ k _ #[Ss t.s,Iv t.ty,Iv t.n,Iv t.p] rfl (by simp [Value.oneCell']) _ _ rfl rfl rfl rfl ai hb (zL _) (by omega) ?_;intro v' w1 qi av LZ OW)
   go_roundw
   case rel=>exact ⟨k+1,by omega,by go_num,by rw [HT.out];assumption,by assumption⟩
   case measure=>simp [intOf];omega
  ·obtain rfl:k=n:=by omega
   rw [<-hn,List.take_length] at ai;go_wp2;go_ret;exact ⟨_,rfl,by rw [<-hn];exact ai,hb⟩
theorem vB {w:World}{B sz n k:Nat}{t t2:TypeId}{v:Value}{xs:List Value}{cs cs2:Array Value}(h:w.ownsRow B t sz v n xs)(Z:Blk w k t2 cs)(ht:t≠t2):(w.setRow k cs2).ownsRow B t sz v n xs:=
 aJ h fun i hi=>setRow_other w k i cs2 (au (ag h hi) Z.kind ht)
theorem jR {w:World}{B sz n k j:Nat}{t t2:TypeId}{v u:Value}{xs:List Value}{cs:Array Value}(h:w.ownsRow B t sz v n xs)(Z:Blk w k t2 cs)(ht:t≠t2):(w.setCell (Ad k j) u).ownsRow B t sz v n xs:=
 aJ h fun i hi=>Below.heap_setCell w (Ad k j) u i (au (ag h hi) Z.kind ht)
theorem yI:(prog.info? tNd).map (·.size)=some 8:=by kernel_rfl
theorem yS:(prog.info? tFu).map (·.size)=some 6:=by kernel_rfl
theorem Le (hh:Hd)(ks:List Nat)(t:Int×Int)(v:Value)(w:World)(n:Nat)(hn:ks.length=n)(wW:n<=1000000)(h1:RdS w v n (ints (bK ks))) :
  Calls prog 46 #[.agg (aA ⟨hh,ks,v⟩ t).toArray] w fun e w'=>∃A c,e=.returned (.agg (aA ⟨hh,ks,.slice A n c⟩ t).toArray)/\w'.ownsRow w.heap.size aC 1 (.slice A n c) n (ints (bK ks))/\Below w.heap.size w w':=by
 obtain ⟨A,c,rfl⟩:=h1.shape;obtain ⟨t1,t2⟩:=t;obtain ⟨o1,o2,o3,o4,o5,o6⟩:=hh;unfold aA;simp only;have b1:Blk ((w.alloc (.cells #[Iv o1,Iv o2,Iv o3,Ss o4,Iv o5,.slice A n c,Iv t1,Iv t2] tNd)).alloc (.cells #[Iv 0,Iv 0,Iv 0,.string ⟨#[]⟩,Iv 0,Sn,Iv 0,Iv 0] tNd)) w.heap.size tNd #[Iv o1,Iv o2,Iv o3,Ss o4,Iv o5,.slice A n c,Iv t1,Iv t2]:=(Blk.new w tNd _).alloc _;have b2:=Blk.new (w.alloc (.cells #[Iv o1,Iv o2,Iv o3,Ss o4,Iv o5,.slice A n c,Iv t1,Iv t2] tNd)) tNd #[Iv 0,Iv 0,Iv 0,.string ⟨#[]⟩,Iv 0,Sn,Iv 0,Iv 0];have e2:(w.alloc (.cells #[Iv o1,Iv o2,Iv o3,Ss o4,Iv o5,.slice A n c,Iv t1,Iv t2] tNd)).heap.size=w.heap.size+1:=by simp
 rw [e2] at b2;have hb:Below w.heap.size w ((w.alloc (.cells #[Iv o1,Iv o2,Iv o3,Ss o4,Iv o5,.slice A n c,Iv t1,Iv t2] tNd)).alloc (.cells #[Iv 0,Iv 0,Iv 0,.string ⟨#[]⟩,Iv 0,Sn,Iv 0,Iv 0] tNd)):=((zB _ _).alloc (zL _) _).alloc (by simp) _
 have HR:=Hy2 h1 hn;clear h1 hn e2;go_enter func46,ntmps46;go_upto_region 1 with (fail);generalize (w.alloc (.cells #[Iv o1,Iv o2,Iv o3,Ss o4,Iv o5,.slice A n c,Iv t1,Iv t2] tNd)).alloc (.cells #[Iv 0,Iv 0,Iv 0,.string ⟨#[]⟩,Iv 0,Sn,Iv 0,Iv 0] tNd)=W1 at *;have m5:W1.cell? (Ad w.heap.size 5)=some (.slice A n c):=b1.cell 5;have ml:=b1.lt;have Yx:=hb.size;have HC:=Hy (zi (bK ks) n (by simpa [bK] using HR.2) wW A c W1 (HR.1.on hb))
 have B1:=Hy b1;have B2:=Hy b2;have HB:=Hy hb;clear b1 b2 hb;go_wp2_with fail;refine HC.mono ?_;clear HC;rintro e w2 ⟨v',rfl,ai,aU⟩;obtain ⟨gA,gc,rfl⟩:=dL ai;have b1:Blk w2 w.heap.size tNd #[Iv o1,Iv o2,Iv o3,Ss o4,Iv o5,.slice A n c,Iv t1,Iv t2]:=B1.out.below aU B1.out.lt;have b2:Blk w2 (w.heap.size+1) tNd #[Iv 0,Iv 0,Iv 0,.string ⟨#[]⟩,Iv 0,Sn,Iv 0,Iv 0]:=B2.out.below aU B2.out.lt;have f5:=b1.frozen 5;have m5':w2.cell? (Ad w.heap.size 5)=some (.slice A n c):=b1.cell 5;have ml2:=b1.lt;have Xl:Blk (w2.setCell (Ad w.heap.size 5) (.slice gA n gc)) w.heap.size tNd #[Iv o1,Iv o2,Iv o3,Ss o4,Iv o5,.slice gA n gc,Iv t1,Iv t2]:=b1.af 5 _;have UL:Blk (w2.setCell (Ad w.heap.size 5) (.slice gA n gc)) (w.heap.size+1) tNd #[Iv 0,Iv 0,Iv 0,.string ⟨#[]⟩,Iv 0,Sn,Iv 0,Iv 0]:=b2.far (p:=Ad w.heap.size 5) (by simp) _
 have hrs:(w2.setCell (Ad w.heap.size 5) (.slice gA n gc)).ownsRow w.heap.size aC 1 (.slice gA n gc) n (ints (bK ks)):=jR (bg ai Yx) b1 (by decide)
 have eu:Below w.heap.size w (w2.setCell (Ad w.heap.size 5) (.slice gA n gc)):=(HB.trans (aU.mono Yx)).setCell (p:=Ad w.heap.size 5) (by simp) _
 clear b1 b2 ai aU m5 ml;go_upto_region 2 with (fail);generalize w2.setCell (Ad w.heap.size 5) (.slice gA n gc)=W3 at *;have kZ:=setRow_heap W3 (w.heap.size+1) _ #[Iv o1,Iv o2,Iv o3,Ss o4,Iv o5,.slice gA n gc,Iv t1,Iv t2] tNd (0,0) UL;have HE:=Hy3 kZ (below_setRow (B:=w.heap.size) W3 (w.heap.size+1) #[Iv o1,Iv o2,Iv o3,Ss o4,Iv o5,.slice gA n gc,Iv t1,Iv t2] (by omega)) (vB (cs2:=#[Iv o1,Iv o2,Iv o3,Ss o4,Iv o5,.slice gA n gc,Iv t1,Iv t2]) hrs UL (by decide))
 have HBL:=Hy eu;clear kZ eu hrs f5 m5' ml2;refine wp_region_list ?_;refine wpList_load_row rfl tNd _ rfl w.heap.size rfl tNd _ (0,0) _ Xl underlying75 rfl yI ?_;refine wpList_store_row rfl tNd _ _ rfl (w.heap.size+1) _ rfl rfl tNd #[Iv 0,Iv 0,Iv 0,.string ⟨#[]⟩,Iv 0,Sn,Iv 0,Iv 0] UL yI rfl (by simp [Value.oneCell']) ?_
 refine wpList_nil ?_;go_wp2_with fail;refine bodyPost_ret (results_cell_row rfl _ _ (w.heap.size+1) tNd _ (0,0) _ rfl HE.1 underlying75 rfl yI) rfl ?_;exact ⟨gA,gc,rfl,HE.2.2,HBL.trans HE.2.1⟩
theorem vL (ms:List CN)(tr:List (Int×Int))(hl:tr.length=ms.length)(x:CN)(t:Int×Int):aI (ms ++ [x]) (tr ++ [t])=aI ms tr ++ aA x t:=by
 unfold aI;rw [List.zip_append hl.symm,List.flatMap_append];simp
theorem kJ {W w1:World}{B B2 sz sz2 n n2:Nat}{T T2:TypeId}{v v2:Value}{cs cs2:List Value}{o:Obj}(h:W.ownsRow B T sz v n cs)(h2:W.ownsRow B2 T2 sz2 v2 n2 cs2)(hg:(W.alloc o).grownBy w1 v2.ownBlock)(hT:T≠T2):w1.ownsRow B T sz v n cs:=
 ah hg (h.alloc o) (fun r e1 e2=>au (ag (h.alloc o) e2) (ag (h2.alloc o) e1) hT rfl)
theorem H7 (ns:List CN)(tr:List (Int×Int))(Oo:tr.length=ns.length)(N:Nat)(hN:ns.length=N)(Xd:N<=1000000)(A:Option Addr)(c:Nat)(w:World)(h1:RdS w (.slice A N c) N (aI ns tr))(bT:∀x∈ns,RdS w x.v x.kids.length (ints (bK x.kids)))(sZ:∀x∈ns,x.kids.length<=1000000) :
  Calls prog 21 #[.slice A N c] w fun e w'=>∃v ms,e=.returned v/\ms.map CN.nd=ns.map CN.nd/\w'.ownsRow w.heap.size tNd 8 v N (aI ms tr)/\(∀x∈ms,w'.ownsRow w.heap.size aC 1 x.v x.kids.length (ints (bK x.kids)))/\Below w.heap.size w w':=by
 obtain ⟨i0,hi,vQ,sI,ru⟩:=dU Ag;have H:=Hy5 h1 bT sZ Oo hN;clear h1 bT sZ Oo hN;go_enter func21,ntmps21;go_wp2;go_loopw [3,4] (fun v3 v wr=>∃(k:Nat) (ms:List CN),k<=N/\v=Iv k/\ms.map CN.nd=(ns.take k).map CN.nd/\wr.ownsRow w.heap.size tNd 8 v3 k (aI ms (tr.take k))/\(∀x∈ms,wr.ownsRow w.heap.size aC 1 x.v x.kids.length (ints (bK x.kids)))/\Below w.heap.size w wr) (fun _ v _=>N - (intOf v).toNat)
 case atStart=>exact ⟨0,[],by omega,rfl,rfl,World.ownsRow_nil _ _ _ _,fun x hx=>(by cases hx),zB _ _⟩
 case round=>
  obtain ⟨k,ms,hk,rfl,OC,ai,Ny,hb⟩:=hrel;by_cases hlt:k<N
  ·obtain ⟨h1,bT,sZ,Oo,hN⟩:=H;obtain ⟨x,hx⟩:∃x,ns[k]? =some x:=⟨_,List.getElem?_eq_getElem (by omega)⟩
   obtain ⟨t,ht⟩:∃t,tr[k]? =some t:=⟨_,List.getElem?_eq_getElem (by omega)⟩
   have Ab:=fun j hj=>aV ns tr k j hj hx ht
   have e0:(aI ns tr)[k * 8]? =some (Iv x.h.op):=Ab 0 (by omega)
   obtain ⟨g,o,rfl,hg,qi⟩:=(h1.on hb).get (fun e=>by rw [e] at e0;cases e0)
   have Nu:=(bT x (zG hx)).on hb;have Ph:=sZ x (zG hx);have BP:ms.length=k:=by have h9:=congrArg List.length OC;simp at h9;omega
   have Np:tr.take (k+1)=tr.take k ++ [t]:=by rw [List.take_add_one,ht];rfl
   have X3:(ns.take (k+1)).map CN.nd=(ns.take k).map CN.nd ++ [x.nd]:=by rw [List.take_add_one,hx];simp
   have Oa:(tr.take k).length=ms.length:=by simp;omega
   obtain ⟨xh,xk,xv⟩:=x;simp only at Nu Ph;obtain ⟨kn,Ey⟩:=zN xk.length;rw [Ey] at Nu Ph;obtain ⟨A1,c1,rfl⟩:=Nu.shape;have Mv:=Hy (Le xh xk t (.slice A1 kn c1) wr kn Ey Ph Nu);obtain ⟨t1,t2⟩:=t;obtain ⟨o1,o2,o3,o4,o5,o6⟩:=xh;unfold aA at Mv;simp only at Mv;have y0:wr.cell? (Ad g (o+k * 8))=some (Iv o1):=qi _ _ (Ab 0 (by omega))
   have y1:wr.cell? (Ad g (o+k * 8+1))=some (Iv o2):=qi _ _ (Ab 1 (by omega))
   have y2:wr.cell? (Ad g (o+k * 8+2))=some (Iv o3):=qi _ _ (Ab 2 (by omega))
   have y3:wr.cell? (Ad g (o+k * 8+3))=some (Ss o4):=qi _ _ (Ab 3 (by omega))
   have y4:wr.cell? (Ad g (o+k * 8+4))=some (Iv o5):=qi _ _ (Ab 4 (by omega))
   have y5:wr.cell? (Ad g (o+k * 8+5))=some (.slice A1 kn c1):=qi _ _ (Ab 5 (by omega))
   have y6:wr.cell? (Ad g (o+k * 8+6))=some (Iv t1):=qi _ _ (Ab 6 (by omega))
   have y7:wr.cell? (Ad g (o+k * 8+7))=some (Iv t2):=qi _ _ (Ab 7 (by omega))
   have HT:=Hy5 Np X3 OC Oa Ey;have HR:=Hy3 ai Ny hb;clear h1 bT sZ Oo hN hx ht Ab e0 qi Nu Ph BP Np X3 Oa Ey OC ai Ny hb;go_wp2_with fail;refine Mv.mono ?_;clear Mv;rintro e w2 ⟨A2,c2,rfl,pY,aU⟩;have bW:Below w.heap.size w w2:=HR.2.2.trans (aU.mono HR.2.2.size);have ai:=ic aU HR.1;have HS:=Hy3 (fun x hx=>ic aU (HR.2.1 x hx)) (bg pY HR.2.2.size) ai
   clear pY aU y0 y1 y2 y3 y4 y5 y6 y7;go_wp2_with (at_builtin;refine zt tNd 25 i0 _ 8 88 underlying25 hi vQ sI ru rfl (by omega) (by omega) w.heap.size w w2 _ rfl _ k _ #[Iv o1,Iv o2,Iv o3,Ss o4,Iv o5,.slice A2 kn c2,Iv t1,Iv t2] rfl (by simp [Value.oneCell']) _ _ rfl rfl rfl rfl ai bW (zL _) (by omega) ?_;intro v' w1 qi av LZ OW)
   go_roundw
   case rel=>
    refine ⟨k+1,ms ++ [⟨⟨o1,o2,o3,o4,o5,o6⟩,xk,.slice A2 kn c2⟩],by omega,by go_num,?_,?_,?_,by assumption⟩
    ·rw [HT.2.1,List.map_append,HT.2.2.1];rfl
    ·rw [HT.1,vL _ _ HT.2.2.2.1];exact qi
    ·intro x hx;rcases List.mem_append.1 hx with hx|hx
     ·exact kJ (HS.1 x hx) HS.2.2 LZ (by decide)
     ·simp only [List.mem_singleton] at hx;subst hx;simp only [HT.2.2.2.2];exact kJ HS.2.1 HS.2.2 LZ (by decide)
   case measure=>simp [intOf];omega
  ·obtain rfl:k=N:=by omega
   have Uf:ms.map CN.nd=ns.map CN.nd:=by rw [OC,List.take_of_length_le (by have:=H.2.2.2.2;omega)]
   have WJ:tr.take k=tr:=List.take_of_length_le (by have:=H.2.2.2.1;have:=H.2.2.2.2;omega)
   rw [WJ] at ai;have HF:=Hy4 Uf ai Ny hb;clear Uf WJ ai Ny hb OC;go_wp2;go_ret;first
    |exact ⟨_,ms,rfl,HF.1,HF.2.1,HF.2.2.1,HF.2.2.2⟩
    |exact ⟨_,rfl,ms,HF.1,HF.2.1,HF.2.2.1,HF.2.2.2⟩
theorem Lg (f:Fn')(pv vv:Value)(vl:List Int)(w:World)(n vn:Nat)(hn:f.ps.length=n)(wW:n<=1000000)(NP:vl.length=vn)(XI:vn<=1000000)(h1:RdS w pv n (f.ps.flatMap cz))(h3:RdS w vv vn (ints vl)) :
  Calls prog 45 #[.agg (fnC (f,pv) vv).toArray] w fun e w'=>∃A c V d,e=.returned (.agg (fnC (f,.slice A n c) (.slice V vn d)).toArray)/\w'.ownsRow w.heap.size tPr 2 (.slice A n c) n (f.ps.flatMap cz)/\w'.ownsRow w.heap.size aC 1 (.slice V vn d) vn (ints vl)/\Below w.heap.size w w':=by
 obtain ⟨A,c,rfl⟩:=h1.shape;obtain ⟨VA,vc,rfl⟩:=h3.shape;obtain ⟨f1,f2,f3,f4,f5⟩:=f;unfold fnC;simp only at h1 hn |-;have b1:Blk ((w.alloc (.cells #[Ss f1,Iv f2,.slice A n c,Iv (f4:Nat),Iv f5,.slice VA vn vc] tFu)).alloc (.cells #[.string ⟨#[]⟩,Iv 0,Sn,Iv 0,Iv 0,Sn] tFu)) w.heap.size tFu #[Ss f1,Iv f2,.slice A n c,Iv (f4:Nat),Iv f5,.slice VA vn vc]:=(Blk.new w tFu _).alloc _;have b2:=Blk.new (w.alloc (.cells #[Ss f1,Iv f2,.slice A n c,Iv (f4:Nat),Iv f5,.slice VA vn vc] tFu)) tFu #[.string ⟨#[]⟩,Iv 0,Sn,Iv 0,Iv 0,Sn];have e2:(w.alloc (.cells #[Ss f1,Iv f2,.slice A n c,Iv (f4:Nat),Iv f5,.slice VA vn vc] tFu)).heap.size=w.heap.size+1:=by simp
 rw [e2] at b2;have hb:Below w.heap.size w ((w.alloc (.cells #[Ss f1,Iv f2,.slice A n c,Iv (f4:Nat),Iv f5,.slice VA vn vc] tFu)).alloc (.cells #[.string ⟨#[]⟩,Iv 0,Sn,Iv 0,Iv 0,Sn] tFu)):=((zB _ _).alloc (zL _) _).alloc (by simp) _
 have HR:=Hy4 h1 h3 hn NP;clear h1 h3 hn NP e2;go_enter func45,ntmps45;go_upto_region 1 with (fail);generalize (w.alloc (.cells #[Ss f1,Iv f2,.slice A n c,Iv (f4:Nat),Iv f5,.slice VA vn vc] tFu)).alloc (.cells #[.string ⟨#[]⟩,Iv 0,Sn,Iv 0,Iv 0,Sn] tFu)=W1 at *;have m2:W1.cell? (Ad w.heap.size 2)=some (.slice A n c):=b1.cell 2;have ml:=b1.lt;have Yx:=hb.size;have HC:=Hy (Ld f3 n HR.2.2.1 wW A c W1 (HR.1.on hb));have B1:=Hy b1;have B2:=Hy b2;have HB:=Hy hb;clear b1 b2 hb;go_wp2_with fail;refine HC.mono ?_;clear HC;rintro e w2 ⟨v',rfl,ai,aU⟩;obtain ⟨gA,gc,rfl⟩:=dL ai;have b1:Blk w2 w.heap.size tFu #[Ss f1,Iv f2,.slice A n c,Iv (f4:Nat),Iv f5,.slice VA vn vc]:=B1.out.below aU B1.out.lt;have b2:Blk w2 (w.heap.size+1) tFu #[.string ⟨#[]⟩,Iv 0,Sn,Iv 0,Iv 0,Sn]:=B2.out.below aU B2.out.lt;have f2':=b1.frozen 2;have m2':w2.cell? (Ad w.heap.size 2)=some (.slice A n c):=b1.cell 2;have ml2:=b1.lt;have Xl:Blk (w2.setCell (Ad w.heap.size 2) (.slice gA n gc)) w.heap.size tFu #[Ss f1,Iv f2,.slice gA n gc,Iv (f4:Nat),Iv f5,.slice VA vn vc]:=b1.af 2 _;have UL:Blk (w2.setCell (Ad w.heap.size 2) (.slice gA n gc)) (w.heap.size+1) tFu #[.string ⟨#[]⟩,Iv 0,Sn,Iv 0,Iv 0,Sn]:=b2.far (p:=Ad w.heap.size 2) (by simp) _
 have hrs:(w2.setCell (Ad w.heap.size 2) (.slice gA n gc)).ownsRow w.heap.size tPr 2 (.slice gA n gc) n (f3.flatMap cz):=jR (bg ai Yx) b1 (by decide)
 have eu:Below w.heap.size w (w2.setCell (Ad w.heap.size 2) (.slice gA n gc)):=(HB.trans (aU.mono Yx)).setCell (p:=Ad w.heap.size 2) (by simp) _
 clear b1 b2 ai aU m2 ml;go_upto_region 2 with (fail);generalize w2.setCell (Ad w.heap.size 2) (.slice gA n gc)=W3 at *;have m5:W3.cell? (Ad w.heap.size 5)=some (.slice VA vn vc):=Xl.cell 5;have ml3:=Xl.lt;have B1:=Hy Xl;have B2:=Hy UL;have HC:=Hy (zi vl vn HR.2.2.2 XI VA vc W3 (HR.2.1.on eu));have HS:=Hy2 hrs eu;clear Xl UL hrs eu f2' m2' ml2;go_wp2_with fail;refine HC.mono ?_;clear HC;rintro e w4 ⟨v4,rfl,hrv,NJ⟩;obtain ⟨gV,gd,rfl⟩:=dL hrv;have b1:Blk w4 w.heap.size tFu #[Ss f1,Iv f2,.slice gA n gc,Iv (f4:Nat),Iv f5,.slice VA vn vc]:=B1.out.below NJ B1.out.lt;have b2:Blk w4 (w.heap.size+1) tFu #[.string ⟨#[]⟩,Iv 0,Sn,Iv 0,Iv 0,Sn]:=B2.out.below NJ B2.out.lt;have f5':=b1.frozen 5;have m5':w4.cell? (Ad w.heap.size 5)=some (.slice VA vn vc):=b1.cell 5;have ml4:=b1.lt;have Xl:Blk (w4.setCell (Ad w.heap.size 5) (.slice gV vn gd)) w.heap.size tFu #[Ss f1,Iv f2,.slice gA n gc,Iv (f4:Nat),Iv f5,.slice gV vn gd]:=b1.af 5 _;have UL:Blk (w4.setCell (Ad w.heap.size 5) (.slice gV vn gd)) (w.heap.size+1) tFu #[.string ⟨#[]⟩,Iv 0,Sn,Iv 0,Iv 0,Sn]:=b2.far (p:=Ad w.heap.size 5) (by simp) _
 have hrs:(w4.setCell (Ad w.heap.size 5) (.slice gV vn gd)).ownsRow w.heap.size tPr 2 (.slice gA n gc) n (f3.flatMap cz):=jR (ic NJ HS.1) b1 (by decide)
 have hrv2:(w4.setCell (Ad w.heap.size 5) (.slice gV vn gd)).ownsRow w.heap.size aC 1 (.slice gV vn gd) vn (ints vl):=jR (bg hrv HS.2.size) b1 (by decide)
 have eu:Below w.heap.size w (w4.setCell (Ad w.heap.size 5) (.slice gV vn gd)):=(HS.2.trans (NJ.mono HS.2.size)).setCell (p:=Ad w.heap.size 5) (by simp) _
 clear b1 b2 hrv NJ m5 ml3;go_upto_region 3 with (fail);generalize w4.setCell (Ad w.heap.size 5) (.slice gV vn gd)=W5 at *;have TT:=setRow_heap W5 (w.heap.size+1) _ #[Ss f1,Iv f2,.slice gA n gc,Iv (f4:Nat),Iv f5,.slice gV vn gd] tFu (0,0) UL;have HE:=Hy4 TT (below_setRow (B:=w.heap.size) W5 (w.heap.size+1) #[Ss f1,Iv f2,.slice gA n gc,Iv (f4:Nat),Iv f5,.slice gV vn gd] (by omega)) (vB (cs2:=#[Ss f1,Iv f2,.slice gA n gc,Iv (f4:Nat),Iv f5,.slice gV vn gd]) hrs UL (by decide)) (vB (cs2:=#[Ss f1,Iv f2,.slice gA n gc,Iv (f4:Nat),Iv f5,.slice gV vn gd]) hrv2 UL (by decide))
 have HBL:=Hy eu;clear TT eu hrs hrv2 f5' m5' ml4;refine wp_region_list ?_;refine wpList_load_row rfl tFu _ rfl w.heap.size rfl tFu _ (0,0) _ Xl underlying42 rfl yS ?_;refine wpList_store_row rfl tFu _ _ rfl (w.heap.size+1) _ rfl rfl tFu #[.string ⟨#[]⟩,Iv 0,Sn,Iv 0,Iv 0,Sn] UL yS rfl (by simp [Value.oneCell']) ?_
 refine wpList_nil ?_;go_wp2_with fail;refine bodyPost_ret (results_cell_row rfl _ _ (w.heap.size+1) tFu _ (0,0) _ rfl HE.1 underlying42 rfl yS) rfl ?_;exact ⟨gA,gc,gV,gd,rfl,HE.2.2.1,HE.2.2.2,HBL.trans HE.2.1⟩
theorem BN (ms:List (Fn'×Value))(vls:List Value)(hl:vls.length=ms.length)(x:Fn'×Value)(v:Value):dE (ms ++ [x]) (vls ++ [v])=dE ms vls ++ fnC x v:=by
 unfold dE;rw [List.zip_append hl.symm,List.flatMap_append];simp
theorem Ia (fl:List (Fn'×Value))(vls:List Value)(vs:List (List Int))(N:Nat)(hN:fl.length=N)(Xd:N<=1000000)(Bt:vls.length=N)(Gv:vs.length=N)(A:Option Addr)(c:Nat)(w:World)(h1:RdS w (.slice A N c) N (dE fl vls))
  (Lt:∀x∈fl,RdS w x.2 x.1.ps.length (x.1.ps.flatMap cz)) (Rl:∀(j:Nat) (v:Value) (l:List Int),vls[j]? =some v->vs[j]? =some l->RdS w v l.length (ints l)) (F9:∀x∈fl,x.1.ps.length<=1000000) (NU:∀l∈vs,l.length<=1000000) :
  Calls prog 20 #[.slice A N c] w fun e w'=>∃v ms yB,e=.returned v/\ms.map (·.1)=fl.map (·.1)/\yB.length=N/\w'.ownsRow w.heap.size tFu 6 v N (dE ms yB)/\(∀x∈ms,w'.ownsRow w.heap.size tPr 2 x.2 x.1.ps.length (x.1.ps.flatMap cz))/\(∀(j:Nat) (u:Value) (l:List Int),yB[j]? =some u->vs[j]? =some l->w'.ownsRow w.heap.size aC 1 u l.length (ints l))/\Below w.heap.size w w':=by
 obtain ⟨i0,hi,vQ,sI,ru⟩:=dU Ai;have H:=Hy8 h1 Lt Rl F9 NU hN Bt Gv;clear h1 Lt Rl F9 NU hN Bt Gv;go_enter func20,ntmps20;go_wp2;go_loopw [3,4] (fun v3 v wr=>∃(k:Nat) (ms:List (Fn'×Value)) (yB:List Value),k<=N/\v=Iv k/\ms.map (·.1)=(fl.take k).map (·.1)/\yB.length=k/\wr.ownsRow w.heap.size tFu 6 v3 k (dE ms yB)/\(∀x∈ms,wr.ownsRow w.heap.size tPr 2 x.2 x.1.ps.length (x.1.ps.flatMap cz))/\(∀(j:Nat) (u:Value) (l:List Int),yB[j]? =some u->vs[j]? =some l->wr.ownsRow w.heap.size aC 1 u l.length (ints l))/\Below w.heap.size w wr) (fun _ v _=>N - (intOf v).toNat)
 case atStart=>exact ⟨0,[],[],by omega,rfl,rfl,rfl,World.ownsRow_nil _ _ _ _,fun x hx=>(by cases hx),fun j u l h=>(by simp at h),zB _ _⟩
 case round=>
  obtain ⟨k,ms,yB,hk,rfl,OC,PD,ai,Ny,Nk,hb⟩:=hrel;by_cases hlt:k<N
  ·obtain ⟨h1,Lt,Rl,F9,NU,hN,Bt,Gv⟩:=H;obtain ⟨x,hx⟩:∃x,fl[k]? =some x:=⟨_,List.getElem?_eq_getElem (by omega)⟩
   obtain ⟨v,hv⟩:∃v,vls[k]? =some v:=⟨_,List.getElem?_eq_getElem (by omega)⟩
   obtain ⟨l,hl⟩:∃l,vs[k]? =some l:=⟨_,List.getElem?_eq_getElem (by omega)⟩
   have Ab:=fun j hj=>bQ fl vls k j hj hx hv
   have e0:(dE fl vls)[k * 6]? =some (Ss x.1.s):=Ab 0 (by omega)
   obtain ⟨g,o,rfl,hg,qi⟩:=(h1.on hb).get (fun e=>by rw [e] at e0;cases e0)
   have TV:=(Lt x (zG hx)).on hb;have VD:=(Rl k v l hv hl).on hb;have O9:=F9 x (zG hx);have QP:=NU l (zG hl);have BP:ms.length=k:=by have h9:=congrArg List.length OC;simp at h9;omega
   have X3:(fl.take (k+1)).map (·.1)=(fl.take k).map (·.1) ++ [x.1]:=by rw [List.take_add_one,hx];simp
   obtain ⟨xf,xp⟩:=x;simp only at TV O9;obtain ⟨pn,Da⟩:=zN xf.ps.length;obtain ⟨vn,NP⟩:=zN l.length;rw [Da] at TV O9;rw [NP] at VD QP;obtain ⟨A1,c1,rfl⟩:=TV.shape;obtain ⟨V1,d1,rfl⟩:=VD.shape;have Mv:=Hy (Lg xf (.slice A1 pn c1) (.slice V1 vn d1) l wr pn vn Da O9 NP QP TV VD);obtain ⟨f1,f2,f3,f4,f5⟩:=xf;unfold fnC at Mv;simp only at Mv;have y0:wr.cell? (Ad g (o+k * 6))=some (Ss f1):=qi _ _ (Ab 0 (by omega))
   have y1:wr.cell? (Ad g (o+k * 6+1))=some (Iv f2):=qi _ _ (Ab 1 (by omega))
   have y2:wr.cell? (Ad g (o+k * 6+2))=some (.slice A1 pn c1):=qi _ _ (Ab 2 (by omega))
   have y3:wr.cell? (Ad g (o+k * 6+3))=some (Iv (f4:Nat)):=qi _ _ (Ab 3 (by omega))
   have y4:wr.cell? (Ad g (o+k * 6+4))=some (Iv f5):=qi _ _ (Ab 4 (by omega))
   have y5:wr.cell? (Ad g (o+k * 6+5))=some (.slice V1 vn d1):=qi _ _ (Ab 5 (by omega))
   have HT:=Hy7 X3 OC Da NP BP PD hl;have HR:=Hy4 ai Ny Nk hb;clear h1 Lt Rl F9 NU hN Bt Gv hx hv hl Ab e0 qi TV VD O9 QP BP X3 Da NP OC PD ai Ny Nk hb;go_wp2_with fail;refine Mv.mono ?_;clear Mv;rintro e w2 ⟨A2,c2,V2,d2,rfl,pY,XP,aU⟩;have bW:Below w.heap.size w w2:=HR.2.2.2.trans (aU.mono HR.2.2.2.size);have ai:=ic aU HR.1;have HS:=Hy5 (fun x hx=>ic aU (HR.2.1 x hx)) (bg pY HR.2.2.2.size) ai (bg XP HR.2.2.2.size) (fun j u l a b=>ic aU (HR.2.2.1 j u l a b))
   clear pY XP aU y0 y1 y2 y3 y4 y5;go_wp2_with (at_builtin;refine zt tFu 24 i0 _ 6 88 underlying24 hi vQ sI ru rfl (by omega) (by omega) w.heap.size w w2 _ rfl _ k _ #[Ss f1,Iv f2,.slice A2 pn c2,Iv (f4:Nat),Iv f5,.slice V2 vn d2] rfl (by simp [Value.oneCell']) _ _ rfl rfl rfl rfl ai bW (zL _) (by omega) ?_;intro v' w1 qi av LZ OW)
   go_roundw
   case rel=>
    obtain ⟨X3,OC,Da,NP,BP,PD,hl⟩:=HT;refine ⟨k+1,ms ++ [(⟨f1,f2,f3,f4,f5⟩,.slice A2 pn c2)],yB ++ [.slice V2 vn d2],by omega,by go_num,?_,by simp [PD],?_,?_,?_,by assumption⟩
    ·rw [X3,List.map_append,OC];rfl
    ·rw [BN _ _ (by rw [PD,BP])];exact qi
    ·intro x hx;rcases List.mem_append.1 hx with hx|hx
     ·exact kJ (HS.1 x hx) HS.2.2.1 LZ (by decide)
     ·simp only [List.mem_singleton] at hx;subst hx;try simp only at Da
      simp only [Da];exact kJ HS.2.1 HS.2.2.1 LZ (by decide)
    ·intro j u l' hu hl';by_cases hj:j<k
     ·rw [List.getElem?_append_left (by omega)] at hu
      exact kJ (HS.2.2.2.2 j u l' hu hl') HS.2.2.1 LZ (by decide)
     ·have xP:=(zS.1 hu).1;simp only [List.length_append,List.length_cons,List.length_nil] at xP;obtain rfl:j=k:=by omega
      rw [List.getElem?_append_right (by omega),PD,Nat.sub_self,List.getElem?_cons_zero] at hu
      obtain rfl:=Option.some.inj hu;rw [hl] at hl';obtain rfl:=Option.some.inj hl';rw [NP];exact kJ HS.2.2.2.1 HS.2.2.1 LZ (by decide)
   case measure=>simp [intOf];omega
  ·obtain rfl:k=N:=by omega
   have Uf:ms.map (·.1)=fl.map (·.1):=by rw [OC,List.take_of_length_le (by have:=H.2.2.2.2.2.1;omega)]
   have HF:=Hy6 Uf PD ai Ny Nk hb;clear Uf PD ai Ny Nk hb OC;go_wp2;go_ret;first
    |exact ⟨_,ms,yB,rfl,HF.1,HF.2.1,HF.2.2.1,HF.2.2.2.1,HF.2.2.2.2.1,HF.2.2.2.2.2⟩
    |exact ⟨_,rfl,ms,yB,HF.1,HF.2.1,HF.2.2.1,HF.2.2.2.1,HF.2.2.2.2.1,HF.2.2.2.2.2⟩
    |exact ⟨_,rfl,ms,HF.1,yB,HF.2.1,HF.2.2.1,fun a b h=>HF.2.2.2.1 (a,b) h,HF.2.2.2.2.1,HF.2.2.2.2.2⟩
    |exact ⟨_,rfl,ms,HF.1,yB,HF.2.1,HF.2.2.1,HF.2.2.2.1,HF.2.2.2.2.1,HF.2.2.2.2.2⟩
end
section
open Go Go.RowKit Go.Maps
section
variable {P:Program} {Q:Exit->Act->World->Prop} {md:Region.Mode} {S:World->Prop}
theorem Iu {l:List Oper}{i:Nat}{oi:Oper}{v:Value}{fuel:Nat}{listed:Array Bool}{a:Act}{w:World}(hi:l[i]? =some oi)
  (hs:Region.noSelect l.toArray=true) (hf:Region.free md l.toArray listed i=true) (hr:(Region.ready md l.toArray listed).contains i=true)
  (hQ:∀c a w,Q (.panic c) (a.put oi.dst v) w->Q (.panic c) a w) (hy:YieldsIf P l.toArray S oi v a) (hS:S w)
  (h:wpAnyH P md l.toArray Q S fuel (listed.setIfInBounds i true) (a.put oi.dst v) w):wpAnyH P md l.toArray Q S (fuel+1) listed a w:=
 wpAnyH_take (by simpa using hi) hs hf hr hQ hy hS h
theorem dC {l:List Oper}{i:Nat}{o:Oper}{fuel:Nat}{listed:Array Bool}{a:Act}{w:World}(hi:l[i]? =some o)(hr:Region.ready md l.toArray listed=[i])
  (h:∀K':Act->World->Prop,Shut (∀a w,S w->(S w->wpAnyH P md l.toArray Q S fuel (listed.setIfInBounds i true) a w)->K' a w)->if Region.wanted o (yielded l.toArray a.tmps)=true then Oper.wp P o a w K' Q else K' (a.put o.dst undef) w) :
  wpAnyH P md l.toArray Q S (fuel+1) listed a w:=
 wpAnyH_ready hr (by simp) (AllReadyH.cons (by simpa using hi) h AllReadyH.nil)
theorem Fh {l:List Oper}{i j:Nat}{o o':Oper}{fuel:Nat}{listed:Array Bool}{a:Act}{w:World}(hi:l[i]? =some o)(hj:l[j]? =some o')(hr:Region.ready md l.toArray listed=[i,j])
  (h:∀K':Act->World->Prop,Shut (∀a w,S w->(S w->wpAnyH P md l.toArray Q S fuel (listed.setIfInBounds i true) a w)->K' a w)->if Region.wanted o (yielded l.toArray a.tmps)=true then Oper.wp P o a w K' Q else K' (a.put o.dst undef) w)
  (h2:∀K':Act->World->Prop,Shut (∀a w,S w->(S w->wpAnyH P md l.toArray Q S fuel (listed.setIfInBounds j true) a w)->K' a w)->if Region.wanted o' (yielded l.toArray a.tmps)=true then Oper.wp P o' a w K' Q else K' (a.put o'.dst undef) w) :
  wpAnyH P md l.toArray Q S (fuel+1) listed a w:=
 wpAnyH_ready hr (by simp) (AllReadyH.cons (by simpa using hi) h (AllReadyH.cons (by simpa using hj) h2 AllReadyH.nil))
end
section
variable {P:Program} {Q:Exit->Act->World->Prop} {md:Region.Mode} {S:World->Prop}
theorem tQ {l:List Oper}(i:Nat){oi:Oper}{v:Value}{fuel:Nat}{listed:Array Bool}{a:Act}{w:World}(hS:S w)
  (h:wpAnyH P md l.toArray Q S fuel (listed.setIfInBounds i true) (a.put oi.dst v) w) (hi:l[i]? =some oi:=by exact rfl) (hs:Region.noSelect l.toArray=true:=by kernel_rfl)
  (hf:Region.free md l.toArray listed i=true:=by kernel_rfl) (hr:(Region.ready md l.toArray listed).contains i=true:=by kernel_rfl)
  (hQ:∀c a w,Q (.panic c) (a.put oi.dst v) w->Q (.panic c) a w:=by exact fun _ _ _ h=>h) (hw:Region.wanted oi (yielded l.toArray a.tmps)=true:=by rfl)
  (hy:∀w,S w->(execOp a.eval oi).run P w=.ok (.value v) w:=by (intro w0 hSw;(try dsimp only at hSw);(try simp only [Act.put,List.setIfInBounds_toArray,List.set_cons_zero,List.set_cons_succ]);go_simp;(try (with_reducible rfl)))) :
  wpAnyH P md l.toArray Q S (fuel+1) listed a w:=
 Iu hi hs hf hr hQ (Or.inl ⟨hw,hy⟩) hS h
theorem tZ {l:List Oper}(i:Nat){oi:Oper}{fuel:Nat}{listed:Array Bool}{a:Act}{w:World}(hS:S w)
  (h:wpAnyH P md l.toArray Q S fuel (listed.setIfInBounds i true) (a.put oi.dst undef) w) (hi:l[i]? =some oi:=by exact rfl) (hs:Region.noSelect l.toArray=true:=by kernel_rfl)
  (hf:Region.free md l.toArray listed i=true:=by kernel_rfl) (hr:(Region.ready md l.toArray listed).contains i=true:=by kernel_rfl)
  (hQ:∀c a w,Q (.panic c) (a.put oi.dst undef) w->Q (.panic c) a w:=by exact fun _ _ _ h=>h) (hw:Region.wanted oi (yielded l.toArray a.tmps)=false:=by rfl) :
  wpAnyH P md l.toArray Q S (fuel+1) listed a w:=
 Iu hi hs hf hr hQ (Or.inr ⟨hw,rfl⟩) hS h
end
end
section
open Go Go.RowKit Go.Maps
theorem ko (w:World)(b j:Nat)(v:Value):w.grownBy (w.setCell (Ad b j) v) (some b):=
 ⟨rfl,rfl,rfl,by simp,fun k _ hk=>heap_setCell_other w (Ad b j) k v (fun e=>hk (by simp [e]))⟩
theorem uh (w:World)(b:Nat)(cs:Array Value):w.grownBy (w.setRow b cs) (some b):=
 ⟨rfl,rfl,rfl,by simp,fun k _ hk=>setRow_other w b k cs (fun e=>hk (by rw [e]))⟩
theorem jD {w w':World}{r:Option Nat}(h:w.drew.grownBy w' r):w.grownBy w' r:=⟨h.os,h.tape,h.output,h.size,h.block⟩
section
variable {X:RX} {S:RS} {w w' w'':World}
theorem FrP.under (hB:X.B<=w.heap.size)(h:FrP X w w')(hb:Below w.heap.size w' w''):FrP X w w'':=
 ⟨h.low.trans (hb.mono hB),fun m hm hk hn=>(hb.block m hm).trans (h.box m hm hk hn)⟩
theorem RV.box (h:RV X S w){H:Nat}(hk:Kind w H tNd)(hn:(Value.slice X.nA X.ns.length X.nc).ownBlock≠some H)(hg:w.grownBy w' (some H)):RV X S w':=by
 have hr:∀{base sz n:Nat} {T:TypeId} {v:Value} {xs:List Value},w.ownsRow base T sz v n xs->T≠tNd->∀r,some H=some r->v.ownBlock≠some r:=by
  intro base sz n T v xs h1 hT r hr e;cases hr;exact au (ag h1 e) hk hT rfl
 exact {
  chk:=ak hg h.chk (fun e=>au h.chk.kind hk (by decide) (Option.some.inj e).symm)
  g:=ah hg h.g (hr h.g (by decide))
  f:=ah hg h.f (hr h.f (by decide))
  n:=ah hg h.n (fun r hr e=>by cases hr;exact hn e)
  l:=ah hg h.l (hr h.l (by decide))
  ps:=fun x hx=>ah hg (h.ps x hx) (hr (h.ps x hx) (by decide))
  ks:=fun x hx=>az hg (h.ks x hx) (hr (h.ks x hx).1 (by decide))
  cur:=fun v l h1 h2=>ah hg (h.cur v l h1 h2) (hr (h.cur v l h1 h2) (by decide))
  old:=fun j v l h0 h1 h2=>az hg (h.old j v l h0 h1 h2) (hr (h.old j v l h0 h1 h2).1 (by decide))
  vl:=h.vl
  vn:=h.vn
  tl:=h.tl
  hB:=⟨h.hB.1,h.hB.2.1,Nat.le_trans h.hB.2.2 hg.size⟩}
theorem RV.nLt (h:RV X S w){m:Nat}(hm:w.heap.size<=m):(Value.slice X.nA X.ns.length X.nc).ownBlock≠some m:=fun e=>by
 have:=(ag h.n e).lt;omega
end
theorem Eg:(prog.info? tVr).map (fun i=>(i.zero,i.size,i.bytes))=some (some (.agg #[.string ⟨#[]⟩,Iv 0,Iv 0]),3,32):=by kernel_rfl
end
end Go.Proofs.YtcchdlnfeijinaaGreatDoor
