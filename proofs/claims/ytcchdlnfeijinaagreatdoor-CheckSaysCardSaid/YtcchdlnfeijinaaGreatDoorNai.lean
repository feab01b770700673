/- Cku to Cla: Layer check: main is held against what it must be. -/
import Derived.Test.YtcchdlnfeijinaaGreatDoorNah
import Derived.Test.YtcchdlnfeijinaaGreatDoorNad
import Derived.Test.YtcchdlnfeijinaaGreatDoorShelf2
import Derived.Sort.OwnSortedInts
import Derived.Lib.SliceRun
namespace Go.Proofs.YtcchdlnfeijinaaGreatDoor
open Go.Proofs.Tryz
set_option linter.unusedSimpArgs false
set_option linter.unusedVariables false
set_option maxHeartbeats 4000000
set_option maxRecDepth 100000
section
open Go Go.RowKit Go.Maps
theorem z8 {G:Scp}{fs:List Fn'}(h:((look G bn).getD mz).so≠4):jh G fs=.er 12 0:=by
 unfold jh;cases hL:look G bn with
 |none=>rfl
 |some m=>rw [hL] at h;simp only [Option.getD_some] at h;simp only;rw [if_pos h]
theorem Gj {G:Scp}{fs:List Fn'}{f:Fn'}{j:Nat}(h:((look G bn).getD mz).so=4)(hr:((look G bn).getD mz).rf=j)(hf:fs[j]? =some f):jh G fs=if f.ty≠1∨f.ps≠[] then .er 12 f.p else .ok ():=by
 unfold jh;cases hL:look G bn with
 |none=>rw [hL] at h;cases h
 |some m=>
  rw [hL] at h hr;simp only [Option.getD_some] at h hr;simp only;rw [if_neg (by simp [h]),hr,Int.toNat_natCast,hf]
def IW (X:CkX) (r:Ck Unit) (w:World) (e:Ending) (w':World):Prop:=
 ((r=.ok ()/\e=.returned (.tuple #[]))∨∃no p,r=.er no p/\e=.panicked [{v:=.iface tFt (.agg #[Iv no,Iv p]),recovered:=false}])/\Zw w w'
theorem yK {X:CkX}{S:CkS}{σ:Cs}{w:World}(h:CkV X S σ w){G:Scp}(KC:σ.sc=[G])(ut:∀p∈G,p.2.so=4->∃j:Nat,p.2.rf=j/\j<X.fl.length)(Bt:∀v∈S.vls,∃A n c,v=.slice A n c) :
  Calls prog 27 #[ckp X] w (IW X (jh G (X.fl.map (·.1))) w):=by
 obtain ⟨R,hR⟩:∃R:Ending->World->Prop,IW X (jh G (X.fl.map (·.1))) w=R:=⟨_,rfl⟩;rw [hR];have HR:=Hy hR;have eu:=h.chk.lt;obtain ⟨A3,n3,c3,Es⟩:∃A n c,S.scv=.slice A n c:=by
  obtain ⟨A3,c3,e⟩:=dL h.sco;exact ⟨A3,_,c3,e⟩
 have Ez:=h.c3;rw [Es] at Ez;have LF:Calls prog 59 #[.slice A3 n3 c3,Ss bn] w fun e w'=>e=.returned (.tuple #[mgV ((look G bn).getD mz),.bool (look G bn).isSome])/\Zw w w':=by
  have OT:=h.scs;have ai:=h.sco.1;have hl:=h.scl;rw [Es] at OT;have X6:σ.sc.length=n3:=by
   obtain ⟨A4,c4,e⟩:=dL h.sco;rw [Es] at e;simp only [Value.slice.injEq] at e;omega
  have hf:=rR OT X6 (by rw [<-X6,KC];simp) (x:=bn) (by decide)
  have e:fE σ.sc bn=look G bn:=by rw [KC];unfold fE;simp only [List.reverse_cons,List.reverse_nil,List.nil_append,List.findSome?_cons,List.findSome?_nil];cases look G bn <;> rfl
  rw [e] at hf;exact hf
 obtain ⟨⟨a1,a2,a3⟩,hM⟩:∃q,(look G bn).getD mz=q:=⟨_,rfl⟩;obtain ⟨bv,Oe⟩:∃q,(look G bn).isSome=q:=⟨_,rfl⟩;rw [hM,Oe] at LF;simp only [mgV] at LF;have HF:=Hy LF;have H:=Hy5 h KC ut Bt hM;clear h KC ut Bt hM Oe Es LF hR;go_enter func27,ntmps27;go_wp2_with fail;refine HF.mono ?_;clear HF;rintro e w1 ⟨rfl,av⟩;have iK:=Hy av;have DV:X.b<w1.heap.size:=zT eu av.size;have Qz:=Hy (H.1.on av);clear av Ez eu;go_wp2_with fail;refine (df _ _ _ _).mono ?_;rintro e v2 ⟨⟨hm,rfl⟩|⟨hm,rfl⟩,rfl⟩
 ·have HE:=Hy (show R (.panicked [{v:=.iface tFt (.agg #[Iv 12,Iv 0]),recovered:=false}]) (w1.alloc (.cells #[Iv a1,Iv a2,Iv a3] tMg)) by
   rw [<-HR.out];exact ⟨.inr ⟨12,0,z8 (by rw [H.2.2.2.2];simpa using hm),rfl⟩,iK.alloc iK.size _⟩)
  clear hm;go_wp2_with fail;exact aG rfl HE
 ·have h4:a1=4:=by simpa using hm
  subst h4;have HM:=Hy H.2.2.2.2;obtain ⟨j,hj,xP⟩:∃j:Nat,a2=j/\j<X.fl.length:=by
   cases hL:look G bn with
   |none=>have e:=HM.out;rw [hL] at e;cases e
   |some m=>
    have e:=HM.out;rw [hL] at e;obtain rfl:m=⟨4,a2,a3⟩:=e;obtain ⟨p,hp,T9⟩:=oq hL;obtain ⟨j,h1,h2⟩:=H.2.2.1 p hp (by rw [T9])
    rw [T9] at h1;exact ⟨j,h1,h2⟩
  subst hj;obtain ⟨⟨f,pv⟩,hx⟩:∃x,X.fl[j]? =some x:=⟨_,List.getElem?_eq_getElem xP⟩;obtain ⟨fv,JO⟩:∃v,S.vls[j]? =some v:=⟨_,List.getElem?_eq_getElem (by rw [Qz.vll];exact xP)⟩
  obtain ⟨vA,vn,vc,rfl⟩:=H.2.2.2.1 fv (zG JO);obtain ⟨pn,Da⟩:=zN f.ps.length;obtain ⟨pA,pc,Qc,Pb,-⟩:=qY (Qz.prm (f,pv) (zG hx)).1 rfl;simp only at Qc Pb;subst Qc;have qM:=Qz.alloc (.cells #[Iv 4,Iv j,Iv a3] tMg);have bT:=Blk.new w1 tMg #[Iv 4,Iv j,Iv a3];have aU:Zw w (w1.alloc (.cells #[Iv 4,Iv j,Iv a3] tMg)):=iK.alloc iK.size _;obtain ⟨H1,LP⟩:=zN w1.heap.size;rw [LP] at bT;generalize w1.alloc (.cells #[Iv 4,Iv j,Iv a3] tMg)=W2 at *;simp only [LP];have y0:Ce W2 X.fB (j * 6) (Ss f.s):=qM.eZ hx JO 0 (by omega)
  have y1:Ce W2 X.fB (j * 6+1) (Iv f.ty):=qM.eZ hx JO 1 (by omega)
  have y2:Ce W2 X.fB (j * 6+2) (.slice pA pn pc):=by rw [<-Da];exact qM.eZ hx JO 2 (by omega)
  have y3:Ce W2 X.fB (j * 6+3) (Iv (f.b:Nat)):=qM.eZ hx JO 3 (by omega)
  have y4:Ce W2 X.fB (j * 6+4) (Iv f.p):=qM.eZ hx JO 4 (by omega)
  have y5:Ce W2 X.fB (j * 6+5) (.slice vA vn vc):=qM.eZ hx JO 5 (by omega)
  have uo:=qM.sI;have UB:=qM.chk.lt;have c1:=qM.c1;have q1:Ce W2 H1 1 (Iv j):=bT.cell 1;have ql:=bT.lt;have hjI:(j:Int)<X.fl.length:=by omega
  have HX:=Hy3 hx Da aU;have J:Zw W2 W2:=zB _ _;clear qM bT aU LP hx JO Da hm DV Pb;go_upto_region 2 with (fail);go_cut [4] (fun v4 wx=>∃g4:Nat,v4=Pt g4/\Blk wx g4 tFu #[Ss f.s,Iv f.ty,.slice pA pn pc,Iv (f.b:Nat),Iv f.p,.slice vA vn vc]/\Zw W2 wx)
  case first=>
   go_region
   all_goals
    go_wp2_with fail;go_meet;exact ⟨_,rfl,Blk.new _ _ _,((zB _ _).alloc (zL _) _).drew⟩
  case rest=>
   obtain ⟨g4,rfl,FK,J4⟩:=hcut;have z1:Ce wc g4 1 (Iv f.ty):=FK.cell 1;have z2:Ce wc g4 2 (.slice pA pn pc):=FK.cell 2;have z4:Ce wc g4 4 (Iv f.p):=FK.cell 4;have zl:=FK.lt;have HJ:=Hy (HX.2.2.trans (J4.mono HX.2.2.size));have HMA:=Hy (Gj (G:=G) (fs:=X.fl.map (·.1)) (f:=f) (j:=j) (by rw [HM.out]) (by rw [HM.out]) (by rw [List.getElem?_map,HX.1];rfl))
   have HP0:=Hy (show f.ps=[]↔pn=0 by rw [<-HX.2.1];exact List.length_eq_zero_iff.symm)
   have HEr:Hid (f.ty≠1∨pn≠0->R (.panicked [{v:=.iface tFt (.agg #[Iv 12,Iv f.p]),recovered:=false}]) wc):=Hy fun hc=>by
    rw [<-HR.out];exact ⟨.inr ⟨12,f.p,by rw [HMA.out,if_pos (by rw [ne_eq f.ps,HP0.out];exact hc)],rfl⟩,HJ⟩
   have HOk:Hid (¬ (f.ty≠1∨pn≠0)->R (.returned (.tuple #[])) wc):=Hy fun hc=>by
    rw [<-HR.out];exact ⟨.inl ⟨by rw [HMA.out,if_neg (by rw [ne_eq f.ps,HP0.out];exact hc)],rfl⟩,HJ⟩
   clear FK J4 c1 q1 ql y0 y1 y2 y3 y4 y5 uo UB J hjI;by_cases h1:f.ty=1
   ·have d1:(f.ty != 1)=false:=by simp [h1]
    have H1':=Hy h1;clear h1;go_wp2_with fail;refine (df _ _ _ _).mono ?_;rintro e v2 ⟨⟨hm,rfl⟩|⟨hm,rfl⟩,rfl⟩
    ·have HE:=Hy (HEr (.inr (by have:=of_decide_eq_true hm;omega)))
     clear hm;go_wp2_with fail;exact aG rfl HE
    ·have HE:=Hy (HOk (by rw [H1'.out];have:=of_decide_eq_false hm;omega))
     clear hm;go_wp2_with fail;go_end0;exact HE
   ·have d1:(f.ty != 1)=true:=by simp [h1]
    have HE:=Hy (HEr (.inl h1));clear h1;go_wp2_with fail;refine (iH _ _ _).mono ?_;rintro e v2 ⟨rfl,rfl⟩;go_wp2_with fail;exact aG rfl HE
end
section
def Pk (L:List Nd) (x:Fo×Nat):Prop:=Hld L x.1 x.2/\∃h,L[idq x]? =some ⟨h,(kq x.1 x.2).map idq⟩
theorem KL (L:List Nd)(F:Fo):∀c,Hld L F c->∀y∈kq F c,Pk L y:=by
 induction F with
 |nil=>intro c _ y hy;cases hy
 |cons h k r _ ih=>
  intro c hh y hy;obtain ⟨h1,h2,h3⟩:=hh;rcases List.mem_cons.1 hy with rfl|hy
  ·exact ⟨h1,h,by rw [Eb];exact h2⟩
  ·exact ih _ h3 y hy
structure Wi (L:List Nd) (QC sb:List Bool) (c n:Nat) (D:List Nat) (Q R:List (Fo×Nat)):Prop where
 bf:Bf c n D Q R
 pk:∀x∈Q ++ R,Pk L x
 new:∀i,c<=i->i<c+n+1->i ∉ D ++ Q.map idq->sb[i]? =some false
 old:∀i,i<c∨c+n+1<=i->sb[i]? =QC[i]?
 ln:sb.length=QC.length
theorem Wi.start {L:List Nd}{QC:List Bool}{k:Fo}{c:Nat}(hp:Pk L (k,c))(hn:∀i,c<=i->i<c+k.size+1->QC[i]? =some false):Wi L QC QC c k.size [] [] [(k,c)]:=
 ⟨⟨by simp [rng]⟩,by simpa using hp,fun i h1 h2 _=>hn i h1 h2,fun _ _=>rfl,rfl⟩
theorem Wi.claim {L:List Nd}{QC sb:List Bool}{c n:Nat}{D:List Nat}{Q R:List (Fo×Nat)}{y:Fo×Nat}(h:Wi L QC sb c n D Q (y ::R)) :
  sb[idq y]? =some false/\Wi L QC (sb.set (idq y) true) c n D (Q ++ [y]) R:=by
 obtain ⟨⟨h1,h2,h3⟩,h4⟩:=h.bf.claim;refine ⟨h.new _ h2 h3 h1,h4,by simpa using h.pk,?_,?_,by simpa using h.ln⟩
 ·intro i hi1 Yi hi3;have aD:idq y≠i:=by
   intro e;exact hi3 (by rw [<-e];simp)
  rw [List.getElem?_set_ne aD];exact h.new i hi1 Yi (fun hm=>hi3 (by
   rcases List.mem_append.1 hm with hm|hm
   ·exact List.mem_append_left _ hm
   ·rw [List.map_append];exact List.mem_append_right _ (List.mem_append_left _ hm)))
 ·intro i hi;have aD:idq y≠i:=by omega
  rw [List.getElem?_set_ne aD];exact h.old i hi
theorem Wi.next {L:List Nd}{QC sb:List Bool}{c n:Nat}{D:List Nat}{x:Fo×Nat}{Q:List (Fo×Nat)}(h:Wi L QC sb c n D (x ::Q) []) :
  (∃h',L[idq x]? =some ⟨h',(kq x.1 x.2).map idq⟩)/\Wi L QC sb c n (D ++ [idq x]) Q (kq x.1 x.2):=by
 have hx:=h.pk x (by simp)
 refine ⟨hx.2,h.bf.next,?_,?_,h.old,h.ln⟩
 ·intro y hy;rcases List.mem_append.1 hy with hy|hy
  ·exact h.pk y (by simp [hy])
  ·exact KL L _ _ hx.1 y hy
 ·intro i h1 h2 h3;exact h.new i h1 h2 (by simpa using h3)
theorem Wi.done {L:List Nd}{QC sb:List Bool}{c n:Nat}{D:List Nat}(h:Wi L QC sb c n D [] []) :
  ((D.map fun k:Nat=>(k:Int)).mergeSort fun x y=>decide (x<=y))=(List.range' c (n+1)).map fun k:Nat=>(k:Int):=yl h.bf.all
theorem Wi.len {L:List Nd}{QC sb:List Bool}{c n:Nat}{D:List Nat}{Q R:List (Fo×Nat)}(h:Wi L QC sb c n D Q R):D.length+Q.length+R.length<=n+1:=h.bf.len
end
section
open Go Go.RowKit Go.Maps Go.Sort
structure WiV (X:CkX) (S:CkS) (σ:Cs) (w0:World) (c n:Nat) (D:List Nat) (Q R:List (Fo×Nat)) (sb:List Bool) (v:Value) (w:World):Prop where
 wi:Wi (X.ns.map CN.nd) S.sb sb c n D Q R
 row:w.ownsRow w0.heap.size aC 1 v (D.length+Q.length) (ints (bK (D ++ Q.map idq)))
 ck:CkV X {S with sb:=sb} σ w
 bl:Below X.B w0 w
 sz:w0.heap.size<=w.heap.size
def IV (X:CkX) (S:CkS) (σ:Cs) (w0:World) (c n:Nat) (e:Ending) (w':World):Prop:=
 ∃v sb,e=.returned v/\w'.ownsRow w0.heap.size aC 1 v (n+1) (ints (bK (List.range' c (n+1))))/\CkV X {S with sb:=sb} σ w'/\Below X.B w0 w'/\(∀i,i<c∨c+n+1<=i->sb[i]? =S.sb[i]?)/\sb.length=S.sb.length
theorem row_one {w:World}{B:Nat}(hB:B<=w.heap.size)(i:Int):(w.alloc (.cells #[Iv i] aC)).ownsRow B aC 1 (Sl w.heap.size 1 1) 1 (ints [i]):=
 ⟨rfl,.inr ⟨_,1,_,rfl,hB,Blk.new _ _ _,Nat.le_refl _,by decide,rfl,rfl⟩⟩
theorem WiV.on {X:CkX}{S:CkS}{σ:Cs}{w0 w w':World}{c n:Nat}{D:List Nat}{Q R:List (Fo×Nat)}{sb:List Bool}{v:Value}(h:WiV X S σ w0 c n D Q R sb v w)(hb:Below w.heap.size w w'):WiV X S σ w0 c n D Q R sb v w':=
 ⟨h.wi,ah (aj hb) h.row (by simp),h.ck.on hb,h.bl.trans (hb.mono h.ck.Ble),Nat.le_trans h.sz hb.size⟩
theorem WiV.next {X:CkX}{S:CkS}{σ:Cs}{w0 w:World}{c n:Nat}{D:List Nat}{x:Fo×Nat}{Q:List (Fo×Nat)}{sb:List Bool}{v:Value}(h:WiV X S σ w0 c n D (x ::Q) [] sb v w):WiV X S σ w0 c n (D ++ [idq x]) Q (kq x.1 x.2) sb v w:=
 ⟨h.wi.next.2,by have:=h.row;simpa [Nat.add_assoc,Nat.add_comm 1] using this,h.ck,h.bl,h.sz⟩
theorem WiV.step {X:CkX}{S:CkS}{σ:Cs}{w0 w w3 w4:World}{c n:Nat}{D:List Nat}{y:Fo×Nat}{Q R:List (Fo×Nat)}{sb:List Bool}{v v':Value}{o:Obj}(h:WiV X S σ w0 c n D Q (y ::R) sb v w)(hS:S.H<=w0.heap.size)(hX:X.B<=w0.heap.size)(XY:S.on=true->S.vls[S.fi]? =some (Sn))
  (Ac:CkV X {S with sb:=sb.set (idq y) true} σ w3) (lW:Below X.B w w3) (XP:w3.ownsRow w0.heap.size aC 1 v (D.length+Q.length) (ints (bK (D ++ Q.map idq))))
  (Va:(w3.alloc o).grownBy w4 v.ownBlock) (NJ:Below w0.heap.size w3 w4) (kZ:w4.ownsRow w0.heap.size aC 1 v' (D.length+Q.length+1) (ints (bK (D ++ Q.map idq)) ++ [Iv (idq y:Nat)])) (h3:w0.heap.size<=w3.heap.size) :
  WiV X S σ w0 c n D (Q ++ [y]) R (sb.set (idq y) true) v' w4:=by
 refine ⟨h.wi.claim.2,by simpa [ints,bK,Nat.add_assoc] using kZ,?_,h.bl.trans (lW.trans (NJ.mono hX)),by have:=Va.size;simp at this;omega⟩
 refine (Ac.alloc o).other Va (fun r e=>⟨ag (XP.alloc o) e,?_⟩) XY
 rcases XP.2 with ⟨e1,_⟩|⟨g,cap,cur,rfl,hbg,_⟩
 ·rw [e1] at e;cases e
 ·simp only [Value.ownBlock,Option.some.injEq] at e;exact Nat.le_trans hS (by omega)
theorem vX {X:CkX}{S:CkS}{σ:Cs}{w:World}(h:CkV X S σ w){k:Fo}{c:Nat}(hp:Pk (X.ns.map CN.nd) (k,c))(hn:∀i,c<=i->i<c+k.size+1->S.sb[i]? =some false)(XY:S.on=true->S.vls[S.fi]? =some (Sn))(sQ:k.size<=1000000)(r:Nat)(hr:c+k.size=r) :
  Calls prog 96 #[ckp X,Iv (r:Int)] w (IV X S σ w c k.size):=by
 obtain ⟨R,hR⟩:∃R:Ending->World->Prop,IV X S σ w c k.size=R:=⟨_,rfl⟩;rw [hR];have HR:=Hy hR;clear hR;have HS0:=Wi.start hp hn;obtain ⟨KC,Pp⟩:=HS0.claim;have VK:r<X.ns.length:=by
  obtain ⟨h',e⟩:=hp.2;have:=(zS.1 e).1;simp only [List.length_map,idq] at this;omega
 simp only [idq,hr] at KC Pp;have HC:=Hy (uk h VK KC);have H:=Hy3 h XY Pp;have HRr:=Hy hr;clear h XY hp hn HS0 KC Pp VK hr;go_enter func96,ntmps96;go_wp2_with fail;refine HC.mono ?_;clear HC;rintro e w1 ⟨rfl,AR,av,LZ⟩;have HV:=Hy (show WiV X S σ w c k.size [] [(k,c)] [] (S.sb.set r true) (Sl w1.heap.size 1 1) (w1.alloc (.cells #[Iv r] aC)) from
  ⟨by simpa using H.2.2,by have:=row_one (w:=w1) (B:=w.heap.size) LZ.size (r:Int);simpa [idq,bK,HRr.out] using this,AR.alloc _,av.alloc (Nat.le_trans H.1.Ble LZ.size) _,by have:=LZ.size;simp;omega⟩)
 clear AR av LZ;go_wp2_with fail;go_loopw [5,6] (fun v5 v6 wr=>∃(D:List Nat) (Q:List (Fo×Nat)) (sb:List Bool) (g cap m d:Nat),m=D.length+Q.length/\d=D.length/\v5=Sl g m cap/\v6=Iv d/\WiV X S σ w c k.size D Q [] sb v5 wr) (fun _ v _=>k.size+1 - (intOf v).toNat)
 case atStart=>exact ⟨[],[(k,c)],_,_,1,1,0,rfl,rfl,rfl,rfl,HV⟩
 case round=>
  obtain ⟨D,Q,sb,g,cap,m,d,hm,hd,rfl,rfl,hV⟩:=hrel;cases Q with
  |nil=>
   obtain rfl:m=d:=by simp at hm;omega
   have hDl:D.length=k.size+1:=by have:=hV.wi.bf.all.length_eq;simpa using this
   have Qf:m=k.size+1:=by omega
   have ai:wr.ownsRow w.heap.size aC 1 (Sl g m cap) m (ints (bK D)):=by
    have:=hV.row;simp only [List.length_nil,Nat.add_zero,List.map_nil,List.append_nil] at this;rw [<-hd] at this;exact this
   rcases ai.2 with ⟨e,_⟩|⟨g',cap',cur,e,mF,hb,h1,h2,h3,h4⟩
   ·cases e
   simp only [Value.slice.injEq,Option.some.injEq,Addr.mk.injEq,and_true,true_and] at e;obtain ⟨rfl,rfl⟩:=e;have sZ:(bK D).length=m:=by simp [bK];omega
   have hH:Holds (Value.int .i64) wr g 0 (bK D).toArray:=holds_of_blockI hb (by rw [sZ];simpa [ints] using h4)
   have kH:g<wr.heap.size:=(Array.getElem?_eq_some_iff.1 hb).1;have TI:=Tryz.slices_Sort_int g 0 cap (bK D) wr hH kH (by rw [sZ];omega)
   have OE:((bK D).mergeSort fun x y=>decide (x<=y)).length=(bK D).length:=List.length_mergeSort _
   have Rv:((bK D).mergeSort fun x y=>decide (x<=y))=bK (List.range' c (k.size+1)):=hV.wi.done
   rw [sZ] at TI;have Qu:=Hy11 hV ai mF hb h1 h2 h3 sZ OE Rv Qf;clear hV hm hd ai mF hb h1 h2 h3 h4 sZ OE Rv Qf hH;go_wp2_with fail;refine TI.mono ?_;rintro e w' ⟨rfl,nn,os,rfl⟩;have HF:Hid (R (.returned (Sl g m cap)) (grow (putRow (Value.int .i64) (Sort.ahead wr nn) g 0 ((bK D).mergeSort fun x y=>decide (x<=y)).toArray) os)):=Hy (by
    obtain ⟨hV,ai,mF,hb,h1,h2,h3,sZ,OE,Rv,Qf⟩:=Qu;have hg:=grownBy_sortedI (w:=wr) (g:=g) (n:=nn) (os:=os) ((bK D).mergeSort fun x y=>decide (x<=y)).toArray
    have LB:=ownsRow_sortedI (n:=nn) (os:=os) (ts:=(bK D).mergeSort fun x y=>decide (x<=y)) OE mF hb (by rw [sZ];exact h1) h2 h3
    rw [sZ] at LB;rw [<-HR.out];refine ⟨_,sb,rfl,?_,hV.ck.other hg (fun r e=>?_) H.2.1,hV.bl.grown hg (Nat.le_trans H.1.Ble hV.sz) (fun j e=>?_),hV.wi.old,hV.wi.ln⟩
    ·rw [<-Rv,<-Qf];exact LB
    ·cases e;exact ⟨⟨_,_,hb⟩,Nat.le_trans H.1.hB.2.2.2.2.2 mF⟩
    ·cases e;exact Nat.le_trans H.1.Ble mF)
   generalize (grow (putRow (Value.int .i64) (Sort.ahead wr nn) g 0 ((bK D).mergeSort fun x y=>decide (x<=y)).toArray) os)=W9 at *
   clear TI;go_wp2_with fail;exact HF
  |cons x Q=>
   have hlt:(d:Int)<m:=by simp at hm;omega
   obtain ⟨⟨h',LC⟩,hW⟩:=hV.wi.next;obtain ⟨y,hy,hyk⟩:∃y:CN,X.ns[idq x]? =some y/\y.kids=(kq x.1 x.2).map idq:=by
    rw [List.getElem?_map] at LC;cases hx:X.ns[idq x]? with
    |none=>rw [hx] at LC;cases LC
    |some y=>
     rw [hx] at LC;simp only [Option.map_some,Option.some.injEq,CN.nd,Nd.mk.injEq] at LC;exact ⟨y,rfl,LC.2⟩
   obtain ⟨kA,kc,JH,Ny⟩:=hV.ck.kids hy;have h5:=hV.ck.ai hy 5 (by omega)
   simp only [aA,List.getElem?_cons_succ,List.getElem?_cons_zero] at h5;rw [JH] at h5;have c2:=hV.ck.c2;have eu:=hV.ck.chk.lt;have mf:=hV.ck.aU;have kH:g<wr.heap.size:=(ag hV.row rfl).lt;have hc:=hV.row;rw [<-hm] at hc;have Vb:wr.cell? (Ad g d)=some (Iv (idq x)):=by
    rw [hc.cellAt d (by omega),hd]
    simp [ints,bK]
   have hidx:(idq x:Int)<X.ns.length:=by have:=(zS.1 hy).1;omega
   obtain ⟨kn,Ey⟩:=zN y.kids.length;rw [Ey] at h5;have Qu:=Hy8 hV hW hm hd hy hyk JH Ey;clear hV hW hc Ny JH hyk LC Ey;obtain ⟨ix,VS⟩:=zN (idq x);rw [VS] at h5 Vb hidx hy;have HIX:=Hy VS;clear VS hy hm hd;have hdk:d<k.size+1:=by
    have h1:=Qu.1.wi.len;have h2:=Qu.2.2.2.1;simp only [List.length_cons,List.length_nil] at h1;omega
   have hknb:kn<=1000001:=by
    have h1:=Qu.2.1.len;have h2:=Qu.2.2.2.2.2.2.2;rw [Qu.2.2.2.2.2.1] at h2;simp only [List.length_append,List.length_cons,List.length_nil,List.length_map] at h1 h2;omega
   go_upto_region 5 with (fail);go_quiet (fail);go_wp2_with fail;go_loopw [5,32] (fun v5 v32 wi=>∃(Q2 R2:List (Fo×Nat)) (sb2:List Bool) (g2 Rb m2 jj:Nat),v32=Iv jj/\v5=Sl g2 m2 Rb/\m2=d+1+Q2.length/\jj+R2.length=kn/\R2.map idq=y.kids.drop jj/\WiV X S σ w c k.size (D ++ [ix]) Q2 R2 sb2 v5 wi) (fun _ v _=>kn - (intOf v).toNat)
   case atStart=>
    obtain ⟨hV,hW,hm,hd,hy,hyk,JH,Ey⟩:=Qu;refine ⟨Q,kq x.1 x.2,sb,g,cap,m,0,rfl,rfl,by simp at hm;omega,by rw [<-Ey,hyk];simp,by rw [List.drop_zero,hyk],?_⟩
    rw [<-HIX.out];exact hV.next.on (below_drewN _ _ _)
   case round=>
    obtain ⟨Q2,R2,sb2,g2,Rb,m2,jj,rfl,rfl,GZ,WW,hRk,hI⟩:=hrel;cases R2 with
    |nil=>
     obtain rfl:jj=kn:=by simpa using WW
     have HI:=Hy2 hI GZ;clear hI GZ hRk;go_wp2_with fail;go_roundw
     case rel=>exact ⟨D ++ [ix],Q2,sb2,g2,Rb,m2,d+1,by have:=Qu.2.2.2.1;have:=HI.2;simp;omega,by have:=Qu.2.2.2.1;simp;omega,rfl,by go_num,HI.1⟩
     case measure=>simp [intOf];omega
    |cons z R3=>
     have hjk:(jj:Int)<kn:=by simp only [List.length_cons] at WW;omega
     have Zx:y.kids[jj]? =some (idq z):=by
      have e:=congrArg (fun l=>l[0]?) hRk
      simpa using e.symm
     obtain ⟨kA',kc',e1,Ny⟩:=hI.ck.kids Qu.2.2.2.2.1;rw [Qu.2.2.2.2.2.2.1] at e1;simp only [Value.slice.injEq] at e1;obtain ⟨e1,-,-⟩:=e1;rw [<-e1] at Ny;obtain ⟨gk,o,Un,Uq,hkc⟩:∃g o,kA=some (Ad g o)/\g<wr.heap.size/\wr.cell? (Ad g (o+jj))=some (Iv ((idq z:Nat):Int)):=by
      rcases Ny with h0|⟨g,o,e,hg,hc⟩
      ·rw [h0] at Zx;simp at Zx
      ·exact ⟨g,o,e,hg,hc jj _ Zx⟩
     obtain ⟨XN,hwn⟩:=hI.wi.claim;have Ox:idq z<X.ns.length:=by
      have h1:=(zS.1 XN).1;have h2:=hI.ck.sbl;simp only at h2;omega
     have HC:=Hy (uk hI.ck Ox XN);have JW:R3.map idq=y.kids.drop (jj+1):=by
      have e:=congrArg List.tail hRk
      simpa [List.tail_drop] using e
     have hm2l:m2<=1000001:=by
      have h1:=hI.wi.len;have h2:=Qu.2.2.2.1;simp only [List.length_append,List.length_cons,List.length_nil] at h1;omega
     have hjj2:jj+1+R3.length=kn:=by simp only [List.length_cons] at WW;omega
     have HI:=Hy3 hI GZ JW;obtain ⟨iz,hiz⟩:=zN (idq z);rw [hiz] at hkc HC Ox;have HIZ:=Hy hiz;subst Un;clear hI hRk Ny Zx XN hwn GZ JW hiz e1 WW;go_wp2_with fail;refine HC.mono ?_;clear HC;rintro e w3 ⟨rfl,Ac,lW,hg3⟩;obtain ⟨i0,hi,vQ,sI,ru⟩:=dU rD;have TS:w3.ownsRow w.heap.size aC 1 (Sl g2 m2 Rb) m2 (ints (bK ((D ++ [ix]) ++ Q2.map idq))):=by
      have O7:=HI.1.row;have hl:(D ++ [ix]).length+Q2.length=m2:=by have:=Qu.2.2.2.1;have:=HI.2.1;simp;omega
      rw [hl] at O7;refine ah hg3 O7 (fun r e1 e2=>?_)
      cases e1;exact au (ag O7 e2) (ag HI.1.ck.see rfl) (by decide) rfl
     have hB3:w.heap.size<=w3.heap.size:=Nat.le_trans HI.1.sz hg3.size;have Mw:=Hy4 Ac lW TS hB3;clear Ac lW hg3;go_wp2_with (at_builtin;refine zt aC 40 i0 _ 1 8 underlying40 hi vQ sI ru rfl (by omega) (by omega) w.heap.size w3 w3 w3.heap.size rfl _ m2 _ #[Iv iz] rfl (by simp [Value.oneCell']) _ _ rfl rfl rfl rfl TS (zB _ _) hB3 (by omega) ?_;intro v' w4 kZ NJ Va OW;obtain ⟨gv,cp,rfl⟩:=OW;have HG4:=Hy3 kZ NJ Va;clear kZ NJ Va TS)
     have Oi:=Hy (show WiV X S σ w c k.size (D ++ [ix]) (Q2 ++ [z]) R3 (sb2.set (idq z) true) (Sl gv (m2+1) cp) w4 by
      have hl:(D ++ [ix]).length+Q2.length=m2:=by have:=Qu.2.2.2.1;have:=HI.2.1;simp;omega
      refine HI.1.step H.1.hB.2.2.2.2.2 H.1.Ble H.2.1 (by rw [HIZ.out];exact Mw.1) Mw.2.1 (by rw [hl];exact Mw.2.2.1) HG4.2.2 HG4.2.1 (by rw [hl,HIZ.out];exact HG4.1) Mw.2.2.2)
     go_roundw
     case rel=>exact ⟨Q2 ++ [z],R3,_,gv,cp,m2+1,jj+1,by go_num,rfl,by have:=HI.2.1;simp;omega,hjj2,HI.2.2,Oi⟩
     case measure=>simp [intOf];omega
end
section
open Go Go.RowKit Go.Maps
section
variable {X:CkX} {S:CkS} {σ:Cs} {w w':World}
theorem CkV.label (h:CkV X S σ w)(on:S.on=true)(hg:w.grownBy w' (some S.lbB)){l:List (Nm'×Int)}(hl:LbV w' S.lbB l.length l):CkV X {S with lb:=l} σ w':=by
 have hk:=bM (h.lab on).2.1;have hr:∀{base sz n:Nat} {T:TypeId} {v:Value} {xs:List Value},w.ownsRow base T sz v n xs->∀r,some S.lbB=some r->v.ownBlock≠some r:=by
  intro base sz n T v xs h1 r hr e;cases hr;exact dG (ag h1 e) hk rfl
 exact {
  chk:=ak hg h.chk (fun e=>dG h.chk.kind hk (Option.some.inj e).symm)
  nod:=ah hg h.nod (hr h.nod)
  fP:=ah hg h.fP (hr h.fP)
  see:=ah hg h.see (hr h.see)
  trl:=h.trl
  vll:=h.vll
  fil:=h.fil
  var:=fun e=>let ⟨v,h1,h2⟩:=h.var e;⟨v,h1,ah hg h2 (hr h2)⟩
  sco:=ah hg h.sco (hr h.sco)
  scl:=h.scl
  dn:=fun j m s h1 h2=>⟨(h.dn j m s h1 h2).1,di hg (h.dn j m s h1 h2).2 (fun e=>h.jW on (by rw [Option.some.inj e];exact zG h1))⟩
  gX:=h.gX
  lab:=fun _=>⟨(h.lab on).1,hl,(h.lab on).2.2⟩
  jW:=h.jW
  gZ:=fun x hx=>az hg (h.gZ x hx) (hr (h.gZ x hx).1)
  old:=fun j v l h1 h2 h3=>az hg (h.old j v l h1 h2 h3) (hr (h.old j v l h1 h2 h3).1)
  prm:=fun x hx=>az hg (h.prm x hx) (hr (h.prm x hx).1)
  glb:=az hg h.glb (hr h.glb.1)
  hB:=⟨h.hB.1,h.hB.2.1,h.hB.2.2.1,h.hB.2.2.2.1,h.hB.2.2.2.2.1,Nat.le_trans h.hB.2.2.2.2.2 hg.size⟩}
theorem CkV.head (h:CkV X S σ w)(i:Nat)(v:Value)(S':CkS)(hc:((lD X S).setIfInBounds i v)=lD X S')(hS:S'.vls=S.vls/\S'.mps=S.mps/\S'.scv=S.scv/\S'.sb=S.sb/\S'.done=S.done)(hH:S.H<=S'.H)(hH2:S'.H<=w.heap.size)
  (VX:S'.on=true->S'.fi<X.fl.length/\S'.fpV=.pointer (some (Ad X.fB (S'.fi * 6)))) (RZ:S'.on=true->S.vls[S'.fi]? =some (Sn)/\σ.vs=[])
  (Di:S'.on=true->X.B<=S'.lbB/\LbV w S'.lbB S'.lb.length S'.lb/\S'.lmV=.map (some S'.lbB)) (hlabn:S'.on=true->S'.lbB ∉ S.mps)
  (hold:∀(j:Nat) (v:Value) (l:List Int),S.vls[j]? =some v->S.done[j]? =some l->j<S'.fi->lM w X.B S'.H aC 1 v l.length (ints l)):CkV X S' σ (w.setCell (Ad X.b i) v):=by
 obtain ⟨on',fp',lm',fi',H',JY,mps',scv',lbB',lb',sb',done'⟩:=S';obtain ⟨rfl,rfl,rfl,rfl,rfl⟩:=hS;have hk:Kind w X.b tCk:=h.chk.kind;have Cm:w.grownBy (w.setCell (Ad X.b i) v) (some X.b):=⟨rfl,rfl,rfl,by simp,fun k _ hk=>heap_setCell_other w (Ad X.b i) k v (fun e=>hk (by simp [e]))⟩
 have pY:∀{base sz n:Nat} {T:TypeId} {v:Value} {xs:List Value},w.ownsRow base T sz v n xs->T≠tCk->∀r,some X.b=some r->v.ownBlock≠some r:=by
  intro base sz n T v xs h1 hT r hr e;cases hr;exact au (ag h1 e) hk hT rfl
 have GZ:∀{m:Nat},jV w m->some X.b≠some m:=fun h1 e=>dG hk h1 (Option.some.inj e)
 exact {
  chk:=by
   have:=h.chk.af i v;rw [hc] at this;exact this
  nod:=ah Cm h.nod (pY h.nod (by decide))
  fP:=ah Cm h.fP (pY h.fP (by decide))
  see:=ah Cm h.see (pY h.see (by decide))
  trl:=h.trl
  vll:=h.vll
  fil:=VX
  var:=fun e=>⟨_,(RZ e).1,by rw [(RZ e).2];exact World.ownsRow_nil _ _ _ _⟩
  sco:=ah Cm h.sco (pY h.sco (by decide))
  scl:=h.scl
  dn:=fun j m s h1 h2=>⟨(h.dn j m s h1 h2).1,di Cm (h.dn j m s h1 h2).2 (GZ (bM (h.dn j m s h1 h2).2))⟩
  gX:=h.gX
  lab:=fun e=>⟨(Di e).1,di Cm (Di e).2.1 (GZ (bM (Di e).2.1)),(Di e).2.2⟩
  jW:=hlabn
  gZ:=fun x hx=>(az Cm (h.gZ x hx) (pY (h.gZ x hx).1 (by decide))).mono hH
  old:=fun j v l h1 h2 h3=>az Cm (hold j v l h1 h2 h3) (pY (hold j v l h1 h2 h3).1 (by decide))
  prm:=fun x hx=>(az Cm (h.prm x hx) (pY (h.prm x hx).1 (by decide))).mono hH
  glb:=(az Cm h.glb (pY h.glb.1 (by decide))).mono hH
  hB:=by have:=h.hB;simp at hH hH2 |-;omega}
end
end
section
open Go Go.RowKit Go.Maps
theorem KM (L:List Nd)(F:Fo):∀c,Hld L F c->∀j,j<F.size->L[c+j]? =(F.flat c)[j]?:=by
 induction F with
 |nil=>intro c _ j hj;simp [Fo.size] at hj
 |cons h k r ih1 ih2=>
  intro c hh j hj;obtain ⟨h1,h2,h3⟩:=hh;simp only [Fo.flat];by_cases hjk:j<k.size
  ·rw [List.getElem?_append_left (by rw [Fo.aD];exact hjk)]
   exact ih1 c h1 j hjk
  ·rw [List.getElem?_append_right (by rw [Fo.aD];omega),Fo.aD]
   by_cases hjk2:j=k.size
   ·subst hjk2
    simpa using h2
   ·obtain ⟨m,rfl⟩:∃m,j=k.size+1+m:=⟨j - (k.size+1),by omega⟩
    have e:k.size+1+m - k.size=m+1:=by omega
    rw [e,List.getElem?_cons_succ,<-ih2 _ h3 m (by simp only [Fo.size] at hj;omega)]
    congr 1
    omega
theorem pR {α:Type}(l:List (Nm'×α))(x:Nm'):(look l x).isSome=decide (x∈l.map (·.1)):=by
 induction l with
 |nil=>rfl
 |cons p l ih=>
  unfold look at ih |-;rw [List.find?_cons];by_cases hp:p.1=x
  ·simp [hp]
  ·have hp':¬ x=p.1:=fun e=>hp e.symm
   rw [show decide (p.1=x)=false by simp [hp]]
   simp only [List.map_cons,List.mem_cons,hp',false_or];exact ih
theorem D9 (n:Nd)(r:List Nd)(l:List Nm'):jd (n ::r) l=if n.h.op=18 then (if n.h.s∈l then .er 5 n.h.p else jd r (l ++ [n.h.s])) else jd r l:=rfl
def MZ (X:CkX) (S:CkS) (σ:Cs) (w0:World) (c n:Nat) (r:Ck (List Nm')) (e:Ending) (w':World):Prop:=
 (∃lb S',r=.ok lb/\e=.returned (.tuple #[])/\CkV X S' σ w'/\Below X.B w0 w'/\S'.on=true/\(∀s,(look S'.lb s).isSome=decide (s∈lb))/\S'.fi=S.fi/\S'.vls=S.vls/\S'.mps=S.mps/\S'.scv=S.scv/\S'.done=S.done/\S'.sb.length=S.sb.length/\(∀i,i<c∨c+n+1<=i->S'.sb[i]? =S.sb[i]?))∨
 (∃no p,r=.er no p/\e=.panicked [{v:=.iface tFt (.agg #[Iv no,Iv p]),recovered:=false}]/\Below X.B w0 w')
theorem rT {X:CkX}{S:CkS}{σ:Cs}{w:World}(h:CkV X S σ w){h0:Hd}{k:Fo}{c:Nat}(hh:Hld (X.ns.map CN.nd) (.cons h0 k .nil) c)(hn:∀i,c<=i->i<c+k.size+1->S.sb[i]? =some false)
  {f:Fn'} {pv:Value} (hf:X.fl[S.fi]? =some (f,pv)) (ZC:S.fpV=.pointer (some (Ad X.fB (S.fi * 6)))) (Nz:f.b=c+k.size) (hv:S.vls[S.fi]? =some (Sn)) (Gv:σ.vs=[]) (sQ:k.size<=1000000) (Eo:∀x∈X.ns,x.h.s.length<=1000000) :
  Calls prog 54 #[ckp X] w (MZ X S σ w c k.size (jd (Fo.flat c (.cons h0 k .nil)) [])):=by
 obtain ⟨R,hR⟩:∃R:Ending->World->Prop,MZ X S σ w c k.size (jd (Fo.flat c (.cons h0 k .nil)) [])=R:=⟨_,rfl⟩;rw [hR];have HR:=Hy hR;have GA:=@run_makeMap prog;have hp:Pk (X.ns.map CN.nd) (k,c):=⟨hh.1,h0,by simp only [idq];rw [Eb];exact hh.2.1⟩
 have eu:=h.chk.lt;have VZ:=h.chk.frozen 6;have c6w:=h.c6;have VX:=(zS.1 hf).1;obtain ⟨S1,Pp⟩:∃S1:CkS,S1={S with on:=true,lmV:=.map (some w.heap.size),lbB:=w.heap.size,lb:=[],H:=w.heap.size+1}:=⟨_,rfl⟩;have AR:CkV X S1 σ ((w.alloc (.map #[] 0)).setCell (Ad X.b 6) (.map (some w.heap.size))):=by
  have h1:=h.alloc (.map #[] 0);have Qh:LbV (w.alloc (.map #[] 0)) w.heap.size 0 []:=Mpv.made w;have qK:=h.hB;rw [Pp];exact h1.head 6 _ _ rfl ⟨rfl,rfl,rfl,rfl,rfl⟩ (by simp;omega) (by simp) (fun _=>⟨VX,ZC⟩) (fun _=>⟨hv,Gv⟩) (fun _=>⟨h.Ble,Qh,rfl⟩) (fun _ hm=>absurd (h.fresh _ hm) (Nat.lt_irrefl _)) (fun j v l a b d=>(h1.old j v l a b d).mono (by simp;omega))
 have Yw:Below X.B w ((w.alloc (.map #[] 0)).setCell (Ad X.b 6) (.map (some w.heap.size))):=((zB _ _).alloc h.Ble _).setCell (p:=Ad X.b 6) h.hB.1 _;rw [World.setCell_alloc_past _ _ _ _ eu] at AR Yw;obtain ⟨n1,KQ⟩:=zN (k.size+1);obtain ⟨fl,uo⟩:=zN (Fo.flat c (.cons h0 k .nil));have hfll:fl.length=n1:=by rw [<-uo,Fo.aD];simp only [Fo.size];omega
 have PL:∀j,j<n1->∃x:CN,X.ns[c+j]? =some x/\fl[j]? =some x.nd:=by
  intro j hj;have e:=KM _ _ c hh j (by simp only [Fo.size];omega)
  rw [uo,List.getElem?_map,List.getElem?_eq_getElem (by omega:j<fl.length)] at e
  cases hx:X.ns[c+j]? with
  |none=>rw [hx] at e;cases e
  |some x=>rw [hx] at e;exact ⟨x,rfl,by rw [List.getElem?_eq_getElem (by omega:j<fl.length),<-e];rfl⟩
 have PU:S1.vls[S1.fi]? =some (Sn):=by rw [Pp];exact hv
 have hW:=vX AR hp (by rw [Pp];exact hn) (fun _=>PU) sQ f.b Nz.symm
 have y3:=AR.eZ (by rw [Pp];exact hf) PU 3 (by omega)
 have c5:=AR.c5;have XN:S1.fi=S.fi/\S1.fpV=.pointer (some (Ad X.fB (S.fi * 6))):=by rw [Pp];exact ⟨rfl,ZC⟩
 rw [XN.1] at y3;rw [XN.2] at c5;simp only [fnC,List.getElem?_cons_succ,List.getElem?_cons_zero] at y3;have hfbl:=AR.sI;have DV:=AR.chk.lt;have Lv:=Hy Pp;have HA:=Hy7 PL hfll uo KQ Eo Yw PU;have HW:=Hy hW;clear hR hp AR Pp hh hn PL hfll uo KQ Eo Yw PU hW XN hf ZC Nz hv Gv VX;go_enter func54,ntmps54;go_upto_region 1 with (fail);generalize (w.setCell (Ad X.b 6) (.map (some w.heap.size))).alloc (.map #[] 0)=W1 at *;go_wp2_with fail;refine HW.mono ?_;clear HW;rintro e w2 ⟨v,sb,rfl,ai,qM,aU,hold,uM⟩;rw [HA.2.2.2.1] at ai;obtain ⟨g,cap,rfl⟩:∃g cap,v=Sl g n1 cap:=by
  rcases ai.2 with ⟨-,e⟩|⟨g,cap,cur,e,_⟩
  ·have:=HA.2.2.2.1;omega
  ·exact ⟨g,cap,e⟩
 have HB:=Hy5 qM aU hold uM ai;have hn1I:n1<=1000001:=by have:=HA.2.2.2.1;omega
 clear qM aU hold uM ai GA VZ c6w c5 y3 hfbl DV eu;go_wp2_with fail;go_loopw [21] (fun v21 wr=>∃(j:Nat) (lb:List Nm') (Ta:List (Nm'×Int)),v21=Iv j/\j<=n1/\jd fl []=jd (fl.drop j) lb/\Ta.map (·.1)=lb.reverse/\Ta.length<=j/\CkV X {S1 with sb:=sb,lb:=Ta} σ wr/\Below X.B w wr/\wr.ownsRow W1.heap.size aC 1 (Sl g n1 cap) n1 (ints (bK (List.range' c n1)))) (fun v _=>n1 - (intOf v).toNat)
 case atStart=>
  have e:{S1 with sb:=sb,lb:=[]}={S1 with sb:=sb}:=by rw [Lv.out]
  exact ⟨0,[],[],rfl,by omega,by simp,rfl,Nat.le_refl _,by rw [e];exact HB.1,HA.2.2.2.2.2.1.trans HB.2.1,HB.2.2.2.2⟩
 case round=>
  obtain ⟨j,lb,Ta,rfl,hj,QE,Rq,Uj,hC,bW,Rn⟩:=hrel;by_cases hlt:j<n1
  ·obtain ⟨x,hx,VB⟩:=HA.1 j hlt;have hdr:fl.drop j=x.nd ::fl.drop (j+1):=by
    rw [List.drop_eq_getElem_cons (by rw [HA.2.1];exact hlt)]
    congr 1
    exact (zS.1 VB).2
   rw [hdr,D9] at QE;obtain ⟨kA,kc,JH,-⟩:=hC.kids hx;obtain ⟨kn,Ey⟩:=zN x.kids.length;rw [Ey] at JH;have hnmx:=HA.2.2.2.2.1 x (zG hx);have kH:g<wr.heap.size:=(ag Rn rfl).lt;have Yr:wr.cell? (Ad g j)=some (Iv ((c+j:Nat):Int)):=by
    rw [Rn.cellAt j (by omega)]
    simp [ints,bK,hlt]
   obtain ⟨q,hq⟩:=zN (c+j);rw [hq] at hx Yr;have hqI:(q:Int)<X.ns.length:=by have:=(zS.1 hx).1;omega
   obtain ⟨⟨t1,t2⟩,ht⟩:∃t,σ.tr.getD q (0,0)=t:=⟨_,rfl⟩;have y0:=hC.ai hx 0 (by omega)
   have y1:=hC.ai hx 1 (by omega)
   have y2:=hC.ai hx 2 (by omega)
   have y3:=hC.ai hx 3 (by omega)
   have y4:=hC.ai hx 4 (by omega)
   have y5:=hC.ai hx 5 (by omega)
   have y6:=hC.ai hx 6 (by omega)
   have y7:=hC.ai hx 7 (by omega)
   rw [ht] at y0 y1 y2 y3 y4 y5 y6 y7;simp only [aA,List.getElem?_cons_succ,List.getElem?_cons_zero,Nat.add_zero] at y0 y1 y2 y3 y4 y5 y6 y7;rw [JH] at y5;have c2:=hC.c2;have mf:=hC.aU;have eu:=hC.chk.lt;have NZ:(j:Int)<n1:=by omega
   have HG:=Hy8 QE hC bW Rn hx Rq hq VB;clear QE hC bW Rn hx VB JH Ey ht hdr Rq hq;go_upto_region 5 with (fail);have OY:Below wr.heap.size wr (wr.alloc (.cells #[Iv x.h.op,Iv x.h.p,Iv x.h.n,Ss x.h.s,Iv x.h.to,.slice kA kn kc,Iv t1,Iv t2] tNd)):=(zB _ _).alloc (zL _) _;have bT:=Blk.new wr tNd #[Iv x.h.op,Iv x.h.p,Iv x.h.n,Ss x.h.s,Iv x.h.to,.slice kA kn kc,Iv t1,Iv t2];obtain ⟨H1,LP⟩:=zN wr.heap.size;have Pw:=Hy3 (HG.2.1.on OY) (HG.2.2.1.trans (OY.mono HG.2.1.Ble)) (ah (aj OY) HG.2.2.2.1 (by simp))
   rw [LP] at bT;generalize hW4:wr.alloc (.cells #[Iv x.h.op,Iv x.h.p,Iv x.h.n,Ss x.h.s,Iv x.h.to,.slice kA kn kc,Iv t1,Iv t2] tNd)=W4 at *;simp only [LP];have q0:W4.cell? (Ad H1 0)=some (Iv x.h.op):=bT.cell 0;have q1:W4.cell? (Ad H1 1)=some (Iv x.h.p):=bT.cell 1;have q3:W4.cell? (Ad H1 3)=some (Ss x.h.s):=bT.cell 3;have ql:=bT.lt;have hbl4:=Pw.1.chk.lt;obtain ⟨lB,hlB⟩:=zN S1.lbB;have on1:S1.on=true:=by rw [Lv.out]
   have c6:=Pw.1.c6;rw [(Pw.1.lab on1).2.2] at c6;simp only [hlB] at c6;have Y8:=Hy2 hlB on1;clear OY bT LP hW4 y0 y1 y2 y3 y4 y5 y6 y7 Yr kH c2 mf eu hqI hlB on1;by_cases ho:x.h.op=18
   ·have d1:(x.h.op != 18)=false:=by simp [ho]
    obtain ⟨bb,DW⟩:=zN (decide (x.h.s∈lb));obtain ⟨n0,Pf⟩:∃n,(look Ta x.h.s).getD 0=n:=⟨_,rfl⟩;have Lh:x.h.s.length<=maxLen:=by unfold maxLen;omega
    have Oa:(Instr.lookup tLm (.map (some lB)) (Ss x.h.s) true).run prog W4.drew=.ok (.tuple #[Iv n0,.bool bb]) W4.drew:=by
     have h9:(Instr.lookup tLm (.map (some S1.lbB)) (Ss x.h.s) true).run prog W4.drew=.ok (.tuple #[Iv ((look Ta x.h.s).getD 0),.bool (look Ta x.h.s).isSome]) W4.drew:=(Pw.1.drew.lab Y8.2).2.1.get Lh;rw [pR,HG.2.2.2.2.2.1,Pf,Y8.1] at h9;rw [<-DW]
     simpa using h9
    have QO:=Hy3 DW ho Lh;clear DW Pf ho Lh;go_upto_region 6 with (fail);go_region;go_wp2_with fail;refine (df _ _ _ _).mono ?_;rintro e v2 ⟨⟨hm,rfl⟩|⟨hm,rfl⟩,rfl⟩
    ·have HE:=Hy (show R (.panicked [{v:=.iface tFt (.agg #[Iv 5,Iv x.h.p]),recovered:=false}]) W4.drew by
      rw [<-HR.out,HA.2.2.1];refine .inr ⟨5,x.h.p,?_,rfl,Pw.2.1.drew⟩;rw [HG.1,show x.nd.h=x.h from rfl,if_pos QO.2.1,if_pos (of_decide_eq_true (QO.1.trans hm))])
     clear hm;go_wp2_with fail;exact aG rfl HE
    ·obtain ⟨w6,QR,hl6,VW⟩:=LbV.put (Pw.1.drew.drew.lab Y8.2).2.1 (by unfold maxLen;simp only;omega) QO.2.2 (q:Int)
     simp only [Y8.1] at QR;have Oi:=Hy (show jd fl []=jd (fl.drop (j+1)) (lb ++ [x.h.s])/\((x.h.s,(q:Int)) ::Ta).map (·.1)=(lb ++ [x.h.s]).reverse/\((x.h.s,(q:Int)) ::Ta).length<=j+1/\CkV X {S1 with sb:=sb,lb:=(x.h.s,(q:Int)) ::Ta} σ w6/\Below X.B w w6/\w6.ownsRow W1.heap.size aC 1 (Sl g n1 cap) n1 (ints (bK (List.range' c n1))) by
      have BP:=bM (Pw.1.drew.drew.lab Y8.2).2.1;refine ⟨?_,by rw [List.map_cons,HG.2.2.2.2.2.1];simp,by simp;omega,Pw.1.drew.drew.label Y8.2 VW hl6,Pw.2.1.drew.drew.grown VW Pw.1.drew.drew.Ble (fun r e=>?_),ah VW (Pw.2.2.drew.drew) (fun r e e2=>?_)⟩
      ·rw [HG.1,show x.nd.h=x.h from rfl,if_pos QO.2.1,if_neg (of_decide_eq_false (QO.1.trans hm))]
      ·cases e;exact (Pw.1.drew.drew.lab Y8.2).1
      ·cases e;exact dG (ag (Pw.2.2.drew.drew) e2) BP rfl)
     clear hm hl6 VW;go_upto_region 8 with (fail);go_region;go_wp2_with fail;go_roundw
     case rel=>exact ⟨j+1,_,_,by go_num,by omega,Oi.1,Oi.2.1,Oi.2.2.1,Oi.2.2.2.1,Oi.2.2.2.2.1,Oi.2.2.2.2.2⟩
     case measure=>simp [intOf];omega
   ·have d1:(x.h.op != 18)=true:=by simp [ho]
    have Oi:=Hy (show jd fl []=jd (fl.drop (j+1)) lb by rw [HG.1,show x.nd.h=x.h from rfl,if_neg ho])
    clear ho;go_wp2_with fail;go_roundw
    case rel=>exact ⟨j+1,lb,Ta,by go_num,by omega,Oi,HG.2.2.2.2.2.1,by omega,Pw.1,Pw.2.1,Pw.2.2⟩
    case measure=>simp [intOf];omega
  ·obtain rfl:j=n1:=by omega
   have hdr:fl.drop j=[]:=List.drop_eq_nil_of_le (by rw [HA.2.1];exact zL _)
   rw [hdr] at QE;have HG:=Hy4 QE hC bW Rq;clear QE hC bW hdr Rq Rn;go_wp2_with fail;go_end0;rw [<-HR.out,HA.2.2.1];refine .inl ⟨lb,{S1 with sb:=sb,lb:=Ta},HG.1,rfl,HG.2.1,HG.2.2.1,by rw [Lv.out],fun s=>?_,by rw [Lv.out],by rw [Lv.out],by rw [Lv.out],by rw [Lv.out],by rw [Lv.out],?_,?_⟩
   ·rw [pR,HG.2.2.2];simp
   ·rw [HB.2.2.2.1,Lv.out]
   ·intro i hi;rw [<-show S1.sb[i]? =S.sb[i]? by rw [Lv.out]]
    exact HB.2.2.1 i hi
end
section
open Go Go.RowKit Go.Maps
theorem BV (l:List Scp)(x:Nm')(m:Mg):(decl l x m).dropLast=l.dropLast:=by unfold decl;simp
theorem Be {K:Kn}{h:Hd}{ks:List Nat}{i:Nat}{σ τ:Cs}(e:eB K h ks i σ=.ok τ):τ.sc.dropLast=σ.sc.dropLast:=by
 unfold eB at e;split at e
 ·rw [(ui e).1]
 unfold dh at e;split at e
 ·obtain ⟨_,-,e⟩:=aa e;obtain ⟨_,-,e⟩:=aa e;obtain ⟨_,-,e⟩:=aa e;cases e;exact BV _ _ _
 split at e
 ·obtain ⟨m,-,e⟩:=aa e;obtain ⟨_,-,e⟩:=aa e;cases e;rfl
 split at e
 ·obtain ⟨m,-,e⟩:=aa e;obtain ⟨_,-,e⟩:=aa e;cases e;rfl
 split at e
 ·obtain ⟨m,-,e⟩:=aa e;cases e;rfl
 split at e
 ·obtain ⟨m,-,e⟩:=aa e;cases e;rfl
 split at e
 ·obtain ⟨m,-,e⟩:=aa e;obtain ⟨_,-,e⟩:=aa e;cases e;rfl
 split at e
 ·obtain ⟨m,-,e⟩:=aa e;cases e;rfl
 ·cases e;rfl
theorem Cr (K:Kn)(F:Fo):∀(c:Nat) (σ τ:Cs),dF K F c σ=.ok τ->τ.sc.dropLast=σ.sc.dropLast:=by
 induction F with
 |nil=>intro c σ τ e;simp only [dF] at e;cases e;rfl
 |cons h k r ih1 ih2=>
  intro c σ τ e;simp only [dF] at e;obtain ⟨ρ,e1,e⟩:=aa e;rw [ih2 _ _ _ e];split at e1
  ·obtain ⟨ρ',e3,e2⟩:=aa e1;cases e2;have h3:=ih1 _ _ _ e3;simp only [List.dropLast_concat] at h3;simp only [h3]
  ·obtain ⟨ρ',e1,e2⟩:=aa e1;rw [Be e2];exact ih1 _ _ _ e1
theorem CkV.off {X:CkX}{S:CkS}{σ:Cs}{w:World}(h:CkV X S σ w)(on:S.on=true)(hd:S.done.length=S.fi):CkV X {S with on:=false,fi:=S.fi+1,done:=S.done ++ [σ.vs],H:=w.heap.size} {σ with vs:=[]} w:=by
 have hH:S.H<=w.heap.size:=h.hB.2.2.2.2.2;exact {
  chk:=h.chk
  nod:=h.nod
  fP:=h.fP
  see:=h.see
  trl:=h.trl
  vll:=h.vll
  fil:=fun e=>by cases e
  var:=fun e=>by cases e
  sco:=h.sco
  scl:=h.scl
  dn:=h.dn
  gX:=h.gX
  lab:=fun e=>by cases e
  jW:=fun e=>by cases e
  gZ:=fun x hx=>(h.gZ x hx).mono hH
  old:=fun j v l h1 h2 h3=>by
   simp only at h1 h2 h3;by_cases hj:j<S.fi
   ·rw [List.getElem?_append_left (by omega)] at h2
    exact (h.old j v l h1 h2 hj).mono hH
   ·obtain rfl:j=S.fi:=by omega
    rw [List.getElem?_append_right (by omega),hd,Nat.sub_self,List.getElem?_cons_zero] at h2
    obtain rfl:σ.vs=l:=Option.some.inj h2;obtain ⟨v',Py,hr⟩:=h.var on;rw [h1] at Py;obtain rfl:v=v':=Option.some.inj Py;refine ⟨⟨hr.1,hr.2.imp id ?_⟩,fun g hg=>(ag hr hg).lt⟩
    rintro ⟨g,cap,cur,e,h5,h6⟩;exact ⟨g,cap,cur,e,Nat.le_trans h.hB.2.2.2.2.1 h5,h6⟩
  prm:=fun x hx=>(h.prm x hx).mono hH
  glb:=h.glb.mono hH
  hB:=⟨h.hB.1,h.hB.2.1,h.hB.2.2.1,h.hB.2.2.2.1,Nat.le_trans h.hB.2.2.2.2.1 hH,Nat.le_refl _⟩}
def M9 (X:CkX) (S:CkS) (G:Scp) (r:Ck (List (Int×Int)×List Int)) (w0:World) (c n:Nat) (e:Ending) (w':World):Prop:=
 (∃tr vs S',r=.ok (tr,vs)/\e=.returned (.tuple #[])/\CkV X S' ⟨tr,[G],[]⟩ w'/\Below X.B w0 w'/\S'.on=false/\S'.fi=S.fi+1/\S'.done=S.done ++ [vs]/\(∀j,j≠S.fi->S'.vls[j]? =S.vls[j]?)/\S'.sb.length=S.sb.length/\(∀i,i<c∨c+n+1<=i->S'.sb[i]? =S.sb[i]?))∨
 (∃no p,r=.er no p/\e=.panicked [{v:=.iface tFt (.agg #[Iv no,Iv p]),recovered:=false}]/\Below X.B w0 w')
theorem Dy (p:Pm)(l:List Pm)(vs:List Int)(s:Scp):lK (p ::l) vs s=lK l (vs ++ [p.ty]) ((p.s,⟨1,vs.length,p.ty⟩) ::s):=rfl
theorem EM {X:CkX}{S:CkS}{σ:Cs}{w:World}(h:CkV X S σ w)(off:S.on=false)(PH:S.done.length=S.fi){G:Scp}(hsc:σ.sc=[G])(Gv:σ.vs=[]){h0:Hd}{k:Fo}{c:Nat}(hh:Hld (X.ns.map CN.nd) (.cons h0 k .nil) c)(hn:∀i,c<=i->i<c+k.size+1->S.sb[i]? =some false)
  {f:Fn'} {pv:Value} (hf:X.fl[S.fi]? =some (f,pv)) (Nz:f.b=c+k.size) (hv:S.vls[S.fi]? =some (Sn)) (sQ:k.size<=50000) (Eo:∀x∈X.ns,x.h.s.length<=1000000) (htr:TrW k) (hGl:G.length<=1000000) (hGf:∀p∈G,p.2.so=4->∃j:Nat,p.2.rf=j/\j<X.fl.length)
  (TW:f.ps.length<=8) (Da:∀p∈f.ps,p.s.length<=1000000) :
  Calls prog 26 #[ckp X,.pointer (some (Ad X.fB (S.fi * 6)))] w (M9 X S G (jT (X.fl.map fun f=>f.1.ps.length) G f h0 k c σ.tr) w c k.size):=by
 obtain ⟨R,hR⟩:∃R:Ending->World->Prop,M9 X S G (jT (X.fl.map fun f=>f.1.ps.length) G f h0 k c σ.tr) w c k.size=R:=⟨_,rfl⟩
 rw [hR];have HR:=Hy hR;have eu:=h.chk.lt;have hf5:=h.chk.frozen 5;have c5w:=h.c5;obtain ⟨i,hi⟩:=zN S.fi;rw [hi] at hf hv |-;have h1:CkV X {S with fpV:=.pointer (some (Ad X.fB (i * 6)))} σ (w.setCell (Ad X.b 5) (.pointer (some (Ad X.fB (i * 6))))):=
  h.head 5 _ _ rfl ⟨rfl,rfl,rfl,rfl,rfl⟩ (zL _) h.hB.2.2.2.2.2 (fun e=>by rw [off] at e;cases e) (fun e=>by rw [off] at e;cases e) (fun e=>by rw [off] at e;cases e) (fun e=>by rw [off] at e;cases e) h.old
 have av:Below X.B w (w.setCell (Ad X.b 5) (.pointer (some (Ad X.fB (i * 6))))):=(zB _ _).setCell (p:=Ad X.b 5) h.hB.1 _;have HFL:=Hy (rT h1 hh hn (by simpa [hi] using hf) (by simp [hi]) Nz (by simpa [hi] using hv) Gv (by omega) Eo)
 have H:=Hy16 h off PH hsc Gv hh hf Nz hv Eo htr hGl hGf Da av hi;obtain ⟨pn,F9⟩:=zN f.ps.length;have Wt:=Hy F9;rw [F9] at TW;clear hR h1 h off PH hsc Gv hh hn hf Nz hv Eo htr hGl hGf Da av F9 hi;go_enter func26,ntmps26;go_upto_region 1 with (fail);generalize w.setCell (Ad X.b 5) (.pointer (some (Ad X.fB (i * 6))))=W1 at *;clear eu hf5 c5w;go_wp2_with fail;refine HFL.mono ?_;clear HFL;rintro e w2 (⟨lb,S2,Ob,rfl,qM,aU,on2,Oa,Qn,Rk,-,-,Ux,VJ,VH⟩|⟨no,p,Ob,rfl,aU⟩)
 ·have Uu:=qM.sI;have UB:=qM.chk.lt;have HL:=Hy10 Ob qM aU on2 Oa Qn Rk Ux VJ VH;have HOp:=Hy (wV qM (by rw [H.2.2.2.1];simp))
  clear Ob qM aU on2 Oa Qn Rk Ux VJ VH;go_wp2_with fail;refine HOp.mono ?_;clear HOp;rintro e w3 ⟨rfl,v3,m3,Ac,lW⟩;obtain ⟨pA,pc,Qc,Pb,Ie⟩:=qY (Ac.prm (f,pv) (zG H.2.2.2.2.2.2.1)).1 rfl;simp only at Qc Pb Ie;rw [Wt.out] at Qc Pb;have XJ:(S2.push v3 m3).vls[i]? =some (Sn):=by
   have:=H.2.2.2.2.2.2.2.2.1;rw [<-this];exact congrArg (fun l=>l[i]?) HL.2.2.2.2.2.2.1
  have y2:=Ac.eZ H.2.2.2.2.2.2.1 XJ 2 (by omega)
  simp only [fnC,List.getElem?_cons_succ,List.getElem?_cons_zero] at y2;rw [Qc] at y2;have hfl3:=Ac.sI;have Mw:=Hy5 Ac lW Pb Qc XJ;have LJ:({σ with sc:=σ.sc ++ [[]]}:Cs)=⟨σ.tr,[G,[]],[]⟩:=by
   have e1:=H.2.2.2.1;have e2:=H.2.2.2.2.1;cases σ;simp only at e1 e2;subst e1 e2
   rfl
  have Ms:=Hy LJ;clear Ac lW Pb Qc Ie XJ LJ Uu UB;go_wp2_with fail;go_loopw [21] (fun v21 wr=>∃(j:Nat) (s:Scp) (vs:List Int) (S4:CkS),v21=Iv j/\j<=pn/\lK f.ps [] []=lK (f.ps.drop j) vs s/\vs=(f.ps.take j).map (fun p=>p.ty)/\s.length<=j/\Sx (S2.push v3 m3) S4/\CkV X S4 ⟨σ.tr,[G,s],vs⟩ wr/\Below X.B w wr/\(∀p∈s,p.2.so=1)) (fun v _=>pn - (intOf v).toNat)
  case atStart=>exact ⟨0,[],[],_,rfl,by omega,by simp,by simp,Nat.le_refl _,Sx.refl _,by rw [<-Ms.out];exact Mw.1,(H.2.2.2.2.2.2.2.2.2.2.2.2.2.2.1.trans HL.2.2.1).trans Mw.2.1,by intro p hp;cases hp⟩
  case round=>
   obtain ⟨j,s,vs,S4,rfl,hj,Nq,Gv,Lh,O5,hC,bW,PY⟩:=hrel;have XC:S4.on=true:=by
    obtain ⟨a,b,rfl,_⟩:=O5;exact HL.2.2.2.1
   have Bt:vs.length=j:=by rw [Gv];simp [Wt.out];omega
   by_cases hlt:j<pn
   ·obtain ⟨p,hp⟩:∃p,f.ps[j]? =some p:=⟨_,List.getElem?_eq_getElem (by rw [Wt.out];exact hlt)⟩
    have hdr:f.ps.drop j=p ::f.ps.drop (j+1):=by
     rw [List.drop_eq_getElem_cons (by rw [Wt.out];exact hlt)]
     congr 1
     exact (zS.1 hp).2
    rw [hdr,Dy] at Nq;obtain ⟨pA',pc',VM,-,Ie⟩:=qY (hC.prm (f,pv) (zG H.2.2.2.2.2.2.1)).1 rfl;simp only at VM Ie;rw [Mw.2.2.2.1,Wt.out] at VM;simp only [Value.slice.injEq] at VM;obtain ⟨rfl,-,rfl⟩:=VM;obtain ⟨pb,po,rfl,Ua,O8,hq1⟩:=Ie j p hp;have NZ:(j:Int)<pn:=by omega
    have hpnm:p.s.length<=maxLen:=by unfold maxLen;have:=H.2.2.2.2.2.2.2.2.2.2.2.2.2.1 p (zG hp);omega
    have OY:Zw wr (wr.alloc (.cells #[Ss p.s,Iv p.ty] tPr)):=(zB _ _).alloc (zL _) _;have HAV:=Hy (nG (hC.on OY) XC (k:=1) rfl (by omega) (by simp;omega) (by rw [Bt];omega) hpnm p.ty)
    have VE:vs ++ [p.ty]=(f.ps.take (j+1)).map (fun p=>p.ty):=by
     rw [List.take_add_one,hp,Gv];simp
    have HG:=Hy7 Nq VE Lh O5 (bW.trans (OY.mono hC.Ble)) PY Bt;clear Nq Gv VE Lh O5 hC bW PY Bt hp hdr Ie hpnm OY;go_wp2_with fail;refine HAV.mono ?_;clear HAV;rintro e w5 ⟨rfl,v',E9,qK⟩;have Oi:=Hy2 E9 qK;clear E9 qK;go_wp2_with fail;go_roundw
    case rel=>
     obtain ⟨Nq,VE,Lh,O5,bW,PY,Bt⟩:=HG;refine ⟨j+1,(p.s,⟨1,vs.length,p.ty⟩) ::s,vs ++ [p.ty],_,by go_num,by omega,Nq,VE,by simp;omega,?_,Oi.1,bW.trans Oi.2,?_⟩
     ·refine O5.trans ⟨_,_,rfl,fun m hm=>?_⟩
      rw [List.getElem?_set_ne (fun e=>hm e.symm)]
     ·intro q hq;rcases List.mem_cons.1 hq with rfl|hq
      ·rfl
      ·exact PY q hq
    case measure=>simp [intOf];omega
   ·obtain rfl:j=pn:=by omega
    have hdr:f.ps.drop j=[]:=List.drop_eq_nil_of_le (by rw [Wt.out];exact zL _)
    have Np:f.ps.take j=f.ps:=List.take_of_length_le (by rw [Wt.out];exact zL _)
    rw [hdr] at Nq;rw [Np] at Gv;have Nq:s=lK f.ps [] []:=Nq.symm;have Uv:S4.fi=i:=by
     obtain ⟨a,b,rfl,_⟩:=O5;exact HL.2.2.2.2.2.1.trans H.2.2.2.2.2.2.2.2.2.2.2.2.2.2.2
    have Ey:KnW X S4 ⟨X.fl.map fun f=>f.1.ps.length,f.ty,lb⟩:=by
     refine ⟨XC,⟨(f,pv),by rw [Uv];exact H.2.2.2.2.2.2.1,rfl⟩,?_,rfl⟩
     obtain ⟨a,b,rfl,_⟩:=O5;exact HL.2.2.2.2.1
    obtain ⟨x,hx,-,PR⟩:=DI H.2.2.2.2.2.1;have O4:WfS X ⟨σ.tr,[G,s],vs⟩:=by
     have hG:=H.2.2.2.2.2.2.2.2.2.2.2.1;refine ⟨by simp,by simp only;omega,?_,?_⟩
     ·intro t ht;simp only [List.mem_cons,List.not_mem_nil,or_false] at ht;simp only;rcases ht with rfl|rfl <;> omega
     ·intro t ht p hp h4;simp only [List.mem_cons,List.not_mem_nil,or_false] at ht;rcases ht with rfl|rfl
      ·exact H.2.2.2.2.2.2.2.2.2.2.2.2.1 p hp h4
      ·rw [PY p hp] at h4;cases h4
    have HVK:=Hy (AJ X ⟨X.fl.map fun f=>f.1.ps.length,f.ty,lb⟩ k c ⟨σ.tr,[G,s],vs⟩ S4 wr 1 (c+k.size) x ⟨hC,Ey,O4,H.2.2.2.2.2.1.1,H.2.2.2.2.2.2.2.2.2.2.1,by simp;omega,by omega⟩ hx PR)
    rw [<-H.2.2.2.2.2.2.2.1] at HVK;have y3:Ce wr X.fB (i * 6+3) (Iv (f.b:Nat)):=by
     obtain ⟨u,hu⟩:∃u,S4.vls[i]? =some u:=⟨_,List.getElem?_eq_getElem (by rw [hC.vll];exact (zS.1 H.2.2.2.2.2.2.1).1)⟩
     exact hC.eZ H.2.2.2.2.2.2.1 hu 3 (by omega)
    have hflr:=hC.sI;have hblr:=hC.chk.lt;have HG:=Hy6 Nq Gv O5 bW Uv XC;clear Nq Gv Lh O5 bW PY Bt Uv XC Ey hx PR O4 hdr Np;go_wp2_with fail;refine HVK.mono ?_;clear HVK;rintro e w5 (⟨τ,hτ,rfl,⟨hwf5,hln5⟩,S5,U4,E9,qK⟩|⟨no,p,hτ,rfl,qK⟩)
    ·have HCl:=Hy (uj E9 (k:=1) (by simpa using hln5) (by omega))
     have hbl5:=E9.chk.lt;have H5:=Hy4 hτ U4 E9 qK;clear hτ hwf5 hln5 U4 E9 qK;go_wp2_with fail;refine HCl.mono ?_;clear HCl;rintro e w6 ⟨rfl,v6,NS,Hu⟩;have HE:=Hy (show R (.returned (.tuple #[])) w6 by
      rw [<-HR.out];obtain ⟨hτ,U4,E9,qK⟩:=H5;obtain ⟨Nq,Gv,O5,bW,Uv,XC⟩:=HG;obtain ⟨Ob,qM,aU,on2,Oa,Qn,Rk,Ux,VJ,VH⟩:=HL;have hd:=Cr _ _ _ _ _ hτ;have PH:=H.2.2.1;have hiS:=H.2.2.2.2.2.2.2.2.2.2.2.2.2.2.2;obtain ⟨a,b,rfl,ha⟩:=O5;obtain ⟨a5,b5,rfl,ha5⟩:=U4;simp only [CkS.push] at Uv XC ha ha5 Qn;have Sd:=NS.off XC (by simp only [CkS.pop,CkS.push];rw [Ux,PH,Qn])
      rw [show τ.sc.dropLast=[G] from hd] at Sd
      refine .inl ⟨τ.tr,τ.vs,_,?_,rfl,Sd,(bW.trans qK).trans Hu,rfl,?_,?_,?_,VJ,VH⟩
      ·unfold jT;rw [Ob,Ck.bind_ok,<-Nq,<-Gv,hτ]
       rfl
      ·simp only [CkS.pop,CkS.push];rw [Qn]
      ·simp only [CkS.pop,CkS.push];rw [Ux]
      ·intro m hm;simp only [CkS.pop,CkS.push];rw [ha5 m (by rw [Qn];exact hm),ha m (by rw [Qn];exact hm),Rk])
     clear NS Hu;go_wp2_with fail;go_end0;exact HE
    ·have HE:=Hy (show R (jU no p) w5 by
      rw [<-HR.out];refine .inr ⟨no,p,?_,rfl,HG.2.2.2.1.trans qK⟩;unfold jT;rw [HL.1,Ck.bind_ok,<-HG.1,<-HG.2.1,hτ]
      rfl)
     clear hτ qK;go_wp2_with fail;exact aG rfl HE
 ·have HE:=Hy (show R (jU no p) w2 by
   rw [<-HR.out];exact .inr ⟨no,p,by unfold jT;rw [Ob];rfl,rfl,H.2.2.2.2.2.2.2.2.2.2.2.2.2.2.1.trans aU⟩)
  clear Ob aU;go_wp2_with fail;exact aG rfl HE
end
section
open Go Go.RowKit Go.Maps
def RdS (w:World) (v:Value) (n:Nat) (xs:List Value):Prop:=∃A c,v=.slice A n c/\((A=none/\xs=[])∨∃b o,A=some (Ad b o)/\∀(j:Nat) (u:Value),xs[j]? =some u->b<w.heap.size/\w.cell? (Ad b (o+j))=some u)
theorem RdS.on {w w':World}{v:Value}{n:Nat}{xs:List Value}(h:RdS w v n xs)(hb:Below w.heap.size w w'):RdS w' v n xs:=by
 obtain ⟨A,c,e,h⟩:=h;refine ⟨A,c,e,h.imp id ?_⟩;rintro ⟨b,o,e,hc⟩;refine ⟨b,o,e,fun j u hj=>?_⟩
 obtain ⟨h1,h2⟩:=hc j u hj;exact ⟨zT h1 hb.size,(hb.cell (p:=Ad b _) h1).trans h2⟩
theorem RdS.av {w:World}{B n sz:Nat}{t:TypeId}{v:Value}{xs:List Value}(h:w.ownsRow B t sz v n xs):RdS w v n xs:=by
 have hl:=h.1;rcases h.2 with ⟨rfl,rfl⟩|⟨g,cap,cur,rfl,h1,h2,h3⟩
 ·exact ⟨none,0,rfl,.inl ⟨rfl,by simpa using hl⟩⟩
 ·refine ⟨_,cap,rfl,.inr ⟨g,0,rfl,fun j u hj=>⟨(Array.getElem?_eq_some_iff.1 h2).1,?_⟩⟩⟩
  rw [Nat.zero_add,h.cellAt j (by have:=(zS.1 hj).1;omega)]
  exact hj
theorem Ah:(prog.info? tGb).map (fun i=>(i.zero,i.size,i.bytes))=some (some (.agg #[.string ⟨#[]⟩,Iv 0,Iv 0,Iv 0]),4,40):=by kernel_rfl
theorem vJ {w:World}{v:Value}{n:Nat}{xs:List Value}(h:RdS w v n xs)(hl:xs.length=n * 4)(hn:n<=1000000)(h1:∀u∈xs,u.oneCell'=true) :
  Calls prog 87 #[v] w fun e w'=>∃v',e=.returned v'/\w'.ownsRow w.heap.size tGb 4 v' n xs/\(1<=n->∃g c,v'=Sl g n c)/\Below w.heap.size w w':=by
 obtain ⟨i0,hi,vQ,sI,ru⟩:=dU Ah;have q22:∀(w:World) (a:Option Addr) (n c n' c':Nat),(binOp .eql 23 (.slice a n c) (.slice none n' c')).run prog w=.ok (.bool a.isNone) w:=fun w a n c n' c'=>Lib.run_eql_slice_nil w _ _ a n c n' c' underlying23
 obtain ⟨A,c,rfl,h⟩:=h;rcases h with ⟨rfl,rfl⟩|⟨b,o,rfl,hc⟩
 ·obtain rfl:n=0:=by simp only [List.length_nil] at hl;omega
  go_enter func87,ntmps87;go_wp2_with fail;go_ret;exact ⟨_,rfl,World.ownsRow_nil _ _ _ _,fun e=>by omega,zB _ _⟩
 ·have HC:=Hy hc;clear hc;go_enter func87,ntmps87;go_wp2_with (at_builtin;refine wpList_append_own _ rfl _ _ 23 rfl w.heap.size tGb i0 _ 4 40 underlying23 hi vQ sI ru rfl (by omega) _ _ _ rfl (World.ownsRow_made w #[] 0 (zL _) (Nat.zero_le _) (by simp)) (Ad b o) n c xs rfl ?qc1 ?qc2 ?qc3 ?qc4 ?qc5 ?qc6 ?_)
  case qc1=>exact hl
  case qc2=>
   intro j u hj;rw [Addr.add_lit];exact (((Below.refl _ w).alloc (zL _) _).cell (p:=Ad b _) (HC j u hj).1).trans (HC j u hj).2
  case qc3=>exact h1
  case qc4=>rw [Nat.zero_add];unfold maxLen;omega
  case qc5=>rw [Nat.zero_add];omega
  case qc6=>simp
  intro v' w1 bB aB Bw;have HF:=Hy3 bB aB Bw;clear bB aB Bw;go_wp2_with fail;go_ret;obtain ⟨bB,aB,Bw⟩:=HF;refine ⟨v',rfl,by simpa using bB,fun KQ=>?_,((Below.refl _ w).alloc (zL _) _).grown aB (by simp) (by intro k hk;simp [Value.ownBlock] at hk;omega)⟩
  rcases bB.2 with ⟨-,e⟩|⟨g,cap,cur,e,_⟩
  ·omega
  ·exact ⟨g,cap,by simpa using e⟩
theorem Ai:(prog.info? tFu).map (fun i=>(i.zero,i.size,i.bytes))=some (some (.agg #[.string ⟨#[]⟩,Iv 0,Sn,Iv 0,Iv 0,Sn]),6,88):=by kernel_rfl
theorem vK {w:World}{v:Value}{n:Nat}{xs:List Value}(h:RdS w v n xs)(hl:xs.length=n * 6)(hn:n<=1000000)(h1:∀u∈xs,u.oneCell'=true) :
  Calls prog 88 #[v] w fun e w'=>∃v',e=.returned v'/\w'.ownsRow w.heap.size tFu 6 v' n xs/\(1<=n->∃g c,v'=Sl g n c)/\Below w.heap.size w w':=by
 obtain ⟨i0,hi,vQ,sI,ru⟩:=dU Ai;have q22:∀(w:World) (a:Option Addr) (n c n' c':Nat),(binOp .eql 24 (.slice a n c) (.slice none n' c')).run prog w=.ok (.bool a.isNone) w:=fun w a n c n' c'=>Lib.run_eql_slice_nil w _ _ a n c n' c' underlying24
 obtain ⟨A,c,rfl,h⟩:=h;rcases h with ⟨rfl,rfl⟩|⟨b,o,rfl,hc⟩
 ·obtain rfl:n=0:=by simp only [List.length_nil] at hl;omega
  go_enter func88,ntmps88;go_wp2_with fail;go_ret;exact ⟨_,rfl,World.ownsRow_nil _ _ _ _,fun e=>by omega,zB _ _⟩
 ·have HC:=Hy hc;clear hc;go_enter func88,ntmps88;go_wp2_with (at_builtin;refine wpList_append_own _ rfl _ _ 24 rfl w.heap.size tFu i0 _ 6 88 underlying24 hi vQ sI ru rfl (by omega) _ _ _ rfl (World.ownsRow_made w #[] 0 (zL _) (Nat.zero_le _) (by simp)) (Ad b o) n c xs rfl ?qc1 ?qc2 ?qc3 ?qc4 ?qc5 ?qc6 ?_)
  case qc1=>exact hl
  case qc2=>
   intro j u hj;rw [Addr.add_lit];exact (((Below.refl _ w).alloc (zL _) _).cell (p:=Ad b _) (HC j u hj).1).trans (HC j u hj).2
  case qc3=>exact h1
  case qc4=>rw [Nat.zero_add];unfold maxLen;omega
  case qc5=>rw [Nat.zero_add];omega
  case qc6=>simp
  intro v' w1 bB aB Bw;have HF:=Hy3 bB aB Bw;clear bB aB Bw;go_wp2_with fail;go_ret;obtain ⟨bB,aB,Bw⟩:=HF;refine ⟨v',rfl,by simpa using bB,fun KQ=>?_,((Below.refl _ w).alloc (zL _) _).grown aB (by simp) (by intro k hk;simp [Value.ownBlock] at hk;omega)⟩
  rcases bB.2 with ⟨-,e⟩|⟨g,cap,cur,e,_⟩
  ·omega
  ·exact ⟨g,cap,by simpa using e⟩
theorem Ag:(prog.info? tNd).map (fun i=>(i.zero,i.size,i.bytes))=some (some (.agg #[Iv 0,Iv 0,Iv 0,.string ⟨#[]⟩,Iv 0,Sn,Iv 0,Iv 0]),8,88):=by kernel_rfl
theorem vH {w:World}{v:Value}{n:Nat}{xs:List Value}(h:RdS w v n xs)(hl:xs.length=n * 8)(hn:n<=1000000)(h1:∀u∈xs,u.oneCell'=true) :
  Calls prog 89 #[v] w fun e w'=>∃v',e=.returned v'/\w'.ownsRow w.heap.size tNd 8 v' n xs/\(1<=n->∃g c,v'=Sl g n c)/\Below w.heap.size w w':=by
 obtain ⟨i0,hi,vQ,sI,ru⟩:=dU Ag;have q22:∀(w:World) (a:Option Addr) (n c n' c':Nat),(binOp .eql 25 (.slice a n c) (.slice none n' c')).run prog w=.ok (.bool a.isNone) w:=fun w a n c n' c'=>Lib.run_eql_slice_nil w _ _ a n c n' c' underlying25
 obtain ⟨A,c,rfl,h⟩:=h;rcases h with ⟨rfl,rfl⟩|⟨b,o,rfl,hc⟩
 ·obtain rfl:n=0:=by simp only [List.length_nil] at hl;omega
  go_enter func89,ntmps89;go_wp2_with fail;go_ret;exact ⟨_,rfl,World.ownsRow_nil _ _ _ _,fun e=>by omega,zB _ _⟩
 ·have HC:=Hy hc;clear hc;go_enter func89,ntmps89;go_wp2_with (at_builtin;refine wpList_append_own _ rfl _ _ 25 rfl w.heap.size tNd i0 _ 8 88 underlying25 hi vQ sI ru rfl (by omega) _ _ _ rfl (World.ownsRow_made w #[] 0 (zL _) (Nat.zero_le _) (by simp)) (Ad b o) n c xs rfl ?qc1 ?qc2 ?qc3 ?qc4 ?qc5 ?qc6 ?_)
  case qc1=>exact hl
  case qc2=>
   intro j u hj;rw [Addr.add_lit];exact (((Below.refl _ w).alloc (zL _) _).cell (p:=Ad b _) (HC j u hj).1).trans (HC j u hj).2
  case qc3=>exact h1
  case qc4=>rw [Nat.zero_add];unfold maxLen;omega
  case qc5=>rw [Nat.zero_add];omega
  case qc6=>simp
  intro v' w1 bB aB Bw;have HF:=Hy3 bB aB Bw;clear bB aB Bw;go_wp2_with fail;go_ret;obtain ⟨bB,aB,Bw⟩:=HF;refine ⟨v',rfl,by simpa using bB,fun KQ=>?_,((Below.refl _ w).alloc (zL _) _).grown aB (by simp) (by intro k hk;simp [Value.ownBlock] at hk;omega)⟩
  rcases bB.2 with ⟨-,e⟩|⟨g,cap,cur,e,_⟩
  ·omega
  ·exact ⟨g,cap,by simpa using e⟩
theorem Af:(prog.info? tPr).map (fun i=>(i.zero,i.size,i.bytes))=some (some (.agg #[.string ⟨#[]⟩,Iv 0]),2,24):=by kernel_rfl
theorem vE {w:World}{v:Value}{n:Nat}{xs:List Value}(h:RdS w v n xs)(hl:xs.length=n * 2)(hn:n<=1000000)(h1:∀u∈xs,u.oneCell'=true) :
  Calls prog 91 #[v] w fun e w'=>∃v',e=.returned v'/\w'.ownsRow w.heap.size tPr 2 v' n xs/\(1<=n->∃g c,v'=Sl g n c)/\Below w.heap.size w w':=by
 obtain ⟨i0,hi,vQ,sI,ru⟩:=dU Af;have q22:∀(w:World) (a:Option Addr) (n c n' c':Nat),(binOp .eql 39 (.slice a n c) (.slice none n' c')).run prog w=.ok (.bool a.isNone) w:=fun w a n c n' c'=>Lib.run_eql_slice_nil w _ _ a n c n' c' underlying39
 obtain ⟨A,c,rfl,h⟩:=h;rcases h with ⟨rfl,rfl⟩|⟨b,o,rfl,hc⟩
 ·obtain rfl:n=0:=by simp only [List.length_nil] at hl;omega
  go_enter func91,ntmps91;go_wp2_with fail;go_ret;exact ⟨_,rfl,World.ownsRow_nil _ _ _ _,fun e=>by omega,zB _ _⟩
 ·have HC:=Hy hc;clear hc;go_enter func91,ntmps91;go_wp2_with (at_builtin;refine wpList_append_own _ rfl _ _ 39 rfl w.heap.size tPr i0 _ 2 24 underlying39 hi vQ sI ru rfl (by omega) _ _ _ rfl (World.ownsRow_made w #[] 0 (zL _) (Nat.zero_le _) (by simp)) (Ad b o) n c xs rfl ?qc1 ?qc2 ?qc3 ?qc4 ?qc5 ?qc6 ?_)
  case qc1=>exact hl
  case qc2=>
   intro j u hj;rw [Addr.add_lit];exact (((Below.refl _ w).alloc (zL _) _).cell (p:=Ad b _) (HC j u hj).1).trans (HC j u hj).2
  case qc3=>exact h1
  case qc4=>rw [Nat.zero_add];unfold maxLen;omega
  case qc5=>rw [Nat.zero_add];omega
  case qc6=>simp
  intro v' w1 bB aB Bw;have HF:=Hy3 bB aB Bw;clear bB aB Bw;go_wp2_with fail;go_ret;obtain ⟨bB,aB,Bw⟩:=HF;refine ⟨v',rfl,by simpa using bB,fun KQ=>?_,((Below.refl _ w).alloc (zL _) _).grown aB (by simp) (by intro k hk;simp [Value.ownBlock] at hk;omega)⟩
  rcases bB.2 with ⟨-,e⟩|⟨g,cap,cur,e,_⟩
  ·omega
  ·exact ⟨g,cap,by simpa using e⟩
theorem GH:(prog.info? aC).map (fun i=>(i.zero,i.size,i.bytes))=some (some (Iv 0),1,8):=by kernel_rfl
theorem vI {w:World}{v:Value}{n:Nat}{xs:List Value}(h:RdS w v n xs)(hl:xs.length=n * 1)(hn:n<=1000000)(h1:∀u∈xs,u.oneCell'=true) :
  Calls prog 92 #[v] w fun e w'=>∃v',e=.returned v'/\w'.ownsRow w.heap.size aC 1 v' n xs/\(1<=n->∃g c,v'=Sl g n c)/\Below w.heap.size w w':=by
 obtain ⟨i0,hi,vQ,sI,ru⟩:=dU GH;have q22:∀(w:World) (a:Option Addr) (n c n' c':Nat),(binOp .eql 40 (.slice a n c) (.slice none n' c')).run prog w=.ok (.bool a.isNone) w:=fun w a n c n' c'=>Lib.run_eql_slice_nil w _ _ a n c n' c' underlying40
 obtain ⟨A,c,rfl,h⟩:=h;rcases h with ⟨rfl,rfl⟩|⟨b,o,rfl,hc⟩
 ·obtain rfl:n=0:=by simp only [List.length_nil] at hl;omega
  go_enter func92,ntmps92;go_wp2_with fail;go_ret;exact ⟨_,rfl,World.ownsRow_nil _ _ _ _,fun e=>by omega,zB _ _⟩
 ·have HC:=Hy hc;clear hc;go_enter func92,ntmps92;go_wp2_with (at_builtin;refine wpList_append_own _ rfl _ _ 40 rfl w.heap.size aC i0 _ 1 8 underlying40 hi vQ sI ru rfl (by omega) _ _ _ rfl (World.ownsRow_made w #[] 0 (zL _) (Nat.zero_le _) (by simp)) (Ad b o) n c xs rfl ?qc1 ?qc2 ?qc3 ?qc4 ?qc5 ?qc6 ?_)
  case qc1=>exact hl
  case qc2=>
   intro j u hj;rw [Addr.add_lit];exact (((Below.refl _ w).alloc (zL _) _).cell (p:=Ad b _) (HC j u hj).1).trans (HC j u hj).2
  case qc3=>exact h1
  case qc4=>rw [Nat.zero_add];unfold maxLen;omega
  case qc5=>rw [Nat.zero_add];omega
  case qc6=>simp
  intro v' w1 bB aB Bw;have HF:=Hy3 bB aB Bw;clear bB aB Bw;go_wp2_with fail;go_ret;obtain ⟨bB,aB,Bw⟩:=HF;refine ⟨v',rfl,by simpa using bB,fun KQ=>?_,((Below.refl _ w).alloc (zL _) _).grown aB (by simp) (by intro k hk;simp [Value.ownBlock] at hk;omega)⟩
  rcases bB.2 with ⟨-,e⟩|⟨g,cap,cur,e,_⟩
  ·omega
  ·exact ⟨g,cap,by simpa using e⟩
theorem kX (s:List UInt8)(hs:s.length<=1000000)(w:World):Calls prog 90 #[Ss s] w fun e w'=>e=.returned (Ss s)/\Below w.heap.size w w':=by
 have sQ:(str s).size<=281474976710656:=by rw [lS];omega
 have HC:=Hy (Tryz.stringslite_Clone (str s) w sQ);clear sQ;go_enter func90,ntmps90;go_wp2_with fail;refine HC.mono ?_;clear HC;rintro e w1 ⟨rfl,av⟩;go_wp2_with fail;go_ret;exact ⟨rfl,av⟩
end
end Go.Proofs.YtcchdlnfeijinaaGreatDoor
