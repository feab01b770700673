/- Cmc to Crn: Layer check, mathematics: numbers keep their Types; what was checked may be checked again, and says  -/
import Derived.Test.YtcchdlnfeijinaaGreatDoorNap
namespace Go.Proofs.YtcchdlnfeijinaaGreatDoor
open Go.Proofs.Tryz
set_option linter.unusedSectionVars false
set_option linter.unusedSimpArgs false
set_option linter.unusedVariables false
set_option maxHeartbeats 4000000
set_option maxRecDepth 100000
section
open Go Go.RowKit Go.Maps
def But (i:Nat) (a b:List (Int×Int)):Prop:=b.length=a.length/\∀j,j≠i->b[j]? =a[j]?
theorem But.refl (i:Nat)(a:List (Int×Int)):But i a a:=⟨rfl,fun _ _=>rfl⟩
theorem But.set (i:Nat)(a b:List (Int×Int))(h:But i a b)(x:Int×Int):But i a (b.set i x):=⟨by rw [List.length_set];exact h.1,fun j hj=>by rw [List.getElem?_set_ne (fun e=>hj e.symm)];exact h.2 j hj⟩
theorem nC {i:Nat}{σ τ:Cs}(h:But i σ.tr τ.tr)(t:Int):But i σ.tr (bY τ i t).tr:=h.set i _ _ _
theorem pI {i:Nat}{σ τ:Cs}(h:But i σ.tr τ.tr)(t:Int):But i σ.tr (bC τ i t).tr:=h.set i _ _ _
theorem uJ {K:Kn}{h:Hd}{ks:List Nat}{i:Nat}{σ τ:Cs}(e:eB K h ks i σ=.ok τ):But i σ.tr τ.tr:=by
 unfold eB at e;split at e
 ·unfold dm at e;split at e
  ·obtain ⟨m,-,e⟩:=aa e;cases e;exact nC (pI (But.refl _ _) _) _
  split at e
  ·obtain ⟨m,-,e⟩:=aa e;obtain ⟨_,-,e⟩:=aa e;cases e;exact nC (pI (But.refl _ _) _) _
  split at e
  ·obtain ⟨m,-,e⟩:=aa e;cases e;exact nC (But.refl _ _) _
  split at e
  ·obtain ⟨m,-,e⟩:=aa e;cases e;exact nC (But.refl _ _) _
  split at e
  ·obtain ⟨m,-,e⟩:=aa e;cases e;exact nC (But.refl _ _) _
  split at e
  ·obtain ⟨m,-,e⟩:=aa e;obtain ⟨_,-,e⟩:=aa e;obtain ⟨_,-,e⟩:=aa e;cases e;exact nC (pI (But.refl _ _) _) _
  split at e
  ·cases e;exact nC (But.refl _ _) _
  ·cases e;exact But.refl _ _
 ·unfold dh at e;split at e
  ·obtain ⟨_,-,e⟩:=aa e;obtain ⟨_,-,e⟩:=aa e;obtain ⟨_,-,e⟩:=aa e;cases e;exact pI (But.refl _ _) _
  split at e
  ·obtain ⟨m,-,e⟩:=aa e;obtain ⟨_,-,e⟩:=aa e;cases e;exact pI (But.refl _ _) _
  split at e
  ·obtain ⟨m,-,e⟩:=aa e;obtain ⟨_,-,e⟩:=aa e;cases e;exact pI (But.refl _ _) _
  split at e
  ·obtain ⟨m,-,e⟩:=aa e;cases e;exact But.refl _ _
  split at e
  ·obtain ⟨m,-,e⟩:=aa e;cases e;exact But.refl _ _
  split at e
  ·obtain ⟨m,-,e⟩:=aa e;obtain ⟨_,-,e⟩:=aa e;cases e;exact But.refl _ _
  split at e
  ·obtain ⟨m,-,e⟩:=aa e;cases e;exact But.refl _ _
  ·cases e;exact But.refl _ _
theorem Dh {K:Kn}{h:Hd}{ks:List Nat}{i:Nat}{σ τ:Cs}(ho:h.op=1)(e:eB K h ks i σ=.ok τ):τ.tr=σ.tr:=by
 simp [eB,dm,ho] at e;rw [e]
structure Kept (F:Fo) (c:Nat) (a b:List (Int×Int)):Prop where
 ln:b.length=a.length
 out:∀j,j<c∨c+F.size<=j->b[j]? =a[j]?
 num:∀j n,(F.flat c)[j]? =some n->n.h.op=1->b[c+j]? =a[c+j]?
theorem iP (K:Kn)(F:Fo):∀(c:Nat) (σ τ:Cs),dF K F c σ=.ok τ->Kept F c σ.tr τ.tr:=by
 induction F with
 |nil=>intro c σ τ e;simp only [dF] at e;cases e;exact ⟨rfl,fun _ _=>rfl,fun j n hn=>by simp [Fo.flat] at hn⟩
 |cons h k r ih1 ih2=>
  intro c σ τ e;simp only [dF] at e;obtain ⟨ρ,e1,e⟩:=aa e;have hr:=ih2 _ _ _ e;have hk:(∃κ:Cs,Kept k c σ.tr κ.tr/\But (c+k.size) κ.tr ρ.tr/\(h.op=1->ρ.tr=κ.tr)):=by
   split at e1
   ·obtain ⟨κ,e3,e2⟩:=aa e1;cases e2;have bT:=ih1 _ _ _ e3;exact ⟨κ,bT,But.refl _ _,fun _=>rfl⟩
   ·obtain ⟨κ,e3,e2⟩:=aa e1;exact ⟨κ,ih1 _ _ _ e3,uJ e2,fun ho=>Dh ho e2⟩
  obtain ⟨κ,h1,h2,h3⟩:=hk;have uo:=Fo.aD k c;refine ⟨by rw [hr.ln,h2.1,h1.ln],?_,?_⟩
  ·intro j hj;simp only [Fo.size] at hj;rw [hr.out j (by omega),h2.2 j (by omega),h1.out j (by omega)]
  ·intro j n hn ho;simp only [Fo.flat] at hn;by_cases hj:j<k.size
   ·rw [List.getElem?_append_left (by omega)] at hn
    rw [hr.out _ (by omega),h2.2 _ (by omega)]
    exact h1.num j n hn ho
   ·rw [List.getElem?_append_right (by omega),uo] at hn
    by_cases hj2:j=k.size
    ·subst hj2;rw [Nat.sub_self,List.getElem?_cons_zero] at hn;obtain rfl:(⟨h,k.roots c⟩:Nd)=n:=Option.some.inj hn;rw [hr.out _ (by omega),h3 ho]
     exact h1.out _ (by omega)
    ·obtain ⟨m,rfl⟩:∃m,j=k.size+1+m:=⟨j - (k.size+1),by omega⟩
     rw [show k.size+1+m - k.size=m+1 by omega,List.getElem?_cons_succ] at hn
     have e9:=hr.num m n hn ho;rw [show c+k.size+1+m=c+(k.size+1+m) by omega] at e9
     rw [e9,h2.2 _ (by omega),h1.out _ (by omega)]
theorem rY {pg:Pg}{tr:List (Int×Int)}{vs:List (List Int)}(h:aX pg=.ok (tr,vs)):∃s G,eF pg.g 0 0 []=.ok s/\jf pg.f 0 s=.ok G/\dR (pg.f.map fun f=>f.ps.length) G pg.f pg.t 0 (tr0 (pg.t.flat 0))=.ok (tr,vs)/\jh G pg.f=.ok ():=by
 unfold aX at h;obtain ⟨s,h1,h⟩:=aa h;obtain ⟨G,h2,h⟩:=aa h;obtain ⟨y,h3,h⟩:=aa h;obtain ⟨u,h4,h⟩:=aa h;cases h;exact ⟨s,G,h1,h2,h3,h4⟩
end
section
open Go
section
variable (R:Int->Prop)
def FPl:Fo->Prop
 | .nil=>True
 | .cons h k r=>R h.p/\FPl k/\FPl r
def SPl (s:St):Prop:=∀t∈s.l,R t.p
def APl {α:Type} (Q:α->Prop) (r:Rs α):Prop:=∀a s,r=.ok a s->SPl R s/\Q a
variable {R}
variable {e:Tok} (he:R e.p)
include he
omit he in
end
section
variable {R:Int->Prop} {e:Tok} (he:R e.p) {r:Md->St->Rs Fo} (hr:∀m s,SPl R s->(∀d l x,m=.loop d l x->FPl R x)->APl R (FPl R) (r m s))
include he hr
omit hr in
omit hr in
omit hr in
omit hr in
structure zw (R:Int->Prop) (p:Pg):Prop where
 g:∀x∈p.g,R x.p
 f:∀x∈p.f,R x.p
 t:FPl R p.t
omit hr in
omit hr in
omit hr in
end
def CEr {α:Type} (R:Int->Prop) (r:Ck α):Prop:=∀no p,r=.er no p->no≠0/\R p
end
section
open Go Go.RowKit Go.Maps
theorem K9:(prog.info? tDg).map (·.size)=some 2:=by kernel_rfl
theorem JD {fn:Func}{R:Ending->World->Prop}{a:Act}{w:World}{p:Tmp}{b:Nat}{T:TypeId}{fr:Nat×Nat}{x y:Value}(hf:fn.results= #[.cell p tDg])(h2:a.tmps.getD p undef=.pointer (some ⟨b,0,none⟩))(hb:w.heap[b]? =some (.cells #[x,y] T fr))(hd:a.defers=[])(hR:R (.returned (.agg #[x,y])) w):bodyPost prog fn R .ret a w:=
 bodyPost_ret (v:=.agg #[x,y]) (results_cell_row hf _ _ b T _ fr _ h2 hb underlying33 rfl K9) hd hR
theorem qR {l:List UInt8}(hl:l.length<=100000){n p:Int}(h:qU l=some (n,p))(w:World)(hE:Env w/\ku w) :
  Calls prog 16 #[.string (str l)] w fun e w'=>e=.returned (.agg #[Iv n,Iv p])/\Zw w w':=by
 obtain ⟨toks,at_,pg,st,hx,NQ,hP,hpg,Uy⟩:=FD h;obtain ⟨R,hR⟩:∃R:Ending->World->Prop,(fun e w'=>e=.returned (.agg #[Iv n,Iv p])/\Zw w w')=R:=⟨_,rfl⟩
 rw [hR];have HR:=Hy hR;have h0:Zw w (w.alloc (.cells #[Iv 0,Iv 0] tDg)):=(zB _ _).alloc (zL _) _;have b0:=Blk.new w tDg #[Iv 0,Iv 0];have HPa:=Hy (Bp (str l) (by rw [lS];omega) _ ⟨hE.1.of h0,hE.2.below h0 (zL _)⟩ hx NQ hP)
 have HC:=Hy4 hpg Uy h0 b0;obtain ⟨zz,U3⟩:=zN (str l);rw [U3] at HPa |-;clear hR hx NQ hP hpg Uy h0 b0 hE h hl U3;go_enter func16,ntmps16;go_wp2_with fail;refine HPa.out.mono ?_;clear HPa;rintro e w1 ⟨av,gA,fA,uA,gc,fc,uc,fl,ns,rfl,hM⟩;have hin:=Ht hM HC.out.1;have hI:=Dt hM;have V7:Zw w w1:=HC.out.2.2.1.trans (av.mono (by simp))
 have b1:=HC.out.2.2.2.below av HC.out.2.2.2.lt;have aU:Zw w1 (w1.alloc (.cells #[.slice gA pg.g.length gc,.slice fA fl.length fc,.slice uA ns.length uc] aK)):=(zB _ _).alloc (zL _) _;have k2:=Blk.new w1 aK #[.slice gA pg.g.length gc,.slice fA fl.length fc,.slice uA ns.length uc];have HCk:=Hy (ul (hI.on aU) hin.1 hin.2);rw [List.length_map] at HCk;obtain ⟨gn,qm⟩:=zN pg.g.length;obtain ⟨fn,ut⟩:=zN fl.length;obtain ⟨un,TF⟩:=zN ns.length;rw [qm,ut,TF] at aU k2 HCk |-;have H1:=Hy4 V7 b1 aU k2;clear hM hin hI av V7 b1 qm ut TF aU k2;go_upto_region 4 with (fail);obtain ⟨h1,b1,aU,k2⟩:=H1.out;have b2:=b1.alloc (.cells #[.slice gA gn gc,.slice fA fn fc,.slice uA un uc] aK);have h2:=h1.trans (aU.mono h1.size);obtain ⟨K,hK⟩:=zN w1.heap.size;rw [hK] at k2;generalize w1.alloc (.cells #[.slice gA gn gc,.slice fA fn fc,.slice uA un uc] aK)=W2 at *;simp only [hK];have z0:Ce W2 K 0 (.slice gA gn gc):=k2.cell 0;have z1:Ce W2 K 1 (.slice fA fn fc):=k2.cell 1;have z2:Ce W2 K 2 (.slice uA un uc):=k2.cell 2;have zl:=k2.lt;have H2:=Hy2 h2 b2;clear h1 b1 aU k2 b2 h2 hK H1;go_wp2_with fail;refine HCk.out.mono ?_;clear HCk;rintro e w3 ⟨lW,QS⟩;obtain ⟨A1,n1,c1,A2,n2,c2,A3,n3,c3,rfl⟩:∃A1 n1 c1 A2 n2 c2 A3 n3 c3,e=.returned (.tuple #[.agg #[.slice A1 n1 c1,.slice A2 n2 c2,.slice A3 n3 c3],.agg #[Iv n,Iv p]]):=by
  rcases QS with ⟨no,q,hc,rfl⟩|⟨tr,vs,gA',yP,zZ,gc',xS,yG,Ra,JY,ns',hc,rfl,-⟩
  ·rcases HC.out.2.1 with h9|⟨y,h9,-⟩
   ·rw [hc] at h9;cases h9;exact ⟨none,0,0,none,0,0,none,0,0,rfl⟩
   ·rw [hc] at h9;cases h9
  ·rcases HC.out.2.1 with h9|⟨y,h9,rfl,rfl⟩
   ·rw [hc] at h9;cases h9
   ·exact ⟨_,_,_,_,_,_,_,_,_,rfl⟩
 have h3:=H2.out.1.trans (lW.mono H2.out.1.size);have b3:=H2.out.2.below lW H2.out.2.lt;have H3:=Hy2 h3 b3;clear QS lW h3 b3 z0 z1 z2 zl;go_upto_region 5 with (fail);obtain ⟨h3,b3⟩:=H3.out;have b5:=(b3.alloc (.cells #[.slice A1 n1 c1,.slice A2 n2 c2,.slice A3 n3 c3] aK)).alloc (.cells #[Iv n,Iv p] tDg);have k5:=Blk.new (w3.alloc (.cells #[.slice A1 n1 c1,.slice A2 n2 c2,.slice A3 n3 c3] aK)) tDg #[Iv n,Iv p];have h5:=(h3.alloc h3.size (.cells #[.slice A1 n1 c1,.slice A2 n2 c2,.slice A3 n3 c3] aK)).alloc (by have:=h3.size;simp;omega) (.cells #[Iv n,Iv p] tDg)
 rw [show (w3.alloc (.cells #[.slice A1 n1 c1,.slice A2 n2 c2,.slice A3 n3 c3] aK)).heap.size=w3.heap.size+1 by simp] at k5
 generalize (w3.alloc (.cells #[.slice A1 n1 c1,.slice A2 n2 c2,.slice A3 n3 c3] aK)).alloc (.cells #[Iv n,Iv p] tDg)=W5 at *;have d0:Ce W5 (w3.heap.size+1) 0 (Iv n):=k5.cell 0;have d1:Ce W5 (w3.heap.size+1) 1 (Iv p):=k5.cell 1;have dl:=k5.lt;have r0:Ce W5 w.heap.size 0 (Iv 0):=b5.cell 0;have r1:Ce W5 w.heap.size 1 (Iv 0):=b5.cell 1;have g0:=b5.frozen 0;have g1:=b5.frozen 1;have rl:=b5.lt;have bF:=(b5.af 0 (Iv n)).af 1 (Iv p);have HF:=Hy2 bF ((h5.setCell (p:=⟨w.heap.size,0,none⟩) (zL _) (Iv n)).setCell (p:=⟨w.heap.size,1,none⟩) (zL _) (Iv p));clear h3 b3 b5 k5 h5 bF;go_wp2_with fail;refine JD rfl rfl HF.out.1 rfl ?_;rw [<-HR.out];exact ⟨rfl,HF.out.2⟩
theorem lm (w:World)(hE:Env w/\ku w):Calls prog 7 #[] w fun e w'=>e=.returned (.bool true)/\Zw w w':=by
 have h1:=Hy (qR (l:=[105,110,116,32,109,97,105,110,40,41,123,114,101,116,117,114,110,32,48,59,125]) (by decide) MB w hE)
 have HE:=Hy hE;clear hE;go_enter func7,ntmps7;go_wp2_with fail;refine h1.out.mono ?_;clear h1;rintro e w1 ⟨rfl,av⟩;have h2:=Hy (qR (l:=[105,110,116,32,120,59,32,105,110,116,32,109,97,105,110,40,41,123,32,120,32,61,32,121,59,32,114,101,116,117,114,110,32,48,59,125]) (by decide) Mx w1 ⟨HE.out.1.of av,HE.out.2.below av (zL _)⟩)
 have HB:=Hy av;clear av;go_wp2_with fail;refine h2.out.mono ?_;clear h2;rintro e w2 ⟨rfl,aU⟩;have Nc:=Hy (HB.out.trans (aU.mono HB.out.size));clear aU;go_wp2_with fail;go_ret;exact ⟨rfl,Nc.out⟩
def Kz:Array Value:=(kTx.map fun z=>Value.string (str z)).toArray
def Gw:Array Value:=(kWt.flatMap fun x=>[Iv x.1,Iv x.2]).toArray
end
section
open Go Go.RowKit Go.Maps
theorem FJ {K:Kn}{h:Hd}{ks:List Nat}{i n:Nat}{σ τ:Cs}(hn:64<=n)(hσ:σ.vs.length<=n)(e:eB K h ks i σ=.ok τ):τ.vs.length<=n:=by
 unfold eB at e;split at e
 ·unfold dm at e;split at e
  ·obtain ⟨m,-,e⟩:=aa e;cases e;exact hσ
  split at e
  ·obtain ⟨m,-,e⟩:=aa e;obtain ⟨_,-,e⟩:=aa e;cases e;exact hσ
  split at e
  ·obtain ⟨m,-,e⟩:=aa e;cases e;exact hσ
  split at e
  ·obtain ⟨m,-,e⟩:=aa e;cases e;exact hσ
  split at e
  ·obtain ⟨m,-,e⟩:=aa e;cases e;exact hσ
  split at e
  ·obtain ⟨m,-,e⟩:=aa e;obtain ⟨_,-,e⟩:=aa e;obtain ⟨_,-,e⟩:=aa e;cases e;exact hσ
  split at e
  ·cases e;exact hσ
  ·cases e;exact hσ
 ·unfold dh at e;split at e
  ·obtain ⟨_,-,e⟩:=aa e;obtain ⟨_,-,e⟩:=aa e;obtain ⟨_,h3,e⟩:=aa e;cases e;by_cases h64:64<=σ.vs.length
   ·rw [decide_eq_true h64] at h3;cases h3
   ·simp only [List.length_append,List.length_cons,List.length_nil];omega
  split at e
  ·obtain ⟨m,-,e⟩:=aa e;obtain ⟨_,-,e⟩:=aa e;cases e;exact hσ
  split at e
  ·obtain ⟨m,-,e⟩:=aa e;obtain ⟨_,-,e⟩:=aa e;cases e;exact hσ
  split at e
  ·obtain ⟨m,-,e⟩:=aa e;cases e;exact hσ
  split at e
  ·obtain ⟨m,-,e⟩:=aa e;cases e;exact hσ
  split at e
  ·obtain ⟨m,-,e⟩:=aa e;obtain ⟨_,-,e⟩:=aa e;cases e;exact hσ
  split at e
  ·obtain ⟨m,-,e⟩:=aa e;cases e;exact hσ
  ·cases e;exact hσ
theorem Cq (K:Kn){n:Nat}(hn:64<=n)(F:Fo):∀(c:Nat) (σ τ:Cs),σ.vs.length<=n->dF K F c σ=.ok τ->τ.vs.length<=n:=by
 induction F with
 |nil=>intro c σ τ h e;simp only [dF] at e;cases e;exact h
 |cons h k r ih1 ih2=>
  intro c σ τ hσ e;simp only [dF] at e;obtain ⟨ρ,e1,e⟩:=aa e;refine ih2 _ _ _ ?_ e;split at e1
  ·obtain ⟨κ,e3,e2⟩:=aa e1;cases e2;have h9:=ih1 _ _ _ (show ({σ with sc:=σ.sc ++ [[]]}:Cs).vs.length<=n from hσ) e3
   exact h9
  ·obtain ⟨κ,e3,e2⟩:=aa e1;exact FJ hn (ih1 _ _ _ hσ e3) e2
theorem Ic (np:List Nat)(G:Scp):∀(fs:List Fn') (F:Fo) (c:Nat) (a b:List (Int×Int)) (vs:List (List Int)),(∀f∈fs,f.ps.length<=1000000)->dR np G fs F c a=.ok (b,vs)->∀l∈vs,l.length<=1000000:=by
 intro fs
 induction fs with
 |nil=>intro F c a b vs _ e;simp only [dR] at e;cases e;intro l hl;cases hl
 |cons f l ih=>
  intro F c a b vs hf e;cases F with
  |nil=>simp only [dR] at e;cases e;intro l hl;cases hl
  |cons h k r=>
   rw [kR] at e;obtain ⟨x,e1,e⟩:=aa e;obtain ⟨y,e2,e⟩:=aa e;cases e;unfold jT at e1;obtain ⟨lb,-,e1⟩:=aa e1;obtain ⟨τ,e3,e1⟩:=aa e1;cases e1;intro z hz;rcases List.mem_cons.1 hz with rfl|hz
   ·exact Cq _ (by omega) _ _ _ _ (by simpa using hf f (by simp)) e3
   ·exact ih r _ _ _ _ (fun f hf'=>hf f (by simp [hf'])) (show dR np G l r (c+k.size+1) τ.tr=.ok (y.1,y.2) from e2) z hz
theorem EI {pg:Pg}{tr:List (Int×Int)}{vs:List (List Int)}(hf:∀f∈pg.f,f.ps.length<=1000000)(h:aX pg=.ok (tr,vs)):∀l∈vs,l.length<=1000000:=by
 obtain ⟨s,G,-,-,h3,-⟩:=rY h;exact Ic _ _ _ _ _ _ _ _ hf h3
theorem Cx (ns:List CN)(tr:List (Int×Int)):trZ ns tr=((ns.map CN.nd).zip tr).map fun y=>(if y.1.h.op=1 then y.2.1 else 0,0):=by
 unfold trZ;rw [List.zip_map_left,List.map_map]
 rfl
theorem wC {ns ms:List CN}(h:ms.map CN.nd=ns.map CN.nd)(tr:List (Int×Int)):trZ ms tr=trZ ns tr:=by rw [Cx,Cx,h]
structure BdP (pg:Pg):Prop where
 g:pg.g.length<=1000000
 f:pg.f.length<=1000000
 n:pg.t.size<=1000000
 p:∀f∈pg.f,f.ps.length<=1000000
 k:∀n∈pg.t.flat 0,n.kids.length<=1000000
theorem oP.bd {pg:Pg}{gs:List Gl}{fl:List (Fn'×Value)}{ns:List CN}{tr:List (Int×Int)}(h:oP pg gs fl ns tr):BdP pg:=by
 refine ⟨by have:=h.gl.1;rw [h.g] at this;omega,by have:=h.fn.1;omega,by have:=h.sz;omega,fun f hf=>(h.fn.2 f hf).2.1,fun n hn=>?_⟩
 rw [<-h.n] at hn;obtain ⟨x,hx,rfl⟩:=List.mem_map.1 hn;exact (h.nn x hx).2
structure PgU (w:World) (gA fA nA:Option Addr) (gc fc nc:Nat) (pg:Pg) (fl:List (Fn'×Value)) (vls:List Value) (ns:List CN) (tr:List (Int×Int)) (vs:List (List Int)):Prop where
 r:PgR w gA fA nA gc fc nc pg.g fl vls ns tr vs
 f:fl.map (·.1)=pg.f
 n:ns.map CN.nd=pg.t.flat 0
 v:∀l∈vs,l.length<=1000000
section
variable {w:World} {gA fA nA gA' yP zZ:Option Addr} {gc fc nc gc' xS yG:Nat} {pg:Pg} {fl ml:List (Fn'×Value)} {vls yB:List Value} {ns ms:List CN} {tr:List (Int×Int)} {vs:List (List Int)}
theorem PgU.on {w':World}(h:PgU w gA fA nA gc fc nc pg fl vls ns tr vs)(hb:Zw w w'):PgU w' gA fA nA gc fc nc pg fl vls ns tr vs:=⟨h.r.on hb,h.f,h.n,h.v⟩
theorem PgU.lf (h:PgU w gA fA nA gc fc nc pg fl vls ns tr vs):fl.length=pg.f.length:=by have:=congrArg List.length h.f;rwa [List.length_map] at this
theorem PgU.ln (h:PgU w gA fA nA gc fc nc pg fl vls ns tr vs):ns.length=pg.t.size:=by have:=congrArg List.length h.n;rwa [List.length_map,Fo.aD] at this
theorem PgU.pl (h:PgU w gA fA nA gc fc nc pg fl vls ns tr vs)(hB:BdP pg):∀x∈fl,x.1.ps.length<=1000000:=fun x hx=>hB.p _ (by rw [<-h.f];exact List.mem_map_of_mem hx)
theorem PgU.kl (h:PgU w gA fA nA gc fc nc pg fl vls ns tr vs)(hB:BdP pg):∀x∈ns,x.kids.length<=1000000:=fun x hx=>hB.k x.nd (by rw [<-h.n];exact List.mem_map_of_mem hx)
end
theorem FU {l:List UInt8}{pg:Pg}(hl:l.length<=4096)(hr:lH l=some pg){B:Nat}{w:World}{gv fv nv:Value}{fl:List (Fn'×Value)}{ns:List NV}(h:PgM B w pg gv fv nv fl ns) :
  ∃gA fA nA gc fc nc,gv=.slice gA pg.g.length gc/\fv=.slice fA pg.f.length fc/\nv=.slice nA pg.t.size nc/\oP pg pg.g fl (ns.map sj) (ns.map fun x=>(x.h.ty,0))/\
   PgU w gA fA nA gc fc nc pg fl (List.replicate fl.length (Sn)) (ns.map sj) (ns.map fun x=>(x.h.ty,0)) (List.replicate fl.length [])/\trZ (ns.map sj) (ns.map fun x=>(x.h.ty,0))=tr0 (pg.t.flat 0):=by
 obtain ⟨gA,gc,rfl⟩:=bJ h.gs;obtain ⟨fA,fc,rfl⟩:=bJ h.fs;obtain ⟨nA,nc,rfl⟩:=bJ h.rows;have h0:(gm l).2.1=0:=by
  unfold lH at hr;split at hr
  ·cases hr
  ·rename_i h0;simpa using h0
 obtain ⟨s,NQ⟩:∃s,pJ TkV (gm l).1.length pg s:=by
  have hp:=zP (V:=TkV) (ma h0).2.2;unfold lH at hr;rw [if_neg (by simpa using h0)] at hr
  cases hP:eO (gm l).1 with
  |out=>rw [hP] at hr;cases hr
  |er n p=>rw [hP] at hr;cases hr
  |ok q s=>rw [hP] at hr hp;simp only [Option.some.injEq] at hr;subst hr;exact ⟨s,hp⟩
 have hin:=xD h NQ (by have:=(ma h0).2.1;omega)
 have hI:=Dt h;have uo:fl.length=pg.f.length:=by have:=congrArg List.length h.fe;rwa [List.length_map] at this
 have mf:ns.length=pg.t.size:=by have:=congrArg List.length h.nl;rwa [List.length_map,Fo.aD] at this
 refine ⟨gA,fA,nA,gc,fc,nc,rfl,by rw [uo],by rw [mf],hin,⟨⟨hI,by simp,fun j v l h1 h2=>?_⟩,h.fe,by rw [uF];exact h.nl,fun l hl=>by rw [List.eq_of_mem_replicate hl];simp⟩,uD hin (by simp)⟩
 obtain rfl:=List.eq_of_mem_replicate (zG h1);obtain rfl:=List.eq_of_mem_replicate (zG h2);exact RdS.av (World.ownsRow_nil w 0 aC 1)
end
section
open Go Go.RowKit Go.Maps
def Sh (h:Hd):Prop:=(h.op=1->h.ty=1∨h.ty=2)/\(h.op=12->h.to=1∨h.to=2)/\((1<=h.op/\h.op<=8)∨(11<=h.op/\h.op<=21))
def Fo.sh:Fo->Prop
 | .nil=>True
 | .cons h k r=>Sh h/\k.sh/\r.sh
theorem yD {V:Tok->Prop}{it:It}{h:Hd}{n:Nat}(h1:okI V it h n):Sh h:=by
 cases it with
 |e d lv=>
  rcases h1 with ⟨ho,_,⟨t,ht,-,hn,hty⟩,hs,Om⟩|⟨ho,_⟩|⟨ho,_⟩|⟨ho,_⟩|⟨ho,_⟩|⟨ho,_⟩|⟨ho,_⟩|⟨ho,_⟩
  ·refine ⟨fun _=>?_,fun e=>by omega,by omega⟩
   rw [hty];split <;> simp
  all_goals exact ⟨fun e=>by omega,fun e=>by omega,by omega⟩
 |s d cl=>
  obtain ⟨-,hn,-,h1⟩:=h1;rcases h1 with ⟨ho,_⟩|⟨ho,hm,Om⟩|⟨ho,_⟩|⟨ho,_⟩|⟨ho,_⟩|⟨ho,_⟩|⟨ho,_⟩|⟨ho,_⟩|⟨ho,_⟩|⟨ho,_⟩|⟨ho,_⟩
  ·exact ⟨fun e=>by omega,fun e=>by omega,by omega⟩
  ·exact ⟨fun e=>by omega,fun _=>Om,by omega⟩
  all_goals exact ⟨fun e=>by omega,fun e=>by omega,by omega⟩
 |c d=>
  obtain ⟨ho,_⟩:=h1;exact ⟨fun e=>by omega,fun e=>by omega,by omega⟩
theorem Gr.sh {V:Tok->Prop}{x:Fo}:∀{p:List It} {st:Option It},Gr V p st x->x.sh:=by
 induction x with
 |nil=>intro p st _;trivial
 |cons h k r ih1 ih2=>
  intro p st hg;cases p with
  |cons it p=>simp only [Gr] at hg;exact ⟨yD hg.1,ih1 hg.2.1,ih2 hg.2.2⟩
  |nil=>
   cases st with
   |none=>simp [Gr] at hg
   |some it=>simp only [Gr] at hg;exact ⟨yD hg.1,ih1 hg.2.1,ih2 hg.2.2⟩
theorem Bls.sh {V:Tok->Prop}{x:Fo}(hx:Bls V x):x.sh:=by
 induction x with
 |nil=>trivial
 |cons h k r _ ih=>exact ⟨yD hx.2.1,hx.2.2.1.sh,ih hx.2.2.2⟩
theorem qE {α:Type}{l x:List α}{j:Nat}{t:α}(h:l[j]? =some t):(l ++ x)[j]? =some t:=by
 rw [List.getElem?_append_left (zS.1 h).1];exact h
section
variable (gs:List Gl) (fs:List Fn')
def sM (vs:List Int) (rf t:Int):Prop:=(∃j:Nat,rf=j/\vs[j]? =some t)∨∃(j:Nat) (g:Gl),rf= -1 - j/\gs[j]? =some g/\g.n=0/\g.ty=t
def vV (vs:List Int) (x:Nm') (m:Mg):Prop:=
 (m.so=1/\(∃j:Nat,m.rf=j/\vs[j]? =some m.vl)/\(m.vl=1∨m.vl=2))∨
 (m.so=2/\(∃(j:Nat) (g:Gl),m.rf= -1 - j/\gs[j]? =some g/\g.n=0/\g.ty=m.vl)/\(m.vl=1∨m.vl=2))∨
 (m.so=3/\∃(j:Nat) (g:Gl),m.rf=j/\gs[j]? =some g/\1<=g.n/\g.s=x/\m.vl=if g.ty=2 then 2 else 1)∨
 (m.so=4/\∃(j:Nat) (f:Fn'),m.rf=j/\fs[j]? =some f/\f.s=x/\m.vl=f.ty)
def oO (vs:List Int) (s:Scp):Prop:=∀y∈s,vV gs fs vs y.1 y.2
structure Rt (pl:Nat) (vs:List Int) (h:Hd) (kn:Nat) (t:Int×Int):Prop where
 nm:h.op=2->sM gs vs t.2 t.1
 sg:h.op=13->sM gs vs t.2 1∨sM gs vs t.2 2
 lo:h.op=12->(pl:Int)<=t.2/\sM gs vs t.2 h.to
 ar:h.op=3∨h.op=14->∃(j:Nat) (g:Gl),t.2=j/\gs[j]? =some g/\1<=g.n/\g.s=h.s/\(h.op=3->(t.1=2↔g.ty=2))
 ca:h.op=7->∃(j:Nat) (f:Fn'),t.2=j/\fs[j]? =some f/\f.s=h.s/\f.ty=t.1/\f.ps.length=kn
 ex:h.op=5∨h.op=4∨h.op=6∨h.op=1∨h.op=8->t.1=1∨t.1=2
 st:11<=h.op->t.1=0
 op:(1<=h.op/\h.op<=8)∨(11<=h.op/\h.op<=21)
variable {gs fs}
theorem o9 {s:Scp}{x:Nm'}{m:Mg}(h:look s x=some m):(x,m)∈s:=by
 unfold look at h;cases hf:s.find? fun y=>decide (y.1=x) with
 |none=>rw [hf] at h;cases h
 |some p=>
  rw [hf] at h;have h1:=List.find?_some hf;have h2:=List.mem_of_find?_eq_some hf;simp only [decide_eq_true_eq] at h1;cases h;rw [<-h1];exact h2
theorem pq (b:Bool):iol b=1∨iol b=2:=by cases b <;> simp [iol]
structure Stp (gs:List Gl) (fs:List Fn') (σ τ:Cs):Prop where
 vs:∃x,τ.vs=σ.vs ++ x
 sc:∀s∈τ.sc,oO gs fs τ.vs s
def RtF (gs:List Gl) (fs:List Fn') (pl:Nat) (vs:List Int) (tr:List (Int×Int)) (F:Fo) (c:Nat):Prop:=
 ∀j n,(F.flat c)[j]? =some n->∃t,tr[c+j]? =some t/\Rt gs fs pl vs n.h n.kids.length t
def Raw (tr:List (Int×Int)) (F:Fo) (c:Nat):Prop:=∀j n,(F.flat c)[j]? =some n->tr[c+j]? =some (if n.h.op=1 then n.h.ty else 0,0)
theorem jO {h:Hd}{k r:Fo}{c j:Nat}{n:Nd}(hj:(k.flat c)[j]? =some n):((Fo.cons h k r).flat c)[j]? =some n:=by
 rw [Fo.flat];exact qE hj
theorem iN {h:Hd}{k r:Fo}{c:Nat}:((Fo.cons h k r).flat c)[k.size]? =some ⟨h,k.roots c⟩:=by
 rw [Fo.flat,List.getElem?_append_right (by rw [Fo.aD];omega),Fo.aD,Nat.sub_self];rfl
theorem gW {h:Hd}{k r:Fo}{c j:Nat}:((Fo.cons h k r).flat c)[k.size+1+j]? =(r.flat (c+k.size+1))[j]?:=by
 rw [Fo.flat,List.getElem?_append_right (by rw [Fo.aD];omega),Fo.aD,show k.size+1+j - k.size=j+1 by omega,List.getElem?_cons_succ]
theorem jP {h:Hd}{k r:Fo}{c j:Nat}{n:Nd}(hj:((Fo.cons h k r).flat c)[j]? =some n) :
  (j<k.size/\(k.flat c)[j]? =some n)∨(j=k.size/\n=⟨h,k.roots c⟩)∨∃m,j=k.size+1+m/\(r.flat (c+k.size+1))[m]? =some n:=by
 by_cases h1:j<k.size
 ·rw [Fo.flat,List.getElem?_append_left (by rw [Fo.aD];omega)] at hj
  exact .inl ⟨h1,hj⟩
 by_cases h2:j=k.size
 ·subst h2;rw [iN] at hj;exact .inr (.inl ⟨rfl,(Option.some.inj hj).symm⟩)
 ·obtain ⟨m,rfl⟩:∃m,j=k.size+1+m:=⟨j - (k.size+1),by omega⟩
  rw [gW] at hj;exact .inr (.inr ⟨m,rfl,hj⟩)
end
structure M7 (gs:List Gl) (fs:List Fn') (tr:List (Int×Int)) (f:Fn') (vs:List Int) (h:Hd) (k:Fo) (c:Nat):Prop where
 pre:∃x,vs=f.ps.map (·.ty) ++ x
 le:vs.length<=64
 rt:RtF gs fs f.ps.length vs tr (.cons h k .nil) c
structure M8 (pg:Pg) (tr:List (Int×Int)) (vs:List (List Int)):Prop where
 vn:vs.length=pg.f.length
 fn:∀(j:Nat) (f:Fn'),pg.f[j]? =some f->∃(z:List Int) (h:Hd) (k:Fo) (d:Nat),vs[j]? =some z/\f.b=d+k.size/\(∀m n,((Fo.cons h k .nil).flat d)[m]? =some n->(pg.t.flat 0)[d+m]? =some n)/\M7 pg.g pg.f tr f z h k d
 gl:pg.g.Pairwise (fun a b=>a.s≠b.s)
 mn:∃(j:Nat) (f:Fn'),pg.f[j]? =some f/\f.s=bn/\f.ty=1/\f.ps=[]
 fl:pg.f.length<=32
end
section
open Go Go.RowKit Go.Maps
structure Vr where
 s:Nm'
 i:Nat
 b:Int
 deriving DecidableEq
def dN (d:Int×Int) (bad:Bool) (no p:Int):Int×Int:=if bad && decide (d.1=0) then (no,p) else d
def dZ (l:List Gl) (x:Nm'):Option Nat:=l.findIdx? fun g=>decide (g.s=x)
def eY (l:List Fn') (x:Nm'):Option Nat:=l.findIdx? fun f=>decide (f.s=x)
def oI:Option Nat->Int
 |some i=>i
 |none=> -1
def gy (L:List Vr) (x:Nm'):Option Nat:=(L.reverse.find? fun y=>decide (y.s=x)).map (·.i)
def cK (gs:List Gl) (fs:List Fn') (L:List Vr) (x:Nm'):Bool:=(gy L x).isSome || ((dZ gs x).isSome || (eY fs x).isSome)
section
variable (gs:List Gl) (fs:List Fn')
def dA (vs:List Int) (L:List Vr) (h:Hd) (d:Int×Int):(Int×Int)×Int×Int:=
 match gy L h.s with
 |some v=>(dN d (!cK gs fs L h.s) 4 h.p,v,vs.getD v 0)
 |none=>match (dZ gs h.s).bind fun g=>(gs[g]?).map fun x=>(g,x) with
  |none=>(dN (dN d (!cK gs fs L h.s) 4 h.p) true 6 h.p,0,1)
  |some (g,x)=>if 0<x.n then (dN (dN d (!cK gs fs L h.s) 4 h.p) true 6 h.p,0,1) else (dN d (!cK gs fs L h.s) 4 h.p,-1 - (g:Int),x.ty)
def eQ (L:List Vr) (h:Hd) (d:Int×Int):(Int×Int)×Int×Int:=
 match gy L h.s with
 |some _=>(dN (dN d (!cK gs fs L h.s) 4 h.p) true 6 h.p,0,1)
 |none=>match (dZ gs h.s).bind fun g=>(gs[g]?).map fun x=>(g,x) with
  |none=>(dN (dN d (!cK gs fs L h.s) 4 h.p) true 6 h.p,0,1)
  |some (g,x)=>if x.n=0 then (dN (dN d (!cK gs fs L h.s) 4 h.p) true 6 h.p,0,1) else (dN d (!cK gs fs L h.s) 4 h.p,(g:Int),if x.ty=2 then 2 else 1)
def aN (tr:List (Int×Int)) (p:Int):List Nat->Int×Int->Int×Int
 | [],d=>d
 |k ::l,d=>aN tr p l (dN d (decide (dJ tr k=0)) 6 p)
def xU (s:List UInt8) (a b:Int):Int:=if s∈iC then 1 else if s=[60,60]∨s=[62,62]∨a=2 then a else b
def kP (tr:List (Int×Int)) (L:List Vr) (h:Hd) (ks:List Nat) (t d:Int×Int):(Int×Int)×Int×Int:=
 match gy L h.s with
 |some _=>(t,dN (dN d (!cK gs fs L h.s) 4 h.p) true 6 h.p)
 |none=>match (eY fs h.s).bind fun f=>(fs[f]?).map fun x=>(f,x) with
  |none=>(t,dN (dN d (!cK gs fs L h.s) 4 h.p) true 6 h.p)
  |some (f,x)=>((x.ty,(f:Int)),aN tr h.p ks (dN (dN d (!cK gs fs L h.s) 4 h.p) (decide (ks.length≠x.ps.length)) 7 h.p))
def fO (tr:List (Int×Int)) (vs:List Int) (L:List Vr) (h:Hd) (ks:List Nat) (t d:Int×Int):(Int×Int)×Int×Int:=
 if h.op=8 then ((2,t.2),d)
 else if h.op=2 then (((dA gs fs vs L h d).2.2,(dA gs fs vs L h d).2.1),(dA gs fs vs L h d).1)
 else if h.op=3 then (((eQ gs fs L h d).2.2,(eQ gs fs L h d).2.1),aN tr h.p (ks.take 1) (eQ gs fs L h d).1)
 else if h.op=4 then ((if h.s=[33] then 1 else dJ tr (kid ks 0),t.2),aN tr h.p (ks.take 1) d)
 else if h.op=6 then ((if h.to=2 then 2 else 1,t.2),aN tr h.p (ks.take 1) d)
 else if h.op=5 then ((xU h.s (dJ tr (kid ks 0)) (dJ tr (kid ks 1)),t.2),aN tr h.p (ks.take 2) d)
 else if h.op=7 then kP gs fs tr L h ks t d
 else (t,d)
end
abbrev tCr:TypeId:=73
abbrev tVr:TypeId:=112
def vrC (y:Vr):List Value:=[.string (str y.s),Iv (y.i:Nat),Iv y.b]
structure RX where
 B:Nat
 b:Nat
 gA:Option Addr
 gc:Nat
 fA:Option Addr
 fc:Nat
 nA:Option Addr
 nc:Nat
 gs:List Gl
 fl:List (Fn'×Value)
 ns:List CN
structure RS where
 F:Nat
 H:Nat
 L:List Vr
 lv:Value
 deep:Int
 d:Int×Int
 tr:List (Int×Int)
 vls:List Value
 vs:List (List Int)
abbrev crp (X:RX):Value:=.pointer (some ⟨X.b,0,none⟩)
def gu (X:RX) (S:RS):Array Value:=#[.slice X.gA X.gs.length X.gc,.slice X.fA X.fl.length X.fc,.slice X.nA X.ns.length X.nc,Iv (S.F:Nat),S.lv,Iv S.deep,Iv S.d.1,Iv S.d.2]
structure RV (X:RX) (S:RS) (w:World):Prop where
 chk:Blk w X.b tCr (gu X S)
 g:w.ownsRow X.B tGb 4 (.slice X.gA X.gs.length X.gc) X.gs.length (X.gs.flatMap glC)
 f:w.ownsRow X.B tFu 6 (.slice X.fA X.fl.length X.fc) X.fl.length (dE X.fl S.vls)
 n:w.ownsRow X.B tNd 8 (.slice X.nA X.ns.length X.nc) X.ns.length (aI X.ns S.tr)
 l:w.ownsRow X.B tVr 3 S.lv S.L.length (S.L.flatMap vrC)
 ps:∀x∈X.fl,w.ownsRow X.B tPr 2 x.2 x.1.ps.length (x.1.ps.flatMap cz)
 ks:∀x∈X.ns,lM w X.B S.H aC 1 x.v x.kids.length (ints (bK x.kids))
 cur:∀(v:Value) (l:List Int),S.vls[S.F]? =some v->S.vs[S.F]? =some l->w.ownsRow S.H aC 1 v l.length (ints l)
 old:∀(j:Nat) (v:Value) (l:List Int),j≠S.F->S.vls[j]? =some v->S.vs[j]? =some l->lM w X.B S.H aC 1 v l.length (ints l)
 vl:S.vls.length=X.fl.length
 vn:S.vs.length=X.fl.length
 tl:S.tr.length=X.ns.length
 hB:X.B<=X.b/\X.B<=S.H/\S.H<=w.heap.size
section
variable {X:RX} {S:RS} {w w':World}
theorem RV.grown (h:RV X S w)(hg:w.grownBy w' none):RV X S w' where
 chk:=ak hg h.chk (by simp)
 g:=ah hg h.g (by simp)
 f:=ah hg h.f (by simp)
 n:=ah hg h.n (by simp)
 l:=ah hg h.l (by simp)
 ps:=fun x hx=>ah hg (h.ps x hx) (by simp)
 ks:=fun x hx=>az hg (h.ks x hx) (by simp)
 cur:=fun v l h1 h2=>ah hg (h.cur v l h1 h2) (by simp)
 old:=fun j v l h0 h1 h2=>az hg (h.old j v l h0 h1 h2) (by simp)
 vl:=h.vl
 vn:=h.vn
 tl:=h.tl
 hB:=⟨h.hB.1,h.hB.2.1,Nat.le_trans h.hB.2.2 hg.size⟩
theorem RV.on (h:RV X S w)(hb:Zw w w'):RV X S w':=h.grown (aj hb)
theorem RV.alloc (h:RV X S w)(o:Obj):RV X S (w.alloc o):=h.on ((zB _ _).alloc (zL _) o)
theorem RV.drew (h:RV X S w):RV X S w.drew:=h.on ⟨rfl,rfl,rfl,Nat.le_refl _,fun _ _=>rfl⟩
theorem RV.own (h:RV X S w){j:Nat}{u:Value}{S':RS}(hc:gu X S'=(gu X S).setIfInBounds j u)(h1:S'.F=S.F)(h2:S'.H=S.H)(h3:S'.L=S.L)(h4:S'.lv=S.lv)(h5:S'.tr=S.tr)(h6:S'.vls=S.vls)(h7:S'.vs=S.vs) :
  RV X S' (w.setCell ⟨X.b,j,none⟩ u)/\w.grownBy (w.setCell ⟨X.b,j,none⟩ u) (some X.b):=by
 have hk:Kind w X.b tCr:=h.chk.kind;have hg:w.grownBy (w.setCell ⟨X.b,j,none⟩ u) (some X.b):=⟨rfl,rfl,rfl,by simp,fun k _ hk=>heap_setCell_other w ⟨X.b,j,none⟩ k u (fun e=>hk (by simp [e]))⟩
 have hr:∀{base sz n:Nat} {T:TypeId} {v:Value} {xs:List Value},w.ownsRow base T sz v n xs->T≠tCr->∀r,some X.b=some r->v.ownBlock≠some r:=by
  intro base sz n T v xs h1 hT r hr e;cases hr;exact au (ag h1 e) hk hT rfl
 obtain ⟨F,H,L,lv,deep,d,tr,vls,vs⟩:=S';simp only at h1 h2 h3 h4 h5 h6 h7;subst h1 h2 h3 h4 h5 h6 h7;refine ⟨?_,hg⟩;exact {
  chk:=by rw [hc];exact h.chk.af j u
  g:=ah hg h.g (hr h.g (by decide))
  f:=ah hg h.f (hr h.f (by decide))
  n:=ah hg h.n (hr h.n (by decide))
  l:=ah hg h.l (hr h.l (by decide))
  ps:=fun x hx=>ah hg (h.ps x hx) (hr (h.ps x hx) (by decide))
  ks:=fun x hx=>az hg (h.ks x hx) (hr (h.ks x hx).1 (by decide))
  cur:=fun v l h1 h2=>ah hg (h.cur v l h1 h2) (hr (h.cur v l h1 h2) (by decide))
  old:=fun j v l h0 h1 h2=>az hg (h.old j v l h0 h1 h2) (hr (h.old j v l h0 h1 h2).1 (by decide))
  vl:=h.vl
  vn:=h.vn
  tl:=h.tl
  hB:=by have:=h.hB;simp;omega}
theorem fG {w1 w2 w3:World}{r:Option Nat}(h1:w1.grownBy w2 r)(h2:w2.grownBy w3 r):w1.grownBy w3 r:=
 ⟨h2.os.trans h1.os,h2.tape.trans h1.tape,h2.output.trans h1.output,Nat.le_trans h1.size h2.size,fun k hk hn=>(h2.block k (zT hk h1.size) hn).trans (h1.block k hk hn)⟩
theorem kK {w1 w2:World}{B k:Nat}(h:w1.grownBy w2 (some k))(hk:B<=k)(hB:B<=w1.heap.size):Below B w1 w2:=
 ⟨h.os,h.tape,h.output,h.size,fun m hm=>h.block m (by omega) (by intro e;simp at e;omega)⟩
theorem RV.dg (h:RV X S w)(a b:Int):RV X {S with d:=(a,b)} ((w.setCell ⟨X.b,6,none⟩ (Iv a)).setCell ⟨X.b,7,none⟩ (Iv b))/\w.grownBy ((w.setCell ⟨X.b,6,none⟩ (Iv a)).setCell ⟨X.b,7,none⟩ (Iv b)) (some X.b):=by
 obtain ⟨h1,g1⟩:=h.own (j:=6) (u:=Iv a) (S':={S with d:=(a,S.d.2)}) (by simp [gu]) rfl rfl rfl rfl rfl rfl rfl
 obtain ⟨h2,g2⟩:=h1.own (j:=7) (u:=Iv b) (S':={S with d:=(a,b)}) (by simp [gu]) rfl rfl rfl rfl rfl rfl rfl
 exact ⟨h2,fG g1 g2⟩
end
section
variable {X:RX} {S:RS} {w:World}
theorem RV.c0 (h:RV X S w):Ce w X.b 0 (.slice X.gA X.gs.length X.gc):=h.chk.cell 0
theorem RV.c1 (h:RV X S w):Ce w X.b 1 (.slice X.fA X.fl.length X.fc):=h.chk.cell 1
theorem RV.c2 (h:RV X S w):Ce w X.b 2 (.slice X.nA X.ns.length X.nc):=h.chk.cell 2
theorem RV.c3 (h:RV X S w):Ce w X.b 3 (Iv (S.F:Nat)):=h.chk.cell 3
theorem RV.c4 (h:RV X S w):Ce w X.b 4 S.lv:=h.chk.cell 4
theorem RV.c5 (h:RV X S w):Ce w X.b 5 (Iv S.deep):=h.chk.cell 5
theorem RV.c6 (h:RV X S w):Ce w X.b 6 (Iv S.d.1):=h.chk.cell 6
theorem RV.c7 (h:RV X S w):Ce w X.b 7 (Iv S.d.2):=h.chk.cell 7
theorem Ka (h:RV X S w)(bad:Bool)(no p:Int):Calls prog 31 #[crp X,.bool bad,Iv no,Iv p] w fun e w'=>e=.returned (.tuple #[])/\RV X {S with d:=dN S.d bad no p} w'/\w.grownBy w' (some X.b):=by
 have Q3:w.grownBy w (some X.b):=⟨rfl,rfl,rfl,Nat.le_refl _,fun _ _ _=>rfl⟩
 have hl:=h.chk.lt;have c6:=h.c6;have fz:=h.chk.frozen;have c7:=h.c7;cases bad with
 |false=>
  have HX:=Hy2 h Q3;clear h Q3;go_enter func31,ntmps31;go_wp2_with fail;go_end0;exact ⟨rfl,HX.out.1,HX.out.2⟩
 |true=>
  by_cases h0:S.d.1=0
  ·have HX:=Hy (h.dg no p);have e:dN S.d true no p=(no,p):=by simp [dN,h0]
   rw [e];rw [h0] at c6;have f6:=fz 6;have f7:=fz 7;clear h Q3 h0 e fz;go_enter func31,ntmps31;go_wp2_with fail;go_end0;exact ⟨rfl,HX.out.1,HX.out.2⟩
  ·have HX:=Hy2 h Q3;have e:dN S.d true no p=S.d:=by simp [dN,h0]
   rw [e];obtain ⟨d1,Ja⟩:=zN S.d.1;rw [Ja] at c6 h0;clear h Q3 e Ja;go_enter func31,ntmps31;go_wp2_with fail;go_end0;exact ⟨rfl,HX.out.1,HX.out.2⟩
end
end
section
open Go Go.RowKit Go.Maps
structure Rst where
 tr:List (Int×Int)
 L:List Vr
 deep:Int
 vs:List Int
 d:Int×Int
def twR (deep:Int) (x:Nm') (p:Int):List Vr->Int×Int->Int×Int
 | [],d=>d
 |y ::l,d=>twR deep x p l (dN d (decide (y.b=deep) && decide (y.s=x)) 5 p)
def l8 (h:Hd) (ks:List Nat) (t:Int×Int) (s:Rst):(Int×Int)×Rst:=
 ((t.1,(s.vs.length:Int)),{s with d:=dN (twR s.deep h.s h.p s.L (aN s.tr h.p (ks.take 1) s.d)) (decide (64<=s.vs.length)) 9 h.p,L:=s.L ++ [⟨h.s,s.vs.length,s.deep⟩],vs:=s.vs ++ [h.to]})
section
variable (gs:List Gl) (fs:List Fn') (ft:Int) (lab:Nm'->Nat)
def dM (h:Hd) (ks:List Nat) (t:Int×Int) (s:Rst):(Int×Int)×Rst:=
 if h.op=12 then l8 h ks t s
 else if h.op=13 then ((t.1,(dA gs fs s.vs s.L h s.d).2.1),{s with d:=aN s.tr h.p (ks.take 1) (dA gs fs s.vs s.L h s.d).1})
 else if h.op=14 then ((t.1,(eQ gs fs s.L h s.d).2.1),{s with d:=aN s.tr h.p (ks.take 2) (eQ gs fs s.L h s.d).1})
 else if h.op=15∨h.op=16∨h.op=20 then (t,{s with d:=aN s.tr h.p (ks.take 1) s.d})
 else if h.op=17 then (t,{s with d:=dN s.d (decide (lab h.s=0)) 8 h.p})
 else if h.op=19 then (t,{s with d:=aN s.tr h.p ks (dN s.d (decide (0<ks.length) == decide (ft=0)) 6 h.p)})
 else (t,s)
def bZ (h:Hd) (ks:List Nat) (i:Nat) (s:Rst):Rst:=
 {(dM gs fs ft lab h ks (fO gs fs s.tr s.vs s.L h ks (s.tr.getD i (0,0)) s.d).1 {s with d:=(fO gs fs s.tr s.vs s.L h ks (s.tr.getD i (0,0)) s.d).2}).2 with
  tr:=s.tr.set i (dM gs fs ft lab h ks (fO gs fs s.tr s.vs s.L h ks (s.tr.getD i (0,0)) s.d).1 {s with d:=(fO gs fs s.tr s.vs s.L h ks (s.tr.getD i (0,0)) s.d).2}).1}
def fC (had:Nat) (s:Rst):Rst:={s with deep:=s.deep - 1,L:=if 0<s.deep - 1 then s.L.take had else s.L}
def aQ:Fo->Nat->Rst->Rst
 | .nil,_,s=>s
 | .cons h k r,c,s=>
  aQ r (c+k.size+1) (if s.d.1≠0 then s else
   if h.op=11 then (if (aQ k c {s with deep:=s.deep+1}).d.1=0 then bZ gs fs ft lab h (k.roots c) (c+k.size) (fC s.L.length (aQ k c {s with deep:=s.deep+1})) else fC s.L.length (aQ k c {s with deep:=s.deep+1}))
   else (if (aQ k c s).d.1=0 then bZ gs fs ft lab h (k.roots c) (c+k.size) (aQ k c s) else aQ k c s))
end
theorem cZ {d:Int×Int}(h:d.1≠0)(b:Bool)(n p:Int):dN d b n p=d:=by unfold dN;simp [h]
theorem bP (d:Int×Int)(n p:Int):dN d false n p=d:=by simp [dN]
theorem dX {d:Int×Int}(h:d.1=0)(n p:Int):dN d true n p=(n,p):=by simp [dN,h]
theorem iG (tr:List (Int×Int))(p:Int):∀(l:List Nat) (d:Int×Int),d.1≠0->aN tr p l d=d:=by
 intro l
 induction l with
 |nil=>intro d _;rfl
 |cons k l ih=>intro d h;rw [aN,cZ h,ih d h]
theorem I9 (deep:Int)(x:Nm')(p:Int):∀(l:List Vr) (d:Int×Int),twR deep x p l d=dN d (l.any fun y=>decide (y.b=deep) && decide (y.s=x)) 5 p:=by
 intro l
 induction l with
 |nil=>intro d;simp [twR,dN]
 |cons y l ih=>
  intro d;rw [twR,ih,List.any_cons];cases decide (y.b=deep) && decide (y.s=x)
  ·rw [bP,Bool.false_or]
  ·rw [Bool.true_or];by_cases h:d.1=0
   ·rw [dX h,cZ (by simp)]
   ·rw [cZ h,cZ h]
def TyW (tr:List (Int×Int)):Prop:=∀t∈tr,t.1=0∨t.1=1∨t.1=2
theorem TyW.at {tr:List (Int×Int)}(h:TyW tr)(k:Nat):dJ tr k=0∨dJ tr k=1∨dJ tr k=2:=by
 unfold dJ;cases hk:tr[k]? with
 |none=>simp [List.getD,hk]
 |some t=>simp only [List.getD,hk,Option.getD_some];exact h t (zG hk)
theorem BI {tr:List (Int×Int)}(h:TyW tr)(k:Nat):ji (dJ tr k)= !decide (dJ tr k=0):=by
 rcases h.at k with e|e|e <;> rw [e] <;> rfl
theorem Fa {tr:List (Int×Int)}(h:TyW tr)(p:Int):∀ks:List Nat,aN tr p ks (0,0)=if ks.all (fun k=>ji (dJ tr k)) then (0,0) else (6,p):=by
 intro ks
 induction ks with
 |nil=>rfl
 |cons k l ih=>
  rw [aN,List.all_cons,BI h];by_cases e:dJ tr k=0
  ·rw [decide_eq_true e,dX rfl,iG _ _ _ _ (by simp)]
   simp
  ·rw [decide_eq_false e,bP,ih];simp
def NH {α:Type} (r:Ck α) (d:Int×Int):Prop:=
 match r with
 | .ok _=>d=(0,0)
 | .er n p=>d=(n,p)/\n≠0
theorem uz {tr:List (Int×Int)}(h:TyW tr)(p:Int)(ks:List Nat):NH (aO p tr ks) (aN tr p ks (0,0)):=by
 rw [Fa h];unfold aO;cases ks.all fun k=>ji (dJ tr k)
 ·exact ⟨rfl,by decide⟩
 ·rfl
def dH:List Scp->Int->List Vr
 | [],_=>[]
 |s ::r,b=>(s.reverse.map fun y=>⟨y.1,y.2.rf.toNat,b⟩) ++ dH r (b+1)
theorem jQ:∀(l:List Scp) (b:Int) (s:Scp),dH (l ++ [s]) b=dH l b ++ s.reverse.map fun y=>(⟨y.1,y.2.rf.toNat,b+l.length⟩:Vr):=by
 intro l
 induction l with
 |nil=>intro b s;simp [dH]
 |cons a l ih=>
  intro b s;rw [List.cons_append,dH,ih,dH,List.append_assoc,List.length_cons];rw [show b+1+(l.length:Int)=b+((l.length+1:Nat):Int) by omega]
theorem DZ (s:Scp)(b:Int)(x:Nm'):((s.map fun y=>(⟨y.1,y.2.rf.toNat,b⟩:Vr)).find? fun y=>decide (y.s=x)).map (·.i)=(look s x).map fun m=>m.rf.toNat:=by
 unfold look
 induction s with
 |nil=>rfl
 |cons y l ih=>
  rw [List.map_cons,List.find?_cons,List.find?_cons];by_cases e:y.1=x
  ·simp [e]
  ·simp only [e,decide_false];exact ih
theorem Cu (a c:List Vr)(x:Nm'):gy (a ++ c) x=(gy c x).or (gy a x):=by
 unfold gy;rw [List.reverse_append,List.find?_append];cases c.reverse.find? fun y=>decide (y.s=x) <;> simp
theorem oU:∀(l:List Scp) (b:Int) (x:Nm'),gy (dH l b) x=(l.reverse.findSome? fun s=>look s x).map fun m=>m.rf.toNat:=by
 intro l
 induction l with
 |nil=>intro b x;rfl
 |cons s l ih=>
  intro b x;rw [dH,Cu,ih,List.reverse_cons,List.findSome?_append];have h1:gy (s.reverse.map fun y=>(⟨y.1,y.2.rf.toNat,b⟩:Vr)) x=(look s x).map fun m=>m.rf.toNat:=by
   unfold gy;rw [<-List.map_reverse,List.reverse_reverse];exact DZ s b x
  rw [h1];cases l.reverse.findSome? fun s=>look s x <;> simp
theorem ll (G:Scp)(l:List Scp)(x:Nm'):fE (G ::l) x=(l.reverse.findSome? fun s=>look s x).or (look G x):=by
 unfold fE;rw [List.reverse_cons,List.findSome?_append];cases l.reverse.findSome? fun s=>look s x <;> simp
structure GOk (gs:List Gl) (fs:List Fn') (G:Scp):Prop where
 no:∀x,look G x=none->dZ gs x=none/\eY fs x=none
 yes:∀x m,look G x=some m->(∃i g,dZ gs x=some i/\gs[i]? =some g/\m=gMg g i)∨(dZ gs x=none/\∃i f,eY fs x=some i/\fs[i]? =some f/\m=⟨4,i,f.ty⟩)
section
variable {gs:List Gl} {fs:List Fn'} {G:Scp} {scs:List Scp} {vs:List Int}
def nI (scs:List Scp) (vs:List Int):Prop:=∀s∈scs,∀y∈s,y.2.so=1/\(∃j:Nat,y.2.rf=j/\vs[j]? =some y.2.vl)/\(y.2.vl=1∨y.2.vl=2)
theorem nI.find (h:nI scs vs){x:Nm'}{m:Mg}(e:(scs.reverse.findSome? fun s=>look s x)=some m):m.so=1/\(∃j:Nat,m.rf=j/\vs[j]? =some m.vl)/\(m.vl=1∨m.vl=2):=by
 obtain ⟨s,hs,hx⟩:=List.exists_of_findSome?_eq_some e;exact h s (List.mem_reverse.1 hs) _ (o9 hx)
theorem sW (hG:GOk gs fs G)(hV:nI scs vs)(qm:∀g∈gs,0<=g.n)(h:Hd) :
  match aW h [1,2] (G ::scs) with
  | .ok m=>dA gs fs vs (dH scs 1) h (0,0)=((0,0),m.rf,m.vl)
  | .er n p=>(dA gs fs vs (dH scs 1) h (0,0)).1=(n,p)/\n≠0:=by
 have hv:=oU scs 1 h.s;unfold aW;rw [ll];cases hf:scs.reverse.findSome? fun s=>look s h.s with
 |some m=>
  rw [hf] at hv;obtain ⟨h1,⟨j,h2,h3⟩,-⟩:=hV.find hf;simp only [Option.some_or,h1];rw [if_pos (by simp)]
  have CY:gy (dH scs 1) h.s=some j:=by rw [hv];simp [h2]
  unfold dA cK;rw [CY];simp [dN,h2,List.getD,h3]
 |none=>
  rw [hf] at hv;have CY:gy (dH scs 1) h.s=none:=by rw [hv];rfl
  simp only [Option.none_or];cases hl:look G h.s with
  |none=>
   obtain ⟨a1,a2⟩:=hG.no _ hl;simp only;unfold dA cK;rw [CY,a1,a2];simp [dN]
  |some m=>
   rcases hG.yes _ _ hl with ⟨i,g,a1,a2,rfl⟩|⟨a1,i,f,a2,a3,rfl⟩
   ·have Qm:=qm g (zG a2);simp only;unfold dA cK;rw [CY,a1];simp only [Option.bind_some,a2,Option.map_some,Option.isSome_none,Option.isSome_some,Bool.true_or,Bool.or_true,Bool.not_true,bP];by_cases e:g.n=0
    ·have:gMg g i=⟨2,-1 - i,g.ty⟩:=by unfold gMg;rw [if_pos e]
     rw [this];simp [e]
    ·have:gMg g i=⟨3,i,if g.ty=2 then 2 else 1⟩:=by unfold gMg;rw [if_neg e]
     have hp:0<g.n:=by omega
     rw [this];simp [dN,hp]
   ·simp only;unfold dA cK;rw [CY,a1,a2];simp [dN]
theorem xW (hG:GOk gs fs G)(hV:nI scs vs)(h:Hd) :
  match aW h [3] (G ::scs) with
  | .ok m=>eQ gs fs (dH scs 1) h (0,0)=((0,0),m.rf,m.vl)
  | .er n p=>(eQ gs fs (dH scs 1) h (0,0)).1=(n,p)/\n≠0:=by
 have hv:=oU scs 1 h.s;unfold aW;rw [ll];cases hf:scs.reverse.findSome? fun s=>look s h.s with
 |some m=>
  rw [hf] at hv;obtain ⟨h1,⟨j,h2,h3⟩,-⟩:=hV.find hf;simp only [Option.some_or,h1];rw [if_neg (by simp)]
  have CY:gy (dH scs 1) h.s=some j:=by rw [hv];simp [h2]
  unfold eQ cK;rw [CY];simp [dN]
 |none=>
  rw [hf] at hv;have CY:gy (dH scs 1) h.s=none:=by rw [hv];rfl
  simp only [Option.none_or];cases hl:look G h.s with
  |none=>
   obtain ⟨a1,a2⟩:=hG.no _ hl;simp only;unfold eQ cK;rw [CY,a1,a2];simp [dN]
  |some m=>
   rcases hG.yes _ _ hl with ⟨i,g,a1,a2,rfl⟩|⟨a1,i,f,a2,a3,rfl⟩
   ·simp only;unfold eQ cK;rw [CY,a1];simp only [Option.bind_some,a2,Option.map_some,Option.isSome_none,Option.isSome_some,Bool.true_or,Bool.or_true,Bool.not_true,bP];by_cases e:g.n=0
    ·have:gMg g i=⟨2,-1 - i,g.ty⟩:=by unfold gMg;rw [if_pos e]
     rw [this,if_pos e];simp [dN]
    ·have:gMg g i=⟨3,i,if g.ty=2 then 2 else 1⟩:=by unfold gMg;rw [if_neg e]
     rw [this,if_neg e];simp
   ·simp only;unfold eQ cK;rw [CY,a1,a2];simp [dN]
theorem Hw (hG:GOk gs fs G)(hD:∀x i,dZ gs x=some i->eY fs x=none)(hV:nI scs vs){tr tr':List (Int×Int)}(hT:TyW tr)(h:Hd)(ks:List Nat)(t:Int×Int)(htr:∀k∈ks,dJ tr' k=dJ tr k)(Xc:TyW tr') :
  match (aW h [4] (G ::scs)).bind fun m=>(refuse (decide (ks.length≠(fs.map fun f=>f.ps.length).getD m.rf.toNat 0)) 7 h.p).bind fun _=>(aO h.p tr' ks).bind fun _=>.ok m with
  | .ok m=>kP gs fs tr (dH scs 1) h ks t (0,0)=((m.vl,m.rf),(0,0))
  | .er n p=>(kP gs fs tr (dH scs 1) h ks t (0,0)).2=(n,p)/\n≠0:=by
 have hv:=oU scs 1 h.s;have hvals:aO h.p tr' ks=aO h.p tr ks:=by
  unfold aO
  congr 2
  rw [Bool.eq_iff_iff,List.all_eq_true,List.all_eq_true];exact ⟨fun hh k hk=>by rw [<-htr k hk];exact hh k hk,fun hh k hk=>by rw [htr k hk];exact hh k hk⟩
 rw [show (fun m:Mg=>(refuse (decide (ks.length≠(fs.map fun f=>f.ps.length).getD m.rf.toNat 0)) 7 h.p).bind fun _=>(aO h.p tr' ks).bind fun _=>Ck.ok m)=fun m:Mg=>(refuse (decide (ks.length≠(fs.map fun f=>f.ps.length).getD m.rf.toNat 0)) 7 h.p).bind fun _=>(aO h.p tr ks).bind fun _=>Ck.ok m by rw [hvals]]
 unfold aW;rw [ll];cases hf:scs.reverse.findSome? fun s=>look s h.s with
 |some m=>
  rw [hf] at hv;obtain ⟨h1,⟨j,h2,h3⟩,-⟩:=hV.find hf;simp only [Option.some_or,h1];rw [if_neg (by simp)]
  have CY:gy (dH scs 1) h.s=some j:=by rw [hv];simp [h2]
  unfold kP cK;rw [CY];simp [dN]
 |none=>
  rw [hf] at hv;have CY:gy (dH scs 1) h.s=none:=by rw [hv];rfl
  simp only [Option.none_or];cases hl:look G h.s with
  |none=>
   obtain ⟨a1,a2⟩:=hG.no _ hl;simp only [Ck.aB];unfold kP cK;rw [CY,a1,a2];simp [dN]
  |some m=>
   rcases hG.yes _ _ hl with ⟨i,g,a1,a2,rfl⟩|⟨a1,i,f,a2,a3,rfl⟩
   ·have PY:(gMg g i).so≠4:=by unfold gMg;split <;> simp
    simp only;rw [if_neg (by simpa using PY)]
    simp only [Ck.aB];unfold kP cK;rw [CY,a1];have hno:eY fs h.s=none:=hD _ _ a1;rw [hno];simp [dN]
   ·simp only;rw [if_pos (by simp)]
    simp only [Ck.bind_ok];unfold kP cK;rw [CY,a1,a2];simp only [Option.bind_some,a3,Option.map_some,Option.isSome_none,Option.isSome_some,Bool.false_or,Bool.or_true,Bool.not_true,bP];have WS:(fs.map fun f=>f.ps.length).getD (i:Int).toNat 0=f.ps.length:=by simp [List.getD,a3]
    rw [WS];cases hn:decide (ks.length≠f.ps.length) with
    |true=>
     simp only [iT,Ck.aB];rw [dX rfl,iG _ _ _ _ (by simp)]
     exact ⟨rfl,by decide⟩
    |false=>
     simp only [iq,Ck.bind_ok,bP];have h9:=uz hT h.p ks;cases LA:aO h.p tr ks with
     |ok u=>rw [LA] at h9;simp only [Ck.bind_ok];rw [show aN tr h.p ks (0,0)=(0,0) from h9]
     |er n p=>rw [LA] at h9;exact h9
end
end
section
open Go Go.RowKit Go.Maps
theorem TyW.set {tr:List (Int×Int)}(h:TyW tr)(i:Nat){t:Int×Int}(ht:t.1=0∨t.1=1∨t.1=2):TyW (tr.set i t):=by
 intro u hu;rcases List.mem_or_eq_of_mem_set hu with hu|rfl
 ·exact h u hu
 ·exact ht
theorem wB {tr:List (Int×Int)}{i k:Nat}(h:k≠i)(t:Int×Int):dJ (tr.set i t) k=dJ tr k:=by
 unfold dJ;simp only [List.getD,List.getElem?_set_ne (fun e=>h e.symm)]
theorem nM {tr:List (Int×Int)}{i:Nat}{ks:List Nat}(h:∀k∈ks,k<i)(t:Int×Int)(p:Int):aO p (tr.set i t) ks=aO p tr ks:=by
 unfold aO
 congr 2
 rw [Bool.eq_iff_iff,List.all_eq_true,List.all_eq_true];exact ⟨fun hh k hk=>by rw [<-wB (i:=i) (by have:=h k hk;omega) t];exact hh k hk,fun hh k hk=>by rw [wB (by have:=h k hk;omega)];exact hh k hk⟩
structure Rel (G:Scp) (σ:Cs) (scs:List Scp) (s:Rst):Prop where
 tr:s.tr=σ.tr
 vs:s.vs=σ.vs
 sc:σ.sc=G ::scs
 dp:s.deep=scs.length
 L:s.L=dH scs 1
 d:s.d=(0,0)
 va:nI scs σ.vs
 ty:TyW σ.tr
 ne:scs≠[]
section
variable {gs:List Gl} {fs:List Fn'} {G:Scp} {K:Kn} {lab:Nm'->Nat}
structure EvR (gs:List Gl) (fs:List Fn') (G:Scp) (K:Kn) (lab:Nm'->Nat):Prop where
 G:GOk gs fs G
 D:∀x i,dZ gs x=some i->eY fs x=none
 gn:∀g∈gs,0<=g.n
 gt:∀g∈gs,g.n=0->g.ty=1∨g.ty=2
 ft:∀f∈fs,f.ty=0∨f.ty=1∨f.ty=2
 np:K.np=fs.map fun f=>f.ps.length
 lb:∀x,lab x=0↔x ∉ K.lb
theorem qX (E:EvR gs fs G K lab){scs:List Scp}{vs:List Int}(hV:nI scs vs){h:Hd}{so:List Int}{m:Mg}(e:aW h so (G ::scs)=.ok m):m.vl=0∨m.vl=1∨m.vl=2:=by
 unfold aW at e;rw [ll] at e;cases hf:scs.reverse.findSome? fun s=>look s h.s with
 |some m'=>
  obtain ⟨-,-,h3⟩:=hV.find hf;rw [hf] at e;simp only [Option.some_or] at e;split at e
  ·cases e;exact .inr h3
  ·cases e
 |none=>
  rw [hf] at e;simp only [Option.none_or] at e;cases hl:look G h.s with
  |none=>rw [hl] at e;cases e
  |some m'=>
   rw [hl] at e;simp only at e;split at e
   ·cases e;rcases E.G.yes _ _ hl with ⟨i,g,a1,a2,rfl⟩|⟨a1,i,f,a2,a3,rfl⟩
    ·unfold gMg;split
     ·rename_i h0;exact .inr (E.gt g (zG a2) h0)
     ·simp only;split <;> simp
    ·exact E.ft f (zG a3)
   ·cases e
theorem Gb {ft:Int}{h:Hd}{ks:List Nat}{i:Nat}{s:Rst}(ho:h.op<11):bZ gs fs ft lab h ks i s={s with d:=(fO gs fs s.tr s.vs s.L h ks (s.tr.getD i (0,0)) s.d).2,tr:=s.tr.set i (fO gs fs s.tr s.vs s.L h ks (s.tr.getD i (0,0)) s.d).1}:=by
 unfold bZ dM;simp only [show ¬ h.op=12 by omega,show ¬ h.op=13 by omega,show ¬ h.op=14 by omega,show ¬ (h.op=15∨h.op=16∨h.op=20) by omega,show ¬ h.op=17 by omega,show ¬ h.op=19 by omega,if_false]
theorem zY {ft:Int}{h:Hd}{ks:List Nat}{i:Nat}{s:Rst}(ho:10<h.op):bZ gs fs ft lab h ks i s={(dM gs fs ft lab h ks (s.tr.getD i (0,0)) s).2 with tr:=s.tr.set i (dM gs fs ft lab h ks (s.tr.getD i (0,0)) s).1}:=by
 have e:fO gs fs s.tr s.vs s.L h ks (s.tr.getD i (0,0)) s.d=(s.tr.getD i (0,0),s.d):=by
  unfold fO;simp only [show ¬ h.op=8 by omega,show ¬ h.op=2 by omega,show ¬ h.op=3 by omega,show ¬ h.op=4 by omega,show ¬ h.op=6 by omega,show ¬ h.op=5 by omega,show ¬ h.op=7 by omega,if_false]
 unfold bZ;rw [e]
theorem qO {tr:List (Int×Int)}(i:Nat):tr.set i (tr.getD i (0,0))=tr:=by
 by_cases h:i<tr.length
 ·simp [List.getD,h]
 ·exact List.set_eq_of_length_le (by omega)
theorem nX {σ:Cs}{i:Nat}(h:i<σ.tr.length)(r v:Int):(bY (bC σ i r) i v).tr=σ.tr.set i (v,r):=by
 unfold bY bC;simp [List.getD,h]
theorem vg {tr:List (Int×Int)}(h:TyW tr)(i:Nat):(tr.getD i (0,0)).1=0∨(tr.getD i (0,0)).1=1∨(tr.getD i (0,0)).1=2:=h.at i
theorem oV {p:Int}{tr:List (Int×Int)}{ks:List Nat}{u:Unit}(e:aO p tr ks=.ok u){j:Nat}(hj:j<ks.length):dJ tr (kid ks j)=1∨dJ tr (kid ks j)=2:=by
 unfold aO at e;have h1:=kg e;simp only [Bool.not_eq_false'] at h1;have h2:=List.all_eq_true.1 h1 (kid ks j) (by unfold kid;simp only [List.getD,List.getElem?_eq_getElem hj,Option.getD_some];exact List.getElem_mem hj)
 simpa [ji] using h2
theorem Lj {s:List UInt8}{a b:Int}(ha:a=1∨a=2)(hb:b=1∨b=2):xU s a b=iol (jy s (decide (a=2)) (decide (b=2))):=by
 unfold xU jy;by_cases h1:s∈iC
 ·simp [h1,iol]
 ·by_cases h2:s=[60,60]∨s=[62,62]
  ·rw [if_neg h1,if_neg h1,if_pos h2,if_pos (h2.imp id .inl)];rcases ha with rfl|rfl <;> rfl
  ·rw [if_neg h1,if_neg h1,if_neg h2];have h3:¬ s=[60,60]/\¬ s=[62,62]:=by simpa using h2
   rcases ha with rfl|rfl <;> rcases hb with rfl|rfl <;> simp [h3,iol]
theorem EJ {α β:Type}{r:Ck α}{b:α->Bool}{n p:Int}{v:Ck Unit}{F:α->β}:(r.bind fun m=>(refuse (b m) n p).bind fun _=>v.bind fun _=>.ok (F m))=(r.bind fun m=>(refuse (b m) n p).bind fun _=>v.bind fun _=>.ok m).map F:=by
 cases r with
 |er n p=>rfl
 |ok m=>
  simp only [Ck.bind_ok];cases b m with
  |true=>rfl
  |false=>cases v <;> rfl
theorem G5 (E:EvR gs fs G K lab){σ:Cs}{scs:List Scp}{s:Rst}(R:Rel G σ scs s){h:Hd}{ks:List Nat}{i:Nat}(hs:Sh h)(ho:h.op<11)(Gt:arity h.op ks.length=true)(hi:i<σ.tr.length)(Oq:∀k∈ks,k<i)(ft:Int) :
  match dm K h ks i σ with
  | .ok τ=>Rel G τ scs (bZ gs fs ft lab h ks i s)
  | .er n p=>(bZ gs fs ft lab h ks i s).d=(n,p)/\n≠0:=by
 rw [Gb ho];obtain ⟨tr,L,deep,vs,d⟩:=s;obtain ⟨h1,h2,h3,h4,h5,h6,h7,h8,h9⟩:=R;simp only at h1 h2 h4 h5 h6 |-;subst h1 h2 h4 h5 h6;have mk:∀(τ:Cs) (t:Int×Int),τ.tr=σ.tr.set i t->τ.vs=σ.vs->τ.sc=σ.sc->(t.1=0∨t.1=1∨t.1=2)->Rel G τ scs ⟨σ.tr.set i t,dH scs 1,scs.length,σ.vs,(0,0)⟩:=fun τ t e1 e2 e3 e4=>
  ⟨e1.symm,e2.symm,e3.trans h3,rfl,rfl,rfl,by rw [e2];exact h7,by rw [e1];exact h8.set i e4,h9⟩
 have Pd:h.op=3∨h.op=4∨h.op=6->ks.take 1=ks:=fun e=>by
  have:ks.length=1:=by
   rcases e with e|e|e <;> · rw [e] at Gt;simpa [arity] using Gt
  exact List.take_of_length_le (by omega)
 have XM:h.op=5->ks.take 2=ks:=fun e=>by
  have:ks.length=2:=by rw [e] at Gt;simpa [arity] using Gt
  exact List.take_of_length_le (by omega)
 have hv:=uz h8 h.p ks;unfold dm fO;by_cases o2:h.op=2
 ·simp only [o2,if_true,show ¬ (2:Int)=8 by decide,if_false]
  have h9:=sW E.G h7 E.gn h;rw [h3];cases hr:aW h [1,2] (G ::scs) with
  |ok m=>
   rw [hr] at h9;simp only at h9;simp only [Ck.bind_ok];rw [h9];exact mk _ _ (nX hi _ _) rfl rfl (qX E h7 hr)
  |er n p=>
   rw [hr] at h9;simp only at h9;exact h9
 by_cases o3:h.op=3
 ·simp only [o3,if_true,show ¬ (3:Int)=8 by decide,show ¬ (3:Int)=2 by decide,if_false]
  have h9:=xW E.G h7 h;rw [h3,Pd (.inl o3)];cases hr:aW h [3] (G ::scs) with
  |ok m=>
   rw [hr] at h9;simp only at h9;simp only [Ck.bind_ok];rw [h9,nX hi,nM Oq];cases LA:aO h.p σ.tr ks with
   |ok u=>rw [LA] at hv;simp only [Ck.bind_ok];rw [show aN σ.tr h.p ks (0,0)=(0,0) from hv];exact mk _ _ (nX hi _ _) rfl rfl (qX E h7 hr)
   |er n p=>rw [LA] at hv;exact hv
  |er n p=>
   rw [hr] at h9;simp only [Ck.aB];rw [iG _ _ _ _ (by rw [h9.1];exact h9.2)]
   exact h9
 by_cases o4:h.op=4
 ·simp only [o4,if_true,show ¬ (4:Int)=8 by decide,show ¬ (4:Int)=2 by decide,show ¬ (4:Int)=3 by decide,if_false]
  rw [Pd (.inr (.inl o4))];cases LA:aO h.p σ.tr ks with
  |er n p=>rw [LA] at hv;exact hv
  |ok u=>
   rw [LA] at hv;simp only [Ck.bind_ok];rw [show aN σ.tr h.p ks (0,0)=(0,0) from hv]
   have bT:ks.length=1:=by rw [o4] at Gt;simpa [arity] using Gt
   have hty:=oV LA (j:=0) (by omega)
   have e:(if h.s=[33] then (1:Int) else dJ σ.tr (kid ks 0))=iol (!decide (h.s=[33]) && dw σ.tr (kid ks 0)):=by
    by_cases e1:h.s=[33]
    ·simp [e1,iol]
    ·rcases hty with e2|e2 <;> simp [e1,iol,dw,e2]
   rw [e];exact mk _ _ rfl rfl rfl (.inr (pq _))
 by_cases o5:h.op=5
 ·simp only [o5,if_true,show ¬ (5:Int)=8 by decide,show ¬ (5:Int)=2 by decide,show ¬ (5:Int)=3 by decide,show ¬ (5:Int)=4 by decide,show ¬ (5:Int)=6 by decide,if_false]
  rw [XM o5];cases LA:aO h.p σ.tr ks with
  |er n p=>rw [LA] at hv;exact hv
  |ok u=>
   rw [LA] at hv;simp only [Ck.bind_ok];rw [show aN σ.tr h.p ks (0,0)=(0,0) from hv]
   have hk2:ks.length=2:=by rw [o5] at Gt;simpa [arity] using Gt
   rw [Lj (oV LA (j:=0) (by omega)) (oV LA (j:=1) (by omega))]
   exact mk _ _ rfl rfl rfl (.inr (pq _))
 by_cases o6:h.op=6
 ·simp only [o6,if_true,show ¬ (6:Int)=8 by decide,show ¬ (6:Int)=2 by decide,show ¬ (6:Int)=3 by decide,show ¬ (6:Int)=4 by decide,show ¬ (6:Int)=5 by decide,if_false]
  rw [Pd (.inr (.inr o6))];cases LA:aO h.p σ.tr ks with
  |er n p=>rw [LA] at hv;exact hv
  |ok u=>
   rw [LA] at hv;simp only [Ck.bind_ok];rw [show aN σ.tr h.p ks (0,0)=(0,0) from hv]
   have e:(if h.to=2 then (2:Int) else 1)=iol (decide (h.to=2)):=by
    by_cases e1:h.to=2 <;> simp [e1,iol]
   rw [e];exact mk _ _ rfl rfl rfl (.inr (pq _))
 by_cases o7:h.op=7
 ·simp only [o7,if_true,show ¬ (7:Int)=8 by decide,show ¬ (7:Int)=2 by decide,show ¬ (7:Int)=3 by decide,show ¬ (7:Int)=4 by decide,show ¬ (7:Int)=5 by decide,show ¬ (7:Int)=6 by decide,if_false]
  have e1:(fun m:Mg=>(refuse (decide (ks.length≠K.np.getD m.rf.toNat 0)) 7 h.p).bind fun _=>(aO h.p (bY (bC σ i m.rf) i m.vl).tr ks).bind fun _=>Ck.ok (bY (bC σ i m.rf) i m.vl)) =
    fun m:Mg=>(refuse (decide (ks.length≠(fs.map fun f=>f.ps.length).getD m.rf.toNat 0)) 7 h.p).bind fun _=>(aO h.p σ.tr ks).bind fun _=>Ck.ok (bY (bC σ i m.rf) i m.vl):=by
   funext m
   rw [E.np,nX hi,nM Oq]
  rw [h3,e1,EJ (F:=fun m:Mg=>bY (bC σ i m.rf) i m.vl)]
  have h9:=Hw E.G E.D h7 h8 h ks (σ.tr.getD i (0,0)) (tr':=σ.tr) (fun _ _=>rfl) h8
  cases hr:(aW h [4] (G ::scs)).bind fun m=>(refuse (decide (ks.length≠(fs.map fun f=>f.ps.length).getD m.rf.toNat 0)) 7 h.p).bind fun _=>(aO h.p σ.tr ks).bind fun _=>.ok m with
  |ok m=>
   rw [hr] at h9;simp only at h9;obtain ⟨m',hm',-⟩:=aa hr;obtain ⟨_,-,pY⟩:=aa (show (refuse (decide (ks.length≠(fs.map fun f=>f.ps.length).getD m'.rf.toNat 0)) 7 h.p).bind (fun _=>(aO h.p σ.tr ks).bind fun _=>Ck.ok m')=Ck.ok m by rw [hm'] at hr;exact hr)
   obtain ⟨_,-,XP⟩:=aa pY;cases XP;simp only [Ck.map,Ck.bind_ok];rw [h9];exact mk _ _ (nX hi _ _) rfl rfl (qX E h7 hm')
  |er n p=>
   rw [hr] at h9;simp only [Ck.map,Ck.aB];exact h9
 by_cases o8:h.op=8
 ·simp only [o8,if_true,show ¬ (8:Int)=2 by decide,show ¬ (8:Int)=3 by decide,show ¬ (8:Int)=4 by decide,show ¬ (8:Int)=5 by decide,show ¬ (8:Int)=6 by decide,show ¬ (8:Int)=7 by decide,if_false]
  exact mk _ _ rfl rfl rfl (.inr (.inr rfl))
 ·simp only [o2,o3,o4,o5,o6,o7,o8,if_false];rw [qO];exact ⟨rfl,rfl,h3,rfl,rfl,rfl,h7,h8,h9⟩
end
end
end Go.Proofs.YtcchdlnfeijinaaGreatDoor
