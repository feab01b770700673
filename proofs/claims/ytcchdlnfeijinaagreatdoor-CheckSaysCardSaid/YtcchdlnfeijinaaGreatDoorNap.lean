/- Cll to Cmb: Layer check: Parsed, of a text that is a program. -/
import Derived.Test.YtcchdlnfeijinaaGreatDoorNak
import Derived.Test.YtcchdlnfeijinaaGreatDoorNao
import Derived.Test.YtcchdlnfeijinaaGreatDoorNad
namespace Go.Proofs.YtcchdlnfeijinaaGreatDoor
open Go.Proofs.Tryz
set_option linter.unusedSimpArgs false
set_option linter.unusedVariables false
set_option maxHeartbeats 4000000
set_option maxRecDepth 100000
section
open Go Go.RowKit Go.Maps
theorem tX {w:World}{x:List Tok×Int×Int}{e:Ending}{w':World}(h:vW w x e w') :
  ∃A c,e=.returned (.tuple #[.slice A x.1.length c,.agg #[Iv x.2.1,Iv x.2.2]])/\RdT w' w'.heap.size A x.1/\x.1.length<=c/\c<=maxLen/\(A=none->c=0)/\Below w.heap.size w w':=by
 obtain ⟨v,rfl,hr,hb⟩:=h;obtain ⟨A,c,rfl,hA⟩:∃A c,v=.slice A x.1.length c/\(A=none->c=0):=by
  rcases hr.2 with ⟨rfl,h0⟩|⟨g,cap,cur,rfl,_⟩
  ·exact ⟨none,0,by rw [h0],fun _=>rfl⟩
  ·exact ⟨_,_,rfl,fun h=>by cases h⟩
 obtain ⟨h1,h2,h3⟩:=RdT.JY hr rfl;exact ⟨A,c,rfl,h1,h2,h3,hA,hb⟩
theorem Mj:∃d,prog.underlying tPg=some d/\d.isRow=true:=⟨_,underlying27,rfl⟩
theorem zO:(prog.info? tPg).map (·.size)=some 3:=by kernel_rfl
theorem jI {fn:Func}{b:Nat}{x y z:Value}(h:fn.results= #[.cell 2 tPg,.tmp 3])(tmps:Array Value)(w:World)
  (hp:tmps.getD 2 undef=Pt b) (hb:Blk w b tPg #[x,y,z]) :
  (results fn tmps).run prog w=.ok (.tuple #[.agg #[x,y,z],tmps.getD 3 undef]) w:=by
 obtain ⟨d,hu,hr⟩:=Mj;have hc:w.rangeAt b 0 [x,y,z]:=by
  intro j v hv;rw [Nat.zero_add,hb.cell]
  simpa using hv
 have hl:=run_loadVar_mid (P:=prog) w b 0 tPg [x,y,z] d hc hu hr zO;simp only [results,h];simp [Sem.run_bind,Result.andThen];rw [show tmps[2]?.getD undef=Pt b from by simpa using hp]
 simp [asAddr,hl]
abbrev aS:Value:=Sn
def AC (pg:Pg) (w:World) (e:Ending) (w':World):Prop:=
 Below w.heap.size w w'/\∃gA fA uA gc fc uc fl ns,e=.returned (.tuple #[pgV gA fA uA pg.g.length gc fl.length fc ns.length uc,.bool true])/\PgM w.heap.size w' pg (.slice gA pg.g.length gc) (.slice fA fl.length fc) (.slice uA ns.length uc) fl ns
theorem Bp (s:ByteArray)(hs:s.size<=1048576)(w:World)(hE:Env w/\ku w){toks:List Tok}{at_:Int}{pg:Pg}{st:St}(hx:gm s.data.toList=(toks,0,at_))(NQ:okT toks=true)(hP:eO toks=.ok pg st) :
  Calls prog 8 #[.string s] w (AC pg w):=by
 have IB:Below w.heap.size w (w.alloc (.cells #[aS,aS,aS] tPg)):=(zB _ _).alloc (zL _) _;have hL:=Aa s (by unfold maxLen;omega) _ (hE.1.of IB)
 have b0:=Blk.new w tPg #[aS,aS,aS];have e1:(w.alloc (.cells #[aS,aS,aS] tPg)).heap.size=w.heap.size+1:=by simp
 obtain ⟨R,hR⟩:∃R:Ending->World->Prop,AC pg w=R:=⟨_,rfl⟩;rw [hR];have HR0:=Hy hR;have HP:=Hy hP;simp only [okT,Bool.and_eq_true,decide_eq_true_eq,List.all_eq_true] at NQ;have Su:=NQ.1;have PW:∀t∈toks,t.s.length<=140737488355328:=fun t ht=>by have:=NQ.2 t ht;omega
 rw [hx] at hL;clear hR hx NQ hP;have HE:=Hy hE;have Zg:=Hy IB;clear hE IB;go_enter func8,ntmps8;go_wp2_with fail;refine hL.mono ?_;rintro e w1 hp;clear hL;obtain ⟨A,c,rfl,hr,WT,PI,Xj,hb⟩:=tX hp;simp only at hr WT |-;rw [e1] at hb;have b1:Blk w1 w.heap.size tPg #[aS,aS,aS]:=(hb.block _ (by omega)).trans b0
 have sI:w.heap.size<w1.heap.size:=b1.lt;have bW:=Zg.trans (hb.mono (Nat.le_succ _));have b2:=b1.alloc (.cells #[Iv 0,Iv at_] tD);have d2:=Blk.new w1 tD #[Iv 0,Iv at_];have Sv:=bW.alloc bW.size (.cells #[Iv 0,Iv at_] tD);have B2:=Hy b2;have D2:=Hy d2;have Vl:=Hy Sv;have HR1:=Hy hr;clear hp hb hr b0 b1;have Mv:=Hy5 Su PW WT PI Xj;clear Su PW bW Sv PI WT Xj e1;go_upto_region 4 with (fail);have pY:RdT (w1.alloc (.cells #[Iv 0,Iv at_] tD)) (w1.alloc (.cells #[Iv 0,Iv at_] tD)).heap.size A toks:=(HR1.below ((zB _ _).alloc (zL _) _)).more (by simp)
 generalize w1.alloc (.cells #[Iv 0,Iv at_] tD)=W2 at *;have Y1:=Hy pY;have Na:=HE.2.below Vl (zL _);have HPA:=Hy (tC toks toks.length c rfl (by have:=Mv.1;omega) Mv.2.2.1 Mv.2.2.2.1 A Mv.2.2.2.2 W2 Y1 Mv.2.1 Na)
 clear pY Na b2 d2;go_wp2_with fail;refine HPA.mono ?_;rintro e w3 ⟨lW,QT⟩;rw [HP.out] at QT;obtain ⟨gv,fv,nv,fl,ns,rfl,hM⟩:=QT;obtain ⟨gA,gc,rfl⟩:=bJ hM.gs;obtain ⟨fA,fc,rfl⟩:=bJ hM.fs;obtain ⟨uA,uc,rfl⟩:=bJ hM.rows;have Sq:∀w':World,(∀i,W2.heap.size<=i->i<w3.heap.size->w'.heap[i]? =w3.heap[i]?)->PgM w.heap.size w' pg (.slice gA pg.g.length gc) (.slice fA fl.length fc) (.slice uA ns.length uc) fl ns:=fun w' hk=>(hM.keep hk).down Vl.size
 clear hM;obtain ⟨gn,qm⟩:=zN pg.g.length;obtain ⟨fn,ut⟩:=zN fl.length;obtain ⟨un,TF⟩:=zN ns.length;rw [qm,ut,TF] at Sq |-;have PO:=Hy3 qm ut TF;clear qm ut TF;have HFN:=Hy Sq;have b3:Blk w3 w.heap.size tPg #[aS,aS,aS]:=(lW.block _ B2.out.lt).trans B2.out;have QB:=Hy (Vl.trans (lW.mono Vl.size));have HZ3:=Hy lW.size;clear lW Sq HPA Y1 Mv;have B3:=Hy b3;clear b3;go_upto_region 5 with (fail);have bA:Blk ((w3.alloc (.cells #[.slice gA gn gc,.slice fA fn fc,.slice uA un uc] tPg)).alloc (.cells #[Iv 0,Iv 0] tD)) w3.heap.size tPg #[.slice gA gn gc,.slice fA fn fc,.slice uA un uc]:=(Blk.new w3 tPg _).alloc _;have bD:=Blk.new (w3.alloc (.cells #[.slice gA gn gc,.slice fA fn fc,.slice uA un uc] tPg)) tD #[Iv 0,Iv 0];have eD:(w3.alloc (.cells #[.slice gA gn gc,.slice fA fn fc,.slice uA un uc] tPg)).heap.size=w3.heap.size+1:=by simp
 rw [eD] at bD;have bR:=(B3.out.alloc (.cells #[.slice gA gn gc,.slice fA fn fc,.slice uA un uc] tPg)).alloc (.cells #[Iv 0,Iv 0] tD);have eu:=(QB.alloc QB.size (.cells #[.slice gA gn gc,.slice fA fn fc,.slice uA un uc] tPg)).alloc (by have:=QB.size;simp;omega) (.cells #[Iv 0,Iv 0] tD)
 have Lu:∀i,i<w3.heap.size->((w3.alloc (.cells #[.slice gA gn gc,.slice fA fn fc,.slice uA un uc] tPg)).alloc (.cells #[Iv 0,Iv 0] tD)).heap[i]? =w3.heap[i]?:=fun i hi=>by rw [Below.heap_alloc _ _ _ (by simp;omega),Below.heap_alloc _ _ _ (by omega)]
 clear eD;generalize (w3.alloc (.cells #[.slice gA gn gc,.slice fA fn fc,.slice uA un uc] tPg)).alloc (.cells #[Iv 0,Iv 0] tD)=W4 at *;have a0:W4.cell? (Ad w3.heap.size 0)=some (.slice gA gn gc):=bA.cell 0;have a1:W4.cell? (Ad w3.heap.size 1)=some (.slice fA fn fc):=bA.cell 1;have a2:W4.cell? (Ad w3.heap.size 2)=some (.slice uA un uc):=bA.cell 2;have al:=bA.lt;have d0:W4.cell? (Ad (w3.heap.size+1) 0)=some (Iv 0):=bD.cell 0;have dl:=bD.lt;have c0:W4.cell? (Ad w.heap.size 0)=some aS:=bR.cell 0;have c1:W4.cell? (Ad w.heap.size 1)=some aS:=bR.cell 1;have c2:W4.cell? (Ad w.heap.size 2)=some aS:=bR.cell 2;have f0:=bR.frozen 0;have f1:=bR.frozen 1;have f2:=bR.frozen 2;have rl:=bR.lt;have aD:w.heap.size≠w3.heap.size:=by have:=B3.out.lt;omega
 have Nt:w.heap.size≠w3.heap.size+1:=by have:=B3.out.lt;omega
 have Rc:=Hy3 bR eu Lu;clear bA bD bR eu Lu;go_region;go_wp2_with fail;have r0:Blk (((W4.setCell (Ad w.heap.size 0) (.slice gA gn gc)).setCell (Ad w.heap.size 1) (.slice fA fn fc)).setCell (Ad w.heap.size 2) (.slice uA un uc)) w.heap.size tPg #[.slice gA gn gc,.slice fA fn fc,.slice uA un uc]:=((Rc.1.af 0 _).af 1 _).af 2 _;have eu:Below w.heap.size w (((W4.setCell (Ad w.heap.size 0) (.slice gA gn gc)).setCell (Ad w.heap.size 1) (.slice fA fn fc)).setCell (Ad w.heap.size 2) (.slice uA un uc)):=((Rc.2.1.setCell (p:=Ad w.heap.size 0) (by simp) _).setCell (p:=Ad w.heap.size 1) (by simp) _).setCell (p:=Ad w.heap.size 2) (by simp) _
 have Lu:∀i,W2.heap.size<=i->i<w3.heap.size->(((W4.setCell (Ad w.heap.size 0) (.slice gA gn gc)).setCell (Ad w.heap.size 1) (.slice fA fn fc)).setCell (Ad w.heap.size 2) (.slice uA un uc)).heap[i]? =w3.heap[i]?:=fun i h1 h2=>by
  have hlt:=B2.out.lt;have hc:∀(W:World) (o:Nat) (x:Value),(W.setCell (Ad w.heap.size o) x).heap[i]? =W.heap[i]?:=fun W o x=>Below.heap_setCell _ _ _ _ (by simp;omega)
  rw [hc,hc,hc];exact Rc.2.2 i h2
 have Zd:=Hy3 r0 eu (HFN ((((W4.setCell (Ad w.heap.size 0) (.slice gA gn gc)).setCell (Ad w.heap.size 1) (.slice fA fn fc)).setCell (Ad w.heap.size 2) (.slice uA un uc)).drew) Lu);clear r0 eu Lu
 (try simp only [Exit.inBlock,Exit.then])
 refine bodyPost_ret (jI rfl _ _ rfl Zd.1) rfl ?_;rw [<-HR0.out];refine ⟨Zd.2.1.drew,gA,fA,uA,gc,fc,uc,fl,ns,?_,?_⟩
 ·rw [PO.1,PO.2.1,PO.2.2]
  rfl
 ·rw [PO.1,PO.2.1,PO.2.2];exact Zd.2.2
end
section
open Go Go.RowKit Go.Maps
def sj (x:NV):CN:=⟨x.h,x.kids,x.v⟩
theorem uF (l:List NV):(l.map sj).map CN.nd=l.map NV.nd:=by rw [List.map_map];rfl
theorem yT (l:List (Fn'×Value)):iM l=dE l (List.replicate l.length (Sn)):=by
 induction l with
 |nil=>rfl
 |cons x l ih=>
  unfold iM dE at ih |-;rw [List.flatMap_cons,List.length_cons,List.replicate_succ,List.zip_cons_cons,List.flatMap_cons,ih]
  rfl
theorem Cf (l:List NV):lF l=aI (l.map sj) (l.map fun x=>(x.h.ty,0)):=by
 induction l with
 |nil=>rfl
 |cons x l ih=>
  unfold lF aI at ih |-;rw [List.flatMap_cons,List.map_cons,List.map_cons,List.zip_cons_cons,List.flatMap_cons,ih]
  rfl
theorem Dt {B:Nat}{w:World}{pg:Pg}{gA fA uA:Option Addr}{gc fc uc:Nat}{fl:List (Fn'×Value)}{ns:List NV}(h:PgM B w pg (.slice gA pg.g.length gc) (.slice fA fl.length fc) (.slice uA ns.length uc) fl ns) :
  PgI w gA fA uA gc fc uc pg.g fl (List.replicate fl.length (Sn)) (ns.map sj) (ns.map fun x=>(x.h.ty,0)) where
 g:=RdS.av h.gs
 f:=by have:=RdS.av h.fs;rw [yT] at this;exact this
 n:=by have:=RdS.av h.rows;rw [Cf] at this;rw [List.length_map];exact this
 vl:=List.length_replicate
 tl:=by simp
 vs:=fun v hv=>⟨none,0,0,List.eq_of_mem_replicate hv⟩
 ps:=fun x hx=>by
  obtain ⟨n,hr⟩:=h.ps x hx;have hl:=hr.1;have e:(jq x.1.ps).length=x.1.ps.length * 2:=jE cz 2 (fun _=>rfl) x.1.ps
  obtain rfl:n=x.1.ps.length:=by rw [e] at hl;omega
  exact RdS.av hr
 ks:=fun y hy=>by
  obtain ⟨x,hx,rfl⟩:=List.mem_map.1 hy;have hr:=h.kids x hx;have e:bU x.kids=ints (bK x.kids):=by simp [bU,ints,bK]
  rw [e] at hr;exact RdS.av hr
theorem Ht {B:Nat}{w:World}{pg:Pg}{gA fA uA:Option Addr}{gc fc uc:Nat}{fl:List (Fn'×Value)}{ns:List NV}(h:PgM B w pg (.slice gA pg.g.length gc) (.slice fA fl.length fc) (.slice uA ns.length uc) fl ns)(hk:F8 pg=true) :
  oP pg pg.g fl (ns.map sj) (ns.map fun x=>(x.h.ty,0))/\1<=fl.length:=by
 simp only [F8,Bool.and_eq_true,decide_eq_true_eq,List.all_eq_true] at hk;obtain ⟨⟨⟨⟨⟨⟨⟨⟨k1,k2⟩,k3⟩,k4⟩,k5⟩,k6⟩,k7⟩,k8⟩,k9⟩:=hk;refine ⟨⟨rfl,h.fe,by rw [uF];exact h.nl,k2,JV _ k3,?_,k4,⟨k5,k6⟩,⟨k7,fun f hf=>⟨(k8 f hf).1.1,(k8 f hf).1.2,(k8 f hf).2⟩⟩,?_⟩,?_⟩
 ·intro i x t hx ht _;rw [List.getElem?_map] at hx ht;cases hn:ns[i]? with
  |none=>rw [hn] at hx;cases hx
  |some y=>
   rw [hn] at hx ht;simp only [Option.map_some,Option.some.injEq] at hx ht;subst hx ht
   rfl
 ·intro y hy;obtain ⟨x,hx,rfl⟩:=List.mem_map.1 hy;have hm:=List.mem_map_of_mem (f:=NV.nd) hx;rw [h.nl] at hm;exact k9 _ hm
 ·have e:=congrArg List.length h.fe;rw [List.length_map] at e;rw [e];exact List.length_pos_iff.2 k1
theorem FD {l:List UInt8}{n p:Int}(h:qU l=some (n,p)):∃toks at_ pg st,gm l=(toks,0,at_)/\okT toks=true/\eO toks=.ok pg st/\F8 pg=true/\(aX pg=.er n p∨∃y,aX pg=.ok y/\n=0/\p=0):=by
 obtain ⟨⟨toks,no,at_⟩,hx⟩:∃x,gm l=x:=⟨_,rfl⟩;unfold qU at h;rw [hx] at h;simp only at h;split at h
 ·next h0=>
  subst h0;split at h
  ·next h1=>
   cases hP:eO toks with
   |er a b=>rw [hP] at h;cases h
   |out=>rw [hP] at h;cases h
   |ok pg st=>
    rw [hP] at h;simp only at h;split at h
    ·next h2=>
     refine ⟨toks,at_,pg,st,hx,h1,hP,h2,?_⟩;cases hc:aX pg with
     |ok y=>
      rw [hc] at h;simp only [Option.some.injEq,Prod.mk.injEq] at h;exact .inr ⟨y,rfl,h.1.symm,h.2.symm⟩
     |er a b=>
      rw [hc] at h;simp only [Option.some.injEq,Prod.mk.injEq] at h;exact .inl (by rw [h.1,h.2])
    ·cases h
  ·cases h
 ·cases h
end
section
open Go Go.RowKit Go.Maps
structure CkE (E:Value×Value) (X:CkX) (S:CkS) (σ:Cs) (w:World):Prop where
 chk:Blk w X.b tCk #[.slice X.gA X.gs.length X.gc,E.1,E.2,S.scv,Sl X.sB 0 X.sc,S.fpV,S.lmV]
 sco:w.ownsRow X.B tMm 1 S.scv S.mps.length (S.mps.map fun m=>Value.map (some m))
 scl:S.mps.length=σ.sc.length
 dn:∀(j m:Nat) (s:Scp),S.mps[j]? =some m->σ.sc[j]? =some s->X.B<=m/\ScV w m s.length s
 gX:S.mps.Nodup
 glb:lM w X.B S.H tGb 4 (.slice X.gA X.gs.length X.gc) X.gs.length (X.gs.flatMap glC)
 hB:X.B<=X.b/\X.B<=w.heap.size
section
variable {E:Value×Value} {X:CkX} {S:CkS} {σ:Cs} {w w':World}
theorem CkE.grown (h:CkE E X S σ w)(hg:w.grownBy w' none):CkE E X S σ w' where
 chk:=ak hg h.chk (by simp)
 sco:=ah hg h.sco (by simp)
 scl:=h.scl
 dn:=fun j m s h1 h2=>⟨(h.dn j m s h1 h2).1,di hg (h.dn j m s h1 h2).2 (by simp)⟩
 gX:=h.gX
 glb:=az hg h.glb (by simp)
 hB:=⟨h.hB.1,Nat.le_trans h.hB.2 hg.size⟩
theorem CkE.on (h:CkE E X S σ w)(hb:Zw w w'):CkE E X S σ w':=h.grown (aj hb)
theorem CkE.drew (h:CkE E X S σ w):CkE E X S σ w.drew:=h.on ⟨rfl,rfl,rfl,Nat.le_refl _,fun _ _=>rfl⟩
theorem CkE.put (h:CkE E X S σ w){j m:Nat}{s s':Scp}(hm:S.mps[j]? =some m)(hs:σ.sc[j]? =some s)(hv:ScV w' m s'.length s')(hg:w.grownBy w' (some m)) :
  CkE E X S {σ with sc:=σ.sc.set j s'} w':=by
 have hk:jV w m:=bM (h.dn j m s hm hs).2;have hr:∀{base sz n:Nat} {T:TypeId} {v:Value} {xs:List Value},w.ownsRow base T sz v n xs->∀r,some m=some r->v.ownBlock≠some r:=by
  intro base sz n T v xs h1 r hr e;cases hr;exact dG (ag h1 e) hk rfl
 exact {
  chk:=ak hg h.chk (fun e=>dG h.chk.kind hk (Option.some.inj e).symm)
  sco:=ah hg h.sco (hr h.sco)
  scl:=by simpa using h.scl
  dn:=fun i m' s1 h1 h2=>by
   by_cases hij:j=i
   ·subst hij;obtain rfl:m=m':=by rw [hm] at h1;exact Option.some.inj h1
    have xP:=(zS.1 hs).1;rw [List.getElem?_set_self xP] at h2;cases h2;exact ⟨(h.dn j m s hm hs).1,hv⟩
   ·rw [List.getElem?_set_ne hij] at h2;refine ⟨(h.dn i m' s1 h1 h2).1,di hg (h.dn i m' s1 h1 h2).2 ?_⟩;intro e;obtain rfl:m=m':=Option.some.inj e;obtain ⟨a1,e1⟩:=zS.1 hm;obtain ⟨a2,e2⟩:=zS.1 h1;exact hij ((List.getElem_inj h.gX).1 (e1.trans e2.symm))
  gX:=h.gX
  glb:=az hg h.glb (hr h.glb.1)
  hB:=⟨h.hB.1,Nat.le_trans h.hB.2 hg.size⟩}
theorem CkE.c0 (h:CkE E X S σ w):Ce w X.b 0 (.slice X.gA X.gs.length X.gc):=h.chk.cell 0
theorem CkE.c3 (h:CkE E X S σ w):Ce w X.b 3 S.scv:=h.chk.cell 3
end
theorem CkE.scs {E:Value×Value}{X:CkX}{S:CkS}{σ:Cs}{w:World}(h:CkE E X S σ w):vT w X.B S.scv S.mps σ.sc:=⟨h.sco,h.scl,h.dn⟩
theorem CkE.Ble {E:Value×Value}{X:CkX}{S:CkS}{σ:Cs}{w:World}(h:CkE E X S σ w):X.B<=w.heap.size:=h.hB.2
theorem vD {E:Value×Value}{X:CkX}{S:CkS}{σ:Cs}{w:World}(h:CkE E X S σ w){k:Nat}(hk:σ.sc.length=k+1)(hk2:k<=1000000)(hl:(σ.sc.getLast?.getD []).length<=2000000){x:List UInt8}(hx:x.length<=maxLen)(m:Mg) :
  Calls prog 50 #[S.scv,Ss x,mgV m] w fun e w'=>e=.returned (.tuple #[])/\CkE E X S {σ with sc:=decl σ.sc x m} w'/\Below X.B w w'/\∀k,k<w.heap.size->k ∉ S.mps->w'.heap[k]? =w.heap[k]?:=by
 have sZ:k<σ.sc.length:=by omega
 obtain ⟨s0,KC⟩:∃s,σ.sc[k]? =some s:=⟨_,List.getElem?_eq_getElem sZ⟩;have O6:σ.sc[k]=s0:=(zS.1 KC).2;have hd:decl σ.sc x m=σ.sc.set k ((x,m) ::s0):=by rw [rW hk,O6]
 rw [lq hk,O6] at hl;rw [hd];obtain ⟨m1,m2,m3⟩:=m;have av:Zw w (w.alloc (.cells #[Iv m1,Iv m2,Iv m3] tMg)):=(zB _ _).alloc (zL _) _;have h1:=h.on av;have hB:=h.Ble;have b1:=Blk.new w tMg #[Iv m1,Iv m2,Iv m3];obtain ⟨g,c,mm,hv,hg,U8,PI,GA,hc,hs⟩:=h1.scs.at (j:=k) (by omega)
 rw [O6] at hs;obtain ⟨R,hR⟩:∃R:Ending->World->Prop,(fun e w'=>e=Ending.returned (.tuple #[])/\CkE E X S {σ with sc:=σ.sc.set k ((x,⟨m1,m2,m3⟩) ::s0)} w'/\Below X.B w w'/\∀k,k<w.heap.size->k ∉ S.mps->w'.heap[k]? =w.heap[k]?)=R:=⟨_,rfl⟩
 have HR:Hid (∀w',(CkE E X S {σ with sc:=σ.sc.set k ((x,⟨m1,m2,m3⟩) ::s0)} w'/\Below X.B w w'/\∀k,k<w.heap.size->k ∉ S.mps->w'.heap[k]? =w.heap[k]?)->R (.returned (.tuple #[])) w'):=Hy fun w' h=>by rw [<-hR];exact ⟨rfl,h⟩
 rw [show (fun e w'=>e=Ending.returned (.tuple #[])/\CkE E X S {σ with sc:=σ.sc.set k ((x,⟨m1,m2,m3⟩) ::s0)} w'/\Below X.B w w'/\∀k,k<w.heap.size->k ∉ S.mps->w'.heap[k]? =w.heap[k]?)=R from hR]
 rw [hv,hk];generalize hW:w.alloc (.cells #[Iv m1,Iv m2,Iv m3] tMg)=W1 at *;obtain ⟨w2,QR,GN,Cm⟩:=(show ScV W1.drew mm s0.length s0 from hs).put (by unfold maxLen;omega) hx ⟨m1,m2,m3⟩
 have HC:=Hy (h1.drew.put (σ:=σ) (s':=(x,⟨m1,m2,m3⟩) ::s0) GA KC GN Cm);have X7:X.B<=mm:=(h1.dn k mm _ GA KC).1;have DW:Below X.B w w2:=(av.mono hB).trans (((Below.refl X.B W1).drew).grown Cm (by have:=h1.Ble;simpa using this) (fun j e=>by cases e;exact X7))
 have qA:∀k,k<w.heap.size->k ∉ S.mps->w2.heap[k]? =w.heap[k]?:=by
  intro k hk Ul;have h9:=Cm.block k (by have:=av.size;simp;omega) (fun e=>Ul (by cases e;exact zG GA))
  exact h9.trans (av.block k hk)
 have HW:=Hy2 DW qA;have p0:=b1.cell 0;have p1:=b1.cell 1;have p2:=b1.cell 2;have pl:=b1.lt;simp only [List.getElem?_toArray,List.getElem?_cons_zero,List.getElem?_cons_succ] at p0 p1 p2;unfold mgV at QR |-;simp only at QR;clear hs GN Cm h1 h hv DW qA av b1 hk GA KC O6 hd hR hl sZ;go_enter func50,ntmps50;go_upto_region 1 with (fail);clear hW;generalize w.heap.size=H0 at *;go_region;go_end0;exact HR _ ⟨HC,HW.1,HW.2⟩
theorem CkE.fresh {E:Value×Value}{X:CkX}{S:CkS}{σ:Cs}{w:World}(h:CkE E X S σ w):∀m∈S.mps,m<w.heap.size:=by
 intro m hm;obtain ⟨j,hj,rfl⟩:=List.getElem_of_mem hm;have hj2:j<σ.sc.length:=by rw [<-h.scl];exact hj
 exact (h.dn j _ _ (zE hj) (zE hj2)).2.lt
def IX (E:Value×Value) (X:CkX) (S:CkS) (σ:Cs) (r:Ck Scp) (w:World) (e:Ending) (w':World):Prop:=
 (∃s,r=.ok s/\e=.returned (.tuple #[])/\CkE E X S {σ with sc:=[s]} w'/\Below X.B w w'/\s.length<=X.gs.length+(σ.sc.getLast?.getD []).length)∨(∃no p,r=.er no p/\e=.panicked [{v:=.iface tFt (.agg #[Iv no,Iv p]),recovered:=false}]/\Below X.B w w')
theorem CkE.KS {E:Value×Value}{X:CkX}{S:CkS}{σ:Cs}{w:World}(h:CkE E X S σ w){j:Nat}{g:Gl}(hg:X.gs[j]? =some g):∃b,X.gA=some (Ad b 0)/\b<w.heap.size/\∀t,t<4->w.cell? (Ad b (j * 4+t))=(glC g)[t]?:=by
 have hj:=(zS.1 hg).1;rcases h.glb.1.2 with ⟨e,h0⟩|⟨b,cap,cur,e,_,hh,_⟩
 ·omega
 ·simp only [Value.slice.injEq] at e;have ai:=h.glb.1;rw [e.1] at ai;refine ⟨b,e.1,(Array.getElem?_eq_some_iff.1 hh).1,fun t ht=>?_⟩
  rw [ai.cellAt (j * 4+t) (by have h1:(j+1) * 4<=X.gs.length * 4:=Nat.mul_le_mul_right _ hj;omega),aY _ 4 (fun _=>rfl) _ j t ht,hg]
  rfl
theorem uY {E:Value×Value}{X:CkX}{S:CkS}{σ:Cs}{w:World}(h:CkE E X S σ w){s0:Scp}(KC:σ.sc=[s0])(Lh:s0.length<=1000000)(kH:X.gs.length<=1000000)(WY:∀g∈X.gs,g.s.length<=1000000/\g.n<=1000000) :
  Calls prog 24 #[ckp X] w (IX E X S σ (eF X.gs 0 0 s0) w):=by
 obtain ⟨R,hR⟩:∃R:Ending->World->Prop,IX E X S σ (eF X.gs 0 0 s0) w=R:=⟨_,rfl⟩;rw [hR];have HR:=Hy hR;have c0:=h.c0;have eu:=h.chk.lt;have H:=Hy3 h KC WY;obtain ⟨n,hn⟩:=zN X.gs.length;have HN:=Hy hn;rw [hn] at c0 kH;clear hR h hn KC WY;go_enter func24,ntmps24;go_wp2_with fail;go_loopw [2,11] (fun v2 v11 wr=>∃(j:Nat) (s:Scp) (b:Int),j<=n/\v11=Iv j/\v2=Iv b/\0<=b/\b<=4096/\eF X.gs 0 0 s0=eF (X.gs.drop j) j b s/\s.length<=s0.length+j/\CkE E X S {σ with sc:=[s]} wr/\Below X.B w wr) (fun _ v _=>n - (intOf v).toNat)
 case atStart=>exact ⟨0,s0,0,by omega,rfl,rfl,by omega,by omega,by simp,by omega,by have:=H.1;have e:=H.2.1;cases σ;simp only at e;subst e;exact this,zB _ _⟩
 case round=>
  obtain ⟨j,s,b,hj,rfl,rfl,IB,NJ,Er,hsj,hC,bW⟩:=hrel;by_cases hlt:j<n
  ·have xP:j<X.gs.length:=by rw [HN.out];exact hlt
   obtain ⟨g,hg⟩:∃g,X.gs[j]? =some g:=⟨_,List.getElem?_eq_getElem xP⟩;obtain ⟨gb,OX,hgbl,Ur⟩:=hC.KS hg;rw [OX];have y0:Ce wr gb (j * 4) (Ss g.s):=Ur 0 (by omega)
   have y1:Ce wr gb (j * 4+1) (Iv g.ty):=Ur 1 (by omega)
   have y2:Ce wr gb (j * 4+2) (Iv g.n):=Ur 2 (by omega)
   have y3:Ce wr gb (j * 4+3) (Iv g.p):=Ur 3 (by omega)
   have hdr:X.gs.drop j=g ::X.gs.drop (j+1):=by
    rw [List.drop_eq_getElem_cons xP]
    congr 1
    exact (zS.1 hg).2
   rw [hdr,pz] at Er;have QG:=H.2.2 g (zG hg);have NZ:(j:Int)<n:=by omega
   have HG:=Hy4 Er hC bW OX;clear Er hC bW Ur hdr;go_upto_region 4 with (fail);have OY:Zw wr (wr.alloc (.cells #[Ss g.s,Iv g.ty,Iv g.n,Iv g.p] tGb)):=(zB _ _).alloc (zL _) _;have bT:=Blk.new wr tGb #[Ss g.s,Iv g.ty,Iv g.n,Iv g.p];have AR:=HG.2.1.on OY;have Qg:=HG.2.1.fresh;obtain ⟨H1,LP⟩:=zN wr.heap.size;rw [LP] at bT;generalize MQ:wr.alloc (.cells #[Ss g.s,Iv g.ty,Iv g.n,Iv g.p] tGb)=W1 at *;simp only [LP];obtain ⟨A3,n3,c3,Es⟩:∃A n c,S.scv=.slice A n c:=by
    obtain ⟨A3,c3,e⟩:=dL AR.sco;exact ⟨A3,_,c3,e⟩
   have Ez:=AR.c3;rw [Es] at Ez;have DV:=AR.chk.lt;have q0:Ce W1 H1 0 (Ss g.s):=bT.cell 0;have q1:Ce W1 H1 1 (Iv g.ty):=bT.cell 1;have q2:Ce W1 H1 2 (Iv g.n):=bT.cell 2;have q3:Ce W1 H1 3 (Iv g.p):=bT.cell 3;have ql:=bT.lt;have qm:g.s.length<=maxLen:=by unfold maxLen;have:=QG.1;omega
   obtain ⟨bh,OG⟩:∃b,(look s g.s).isSome=b:=⟨_,rfl⟩;have Qy:Hid (∀W,Zw W1 W->Calls prog 49 #[.slice A3 n3 c3,Ss g.s] W fun e w'=>e=.returned (.bool bh)/\Zw W1 w'):=Hy fun W hW=>by
    have OT:=(AR.on hW).scs;rw [Es] at OT;rw [<-OG];exact (qC OT (k:=0) rfl (by omega) qm).mono fun e w' h=>⟨h.1,hW.trans (h.2.mono hW.size)⟩
   have Vm:Hid (∀Wx,Zw W1 Wx->Ce Wx X.b 3 (.slice A3 n3 c3)/\Ce Wx H1 0 (Ss g.s)/\Ce Wx H1 3 (Iv g.p)/\X.b<Wx.heap.size/\H1<Wx.heap.size):=Hy fun Wx hW=>by
    have hz:=hW.size;exact ⟨(hW.cell (p:=Ad X.b 3) DV).trans Ez,(hW.cell (p:=Ad H1 0) ql).trans q0,(hW.cell (p:=Ad H1 3) ql).trans q3,by omega,by omega⟩
   have Tv:Hid (∀W b,Zw W1 W->Calls prog 48 #[.bool b,Iv 5,Iv g.p] W fun e w'=>(b=true/\e=.panicked [{v:=.iface tFt (.agg #[Iv 5,Iv g.p]),recovered:=false}]∨b=false/\e=.returned (.tuple #[]))/\Zw W1 w'):=Hy fun W b hW=>
    (df b 5 g.p W).mono fun e w' h=>⟨h.1,by rw [<-h.2];exact hW⟩
   have Cb:=Hy (show Below X.B w W1 from HG.2.2.1.trans (OY.mono HG.2.1.Ble))
   have UZ:Hid (∀W,Zw W1 W->bh=true->R (.panicked [{v:=.iface tFt (.agg #[Iv 5,Iv g.p]),recovered:=false}]) W):=Hy fun W hW aD=>by
    rw [<-HR.out];exact .inr ⟨5,g.p,by rw [HG.1,OG,aD];rfl,rfl,Cb.trans (hW.mono AR.Ble)⟩
   have Qz:=Hy6 AR bT Qg LP Es OG;have J:Zw W1 W1:=zB _ _;clear OY bT AR Qg LP MQ Es OG y0 y1 y2 y3 hg;go_cut [] (fun wx=>bh=false/\Zw W1 wx)
   case first=>
    go_region_held2 (fun Wx=>Ce Wx X.b 3 (.slice A3 n3 c3)/\Ce Wx H1 0 (Ss g.s)/\Ce Wx H1 3 (Iv g.p)/\X.b<Wx.heap.size/\H1<Wx.heap.size)
     (first|exact ⟨Ez,q0,q3,DV,ql⟩|exact Vm _ J)
     (first
      | (go_at_call 49;(with_reducible refine Calls.mono (Qy.out _ (by first|exact J|exact J.drew)) ?_);rintro e v1 ⟨rfl,J⟩)
      | (go_at_call 48;(with_reducible refine Calls.mono (Tv.out _ _ (by first|exact J|exact J.drew)) ?_);rintro e v2 ⟨⟨hm,rfl⟩|⟨hm,rfl⟩,J⟩;(have J9:=Hy J;have Re:=Hy hm;clear hm;go_wp2_with fail;refine aG rfl ?_;exact UZ _ J9.out Re);have NL:=Hy hm;clear hm))
    all_goals
     go_wp2_with fail;go_meet;exact ⟨NL,J⟩
   case rest=>
    obtain ⟨Q6,J⟩:=hcut;obtain ⟨mm,GA⟩:=zN (gMg g j);have PH:decl [s] g.s mm=[(g.s,mm) ::s]:=rfl;have HDc:Hid (∀W,Zw W1 W->Calls prog 50 #[.slice A3 n3 c3,Ss g.s,.agg #[Iv mm.so,Iv mm.rf,Iv mm.vl]] W fun e w'=>e=.returned (.tuple #[])/\CkE E X S {σ with sc:=[(g.s,mm) ::s]} w'/\Below X.B w w'/\Blk w' H1 tGb #[Ss g.s,Iv g.ty,Iv g.n,Iv g.p]):=Hy fun W hW=>by
     obtain ⟨AR,bT,Qg,LP,Es,OG⟩:=Qz;have hd:=vD (AR.on hW) (k:=0) rfl (by omega) (x:=g.s) (show s.length<=2000000 by omega) qm mm
     rw [show S.scv=.slice A3 n3 c3 from Es] at hd
     refine hd.mono fun e w' ⟨h1,h2,h3,h4⟩=>⟨h1,h2,Cb.trans ((hW.mono AR.Ble).trans h3),?_⟩
     have hz:=bT.below hW bT.lt;have e4:=h4 H1 (by have:=hW.size;omega) (fun e=>absurd (Qg _ e) (by omega))
     exact e4.trans hz
    have HGm:Hid (∀W,Zw W1 W->Calls prog 51 #[.agg #[Ss g.s,Iv g.ty,Iv g.n,Iv g.p],Iv (j:Int)] W fun e w'=>e=.returned (.agg #[Iv mm.so,Iv mm.rf,Iv mm.vl])/\Zw W1 w'):=Hy fun W hW=>by
     rw [<-GA];exact (Ao g j (by omega) W).mono fun e w' h=>⟨h.1,hW.trans (h.2.mono hW.size)⟩
    have HS5:Hid (∀Wx,Zw W1 Wx->Ce Wx X.b 3 (.slice A3 n3 c3)/\Ce Wx H1 0 (Ss g.s)/\Ce Wx H1 1 (Iv g.ty)/\Ce Wx H1 2 (Iv g.n)/\Ce Wx H1 3 (Iv g.p)/\X.b<Wx.heap.size/\H1<Wx.heap.size):=Hy fun Wx hW=>by
     have hz:=hW.size;exact ⟨(hW.cell (p:=Ad X.b 3) DV).trans Ez,(hW.cell (p:=Ad H1 0) ql).trans q0,(hW.cell (p:=Ad H1 1) ql).trans q1,(hW.cell (p:=Ad H1 2) ql).trans q2,(hW.cell (p:=Ad H1 3) ql).trans q3,by omega,by omega⟩
    have Z4:Hid (∀Wx,(CkE E X S {σ with sc:=[(g.s,mm) ::s]} Wx/\Below X.B w Wx/\Blk Wx H1 tGb #[Ss g.s,Iv g.ty,Iv g.n,Iv g.p])->Ce Wx X.b 3 (.slice A3 n3 c3)/\Ce Wx H1 0 (Ss g.s)/\Ce Wx H1 1 (Iv g.ty)/\Ce Wx H1 2 (Iv g.n)/\Ce Wx H1 3 (Iv g.p)/\X.b<Wx.heap.size/\H1<Wx.heap.size):=Hy fun Wx hW=>by
     have Es:=Qz.2.2.2.2.1;exact ⟨by rw [<-show S.scv=.slice A3 n3 c3 from Es];exact hW.1.c3,hW.2.2.cell 0,hW.2.2.cell 1,hW.2.2.cell 2,hW.2.2.cell 3,hW.1.chk.lt,hW.2.2.lt⟩
    obtain ⟨p3,r0,r1,r2,r3,pl,rl⟩:=HS5 _ J;have NL:=Hy2 GA Q6;clear GA Q6 PH Ez q0 q1 q2 q3 ql DV;go_upto_region 5 with (fail);go_cut [] (fun wx=>CkE E X S {σ with sc:=[(g.s,mm) ::s]} wx/\Below X.B w wx/\Blk wx H1 tGb #[Ss g.s,Iv g.ty,Iv g.n,Iv g.p])
    case first=>
     go_region_held2 (fun Wx=>Ce Wx X.b 3 (.slice A3 n3 c3)/\Ce Wx H1 0 (Ss g.s)/\Ce Wx H1 1 (Iv g.ty)/\Ce Wx H1 2 (Iv g.n)/\Ce Wx H1 3 (Iv g.p)/\X.b<Wx.heap.size/\H1<Wx.heap.size)
      (first|exact ⟨p3,r0,r1,r2,r3,pl,rl⟩|exact Z4 _ Xv|exact HS5 _ J)
      (first
       | (go_at_call 51;(with_reducible refine Calls.mono (HGm.out _ (by first|exact J|exact J.drew)) ?_);rintro e v1 ⟨rfl,J⟩)
       | (go_at_call 50;(with_reducible refine Calls.mono (HDc.out _ (by first|exact J|exact J.drew)) ?_);rintro e v2 ⟨rfl,J9⟩;have Xv:=Hy J9;clear J9))
     all_goals
      go_wp2_with fail;go_meet;exact Xv
    case rest=>
     obtain ⟨E9,qK,LK⟩:=hcut;obtain ⟨Gu,TC⟩:=zQ wc;subst TC;have z0:Ce Gu H1 0 (Ss g.s):=LK.cell 0;have z1:Ce Gu H1 1 (Iv g.ty):=LK.cell 1;have z2:Ce Gu H1 2 (Iv g.n):=LK.cell 2;have z3:Ce Gu H1 3 (Iv g.p):=LK.cell 3;have zl:=LK.lt;obtain ⟨ev,Yo⟩:=zN (eb g.ty);have Yp:=IP g.ty;have hgn2:=QG.2;rw [Yo] at Yp;obtain ⟨pr,Ie⟩:=zN (max g.n 1 * ev);have hp0:1<=pr/\pr<=8000000:=by
      have h1:1<=max g.n 1:=by omega
      have h2:max g.n 1<=1000000:=by omega
      rw [<-Ie];constructor
      ·have:=Int.mul_le_mul h1 Yp.1 (by omega) (by omega);omega
      ·have:=Int.mul_le_mul h2 Yp.2 (by omega) (by omega);omega
     have UY:=Hy2 Yo Ie;have hw1:IntKind.i64.wrap (max g.n 1 * ev)=pr:=by rw [Ie];exact wrap_small (by omega) (by omega)
     have hw2:IntKind.i64.wrap (b+pr)=b+pr:=wrap_small (by omega) (by omega)
     have HEb:Hid (∀W,Zw Gu W->Calls prog 52 #[Iv g.ty] W fun e w'=>e=.returned (Iv ev)/\Zw Gu w'):=Hy fun W hW=>by
      rw [<-UY.1];exact (EE g.ty W).mono fun e w' h=>⟨h.1,by rw [<-h.2];exact hW⟩
     have Xt:Hid (∀Wx,Zw Gu Wx->Ce Wx H1 1 (Iv g.ty)/\Ce Wx H1 2 (Iv g.n)/\Ce Wx H1 3 (Iv g.p)/\H1<Wx.heap.size):=Hy fun Wx hW=>by
      have hz:=hW.size;exact ⟨(hW.cell (p:=Ad H1 1) zl).trans z1,(hW.cell (p:=Ad H1 2) zl).trans z2,(hW.cell (p:=Ad H1 3) zl).trans z3,by omega⟩
     have Pv:=Hy2 E9 qK;have J6:Zw Gu Gu:=zB _ _;clear E9 qK LK Yo Ie QG p3 r0 r1 r2 r3;go_upto_region 6 with (fail);go_cut [2] (fun v2 wx=>v2=Iv (b+pr)/\Zw Gu wx)
     case first=>
      go_region_held2 (fun Wx=>Ce Wx H1 1 (Iv g.ty)/\Ce Wx H1 2 (Iv g.n)/\Ce Wx H1 3 (Iv g.p)/\H1<Wx.heap.size)
       (first|exact ⟨z1,z2,z3,zl⟩|exact Xt _ J6)
       ((go_at_call 52;(with_reducible refine Calls.mono (HEb.out _ (by first|exact J6|exact J6.drew)) ?_);rintro e v1 ⟨rfl,J6⟩))
      all_goals
       go_wp2_with fail;go_meet;exact ⟨rfl,J6⟩
     case rest=>
      obtain ⟨CY,J7⟩:=hcut;subst CY;obtain ⟨wc6,XH⟩:=zQ wc;subst XH;have UR:Hid (∀W b,Zw Gu W->Calls prog 48 #[.bool b,Iv 9,Iv g.p] W fun e w'=>(b=true/\e=.panicked [{v:=.iface tFt (.agg #[Iv 9,Iv g.p]),recovered:=false}]∨b=false/\e=.returned (.tuple #[]))/\Zw Gu w'):=Hy fun W b hW=>
       (df b 9 g.p W).mono fun e w' h=>⟨h.1,by rw [<-h.2];exact hW⟩
      have Ze:Hid (∀W,Zw Gu W->4096<b+pr->R (.panicked [{v:=.iface tFt (.agg #[Iv 9,Iv g.p]),recovered:=false}]) W):=Hy fun W hW aD=>by
       rw [<-HR.out];refine .inr ⟨9,g.p,?_,rfl,Pv.2.trans (hW.mono Pv.1.Ble)⟩;rw [HG.1,Qz.2.2.2.2.2,NL.2,UY.1,UY.2,if_neg (by decide),if_pos aD]
      obtain ⟨z1,z2,z3,zl⟩:=Xt _ J7;clear J6;obtain ⟨bq,Q5⟩:=zN (decide (4096<b+pr));have U0:=Hy Q5;go_wp2_with fail;refine (UR _ _ (by first|exact J7|exact J7.drew)).mono ?_
      rintro e v2 ⟨⟨hm,rfl⟩|⟨hm,rfl⟩,J8⟩
      ·have Re:=Hy (Ze _ J8 (by simpa [<-U0.out] using hm))
       clear hm J8 Q5;go_wp2_with fail;exact aG rfl Re
      ·have Tg:¬ (4096<b+pr):=by simpa [<-U0.out] using hm
       have PP:Hid (eF X.gs 0 0 s0=eF (X.gs.drop (j+1)) (j+1) (b+pr) ((g.s,mm) ::s)):=Hy (by
        rw [HG.1,Qz.2.2.2.2.2,NL.2,UY.1,UY.2,if_neg (by decide),if_neg Tg,NL.1])
       have Xx:=Hy (show CkE E X S {σ with sc:=[(g.s,mm) ::s]} _/\Below X.B w _ from ⟨Pv.1.on J8,Pv.2.trans (J8.mono Pv.1.Ble)⟩)
       have TK:((g.s,mm) ::s).length<=s0.length+(j+1):=by simp;omega
       clear J8 J7 z1 z2 z3 hm Q5;go_wp2_with fail;go_roundw
       case rel=>exact ⟨j+1,(g.s,mm) ::s,b+pr,by omega,by go_num,rfl,by omega,by omega,PP,TK,Xx.1,Xx.2⟩
       case measure=>simp [intOf];omega
  ·obtain rfl:j=n:=by omega
   have hdr:X.gs.drop j=[]:=List.drop_eq_nil_of_le (by rw [HN.out];omega)
   rw [hdr] at Er;have HG:=Hy3 Er hC bW;clear Er hC bW hdr;go_wp2_with fail;go_end0;rw [<-HR.out];exact .inl ⟨s,HG.1,rfl,HG.2.1,HG.2.2,by rw [H.2.1,HN.out];simp;omega⟩
end
section
open Go Go.RowKit Go.Maps
def EX (gs:List Gl) (w:World) (e:Ending) (w':World):Prop:=
 ∃(E:Value×Value) (X:CkX) (S:CkS),e=.returned (ckp X)/\X.B=w.heap.size/\X.gs=gs/\CkE E X S ⟨[],[[]],[]⟩ w'/\Below w.heap.size w w'/\∃A c,E.1=.slice A 0 c
theorem DD {gs:List Gl}{w W:World}{gA fA nA:Option Addr}{gn fn nn gc fc nc b g sB sc:Nat}(hl:gs.length=gn/\fn=0/\nn=0)
  (hk:Blk W b tCk #[.slice gA gn gc,.slice fA fn fc,.slice nA nn nc,Sl g 1 1,Sl sB nn sc,.pointer none,.map none])
  (hg:W.ownsRow w.heap.size tGb 4 (.slice gA gn gc) gn (gs.flatMap glC))
  (OC:∃m,W.ownsRow w.heap.size tMm 1 (Sl g 1 1) 1 [.map (some m)]/\ScV W m 0 []/\w.heap.size<=m)
  (hbB:w.heap.size<=b) (hb:Below w.heap.size w W):EX gs w (.returned (Pt b)) W:=by
 obtain ⟨m,hsc,hm,X7⟩:=OC;obtain ⟨rfl,rfl,rfl⟩:=hl;refine ⟨(.slice fA 0 fc,.slice nA 0 nc),⟨w.heap.size,b,gA,gc,0,nc,0,fc,sB,sc,gs,[],[]⟩,⟨false,.pointer none,.map none,0,W.heap.size,[],[m],Sl g 1 1,0,[],[],[]⟩,rfl,rfl,rfl,?_,hb,fA,fc,rfl⟩;exact {
  chk:=hk
  sco:=hsc
  scl:=rfl
  dn:=fun j k s h1 h2=>by
   cases j with
   |zero=>
    simp only [List.getElem?_cons_zero,Option.some.injEq] at h1 h2;subst h1 h2;exact ⟨X7,hm⟩
   |succ j=>simp at h1
  gX:=by simp
  glb:=⟨hg,fun k hk=>(hg.lt k hk).2⟩
  hB:=⟨hbB,hb.size⟩}
theorem qo {w:World}{gA fA nA:Option Addr}{gc fc nc:Nat}{gs:List Gl}{fl:List (Fn'×Value)}{vls:List Value}{ns:List CN}{tr:List (Int×Int)}(h:PgI w gA fA nA gc fc nc gs fl vls ns tr)(hg:gs.length<=1000000)(hf:fl.length<=1000000)(hn:ns.length<=1000000)(Er:∀g∈gs,g.s.length<=1000000)(Ke:∀x∈fl,x.1.s.length<=1000000/\x.1.ps.length<=1000000/\∀p∈x.1.ps,p.s.length<=1000000)(Eo:∀x∈ns,x.h.s.length<=1000000/\x.kids.length<=1000000)(Q4:fl.length=0)(KQ:ns.length=0) :
  Calls prog 23 #[pgV gA fA nA gs.length gc fl.length fc ns.length nc] w (EX gs w):=by
 obtain ⟨R,hR⟩:∃R:Ending->World->Prop,EX gs w=R:=⟨_,rfl⟩;rw [hR];have HR:=Hy hR;have GA:=@run_makeMap prog;have bT:=Blk.new w aK #[.slice gA gs.length gc,.slice fA fl.length fc,.slice nA ns.length nc];have h1:Below w.heap.size w (w.alloc (.cells #[.slice gA gs.length gc,.slice fA fl.length fc,.slice nA ns.length nc] aK)):=(zB _ _).alloc (zL _) _;have BP:=rq ns.length hn;have HI:=Hy (h.on h1);have HU:Hid (∀W,Below (w.alloc (.cells #[.slice gA gs.length gc,.slice fA fl.length fc,.slice nA ns.length nc] aK)).heap.size (w.alloc (.cells #[.slice gA gs.length gc,.slice fA fl.length fc,.slice nA ns.length nc] aK)) W->Calls prog 47 #[pgV gA fA nA gs.length gc fl.length fc ns.length nc] W fun e w'=>UnP gs fl ns tr W e w'/\Below (w.alloc (.cells #[.slice gA gs.length gc,.slice fA fl.length fc,.slice nA ns.length nc] aK)).heap.size (w.alloc (.cells #[.slice gA gs.length gc,.slice fA fl.length fc,.slice nA ns.length nc] aK)) w'):=Hy fun W hW=>(wu (HI.on hW) hg hf hn Er Ke Eo).mono fun e w' h9=>⟨h9,by obtain ⟨_,_,_,_,_,_,_,_,_,Yz,_⟩:=h9;exact hW.trans (Yz.mono hW.size)⟩
 have HT:=Hy h.tl;obtain ⟨gn,qm⟩:=zN gs.length;obtain ⟨fn,ut⟩:=zN fl.length;obtain ⟨nn,DC⟩:=zN ns.length;have HN:=Hy3 qm ut DC;have Vt:=Hy2 Q4 KQ;rw [qm,ut,DC] at bT h1 HU |-;rw [DC] at BP hn;have Tg:=hn;clear hR h Er Ke Eo qm ut DC hg hf Q4 KQ hn HI;have HH1:=Hy h1;go_enter func23,ntmps23;go_upto_region 1 with (fail);obtain ⟨H0,GG⟩:=zN w.heap.size;rw [GG] at bT;have Z8:=Hy GG;have sQ:(w.alloc (.cells #[.slice gA gn gc,.slice fA fn fc,.slice nA nn nc] aK)).heap.size=H0+1:=by simp [GG]
 generalize w.alloc (.cells #[.slice gA gn gc,.slice fA fn fc,.slice nA nn nc] aK)=W1 at *;simp only [GG];clear GG h1;have q0:W1.cell? (Ad H0 0)=some (.slice gA gn gc):=bT.cell 0;have q1:W1.cell? (Ad H0 1)=some (.slice fA fn fc):=bT.cell 1;have q2:W1.cell? (Ad H0 2)=some (.slice nA nn nc):=bT.cell 2;have ql:=bT.lt;have HS:Hid (∀Wx,Below W1.heap.size W1 Wx->Wx.cell? (Ad H0 0)=some (.slice gA gn gc)/\Wx.cell? (Ad H0 1)=some (.slice fA fn fc)/\Wx.cell? (Ad H0 2)=some (.slice nA nn nc)/\H0<Wx.heap.size):=Hy fun Wx hW=>
  ⟨(hW.cell (p:=Ad H0 0) ql).trans q0,(hW.cell (p:=Ad H0 1) ql).trans q1,(hW.cell (p:=Ad H0 2) ql).trans q2,Nat.lt_of_lt_of_le ql hW.size⟩
 have J:Below W1.heap.size W1 W1:=zB _ _;have YX:=Hy sQ;clear bT sQ;go_region_held2 (fun Wx=>Wx.cell? (Ad H0 0)=some (.slice gA gn gc)/\Wx.cell? (Ad H0 1)=some (.slice fA fn fc)/\Wx.cell? (Ad H0 2)=some (.slice nA nn nc)/\H0<Wx.heap.size)
  (first|exact ⟨q0,q1,q2,ql⟩|exact HS _ J|exact HS _ (J.alloc J.size _)|exact HS _ (J.alloc J.size _).drew|exact HS _ ((J.alloc J.size _).alloc (by first|(simp;done)|(have:=J.size;simp;omega)) _)|exact HS _ ((J.alloc J.size _).alloc (by first|(simp;done)|(have:=J.size;simp;omega)) _).drew|exact HS _ (((J.alloc J.size _).alloc (by first|(simp;done)|(have:=J.size;simp;omega)) _).alloc (by first|(simp;done)|(have:=J.size;simp;omega)) _)|exact HS _ (((J.alloc J.size _).alloc (by first|(simp;done)|(have:=J.size;simp;omega)) _).alloc (by first|(simp;done)|(have:=J.size;simp;omega)) _).drew|exact HS _ ((((J.alloc J.size _).alloc (by first|(simp;done)|(have:=J.size;simp;omega)) _).alloc (by first|(simp;done)|(have:=J.size;simp;omega)) _).alloc (by first|(simp;done)|(have:=J.size;simp;omega)) _))
  ((go_at_call 47;(with_reducible refine Calls.mono (HU.out _ (by first|exact J|exact J.drew|exact J.alloc J.size _|exact (J.alloc J.size _).drew|exact (J.alloc J.size _).alloc (by simp) _|exact ((J.alloc J.size _).alloc (by simp) _).drew|exact ((J.alloc J.size _).alloc (by simp) _).alloc (by simp;omega) _|exact (((J.alloc J.size _).alloc (by simp) _).alloc (by first|(simp;done)|(simp;omega)) _).drew)) ?_);rintro e v2 ⟨⟨gA',yP,zZ,gc',xS,yG,Ra,ns',rfl,Oe,RG,RF,RN,he,hp,aD,hkd,hgx,hfx,Zv⟩,J⟩))
 all_goals
  go_wp2_with fail;rw [<-HR.out];have e1:=YX.out;have e2:=Z8.out;have e3:=Oe.size;have e4:=J.size;simp at e3;obtain ⟨rfl,rfl,rfl⟩:=HN;refine DD ⟨rfl,Vt.1,Vt.2⟩ (xR ?_) ?_ ?_ ?_ ?_
  ·(first|omega|(simp;done)|(simp;omega))
  ·repeat (first|((with_reducible refine bg RG ?_);(first|omega|(simp;done)|(simp;omega)))|(with_reducible refine kY ?_ _))
  ·refine ⟨?_,?_,?_,?_⟩;rotate_left
   ·repeat (first|((with_reducible refine zK ?_ ?_) <;> (first|omega|(simp;done)|(simp;omega)))|(with_reducible refine kY ?_ _)|(with_reducible refine ic Oe ?_)|(with_reducible refine yt ?_))
   ·repeat (first|((with_reducible refine made' ?_);(first|omega|(simp;done)|(simp;omega)))|(with_reducible refine wL ?_ _)|(with_reducible refine Iy Oe ?_)|(with_reducible refine zJ ?_))
   ·(first|omega|(simp;done)|(simp;omega))
  ·(first|omega|(simp;done)|(simp;omega))
  ·repeat (first|(with_reducible exact HH1.out.trans (J.mono (by omega)))|((with_reducible refine Below.alloc ?_ ?_ _);rotate_left;(first|omega|(simp;done)|(simp;omega)))|(with_reducible refine Below.drew ?_))
theorem rJ {E:Value×Value}{X:CkX}{S:CkS}{σ:Cs}{w:World}(h:CkE E X S σ w){fA:Option Addr}{fc:Nat}(hE:E.1=.slice fA 0 fc) :
  Calls prog 25 #[ckp X] w fun e w'=>e=.returned (.tuple #[])/\Below w.heap.size w w':=by
 have c1:w.cell? (Ad X.b 1)=some (.slice fA 0 fc):=by rw [<-hE];exact h.chk.cell 1
 have eu:=h.chk.lt;clear h hE;go_enter func25,ntmps25;go_wp2_with fail;go_loopw [10] (fun v10 wr=>v10=Iv 0/\Below w.heap.size w wr) (fun v _=>1)
 case atStart=>exact ⟨rfl,zB _ _⟩
 case round=>
  obtain ⟨rfl,bW⟩:=hrel;have HB:=Hy bW;clear bW;go_wp2_with fail;go_end0;exact ⟨rfl,HB⟩
theorem Bz {E:Value×Value}{X:CkX}{S:CkS}{σ:Cs}{w:World}(h:CkE E X S σ w){G:Scp}(KC:σ.sc=[G])(ut:∀p∈G,p.2.so≠4) :
  Calls prog 27 #[ckp X] w fun e w'=>e=.panicked [{v:=.iface tFt (.agg #[Iv 12,Iv 0]),recovered:=false}]/\Below w.heap.size w w':=by
 have eu:=h.chk.lt;obtain ⟨A3,n3,c3,Es⟩:∃A n c,S.scv=.slice A n c:=by
  obtain ⟨A3,c3,e⟩:=dL h.sco;exact ⟨A3,_,c3,e⟩
 have Ez:=h.c3;rw [Es] at Ez;have LF:Calls prog 59 #[.slice A3 n3 c3,Ss bn] w fun e w'=>e=.returned (.tuple #[mgV ((look G bn).getD mz),.bool (look G bn).isSome])/\Below w.heap.size w w':=by
  have OT:=h.scs;have ai:=h.sco.1;have hl:=h.scl;rw [Es] at OT;have X6:σ.sc.length=n3:=by
   obtain ⟨A4,c4,e⟩:=dL h.sco;rw [Es] at e;simp only [Value.slice.injEq] at e;omega
  have hf:=rR OT X6 (by rw [<-X6,KC];simp) (x:=bn) (by decide)
  have e:fE σ.sc bn=look G bn:=by rw [KC];unfold fE;simp only [List.reverse_cons,List.reverse_nil,List.nil_append,List.findSome?_cons,List.findSome?_nil];cases look G bn <;> rfl
  rw [e] at hf;exact hf
 have aD:((look G bn).getD mz).so≠4:=by
  cases hL:look G bn with
  |none=>decide
  |some m=>
   obtain ⟨p,hp,T9⟩:=oq hL;rw [Option.getD_some,<-T9];exact ut p hp
 obtain ⟨⟨a1,a2,a3⟩,hM⟩:∃q,(look G bn).getD mz=q:=⟨_,rfl⟩;obtain ⟨bv,Oe⟩:∃q,(look G bn).isSome=q:=⟨_,rfl⟩;rw [hM] at aD;simp only at aD;have d1:(a1 != 4)=true:=by simp [aD]
 rw [hM,Oe] at LF;simp only [mgV] at LF;have HF:=Hy LF;clear h KC ut hM Oe Es LF aD;go_enter func27,ntmps27;go_wp2_with fail;refine HF.mono ?_;clear HF;rintro e w1 ⟨rfl,av⟩;have iK:=Hy av;have DV:X.b<w1.heap.size:=zT eu av.size;clear av Ez eu;go_wp2_with fail;refine (iH _ _ _).mono ?_;rintro e v2 ⟨rfl,rfl⟩;have HE:=Hy (iK.alloc iK.size (.cells #[Iv a1,Iv a2,Iv a3] tMg));go_wp2_with fail;exact aG rfl ⟨rfl,HE⟩
theorem yZ {w:World}{gA fA nA:Option Addr}{gc fc nc:Nat}{pg:Pg}{gs:List Gl}{fl:List (Fn'×Value)}{vls:List Value}{ns:List CN}{tr:List (Int×Int)}(h:PgI w gA fA nA gc fc nc gs fl vls ns tr)(hin:oP pg gs fl ns tr)(Q4:fl.length=0) :
  Calls prog 10 #[pgV gA fA nA gs.length gc fl.length fc ns.length nc] w (nK pg w):=by
 have Qg:∀(fn:Fn) (first cap:Array Value) (w:World),(Instr.makeFunc fn first cap).run prog w=.ok (.func fn first cap) w:=fun _ _ _ _=>rfl
 obtain ⟨R,hR⟩:∃R:Ending->World->Prop,nK pg w=R:=⟨_,rfl⟩;rw [hR];have HR:=Hy hR;have uo:fl.length=pg.f.length:=by have:=congrArg List.length hin.f;simpa using this
 have mf:ns.length=pg.t.size:=by have:=congrArg List.length hin.n;simpa [Fo.aD] using this
 have KQ:ns.length=0:=by
  rw [mf];have hr:=congrArg List.length hin.rt;rw [List.length_map,gq] at hr;have e0:pg.t.len=0:=by omega
  cases ht:pg.t with
  |nil=>rfl
  |cons a b c=>rw [ht] at e0;simp [Fo.len] at e0
 have bT:=Blk.new w aK #[.slice gA gs.length gc,.slice fA fl.length fc,.slice nA ns.length nc];have hk2:=Blk.new (w.alloc (.cells #[.slice gA gs.length gc,.slice fA fl.length fc,.slice nA ns.length nc] aK)) aK #[Sn,Sn,Sn];have hk3:=Blk.new ((w.alloc (.cells #[.slice gA gs.length gc,.slice fA fl.length fc,.slice nA ns.length nc] aK)).alloc (.cells #[Sn,Sn,Sn] aK)) tDg #[Iv 0,Iv 0];have h1:Below w.heap.size w (((w.alloc (.cells #[.slice gA gs.length gc,.slice fA fl.length fc,.slice nA ns.length nc] aK)).alloc (.cells #[Sn,Sn,Sn] aK)).alloc (.cells #[Iv 0,Iv 0] tDg)):=
  (((zB _ _).alloc (zL _) _).alloc (by simp) _).alloc (by simp;omega) _
 have bT:=(bT.alloc (.cells #[Sn,Sn,Sn] aK)).alloc (.cells #[Iv 0,Iv 0] tDg);have hk2:=hk2.alloc (.cells #[Iv 0,Iv 0] tDg);have Y5:=Hy (qo (h.on h1) (by have:=hin.gl.1;omega) (by have:=hin.fn.1;omega) (by rw [mf];have:=hin.sz;omega) (fun g hg=>(hin.gl.2 g hg).1) (fun x hx=>hin.fn.2 x.1 (by rw [<-hin.f];exact List.mem_map_of_mem hx)) hin.nn Q4 KQ)
 have HTL:=Hy (uD hin h.tl);have Ko:=Hy4 hin uo mf Q4;obtain ⟨gn,qm⟩:=zN gs.length;obtain ⟨fn,ut⟩:=zN fl.length;obtain ⟨nn,DC⟩:=zN ns.length;have HN:=Hy3 qm ut DC;rw [qm,ut,DC] at bT hk2 hk3 h1 Y5 |-;clear hR h hin uo mf KQ qm ut DC Q4;go_enter_defers func10,ntmps10;go_upto_region 2 with (fail);obtain ⟨H0,GG⟩:=zN w.heap.size;have sQ:(((w.alloc (.cells #[.slice gA gn gc,.slice fA fn fc,.slice nA nn nc] aK)).alloc (.cells #[Sn,Sn,Sn] aK)).alloc (.cells #[Iv 0,Iv 0] tDg)).heap.size=H0+3:=by simp [GG]
 rw [show ((w.alloc (.cells #[.slice gA gn gc,.slice fA fn fc,.slice nA nn nc] aK)).alloc (.cells #[Sn,Sn,Sn] aK)).heap.size=H0+2 by simp [GG]] at hk3
 rw [show (w.alloc (.cells #[.slice gA gn gc,.slice fA fn fc,.slice nA nn nc] aK)).heap.size=H0+1 by simp [GG]] at hk2
 rw [GG] at bT;generalize ((w.alloc (.cells #[.slice gA gn gc,.slice fA fn fc,.slice nA nn nc] aK)).alloc (.cells #[Sn,Sn,Sn] aK)).alloc (.cells #[Iv 0,Iv 0] tDg)=W1 at *;simp only [GG];have q0:W1.cell? (Ad H0 0)=some (.slice gA gn gc):=bT.cell 0;have q1:W1.cell? (Ad H0 1)=some (.slice fA fn fc):=bT.cell 1;have q2:W1.cell? (Ad H0 2)=some (.slice nA nn nc):=bT.cell 2;have ql:=bT.lt;have HK:=Hy5 hk2 hk3 h1 sQ GG;clear bT hk2 hk3 h1 sQ GG;go_wp2_with fail;refine Y5.mono ?_;clear Y5;rintro e w1 ⟨E,X,S0,rfl,YA,V8,hC,av,yP,xS,UK⟩;have UD:X.gs=pg.g:=V8.trans Ko.1.g;have HC:=Hy3 hC av UK;have HX:=Hy2 YA UD;have HGl:=Hy (uY hC (s0:=[]) rfl (by simp) (by have:=Ko.1.gl.1;rw [V8];omega) (by rw [V8];exact Ko.1.gl.2))
 have hXBe:H0+3<=X.B:=by rw [YA,HK.2.2.2.1];exact zL _
 have HP:Hid (∀(W:World) (no p:Int),Below X.B w1 W->aX pg=.er no p->(Blk W (H0+1) aK #[Sn,Sn,Sn]/\Blk W (H0+2) tDg #[Iv 0,Iv 0]/\H0<=H0+2/\H0<=W.heap.size/\Below H0 w W/\∀W',Below H0 w W'->R (.returned (.tuple #[.agg #[Sn,Sn,Sn],.agg #[Iv no,Iv p]])) W')):=Hy fun W no p hW he=>by
  have hb:Below H0 w W:=by
   have e1:=HK.2.2.1;rw [HK.2.2.2.2] at e1;exact (e1.trans (HC.2.1.mono (by have:=HK.2.2.2.1;omega))).trans (hW.mono (by omega))
  refine ⟨(HK.1.below HC.2.1 HK.1.lt).below hW (by omega),(HK.2.1.below HC.2.1 HK.2.1.lt).below hW (by omega),by omega,?_,hb,fun W' dK=>?_⟩
  ·have:=hb.size;have e1:=HK.2.2.2.2;omega
  ·rw [<-HR.out];exact ⟨by rw [HK.2.2.2.2];exact dK,.inl ⟨no,p,he,rfl⟩⟩
 have U7:pg.f=[]:=List.eq_nil_of_length_eq_zero (by rw [<-Ko.2.1];exact Ko.2.2.2)
 have HPF:=Hy U7;clear YA V8 hC av UK UD U7 q0 q1 q2 ql;go_wp2_with fail;refine HGl.mono ?_;clear HGl;rintro e w2 (⟨s,Er,rfl,qM,aU,Lh⟩|⟨no,p,Er,rfl,aU⟩)
 ·have HFn:=Hy (rJ qM HC.2.2);have PP:=Hy3 Er qM aU;clear Er qM aU Lh;go_wp2_with fail;refine HFn.mono ?_;clear HFn;rintro e w3 ⟨rfl,lW⟩;have Ac:=PP.2.1.on lW;have c1:w3.cell? (Ad X.b 1)=some (.slice yP 0 xS):=by rw [<-HC.2.2];exact Ac.chk.cell 1
  have eu:=Ac.chk.lt;have Mw:=Hy2 Ac (PP.2.2.trans (lW.mono PP.2.1.Ble));clear lW Ac;go_wp2_with fail;go_loopw [19] (fun v19 wr=>v19=Iv 0/\CkE E X S0 ⟨[],[s],[]⟩ wr/\Below X.B w1 wr) (fun v _=>1)
  case atStart=>exact ⟨rfl,Mw.1,Mw.2⟩
  case round=>
   obtain ⟨rfl,Rx,bW⟩:=hrel;have HM:=Hy (Bz Rx (G:=s) rfl (fun p hp=>(uZ _ _ _ _ _ PP.1 p hp).resolve_left (by simp)))
   have Cb:=Hy2 bW Rx.Ble;clear Rx bW c1;go_wp2_with fail;refine HM.mono ?_;clear HM;rintro e w6 ⟨rfl,Hu⟩;have HE:=Hy (HP w6 12 0 (Cb.1.trans (Hu.mono Cb.2)) (by
    unfold aX;have hm:jh s []=.er 12 0:=z8 (by
     cases hL:look s bn with
     |none=>decide
     |some m=>
      obtain ⟨q,hq,hqe⟩:=oq hL;rw [Option.getD_some,<-hqe];exact (uZ _ _ _ _ _ PP.1 q hq).resolve_left (by simp))
    rw [<-HX.2,PP.1,Ck.bind_ok,HPF.out];simp only [jf,dR,Ck.bind_ok,List.map_nil];rw [hm]
    rfl))
   clear Hu;go_wp2_with fail;exact kN 12 0 rfl rfl rfl HE.1 HE.2.1 HE.2.2.1 HE.2.2.2.1 HE.2.2.2.2.1 HE.2.2.2.2.2
 ·have HE:=Hy (HP w2 no p aU (by unfold aX;rw [<-HX.2,Er];rfl))
  clear Er aU;go_wp2_with fail;exact kN no p rfl rfl rfl HE.1 HE.2.1 HE.2.2.1 HE.2.2.2.1 HE.2.2.2.2.1 HE.2.2.2.2.2
theorem y8 {w:World}{gA fA nA:Option Addr}{gc fc nc:Nat}{pg:Pg}{gs:List Gl}{fl:List (Fn'×Value)}{vls:List Value}{ns:List CN}{tr:List (Int×Int)}(h:PgI w gA fA nA gc fc nc gs fl vls ns tr)(hin:oP pg gs fl ns tr) :
  Calls prog 10 #[pgV gA fA nA gs.length gc fl.length fc ns.length nc] w (nK pg w):=by
 by_cases h0:fl.length=0
 ·exact yZ h hin h0
 ·exact ul h hin (by omega)
end
section
open Go Go.RowKit Go.Maps
theorem RdS.get {w:World}{A:Option Addr}{n c:Nat}{xs:List Value}(h:RdS w (.slice A n c) n xs)(aD:xs≠[]):∃b o,A=some (Ad b o)/\b<w.heap.size/\∀(j:Nat) (u:Value),xs[j]? =some u->Ce w b (o+j) u:=by
 obtain ⟨A',c',e,h⟩:=h;simp only [Value.slice.injEq] at e;obtain ⟨rfl,-,rfl⟩:=e;rcases h with ⟨-,h0⟩|⟨b,o,e,hc⟩
 ·exact absurd h0 aD
 ·obtain ⟨u,hu⟩:∃u,xs[0]? =some u:=by
   cases xs with
   |nil=>exact absurd rfl aD
   |cons x l=>exact ⟨x,rfl⟩
  exact ⟨b,o,e,(hc 0 u hu).1,fun j u hj=>(hc j u hj).2⟩
theorem RdS.shape {w:World}{v:Value}{n:Nat}{xs:List Value}(h:RdS w v n xs):∃A c,v=.slice A n c:=by
 obtain ⟨A,c,e,-⟩:=h;exact ⟨A,c,e⟩
structure PgR (w:World) (gA fA nA:Option Addr) (gc fc nc:Nat) (gs:List Gl) (fl:List (Fn'×Value)) (vls:List Value) (ns:List CN) (tr:List (Int×Int)) (vs:List (List Int)):Prop where
 pi:PgI w gA fA nA gc fc nc gs fl vls ns tr
 vn:vs.length=fl.length
 vr:∀(j:Nat) (v:Value) (l:List Int),vls[j]? =some v->vs[j]? =some l->RdS w v l.length (ints l)
theorem PgR.on {w w':World}{gA fA nA:Option Addr}{gc fc nc:Nat}{gs:List Gl}{fl:List (Fn'×Value)}{vls:List Value}{ns:List CN}{tr:List (Int×Int)}{vs:List (List Int)}(h:PgR w gA fA nA gc fc nc gs fl vls ns tr vs)(hb:Zw w w'):PgR w' gA fA nA gc fc nc gs fl vls ns tr vs:=
 ⟨h.pi.on hb,h.vn,fun j v l h1 h2=>(h.vr j v l h1 h2).on hb⟩
theorem PgC.rd {B:Nat}{w:World}{gA fA nA:Option Addr}{gc fc nc:Nat}{pg:Pg}{fl:List (Fn'×Value)}{vls:List Value}{ns:List CN}{tr:List (Int×Int)}{vs:List (List Int)}(h:PgC B w gA fA nA gc fc nc pg fl vls ns tr vs):PgR w gA fA nA gc fc nc pg.g fl vls ns tr vs where
 pi:=⟨RdS.av h.g,RdS.av h.f,RdS.av h.n,h.vl,h.tl,fun v hv=>by
  obtain ⟨j,hj,rfl⟩:=List.getElem_of_mem hv;obtain ⟨l,hl⟩:∃l,vs[j]? =some l:=⟨_,List.getElem?_eq_getElem (by rw [h.vn,<-h.vl];exact hj)⟩
  obtain ⟨A,c,e⟩:=dL (h.vr j _ l (zE hj) hl);exact ⟨A,_,c,e⟩,fun x hx=>RdS.av (h.ps x hx),fun x hx=>RdS.av (h.ks x hx)⟩
 vn:=h.vn
 vr:=fun j v l h1 h2=>RdS.av (h.vr j v l h1 h2)
end
section
open Go Go.RowKit Go.Maps
def vU (l:List UInt8) (w:World) (e:Ending) (w':World):Prop:=
 Zw w w'/\match lH l with
 |some pg=>∃gv fv nv fl ns,e=.returned (.tuple #[.agg #[gv,fv,nv],.bool true])/\PgM w.heap.size w' pg gv fv nv fl ns
 |none=>e=.returned (.tuple #[.agg #[aS,aS,aS],.bool false])
theorem wR (s:ByteArray)(hs:s.size<=maxLen)(w:World)(hE:Env w/\ku w) :
  Calls prog 8 #[.string s] w (vU s.data.toList w):=by
 have IB:Zw w (w.alloc (.cells #[aS,aS,aS] tPg)):=(zB _ _).alloc (zL _) _;have hL:=Aa s hs _ (hE.1.of IB);have b0:=Blk.new w tPg #[aS,aS,aS];have e1:(w.alloc (.cells #[aS,aS,aS] tPg)).heap.size=w.heap.size+1:=by simp
 have hlx:=@ma s.data.toList;have T9:=FW (gm s.data.toList).1;have TZ:=mY (gm s.data.toList).1;obtain ⟨R,hR⟩:∃R:Ending->World->Prop,vU s.data.toList w=R:=⟨_,rfl⟩;rw [hR];obtain ⟨⟨toks,no,at_⟩,hx⟩:∃x,gm s.data.toList=x:=⟨_,rfl⟩;rw [hx] at hL hlx T9 TZ;simp only at hlx T9 TZ;have HPO:Hid (∀e w',(Zw w w'/\match (if no≠0 then none else match eO toks with| .ok pg _=>some pg|_=>none) with
   |some pg=>∃gv fv nv fl ns,e=.returned (.tuple #[.agg #[gv,fv,nv],.bool true])/\PgM w.heap.size w' pg gv fv nv fl ns
   |none=>e=.returned (.tuple #[.agg #[aS,aS,aS],.bool false]))->R e w'):=Hy fun e w' h=>by
  rw [<-hR];unfold vU lH;rw [hx];exact h
 clear hR hx;have HE:=Hy hE;have Zg:=Hy IB;have HX:=Hy2 T9 TZ;clear hE IB T9 TZ;go_enter func8,ntmps8;go_wp2_with fail;refine hL.mono ?_;rintro e w1 hp;clear hL;obtain ⟨A,c,rfl,hr,WT,PI,Xj,hb⟩:=tX hp;simp only at hr WT |-;rw [e1] at hb;have b1:Blk w1 w.heap.size tPg #[aS,aS,aS]:=(hb.block _ (by omega)).trans b0
 have sI:w.heap.size<w1.heap.size:=b1.lt;have bW:=Zg.trans (hb.mono (Nat.le_succ _));have b2:=b1.alloc (.cells #[Iv no,Iv at_] tD);have d2:=Blk.new w1 tD #[Iv no,Iv at_];have Sv:=bW.alloc bW.size (.cells #[Iv no,Iv at_] tD);have B2:=Hy b2;have D2:=Hy d2;have Vl:=Hy Sv;have HR1:=Hy hr;clear hp hb hr b0 b1;by_cases h0:no=0
 ·obtain ⟨Ox,Su,htv⟩:=hlx h0;subst h0;have PW:∀t∈toks,t.s.length<=140737488355328:=fun t ht=>by have:=(htv t ht).sl;omega
  have Mv:=Hy6 Su Ox PW WT PI Xj;clear hlx Su htv bW Sv PI WT Xj PW Ox e1;go_upto_region 4 with (fail);have pY:RdT (w1.alloc (.cells #[Iv 0,Iv at_] tD)) (w1.alloc (.cells #[Iv 0,Iv at_] tD)).heap.size A toks:=(HR1.below ((zB _ _).alloc (zL _) _)).more (by simp)
  generalize w1.alloc (.cells #[Iv 0,Iv at_] tD)=W2 at *;have Y1:=Hy pY;have Na:=HE.2.below Vl (zL _);have HPA:=Hy (tC toks toks.length c rfl (by have:=Mv.1;have:=Mv.2.1;omega) Mv.2.2.2.1 Mv.2.2.2.2.1 A Mv.2.2.2.2.2 W2 Y1 Mv.2.2.1 Na)
  clear pY Na b2 d2;go_wp2_with fail;refine HPA.mono ?_;rintro e w3 ⟨lW,QT⟩;obtain ⟨gA,gn,gc,fA,fn,fc,uA,un,uc,n,p,rfl,Sq⟩:∃gA gn gc fA fn fc uA un uc n p,e=.returned (.tuple #[.agg #[.slice gA gn gc,.slice fA fn fc,.slice uA un uc],.agg #[Iv n,Iv p]])/\
    ∀w':World,(∀i,W2.heap.size<=i->i<w3.heap.size->w'.heap[i]? =w3.heap[i]?)->
     match (match eO toks with| .ok pg _=>some pg|_=>none) with
     |some pg=>∃gv fv nv fl ns,Ending.returned (.tuple #[.agg #[.slice gA gn gc,.slice fA fn fc,.slice uA un uc],.bool (n == 0)])=.returned (.tuple #[.agg #[gv,fv,nv],.bool true])/\PgM w.heap.size w' pg gv fv nv fl ns
     |none=>Ending.returned (.tuple #[.agg #[.slice gA gn gc,.slice fA fn fc,.slice uA un uc],.bool (n == 0)])=.returned (.tuple #[.agg #[aS,aS,aS],.bool false]):=by
   have Tc:=HX.1;have Zr:=HX.2;have sQ:=Vl.size;cases hP:eO toks with
   |out=>exact absurd hP Zr
   |er n p=>
    rw [hP] at QT;refine ⟨none,0,0,none,0,0,none,0,0,n,p,QT,fun w' hk=>?_⟩
    have hn:(n == 0)=false:=by simpa using Tc n p hP
    simp only [hn]
   |ok pg st=>
    rw [hP] at QT;obtain ⟨gv,fv,nv,fl,ns,rfl,hM⟩:=QT;obtain ⟨gA,gc,rfl⟩:=bJ hM.gs;obtain ⟨fA,fc,rfl⟩:=bJ hM.fs;obtain ⟨uA,uc,rfl⟩:=bJ hM.rows;exact ⟨gA,_,gc,fA,_,fc,uA,_,uc,0,0,rfl,fun w' hk=>⟨_,_,_,fl,ns,rfl,(hM.keep hk).down sQ⟩⟩
  have HFN:=Hy Sq;have b3:Blk w3 w.heap.size tPg #[aS,aS,aS]:=(lW.block _ B2.out.lt).trans B2.out;have QB:=Hy (Vl.trans (lW.mono Vl.size));have HZ3:=Hy lW.size;clear QT lW Sq HPA Y1 Mv HX;have B3:=Hy b3;clear b3;go_upto_region 5 with (fail);have bA:Blk ((w3.alloc (.cells #[.slice gA gn gc,.slice fA fn fc,.slice uA un uc] tPg)).alloc (.cells #[Iv n,Iv p] tD)) w3.heap.size tPg #[.slice gA gn gc,.slice fA fn fc,.slice uA un uc]:=(Blk.new w3 tPg _).alloc _;have bD:=Blk.new (w3.alloc (.cells #[.slice gA gn gc,.slice fA fn fc,.slice uA un uc] tPg)) tD #[Iv n,Iv p];have eD:(w3.alloc (.cells #[.slice gA gn gc,.slice fA fn fc,.slice uA un uc] tPg)).heap.size=w3.heap.size+1:=by simp
  rw [eD] at bD;have bR:=(B3.out.alloc (.cells #[.slice gA gn gc,.slice fA fn fc,.slice uA un uc] tPg)).alloc (.cells #[Iv n,Iv p] tD);have eu:=(QB.alloc QB.size (.cells #[.slice gA gn gc,.slice fA fn fc,.slice uA un uc] tPg)).alloc (by have:=QB.size;simp;omega) (.cells #[Iv n,Iv p] tD)
  have Lu:∀i,i<w3.heap.size->((w3.alloc (.cells #[.slice gA gn gc,.slice fA fn fc,.slice uA un uc] tPg)).alloc (.cells #[Iv n,Iv p] tD)).heap[i]? =w3.heap[i]?:=fun i hi=>by rw [Below.heap_alloc _ _ _ (by simp;omega),Below.heap_alloc _ _ _ (by omega)]
  clear eD;generalize (w3.alloc (.cells #[.slice gA gn gc,.slice fA fn fc,.slice uA un uc] tPg)).alloc (.cells #[Iv n,Iv p] tD)=W4 at *;have a0:Ce W4 w3.heap.size 0 (.slice gA gn gc):=bA.cell 0;have a1:Ce W4 w3.heap.size 1 (.slice fA fn fc):=bA.cell 1;have a2:Ce W4 w3.heap.size 2 (.slice uA un uc):=bA.cell 2;have al:=bA.lt;have d0:Ce W4 (w3.heap.size+1) 0 (Iv n):=bD.cell 0;have dl:=bD.lt;have c0:Ce W4 w.heap.size 0 aS:=bR.cell 0;have c1:Ce W4 w.heap.size 1 aS:=bR.cell 1;have c2:Ce W4 w.heap.size 2 aS:=bR.cell 2;have f0:=bR.frozen 0;have f1:=bR.frozen 1;have f2:=bR.frozen 2;have rl:=bR.lt;have aD:w.heap.size≠w3.heap.size:=by have:=B3.out.lt;omega
  have Nt:w.heap.size≠w3.heap.size+1:=by have:=B3.out.lt;omega
  have Rc:=Hy3 bR eu Lu;clear bA bD bR eu Lu;go_region;go_wp2_with fail;have r0:Blk (((W4.setCell (Ad w.heap.size 0) (.slice gA gn gc)).setCell (Ad w.heap.size 1) (.slice fA fn fc)).setCell (Ad w.heap.size 2) (.slice uA un uc)) w.heap.size tPg #[.slice gA gn gc,.slice fA fn fc,.slice uA un uc]:=((Rc.1.af 0 _).af 1 _).af 2 _;have eu:Zw w (((W4.setCell (Ad w.heap.size 0) (.slice gA gn gc)).setCell (Ad w.heap.size 1) (.slice fA fn fc)).setCell (Ad w.heap.size 2) (.slice uA un uc)):=((Rc.2.1.setCell (p:=Ad w.heap.size 0) (by simp) _).setCell (p:=Ad w.heap.size 1) (by simp) _).setCell (p:=Ad w.heap.size 2) (by simp) _
  have Lu:∀i,W2.heap.size<=i->i<w3.heap.size->(((W4.setCell (Ad w.heap.size 0) (.slice gA gn gc)).setCell (Ad w.heap.size 1) (.slice fA fn fc)).setCell (Ad w.heap.size 2) (.slice uA un uc)).heap[i]? =w3.heap[i]?:=fun i h1 h2=>by
   have hlt:=B2.out.lt;have hc:∀(W:World) (o:Nat) (x:Value),(W.setCell (Ad w.heap.size o) x).heap[i]? =W.heap[i]?:=fun W o x=>Below.heap_setCell _ _ _ _ (by simp;omega)
   rw [hc,hc,hc];exact Rc.2.2 i h2
  have Zd:=Hy3 r0 eu (HFN ((((W4.setCell (Ad w.heap.size 0) (.slice gA gn gc)).setCell (Ad w.heap.size 1) (.slice fA fn fc)).setCell (Ad w.heap.size 2) (.slice uA un uc)).drew) Lu);clear r0 eu Lu
  (try simp only [Exit.inBlock,Exit.then])
  refine bodyPost_ret (jI rfl _ _ rfl Zd.1) rfl ?_;refine HPO _ _ ?_;rw [if_neg (by simp)]
  exact ⟨Zd.2.1.drew,Zd.2.2⟩
 ·have hd:(no != 0)=true:=by simpa using h0
  have H0:=Hy h0;clear h0 hlx bW Sv PI WT e1;go_upto_region 3 with (fail);generalize w1.alloc (.cells #[Iv no,Iv at_] tD)=W2 at *;have c0:Ce W2 w.heap.size 0 aS:=b2.cell 0;have c1:Ce W2 w.heap.size 1 aS:=b2.cell 1;have c2:Ce W2 w.heap.size 2 aS:=b2.cell 2;have f0:=b2.frozen 0;have f1:=b2.frozen 1;have f2:=b2.frozen 2;have sQ:=b2.lt;have r0:Blk (((W2.setCell (Ad w.heap.size 0) aS).setCell (Ad w.heap.size 1) aS).setCell (Ad w.heap.size 2) aS) w.heap.size tPg #[aS,aS,aS]:=((b2.af 0 aS).af 1 aS).af 2 aS;have eu:Zw w (((W2.setCell (Ad w.heap.size 0) aS).setCell (Ad w.heap.size 1) aS).setCell (Ad w.heap.size 2) aS):=((Vl.setCell (p:=Ad w.heap.size 0) (by simp) _).setCell (p:=Ad w.heap.size 1) (by simp) _).setCell (p:=Ad w.heap.size 2) (by simp) _
  have HF:=Hy2 r0 eu;clear b2 d2 r0 eu;go_wp2_with fail
  (try simp only [Exit.inBlock,Exit.then])
  refine bodyPost_ret (jI rfl _ _ rfl HF.1) rfl ?_;refine HPO _ _ ?_;rw [if_pos H0.out];exact ⟨HF.2,rfl⟩
theorem JU:∀F:Fo,F.ok->TrW F:=by
 intro F
 induction F with
 |nil=>intro _;trivial
 |cons h k r ih1 ih2=>
  intro ⟨hn,hk,hr⟩;refine ⟨⟨by have:=hn.sl;omega,fun h4=>?_,fun h5=>?_,fun h15=>?_⟩,ih1 hk,ih2 hr⟩
  ·have:=hn.ar;rw [h4] at this
   simpa [arity] using this
  ·have:=hn.ar;rw [h5] at this
   simpa [arity] using this
  ·have:=hn.ar;rcases h15 with h|h
   ·rw [h] at this;simp [arity] at this;omega
   ·rw [h] at this;simp [arity] at this;omega
theorem yU (F:Fo):∀(c:Nat),∀n∈F.flat c,n.kids.length<=F.size:=by
 induction F with
 |nil=>intro c n h;cases h
 |cons h k r ih1 ih2=>
  intro c n hn;simp only [Fo.flat,List.mem_append,List.mem_cons] at hn;simp only [Fo.size];rcases hn with hn|rfl|hn
  ·have:=ih1 _ n hn;omega
  ·have h1:=gq k c;have h2:=iY k;simp only;omega
  ·have:=ih2 _ n hn;omega
theorem GV (F:Fo)(hF:F.ok):∀(c:Nat),∀n∈F.flat c,n.h.s.length<=24:=by
 induction F with
 |nil=>intro c n h;cases h
 |cons h k r ih1 ih2=>
  intro c n hn;simp only [Fo.flat,List.mem_append,List.mem_cons] at hn;rcases hn with hn|rfl|hn
  ·exact ih1 hF.2.1 _ n hn
  ·exact hF.1.sl
  ·exact ih2 hF.2.2 _ n hn
theorem xD {B:Nat}{w:World}{pg:Pg}{gA fA uA:Option Addr}{gc fc uc:Nat}{fl:List (Fn'×Value)}{ns:List NV}{K:Nat}{s:St}(h:PgM B w pg (.slice gA pg.g.length gc) (.slice fA fl.length fc) (.slice uA ns.length uc) fl ns)(hp:pJ TkV K pg s)(hK:K<=500000) :
  oP pg pg.g fl (ns.map sj) (ns.map fun x=>(x.h.ty,0)):=by
 have NQ:pg.t.ok:=hp.bl.ok (fun _ h=>h)
 have hc:=hp.ln;have hcn:pg.g.length+pg.f.length+(pg.f.map fun f=>f.ps.length).sum<=K:=by unfold cnt at hc;omega
 have sQ:=hp.c;have QF:=hp.le;refine ⟨rfl,h.fe,by rw [uF];exact h.nl,hp.rt,JU _ NQ,?_,by omega,⟨by omega,fun g hg=>⟨by have:=((hp.gl g hg).nm).sl (fun _ h=>h);omega,by have:=(hp.gl g hg).n;omega⟩⟩,⟨by omega,fun f hf=>⟨by have:=((hp.fn f hf).nm).sl (fun _ h=>h);omega,?_,fun p hpp=>by have:=((hp.fn f hf).ps p hpp).2.sl (fun _ h=>h);omega⟩⟩,?_⟩
 ·intro i x t hx ht _;rw [List.getElem?_map] at hx ht;cases hn:ns[i]? with
  |none=>rw [hn] at hx;cases hx
  |some y=>
   rw [hn] at hx ht;simp only [Option.map_some,Option.some.injEq] at hx ht;subst hx ht
   rfl
 ·have hm:∀(l:List Fn'),f∈l->f.ps.length<=(l.map fun f=>f.ps.length).sum:=by
   intro l
   induction l with
   |nil=>intro h;cases h
   |cons y l ih=>
    intro hy;simp only [List.map_cons,List.sum_cons];rcases List.mem_cons.1 hy with rfl|hy
    ·omega
    ·have:=ih hy;omega
  have:=hm pg.f hf;omega
 ·intro y hy;obtain ⟨x,hx,rfl⟩:=List.mem_map.1 hy;have hm:=List.mem_map_of_mem (f:=NV.nd) hx;rw [h.nl] at hm;have h1:=yU _ _ _ hm;have h2:=GV _ NQ _ _ hm;exact ⟨by have e:x.nd.h.s.length<=24:=h2;simp only [NV.nd] at e;simp only [sj];omega,by simp only [NV.nd] at h1;simp only [sj];omega⟩
end
end Go.Proofs.YtcchdlnfeijinaaGreatDoor
