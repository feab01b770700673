/- Csb to Csb: Layer check, the document's answer: Check answers what checkM says. -/
import Derived.Test.YtcchdlnfeijinaaGreatDoorNay
import Derived.Test.YtcchdlnfeijinaaGreatDoorNaq
import Derived.Test.YtcchdlnfeijinaaGreatDoorNat
namespace Go.Proofs.YtcchdlnfeijinaaGreatDoor
open Go.Proofs.Tryz
set_option linter.unusedSimpArgs false
set_option linter.unusedVariables false
set_option maxHeartbeats 4000000
set_option maxRecDepth 100000
section
open Go Go.RowKit Go.Maps
theorem su {α:Type}(l:List α):∀(k:Nat) (x:α),k<l.length->(l.set k x).take (k+1)=l.take k ++ [x]:=by
 induction l with
 |nil=>intro k x h;simp at h
 |cons a l ih=>
  intro k x h;cases k with
  |zero=>simp
  |succ k=>
   rw [List.set_cons_succ,List.take_succ_cons,ih k x (by simpa using h),List.take_succ_cons,List.cons_append]
structure Rz0 (X:RX) (tr:List (Int×Int)) (vls:List Value) (w:World):Prop where
 chk:Blk w X.b tCr (gu X ⟨0,0,[],.slice none 0 0,0,(0,0),tr,vls,[]⟩)
 g:w.ownsRow X.B tGb 4 (.slice X.gA X.gs.length X.gc) X.gs.length (X.gs.flatMap glC)
 f:w.ownsRow X.B tFu 6 (.slice X.fA X.fl.length X.fc) X.fl.length (dE X.fl vls)
 n:w.ownsRow X.B tNd 8 (.slice X.nA X.ns.length X.nc) X.ns.length (aI X.ns tr)
 ps:∀x∈X.fl,w.ownsRow X.B tPr 2 x.2 x.1.ps.length (x.1.ps.flatMap cz)
 ks:∀x∈X.ns,w.ownsRow X.B aC 1 x.v x.kids.length (ints (bK x.kids))
 vl:vls.length=X.fl.length
 tl:tr.length=X.ns.length
 hB:X.B<=X.b
section
variable {X:RX} {tr:List (Int×Int)} {vls:List Value} {w w':World}
theorem Rz0.stN (h:Rz0 X tr vls w){g:Nat}(hA:X.nA=some ⟨g,0,none⟩){i:Nat}{x:CN}{t t':Int×Int}(hx:X.ns[i]? =some x)(ht:tr[i]? =some t)(j:Nat)(hj:j<8)(u:Value)(hu:aA x t'=(aA x t).set j u) :
  Rz0 X (tr.set i t') vls (w.setCell ⟨g,i * 8+j,none⟩ u)/\Below X.B w (w.setCell ⟨g,i * 8+j,none⟩ u):=by
 have hn:=h.n;rw [hA] at hn;obtain ⟨n1,hg⟩:=hn.stored (i * 8+j) u;rw [ja X.ns tr i j hj hx ht u hu] at n1;have hk:Kind w g tNd:=ag hn rfl;have hr:∀{base sz n:Nat} {T:TypeId} {u:Value} {xs:List Value},w.ownsRow base T sz u n xs->T≠tNd->∀r,some g=some r->u.ownBlock≠some r:=by
  intro base sz n T u xs h1 hT r hr e;cases hr;exact au (ag h1 e) hk hT rfl
 exact ⟨{
  chk:=ak hg h.chk (fun e=>au h.chk.kind hk (by decide) (Option.some.inj e).symm)
  g:=ah hg h.g (hr h.g (by decide))
  f:=ah hg h.f (hr h.f (by decide))
  n:=by rw [hA];exact n1
  ps:=fun x hx=>ah hg (h.ps x hx) (hr (h.ps x hx) (by decide))
  ks:=fun x hx=>ah hg (h.ks x hx) (hr (h.ks x hx) (by decide))
  vl:=h.vl
  tl:=by simpa using h.tl
  hB:=h.hB},(zB _ _).setCell (p:=⟨g,i * 8+j,none⟩) (hn.lt g rfl).1 _⟩
theorem Rz0.stF (h:Rz0 X tr vls w){g:Nat}(hA:X.fA=some ⟨g,0,none⟩){i:Nat}{x:Fn'×Value}{v:Value}(hx:X.fl[i]? =some x)(hv:vls[i]? =some v)(u:Value) :
  Rz0 X tr (vls.set i u) (w.setCell ⟨g,i * 6+5,none⟩ u)/\Below X.B w (w.setCell ⟨g,i * 6+5,none⟩ u):=by
 have hn:=h.f;rw [hA] at hn;obtain ⟨n1,hg⟩:=hn.stored (i * 6+5) u;rw [oG X.fl vls i hx hv u] at n1;have hk:Kind w g tFu:=ag hn rfl;have hr:∀{base sz n:Nat} {T:TypeId} {u:Value} {xs:List Value},w.ownsRow base T sz u n xs->T≠tFu->∀r,some g=some r->u.ownBlock≠some r:=by
  intro base sz n T u xs h1 hT r hr e;cases hr;exact au (ag h1 e) hk hT rfl
 exact ⟨{
  chk:=ak hg h.chk (fun e=>au h.chk.kind hk (by decide) (Option.some.inj e).symm)
  g:=ah hg h.g (hr h.g (by decide))
  f:=by rw [hA];exact n1
  n:=ah hg h.n (hr h.n (by decide))
  ps:=fun x hx=>ah hg (h.ps x hx) (hr (h.ps x hx) (by decide))
  ks:=fun x hx=>ah hg (h.ks x hx) (hr (h.ks x hx) (by decide))
  vl:=by simpa using h.vl
  tl:=h.tl
  hB:=h.hB},(zB _ _).setCell (p:=⟨g,i * 6+5,none⟩) (hn.lt g rfl).1 _⟩
theorem Rz0.rv (h:Rz0 X tr vls w)(hv:∀(j:Nat) (v:Value),vls[j]? =some v->v=.slice none 0 0) :
  RV X ⟨0,w.heap.size,[],.slice none 0 0,0,(0,0),tr,vls,List.replicate X.fl.length []⟩ w where
 chk:=h.chk
 g:=h.g
 f:=h.f
 n:=h.n
 l:=World.ownsRow_nil _ _ _ _
 ps:=h.ps
 ks:=fun x hx=>⟨h.ks x hx,fun g hg=>((h.ks x hx).lt g hg).2⟩
 cur:=fun v l h1 h2=>by
  obtain rfl:=hv _ _ h1;obtain rfl:=List.eq_of_mem_replicate (zG h2);exact World.ownsRow_nil _ _ _ _
 old:=fun j v l _ h1 h2=>by
  obtain rfl:=hv _ _ h1;obtain rfl:=List.eq_of_mem_replicate (zG h2);exact ⟨World.ownsRow_nil _ _ _ _,fun g hg=>by cases hg⟩
 vl:=h.vl
 vn:=by simp
 tl:=h.tl
 hB:=⟨h.hB,by have:=h.chk.lt;have:=h.hB;simp only;omega,Nat.le_refl _⟩
end
theorem RV.pgC {X:RX}{S:RS}{w:World}{pg:Pg}(h:RV X S w){B:Nat}(hB:B<=X.B)(hg:X.gs=pg.g)(hf:X.fl.map (·.1)=pg.f)(hn:X.ns.map CN.nd=pg.t.flat 0):PgC B w X.gA X.fA X.nA X.gc X.fc X.nc pg X.fl S.vls X.ns S.tr S.vs where
 g:=by rw [<-hg];exact h.g.mono hB
 f:=h.f.mono hB
 n:=h.n.mono hB
 vl:=h.vl
 tl:=h.tl
 vn:=h.vn
 ps:=fun x hx=>(h.ps x hx).mono hB
 ks:=fun x hx=>(h.ks x hx).1.mono hB
 vr:=fun j v l h1 h2=>by
  by_cases hj:j=S.F
  ·subst hj;exact (h.cur v l h1 h2).mono (Nat.le_trans hB h.hB.2.1)
  ·exact (h.old j v l hj h1 h2).1.mono hB
 fe:=hf
 ne:=hn
section
variable {X:RX} {S:RS} {w w':World}
theorem RV.IU (h:RV X S w){k:Nat}{T:TypeId}(hk:Kind w k T)(h1:T≠tCr)(h2:T≠tGb)(h3:T≠tFu)(h4:T≠tNd)(h5:T≠tVr)(h6:T≠tPr)(h7:T≠aC)(hg:w.grownBy w' (some k)):RV X S w':=by
 have hr:∀{base sz n:Nat} {T':TypeId} {v:Value} {xs:List Value},w.ownsRow base T' sz v n xs->T≠T'->∀r,some k=some r->v.ownBlock≠some r:=by
  intro base sz n T' v xs a1 hT r hr e;cases hr;exact au (ag a1 e) hk (fun e=>hT e.symm) rfl
 exact {
  chk:=ak hg h.chk (fun e=>au h.chk.kind hk (fun e=>h1 e.symm) (Option.some.inj e).symm)
  g:=ah hg h.g (hr h.g h2)
  f:=ah hg h.f (hr h.f h3)
  n:=ah hg h.n (hr h.n h4)
  l:=ah hg h.l (hr h.l h5)
  ps:=fun x hx=>ah hg (h.ps x hx) (hr (h.ps x hx) h6)
  ks:=fun x hx=>az hg (h.ks x hx) (hr (h.ks x hx).1 h7)
  cur:=fun v l a1 a2=>ah hg (h.cur v l a1 a2) (hr (h.cur v l a1 a2) h7)
  old:=fun j v l h0 a1 a2=>az hg (h.old j v l h0 a1 a2) (hr (h.old j v l h0 a1 a2).1 h7)
  vl:=h.vl
  vn:=h.vn
  tl:=h.tl
  hB:=⟨h.hB.1,h.hB.2.1,Nat.le_trans h.hB.2.2 hg.size⟩}
theorem nW {no at_:Int}{Wx:World}{b:Nat}(hb:b≠X.b)(o:Nat)(v:Value)(h:Wx.cell? ⟨X.b,6,none⟩=some (Iv no)/\Wx.cell? ⟨X.b,7,none⟩=some (Iv at_)/\X.b<Wx.heap.size) :
  (Wx.setCell ⟨b,o,none⟩ v).cell? ⟨X.b,6,none⟩=some (Iv no)/\(Wx.setCell ⟨b,o,none⟩ v).cell? ⟨X.b,7,none⟩=some (Iv at_)/\X.b< (Wx.setCell ⟨b,o,none⟩ v).heap.size:=
 ⟨(World.cell?_setCell_far _ _ _ _ hb).trans h.1,(World.cell?_setCell_far _ _ _ _ hb).trans h.2.1,by simpa using h.2.2⟩
theorem qV {no at_:Int}{Wx:World}(h:Wx.cell? ⟨X.b,6,none⟩=some (Iv no)/\Wx.cell? ⟨X.b,7,none⟩=some (Iv at_)/\X.b<Wx.heap.size) :
  Wx.drew.cell? ⟨X.b,6,none⟩=some (Iv no)/\Wx.drew.cell? ⟨X.b,7,none⟩=some (Iv at_)/\X.b<Wx.drew.heap.size:=h
end
theorem ND:∃d,prog.underlying tDg=some d/\d.isRow=true:=⟨_,underlying33,rfl⟩
theorem Ho:(prog.info? tDg).map (·.size)=some 2:=by kernel_rfl
theorem qW {fn:Func}{b b2:Nat}{x y z u v:Value}(h:fn.results= #[.cell 2 tPg,.cell 3 tDg])(tmps:Array Value)(w:World)
  (hp:tmps.getD 2 undef=.pointer (some ⟨b,0,none⟩)) (Qd:tmps.getD 3 undef=.pointer (some ⟨b2,0,none⟩)) (hb:Blk w b tPg #[x,y,z]) (aU:Blk w b2 tDg #[u,v]) :
  (results fn tmps).run prog w=.ok (.tuple #[.agg #[x,y,z],.agg #[u,v]]) w:=by
 obtain ⟨d,hu,hr⟩:=Mj;obtain ⟨d2,XL,pY⟩:=ND;have hc:w.rangeAt b 0 [x,y,z]:=by
  intro j v hv;rw [Nat.zero_add,hb.cell]
  simpa using hv
 have IR:w.rangeAt b2 0 [u,v]:=by
  intro j v hv;rw [Nat.zero_add,aU.cell]
  simpa using hv
 have hl:=run_loadVar_mid (P:=prog) w b 0 tPg [x,y,z] d hc hu hr zO;have OE:=run_loadVar_mid (P:=prog) w b2 0 tDg [u,v] d2 IR XL pY Ho;simp only [results,h];simp [Sem.run_bind,Result.andThen];rw [show tmps[2]?.getD undef=.pointer (some ⟨b,0,none⟩) from by simpa using hp,show tmps[3]?.getD undef=.pointer (some ⟨b2,0,none⟩) from by simpa using Qd]
 simp [asAddr,hl,OE]
theorem Nn {pg:Pg}{fl:List (Fn'×Value)}{vls:List Value}{ns:List CN}{tr:List (Int×Int)}{vs:List (List Int)}{gA fA nA:Option Addr}{gc fc nc:Nat}{w:World}{K:Nat}{s:St}(h:PgU w gA fA nA gc fc nc pg fl vls ns tr vs)
  (hin:oP pg pg.g fl ns tr) (htz:trZ ns tr=tr0 (pg.t.flat 0)) (hp:pJ TkV K pg s) (hK:K<=50000) :
  Calls prog 11 #[pgV gA fA nA pg.g.length gc fl.length fc ns.length nc] w (nK pg w):=by
 have hbd:=hin.bd;have Uk:=h.lf;have Fg:=h.ln;have ZH:∀W,Below w.heap.size w W->Calls prog 9 #[pgV gA fA nA pg.g.length gc fl.length fc ns.length nc] W fun e w'=>∃gA' yP zZ gc' xS yG ml yB ms,e=.returned (pgV gA' yP zZ pg.g.length gc' fl.length xS ns.length yG)/\PgC W.heap.size w' gA' yP zZ gc' xS yG pg ml yB ms tr vs/\Below W.heap.size W w':=fun W hW=>
  Az (h.r.on hW) rfl h.f h.n hbd.g (by rw [Uk];exact hbd.f) (by rw [Fg];exact hbd.n) (h.pl hbd) (h.kl hbd) h.v
 obtain ⟨ng,Qe⟩:=zN pg.g.length;obtain ⟨nf,NY⟩:=zN fl.length;obtain ⟨N,OI⟩:=zN ns.length;rw [Qe,NY,OI] at ZH |-;have Kq:ng<=1000000:=by have:=hbd.g;omega
 have Nz:nf<=1000000:=by have:=hbd.f;omega
 have Tg:N<=100000:=by have:=hin.sz;omega
 have Ky:=Hy ZH;have HX:=Hy8 h hin htz hp hK Qe NY OI;have HBD:=Hy hbd;clear h hin htz hp hK Qe NY OI ZH hbd Uk Fg;go_enter func11,ntmps11;go_upto_region 1 with (fail);have b0:=((Blk.new w tPg #[.slice gA ng gc,.slice fA nf fc,.slice nA N nc]).alloc (.cells #[.slice none 0 0,.slice none 0 0,.slice none 0 0] tPg)).alloc (.cells #[Iv 0,Iv 0] tDg);have b1:=(Blk.new (w.alloc (.cells #[.slice gA ng gc,.slice fA nf fc,.slice nA N nc] tPg)) tPg #[.slice none 0 0,.slice none 0 0,.slice none 0 0]).alloc (.cells #[Iv 0,Iv 0] tDg);have b2:=Blk.new ((w.alloc (.cells #[.slice gA ng gc,.slice fA nf fc,.slice nA N nc] tPg)).alloc (.cells #[.slice none 0 0,.slice none 0 0,.slice none 0 0] tPg)) tDg #[Iv 0,Iv 0];rw [show (w.alloc (.cells #[.slice gA ng gc,.slice fA nf fc,.slice nA N nc] tPg)).heap.size=w.heap.size+1 by simp] at b1
 rw [show ((w.alloc (.cells #[.slice gA ng gc,.slice fA nf fc,.slice nA N nc] tPg)).alloc (.cells #[.slice none 0 0,.slice none 0 0,.slice none 0 0] tPg)).heap.size=w.heap.size+1+1 by simp] at b2
 have hb:Below w.heap.size w (((w.alloc (.cells #[.slice gA ng gc,.slice fA nf fc,.slice nA N nc] tPg)).alloc (.cells #[.slice none 0 0,.slice none 0 0,.slice none 0 0] tPg)).alloc (.cells #[Iv 0,Iv 0] tDg)):=(((zB _ _).alloc (zL _) _).alloc (by simp) _).alloc (by simp;omega) _
 obtain ⟨K0,hK0⟩:=zN w.heap.size;rw [hK0] at b0 b1 b2;generalize ((w.alloc (.cells #[.slice gA ng gc,.slice fA nf fc,.slice nA N nc] tPg)).alloc (.cells #[.slice none 0 0,.slice none 0 0,.slice none 0 0] tPg)).alloc (.cells #[Iv 0,Iv 0] tDg)=W1 at *;have iK:=Hy hb;have B1:=Hy b1;have B2:=Hy b2;have p0:W1.cell? ⟨K0,0,none⟩=some (.slice gA ng gc):=b0.cell 0;have p1:W1.cell? ⟨K0,1,none⟩=some (.slice fA nf fc):=b0.cell 1;have p2:W1.cell? ⟨K0,2,none⟩=some (.slice nA N nc):=b0.cell 2;have pl:=b0.lt;try simp only [hK0]
 have SX:=Hy hK0;clear hb b0 b1 b2 hK0;go_wp2_with fail;refine (Ky.out W1 iK.out).mono ?_;clear Ky;rintro e w2 ⟨ZR,ZU,Zn,ZQ,ZT,Zm,ml,yB,ms,rfl,hC,aU⟩;have Qf:ml.length=nf:=by have h1:=congrArg List.length hC.fe;rw [List.length_map] at h1;have:=HX.out.1.lf;have:=HX.out.2.2.2.2.2.2.1;omega
 have OC:ms.length=N:=by have h1:=congrArg List.length hC.ne;rw [List.length_map,Fo.aD] at h1;have:=HX.out.1.ln;have:=HX.out.2.2.2.2.2.2.2;omega
 obtain ⟨X,hX⟩:∃q:RX,(⟨W1.heap.size,w2.heap.size,ZR,ZQ,ZU,ZT,Zn,Zm,pg.g,ml,ms⟩:RX)=q:=⟨_,rfl⟩;have NR:X.b=w2.heap.size:=by rw [<-hX]
 have hbA:Below w2.heap.size w2 (w2.alloc (.cells #[.slice ZR ng ZQ,.slice ZU nf ZT,.slice Zn N Zm,Iv 0,.slice none 0 0,Iv 0,Iv 0,Iv 0] tCr)):=(zB _ _).alloc (zL _) _;have hk:=Blk.new w2 tCr #[.slice ZR ng ZQ,.slice ZU nf ZT,.slice Zn N Zm,Iv 0,.slice none 0 0,Iv 0,Iv 0,Iv 0];have jB:Rz0 X tr yB (w2.alloc (.cells #[.slice ZR ng ZQ,.slice ZU nf ZT,.slice Zn N Zm,Iv 0,.slice none 0 0,Iv 0,Iv 0,Iv 0] tCr)):=by
  have hg:=aj hbA;have h1:=HX.out.2.2.2.2.2.1;rw [<-hX];exact {
   chk:=by simp only [gu,h1,Qf,OC];exact hk
   g:=ah hg hC.g (by simp)
   f:=ah hg hC.f (by simp)
   n:=ah hg hC.n (by simp)
   ps:=fun x hx=>ah hg (hC.ps x hx) (by simp)
   ks:=fun x hx=>ah hg (hC.ks x hx) (by simp)
   vl:=hC.vl
   tl:=hC.tl
   hB:=aU.size}
 have vS:=Hy (show X.B=W1.heap.size/\X.gs=pg.g/\X.fl.map (·.1)=pg.f/\X.ns.map CN.nd=pg.t.flat 0/\X.gs.length=ng/\X.fl.length=nf/\X.ns.length=N/\X.b=w2.heap.size/\(X.gA=ZR/\X.fA=ZU/\X.nA=Zn/\X.gc=ZQ/\X.fc=ZT/\X.nc=Zm) from by
  rw [<-hX];exact ⟨rfl,rfl,hC.fe,hC.ne,HX.out.2.2.2.2.2.1,Qf,OC,rfl,rfl,rfl,rfl,rfl,rfl,rfl⟩)
 have PK:=aU.trans (hbA.mono aU.size);clear hC hX hk Qf OC p0 p1 p2 pl;go_upto_region 2 with (fail);rw [<-NR];generalize w2.alloc (.cells #[.slice ZR ng ZQ,.slice ZU nf ZT,.slice Zn N Zm,Iv 0,.slice none 0 0,Iv 0,Iv 0,Iv 0] tCr)=w3 at *;have HR0:=Hy jB;have Cb:=Hy PK;clear jB PK hbA aU NR;go_wp2_with fail;go_loopw [5] (fun v wr=>∃(i:Nat) (tc:List (Int×Int)),i<=N/\v=Iv i/\tc.length=N/\(∀j,i<=j->tc[j]? =tr[j]?)/\(∀(j:Nat) (x:CN) (t:Int×Int),j<i->X.ns[j]? =some x->tr[j]? =some t->tc[j]? =some (if x.h.op=1 then t.1 else 0,0))/\Rz0 X tc yB wr/\Below X.B w3 wr) (fun v _=>N - (intOf v).toNat)
 case atStart=>exact ⟨0,tr,by omega,rfl,by rw [HR0.out.tl];exact vS.out.2.2.2.2.2.2.1,fun j _=>rfl,fun j x t hj=>absurd hj (by omega),HR0.out,zB _ _⟩
 case round=>
  obtain ⟨i,tc,hi,rfl,htc,Tj,OD,hS,Qr⟩:=hrel;have p2:wr.cell? ⟨X.b,2,none⟩=some (.slice X.nA X.ns.length X.nc):=hS.chk.cell 2;rw [vS.out.2.2.2.2.2.2.1] at p2;have pl:=hS.chk.lt;by_cases hlt:i<N
  case pos=>
   have Ug:=vS.out.2.2.2.2.2.2.1;obtain ⟨x,hx⟩:∃x,X.ns[i]? =some x:=⟨_,List.getElem?_eq_getElem (by omega)⟩
   obtain ⟨t,ht⟩:∃t,tc[i]? =some t:=⟨_,List.getElem?_eq_getElem (by omega)⟩
   have ai:=hS.n;rw [Ug] at ai;obtain ⟨g,OX⟩:∃g,X.nA=some ⟨g,0,none⟩:=by
    rcases ai.2 with ⟨_,e⟩|⟨g,_,_,e,_⟩
    ·omega
    ·simp only [Value.slice.injEq] at e;exact ⟨g,e.1⟩
   rw [OX] at ai p2;have q0:wr.cell? ⟨g,i * 8,none⟩=some (Iv x.h.op):=by
    rw [ai.cellAt (i * 8) (by omega)]
    exact aV X.ns tc i 0 (by omega) hx ht
   have q6:wr.cell? ⟨g,i * 8+6,none⟩=some (Iv t.1):=by
    rw [ai.cellAt (i * 8+6) (by omega)]
    exact aV X.ns tc i 6 (by omega) hx ht
   have q7:wr.cell? ⟨g,i * 8+7,none⟩=some (Iv t.2):=by
    rw [ai.cellAt (i * 8+7) (by omega)]
    exact aV X.ns tc i 7 (by omega) hx ht
   have f6:=ai.frozenAt (i * 8+6);have f7:=ai.frozenAt (i * 8+7);have ql:g<wr.heap.size:=(ag ai rfl).lt;have aD:g≠X.b:=fun e=>au hS.chk.kind (ag ai rfl) (by decide) e.symm
   obtain ⟨s1,z1⟩:=hS.stN OX hx ht 7 (by omega) (Iv 0) (t':=(t.1,0)) rfl
   have ht1:(tc.set i (t.1,0))[i]? =some (t.1,0):=List.getElem?_set_self (by omega)
   obtain ⟨s2,z2⟩:=s1.stN OX hx ht1 6 (by omega) (Iv 0) (t':=(0,0)) rfl
   rw [List.set_set] at s2;have hgo:∀y:Int×Int,y=(if x.h.op=1 then t.1 else 0,0)->(tc.set i y).length=N/\(∀j,i+1<=j->(tc.set i y)[j]? =tr[j]?)/\(∀(j:Nat) (x:CN) (t:Int×Int),j<i+1->X.ns[j]? =some x->tr[j]? =some t->(tc.set i y)[j]? =some (if x.h.op=1 then t.1 else 0,0)):=fun y hy=>by
    refine ⟨by rw [List.length_set];exact htc,fun j hj=>?_,fun j x' t' hj hx' Zt=>?_⟩
    ·rw [List.getElem?_set_ne (by omega)]
     exact Tj j (by omega)
    ·by_cases e:j=i
     ·subst e;rw [List.getElem?_set_self (by omega),hy]
      rw [hx] at hx';obtain rfl:=Option.some.inj hx';rw [Tj j (zL _),Zt] at ht;obtain rfl:=Option.some.inj ht
      rfl
     ·rw [List.getElem?_set_ne (fun e2=>e e2.symm)]
      exact OD j x' t' (by omega) hx' Zt
   have HN:=Hy3 (And.intro s1 (Qr.trans z1)) (And.intro s2 ((Qr.trans z1).trans z2)) hgo;have Zz:(i:Int)<N:=by omega
   clear hS s1 s2 z1 z2 hgo Tj OD hx ht ht1 htc ai Ug Qr OX;by_cases ho:x.h.op=1
   ·have d1:(x.h.op != 1)=false:=by simp [ho]
    have HO:=Hy ho;clear ho;go_wp2_with fail;go_roundw
    case rel=>exact ⟨i+1,_,by omega,by go_num,(HN.out.2.2 (t.1,0) (by rw [if_pos HO.out])).1,(HN.out.2.2 (t.1,0) (by rw [if_pos HO.out])).2.1,(HN.out.2.2 (t.1,0) (by rw [if_pos HO.out])).2.2,HN.out.1.1,HN.out.1.2⟩
    case measure=>simp [intOf];omega
   ·have d1:(x.h.op != 1)=true:=by simp [ho]
    have HO:=Hy ho;clear ho;go_wp2_with fail;go_roundw
    case rel=>exact ⟨i+1,_,by omega,by go_num,(HN.out.2.2 (0,0) (by rw [if_neg HO.out])).1,(HN.out.2.2 (0,0) (by rw [if_neg HO.out])).2.1,(HN.out.2.2 (0,0) (by rw [if_neg HO.out])).2.2,HN.out.2.1.1,HN.out.2.1.2⟩
    case measure=>simp [intOf];omega
  case neg=>
   obtain rfl:N=i:=by omega
   have htr0:tr.length=X.ns.length:=by have h9:=HX.out.1.r.pi.tl;have h8:=HX.out.2.2.2.2.2.2.2;have h7:=vS.out.2.2.2.2.2.2.1;omega
   have hZ:tc=tr0 (pg.t.flat 0):=by
    rw [Cw htr0 (by rw [htc];exact vS.out.2.2.2.2.2.2.1.symm) (fun i x t hi hx ht=>OD i x t (by have:=vS.out.2.2.2.2.2.2.1;omega) hx ht),wC (ns:=ns) (by rw [vS.out.2.2.2.1,HX.out.1.n]),HX.out.2.2.1]
   subst hZ;have Lv:=Hy2 hS Qr;have p1:wr.cell? ⟨X.b,1,none⟩=some (.slice X.fA X.fl.length X.fc):=hS.chk.cell 1;rw [vS.out.2.2.2.2.2.1] at p1;clear hS Qr Tj OD htc htr0;go_wp2_with fail;go_loopw [6] (fun v wr=>∃(i:Nat) (vl:List Value),i<=nf/\v=Iv i/\(∀j,j<i->vl[j]? =some (.slice none 0 0))/\Rz0 X (tr0 (pg.t.flat 0)) vl wr/\Below X.B w3 wr) (fun v _=>nf - (intOf v).toNat)
   case atStart=>exact ⟨0,yB,by omega,rfl,fun j hj=>absurd hj (by omega),Lv.out.1,Lv.out.2⟩
   case round=>
    obtain ⟨i,vl,hi,rfl,OD,hS,Qr⟩:=hrel;have p1:wr.cell? ⟨X.b,1,none⟩=some (.slice X.fA X.fl.length X.fc):=hS.chk.cell 1;rw [vS.out.2.2.2.2.2.1] at p1;have pl:=hS.chk.lt;by_cases hlt:i<nf
    case pos=>
     have Ug:=vS.out.2.2.2.2.2.1;obtain ⟨x,hx⟩:∃x,X.fl[i]? =some x:=⟨_,List.getElem?_eq_getElem (by omega)⟩
     obtain ⟨u,hu⟩:∃u,vl[i]? =some u:=⟨_,List.getElem?_eq_getElem (by have:=hS.vl;omega)⟩
     have ai:=hS.f;rw [Ug] at ai;obtain ⟨g,OX⟩:∃g,X.fA=some ⟨g,0,none⟩:=by
      rcases ai.2 with ⟨_,e⟩|⟨g,_,_,e,_⟩
      ·omega
      ·simp only [Value.slice.injEq] at e;exact ⟨g,e.1⟩
     rw [OX] at ai p1;have q5:wr.cell? ⟨g,i * 6+5,none⟩=some u:=by
      rw [ai.cellAt (i * 6+5) (by omega)]
      exact bQ X.fl vl i 5 (by omega) hx hu
     have f5:=ai.frozenAt (i * 6+5);have ql:g<wr.heap.size:=(ag ai rfl).lt;obtain ⟨s1,z1⟩:=hS.stF OX hx hu (.slice none 0 0);have HN:=Hy (And.intro (fun (j:Nat) (hj:j<i+1)=>(show (vl.set i (.slice none 0 0))[j]? =some (.slice none 0 0) from by
      by_cases e:i=j
      ·subst e;exact List.getElem?_set_self (by have:=hS.vl;omega)
      ·rw [List.getElem?_set_ne e];exact OD j (by omega))) (And.intro s1 (Qr.trans z1)))
     have Zz:(i:Int)<nf:=by omega
     clear hS Qr OD hx hu ai Ug s1 z1 OX;go_wp2_with fail;go_roundw
     case rel=>exact ⟨i+1,_,by omega,by go_num,HN.out.1,HN.out.2.1,HN.out.2.2⟩
     case measure=>simp [intOf];omega
    case neg=>
     obtain rfl:nf=i:=by omega
     have hT0:trZ X.ns tr=tr0 (pg.t.flat 0):=by rw [wC (ns:=ns) (by rw [vS.out.2.2.2.1,HX.out.1.n]),HX.out.2.2.1]
     have gn:∀g∈X.gs,0<=g.n/\g.n<=1000000:=fun g hg=>by
      rw [vS.out.2.1] at hg;exact ⟨((HX.out.2.2.2.1.gl g hg).n).1,(HX.out.2.1.gl.2 g hg).2⟩
     have hpq:∀x∈X.fl,x.1.ps.length<=50000:=fun x hx=>by
      have h8:x.1∈pg.f:=by rw [<-vS.out.2.2.1];exact List.mem_map_of_mem hx
      have hm:∀(l:List Fn'),x.1∈l->x.1.ps.length<=(l.map fun f=>f.ps.length).sum:=by
       intro l
       induction l with
       |nil=>intro h;cases h
       |cons y l ih=>
        intro hy;simp only [List.map_cons,List.sum_cons];rcases List.mem_cons.1 hy with e|hy
        ·rw [e];omega
        ·have:=ih hy;omega
      have h7:=hm pg.f h8;have h6:=HX.out.2.2.2.1.ln;unfold cnt at h6;have h5:=HX.out.2.2.2.2.1;omega
     have hBdX:BdX X:=by
      have LC:∀x∈X.ns,∃j,(pg.t.flat 0)[j]? =some x.nd:=fun x hx=>by
       obtain ⟨j,hj,e⟩:=List.getElem_of_mem hx;exact ⟨j,by rw [<-vS.out.2.2.2.1,List.getElem?_map,List.getElem?_eq_getElem hj,e];rfl⟩
      have sQ:X.ns.length=(pg.t.flat 0).length:=by rw [<-vS.out.2.2.2.1,List.length_map]
      refine ⟨by have:=vS.out.2.2.2.2.2.2.1;omega,fun x hx=>?_,fun x hx k hk=>?_,fun x hx=>?_,by have:=vS.out.2.2.2.2.1;omega,by have:=vS.out.2.2.2.2.2.1;omega,fun x hx=>by have:=hpq x hx;omega⟩
      ·obtain ⟨j,hj⟩:=LC x hx;exact HBD.out.k x.nd (zG hj)
      ·obtain ⟨j,hj⟩:=LC x hx;have h9:=(pg.t.BP 0 j x.nd hj).2 k hk;have h8:=(zS.1 hj).1;rw [sQ];omega
      ·obtain ⟨j,hj⟩:=LC x hx;exact pg.t.GZ 0 HX.out.2.2.2.1.bl.ar x.nd (zG hj)
     obtain ⟨RF,hRF⟩:=zN (fU pg.g pg.f X.ns pg.f pg.t 0 (tr0 (pg.t.flat 0)) (xw pg));have hRV:=hS.rv (fun j v hv=>by
      have h9:=(zS.1 hv).1;have h8:=hS.vl;rw [OD j (by have:=vS.out.2.2.2.2.2.1;omega)] at hv
      exact (Option.some.inj hv).symm)
     have HBdX:=Hy hBdX;have Z8:=Hy (KO hRV (by have:=vS.out.2.2.2.2.1;omega) (by have:=vS.out.2.2.2.2.2.1;omega) gn (fun x hx=>by have:=hpq x hx;omega))
     have hgv:∀(j:Nat),j<nf->vl[j]? =some (.slice none 0 0):=OD;have HGV:=Hy2 hgv hS.vl;have HRV0:=Hy hRV;have HRF:=Hy hRF;have HBw:=Hy Qr;clear hRV hS Qr OD hRF hBdX gn hpq hT0 hgv;go_wp2_with fail;refine Z8.out.mono ?_;clear Z8;rintro e w4 ⟨rfl,Kr⟩;rw [vS.out.2.1,vS.out.2.2.1] at Kr;have Rc:=Hy Kr.rv;have HF4:=Hy (HBw.out.trans (kK Kr.gr HRV0.out.hB.1 HRV0.out.Bw));have p1:=Kr.rv.c1;rw [vS.out.2.2.2.2.2.1] at p1;have pl:=Kr.rv.chk.lt;have p6:=Kr.rv.c6;simp only at p6;have HD4:=Hy (show pE pg.g pg.f pg.f 0 (kL pg.g pg.g 0 0 (0,0))=xw pg from rfl)
     clear Kr;go_wp2_with fail;go_loopw [7] (fun v wr=>∃(k:Nat) (S':RS) (F:Fo) (c:Nat) (vs2:List (List Int)),k<=nf/\v=Iv k/\RV X S' wr/\Below X.B w3 wr/\(∀j,k<=j->j<nf->S'.vls[j]? =some (.slice none 0 0)/\S'.vs[j]? =some [])/\(∀j n,(F.flat c)[j]? =some n->(X.ns.map CN.nd)[c+j]? =some n)/\(pg.f.drop k).map (·.b)=F.roots c/\fU pg.g pg.f X.ns (pg.f.drop k) F c S'.tr S'.d=((RF.1.1,vs2),RF.2)/\S'.vs.take k ++ vs2=RF.1.2) (fun v _=>nf - (intOf v).toNat)
     case atStart=>
      refine ⟨0,_,pg.t,0,RF.1.2,by omega,rfl,Rc.out,HF4.out,fun j _ hj=>⟨HGV.out.1 j hj,?_⟩,fun j n hn=>by rw [Nat.zero_add,vS.out.2.2.2.1];exact hn,?_,?_,by simp⟩
      ·have:=vS.out.2.2.2.2.2.1;rw [List.getElem?_replicate,if_pos (by omega)]
      ·rw [List.drop_zero];exact HX.out.2.1.rt
      ·rw [List.drop_zero];simp only;rw [HD4.out,HRF.out]
     case round=>
      obtain ⟨k,S',F,c,vs2,hk,rfl,hR,Wm,Bw,xu,JG,hbd,Gv⟩:=hrel;obtain ⟨wo,PT⟩:=zQ wr;subst PT;have p1:=hR.c1;rw [vS.out.2.2.2.2.2.1] at p1;have pl:=hR.chk.lt;have p6:=hR.c6;have uo:pg.f.length=nf:=by rw [<-vS.out.2.2.1,List.length_map];exact vS.out.2.2.2.2.2.1
      by_cases hgo:k<nf/\S'.d.1=0
      case pos=>
       obtain ⟨hlt,hd0⟩:=hgo;rw [hd0] at p6;obtain ⟨f,hf⟩:∃f,pg.f[k]? =some f:=⟨_,List.getElem?_eq_getElem (by omega)⟩
       have hdr:pg.f.drop k=f ::pg.f.drop (k+1):=by rw [List.drop_eq_getElem_cons (by exact (zS.1 hf).1),(zS.1 hf).2]
       obtain ⟨pv,hx⟩:∃pv,X.fl[k]? =some (f,pv):=by
        obtain ⟨x,hx⟩:∃x,X.fl[k]? =some x:=⟨_,List.getElem?_eq_getElem (by have:=vS.out.2.2.2.2.2.1;omega)⟩
        have h9:(X.fl.map (·.1))[k]? =some x.1:=by rw [List.getElem?_map,hx];rfl
        rw [vS.out.2.2.1,hf] at h9;obtain ⟨x1,x2⟩:=x;obtain rfl:=Option.some.inj h9;exact ⟨x2,hx⟩
       rw [hdr] at JG hbd;cases F with
       |nil=>simp [Fo.roots] at JG
       |cons hh kk r=>
        rw [List.map_cons,Fo.roots,List.cons.injEq] at JG;rw [fU,if_neg (by rw [hd0];simp)] at hbd
        have WK:∀m n,((Fo.cons hh kk .nil).flat c)[m]? =some n->(X.ns.map CN.nd)[c+m]? =some n:=fun m n hn=>by
         rcases jP hn with ⟨_,wW⟩|⟨rfl,rfl⟩|⟨m2,rfl,wW⟩
         ·exact xu _ _ (jO wW)
         ·exact xu _ _ iN
         ·simp [Fo.flat] at wW
        have HB:=Hy (MP hR HBdX.out hx JG.1 WK (Bw k (zL _) hlt).1 (Bw k (zL _) hlt).2);rw [vS.out.2.1,vS.out.2.2.1] at HB;obtain ⟨bR,OZ⟩:=zN (fH pg.g pg.f X.ns f hh kk c S'.tr S'.d);simp only [OZ] at HB hbd;have Vg:∀j n,(r.flat (c+kk.size+1))[j]? =some n->(X.ns.map CN.nd)[c+kk.size+1+j]? =some n:=fun j n hn=>by
         rw [show c+kk.size+1+j=c+(kk.size+1+j) by omega]
         exact xu _ _ (by rw [gW];exact hn)
        have HI:=Hy7 Wm Bw Vg JG.2 hbd Gv hR;clear hR Wm Bw xu JG hbd Gv hdr hx hf WK Vg OZ;have Qj:(k:Int)<nf:=by omega
        go_wp2_with fail;refine HB.out.mono ?_;clear HB;rintro e w5 ⟨rfl,H',lv',v',Me,YJ⟩;obtain ⟨qq,hqq⟩:=zN (fU pg.g pg.f X.ns (pg.f.drop (k+1)) r (c+kk.size+1) bR.tr bR.d);have hbd:=HI.out.2.2.2.2.1;rw [hqq] at hbd;obtain ⟨⟨qt,qv⟩,qd⟩:=qq;simp only [Prod.mk.injEq] at hbd;have JH:k<S'.vs.length:=by have h9:=HI.out.2.2.2.2.2.2.vn;have:=vS.out.2.2.2.2.2.1;omega
        have HQ:=Hy (show ∃(Ry:RS),RV X Ry w5/\Below X.B w3 w5/\(∀j,k+1<=j->j<nf->Ry.vls[j]? =some (.slice none 0 0)/\Ry.vs[j]? =some [])/\fU pg.g pg.f X.ns (pg.f.drop (k+1)) r (c+kk.size+1) Ry.tr Ry.d=((RF.1.1,qv),RF.2)/\Ry.vs.take (k+1) ++ qv=RF.1.2 from by
         refine ⟨_,Me,HI.out.1.trans YJ,fun j hj hj2=>?_,?_,?_⟩
         ·simp only;rw [List.getElem?_set_ne (by omega),List.getElem?_set_ne (by omega)]
          exact HI.out.2.1 j (by omega) hj2
         ·simp only;rw [hqq,hbd.1.1,hbd.2]
         ·simp only;rw [su _ _ _ JH,List.append_assoc,List.singleton_append,hbd.1.2];exact HI.out.2.2.2.2.2.1)
        clear Me YJ hqq hbd JH p6 p1 pl;obtain ⟨Ry,UT⟩:=HQ.out;have HQ3:=Hy UT;clear HQ UT;go_wp2_with fail;go_roundw
        case rel=>exact ⟨k+1,Ry,r,c+kk.size+1,qv,by omega,by go_num,HQ3.out.1,HQ3.out.2.1,HQ3.out.2.2.1,HI.out.2.2.1,HI.out.2.2.2.1,HQ3.out.2.2.2.1,HQ3.out.2.2.2.2⟩
        case measure=>simp [intOf];omega
      case neg=>
       have Xw:=Hy (show RF.2=S'.d/\(S'.d.1=0->RF.1=(S'.tr,S'.vs)) from by
        by_cases hd0:S'.d.1=0
        ·have Ey:k=nf:=by
          by_cases e:k<nf
          ·exact absurd ⟨e,hd0⟩ hgo
          ·omega
         subst Ey;rw [List.drop_of_length_le (by omega)] at hbd
         simp only [fU,Prod.mk.injEq] at hbd;have h9:=hR.vn;refine ⟨hbd.2.symm,fun _=>?_⟩
         rw [<-hbd.1.2,List.append_nil,List.take_of_length_le (by rw [h9];have:=vS.out.2.2.2.2.2.1;omega)] at Gv
         rw [hbd.1.1,Gv]
        ·rw [nD _ _ _ _ _ _ _ _ hd0] at hbd;simp only [Prod.mk.injEq] at hbd;exact ⟨hbd.2.symm,fun h=>absurd h hd0⟩)
       have HR:=Hy hR;have HBr:=Hy Wm;obtain ⟨om,hom⟩:=zN (eY pg.f bn);have HFO:=Hy (show Calls prog 30 #[crp X,.string ⟨#[109,97,105,110]⟩,Iv (nf:Nat)] wo fun e w'=>e=.returned (Iv (oI om))/\Below wo.heap.size wo w' from by
        have h9:=vw hR bn (by have:=vS.out.2.2.2.2.2.1;omega)
        rw [vS.out.2.2.1,hom,vS.out.2.2.2.2.2.1] at h9;exact h9)
       have HOM:=Hy hom;have VC:X.B<=w3.heap.size:=by have h9:=vS.out.1;have h8:=Cb.out.size;omega
       have hwo3:w3.heap.size<=wo.heap.size:=Wm.size;have HFL:=Hy uo;clear Bw xu JG hbd Gv uo hR Wm hom;obtain ⟨d1,Ja⟩:=zN S'.d.1;rw [Ja] at p6 hgo;have HD1:=Hy Ja;clear Ja;by_cases hlt:k<nf;all_goals
        first|(have Ja:¬ d1=0:=fun e=>hgo ⟨hlt,e⟩;have hd1b:(d1 == 0)=false:=by (rw [beq_eq_false_iff_ne];exact Ja))|skip
        clear hgo;have Qj:(k:Int)<=nf:=by omega
        obtain ⟨m0,Uh⟩:=zN (oI om);rw [Uh] at HFO;have HM0:=Hy Uh;clear Uh;go_wp2_with fail;refine HFO.out.mono ?_;clear HFO;rintro e w5 ⟨rfl,qK⟩;have RH:=Hy (HR.out.on qK);have HWE:=Hy (HBr.out.trans (qK.mono (by omega)))
        clear qK p1 p6 pl;go_upto_if 99 with (fail);go_cut [] (fun wx=>NoP X {S' with d:=iX pg.f S'.d} w5 wx)
        case first=>
         cases om with
         |none=>
          have Qh:m0= -1:=HM0.out.symm;subst Qh;have I5:=Hy (show Calls prog 31 #[crp X,.bool true,Iv 12,Iv 0] w5 fun e w'=>e=.returned (.tuple #[])/\NoP X {S' with d:=dN S'.d true 12 0} w5 w' from dz RH.out true 12 0)
          go_wp2_with fail;refine I5.out.mono ?_;clear I5;rintro e w6 ⟨rfl,P6⟩;have WZ:iX pg.f S'.d=dN S'.d true 12 0:=by unfold iX;rw [HOM.out];rfl
          have Vn:=Hy (show NoP X {S' with d:=iX pg.f S'.d} w5 w6 from by rw [WZ];exact P6)
          clear P6 WZ;go_wp2_with fail;go_meet;exact Vn.out
         |some q=>
          have Qh:m0=(q:Nat):=HM0.out.symm;subst Qh;obtain ⟨⟨fs_,fty,uV,fb_,fp⟩,Yl⟩:∃f,pg.f[q]? =some f:=⟨_,List.getElem?_eq_getElem (Ak HOM.out)⟩;obtain ⟨pn,Da⟩:=zN uV.length;have Rh:=Hy2 Yl Da;have VL:=(zS.1 Yl).1;obtain ⟨⟨x1,x2⟩,hx⟩:∃x,X.fl[q]? =some x:=⟨_,List.getElem?_eq_getElem (by have:=vS.out.2.2.2.2.2.1;have:=HFL.out;omega)⟩
          have Tc:x1=⟨fs_,fty,uV,fb_,fp⟩:=by
           have h9:(X.fl.map (·.1))[q]? =some x1:=by rw [List.getElem?_map,hx];rfl
           rw [vS.out.2.2.1,Yl] at h9;exact (Option.some.inj h9).symm
          subst Tc;obtain ⟨vv,Oy⟩:∃v,S'.vls[q]? =some v:=⟨_,List.getElem?_eq_getElem (by rw [RH.out.vl];exact (zS.1 hx).1)⟩
          have qz:=RH.out.ps _ (zG hx);simp only at qz;rw [Da] at qz;obtain ⟨pA,pc,rfl⟩:=(RdS.av qz).shape;have hc:=fun j hj=>bQ X.fl S'.vls q j hj hx Oy
          obtain ⟨gf,MJ⟩:∃g,X.fA=some ⟨g,0,none⟩:=by
           rcases RH.out.f.2 with ⟨_,e⟩|⟨g,_,_,e,_⟩
           ·have:=(zS.1 hx).1;omega
           ·simp only [Value.slice.injEq] at e;exact ⟨g,e.1⟩
          obtain ⟨g',o',Pq,kH,qi⟩:=(RdS.av RH.out.f).get (dQ (hc 0 (by omega)))
          rw [MJ] at Pq;simp only [Option.some.injEq,Addr.mk.injEq,and_true] at Pq;obtain ⟨rfl,rfl⟩:=Pq;have y1:=qi _ _ (hc 1 (by omega))
          have y2:=qi _ _ (hc 2 (by omega))
          have y4:=qi _ _ (hc 4 (by omega))
          simp only [Ss,fnC,List.getElem?_cons_zero,List.getElem?_cons_succ,Nat.zero_add] at y1 y2 y4;have c1:=RH.out.c1;rw [vS.out.2.2.2.2.2.1,MJ] at c1;have cl:=RH.out.chk.lt;have hqI:(q:Int)<nf:=by have:=HFL.out;omega
          have U9:gf≠X.b:=au (ag RH.out.f (by rw [MJ];rfl)) RH.out.chk.kind (by decide)
          have HS:Hid (∀(Wx:World),Below w5.heap.size w5 Wx->Wx.cell? ⟨X.b,1,none⟩=some (.slice (some ⟨gf,0,none⟩) nf X.fc)/\X.b<Wx.heap.size/\Wx.cell? ⟨gf,q * 6+1,none⟩=some (Iv fty)/\Wx.cell? ⟨gf,q * 6+2,none⟩=some (.slice pA pn pc)/\Wx.cell? ⟨gf,q * 6+4,none⟩=some (Iv fp)/\gf<Wx.heap.size):=Hy fun Wx hW=>
           ⟨(hW.cell (p:=⟨X.b,1,none⟩) cl).trans c1,Nat.lt_of_lt_of_le cl hW.size,(hW.cell (p:=⟨gf,_,none⟩) kH).trans y1,(hW.cell (p:=⟨gf,_,none⟩) kH).trans y2,(hW.cell (p:=⟨gf,_,none⟩) kH).trans y4,Nat.lt_of_lt_of_le kH hW.size⟩
          have qh:Hid (∀(Wx:World) (d:Int×Int),NoP X {S' with d:=d} w5 Wx->Wx.cell? ⟨X.b,1,none⟩=some (.slice (some ⟨gf,0,none⟩) nf X.fc)/\X.b<Wx.heap.size/\Wx.cell? ⟨gf,q * 6+1,none⟩=some (Iv fty)/\Wx.cell? ⟨gf,q * 6+2,none⟩=some (.slice pA pn pc)/\Wx.cell? ⟨gf,q * 6+4,none⟩=some (Iv fp)/\gf<Wx.heap.size):=Hy fun Wx d hW=>by
           have u1:=hW.rv.c1;rw [vS.out.2.2.2.2.2.1,MJ] at u1;exact ⟨u1,hW.rv.chk.lt,(hW.gr.cell_far ⟨gf,_,none⟩ kH (fun e=>U9 (Option.some.inj e))).trans y1,(hW.gr.cell_far ⟨gf,_,none⟩ kH (fun e=>U9 (Option.some.inj e))).trans y2,(hW.gr.cell_far ⟨gf,_,none⟩ kH (fun e=>U9 (Option.some.inj e))).trans y4,Nat.lt_of_lt_of_le kH hW.gr.size⟩
          have I5:Hid (∀bb W',Below w5.heap.size w5 W'->Calls prog 31 #[crp X,.bool bb,Iv 12,Iv fp] W' fun e w'=>e=.returned (.tuple #[])/\NoP X {S' with d:=dN S'.d bb 12 fp} w5 w'):=Hy fun bb W' dK=>
           (dz (RH.out.on dK) bb 12 fp).mono fun e w' h=>⟨h.1,NoP.before dK h.2⟩
          clear Yl Da VL hx Oy qz hc qi c1 cl y1 y2 y4 U9 kH MJ;by_cases hty:fty=1
          ·subst hty;go_upto_region 20 with (fail);refine wp_region_held_drew (S:=(fun (Wx:World)=>Wx.cell? ⟨X.b,1,none⟩=some (.slice (some ⟨gf,0,none⟩) nf X.fc)/\X.b<Wx.heap.size/\Wx.cell? ⟨gf,q * 6+1,none⟩=some (Iv 1)/\Wx.cell? ⟨gf,q * 6+2,none⟩=some (.slice pA pn pc)/\Wx.cell? ⟨gf,q * 6+4,none⟩=some (Iv fp)/\gf<Wx.heap.size)) (by kernel_rfl) (by exact HS.out _ (zB _ _).drew) (fun af=>?_)
           refine tQ 0 af ?_;try simp only [Act.put,zA]
           refine tQ 1 af ?_;try simp only [Act.put,zA]
           refine tQ 2 af ?_;try simp only [Act.put,zA]
           refine tQ 3 af ?_;try simp only [Act.put,zA]
           refine tQ 4 af ?_;try simp only [Act.put,zA]
           refine tQ 5 af ?_;try simp only [Act.put,zA]
           refine tQ 6 af ?_;try simp only [Act.put,zA]
           refine tQ 7 af ?_;try simp only [Act.put,zA]
           refine tQ 8 af ?_;try simp only [Act.put,zA]
           refine tQ 9 af ?_;try simp only [Act.put,zA]
           refine tQ 10 af ?_;try simp only [Act.put,zA]
           refine tQ 11 af ?_;try simp only [Act.put,zA]
           refine tQ 12 af ?_;try simp only [Act.put,zA]
           refine tQ 13 af ?_;try simp only [Act.put,zA]
           refine tQ 14 af ?_;try simp only [Act.put,zA]
           refine tQ 15 af ?_;try simp only [Act.put,zA]
           refine tQ 16 af ?_;try simp only [Act.put,zA]
           refine tQ 17 af ?_;try simp only [Act.put,zA]
           refine tQ 18 af ?_;try simp only [Act.put,zA]
           refine tQ 19 af ?_;try simp only [Act.put,zA]
           refine tQ 20 af ?_;try simp only [Act.put,zA]
           refine tQ 21 af ?_;try simp only [Act.put,zA]
           refine tQ 22 af ?_;try simp only [Act.put,zA]
           refine tQ 23 af ?_;try simp only [Act.put,zA]
           refine tQ 24 af ?_;try simp only [Act.put,zA]
           refine tQ 25 af ?_;try simp only [Act.put,zA]
           refine tQ 26 af ?_;try simp only [Act.put,zA]
           refine tQ 27 af ?_;try simp only [Act.put,zA]
           refine tQ 28 af ?_;try simp only [Act.put,zA]
           refine tQ 29 af ?_;try simp only [Act.put,zA]
           refine tQ 30 af ?_;try simp only [Act.put,zA]
           refine tQ 31 af ?_;try simp only [Act.put,zA]
           refine tQ 32 af ?_;try simp only [Act.put,zA]
           refine dC (i:=33) rfl (by kernel_rfl) (fun K hK=>?_)
           go_simp
           go_at_call 31
           (with_reducible refine Calls.mono (I5.out _ _ (zB _ _).drew) ?_)
           rintro e v3 ⟨rfl,P3⟩;clear af;refine hK.out _ _ ?_ (fun af=>?_)
           ·exact qh.out _ _ P3
           clear hK K;try simp only [Act.put,zA]
           refine wpAnyH_done (by kernel_rfl) ?_ _
           have P3':NoP X {S' with d:=dN S'.d (decide ((1:Int)≠1) || decide (0<pn)) 12 fp} w5 v3:=by first|exact P3|simpa using P3
           have WZ:iX pg.f S'.d=dN S'.d (decide ((1:Int)≠1) || decide (0<pn)) 12 fp:=by unfold iX;rw [HOM.out];simp only [Option.bind_some,Rh.out.1];rw [Rh.out.2]
           have Vn:=Hy (show NoP X {S' with d:=iX pg.f S'.d} w5 v3 from by rw [WZ];exact P3')
           clear P3 P3' HS qh I5 WZ;go_wp2_with fail;go_meet;exact Vn.out
          ·have q1:(fty != 1)=true:=by simpa using hty
           have q2:decide (fty≠1)=true:=by simpa using hty
           go_upto_region 20 with (fail);refine wp_region_held_drew (S:=(fun (Wx:World)=>Wx.cell? ⟨X.b,1,none⟩=some (.slice (some ⟨gf,0,none⟩) nf X.fc)/\X.b<Wx.heap.size/\Wx.cell? ⟨gf,q * 6+1,none⟩=some (Iv fty)/\Wx.cell? ⟨gf,q * 6+2,none⟩=some (.slice pA pn pc)/\Wx.cell? ⟨gf,q * 6+4,none⟩=some (Iv fp)/\gf<Wx.heap.size)) (by kernel_rfl) (by exact HS.out _ (zB _ _).drew) (fun af=>?_)
           refine tQ 0 af ?_;try simp only [Act.put,zA]
           refine tQ 1 af ?_;try simp only [Act.put,zA]
           refine tQ 2 af ?_;try simp only [Act.put,zA]
           refine tQ 3 af ?_;try simp only [Act.put,zA]
           refine tQ 4 af ?_;try simp only [Act.put,zA]
           refine tQ 5 af ?_;try simp only [Act.put,zA]
           refine tQ 6 af ?_;try simp only [Act.put,zA]
           refine tQ 7 af ?_;try simp only [Act.put,zA]
           refine tQ 8 af ?_;try simp only [Act.put,zA]
           refine tQ 9 af ?_;try simp only [Act.put,zA]
           refine tQ 10 af ?_;try simp only [Act.put,zA]
           refine tQ 11 af ?_;try simp only [Act.put,zA]
           refine tZ 12 af ?_;try simp only [Act.put,zA]
           refine tZ 13 af ?_;try simp only [Act.put,zA]
           refine tZ 14 af ?_;try simp only [Act.put,zA]
           refine tZ 15 af ?_;try simp only [Act.put,zA]
           refine tZ 16 af ?_;try simp only [Act.put,zA]
           refine tZ 17 af ?_;try simp only [Act.put,zA]
           refine tZ 18 af ?_;try simp only [Act.put,zA]
           refine tZ 19 af ?_;try simp only [Act.put,zA]
           refine tZ 20 af ?_;try simp only [Act.put,zA]
           refine tZ 21 af ?_;try simp only [Act.put,zA]
           refine tZ 22 af ?_;try simp only [Act.put,zA]
           refine tQ 23 af ?_;try simp only [Act.put,zA]
           refine tQ 24 af ?_;try simp only [Act.put,zA]
           refine tQ 25 af ?_;try simp only [Act.put,zA]
           refine tQ 26 af ?_;try simp only [Act.put,zA]
           refine tQ 27 af ?_;try simp only [Act.put,zA]
           refine tQ 28 af ?_;try simp only [Act.put,zA]
           refine tQ 29 af ?_;try simp only [Act.put,zA]
           refine tQ 30 af ?_;try simp only [Act.put,zA]
           refine tQ 31 af ?_;try simp only [Act.put,zA]
           refine tQ 32 af ?_;try simp only [Act.put,zA]
           refine dC (i:=33) rfl (by kernel_rfl) (fun K hK=>?_)
           go_simp
           go_at_call 31
           (with_reducible refine Calls.mono (I5.out _ _ (zB _ _).drew) ?_)
           rintro e v3 ⟨rfl,P3⟩;clear af;refine hK.out _ _ ?_ (fun af=>?_)
           ·exact qh.out _ _ P3
           clear hK K;try simp only [Act.put,zA]
           refine wpAnyH_done (by kernel_rfl) ?_ _
           have P3':NoP X {S' with d:=dN S'.d (decide (fty≠1) || decide (0<pn)) 12 fp} w5 v3:=by first|exact P3|simpa [hty] using P3
           have WZ:iX pg.f S'.d=dN S'.d (decide (fty≠1) || decide (0<pn)) 12 fp:=by unfold iX;rw [HOM.out];simp only [Option.bind_some,Rh.out.1];rw [Rh.out.2]
           have Vn:=Hy (show NoP X {S' with d:=iX pg.f S'.d} w5 v3 from by rw [WZ];exact P3')
           clear P3 P3' HS qh I5 WZ;go_wp2_with fail;go_meet;exact Vn.out
        case rest=>
         obtain ⟨⟨no,at_⟩,hd⟩:∃q,(iX pg.f S'.d)=q:=⟨_,rfl⟩;rw [hd] at hcut;obtain ⟨WE,hWE⟩:=zQ wc;subst hWE;have Ug:(wP pg X.ns).2=(no,at_):=by
          unfold wP;rw [HRF.out,<-hd];simp only;rw [Xw.out.1]
          (try rfl)
         have PE:=JF HX.out.2.2.2.1 vS.out.2.2.2.1;have Sz:=hcut.rv;have HWB:=Cb;have hBE:=HWE.out.trans (kK hcut.gr Sz.hB.1 (by have h8:=vS.out.1;have h7:=HWB.out.size;have h6:=HWE.out.size;omega))
         have c6:=Sz.c6;have c7:=Sz.c7;have cl:=Sz.chk.lt;simp only at c6 c7;have e1:=B1.out.below (HWB.out.trans (by rw [<-vS.out.1];exact hBE)) B1.out.lt
         have e2:=B2.out.below (HWB.out.trans (by rw [<-vS.out.1];exact hBE)) B2.out.lt
         have HBE:=Hy (show Below w.heap.size w WE from iK.out.trans ((HWB.out.trans (by rw [<-vS.out.1];exact hBE)).mono iK.out.size))
         have LM:K0+1≠X.b/\K0+1+1≠X.b:=⟨au e1.kind Sz.chk.kind (by decide),au e2.kind Sz.chk.kind (by decide)⟩
         by_cases hz:no=0
         case pos=>
          subst hz;have Uy:aX pg=.ok (S'.tr,S'.vs):=by
           have hz9:S'.d.1=0:=by
            by_cases h9:S'.d.1=0
            ·exact h9
            ·have h8:=congrArg Prod.fst hd;rw [lh _ h9] at h8;exact absurd h8 h9
           have h9:=Xw.out.2 hz9;cases hc:aX pg with
           |er n p=>
            rw [hc] at PE;simp only at PE;rw [Ug] at PE;have h8:=congrArg Prod.fst PE.1;exact absurd h8.symm PE.2
           |ok y=>
            rw [hc] at PE;simp only at PE;have h8:(wP pg X.ns).1=y:=by rw [PE]
            rw [<-h8];unfold wP;rw [HRF.out];exact congrArg Ck.ok h9
          have c0:=Sz.c0;have c1:=Sz.c1;have c2:=Sz.c2;rw [vS.out.2.2.2.2.1] at c0;rw [vS.out.2.2.2.2.2.1] at c1;rw [vS.out.2.2.2.2.2.2.1] at c2;have ZP:w.heap.size<=X.B:=by rw [vS.out.1];exact iK.out.size
          have g0:=e1.frozen 0;have g1:=e1.frozen 1;have g2:=e1.frozen 2;have g3:=e2.frozen 0;have g4:=e2.frozen 1;have a0:WE.cell? ⟨K0+1,0,none⟩=some (.slice none 0 0):=e1.cell 0;have a1:WE.cell? ⟨K0+1,1,none⟩=some (.slice none 0 0):=e1.cell 1;have a2:WE.cell? ⟨K0+1,2,none⟩=some (.slice none 0 0):=e1.cell 2;have a3:WE.cell? ⟨K0+1+1,0,none⟩=some (Iv 0):=e2.cell 0;have a4:WE.cell? ⟨K0+1+1,1,none⟩=some (Iv 0):=e2.cell 1;have OM:=Hy6 Uy Sz e1 e2 ZP LM;have WR:=Hy (show Blk (((((WE.setCell ⟨K0+1,0,none⟩ (.slice X.gA ng X.gc)).setCell ⟨K0+1,1,none⟩ (.slice X.fA nf X.fc)).setCell ⟨K0+1,2,none⟩ (.slice X.nA N X.nc)).setCell ⟨K0+1+1,0,none⟩ (Iv 0)).setCell ⟨K0+1+1,1,none⟩ (Iv 0)) (K0+1) tPg #[.slice X.gA ng X.gc,.slice X.fA nf X.fc,.slice X.nA N X.nc]/\Blk (((((WE.setCell ⟨K0+1,0,none⟩ (.slice X.gA ng X.gc)).setCell ⟨K0+1,1,none⟩ (.slice X.fA nf X.fc)).setCell ⟨K0+1,2,none⟩ (.slice X.nA N X.nc)).setCell ⟨K0+1+1,0,none⟩ (Iv 0)).setCell ⟨K0+1+1,1,none⟩ (Iv 0)) (K0+1+1) tDg #[Iv 0,Iv 0]/\Below w.heap.size w (((((WE.setCell ⟨K0+1,0,none⟩ (.slice X.gA ng X.gc)).setCell ⟨K0+1,1,none⟩ (.slice X.fA nf X.fc)).setCell ⟨K0+1,2,none⟩ (.slice X.nA N X.nc)).setCell ⟨K0+1+1,0,none⟩ (Iv 0)).setCell ⟨K0+1+1,1,none⟩ (Iv 0))/\RV X {S' with d:=(0,at_)} (((((WE.setCell ⟨K0+1,0,none⟩ (.slice X.gA ng X.gc)).setCell ⟨K0+1,1,none⟩ (.slice X.fA nf X.fc)).setCell ⟨K0+1,2,none⟩ (.slice X.nA N X.nc)).setCell ⟨K0+1+1,0,none⟩ (Iv 0)).setCell ⟨K0+1+1,1,none⟩ (Iv 0)) from by
           have i1:=SX.out;refine ⟨((((e1.af 0 _).af 1 _).af 2 _).far (p:=⟨K0+1+1,0,none⟩) (by simp) _).far (p:=⟨K0+1+1,1,none⟩) (by simp) _,((((e2.far (p:=⟨K0+1,0,none⟩) (by simp) _).far (p:=⟨K0+1,1,none⟩) (by simp) _).far (p:=⟨K0+1,2,none⟩) (by simp) _).af 0 _).af 1 _,?_,?_⟩
           ·exact ((((HBE.out.setCell (p:=⟨K0+1,0,none⟩) (by simp;omega) _).setCell (p:=⟨K0+1,1,none⟩) (by simp;omega) _).setCell (p:=⟨K0+1,2,none⟩) (by simp;omega) _).setCell (p:=⟨K0+1+1,0,none⟩) (by simp;omega) _).setCell (p:=⟨K0+1+1,1,none⟩) (by simp;omega) _
           ·have g1:=fG (fG (ko WE (K0+1) 0 (.slice X.gA ng X.gc)) (ko _ (K0+1) 1 (.slice X.fA nf X.fc))) (ko _ (K0+1) 2 (.slice X.nA N X.nc));have q1:=Sz.IU e1.kind (by decide) (by decide) (by decide) (by decide) (by decide) (by decide) (by decide) g1
            have k2:=((e2.far (p:=⟨K0+1,0,none⟩) (by simp) (.slice X.gA ng X.gc)).far (p:=⟨K0+1,1,none⟩) (by simp) (.slice X.fA nf X.fc)).far (p:=⟨K0+1,2,none⟩) (by simp) (.slice X.nA N X.nc)
            have g2:=fG (ko (((WE.setCell ⟨K0+1,0,none⟩ (.slice X.gA ng X.gc)).setCell ⟨K0+1,1,none⟩ (.slice X.fA nf X.fc)).setCell ⟨K0+1,2,none⟩ (.slice X.nA N X.nc)) (K0+1+1) 0 (Iv 0)) (ko _ (K0+1+1) 1 (Iv 0));exact q1.IU k2.kind (by decide) (by decide) (by decide) (by decide) (by decide) (by decide) (by decide) g2)
          have l1:=e1.lt;have l2:=e2.lt;clear Uy PE Sz Ug e1 e2 ZP hcut hd hBE c7 LM;go_wp2_with fail;refine bodyPost_ret (qW rfl _ _ rfl rfl WR.out.1 WR.out.2.1) rfl ?_;refine ⟨WR.out.2.2.1,.inr ⟨S'.tr,S'.vs,X.gA,X.fA,X.nA,X.gc,X.fc,X.nc,X.fl,S'.vls,X.ns,OM.out.1,?_,WR.out.2.2.2.pgC OM.out.2.2.2.2.1 vS.out.2.1 vS.out.2.2.1 vS.out.2.2.2.1⟩⟩;rw [HX.out.2.2.2.2.2.1,vS.out.2.2.2.2.2.1,vS.out.2.2.2.2.2.2.1]
         case neg=>
          have Uy:aX pg=.er no at_:=by
           cases hc:aX pg with
           |er n p=>
            rw [hc] at PE;simp only at PE;rw [Ug] at PE;have h8:=congrArg Prod.fst PE.1;have h7:=congrArg Prod.snd PE.1;simp only at h8 h7;rw [h8,h7]
           |ok y=>
            rw [hc] at PE;simp only at PE;have h8:(wP pg X.ns).2=(0,0):=by rw [PE]
            rw [Ug] at h8;exact absurd (congrArg Prod.fst h8) hz
          have sI:(no != 0)=true:=by simpa using hz
          have OM:=Hy4 Uy e1 e2 LM;have a0:WE.cell? ⟨K0+1,0,none⟩=some (.slice none 0 0):=e1.cell 0;have a1:WE.cell? ⟨K0+1,1,none⟩=some (.slice none 0 0):=e1.cell 1;have a2:WE.cell? ⟨K0+1,2,none⟩=some (.slice none 0 0):=e1.cell 2;have a3:WE.cell? ⟨K0+1+1,0,none⟩=some (Iv 0):=e2.cell 0;have a4:WE.cell? ⟨K0+1+1,1,none⟩=some (Iv 0):=e2.cell 1;have g0:=e1.frozen 0;have g1:=e1.frozen 1;have g2:=e1.frozen 2;have g3:=e2.frozen 0;have g4:=e2.frozen 1;have l1:=e1.lt;have l2:=e2.lt;have T0:=Hy (show WE.cell? ⟨X.b,6,none⟩=some (Iv no)/\WE.cell? ⟨X.b,7,none⟩=some (Iv at_)/\X.b<WE.heap.size from ⟨c6,c7,cl⟩)
          have T5:=Hy (show (((WE.setCell ⟨K0+1,0,none⟩ (.slice none 0 0)).setCell ⟨K0+1,1,none⟩ (.slice none 0 0)).setCell ⟨K0+1,2,none⟩ (.slice none 0 0)).cell? ⟨X.b,6,none⟩=some (Iv no)/\(((WE.setCell ⟨K0+1,0,none⟩ (.slice none 0 0)).setCell ⟨K0+1,1,none⟩ (.slice none 0 0)).setCell ⟨K0+1,2,none⟩ (.slice none 0 0)).cell? ⟨X.b,7,none⟩=some (Iv at_)/\X.b< (((WE.setCell ⟨K0+1,0,none⟩ (.slice none 0 0)).setCell ⟨K0+1,1,none⟩ (.slice none 0 0)).setCell ⟨K0+1,2,none⟩ (.slice none 0 0)).heap.size from nW LM.1 2 _ (nW LM.1 1 _ (nW LM.1 0 _ (T0.out))))
          have T6:=Hy (show (((((WE.setCell ⟨K0+1,0,none⟩ (.slice none 0 0)).setCell ⟨K0+1,1,none⟩ (.slice none 0 0)).setCell ⟨K0+1,2,none⟩ (.slice none 0 0)).setCell ⟨K0+1+1,0,none⟩ (Iv no)).setCell ⟨K0+1+1,1,none⟩ (Iv at_)).cell? ⟨X.b,6,none⟩=some (Iv no)/\(((((WE.setCell ⟨K0+1,0,none⟩ (.slice none 0 0)).setCell ⟨K0+1,1,none⟩ (.slice none 0 0)).setCell ⟨K0+1,2,none⟩ (.slice none 0 0)).setCell ⟨K0+1+1,0,none⟩ (Iv no)).setCell ⟨K0+1+1,1,none⟩ (Iv at_)).cell? ⟨X.b,7,none⟩=some (Iv at_)/\X.b< (((((WE.setCell ⟨K0+1,0,none⟩ (.slice none 0 0)).setCell ⟨K0+1,1,none⟩ (.slice none 0 0)).setCell ⟨K0+1,2,none⟩ (.slice none 0 0)).setCell ⟨K0+1+1,0,none⟩ (Iv no)).setCell ⟨K0+1+1,1,none⟩ (Iv at_)).heap.size from nW LM.2 1 _ (nW LM.2 0 _ (T5.out)))
          clear Uy PE Sz Ug hcut hd hBE;go_upto_region 22 with (fail);clear c6 c7 cl;refine wp_region_held_drew (S:=(fun (Wx:World)=>Wx.cell? ⟨X.b,6,none⟩=some (Iv no)/\Wx.cell? ⟨X.b,7,none⟩=some (Iv at_)/\X.b<Wx.heap.size)) (by kernel_rfl) (by exact qV T0.out) (fun af=>?_)
          refine tQ 0 af ?_;try simp only [Act.put,zA]
          refine tQ 1 af ?_;try simp only [Act.put,zA]
          refine tQ 2 af ?_;try simp only [Act.put,zA]
          refine tQ 3 af ?_;try simp only [Act.put,zA]
          refine tQ 4 af ?_;try simp only [Act.put,zA]
          refine dC (i:=5) rfl (by kernel_rfl) (fun K hK=>?_)
          go_simp
          clear af;refine hK.out _ _ ?_ (fun af=>?_)
          ·exact qV T5.out
          clear hK K;try simp only [Act.put,zA]
          refine dC (i:=6) rfl (by kernel_rfl) (fun K hK=>?_)
          go_simp
          clear af;refine hK.out _ _ ?_ (fun af=>?_)
          ·exact qV T6.out
          clear hK K;try simp only [Act.put,zA]
          refine wpAnyH_done (by kernel_rfl) ?_ _
          clear T0 T5 T6 a0 a1 a2 a3 a4 g0 g1 g2 g3 g4;have r1:Blk (((((WE.setCell ⟨K0+1,0,none⟩ (.slice none 0 0)).setCell ⟨K0+1,1,none⟩ (.slice none 0 0)).setCell ⟨K0+1,2,none⟩ (.slice none 0 0)).setCell ⟨K0+1+1,0,none⟩ (Iv no)).setCell ⟨K0+1+1,1,none⟩ (Iv at_)) (K0+1) tPg #[.slice none 0 0,.slice none 0 0,.slice none 0 0]:=(((((e1.af 0 _).af 1 _).af 2 _).far (p:=⟨K0+1+1,0,none⟩) (by simp) _).far (p:=⟨K0+1+1,1,none⟩) (by simp) _)
          have r2:Blk (((((WE.setCell ⟨K0+1,0,none⟩ (.slice none 0 0)).setCell ⟨K0+1,1,none⟩ (.slice none 0 0)).setCell ⟨K0+1,2,none⟩ (.slice none 0 0)).setCell ⟨K0+1+1,0,none⟩ (Iv no)).setCell ⟨K0+1+1,1,none⟩ (Iv at_)) (K0+1+1) tDg #[Iv no,Iv at_]:=(((((e2.far (p:=⟨K0+1,0,none⟩) (by simp) _).far (p:=⟨K0+1,1,none⟩) (by simp) _).far (p:=⟨K0+1,2,none⟩) (by simp) _).af 0 _).af 1 _)
          have bA:Below w.heap.size w (((((WE.setCell ⟨K0+1,0,none⟩ (.slice none 0 0)).setCell ⟨K0+1,1,none⟩ (.slice none 0 0)).setCell ⟨K0+1,2,none⟩ (.slice none 0 0)).setCell ⟨K0+1+1,0,none⟩ (Iv no)).setCell ⟨K0+1+1,1,none⟩ (Iv at_)):=(((((HBE.out.setCell (p:=⟨K0+1,0,none⟩) (by have:=SX.out;simp;omega) _).setCell (p:=⟨K0+1,1,none⟩) (by have:=SX.out;simp;omega) _).setCell (p:=⟨K0+1,2,none⟩) (by have:=SX.out;simp;omega) _).setCell (p:=⟨K0+1+1,0,none⟩) (by have:=SX.out;simp;omega) _).setCell (p:=⟨K0+1+1,1,none⟩) (by have:=SX.out;simp;omega) _)
          have Zc:=Hy3 r1 r2 bA;clear r1 r2 bA e1 e2 LM;go_wp2_with fail;refine bodyPost_ret (qW rfl _ _ rfl rfl Zc.out.1 Zc.out.2.1) rfl ?_;exact ⟨Zc.out.2.2.drew,.inl ⟨no,at_,OM.out.1,rfl⟩⟩
end
end Go.Proofs.YtcchdlnfeijinaaGreatDoor
