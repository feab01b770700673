/- Cle to Pare: Layer check: Check's deferred function. -/
import Derived.Test.YtcchdlnfeijinaaGreatDoorNaj
import Derived.Defers
import Derived.Recover
import Derived.Laws.Pointers
import Derived.Test.YtcchdlnfeijinaaGreatDoorNah
import Derived.Test.YtcchdlnfeijinaaGreatDoorNaa
import Derived.Test.YtcchdlnfeijinaaGreatDoorNaf
namespace Go.Proofs.YtcchdlnfeijinaaGreatDoor
open Go.Proofs.Tryz
set_option linter.unusedSimpArgs false
set_option linter.unusedVariables false
set_option maxHeartbeats 4000000
set_option maxRecDepth 100000
section
open Go Go.RowKit Go.Maps
abbrev tDg:TypeId:=33
theorem Ci (no p:Int)(w:World):(Instr.typeAssert (.iface tFt (.agg #[Iv no,Iv p])) 20 tFt true).run prog w=.ok (.tuple #[.agg #[Iv no,Iv p],.bool true]) w:=by kernel_rfl
theorem EP (w:World):(Instr.typeAssert .nilIface 20 tFt true).run prog w=.ok (.tuple #[.agg #[Iv 0,Iv 0],.bool false]) w:=by kernel_rfl
theorem vO (b:Nat)(no p:Int)(w:World)(hb:Blk w b tDg #[Iv 0,Iv 0]) :
  CallsD prog 22 #[Pt b] (.panicking [{v:=.iface tFt ((.agg #[Iv no,Iv p])),recovered:=false}]) w fun e u' w'=>
   e=.returned (.tuple #[])/\u'=.panicking [{v:=.iface tFt ((.agg #[Iv no,Iv p])),recovered:=true}]/\w'=((w.alloc (.cells #[Iv no,Iv p] tFt)).setCell (Ad b 0) (Iv no)).setCell (Ad b 1) (Iv p):=by
 have hf:=Ci no p;have HB:=Hy hb;clear hb;refine callsD_of_wpS func22 rfl fun c₀ cs hu=>?_
 apply wpS_seq;apply wpS_region;simp [wpOpsS,go_sem,recoverD,hu,ntmps22,Exit.thenS,hf];apply wpS_seq;apply wpS_region;simp [wpOpsS,go_sem,Exit.thenS];refine wpS_cond (t:=true) (by simp [Act.eval]) ?_
 simp only [if_true];apply wpS_region;have PK:Blk (w.alloc (.cells #[Iv no,Iv p] tFt)) b tDg #[Iv 0,Iv 0]:=HB.alloc _;have hnW:=heap_alloc_new w (.cells #[Iv no,Iv p] tFt);have hnB:Blk (w.alloc (.cells #[Iv no,Iv p] tFt)) w.heap.size tFt #[Iv no,Iv p]:=hnW;generalize w.alloc (.cells #[Iv no,Iv p] tFt)=W at *;have c0:Ce W b 0 (Iv 0):=PK.cell 0;have c1:Ce W b 1 (Iv 0):=PK.cell 1;have f0:=PK.frozen 0;have f1:=PK.frozen 1;have n0:Ce W w.heap.size 0 (Iv no):=hnB.cell 0;have n1:Ce W w.heap.size 1 (Iv p):=hnB.cell 1;have d1:(W.setCell (Ad b 0) (Iv no)).cell? (Ad b 1)=some (Iv 0):=(PK.af 0 _).cell 1;have g1:=(PK.af 0 (Iv no)).frozen 1;simp [wpOpsS,go_sem,c0,c1,f0,f1,n0,n1,d1,g1];cases c₀
 simp_all [bodyPostS,results,Tryz.results22]
theorem xK (b:Nat)(w:World) :
  CallsD prog 22 #[Pt b] .returning w fun e u' w'=>e=.returned (.tuple #[])/\u'=.returning/\w'=w.alloc (.cells #[Iv 0,Iv 0] tFt):=by
 have hf:=EP;refine callsD_of_wpS func22 rfl fun c₀ cs hu=>?_
 apply wpS_seq;apply wpS_region;simp [wpOpsS,go_sem,recoverD,hu,ntmps22,Exit.thenS,hf];refine wpS_of_wp ?_;go_wp2;cases c₀
 simp_all [bodyPostS,results,Tryz.results22]
end
section
open Go Go.RowKit Go.Maps
structure oP (pg:Pg) (gs:List Gl) (fl:List (Fn'×Value)) (ns:List CN) (tr:List (Int×Int)):Prop where
 g:gs=pg.g
 f:fl.map (·.1)=pg.f
 n:ns.map CN.nd=pg.t.flat 0
 rt:pg.f.map (·.b)=pg.t.roots 0
 tw:TrW pg.t
 ty:∀(i:Nat) (x:CN) (t:Int×Int),ns[i]? =some x->tr[i]? =some t->x.h.op=1->t.1=x.h.ty
 sz:pg.t.size<=50000
 gl:gs.length<=500000/\∀g∈gs,g.s.length<=1000000/\g.n<=1000000
 fn:pg.f.length<=500000/\∀f∈pg.f,f.s.length<=1000000/\f.ps.length<=1000000/\∀p∈f.ps,p.s.length<=1000000
 nn:∀x∈ns,x.h.s.length<=1000000/\x.kids.length<=1000000
structure PgC (B:Nat) (w:World) (gA fA nA:Option Addr) (gc fc nc:Nat) (pg:Pg) (fl:List (Fn'×Value)) (vls:List Value) (ns:List CN) (tr:List (Int×Int)) (vs:List (List Int)):Prop where
 g:w.ownsRow B tGb 4 (.slice gA pg.g.length gc) pg.g.length (pg.g.flatMap glC)
 f:w.ownsRow B tFu 6 (.slice fA fl.length fc) fl.length (dE fl vls)
 n:w.ownsRow B tNd 8 (.slice nA ns.length nc) ns.length (aI ns tr)
 vl:vls.length=fl.length
 tl:tr.length=ns.length
 vn:vs.length=fl.length
 ps:∀x∈fl,w.ownsRow B tPr 2 x.2 x.1.ps.length (x.1.ps.flatMap cz)
 ks:∀x∈ns,w.ownsRow B aC 1 x.v x.kids.length (ints (bK x.kids))
 vr:∀(j:Nat) (v:Value) (l:List Int),vls[j]? =some v->vs[j]? =some l->w.ownsRow B aC 1 v l.length (ints l)
 fe:fl.map (·.1)=pg.f
 ne:ns.map CN.nd=pg.t.flat 0
def nK (pg:Pg) (w:World) (e:Ending) (w':World):Prop:=
 Below w.heap.size w w'/\((∃no p,aX pg=.er no p/\e=.returned (.tuple #[.agg #[Sn,Sn,Sn],.agg #[Iv no,Iv p]]))∨
  (∃tr vs gA fA nA gc fc nc fl vls ns,aX pg=.ok (tr,vs)/\e=.returned (.tuple #[pgV gA fA nA pg.g.length gc fl.length fc ns.length nc,.agg #[Iv 0,Iv 0]])/\PgC w.heap.size w' gA fA nA gc fc nc pg fl vls ns tr vs))
theorem uD {pg:Pg}{gs:List Gl}{fl:List (Fn'×Value)}{ns:List CN}{tr:List (Int×Int)}(h:oP pg gs fl ns tr)(hl:tr.length=ns.length):trZ ns tr=tr0 (pg.t.flat 0):=by
 rw [<-h.n];unfold trZ tr0;rw [List.map_map];apply List.ext_getElem?;intro i;rw [List.getElem?_map,List.getElem?_map];by_cases hi:i<ns.length
 ·obtain ⟨x,hx⟩:∃x,ns[i]? =some x:=⟨_,List.getElem?_eq_getElem hi⟩;obtain ⟨t,ht⟩:∃t,tr[i]? =some t:=⟨_,List.getElem?_eq_getElem (by omega)⟩
  rw [show (ns.zip tr)[i]? =some (x,t) by rw [List.getElem?_zip_eq_some];exact ⟨hx,ht⟩,hx]
  show some ((if x.h.op=1 then t.1 else 0),(0:Int))=some ((if x.nd.h.op=1 then x.nd.h.ty else 0),(0:Int))
  by_cases ho:x.h.op=1
  ·rw [if_pos ho,if_pos (show x.nd.h.op=1 from ho),h.ty i x t hx ht ho]
   rfl
  ·rw [if_neg ho,if_neg (show ¬ x.nd.h.op=1 from ho)]
 ·rw [List.getElem?_eq_none (by simp;omega),List.getElem?_eq_none (by omega)]
  rfl
theorem uZ:∀(gs:List Gl) (i:Nat) (b:Int) (s G:Scp),eF gs i b s=.ok G->∀p∈G,p∈s∨p.2.so≠4:=by
 intro gs
 induction gs with
 |nil=>intro i b s G e p hp;simp only [eF] at e;cases e;exact .inl hp
 |cons g l ih=>
  intro i b s G e p hp;rw [pz] at e;split at e
  ·cases e
  split at e
  ·cases e
  rcases ih _ _ _ _ e p hp with h1|h1
  ·rcases List.mem_cons.1 h1 with rfl|h1
   ·right
    unfold gMg;split <;> simp
   ·exact .inl h1
  ·exact .inr h1
theorem Eu:∀(fs:List Fn') (i:Nat) (s G:Scp),jf fs i s=.ok G->(∀f∈fs,f.ps.length<=8)/\∀p∈G,p∈s∨∃j:Nat,p.2.rf=j/\j<i+fs.length:=by
 intro fs
 induction fs with
 |nil=>intro i s G e;simp only [jf] at e;cases e;exact ⟨fun f hf=>(by cases hf),fun p hp=>.inl hp⟩
 |cons f l ih=>
  intro i s G e;rw [rO] at e;split at e
  ·cases e
  split at e
  ·cases e
  split at e
  ·cases e
  next h8=>
  split at e
  ·cases e
  obtain ⟨h1,h2⟩:=ih _ _ _ e;refine ⟨fun g hg=>?_,fun p hp=>?_⟩
  ·rcases List.mem_cons.1 hg with rfl|hg
   ·omega
   ·exact h1 g hg
  ·rcases h2 p hp with h3|⟨j,h3,h4⟩
   ·rcases List.mem_cons.1 h3 with rfl|h3
    ·exact .inr ⟨i,rfl,by simp⟩
    ·exact .inl h3
   ·exact .inr ⟨j,h3,by simp only [List.length_cons];omega⟩
theorem kR (np:List Nat)(G:Scp)(f:Fn')(l:List Fn')(h:Hd)(k r:Fo)(c:Nat)(tr:List (Int×Int)):dR np G (f ::l) (.cons h k r) c tr=(jT np G f h k c tr).bind fun x=>(dR np G l r (c+k.size+1) x.1).bind fun y=>.ok (y.1,x.2 ::y.2):=rfl
theorem CkV.Nq {X:CkX}{S:CkS}{σ:Cs}{w:World}(h:CkV X S σ w):∀v∈S.vls,S.fi=X.fl.length->S.done.length=S.fi->∃A n c,v=.slice A n c:=by
 intro v hv h1 h2;obtain ⟨j,hj,rfl⟩:=List.getElem_of_mem hv;have xP:j<S.fi:=by rw [h1,<-h.vll];exact hj
 obtain ⟨l,hl⟩:∃l,S.done[j]? =some l:=⟨_,List.getElem?_eq_getElem (by omega)⟩
 obtain ⟨A,c,e⟩:=dL (h.old j _ l (zE hj) hl xP).1;exact ⟨A,_,c,e⟩
theorem wN {w:World}{B sz n k:Nat}{t:TypeId}{v:Value}{xs:List Value}{u:Value}{j:Nat}{cs:Array Value}(h:w.ownsRow B t sz v n xs)(Z:Blk w k tDg cs)(ht:t≠tDg):(w.setCell (Ad k j) u).ownsRow B t sz v n xs:=by
 have hg:w.grownBy (w.setCell (Ad k j) u) (some k):=⟨rfl,rfl,rfl,by simp,fun m _ hm=>heap_setCell_other w (Ad k j) m u (fun e=>hm (by simp [e]))⟩
 refine ah hg h (fun r e1 e2=>?_)
 cases e1;exact au (ag h e2) Z.kind ht rfl
theorem kN {R:Ending->World->Prop}{a:Act}{W0 W:World}{k2 k3 B:Nat}(no p:Int)(hd:a.defers=[{target:=Target.fn (Fn.func 22) #[Pt k3],args:=#[]}])(h2:a.tmps.getD 2 undef=Pt k2)(h3:a.tmps.getD 3 undef=Pt k3)
  (b2:Blk W k2 aK #[Sn,Sn,Sn]) (b3:Blk W k3 tDg #[Iv 0,Iv 0]) (hB:B<=k3) (hBW:B<=W.heap.size) (hb:Below B W0 W) (hR:∀W',Below B W0 W'->R (.returned (.tuple #[.agg #[Sn,Sn,Sn],.agg #[Iv no,Iv p]])) W') :
  bodyPostD prog Tryz.f10 R (.panic [{v:=.iface tFt (.agg #[Iv no,Iv p]),recovered:=false}]) a W:=by
 obtain ⟨tmps,defers⟩:=a;simp only at hd h2 h3;subst hd;have h2':tmps[2]?.getD undef=Pt k2:=by simpa using h2
 have Xk:tmps[3]?.getD undef=Pt k3:=by simpa using h3
 have aD:k2≠k3:=fun e=>by
  subst e;have:=b2.symm.trans b3;simp at this
 refine leaves_cons (f:=22) (args:=#[Pt k3]) (by simp) (by simp [go_sem]) ?_
 refine (vO k3 no p _ b3).mono ?_;rintro e u' w'' ⟨rfl,rfl,rfl⟩;have r0:=((b2.alloc (.cells #[Iv no,Iv p] tFt)).far (p:=Ad k3 0) aD (Iv no)).far (p:=Ad k3 1) aD (Iv p);have r1:Blk (((W.alloc (.cells #[Iv no,Iv p] tFt)).setCell (Ad k3 0) (Iv no)).setCell (Ad k3 1) (Iv p)) k3 tDg #[Iv no,Iv p]:=((b3.alloc _).af 0 _).af 1 _;have eu:Below B W0 (((W.alloc (.cells #[Iv no,Iv p] tFt)).setCell (Ad k3 0) (Iv no)).setCell (Ad k3 1) (Iv p)):=((hb.alloc hBW _).setCell (p:=Ad k3 0) hB _).setCell (p:=Ad k3 1) hB _;generalize ((W.alloc (.cells #[Iv no,Iv p] tFt)).setCell (Ad k3 0) (Iv no)).setCell (Ad k3 1) (Iv p)=W3 at *;have q0:W3.cell? (Ad k2 0)=some (Sn):=r0.cell 0;have q1:W3.cell? (Ad k2 1)=some (Sn):=r0.cell 1;have q2:W3.cell? (Ad k2 2)=some (Sn):=r0.cell 2;have d0:W3.cell? (Ad k3 0)=some (Iv no):=r1.cell 0;have d1:W3.cell? (Ad k3 1)=some (Iv p):=r1.cell 1;simp [Leaves,settle,results,Tryz.results10,go_sem,q0,q1,q2,d0,d1,h2',Xk];exact hR _ eu
theorem BZ {R:Ending->World->Prop}{a:Act}{W:World}{k2 k3:Nat}{x y z u v:Value}(hd:a.defers=[{target:=Target.fn (Fn.func 22) #[Pt k3],args:=#[]}])(h2:a.tmps.getD 2 undef=Pt k2)(h3:a.tmps.getD 3 undef=Pt k3)
  (b2:Blk W k2 aK #[x,y,z]) (b3:Blk W k3 tDg #[u,v]) (hR:R (.returned (.tuple #[.agg #[x,y,z],.agg #[u,v]])) (W.alloc (.cells #[Iv 0,Iv 0] tFt))) :
  bodyPostD prog Tryz.f10 R .ret a W:=by
 obtain ⟨tmps,defers⟩:=a;simp only at hd h2 h3;subst hd;have h2':tmps[2]?.getD undef=Pt k2:=by simpa using h2
 have Xk:tmps[3]?.getD undef=Pt k3:=by simpa using h3
 refine leaves_cons (f:=22) (args:=#[Pt k3]) (by simp) (by simp [go_sem]) ?_
 refine (xK k3 _).mono ?_;rintro e u' w'' ⟨rfl,rfl,rfl⟩;have r0:=b2.alloc (.cells #[Iv 0,Iv 0] tFt);have r1:=b3.alloc (.cells #[Iv 0,Iv 0] tFt);generalize W.alloc (.cells #[Iv 0,Iv 0] tFt)=W3 at *;have q0:W3.cell? (Ad k2 0)=some x:=r0.cell 0;have q1:W3.cell? (Ad k2 1)=some y:=r0.cell 1;have q2:W3.cell? (Ad k2 2)=some z:=r0.cell 2;have d0:W3.cell? (Ad k3 0)=some u:=r1.cell 0;have d1:W3.cell? (Ad k3 1)=some v:=r1.cell 1;simp [Leaves,settle,results,Tryz.results10,go_sem,q0,q1,q2,d0,d1,h2',Xk];exact hR
theorem ul {w:World}{gA fA nA:Option Addr}{gc fc nc:Nat}{pg:Pg}{gs:List Gl}{fl:List (Fn'×Value)}{vls:List Value}{ns:List CN}{tr:List (Int×Int)}(h:PgI w gA fA nA gc fc nc gs fl vls ns tr)(hin:oP pg gs fl ns tr)(Q4:1<=fl.length) :
  Calls prog 10 #[pgV gA fA nA gs.length gc fl.length fc ns.length nc] w (nK pg w):=by
 have Qg:∀(fn:Fn) (first cap:Array Value) (w:World),(Instr.makeFunc fn first cap).run prog w=.ok (.func fn first cap) w:=fun _ _ _ _=>rfl
 obtain ⟨R,hR⟩:∃R:Ending->World->Prop,nK pg w=R:=⟨_,rfl⟩;rw [hR];have HR:=Hy hR;have uo:fl.length=pg.f.length:=by have:=congrArg List.length hin.f;simpa using this
 have mf:ns.length=pg.t.size:=by have:=congrArg List.length hin.n;simpa [Fo.aD] using this
 have KQ:1<=ns.length:=by
  rw [mf];have hr:=congrArg List.length hin.rt;rw [List.length_map,gq] at hr;have:=iY pg.t;omega
 have bT:=Blk.new w aK #[.slice gA gs.length gc,.slice fA fl.length fc,.slice nA ns.length nc];have hk2:=Blk.new (w.alloc (.cells #[.slice gA gs.length gc,.slice fA fl.length fc,.slice nA ns.length nc] aK)) aK #[Sn,Sn,Sn];have hk3:=Blk.new ((w.alloc (.cells #[.slice gA gs.length gc,.slice fA fl.length fc,.slice nA ns.length nc] aK)).alloc (.cells #[Sn,Sn,Sn] aK)) tDg #[Iv 0,Iv 0];have h1:Below w.heap.size w (((w.alloc (.cells #[.slice gA gs.length gc,.slice fA fl.length fc,.slice nA ns.length nc] aK)).alloc (.cells #[Sn,Sn,Sn] aK)).alloc (.cells #[Iv 0,Iv 0] tDg)):=
  (((zB _ _).alloc (zL _) _).alloc (by simp) _).alloc (by simp;omega) _
 have bT:=(bT.alloc (.cells #[Sn,Sn,Sn] aK)).alloc (.cells #[Iv 0,Iv 0] tDg);have hk2:=hk2.alloc (.cells #[Iv 0,Iv 0] tDg);have Y5:=Hy (q9 (h.on h1) (by have:=hin.gl.1;omega) (by have:=hin.fn.1;omega) (by rw [mf];have:=hin.sz;omega) (fun g hg=>(hin.gl.2 g hg).1) (fun x hx=>hin.fn.2 x.1 (by rw [<-hin.f];exact List.mem_map_of_mem hx)) hin.nn Q4 KQ)
 have HTL:=Hy (uD hin h.tl);have Ko:=Hy4 hin uo mf Q4;obtain ⟨gn,qm⟩:=zN gs.length;obtain ⟨fn,ut⟩:=zN fl.length;obtain ⟨nn,DC⟩:=zN ns.length;have HN:=Hy3 qm ut DC;rw [qm,ut,DC] at bT hk2 hk3 h1 Y5 |-;clear hR h hin uo mf KQ qm ut DC Q4;go_enter_defers func10,ntmps10;go_upto_region 2 with (fail);obtain ⟨H0,GG⟩:=zN w.heap.size;have sQ:(((w.alloc (.cells #[.slice gA gn gc,.slice fA fn fc,.slice nA nn nc] aK)).alloc (.cells #[Sn,Sn,Sn] aK)).alloc (.cells #[Iv 0,Iv 0] tDg)).heap.size=H0+3:=by simp [GG]
 rw [show ((w.alloc (.cells #[.slice gA gn gc,.slice fA fn fc,.slice nA nn nc] aK)).alloc (.cells #[Sn,Sn,Sn] aK)).heap.size=H0+2 by simp [GG]] at hk3
 rw [show (w.alloc (.cells #[.slice gA gn gc,.slice fA fn fc,.slice nA nn nc] aK)).heap.size=H0+1 by simp [GG]] at hk2
 rw [GG] at bT;generalize ((w.alloc (.cells #[.slice gA gn gc,.slice fA fn fc,.slice nA nn nc] aK)).alloc (.cells #[Sn,Sn,Sn] aK)).alloc (.cells #[Iv 0,Iv 0] tDg)=W1 at *;simp only [GG];have q0:W1.cell? (Ad H0 0)=some (.slice gA gn gc):=bT.cell 0;have q1:W1.cell? (Ad H0 1)=some (.slice fA fn fc):=bT.cell 1;have q2:W1.cell? (Ad H0 2)=some (.slice nA nn nc):=bT.cell 2;have ql:=bT.lt;have HK:=Hy5 hk2 hk3 h1 sQ GG;clear bT hk2 hk3 h1 sQ GG;go_wp2_with fail;refine Y5.mono ?_;clear Y5;rintro e w1 ⟨X,S0,rfl,YA,V8,hXf,hXn,hC,av,off,fi0,Qs,Oz,Td⟩;rw [HTL.out] at hC;have hXfl:X.fl.length=fn:=by have:=congrArg List.length hXf;simpa [HN.2.1] using this
 have hXnl:X.ns.length=nn:=by have:=congrArg List.length hXn;simpa [HN.2.2] using this
 have hXf2:X.fl.map (·.1)=pg.f:=hXf.trans Ko.1.f;have hXn2:X.ns.map CN.nd=pg.t.flat 0:=hXn.trans Ko.1.n;have UD:X.gs=pg.g:=V8.trans Ko.1.g;have HX:=Hy6 YA UD hXf2 hXn2 hXfl hXnl;have HC:=Hy7 hC av off fi0 Qs Oz Td;have HGl:=Hy (xy hC (s0:=[]) rfl (by simp) (by have:=Ko.1.gl.1;rw [V8];omega) (by rw [V8];exact Ko.1.gl.2))
 have hXBe:H0+3<=X.B:=by rw [YA,HK.2.2.2.1];exact zL _
 -- what a panic leaves
 have HP:Hid (∀(W:World) (no p:Int),Below X.B w1 W->aX pg=.er no p->(Blk W (H0+1) aK #[Sn,Sn,Sn]/\Blk W (H0+2) tDg #[Iv 0,Iv 0]/\H0<=H0+2/\H0<=W.heap.size/\Below H0 w W/\∀W',Below H0 w W'->R (.returned (.tuple #[.agg #[Sn,Sn,Sn],.agg #[Iv no,Iv p]])) W')):=Hy fun W no p hW he=>by
  have hb:Below H0 w W:=by
   have e1:=HK.2.2.1;rw [HK.2.2.2.2] at e1;exact (e1.trans (HC.2.1.mono (by have:=HK.2.2.2.1;omega))).trans (hW.mono (by omega))
  refine ⟨(HK.1.below HC.2.1 HK.1.lt).below hW (by omega),(HK.2.1.below HC.2.1 HK.2.1.lt).below hW (by omega),by omega,?_,hb,fun W' dK=>?_⟩
  ·have:=hb.size;have e1:=HK.2.2.2.2;omega
  ·rw [<-HR.out];exact ⟨by rw [HK.2.2.2.2];exact dK,.inl ⟨no,p,he,rfl⟩⟩
 clear YA V8 hXf hXn hC av off fi0 Qs Oz Td hXf2 hXn2 UD hXfl hXnl q0 q1 q2 ql;go_wp2_with fail;refine HGl.mono ?_;clear HGl;rintro e w2 (⟨s,Er,rfl,qM,aU,Lh⟩|⟨no,p,Er,rfl,aU⟩)
 ·have uM:s.length<=1000000:=by
   have e1:=Ko.1.gl.1;have e2:=congrArg List.length HX.2.1;have e3:=congrArg List.length Ko.1.g;simp only [List.getLast?_singleton,Option.getD_some,List.length_nil] at Lh;omega
  have HSL:=Hy (show s.length<=gn by
   have e2:=congrArg List.length HX.2.1;have e3:=congrArg List.length Ko.1.g;have e4:=HN.1;simp only [List.getLast?_singleton,Option.getD_some,List.length_nil] at Lh;omega)
  have HFn:=Hy (sG qM (s0:=s) rfl uM (by have:=Ko.1.fn.1;rw [HX.2.2.2.2.1,<-HN.2.1,Ko.2.1];omega) (fun x hx=>by
   have:=Ko.1.fn.2 x.1 (by rw [<-HX.2.2.1];exact List.mem_map_of_mem hx)
   exact ⟨this.1,this.2.1⟩) (fun v hv=>by rw [HC.2.2.2.2.2.1] at hv;exact ⟨none,0,0,List.eq_of_mem_replicate hv⟩))
  have PP:=Hy4 Er qM aU uM;clear Er qM aU Lh uM;go_wp2_with fail;refine HFn.mono ?_;clear HFn;rintro e w3 (⟨G,Ke,rfl,Ac,lW,hGl⟩|⟨no,p,Ke,rfl,lW⟩)
  ·have hff:=Eu _ _ _ _ Ke;have HGf:Hid (∀p∈G,p.2.so=4->∃j:Nat,p.2.rf=j/\j<X.fl.length):=Hy fun p hp h4=>by
    rcases hff.2 p hp with h1|⟨j,h1,h2⟩
    ·rcases uZ _ _ _ _ _ PP.1 p h1 with h5|h5
     ·cases h5
     ·exact absurd h4 h5
    ·exact ⟨j,h1,by simpa using h2⟩
   have HGL:Hid (G.length<=1000000):=Hy (by
    have e1:=HSL.out;have e2:=Ko.2.1;have e4:=HN.2.1;have e5:=HX.2.2.2.2.1;have e6:=Ko.1.gl.1;have e7:=Ko.1.fn.1;have e8:=HN.1;simp only [List.getLast?_singleton,Option.getD_some] at hGl;omega)
   have Z6:=Hy (show (X.fl.map fun f=>f.1.ps.length)=pg.f.map fun f=>f.ps.length by rw [<-HX.2.2.1,List.map_map];rfl)
   have HFF:=Hy (show ∀f∈pg.f,f.ps.length<=8 by rw [<-HX.2.2.1];exact hff.1)
   have HBM:Hid (aX pg=(dR (X.fl.map fun f=>f.1.ps.length) G pg.f pg.t 0 (tr0 (pg.t.flat 0))).bind fun y=>(jh G pg.f).bind fun _=>.ok y):=Hy (by
    unfold aX;rw [<-HX.2.1,PP.1,Ck.bind_ok,<-HX.2.2.1,Ke,Ck.bind_ok,HX.2.2.1,Z6.out])
   have c1:=Ac.c1;have eu:=Ac.chk.lt;rw [HX.2.2.2.2.1] at c1;have hfnb:fn<=1000000:=by have e2:=Ko.2.1;have e4:=HN.2.1;have e1:=Ko.1.fn.1;omega
   have Mw:=Hy2 Ac (PP.2.2.1.trans lW);clear hff Ke Ac lW hGl;go_wp2_with fail;go_loopw [19] (fun v19 wr=>∃(i:Nat) (S:CkS) (F:Fo) (c:Nat) (tr:List (Int×Int)),v19=Iv i/\i<=fn/\CkV X S ⟨tr,[G],[]⟩ wr/\S.on=false/\S.fi=i/\S.done.length=i/\(∀j,i<=j->j<fn->S.vls[j]? =some (Sn))/\(∀j,c<=j->j<nn->S.sb[j]? =some false)/\S.sb.length=nn/\Hld (X.ns.map CN.nd) F c/\TrW F/\F.size<=50000/\(pg.f.drop i).map (·.b)=F.roots c/\
    (dR (X.fl.map fun f=>f.1.ps.length) G pg.f pg.t 0 (tr0 (pg.t.flat 0))=(dR (X.fl.map fun f=>f.1.ps.length) G (pg.f.drop i) F c tr).bind fun y=>.ok (y.1,S.done ++ y.2))/\Below X.B w1 wr) (fun v _=>fn - (intOf v).toNat)
   case atStart=>
    obtain ⟨-,-,off,fi0,Qs,Oz,Td⟩:=HC;refine ⟨0,S0,pg.t,0,tr0 (pg.t.flat 0),rfl,by omega,Mw.1,off,fi0,by rw [Qs];rfl,fun j _ hj=>?_,fun j _ hj=>?_,?_,?_,Ko.1.tw,Ko.1.sz,by simpa using Ko.1.rt,?_,Mw.2⟩
    ·rw [Oz,List.getElem?_replicate,if_pos (by rw [HN.2.1];exact hj)]
    ·rw [Td,List.getElem?_replicate,if_pos (by rw [HN.2.2];exact hj)]
    ·rw [Td,List.length_replicate,HN.2.2]
    ·have:=En pg.t 0 [] [] rfl;rw [HX.2.2.2.1]
     simpa using this
    ·rw [Qs,List.drop_zero];cases dR (X.fl.map fun f=>f.1.ps.length) G pg.f pg.t 0 (tr0 (pg.t.flat 0)) <;> rfl
   case round=>
    obtain ⟨i,S,F,c,tr,rfl,hi,Rx,off,PG,PH,Bt,Td,TM,hld,TG,hFs,JG,Xb,bW⟩:=hrel;by_cases hlt:i<fn
    ·have hipg:i<pg.f.length:=by rw [<-Ko.2.1,HN.2.1];exact hlt
     obtain ⟨f,hf⟩:∃f,pg.f[i]? =some f:=⟨_,List.getElem?_eq_getElem hipg⟩;have hdr:pg.f.drop i=f ::pg.f.drop (i+1):=by
      rw [List.drop_eq_getElem_cons hipg]
      congr 1
      exact (zS.1 hf).2
     obtain ⟨pv,hx⟩:∃pv,X.fl[i]? =some (f,pv):=by
      have e:=HX.2.2.1;rw [<-e,List.getElem?_map] at hf;cases hx:X.fl[i]? with
      |none=>rw [hx] at hf;cases hf
      |some y=>
       rw [hx] at hf;simp only [Option.map_some,Option.some.injEq] at hf;exact ⟨y.2,by rw [<-hf]⟩
     rw [hdr] at JG Xb;cases F with
     |nil=>simp [Fo.roots] at JG
     |cons h0 k r=>
     simp only [List.map_cons,Fo.roots,List.cons.injEq] at JG;rw [kR] at Xb;have QF:c+(k.size+1+r.size)<=nn:=by
      rcases hld.le with e|e
      ·cases e
      ·rw [List.length_map,HX.2.2.2.2.2] at e;exact e
     simp only [Fo.size] at hFs;have HB:=Hy (EM Rx off (by rw [PH,PG]) rfl rfl (h0:=h0) (k:=k) (c:=c) ⟨hld.1,hld.2.1,trivial⟩ (fun j h1 h2=>Td j h1 (by omega)) (by rw [PG];exact hx) JG.1 (by rw [PG];exact Bt i (zL _) hlt) (by omega) (fun x hx=>by
      have e:=HX.2.2.2.1;rw [<-Ko.1.n] at e;have hm:=List.mem_map_of_mem (f:=CN.nd) hx;rw [e] at hm;obtain ⟨y,hy,Zp⟩:=List.mem_map.1 hm;have:=(Ko.1.nn y hy).1;rw [show x.h=y.h by have:=congrArg Nd.h Zp;exact this.symm]
      exact this) TG.2.1 HGL HGf (HFF f (zG hf)) (Ko.1.fn.2 f (zG hf)).2.2)
     rw [PG] at HB;have c1:=Rx.c1;have eu:=Rx.chk.lt;rw [HX.2.2.2.2.1] at c1;have NZ:(i:Int)<fn:=by omega
     have HI:=Hy13 Rx PG PH Bt Td TM hld TG hFs JG Xb bW QF;clear Rx off PG PH Bt Td TM hld TG hFs JG Xb bW QF hf hx hdr;go_wp2_with fail;refine HB.mono ?_;clear HB;rintro e w5 (⟨tr',vs',S',hbd,rfl,E9,qK,Vx,VY,Uw,VF,VI,VG⟩|⟨no,p,hbd,rfl,qK⟩)
     ·have Oi:=Hy9 hbd E9 qK Vx VY Uw VF VI VG;clear hbd E9 qK Vx VY Uw VF VI VG;go_wp2_with fail;go_roundw
      case rel=>
       obtain ⟨hbd,E9,qK,Vx,VY,Uw,VF,VI,VG⟩:=Oi;obtain ⟨Rx,PG,PH,Bt,Td,TM,hld,TG,hFs,JG,Xb,bW,QF⟩:=HI;refine ⟨i+1,S',r,c+k.size+1,tr',by go_num,by omega,E9,Vx,by rw [VY,PG],by rw [Uw];simp [PH],fun j h1 h2=>?_,fun j h1 h2=>?_,by rw [VI,TM],hld.2.2,TG.2.2,by omega,JG.2,?_,bW.trans qK⟩
       ·rw [VF j (by rw [PG];omega)]
        exact Bt j (by omega) h2
       ·rw [VG j (by omega)]
        exact Td j (by omega) h2
       ·rw [Xb,hbd,Ck.bind_ok,Ck.bind_assoc,Uw]
        congr 1
        funext y
        simp
      case measure=>simp [intOf];omega
     ·have HE:=Hy (HP w5 no p (HI.2.2.2.2.2.2.2.2.2.2.2.1.trans qK) (by rw [HBM.out,HI.2.2.2.2.2.2.2.2.2.2.1,hbd];rfl))
      clear hbd qK;go_wp2_with fail;exact kN no p rfl rfl rfl HE.1 HE.2.1 HE.2.2.1 HE.2.2.2.1 HE.2.2.2.2.1 HE.2.2.2.2.2
    ·obtain rfl:fn=i:=by omega
     have hbod:dR (X.fl.map fun f=>f.1.ps.length) G pg.f pg.t 0 (tr0 (pg.t.flat 0))=.ok (tr,S.done):=by
      have hd0:pg.f.drop fn=[]:=List.drop_eq_nil_of_le (by rw [<-HN.2.1,Ko.2.1];exact zL _)
      rw [Xb,hd0];show (Ck.ok (tr,([]:List (List Int)))).bind (fun y=>Ck.ok (y.1,S.done ++ y.2))=_
      rw [Ck.bind_ok];simp
     have HM:=Hy (yK Rx (G:=G) rfl HGf (fun v hv=>Rx.Nq v hv (by rw [PG,HX.2.2.2.2.1]) (by rw [PH,PG])))
     have HI:=Hy5 Rx PG PH hbod bW;clear Rx off PG PH Bt Td TM hld TG hFs JG Xb bW hbod;go_wp2_with fail;refine HM.mono ?_;clear HM;rintro e w6 ⟨⟨GA,rfl⟩|⟨no,p,GA,rfl⟩,Hu⟩
     ·rw [HX.2.2.1] at GA;have NS:=HI.1.on Hu;have V5:Below X.B w1 w6:=HI.2.2.2.2.trans (Hu.mono HI.1.Ble);have UC:Below H0 w w6:=by
       have e1:=HK.2.2.1;rw [HK.2.2.2.2] at e1;exact (e1.trans (HC.2.1.mono (by have:=HK.2.2.2.1;omega))).trans (V5.mono (by omega))
      have hk2:=(HK.1.below HC.2.1 HK.1.lt).below V5 (by omega)
      have hk3:=(HK.2.1.below HC.2.1 HK.2.1.lt).below V5 (by omega)
      have z0:=NS.c0;have z1:=NS.c1;have z2:=NS.c2;have zl:=NS.chk.lt;have r0:w6.cell? (Ad (H0+1) 0)=some (Sn):=hk2.cell 0;have r1:w6.cell? (Ad (H0+1) 1)=some (Sn):=hk2.cell 1;have r2:w6.cell? (Ad (H0+1) 2)=some (Sn):=hk2.cell 2;have s0:w6.cell? (Ad (H0+2) 0)=some (Iv 0):=hk3.cell 0;have s1:w6.cell? (Ad (H0+2) 1)=some (Iv 0):=hk3.cell 1;have g0:=hk2.frozen 0;have g1:=hk2.frozen 1;have g2:=hk2.frozen 2;have g3:=hk3.frozen 0;have g4:=hk3.frozen 1;have rl:=hk2.lt;have sl:=hk3.lt;have HZ:=Hy5 GA NS UC hk2 hk3;clear GA NS V5 UC hk2 hk3 Hu;go_wp2_with fail;obtain ⟨GA,NS,UC,hk2,hk3⟩:=HZ;have n1:H0+2≠H0+1:=by omega
      have n2:H0+1≠H0+2:=by omega
      have a1:=hk2.af 0 (.slice X.gA X.gs.length X.gc);have a2:=a1.af 1 (Sl X.fB X.fl.length X.fc);have a3:=a2.af 2 (Sl X.nB X.ns.length X.nc);have b3:=((hk3.far (p:=(Ad (H0+1) 0)) n1 (.slice X.gA X.gs.length X.gc)).far (p:=(Ad (H0+1) 1)) n1 (Sl X.fB X.fl.length X.fc)).far (p:=(Ad (H0+1) 2)) n1 (Sl X.nB X.ns.length X.nc);have b4:=b3.af 0 (Iv 0);have b5:=b4.af 1 (Iv 0);have a5:=(a3.far (p:=(Ad (H0+2) 0)) n2 (Iv 0)).far (p:=(Ad (H0+2) 1)) n2 (Iv 0);have hBB:w.heap.size<=X.B:=by rw [HK.2.2.2.2];omega
      refine BZ rfl rfl rfl a5 b5 ?_;rw [<-HR.out];have LB:∀{t:TypeId} {sz n:Nat} {v:Value} {xs:List Value},t≠aK->t≠tDg->w6.ownsRow X.B t sz v n xs->_:=fun {t sz n v xs} h1 h2 hr=>(bg (wN (wN (dO (dO (dO hr hk2 h1) a1 h1) a2 h1) b3 h2 (u:=Iv 0) (j:=0)) b4 h2 (u:=Iv 0) (j:=1)) hBB).alloc (.cells #[Iv 0,Iv 0] tFt)
      refine ⟨?_,.inr ⟨tr,S.done,X.gA,some (Ad X.fB 0),some (Ad X.nB 0),X.gc,X.fc,X.nc,X.fl,S.vls,X.ns,?_,?_,?_⟩⟩
      ·rw [HK.2.2.2.2];have hs:=UC.size;have e1:=HK.2.2.2.2;exact (((((UC.setCell (p:=(Ad (H0+1) 0)) (by simp) _).setCell (p:=(Ad (H0+1) 1)) (by simp) _).setCell (p:=(Ad (H0+1) 2)) (by simp) _).setCell (p:=(Ad (H0+2) 0)) (by simp) _).setCell (p:=(Ad (H0+2) 1)) (by simp) _).alloc (by simp;omega) _
      ·rw [HBM.out,HI.2.2.2.1,Ck.bind_ok,GA]
       rfl
      ·rw [<-HX.2.1]
      ·refine ⟨by rw [<-HX.2.1];exact LB (by decide) (by decide) NS.glb.1,LB (by decide) (by decide) NS.fP,LB (by decide) (by decide) NS.nod,NS.vll,NS.trl,by rw [HI.2.2.1,HX.2.2.2.2.1],fun x hx=>LB (by decide) (by decide) (NS.prm x hx).1,fun x hx=>LB (by decide) (by decide) (NS.gZ x hx).1,fun j v l h1 h2=>LB (by decide) (by decide) (NS.old j v l h1 h2 (by have:=(zS.1 h2).1;rw [HI.2.1];rw [HI.2.2.1] at this;exact this)).1,HX.2.2.1,HX.2.2.2.1⟩
     ·rw [HX.2.2.1] at GA;have HE:=Hy (HP w6 no p (HI.2.2.2.2.trans (Hu.mono HI.1.Ble)) (by rw [HBM.out,HI.2.2.2.1,Ck.bind_ok,GA];rfl))
      clear GA Hu;go_wp2_with fail;exact kN no p rfl rfl rfl HE.1 HE.2.1 HE.2.2.1 HE.2.2.2.1 HE.2.2.2.2.1 HE.2.2.2.2.2
  ·have HE:=Hy (HP w3 no p (PP.2.2.1.trans lW) (by unfold aX;rw [<-HX.2.1,PP.1,Ck.bind_ok,<-HX.2.2.1,Ke];rfl))
   clear Ke lW;go_wp2_with fail;exact kN no p rfl rfl rfl HE.1 HE.2.1 HE.2.2.1 HE.2.2.2.1 HE.2.2.2.2.1 HE.2.2.2.2.2
 ·have HE:=Hy (HP w2 no p aU (by unfold aX;rw [<-HX.2.1,Er];rfl))
  clear Er aU;go_wp2_with fail;exact kN no p rfl rfl rfl HE.1 HE.2.1 HE.2.2.1 HE.2.2.2.1 HE.2.2.2.2.1 HE.2.2.2.2.2
end
section
def okF:Fo->Bool
 | .nil=>true
 | .cons h k r=>decide (h.s.length<=1000000) && (decide (h.op≠4) || decide (k.len=1)) && (decide (h.op≠5) || decide (k.len=2)) && (decide (h.op≠15/\h.op≠16) || decide (1<=k.len)) && okF k && okF r
theorem JV:∀F:Fo,okF F=true->TrW F:=by
 intro F
 induction F with
 |nil=>intro _;trivial
 |cons h k r ih1 ih2=>
  intro e;simp only [okF,Bool.and_eq_true,Bool.or_eq_true,decide_eq_true_eq] at e;obtain ⟨⟨⟨⟨⟨e1,e2⟩,e3⟩,e4⟩,e5⟩,e6⟩:=e;refine ⟨⟨e1,fun h4=>e2.resolve_left (fun n=>n h4),fun h5=>e3.resolve_left (fun n=>n h5),fun h15=>e4.resolve_left (fun n=>?_)⟩,ih1 e5,ih2 e6⟩
  rcases h15 with h|h
  ·exact n.1 h
  ·exact n.2 h
def F8 (pg:Pg):Bool:=decide (pg.f≠[]) && decide (pg.f.map (·.b)=pg.t.roots 0) && okF pg.t && decide (pg.t.size<=50000) && decide (pg.g.length<=500000) && pg.g.all (fun g=>decide (g.s.length<=1000000/\g.n<=1000000)) && decide (pg.f.length<=500000) &&
 pg.f.all (fun f=>decide (f.s.length<=1000000/\f.ps.length<=1000000) && f.ps.all fun p=>decide (p.s.length<=1000000)) && (pg.t.flat 0).all (fun n=>decide (n.h.s.length<=1000000/\n.kids.length<=1000000))
def okT (l:List Tok):Bool:=decide (l.length<=1000000) && l.all fun t=>decide (t.s.length<=1000000)
def qU (l:List UInt8):Option (Int×Int):=
 if (gm l).2.1=0 then (if okT (gm l).1 then (match eO (gm l).1 with
  | .ok pg _=>if F8 pg then (match aX pg with| .ok _=>some (0,0)| .er n p=>some (n,p)) else none
  |_=>none) else none) else none
def kTx:List (List UInt8):=[
 [105,110,116,32,102,40,41,123,114,101,116,117,114,110,32,48,59,125],
 [105,110,116,32,109,97,105,110,40,41,123,32,105,110,116,32,97,32,61,32,49,59,32,123,32,105,110,116,32,97,32,61,32,50,59,32,125,32,105,110,116,32,97,32,61,32,51,59,32,114,101,116,117,114,110,32,97,59,125],
 [118,111,105,100,32,102,40,41,123,125,32,105,110,116,32,109,97,105,110,40,41,123,32,114,101,116,117,114,110,32,102,40,41,59,125],
 [105,110,116,32,109,97,105,110,40,41,123,32,103,111,116,111,32,108,59,32,114,101,116,117,114,110,32,48,59,125],
 [105,110,116,32,109,97,105,110,40,105,110,116,32,97,41,123,114,101,116,117,114,110,32,48,59,125],
 [105,110,116,32,97,59,32,108,111,110,103,32,97,59,32,105,110,116,32,109,97,105,110,40,41,123,114,101,116,117,114,110,32,48,59,125],
 [108,111,110,103,32,97,91,53,49,50,93,59,32,105,110,116,32,98,59,32,105,110,116,32,109,97,105,110,40,41,123,114,101,116,117,114,110,32,48,59,125],
 [105,110,116,32,102,40,105,110,116,32,97,44,32,105,110,116,32,97,41,123,114,101,116,117,114,110,32,48,59,125,32,105,110,116,32,109,97,105,110,40,41,123,114,101,116,117,114,110,32,48,59,125],
 [105,110,116,32,120,59,32,105,110,116,32,120,40,41,123,114,101,116,117,114,110,32,48,59,125,32,105,110,116,32,109,97,105,110,40,41,123,114,101,116,117,114,110,32,48,59,125],
 [105,110,116,32,109,97,105,110,40,41,123,32,108,58,32,111,117,116,40,49,41,59,32,108,58,32,111,117,116,40,50,41,59,32,114,101,116,117,114,110,32,48,59,125],
 [105,110,116,32,97,91,51,93,59,32,105,110,116,32,109,97,105,110,40,41,123,32,97,32,61,32,49,59,32,114,101,116,117,114,110,32,48,59,125],
 [105,110,116,32,97,59,32,105,110,116,32,109,97,105,110,40,41,123,32,97,91,48,93,32,61,32,49,59,32,114,101,116,117,114,110,32,48,59,125],
 [105,110,116,32,102,40,105,110,116,32,97,41,123,114,101,116,117,114,110,32,97,59,125,32,105,110,116,32,109,97,105,110,40,41,123,32,114,101,116,117,114,110,32,102,40,41,59,125],
 [105,110,116,32,109,97,105,110,40,41,123,32,102,40,41,59,32,114,101,116,117,114,110,32,48,59,125],
 [105,110,116,32,109,97,105,110,40,105,110,116,32,97,41,123,114,101,116,117,114,110,32,48,59,125],
 [108,111,110,103,32,109,97,105,110,40,41,123,114,101,116,117,114,110,32,48,59,125],
 [118,111,105,100,32,102,40,41,123,114,101,116,117,114,110,32,49,59,125,32,105,110,116,32,109,97,105,110,40,41,123,114,101,116,117,114,110,32,48,59,125],
 [105,110,116,32,109,97,105,110,40,41,123,114,101,116,117,114,110,59,125],
 [105,110,116,32,109,97,105,110,40,41,123,32,105,110,116,32,97,32,61,32,97,59,32,114,101,116,117,114,110,32,48,59,125],
 [105,110,116,32,109,97,105,110,40,41,123,32,108,58,32,103,111,116,111,32,108,59,32,125],
 [105,110,116,32,97,59,32,105,110,116,32,109,97,105,110,40,41,123,32,105,110,116,32,97,32,61,32,97,59,32,114,101,116,117,114,110,32,97,59,125],
 [108,111,110,103,32,97,91,53,49,50,93,59,32,105,110,116,32,109,97,105,110,40,41,123,32,114,101,116,117,114,110,32,97,91,49,93,32,61,61,32,50,59,125]]
def kWt:List (Int×Int):=[(12,0),(5,38),(6,23),(8,12),(12,4),(5,12),(9,17),(5,4),(5,11),(5,23),(6,22),(6,19),(7,43),(4,12),(12,4),(12,5),(6,9),(6,11),(4,20),(0,0),(0,0),(0,0)]
def Nw:List UInt8:=[105,110,116,32,109,97,105,110,40,41,123,114,101,116,117,114,110,32,48,59,125]
def Nv:List UInt8:=[105,110,116,32,120,59,32,105,110,116,32,109,97,105,110,40,41,123,32,120,32,61,32,121,59,32,114,101,116,117,114,110,32,48,59,125]
theorem MB:qU Nw=some (0,0):=by decide +kernel
theorem Mx:qU Nv=some (4,23):=by decide +kernel
end
section
open Go.RowKit
structure Cur (X:Rdr) (w:World) (v:Value) (W:World) (s:St) (ns:List NV) (u:Value):Prop where
 at_:At X W s ns u
 kp:Kp X w v W u
 low:Below X.base w W
theorem Cur.start {X:Rdr}{w:World}{s:St}{ns:List NV}{v:Value}(h:At X w s ns v):Cur X w v w s ns v:=⟨h,Kp.refl _ _ _,zB _ _⟩
theorem Cur.go {X:Rdr}{w W W':World}{v u:Value}{s:St}{ns:List NV}(h:Cur X w v W s ns u)(hb:Zw W W'):Cur X w v W' s ns u:=⟨h.at_.below hb,h.kp.trans (.of hb),h.low.trans (h.at_.down hb)⟩
theorem Cur.step {X:Rdr}{w W W':World}{v u u':Value}{s s':St}{ns ns':List NV}(h:Cur X w v W s ns u)(ha:At X W' s' ns' u')(hk:Kp X W u W' u'):Cur X w v W' s' ns' u':=⟨ha,h.kp.trans hk,h.low.trans (hk.below h.at_)⟩
theorem Cur.alloc {X:Rdr}{w W:World}{v u:Value}{s:St}{ns:List NV}(h:Cur X w v W s ns u)(o:Obj):Cur X w v (W.alloc o) s ns u:=h.go ((Below.refl _ W).alloc (zL _) o)
structure Loc (X:Rdr) (W:World) (u:Value) (j:Nat) (t:TypeId) (cs:Array Value):Prop where
 blk:Blk W j t cs
 neb:j≠X.b
 neo:some j≠u.ownBlock
 base:X.base<=j
theorem Loc.kept {X:Rdr}{W W':World}{u u':Value}{j:Nat}{t:TypeId}{cs:Array Value}(h:Loc X W u j t cs)(hk:Kp X W u W' u'):Loc X W' u' j t cs where
 blk:=(hk.block j h.blk.lt h.neb h.neo).trans h.blk
 neb:=h.neb
 neo:=by
  rcases hk.own with e|⟨g,e,hg⟩
  ·rw [e];exact h.neo
  ·rw [e];intro e';cases e';have:=h.blk.lt;omega
 base:=h.base
theorem Loc.go {X:Rdr}{W W':World}{u:Value}{j:Nat}{t:TypeId}{cs:Array Value}(h:Loc X W u j t cs)(hb:Zw W W'):Loc X W' u j t cs:=h.kept (.of hb)
theorem Loc.alloc {X:Rdr}{W:World}{u:Value}{j:Nat}{t:TypeId}{cs:Array Value}(h:Loc X W u j t cs)(o:Obj):Loc X (W.alloc o) u j t cs:=h.go ((Below.refl _ W).alloc (zL _) o)
theorem Cur.new {X:Rdr}{w W:World}{v u:Value}{s:St}{ns:List NV}(h:Cur X w v W s ns u)(t:TypeId)(cs:Array Value):Loc X (W.alloc (.cells cs t)) u W.heap.size t cs where
 blk:=Blk.new W t cs
 neb:=by have:=h.at_.blk.lt;omega
 neo:=h.at_.yB (zL _)
 base:=h.at_.eu
theorem Cur.af {X:Rdr}{w W:World}{v u:Value}{s:St}{ns:List NV}{j:Nat}{t:TypeId}{cs:Array Value}(h:Cur X w v W s ns u)(hl:Loc X W u j t cs)(hw:w.heap.size<=j)(ht:t≠tR/\t≠tI)(o:Nat)(x:Value):Cur X w v (W.setCell (Ad j o) x) s ns u where
 at_:=h.at_.af hl.blk ht hl.base hl.neo o x
 kp:=h.kp.down ((zB _ _).setCell (p:=Ad j o) hw x)
 low:=h.low.trans ((zB _ _).setCell (p:=Ad j o) hl.base x)
theorem Loc.af {X:Rdr}{W:World}{u:Value}{j:Nat}{t:TypeId}{cs:Array Value}(h:Loc X W u j t cs)(o:Nat)(x:Value):Loc X (W.setCell (Ad j o) x) u j t (cs.setIfInBounds o x):=⟨h.blk.af o x,h.neb,h.neo,h.base⟩
theorem Loc.far {X:Rdr}{W:World}{u:Value}{i j:Nat}{t:TypeId}{cs:Array Value}(h:Loc X W u j t cs)(aD:j≠i)(o:Nat)(x:Value):Loc X (W.setCell (Ad i o) x) u j t cs:=⟨h.blk.far aD x,h.neb,h.neo,h.base⟩
def fJ (t:Tok):Array Value:=#[Iv t.k,Iv t.p,Iv t.n,Ss t.s]
theorem Blk.tok {W:World}{j:Nat}{T:TypeId}{t:Tok}(h:Blk W j T (fJ t)) :
  Ce W j 0 (Iv t.k)/\Ce W j 1 (Iv t.p)/\Ce W j 2 (Iv t.n)/\Ce W j 3 (Ss t.s)/\j<W.heap.size:=
 ⟨h.cell 0,h.cell 1,h.cell 2,h.cell 3,h.lt⟩
theorem Blk.node {W:World}{j:Nat}{T:TypeId}{x:NV}(h:Blk W j T (aH x).toArray) :
  Ce W j 0 (Iv x.h.op)/\Ce W j 1 (Iv x.h.p)/\Ce W j 2 (Iv x.h.n)/\Ce W j 3 (Ss x.h.s)/\
  Ce W j 4 (Iv x.h.to)/\Ce W j 5 x.v/\Ce W j 6 (Iv x.h.ty)/\Ce W j 7 (Iv 0)/\j<W.heap.size/\
  W.frozen? (Ad j 5)=false:=
 ⟨h.cell 0,h.cell 1,h.cell 2,h.cell 3,h.cell 4,h.cell 5,h.cell 6,h.cell 7,h.lt,h.frozen 5⟩
section
variable {W:World} {b:Nat} {x y:Value}
theorem nP (h:Ce W b 1 x/\Ce W b 3 y/\b<W.heap.size)(o:Obj):(W.alloc o).cell? (Ad b 1)=some x/\(W.alloc o).cell? (Ad b 3)=some y/\b< (W.alloc o).heap.size:=
 ⟨(World.cell?_alloc_lt W o _ h.2.2).trans h.1,(World.cell?_alloc_lt W o _ h.2.2).trans h.2.1,by simp;omega⟩
theorem Fs (h:Ce W b 1 x/\Ce W b 3 y/\b<W.heap.size):W.drew.cell? (Ad b 1)=some x/\W.drew.cell? (Ad b 3)=some y/\b<W.drew.heap.size:=h
theorem Ji (h:Ce W b 1 x/\Ce W b 3 y/\b<W.heap.size){i:Nat}(aD:i≠b)(o:Nat)(u:Value):(W.setCell (Ad i o) u).cell? (Ad b 1)=some x/\(W.setCell (Ad i o) u).cell? (Ad b 3)=some y/\b< (W.setCell (Ad i o) u).heap.size:=
 ⟨(World.cell?_of_block (a:=Ad b 1) (Below.heap_setCell W (Ad i o) u b (Ne.symm aD))).trans h.1,(World.cell?_of_block (a:=Ad b 3) (Below.heap_setCell W (Ad i o) u b (Ne.symm aD))).trans h.2.1,by simpa using h.2.2⟩
end
theorem Blk.oW {W:World}{j:Nat}{T:TypeId}{cs:Array Value}(h:Blk W j T cs):∀i,W.frozen? (Ad j i)=false:=h.frozen
def nz:NV:=⟨⟨0,0,0,[],0,0⟩,[],Sn⟩
theorem Blk.LC {W:World}{j:Nat}{T:TypeId}(h:Blk W j T (aH nz).toArray) :
  (Ce W j 0 (Iv 0)/\Ce W j 1 (Iv 0)/\Ce W j 2 (Iv 0)/\Ce W j 3 (.string ⟨#[]⟩)/\
  Ce W j 4 (Iv 0)/\Ce W j 5 (Sn)/\Ce W j 6 (Iv 0)/\Ce W j 7 (Iv 0))/\
  (W.frozen? (Ad j 0)=false/\W.frozen? (Ad j 1)=false/\W.frozen? (Ad j 2)=false/\W.frozen? (Ad j 3)=false/\W.frozen? (Ad j 4)=false/\W.frozen? (Ad j 5)=false/\W.frozen? (Ad j 6)=false/\W.frozen? (Ad j 7)=false)/\j<W.heap.size:=
 ⟨⟨h.cell 0,h.cell 1,h.cell 2,h.cell 3,h.cell 4,h.cell 5,h.cell 6,h.cell 7⟩,⟨h.frozen 0,h.frozen 1,h.frozen 2,h.frozen 3,h.frozen 4,h.frozen 5,h.frozen 6,h.frozen 7⟩,h.lt⟩
def RC {α:Type} (X:Rdr) (w:World) (v:Value) (W:World) (ns:List NV) (u:Value) (enc:α->Value) (R:Rs α) (e:Ending) (w':World):Prop:=
 match R with
 | .ok a s=>e=.returned (enc a)/\Cur X w v w' s ns u/\Kp X W u w' u
 | .er no p=>e=Pan no p/\Below X.base w w'
 | .out=>False
theorem Cur.rc {α:Type}{X:Rdr}{w W W0:World}{v u:Value}{s:St}{ns:List NV}{enc:α->Value}{R:Rs α}{e:Ending}{w':World}(h:Cur X w v W s ns u)(hk:Kp X W0 u W u)(hr:R0 X W ns u enc R e w'):RC X w v W0 ns u enc R e w':=by
 cases R with
 |ok a s'=>exact ⟨hr.1,h.step hr.2.1 hr.2.2,hk.trans hr.2.2⟩
 |er no p=>exact ⟨hr.1,h.low.trans hr.2⟩
 |out=>exact hr
section
variable {X:Rdr} {w W:World} {v u:Value} {s:St} {ns:List NV} (h:Cur X w v W s ns u)
include h
theorem jS:Calls prog 79 #[rd X] W fun e w'=>e=.returned (iF (pk X.e s))/\Cur X w v w' s ns u/\Kp X W u w' u:=
 (kD h.at_).mono fun e w' ⟨h1,h2⟩=>⟨h1,h.go h2,.of h2⟩
theorem gQ (aD:s.l≠[]):Calls prog 120 #[rd X] W fun e w'=>e=.returned (iF (pk X.e s))/\Cur X w v w' s.nx ns u/\Kp X W u w' u:=
 (oo h.at_ aD).mono fun e w' ⟨h1,h2,h3⟩=>⟨h1,h.step h2 h3,h3⟩
theorem kQ (t:Tok):Calls prog 117 #[iF t] W fun e w'=>e=.returned (.string (str (q t)))/\Cur X w v w' s ns u/\Kp X W u w' u:=
 (mX t W).mono fun e w' ⟨h1,h2⟩=>⟨h1,h.go h2,.of h2⟩
theorem xN (t:Tok):Calls prog 121 #[iF t] W fun e w'=>e=.returned (.bool (jX t))/\Cur X w v w' s ns u/\Kp X W u w' u:=
 (rz t W).mono fun e w' ⟨h1,h2⟩=>⟨h1,h.go h2,.of h2⟩
theorem EL (l:List UInt8):Calls prog 82 #[rd X,Ss l] W fun e w'=>e=.returned (.bool (isT X.e l s))/\Cur X w v w' s ns u/\Kp X W u w' u:=
 (Ee h.at_ (str l) l (fw l)).mono fun e w' ⟨h1,h2⟩=>⟨h1,h.go h2,.of h2⟩
theorem oN (l:List UInt8)(hl:l≠[]):Calls prog 142 #[rd X,Ss l] W fun e w'=>e=.returned (.bool (isT X.e l s))/\Cur X w v w' (acc X.e l s) ns u/\Kp X W u w' u:=
 (nH h.at_ (str l) l (fw l) hl).mono fun e w' ⟨h1,h2,h3⟩=>⟨h1,h.step h2 h3,h3⟩
theorem mJ (no:Int):Calls prog 119 #[rd X,Iv no] W fun e w'=>e=.returned (fQ no (pk X.e s).p)/\Below X.base w w':=
 (jA h.at_ no).mono fun e w' ⟨h1,h2⟩=>⟨h1,h.low.trans (h.at_.down h2)⟩
theorem Ay (d:Nat)(hd:d<=1000):Calls prog 161 #[rd X,Iv d] W (RC X w v W ns u (fun _=>.tuple #[]) (fM X.e d s)):=
 (BR h.at_ d hd).mono fun e w' hr=>h.rc (Kp.refl _ _ _) hr
theorem pG:Calls prog 81 #[rd X] W (RC X w v W ns u iF (gF X.e s)):=
 (DN h.at_).mono fun e w' hr=>h.rc (Kp.refl _ _ _) hr
theorem bI {H:Nat}(hH:W.heap.size=H)(x:List UInt8)(hx:x≠[]):Calls prog 122 #[rd X,Sl H 1 1] (W.alloc (.cells #[Ss x] 9)) (RC X w v W ns u (fun _=>.tuple #[]) (must X.e x s)):=by
 subst hH;have hn:=h.new 9 #[Ss x];have e:jg X.e [x] s=must X.e x s:=by
  simp only [jg];cases must X.e x s <;> rfl
 rw [<-e];exact (nu (h.alloc _).at_ [x] 1 1 rfl (by omega) (by simpa using hx) _ _ hn.blk hn.neo (by intro j y hj;match j,hj with|0,hj=>simp at hj;subst hj;rfl)).mono fun e w' hr=>(h.alloc _).rc (Kp.of ((Below.refl _ W).alloc (zL _) _)) hr
theorem Aw {H:Nat}(hH:W.heap.size=H)(x y:List UInt8)(hx:x≠[])(hy:y≠[]):Calls prog 122 #[rd X,Sl H 2 2] (W.alloc (.cells #[Ss x,Ss y] 9)) (RC X w v W ns u (fun _=>.tuple #[]) ((must X.e x s).bind fun _ s=>must X.e y s)):=by
 subst hH;have hn:=h.new 9 #[Ss x,Ss y];have e:jg X.e [x,y] s=(must X.e x s).bind fun _ s=>must X.e y s:=by
  simp only [jg];cases must X.e x s with
  |ok a s1=>simp only [Rs.bind];cases must X.e y s1 <;> rfl
  |er _ _=>rfl
  |out=>rfl
 rw [<-e];exact (nu (h.alloc _).at_ [x,y] 2 2 rfl (by omega) (by intro z hz;simp at hz;rcases hz with rfl|rfl <;> assumption) _ _ hn.blk hn.neo (by intro j y hj;match j,hj with|0,hj=>simp at hj;subst hj;rfl|1,hj=>simp at hj;subst hj;rfl)).mono fun e w' hr=>(h.alloc _).rc (Kp.of ((Below.refl _ W).alloc (zL _) _)) hr
theorem Hz {H:Nat}(hH:W.heap.size=H)(x y z:List UInt8)(hx:x≠[])(hy:y≠[])(hz:z≠[]):Calls prog 122 #[rd X,Sl H 3 3] (W.alloc (.cells #[Ss x,Ss y,Ss z] 9)) (RC X w v W ns u (fun _=>.tuple #[]) ((must X.e x s).bind fun _ s=>(must X.e y s).bind fun _ s=>must X.e z s)):=by
 subst hH;have hn:=h.new 9 #[Ss x,Ss y,Ss z];have e:jg X.e [x,y,z] s=(must X.e x s).bind fun _ s=>(must X.e y s).bind fun _ s=>must X.e z s:=by
  simp only [jg];cases must X.e x s with
  |ok a s1=>
   simp only [Rs.bind];cases must X.e y s1 with
   |ok a s2=>simp only;cases must X.e z s2 <;> rfl
   |er _ _=>rfl
   |out=>rfl
  |er _ _=>rfl
  |out=>rfl
 rw [<-e];exact (nu (h.alloc _).at_ [x,y,z] 3 3 rfl (by omega) (by intro z hz;simp at hz;rcases hz with rfl|rfl|rfl <;> assumption) _ _ hn.blk hn.neo (by intro j y hj;match j,hj with|0,hj=>simp at hj;subst hj;rfl|1,hj=>simp at hj;subst hj;rfl|2,hj=>simp at hj;subst hj;rfl)).mono fun e w' hr=>(h.alloc _).rc (Kp.of ((Below.refl _ W).alloc (zL _) _)) hr
theorem xM {H:Nat}(hH:W.heap.size=H)(x y:Int):Calls prog 80 #[rd X,Sl H 2 2] (W.alloc (.cells #[Iv x,Iv y] tI)) (RC X w v W ns u (fun k=>Iv k) (gz X.e [x,y] s)):=by
 subst hH;have hn:=h.new tI #[Iv x,Iv y];exact (sO (h.alloc _).at_ [x,y] 2 2 rfl (by omega) _ _ hn.blk (by intro j y hj;match j,hj with|0,hj=>simp at hj;subst hj;rfl|1,hj=>simp at hj;subst hj;rfl)).mono fun e w' hr=>(h.alloc _).rc (Kp.of ((Below.refl _ W).alloc (zL _) _)) hr
theorem EK {H:Nat}(hH:W.heap.size=H)(x y z t:Int):Calls prog 80 #[rd X,Sl H 4 4] (W.alloc (.cells #[Iv x,Iv y,Iv z,Iv t] tI)) (RC X w v W ns u (fun k=>Iv k) (gz X.e [x,y,z,t] s)):=by
 subst hH;have hn:=h.new tI #[Iv x,Iv y,Iv z,Iv t];exact (sO (h.alloc _).at_ [x,y,z,t] 4 4 rfl (by omega) _ _ hn.blk (by intro j y hj;match j,hj with|0,hj=>simp at hj;subst hj;rfl|1,hj=>simp at hj;subst hj;rfl|2,hj=>simp at hj;subst hj;rfl|3,hj=>simp at hj;subst hj;rfl)).mono fun e w' hr=>(h.alloc _).rc (Kp.of ((Below.refl _ W).alloc (zL _) _)) hr
end
theorem RC.cases {α:Type}{X:Rdr}{w W:World}{v u:Value}{ns:List NV}{enc:α->Value}{R:Rs α}{e:Ending}{w':World}(h:RC X w v W ns u enc R e w') :
  (∃no p,R=.er no p/\e=.panicked [{v:=.iface tF (fQ no p),recovered:=false}]/\Below X.base w w')∨(∃a s',R=.ok a s'/\e=.returned (enc a)/\Cur X w v w' s' ns u/\Kp X W u w' u):=by
 cases R with
 |ok a s'=>exact .inr ⟨a,s',rfl,h⟩
 |er no p=>exact .inl ⟨no,p,rfl,h⟩
 |out=>exact h.elim
theorem gH {X:Rdr}{W W':World}{s:St}{ns:List NV}{u u' kv:Value}{n:Nat}{cs:List Value}(h:At X W s ns u)(hr:W.ownsRow X.base tI 1 kv n cs)(hk:Kp X W u W' u'):W'.ownsRow X.base tI 1 kv n cs:=
 aJ hr fun g hg=>hk.block g (hr.lt g hg).2 (fun e=>h.blk.not_row (by decide) hr (by rw [hg,e])) fun e=>by
  rcases hr.2 with ⟨hv,_⟩|⟨g',cap,cur,hv,_,Kq,_⟩
  ·rw [hv] at hg;simp [Value.ownBlock] at hg
  ·rw [hv] at hg;simp [Value.ownBlock] at hg;rcases h.rows.2 with ⟨CY,_⟩|⟨g2,Rb,cur2,CY,_,Us,_⟩
   ·rw [CY] at e;simp [Value.ownBlock] at e
   ·rw [CY] at e;simp [Value.ownBlock] at e;rw [hg,e,Us] at Kq;simp at Kq;exact absurd Kq.2 (by decide)
structure Fl (w:World) (nk:List NV) (a:Fo) (c:Nat):Prop where
 eq:nk.map NV.nd=a.flat c
 new:∀x∈nk,∀g,x.v.ownBlock=some g->w.heap.size<=g
theorem Fl.old {w W:World}{nk:List NV}{a:Fo}{c:Nat}(h:Fl W nk a c)(hs:w.heap.size<=W.heap.size):Fl w nk a c:=⟨h.eq,fun x hx g hg=>Nat.le_trans hs (h.new x hx g hg)⟩
theorem Fl.nil (w:World)(c:Nat):Fl w [] .nil c:=⟨rfl,fun x hx=>by cases hx⟩
theorem fr1 {X:Rdr}{w W:World}{v u:Value}{s:St}{ns:List NV}(h:Cur X w v W s ns u){n c:Nat}:∀g,(Sl W.heap.size n c).ownBlock=some g->w.heap.size<=g:=fun g hg=>by
 simp [Value.ownBlock] at hg;have:=h.kp.size;omega
def RT (X:Rdr) (w:World) (ns:List NV) (v:Value) (R:Rs Fo) (e:Ending) (w':World):Prop:=
 match R with
 | .ok a s=>∃v' nk h k,a=Fo.one h k/\e=.returned (Iv (ns.length+k.size:Nat))/\At X w' s (ns ++ nk) v'/\Kp X w v w' v'/\Fl w nk a ns.length
 | .er no p=>e=Pan no p/\Below X.base w w'
 | .out=>False
theorem RT.form {X:Rdr}{w w':World}{ns:List NV}{v:Value}{R:Rs Fo}{e:Ending}(h:RT X w ns v R e w'):(∃i:Nat,e=.returned (Iv i))∨∃ch,e=.panicked ch:=by
 cases R with
 |ok a s=>obtain ⟨v',nk,h',k,_,he,_⟩:=h;exact .inl ⟨_,he⟩
 |er no p=>exact .inr ⟨_,h.1⟩
 |out=>exact h.elim
def RD (X:Rdr) (w:World) (v:Value) (W:World) (ns:List NV) (u:Value) (R:Rs Fo) (e:Ending) (w':World):Prop:=
 match R with
 | .ok a s=>∃v' nk h k,a=Fo.one h k/\e=.returned (Iv (ns.length+k.size:Nat))/\Cur X w v w' s (ns ++ nk) v'/\Kp X W u w' v'/\Fl w nk a ns.length
 | .er no p=>e=Pan no p/\Below X.base w w'
 | .out=>False
theorem Cur.rd {X:Rdr}{w W:World}{v u:Value}{s:St}{ns:List NV}{R:Rs Fo}{e:Ending}{w':World}(h:Cur X w v W s ns u)(hr:RT X W ns u R e w'):RD X w v W ns u R e w':=by
 cases R with
 |ok a s'=>obtain ⟨v',nk,h',k,h1,h2,h3,h4,h5⟩:=hr;exact ⟨v',nk,h',k,h1,h2,h.step h3 h4,h4,h5.old h.kp.size⟩
 |er no p=>exact ⟨hr.1,h.low.trans hr.2⟩
 |out=>exact hr
theorem Cur.tree {X:Rdr}{w W:World}{v u:Value}{s:St}{ns:List NV}{R:Rs Fo}{f:FuncId}{args:Array Value}(h:Cur X w v W s ns u)(hc:∀W',At X W' s ns u->Calls prog f args W' (RT X W' ns u R)) :
  ∀W',Zw W W'->Calls prog f args W' (RD X w v W' ns u R):=
 fun W' hW=>(hc W' (h.at_.below hW)).mono fun e w' hr=>(h.go hW).rd hr
theorem kw {X:Rdr}{w W:World}{v u:Value}{s:St}{ns:List NV}{R:Rs Fo}{e:Ending}{w':World}(h:Cur X w v W s ns u)(hr:RT X W ns u R e w'):RT X w ns v R e w':=by
 cases R with
 |ok a s'=>obtain ⟨v',nk,h',k,h1,h2,h3,h4,h5⟩:=hr;exact ⟨v',nk,h',k,h1,h2,h3,h.kp.trans h4,h5.old h.kp.size⟩
 |er no p=>exact ⟨hr.1,h.low.trans hr.2⟩
 |out=>exact hr
theorem RD.cases {X:Rdr}{w W:World}{v u:Value}{ns:List NV}{R:Rs Fo}{e:Ending}{w':World}(h:RD X w v W ns u R e w') :
  (∃no p,R=.er no p/\e=.panicked [{v:=.iface tF (fQ no p),recovered:=false}]/\Below X.base w w')∨
  (∃hh k s' v' nk,R=.ok (Fo.one hh k) s'/\e=.returned (Iv (ns.length+k.size:Nat))/\Cur X w v w' s' (ns ++ nk) v'/\Kp X W u w' v'/\Fl w nk (Fo.one hh k) ns.length):=by
 cases R with
 |ok a s'=>obtain ⟨v',nk,h',k,rfl,h2,h3,h4,h5⟩:=h;exact .inr ⟨h',k,s',v',nk,rfl,h2,h3,h4,h5⟩
 |er no p=>exact .inl ⟨no,p,rfl,h⟩
 |out=>exact h.elim
theorem bS {w:World}{nk:List NV}{k:Fo}{c:Nat}(hk:Fl w nk k c):nk.length=k.size:=by rw [<-Fo.aD k c,<-hk.eq,List.length_map]
theorem iD {X:Rdr}{w W:World}{s1:St}{ns nk:List NV}{v u kv:Value}(h:Cur X w v W s1 (ns ++ nk) u)(hd:Hd)(k:Fo)(hk:Fl w nk k ns.length)(qA:∀g,kv.ownBlock=some g->w.heap.size<=g)
  (JH:W.ownsRow X.base tI 1 kv (k.roots ns.length).length (bU (k.roots ns.length))) :
  Calls prog 144 #[rd X,tK ⟨hd,k.roots ns.length,kv⟩] W (RT X w ns v (bz hd k s1)):=by
 refine (AA h.at_ ⟨hd,k.roots ns.length,kv⟩ JH).mono fun e w' hr=>?_
 unfold RN at hr;unfold bz;split at hr
 ·rename_i h4;rw [if_pos h4];exact ⟨hr.1,h.low.trans hr.2⟩
 ·rename_i h4;rw [if_neg h4];obtain ⟨v2,he,hA,hK⟩:=hr;refine ⟨v2,nk ++ [⟨hd,k.roots ns.length,kv⟩],hd,k,rfl,?_,?_,h.kp.trans hK,?_⟩
  ·rw [he,List.length_append,bS hk]
  ·rw [<-List.append_assoc];exact hA
  ·exact ⟨by simp [Fo.one,Fo.flat,hk.eq,NV.nd],fun x hx g hg=>by
    rcases List.mem_append.1 hx with hx|hx
    ·exact hk.new x hx g hg
    ·simp at hx;subst hx;exact qA g hg⟩
theorem zh {X:Rdr}{w W:World}{s1:St}{ns nk:List NV}{v u kv:Value}(h:Cur X w v W s1 (ns ++ nk) u)(hd:Hd)(k:Fo)(hk:Fl w nk k ns.length)(qA:∀g,kv.ownBlock=some g->w.heap.size<=g)
  (JH:W.ownsRow X.base tI 1 kv (k.roots ns.length).length (bU (k.roots ns.length))) :
  Calls prog 144 #[rd X,tK ⟨hd,k.roots ns.length,kv⟩] W fun e w'=>RT X w ns v (bz hd k s1) e w'/\((∃no p,e=.panicked [{v:=.iface tF (fQ no p),recovered:=false}])∨∃(i:Nat) (u':Value),e=.returned (Iv i)/\Kp X W u w' u'):=by
 refine (AA h.at_ ⟨hd,k.roots ns.length,kv⟩ JH).mono fun e w' hr=>?_
 unfold RN at hr;unfold bz;split at hr
 ·rename_i h4;rw [if_pos h4];exact ⟨⟨hr.1,h.low.trans hr.2⟩,.inl ⟨_,_,hr.1⟩⟩
 ·rename_i h4;rw [if_neg h4];obtain ⟨v2,he,hA,hK⟩:=hr;refine ⟨⟨v2,nk ++ [⟨hd,k.roots ns.length,kv⟩],hd,k,rfl,?_,?_,h.kp.trans hK,?_⟩,.inr ⟨_,v2,he,hK⟩⟩
  ·rw [he,List.length_append,bS hk]
  ·rw [<-List.append_assoc];exact hA
  ·exact ⟨by simp [Fo.one,Fo.flat,hk.eq,NV.nd],fun x hx g hg=>by
    rcases List.mem_append.1 hx with hx|hx
    ·exact hk.new x hx g hg
    ·simp at hx;subst hx;exact qA g hg⟩
theorem ny {X:Rdr}{w W:World}{s1:St}{ns:List NV}{v u:Value}(h:Cur X w v W s1 ns u)(hd:Hd) :
  Calls prog 144 #[rd X,tK ⟨hd,[],Sn⟩] W (RT X w ns v (bz hd .nil s1)):=
 iD (nk:=[]) (by rw [List.append_nil];exact h) hd .nil (Fl.nil _ _) (fun g hg=>by cases hg) (World.ownsRow_nil _ _ _ _)
end
section
open Go.RowKit
theorem yE {X:Rdr}{w:World}{s:St}{ns:List NV}{v:Value}(h:At X w s ns v)(aD:s.l≠[]) :
  Calls prog 196 #[rd X] w (RT X w ns v (wX X.e s)):=by
 have hC:=Cur.start h;obtain ⟨M,hM⟩:=zN (wX X.e s);rw [hM];have HM:=Hy hM;go_enter func196,ntmps196;go_wp2_with fail;refine (gQ hC aD).mono ?_;rintro e w1 ⟨rfl,h1,k1⟩;have H1:=Hy h1;clear h hC h1 k1 hM;rw [aP];have hE:wX X.e s=bz ⟨1,(pk X.e s).p,(pk X.e s).n,[],0,if (pk X.e s).s=[76] then 2 else 1⟩ .nil s.nx:=rfl
 generalize pk X.e s=t at *;by_cases hL:t.s=[76]
 ·have hd:(t.s == [76])=true:=by simpa using hL
  rw [if_pos hL] at hE;have HE:=Hy hE;clear hE;go_wp2_with fail;refine (ny ((H1.alloc _).alloc _) ⟨1,t.p,t.n,[],0,2⟩).mono ?_;intro e w9 hR;have HR:=Hy hR;rcases hR.form with ⟨i,rfl⟩|⟨ch,rfl⟩
  ·clear hR;go_wp2_with fail;go_ret;rw [<-HM.out,HE.out];exact HR
  ·clear hR;go_wp2_with fail;refine ae rfl ?_;rw [<-HM.out,HE.out];exact HR
 ·have hd:(t.s == [76])=false:=by simpa using hL
  rw [if_neg hL] at hE;have HE:=Hy hE;clear hE;go_wp2_with fail;refine (ny ((H1.alloc _).alloc _) ⟨1,t.p,t.n,[],0,1⟩).mono ?_;intro e w9 hR;have HR:=Hy hR;rcases hR.form with ⟨i,rfl⟩|⟨ch,rfl⟩
  ·clear hR;go_wp2_with fail;go_ret;rw [<-HM.out,HE.out];exact HR
  ·clear hR;go_wp2_with fail;refine ae rfl ?_;rw [<-HM.out,HE.out];exact HR
def KEx (X:Rdr) (r:Md->St->Rs Fo):Prop:=∀(d:Nat) (w:World) (s:St) (ns:List NV) (v:Value),d<=100->At X w s ns v->r (.bin d 1) s≠.out->
 Calls prog 145 #[rd X,Iv d] w (RT X w ns v (r (.bin d 1) s))
def KOp (X:Rdr) (r:Md->St->Rs Fo):Prop:=∀(d:Nat) (w:World) (s:St) (ns:List NV) (v:Value),d<=100->At X w s ns v->r (.opd d) s≠.out->
 Calls prog 183 #[rd X,Iv d] w (RT X w ns v (r (.opd d) s))
def KBn (X:Rdr) (r:Md->St->Rs Fo):Prop:=∀(d l:Nat) (w:World) (s:St) (ns:List NV) (v:Value),d<=100->1<=l->l<=11->At X w s ns v->r (.bin d l) s≠.out->
 Calls prog 163 #[rd X,Iv d,Iv l] w (RT X w ns v (r (.bin d l) s))
def KSt (X:Rdr) (r:Md->St->Rs Fo):Prop:=∀(d:Nat) (w:World) (s:St) (ns:List NV) (v:Value),d<=100->At X w s ns v->r (.stm d) s≠.out->
 Calls prog 143 #[rd X,Iv d] w (RT X w ns v (r (.stm d) s))
def RA (X:Rdr) (w:World) (ns:List NV) (v:Value) (R:Rs Fo) (e:Ending) (w':World):Prop:=
 match R with
 | .ok a s=>∃v' nk g n cp,e=.returned (Sl g n cp)/\At X w' s (ns ++ nk) v'/\Kp X w v w' v'/\Fl w nk a ns.length/\w'.ownsRow X.base tI 1 (Sl g n cp) (a.roots ns.length).length (bU (a.roots ns.length))/\w.heap.size<=g/\∀x∈ns ++ nk,x.v.ownBlock≠some g
 | .er no p=>e=Pan no p/\Below X.base w w'
 | .out=>False
def KAr (X:Rdr) (r:Md->St->Rs Fo):Prop:=∀(d:Nat) (w:World) (s:St) (ns:List NV) (v:Value),d<=100->At X w s ns v->r (.args d) s≠.out->
 Calls prog 195 #[rd X,Iv d] w (RA X w ns v (r (.args d) s))
theorem Cur.ra {X:Rdr}{w W:World}{v u:Value}{s:St}{ns:List NV}{R:Rs Fo}{e:Ending}{w':World}(h:Cur X w v W s ns u)(hr:RA X W ns u R e w') :
  (∃no p,R=.er no p/\e=.panicked [{v:=.iface tF (fQ no p),recovered:=false}]/\Below X.base w w')∨
  (∃a s' v' nk g n cp,R=.ok a s'/\e=.returned (Sl g n cp)/\Cur X w v w' s' (ns ++ nk) v'/\Kp X W u w' v'/\Fl w nk a ns.length/\w'.ownsRow X.base tI 1 (Sl g n cp) (a.roots ns.length).length (bU (a.roots ns.length))/\W.heap.size<=g/\∀x∈ns ++ nk,x.v.ownBlock≠some g):=by
 cases R with
 |ok a s'=>obtain ⟨v',nk,g,n,cp,h2,h3,h4,h5,h6,h7⟩:=hr;exact .inr ⟨a,s',v',nk,g,n,cp,rfl,h2,h.step h3 h4,h4,h5.old h.kp.size,h6,h7⟩
 |er no p=>exact .inl ⟨no,p,rfl,hr.1,h.low.trans hr.2⟩
 |out=>exact hr.elim
theorem dD {α β:Type}{R:Rs α}{f:α->St->Rs β}(h:R.bind f≠.out):R≠.out:=fun e=>h (by rw [e];rfl)
theorem xL {X:Rdr}{r:Md->St->Rs Fo}(hA:KAr X r){w:World}{s:St}{ns:List NV}{v:Value}(h:At X w s ns v)(f:Tok)(d:Nat)(hd:d<=100)(hno:dY X.e r f d s≠.out) :
  Calls prog 182 #[rd X,iF f,Iv d] w (RT X w ns v (dY X.e r f d s)):=by
 have hC:=Cur.start h;obtain ⟨M,hM⟩:=zN (dY X.e r f d s);rw [hM];have HM:=Hy hM;have HO:=Hy hno;have hT:=(Cur.new hC tE (fJ f));have AR:=hC.alloc (.cells (fJ f) tE);have HX:=Hy2 AR hT;clear hM hno h hC AR hT;rw [aP];go_enter func182,ntmps182;go_wp2_with fail;refine (bI HX.1 (by simp) [40] (by simp)).mono ?_
 intro e w1 hR;rcases hR.cases with ⟨no,p,hm,rfl,hb⟩|⟨a1,s1,hm,rfl,AR,hK1⟩
 ·have HE:dY X.e r f d s=.er no p:=by simp only [dY,hm,Rs.bind,if_true,if_false,Bool.false_eq_true]
  have HH:=Hy2 HE hb;clear HE hb hm;go_wp2_with fail;refine ae rfl ?_;rw [<-HM.out,HH.1];exact ⟨rfl,HH.2⟩
 have E1:=Hy hm;have hT1:=HX.2.kept hK1;obtain ⟨t0,t1,t2,t3,tl⟩:=hT1.blk.tok;have hN1:=AR.new tN (aH ⟨⟨7,f.p,0,f.s,0,0⟩,[],Sn⟩).toArray;have HY:=Hy2 (AR.alloc (.cells (aH ⟨⟨7,f.p,0,f.s,0,0⟩,[],Sn⟩).toArray tN)) hN1;have IC:w.heap.size<=w1.heap.size:=AR.kp.size;clear hm AR hK1 hT1 hN1 HX hR;go_wp2_with fail;refine (EL HY.1 [41]).mono ?_;rintro e w2 ⟨rfl,qM,YH⟩;have Xd:=HY.2.kept YH;cases hq:isT X.e [41] s1
 ·have iA:r (.args d) s1≠.out:=by
   have:=HO.out;simp only [dY,E1.out,Rs.bind_ok,hq,Bool.false_eq_true,if_false] at this;exact dD this
  have Ps:=Hy Xd;clear YH Xd HY;go_wp2_with fail;refine (hA d w2 s1 ns v hd qM.at_ iA).mono ?_;intro e w3 hR;rcases qM.ra hR with ⟨no,p,hm,rfl,hb⟩|⟨a,s3,v3,nk,g,n,cp,hm,rfl,Ac,hK3,hF,JH,kH,-⟩
  ·have HE:dY X.e r f d s=.er no p:=by simp only [dY,E1.out,Rs.bind_ok,hq,Bool.false_eq_true,if_false,hm,Rs.aB]
   have HH:=Hy2 HE hb;clear HE hb hm;go_wp2_with fail;refine ae rfl ?_;rw [<-HM.out,HH.1];exact ⟨rfl,HH.2⟩
  have E3:=Hy hm;have hN3:=Ps.kept hK3;obtain ⟨-,-,-,-,-,n53,-,-,nl3,nf3⟩:=hN3.blk.node;have J3:=Ps.blk.lt;have QI:=Ac.af hN3 IC (by decide) 5 (Sl g n cp)
  have hN4:Loc X (w3.setCell (Ad w1.heap.size 5) (Sl g n cp)) v3 w1.heap.size tN (aH ⟨⟨7,f.p,0,f.s,0,0⟩,a.roots ns.length,Sl g n cp⟩).toArray:=hN3.af 5 (Sl g n cp);have hkv4:=aJ (w':=w3.setCell (Ad w1.heap.size 5) (Sl g n cp)) JH fun g' Ir=>Below.heap_setCell w3 _ _ g' (by simp [Value.ownBlock] at Ir;simp;omega)
  have HY:=Hy5 QI hN4 hkv4 hF (show ∀g',(Sl g n cp).ownBlock=some g'->w.heap.size<=g' from fun g' Ir=>by simp [Value.ownBlock] at Ir;omega)
  clear hm Ac hK3 hF JH kH hN3 qM hR iA Ps J3 QI hN4 hkv4;go_wp2_with fail;refine (bI HY.1 (by simp) [41] (by simp)).mono ?_
  intro e w4 hR;rcases hR.cases with ⟨no,p,hm,rfl,hb⟩|⟨a5,s5,hm,rfl,E9,ZL⟩
  ·have HE:dY X.e r f d s=.er no p:=by simp only [dY,E1.out,Rs.bind_ok,hq,Bool.false_eq_true,if_false,E3.out,hm,Rs.aB]
   have HH:=Hy2 HE hb;clear HE hb hm;go_wp2_with fail;refine ae rfl ?_;rw [<-HM.out,HH.1];exact ⟨rfl,HH.2⟩
  have hE:dY X.e r f d s=bz ⟨7,f.p,0,f.s,0,0⟩ a s5:=by simp only [dY,E1.out,Rs.bind_ok,hq,Bool.false_eq_true,if_false,E3.out,hm]
  have HE:=Hy hE;have hN5:=HY.2.1.kept ZL;have hkv5:=gH HY.1.at_ HY.2.2.1 ZL;obtain ⟨n0,n1,n2,n3,n4,n5,n6,n7,nl,-⟩:=hN5.blk.node;have HF:=Hy HY.2.2.2.1;have HG:=Hy HY.2.2.2.2;have HZ:=Hy2 E9 hkv5;clear hm E9 ZL hN5 hkv5 HY hR hE;go_wp2_with fail;refine (iD HZ.1 ⟨7,f.p,0,f.s,0,0⟩ a HF HG HZ.2).mono ?_;intro e Ng hR;have HR:=Hy hR;rcases hR.form with ⟨i,rfl⟩|⟨ch,rfl⟩
  ·clear hR;go_wp2_with fail;go_ret;rw [<-HM.out,HE.out];exact HR
  ·clear hR;go_wp2_with fail;refine ae rfl ?_;rw [<-HM.out,HE.out];exact HR
 ·have Ps:=Hy2 qM Xd;clear YH Xd HY qM;go_wp2_with fail;refine (bI Ps.1 (by simp) [41] (by simp)).mono ?_
  intro e w4 hR;rcases hR.cases with ⟨no,p,hm,rfl,hb⟩|⟨a5,s5,hm,rfl,E9,ZL⟩
  ·have HE:dY X.e r f d s=.er no p:=by simp only [dY,E1.out,Rs.bind_ok,hq,if_true,hm,Rs.aB]
   have HH:=Hy2 HE hb;clear HE hb hm;go_wp2_with fail;refine ae rfl ?_;rw [<-HM.out,HH.1];exact ⟨rfl,HH.2⟩
  have hE:dY X.e r f d s=bz ⟨7,f.p,0,f.s,0,0⟩ .nil s5:=by simp only [dY,E1.out,Rs.bind_ok,hq,if_true,hm]
  have HE:=Hy hE;have hN5:=Ps.2.kept ZL;obtain ⟨n0,n1,n2,n3,n4,n5,n6,n7,nl,-⟩:=hN5.blk.node;have HZ:=Hy E9;clear hm E9 ZL hN5 Ps hR hE;go_wp2_with fail;refine (ny HZ ⟨7,f.p,0,f.s,0,0⟩).mono ?_;intro e Ng hR;have HR:=Hy hR;rcases hR.form with ⟨i,rfl⟩|⟨ch,rfl⟩
  ·clear hR;go_wp2_with fail;go_ret;rw [<-HM.out,HE.out];exact HR
  ·clear hR;go_wp2_with fail;refine ae rfl ?_;rw [<-HM.out,HE.out];exact HR
end
section
open Go.RowKit
def KEl (X:Rdr) (r:Md->St->Rs Fo):Prop:=∀(f:Tok) (d:Nat) (w:World) (s:St) (ns:List NV) (v:Value),d<=100->At X w s ns v->dI X.e r f d s≠.out->
 Calls prog 201 #[rd X,iF f,Iv d] w (RT X w ns v (dI X.e r f d s))
theorem uw {X:Rdr}{r:Md->St->Rs Fo}(hA:KAr X r)(hL:KEl X r){w:World}{s:St}{ns:List NV}{v:Value}(h:At X w s ns v)(d:Nat)(hd:d<=40)(hno:mK X.e r d s≠.out) :
  Calls prog 197 #[rd X,Iv d] w (RT X w ns v (mK X.e r d s)):=by
 have hC:=Cur.start h;obtain ⟨M,hM⟩:=zN (mK X.e r d s);rw [hM];have HM:=Hy hM;have HO:=Hy hno;have C0:=Hy hC;clear hM h hC hno;go_enter func197,ntmps197;go_wp2_with fail;refine (pG C0.out).mono ?_;intro e w1 hR;rcases hR.cases with ⟨no,p,hm,rfl,hb⟩|⟨a1,s1,hm,rfl,hC,hK⟩
 ·have HE:mK X.e r d s=.er no p:=by simp only [mK,hm,zR]
  have HH:=Hy2 HE hb;clear HE hb hm;go_wp2_with fail;refine ae rfl ?_;rw [<-HM.out,HH.out.1];exact ⟨rfl,HH.out.2⟩
 have E1:=Hy hm;have C1:=Hy hC;clear hm hC hK hR;rw [aP];go_wp2_with fail;refine (jS (C1.out.alloc _)).mono ?_;rintro e w2 ⟨rfl,hC,hK⟩;have C2:=Hy hC;have N2:=Hy ((C1.out.new tE (fJ a1)).kept hK);clear hC hK;go_wp2_with fail;refine (kQ C2.out _).mono ?_;rintro e w3 ⟨rfl,hC,hK⟩;have C3:=Hy hC;have N3:=Hy ((N2.out).kept hK);obtain ⟨Vk,Vj,SK,QK,NK⟩:=(N3.out).blk.tok;clear hC hK;have ZH:((d:Int)+1)=((d+1:Nat):Int):=by simp
 have UJ:mK X.e r d s=if q (pk X.e s1)=[40] then dY X.e r a1 (d+1) s1 else if q (pk X.e s1)=[91] then dI X.e r a1 (d+1) s1 else bz ⟨2,a1.p,0,a1.s,0,0⟩ .nil s1:=by simp only [mK,E1.out,Rs.bind_ok]
 generalize pk X.e s1=t at *;have Ky:=Hy ZH;clear ZH;by_cases hq:q t=[40]
 ·rw [if_pos hq] at UJ;have HE:=Hy UJ;clear UJ;rw [hq];go_wp2_with fail;rw [Ky.out];rw [<-aP];refine (xL hA C3.out.at_ a1 (d+1) (by omega) (by have:=HO.out;rw [HE.out] at this;exact this)).mono ?_
  intro e Ng jB;have hR:RT X w ns v (dY X.e r a1 (d+1) s1) e Ng:=kw C3.out jB;have HR:=Hy hR;rcases hR.form with ⟨i,rfl⟩|⟨ch,rfl⟩
  ·clear hR;go_wp2_with fail;go_ret;rw [<-HM.out,HE.out];exact HR.out
  ·clear hR;go_wp2_with fail;refine ae rfl ?_;rw [<-HM.out,HE.out];exact HR.out
 by_cases hq2:q t=[91]
 ·rw [if_neg hq,if_pos hq2] at UJ;have HE:=Hy UJ;clear UJ;rw [hq2];go_wp2_with fail;rw [Ky.out];rw [<-aP];refine (hL a1 (d+1) w3 s1 ns v (by omega) C3.out.at_ (by have:=HO.out;rw [HE.out] at this;exact this)).mono ?_
  intro e Ng jB;have hR:RT X w ns v (dI X.e r a1 (d+1) s1) e Ng:=kw C3.out jB;have HR:=Hy hR;rcases hR.form with ⟨i,rfl⟩|⟨ch,rfl⟩
  ·clear hR;go_wp2_with fail;go_ret;rw [<-HM.out,HE.out];exact HR.out
  ·clear hR;go_wp2_with fail;refine ae rfl ?_;rw [<-HM.out,HE.out];exact HR.out
 rw [if_neg hq,if_neg hq2] at UJ;have HE:=Hy UJ;clear UJ;have hq3:(q t == [40])=false:=by simpa using hq
 have hq4:(q t == [91])=false:=by simpa using hq2
 go_wp2_with fail;refine (ny C3.out ⟨2,a1.p,0,a1.s,0,0⟩).mono ?_;intro e Ng hR;have HR:=Hy hR;rcases hR.form with ⟨i,rfl⟩|⟨ch,rfl⟩
 ·clear hR;go_wp2_with fail;go_ret;rw [<-HM.out,HE.out];exact HR.out
 ·clear hR;go_wp2_with fail;refine ae rfl ?_;rw [<-HM.out,HE.out];exact HR.out
end
end Go.Proofs.YtcchdlnfeijinaaGreatDoor
