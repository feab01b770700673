/- Paze to Pazg: Layer parse: a program. -/
import Derived.Test.YtcchdlnfeijinaaGreatDoorNan
import Derived.Deep.RegionLaw
import Derived.Deep.Cut
import Derived.Defers
import Derived.Recover
import Derived.Laws.Pointers
namespace Go.Proofs.YtcchdlnfeijinaaGreatDoor
open Go.Proofs.Tryz
set_option linter.unusedSimpArgs false
set_option linter.unusedVariables false
set_option maxHeartbeats 4000000
set_option maxRecDepth 100000
section
open Go.RowKit
abbrev tPg:TypeId:=27
def j5 (l:List Gl):List Value:=l.flatMap fun g=>(glA g).toList
def iM (l:List (Fn'×Value)):List Value:=l.flatMap fun x=>(fnA x.1 x.2 x.1.b).toList
theorem ve (l:List Gl)(x:Gl):j5 (l ++ [x])=j5 l ++ (glA x).toList:=by simp [j5]
theorem vz (l:List (Fn'×Value))(x:Fn'×Value):iM (l ++ [x])=iM l ++ (fnA x.1 x.2 x.1.b).toList:=by simp [iM]
theorem LQ:j6 tG:=by unfold j6;decide
theorem Iw:j6 tFn:=by unfold j6;decide
theorem MF:(prog.info? tG).map (fun i=>(i.zero,i.size,i.bytes))=some (some (.agg #[.string ⟨#[]⟩,Iv 0,Iv 0,Iv 0]),4,40):=by kernel_rfl
theorem KH:(prog.info? tFn).map (fun i=>(i.zero,i.size,i.bytes))=some (some (.agg #[.string ⟨#[]⟩,Iv 0,Sn,Iv 0,Iv 0,Sn]),6,88):=by kernel_rfl
structure PgS (X:Rdr) (w W:World) (pg:Pg) (gv fv:Value) (fl:List (Fn'×Value)):Prop where
 gs:iE X tG 4 w W gv pg.g.length (j5 pg.g)
 fs:iE X tFn 6 w W fv fl.length (iM fl)
 fe:fl.map (·.1)=pg.f
 ps:∀x∈fl,PmS X w W x.2 x.1.ps
section
variable {X:Rdr} {w W W':World} {v u u':Value} {s:St} {ns:List NV} {pg:Pg} {gv fv:Value} {fl:List (Fn'×Value)}
theorem PgS.nil (X:Rdr)(w W:World):PgS X w W ⟨[],[],.nil⟩ (Sn) (Sn) []:=⟨iE.nil _ _ _ _ _,iE.nil _ _ _ _ _,rfl,fun x h=>by cases h⟩
theorem PgS.kept (h:PgS X w W pg gv fv fl)(hA:At X W s ns u)(hk:Kp X W u W' u'):PgS X w W' pg gv fv fl:=
 ⟨h.gs.kept LQ hA hk,h.fs.kept Iw hA hk,h.fe,fun x hx=>(h.ps x hx).kept hA hk⟩
theorem PmS.go {pv:Value}{l:List Pm}(h:PmS X w W pv l)(hb:Zw W W'):PmS X w W' pv l:=
 h.imp id fun ⟨g,n,cp,h1,h2⟩=>⟨g,n,cp,h1,aJ h2.row fun i hi=>hb.block i (h2.row.lt i hi).2,h2.new⟩
theorem PgS.go (h:PgS X w W pg gv fv fl)(hb:Zw W W'):PgS X w W' pg gv fv fl:=
 ⟨h.gs.go hb,h.fs.go hb,h.fe,fun x hx=>(h.ps x hx).go hb⟩
theorem iE.away {T:TypeId}{sz n:Nat}{x:Value}{cs:List Value}(h:iE X T sz w W x n cs){j:Nat}{t:TypeId}{c:Array Value}(hl:W.heap[j]? =some (.cells c t (0,0)))(ht:t≠T):∀g,x.ownBlock=some g->g≠j:=fun g hg e=>by
 obtain ⟨-,-,c2,hb⟩:=h.blk hg;rw [e,hl] at hb;simp at hb;exact ht hb.2
theorem PmS.away {pv:Value}{l:List Pm}(h:PmS X w W pv l){j:Nat}{t:TypeId}{c:Array Value}(hl:W.heap[j]? =some (.cells c t (0,0)))(ht:t≠tP):∀g,pv.ownBlock=some g->g≠j:=fun g hg e=>by
 rcases h with ⟨_,hv⟩|⟨g',n,cp,hv,hA⟩
 ·rw [hv] at hg;cases hg
 ·rw [hv] at hg;simp [Value.ownBlock] at hg;obtain ⟨c2,hb⟩:=hA.blk;rw [hg,e,hl] at hb;simp at hb;exact ht hb.2
theorem PgS.af (h:PgS X w W pg gv fv fl){j:Nat}{c:Array Value}(hl:W.heap[j]? =some (.cells c tPg (0,0)))(o:Nat)(y:Value):PgS X w (W.setCell ⟨j,o,none⟩ y) pg gv fv fl:=
 ⟨h.gs.far (h.gs.away hl (by decide)) o y,h.fs.far (h.fs.away hl (by decide)) o y,h.fe,fun x hx=>(h.ps x hx).far ((h.ps x hx).away hl (by decide)) o y⟩
theorem PmS.grown {pv:Value}{l:List Pm}(h:PmS X w W pv l){r:Option Nat}(hg:W.grownBy W' r)(hr:∀i,pv.ownBlock=some i->r≠some i):PmS X w W' pv l:=
 h.imp id fun ⟨g,n,cp,h1,h2⟩=>⟨g,n,cp,h1,aJ h2.row fun i hi=>hg.block i (h2.row.lt i hi).2 (fun e=>hr i (by rw [h1];exact hi) e.symm),h2.new⟩
theorem PgS.IB {w1:World}{x:Gl}{g1 PM:Nat}(h:PgS X w W pg gv fv fl)(hC:Cur X w v W s ns u)
  (hr:w1.ownsRow X.base tG 4 (Sl g1 (pg.g.length+1) PM) (pg.g.length+1) (j5 pg.g ++ (glA x).toList)) (hg:(W.alloc (.cells (glA x) tG)).grownBy w1 gv.ownBlock) (kH:gv.ownBlock=some g1∨g1=W.heap.size+1) :
  Cur X w v w1 s ns u/\PgS X w w1 ⟨pg.g ++ [x],pg.f,pg.t⟩ (Sl g1 (pg.g.length+1) PM) fv fl:=by
 obtain ⟨h1,h2⟩:=h.gs.push LQ hC hr hg (by
  rcases kH with e|e
  ·exact .inl (by rw [e];rfl)
  ·exact .inr fun g e1=>by simp [Value.ownBlock] at e1;omega)
 have hb:Zw W (W.alloc (.cells (glA x) tG)):=(zB _ _).alloc (zL _) _;refine ⟨h1,⟨by rw [ve,List.length_append];exact h2,(h.fs.go hb).grown hg fun i hi e=>?_,h.fe,fun y hy=>((h.ps y hy).go hb).grown hg fun i hi e=>?_⟩⟩
 ·obtain ⟨-,-,c,hc⟩:=h.gs.blk e;exact (h.fs.away hc (by decide) i hi) rfl
 ·obtain ⟨-,-,c,hc⟩:=h.gs.blk e;exact ((h.ps y hy).away hc (by decide) i hi) rfl
theorem PgS.IC {w1:World}{x:Fn'}{pv:Value}{g1 PM:Nat}{t:Fo}(h:PgS X w W pg gv fv fl)(hC:Cur X w v W s ns u)(hp:PmS X w W pv x.ps)
  (hr:w1.ownsRow X.base tFn 6 (Sl g1 (fl.length+1) PM) (fl.length+1) (iM fl ++ (fnA x pv x.b).toList)) (hg:(W.alloc (.cells (fnA x pv x.b) tFn)).grownBy w1 fv.ownBlock) (kH:fv.ownBlock=some g1∨g1=W.heap.size+1) :
  Cur X w v w1 s ns u/\PgS X w w1 ⟨pg.g,pg.f ++ [x],t⟩ gv (Sl g1 (fl.length+1) PM) (fl ++ [(x,pv)]):=by
 obtain ⟨h1,h2⟩:=h.fs.push Iw hC hr hg (by
  rcases kH with e|e
  ·exact .inl (by rw [e];rfl)
  ·exact .inr fun g e1=>by simp [Value.ownBlock] at e1;omega)
 have hb:Zw W (W.alloc (.cells (fnA x pv x.b) tFn)):=(zB _ _).alloc (zL _) _;refine ⟨h1,⟨(h.gs.go hb).grown hg fun i hi e=>?_,by rw [vz,List.length_append];exact h2,by rw [List.map_append,h.fe];rfl,fun y hy=>?_⟩⟩
 ·obtain ⟨-,-,c,hc⟩:=h.fs.blk e;exact (h.gs.away hc (by decide) i hi) rfl
 ·rcases List.mem_append.1 hy with hy|hy
  ·refine ((h.ps y hy).go hb).grown hg fun i hi e=>?_
   obtain ⟨-,-,c,hc⟩:=h.fs.blk e;exact ((h.ps y hy).away hc (by decide) i hi) rfl
  ·simp at hy;subst hy;refine (hp.go hb).grown hg fun i hi e=>?_
   obtain ⟨-,-,c,hc⟩:=h.fs.blk e;exact (hp.away hc (by decide) i hi) rfl
end
theorem bJ {w:World}{base size n:Nat}{t:TypeId}{v:Value}{xs:List Value}(h:w.ownsRow base t size v n xs):∃A c,v=.slice A n c:=by
 rcases h.2 with ⟨hv,h0⟩|⟨g,cap,cur,hv,_⟩
 ·exact ⟨none,0,by rw [hv,h0]⟩
 ·exact ⟨_,_,hv⟩
theorem PgS.qm {X:Rdr}{w W:World}{pg:Pg}{gv fv:Value}{fl:List (Fn'×Value)}(h:PgS X w W pg gv fv fl){j:Nat}{c:Array Value}(hl:W.heap[j]? =some (.cells c tPg (0,0)))(cs:Array Value):PgS X w (W.setRow j cs) pg gv fv fl:=
 ⟨⟨aJ h.gs.row fun i hi=>setRow_other W j i cs (h.gs.away hl (by decide) i hi),h.gs.new⟩,⟨aJ h.fs.row fun i hi=>setRow_other W j i cs (h.fs.away hl (by decide) i hi),h.fs.new⟩,h.fe,fun x hx=>(h.ps x hx).qm ((h.ps x hx).away hl (by decide)) cs⟩
theorem Loc.grow {X:Rdr}{W W':World}{u:Value}{j:Nat}{t:TypeId}{cs:Array Value}{r:Option Nat}(h:Loc X W u j t cs)(hg:W.grownBy W' r)(aD:∀i,r=some i->i≠j):Loc X W' u j t cs:=
 ⟨(hg.block j h.blk.lt (fun e=>aD j e.symm rfl)).trans h.blk,h.neb,h.neo,h.base⟩
theorem PmS.old {X:Rdr}{w W0 W:World}{pv:Value}{l:List Pm}(h:PmS X W0 W pv l)(hs:w.heap.size<=W0.heap.size):PmS X w W pv l:=h.imp id fun ⟨g,n,cp,h1,h2⟩=>⟨g,n,cp,h1,h2.old hs⟩
theorem flat3 {w:World}{ns nk:List NV}{a b:Fo}(h:Fl w ns a 0)(k:Fl w nk b ns.length):Fl w (ns ++ nk) (a.app b) 0:=by
 refine qc h ?_;rw [bS h] at k
 simpa using k
theorem xz {X:Rdr}{w:World}{v:Value}{W:World}{ns:List NV}{u:Value}{R:Rs Gl}{e:Ending}{w':World}(h:RC X w v W ns u glV R e w') :
  (∃no p,R=.er no p/\e=.panicked [{v:=.iface tF (fQ no p),recovered:=false}]/\Below X.base w w')∨(∃x s',R=.ok x s'/\e=.returned (.agg #[Ss x.s,Iv x.ty,Iv x.n,Iv x.p])/\Cur X w v w' s' ns u/\Kp X W u w' u):=h.cases
theorem RFn.cases {X:Rdr}{w:World}{ns:List NV}{v:Value}{R:Rs (Fn'×Fo)}{e:Ending}{w':World}(h:RFn X w ns v R e w') :
  (∃no p,R=.er no p/\e=.panicked [{v:=.iface tF (fQ no p),recovered:=false}]/\Below X.base w w')∨
  (∃x t s' v' nk A n c,R=.ok (x,t) s'/\e=.returned (.agg #[Ss x.s,Iv x.ty,.slice A n c,Iv (x.b:Nat),Iv x.p,Sn])/\PmS X w w' (.slice A n c) x.ps/\At X w' s' (ns ++ nk) v'/\Kp X w v w' v'/\Fl w nk t ns.length):=by
 cases R with
 |ok x s'=>
  obtain ⟨v',nk,pv,h1,h2,h3,h4,h5⟩:=h;obtain ⟨A,n,c,rfl⟩:∃A n c,pv=.slice A n c:=by
   rcases h2 with ⟨_,hv⟩|⟨g,n,cp,hv,_⟩
   ·exact ⟨_,_,_,hv⟩
   ·exact ⟨_,_,_,hv⟩
  exact .inr ⟨x.1,x.2,s',v',nk,A,n,c,rfl,h1,h2,h3,h4,h5⟩
 |er no p=>exact .inl ⟨no,p,rfl,h⟩
 |out=>exact h.elim
def RPg (X:Rdr) (w:World) (v:Value) (R:Rs Pg) (e:Ending) (w':World):Prop:=
 match R with
 | .ok pg s=>∃u ns gv fv fl,e=.returned (.agg #[gv,fv,u])/\Cur X w v w' s ns u/\Fl w ns pg.t 0/\PgS X w w' pg gv fv fl
 | .er no p=>e=Pan no p/\Below X.base w w'
 | .out=>False
theorem ML (t:Tok)(w:World):(Instr.field tE (.agg #[Iv t.k,Iv t.p,Iv t.n,Ss t.s]) 0).run prog w=.ok (Iv t.k) w:=by
 kernel_rfl
theorem uN:(prog.info? tPg).map (·.size)=some 3:=by kernel_rfl
theorem JC {fn:Func}{R:Ending->World->Prop}{a:Act}{w:World}{b:Nat}{p:Nat}{x y z:Value}{T:TypeId}{fr:Nat×Nat}(hf:fn.results= #[.cell p tPg])(hd:a.defers=[])
  (h2:a.tmps.getD p undef=Pt b) (hb:w.heap[b]? =some (.cells #[x,y,z] T fr))
  (hR:R (.returned (.agg #[x,y,z])) w):bodyPost prog fn R .ret a w:=
 bodyPost_ret (v:=.agg #[x,y,z]) (results_cell_row hf _ _ b T _ fr _ h2 hb underlying27 rfl uN) hd hR
theorem wQ {X:Rdr}{es:Array MapEntry}{clock:Nat}(QD:X.mo=.map es clock)(Sr:es.toList=wF)(n:Nat){w:World}{s:St}(h:At X w s [] (Sn))(hfu:4 * s.l.length+5<=n) :
  Calls prog 44 #[rd X] w (RPg X w (Sn) (gD X.e n ⟨[],[],.nil⟩ s)):=by
 obtain ⟨ig,hig,hgz0,hgz1,hgz2⟩:=info_parts MF;obtain ⟨ifn,hif,hfz0,hfz1,hfz2⟩:=info_parts KH;have h0:=Cur.start h;have e1:(w.alloc (.cells #[Sn,Sn,Sn] tPg)).heap.size=w.heap.size+1:=by simp
 have R0:=Hy ((h0.new tPg #[Sn,Sn,Sn]).alloc (.cells #[Sn,Sn,Sn] tPg));have N0':=(h0.alloc (.cells #[Sn,Sn,Sn] tPg)).new tPg #[Sn,Sn,Sn];rw [e1] at N0';have N0:=Hy N0';have C0:=Hy ((h0.alloc (.cells #[Sn,Sn,Sn] tPg)).alloc (.cells #[Sn,Sn,Sn] tPg));obtain ⟨M,hM⟩:=zN (gD X.e n ⟨[],[],.nil⟩ s);rw [hM];have HM:=Hy hM;have PN:Hid (M≠.out):=Hy (by
  rw [<-hM];intro h';have:=tu h.fin n ⟨[],[],.nil⟩ s hfu;rw [h'] at this;exact this)
 have HF:=Hy h.fin;have HT:=Hy h.len;have uo:=fun t W=>ML t W
 clear hM h h0 e1 N0';go_enter func44,ntmps44;go_wp2_with fail;go_loopg [] n (fun g wx=>∃(pg:Pg) (s':St) (ns:List NV) (u gv fv:Value) (fl:List (Fn'×Value)),(g<=n/\4 * s'.l.length+5<=g)/\Cur X w (Sn) wx s' ns u/\Fl w ns pg.t 0/\PgS X w wx pg gv fv fl/\Loc X wx u (w.heap.size+1) tPg #[gv,fv,Sn]/\Loc X wx u w.heap.size tPg #[Sn,Sn,Sn]/\pg.g.length+fl.length+s'.l.length<=X.T.length/\M=gD X.e g pg s')
 case atStart=>exact ⟨⟨[],[],.nil⟩,s,[],_,_,_,[],⟨zL _,hfu⟩,C0.out,Fl.nil _ _,PgS.nil _ _ _,N0.out,R0.out,by have:=C0.out.at_.pos.2;simp;omega,HM.symm⟩
 case round=>
  obtain ⟨pg,s',ns,u,gv,fv,fl,hg,hC,hF,hP,hN,hR,hL,Kk⟩:=hrel;cases gk with
  |zero=>exact absurd Kk PN.out
  |succ j=>
  have DJ:M=if (pk X.e s').k=4 then .ok pg s' else (jM X.e j pg s').bind fun p s=>gD X.e j p s:=Kk
  have C1:=Hy hC;have F1:=Hy hF;have P1:=Hy hP;have N1:=Hy hN;have R1:=Hy hR;have Lx:=Hy DJ;have HL:=Hy hL;clear hC hF hP hN hR Kk DJ hL;go_wp2_with fail;refine (jS C1.out).mono ?_;rintro e w2 ⟨rfl,hC,hK⟩;have C2:=Hy hC;have P2:=Hy (P1.out.kept C1.out.at_ hK);have N2:=Hy (N1.out.kept hK);have R2:=Hy (R1.out.kept hK);clear hC hK P1 N1 R1;rw [aP];by_cases h4:(pk X.e s').k=4
  ·have d4:((pk X.e s').k != 4)=false:=by simpa using h4
   have HE:=Hy (show M=.ok pg s' by rw [Lx.out,if_pos h4])
   clear h4;obtain ⟨gA,gc,rfl⟩:=bJ P2.out.gs.row;obtain ⟨fA,fc,rfl⟩:=bJ P2.out.fs.row;obtain ⟨uA,uc,rfl⟩:=bJ C2.out.at_.rows;generalize qm:pg.g.length=gn at *;generalize ut:fl.length=fn at *;generalize TF:ns.length=un at *;have HL3:=Hy3 qm ut TF;clear qm ut TF;have SK:=N2.out.blk.cell 2;have Nf2:=N2.out.blk.frozen 2;have NK:=N2.out.blk.lt;have Qo:=C2.out.at_.blk.cell 6;simp only [fZ,List.getElem?_toArray,List.getElem?_cons_zero,List.getElem?_cons_succ] at SK Qo;have NR:=C2.out.at_.blk.lt;unfold rd;go_upto_region 9 with (fail);clear SK Nf2 NK Qo NR;have C5:=C2.out.af N2.out (by omega) (by decide) 2 (.slice uA un uc)
   have N5:Loc X (w2.setCell ⟨w.heap.size+1,2,none⟩ (.slice uA un uc)) (.slice uA un uc) (w.heap.size+1) tPg #[.slice gA gn gc,.slice fA fn fc,.slice uA un uc]:=N2.out.af 2 (.slice uA un uc);have R5:=(R2.out.far (i:=w.heap.size+1) (by omega) 2 (.slice uA un uc))
   have P5:=P2.out.af N2.out.blk 2 (.slice uA un uc);generalize w2.setCell ⟨w.heap.size+1,2,none⟩ (.slice uA un uc)=W5 at C5 N5 R5 P5 |-;have NB:=Hy N5.blk;have RB:=Hy R5.blk;have C9:=Hy (C5.qm R5 (zL _) (by decide) #[.slice gA gn gc,.slice fA fn fc,.slice uA un uc])
   have P9:=Hy (P5.qm R5.blk #[.slice gA gn gc,.slice fA fn fc,.slice uA un uc]);have Z5:=Hy (setRow_heap W5 w.heap.size _ #[.slice gA gn gc,.slice fA fn fc,.slice uA un uc] tPg (0,0) R5.blk);clear C5 N5 R5 P5;refine wp_region_list ?_;refine wpList_load_row rfl tPg _ rfl (w.heap.size+1) rfl tPg #[.slice gA gn gc,.slice fA fn fc,.slice uA un uc] (0,0) _ NB.out underlying27 rfl uN ?_;refine wpList_store_row rfl tPg _ _ rfl w.heap.size #[.slice gA gn gc,.slice fA fn fc,.slice uA un uc] rfl rfl tPg #[Sn,Sn,Sn] RB.out uN rfl (by simp [Value.oneCell']) ?_
   refine wpList_nil ?_;go_wp2_with fail;refine JC (b:=w.heap.size) (T:=tPg) (fr:=(0,0)) (x:=.slice gA gn gc) (y:=.slice fA fn fc) (z:=.slice uA un uc) rfl rfl rfl Z5.out ?_;rw [HE.out];exact ⟨_,ns,_,_,fl,rfl,C9.out,F1.out,P9.out⟩
  ·have d4:((pk X.e s').k != 4)=true:=by simpa using h4
   have HE:=Hy (show M=(jM X.e j pg s').bind fun p s=>gD X.e j p s by rw [Lx.out,if_neg h4])
   clear h4;go_wp2_with fail;refine (EK C2.out rfl 0 1 2 3).mono ?_;intro e w3 hR;rcases hR.cases with ⟨no,p,hm,rfl,hb⟩|⟨kind,s3,hm,rfl,hC,hK⟩
   ·have HH:=Hy2 (show M=.er no p by rw [HE.out];simp only [jM,hm,Rs.aB]) hb
    clear hm hb hR;go_wp2_with fail;refine ae rfl ?_;rw [HH.1];exact ⟨rfl,HH.2⟩
   have HI3:=Hy (show jM X.e j pg s'=(gF X.e s3).bind fun t s=>if kind=0∨(kind≠3/\isT X.e [40] s) then (bE X.e j kind t s).bind fun x s=>.ok ⟨pg.g,pg.f ++ [x.1],pg.t.app x.2⟩ s else (dW X.e kind t s).bind fun g s=>.ok ⟨pg.g ++ [g],pg.f,pg.t⟩ s by simp only [jM,hm,Rs.bind_ok])
   have C3:=Hy hC;have P3:=Hy (P2.out.kept C2.out.at_ hK);have N3:=Hy (N2.out.kept hK);have R3:=Hy (R2.out.kept hK);clear hm hC hK hR P2 N2 R2 C1;go_wp2_with fail;refine (pG C3.out).mono ?_;intro e w4 hR;rcases hR.cases with ⟨no,p,hm,rfl,hb⟩|⟨t,s4,hm,rfl,hC,hK⟩
   ·have HH:=Hy2 (show M=.er no p by rw [HE.out,HI3.out];simp only [hm,Rs.aB]) hb
    clear hm hb hR;go_wp2_with fail;refine ae rfl ?_;rw [HH.1];exact ⟨rfl,HH.2⟩
   have HI4:=Hy (show jM X.e j pg s'=if kind=0∨(kind≠3/\isT X.e [40] s4) then (bE X.e j kind t s4).bind fun x s=>.ok ⟨pg.g,pg.f ++ [x.1],pg.t.app x.2⟩ s else (dW X.e kind t s4).bind fun g s=>.ok ⟨pg.g ++ [g],pg.f,pg.t⟩ s by rw [HI3.out,hm];rfl)
   have T4:=Hy (hC.new tE #[Iv t.k,Iv t.p,Iv t.n,Ss t.s]);have C4:=Hy (hC.alloc (.cells #[Iv t.k,Iv t.p,Iv t.n,Ss t.s] tE));have P4:=Hy ((P3.out.kept C3.out.at_ hK).go ((Below.refl _ w4).alloc (zL _) (.cells #[Iv t.k,Iv t.p,Iv t.n,Ss t.s] tE)));have N4:=Hy ((N3.out.kept hK).alloc (.cells #[Iv t.k,Iv t.p,Iv t.n,Ss t.s] tE));have R4:=Hy ((R3.out.kept hK).alloc (.cells #[Iv t.k,Iv t.p,Iv t.n,Ss t.s] tE));have hbt:w.heap.size<=w4.heap.size:=hC.kp.size;clear hm hC hK hR P3 N3 R3 C3 HI3;rw [aP];by_cases hk0:kind=0
   ·have dk0:(kind == 0)=true:=by simpa using hk0
    have SX:=Hy hk0;clear hk0;go_upto_region 6 with (fail);generalize w4.alloc (.cells #[Iv t.k,Iv t.p,Iv t.n,Ss t.s] tE)=w5 at *;have Qx:=Hy (show jM X.e j pg s'=(bE X.e j kind t s4).bind fun x s=>.ok ⟨pg.g,pg.f ++ [x.1],pg.t.app x.2⟩ s by rw [HI4.out,if_pos (.inl SX.out)])
    have Uc:bE X.e j kind t s4≠.out:=fun h'=>PN.out (by rw [HE.out,Qx.out,h'];rfl)
    have UO:=Hy (fun (W:World) (hW:Below (w5).heap.size w5 W)=>(oz QD Sr j (C4.out.go hW).at_ kind t Uc).mono fun e w' hr=>hr.cases)
    have YV:=Hy (show ∀no p,bE X.e j kind t s4=.er no p->M=.er no p from fun no p hm=>by rw [HE.out,Qx.out,hm];rfl)
    have uM:fl.length<=2000000:=by have:=HL.out;have:=HT.out;omega
    obtain ⟨t0,t1,t2,t3,tl⟩:=T4.out.blk.tok;have YT:=N4.out.blk.cell 1;have Mf1:=N4.out.blk.frozen 1;have Ml:=N4.out.blk.lt;simp only [List.getElem?_toArray,List.getElem?_cons_zero,List.getElem?_cons_succ] at YT;clear Uc;go_wp2_with fail;go_region_law (first|(go_simp;go_at_call 83;refine (UO.out _ (by exact bd1 _)).mono ?_;intro e w6 hR;rcases hR with ⟨no,p,hm,rfl,hb⟩|⟨x,tr,s6,u6,nk,pA,pn,pc,hm,rfl,hPm,hA,hK,hF⟩;(refine ae rfl ?_;rw [YV.out no p hm];exact ⟨rfl,(C4.out.go (bd1 _)).low.trans hb⟩);have C6:=Hy ((C4.out.go (bd1 _)).step hA hK);have P6:=Hy ((P4.out.go (bd1 _)).kept (C4.out.go (bd1 _)).at_ hK);have N6:=Hy ((N4.out.go (bd1 _)).kept hK);have R6:=Hy ((R4.out.go (bd1 _)).kept hK);have M6:=Hy (hPm.old (w:=w) (C4.out.kp.size));have F6:=Hy (flat3 F1.out (hF.old (w:=w) (C4.out.kp.size)));have E6:=Hy hm;have Y0:=Hy (P6.out.fs.row.alloc (.cells (fnA x (.slice pA pn pc) x.b) tFn));have YO:=N6.out.blk.cell 1;have Pf1:=N6.out.blk.frozen 1;have Pl:=N6.out.blk.lt;simp only [List.getElem?_toArray,List.getElem?_cons_zero,List.getElem?_cons_succ] at YO;clear hm hPm hA hK hF)|(refine step_append_lies _ rfl (.tmp 26) (.tmp 31) 24 rfl X.base tFn ifn _ 6 88 underlying24 hif hfz0 hfz1 hfz2 rfl (by decide) fv fl.length (iM fl) (by simp [Act.eval,Act.put]) Y0.out ⟨w6.heap.size,0,none⟩ 1 1 (fnA x (.slice pA pn pc) x.b).toList (by simp [Act.eval,Act.put]) rfl (World.news_of_block (cs:=fnA x (.slice pA pn pc) x.b) (heap_alloc_new w6 _)) (by simp [fnA,Value.oneCell']) (by decide) (by unfold maxLen;omega) (by omega) (by have:=C6.out.at_.eu;simp;omega) (w6.heap.size+1) (by simp) ?_;intro g7 Mm w7 Tf Pj Ij X8;have hp:=P6.out.IC (t:=pg.t.app tr) C6.out M6.out Tf Pj Ij;have N7:=Hy ((N6.out.alloc (.cells (fnA x (.slice pA pn pc) x.b) tFn)).grow Pj (fun i hi=>P6.out.fs.away N6.out.blk (by decide) i hi));have R7:=Hy ((R6.out.alloc (.cells (fnA x (.slice pA pn pc) x.b) tFn)).grow Pj (fun i hi=>P6.out.fs.away R6.out.blk (by decide) i hi));have HP:=Hy hp;have YN:=N7.out.blk.cell 1;have Qf1:=N7.out.blk.frozen 1;have Ql:=N7.out.blk.lt;simp only [List.getElem?_toArray,List.getElem?_cons_zero,List.getElem?_cons_succ] at YN;clear hp Tf Pj Ij))
    all_goals
     have C8:=Hy (HP.1.af N7.out (Nat.le_succ _) (by decide) 1 (Sl g7 (fl.length+1) Mm))
     have P8:=Hy (HP.2.af N7.out.blk 1 (Sl g7 (fl.length+1) Mm));have N8:Hid (Loc X _ u6 (w.heap.size+1) tPg #[gv,Sl g7 (fl.length+1) Mm,Sn]):=Hy (N7.out.af 1 (Sl g7 (fl.length+1) Mm));have R8:=Hy (R7.out.far (i:=w.heap.size+1) (by omega) 1 (Sl g7 (fl.length+1) Mm))
     have Y6:Hid (M=gD X.e j ⟨pg.g,pg.f ++ [x],pg.t.app tr⟩ s6):=Hy (by rw [HE.out,Qx.out,E6.out];rfl)
     have hs6:s6.l.length+1<=s'.l.length:=by
      have h1:=jC HF.out j pg s' (by have:=hg.2;omega)
      rw [Qx.out,E6.out] at h1;exact h1
     have Y9:Hid (pg.g.length+(fl ++ [(x,Value.slice pA pn pc)]).length+s6.l.length<=X.T.length):=Hy (by have:=HL.out;rw [List.length_append];simp;omega)
     go_wp2_with fail;go_roundg j
     case measure=>omega
     case rel=>exact ⟨⟨pg.g,pg.f ++ [x],pg.t.app tr⟩,s6,ns ++ nk,u6,gv,Sl g7 (fl.length+1) Mm,fl ++ [(x,.slice pA pn pc)],⟨by omega,by omega⟩,C8.out,F6.out,P8.out,N8.out,R8.out,Y9.out,Y6.out⟩
   ·have dk0:(kind == 0)=false:=by simpa using hk0
    by_cases hk3:kind=3
    ·have dk3:(kind != 3)=false:=by simpa using hk3
     have HK:=Hy2 hk0 hk3;clear hk0 hk3;go_upto_region 7 with (fail);generalize w4.alloc (.cells #[Iv t.k,Iv t.p,Iv t.n,Ss t.s] tE)=w5 at *;have Qx:=Hy (show jM X.e j pg s'=(dW X.e kind t s4).bind fun g s=>.ok ⟨pg.g ++ [g],pg.f,pg.t⟩ s by rw [HI4.out,if_neg (fun h=>h.elim (fun h=>HK.1 h) fun h=>h.1 HK.2)])
     have UO:=Hy (fun (W:World) (hW:Below (w5).heap.size w5 W)=>(rG (C4.out.go hW) kind t).mono fun e w' hr=>xz hr)
     have YV:=Hy (show ∀no p,dW X.e kind t s4=.er no p->M=.er no p from fun no p hm=>by rw [HE.out,Qx.out,hm];rfl)
     have uM:pg.g.length<=2000000:=by have:=HL.out;have:=HT.out;omega
     obtain ⟨t0,t1,t2,t3,tl⟩:=T4.out.blk.tok;have YT:=N4.out.blk.cell 0;have Mf1:=N4.out.blk.frozen 0;have Ml:=N4.out.blk.lt;simp only [List.getElem?_toArray,List.getElem?_cons_zero,List.getElem?_cons_succ] at YT;go_wp2_with fail;go_region_law (first|(go_simp;go_at_call 84;refine (UO.out _ (by exact bd1 _)).mono ?_;intro e w6 hR;rcases hR with ⟨no,p,hm,rfl,hb⟩|⟨x,s6,hm,rfl,hC,hK⟩;(refine ae rfl ?_;rw [YV.out no p hm];exact ⟨rfl,hb⟩);have C6:=Hy hC;have P6:=Hy ((P4.out.go (bd1 _)).kept (C4.out.go (bd1 _)).at_ hK);have N6:=Hy ((N4.out.go (bd1 _)).kept hK);have R6:=Hy ((R4.out.go (bd1 _)).kept hK);have E6:=Hy hm;have Y0:=Hy (P6.out.gs.row.alloc (.cells (glA x) tG));have YO:=N6.out.blk.cell 0;have Pf1:=N6.out.blk.frozen 0;have Pl:=N6.out.blk.lt;simp only [List.getElem?_toArray,List.getElem?_cons_zero,List.getElem?_cons_succ] at YO;clear hm hC hK)|(refine step_append_lies _ rfl (.tmp 35) (.tmp 40) 23 rfl X.base tG ig _ 4 40 underlying23 hig hgz0 hgz1 hgz2 rfl (by decide) gv pg.g.length (j5 pg.g) (by simp [Act.eval,Act.put]) Y0.out ⟨w6.heap.size,0,none⟩ 1 1 (glA x).toList (by simp [Act.eval,Act.put]) rfl (World.news_of_block (cs:=glA x) (heap_alloc_new w6 _)) (by simp [glA,Value.oneCell']) (by decide) (by unfold maxLen;omega) (by omega) (by have:=C6.out.at_.eu;simp;omega) (w6.heap.size+1) (by simp) ?_;intro g7 Mm w7 Tf Pj Ij X8;have hp:=P6.out.IB C6.out Tf Pj Ij;have N7:=Hy ((N6.out.alloc (.cells (glA x) tG)).grow Pj (fun i hi=>P6.out.gs.away N6.out.blk (by decide) i hi));have R7:=Hy ((R6.out.alloc (.cells (glA x) tG)).grow Pj (fun i hi=>P6.out.gs.away R6.out.blk (by decide) i hi));have HP:=Hy hp;have YN:=N7.out.blk.cell 0;have Qf1:=N7.out.blk.frozen 0;have Ql:=N7.out.blk.lt;simp only [List.getElem?_toArray,List.getElem?_cons_zero,List.getElem?_cons_succ] at YN;clear hp Tf Pj Ij))
     all_goals
      have C8:=Hy (HP.1.af N7.out (Nat.le_succ _) (by decide) 0 (Sl g7 (pg.g.length+1) Mm))
      have P8:=Hy (HP.2.af N7.out.blk 0 (Sl g7 (pg.g.length+1) Mm));have N8:Hid (Loc X _ u (w.heap.size+1) tPg #[Sl g7 (pg.g.length+1) Mm,fv,Sn]):=Hy (N7.out.af 0 (Sl g7 (pg.g.length+1) Mm));have R8:=Hy (R7.out.far (i:=w.heap.size+1) (by omega) 0 (Sl g7 (pg.g.length+1) Mm))
      have Y6:Hid (M=gD X.e j ⟨pg.g ++ [x],pg.f,pg.t⟩ s6):=Hy (by rw [HE.out,Qx.out,E6.out];rfl)
      have hs6:s6.l.length+1<=s'.l.length:=by
       have h1:=jC HF.out j pg s' (by have:=hg.2;omega)
       rw [Qx.out,E6.out] at h1;exact h1
      have Y9:Hid ((pg.g ++ [x]).length+fl.length+s6.l.length<=X.T.length):=Hy (by have:=HL.out;rw [List.length_append];simp;omega)
      go_wp2_with fail;go_roundg j
      case measure=>omega
      case rel=>exact ⟨⟨pg.g ++ [x],pg.f,pg.t⟩,s6,ns,u,Sl g7 (pg.g.length+1) Mm,fv,fl,⟨by omega,by omega⟩,C8.out,F1.out,P8.out,N8.out,R8.out,Y9.out,Y6.out⟩
    ·have dk3:(kind != 3)=true:=by simpa using hk3
     have HK:=Hy2 hk0 hk3;clear hk0 hk3;go_wp2_with fail;refine (EL C4.out [40]).mono ?_;rintro e w5 ⟨rfl,hC,hK⟩;have C5:=Hy hC;have P5:=Hy (P4.out.kept C4.out.at_ hK);have N5:=Hy (N4.out.kept hK);have R5:=Hy (R4.out.kept hK);have T5:=Hy (T4.out.kept hK);clear hC hK P4 N4 R4 T4 C4;cases hq:isT X.e [40] s4
     ·have HQ:=Hy hq;clear hq;have Qx:=Hy (show jM X.e j pg s'=(dW X.e kind t s4).bind fun g s=>.ok ⟨pg.g ++ [g],pg.f,pg.t⟩ s by rw [HI4.out,if_neg (fun h=>h.elim (fun h=>HK.1 h) fun h=>by rw [HQ.out] at h;exact absurd h.2 (by decide))])
      have UO:=Hy (fun (W:World) (hW:Below (w5).heap.size w5 W)=>(rG (C5.out.go hW) kind t).mono fun e w' hr=>xz hr)
      have YV:=Hy (show ∀no p,dW X.e kind t s4=.er no p->M=.er no p from fun no p hm=>by rw [HE.out,Qx.out,hm];rfl)
      have uM:pg.g.length<=2000000:=by have:=HL.out;have:=HT.out;omega
      obtain ⟨t0,t1,t2,t3,tl⟩:=T5.out.blk.tok;have YT:=N5.out.blk.cell 0;have Mf1:=N5.out.blk.frozen 0;have Ml:=N5.out.blk.lt;simp only [List.getElem?_toArray,List.getElem?_cons_zero,List.getElem?_cons_succ] at YT;go_wp2_with fail;go_region_law (first|(go_simp;go_at_call 84;refine (UO.out _ (by exact bd1 _)).mono ?_;intro e w6 hR;rcases hR with ⟨no,p,hm,rfl,hb⟩|⟨x,s6,hm,rfl,hC,hK⟩;(refine ae rfl ?_;rw [YV.out no p hm];exact ⟨rfl,hb⟩);have C6:=Hy hC;have P6:=Hy ((P5.out.go (bd1 _)).kept (C5.out.go (bd1 _)).at_ hK);have N6:=Hy ((N5.out.go (bd1 _)).kept hK);have R6:=Hy ((R5.out.go (bd1 _)).kept hK);have E6:=Hy hm;have Y0:=Hy (P6.out.gs.row.alloc (.cells (glA x) tG));have YO:=N6.out.blk.cell 0;have Pf1:=N6.out.blk.frozen 0;have Pl:=N6.out.blk.lt;simp only [List.getElem?_toArray,List.getElem?_cons_zero,List.getElem?_cons_succ] at YO;clear hm hC hK)|(refine step_append_lies _ rfl (.tmp 35) (.tmp 40) 23 rfl X.base tG ig _ 4 40 underlying23 hig hgz0 hgz1 hgz2 rfl (by decide) gv pg.g.length (j5 pg.g) (by simp [Act.eval,Act.put]) Y0.out ⟨w6.heap.size,0,none⟩ 1 1 (glA x).toList (by simp [Act.eval,Act.put]) rfl (World.news_of_block (cs:=glA x) (heap_alloc_new w6 _)) (by simp [glA,Value.oneCell']) (by decide) (by unfold maxLen;omega) (by omega) (by have:=C6.out.at_.eu;simp;omega) (w6.heap.size+1) (by simp) ?_;intro g7 Mm w7 Tf Pj Ij X8;have hp:=P6.out.IB C6.out Tf Pj Ij;have N7:=Hy ((N6.out.alloc (.cells (glA x) tG)).grow Pj (fun i hi=>P6.out.gs.away N6.out.blk (by decide) i hi));have R7:=Hy ((R6.out.alloc (.cells (glA x) tG)).grow Pj (fun i hi=>P6.out.gs.away R6.out.blk (by decide) i hi));have HP:=Hy hp;have YN:=N7.out.blk.cell 0;have Qf1:=N7.out.blk.frozen 0;have Ql:=N7.out.blk.lt;simp only [List.getElem?_toArray,List.getElem?_cons_zero,List.getElem?_cons_succ] at YN;clear hp Tf Pj Ij))
      all_goals
       have C8:=Hy (HP.1.af N7.out (Nat.le_succ _) (by decide) 0 (Sl g7 (pg.g.length+1) Mm))
       have P8:=Hy (HP.2.af N7.out.blk 0 (Sl g7 (pg.g.length+1) Mm));have N8:Hid (Loc X _ u (w.heap.size+1) tPg #[Sl g7 (pg.g.length+1) Mm,fv,Sn]):=Hy (N7.out.af 0 (Sl g7 (pg.g.length+1) Mm));have R8:=Hy (R7.out.far (i:=w.heap.size+1) (by omega) 0 (Sl g7 (pg.g.length+1) Mm))
       have Y6:Hid (M=gD X.e j ⟨pg.g ++ [x],pg.f,pg.t⟩ s6):=Hy (by rw [HE.out,Qx.out,E6.out];rfl)
       have hs6:s6.l.length+1<=s'.l.length:=by
        have h1:=jC HF.out j pg s' (by have:=hg.2;omega)
        rw [Qx.out,E6.out] at h1;exact h1
       have Y9:Hid ((pg.g ++ [x]).length+fl.length+s6.l.length<=X.T.length):=Hy (by have:=HL.out;rw [List.length_append];simp;omega)
       go_wp2_with fail;go_roundg j
       case measure=>omega
       case rel=>exact ⟨⟨pg.g ++ [x],pg.f,pg.t⟩,s6,ns,u,Sl g7 (pg.g.length+1) Mm,fv,fl,⟨by omega,by omega⟩,C8.out,F1.out,P8.out,N8.out,R8.out,Y9.out,Y6.out⟩
     ·have HQ:=Hy hq;clear hq;have Qx:=Hy (show jM X.e j pg s'=(bE X.e j kind t s4).bind fun x s=>.ok ⟨pg.g,pg.f ++ [x.1],pg.t.app x.2⟩ s by rw [HI4.out,if_pos (.inr ⟨HK.2,HQ.out⟩)])
      have Uc:bE X.e j kind t s4≠.out:=fun h'=>PN.out (by rw [HE.out,Qx.out,h'];rfl)
      have UO:=Hy (fun (W:World) (hW:Below (w5).heap.size w5 W)=>(oz QD Sr j (C5.out.go hW).at_ kind t Uc).mono fun e w' hr=>hr.cases)
      have YV:=Hy (show ∀no p,bE X.e j kind t s4=.er no p->M=.er no p from fun no p hm=>by rw [HE.out,Qx.out,hm];rfl)
      have uM:fl.length<=2000000:=by have:=HL.out;have:=HT.out;omega
      obtain ⟨t0,t1,t2,t3,tl⟩:=T5.out.blk.tok;have YT:=N5.out.blk.cell 1;have Mf1:=N5.out.blk.frozen 1;have Ml:=N5.out.blk.lt;simp only [List.getElem?_toArray,List.getElem?_cons_zero,List.getElem?_cons_succ] at YT;clear Uc;go_wp2_with fail;go_region_law (first|(go_simp;go_at_call 83;refine (UO.out _ (by exact bd1 _)).mono ?_;intro e w6 hR;rcases hR with ⟨no,p,hm,rfl,hb⟩|⟨x,tr,s6,u6,nk,pA,pn,pc,hm,rfl,hPm,hA,hK,hF⟩;(refine ae rfl ?_;rw [YV.out no p hm];exact ⟨rfl,(C5.out.go (bd1 _)).low.trans hb⟩);have C6:=Hy ((C5.out.go (bd1 _)).step hA hK);have P6:=Hy ((P5.out.go (bd1 _)).kept (C5.out.go (bd1 _)).at_ hK);have N6:=Hy ((N5.out.go (bd1 _)).kept hK);have R6:=Hy ((R5.out.go (bd1 _)).kept hK);have M6:=Hy (hPm.old (w:=w) (C5.out.kp.size));have F6:=Hy (flat3 F1.out (hF.old (w:=w) (C5.out.kp.size)));have E6:=Hy hm;have Y0:=Hy (P6.out.fs.row.alloc (.cells (fnA x (.slice pA pn pc) x.b) tFn));have YO:=N6.out.blk.cell 1;have Pf1:=N6.out.blk.frozen 1;have Pl:=N6.out.blk.lt;simp only [List.getElem?_toArray,List.getElem?_cons_zero,List.getElem?_cons_succ] at YO;clear hm hPm hA hK hF)|(refine step_append_lies _ rfl (.tmp 26) (.tmp 31) 24 rfl X.base tFn ifn _ 6 88 underlying24 hif hfz0 hfz1 hfz2 rfl (by decide) fv fl.length (iM fl) (by simp [Act.eval,Act.put]) Y0.out ⟨w6.heap.size,0,none⟩ 1 1 (fnA x (.slice pA pn pc) x.b).toList (by simp [Act.eval,Act.put]) rfl (World.news_of_block (cs:=fnA x (.slice pA pn pc) x.b) (heap_alloc_new w6 _)) (by simp [fnA,Value.oneCell']) (by decide) (by unfold maxLen;omega) (by omega) (by have:=C6.out.at_.eu;simp;omega) (w6.heap.size+1) (by simp) ?_;intro g7 Mm w7 Tf Pj Ij X8;have hp:=P6.out.IC (t:=pg.t.app tr) C6.out M6.out Tf Pj Ij;have N7:=Hy ((N6.out.alloc (.cells (fnA x (.slice pA pn pc) x.b) tFn)).grow Pj (fun i hi=>P6.out.fs.away N6.out.blk (by decide) i hi));have R7:=Hy ((R6.out.alloc (.cells (fnA x (.slice pA pn pc) x.b) tFn)).grow Pj (fun i hi=>P6.out.fs.away R6.out.blk (by decide) i hi));have HP:=Hy hp;have YN:=N7.out.blk.cell 1;have Qf1:=N7.out.blk.frozen 1;have Ql:=N7.out.blk.lt;simp only [List.getElem?_toArray,List.getElem?_cons_zero,List.getElem?_cons_succ] at YN;clear hp Tf Pj Ij))
      all_goals
       have C8:=Hy (HP.1.af N7.out (Nat.le_succ _) (by decide) 1 (Sl g7 (fl.length+1) Mm))
       have P8:=Hy (HP.2.af N7.out.blk 1 (Sl g7 (fl.length+1) Mm));have N8:Hid (Loc X _ u6 (w.heap.size+1) tPg #[gv,Sl g7 (fl.length+1) Mm,Sn]):=Hy (N7.out.af 1 (Sl g7 (fl.length+1) Mm));have R8:=Hy (R7.out.far (i:=w.heap.size+1) (by omega) 1 (Sl g7 (fl.length+1) Mm))
       have Y6:Hid (M=gD X.e j ⟨pg.g,pg.f ++ [x],pg.t.app tr⟩ s6):=Hy (by rw [HE.out,Qx.out,E6.out];rfl)
       have hs6:s6.l.length+1<=s'.l.length:=by
        have h1:=jC HF.out j pg s' (by have:=hg.2;omega)
        rw [Qx.out,E6.out] at h1;exact h1
       have Y9:Hid (pg.g.length+(fl ++ [(x,Value.slice pA pn pc)]).length+s6.l.length<=X.T.length):=Hy (by have:=HL.out;rw [List.length_append];simp;omega)
       go_wp2_with fail;go_roundg j
       case measure=>omega
       case rel=>exact ⟨⟨pg.g,pg.f ++ [x],pg.t.app tr⟩,s6,ns ++ nk,u6,gv,Sl g7 (fl.length+1) Mm,fl ++ [(x,.slice pA pn pc)],⟨by omega,by omega⟩,C8.out,F6.out,P8.out,N8.out,R8.out,Y9.out,Y6.out⟩
end
section
open Go.RowKit Go.MapKept
theorem iQ (w:World)(es:Array MapEntry)(clock:Nat)(s:List UInt8)(v:Value)(hf:Instr.findNow .string (Ss s) es.toList 0=some none) :
  (Instr.mapUpdate tM (.map (some w.heap.size)) (Ss s) v).run prog (w.alloc (.map es clock))=.ok () (w.alloc (.map (es.push ⟨Ss s,v,clock⟩) (clock+1))):=by
 have hb:(w.alloc (.map es clock)).heap[w.heap.size]? =some (.map es clock):=heap_alloc_new w _;have hc:(Instr.checkKey false 10000 9 (Ss s)).run prog (w.alloc (.map es clock))=.ok () (w.alloc (.map es clock)):=run_checkKey (k:=Ss s) underlying9 (by simp [IsKey]) false 9999
 have hw:∀o:Obj,{w.alloc (.map es clock) with heap:=(w.alloc (.map es clock)).heap.setIfInBounds w.heap.size o}=w.alloc o:=fun o=>by
  have e:(w.heap.push (.map es clock)).setIfInBounds w.heap.size o=w.heap.push o:=by
   apply Array.ext';simp [List.set_append]
  show {w.alloc (.map es clock) with heap:=(w.heap.push (.map es clock)).setIfInBounds w.heap.size o}={w with heap:=w.heap.push o}
  rw [e]
  rfl
 simp [Instr.mapUpdate,run_underlying underlying124,MapKept.run_getObj_map hb,hc,run_findKey underlying9 hf,MapKept.run_setObj_map _ hb,Result.andThen];exact hw _
def fnc (f:Nat):Value:=.func (.func f) #[] #[]
def es1:Array MapEntry:=#[⟨.string (str [123]),fnc 109,0⟩]
def es2:Array MapEntry:=es1.push ⟨Ss lQ,fnc 110,1⟩
def es3:Array MapEntry:=es2.push ⟨Ss iO,fnc 110,2⟩
def es4:Array MapEntry:=es3.push ⟨Ss wIf,fnc 111,3⟩
def es5:Array MapEntry:=es4.push ⟨Ss gP,fnc 112,4⟩
def es6:Array MapEntry:=es5.push ⟨Ss jF,fnc 113,5⟩
def es7:Array MapEntry:=es6.push ⟨Ss dS,fnc 114,6⟩
def es8:Array MapEntry:=es7.push ⟨Ss mU,fnc 115,7⟩
theorem EC:es8.toList=wF:=rfl
theorem qL (w:World):Calls prog 76 #[] w fun e w'=>e=.returned (.map (some w.heap.size))/\w'=w.alloc (.map es8 8):=by
 have GA:=@run_makeMap prog;have u1:=iQ w #[] 0 [123] (fnc 109) rfl;have u2:=iQ w es1 1 lQ (fnc 110) rfl;have u3:=iQ w es2 2 iO (fnc 110) rfl;have u4:=iQ w es3 3 wIf (fnc 111) rfl;have u5:=iQ w es4 4 gP (fnc 112) rfl;have u6:=iQ w es5 5 jF (fnc 113) rfl;have u7:=iQ w es6 6 dS (fnc 114) rfl;have u8:=iQ w es7 7 mU (fnc 115) rfl
 change _=Result.ok () (w.alloc (.map es1 1)) at u1
 change _=Result.ok () (w.alloc (.map es2 2)) at u2
 change _=Result.ok () (w.alloc (.map es3 3)) at u3
 change _=Result.ok () (w.alloc (.map es4 4)) at u4
 change _=Result.ok () (w.alloc (.map es5 5)) at u5
 change _=Result.ok () (w.alloc (.map es6 6)) at u6
 change _=Result.ok () (w.alloc (.map es7 7)) at u7
 change _=Result.ok () (w.alloc (.map es8 8)) at u8
 generalize es8=e8 at *;generalize es7=e7 at *;generalize es6=e6 at *;generalize es5=e5 at *;generalize es4=e4 at *;generalize es3=e3 at *;generalize es2=e2 at *;generalize es1=e1 at *;simp only [fnc,str,lQ,iO,wIf,gP,jF,dS,mU] at u1 u2 u3 u4 u5 u6 u7 u8;go_enter func76,ntmps76;go_wp2;go_ret;exact ⟨rfl,rfl⟩
theorem ug (t:Tok)(w:World):Calls prog 78 #[iF t] w fun e w'=>e=.returned (.bool (decide (t.k=4)))/\Zw w w':=by
 rw [aP];go_enter func78,ntmps78;go_wp2;go_ret;exact ⟨ik (by rw [Bool.eq_iff_iff];simp),(Below.refl _ w).alloc (zL _) _⟩
def Lr (toks:List Tok) (w:World) (e:Ending) (w':World):Prop:=
 Zw w w'/\((∃i:Nat,∃h:i<toks.length,e=.returned (Iv i)/\(toks[i]).k=4/\∀t∈toks.take i,t.k≠4)∨(e=.returned (Iv (-1))/\∀t∈toks,t.k≠4))
theorem Ed (toks:List Tok)(m c:Nat)(hm:toks.length=m)(GZ:m<=2000000)(A:Option Addr)(B:Nat)(w:World)(hB:B<=w.heap.size)(hr:RdT w B A toks) :
  Calls prog 77 #[.slice A m c,.func (.func 78) #[] #[]] w (Lr toks w):=by
 have HM:=Hy hm;have HR:=Hy hr;clear hm hr;go_enter func77,ntmps77;go_wp2_with fail;go_loopw [8] (fun x wr=>∃k:Nat,k<=m/\x=Iv k/\Zw w wr/\∀t∈toks.take k,t.k≠4) (fun x _=>m - (intOf x).toNat)
 case atStart=>exact ⟨0,by omega,rfl,zB _ _,by simp⟩
 case round=>
  obtain ⟨k,hk,rfl,hb,hno⟩:=hrel;have HB:=Hy hb;have I5:=Hy hno;have QE:=HM.out;by_cases hlt:k<m
  ·obtain ⟨g,o,rfl,hg,x0,x1,x2,x3⟩:=(HR.below (hb.mono hB)).at_ (by omega:k<toks.length)
   have hts:toks.take (k+1)=toks.take k ++ [toks[k]'(by omega)]:=List.take_succ_eq_append_getElem (by omega)
   have kH:g<wr.heap.size:=by have:=hb.size;omega
   have hT:toks[k]? =some (toks[k]'(by omega)):=zE _
   generalize toks[k]'(by omega)=t at *
   have HTS:=Hy2 hts hT;clear hts hT hb hno QE;by_cases h4:t.k=4
   ·have d4:decide (t.k=4)=true:=by simpa using h4
    have H4:=Hy h4;clear h4;go_wp2_with fail;refine (ug t _).mono ?_;rw [d4];rintro e w2 ⟨rfl,aU⟩;have Nc:=Hy (HB.trans (aU.mono HB.size));clear aU;go_wp2_with fail;go_ret;exact ⟨Nc,.inl ⟨k,by rw [HM.out];exact hlt,rfl,by have:=HTS.2;rw [List.getElem?_eq_getElem (by rw [HM.out];exact hlt)] at this;rw [Option.some.inj this];exact H4,I5⟩⟩
   ·have d4:decide (t.k=4)=false:=by simpa using h4
    have H4:=Hy h4;clear h4;go_wp2_with fail;refine (ug t _).mono ?_;rw [d4];rintro e w2 ⟨rfl,aU⟩;have Nc:=Hy (HB.trans (aU.mono HB.size));clear aU;go_wp2_with fail;go_roundw
    case rel=>exact ⟨k+1,by omega,by go_num,Nc,fun x hx=>by rw [HTS.1] at hx;rcases List.mem_append.1 hx with hx|hx;exact I5 x hx;simp at hx;rw [hx];exact H4⟩
    case measure=>simp [intOf];omega
  ·obtain rfl:k=m:=by omega
   have Zv:∀t∈toks,t.k≠4:=by rw [<-HM.out,List.take_length] at hno;exact hno
   have HNX:=Hy Zv;clear Zv hno hb QE;go_wp2_with fail;go_ret;exact ⟨HB,.inr ⟨rfl,HNX⟩⟩
theorem Bi {toks:List Tok}{i:Nat}(h:i<toks.length)(h4:(toks[i]).k=4)(hno:∀t∈toks.take i,t.k≠4):lJ toks=toks.take i/\lL toks=toks[i]:=by
 have e:toks=toks.take i ++ toks[i] ::toks.drop (i+1):=by rw [<-List.drop_eq_getElem_cons h,List.take_append_drop]
 constructor
 ·unfold lJ
  conv=>lhs;rw [e]
  rw [List.takeWhile_append_of_pos (by simpa using hno),List.takeWhile_cons_of_neg (by simp [h4]),List.append_nil]
 ·unfold lL
  conv=>lhs;rw [e]
  rw [List.find?_append,List.find?_eq_none.2 (by simpa using hno),List.find?_cons_of_pos (by simp [h4])]
  rfl
theorem Bj {toks:List Tok}(hno:∀t∈toks,t.k≠4):lJ toks=toks/\lL toks=⟨4,(toks.getLast?.map (·.p)).getD 0,0,[]⟩:=by
 constructor
 ·unfold lJ
  induction toks with
  |nil=>rfl
  |cons t l ih=>rw [List.takeWhile_cons_of_pos (by simpa using hno t (by simp)),ih (fun x hx=>hno x (List.mem_cons_of_mem _ hx))]
 ·unfold lL;rw [List.find?_eq_none.2 (by simpa using hno)];rfl
def MW (toks:List Tok) (base:Nat) (w:World) (e:Ending) (w':World):Prop:=
 ∃X:Rdr,e=.returned (rd X)/\At X w' ⟨lJ toks,0⟩ [] (Sn)/\Zw w w'/\X.T=lJ toks/\X.e=lL toks/\X.base=base/\X.mo=.map es8 8/\w.heap.size<=X.b
theorem At.first {X:Rdr}{W:World}(hb:Blk W X.b tR (fZ X 0 (Sn)))(hl:X.T.length<=2000000)(ht:RdT W X.base X.A X.T)(PW:∀t∈X.T,t.s.length<=140737488355328)(hf:X.e.k=4)(hB:X.base<=X.b)(hE:ku W)(hz:gY<X.base)
  (hm:W.heap[X.mb]? =some X.mo) (QD:X.mo=.map es8 8):At X W ⟨X.T,0⟩ [] (Sn) where
 blk:=by simpa using hb
 suf:=List.suffix_refl _
 len:=hl
 toks:=ht
 txt:=PW
 fin:=hf
 cnt:=rfl
 max:=Nat.zero_le _
 rows:=World.ownsRow_nil _ _ _ _
 kids:=fun x hx=>by cases hx
 hb:=hB
 env:=hE
 szE:=hz
 mph:=hm
 mpc:=by rw [QD];rfl
theorem uR {toks:List Tok}{m c:Nat}{A:Option Addr}{base:Nat}{w W:World}{cs:Array Value}(hb:Blk W (w.heap.size+1) tR cs)
  (Ez:cs= #[.slice A (lJ toks).length c,Iv (lL toks).k,Iv (lL toks).p,Iv (lL toks).n,.string (str (lL toks).s),Iv 0,Sn,.map (some w.heap.size)])
  (bW:Zw w W) (hmp:W.heap[w.heap.size]? =some (.map es8 8)) (hf:(lL toks).k=4) (XR:lJ toks <+:toks)
  (GZ:toks.length<=2000000) (hB:base<=w.heap.size) (hr:RdT w base A toks) (PW:∀t∈toks,t.s.length<=140737488355328) (hE:ku w) (sQ:gY<base) :
  MW toks base w (.returned (Pt (w.heap.size+1))) W:=by
 obtain ⟨r,Ie⟩:=XR;refine ⟨⟨w.heap.size+1,A,c,lJ toks,lL toks,base,w.heap.size,.map es8 8⟩,rfl,?_,bW,rfl,rfl,rfl,rfl,Nat.le_succ _⟩;refine At.first (X:=⟨w.heap.size+1,A,c,lJ toks,lL toks,base,w.heap.size,.map es8 8⟩) ?_ ?_ ?_ ?_ hf (by simp;omega) (hE.below bW (zL _)) sQ hmp rfl
 ·rw [Ez] at hb;exact hb
 ·have:=congrArg List.length Ie;simp at this;simp;omega
 ·have h1:=hr.below (bW.mono hB);rw [<-Ie] at h1;exact h1.take
 ·intro t ht;exact PW t (by rw [<-Ie];exact List.mem_append_left _ ht)
theorem sF (toks:List Tok)(m c:Nat)(hm:toks.length=m)(GZ:m<=2000000)(hmc:m<=c)(PI:c<=maxLen)(A:Option Addr)(base:Nat)(w:World)(hB:base<=w.heap.size)(hr:RdT w base A toks)(hA:A=none->c=0)(PW:∀t∈toks,t.s.length<=140737488355328)(hE:ku w)(sQ:gY<base) :
  Calls prog 43 #[.slice A m c] w (MW toks base w):=by
 have HM:=Hy hm;have HR:=Hy hr;have HTX:=Hy PW;have HE:=Hy hE;clear hm hr PW hE;go_enter func43,ntmps43;go_wp2_with fail;refine (qL _).mono ?_;rintro e w1 ⟨rfl,rfl⟩;go_wp2_with fail;have IB:Zw w ((w.alloc (.map es8 8)).alloc (.cells #[.slice A m c,Iv 4,Iv 0,Iv 0,.string ⟨#[]⟩,Iv 0,Sn,.map (some w.heap.size)] tR)):=((zB _ _).alloc (zL _) _).alloc (by simp) _
 refine (Ed toks m c HM GZ A base _ (by simp;omega) (HR.below (IB.mono hB))).mono ?_
 rintro e w2 ⟨aU,h⟩;have hmp:w2.heap[w.heap.size]? =some (.map es8 8):=(aU.block _ (by simp;omega)).trans (by rw [heap_alloc_old _ _ (h:=by simp)];exact heap_alloc_new w _)
 have MN:Blk w2 (w.heap.size+1) tR #[.slice A m c,Iv 4,Iv 0,Iv 0,.string ⟨#[]⟩,Iv 0,Sn,.map (some w.heap.size)]:=by
  have h1:=heap_alloc_new (w.alloc (.map es8 8)) (.cells #[.slice A m c,Iv 4,Iv 0,Iv 0,.string ⟨#[]⟩,Iv 0,Sn,.map (some w.heap.size)] tR);have e1:(w.alloc (.map es8 8)).heap.size=w.heap.size+1:=by simp
  rw [e1] at h1;exact (aU.block _ (by simp)).trans h1
 have bW:Zw w w2:=IB.trans (aU.mono (by simp;omega))
 have GN:w.heap.size+1<w2.heap.size:=MN.lt;have c0:w2.cell? (Ad (w.heap.size+1) 0)=_:=MN.cell 0;have c1:w2.cell? (Ad (w.heap.size+1) 1)=_:=MN.cell 1;have c2:w2.cell? (Ad (w.heap.size+1) 2)=_:=MN.cell 2;have c3:w2.cell? (Ad (w.heap.size+1) 3)=_:=MN.cell 3;have c4:w2.cell? (Ad (w.heap.size+1) 4)=_:=MN.cell 4;simp only [List.getElem?_toArray,List.getElem?_cons_zero,List.getElem?_cons_succ] at c0 c1 c2 c3 c4;have f0:=MN.frozen 0;have f1:=MN.frozen 1;have f2:=MN.frozen 2;have f3:=MN.frozen 3;have f4:=MN.frozen 4;have HBK:=Hy MN;have Cb:=Hy bW;have HMP:=Hy hmp;clear IB aU MN bW hmp;rcases h with ⟨i,hi,rfl,h4,hno⟩|⟨rfl,hno⟩
 ·obtain ⟨MG,MC⟩:=Bi hi h4 hno;have QE:=HM.out;obtain ⟨g,o,rfl,hg,x0,x1,x2,x3⟩:=(HR.below (Cb.mono hB)).at_ hi;have him:i<m:=by omega
  have kH:g<w2.heap.size:=by omega
  have qm:g≠w.heap.size+1:=by omega
  have hT:toks[i]? =some (toks[i]'hi):=zE _;generalize toks[i]'hi=t at *;have HT:=Hy5 hT MG MC h4 hno;clear hT MG MC h4 hno QE;have hic:(i:Int)<=(c:Int):=by omega
  go_wp2_with fail;go_region;all_goals
   go_wp2
   go_ret;obtain ⟨hT,MG,MC,h4,hno⟩:=HT;refine uR (m:=m) (c:=c) (((((HBK.af 0 (.slice (some (Ad g o)) i c)).af 1 (Iv t.k)).af 2 (Iv t.p)).af 3 (Iv t.n)).af 4 (Ss t.s)) ?_ ?_ ?_ (by rw [MC];exact h4) (by rw [MG];exact List.take_prefix _ _) (by rw [HM.out];exact GZ) hB HR HTX HE sQ
   ·rw [MG,MC,List.length_take,Nat.min_eq_left (by omega)];rfl
   ·exact Cb.trans (((((((zB _ _).setCell (p:=(Ad (w.heap.size+1) 0)) (by simp) _).setCell (p:=(Ad (w.heap.size+1) 1)) (by simp) _).setCell (p:=(Ad (w.heap.size+1) 2)) (by simp) _).setCell (p:=(Ad (w.heap.size+1) 3)) (by simp) _).setCell (p:=(Ad (w.heap.size+1) 4)) (by simp) _).drew)
   ·have hk:∀(W:World) (j:Nat) (x:Value),(W.setCell (Ad (w.heap.size+1) j) x).heap[w.heap.size]? =W.heap[w.heap.size]?:=fun W j x=>Below.heap_setCell _ _ _ _ (by simp)
    exact (((((hk _ _ _).trans (hk _ _ _)).trans (hk _ _ _)).trans (hk _ _ _)).trans (hk _ _ _)).trans HMP
 ·obtain ⟨MG,MC⟩:=Bj hno;have Qv:=Hy2 MG MC;clear MG MC hno;rcases List.eq_nil_or_concat toks with h0|⟨l,t,hl⟩
  ·have Uh:m=0:=by rw [<-HM.out,h0];rfl
   subst Uh;have H0:=Hy h0;clear h0;go_wp2_with fail;go_ret;refine uR (m:=0) (c:=c) HBK ?_ Cb HMP (by rw [Qv.2]) (by rw [Qv.1];exact List.prefix_refl _) (by rw [HM.out];exact GZ) hB HR HTX HE sQ
   rw [Qv.1,Qv.2,H0.out];rfl
  ·have hmp:0<m:=by rw [<-HM.out,hl];simp
   have Qh:m - 1<toks.length:=by have:=HM.out;omega
   obtain ⟨g,o,rfl,hg,x0,x1,x2,x3⟩:=(HR.below (Cb.mono hB)).at_ Qh;have kH:g<w2.heap.size:=by omega
   have qm:g≠w.heap.size+1:=by omega
   have hT:toks[m - 1]'Qh=t:=by
    have e:toks[m - 1]? =some t:=by
     rw [hl,<-HM.out,hl];simp
    rw [List.getElem?_eq_getElem Qh] at e;exact Option.some.inj e
   rw [hT] at x1;have HT:=Hy hl;clear hl hT x0 x2 x3;obtain ⟨n,rfl⟩:∃n,m=n+1:=⟨m - 1,by omega⟩
   clear Qh;simp only [Nat.add_sub_cancel] at x1;have KQ:(((n+1:Nat):Int) - 1)=(n:Int):=by omega
   go_wp2_with fail;go_ret;refine uR (m:=n+1) (c:=c) (HBK.af 2 (Iv t.p)) ?_ ?_ ?_ (by rw [Qv.2]) (by rw [Qv.1];exact List.prefix_refl _) (by rw [HM.out];exact GZ) hB HR HTX HE sQ
   ·rw [Qv.1,Qv.2,HM.out];have:(toks.getLast?.map (·.p)).getD 0=t.p:=by rw [HT.out];simp
    rw [this];rfl
   ·exact Cb.trans ((zB _ _).setCell (p:=(Ad (w.heap.size+1) 2)) (by simp) _)
   ·exact (Below.heap_setCell _ _ _ _ (by simp)).trans HMP
end
section
open Go.RowKit
theorem EQ (no p:Int)(w:World):(Instr.typeAssert (.iface tF (.agg #[Iv no,Iv p])) 20 tF true).run prog w=.ok (.tuple #[.agg #[Iv no,Iv p],.bool true]) w:=by kernel_rfl
theorem Im (w:World):(Instr.typeAssert .nilIface 20 tF true).run prog w=.ok (.tuple #[.agg #[Iv 0,Iv 0],.bool false]) w:=by kernel_rfl
theorem xJ (b:Nat)(no p:Int)(w:World)(hb:Blk w b tD #[Iv 0,Iv 0]) :
  CallsD prog 42 #[Pt b] (.panicking [{v:=.iface tF (fQ no p),recovered:=false}]) w fun e u' w'=>
   e=.returned (.tuple #[])/\u'=.panicking [{v:=.iface tF (fQ no p),recovered:=true}]/\w'=((w.alloc (.cells #[Iv no,Iv p] tF)).setCell (Ad b 0) (Iv no)).setCell (Ad b 1) (Iv p):=by
 have hf:=EQ no p;have HB:=Hy hb;have JO:fQ no p=.agg #[Iv no,Iv p]:=rfl;rw [JO];clear hb JO;refine callsD_of_wpS func42 rfl fun c₀ cs hu=>?_
 apply wpS_seq;apply wpS_region;simp [wpOpsS,go_sem,recoverD,hu,ntmps42,Exit.thenS,hf];apply wpS_seq;apply wpS_region;simp [wpOpsS,go_sem,Exit.thenS];refine wpS_cond (t:=true) (by simp [Act.eval]) ?_
 simp only [if_true];apply wpS_region;have PK:Blk (w.alloc (.cells #[Iv no,Iv p] tF)) b tD #[Iv 0,Iv 0]:=HB.alloc _;have hnW:=heap_alloc_new w (.cells #[Iv no,Iv p] tF);have hnB:Blk (w.alloc (.cells #[Iv no,Iv p] tF)) w.heap.size tF #[Iv no,Iv p]:=hnW;generalize w.alloc (.cells #[Iv no,Iv p] tF)=W at *;have c0:Ce W b 0 (Iv 0):=PK.cell 0;have c1:Ce W b 1 (Iv 0):=PK.cell 1;have f0:=PK.frozen 0;have f1:=PK.frozen 1;have n0:Ce W w.heap.size 0 (Iv no):=hnB.cell 0;have n1:Ce W w.heap.size 1 (Iv p):=hnB.cell 1;have d1:(W.setCell (Ad b 0) (Iv no)).cell? (Ad b 1)=some (Iv 0):=(PK.af 0 _).cell 1;have g1:=(PK.af 0 (Iv no)).frozen 1;simp [wpOpsS,go_sem,c0,c1,f0,f1,n0,n1,d1,g1];cases c₀
 simp_all [bodyPostS,results,Tryz.results42]
theorem ze (b:Nat)(w:World) :
  CallsD prog 42 #[Pt b] .returning w fun e u' w'=>e=.returned (.tuple #[])/\u'=.returning/\w'=w.alloc (.cells #[Iv 0,Iv 0] tF):=by
 have hf:=Im;refine callsD_of_wpS func42 rfl fun c₀ cs hu=>?_
 apply wpS_seq;apply wpS_region;simp [wpOpsS,go_sem,recoverD,hu,ntmps42,Exit.thenS,hf];refine wpS_of_wp ?_;go_wp2;cases c₀
 simp_all [bodyPostS,results,Tryz.results42]
end
section
open Go.RowKit
structure PgM (B:Nat) (w:World) (pg:Pg) (gv fv nv:Value) (fl:List (Fn'×Value)) (ns:List NV):Prop where
 gs:w.ownsRow B tG 4 gv pg.g.length (j5 pg.g)
 fs:w.ownsRow B tFn 6 fv fl.length (iM fl)
 fe:fl.map (·.1)=pg.f
 ps:∀x∈fl,∃n,w.ownsRow B tP 2 x.2 n (jq x.1.ps)
 nl:ns.map NV.nd=pg.t.flat 0
 nm:ns.length<=4000
 rows:w.ownsRow B tN 8 nv ns.length (lF ns)
 kids:∀x∈ns,w.ownsRow B tI 1 x.v x.kids.length (bU x.kids)
theorem PgM.keep {B:Nat}{w w':World}{pg:Pg}{gv fv nv:Value}{fl:List (Fn'×Value)}{ns:List NV}(h:PgM B w pg gv fv nv fl ns)(hk:∀i,B<=i->i<w.heap.size->w'.heap[i]? =w.heap[i]?):PgM B w' pg gv fv nv fl ns:=
  ⟨aJ h.gs fun i hi=>hk i (h.gs.lt i hi).1 (h.gs.lt i hi).2,aJ h.fs fun i hi=>hk i (h.fs.lt i hi).1 (h.fs.lt i hi).2,h.fe,fun x hx=>let ⟨n,hr⟩:=h.ps x hx;⟨n,aJ hr fun i hi=>hk i (hr.lt i hi).1 (hr.lt i hi).2⟩,h.nl,h.nm,
   aJ h.rows fun i hi=>hk i (h.rows.lt i hi).1 (h.rows.lt i hi).2,fun x hx=>aJ (h.kids x hx) fun i hi=>hk i ((h.kids x hx).lt i hi).1 ((h.kids x hx).lt i hi).2⟩
theorem PgM.of {X:Rdr}{w w':World}{s:St}{pg:Pg}{gv fv u v:Value}{fl:List (Fn'×Value)}{ns:List NV}(hC:Cur X w v w' s ns u)(hF:Fl w ns pg.t 0)(hP:PgS X w w' pg gv fv fl):PgM X.base w' pg gv fv u fl ns where
 gs:=hP.gs.row
 fs:=hP.fs.row
 fe:=hP.fe
 ps:=fun x hx=>by
  rcases hP.ps x hx with ⟨h1,h2⟩|⟨g,n,cp,h1,h2⟩
  ·exact ⟨0,by rw [h1,h2];exact World.ownsRow_nil _ _ _ _⟩
  ·exact ⟨n,by rw [h1];exact h2.row⟩
 nl:=hF.eq
 nm:=by have:=hC.at_.cnt;have:=hC.at_.max;omega
 rows:=hC.at_.rows
 kids:=hC.at_.kids
theorem lU {w:World}{base base' size n:Nat}{t:TypeId}{v:Value}{xs:List Value}(h:w.ownsRow base t size v n xs)(hb:base'<=base):w.ownsRow base' t size v n xs:=
 ⟨h.1,h.2.imp id fun ⟨g,cap,cur,h1,h2,h3⟩=>⟨g,cap,cur,h1,Nat.le_trans hb h2,h3⟩⟩
theorem PgM.down {B B':Nat}{w:World}{pg:Pg}{gv fv nv:Value}{fl:List (Fn'×Value)}{ns:List NV}(h:PgM B w pg gv fv nv fl ns)(hb:B'<=B):PgM B' w pg gv fv nv fl ns:=
 ⟨lU h.gs hb,lU h.fs hb,h.fe,fun x hx=>let ⟨n,hr⟩:=h.ps x hx;⟨n,lU hr hb⟩,h.nl,h.nm,lU h.rows hb,fun x hx=>lU (h.kids x hx) hb⟩
def MV (toks:List Tok) (w:World) (e:Ending) (w':World):Prop:=
 Zw w w'/\match eO toks with
 | .ok pg s=>∃gv fv nv fl ns,e=.returned (.tuple #[.agg #[gv,fv,nv],.agg #[Iv 0,Iv 0]])/\PgM w.heap.size w' pg gv fv nv fl ns
 | .er no p=>e=.returned (.tuple #[.agg #[Sn,Sn,Sn],.agg #[Iv no,Iv p]])
 | .out=>False
theorem tC (toks:List Tok)(m c:Nat)(hm:toks.length=m)(GZ:m<=2000000)(hmc:m<=c)(PI:c<=maxLen)(A:Option Addr)(hA:A=none->c=0)(w:World)(hr:RdT w w.heap.size A toks)(PW:∀t∈toks,t.s.length<=140737488355328)(hE:ku w) :
  Calls prog 18 #[.slice A m c] w (MV toks w):=by
 have Qg:∀(fn:Fn) (first cap:Array Value) (w:World),(Instr.makeFunc fn first cap).run prog w=.ok (.func fn first cap) w:=fun _ _ _ _=>rfl
 have HM:=Hy hm;have HTX:=Hy PW;have IB:Zw w ((w.alloc (.cells #[Sn,Sn,Sn] tPg)).alloc (.cells #[Iv 0,Iv 0] tD)):=((zB _ _).alloc (zL _) _).alloc (by simp) _
 have Zg:=Hy IB;have HR:=Hy (hr.below IB);have HE:=Hy (hE.below IB (zL _));have YX:=Hy hE.szY;have b0:Blk ((w.alloc (.cells #[Sn,Sn,Sn] tPg)).alloc (.cells #[Iv 0,Iv 0] tD)) w.heap.size tPg #[Sn,Sn,Sn]:=(Blk.new w tPg _).alloc _;have b1:=Blk.new (w.alloc (.cells #[Sn,Sn,Sn] tPg)) tD #[Iv 0,Iv 0];have e1:(w.alloc (.cells #[Sn,Sn,Sn] tPg)).heap.size=w.heap.size+1:=by simp
 rw [e1] at b1;have B0:=Hy b0;have B1:=Hy b1;clear hm hr PW hE IB b0 b1 e1;go_enter_defers func18,ntmps18;go_wp2_with fail;refine (sF toks m c HM GZ hmc PI A (w.heap.size+2) _ (by simp) (HR.more (by omega)) hA HTX HE (by have:=YX.out;omega)).mono ?_
 rintro e w1 ⟨X,rfl,hA1,av,hT,hEe,mF,QD,NR⟩;have hfu:4 * (lJ toks).length+5<=oC toks:=by
  have:=(List.takeWhile_sublist (l:=toks) fun t=>decide (t.k≠4)).length_le
  unfold oC lJ;omega
 have h9:=wQ QD EC (oC toks) hA1 hfu;have hPL:gD X.e (oC toks) ⟨[],[],.nil⟩ ⟨lJ toks,0⟩=eO toks:=by rw [hEe];rfl
 rw [hPL] at h9;have H9:=Hy h9;have HX:=Hy4 av mF NR hA1;clear h9 hPL hfu hT hEe QD hA1 av;go_wp2_with fail;refine H9.mono ?_;intro e w2 hR;have av:Below (w.heap.size+2) ((w.alloc (.cells #[Sn,Sn,Sn] tPg)).alloc (.cells #[Iv 0,Iv 0] tD)) w1:=HX.1.mono (by simp)
 have Qi:eO toks≠.out->Below (w.heap.size+2) w1 w2:=fun _=>by
  rw [<-mF];cases h:eO toks with
  |ok pg s=>rw [h] at hR;obtain ⟨u,ns,gv,fv,fl,-,hC,-⟩:=hR;exact hC.low
  |er no p=>rw [h] at hR;exact hR.2
  |out=>rw [h] at hR;exact hR.elim
 have OE:=av.trans (Qi (mY toks));have b0:Blk w2 w.heap.size tPg #[Sn,Sn,Sn]:=(OE.block _ (by omega)).trans B0.out
 have b1:Blk w2 (w.heap.size+1) tD #[Iv 0,Iv 0]:=(OE.block _ (by omega)).trans B1.out
 have bW:Zw w w2:=Zg.trans (OE.mono (by omega))
 have B0':=Hy b0;have B1':=Hy b1;have Cb:=Hy bW;clear av Qi OE bW B0 B1;cases hP:eO toks with
 |out=>exact absurd hP (mY toks)
 |er no p=>
  rw [hP] at hR;obtain ⟨rfl,-⟩:=hR;have HP:=Hy hP;clear hP b0 b1 mF NR;unfold Pan;refine leaves_cons (f:=42) (args:=#[Pt (w.heap.size+1)]) (by simp) (by simp [go_sem]) ?_
  refine (xJ (w.heap.size+1) no p _ B1'.out).mono ?_;rintro e u' w'' ⟨rfl,rfl,rfl⟩;have r0:Blk (((w2.alloc (.cells #[Iv no,Iv p] tF)).setCell (Ad (w.heap.size+1) 0) (Iv no)).setCell (Ad (w.heap.size+1) 1) (Iv p)) w.heap.size tPg #[Sn,Sn,Sn]:=((B0'.out.alloc _).far (p:=(Ad (w.heap.size+1) 0)) (by simp) _).far (p:=(Ad (w.heap.size+1) 1)) (by simp) _
  have r1:Blk (((w2.alloc (.cells #[Iv no,Iv p] tF)).setCell (Ad (w.heap.size+1) 0) (Iv no)).setCell (Ad (w.heap.size+1) 1) (Iv p)) (w.heap.size+1) tD #[Iv no,Iv p]:=((B1'.out.alloc _).af 0 _).af 1 _;have eu:Zw w (((w2.alloc (.cells #[Iv no,Iv p] tF)).setCell (Ad (w.heap.size+1) 0) (Iv no)).setCell (Ad (w.heap.size+1) 1) (Iv p)):=((Cb.alloc Cb.size _).setCell (p:=(Ad (w.heap.size+1) 0)) (by simp) _).setCell (p:=(Ad (w.heap.size+1) 1)) (by simp) _
  generalize ((w2.alloc (.cells #[Iv no,Iv p] tF)).setCell (Ad (w.heap.size+1) 0) (Iv no)).setCell (Ad (w.heap.size+1) 1) (Iv p)=W3 at *;have q0:Ce W3 w.heap.size 0 (Sn):=r0.cell 0;have q1:Ce W3 w.heap.size 1 (Sn):=r0.cell 1;have q2:Ce W3 w.heap.size 2 (Sn):=r0.cell 2;have d0:Ce W3 (w.heap.size+1) 0 (Iv no):=r1.cell 0;have d1:Ce W3 (w.heap.size+1) 1 (Iv p):=r1.cell 1;simp [Leaves,settle,results,Tryz.results18,go_sem,q0,q1,q2,d0,d1];refine ⟨eu,?_⟩;rw [HP.out]
 |ok pg s=>
  rw [hP] at hR;obtain ⟨u,ns,gv,fv,fl,rfl,hC,hF,hPg⟩:=hR;have HP:=Hy hP;obtain ⟨gA,gc,rfl⟩:=bJ hPg.gs.row;obtain ⟨fA,fc,rfl⟩:=bJ hPg.fs.row;obtain ⟨uA,uc,rfl⟩:=bJ hC.at_.rows;have hM:=(PgM.of hC hF hPg);rw [mF] at hM;have Yx:w.heap.size+1<X.base:=by rw [mF];omega
  have HPM:=Hy hM;have c0:Ce w2 w.heap.size 0 (Sn):=b0.cell 0;have c1:Ce w2 w.heap.size 1 (Sn):=b0.cell 1;have c2:Ce w2 w.heap.size 2 (Sn):=b0.cell 2;have d0:Ce w2 (w.heap.size+1) 0 (Iv 0):=b1.cell 0;have d1:Ce w2 (w.heap.size+1) 1 (Iv 0):=b1.cell 1;have f0:=b0.frozen 0;have f1:=b0.frozen 1;have f2:=b0.frozen 2;have g0:=b1.frozen 0;have g1:=b1.frozen 1;have sQ:=b1.lt;generalize qm:pg.g.length=gn at *;generalize ut:fl.length=fn at *;generalize TF:ns.length=un at *;clear hP b0 b1 mF NR hC hF hPg hM Yx qm ut TF;go_wp2_with fail;refine leaves_cons (f:=42) (args:=#[Pt (w.heap.size+1)]) (by simp) (by simp [go_sem]) ?_
  refine (ze (w.heap.size+1) _).mono ?_;rintro e u' w'' ⟨rfl,rfl,rfl⟩;have r0:Blk ((((((w2.setCell (Ad w.heap.size 0) (.slice gA gn gc)).setCell (Ad w.heap.size 1) (.slice fA fn fc)).setCell (Ad w.heap.size 2) (.slice uA un uc)).setCell (Ad (w.heap.size+1) 0) (Iv 0)).setCell (Ad (w.heap.size+1) 1) (Iv 0)).alloc (.cells #[Iv 0,Iv 0] tF)) w.heap.size tPg #[.slice gA gn gc,.slice fA fn fc,.slice uA un uc]:=(((((B0'.out.af 0 (.slice gA gn gc)).af 1 (.slice fA fn fc)).af 2 (.slice uA un uc)).far (p:=(Ad (w.heap.size+1) 0)) (by simp) _).far (p:=(Ad (w.heap.size+1) 1)) (by simp) _).alloc _
  have r1:Blk ((((((w2.setCell (Ad w.heap.size 0) (.slice gA gn gc)).setCell (Ad w.heap.size 1) (.slice fA fn fc)).setCell (Ad w.heap.size 2) (.slice uA un uc)).setCell (Ad (w.heap.size+1) 0) (Iv 0)).setCell (Ad (w.heap.size+1) 1) (Iv 0)).alloc (.cells #[Iv 0,Iv 0] tF)) (w.heap.size+1) tD #[Iv 0,Iv 0]:=((((((B1'.out.far (p:=Ad w.heap.size 0) (by simp) _).far (p:=Ad w.heap.size 1) (by simp) _).far (p:=Ad w.heap.size 2) (by simp) _).af 0 _).af 1 _).alloc _)
  have eu:Zw w ((((((w2.setCell (Ad w.heap.size 0) (.slice gA gn gc)).setCell (Ad w.heap.size 1) (.slice fA fn fc)).setCell (Ad w.heap.size 2) (.slice uA un uc)).setCell (Ad (w.heap.size+1) 0) (Iv 0)).setCell (Ad (w.heap.size+1) 1) (Iv 0)).alloc (.cells #[Iv 0,Iv 0] tF)):=(((((Cb.setCell (p:=Ad w.heap.size 0) (by simp) _).setCell (p:=Ad w.heap.size 1) (by simp) _).setCell (p:=Ad w.heap.size 2) (by simp) _).setCell (p:=(Ad (w.heap.size+1) 0)) (by simp) _).setCell (p:=(Ad (w.heap.size+1) 1)) (by simp) _).alloc (by simp;omega) _
  have hk:∀i,w.heap.size+2<=i->i<w2.heap.size->((((((w2.setCell (Ad w.heap.size 0) (.slice gA gn gc)).setCell (Ad w.heap.size 1) (.slice fA fn fc)).setCell (Ad w.heap.size 2) (.slice uA un uc)).setCell (Ad (w.heap.size+1) 0) (Iv 0)).setCell (Ad (w.heap.size+1) 1) (Iv 0)).alloc (.cells #[Iv 0,Iv 0] tF)).heap[i]? =w2.heap[i]?:=fun i h1 h2=>by
   have hc:∀(W:World) (j o:Nat) (x:Value),j<i->(W.setCell (Ad j o) x).heap[i]? =W.heap[i]?:=fun W j o x h=>Below.heap_setCell _ _ _ _ (by simp;omega)
   rw [heap_alloc_old _ _ (h:=by simp;omega),hc _ _ _ _ (by omega),hc _ _ _ _ (by omega),hc _ _ _ _ (by omega),hc _ _ _ _ (by omega),hc _ _ _ _ (by omega)]
  have hM:=(HPM.keep hk).down (B':=w.heap.size) (by omega)
  clear c0 c1 c2 d0 d1 f0 f1 f2 g0 g1 hk;generalize (((((w2.setCell (Ad w.heap.size 0) (.slice gA gn gc)).setCell (Ad w.heap.size 1) (.slice fA fn fc)).setCell (Ad w.heap.size 2) (.slice uA un uc)).setCell (Ad (w.heap.size+1) 0) (Iv 0)).setCell (Ad (w.heap.size+1) 1) (Iv 0)).alloc (.cells #[Iv 0,Iv 0] tF)=W3 at *;have Vo:=Hy2 eu hM;have q0:Ce W3 w.heap.size 0 (.slice gA gn gc):=r0.cell 0;have q1:Ce W3 w.heap.size 1 (.slice fA fn fc):=r0.cell 1;have q2:Ce W3 w.heap.size 2 (.slice uA un uc):=r0.cell 2;have d0:Ce W3 (w.heap.size+1) 0 (Iv 0):=r1.cell 0;have d1:Ce W3 (w.heap.size+1) 1 (Iv 0):=r1.cell 1;clear hM eu r0 r1;simp [Leaves,settle,results,Tryz.results18,go_sem,q0,q1,q2,d0,d1];refine ⟨Vo.1,?_⟩;rw [HP.out];exact ⟨_,_,_,fl,ns,rfl,Vo.2⟩
end
end Go.Proofs.YtcchdlnfeijinaaGreatDoor
