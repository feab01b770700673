/- Cka to Parw: Layer check: the checker in memory. -/
import Derived.Test.YtcchdlnfeijinaaGreatDoorNad
import Derived.Laws.OwnMore
import Derived.OneCell
import Derived.Deep.QuietTactic
import Derived.BigQuiet
import Derived.RegionTactic
import Derived.WalkSmall
import Derived.Deep.Cut
import Derived.Deep.CutRange
import Derived.Laws.Pointers
import Derived.LaidMore
import Derived.Deep.AppendLies
import Derived.Deep.RegionLaw
import Derived.BigRegion
import Derived.Deep.RegionHeld2
import Derived.Deep.RegionHeld3
import Derived.Test.YtcchdlnfeijinaaGreatDoorNac
import Derived.Test.YtcchdlnfeijinaaGreatDoorNab
namespace Go.Proofs.YtcchdlnfeijinaaGreatDoor
open Go.Proofs.Tryz
set_option linter.unusedSimpArgs false
set_option linter.unusedVariables false
set_option maxHeartbeats 4000000
set_option maxRecDepth 100000
section
open Go Go.RowKit Go.Maps
abbrev tCk:TypeId:=68
abbrev tNd:TypeId:=75
abbrev tFu:TypeId:=42
abbrev aC:TypeId:=3
abbrev tBo:TypeId:=4
abbrev tPr:TypeId:=45
abbrev tGb:TypeId:=47
abbrev tFt:TypeId:=58
structure CN where
 h:Hd
 kids:List Nat
 v:Value
def CN.nd (x:CN):Nd:=⟨x.h,x.kids⟩
def aA (x:CN) (t:Int×Int):List Value:=[Iv x.h.op,Iv x.h.p,Iv x.h.n,Ss x.h.s,Iv x.h.to,x.v,Iv t.1,Iv t.2]
def aI (ns:List CN) (tr:List (Int×Int)):List Value:=(ns.zip tr).flatMap fun y=>aA y.1 y.2
theorem aY {α:Type}(f:α->List Value)(n:Nat)(hf:∀x,(f x).length=n)(l:List α):∀i j,j<n->(l.flatMap f)[i * n+j]? =(l[i]?).bind fun x=>(f x)[j]?:=by
 induction l with
 |nil=>intro i j _;simp
 |cons x l ih=>
  intro i j hj;rw [List.flatMap_cons];cases i with
  |zero=>rw [List.getElem?_append_left (by rw [hf];omega)];simp
  |succ i=>
   have e:(i+1) * n+j=n+(i * n+j):=by rw [Nat.add_mul];omega
   rw [e,List.getElem?_append_right (by rw [hf];omega),hf,Nat.add_sub_cancel_left,ih i j hj]
   simp
theorem jE {α:Type}(f:α->List Value)(n:Nat)(hf:∀x,(f x).length=n)(l:List α):(l.flatMap f).length=l.length * n:=by
 induction l with
 |nil=>simp
 |cons x l ih=>rw [List.flatMap_cons,List.length_append,hf,ih,List.length_cons,Nat.add_mul];omega
theorem mi {α:Type}(f:α->List Value)(n:Nat)(hn:0<n)(hf:∀x,(f x).length=n)(l:List α)(i j:Nat)(hi:i<l.length)(hj:j<n)(x:α)(u:Value)(hx:f x=(f l[i]).set j u) :
  (l.flatMap f).set (i * n+j) u=(l.set i x).flatMap f:=by
 apply List.ext_getElem?;intro k;obtain ⟨a,b,hb,rfl⟩:∃a b,b<n/\k=a * n+b:=⟨k / n,k % n,Nat.mod_lt _ hn,by rw [Nat.mul_comm];exact (Nat.div_add_mod k n).symm⟩
 rw [List.getElem?_set,aY f n hf _ a b hb,aY f n hf _ a b hb,jE f n hf];by_cases hai:a=i
 ·subst hai;rw [List.getElem?_set_self (by simpa using hi)]
  simp only [Option.bind_some,hx,List.getElem?_set];have hlt:a * n+j<l.length * n:=by
   have h1:(a+1) * n<=l.length * n:=Nat.mul_le_mul_right _ hi;rw [Nat.add_mul] at h1;omega
  by_cases hbj:j=b
  ·subst hbj;simp [hlt,hf,hj]
  ·rw [if_neg (by omega),if_neg hbj,List.getElem?_eq_getElem hi]
   rfl
 ·rw [List.getElem?_set_ne (by omega),if_neg]
  intro e;rcases Nat.lt_or_gt_of_ne hai with h|h
  ·have h1:(a+1) * n<=i * n:=Nat.mul_le_mul_right _ h;rw [Nat.add_mul] at h1;omega
  ·have h1:(i+1) * n<=a * n:=Nat.mul_le_mul_right _ h;rw [Nat.add_mul] at h1;omega
theorem aV (ns:List CN)(tr:List (Int×Int))(i j:Nat)(hj:j<8){x:CN}{t:Int×Int}(hx:ns[i]? =some x)(ht:tr[i]? =some t):(aI ns tr)[i * 8+j]? =(aA x t)[j]?:=by
 unfold aI;rw [aY _ 8 (fun _=>rfl) _ i j hj]
 rw [show (ns.zip tr)[i]? =some (x,t) by rw [List.getElem?_zip_eq_some];exact ⟨hx,ht⟩]
 rfl
theorem ja (ns:List CN)(tr:List (Int×Int))(i j:Nat)(hj:j<8){x:CN}{t t':Int×Int}(hx:ns[i]? =some x)(ht:tr[i]? =some t)(u:Value)(hu:aA x t'=(aA x t).set j u):(aI ns tr).set (i * 8+j) u=aI ns (tr.set i t'):=by
 unfold aI;have h1:=(zS.1 hx).1;have h2:=(zS.1 ht).1;have hz:(ns.zip tr)[i]? =some (x,t):=by rw [List.getElem?_zip_eq_some];exact ⟨hx,ht⟩
 have Ox:=(zS.1 hz).1;have Vz:(ns.zip tr)[i]=(x,t):=(zS.1 hz).2;rw [mi _ 8 (by omega) (fun _=>rfl) (ns.zip tr) i j Ox hj (x,t') u (by rw [Vz];exact hu)]
 congr 1
 apply List.ext_getElem?;intro k;by_cases hk:i=k
 ·subst hk;rw [List.getElem?_set_self Ox]
  symm
  rw [List.getElem?_zip_eq_some];exact ⟨hx,List.getElem?_set_self h2⟩
 ·rw [List.getElem?_set_ne hk];apply Option.ext;intro y;rw [List.getElem?_zip_eq_some,List.getElem?_zip_eq_some,List.getElem?_set_ne hk]
def fnC (x:Fn'×Value) (v:Value):List Value:=[Ss x.1.s,Iv x.1.ty,x.2,Iv (x.1.b:Nat),Iv x.1.p,v]
def dE (fl:List (Fn'×Value)) (vls:List Value):List Value:=(fl.zip vls).flatMap fun y=>fnC y.1 y.2
def glC (g:Gl):List Value:=[Ss g.s,Iv g.ty,Iv g.n,Iv g.p]
def cz (p:Pm):List Value:=[Ss p.s,Iv p.ty]
def ints (l:List Int):List Value:=l.map (Value.int .i64)
def bK (l:List Nat):List Int:=l.map fun k:Nat=>(k:Int)
def lM (w:World) (B H:Nat) (t:TypeId) (sz:Nat) (v:Value) (n:Nat) (xs:List Value):Prop:=w.ownsRow B t sz v n xs/\∀g,v.ownBlock=some g->g<H
theorem lM.mono {w:World}{B H H' sz n:Nat}{t:TypeId}{v:Value}{xs:List Value}(h:lM w B H t sz v n xs)(hH:H<=H'):lM w B H' t sz v n xs:=⟨h.1,fun g hg=>zT (h.2 g hg) hH⟩
structure CkX where
 B:Nat
 b:Nat
 gA:Option Addr
 gc:Nat
 nB:Nat
 nc:Nat
 fB:Nat
 fc:Nat
 sB:Nat
 sc:Nat
 gs:List Gl
 fl:List (Fn'×Value)
 ns:List CN
structure CkS where
 on:Bool
 fpV:Value
 lmV:Value
 fi:Nat
 H:Nat
 vls:List Value
 mps:List Nat
 scv:Value
 lbB:Nat
 lb:List (Nm'×Int)
 sb:List Bool
 done:List (List Int)
def lD (X:CkX) (S:CkS):Array Value:=#[.slice X.gA X.gs.length X.gc,Sl X.fB X.fl.length X.fc,Sl X.nB X.ns.length X.nc,S.scv,Sl X.sB X.ns.length X.sc,S.fpV,S.lmV]
structure CkV (X:CkX) (S:CkS) (σ:Cs) (w:World):Prop where
 chk:Blk w X.b tCk (lD X S)
 nod:w.ownsRow X.B tNd 8 (Sl X.nB X.ns.length X.nc) X.ns.length (aI X.ns σ.tr)
 fP:w.ownsRow X.B tFu 6 (Sl X.fB X.fl.length X.fc) X.fl.length (dE X.fl S.vls)
 see:w.ownsRow X.B tBo 1 (Sl X.sB X.ns.length X.sc) X.ns.length (S.sb.map Value.bool)
 trl:σ.tr.length=X.ns.length
 vll:S.vls.length=X.fl.length
 fil:S.on=true->S.fi<X.fl.length/\S.fpV=.pointer (some (Ad X.fB (S.fi * 6)))
 var:S.on=true->∃v,S.vls[S.fi]? =some v/\w.ownsRow S.H aC 1 v σ.vs.length (ints σ.vs)
 sco:w.ownsRow X.B tMm 1 S.scv S.mps.length (S.mps.map fun m=>Value.map (some m))
 scl:S.mps.length=σ.sc.length
 dn:∀(j m:Nat) (s:Scp),S.mps[j]? =some m->σ.sc[j]? =some s->X.B<=m/\ScV w m s.length s
 gX:S.mps.Nodup
 lab:S.on=true->X.B<=S.lbB/\LbV w S.lbB S.lb.length S.lb/\S.lmV=.map (some S.lbB)
 jW:S.on=true->S.lbB ∉ S.mps
 gZ:∀x∈X.ns,lM w X.B S.H aC 1 x.v x.kids.length (ints (bK x.kids))
 old:∀(j:Nat) (v:Value) (l:List Int),S.vls[j]? =some v->S.done[j]? =some l->j<S.fi->lM w X.B S.H aC 1 v l.length (ints l)
 prm:∀x∈X.fl,lM w X.B S.H tPr 2 x.2 x.1.ps.length (x.1.ps.flatMap cz)
 glb:lM w X.B S.H tGb 4 (.slice X.gA X.gs.length X.gc) X.gs.length (X.gs.flatMap glC)
 hB:X.B<=X.b/\X.B<=X.nB/\X.B<=X.fB/\X.B<=X.sB/\X.B<=S.H/\S.H<=w.heap.size
end
section
open Go Go.RowKit Go.Maps
def Kind (w:World) (k:Nat) (T:TypeId):Prop:=∃c fz,w.heap[k]? =some (.cells c T fz)
def jV (w:World) (k:Nat):Prop:=∃es cl,w.heap[k]? =some (.map es cl)
theorem au {w:World}{a b:Nat}{T T':TypeId}(h:Kind w a T)(h':Kind w b T')(hT:T≠T'):a≠b:=by
 rintro rfl;obtain ⟨c,fz,e⟩:=h;obtain ⟨c',fz',e'⟩:=h';rw [e] at e';simp at e';exact hT e'.2.1
theorem dG {w:World}{a b:Nat}{T:TypeId}(h:Kind w a T)(h':jV w b):a≠b:=by
 rintro rfl;obtain ⟨c,fz,e⟩:=h;obtain ⟨es,cl,e'⟩:=h';rw [e] at e';cases e'
theorem Blk.kind {w:World}{b:Nat}{t:TypeId}{cs:Array Value}(h:Blk w b t cs):Kind w b t:=⟨_,_,h⟩
theorem ag {w:World}{base sz n g:Nat}{t:TypeId}{v:Value}{xs:List Value}(h:w.ownsRow base t sz v n xs)(hg:v.ownBlock=some g):Kind w g t:=by
 rcases h.2 with ⟨rfl,_⟩|⟨g',cap,cur,rfl,_,hh,_⟩
 ·cases hg
 ·obtain rfl:g'=g:=by simpa [Value.ownBlock] using hg
  exact ⟨_,_,hh⟩
theorem bM {α:Type}{R:Cj}{enc:α->DataW Unit}{w:World}{b n:Nat}{l:List (Nm'×α)}(h:Mpv R enc w b n l):jV w b:=by
 obtain ⟨D,⟨es,clock,h1,_⟩,_⟩:=h;exact ⟨es,clock,h1⟩
theorem Kind.lt {w:World}{k:Nat}{T:TypeId}(h:Kind w k T):k<w.heap.size:=by obtain ⟨c,fz,e⟩:=h;exact (Array.getElem?_eq_some_iff.1 e).1
section
variable {w w':World} {ro:Option Nat}
theorem ah {base sz n:Nat}{t:TypeId}{v:Value}{xs:List Value}(hg:w.grownBy w' ro)(h:w.ownsRow base t sz v n xs)(hr:∀r,ro=some r->v.ownBlock≠some r):w'.ownsRow base t sz v n xs:=by
 refine ⟨h.1,h.2.imp id ?_⟩;rintro ⟨g,cap,cur,rfl,h1,h2,h3⟩;exact ⟨g,cap,cur,rfl,h1,(hg.block g (Array.getElem?_eq_some_iff.1 h2).1 (fun e=>hr g e.symm rfl)).trans h2,h3⟩
theorem ak {b:Nat}{t:TypeId}{cs:Array Value}(hg:w.grownBy w' ro)(h:Blk w b t cs)(hr:ro≠some b):Blk w' b t cs:=(hg.block b h.lt (fun e=>hr e.symm)).trans h
theorem di {α:Type}{R:Cj}{enc:α->DataW Unit}{b n:Nat}{l:List (Nm'×α)}(hg:w.grownBy w' ro)(h:Mpv R enc w b n l)(hr:ro≠some b):Mpv R enc w' b n l:=h.kept (hg.block b h.lt (fun e=>hr e.symm))
theorem az {B H sz n:Nat}{t:TypeId}{v:Value}{xs:List Value}(hg:w.grownBy w' ro)(h:lM w B H t sz v n xs)(hr:∀r,ro=some r->v.ownBlock≠some r):lM w' B H t sz v n xs:=⟨ah hg h.1 hr,h.2⟩
end
section
variable {X:CkX} {S:CkS} {σ:Cs} {w w':World}
theorem CkV.grown (h:CkV X S σ w)(hg:w.grownBy w' none):CkV X S σ w' where
 chk:=ak hg h.chk (by simp)
 nod:=ah hg h.nod (by simp)
 fP:=ah hg h.fP (by simp)
 see:=ah hg h.see (by simp)
 trl:=h.trl
 vll:=h.vll
 fil:=h.fil
 var:=fun e=>let ⟨v,h1,h2⟩:=h.var e;⟨v,h1,ah hg h2 (by simp)⟩
 sco:=ah hg h.sco (by simp)
 scl:=h.scl
 dn:=fun j m s h1 h2=>⟨(h.dn j m s h1 h2).1,di hg (h.dn j m s h1 h2).2 (by simp)⟩
 gX:=h.gX
 lab:=fun e=>⟨(h.lab e).1,di hg (h.lab e).2.1 (by simp),(h.lab e).2.2⟩
 jW:=h.jW
 gZ:=fun x hx=>az hg (h.gZ x hx) (by simp)
 old:=fun j v l h1 h2 h3=>az hg (h.old j v l h1 h2 h3) (by simp)
 prm:=fun x hx=>az hg (h.prm x hx) (by simp)
 glb:=az hg h.glb (by simp)
 hB:=⟨h.hB.1,h.hB.2.1,h.hB.2.2.1,h.hB.2.2.2.1,h.hB.2.2.2.2.1,Nat.le_trans h.hB.2.2.2.2.2 hg.size⟩
theorem CkV.on (h:CkV X S σ w)(hb:Zw w w'):CkV X S σ w':=h.grown (aj hb)
theorem CkV.alloc (h:CkV X S σ w)(o:Obj):CkV X S σ (w.alloc o):=h.on ((zB _ _).alloc (zL _) o)
theorem CkV.drew (h:CkV X S σ w):CkV X S σ w.drew:=h.on ⟨rfl,rfl,rfl,Nat.le_refl _,fun _ _=>rfl⟩
theorem CkV.node (h:CkV X S σ w){i j:Nat}(hj:j<8){x:CN}{t t':Int×Int}(hx:X.ns[i]? =some x)(ht:σ.tr[i]? =some t)(u:Value)(hu:aA x t'=(aA x t).set j u) :
  CkV X S {σ with tr:=σ.tr.set i t'} (w.setCell ⟨X.nB,i * 8+j,none⟩ u):=by
 obtain ⟨hn,hg⟩:=h.nod.stored (i * 8+j) u;rw [ja X.ns σ.tr i j hj hx ht u hu] at hn;have hk:Kind w X.nB tNd:=ag h.nod rfl;have hr:∀{base sz n:Nat} {T:TypeId} {v:Value} {xs:List Value},w.ownsRow base T sz v n xs->T≠tNd->∀r,some X.nB=some r->v.ownBlock≠some r:=by
  intro base sz n T v xs h1 hT r hr e;cases hr;exact au (ag h1 e) hk hT rfl
 have hm:∀{m:Nat},jV w m->some X.nB≠some m:=fun h1 e=>dG hk h1 (Option.some.inj e)
 exact {
  chk:=ak hg h.chk (fun e=>au h.chk.kind hk (by decide) (Option.some.inj e).symm)
  nod:=hn
  fP:=ah hg h.fP (hr h.fP (by decide))
  see:=ah hg h.see (hr h.see (by decide))
  trl:=by simpa using h.trl
  vll:=h.vll
  fil:=h.fil
  var:=fun e=>let ⟨v,h1,h2⟩:=h.var e;⟨v,h1,ah hg h2 (hr h2 (by decide))⟩
  sco:=ah hg h.sco (hr h.sco (by decide))
  scl:=h.scl
  dn:=fun j m s h1 h2=>⟨(h.dn j m s h1 h2).1,di hg (h.dn j m s h1 h2).2 (hm (bM (h.dn j m s h1 h2).2))⟩
  gX:=h.gX
  lab:=fun e=>⟨(h.lab e).1,di hg (h.lab e).2.1 (hm (bM (h.lab e).2.1)),(h.lab e).2.2⟩
  jW:=h.jW
  gZ:=fun x hx=>az hg (h.gZ x hx) (hr (h.gZ x hx).1 (by decide))
  old:=fun j v l h1 h2 h3=>az hg (h.old j v l h1 h2 h3) (hr (h.old j v l h1 h2 h3).1 (by decide))
  prm:=fun x hx=>az hg (h.prm x hx) (hr (h.prm x hx).1 (by decide))
  glb:=az hg h.glb (hr h.glb.1 (by decide))
  hB:=by have:=h.hB;have:=hg.size;omega}
theorem CkV.ty (h:CkV X S σ w){i:Nat}(hi:i<X.ns.length)(t:Int):CkV X S (bY σ i t) (w.setCell ⟨X.nB,i * 8+6,none⟩ (Iv t)):=by
 have Yi:i<σ.tr.length:=by rw [h.trl];exact hi
 have ht:σ.tr[i]? =some (σ.tr.getD i (0,0)):=by simp [Yi]
 exact h.node (i:=i) (j:=6) (by omega) (zE hi) ht (Iv t) (t':=(t,(σ.tr.getD i (0,0)).2)) rfl
theorem CkV.rf (h:CkV X S σ w){i:Nat}(hi:i<X.ns.length)(t:Int):CkV X S (bC σ i t) (w.setCell ⟨X.nB,i * 8+7,none⟩ (Iv t)):=by
 have Yi:i<σ.tr.length:=by rw [h.trl];exact hi
 have ht:σ.tr[i]? =some (σ.tr.getD i (0,0)):=by simp [Yi]
 exact h.node (i:=i) (j:=7) (by omega) (zE hi) ht (Iv t) (t':=((σ.tr.getD i (0,0)).1,t)) rfl
theorem CkV.put (h:CkV X S σ w){j m:Nat}{s s':Scp}(hm:S.mps[j]? =some m)(hs:σ.sc[j]? =some s)(hv:ScV w' m s'.length s')(hg:w.grownBy w' (some m)) :
  CkV X S {σ with sc:=σ.sc.set j s'} w':=by
 have hk:jV w m:=bM (h.dn j m s hm hs).2;have hr:∀{base sz n:Nat} {T:TypeId} {v:Value} {xs:List Value},w.ownsRow base T sz v n xs->∀r,some m=some r->v.ownBlock≠some r:=by
  intro base sz n T v xs h1 r hr e;cases hr;exact dG (ag h1 e) hk rfl
 exact {
  chk:=ak hg h.chk (fun e=>dG h.chk.kind hk (Option.some.inj e).symm)
  nod:=ah hg h.nod (hr h.nod)
  fP:=ah hg h.fP (hr h.fP)
  see:=ah hg h.see (hr h.see)
  trl:=h.trl
  vll:=h.vll
  fil:=h.fil
  var:=fun e=>let ⟨v,h1,h2⟩:=h.var e;⟨v,h1,ah hg h2 (hr h2)⟩
  sco:=ah hg h.sco (hr h.sco)
  scl:=by simpa using h.scl
  dn:=fun i m' s1 h1 h2=>by
   by_cases hij:j=i
   ·subst hij;obtain rfl:m=m':=by rw [hm] at h1;exact Option.some.inj h1
    have xP:=(zS.1 hs).1;rw [List.getElem?_set_self xP] at h2;cases h2;exact ⟨(h.dn j m s hm hs).1,hv⟩
   ·rw [List.getElem?_set_ne hij] at h2;refine ⟨(h.dn i m' s1 h1 h2).1,di hg (h.dn i m' s1 h1 h2).2 ?_⟩;intro e;obtain rfl:m=m':=Option.some.inj e;obtain ⟨a1,e1⟩:=zS.1 hm;obtain ⟨a2,e2⟩:=zS.1 h1;exact hij ((List.getElem_inj h.gX).1 (e1.trans e2.symm))
  gX:=h.gX
  lab:=fun on=>⟨(h.lab on).1,di hg (h.lab on).2.1 (fun e=>h.jW on (by rw [<-Option.some.inj e];exact zG hm)),(h.lab on).2.2⟩
  jW:=h.jW
  gZ:=fun x hx=>az hg (h.gZ x hx) (hr (h.gZ x hx).1)
  old:=fun j v l h1 h2 h3=>az hg (h.old j v l h1 h2 h3) (hr (h.old j v l h1 h2 h3).1)
  prm:=fun x hx=>az hg (h.prm x hx) (hr (h.prm x hx).1)
  glb:=az hg h.glb (hr h.glb.1)
  hB:=by have:=h.hB;have:=hg.size;omega}
theorem CkV.scopes (h:CkV X S σ w){v':Value}{mps':List Nat}{sc':List Scp}(hg:w.grownBy w' S.scv.ownBlock)(ai:w'.ownsRow X.B tMm 1 v' mps'.length (mps'.map fun m=>Value.map (some m)))
  (hl:mps'.length=sc'.length) (hm:∀(j m:Nat) (s:Scp),mps'[j]? =some m->sc'[j]? =some s->X.B<=m/\ScV w' m s.length s) (hn:mps'.Nodup) (Ob:S.on=true->S.lbB ∉ mps') :
  CkV X {S with scv:=v',mps:=mps'} {σ with sc:=sc'} (w'.setCell ⟨X.b,3,none⟩ v'):=by
 have hr:∀{base sz n:Nat} {T:TypeId} {v:Value} {xs:List Value},w.ownsRow base T sz v n xs->T≠tMm->∀r,S.scv.ownBlock=some r->v.ownBlock≠some r:=by
  intro base sz n T v xs h1 hT r hr e;exact au (ag h1 e) (ag h.sco hr) hT rfl
 have GA:∀{m:Nat},jV w m->S.scv.ownBlock≠some m:=fun h1 e=>dG (ag h.sco e) h1 rfl
 have Uz:Blk w' X.b tCk (lD X S):=ak hg h.chk (fun e=>au (ag h.sco e) h.chk.kind (by decide) rfl)
 have hk:Kind w' X.b tCk:=Uz.kind;have Cm:w'.grownBy (w'.setCell ⟨X.b,3,none⟩ v') (some X.b):=⟨rfl,rfl,rfl,by simp,fun k _ hk=>heap_setCell_other w' ⟨X.b,3,none⟩ k v' (fun e=>hk (by simp [e]))⟩
 have pY:∀{base sz n:Nat} {T:TypeId} {v:Value} {xs:List Value},w'.ownsRow base T sz v n xs->T≠tCk->∀r,some X.b=some r->v.ownBlock≠some r:=by
  intro base sz n T v xs h1 hT r hr e;cases hr;exact au (ag h1 e) hk hT rfl
 have GZ:∀{m:Nat},jV w' m->some X.b≠some m:=fun h1 e=>dG hk h1 (Option.some.inj e)
 have two:∀{base sz n:Nat} {T:TypeId} {v:Value} {xs:List Value},w.ownsRow base T sz v n xs->T≠tMm->T≠tCk->(w'.setCell ⟨X.b,3,none⟩ v').ownsRow base T sz v n xs:=fun h1 hT YC=>
  ah Cm (ah hg h1 (hr h1 hT)) (pY (ah hg h1 (hr h1 hT)) YC)
 exact {
  chk:=by
   have:=Uz.af 3 v'
   simpa [lD] using this
  nod:=two h.nod (by decide) (by decide)
  fP:=two h.fP (by decide) (by decide)
  see:=two h.see (by decide) (by decide)
  trl:=h.trl
  vll:=h.vll
  fil:=h.fil
  var:=fun e=>let ⟨v,h1,h2⟩:=h.var e;⟨v,h1,two h2 (by decide) (by decide)⟩
  sco:=ah Cm ai (pY ai (by decide))
  scl:=hl
  dn:=fun j m s h1 h2=>⟨(hm j m s h1 h2).1,di Cm (hm j m s h1 h2).2 (GZ (bM (hm j m s h1 h2).2))⟩
  gX:=hn
  lab:=fun on=>
   have Di:=di hg (h.lab on).2.1 (GA (bM (h.lab on).2.1))
   ⟨(h.lab on).1,di Cm Di (GZ (bM Di)),(h.lab on).2.2⟩
  jW:=Ob
  gZ:=fun x hx=>⟨two (h.gZ x hx).1 (by decide) (by decide),(h.gZ x hx).2⟩
  old:=fun j v l h1 h2 h3=>⟨two (h.old j v l h1 h2 h3).1 (by decide) (by decide),(h.old j v l h1 h2 h3).2⟩
  prm:=fun x hx=>⟨two (h.prm x hx).1 (by decide) (by decide),(h.prm x hx).2⟩
  glb:=⟨two h.glb.1 (by decide) (by decide),h.glb.2⟩
  hB:=by have:=h.hB;have:=hg.size;simp;omega}
end
end
section
open Go Go.RowKit Go.Maps
def Pnc (no p:Int):Ending:=.panicked [{v:=.iface tFt (.agg #[Iv no,Iv p]),recovered:=false}]
theorem aG {fn:Func}{R:Ending->World->Prop}{a:Act}{w:World}{ch:List PanicEntry}(hd:a.defers=[])(hR:R (.panicked ch) w):bodyPost prog fn R (.panic ch) a w:=⟨hd,hR⟩
theorem kz (no p:Int)(w:World):Calls prog 48 #[.bool false,Iv no,Iv p] w fun e w'=>e=.returned (.tuple #[])/\w=w':=by
 go_enter func48,ntmps48;go_wp2;go_end0;exact ⟨rfl,rfl⟩
theorem iH (no p:Int)(w:World):Calls prog 48 #[.bool true,Iv no,Iv p] w fun e w'=>e=.panicked [{v:=.iface tFt (.agg #[Iv no,Iv p]),recovered:=false}]/\w=w':=by
 go_enter func48,ntmps48;go_wp2_with fail;exact aG rfl ⟨rfl,rfl⟩
theorem df (b:Bool)(no p:Int)(w:World):Calls prog 48 #[.bool b,Iv no,Iv p] w fun e w'=>(b=true/\e=.panicked [{v:=.iface tFt (.agg #[Iv no,Iv p]),recovered:=false}]∨b=false/\e=.returned (.tuple #[]))/\w=w':=by
 cases b
 ·exact (kz no p w).mono fun e w' ⟨h1,h2⟩=>⟨.inr ⟨rfl,h1⟩,h2⟩
 ·exact (iH no p w).mono fun e w' ⟨h1,h2⟩=>⟨.inl ⟨rfl,h1⟩,h2⟩
structure vT (w:World) (B:Nat) (v:Value) (mps:List Nat) (sc:List Scp):Prop where
 row:w.ownsRow B tMm 1 v mps.length (mps.map fun m=>Value.map (some m))
 len:mps.length=sc.length
 dn:∀(j m:Nat) (s:Scp),mps[j]? =some m->sc[j]? =some s->B<=m/\ScV w m s.length s
theorem CkV.scs {X:CkX}{S:CkS}{σ:Cs}{w:World}(h:CkV X S σ w):vT w X.B S.scv S.mps σ.sc:=⟨h.sco,h.scl,h.dn⟩
theorem vT.on {w w':World}{B:Nat}{v:Value}{mps:List Nat}{sc:List Scp}(h:vT w B v mps sc)(hb:Below w.heap.size w w'):vT w' B v mps sc:=
 have hg:=aj hb
 ⟨ah hg h.row (by simp),h.len,fun j m s h1 h2=>⟨(h.dn j m s h1 h2).1,di hg (h.dn j m s h1 h2).2 (by simp)⟩⟩
theorem vT.at {w:World}{B:Nat}{v:Value}{mps:List Nat}{sc:List Scp}(h:vT w B v mps sc){j:Nat}(hj:j<sc.length) :
  ∃g c m,v=Sl g sc.length c/\g<w.heap.size/\sc.length<=c/\c<=maxLen/\mps[j]? =some m/\w.cell? (Ad g j)=some (.map (some m))/\ScV w m sc[j].length sc[j]:=by
 have hjm:j<mps.length:=by rw [h.len];exact hj
 rcases h.row.2 with ⟨_,h0⟩|⟨g,c,cur,hv,_,hh,U8,PI,sQ,xc⟩
 ·rw [h.len] at h0;omega
 ·rw [hv] at h;have hc:=h.row.cellAt j (by omega)
  rw [h.len] at hv U8;refine ⟨g,c,mps[j],hv,(Array.getElem?_eq_some_iff.1 hh).1,U8,PI,List.getElem?_eq_getElem hjm,?_,(h.dn j _ _ (zE hjm) (zE hj)).2⟩;rw [hc];simp [hjm]
theorem lq {sc:List Scp}{k:Nat}(hk:sc.length=k+1):sc.getLast?.getD []=sc[k]'(by omega):=by
 rw [List.getLast?_eq_getElem?,show sc.length - 1=k by omega,List.getElem?_eq_getElem (show k<sc.length by omega)]
 rfl
theorem qC {w:World}{B:Nat}{A:Option Addr}{n c:Nat}{mps:List Nat}{sc:List Scp}(h:vT w B (.slice A n c) mps sc){k:Nat}(hk:sc.length=k+1)(hk2:k<=1000000){x:List UInt8}(hx:x.length<=maxLen) :
  Calls prog 49 #[.slice A n c,Ss x] w fun e w'=>e=.returned (.bool (look (sc.getLast?.getD []) x).isSome)/\Below w.heap.size w w':=by
 rw [lq hk];obtain ⟨g,c',m,hv,hg,-,-,-,hc,hs⟩:=h.at (j:=k) (by omega)
 simp only [Value.slice.injEq] at hv;obtain ⟨rfl,rfl,rfl⟩:=hv;have hl:=hs.get hx;generalize (look (sc[k]'(by omega)) x).isSome=bb at *
 obtain ⟨⟨a1,a2,a3⟩,ha⟩:∃q,(look (sc[k]'(by omega)) x).getD mz=q:=⟨_,rfl⟩
 rw [ha] at hl;unfold mgV at hl;have HK:=Hy hk;rw [hk];clear ha hs h hx;go_enter func49,ntmps49;go_wp2_with fail;go_ret;exact ⟨rfl,(zB _ _).alloc (zL _) _⟩
theorem yN (l:List Scp)(s:Scp)(x:List UInt8):fE (l ++ [s]) x=(match look s x with|some m=>some m|none=>fE l x):=by
 simp only [fE,List.reverse_append,List.reverse_cons,List.reverse_nil,List.nil_append,List.singleton_append,List.findSome?_cons];cases look s x <;> rfl
theorem mgU:∃d,prog.underlying tMg=some d/\d.isRow=true:=⟨_,underlying103,rfl⟩
theorem DX:(prog.info? tMg).map (·.size)=some 3:=by kernel_rfl
theorem uK {fn:Func}{b p q:Nat}{m:Mg}(h:fn.results= #[.cell p tMg,.tmp q])(tmps:Array Value)(w:World)
  (hp:tmps.getD p undef=Pt b) (hb:Blk w b tMg #[Iv m.so,Iv m.rf,Iv m.vl]) :
  (results fn tmps).run prog w=.ok (.tuple #[mgV m,tmps.getD q undef]) w:=by
 obtain ⟨d,hu,hr⟩:=mgU;have hc:w.rangeAt b 0 [Iv m.so,Iv m.rf,Iv m.vl]:=by
  intro j v hv;rw [Nat.zero_add,hb.cell]
  simpa using hv
 have hl:=run_loadVar_mid (P:=prog) w b 0 tMg [Iv m.so,Iv m.rf,Iv m.vl] d hc hu hr DX;simp only [results,h];simp [Sem.run_bind,Result.andThen];rw [show tmps[p]?.getD undef=Pt b from by simpa using hp]
 simp [asAddr,hl,mgV]
theorem wO {fn:Func}{R:Ending->World->Prop}{a:Act}{w:World}{b p q:Nat}{m:Mg}{bv:Bool}(hf:fn.results= #[.cell p tMg,.tmp q])(hd:a.defers=[])
  (hp:a.tmps.getD p undef=Pt b) (hq:a.tmps.getD q undef=.bool bv) (hb:Blk w b tMg #[Iv m.so,Iv m.rf,Iv m.vl])
  (hR:R (.returned (.tuple #[mgV m,.bool bv])) w):bodyPost prog fn R .ret a w:=
 bodyPost_ret (v:=.tuple #[mgV m,.bool bv]) (by rw [uK hf _ _ hp hb,hq]) hd hR
theorem rR {w:World}{B:Nat}{A:Option Addr}{n c:Nat}{mps:List Nat}{sc:List Scp}(h:vT w B (.slice A n c) mps sc)(hn:sc.length=n)(wW:n<=1000000){x:List UInt8}(hx:x.length<=maxLen) :
  Calls prog 59 #[.slice A n c,Ss x] w fun e w'=>e=.returned (.tuple #[mgV ((fE sc x).getD mz),.bool (fE sc x).isSome])/\Below w.heap.size w w':=by
 have HS:=Hy h;have HN:=Hy hn;obtain ⟨R,hR⟩:=zN (fE sc x);rw [hR];have HR:=Hy hR;clear h hn hR;have IB:Below w.heap.size w (w.alloc (.cells #[Iv 0,Iv 0,Iv 0] tMg)):=(zB _ _).alloc (zL _) _;have hk0:=Blk.new w tMg #[Iv 0,Iv 0,Iv 0];go_enter func59,ntmps59;go_upto_region 1 with (fail);obtain ⟨g4,Va⟩:=zN w.heap.size;rw [Va] at hk0;generalize MQ:w.alloc (.cells #[Iv 0,Iv 0,Iv 0] tMg)=W1 at *;simp only [Va];have HB:=Hy3 IB hk0 Va;have Lv:=Hy (HS.on IB);have IC:w.heap.size<=W1.heap.size:=IB.size;clear IB hk0 MQ Va HS;go_wp2_with fail;go_loopw [6] (fun v wr=>∃k:Nat,k<=n/\v=Iv ((k:Int) - 1)/\fE sc x=fE (sc.take k) x/\Below W1.heap.size W1 wr) (fun v _=>(intOf v+1).toNat)
 case atStart=>exact ⟨n,Nat.le_refl _,rfl,by rw [List.take_of_length_le (by rw [HN.out];exact zL _)],zB _ _⟩
 case round=>
  obtain ⟨k,hk,rfl,Oa,bW⟩:=hrel;have FK:=HB.2.1.below bW HB.2.1.lt;by_cases hk0:k=0
  ·subst hk0;have hRn:R=none:=by rw [<-HR.out,Oa];rfl
   subst hRn;have HW:=Hy2 bW FK;have f0:=FK.frozen 0;have f1:=FK.frozen 1;have f2:=FK.frozen 2;have l4:=FK.lt;have c0:=FK.cell 0;have c1:=FK.cell 1;have c2:=FK.cell 2;simp only [List.getElem?_toArray,List.getElem?_cons_zero,List.getElem?_cons_succ] at c0 c1 c2;clear Oa bW FK Lv;go_wp2_with fail;have hz:=Blk.af (Blk.af (Blk.af HW.2 0 (Iv 0)) 1 (Iv 0)) 2 (Iv 0);refine wO (m:=mz) (bv:=false) rfl rfl rfl rfl hz ⟨rfl,?_⟩;have hg:w.heap.size<=g4:=by rw [HB.2.2];exact zL _
   exact (((HB.1.trans (HW.1.mono IC)).setCell (p:=Ad g4 0) hg _).setCell (p:=Ad g4 1) hg _).setCell (p:=Ad g4 2) hg _
  ·obtain ⟨j,rfl⟩:∃j,k=j+1:=⟨k - 1,by omega⟩
   have xP:j<sc.length:=by rw [HN.out];omega
   obtain ⟨g,c',m,hv,hg,-,-,-,hc,hs⟩:=(Lv.on bW).at xP;simp only [Value.slice.injEq] at hv;obtain ⟨rfl,-,rfl⟩:=hv;have hl:=hs.get hx;have Np:sc.take (j+1)=sc.take j ++ [sc[j]]:=by rw [List.take_succ_eq_append_getElem xP]
   rw [Np,yN] at Oa;have HW:=Hy2 bW FK;have Uo:(j:Int)<n:=by have:=HN.out;omega
   have hji:((j:Int)+1 - 1)=j:=by omega
   have hj0:(0:Int)<=j:=by omega
   have WW:(((j+1:Nat):Int) - 1)=(j:Int):=by omega
   rw [WW];have hjlt:j<n:=by omega
   cases hlo:look sc[j] x with
   |none=>
    rw [hlo] at Oa hl;simp only [Option.getD_none,Option.isSome_none,mz,mgV] at hl;have HLK:=Hy Oa;clear Oa bW hs WW hji FK hlo Np;go_wp2_with fail;go_roundw
    case rel=>exact ⟨j,by omega,by go_num,HLK,HW.1.alloc HW.1.size _⟩
    case measure=>simp [intOf]
   |some m2=>
    rw [hlo] at Oa hl;obtain ⟨a1,a2,a3⟩:=m2;simp only [Option.getD_some,Option.isSome_some,mgV] at hl;have hRn:R=some ⟨a1,a2,a3⟩:=by rw [<-HR.out,Oa]
    subst hRn;have f0:=FK.frozen 0;have f1:=FK.frozen 1;have f2:=FK.frozen 2;have l4:=FK.lt;have c0:=FK.cell 0;have c1:=FK.cell 1;have c2:=FK.cell 2;simp only [List.getElem?_toArray,List.getElem?_cons_zero,List.getElem?_cons_succ] at c0 c1 c2;clear Oa bW hs WW hji FK hlo Np HR;go_wp2_with fail;have hz:=(Blk.af (Blk.af (Blk.af HW.2 0 (Iv a1)) 1 (Iv a2)) 2 (Iv a3)).alloc (.cells #[Iv a1,Iv a2,Iv a3] tMg);refine wO (m:=⟨a1,a2,a3⟩) (bv:=true) rfl rfl rfl rfl hz ⟨rfl,?_⟩;have hg:w.heap.size<=g4:=by rw [HB.2.2];exact zL _
    exact ((((HB.1.trans (HW.1.mono IC)).setCell (p:=Ad g4 0) hg _).setCell (p:=Ad g4 1) hg _).setCell (p:=Ad g4 2) hg _).alloc (by have:=HW.1.size;simp;omega) _
end
section
open Go Go.RowKit Go.Maps
theorem rW {sc:List Scp}{k:Nat}(hk:sc.length=k+1)(x:List UInt8)(m:Mg):decl sc x m=sc.set k ((x,m) ::sc[k]'(by omega)):=by
 unfold decl;rw [lq hk];apply List.ext_getElem?;intro j;by_cases hj:j<k
 ·rw [List.getElem?_append_left (by simp;omega),List.getElem?_set_ne (by omega),List.getElem?_dropLast]
  simp;omega
 ·by_cases hj2:j=k
  ·subst hj2;rw [List.getElem?_append_right (by simp;omega),List.getElem?_set_self (by omega)]
   simp [hk]
  ·rw [List.getElem?_eq_none (by simp;omega),List.getElem?_eq_none (by simp;omega)]
theorem CkV.Ble {X:CkX}{S:CkS}{σ:Cs}{w:World}(h:CkV X S σ w):X.B<=w.heap.size:=by have:=h.hB;omega
theorem mr {X:CkX}{S:CkS}{σ:Cs}{w:World}(h:CkV X S σ w){k:Nat}(hk:σ.sc.length=k+1)(hk2:k<=1000000)(hl:(σ.sc.getLast?.getD []).length<=2000000){x:List UInt8}(hx:x.length<=maxLen)(m:Mg) :
  Calls prog 50 #[S.scv,Ss x,mgV m] w fun e w'=>e=.returned (.tuple #[])/\CkV X S {σ with sc:=decl σ.sc x m} w'/\Below X.B w w'/\∀k,k<w.heap.size->k ∉ S.mps->w'.heap[k]? =w.heap[k]?:=by
 have sZ:k<σ.sc.length:=by omega
 obtain ⟨s0,KC⟩:∃s,σ.sc[k]? =some s:=⟨_,List.getElem?_eq_getElem sZ⟩;have O6:σ.sc[k]=s0:=(zS.1 KC).2;have hd:decl σ.sc x m=σ.sc.set k ((x,m) ::s0):=by rw [rW hk,O6]
 rw [lq hk,O6] at hl;rw [hd];obtain ⟨m1,m2,m3⟩:=m;have av:Zw w (w.alloc (.cells #[Iv m1,Iv m2,Iv m3] tMg)):=(zB _ _).alloc (zL _) _;have h1:=h.on av;have hB:=h.Ble;have b1:=Blk.new w tMg #[Iv m1,Iv m2,Iv m3];obtain ⟨g,c,mm,hv,hg,U8,PI,GA,hc,hs⟩:=h1.scs.at (j:=k) (by omega)
 rw [O6] at hs;obtain ⟨R,hR⟩:∃R:Ending->World->Prop,(fun e w'=>e=Ending.returned (.tuple #[])/\CkV X S {σ with sc:=σ.sc.set k ((x,⟨m1,m2,m3⟩) ::s0)} w'/\Below X.B w w'/\∀k,k<w.heap.size->k ∉ S.mps->w'.heap[k]? =w.heap[k]?)=R:=⟨_,rfl⟩
 have HR:Hid (∀w',(CkV X S {σ with sc:=σ.sc.set k ((x,⟨m1,m2,m3⟩) ::s0)} w'/\Below X.B w w'/\∀k,k<w.heap.size->k ∉ S.mps->w'.heap[k]? =w.heap[k]?)->R (.returned (.tuple #[])) w'):=Hy fun w' h=>by rw [<-hR];exact ⟨rfl,h⟩
 rw [show (fun e w'=>e=Ending.returned (.tuple #[])/\CkV X S {σ with sc:=σ.sc.set k ((x,⟨m1,m2,m3⟩) ::s0)} w'/\Below X.B w w'/\∀k,k<w.heap.size->k ∉ S.mps->w'.heap[k]? =w.heap[k]?)=R from hR]
 rw [hv,hk];generalize hW:w.alloc (.cells #[Iv m1,Iv m2,Iv m3] tMg)=W1 at *;obtain ⟨w2,QR,GN,Cm⟩:=(show ScV W1.drew mm s0.length s0 from hs).put (by unfold maxLen;omega) hx ⟨m1,m2,m3⟩
 have HC:=Hy (h1.drew.put (σ:=σ) (s':=(x,⟨m1,m2,m3⟩) ::s0) GA KC GN Cm);have X7:X.B<=mm:=(h1.dn k mm _ GA KC).1;have DW:Below X.B w w2:=(av.mono hB).trans (((Below.refl X.B W1).drew).grown Cm (by have:=h1.Ble;simpa using this) (fun j e=>by cases e;exact X7))
 have qA:∀k,k<w.heap.size->k ∉ S.mps->w2.heap[k]? =w.heap[k]?:=by
  intro k hk Ul;have h9:=Cm.block k (by have:=av.size;simp;omega) (fun e=>Ul (by cases e;exact zG GA))
  exact h9.trans (av.block k hk)
 have HW:=Hy2 DW qA;have p0:=b1.cell 0;have p1:=b1.cell 1;have p2:=b1.cell 2;have pl:=b1.lt;simp only [List.getElem?_toArray,List.getElem?_cons_zero,List.getElem?_cons_succ] at p0 p1 p2;unfold mgV at QR |-;simp only at QR;clear hs GN Cm h1 h hv DW qA av b1 hk GA KC O6 hd hR hl sZ;go_enter func50,ntmps50;go_upto_region 1 with (fail);clear hW;generalize w.heap.size=H0 at *;go_region;go_end0;exact HR _ ⟨HC,HW.1,HW.2⟩
theorem dU {T:TypeId}{z:Option Value}{s b:Nat}(h:(prog.info? T).map (fun i=>(i.zero,i.size,i.bytes))=some (z,s,b)):∃i0,prog.info? T=some i0/\i0.zero=z/\i0.size=s/\i0.bytes=b:=by
 cases hi:prog.info? T with
 |none=>rw [hi] at h;cases h
 |some i0=>
  rw [hi] at h;simp only [Option.map_some,Option.some.injEq,Prod.mk.injEq] at h;exact ⟨i0,rfl,h.1,h.2.1,h.2.2⟩
theorem zt {ops:Array Oper}{rest:List Oper}{op:Oper}{a:Act}{Q:Exit->Act->World->Prop}(T TL:TypeId)(i0:TypeInfo)(z:Value)(sz bt:Nat)
  (hu:prog.underlying TL=some (.slice T)) (hi:prog.info? T=some i0) (vQ:i0.zero=some z) (sI:i0.size=sz) (ru:i0.bytes=bt) (FV:z.cells.size=sz) (sQ:0<sz) (hbt:bt<=100)
  (B:Nat) (w0 W:World) (H:Nat) (hH:W.heap.size=H) (v:Value) (n:Nat) (xs:List Value) (x:Array Value) (hx:x.size=sz) (h1:∀u∈x.toList,u.oneCell'=true) (s y:Operand)
  (hgd:op.guard=none) (ho:op.op=.call {callee:=.builtin .append,args:=#[s,y],argTypes:=#[TL,TL]}) (hs:a.eval s=v) (hy:a.eval y=Sl H 1 1)
  (ai:W.ownsRow B T sz v n xs) (hb:Below B w0 W) (hB:B<=w0.heap.size) (hn:n<=2000000)
  (h:∀v' w1,w1.ownsRow B T sz v' (n+1) (xs ++ x.toList)->Below B w0 w1->(W.alloc (.cells x T)).grownBy w1 v.ownBlock->(∃g cap,v'=Sl g (n+1) cap)->wpList prog ops Q rest (a.put op.dst v') w1) :
  wpList prog ops Q (op ::rest) a (W.alloc (.cells x T)):=by
 subst hH;have hBW:B<=W.heap.size:=Nat.le_trans hB hb.size;have wJ:∀j u,x.toList[j]? =some u->(W.alloc (.cells x T)).cell? (((Ad W.heap.size 0):Addr).add j)=some u:=
  World.news_of_block (cs:=x) (heap_alloc_new W _)
 refine wpList_append_own _ hgd s y TL ho B T i0 z sz bt hu hi vQ sI ru FV sQ v n _ hs (ai.alloc _) (Ad W.heap.size 0) 1 1 x.toList hy (by rw [Array.length_toList,hx,Nat.one_mul]) wJ h1 (by unfold maxLen;omega) ?_ (by simp;omega) ?_
 ·have:(n+1) * bt<=2000001 * 100:=Nat.mul_le_mul (by omega) hbt
  omega
 ·intro v' w1 bB aB _;refine h v' w1 bB (hb.trans (((Below.refl _ W).alloc hBW _).grown aB (by simp;omega) (fun j ej=>?_))) aB (ownsRow_succ bB)
  rcases ai.2 with ⟨rfl,_⟩|⟨g,cap,cur,rfl,hbg,_,_⟩
  ·simp [Value.ownBlock] at ej
  ·obtain rfl:g=j:=by simpa [Value.ownBlock] using ej
   exact hbg
theorem KE:(prog.info? tMm).map (fun i=>(i.zero,i.size,i.bytes))=some (some (.map none),1,8):=by kernel_rfl
theorem rD:(prog.info? aC).map (fun i=>(i.zero,i.size,i.bytes))=some (some (Iv 0),1,8):=by kernel_rfl
theorem dL {w:World}{B n sz:Nat}{t:TypeId}{v:Value}{xs:List Value}(h:w.ownsRow B t sz v n xs):∃A c,v=.slice A n c:=by
 rcases h.2 with ⟨rfl,rfl⟩|⟨g,cap,cur,rfl,_⟩
 ·exact ⟨none,0,rfl⟩
 ·exact ⟨_,_,rfl⟩
def CkS.push (S:CkS) (v:Value) (m:Nat):CkS:={S with scv:=v,mps:=S.mps ++ [m]}
theorem CkV.fresh {X:CkX}{S:CkS}{σ:Cs}{w:World}(h:CkV X S σ w):∀m∈S.mps,m<w.heap.size:=by
 intro m hm;obtain ⟨j,hj,rfl⟩:=List.getElem_of_mem hm;have hj2:j<σ.sc.length:=by rw [<-h.scl];exact hj
 exact (h.dn j _ _ (zE hj) (zE hj2)).2.lt
theorem CkV.pushed {X:CkX}{S:CkS}{σ:Cs}{w w1:World}(h:CkV X S σ w){v':Value}(hg:((w.alloc (.map #[] 0)).alloc (.cells #[.map (some w.heap.size)] tMm)).grownBy w1 S.scv.ownBlock)
  (hr:w1.ownsRow X.B tMm 1 v' (S.mps.length+1) (S.mps.map (fun m=>Value.map (some m)) ++ [.map (some w.heap.size)])) :
  CkV X (S.push v' w.heap.size) {σ with sc:=σ.sc ++ [[]]} (w1.setCell (Ad X.b 3) v'):=by
 have h2:=(h.alloc (.map #[] 0)).alloc (.cells #[.map (some w.heap.size)] tMm);have Qh:ScV (w.alloc (.map #[] 0)) w.heap.size 0 []:=Mpv.made w;have GZ:ScV ((w.alloc (.map #[] 0)).alloc (.cells #[.map (some w.heap.size)] tMm)) w.heap.size 0 []:=di (World.grownBy_alloc _ _ none) Qh (by simp)
 have aD:∀{m:Nat},jV ((w.alloc (.map #[] 0)).alloc (.cells #[.map (some w.heap.size)] tMm)) m->S.scv.ownBlock≠some m:=fun h1 e=>dG (ag h2.sco e) h1 rfl
 refine h2.scopes (mps':=S.mps ++ [w.heap.size]) (sc':=σ.sc ++ [[]]) hg (by simpa using hr) (by simp [h.scl]) ?_ ?_ ?_
 ·intro j m s h1 hs;by_cases hj:j<S.mps.length
  ·rw [List.getElem?_append_left hj] at h1;rw [List.getElem?_append_left (by rw [<-h.scl];exact hj)] at hs
   have:=h2.dn j m s h1 hs;exact ⟨this.1,di hg this.2 (aD (bM this.2))⟩
  ·have xP:j=S.mps.length:=by
    have:=(zS.1 h1).1;simp at this;omega
   subst xP;rw [List.getElem?_append_right (zL _)] at h1;rw [List.getElem?_append_right (by rw [h.scl];exact zL _)] at hs
   simp at h1;rw [h.scl] at hs;simp at hs;subst h1 hs;exact ⟨h.Ble,di hg GZ (aD (bM GZ))⟩
 ·rw [List.nodup_append];refine ⟨h.gX,by simp,?_⟩
  intro a ha b hb;simp at hb;subst hb;have:=h.fresh a ha;omega
 ·intro on;have h3:=h.jW on;have h4:=(h.lab on).2.1.lt;simp only [List.mem_append,List.mem_singleton,not_or];exact ⟨h3,by omega⟩
theorem wV {X:CkX}{S:CkS}{σ:Cs}{w:World}(h:CkV X S σ w)(hk:σ.sc.length<=1000000) :
  Calls prog 55 #[.pointer (some (Ad X.b 3))] w fun e w'=>e=.returned (.tuple #[])/\∃v m,CkV X (S.push v m) {σ with sc:=σ.sc ++ [[]]} w'/\Below X.B w w':=by
 obtain ⟨i0,hi,vQ,sI,ru⟩:=dU KE;have GA:=@run_makeMap prog;obtain ⟨A,c,hv⟩:=dL h.sco;have hB:=h.Ble;have NI:Ce w X.b 3 S.scv:=h.chk.cell 3;have hf3:=h.chk.frozen 3;have hl3:=h.chk.lt;have IB:Zw w (w.alloc (.map #[] 0)):=(zB _ _).alloc (zL _) _;have h1:=h.on IB;have uM:S.mps.length<=1000000:=by rw [h.scl];exact hk
 rw [hv] at NI;have H:=Hy h;have Zg:=Hy IB;have hsz1:(w.alloc (.map #[] 0)).heap.size=w.heap.size+1:=by simp
 have ai:=h1.sco;rw [hv] at ai;have H2:=Hy (h1.alloc (.cells #[.map (some w.heap.size)] tMm));have HV:=Hy hv;clear h h1 hv IB;go_enter func55,ntmps55;go_wp2_with (at_builtin;refine zt tMm 63 i0 _ 1 8 underlying63 hi vQ sI ru rfl (by omega) (by omega) X.B w (w.alloc (.map #[] 0)) (w.heap.size+1) hsz1 _ S.mps.length _ #[.map (some w.heap.size)] rfl (by simp [Value.oneCell']) _ _ rfl rfl rfl rfl ai (Zg.mono hB) hB (by omega) ?_;intro v' w1 qi av LZ OW;obtain ⟨gv,cp,rfl⟩:=OW;have Cm:=LZ;rw [<-HV.out] at Cm;have HP:=Hy (H.pushed Cm qi);have k1:=ak Cm H2.chk (fun e=>au (ag H2.sco e) H2.chk.kind (by decide) rfl);have hf4:=k1.frozen 3;have ZI:=k1.cell 3;have hl4:=k1.lt;have iK:=Hy av;clear LZ Cm qi av k1)
 have hBb:=H.hB.1;go_end0;exact ⟨rfl,_,_,HP,iK.setCell (p:=Ad X.b 3) hBb _⟩
def CkS.pop (S:CkS) (v:Value):CkS:={S with scv:=v,mps:=S.mps.dropLast}
theorem CkV.popped {X:CkX}{S:CkS}{σ:Cs}{w:World}(h:CkV X S σ w){k g c:Nat}(hk:σ.sc.length=k+1)(hv:S.scv=Sl g (k+1) c) :
  CkV X (S.pop (Sl g k c)) {σ with sc:=σ.sc.dropLast} (w.setCell (Ad X.b 3) (Sl g k c)):=by
 have BP:S.mps.length=k+1:=by rw [h.scl];exact hk
 refine h.scopes (mps':=S.mps.dropLast) (sc':=σ.sc.dropLast) (World.grownBy.refl _ _) ?_ (by simp [h.scl]) ?_ (h.gX.sublist (List.dropLast_sublist _)) (fun on hm=>h.jW on (List.dropLast_subset _ hm))
 ·rcases h.sco.2 with ⟨e,_⟩|⟨g',cap,cur,e,h1,h2,h3,h4,h5,h6⟩
  ·rw [hv] at e;cases e
  ·rw [hv] at e;simp only [Value.slice.injEq,Option.some.injEq,Addr.mk.injEq,and_true] at e;obtain ⟨rfl,-,rfl⟩:=e;refine ⟨by simp,.inr ⟨g,c,cur,by simp [BP],h1,h2,by simp;omega,h4,h5,?_⟩⟩
   rw [BP] at h6;have:cur.toList.take (S.mps.dropLast.length * 1)=(cur.toList.take ((k+1) * 1)).take k:=by rw [List.take_take];congr 1;simp [BP]
   rw [this,h6,<-List.map_take,List.dropLast_eq_take];simp [BP]
 ·intro j m s h1 hs;have hj:j<k:=by
   have:=(zS.1 h1).1;simp [BP] at this;exact this
  rw [List.getElem?_dropLast,if_pos (by rw [BP];simpa using hj)] at h1
  rw [List.getElem?_dropLast,if_pos (by rw [hk];simpa using hj)] at hs
  exact h.dn j m s h1 hs
theorem uj {X:CkX}{S:CkS}{σ:Cs}{w:World}(h:CkV X S σ w){k:Nat}(hk:σ.sc.length=k+1)(hk2:k<=1000000) :
  Calls prog 58 #[.pointer (some (Ad X.b 3))] w fun e w'=>e=.returned (.tuple #[])/\∃v,CkV X (S.pop v) {σ with sc:=σ.sc.dropLast} w'/\Below X.B w w':=by
 obtain ⟨g,c,m,hv,hg,U8,PI,-,hc,-⟩:=h.scs.at (j:=k) (by omega)
 rw [hk] at hv U8;have hB:=h.Ble;have NI:Ce w X.b 3 S.scv:=h.chk.cell 3;have hf3:=h.chk.frozen 3;have hl3:=h.chk.lt;rw [hv] at NI;have HP:=Hy (h.popped hk hv).drew;have hBb:=h.hB.1;clear h hv hk hc;unfold maxLen at PI;go_enter func58,ntmps58;go_region;go_end0;exact ⟨rfl,_,HP,((zB _ _).setCell (p:=Ad X.b 3) hBb _).drew⟩
end
section
open Go Go.RowKit Go.Maps
theorem ou (b:Bool)(w:World):Calls prog 93 #[.bool b] w fun e w'=>e=.returned (Iv (iol b))/\w=w':=by
 cases b
 ·go_enter func93,ntmps93;go_wp2;go_ret;exact ⟨rfl,rfl⟩
 ·go_enter func93,ntmps93;go_wp2;go_ret;exact ⟨rfl,rfl⟩
theorem EE (t:Int)(w:World):Calls prog 52 #[Iv t] w fun e w'=>e=.returned (Iv (eb t))/\w=w':=by
 by_cases h3:t=3
 ·subst h3;go_enter func52,ntmps52;go_wp2;go_ret;exact ⟨rfl,rfl⟩
 ·by_cases h1:t=1
  ·subst h1;go_enter func52,ntmps52;go_wp2;go_ret;exact ⟨rfl,rfl⟩
  ·have e:eb t=8:=by simp [eb,h3,h1]
   rw [e];have b3:(t == 3)=false:=by simp [h3]
   have b1:(t == 1)=false:=by simp [h1]
   go_enter func52,ntmps52;go_wp2;go_ret;exact ⟨rfl,rfl⟩
section
variable {X:CkX} {S:CkS} {σ:Cs} {w:World}
theorem CkV.ai (h:CkV X S σ w){i:Nat}{x:CN}(hx:X.ns[i]? =some x)(j:Nat)(hj:j<8):w.cell? (Ad X.nB (i * 8+j))=(aA x (σ.tr.getD i (0,0)))[j]?:=by
 have hi:=(zS.1 hx).1;have Yi:i<σ.tr.length:=by rw [h.trl];exact hi
 rw [h.nod.cellAt (i * 8+j) (by have h1:(i+1) * 8<=X.ns.length * 8:=Nat.mul_le_mul_right _ hi;omega)]
 exact aV X.ns σ.tr i j hj hx (by simp [Yi])
theorem CkV.aU (h:CkV X S σ w):X.nB<w.heap.size:=(ag h.nod rfl).lt
theorem CkV.c0 (h:CkV X S σ w):w.cell? (Ad X.b 0)=some (.slice X.gA X.gs.length X.gc):=h.chk.cell 0
theorem CkV.c1 (h:CkV X S σ w):w.cell? (Ad X.b 1)=some (Sl X.fB X.fl.length X.fc):=h.chk.cell 1
theorem CkV.c2 (h:CkV X S σ w):w.cell? (Ad X.b 2)=some (Sl X.nB X.ns.length X.nc):=h.chk.cell 2
theorem CkV.c3 (h:CkV X S σ w):w.cell? (Ad X.b 3)=some S.scv:=h.chk.cell 3
theorem CkV.c4 (h:CkV X S σ w):w.cell? (Ad X.b 4)=some (Sl X.sB X.ns.length X.sc):=h.chk.cell 4
theorem CkV.c5 (h:CkV X S σ w):w.cell? (Ad X.b 5)=some S.fpV:=h.chk.cell 5
theorem CkV.c6 (h:CkV X S σ w):w.cell? (Ad X.b 6)=some S.lmV:=h.chk.cell 6
end
abbrev ckp (X:CkX):Value:=Pt X.b
abbrev ndp (X:CkX) (i:Nat):Value:=.pointer (some (Ad X.nB (i * 8)))
theorem rC {X:CkX}{S:CkS}{σ:Cs}{w:World}(h:CkV X S σ w){i:Nat}(hi:i<X.ns.length) :
  Calls prog 154 #[ckp X,Iv i] w fun e w'=>e=.returned (.bool (dw σ.tr i))/\w=w':=by
 have IR:=h.c2;have OE:=h.chk.lt;have X5:=h.ai (zE hi) 6 (by omega)
 have mf:=h.aU;simp only [aA,List.getElem?_cons_succ,List.getElem?_cons_zero] at X5;have VT:(i:Int)<X.ns.length:=by omega
 have e:dw σ.tr i=((σ.tr.getD i (0,0)).1 == 2):=by
  unfold dw dJ;generalize (σ.tr.getD i (0,0)).1=t;by_cases ht:t=2 <;> simp [ht]
 rw [e];generalize (σ.tr.getD i (0,0)).1=t at *;clear h e;go_enter func154,ntmps154;go_wp2;go_ret;exact ⟨rfl,rfl⟩
def RdK (w:World) (A:Option Addr) (ks:List Nat):Prop:=ks=[]∨∃g o,A=some (Ad g o)/\g<w.heap.size/\∀j k,ks[j]? =some k->w.cell? (Ad g (o+j))=some (Iv (k:Nat))
theorem RdK.av {w:World}{B:Nat}{v:Value}{ks:List Nat}(h:w.ownsRow B aC 1 v ks.length (ints (bK ks))):∃A c,v=.slice A ks.length c/\RdK w A ks:=by
 rcases h.2 with ⟨rfl,h0⟩|⟨g,cap,cur,rfl,h1,h2,h3⟩
 ·exact ⟨none,0,by rw [h0],.inl (List.eq_nil_of_length_eq_zero h0)⟩
 ·refine ⟨_,_,rfl,.inr ⟨g,0,rfl,(Array.getElem?_eq_some_iff.1 h2).1,fun j k hk=>?_⟩⟩
  have hj:=(zS.1 hk).1;rw [Nat.zero_add,World.ownsRow.cellAt h j (by omega)]
  simp [ints,bK,hk]
theorem gM {X:CkX}{S:CkS}{σ:Cs}{w:World}(h:CkV X S σ w){i:Nat}{x:CN}(hx:X.ns[i]? =some x){ks:List Nat}(Oq:∀k∈ks,k<X.ns.length){A:Option Addr}{n c:Nat}(hn:ks.length=n)(KQ:n<=1000000)(hr:RdK w A ks) :
  Calls prog 153 #[ckp X,ndp X i,.slice A n c] w fun e w'=>((ks.all fun k=>ji (dJ σ.tr k))=true/\e=.returned (.tuple #[])∨(ks.all fun k=>ji (dJ σ.tr k))=false/\e=.panicked [{v:=.iface tFt (.agg #[Iv 6,Iv x.h.p]),recovered:=false}])/\w=w':=by
 have IR:=h.c2;have OE:=h.chk.lt;have mf:=h.aU;have hp:=h.ai hx 1 (by omega)
 simp only [aA,List.getElem?_cons_succ,List.getElem?_cons_zero] at hp;have hil:=(zS.1 hx).1;have H:=Hy h;have HN:=Hy hn;obtain ⟨V,hV⟩:∃V,(ks.all fun k=>ji (dJ σ.tr k))=V:=⟨_,rfl⟩
 rw [hV];have HV:=Hy hV;obtain ⟨R,hR⟩:∃R:Ending->World->Prop,(fun e w'=>(V=true/\e=Ending.returned (.tuple #[])∨V=false/\e=.panicked [{v:=.iface tFt (.agg #[Iv 6,Iv x.h.p]),recovered:=false}])/\w=w')=R:=⟨_,rfl⟩
 have HT:Hid (V=true->R (.returned (.tuple #[])) w):=Hy fun e=>by rw [<-hR];exact ⟨.inl ⟨e,rfl⟩,rfl⟩
 have HF:Hid (V=false->R (Pnc 6 x.h.p) w):=Hy fun e=>by rw [<-hR];exact ⟨.inr ⟨e,rfl⟩,rfl⟩
 rw [hR];clear h hV hR hn;generalize x.h.p=p at *;clear hx;go_enter func153,ntmps153;go_wp2;go_loop [11] (fun v=>∃j:Nat,j<=n/\v=Iv j/\((ks.take j).all fun k=>ji (dJ σ.tr k))=true) (fun v=>n - (intOf v).toNat)
 case atStart=>exact ⟨0,by omega,rfl,by simp⟩
 case round=>
  obtain ⟨j,hj,rfl,Qp⟩:=hrel;have HA:=Hy Qp;clear Qp;by_cases hlt:j<n
  ·have xP:j<ks.length:=by have:=HN.out;omega
   obtain ⟨g,o,rfl,hg,Yr⟩:∃g o,A=some (Ad g o)/\g<w.heap.size/\w.cell? (Ad g (o+j))=some (Iv (ks[j]:Nat)):=by
    rcases hr with h0|⟨g,o,e,hg,hc⟩
    ·rw [h0] at xP;simp at xP
    ·exact ⟨g,o,e,hg,hc j _ (zE xP)⟩
   have sZ:=Oq _ (List.getElem_mem xP);have X5:=H.ai (zE sZ) 6 (by omega)
   simp only [aA,List.getElem?_cons_succ,List.getElem?_cons_zero] at X5;have HTK:Hid (((ks.take (j+1)).all fun k=>ji (dJ σ.tr k))=ji ((σ.tr.getD ks[j] (0,0)).1)):=Hy (by
    rw [List.take_succ_eq_append_getElem xP,List.all_append,HA.out];simp [dJ])
   have HM:Hid (ji ((σ.tr.getD ks[j] (0,0)).1)=false->V=false):=Hy fun e=>by
    rw [<-HV.out,List.all_eq_false];exact ⟨_,List.getElem_mem xP,by simp only [dJ];rw [e];simp⟩
   generalize (σ.tr.getD ks[j] (0,0)).1=ty at *;generalize ks[j]=kk at *;have Ru:(kk:Int)<X.ns.length:=by omega
   by_cases h1:ty=1
   ·subst h1;go_wp2_with (go_at_call 48;refine (kz _ _ _).mono ?_;rintro e w' ⟨rfl,rfl⟩);go_round
    case rel=>exact ⟨j+1,by omega,by go_num,by rw [HTK.out];rfl⟩
    case measure=>simp [intOf];omega
   ·have b1:(ty != 1)=true:=by simp [h1]
    by_cases h2:ty=2
    ·subst h2;go_wp2_with (go_at_call 48;refine (kz _ _ _).mono ?_;rintro e w' ⟨rfl,rfl⟩);go_round
     case rel=>exact ⟨j+1,by omega,by go_num,by rw [HTK.out];rfl⟩
     case measure=>simp [intOf];omega
    ·have b2:(ty != 2)=true:=by simp [h2]
     have HVF:=HF (HM (by simp [ji,h1,h2]))
     go_wp2_with (go_at_call 48;refine (iH _ _ _).mono ?_;rintro e w' ⟨rfl,rfl⟩);exact aG rfl HVF
  ·have Uo:j=n:=by omega
   have hV:V=true:=by rw [<-HV.out,<-HA.out,List.take_of_length_le (by rw [HN.out,Uo];exact zL _)]
   have HVT:=HT hV;go_wp2;go_end0;exact HVT
end
section
open Go.RowKit
theorem fw (l:List UInt8):(str l).toList=l:=by rw [Lib.toList_data]
theorem ni (zz:ByteArray)(l:List UInt8)(hz:zz.toList=l)(w:World) :
  Calls prog 147 #[.string zz] w fun e w'=>e=.returned (.bool (isW l))/\w=w':=by
 go_enter func147,ntmps147;go_wp2;all_goals (go_ret;refine ⟨ik ?_,rfl⟩;subst hz;simp_all [isW,Cn,pM,lQ,iO,pK,wIf,jG,gP,jF,dS,wIn,mU])
theorem BD (zz:ByteArray)(l:List UInt8)(hz:zz.toList=l)(w:World) :
  Calls prog 184 #[.string zz] w fun e w'=>e=.returned (Iv (lvl l:Nat))/\w=w':=by
 go_enter func184,ntmps184;go_wp2;all_goals (go_ret;refine ⟨j3 ?_,rfl⟩;subst hz;simp_all [lvl])
abbrev gY:Nat:=1
theorem nY:prog.globalNamed "mortise/parse.typeNames" =some gY:=by kernel_rfl
abbrev tys:List (List UInt8):=[pK,lQ,iO,pM]
structure ku (w:World):Prop where
 ty:w.var? prog "mortise/parse.typeNames" =some (tys.map fun z=>Value.string (str z)).toArray
 szY:gY<w.heap.size
theorem ku.below {w w':World}{B:Nat}(h:ku w)(hb:Below B w w')(hB:w.heap.size<=B):ku w':=
 ⟨(mE nY hb (zT h.szY hB)).trans h.ty,Nat.lt_of_lt_of_le h.szY hb.size⟩
def TY:Array Value:=(tys.map fun z=>Value.string (str z)).toArray
theorem MR (i:Nat)(h:i<tys.length):TY[i]? =some (.string (str tys[i])):=by simp only [TY,List.getElem?_toArray,List.getElem?_map,List.getElem?_eq_getElem h,Option.map_some]
theorem tyU:∃d,prog.underlying 170=some d/\d.isRow=true:=⟨_,underlying170,rfl⟩
theorem I8:(prog.info? 170).map (·.size)=some TY.toList.length:=by kernel_rfl
theorem Ff {w:World}(h:ku w):w.rangeAt gY 0 TY.toList:=by
 intro j v hv;rw [Nat.zero_add,World.var?_cell nY h.ty j]
 simpa [TY] using hv
theorem LH (k : Nat)(h : k < tys.length)(w : World) : (Instr.index 170 (.agg TY) (Iv k)).run prog w = .ok (.string (str tys[k])) w := by
  have h30 : (k : Int) < 4 := by have : tys.length = 4 := by decide
                                 omega
  have PL := MR k h
  have hat' : TY[k]? = some (.string (str tys[k])) := PL
  simp [Instr.index, run_underlying underlying170, asIntOf, h30, go_sem, part, Tryz.sizeOf9, Tryz.isAgg9]
  rw [if_pos (by omega), PL]
  rfl
theorem AU {l:List UInt8}{k:Nat}(hk:k<4)(h:(tys[k]'(by simpa using hk))=l):eH l=some (k:Int):=by
 subst h;rcases (by omega:k=0∨k=1∨k=2∨k=3) with rfl|rfl|rfl|rfl <;> rfl
theorem wz {l:List UInt8}(h:∀k,(hk:k<4)->(tys[k]'(by simpa using hk))≠l):eH l=none:=by
 have h0:=h 0 (by omega);have h1:=h 1 (by omega);have h2:=h 2 (by omega);have h3:=h 3 (by omega)
 simp only [List.getElem_cons_zero,List.getElem_cons_succ] at h0 h1 h2 h3;rw [eH,if_neg (Ne.symm h0),if_neg (Ne.symm h1),if_neg (Ne.symm h2),if_neg (Ne.symm h3)]
theorem mM (zz:ByteArray)(l:List UInt8)(hz:zz.toList=l)(w:World)(hE:ku w) :
  Calls prog 116 #[.string zz] w fun e w'=>e=.returned (.tuple #[Iv ((eH l).getD 0),.bool (eH l).isSome])/\w=w':=by
 have hR:=Ff hE;obtain ⟨d,hu,hr⟩:=tyU;have HR:=Hy hR;have HD:=Hy2 hu hr;have HZ:=Hy hz;clear hR hu hr hz;go_enter func116,ntmps116;go_wp2_with (with_reducible refine wpList_load_mid rfl 170 (Operand.global 1) rfl gY 0 rfl TY.toList d HR.out HD.out.1 HD.out.2 I8 ?_);go_loopw [7] (fun v wr=>∃k:Nat,k<=4/\v=Iv k/\wr=w/\∀j,(hj:j<4)->j<k->(tys[j]'(by simpa using hj))≠l) (fun i _=>4 - (intOf i).toNat)
 case atStart=>exact ⟨0,by omega,rfl,rfl,fun j _ h=>by omega⟩
 case round=>
  obtain ⟨k,hk,rfl,rfl,hn⟩:=hrel;by_cases hlt:k<4
  ·have VS:=fun W=>LH k (by simpa using hlt) W
   have hS:=fun hp=>AU (l:=l) hlt hp
   have hN:(tys[k]'(by simpa using hlt))≠l->∀j,(hj:j<4)->j<k+1->(tys[j]'(by simpa using hj))≠l:=fun hp j hj hjk=>by
    rcases (by omega:j<k∨j=k) with h|rfl
    ·exact hn j hj h
    ·exact hp
   generalize tys[k]'(by simpa using hlt)=z at *
   have HS:=Hy hS;have HN:=Hy hN;clear hS hN hn;by_cases hp:z=l
   ·have hq:(z == zz.toList)=true:=by rw [HZ.out];simpa using hp
    have e:=HS.out hp;have HE:=Hy e;clear e hp;go_wp2;refine bodyPost_ret (v:=.tuple #[Iv k,.bool true]) (by simp [results,Tryz.results116]) rfl ?_
    rw [HE.out];exact ⟨rfl,rfl⟩
   ·have hq:(z == zz.toList)=false:=by rw [HZ.out];simpa using hp
    have e:=HN.out hp;have HE:=Hy e;clear e hp;go_wp2;go_roundw
    case rel=>exact ⟨k+1,by omega,by go_num,trivial,HE.out⟩
    case measure=>simp [intOf];omega
  ·obtain rfl:k=4:=by omega
   have e:=wz fun j hj=>hn j hj hj
   have HE:=Hy e;clear e hn;go_wp2;refine bodyPost_ret (v:=.tuple #[Iv 0,.bool false]) (by simp [results,Tryz.results116]) rfl ?_
   rw [HE.out];exact ⟨rfl,rfl⟩
end
end Go.Proofs.YtcchdlnfeijinaaGreatDoor
