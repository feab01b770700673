/- Clb to Cld: Layer check: a program is copied, without what checking tells: views, and the copies of its three li -/
import Derived.Test.YtcchdlnfeijinaaGreatDoorNai
namespace Go.Proofs.YtcchdlnfeijinaaGreatDoor
open Go.Proofs.Tryz
set_option linter.unusedSimpArgs false
set_option linter.unusedVariables false
set_option maxHeartbeats 4000000
set_option maxRecDepth 100000
section
open Go Go.RowKit Go.Maps
abbrev aK:TypeId:=27
structure PgI (w:World) (gA fA nA:Option Addr) (gc fc nc:Nat) (gs:List Gl) (fl:List (Fn'×Value)) (vls:List Value) (ns:List CN) (tr:List (Int×Int)):Prop where
 g:RdS w (.slice gA gs.length gc) gs.length (gs.flatMap glC)
 f:RdS w (.slice fA fl.length fc) fl.length (dE fl vls)
 n:RdS w (.slice nA ns.length nc) ns.length (aI ns tr)
 vl:vls.length=fl.length
 tl:tr.length=ns.length
 vs:∀v∈vls,∃A n c,v=.slice A n c
 ps:∀x∈fl,RdS w x.2 x.1.ps.length (x.1.ps.flatMap cz)
 ks:∀x∈ns,RdS w x.v x.kids.length (ints (bK x.kids))
abbrev pgV (gA fA nA:Option Addr) (gn gc fn fc nn nc:Nat):Value:=.agg #[.slice gA gn gc,.slice fA fn fc,.slice nA nn nc]
theorem RdS.one {w:World}{v:Value}{n:Nat}{xs:List Value}(h:RdS w v n xs):v.oneCell'=true:=by
 obtain ⟨A,c,rfl,_⟩:=h
 rfl
theorem bg {w:World}{B B' sz n:Nat}{t:TypeId}{v:Value}{xs:List Value}(h:w.ownsRow B t sz v n xs)(hB:B'<=B):w.ownsRow B' t sz v n xs:=
 ⟨h.1,h.2.imp id fun ⟨g,cap,cur,e,h5,h6⟩=>⟨g,cap,cur,e,Nat.le_trans hB h5,h6⟩⟩
theorem GR (gs:List Gl):∀u∈gs.flatMap glC,u.oneCell'=true:=by
 intro u hu;obtain ⟨g,-,hg⟩:=List.mem_flatMap.1 hu;simp only [glC,List.mem_cons,List.not_mem_nil,or_false] at hg;rcases hg with rfl|rfl|rfl|rfl <;> rfl
theorem FT (ps:List Pm):∀u∈ps.flatMap cz,u.oneCell'=true:=by
 intro u hu;obtain ⟨g,-,hg⟩:=List.mem_flatMap.1 hu;simp only [cz,List.mem_cons,List.not_mem_nil,or_false] at hg;rcases hg with rfl|rfl <;> rfl
theorem Ef (l:List Int):∀u∈ints l,u.oneCell'=true:=by
 intro u hu;obtain ⟨i,-,rfl⟩:=List.mem_map.1 hu
 rfl
theorem Ew {fl:List (Fn'×Value)}{vls:List Value}(h:∀x∈fl,x.2.oneCell'=true)(hv:∀v∈vls,v.oneCell'=true):∀u∈dE fl vls,u.oneCell'=true:=by
 intro u hu;obtain ⟨⟨x,v⟩,hxv,hg⟩:=List.mem_flatMap.1 hu;have hx:=List.of_mem_zip hxv;simp only [fnC,List.mem_cons,List.not_mem_nil,or_false] at hg;rcases hg with rfl|rfl|rfl|rfl|rfl|rfl
 ·rfl
 ·rfl
 ·exact h _ hx.1
 ·rfl
 ·rfl
 ·exact hv _ hx.2
theorem xG {ns:List CN}{tr:List (Int×Int)}(h:∀x∈ns,x.v.oneCell'=true):∀u∈aI ns tr,u.oneCell'=true:=by
 intro u hu;obtain ⟨⟨x,v⟩,hxv,hg⟩:=List.mem_flatMap.1 hu;have hx:=List.of_mem_zip hxv;simp only [aA,List.mem_cons,List.not_mem_nil,or_false] at hg;rcases hg with rfl|rfl|rfl|rfl|rfl|rfl|rfl|rfl
 ·rfl
 ·rfl
 ·rfl
 ·rfl
 ·rfl
 ·exact h _ hx.1
 ·rfl
 ·rfl
theorem Ex {fl:List (Fn'×Value)}{vls:List Value}(h:vls.length=fl.length):(dE fl vls).length=fl.length * 6:=by
 unfold dE;rw [jE _ 6 (fun _=>rfl),List.length_zip,h,Nat.min_self]
theorem xH {ns:List CN}{tr:List (Int×Int)}(h:tr.length=ns.length):(aI ns tr).length=ns.length * 8:=by
 unfold aI;rw [jE _ 8 (fun _=>rfl),List.length_zip,h,Nat.min_self]
section
variable {w:World} {gA fA nA:Option Addr} {gc fc nc:Nat} {gs:List Gl} {fl:List (Fn'×Value)} {vls:List Value} {ns:List CN} {tr:List (Int×Int)}
theorem PgI.on {w':World}(h:PgI w gA fA nA gc fc nc gs fl vls ns tr)(hb:Zw w w'):PgI w' gA fA nA gc fc nc gs fl vls ns tr:=
 ⟨h.g.on hb,h.f.on hb,h.n.on hb,h.vl,h.tl,h.vs,fun x hx=>(h.ps x hx).on hb,fun x hx=>(h.ks x hx).on hb⟩
structure UnO (B k:Nat) (gv fv nv:Value) (gs:List Gl) (fl:List (Fn'×Value)) (vls:List Value) (ns:List CN) (tr:List (Int×Int)) (w:World):Prop where
 out:Blk w k aK #[gv,fv,nv]
 g:w.ownsRow B tGb 4 gv gs.length (gs.flatMap glC)
 f:w.ownsRow B tFu 6 fv fl.length (dE fl vls)
 n:w.ownsRow B tNd 8 nv ns.length (aI ns tr)
 kB:B<=k
 BH:B<=w.heap.size
theorem dO {B sz n k:Nat}{t:TypeId}{v:Value}{xs:List Value}{u:Value}{j:Nat}{cs:Array Value}(h:w.ownsRow B t sz v n xs)(Z:Blk w k aK cs)(ht:t≠aK):(w.setCell (Ad k j) u).ownsRow B t sz v n xs:=by
 have hg:w.grownBy (w.setCell (Ad k j) u) (some k):=⟨rfl,rfl,rfl,by simp,fun m _ hm=>heap_setCell_other w (Ad k j) m u (fun e=>hm (by simp [e]))⟩
 refine ah hg h (fun r e1 e2=>?_)
 cases e1;exact au (ag h e2) Z.kind ht rfl
theorem Fe {B:Nat}{gv fv nv:Value}(RG:w.ownsRow B tGb 4 gv gs.length (gs.flatMap glC))(RF:w.ownsRow B tFu 6 fv fl.length (dE fl vls))(RN:w.ownsRow B tNd 8 nv ns.length (aI ns tr))(hB:B<=w.heap.size) :
  UnO B w.heap.size gv fv nv gs fl vls ns tr (w.alloc (.cells #[gv,fv,nv] aK)):=
 ⟨Blk.new _ _ _,RG.alloc _,RF.alloc _,RN.alloc _,hB,by simp;omega⟩
theorem Fb {B k:Nat}{gv fv nv:Value}{cs:Array Value}(hc:cs.size=3)(Z:Blk w k aK cs)(RG:w.ownsRow B tGb 4 gv gs.length (gs.flatMap glC))(RF:w.ownsRow B tFu 6 fv fl.length (dE fl vls))(RN:w.ownsRow B tNd 8 nv ns.length (aI ns tr))(hk:B<=k)(hB:B<=w.heap.size) :
  UnO B k gv fv nv gs fl vls ns tr (((w.setCell (Ad k 0) gv).setCell (Ad k 1) fv).setCell (Ad k 2) nv):=by
 have Z1:=Z.af 0 gv;have Z2:=Z1.af 1 fv;have Z3:=Z2.af 2 nv;refine ⟨?_,dO (dO (dO RG Z (by decide)) Z1 (by decide)) Z2 (by decide),dO (dO (dO RF Z (by decide)) Z1 (by decide)) Z2 (by decide),dO (dO (dO RN Z (by decide)) Z1 (by decide)) Z2 (by decide),hk,by simp;omega⟩
 obtain ⟨l⟩:=cs
 match l,hc with
 | [a,b,c],_=>exact Z3
theorem lT {B sz n g cap j:Nat}{t:TypeId}{xs:List Value}{u:Value}(h:w.ownsRow B t sz (Sl g n cap) n xs)(hj:xs[j]? =some u):w.setCell (Ad g j) u=w:=by
 rcases h.2 with ⟨e,_⟩|⟨g',cap',cur,e,hb,hg,h1,h2,h3,h4⟩
 ·cases e
 simp only [Value.slice.injEq,Option.some.injEq,Addr.mk.injEq,and_true,true_and] at e;obtain ⟨rfl,rfl⟩:=e;have xP:=(zS.1 hj).1;have Yr:cur[j]? =some u:=by
  rw [<-h4,List.getElem?_take] at hj;split at hj
  ·simpa using hj
  ·cases hj
 have xc:cur.setIfInBounds j u=cur:=by
  apply Array.ext_getElem?;intro m;by_cases hm:j=m
  ·subst hm;rw [Array.getElem?_setIfInBounds_self_of_lt (Array.getElem?_eq_some_iff.1 Yr).1,Yr]
  ·rw [Array.getElem?_setIfInBounds_ne hm]
 have eh:(w.setCell (Ad g j) u).heap=w.heap:=by
  apply Array.ext_getElem?;intro m;by_cases hm:m=g
  ·subst hm;rw [heap_setCell_same w m j cur t u hg,hg,xc]
  ·exact heap_setCell_other w (Ad g j) m u hm
 calc w.setCell (Ad g j) u={w with heap:=(w.setCell (Ad g j) u).heap}:=rfl
  _=w:=by rw [eh]
theorem BO (fl:List (Fn'×Value))(vls:List Value)(i:Nat){f:Fn'}{p v:Value}(hx:fl[i]? =some (f,p))(hv:vls[i]? =some v)(u:Value):(dE fl vls).set (i * 6+2) u=dE (fl.set i (f,u)) vls:=by
 unfold dE;have h1:=(zS.1 hx).1;have h2:=(zS.1 hv).1;have hz:(fl.zip vls)[i]? =some ((f,p),v):=by rw [List.getElem?_zip_eq_some];exact ⟨hx,hv⟩
 have Ox:=(zS.1 hz).1;have Vz:(fl.zip vls)[i]=((f,p),v):=(zS.1 hz).2;rw [mi _ 6 (by omega) (fun _=>rfl) (fl.zip vls) i 2 Ox (by omega) ((f,u),v) u (by rw [Vz];rfl)]
 congr 1
 apply List.ext_getElem?;intro k;by_cases hk:i=k
 ·subst hk;rw [List.getElem?_set_self Ox]
  symm
  rw [List.getElem?_zip_eq_some];exact ⟨List.getElem?_set_self h1,hv⟩
 ·rw [List.getElem?_set_ne hk];apply Option.ext;intro y;rw [List.getElem?_zip_eq_some,List.getElem?_zip_eq_some,List.getElem?_set_ne hk]
theorem vM (nc:List CN)(tc:List (Int×Int))(i:Nat){x:CN}{t:Int×Int}(hx:nc[i]? =some x)(ht:tc[i]? =some t)(u:Value):(aI nc tc).set (i * 8+5) u=aI (nc.set i {x with v:=u}) tc:=by
 unfold aI;have h1:=(zS.1 hx).1;have h2:=(zS.1 ht).1;have hz:(nc.zip tc)[i]? =some (x,t):=by rw [List.getElem?_zip_eq_some];exact ⟨hx,ht⟩
 have Ox:=(zS.1 hz).1;have Vz:(nc.zip tc)[i]=(x,t):=(zS.1 hz).2;rw [mi _ 8 (by omega) (fun _=>rfl) (nc.zip tc) i 5 Ox (by omega) ({x with v:=u},t) u (by rw [Vz];rfl)]
 congr 1
 apply List.ext_getElem?;intro k;by_cases hk:i=k
 ·subst hk;rw [List.getElem?_set_self Ox]
  symm
  rw [List.getElem?_zip_eq_some];exact ⟨List.getElem?_set_self h1,ht⟩
 ·rw [List.getElem?_set_ne hk];apply Option.ext;intro y;rw [List.getElem?_zip_eq_some,List.getElem?_zip_eq_some,List.getElem?_set_ne hk]
theorem eX {B B2 sz n sz2 n2 g cap j:Nat}{t t2:TypeId}{v:Value}{xs xs2:List Value}{u:Value}(h:w.ownsRow B t sz v n xs)(h2:w.ownsRow B2 t2 sz2 (Sl g n2 cap) n2 xs2)(ht:t≠t2):(w.setCell (Ad g j) u).ownsRow B t sz v n xs:=by
 refine ah (h2.stored j u).2 h (fun r e1 e2=>?_)
 cases e1;exact au (ag h e2) (ag h2 rfl) ht rfl
theorem UnO.on {B k:Nat}{gv fv nv:Value}{w':World}(h:UnO B k gv fv nv gs fl vls ns tr w)(hb:Zw w w'):UnO B k gv fv nv gs fl vls ns tr w':=
 have hg:=aj hb
 ⟨h.out.below hb h.out.lt,ah hg h.g (by simp),ah hg h.f (by simp),ah hg h.n (by simp),h.kB,Nat.le_trans h.BH hb.size⟩
theorem UnO.fp {B k fb fc j:Nat}{gv nv p v u:Value}{f:Fn'}(h:UnO B k gv (Sl fb fl.length fc) nv gs fl vls ns tr w)(hx:fl[j]? =some (f,p))(hv:vls[j]? =some v) :
  UnO B k gv (Sl fb (fl.set j (f,u)).length fc) nv gs (fl.set j (f,u)) vls ns tr (w.setCell (Ad fb (j * 6+2)) u):=by
 have hs:=h.f.stored (j * 6+2) u;rw [BO fl vls j hx hv u] at hs;exact ⟨by rw [List.length_set];exact ak hs.2 h.out (fun e=>au h.out.kind (ag h.f rfl) (by decide) (Option.some.inj e).symm),eX h.g h.f (by decide),by rw [List.length_set];exact hs.1,eX h.n h.f (by decide),h.kB,by have:=h.BH;simp;omega⟩
theorem UnO.fv {B k fb fc j:Nat}{gv nv v u:Value}{x:Fn'×Value}(h:UnO B k gv (Sl fb fl.length fc) nv gs fl vls ns tr w)(hx:fl[j]? =some x)(hv:vls[j]? =some v) :
  UnO B k gv (Sl fb fl.length fc) nv gs fl (vls.set j u) ns tr (w.setCell (Ad fb (j * 6+5)) u):=by
 have hs:=h.f.stored (j * 6+5) u;rw [oG fl vls j hx hv u] at hs;exact ⟨ak hs.2 h.out (fun e=>au h.out.kind (ag h.f rfl) (by decide) (Option.some.inj e).symm),eX h.g h.f (by decide),hs.1,eX h.n h.f (by decide),h.kB,by have:=h.BH;simp;omega⟩
theorem UnO.nk {B k nb nc j:Nat}{gv fv u:Value}{x:CN}{t:Int×Int}(h:UnO B k gv fv (Sl nb ns.length nc) gs fl vls ns tr w)(hx:ns[j]? =some x)(ht:tr[j]? =some t) :
  UnO B k gv fv (Sl nb (ns.set j {x with v:=u}).length nc) gs fl vls (ns.set j {x with v:=u}) tr (w.setCell (Ad nb (j * 8+5)) u):=by
 have hs:=h.n.stored (j * 8+5) u;rw [vM ns tr j hx ht u] at hs;exact ⟨by rw [List.length_set];exact ak hs.2 h.out (fun e=>au h.out.kind (ag h.n rfl) (by decide) (Option.some.inj e).symm),eX h.g h.n (by decide),eX h.f h.n (by decide),by rw [List.length_set];exact hs.1,h.kB,by have:=h.BH;simp;omega⟩
theorem UnO.nt {B k nb nc j i:Nat}{gv fv:Value}{x:CN}{t t':Int×Int}(h:UnO B k gv fv (Sl nb ns.length nc) gs fl vls ns tr w)(hi:i<8)(hx:ns[j]? =some x)(ht:tr[j]? =some t)(u:Value)(hu:aA x t'=(aA x t).set i u) :
  UnO B k gv fv (Sl nb ns.length nc) gs fl vls ns (tr.set j t') (w.setCell (Ad nb (j * 8+i)) u):=by
 have hs:=h.n.stored (j * 8+i) u;rw [ja ns tr j i hi hx ht u hu] at hs;exact ⟨ak hs.2 h.out (fun e=>au h.out.kind (ag h.n rfl) (by decide) (Option.some.inj e).symm),eX h.g h.n (by decide),eX h.f h.n (by decide),hs.1,h.kB,by have:=h.BH;simp;omega⟩
structure qx (W1:World) (k:Nat) (gv fv nv:Value) (gs:List Gl) (fl:List (Fn'×Value)) (ns:List CN) (tr:List (Int×Int)) (j:Nat) (fc:List (Fn'×Value)) (vc:List Value) (w:World):Prop where
 o:UnO W1.heap.size k gv fv nv gs fc vc ns tr w
 e:fc.map (·.1)=fl.map (·.1)
 u:∀i,j<=i->fc[i]? =fl[i]?
 vl:vc.length=fl.length
 v:∀i,i<j->vc[i]? =some (Sn)
 p:∀(i:Nat) (x:Fn'×Value),i<j->fc[i]? =some x->w.ownsRow W1.heap.size tPr 2 x.2 x.1.ps.length (x.1.ps.flatMap cz)
 bl:Zw W1 w
theorem qx.len {W1:World}{k:Nat}{gv fv nv:Value}{j:Nat}{fc:List (Fn'×Value)}{vc:List Value}(h:qx W1 k gv fv nv gs fl ns tr j fc vc w):fc.length=fl.length:=by
 have:=congrArg List.length h.e
 simpa using this
theorem qx.on {W1:World}{k:Nat}{gv fv nv:Value}{j:Nat}{fc:List (Fn'×Value)}{vc:List Value}{w':World}(h:qx W1 k gv fv nv gs fl ns tr j fc vc w)(hb:Zw w w'):qx W1 k gv fv nv gs fl ns tr j fc vc w':=
 ⟨h.o.on hb,h.e,h.u,h.vl,h.v,fun i x hi hx=>ah (aj hb) (h.p i x hi hx) (by simp),h.bl.trans (hb.mono h.o.BH)⟩
theorem qx.step {W1:World}{k:Nat}{gv fv nv:Value}{fb fcap j:Nat}{fc:List (Fn'×Value)}{vc:List Value}{f:Fn'}{p pv:Value}(h:qx W1 k gv fv nv gs fl ns tr j fc vc w)(JO:fv=Sl fb fl.length fcap)(hx:fc[j]? =some (f,p))(hp:w.ownsRow W1.heap.size tPr 2 pv f.ps.length (f.ps.flatMap cz)) :
  qx W1 k gv fv nv gs fl ns tr (j+1) (fc.set j (f,pv)) (vc.set j (Sn)) (((w.setCell (Ad fb (j * 6)) (Ss f.s)).setCell (Ad fb (j * 6+2)) pv).setCell (Ad fb (j * 6+5)) (Sn)):=by
 have xP:=(zS.1 hx).1;have ho:UnO W1.heap.size k gv (Sl fb fc.length fcap) nv gs fc vc ns tr w:=by rw [h.len,<-JO];exact h.o
 obtain ⟨v0,TE⟩:∃v,vc[j]? =some v:=⟨_,List.getElem?_eq_getElem (by rw [h.vl,<-h.len];exact xP)⟩
 have hn:(dE fc vc)[j * 6]? =some (Ss f.s):=by
  have:=bQ fc vc j 0 (by omega) hx TE
  rw [Nat.add_zero] at this;exact this
 rw [lT ho.f hn];have h1:=ho.fp hx TE (u:=pv);have Tc:(fc.set j (f,pv))[j]? =some (f,pv):=List.getElem?_set_self xP;have h2:=h1.fv Tc TE (u:=Sn);have Nz:W1.heap.size<=fb:=(ho.f.lt fb rfl).1;refine ⟨by rw [List.length_set,h.len,<-JO] at h2;exact h2,?_,?_,by rw [List.length_set];exact h.vl,?_,?_,(h.bl.setCell (p:=Ad fb _) Nz _).setCell (p:=Ad fb _) Nz _⟩
 ·rw [List.map_set,<-h.e];apply List.ext_getElem?;intro m;by_cases hm:j=m
  ·subst hm;rw [List.getElem?_set_self (by simpa using xP),List.getElem?_map,hx]
   rfl
  ·rw [List.getElem?_set_ne hm]
 ·intro i hi;rw [List.getElem?_set_ne (by omega)]
  exact h.u i (by omega)
 ·intro i hi;by_cases hm:j=i
  ·subst hm;exact List.getElem?_set_self (by rw [h.vl,<-h.len];exact xP)
  ·rw [List.getElem?_set_ne hm];exact h.v i (by omega)
 ·intro i x hi hxi;have ai:w.ownsRow W1.heap.size tPr 2 x.2 x.1.ps.length (x.1.ps.flatMap cz):=by
   by_cases hm:j=i
   ·subst hm;rw [Tc] at hxi;cases hxi;exact hp
   ·rw [List.getElem?_set_ne hm] at hxi;exact h.p i x (by omega) hxi
  exact eX (eX ai ho.f (by decide)) h1.f (by decide)
structure nJ (W1:World) (k:Nat) (gv fv nv:Value) (gs:List Gl) (fl:List (Fn'×Value)) (vls:List Value) (ns:List CN) (tr:List (Int×Int)) (j:Nat) (nc:List CN) (tc:List (Int×Int)) (w:World):Prop where
 o:UnO W1.heap.size k gv fv nv gs fl vls nc tc w
 e:nc.map CN.nd=ns.map CN.nd
 u:∀i,j<=i->nc[i]? =ns[i]?/\tc[i]? =tr[i]?
 tl:tc.length=ns.length
 t:∀(i:Nat) (x:CN) (t:Int×Int),i<j->ns[i]? =some x->tr[i]? =some t->tc[i]? =some (if x.h.op=1 then t.1 else 0,0)
 kd:∀(i:Nat) (x:CN),i<j->nc[i]? =some x->w.ownsRow W1.heap.size aC 1 x.v x.kids.length (ints (bK x.kids))
 p:∀x∈fl,w.ownsRow W1.heap.size tPr 2 x.2 x.1.ps.length (x.1.ps.flatMap cz)
 bl:Zw W1 w
theorem nJ.len {W1:World}{k:Nat}{gv fv nv:Value}{j:Nat}{nc:List CN}{tc:List (Int×Int)}(h:nJ W1 k gv fv nv gs fl vls ns tr j nc tc w):nc.length=ns.length:=by
 have:=congrArg List.length h.e
 simpa using this
theorem nJ.on {W1:World}{k:Nat}{gv fv nv:Value}{j:Nat}{nc:List CN}{tc:List (Int×Int)}{w':World}(h:nJ W1 k gv fv nv gs fl vls ns tr j nc tc w)(hb:Zw w w'):nJ W1 k gv fv nv gs fl vls ns tr j nc tc w':=
 ⟨h.o.on hb,h.e,h.u,h.tl,h.t,fun i x hi hx=>ah (aj hb) (h.kd i x hi hx) (by simp),fun x hx=>ah (aj hb) (h.p x hx) (by simp),h.bl.trans (hb.mono h.o.BH)⟩
theorem nJ.fin {W1:World}{k:Nat}{gv fv nv kv:Value}{j:Nat}{nc:List CN}{tc:List (Int×Int)}{x:CN}{t:Int×Int}{w':World}(h:nJ W1 k gv fv nv gs fl vls ns tr j nc tc w)(hx:nc[j]? =some x)(ht:tc[j]? =some t)(hk:w.ownsRow W1.heap.size aC 1 kv x.kids.length (ints (bK x.kids)))
  (ho:UnO W1.heap.size k gv fv nv gs fl vls (nc.set j {x with v:=kv}) (tc.set j (if x.h.op=1 then t.1 else 0,0)) w')
  (hf:∀(t:TypeId) (sz n:Nat) (v:Value) (xs:List Value),t≠tNd->w.ownsRow W1.heap.size t sz v n xs->w'.ownsRow W1.heap.size t sz v n xs) (hb:Below W1.heap.size w w') :
  nJ W1 k gv fv nv gs fl vls ns tr (j+1) (nc.set j {x with v:=kv}) (tc.set j (if x.h.op=1 then t.1 else 0,0)) w':=by
 have xP:=(zS.1 hx).1;have Oo:=(zS.1 ht).1;have hu:=h.u j (zL _);refine ⟨ho,?_,?_,by rw [List.length_set];exact h.tl,?_,?_,fun y hy=>hf _ _ _ _ _ (by decide) (h.p y hy),h.bl.trans hb⟩
 ·rw [List.map_set,<-h.e];apply List.ext_getElem?;intro m;by_cases hm:j=m
  ·subst hm;rw [List.getElem?_set_self (by simpa using xP),List.getElem?_map,hx]
   rfl
  ·rw [List.getElem?_set_ne hm]
 ·intro i hi;rw [List.getElem?_set_ne (by omega),List.getElem?_set_ne (by omega)]
  exact h.u i (by omega)
 ·intro i y s hi hy hs;by_cases hm:j=i
  ·subst hm;rw [<-hu.1,hx] at hy;rw [<-hu.2,ht] at hs;cases hy;cases hs;exact List.getElem?_set_self Oo
  ·rw [List.getElem?_set_ne hm];exact h.t i y s (by omega) hy hs
 ·intro i y hi hy;refine hf _ _ _ _ _ (by decide) ?_
  by_cases hm:j=i
  ·subst hm;rw [List.getElem?_set_self xP] at hy;cases hy;exact hk
  ·rw [List.getElem?_set_ne hm] at hy;exact h.kd i y (by omega) hy
theorem nJ.step {W1:World}{k:Nat}{gv fv nv kv:Value}{nb XD j:Nat}{nc:List CN}{tc:List (Int×Int)}{x:CN}{t:Int×Int}(h:nJ W1 k gv fv nv gs fl vls ns tr j nc tc w)(XY:nv=Sl nb ns.length XD)(hx:nc[j]? =some x)(ht:tc[j]? =some t)(hk:w.ownsRow W1.heap.size aC 1 kv x.kids.length (ints (bK x.kids))) :
  (x.h.op=1->nJ W1 k gv fv nv gs fl vls ns tr (j+1) (nc.set j {x with v:=kv}) (tc.set j (if x.h.op=1 then t.1 else 0,0)) (((w.setCell (Ad nb (j * 8+3)) (Ss x.h.s)).setCell (Ad nb (j * 8+5)) kv).setCell (Ad nb (j * 8+7)) (Iv 0)))/\
  (x.h.op≠1->nJ W1 k gv fv nv gs fl vls ns tr (j+1) (nc.set j {x with v:=kv}) (tc.set j (if x.h.op=1 then t.1 else 0,0)) ((((w.setCell (Ad nb (j * 8+3)) (Ss x.h.s)).setCell (Ad nb (j * 8+5)) kv).setCell (Ad nb (j * 8+7)) (Iv 0)).setCell (Ad nb (j * 8+6)) (Iv 0))):=by
 have xP:=(zS.1 hx).1;have hO:UnO W1.heap.size k gv fv (Sl nb nc.length XD) gs fl vls nc tc w:=by rw [h.len,<-XY];exact h.o
 have Oo:=(zS.1 ht).1;rw [lT hO.n (show (aI nc tc)[j * 8+3]? =some (Ss x.h.s) from aV nc tc j 3 (by omega) hx ht)]
 have Tg:W1.heap.size<=nb:=(hO.n.lt nb rfl).1;have o1:=hO.nk hx ht (u:=kv);have Tc:(nc.set j {x with v:=kv})[j]? =some {x with v:=kv}:=List.getElem?_set_self xP;have o2:=o1.nt (i:=7) (t':=(t.1,0)) (by omega) Tc ht (Iv 0) rfl
 have ht2:(tc.set j (t.1,0))[j]? =some (t.1,0):=List.getElem?_set_self Oo;have hcv:∀{tt:List (Int×Int)} {w':World},UnO W1.heap.size k gv fv (Sl nb (nc.set j {x with v:=kv}).length XD) gs fl vls (nc.set j {x with v:=kv}) tt w'->UnO W1.heap.size k gv fv nv gs fl vls (nc.set j {x with v:=kv}) tt w':=fun h9=>by rw [List.length_set,h.len,<-XY] at h9;exact h9
 have aU:Below W1.heap.size w ((w.setCell (Ad nb (j * 8+5)) kv).setCell (Ad nb (j * 8+7)) (Iv 0)):=((zB _ _).setCell (p:=Ad nb _) Tg _).setCell (p:=Ad nb _) Tg _;constructor
 ·intro ho;refine h.fin hx ht hk (by rw [if_pos ho];exact hcv o2) (fun T sz n v xs hT hr=>eX (eX hr hO.n hT) o1.n hT) aU
 ·intro ho;have o3:=o2.nt (i:=6) (t':=(0,0)) (by omega) Tc ht2 (Iv 0) rfl
  rw [List.set_set] at o3;refine h.fin hx ht hk (by rw [if_neg ho];exact hcv o3) (fun T sz n v xs hT hr=>eX (eX (eX hr hO.n hT) o1.n hT) o2.n hT) (aU.setCell (p:=Ad nb _) Tg _)
end
end
section
open Go Go.RowKit Go.Maps
def trZ (ns:List CN) (tr:List (Int×Int)):List (Int×Int):=(ns.zip tr).map fun y=>(if y.1.h.op=1 then y.2.1 else 0,0)
theorem Cw {ns:List CN}{tr tc:List (Int×Int)}(hl:tr.length=ns.length)(h1:tc.length=ns.length)(h2:∀(i:Nat) (x:CN) (t:Int×Int),i<ns.length->ns[i]? =some x->tr[i]? =some t->tc[i]? =some (if x.h.op=1 then t.1 else 0,0)):tc=trZ ns tr:=by
 apply List.ext_getElem?;intro i;unfold trZ;rw [List.getElem?_map];by_cases hi:i<ns.length
 ·obtain ⟨x,hx⟩:∃x,ns[i]? =some x:=⟨_,List.getElem?_eq_getElem hi⟩;obtain ⟨t,ht⟩:∃t,tr[i]? =some t:=⟨_,List.getElem?_eq_getElem (by omega)⟩
  rw [h2 i x t hi hx ht,show (ns.zip tr)[i]? =some (x,t) by rw [List.getElem?_zip_eq_some];exact ⟨hx,ht⟩]
  rfl
 ·rw [List.getElem?_eq_none (by omega),List.getElem?_eq_none (by simp;omega)]
  rfl
def UnP (gs:List Gl) (fl:List (Fn'×Value)) (ns:List CN) (tr:List (Int×Int)) (w:World) (e:Ending) (w':World):Prop:=
 ∃(gA fA nA:Option Addr) (gc fc nc:Nat) (Ra:List (Fn'×Value)) (ns':List CN),e=.returned (pgV gA fA nA gs.length gc fl.length fc ns.length nc)/\Below w.heap.size w w'/\
  w'.ownsRow w.heap.size tGb 4 (.slice gA gs.length gc) gs.length (gs.flatMap glC)/\w'.ownsRow w.heap.size tFu 6 (.slice fA fl.length fc) fl.length (dE Ra (List.replicate fl.length (Sn)))/\w'.ownsRow w.heap.size tNd 8 (.slice nA ns.length nc) ns.length (aI ns' (trZ ns tr))/\
  Ra.map (·.1)=fl.map (·.1)/\(∀x∈Ra,w'.ownsRow w.heap.size tPr 2 x.2 x.1.ps.length (x.1.ps.flatMap cz))/\ns'.map CN.nd=ns.map CN.nd/\(∀x∈ns',w'.ownsRow w.heap.size aC 1 x.v x.kids.length (ints (bK x.kids)))/\
  (1<=gs.length->∃b,gA=some (Ad b 0))/\(1<=fl.length->∃b,fA=some (Ad b 0))/\(1<=ns.length->∃b,nA=some (Ad b 0))
section
variable {w:World} {gA fA nA:Option Addr} {gc fc nc:Nat} {gs:List Gl} {fl:List (Fn'×Value)} {vls:List Value} {ns:List CN} {tr:List (Int×Int)}
theorem JL:(prog.info? aK).map (·.size)=some 3:=by kernel_rfl
theorem FP {fn:Func}{R:Ending->World->Prop}{a:Act}{w:World}{p:Tmp}{b:Nat}{T:TypeId}{fr:Nat×Nat}{x y z:Value}(hf:fn.results= #[.cell p aK])(h2:a.tmps.getD p undef=Pt b)(hb:w.heap[b]? =some (.cells #[x,y,z] T fr))(hd:a.defers=[])(hR:R (.returned (.agg #[x,y,z])) w):bodyPost prog fn R .ret a w:=
 bodyPost_ret (v:=.agg #[x,y,z]) (results_cell_row hf _ _ b T _ fr _ h2 hb underlying27 rfl JL) hd hR
theorem tq {B sz n g cap a b c i:Nat}{t:TypeId}{xs:List Value}{u x y z:Value}(h:w.ownsRow B t sz (Sl g n cap) n xs)(hi:i<n * sz)(hu:xs[i]? =some u)(ha:a≠i)(hb:b≠i)(hc:c≠i) :
  (((w.setCell (Ad g a) x).setCell (Ad g b) y).setCell (Ad g c) z).cell? (Ad g i)=some u/\(((w.setCell (Ad g a) x).setCell (Ad g b) y).setCell (Ad g c) z).frozen? (Ad g i)=false:=by
 have h3:=(((h.stored a x).1.stored b y).1.stored c z).1;refine ⟨?_,h3.frozenAt i⟩;rw [h3.cellAt i hi,List.getElem?_set_ne hc,List.getElem?_set_ne hb,List.getElem?_set_ne ha];exact hu
theorem wu (h:PgI w gA fA nA gc fc nc gs fl vls ns tr)(hg:gs.length<=1000000)(hf:fl.length<=1000000)(hn:ns.length<=1000000)(Er:∀g∈gs,g.s.length<=1000000)(Ke:∀x∈fl,x.1.s.length<=1000000/\x.1.ps.length<=1000000/\∀p∈x.1.ps,p.s.length<=1000000)(Eo:∀x∈ns,x.h.s.length<=1000000/\x.kids.length<=1000000) :
  Calls prog 47 #[pgV gA fA nA gs.length gc fl.length fc ns.length nc] w (UnP gs fl ns tr w):=by
 obtain ⟨R,hR⟩:∃R:Ending->World->Prop,UnP gs fl ns tr w=R:=⟨_,rfl⟩;rw [hR];have HR:=Hy hR;have HM:=Hy3 Er Ke Eo;clear hR Er Ke Eo;have h1:Below w.heap.size w ((w.alloc (.cells #[.slice gA gs.length gc,.slice fA fl.length fc,.slice nA ns.length nc] aK)).alloc (.cells #[Sn,Sn,Sn] aK)):=
  ((zB _ _).alloc (zL _) _).alloc (by simp) _
 have bT:=(Blk.new w aK #[.slice gA gs.length gc,.slice fA fl.length fc,.slice nA ns.length nc]).alloc (.cells #[Sn,Sn,Sn] aK);have hk2:=Blk.new (w.alloc (.cells #[.slice gA gs.length gc,.slice fA fl.length fc,.slice nA ns.length nc] aK)) aK #[Sn,Sn,Sn];have H:=Hy h;obtain ⟨gn,qm⟩:=zN gs.length;obtain ⟨fn,ut⟩:=zN fl.length;obtain ⟨nn,DC⟩:=zN ns.length;rw [qm,ut,DC] at h1 bT hk2 |-;have HN:=Hy3 qm ut DC;rw [qm] at hg;rw [ut] at hf;rw [DC] at hn;clear h qm ut DC;go_enter func47,ntmps47;go_upto_region 1 with (fail);obtain ⟨H0,GG⟩:=zN w.heap.size;rw [show (w.alloc (.cells #[.slice gA gn gc,.slice fA fn fc,.slice nA nn nc] aK)).heap.size=H0+1 by simp [GG]] at hk2
 rw [GG] at bT;generalize (w.alloc (.cells #[.slice gA gn gc,.slice fA fn fc,.slice nA nn nc] aK)).alloc (.cells #[Sn,Sn,Sn] aK)=W1 at *;simp only [GG];have q0:W1.cell? (Ad H0 0)=some (.slice gA gn gc):=bT.cell 0;have q1:W1.cell? (Ad H0 1)=some (.slice fA fn fc):=bT.cell 1;have q2:W1.cell? (Ad H0 2)=some (.slice nA nn nc):=bT.cell 2;have ql:=bT.lt;have HI:=Hy (H.on h1);have HCG:Hid (∀W,Below W1.heap.size W1 W->Calls prog 87 #[.slice gA gn gc] W fun e w'=>∃gA' gc',e=.returned (.slice gA' gn gc')/\w'.ownsRow W1.heap.size tGb 4 (.slice gA' gn gc') gn (gs.flatMap glC)/\(1<=gn->∃b,gA'=some (Ad b 0))/\Below W1.heap.size W1 w'/\Below W.heap.size W w'):=Hy fun W hW=>by
  have hr:=(HI.on hW).g;rw [HN.1] at hr;refine (vJ hr (by rw [jE _ 4 (fun _=>rfl),HN.1]) hg (GR gs)).mono fun e w' ⟨v',e1,Qb,aD,hb⟩=>?_
  obtain ⟨A',c',rfl⟩:=dL Qb;exact ⟨A',c',e1,bg Qb hW.size,fun h9=>by obtain ⟨b,c,e⟩:=aD h9;simp only [Value.slice.injEq] at e;exact ⟨b,e.1⟩,hW.trans (hb.mono hW.size),hb⟩
 have HCF:Hid (∀W,Below W1.heap.size W1 W->Calls prog 88 #[.slice fA fn fc] W fun e w'=>∃yP xS,e=.returned (.slice yP fn xS)/\w'.ownsRow W1.heap.size tFu 6 (.slice yP fn xS) fn (dE fl vls)/\(1<=fn->∃b,yP=some (Ad b 0))/\Below W1.heap.size W1 w'/\Below W.heap.size W w'):=Hy fun W hW=>by
  have hr:=(HI.on hW).f;rw [HN.2.1] at hr;refine (vK hr (by rw [Ex HI.vl,HN.2.1]) hf (Ew (fun x hx=>(HI.ps x hx).one) (fun v hv=>by obtain ⟨A,n,c,rfl⟩:=HI.vs v hv;rfl))).mono fun e w' ⟨v',e1,Qb,aD,hb⟩=>?_
  obtain ⟨A',c',rfl⟩:=dL Qb;exact ⟨A',c',e1,bg Qb hW.size,fun h9=>by obtain ⟨b,c,e⟩:=aD h9;simp only [Value.slice.injEq] at e;exact ⟨b,e.1⟩,hW.trans (hb.mono hW.size),hb⟩
 have Mv:Hid (∀W,Below W1.heap.size W1 W->Calls prog 89 #[.slice nA nn nc] W fun e w'=>∃zZ yG,e=.returned (.slice zZ nn yG)/\w'.ownsRow W1.heap.size tNd 8 (.slice zZ nn yG) nn (aI ns tr)/\(1<=nn->∃b,zZ=some (Ad b 0))/\Below W1.heap.size W1 w'/\Below W.heap.size W w'):=Hy fun W hW=>by
  have hr:=(HI.on hW).n;rw [HN.2.2] at hr;refine (vH hr (by rw [xH HI.tl,HN.2.2]) hn (xG (fun x hx=>(HI.ks x hx).one))).mono fun e w' ⟨v',e1,Qb,aD,hb⟩=>?_
  obtain ⟨A',c',rfl⟩:=dL Qb;exact ⟨A',c',e1,bg Qb hW.size,fun h9=>by obtain ⟨b,c,e⟩:=aD h9;simp only [Value.slice.injEq] at e;exact ⟨b,e.1⟩,hW.trans (hb.mono hW.size),hb⟩
 have HS:Hid (∀Wx,Below W1.heap.size W1 Wx->Wx.cell? (Ad H0 0)=some (.slice gA gn gc)/\Wx.cell? (Ad H0 1)=some (.slice fA fn fc)/\Wx.cell? (Ad H0 2)=some (.slice nA nn nc)/\H0<Wx.heap.size):=Hy fun Wx hW=>by
  have hz:=hW.size;exact ⟨(hW.cell (p:=Ad H0 0) ql).trans q0,(hW.cell (p:=Ad H0 1) ql).trans q1,(hW.cell (p:=Ad H0 2) ql).trans q2,by omega⟩
 have HK:=Hy4 bT hk2 h1 GG;have J:Below W1.heap.size W1 W1:=zB _ _;clear bT hk2 h1 GG;go_cut [3] (fun v3 wx=>∃(k3:Nat) (gA' yP zZ:Option Addr) (gc' xS yG:Nat),v3=Pt k3/\UnO W1.heap.size k3 (.slice gA' gn gc') (.slice yP fn xS) (.slice zZ nn yG) gs fl vls ns tr wx/\Below W1.heap.size W1 wx/\(1<=gn->∃b,gA'=some (Ad b 0))/\(1<=fn->∃b,yP=some (Ad b 0))/\(1<=nn->∃b,zZ=some (Ad b 0)))
 case first=>
  go_region_held2 (fun Wx=>Wx.cell? (Ad H0 0)=some (.slice gA gn gc)/\Wx.cell? (Ad H0 1)=some (.slice fA fn fc)/\Wx.cell? (Ad H0 2)=some (.slice nA nn nc)/\H0<Wx.heap.size)
   (first|exact ⟨q0,q1,q2,ql⟩|exact HS _ J|exact HS _ (J.alloc J.size _)|exact HS _ (J.alloc J.size _).drew|exact HS _ (((J.setCell (by first|exact SF|exact SG|exact zL _) _).setCell (by first|exact SF|exact SG|exact zL _) _).setCell (by first|exact SF|exact SG|exact zL _) _))
   (first
      | (go_at_call 87;(with_reducible refine Calls.mono (HCG.out _ (by first|exact J|exact J.drew|exact J.alloc J.size _|exact (J.alloc J.size _).drew|exact J.drew.alloc J.size _)) ?_);rintro e vG ⟨gA',gc',rfl,RG,NG,J,KG⟩;have SG:=J.size;(first|(have Z:=Z.below KG Z.lt)|(have Z:=Blk.below (Blk.new _ _ _) KG (Blk.lt (Blk.new _ _ _)))|(have Z:=Blk.below (show Blk (World.drew (World.alloc _ _)) _ _ _ from Blk.new _ _ _) KG (Blk.lt (Blk.new _ _ _)))|skip))
      | (go_at_call 88;(with_reducible refine Calls.mono (HCF.out _ (by first|exact J|exact J.drew|exact J.alloc J.size _|exact (J.alloc J.size _).drew|exact J.drew.alloc J.size _)) ?_);rintro e vF ⟨yP,xS,rfl,RF,NF,J,KF⟩;have SF:=J.size;(first|(have Z:=Z.below KF Z.lt)|(have Z:=Blk.below (Blk.new _ _ _) KF (Blk.lt (Blk.new _ _ _)))|(have Z:=Blk.below (show Blk (World.drew (World.alloc _ _)) _ _ _ from Blk.new _ _ _) KF (Blk.lt (Blk.new _ _ _)))|skip);have RG:=ah (aj KF) (by first|exact RG|exact RG.drew|exact RG.alloc _) (by simp))
      | (go_at_call 89;(with_reducible refine Calls.mono (Mv.out _ (by first|exact J|exact J.drew|exact J.alloc J.size _|exact (J.alloc J.size _).drew|exact J.drew.alloc J.size _)) ?_);rintro e vN ⟨zZ,yG,rfl,RN,NN,J,KN⟩;have SN:=J.size;(first|(have Z:=Z.below KN Z.lt;have z0:_=some (Sn):=Z.cell 0;have z1:_=some (Sn):=Z.cell 1;have z2:_=some (Sn):=Z.cell 2;have zf0:=Z.frozen 0;have zf1:=Z.frozen 1;have zf2:=Z.frozen 2;have zl:=Z.lt)|(have Z:=Blk.below (Blk.new _ _ _) KN (Blk.lt (Blk.new _ _ _));have z0:_=some (Sn):=Z.cell 0;have z1:_=some (Sn):=Z.cell 1;have z2:_=some (Sn):=Z.cell 2;have zf0:=Z.frozen 0;have zf1:=Z.frozen 1;have zf2:=Z.frozen 2;have zl:=Z.lt)|(have Z:=Blk.below (show Blk (World.drew (World.alloc _ _)) _ _ _ from Blk.new _ _ _) KN (Blk.lt (Blk.new _ _ _));have z0:_=some (Sn):=Z.cell 0;have z1:_=some (Sn):=Z.cell 1;have z2:_=some (Sn):=Z.cell 2;have zf0:=Z.frozen 0;have zf1:=Z.frozen 1;have zf2:=Z.frozen 2;have zl:=Z.lt)|skip);have RG:=ah (aj KN) (by first|exact RG|exact RG.drew|exact RG.alloc _) (by simp);have RF:=ah (aj KN) (by first|exact RF|exact RF.drew|exact RF.alloc _) (by simp)))
  all_goals
   go_wp2_with fail;go_meet;refine ⟨_,gA',yP,zZ,gc',xS,yG,rfl,?_,?_,NG,NF,NN⟩
   ·first
     |exact Fe (by rw [HN.1];exact RG) (by rw [HN.2.1];exact RF) (by rw [HN.2.2];exact RN) SN
     |exact Fb (by rfl) Z (by rw [HN.1];exact RG) (by rw [HN.2.1];exact RF) (by rw [HN.2.2];exact RN) (by first|exact SF|exact SG|exact zL _) SN
   ·first
     |exact J.alloc SN _
     |exact (((J.setCell (by first|exact SF|exact SG|exact zL _) _).setCell (by first|exact SF|exact SG|exact zL _) _).setCell (by first|exact SF|exact SG|exact zL _) _)
 case rest=>
  obtain ⟨k3,gA',yP,zZ,gc',xS,yG,rfl,hO,hb,hNG,hNF,OI⟩:=hcut;obtain ⟨W2,Sy⟩:=zQ wc;subst Sy;have z0:W2.cell? (Ad k3 0)=some (.slice gA' gn gc'):=hO.out.cell 0;have zl:=hO.out.lt;have HO:=Hy5 hO hb hNG hNF OI;clear hO hb hNG hNF OI q0 q1 q2 ql J HCG HCF Mv HS;go_wp2_with fail;go_loopw [24] (fun v24 wr=>∃j:Nat,v24=Iv j/\j<=gn/\UnO W1.heap.size k3 (.slice gA' gn gc') (.slice yP fn xS) (.slice zZ nn yG) gs fl vls ns tr wr/\Below W1.heap.size W1 wr) (fun v _=>gn - (intOf v).toNat)
  case atStart=>exact ⟨0,rfl,by omega,HO.1,HO.2.1⟩
  case round=>
   obtain ⟨j,rfl,hj,hU,bW⟩:=hrel;by_cases hlt:j<gn
   ·obtain ⟨gb,rfl⟩:=HO.2.2.1 (by omega)
    obtain ⟨g,LZ⟩:∃g,gs[j]? =some g:=⟨_,List.getElem?_eq_getElem (by rw [HN.1];exact hlt)⟩
    have ai:=hU.g;rw [HN.1] at ai;have PL:(gs.flatMap glC)[j * 4]? =some (Ss g.s):=by
     have:=aY glC 4 (fun _=>rfl) gs j 0 (by omega)
     rw [LZ,Nat.add_zero] at this;exact this
    have q0:wr.cell? (Ad gb (j * 4))=some (Ss g.s):=by
     rw [ai.cellAt (j * 4) (by omega)]
     exact PL
    have qf:=ai.frozenAt (j * 4);have ql:gb<wr.heap.size:=(ag ai rfl).lt;have z0:wr.cell? (Ad k3 0)=some (Sl gb gn gc'):=hU.out.cell 0;have zl:=hU.out.lt;have NZ:(j:Int)<gn:=by omega
    have Mq:=Hy (kX g.s (HM.1 g (zG LZ)));have HU:=Hy4 hU bW ai PL;clear hU bW ai PL LZ;go_wp2_with fail;refine (Mq _).mono ?_;rintro e v5 ⟨rfl,qK⟩;have q5:=(qK.cell (p:=(Ad gb (j * 4))) ql).trans q0;have qf5:=(qK.frozen (p:=(Ad gb (j * 4))) ql).trans qf;have ql5:gb<v5.heap.size:=zT ql qK.size;have QA:=Hy qK;clear qK;go_wp2_with fail;go_roundw
    case rel=>
     obtain ⟨hU,bW,ai,PL⟩:=HU;rw [lT (ah (aj QA.out) ai (by simp)) PL]
     exact ⟨j+1,by go_num,by omega,hU.on QA,bW.trans (QA.mono hU.BH)⟩
    case measure=>simp [intOf];omega
   ·obtain rfl:gn=j:=by omega
    have z1:wr.cell? (Ad k3 1)=some (.slice yP fn xS):=hU.out.cell 1;have zl1:=hU.out.lt;have HU:=Hy2 hU bW;clear hU bW z0 zl;obtain ⟨W3,hW3⟩:=zQ wr;subst hW3;go_wp2_with fail;go_loopw [43] (fun v43 w4=>∃(j:Nat) (KS:List (Fn'×Value)) (Nh:List Value),v43=Iv j/\j<=fn/\qx W1 k3 (.slice gA' gn gc') (.slice yP fn xS) (.slice zZ nn yG) gs fl ns tr j KS Nh w4) (fun v _=>fn - (intOf v).toNat)
    case atStart=>exact ⟨0,fl,vls,rfl,by omega,HU.1,rfl,fun i _=>rfl,H.vl,fun i hi=>absurd hi (by omega),fun i x hi=>absurd hi (by omega),HU.2⟩
    case round=>
     obtain ⟨j,KS,Nh,rfl,hj,hF⟩:=hrel;by_cases hlt:j<fn
     ·obtain ⟨fb,rfl⟩:=HO.2.2.2.1 (by omega)
      have xP:j<KS.length:=by rw [hF.len,HN.2.1];exact hlt
      obtain ⟨⟨f,p0⟩,hx⟩:∃x,KS[j]? =some x:=⟨_,List.getElem?_eq_getElem xP⟩;have Zq:fl[j]? =some (f,p0):=by rw [<-hF.u j (zL _)];exact hx
      have uo:=zG Zq;obtain ⟨v0,TE⟩:∃v,Nh[j]? =some v:=⟨_,List.getElem?_eq_getElem (by rw [hF.vl,HN.2.1];exact hlt)⟩
      have TW:=HI.ps _ uo;simp only at TW;have Ke:=HM.2.1 _ uo;simp only at Ke;obtain ⟨pn,Da⟩:=zN f.ps.length;rw [Da] at TW Ke;obtain ⟨pA,pc,rfl⟩:∃A c,p0=.slice A pn c:=by obtain ⟨A,c,e,-⟩:=TW;exact ⟨A,c,e⟩
      have ai:=hF.o.f;rw [hF.len,HN.2.1] at ai;have y0:wr.cell? (Ad fb (j * 6))=some (Ss f.s):=by
       rw [ai.cellAt (j * 6) (by omega)]
       exact bQ KS Nh j 0 (by omega) hx TE
      have y2:wr.cell? (Ad fb (j * 6+2))=some (.slice pA pn pc):=by
       rw [ai.cellAt (j * 6+2) (by omega)]
       exact bQ KS Nh j 2 (by omega) hx TE
      have y5:wr.cell? (Ad fb (j * 6+5))=some v0:=by
       rw [ai.cellAt (j * 6+5) (by omega)]
       exact bQ KS Nh j 5 (by omega) hx TE
      have f0:=ai.frozenAt (j * 6);have f2:=ai.frozenAt (j * 6+2);have f5:=ai.frozenAt (j * 6+5);have ql:fb<wr.heap.size:=(ag ai rfl).lt;have z1:wr.cell? (Ad k3 1)=some (Sl fb fn xS):=hF.o.out.cell 1;have zl:=hF.o.out.lt;have NZ:(j:Int)<fn:=by omega
      have Mq:Hid (∀W,Below wr.heap.size wr W->Calls prog 90 #[Ss f.s] W fun e w'=>e=.returned (Ss f.s)/\Below wr.heap.size wr w'):=Hy fun W hW=>(kX f.s Ke.1 W).mono fun e w' h=>⟨h.1,hW.trans (h.2.mono hW.size)⟩
      have Ky:Hid (∀W,Below wr.heap.size wr W->Calls prog 91 #[.slice pA pn pc] W fun e w'=>∃A c,e=.returned (.slice A pn c)/\w'.ownsRow W1.heap.size tPr 2 (.slice A pn c) pn (f.ps.flatMap cz)/\Below wr.heap.size wr w'):=Hy fun W hW=>by
       have hr:=(TW.on (hF.bl.trans (hW.mono hF.o.BH)));refine (vE hr (by rw [jE _ 2 (fun _=>rfl),Da]) Ke.2.1 (FT f.ps)).mono fun e w' ⟨v',e1,Qb,aD,hb⟩=>?_
       obtain ⟨A',c',rfl⟩:=dL Qb;exact ⟨A',c',e1,bg Qb (Nat.le_trans hF.o.BH hW.size),hW.trans (hb.mono hW.size)⟩
      have HS:Hid (∀Wx,Below wr.heap.size wr Wx->Wx.cell? (Ad fb (j * 6))=some (Ss f.s)/\Wx.cell? (Ad fb (j * 6+2))=some (.slice pA pn pc)/\Wx.cell? (Ad fb (j * 6+5))=some v0/\Wx.frozen? (Ad fb (j * 6))=false/\Wx.frozen? (Ad fb (j * 6+2))=false/\Wx.frozen? (Ad fb (j * 6+5))=false/\fb<Wx.heap.size):=Hy fun Wx hW=>
       ⟨(hW.cell (p:=Ad fb _) ql).trans y0,(hW.cell (p:=Ad fb _) ql).trans y2,(hW.cell (p:=Ad fb _) ql).trans y5,(hW.frozen (p:=Ad fb _) ql).trans f0,(hW.frozen (p:=Ad fb _) ql).trans f2,(hW.frozen (p:=Ad fb _) ql).trans f5,Nat.lt_of_lt_of_le ql hW.size⟩
      have J:Below wr.heap.size wr wr:=zB _ _;have HF:=Hy4 hF hx Da Ke;clear hF hx Zq uo TE TW Ke Da ai xP;go_upto_region 12 with (fail);go_cut [] (fun wx=>∃A c,qx W1 k3 (.slice gA' gn gc') (Sl fb fn xS) (.slice zZ nn yG) gs fl ns tr (j+1) (KS.set j (f,.slice A pn c)) (Nh.set j (Sn)) wx)
      case first=>
       go_region_law (first
        | (go_simp;go_at_call 90;(with_reducible refine Calls.mono (Mq.out _ (by first|exact J|exact J.drew)) ?_);rintro e v1 ⟨rfl,J⟩;obtain ⟨y0,y2,y5,f0,f2,f5,ql⟩:=HS _ J)
        | (go_simp;go_at_call 91;(with_reducible refine Calls.mono (Ky.out _ (by first|exact J|exact J.drew)) ?_);rintro e v2 ⟨A2,c2,rfl,R2,J⟩;obtain ⟨y0,y2,y5,f0,f2,f5,ql⟩:=HS _ J))
       all_goals
        go_wp2_with fail;go_meet;exact ⟨A2,c2,(HF.1.on J).step (by rw [HN.2.1]) HF.2.1 (by rw [HF.2.2.1];exact R2)⟩
      case rest=>
       obtain ⟨A5,c5,EG⟩:=hcut;obtain ⟨W5,hW5⟩:=zQ wc;subst hW5;have hjl5:j<KS.length:=(zS.1 HF.2.1).1;have Rj:(KS.set j (f,.slice A5 pn c5))[j]? =some (f,.slice A5 pn c5):=List.getElem?_set_self hjl5;obtain ⟨fcc,Yn⟩:∃l,KS.set j (f,.slice A5 pn c5)=l:=⟨_,rfl⟩;obtain ⟨Zi,hvcc⟩:=zN (Nh.set j (Sn));rw [Yn] at Rj;rw [Yn,hvcc] at EG;obtain ⟨v5,Du⟩:∃v,Zi[j]? =some v:=⟨_,List.getElem?_eq_getElem (by rw [EG.vl,HN.2.1];exact hlt)⟩
       have y2:W5.cell? (Ad fb (j * 6+2))=some (.slice A5 pn c5):=by
        have ai:=EG.o.f;rw [EG.len,HN.2.1] at ai;rw [ai.cellAt (j * 6+2) (by omega)]
        exact bQ fcc Zi j 2 (by omega) Rj Du
       have ql:fb<W5.heap.size:=(ag EG.o.f rfl).lt;have UO:=Hy2 Rj Du;have hpnb:pn<=1000000:=HF.2.2.2.2.1;have HF5:=Hy EG;clear EG Rj Du hjl5 Yn hvcc J Mq Ky HS y0 y5 f0 f2 f5 z1 zl;go_wp2_with fail;go_loopw [74] (fun v74 wi=>∃i:Nat,v74=Iv i/\i<=pn/\qx W1 k3 (.slice gA' gn gc') (Sl fb fn xS) (.slice zZ nn yG) gs fl ns tr (j+1) fcc Zi wi) (fun v _=>pn - (intOf v).toNat)
       case atStart=>exact ⟨0,rfl,by omega,HF5⟩
       case round=>
        obtain ⟨i,rfl,hi,Xh⟩:=hrel;by_cases hil:i<pn
        ·have ai:=Xh.p j _ (by omega) UO.1
         simp only [HF.2.2.1] at ai;obtain ⟨p,hp⟩:∃p,f.ps[i]? =some p:=⟨_,List.getElem?_eq_getElem (by rw [HF.2.2.1];exact hil)⟩
         obtain ⟨pb,rfl⟩:∃pb,A5=some (Ad pb 0):=by
          rcases ai.2 with ⟨-,e⟩|⟨g,cap,cur,e,_⟩
          ·omega
          ·simp only [Value.slice.injEq] at e;exact ⟨g,e.1⟩
         have PL:(f.ps.flatMap cz)[i * 2]? =some (Ss p.s):=by
          have:=aY cz 2 (fun _=>rfl) f.ps i 0 (by omega)
          rw [hp,Nat.add_zero] at this;exact this
         have q0:wr.cell? (Ad pb (i * 2))=some (Ss p.s):=by
          rw [ai.cellAt (i * 2) (by omega)]
          exact PL
         have qf:=ai.frozenAt (i * 2);have pl:pb<wr.heap.size:=(ag ai rfl).lt;have y2:wr.cell? (Ad fb (j * 6+2))=some (Sl pb pn c5):=by
          have Rn:=Xh.o.f;rw [Xh.len,HN.2.1] at Rn;rw [Rn.cellAt (j * 6+2) (by omega)]
          exact bQ fcc Zi j 2 (by omega) UO.1 UO.2
         have ql:fb<wr.heap.size:=(ag Xh.o.f rfl).lt;have Zz:(i:Int)<pn:=by omega
         have Mq:Hid (∀W,Below wr.heap.size wr W->Calls prog 90 #[Ss p.s] W fun e w'=>e=.returned (Ss p.s)/\Below wr.heap.size wr w'):=Hy fun W hW=>(kX p.s (HF.2.2.2.2.2 p (zG hp)) W).mono fun e w' h=>⟨h.1,hW.trans (h.2.mono hW.size)⟩
         have HS:Hid (∀Wx,Below wr.heap.size wr Wx->Wx.cell? (Ad fb (j * 6+2))=some (Sl pb pn c5)/\Wx.cell? (Ad pb (i * 2))=some (Ss p.s)/\Wx.frozen? (Ad pb (i * 2))=false/\fb<Wx.heap.size/\pb<Wx.heap.size):=Hy fun Wx hW=>
          ⟨(hW.cell (p:=Ad fb _) ql).trans y2,(hW.cell (p:=Ad pb _) pl).trans q0,(hW.frozen (p:=Ad pb _) pl).trans qf,Nat.lt_of_lt_of_le ql hW.size,Nat.lt_of_lt_of_le pl hW.size⟩
         have J:Below wr.heap.size wr wr:=zB _ _;have HFi:=Hy3 Xh ai PL;clear Xh ai PL hp;go_upto_region 16 with (fail);go_region_law (go_simp;go_at_call 90;(with_reducible refine Calls.mono (Mq.out _ (by first|exact J|exact J.drew)) ?_);rintro e v1 ⟨rfl,J⟩;obtain ⟨y2,q0,qf,ql,pl⟩:=HS _ J)
         all_goals
          have HFw:=Hy (show qx W1 k3 (.slice gA' gn gc') (Sl fb fn xS) (.slice zZ nn yG) gs fl ns tr (j+1) fcc Zi (v1.setCell (Ad pb (i * 2)) (Ss p.s)) by
           rw [lT (ah (aj J) HFi.2.1 (by simp)) HFi.2.2]
           exact HFi.1.on J)
          go_wp2_with fail;go_roundw
          case rel=>exact ⟨i+1,by go_num,by omega,HFw⟩
          case measure=>simp [intOf];omega
        ·obtain rfl:pn=i:=by omega
         have HFi:=Hy Xh;clear Xh;go_wp2_with fail;go_roundw
         case rel=>exact ⟨j+1,fcc,Zi,by go_num,by omega,HFi⟩
         case measure=>simp [intOf];omega
     ·obtain rfl:fn=j:=by omega
      have z2:wr.cell? (Ad k3 2)=some (.slice zZ nn yG):=hF.o.out.cell 2;have zl2:=hF.o.out.lt;have HF:=Hy hF;clear hF;obtain ⟨W4,hW4⟩:=zQ wr;subst hW4;go_wp2_with fail;go_loopw [98] (fun v98 wi=>∃(j:Nat) (nc:List CN) (tc:List (Int×Int)),v98=Iv j/\j<=nn/\nJ W1 k3 (.slice gA' gn gc') (.slice yP fn xS) (.slice zZ nn yG) gs KS Nh ns tr j nc tc wi) (fun v _=>nn - (intOf v).toNat)
      case atStart=>
       refine ⟨0,ns,tr,rfl,by omega,HF.o,rfl,fun i _=>⟨rfl,rfl⟩,H.tl,fun i _ _ hi=>absurd hi (by omega),fun i _ hi=>absurd hi (by omega),fun x hx=>?_,HF.bl⟩
       obtain ⟨i,hi,rfl⟩:=List.getElem_of_mem hx;exact HF.p i _ (by rw [HF.len,HN.2.1] at hi;exact hi) (zE hi)
      case round=>
       obtain ⟨j,nc,tc,rfl,hj,hD⟩:=hrel;by_cases hlt:j<nn
       ·obtain ⟨nb,rfl⟩:=HO.2.2.2.2 (by omega)
        have xP:j<nc.length:=by rw [hD.len,HN.2.2];exact hlt
        obtain ⟨x,hx⟩:∃x,nc[j]? =some x:=⟨_,List.getElem?_eq_getElem xP⟩;obtain ⟨t,ht⟩:∃t,tc[j]? =some t:=⟨_,List.getElem?_eq_getElem (by rw [hD.tl,HN.2.2];exact hlt)⟩
        have Zq:ns[j]? =some x:=by rw [<-(hD.u j (zL _)).1];exact hx
        have hxm:=zG Zq;have Oq:=HI.ks _ hxm;have Eo:=HM.2.2 _ hxm;obtain ⟨kn,Ey⟩:=zN x.kids.length;rw [Ey] at Oq Eo;obtain ⟨kA,kc,JH⟩:∃A c,x.v=.slice A kn c:=by obtain ⟨A,c,e,-⟩:=Oq;exact ⟨A,c,e⟩
        rw [JH] at Oq;have ai:=hD.o.n;rw [hD.len,HN.2.2] at ai;have hy:∀i u,i<8->(aA x t)[i]? =some u->(aI nc tc)[j * 8+i]? =some u:=fun i u hi hu=>(aV nc tc j i hi hx ht).trans hu
        have y0:wr.cell? (Ad nb (j * 8))=some (Iv x.h.op):=by
         rw [ai.cellAt (j * 8) (by omega)]
         exact hy 0 _ (by omega) rfl
        have y3:wr.cell? (Ad nb (j * 8+3))=some (Ss x.h.s):=by
         rw [ai.cellAt (j * 8+3) (by omega)]
         exact hy 3 _ (by omega) rfl
        have y5:wr.cell? (Ad nb (j * 8+5))=some (.slice kA kn kc):=by
         rw [ai.cellAt (j * 8+5) (by omega)]
         exact hy 5 _ (by omega) (by rw [<-JH];rfl)
        have y7:wr.cell? (Ad nb (j * 8+7))=some (Iv t.2):=by
         rw [ai.cellAt (j * 8+7) (by omega)]
         exact hy 7 _ (by omega) rfl
        have f3:=ai.frozenAt (j * 8+3);have f5:=ai.frozenAt (j * 8+5);have f7:=ai.frozenAt (j * 8+7);have ql:nb<wr.heap.size:=(ag ai rfl).lt;have z2:wr.cell? (Ad k3 2)=some (Sl nb nn yG):=hD.o.out.cell 2;have zl:=hD.o.out.lt;have NZ:(j:Int)<nn:=by omega
        have Mq:Hid (∀W,Below wr.heap.size wr W->Calls prog 90 #[Ss x.h.s] W fun e w'=>e=.returned (Ss x.h.s)/\Below wr.heap.size wr w'):=Hy fun W hW=>(kX x.h.s Eo.1 W).mono fun e w' h=>⟨h.1,hW.trans (h.2.mono hW.size)⟩
        have Ky:Hid (∀W,Below wr.heap.size wr W->Calls prog 92 #[.slice kA kn kc] W fun e w'=>∃A c,e=.returned (.slice A kn c)/\w'.ownsRow W1.heap.size aC 1 (.slice A kn c) kn (ints (bK x.kids))/\Below wr.heap.size wr w'):=Hy fun W hW=>by
         have hr:=(Oq.on (hD.bl.trans (hW.mono hD.o.BH)));refine (vI hr (by simp [ints,bK,Ey]) Eo.2 (Ef _)).mono fun e w' ⟨v',e1,Qb,aD,hb⟩=>?_
         obtain ⟨A',c',rfl⟩:=dL Qb;exact ⟨A',c',e1,bg Qb (Nat.le_trans hD.o.BH hW.size),hW.trans (hb.mono hW.size)⟩
        have HS:Hid (∀Wx,Below wr.heap.size wr Wx->Wx.cell? (Ad nb (j * 8+3))=some (Ss x.h.s)/\Wx.cell? (Ad nb (j * 8+5))=some (.slice kA kn kc)/\Wx.cell? (Ad nb (j * 8+7))=some (Iv t.2)/\Wx.frozen? (Ad nb (j * 8+3))=false/\Wx.frozen? (Ad nb (j * 8+5))=false/\Wx.frozen? (Ad nb (j * 8+7))=false/\nb<Wx.heap.size):=Hy fun Wx hW=>
         ⟨(hW.cell (p:=Ad nb _) ql).trans y3,(hW.cell (p:=Ad nb _) ql).trans y5,(hW.cell (p:=Ad nb _) ql).trans y7,(hW.frozen (p:=Ad nb _) ql).trans f3,(hW.frozen (p:=Ad nb _) ql).trans f5,(hW.frozen (p:=Ad nb _) ql).trans f7,Nat.lt_of_lt_of_le ql hW.size⟩
        have J:Below wr.heap.size wr wr:=zB _ _;have HD:=Hy6 hD hx ht Ey ai hy;clear hD hx ht Zq hxm Oq Eo Ey JH ai hy xP y0;go_upto_region 23 with (fail);go_cut [] (fun wx=>∃A c,(x.h.op=1->nJ W1 k3 (.slice gA' gn gc') (.slice yP fn xS) (Sl nb nn yG) gs KS Nh ns tr (j+1) (nc.set j {x with v:=.slice A kn c}) (tc.set j (if x.h.op=1 then t.1 else 0,0)) wx)/\
         (x.h.op≠1->nJ W1 k3 (.slice gA' gn gc') (.slice yP fn xS) (Sl nb nn yG) gs KS Nh ns tr (j+1) (nc.set j {x with v:=.slice A kn c}) (tc.set j (if x.h.op=1 then t.1 else 0,0)) (wx.setCell (Ad nb (j * 8+6)) (Iv 0)))/\
         wx.cell? (Ad nb (j * 8))=some (Iv x.h.op)/\wx.cell? (Ad nb (j * 8+6))=some (Iv t.1)/\wx.frozen? (Ad nb (j * 8+6))=false/\nb<wx.heap.size)
        case first=>
         go_region_law (first
          | (go_simp;go_at_call 90;(with_reducible refine Calls.mono (Mq.out _ (by first|exact J|exact J.drew)) ?_);rintro e v1 ⟨rfl,J⟩;obtain ⟨y3,y5,y7,f3,f5,f7,ql⟩:=HS _ J)
          | (go_simp;go_at_call 92;(with_reducible refine Calls.mono (Ky.out _ (by first|exact J|exact J.drew)) ?_);rintro e v2 ⟨A2,c2,rfl,R2,J⟩;obtain ⟨y3,y5,y7,f3,f5,f7,ql⟩:=HS _ J))
         all_goals
          go_wp2_with fail;go_meet;have Rm:=(HD.1.on J).step (by rw [HN.2.2]) HD.2.1 HD.2.2.1 (show v2.ownsRow W1.heap.size aC 1 (.slice A2 kn c2) x.kids.length (ints (bK x.kids)) by rw [HD.2.2.2.1];exact R2)
          have Rn:=ah (aj J) HD.2.2.2.2.1 (by simp)
          have h0:=tq (x:=Ss x.h.s) (y:=.slice A2 kn c2) (z:=Iv 0) Rn (i:=j * 8) (a:=j * 8+3) (b:=j * 8+5) (c:=j * 8+7) (by omega) (HD.2.2.2.2.2 0 _ (by omega) rfl) (by omega) (by omega) (by omega)
          have h6:=tq (x:=Ss x.h.s) (y:=.slice A2 kn c2) (z:=Iv 0) Rn (i:=j * 8+6) (a:=j * 8+3) (b:=j * 8+5) (c:=j * 8+7) (by omega) (HD.2.2.2.2.2 6 _ (by omega) rfl) (by omega) (by omega) (by omega)
          exact ⟨A2,c2,Rm.1,Rm.2,h0.1,h6.1,h6.2,by simp;exact ql⟩
        case rest=>
         obtain ⟨A6,c6,h1,h2,y0,y6,f6,ql⟩:=hcut;obtain ⟨W6,hW6⟩:=zQ wc;subst hW6;by_cases ho:x.h.op=1
         ·have d1:(x.h.op != 1)=false:=by simp [ho]
          have HE:=Hy (h1 ho);clear h1 h2 ho J HS Mq Ky y3 y5 y7 f3 f5 f7 z2 zl;go_wp2_with fail;go_roundw
          case rel=>exact ⟨j+1,_,_,by go_num,by omega,HE⟩
          case measure=>simp [intOf];omega
         ·have d1:(x.h.op != 1)=true:=by simp [ho]
          have HE:=Hy (h2 ho);clear h1 h2 ho J HS Mq Ky y3 y5 y7 f3 f5 f7 z2 zl;go_wp2_with fail;go_roundw
          case rel=>exact ⟨j+1,_,_,by go_num,by omega,HE⟩
          case measure=>simp [intOf];omega
       ·obtain rfl:nn=j:=by omega
        have z0:wr.cell? (Ad k3 0)=some (.slice gA' gn gc'):=hD.o.out.cell 0;have z1:wr.cell? (Ad k3 1)=some (.slice yP fn xS):=hD.o.out.cell 1;have z2:wr.cell? (Ad k3 2)=some (.slice zZ nn yG):=hD.o.out.cell 2;have zl:=hD.o.out.lt;have hk2:=HK.2.1.below hD.bl HK.2.1.lt;have r0:wr.cell? (Ad (H0+1) 0)=some (Sn):=hk2.cell 0;have r1:wr.cell? (Ad (H0+1) 1)=some (Sn):=hk2.cell 1;have r2:wr.cell? (Ad (H0+1) 2)=some (Sn):=hk2.cell 2;have g0:=hk2.frozen 0;have g1:=hk2.frozen 1;have g2:=hk2.frozen 2;have rl:=hk2.lt;have hk9:=((hk2.af 0 (.slice gA' gn gc')).af 1 (.slice yP fn xS)).af 2 (.slice zZ nn yG);have HE:=Hy (And.intro (show R (.returned (pgV gA' yP zZ gn gc' fn xS nn yG)) (((wr.setCell ⟨H0+1,0,none⟩ (.slice gA' gn gc')).setCell ⟨H0+1,1,none⟩ (.slice yP fn xS)).setCell ⟨H0+1,2,none⟩ (.slice zZ nn yG)) by
         rw [<-HR.out];have GG:=HK.2.2.2;have MQ:=HK.2.2.1;have Vh:w.heap.size<=W1.heap.size:=MQ.size;have U5:=hk2.af 0 (.slice gA' gn gc');have GN:=U5.af 1 (.slice yP fn xS);have LB:∀{t:TypeId} {sz n:Nat} {v:Value} {xs:List Value},t≠aK->wr.ownsRow W1.heap.size t sz v n xs->(((wr.setCell (Ad (H0+1) 0) (.slice gA' gn gc')).setCell (Ad (H0+1) 1) (.slice yP fn xS)).setCell (Ad (H0+1) 2) (.slice zZ nn yG)).ownsRow w.heap.size t sz v n xs:=fun ht hr=>bg (dO (dO (dO hr hk2 ht) U5 ht) GN ht) Vh
         refine ⟨gA',yP,zZ,gc',xS,yG,KS,nc,?_,?_,?_,?_,?_,HF.e,?_,hD.e,?_,?_,?_,?_⟩
         ·rw [HN.1,HN.2.1,HN.2.2]
         ·exact (((MQ.trans (hD.bl.mono Vh)).setCell (p:=(Ad (H0+1) 0)) (by simp only;omega) _).setCell (p:=(Ad (H0+1) 1)) (by simp only;omega) _).setCell (p:=(Ad (H0+1) 2)) (by simp only;omega) _
         ·have h9:=hD.o.g;rw [HN.1] at h9 |-;exact LB (by decide) h9
         ·have h9:=hD.o.f;have e9:Nh=List.replicate fl.length (Sn):=by
           apply List.ext_getElem?;intro i;rw [List.getElem?_replicate];by_cases hi:i<fl.length
           ·rw [if_pos hi];exact HF.v i (by rw [<-HN.2.1];exact hi)
           ·rw [if_neg hi,List.getElem?_eq_none (by rw [HF.vl];omega)]
          rw [e9,HF.len] at h9;rw [HN.2.1] at h9 |-;exact LB (by decide) h9
         ·have h9:=hD.o.n;rw [Cw H.tl hD.tl (fun i x t hi hx ht=>hD.t i x t (by rw [<-HN.2.2];exact hi) hx ht),hD.len] at h9
          rw [HN.2.2] at h9 |-;exact LB (by decide) h9
         ·exact fun x hx=>LB (by decide) (hD.p x hx)
         ·intro x hx;obtain ⟨i,hi,rfl⟩:=List.getElem_of_mem hx;exact LB (by decide) (hD.kd i _ (by rw [hD.len,HN.2.2] at hi;exact hi) (zE hi))
         ·rw [HN.1];exact HO.2.2.1
         ·rw [HN.2.1];exact HO.2.2.2.1
         ·rw [HN.2.2];exact HO.2.2.2.2) hk9)
        clear hD hk2 hk9;go_wp2_with fail;exact FP rfl rfl HE.2 rfl HE.1
end
end
section
open Go Go.RowKit Go.Maps
theorem KI:(prog.info? tBo).map (fun i=>(i.zero,i.size,i.bytes))=some (some (.bool false),1,1):=by kernel_rfl
theorem rq (n:Nat)(hn:n<=1000000)(W:World):(Instr.makeSlice 64 (Iv (n:Int)) (Iv (n:Int))).run prog W=.ok (Sl W.heap.size n n) (W.alloc (.cells (madeCells #[.bool false] n) tBo)):=by
 obtain ⟨i0,hi,vQ,sI,ru⟩:=dU KI;have hr:=run_make (P:=prog) W 64 tBo i0 (.bool false) underlying64 hi vQ .i64 .i64 n n (by omega) (Int.le_refl _) (by rw [ru];omega) (by omega)
 simp only [Int.toNat_natCast,sI,Nat.mul_one] at hr;exact hr
theorem DU {α:Type}{R:Cj}{enc:α->DataW Unit}{W:World}{m n:Nat}{l:List (Nm'×α)}(h:Mpv R enc W m n l)(o:Obj):Mpv R enc (W.alloc o) m n l:=di (World.grownBy_alloc W o none) h (by simp)
theorem Mo {α:Type}{R:Cj}{enc:α->DataW Unit}{W W':World}{m n:Nat}{l:List (Nm'×α)}(hb:Zw W W')(h:Mpv R enc W m n l):Mpv R enc W' m n l:=di (aj hb) h (by simp)
theorem ic {W W':World}{B sz n:Nat}{t:TypeId}{v:Value}{xs:List Value}(hb:Zw W W')(h:W.ownsRow B t sz v n xs):W'.ownsRow B t sz v n xs:=ah (aj hb) h (by simp)
theorem Jw {B:Nat}{W:World}(m:Nat)(hB:B<=W.heap.size):(W.alloc (.cells #[.map (some m)] tMm)).ownsRow B tMm 1 (Sl W.heap.size 1 1) 1 [.map (some m)]:=
 World.ownsRow_lit W #[.map (some m)] 1 hB (by decide) rfl
theorem Bg {B:Nat}{W:World}(n:Nat)(hn:n<=1000000)(hB:B<=W.heap.size):(W.alloc (.cells (madeCells #[.bool false] n) tBo)).ownsRow B tBo 1 (Sl W.heap.size n n) n ((List.replicate n false).map Value.bool):=by
 have h:=World.ownsRow_lit (base:=B) (e:=tBo) (size:=1) W (madeCells #[.bool false] n) n hB (by unfold maxLen;omega) (by simp [madeCells])
 rw [toList_madeCells_one] at h;rw [List.map_replicate];exact h
theorem xR {W:World}{b:Nat}{t:TypeId}{cs:Array Value}(hb:W.heap.size=b):Blk (W.alloc (.cells cs t)) b t cs:=by
 subst hb;exact Blk.new W t cs
theorem made' {W:World}{m:Nat}(hm:W.heap.size=m):ScV (W.alloc (.map #[] 0)) m 0 []:=by
 subst hm;exact Mpv.made W
theorem wL {W:World}{m n:Nat}{l:Scp}(h:ScV W m n l)(o:Obj):ScV (W.alloc o) m n l:=DU h o
theorem Iy {W W':World}{m n:Nat}{l:Scp}(hb:Zw W W')(h:ScV W m n l):ScV W' m n l:=Mo hb h
theorem zJ {W:World}{m n:Nat}{l:Scp}(h:ScV W m n l):ScV W.drew m n l:=h
theorem zK {B:Nat}{W:World}{m g:Nat}(hg:W.heap.size=g)(hB:B<=W.heap.size):(W.alloc (.cells #[.map (some m)] tMm)).ownsRow B tMm 1 (Sl g 1 1) 1 [.map (some m)]:=by
 subst hg;exact Jw m hB
theorem yu {B:Nat}{W:World}{n g:Nat}(hn:n<=1000000)(hg:W.heap.size=g)(hB:B<=W.heap.size):(W.alloc (.cells (madeCells #[.bool false] n) tBo)).ownsRow B tBo 1 (Sl g n n) n ((List.replicate n false).map Value.bool):=by
 subst hg;exact Bg n hn hB
theorem kY {W:World}{B sz n:Nat}{t:TypeId}{v:Value}{xs:List Value}(h:W.ownsRow B t sz v n xs)(o:Obj):(W.alloc o).ownsRow B t sz v n xs:=h.alloc o
theorem yt {W:World}{B sz n:Nat}{t:TypeId}{v:Value}{xs:List Value}(h:W.ownsRow B t sz v n xs):W.drew.ownsRow B t sz v n xs:=h
def EY (gs:List Gl) (fl:List (Fn'×Value)) (ns:List CN) (tr:List (Int×Int)) (w:World) (e:Ending) (w':World):Prop:=
 ∃(X:CkX) (S:CkS),e=.returned (ckp X)/\X.B=w.heap.size/\X.gs=gs/\X.fl.map (·.1)=fl.map (·.1)/\X.ns.map CN.nd=ns.map CN.nd/\CkV X S ⟨trZ ns tr,[[]],[]⟩ w'/\Zw w w'/\
  S.on=false/\S.fi=0/\S.done=[]/\S.vls=List.replicate fl.length (Sn)/\S.sb=List.replicate ns.length false
theorem DF {gs:List Gl}{fl Ra:List (Fn'×Value)}{ns ns':List CN}{tr:List (Int×Int)}{w W:World}{gA:Option Addr}{gn fn nn gc fc nc fB nB b g sB sc:Nat}(hl:gs.length=gn/\fl.length=fn/\ns.length=nn)(Oo:tr.length=ns.length)
  (hk:Blk W b tCk #[.slice gA gn gc,Sl fB fn fc,Sl nB nn nc,Sl g 1 1,Sl sB nn sc,.pointer none,.map none])
  (hg:W.ownsRow w.heap.size tGb 4 (.slice gA gn gc) gn (gs.flatMap glC)) (hf:W.ownsRow w.heap.size tFu 6 (Sl fB fn fc) fn (dE Ra (List.replicate fn (Sn)))) (hn:W.ownsRow w.heap.size tNd 8 (Sl nB nn nc) nn (aI ns' (trZ ns tr)))
  (he:Ra.map (·.1)=fl.map (·.1)) (hp:∀x∈Ra,W.ownsRow w.heap.size tPr 2 x.2 x.1.ps.length (x.1.ps.flatMap cz)) (aD:ns'.map CN.nd=ns.map CN.nd) (hkd:∀x∈ns',W.ownsRow w.heap.size aC 1 x.v x.kids.length (ints (bK x.kids)))
  (OC:∃m,W.ownsRow w.heap.size tMm 1 (Sl g 1 1) 1 [.map (some m)]/\ScV W m 0 []/\w.heap.size<=m) (Zu:W.ownsRow w.heap.size tBo 1 (Sl sB nn sc) nn ((List.replicate nn false).map Value.bool))
  (hbB:w.heap.size<=b) (hb:Zw w W):EY gs fl ns tr w (.returned (Pt b)) W:=by
 obtain ⟨m,hsc,hm,X7⟩:=OC;obtain ⟨rfl,rfl,rfl⟩:=hl;have uo:Ra.length=fl.length:=by have:=congrArg List.length he;simpa using this
 have mf:ns'.length=ns.length:=by have:=congrArg List.length aD;simpa using this
 have rb:∀{t:TypeId} {sz n:Nat} {v:Value} {xs:List Value},W.ownsRow w.heap.size t sz v n xs->lM W w.heap.size W.heap.size t sz v n xs:=fun h=>⟨h,fun k hk=>(h.lt k hk).2⟩
 refine ⟨⟨w.heap.size,b,gA,gc,nB,nc,fB,fc,sB,sc,gs,Ra,ns'⟩,⟨false,.pointer none,.map none,0,W.heap.size,List.replicate fl.length (Sn),[m],Sl g 1 1,0,[],List.replicate ns.length false,[]⟩,rfl,rfl,rfl,he,aD,?_,hb,rfl,rfl,rfl,rfl,rfl⟩;exact {
  chk:=by simp only [lD,uo,mf];exact hk
  nod:=by simp only [mf];exact hn
  fP:=by simp only [uo];exact hf
  see:=by simp only [mf];exact Zu
  trl:=by simp only [trZ,List.length_map,List.length_zip,Oo,mf,Nat.min_self]
  vll:=by simp only [List.length_replicate,uo]
  fil:=fun e=>by cases e
  var:=fun e=>by cases e
  sco:=hsc
  scl:=rfl
  dn:=fun j k s h1 h2=>by
   cases j with
   |zero=>
    simp only [List.getElem?_cons_zero,Option.some.injEq] at h1 h2;subst h1 h2;exact ⟨X7,hm⟩
   |succ j=>simp at h1
  gX:=by simp
  lab:=fun e=>by cases e
  jW:=fun e=>by cases e
  gZ:=fun x hx=>rb (hkd x hx)
  old:=fun j v l _ h2 _=>by simp at h2
  prm:=fun x hx=>rb (hp x hx)
  glb:=rb hg
  hB:=⟨hbB,(hn.lt nB rfl).1,(hf.lt fB rfl).1,(Zu.lt sB rfl).1,hb.size,Nat.le_refl _⟩}
theorem q9 {w:World}{gA fA nA:Option Addr}{gc fc nc:Nat}{gs:List Gl}{fl:List (Fn'×Value)}{vls:List Value}{ns:List CN}{tr:List (Int×Int)}(h:PgI w gA fA nA gc fc nc gs fl vls ns tr)(hg:gs.length<=1000000)(hf:fl.length<=1000000)(hn:ns.length<=1000000)(Er:∀g∈gs,g.s.length<=1000000)(Ke:∀x∈fl,x.1.s.length<=1000000/\x.1.ps.length<=1000000/\∀p∈x.1.ps,p.s.length<=1000000)(Eo:∀x∈ns,x.h.s.length<=1000000/\x.kids.length<=1000000)(Q4:1<=fl.length)(KQ:1<=ns.length) :
  Calls prog 23 #[pgV gA fA nA gs.length gc fl.length fc ns.length nc] w (EY gs fl ns tr w):=by
 obtain ⟨R,hR⟩:∃R:Ending->World->Prop,EY gs fl ns tr w=R:=⟨_,rfl⟩;rw [hR];have HR:=Hy hR;have GA:=@run_makeMap prog;have bT:=Blk.new w aK #[.slice gA gs.length gc,.slice fA fl.length fc,.slice nA ns.length nc];have h1:Zw w (w.alloc (.cells #[.slice gA gs.length gc,.slice fA fl.length fc,.slice nA ns.length nc] aK)):=(zB _ _).alloc (zL _) _;have BP:=rq ns.length hn;have HI:=Hy (h.on h1);have HU:Hid (∀W,Below (w.alloc (.cells #[.slice gA gs.length gc,.slice fA fl.length fc,.slice nA ns.length nc] aK)).heap.size (w.alloc (.cells #[.slice gA gs.length gc,.slice fA fl.length fc,.slice nA ns.length nc] aK)) W->Calls prog 47 #[pgV gA fA nA gs.length gc fl.length fc ns.length nc] W fun e w'=>UnP gs fl ns tr W e w'/\Below (w.alloc (.cells #[.slice gA gs.length gc,.slice fA fl.length fc,.slice nA ns.length nc] aK)).heap.size (w.alloc (.cells #[.slice gA gs.length gc,.slice fA fl.length fc,.slice nA ns.length nc] aK)) w'):=Hy fun W hW=>(wu (HI.on hW) hg hf hn Er Ke Eo).mono fun e w' h9=>⟨h9,by obtain ⟨_,_,_,_,_,_,_,_,_,Yz,_⟩:=h9;exact hW.trans (Yz.mono hW.size)⟩
 have HT:=Hy h.tl;obtain ⟨gn,qm⟩:=zN gs.length;obtain ⟨fn,ut⟩:=zN fl.length;obtain ⟨nn,DC⟩:=zN ns.length;have HN:=Hy3 qm ut DC;have Vt:=Hy2 Q4 KQ;rw [qm,ut,DC] at bT h1 HU |-;rw [DC] at BP hn;have Tg:=hn;clear hR h Er Ke Eo qm ut DC hg hf Q4 KQ hn HI;have HH1:=Hy h1;go_enter func23,ntmps23;go_upto_region 1 with (fail);obtain ⟨H0,GG⟩:=zN w.heap.size;rw [GG] at bT;have Z8:=Hy GG;have sQ:(w.alloc (.cells #[.slice gA gn gc,.slice fA fn fc,.slice nA nn nc] aK)).heap.size=H0+1:=by simp [GG]
 generalize w.alloc (.cells #[.slice gA gn gc,.slice fA fn fc,.slice nA nn nc] aK)=W1 at *;simp only [GG];clear GG h1;have q0:Ce W1 H0 0 (.slice gA gn gc):=bT.cell 0;have q1:Ce W1 H0 1 (.slice fA fn fc):=bT.cell 1;have q2:Ce W1 H0 2 (.slice nA nn nc):=bT.cell 2;have ql:=bT.lt;have HS:Hid (∀Wx,Zw W1 Wx->Ce Wx H0 0 (.slice gA gn gc)/\Ce Wx H0 1 (.slice fA fn fc)/\Ce Wx H0 2 (.slice nA nn nc)/\H0<Wx.heap.size):=Hy fun Wx hW=>
  ⟨(hW.cell (p:=Ad H0 0) ql).trans q0,(hW.cell (p:=Ad H0 1) ql).trans q1,(hW.cell (p:=Ad H0 2) ql).trans q2,Nat.lt_of_lt_of_le ql hW.size⟩
 have J:Zw W1 W1:=zB _ _;have YX:=Hy sQ;clear bT sQ;go_region_held2 (fun Wx=>Ce Wx H0 0 (.slice gA gn gc)/\Ce Wx H0 1 (.slice fA fn fc)/\Ce Wx H0 2 (.slice nA nn nc)/\H0<Wx.heap.size)
  (first|exact ⟨q0,q1,q2,ql⟩|exact HS _ J|exact HS _ (J.alloc J.size _)|exact HS _ (J.alloc J.size _).drew|exact HS _ ((J.alloc J.size _).alloc (by first|(simp;done)|(have:=J.size;simp;omega)) _)|exact HS _ ((J.alloc J.size _).alloc (by first|(simp;done)|(have:=J.size;simp;omega)) _).drew|exact HS _ (((J.alloc J.size _).alloc (by first|(simp;done)|(have:=J.size;simp;omega)) _).alloc (by first|(simp;done)|(have:=J.size;simp;omega)) _)|exact HS _ (((J.alloc J.size _).alloc (by first|(simp;done)|(have:=J.size;simp;omega)) _).alloc (by first|(simp;done)|(have:=J.size;simp;omega)) _).drew|exact HS _ ((((J.alloc J.size _).alloc (by first|(simp;done)|(have:=J.size;simp;omega)) _).alloc (by first|(simp;done)|(have:=J.size;simp;omega)) _).alloc (by first|(simp;done)|(have:=J.size;simp;omega)) _))
  ((go_at_call 47;(with_reducible refine Calls.mono (HU.out _ (by first|exact J|exact J.drew|exact J.alloc J.size _|exact (J.alloc J.size _).drew|exact (J.alloc J.size _).alloc (by simp) _|exact ((J.alloc J.size _).alloc (by simp) _).drew|exact ((J.alloc J.size _).alloc (by simp) _).alloc (by simp;omega) _|exact (((J.alloc J.size _).alloc (by simp) _).alloc (by first|(simp;done)|(simp;omega)) _).drew)) ?_);rintro e v2 ⟨⟨gA',yP,zZ,gc',xS,yG,Ra,ns',rfl,Oe,RG,RF,RN,he,hp,aD,hkd,hgx,hfx,Zv⟩,J⟩;obtain ⟨fB,rfl⟩:=hfx Vt.1;obtain ⟨nB,rfl⟩:=Zv Vt.2))
 all_goals
  go_wp2_with fail;rw [<-HR.out];have e1:=YX.out;have e2:=Z8.out;have e3:=Oe.size;have e4:=J.size;simp at e3;obtain ⟨rfl,rfl,rfl⟩:=HN;refine DF ⟨rfl,rfl,rfl⟩ HT (xR ?_) ?_ ?_ ?_ he ?_ aD ?_ ?_ ?_ ?_ ?_
  ·(first|omega|(simp;done)|(simp;omega))
  ·repeat (first|((with_reducible refine bg RG ?_);(first|omega|(simp;done)|(simp;omega)))|(with_reducible refine kY ?_ _))
  ·repeat (first|((with_reducible refine bg RF ?_);(first|omega|(simp;done)|(simp;omega)))|(with_reducible refine kY ?_ _))
  ·repeat (first|((with_reducible refine bg RN ?_);(first|omega|(simp;done)|(simp;omega)))|(with_reducible refine kY ?_ _))
  ·intro x hx
   repeat (first|((with_reducible refine bg (hp x hx) ?_);(first|omega|(simp;done)|(simp;omega)))|(with_reducible refine kY ?_ _))
  ·intro x hx
   repeat (first|((with_reducible refine bg (hkd x hx) ?_);(first|omega|(simp;done)|(simp;omega)))|(with_reducible refine kY ?_ _))
  ·refine ⟨?_,?_,?_,?_⟩;rotate_left
   ·repeat (first|((with_reducible refine zK ?_ ?_) <;> (first|omega|(simp;done)|(simp;omega)))|(with_reducible refine kY ?_ _)|(with_reducible refine ic Oe ?_)|(with_reducible refine yt ?_))
   ·repeat (first|((with_reducible refine made' ?_);(first|omega|(simp;done)|(simp;omega)))|(with_reducible refine wL ?_ _)|(with_reducible refine Iy Oe ?_)|(with_reducible refine zJ ?_))
   ·(first|omega|(simp;done)|(simp;omega))
  ·repeat (first|((with_reducible refine yu Tg ?_ ?_) <;> (first|omega|(simp;done)|(simp;omega)))|(with_reducible refine kY ?_ _)|(with_reducible refine ic Oe ?_)|(with_reducible refine yt ?_))
  ·(first|omega|(simp;done)|(simp;omega))
  ·repeat (first|(with_reducible exact HH1.out.trans (J.mono (by omega)))|((with_reducible refine Below.alloc ?_ ?_ _);rotate_left;(first|omega|(simp;done)|(simp;omega)))|(with_reducible refine Below.drew ?_))
end
end Go.Proofs.YtcchdlnfeijinaaGreatDoor
