/- Cse to Ckrow: CheckSays' walk. -/
import Derived.Test.YtcchdlnfeijinaaGreatDoorNba
import Derived.Test.YtcchdlnfeijinaaGreatDoorNaq
import Derived.Test.YtcchdlnfeijinaaGreatDoorRows
import Derived.Test.YtcchdlnfeijinaaGreatDoorNab
import Derived.Test.YtcchdlnfeijinaaGreatDoorNae
import Derived.ProofKit
import Derived.LaidMore
import Derived.Stop.LaidErr
import Derived.Stop.Joined
namespace Go.Proofs.YtcchdlnfeijinaaGreatDoor
open Go.Proofs.Tryz
set_option linter.unusedSimpArgs false
set_option linter.unusedVariables false
set_option maxHeartbeats 4000000
set_option maxRecDepth 100000
section
open Go Go.RowKit Go.Maps
def ckA (pg:Pg):Pg×List (Int×Int)×List (List Int)×Int×Int:=
 match aX pg with
 | .er no p=>(⟨[],[],.nil⟩,[],[],no,p)
 | .ok (tr,vs)=>(pg,tr,vs,0,0)
theorem PgC.on {B:Nat}{w w':World}{gA fA nA:Option Addr}{gc fc nc:Nat}{pg:Pg}{fl:List (Fn'×Value)}{vls:List Value}{ns:List CN}{tr:List (Int×Int)}{vs:List (List Int)}(h:PgC B w gA fA nA gc fc nc pg fl vls ns tr vs)(hb:Zw w w'):PgC B w' gA fA nA gc fc nc pg fl vls ns tr vs:=
 ⟨ah (aj hb) h.g (by simp),ah (aj hb) h.f (by simp),ah (aj hb) h.n (by simp),h.vl,h.tl,h.vn,fun x hx=>ah (aj hb) (h.ps x hx) (by simp),fun x hx=>ah (aj hb) (h.ks x hx) (by simp),fun j v l a b=>ah (aj hb) (h.vr j v l a b) (by simp),h.fe,h.ne⟩
theorem PgC.lf {B:Nat}{w:World}{gA fA nA:Option Addr}{gc fc nc:Nat}{pg:Pg}{fl:List (Fn'×Value)}{vls:List Value}{ns:List CN}{tr:List (Int×Int)}{vs:List (List Int)}(h:PgC B w gA fA nA gc fc nc pg fl vls ns tr vs):fl.length=pg.f.length:=by have:=congrArg List.length h.fe;rwa [List.length_map] at this
theorem PgC.ln {B:Nat}{w:World}{gA fA nA:Option Addr}{gc fc nc:Nat}{pg:Pg}{fl:List (Fn'×Value)}{vls:List Value}{ns:List CN}{tr:List (Int×Int)}{vs:List (List Int)}(h:PgC B w gA fA nA gc fc nc pg fl vls ns tr vs):ns.length=pg.t.size:=by have:=congrArg List.length h.ne;rwa [List.length_map,Fo.aD] at this
theorem rX {pg:Pg}(h:BdP pg):BdP (ckA pg).1/\∀l∈(ckA pg).2.2.1,l.length<=1000000:=by
 unfold ckA;cases hc:aX pg with
 |er no p=>
  exact ⟨⟨by simp,by simp,by simp [Fo.size],fun f hf=>(by cases hf),fun n hn=>(by simp [Fo.flat] at hn)⟩,fun l hl=>(by cases hl)⟩
 |ok x=>
  obtain ⟨tr,vs⟩:=x;exact ⟨h,EI h.p hc⟩
theorem xE {pg:Pg}{w w':World}{e:Ending}(h:nK pg w e w'):Zw w w'/\∃gA fA nA gc fc nc fl vls ns,
  e=.returned (.tuple #[pgV gA fA nA (ckA pg).1.g.length gc (ckA pg).1.f.length fc (ckA pg).1.t.size nc,.agg #[Iv (ckA pg).2.2.2.1,Iv (ckA pg).2.2.2.2]])/\PgC w.heap.size w' gA fA nA gc fc nc (ckA pg).1 fl vls ns (ckA pg).2.1 (ckA pg).2.2.1:=by
 obtain ⟨hb,hr⟩:=h;refine ⟨hb,?_⟩;unfold ckA;rcases hr with ⟨no,p,hc,rfl⟩|⟨tr,vs,gA,fA,nA,gc,fc,nc,fl,vls,ns,hc,rfl,hC⟩
 ·rw [hc];refine ⟨none,none,none,0,0,0,[],[],[],by simp [Fo.size],?_⟩
  exact ⟨World.ownsRow_nil _ _ _ _,World.ownsRow_nil _ _ _ _,World.ownsRow_nil _ _ _ _,rfl,rfl,rfl,fun x hx=>(by cases hx),fun x hx=>(by cases hx),fun j v l a b=>(by simp at a),rfl,rfl⟩
 ·rw [hc];refine ⟨gA,fA,nA,gc,fc,nc,fl,vls,ns,?_,hC⟩;rw [hC.lf,hC.ln]
theorem Ca {pg:Pg}{gs:List Gl}{fl Ra:List (Fn'×Value)}{ns ns':List CN}{tr:List (Int×Int)}(h:oP pg gs fl ns tr)(hf:Ra.map (·.1)=pg.f)(hn:ns'.map CN.nd=pg.t.flat 0):oP pg pg.g Ra ns' tr:=by
 have e:ns.map CN.nd=ns'.map CN.nd:=h.n.trans hn.symm;refine ⟨rfl,hf,hn,h.rt,h.tw,?_,h.sz,by rw [<-h.g];exact h.gl,h.fn,?_⟩
 ·intro i x t hx ht ho;have q:=congrArg (fun l=>l[i]?) e
  simp only [List.getElem?_map,hx,Option.map_some] at q;obtain ⟨y,hy,Zp⟩:=Option.map_eq_some_iff.1 q;have e1:=congrArg Nd.h Zp;simp only [CN.nd] at e1;have h9:=h.ty i y t hy ht;rw [e1] at h9;exact h9 ho
 ·intro x hx;have hm:=List.mem_map_of_mem (f:=CN.nd) hx;rw [<-e] at hm;obtain ⟨y,hy,Zp⟩:=List.mem_map.1 hm;have h9:=h.nn y hy;have e1:=congrArg Nd.h Zp;have e2:=congrArg Nd.kids Zp;simp only [CN.nd] at e1 e2;rw [e1,e2] at h9;exact h9
theorem Iz {w:World}{gA fA nA gA' yP zZ:Option Addr}{gc fc nc gc' xS yG:Nat}{pg:Pg}{fl ml:List (Fn'×Value)}{vls yB:List Value}{ns ms:List CN}{tr:List (Int×Int)}{vs:List (List Int)}
  (hB:BdP pg) (h:PgU w gA fA nA gc fc nc pg fl vls ns tr vs) (h':PgU w gA' yP zZ gc' xS yG pg ml yB ms tr vs) :
  Calls prog 12 #[pgV gA fA nA pg.g.length gc pg.f.length fc pg.t.size nc,pgV gA' yP zZ pg.g.length gc' pg.f.length xS pg.t.size yG] w fun e w'=>e=.returned (.bool true)/\Zw w w':=by
 have h1:=Jr h.r h'.r (h'.f.trans h.f.symm) (h'.n.trans h.n.symm) hB.g (by rw [h.lf];exact hB.f) (by rw [h.ln];exact hB.n) (h.pl hB) (h.kl hB) h.v
 rw [h.lf,h.ln,h'.lf,h'.ln] at h1;exact h1
theorem Jk {B:Nat}{w:World}{gA fA nA:Option Addr}{gc fc nc:Nat}{pg:Pg}{fl:List (Fn'×Value)}{vls:List Value}{ns:List CN}{tr:List (Int×Int)}{vs:List (List Int)}(hBd:BdP pg)(h:PgC B w gA fA nA gc fc nc pg fl vls ns tr vs)(hB:B<=w.heap.size)(hv:∀l∈vs,l.length<=1000000) :
  Calls prog 13 #[pgV gA fA nA pg.g.length gc pg.f.length fc pg.t.size nc] w fun e w'=>e=.returned (.tuple #[])/\Below B w w':=by
 have hU:PgU w gA fA nA gc fc nc pg fl vls ns tr vs:=⟨h.rd,h.fe,h.ne,hv⟩;have h1:=CS h hB hBd.g (by rw [h.lf];exact hBd.f) (by rw [h.ln];exact hBd.n) (hU.pl hBd) (hU.kl hBd) hv
 rw [h.lf,h.ln] at h1;exact h1
theorem Dv {l:List UInt8}{pg:Pg}(hr:lH l=some pg)(hl:l.length<=4096):∃s K,pJ TkV K pg s/\K<=50000:=by
 have h0:(gm l).2.1=0:=by
  unfold lH at hr;split at hr
  ·cases hr
  ·rename_i h0;simpa using h0
 have hp:=zP (V:=TkV) (ma h0).2.2;have hn:=(ma h0).2.1;unfold lH at hr;rw [if_neg (by simpa using h0)] at hr
 cases hP:eO (gm l).1 with
 |out=>rw [hP] at hr;cases hr
 |er n p=>rw [hP] at hr;cases hr
 |ok q s=>rw [hP] at hr hp;simp only [Option.some.injEq] at hr;subst hr;exact ⟨s,_,hp,by omega⟩
theorem rZ (s:ByteArray)(w:World)(hs:s.size<=maxLen)(hE:Env w/\ku w) :
  Calls prog 3 #[.string s] w fun e w'=>e=.returned (.bool true)/\Zw w w':=by
 by_cases hbig:4096<s.size
 ·have HK:=Hy (lm w hE);clear hE;unfold maxLen at hs;go_enter func3,ntmps3;go_wp2_with fail;refine HK.mono ?_;clear HK;rintro e w3 ⟨rfl,lW⟩;have QB:=Hy lW;clear lW;go_wp2_with fail;go_ret;exact ⟨rfl,QB⟩
 have uM:s.data.toList.length<=4096:=by rw [<-Lib.size_eq];omega
 have HR:=Hy (wR s hs w hE);have HE:=Hy hE;unfold maxLen at hs;clear hE;go_enter func3,ntmps3;go_upto_region 3 with (fail);go_wp2_with fail;refine HR.mono ?_;clear HR;rintro e w1 ⟨av,hp⟩;cases hP:lH s.data.toList with
 |none=>
  rw [hP] at hp;simp only at hp;subst hp;clear hP;go_upto_region 4 with (fail);have bW:=av.alloc av.size (.cells #[aS,aS,aS] aK);generalize w1.alloc (.cells #[aS,aS,aS] aK)=W2 at *;have Cb:=Hy bW;have HK:=Hy (lm W2 ⟨HE.1.of bW,HE.2.below bW (zL _)⟩);clear bW av;go_wp2_with fail;refine HK.mono ?_;clear HK;rintro e w3 ⟨rfl,lW⟩;have QB:=Hy (Cb.trans (lW.mono Cb.size));clear lW;go_wp2_with fail;go_ret;exact ⟨rfl,QB⟩
 |some pg=>
  rw [hP] at hp;simp only at hp;obtain ⟨gv,fv,nv,fl,ns,rfl,hM⟩:=hp;obtain ⟨A0,A1,A2,c0,c1,c2,rfl,rfl,rfl,hin,hU,htz⟩:=FU uM hP hM;obtain ⟨sP,KP,hOk,hKP⟩:=Dv hP uM;have hB:=hin.bd;have Uk:=hU.lf;have Fg:=hU.ln;obtain ⟨n0,Pf⟩:=zN pg.g.length;obtain ⟨n1,KQ⟩:=zN pg.f.length;obtain ⟨n2,wW⟩:=zN pg.t.size;obtain ⟨m0,Uh⟩:∃n,(ckA pg).1.g.length=n:=⟨_,rfl⟩;obtain ⟨m1,Qh⟩:∃n,(ckA pg).1.f.length=n:=⟨_,rfl⟩;obtain ⟨m2,GZ⟩:∃n,(ckA pg).1.t.size=n:=⟨_,rfl⟩;obtain ⟨no,hno⟩:∃n,(ckA pg).2.2.2.1=n:=⟨_,rfl⟩;obtain ⟨q,hq⟩:∃n,(ckA pg).2.2.2.2=n:=⟨_,rfl⟩
  /- the four contracts -/
  have hCP:∀W,Zw w1 W->Calls prog 9 #[pgV A0 A1 A2 n0 c0 n1 c1 n2 c2] W fun e w'=>∃gA' yP zZ gc' xS yG ml yB ms,e=.returned (pgV gA' yP zZ n0 gc' n1 xS n2 yG)/\
    PgC W.heap.size w' gA' yP zZ gc' xS yG pg ml yB ms (ns.map fun x=>(x.h.ty,0)) (List.replicate fl.length [])/\Zw W w':=fun W hW=>by
   have h9:=Az (hU.r.on hW) rfl hU.f hU.n hB.g (by rw [Uk];exact hB.f) (by rw [Fg];exact hB.n) (hU.pl hB) (hU.kl hB) hU.v
   rw [Fg,Pf,wW] at h9;have e1:pg.f.length=n1:=KQ;rw [Uk] at h9 |-;rw [KQ] at h9 |-;exact h9
  have hCk:∀W gA' yP zZ gc' xS yG ml yB ms,PgU W gA' yP zZ gc' xS yG pg ml yB ms (ns.map fun x=>(x.h.ty,0)) (List.replicate fl.length [])->Calls prog 10 #[pgV gA' yP zZ n0 gc' n1 xS n2 yG] W fun e w'=>Zw W w'/\
    ∃gA fA nA gc fc nc fl vls ns,e=.returned (.tuple #[pgV gA fA nA m0 gc m1 fc m2 nc,.agg #[Iv no,Iv q]])/\PgC W.heap.size w' gA fA nA gc fc nc (ckA pg).1 fl vls ns (ckA pg).2.1 (ckA pg).2.2.1:=fun W gA' yP zZ gc' xS yG ml yB ms h=>by
   have h9:=y8 h.r.pi (Ca hin h.f h.n);rw [h.lf,h.ln,Pf,KQ,wW] at h9;refine h9.mono fun e w' hp=>?_
   have h8:=xE hp;rw [Uh,Qh,GZ,hno,hq] at h8;exact h8
  have hRf:∀W,Zw w1 W->Calls prog 11 #[pgV A0 A1 A2 n0 c0 n1 c1 n2 c2] W fun e w'=>Zw W w'/\
    ∃gA fA nA gc fc nc fl vls ns,e=.returned (.tuple #[pgV gA fA nA m0 gc m1 fc m2 nc,.agg #[Iv no,Iv q]])/\PgC W.heap.size w' gA fA nA gc fc nc (ckA pg).1 fl vls ns (ckA pg).2.1 (ckA pg).2.2.1:=fun W hW=>by
   have h9:=Nn (hU.on hW) hin htz hOk hKP;rw [Uk,Fg,Pf,KQ,wW] at h9;refine h9.mono fun e w' hp=>?_
   have h8:=xE hp;rw [Uh,Qh,GZ,hno,hq] at h8;exact h8
  have hSp:∀W gA' yP zZ gc' xS yG ml yB ms,PgU W gA' yP zZ gc' xS yG pg ml yB ms (ns.map fun x=>(x.h.ty,0)) (List.replicate fl.length [])->Zw w1 W->Calls prog 12 #[pgV gA' yP zZ n0 gc' n1 xS n2 yG,pgV A0 A1 A2 n0 c0 n1 c1 n2 c2] W fun e w'=>e=.returned (.bool true)/\Zw W w':=fun W gA' yP zZ gc' xS yG ml yB ms h hW=>by
   have h9:=Iz hB h (hU.on hW);rw [Pf,KQ,wW] at h9;exact h9
  have hSa:∀B1 B2 W x1 x2 x3 y1 y2 y3 ml yB ms z1 z2 z3 t1 t2 t3 mk vk mt,PgC B1 W x1 x2 x3 y1 y2 y3 (ckA pg).1 ml yB ms (ckA pg).2.1 (ckA pg).2.2.1->PgC B2 W z1 z2 z3 t1 t2 t3 (ckA pg).1 mk vk mt (ckA pg).2.1 (ckA pg).2.2.1->
    Calls prog 12 #[pgV x1 x2 x3 m0 y1 m1 y2 m2 y3,pgV z1 z2 z3 m0 t1 m1 t2 m2 t3] W fun e w'=>e=.returned (.bool true)/\Zw W w':=fun B1 B2 W x1 x2 x3 y1 y2 y3 ml yB ms z1 z2 z3 t1 t2 t3 mk vk mt h h'=>by
   have h9:=Iz (rX hB).1 ⟨h.rd,h.fe,h.ne,(rX hB).2⟩ ⟨h'.rd,h'.fe,h'.ne,(rX hB).2⟩;rw [Uh,Qh,GZ] at h9;exact h9
  have hSl:∀B1 W x1 x2 x3 y1 y2 y3 ml yB ms,PgC B1 W x1 x2 x3 y1 y2 y3 (ckA pg).1 ml yB ms (ckA pg).2.1 (ckA pg).2.2.1->B1<=W.heap.size->
    Calls prog 13 #[pgV x1 x2 x3 m0 y1 m1 y2 m2 y3] W fun e w'=>e=.returned (.tuple #[])/\Below B1 W w':=fun B1 W x1 x2 x3 y1 y2 y3 ml yB ms h hW=>by
   have h9:=Jk (rX hB).1 h hW (rX hB).2;rw [Uh,Qh,GZ] at h9;exact h9
  have hvB:∀l∈(List.replicate fl.length []:List (List Int)),l.length<=1000000:=hU.v;have HX:=Hy6 hCP hCk hRf hSp hSa hSl;have HV:=Hy hvB;rw [Pf,KQ,wW];clear hP hM hin hU htz hOk hKP hB Uk Fg Pf KQ wW Uh Qh GZ hno hq hCP hCk hRf hSp hSa hSl hvB;generalize (ns.map fun x=>((x.h.ty,0):Int×Int))=tr1 at *
  generalize (List.replicate fl.length []:List (List Int))=vs1 at *;have aU:Zw w1 (w1.alloc (.cells #[.slice A0 n0 c0,.slice A1 n1 c1,.slice A2 n2 c2] aK)):=(zB _ _).alloc (zL _) _;have bW:=av.alloc av.size (.cells #[.slice A0 n0 c0,.slice A1 n1 c1,.slice A2 n2 c2] aK);have k2:=Blk.new w1 aK #[.slice A0 n0 c0,.slice A1 n1 c1,.slice A2 n2 c2];go_upto_region 6 with (fail);obtain ⟨K,hK⟩:=zN w1.heap.size;rw [hK] at k2;generalize w1.alloc (.cells #[.slice A0 n0 c0,.slice A1 n1 c1,.slice A2 n2 c2] aK)=W2 at *;simp only [hK];have z0:Ce W2 K 0 (.slice A0 n0 c0):=k2.cell 0;have z1:Ce W2 K 1 (.slice A1 n1 c1):=k2.cell 1;have z2:Ce W2 K 2 (.slice A2 n2 c2):=k2.cell 2;have zl:=k2.lt;have HC:=Hy (HX.1 _ aU);have Nc:=Hy3 bW aU k2;clear bW k2 av aU hK;go_wp2_with fail;refine HC.mono ?_;clear HC;rintro e w3 ⟨I0,I1,I2,i0,i1,i2,ml,yB,ms,rfl,Ac,lW⟩;clear z0 z1 z2 zl;have h3:=Nc.1.trans (lW.mono Nc.1.size);have Xk:=Nc.2.1.trans (lW.mono Nc.2.1.size);have k3:=Nc.2.2.below lW Nc.2.2.lt;have u3:PgU w3 I0 I1 I2 i0 i1 i2 pg ml yB ms tr1 vs1:=⟨Ac.rd,Ac.fe,Ac.ne,HV⟩;have k4:=Blk.new w3 aK #[.slice I0 n0 i0,.slice I1 n1 i1,.slice I2 n2 i2];have NJ:Zw w3 (w3.alloc (.cells #[.slice I0 n0 i0,.slice I1 n1 i1,.slice I2 n2 i2] aK)):=(zB _ _).alloc (zL _) _;clear Ac lW;go_upto_region 7 with (fail);obtain ⟨I,hI⟩:=zN w3.heap.size;rw [hI] at k4;generalize w3.alloc (.cells #[.slice I0 n0 i0,.slice I1 n1 i1,.slice I2 n2 i2] aK)=W4 at *;simp only [hI];have h4:=h3.trans (NJ.mono h3.size);have h4':=Xk.trans (NJ.mono Xk.size);have kk4:=k3.below NJ k3.lt;have u4:=u3.on NJ;have z0:Ce W4 I 0 (.slice I0 n0 i0):=k4.cell 0;have z1:Ce W4 I 1 (.slice I1 n1 i1):=k4.cell 1;have z2:Ce W4 I 2 (.slice I2 n2 i2):=k4.cell 2;have zl:=k4.lt;have HC:=Hy (HX.2.1 _ _ _ _ _ _ _ _ _ _ u4);have H4:=Hy5 h4 h4' kk4 k4 u4;clear h3 Xk k3 u3 NJ hI h4 h4' kk4 u4 k4;go_wp2_with fail;refine HC.mono ?_;clear HC;rintro e w5 ⟨qK,a0,a1,a2,x0,x1,x2,fa,va,na,rfl,E9⟩;clear z0 z1 z2 zl;have h5:=H4.1.trans (qK.mono H4.1.size);have h5':=H4.2.1.trans (qK.mono H4.2.1.size);have p5:=H4.2.2.1.below qK H4.2.2.1.lt;have i5:=H4.2.2.2.1.below qK H4.2.2.2.1.lt;have u5:=H4.2.2.2.2.on qK;have Yc:Zw W4 w5:=qK;have lt4:K<W4.heap.size/\I<W4.heap.size:=⟨H4.2.2.1.lt,H4.2.2.2.1.lt⟩;have HL4:=Hy lt4;clear qK lt4;go_upto_region 8 with (fail);have k7:=Blk.new (w5.alloc (.cells #[.slice a0 m0 x0,.slice a1 m1 x1,.slice a2 m2 x2] aK)) tDg #[Iv no,Iv q];have k6:=(Blk.new w5 aK #[.slice a0 m0 x0,.slice a1 m1 x1,.slice a2 m2 x2]).alloc (.cells #[Iv no,Iv q] tDg);have Hu:Zw w5 ((w5.alloc (.cells #[.slice a0 m0 x0,.slice a1 m1 x1,.slice a2 m2 x2] aK)).alloc (.cells #[Iv no,Iv q] tDg)):=((zB _ _).alloc (zL _) _).alloc (by simp) _
  rw [show (w5.alloc (.cells #[.slice a0 m0 x0,.slice a1 m1 x1,.slice a2 m2 x2] aK)).heap.size=w5.heap.size+1 by simp] at k7
  generalize (w5.alloc (.cells #[.slice a0 m0 x0,.slice a1 m1 x1,.slice a2 m2 x2] aK)).alloc (.cells #[Iv no,Iv q] tDg)=W6 at *;have h6:=h5.trans (Hu.mono h5.size);have h6':=h5'.trans (Hu.mono h5'.size);have p6:=p5.below Hu p5.lt;have i6:=i5.below Hu i5.lt;have u6:=u5.on Hu;have C6:=E9.on Hu;have hle6:=Yc.trans (Hu.mono Yc.size);obtain ⟨L,hL⟩:=zN w5.heap.size;rw [hL] at k6 k7;simp only [hL];have z0:Ce W6 K 0 (.slice A0 n0 c0):=p6.cell 0;have z1:Ce W6 K 1 (.slice A1 n1 c1):=p6.cell 1;have z2:Ce W6 K 2 (.slice A2 n2 c2):=p6.cell 2;have zl:=p6.lt;have HC:=Hy (HX.2.2.1 _ h6');have H6:=Hy9 h6 h6' p6 i6 u6 C6 hle6 k6 k7;clear h5 h5' p5 i5 u5 E9 Yc Hu hL h6 h6' p6 i6 u6 C6 hle6 k6 k7;go_wp2_with fail;refine HC.mono ?_;clear HC;rintro e w7 ⟨Ve,b0,b1,b2,y0,y1,y2,fb,vb,nb,rfl,hC7⟩;clear z0 z1 z2 zl;have h7:=H6.1.trans (Ve.mono H6.1.size);have h7':=H6.2.1.trans (Ve.mono H6.2.1.size);have p7:=H6.2.2.1.below Ve H6.2.2.1.lt;have i7:=H6.2.2.2.1.below Ve H6.2.2.2.1.lt;have u7:=H6.2.2.2.2.1.on Ve;have C7:=H6.2.2.2.2.2.1.on Ve;have Yb:=H6.2.2.2.2.2.2.1.trans (Ve.mono H6.2.2.2.2.2.2.1.size);have a7:=H6.2.2.2.2.2.2.2.1.below Ve H6.2.2.2.2.2.2.2.1.lt;have d7:=H6.2.2.2.2.2.2.2.2.below Ve H6.2.2.2.2.2.2.2.2.lt;clear Ve;go_upto_region 9 with (fail);have k9:=Blk.new (w7.alloc (.cells #[.slice b0 m0 y0,.slice b1 m1 y1,.slice b2 m2 y2] aK)) tDg #[Iv no,Iv q];have k8:=(Blk.new w7 aK #[.slice b0 m0 y0,.slice b1 m1 y1,.slice b2 m2 y2]).alloc (.cells #[Iv no,Iv q] tDg);have lu:Zw w7 ((w7.alloc (.cells #[.slice b0 m0 y0,.slice b1 m1 y1,.slice b2 m2 y2] aK)).alloc (.cells #[Iv no,Iv q] tDg)):=((zB _ _).alloc (zL _) _).alloc (by simp) _
  rw [show (w7.alloc (.cells #[.slice b0 m0 y0,.slice b1 m1 y1,.slice b2 m2 y2] aK)).heap.size=w7.heap.size+1 by simp] at k9
  generalize (w7.alloc (.cells #[.slice b0 m0 y0,.slice b1 m1 y1,.slice b2 m2 y2] aK)).alloc (.cells #[Iv no,Iv q] tDg)=W8 at *;have h8:=h7.trans (lu.mono h7.size);have h8':=h7'.trans (lu.mono h7'.size);have p8:=p7.below lu p7.lt;have i8:=i7.below lu i7.lt;have u8:=u7.on lu;have C8:=C7.on lu;have D8:=hC7.on lu;have Ya:=Yb.trans (lu.mono Yb.size);have a8:=a7.below lu a7.lt;have d8:=d7.below lu d7.lt;obtain ⟨M,hM⟩:=zN w7.heap.size;rw [hM] at k8 k9;simp only [hM];have HS:Hid (∀Wx,Zw W8 Wx->Ce Wx K 0 (.slice A0 n0 c0)/\Ce Wx K 1 (.slice A1 n1 c1)/\Ce Wx K 2 (.slice A2 n2 c2)/\K<Wx.heap.size/\Ce Wx I 0 (.slice I0 n0 i0)/\Ce Wx I 1 (.slice I1 n1 i1)/\Ce Wx I 2 (.slice I2 n2 i2)/\I<Wx.heap.size/\Ce Wx L 0 (.slice a0 m0 x0)/\Ce Wx L 1 (.slice a1 m1 x1)/\Ce Wx L 2 (.slice a2 m2 x2)/\L<Wx.heap.size/\Ce Wx (L+1) 0 (Iv no)/\Ce Wx (L+1) 1 (Iv q)/\L+1<Wx.heap.size/\Ce Wx M 0 (.slice b0 m0 y0)/\Ce Wx M 1 (.slice b1 m1 y1)/\Ce Wx M 2 (.slice b2 m2 y2)/\M<Wx.heap.size/\Ce Wx (M+1) 0 (Iv no)/\Ce Wx (M+1) 1 (Iv q)/\M+1<Wx.heap.size):=Hy fun Wx hW=>by
   have v1:=p8.below hW p8.lt;have v2:=i8.below hW i8.lt;have v3:=a8.below hW a8.lt;have v4:=d8.below hW d8.lt;have v5:=k8.below hW k8.lt;have v6:=k9.below hW k9.lt;exact ⟨v1.cell 0,v1.cell 1,v1.cell 2,v1.lt,v2.cell 0,v2.cell 1,v2.cell 2,v2.lt,v3.cell 0,v3.cell 1,v3.cell 2,v3.lt,v4.cell 0,v4.cell 1,v4.lt,v5.cell 0,v5.cell 1,v5.cell 2,v5.lt,v6.cell 0,v6.cell 1,v6.lt⟩
  have HA1:Hid (∀W,Zw W8 W->Calls prog 12 #[pgV a0 a1 a2 m0 x0 m1 x1 m2 x2,pgV b0 b1 b2 m0 y0 m1 y1 m2 y2] W fun e w'=>e=.returned (.bool true)/\Zw W8 w'):=Hy fun W hW=>
   (HX.2.2.2.2.1 _ _ _ _ _ _ _ _ _ _ _ _ _ _ _ _ _ _ _ _ _ (C8.on hW) (D8.on hW)).mono fun e w' h=>⟨h.1,hW.trans (h.2.mono hW.size)⟩
  have HA2:Hid (∀W,Zw W8 W->Calls prog 12 #[pgV I0 I1 I2 n0 i0 n1 i1 n2 i2,pgV A0 A1 A2 n0 c0 n1 c1 n2 c2] W fun e w'=>e=.returned (.bool true)/\Zw W8 w'):=Hy fun W hW=>
   (HX.2.2.2.1 _ _ _ _ _ _ _ _ _ _ (u8.on hW) (h8'.trans (hW.mono h8'.size))).mono fun e w' h=>⟨h.1,hW.trans (h.2.mono hW.size)⟩
  have HA3:Hid (∀W,Zw W8 W->Calls prog 13 #[pgV a0 a1 a2 m0 x0 m1 x1 m2 x2] W fun e w'=>e=.returned (.tuple #[])/\Below W4.heap.size W w'):=Hy fun W hW=>
   HX.2.2.2.2.2 _ _ _ _ _ _ _ _ _ _ _ (C8.on hW) (Nat.le_trans Ya.size hW.size)
  have J:Zw W8 W8:=zB _ _;obtain ⟨XB,XA,Xz,pl,XG,XF,XE,il,ac0,ac1,ac2,al,dc0,dc1,dl,bc0,bc1,bc2,bl,ec0,ec1,el⟩:=HS _ J;have H8:=Hy3 h8 h8' Ya;clear h7 h7' p7 i7 u7 C7 Yb a7 d7 hC7 lu hM h8 h8' p8 i8 u8 C8 D8 Ya a8 d8 k8 k9;go_wp2_with fail;refine (HA1 _ J).mono ?_;clear J XB XA Xz pl XG XF XE il ac0 ac1 ac2 al dc0 dc1 dl bc0 bc1 bc2 bl ec0 ec1 el;rintro e v1 ⟨rfl,J⟩;obtain ⟨XB,XA,Xz,pl,XG,XF,XE,il,ac0,ac1,ac2,al,-⟩:=HS _ J;go_wp2_with fail;refine (HA2 _ J).mono ?_;clear J XB XA Xz pl XG XF XE il ac0 ac1 ac2 al;rintro e v2 ⟨rfl,J⟩;obtain ⟨XB,XA,Xz,pl,XG,XF,XE,il,ac0,ac1,ac2,al,-⟩:=HS _ J;have CY:=H8.2.2.trans (J.mono H8.2.2.size);have HV2:=Hy CY;clear CY;go_wp2_with fail;refine (HA3 _ J).mono ?_;clear J XB XA Xz pl XG XF XE il ac0 ac1 ac2 al;rintro e v3 ⟨rfl,lW⟩;have hT:=HV2.trans lW;have g1:=H4.2.2.1.below hT HL4.1;have g2:=H4.2.2.2.1.below hT HL4.2;have XB:Ce v3 K 0 (.slice A0 n0 c0):=g1.cell 0;have XA:Ce v3 K 1 (.slice A1 n1 c1):=g1.cell 1;have Xz:Ce v3 K 2 (.slice A2 n2 c2):=g1.cell 2;have pl:=g1.lt;have XG:Ce v3 I 0 (.slice I0 n0 i0):=g2.cell 0;have XF:Ce v3 I 1 (.slice I1 n1 i1):=g2.cell 1;have XE:Ce v3 I 2 (.slice I2 n2 i2):=g2.cell 2;have il:=g2.lt;have q1:=H4.2.1.trans (hT.mono H4.2.1.size);have q2:=H4.1.trans (hT.mono H4.1.size);have HC:=Hy (HX.2.2.2.1 _ _ _ _ _ _ _ _ _ _ (H4.2.2.2.2.on hT) q1);have HQ:=Hy q2;clear lW hT g1 g2 q1 q2;go_wp2_with fail;refine HC.mono ?_;clear HC XB XA Xz pl XG XF XE il;rintro e v4 ⟨rfl,NJ⟩;have q4:=HQ.trans (NJ.mono HQ.size);have HK:=Hy (lm v4 ⟨HE.1.of q4,HE.2.below q4 (zL _)⟩);have HQ4:=Hy q4;clear q4 NJ;go_wp2_with fail;refine HK.mono ?_;clear HK;rintro e v5 ⟨rfl,qK⟩;have HQ5:=Hy (HQ4.trans (qK.mono HQ4.size));clear qK;go_wp2_with fail;go_ret;exact ⟨rfl,HQ5⟩
end
section
open Go Go.ChangeShapes Go.WideShapes Go.ChangeAt Go.WideMaps Go.WideElems Go.RowKit
def laidAll:List (String×DataW Unit):=[("math/bits.deBruijn32tab",Rows.laid_math_bits_deBruijn32tab),("math/bits.deBruijn64tab",Rows.laid_math_bits_deBruijn64tab),("internal/strconv.uint64pow10",Rows.laid_internal_strconv_uint64pow10),("strconv.ErrRange",Rows.laid_strconv_ErrRange),("strconv.ErrSyntax",Rows.laid_strconv_ErrSyntax),("mortise/lex.signs",Rows.laid_mortise_lex_signs),("mortise/parse.typeNames",Rows.laid_mortise_parse_typeNames)]
theorem EF (os:Os)(args:Array Value):laidMetH Tryz.prog laidAll ((World.doorLaid Tryz.prog 72 os).forCall (fun _ _=>0) ⟨#[],args,[]⟩).memory:=
 laidMetH_of_parts3 (fuel:=8) (laidMet_of_run' 8 (by kernel_rfl) (by kernel_rfl)) (by kernel_rfl) (by kernel_rfl)
theorem star: "*" ++ "errors.errorString" = "*errors.errorString" :=by decide
theorem Jy (u:TypeId)(h:Tryz.prog.typeName? 3 u=some "*errors.errorString"):u=217:=
 typeName_ptr_named (nm:= "errors.errorString") (by rw [star];kernel_rfl) (by kernel_rfl) (by decide) u (by rw [star];exact h)
theorem tyR:(Tryz.prog.globals[gR]?).map (·.type)=some 166:=by kernel_rfl
theorem tyT:(Tryz.prog.globals[gT]?).map (·.type)=some 225:=by kernel_rfl
theorem tyS:(Tryz.prog.globals[gS]?).map (·.type)=some 169:=by kernel_rfl
theorem tyY:(Tryz.prog.globals[gY]?).map (·.type)=some 170:=by kernel_rfl
theorem cE:Tryz.prog.cellsOf 219=1:=by kernel_rfl
theorem cStr:Tryz.prog.cellsOf 9=1:=by kernel_rfl
theorem NE:Tryz.prog.cellsOf 196=1:=by kernel_rfl
theorem cT:Tryz.prog.cellsOf 225=20:=by kernel_rfl
theorem cS:Tryz.prog.cellsOf 169=30:=by kernel_rfl
theorem cY:Tryz.prog.cellsOf 170=4:=by kernel_rfl
theorem xA {W:World}(h:laidMetH Tryz.prog laidAll W):Env W/\ku W:=by
 rw [MakeChecks.laidMetH_plain _ _ _ (by kernel_rfl)] at h
 have h2:=h.tail.tail;have h3:=h2.tail;have h5:=h3.tail.tail;have ht:=Lib.tabIs_of_head (k:=.u64) (zs:=Lib.pow10Tab) nT tyT Tryz.underlying225 Tryz.underlying196 NE cT h2;obtain ⟨a0,s0,TE,-,-,-⟩:=laid_sentinel h3 nR tyR Tryz.underlying166 Jy Tryz.underlying217 Tryz.underlying219 rfl rfl Tryz.underlying9 cE cStr;have hs:W.var? Tryz.prog "mortise/lex.signs" =some (sg.map fun z=>Ss z).toArray:=by
  obtain ⟨ps,⟨g',t',cs,fuel,p,q,Ir,Zt,RZ,hd,_,_⟩,_⟩:=h5;obtain rfl:=Option.some.inj (nS.symm.trans Ir);obtain rfl:=Option.some.inj (tyS.symm.trans Zt);have:=mQ (zs:=sg) Tryz.underlying169 Tryz.underlying9 cStr cS hd;rw [RZ,<-this]
 have h6:=h5.tail;have hy:W.var? Tryz.prog "mortise/parse.typeNames" =some (tys.map fun z=>Ss z).toArray:=by
  obtain ⟨ps,⟨g',t',cs,fuel,p,q,Ir,Zt,RZ,hd,_,_⟩,_⟩:=h6;obtain rfl:=Option.some.inj (nY.symm.trans Ir);obtain rfl:=Option.some.inj (tyY.symm.trans Zt);have:=mQ (zs:=tys) Tryz.underlying170 Tryz.underlying9 cStr cY hd;rw [RZ,<-this]
 exact ⟨⟨ht,⟨_,_,TE⟩,hs,mH nS hs,mH nT ht,mH nR TE⟩,⟨hy,mH nY hy⟩⟩
end
end Go.Proofs.YtcchdlnfeijinaaGreatDoor
