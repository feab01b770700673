/- Ckl to Ckt: Layer check: visits. -/
import Derived.Test.YtcchdlnfeijinaaGreatDoorNag
namespace Go.Proofs.YtcchdlnfeijinaaGreatDoor
open Go.Proofs.Tryz
set_option linter.unusedSimpArgs false
set_option linter.unusedVariables false
set_option maxHeartbeats 4000000
set_option maxRecDepth 100000
section
open Go Go.RowKit Go.Maps
def zu (X:CkX) (S:CkS) (n:Nat) (r:Ck Cs) (w:World) (e:Ending) (w':World):Prop:=
 (∃τ,r=.ok τ/\e=.returned (.tuple #[])/\(WfS X τ/\τ.sc.length=n)/\∃S',Sx S S'/\CkV X S' τ w'/\Below X.B w w')∨(∃no p,r=.er no p/\e=.panicked [{v:=.iface tFt (.agg #[Iv no,Iv p]),recovered:=false}]/\Below X.B w w')
def TrW:Fo->Prop
 | .nil=>True
 | .cons h k r=>(h.s.length<=1000000/\(h.op=4->k.len=1)/\(h.op=5->k.len=2)/\(h.op=15∨h.op=16->1<=k.len))/\TrW k/\TrW r
theorem ky (F:Fo):∀(c r:Nat),r∈F.roots c->r<c+F.size:=by
 induction F with
 |nil=>intro c r h;simp [Fo.roots] at h
 |cons h k r _ ih=>
  intro c x hx;simp only [Fo.roots,List.mem_cons] at hx;simp only [Fo.size];rcases hx with rfl|hx
  ·omega
  ·have:=ih _ _ hx;omega
theorem gq (F:Fo)(c:Nat):(F.roots c).length=F.len:=Fo.dK F c
theorem iY (F:Fo):F.len<=F.size:=by
 induction F with
 |nil=>exact zL _
 |cons h k r _ ih=>simp only [Fo.len,Fo.size];omega
structure Vq (X:CkX) (K:Kn) (F:Fo) (c:Nat) (σ:Cs) (S:CkS) (w:World) (d:Nat):Prop where
 v:CkV X S σ w
 kn:KnW X S K
 wf:WfS X σ
 hld:Hld (X.ns.map CN.nd) F c
 tr:TrW F
 sz:σ.sc.length+F.size<=1000000
 dp:d+F.size<=60000
def EU (X:CkX) (K:Kn) (h:Hd) (k:Fo):Prop:=
 ∀(c:Nat) (σ:Cs) (S:CkS) (w:World) (d:Nat),Vq X K (.cons h k .nil) c σ S w d->Calls prog 97 #[ckp X,Iv ((c+k.size:Nat):Int),Iv (d:Int)] w (zu X S σ.sc.length (dF K (.cons h k .nil) c σ) w)
def E8 (X:CkX) (K:Kn):Fo->Prop
 | .nil=>True
 | .cons h k r=>EU X K h k/\E8 X K r
def AB (X:CkX) (K:Kn) (F:Fo):Prop:=
 ∀(c:Nat) (σ:Cs) (S:CkS) (w:World) (d i:Nat) (x:CN),Vq X K F c σ S w (d+1)->X.ns[i]? =some x->x.kids=F.roots c->Calls prog 57 #[ckp X,Iv (i:Int),Iv (d:Int)] w (zu X S σ.sc.length (dF K F c σ) w)
theorem wm (K:Kn)(h:Hd)(k r:Fo)(c:Nat)(σ:Cs):dF K (.cons h k r) c σ=(dF K (.cons h k .nil) c σ).bind fun τ=>dF K r (c+k.size+1) τ:=by
 simp only [dF,Ck.bind_assoc,Ck.bind_ok]
theorem DI {X:CkX}{h:Hd}{k r:Fo}{c:Nat}(hh:Hld (X.ns.map CN.nd) (.cons h k r) c):∃x:CN,X.ns[c+k.size]? =some x/\x.h=h/\x.kids=k.roots c:=by
 have:=hh.2.1;rw [List.getElem?_map] at this;cases hx:X.ns[c+k.size]? with
 |none=>rw [hx] at this;cases this
 |some x=>
  rw [hx] at this;simp only [Option.map_some,Option.some.injEq,CN.nd,Nd.mk.injEq] at this;exact ⟨x,rfl,this.1,this.2⟩
theorem uS {X:CkX}{K:Kn}{F:Fo}(hT:E8 X K F):AB X K F:=by
 intro c σ S w d i x q hx hk;obtain ⟨R,hR⟩:∃R:Ending->World->Prop,zu X S σ.sc.length (dF K F c σ) w=R:=⟨_,rfl⟩;rw [hR];have HR:=Hy hR;obtain ⟨A,cc,hv,hr⟩:=q.v.kids hx;have c2:=q.v.c2;have eu:=q.v.chk.lt;have mf:=q.v.aU;have h5:=q.v.ai hx 5 (by omega)
 simp only [aA,List.getElem?_cons_succ,List.getElem?_cons_zero] at h5;rw [hv] at h5;have hil:=(zS.1 hx).1;have Zz:(i:Int)<X.ns.length:=by omega
 obtain ⟨n,hn⟩:=zN x.kids.length;have wW:n<=60000:=by
  have h1:=gq F c;have h2:=iY F;have h3:=q.dp;rw [<-hk] at h1;omega
 rw [hn] at h5;have HRK:=Hy3 hv hk hn;have HQ:=Hy2 hT q;have Tn:d<=60000:=by have:=q.dp;omega
 clear hR hT q hr hk hn hv;go_enter func57,ntmps57;go_wp2_with fail;go_loopw [18] (fun v wr=>∃(j:Nat) (F':Fo) (c':Nat) (σ':Cs) (S':CkS),j+F'.len=n/\v=Iv j/\F'.roots c'=(F.roots c).drop j/\dF K F c σ=dF K F' c' σ'/\E8 X K F'/\Vq X K F' c' σ' S' wr (d+1)/\σ'.sc.length=σ.sc.length/\Sx S S'/\Below X.B w wr) (fun v _=>n - (intOf v).toNat)
 case atStart=>exact ⟨0,F,c,σ,S,by rw [<-gq F c,<-HRK.2.1,HRK.2.2];omega,rfl,rfl,rfl,HQ.1,HQ.2,rfl,Sx.refl S,zB _ _⟩
 case round=>
  obtain ⟨j,F',c',σ',S',Uo,rfl,LB,PV,Xc,q',Lh,O5,bW⟩:=hrel;cases F' with
  |nil=>
   simp only [Fo.len,Nat.add_zero] at Uo;subst Uo;have HE:=Hy (show R (.returned (.tuple #[])) wr by
    rw [<-HR.out];exact .inl ⟨σ',PV,rfl,⟨q'.wf,Lh⟩,S',O5,q'.v,bW⟩)
   clear LB PV Xc q' Lh O5 bW;go_wp2_with fail;go_end0;exact HE
  |cons h k r=>
   have hlt:j<n:=by simp only [Fo.len] at Uo;omega
   have NZ:(j:Int)<n:=by omega
   have hkj:x.kids[j]? =some (c'+k.size):=by
    have h1:(Fo.roots c' (.cons h k r))[0]? =some (c'+k.size):=rfl;rw [LB,List.getElem?_drop,Nat.add_zero] at h1;rw [HRK.2.1];exact h1
   obtain ⟨A',cc',Py,Qb⟩:=q'.v.kids hx;rw [HRK.1] at Py;simp only [Value.slice.injEq,true_and] at Py;obtain ⟨rfl,rfl⟩:=Py;obtain ⟨g,o,rfl,hg,Yr⟩:∃g o,A=some (Ad g o)/\g<wr.heap.size/\Ce wr g (o+j) (Iv ((c'+k.size:Nat):Int)):=by
    rcases Qb with h0|⟨g,o,e,hg,hc⟩
    ·rw [h0] at hkj;simp at hkj
    ·exact ⟨g,o,e,hg,hc j _ hkj⟩
   have q1:Vq X K (.cons h k .nil) c' σ' S' wr (d+1):=⟨q'.v,q'.kn,q'.wf,⟨q'.hld.1,q'.hld.2.1,trivial⟩,⟨q'.tr.1,q'.tr.2.1,trivial⟩,by have:=q'.sz;simp only [Fo.size] at this |-;omega,by have:=q'.dp;simp only [Fo.size] at this |-;omega⟩
   have Yq:=Xc.1 c' σ' S' wr (d+1) q1;rw [show (((d+1:Nat)):Int)=(d:Int)+1 by omega] at Yq
   have HC:=Hy Yq;have HI:=Hy8 PV Xc q' Lh O5 bW LB Uo;clear Yq PV Xc q' Lh O5 bW LB Uo Qb q1 hkj;generalize c'+k.size=kk at *;go_wp2_with fail;refine HC.mono ?_;clear HC;rintro e w1 (⟨τ,hτ,rfl,⟨O4,Fg⟩,S2,GN,qM,aU⟩|⟨no,p,hτ,rfl,aU⟩)
   ·have sQ:=HI.2.2.1.v.Ble;have HJ:=Hy (show j+1+r.len=n/\Fo.roots (c'+k.size+1) r=(Fo.roots c F).drop (j+1)/\dF K F c σ=dF K r (c'+k.size+1) τ/\E8 X K r/\Vq X K r (c'+k.size+1) τ S2 w1 (d+1)/\τ.sc.length=σ.sc.length/\Sx S S2/\Below X.B w w1 by
     obtain ⟨PV,Xc,q',Lh,O5,bW,LB,Uo⟩:=HI;refine ⟨by simp only [Fo.len] at Uo;omega,?_,by rw [PV,wm,hτ];rfl,Xc.2,⟨qM,q'.kn.sx GN,O4,q'.hld.2.2,q'.tr.2.2,?_,?_⟩,by rw [Fg,Lh],O5.trans GN,bW.trans aU⟩
     ·have:=congrArg List.tail LB
      simpa [Fo.roots,List.tail_drop] using this
     ·have:=q'.sz;simp only [Fo.size] at this;omega
     ·have:=q'.dp;simp only [Fo.size] at this;omega)
    clear hτ O4 Fg GN qM aU HI;go_wp2_with fail;go_roundw
    case rel=>exact ⟨j+1,r,c'+k.size+1,τ,S2,HJ.1,by go_num,HJ.2.1,HJ.2.2.1,HJ.2.2.2.1,HJ.2.2.2.2.1,HJ.2.2.2.2.2.1,HJ.2.2.2.2.2.2.1,HJ.2.2.2.2.2.2.2⟩
    case measure=>simp [intOf];omega
   ·have HE:=Hy (show R (jU no p) w1 by
     rw [<-HR.out];obtain ⟨PV,Xc,q',Lh,O5,bW,LB,Uo⟩:=HI;exact .inr ⟨no,p,by rw [PV,wm,hτ];rfl,rfl,bW.trans aU⟩)
    clear hτ aU HI;go_wp2_with fail;exact aG rfl HE
theorem WfS.push {X:CkX}{σ:Cs}(h:WfS X σ):WfS X {σ with sc:=σ.sc ++ [[]]}:=by
 refine ⟨by simp,h.vs,?_,?_⟩
 ·intro s hs;rcases List.mem_append.1 hs with hs|hs
  ·exact h.ln s hs
  ·simp only [List.mem_singleton] at hs;subst hs;simp
 ·intro s hs;rcases List.mem_append.1 hs with hs|hs
  ·exact h.fn s hs
  ·simp only [List.mem_singleton] at hs;subst hs;intro p hp;cases hp
theorem WfS.pop {X:CkX}{τ:Cs}(h:WfS X τ){n:Nat}(hn:τ.sc.length=n+1)(h1:1<=n):WfS X {τ with sc:=τ.sc.dropLast}:=
 ⟨by simp [hn];exact h1,h.vs,fun s hs=>h.ln s (List.dropLast_subset _ hs),fun s hs=>h.fn s (List.dropLast_subset _ hs)⟩
theorem Kb {X:CkX}{K:Kn}{σ:Cs}{x:CN}{h:Hd}{k:Fo}{c:Nat}(hh:x.h=h)(hk:x.kids=k.roots c)(ht:TrW (.cons h k .nil))(hl:c+k.size<X.ns.length)(hw:WfS X σ)(hs:σ.sc.length<=1000000)(hz:k.size<=60000)(WS:K.np=X.fl.map fun f=>f.1.ps.length):NdW X K σ x where
 s:=by rw [hh];exact ht.1.1
 ks:=fun r hr=>by rw [hk] at hr;have:=ky k c r hr;omega
 kl:=by rw [hk,gq];have:=iY k;omega
 sc:=hs
 fn:=fun m hm h4=>by
  obtain ⟨s,hs,p,hp,rfl⟩:=BB hm;exact hw.fn s hs p hp h4
 np:=WS
theorem Lm {h:Hd}{k:Fo}{c:Nat}(ht:TrW (.cons h k .nil)):ArW h (k.roots c) where
 one:=fun h4=>by
  have:=ht.1.2.1 h4;rw [<-gq k c] at this;exact List.length_eq_one_iff.1 this
 two:=fun h5=>by
  have:=ht.1.2.2.1 h5;rw [<-gq k c] at this
  match k.roots c,this with
  | [a,b],_=>exact ⟨a,b,rfl⟩
 some_:=fun h6=>by
  have:=ht.1.2.2.2 h6;rw [<-gq k c] at this;cases e:k.roots c with
  |nil=>rw [e] at this;simp at this
  |cons a l=>exact ⟨a,l,rfl⟩
theorem wh {X:CkX}{K:Kn}{h:Hd}{k:Fo}(hK:AB X K k)(ho:h.op=11):EU X K h k:=by
 intro c σ S w d q;have e:dF K (.cons h k .nil) c σ=(dF K k c {σ with sc:=σ.sc ++ [[]]}).bind fun τ=>.ok {τ with sc:=τ.sc.dropLast}:=by
  simp only [dF,if_pos ho,Ck.bind_assoc,Ck.bind_ok]
 rw [e];obtain ⟨x,hx,hxh,PR⟩:=DI q.hld;obtain ⟨R,hR⟩:∃R:Ending->World->Prop,zu X S σ.sc.length ((dF K k c {σ with sc:=σ.sc ++ [[]]}).bind fun τ=>.ok {τ with sc:=τ.sc.dropLast}) w=R:=⟨_,rfl⟩
 rw [hR];have HR:=Hy hR;have hil:=(zS.1 hx).1;have c2:=q.v.c2;have eu:=q.v.chk.lt;have mf:=q.v.aU;have h0:=q.v.ai hx 0 (by omega)
 simp only [aA,List.getElem?_cons_succ,List.getElem?_cons_zero,Nat.add_zero] at h0;rw [hxh,ho] at h0;have sQ:=q.sz;have Tm:=q.dp;simp only [Fo.size] at sQ Tm;have HO:=Hy (wV q.v (by omega))
 have Tn:(d:Int)<=60000:=by omega
 have HQ:=Hy q;have HX:=Hy2 hx PR;obtain ⟨ii,VT⟩:=zN (c+k.size);have Za:=Hy VT;rw [VT] at hil h0 |-;have Zz:(ii:Int)<X.ns.length:=by omega
 clear hR e q hx PR VT;go_enter func97,ntmps97;go_wp2_with fail;refine HO.mono ?_;clear HO;rintro e w1 ⟨rfl,v1,m1,AR,av⟩;have HKC:=Hy (show Calls prog 57 #[ckp X,Iv (ii:Int),Iv (d:Int)] w1 (zu X (S.push v1 m1) (σ.sc.length+1) (dF K k c {σ with sc:=σ.sc ++ [[]]}) w1) by
  have q:=HQ.out;have:=hK c {σ with sc:=σ.sc ++ [[]]} (S.push v1 m1) w1 d ii x ⟨AR,⟨q.kn.on,q.kn.ft,q.kn.lb,q.kn.np⟩,q.wf.push,q.hld.1,q.tr.2.1,by simp;omega,by omega⟩ (by rw [<-Za.out];exact HX.1) HX.2
  simpa using this)
 have iK:=Hy av;clear AR av;go_wp2_with fail;refine HKC.mono ?_;clear HKC;rintro e w2 (⟨τ,hτ,rfl,⟨O4,Fg⟩,S2,GN,qM,aU⟩|⟨no,p,hτ,rfl,aU⟩)
 ·have HCL:=Hy (uj qM (k:=σ.sc.length) Fg (by omega))
  have UB:=qM.chk.lt;have HT:=Hy6 hτ O4 Fg GN qM aU;clear hτ O4 Fg GN qM aU;go_wp2_with fail;refine HCL.mono ?_;clear HCL;rintro e w3 ⟨rfl,v3,Ac,lW⟩;have HE:=Hy (show R (.returned (.tuple #[])) w3 by
   rw [<-HR.out];obtain ⟨hτ,O4,Fg,⟨v2,s2,rfl,CY⟩,-,aU⟩:=HT;refine .inl ⟨{τ with sc:=τ.sc.dropLast},by rw [hτ];rfl,rfl,⟨O4.pop Fg HQ.wf.one,by simp [Fg]⟩,{S with vls:=v2,scv:=v3},⟨v2,v3,rfl,CY⟩,?_,(iK.trans aU).trans lW⟩
   have e9:(CkS.pop {S.push v1 m1 with vls:=v2,scv:=s2} v3)={S with vls:=v2,scv:=v3}:=by simp [CkS.pop,CkS.push]
   rw [<-e9];exact Ac)
  clear Ac lW;go_wp2_with fail;go_end0;exact HE
 ·have HE:=Hy (show R (jU no p) w2 by
   rw [<-HR.out];exact .inr ⟨no,p,by rw [hτ];rfl,rfl,iK.trans aU⟩)
  clear hτ aU;go_wp2_with fail;exact aG rfl HE
theorem xY {X:CkX}{K:Kn}{h:Hd}{k:Fo}(hK:AB X K k)(ho:h.op≠11):EU X K h k:=by
 intro c σ S w d q;have e:dF K (.cons h k .nil) c σ=(dF K k c σ).bind fun τ=>eB K h (k.roots c) (c+k.size) τ:=by
  simp only [dF,if_neg ho,Ck.bind_assoc]
  congr 1
  funext τ
  cases eB K h (k.roots c) (c+k.size) τ <;> rfl
 rw [e];obtain ⟨x,hx,hxh,PR⟩:=DI q.hld;obtain ⟨R,hR⟩:∃R:Ending->World->Prop,zu X S σ.sc.length ((dF K k c σ).bind fun τ=>eB K h (k.roots c) (c+k.size) τ) w=R:=⟨_,rfl⟩
 rw [hR];have HR:=Hy hR;have hil:=(zS.1 hx).1;have c2:=q.v.c2;have eu:=q.v.chk.lt;have mf:=q.v.aU;have h0:=q.v.ai hx 0 (by omega)
 simp only [aA,List.getElem?_cons_succ,List.getElem?_cons_zero,Nat.add_zero] at h0;rw [hxh] at h0;have sQ:=q.sz;have Tm:=q.dp;simp only [Fo.size] at sQ Tm;have Tn:(d:Int)<=60000:=by omega
 have HQ:=Hy q;have HX:=Hy3 hx hxh PR;have F9:c+k.size<X.ns.length:=hil;have Wt:=Hy F9;obtain ⟨ii,VT⟩:=zN (c+k.size);have Za:=Hy VT;rw [VT] at hil h0 |-;have Zz:(ii:Int)<X.ns.length:=by omega
 have HKC:=Hy (show Calls prog 57 #[ckp X,Iv (ii:Int),Iv (d:Int)] w (zu X S σ.sc.length (dF K k c σ) w) from
  hK c σ S w d ii x ⟨q.v,q.kn,q.wf,q.hld.1,q.tr.2.1,by omega,by omega⟩ (by rw [<-VT];exact hx) PR)
 have HO:=Hy ho;have hob:(h.op == 11)=false:=by simp [ho]
 clear hR e q hx hxh PR VT F9 ho;go_enter func97,ntmps97;go_wp2_with fail;refine HKC.mono ?_;clear HKC;rintro e w2 (⟨τ,hτ,rfl,⟨O4,Fg⟩,S2,GN,qM,aU⟩|⟨no,p,hτ,rfl,aU⟩)
 ·have hx:=HX.1;rw [Za.out] at hx;have h02:=qM.ai hx 0 (by omega)
  simp only [aA,List.getElem?_cons_succ,List.getElem?_cons_zero,Nat.add_zero] at h02;rw [HX.2.1] at h02;have J3:=qM.aU;have hnw:NdW X K τ x:=Kb HX.2.1 HX.2.2 HQ.tr Wt O4 (by omega) (by omega) HQ.kn.np
  have Gt:ArW x.h x.kids:=by rw [HX.2.1,HX.2.2];exact Lm HQ.tr
  have HKN:=Hy (HQ.kn.sx GN);have HFIN:Hid (∀e w',fo X S2 (eB K h (k.roots c) (c+k.size) τ) w2 e w'->R e w'):=Hy fun e w' hP=>by
   rw [<-HR.out,hτ,Ck.bind_ok];rcases hP with ⟨ρ,hρ,rfl,S3,LJ,Ac,lW⟩|⟨no,p,hρ,rfl,lW⟩
   ·have VC:=FI hρ O4;exact .inl ⟨ρ,hρ,rfl,⟨VC.1,by rw [VC.2,Fg]⟩,S3,GN.trans LJ,Ac,aU.trans lW⟩
   ·exact .inr ⟨no,p,hρ,rfl,aU.trans lW⟩
  by_cases hlt:h.op<11
  ·have hE:=EA qM hx hnw Gt;rw [HX.2.1,HX.2.2] at hE;have hru:eB K h (k.roots c) (c+k.size) τ=dm K h (k.roots c) ii τ:=by unfold eB;rw [if_pos hlt,Za.out]
   have Ol:=Hy hE;have HRU:=Hy hru;have Ob:decide (h.op<11)=true:=by simp [hlt]
   clear hE hτ O4 Fg GN qM aU hnw Gt hx hru hlt;generalize h.op=op at *;go_wp2_with fail;refine Ol.mono ?_;clear Ol;rintro e w3 hP;have QH:=HFIN e w3 (by rw [HRU.out];exact hP)
   rcases hP with ⟨ρ,-,rfl,-⟩|⟨no,p,-,rfl,-⟩
   ·have HE:=Hy QH;clear QH;go_wp2_with fail;go_end0;exact HE
   ·have HE:=Hy QH;clear QH;go_wp2_with fail;exact aG rfl HE
  ·have hE:=CB qM hx hnw Gt HKN O4;rw [HX.2.1,HX.2.2] at hE;have hru:eB K h (k.roots c) (c+k.size) τ=dh K h (k.roots c) ii τ:=by unfold eB;rw [if_neg hlt,Za.out]
   have Ol:=Hy hE;have HRU:=Hy hru;have Ob:decide (h.op<11)=false:=by simp [hlt]
   clear hE hτ O4 Fg GN qM aU hnw Gt hx hru hlt;generalize h.op=op at *;go_wp2_with fail;refine Ol.mono ?_;clear Ol;rintro e w3 hP;have QH:=HFIN e w3 (by rw [HRU.out];exact hP)
   rcases hP with ⟨ρ,-,rfl,-⟩|⟨no,p,-,rfl,-⟩
   ·have HE:=Hy QH;clear QH;go_wp2_with fail;go_end0;exact HE
   ·have HE:=Hy QH;clear QH;go_wp2_with fail;exact aG rfl HE
 ·have HE:=Hy (show R (jU no p) w2 by
   rw [<-HR.out];exact .inr ⟨no,p,by rw [hτ];rfl,rfl,aU⟩)
  clear hτ aU;go_wp2_with fail;exact aG rfl HE
theorem allT (X:CkX)(K:Kn)(F:Fo):E8 X K F:=by
 induction F with
 |nil=>trivial
 |cons h k r ih1 ih2=>
  refine ⟨?_,ih2⟩;by_cases ho:h.op=11
  ·exact wh (uS ih1) ho
  ·exact xY (uS ih1) ho
theorem AJ (X:CkX)(K:Kn)(F:Fo):AB X K F:=uS (allT X K F)
end
section
open Go Go.RowKit Go.Maps
section
variable {X:CkX} {S:CkS} {σ:Cs} {w w':World}
theorem CkV.seen (h:CkV X S σ w)(i:Nat):CkV X {S with sb:=S.sb.set i true} σ (w.setCell (Ad X.sB i) (.bool true)):=by
 obtain ⟨hn,hg⟩:=h.see.stored i (.bool true);have hk:Kind w X.sB tBo:=ag h.see rfl;have hr:∀{base sz n:Nat} {T:TypeId} {v:Value} {xs:List Value},w.ownsRow base T sz v n xs->T≠tBo->∀r,some X.sB=some r->v.ownBlock≠some r:=by
  intro base sz n T v xs h1 hT r hr e;cases hr;exact au (ag h1 e) hk hT rfl
 have hm:∀{m:Nat},jV w m->some X.sB≠some m:=fun h1 e=>dG hk h1 (Option.some.inj e)
 exact {
  chk:=ak hg h.chk (fun e=>au h.chk.kind hk (by decide) (Option.some.inj e).symm)
  nod:=ah hg h.nod (hr h.nod (by decide))
  fP:=ah hg h.fP (hr h.fP (by decide))
  see:=by rw [List.map_set];exact hn
  trl:=h.trl
  vll:=h.vll
  fil:=h.fil
  var:=fun e=>let ⟨v,h1,h2⟩:=h.var e;⟨v,h1,ah hg h2 (hr h2 (by decide))⟩
  sco:=ah hg h.sco (hr h.sco (by decide))
  scl:=h.scl
  dn:=fun j m s h1 h2=>⟨(h.dn j m s h1 h2).1,di hg (h.dn j m s h1 h2).2 (hm (bM (h.dn j m s h1 h2).2))⟩
  gX:=h.gX
  lab:=fun e=>⟨(h.lab e).1,di hg (h.lab e).2.1 (hm (bM (h.lab e).2.1)),(h.lab e).2.2⟩
  jW:=h.jW
  gZ:=fun x hx=>az hg (h.gZ x hx) (hr (h.gZ x hx).1 (by decide))
  old:=fun j v l h1 h2 h3=>az hg (h.old j v l h1 h2 h3) (hr (h.old j v l h1 h2 h3).1 (by decide))
  prm:=fun x hx=>az hg (h.prm x hx) (hr (h.prm x hx).1 (by decide))
  glb:=az hg h.glb (hr h.glb.1 (by decide))
  hB:=⟨h.hB.1,h.hB.2.1,h.hB.2.2.1,h.hB.2.2.2.1,h.hB.2.2.2.2.1,Nat.le_trans h.hB.2.2.2.2.2 hg.size⟩}
theorem CkV.other (h:CkV X S σ w){ro:Option Nat}(hg:w.grownBy w' ro)(LB:∀r,ro=some r->Kind w r aC/\S.H<=r)(hv:S.on=true->S.vls[S.fi]? =some (Sn)):CkV X S σ w':=by
 have hr:∀{base sz n:Nat} {T:TypeId} {v:Value} {xs:List Value},w.ownsRow base T sz v n xs->T≠aC->∀r,ro=some r->v.ownBlock≠some r:=by
  intro base sz n T v xs h1 hT r hr e;exact au (ag h1 e) (LB r hr).1 hT rfl
 have hm:∀{m:Nat},jV w m->ro≠some m:=fun h1 e=>dG (LB _ e).1 h1 rfl
 exact {
  chk:=ak hg h.chk (fun e=>au h.chk.kind (LB _ e).1 (by decide) rfl)
  nod:=ah hg h.nod (hr h.nod (by decide))
  fP:=ah hg h.fP (hr h.fP (by decide))
  see:=ah hg h.see (hr h.see (by decide))
  trl:=h.trl
  vll:=h.vll
  fil:=h.fil
  var:=fun e=>by
   obtain ⟨v,h1,h2⟩:=h.var e;rw [hv e] at h1;cases h1;exact ⟨_,hv e,ah hg h2 (fun r _ e=>by cases e)⟩
  sco:=ah hg h.sco (hr h.sco (by decide))
  scl:=h.scl
  dn:=fun j m s h1 h2=>⟨(h.dn j m s h1 h2).1,di hg (h.dn j m s h1 h2).2 (hm (bM (h.dn j m s h1 h2).2))⟩
  gX:=h.gX
  lab:=fun e=>⟨(h.lab e).1,di hg (h.lab e).2.1 (hm (bM (h.lab e).2.1)),(h.lab e).2.2⟩
  jW:=h.jW
  gZ:=fun x hx=>az hg (h.gZ x hx) (fun r hr e=>by have:=(h.gZ x hx).2 r e;have:=(LB r hr).2;omega)
  old:=fun j v l h1 h2 h3=>az hg (h.old j v l h1 h2 h3) (fun r hr e=>by have:=(h.old j v l h1 h2 h3).2 r e;have:=(LB r hr).2;omega)
  prm:=fun x hx=>az hg (h.prm x hx) (hr (h.prm x hx).1 (by decide))
  glb:=az hg h.glb (hr h.glb.1 (by decide))
  hB:=⟨h.hB.1,h.hB.2.1,h.hB.2.2.1,h.hB.2.2.2.1,h.hB.2.2.2.2.1,Nat.le_trans h.hB.2.2.2.2.2 hg.size⟩}
theorem CkV.sbl (h:CkV X S σ w):S.sb.length=X.ns.length:=by
 have:=h.see.1
 simpa using this
end
theorem uk {X:CkX}{S:CkS}{σ:Cs}{w:World}(h:CkV X S σ w){i:Nat}(hi:i<X.ns.length)(hs:S.sb[i]? =some false) :
  Calls prog 127 #[ckp X,Iv (i:Int)] w fun e w'=>e=.returned (Iv (i:Int))/\CkV X {S with sb:=S.sb.set i true} σ w'/\Below X.B w w'/\w.grownBy w' (some X.sB):=by
 have c4:=h.c4;have eu:=h.chk.lt;have Lh:X.sB<w.heap.size:=(ag h.see rfl).lt;have hc:w.cell? (Ad X.sB i)=some (.bool false):=by
  rw [h.see.cellAt i (by omega)]
  simp [hs]
 have hf:=h.see.frozenAt i;have Zz:(i:Int)<X.ns.length:=by omega
 have HE:=Hy (And.intro (h.seen i) (And.intro ((Below.refl X.B w).setCell (p:=⟨X.sB,i,none⟩) h.hB.2.2.2.1 (.bool true)) (h.see.stored i (.bool true)).2));clear h hs;go_enter func127,ntmps127;go_wp2_with fail;go_ret;exact ⟨rfl,HE⟩
end
section
open Go Go.RowKit Go.Maps
theorem Dm {fn:Func}{R:Ending->World->Prop}{a:Act}{w:World}{b p:Nat}{m:Mg}{T:TypeId}{fr:Nat×Nat}(hf:fn.results= #[.cell p tMg])(hd:a.defers=[])
  (h2:a.tmps.getD p undef=Pt b) (hb:w.heap[b]? =some (.cells #[Iv m.so,Iv m.rf,Iv m.vl] T fr)) (hR:R (.returned (mgV m)) w):bodyPost prog fn R .ret a w:=
 bodyPost_ret (v:=mgV m) (results_cell_row hf _ _ b T _ fr _ h2 hb underlying103 rfl DX) hd hR
theorem Ao (g:Gl)(i:Nat)(hi:i<=1000000000)(w:World) :
  Calls prog 51 #[.agg #[Ss g.s,Iv g.ty,Iv g.n,Iv g.p],Iv (i:Int)] w fun e w'=>e=.returned (mgV (gMg g i))/\Zw w w':=by
 have b1:=(Blk.new w tGb #[Ss g.s,Iv g.ty,Iv g.n,Iv g.p]).alloc (.cells #[Iv 0,Iv 0,Iv 0] tMg);have b2:=Blk.new (w.alloc (.cells #[Ss g.s,Iv g.ty,Iv g.n,Iv g.p] tGb)) tMg #[Iv 0,Iv 0,Iv 0];have hb:Zw w ((w.alloc (.cells #[Ss g.s,Iv g.ty,Iv g.n,Iv g.p] tGb)).alloc (.cells #[Iv 0,Iv 0,Iv 0] tMg)):=((zB _ _).alloc (zL _) _).alloc (by simp) _
 rw [show (w.alloc (.cells #[Ss g.s,Iv g.ty,Iv g.n,Iv g.p] tGb)).heap.size=w.heap.size+1 by simp] at b2
 obtain ⟨s,ty,n,p⟩:=g;simp only at b1 b2 hb |-;go_enter func51,ntmps51;go_upto_region 1 with (fail);generalize (w.alloc (.cells #[Ss s,Iv ty,Iv n,Iv p] tGb)).alloc (.cells #[Iv 0,Iv 0,Iv 0] tMg)=W at *;obtain ⟨H0,GG⟩:=zN w.heap.size;rw [GG] at b1 b2;simp only [GG];have p1:=b1.cell 1;have p2:=b1.cell 2;have pl:=b1.lt;have f0:=b2.frozen 0;have f1:=b2.frozen 1;have f2:=b2.frozen 2;have q0:=b2.cell 0;have q1:=b2.cell 1;have q2:=b2.cell 2;have ql:=b2.lt;simp only [List.getElem?_toArray,List.getElem?_cons_zero,List.getElem?_cons_succ] at p1 p2 q0 q1 q2;have HB:=Hy3 hb b2 GG;have hHle:Zw w W->∀(x y z:Int),Zw w (((W.setCell (Ad (H0+1) 0) (Iv x)).setCell (Ad (H0+1) 1) (Iv y)).setCell (Ad (H0+1) 2) (Iv z)):=fun h x y z=>
  ((h.setCell (p:=(Ad (H0+1) 0)) (by simp;omega) _).setCell (p:=(Ad (H0+1) 1)) (by simp;omega) _).setCell (p:=(Ad (H0+1) 2)) (by simp;omega) _
 have HL:=Hy hHle;clear hb b1 b2 GG hHle;by_cases hn:n=0
 ·subst hn;have e:gMg ⟨s,ty,0,p⟩ i=⟨2,-1 - i,ty⟩:=by simp [gMg]
  have HEQ:=Hy e;clear e;go_wp2_with fail;have hz:=Blk.af (Blk.af (Blk.af HB.2.1 0 (Iv 2)) 1 (Iv (-1 - (i:Int)))) 2 (Iv ty);exact Dm (m:=⟨2,-1 - i,ty⟩) rfl rfl rfl hz ⟨by rw [HEQ.out],HL HB.1 _ _ _⟩
 ·have e:gMg ⟨s,ty,n,p⟩ i=⟨3,i,iol (ty == 2)⟩:=by
   simp only [gMg,if_neg hn,iol];by_cases h2:ty=2 <;> simp [h2]
  have HEQ:=Hy e;have Tg:(n == 0)=false:=by simp [hn]
  have HI:=Hy fun W=>ou (ty == 2) W
  clear e hn;generalize iol (ty == 2)=il at *;go_wp2_with (go_at_call 93;refine (HI _).mono ?_;rintro e w5 ⟨rfl,rfl⟩);have hz:=Blk.af (Blk.af (Blk.af HB.2.1 0 (Iv 3)) 1 (Iv (i:Int))) 2 (Iv il);exact Dm (m:=⟨3,i,il⟩) rfl rfl rfl hz ⟨by rw [HEQ.out],HL HB.1 _ _ _⟩
end
section
open Go Go.RowKit Go.Maps
def M0 (X:CkX) (S:CkS) (σ:Cs) (r:Ck Scp) (w:World) (e:Ending) (w':World):Prop:=
 (∃s,r=.ok s/\e=.returned (.tuple #[])/\CkV X S {σ with sc:=[s]} w'/\Below X.B w w'/\s.length<=X.gs.length+(σ.sc.getLast?.getD []).length)∨(∃no p,r=.er no p/\e=.panicked [{v:=.iface tFt (.agg #[Iv no,Iv p]),recovered:=false}]/\Below X.B w w')
theorem CkV.KS {X:CkX}{S:CkS}{σ:Cs}{w:World}(h:CkV X S σ w){j:Nat}{g:Gl}(hg:X.gs[j]? =some g):∃b,X.gA=some (Ad b 0)/\b<w.heap.size/\∀t,t<4->w.cell? (Ad b (j * 4+t))=(glC g)[t]?:=by
 have hj:=(zS.1 hg).1;rcases h.glb.1.2 with ⟨e,h0⟩|⟨b,cap,cur,e,_,hh,_⟩
 ·omega
 ·simp only [Value.slice.injEq] at e;have ai:=h.glb.1;rw [e.1] at ai;refine ⟨b,e.1,(Array.getElem?_eq_some_iff.1 hh).1,fun t ht=>?_⟩
  rw [ai.cellAt (j * 4+t) (by have h1:(j+1) * 4<=X.gs.length * 4:=Nat.mul_le_mul_right _ hj;omega),aY _ 4 (fun _=>rfl) _ j t ht,hg]
  rfl
theorem pz (g:Gl)(l:List Gl)(i:Nat)(b:Int)(s:Scp):eF (g ::l) i b s=if (look s g.s).isSome then .er 5 g.p else if 4096<b+max g.n 1 * eb g.ty then .er 9 g.p else eF l (i+1) (b+max g.n 1 * eb g.ty) ((g.s,gMg g i) ::s):=rfl
theorem IP (t:Int):1<=eb t/\eb t<=8:=by
 unfold eb;split
 ·omega
 ·split <;> omega
theorem wrap_small {x:Int}(h0: -1000000000<=x)(h1:x<=1000000000):IntKind.i64.wrap x=x:=by
 rw [IntWalk.i64_in _ (by omega)]
theorem xy {X:CkX}{S:CkS}{σ:Cs}{w:World}(h:CkV X S σ w){s0:Scp}(KC:σ.sc=[s0])(Lh:s0.length<=1000000)(kH:X.gs.length<=1000000)(WY:∀g∈X.gs,g.s.length<=1000000/\g.n<=1000000) :
  Calls prog 24 #[ckp X] w (M0 X S σ (eF X.gs 0 0 s0) w):=by
 obtain ⟨R,hR⟩:∃R:Ending->World->Prop,M0 X S σ (eF X.gs 0 0 s0) w=R:=⟨_,rfl⟩;rw [hR];have HR:=Hy hR;have c0:=h.c0;have eu:=h.chk.lt;have H:=Hy3 h KC WY;obtain ⟨n,hn⟩:=zN X.gs.length;have HN:=Hy hn;rw [hn] at c0 kH;clear hR h hn KC WY;go_enter func24,ntmps24;go_wp2_with fail;go_loopw [2,11] (fun v2 v11 wr=>∃(j:Nat) (s:Scp) (b:Int),j<=n/\v11=Iv j/\v2=Iv b/\0<=b/\b<=4096/\eF X.gs 0 0 s0=eF (X.gs.drop j) j b s/\s.length<=s0.length+j/\CkV X S {σ with sc:=[s]} wr/\Below X.B w wr) (fun _ v _=>n - (intOf v).toNat)
 case atStart=>exact ⟨0,s0,0,by omega,rfl,rfl,by omega,by omega,by simp,by omega,by have:=H.1;have e:=H.2.1;cases σ;simp only at e;subst e;exact this,zB _ _⟩
 case round=>
  obtain ⟨j,s,b,hj,rfl,rfl,IB,NJ,Er,hsj,hC,bW⟩:=hrel;by_cases hlt:j<n
  ·have xP:j<X.gs.length:=by rw [HN.out];exact hlt
   obtain ⟨g,hg⟩:∃g,X.gs[j]? =some g:=⟨_,List.getElem?_eq_getElem xP⟩;obtain ⟨gb,OX,hgbl,Ur⟩:=hC.KS hg;rw [OX];have y0:Ce wr gb (j * 4) (Ss g.s):=Ur 0 (by omega)
   have y1:Ce wr gb (j * 4+1) (Iv g.ty):=Ur 1 (by omega)
   have y2:Ce wr gb (j * 4+2) (Iv g.n):=Ur 2 (by omega)
   have y3:Ce wr gb (j * 4+3) (Iv g.p):=Ur 3 (by omega)
   have hdr:X.gs.drop j=g ::X.gs.drop (j+1):=by
    rw [List.drop_eq_getElem_cons xP]
    congr 1
    exact (zS.1 hg).2
   rw [hdr,pz] at Er;have QG:=H.2.2 g (zG hg);have NZ:(j:Int)<n:=by omega
   have HG:=Hy4 Er hC bW OX;clear Er hC bW Ur hdr;go_upto_region 4 with (fail);have OY:Zw wr (wr.alloc (.cells #[Ss g.s,Iv g.ty,Iv g.n,Iv g.p] tGb)):=(zB _ _).alloc (zL _) _;have bT:=Blk.new wr tGb #[Ss g.s,Iv g.ty,Iv g.n,Iv g.p];have AR:=HG.2.1.on OY;have Qg:=HG.2.1.fresh;obtain ⟨H1,LP⟩:=zN wr.heap.size;rw [LP] at bT;generalize MQ:wr.alloc (.cells #[Ss g.s,Iv g.ty,Iv g.n,Iv g.p] tGb)=W1 at *;simp only [LP];obtain ⟨A3,n3,c3,Es⟩:∃A n c,S.scv=.slice A n c:=by
    obtain ⟨A3,c3,e⟩:=dL AR.sco;exact ⟨A3,_,c3,e⟩
   have Ez:=AR.c3;rw [Es] at Ez;have DV:=AR.chk.lt;have q0:Ce W1 H1 0 (Ss g.s):=bT.cell 0;have q1:Ce W1 H1 1 (Iv g.ty):=bT.cell 1;have q2:Ce W1 H1 2 (Iv g.n):=bT.cell 2;have q3:Ce W1 H1 3 (Iv g.p):=bT.cell 3;have ql:=bT.lt;have qm:g.s.length<=maxLen:=by unfold maxLen;have:=QG.1;omega
   obtain ⟨bh,OG⟩:∃b,(look s g.s).isSome=b:=⟨_,rfl⟩;have Qy:Hid (∀W,Zw W1 W->Calls prog 49 #[.slice A3 n3 c3,Ss g.s] W fun e w'=>e=.returned (.bool bh)/\Zw W1 w'):=Hy fun W hW=>by
    have OT:=(AR.on hW).scs;rw [Es] at OT;rw [<-OG];exact (qC OT (k:=0) rfl (by omega) qm).mono fun e w' h=>⟨h.1,hW.trans (h.2.mono hW.size)⟩
   have Vm:Hid (∀Wx,Zw W1 Wx->Ce Wx X.b 3 (.slice A3 n3 c3)/\Ce Wx H1 0 (Ss g.s)/\Ce Wx H1 3 (Iv g.p)/\X.b<Wx.heap.size/\H1<Wx.heap.size):=Hy fun Wx hW=>by
    have hz:=hW.size;exact ⟨(hW.cell (p:=Ad X.b 3) DV).trans Ez,(hW.cell (p:=Ad H1 0) ql).trans q0,(hW.cell (p:=Ad H1 3) ql).trans q3,by omega,by omega⟩
   have Tv:Hid (∀W b,Zw W1 W->Calls prog 48 #[.bool b,Iv 5,Iv g.p] W fun e w'=>(b=true/\e=.panicked [{v:=.iface tFt (.agg #[Iv 5,Iv g.p]),recovered:=false}]∨b=false/\e=.returned (.tuple #[]))/\Zw W1 w'):=Hy fun W b hW=>
    (df b 5 g.p W).mono fun e w' h=>⟨h.1,by rw [<-h.2];exact hW⟩
   have Cb:=Hy (show Below X.B w W1 from HG.2.2.1.trans (OY.mono HG.2.1.Ble))
   have UZ:Hid (∀W,Zw W1 W->bh=true->R (.panicked [{v:=.iface tFt (.agg #[Iv 5,Iv g.p]),recovered:=false}]) W):=Hy fun W hW aD=>by
    rw [<-HR.out];exact .inr ⟨5,g.p,by rw [HG.1,OG,aD];rfl,rfl,Cb.trans (hW.mono AR.Ble)⟩
   have Qz:=Hy6 AR bT Qg LP Es OG;have J:Zw W1 W1:=zB _ _;clear OY bT AR Qg LP MQ Es OG y0 y1 y2 y3 hg;go_cut [] (fun wx=>bh=false/\Zw W1 wx)
   case first=>
    go_region_held2 (fun Wx=>Ce Wx X.b 3 (.slice A3 n3 c3)/\Ce Wx H1 0 (Ss g.s)/\Ce Wx H1 3 (Iv g.p)/\X.b<Wx.heap.size/\H1<Wx.heap.size)
     (first|exact ⟨Ez,q0,q3,DV,ql⟩|exact Vm _ J)
     (first
      | (go_at_call 49;(with_reducible refine Calls.mono (Qy.out _ (by first|exact J|exact J.drew)) ?_);rintro e v1 ⟨rfl,J⟩)
      | (go_at_call 48;(with_reducible refine Calls.mono (Tv.out _ _ (by first|exact J|exact J.drew)) ?_);rintro e v2 ⟨⟨hm,rfl⟩|⟨hm,rfl⟩,J⟩;(have J9:=Hy J;have Re:=Hy hm;clear hm;go_wp2_with fail;refine aG rfl ?_;exact UZ _ J9.out Re);have NL:=Hy hm;clear hm))
    all_goals
     go_wp2_with fail;go_meet;exact ⟨NL,J⟩
   case rest=>
    obtain ⟨Q6,J⟩:=hcut;obtain ⟨mm,GA⟩:=zN (gMg g j);have PH:decl [s] g.s mm=[(g.s,mm) ::s]:=rfl;have HDc:Hid (∀W,Zw W1 W->Calls prog 50 #[.slice A3 n3 c3,Ss g.s,.agg #[Iv mm.so,Iv mm.rf,Iv mm.vl]] W fun e w'=>e=.returned (.tuple #[])/\CkV X S {σ with sc:=[(g.s,mm) ::s]} w'/\Below X.B w w'/\Blk w' H1 tGb #[Ss g.s,Iv g.ty,Iv g.n,Iv g.p]):=Hy fun W hW=>by
     obtain ⟨AR,bT,Qg,LP,Es,OG⟩:=Qz;have hd:=mr (AR.on hW) (k:=0) rfl (by omega) (x:=g.s) (show s.length<=2000000 by omega) qm mm
     rw [show S.scv=.slice A3 n3 c3 from Es] at hd
     refine hd.mono fun e w' ⟨h1,h2,h3,h4⟩=>⟨h1,h2,Cb.trans ((hW.mono AR.Ble).trans h3),?_⟩
     have hz:=bT.below hW bT.lt;have e4:=h4 H1 (by have:=hW.size;omega) (fun e=>absurd (Qg _ e) (by omega))
     exact e4.trans hz
    have HGm:Hid (∀W,Zw W1 W->Calls prog 51 #[.agg #[Ss g.s,Iv g.ty,Iv g.n,Iv g.p],Iv (j:Int)] W fun e w'=>e=.returned (.agg #[Iv mm.so,Iv mm.rf,Iv mm.vl])/\Zw W1 w'):=Hy fun W hW=>by
     rw [<-GA];exact (Ao g j (by omega) W).mono fun e w' h=>⟨h.1,hW.trans (h.2.mono hW.size)⟩
    have HS5:Hid (∀Wx,Zw W1 Wx->Ce Wx X.b 3 (.slice A3 n3 c3)/\Ce Wx H1 0 (Ss g.s)/\Ce Wx H1 1 (Iv g.ty)/\Ce Wx H1 2 (Iv g.n)/\Ce Wx H1 3 (Iv g.p)/\X.b<Wx.heap.size/\H1<Wx.heap.size):=Hy fun Wx hW=>by
     have hz:=hW.size;exact ⟨(hW.cell (p:=Ad X.b 3) DV).trans Ez,(hW.cell (p:=Ad H1 0) ql).trans q0,(hW.cell (p:=Ad H1 1) ql).trans q1,(hW.cell (p:=Ad H1 2) ql).trans q2,(hW.cell (p:=Ad H1 3) ql).trans q3,by omega,by omega⟩
    have Z4:Hid (∀Wx,(CkV X S {σ with sc:=[(g.s,mm) ::s]} Wx/\Below X.B w Wx/\Blk Wx H1 tGb #[Ss g.s,Iv g.ty,Iv g.n,Iv g.p])->Ce Wx X.b 3 (.slice A3 n3 c3)/\Ce Wx H1 0 (Ss g.s)/\Ce Wx H1 1 (Iv g.ty)/\Ce Wx H1 2 (Iv g.n)/\Ce Wx H1 3 (Iv g.p)/\X.b<Wx.heap.size/\H1<Wx.heap.size):=Hy fun Wx hW=>by
     have Es:=Qz.2.2.2.2.1;exact ⟨by rw [<-show S.scv=.slice A3 n3 c3 from Es];exact hW.1.c3,hW.2.2.cell 0,hW.2.2.cell 1,hW.2.2.cell 2,hW.2.2.cell 3,hW.1.chk.lt,hW.2.2.lt⟩
    obtain ⟨p3,r0,r1,r2,r3,pl,rl⟩:=HS5 _ J;have NL:=Hy2 GA Q6;clear GA Q6 PH Ez q0 q1 q2 q3 ql DV;go_upto_region 5 with (fail);go_cut [] (fun wx=>CkV X S {σ with sc:=[(g.s,mm) ::s]} wx/\Below X.B w wx/\Blk wx H1 tGb #[Ss g.s,Iv g.ty,Iv g.n,Iv g.p])
    case first=>
     go_region_held2 (fun Wx=>Ce Wx X.b 3 (.slice A3 n3 c3)/\Ce Wx H1 0 (Ss g.s)/\Ce Wx H1 1 (Iv g.ty)/\Ce Wx H1 2 (Iv g.n)/\Ce Wx H1 3 (Iv g.p)/\X.b<Wx.heap.size/\H1<Wx.heap.size)
      (first|exact ⟨p3,r0,r1,r2,r3,pl,rl⟩|exact Z4 _ Xv|exact HS5 _ J)
      (first
       | (go_at_call 51;(with_reducible refine Calls.mono (HGm.out _ (by first|exact J|exact J.drew)) ?_);rintro e v1 ⟨rfl,J⟩)
       | (go_at_call 50;(with_reducible refine Calls.mono (HDc.out _ (by first|exact J|exact J.drew)) ?_);rintro e v2 ⟨rfl,J9⟩;have Xv:=Hy J9;clear J9))
     all_goals
      go_wp2_with fail;go_meet;exact Xv
    case rest=>
     obtain ⟨E9,qK,LK⟩:=hcut;obtain ⟨Gu,TC⟩:=zQ wc;subst TC;have z0:Ce Gu H1 0 (Ss g.s):=LK.cell 0;have z1:Ce Gu H1 1 (Iv g.ty):=LK.cell 1;have z2:Ce Gu H1 2 (Iv g.n):=LK.cell 2;have z3:Ce Gu H1 3 (Iv g.p):=LK.cell 3;have zl:=LK.lt;obtain ⟨ev,Yo⟩:=zN (eb g.ty);have Yp:=IP g.ty;have hgn2:=QG.2;rw [Yo] at Yp;obtain ⟨pr,Ie⟩:=zN (max g.n 1 * ev);have hp0:1<=pr/\pr<=8000000:=by
      have h1:1<=max g.n 1:=by omega
      have h2:max g.n 1<=1000000:=by omega
      rw [<-Ie];constructor
      ·have:=Int.mul_le_mul h1 Yp.1 (by omega) (by omega);omega
      ·have:=Int.mul_le_mul h2 Yp.2 (by omega) (by omega);omega
     have UY:=Hy2 Yo Ie;have hw1:IntKind.i64.wrap (max g.n 1 * ev)=pr:=by rw [Ie];exact wrap_small (by omega) (by omega)
     have hw2:IntKind.i64.wrap (b+pr)=b+pr:=wrap_small (by omega) (by omega)
     have HEb:Hid (∀W,Zw Gu W->Calls prog 52 #[Iv g.ty] W fun e w'=>e=.returned (Iv ev)/\Zw Gu w'):=Hy fun W hW=>by
      rw [<-UY.1];exact (EE g.ty W).mono fun e w' h=>⟨h.1,by rw [<-h.2];exact hW⟩
     have Xt:Hid (∀Wx,Zw Gu Wx->Ce Wx H1 1 (Iv g.ty)/\Ce Wx H1 2 (Iv g.n)/\Ce Wx H1 3 (Iv g.p)/\H1<Wx.heap.size):=Hy fun Wx hW=>by
      have hz:=hW.size;exact ⟨(hW.cell (p:=Ad H1 1) zl).trans z1,(hW.cell (p:=Ad H1 2) zl).trans z2,(hW.cell (p:=Ad H1 3) zl).trans z3,by omega⟩
     have Pv:=Hy2 E9 qK;have J6:Zw Gu Gu:=zB _ _;clear E9 qK LK Yo Ie QG p3 r0 r1 r2 r3;go_upto_region 6 with (fail);go_cut [2] (fun v2 wx=>v2=Iv (b+pr)/\Zw Gu wx)
     case first=>
      go_region_held2 (fun Wx=>Ce Wx H1 1 (Iv g.ty)/\Ce Wx H1 2 (Iv g.n)/\Ce Wx H1 3 (Iv g.p)/\H1<Wx.heap.size)
       (first|exact ⟨z1,z2,z3,zl⟩|exact Xt _ J6)
       ((go_at_call 52;(with_reducible refine Calls.mono (HEb.out _ (by first|exact J6|exact J6.drew)) ?_);rintro e v1 ⟨rfl,J6⟩))
      all_goals
       go_wp2_with fail;go_meet;exact ⟨rfl,J6⟩
     case rest=>
      obtain ⟨CY,J7⟩:=hcut;subst CY;obtain ⟨wc6,XH⟩:=zQ wc;subst XH;have UR:Hid (∀W b,Zw Gu W->Calls prog 48 #[.bool b,Iv 9,Iv g.p] W fun e w'=>(b=true/\e=.panicked [{v:=.iface tFt (.agg #[Iv 9,Iv g.p]),recovered:=false}]∨b=false/\e=.returned (.tuple #[]))/\Zw Gu w'):=Hy fun W b hW=>
       (df b 9 g.p W).mono fun e w' h=>⟨h.1,by rw [<-h.2];exact hW⟩
      have Ze:Hid (∀W,Zw Gu W->4096<b+pr->R (.panicked [{v:=.iface tFt (.agg #[Iv 9,Iv g.p]),recovered:=false}]) W):=Hy fun W hW aD=>by
       rw [<-HR.out];refine .inr ⟨9,g.p,?_,rfl,Pv.2.trans (hW.mono Pv.1.Ble)⟩;rw [HG.1,Qz.2.2.2.2.2,NL.2,UY.1,UY.2,if_neg (by decide),if_pos aD]
      obtain ⟨z1,z2,z3,zl⟩:=Xt _ J7;clear J6;obtain ⟨bq,Q5⟩:=zN (decide (4096<b+pr));have U0:=Hy Q5;go_wp2_with fail;refine (UR _ _ (by first|exact J7|exact J7.drew)).mono ?_
      rintro e v2 ⟨⟨hm,rfl⟩|⟨hm,rfl⟩,J8⟩
      ·have Re:=Hy (Ze _ J8 (by simpa [<-U0.out] using hm))
       clear hm J8 Q5;go_wp2_with fail;exact aG rfl Re
      ·have Tg:¬ (4096<b+pr):=by simpa [<-U0.out] using hm
       have PP:Hid (eF X.gs 0 0 s0=eF (X.gs.drop (j+1)) (j+1) (b+pr) ((g.s,mm) ::s)):=Hy (by
        rw [HG.1,Qz.2.2.2.2.2,NL.2,UY.1,UY.2,if_neg (by decide),if_neg Tg,NL.1])
       have Xx:=Hy (show CkV X S {σ with sc:=[(g.s,mm) ::s]} _/\Below X.B w _ from ⟨Pv.1.on J8,Pv.2.trans (J8.mono Pv.1.Ble)⟩)
       have TK:((g.s,mm) ::s).length<=s0.length+(j+1):=by simp;omega
       clear J8 J7 z1 z2 z3 hm Q5;go_wp2_with fail;go_roundw
       case rel=>exact ⟨j+1,(g.s,mm) ::s,b+pr,by omega,by go_num,rfl,by omega,by omega,PP,TK,Xx.1,Xx.2⟩
       case measure=>simp [intOf];omega
  ·obtain rfl:j=n:=by omega
   have hdr:X.gs.drop j=[]:=List.drop_eq_nil_of_le (by rw [HN.out];omega)
   rw [hdr] at Er;have HG:=Hy3 Er hC bW;clear Er hC bW hdr;go_wp2_with fail;go_end0;rw [<-HR.out];exact .inl ⟨s,HG.1,rfl,HG.2.1,HG.2.2,by rw [H.2.1,HN.out];simp;omega⟩
end
section
open Go Go.RowKit Go.Maps
def PsV (w:World) (A:Option Addr) (ps:List Pm):Prop:=∀j p,ps[j]? =some p->∃b o,A=some ⟨b,o,none⟩/\b<w.heap.size/\Ce w b (o+j * 2) (.string (str p.s))/\Ce w b (o+j * 2+1) (Iv p.ty)
theorem PsV.on {w w':World}{A:Option Addr}{ps:List Pm}(h:PsV w A ps)(hb:Zw w w'):PsV w' A ps:=by
 intro j p hp;obtain ⟨b,o,e,hl,h1,h2⟩:=h j p hp;exact ⟨b,o,e,by have:=hb.size;omega,(hb.cell (p:=⟨b,_,none⟩) hl).trans h1,(hb.cell (p:=⟨b,_,none⟩) hl).trans h2⟩
theorem PsV.take {w:World}{A:Option Addr}{ps:List Pm}(h:PsV w A ps)(n:Nat):PsV w A (ps.take n):=by
 intro j p hp;rw [List.getElem?_take] at hp;split at hp
 ·exact h j p hp
 ·cases hp
theorem GK (q:Pm)(s:Nm')(ty:Int)(k:Nat)(w:World)(hk:Blk w k tPr #[.string (str s),Iv ty]) :
  Calls prog 95 #[.agg #[.string (str q.s),Iv q.ty],.pointer (some ⟨k,0,none⟩)] w fun e w'=>e=.returned (.bool (q.s == s))/\Zw w w':=by
 have p0:=(hk.alloc (.cells #[.string (str q.s),Iv q.ty] tPr)).cell 0;have hb:Zw w (w.alloc (.cells #[.string (str q.s),Iv q.ty] tPr)):=(zB _ _).alloc (zL _) _;have b2:=Blk.new w tPr #[.string (str q.s),Iv q.ty];have q0:=b2.cell 0;have sZ:=(hk.alloc (.cells #[.string (str q.s),Iv q.ty] tPr)).lt;simp only [List.getElem?_toArray,List.getElem?_cons_zero,List.getElem?_cons_succ] at p0 q0;have VL:=b2.lt;have e1:=fw q.s;have e2:=fw s;obtain ⟨z1,sI⟩:=zN (str q.s);obtain ⟨z2,ru⟩:=zN (str s);rw [sI] at e1;rw [ru] at e2;rw [sI] at hb p0 q0 sZ VL |-;rw [ru] at p0;have HE:=Hy2 e1 e2;clear e1 e2 hk sI ru b2;go_enter func95,ntmps95;go_wp2_with fail;go_ret;exact ⟨by rw [HE.out.1,HE.out.2];rfl,hb⟩
theorem any_take_succ (f:Pm->Bool)(l:List Pm)(j:Nat)(p:Pm)(h:l[j]? =some p):(l.take (j+1)).any f=((l.take j).any f || f p):=by
 rw [List.take_add_one,h,List.any_append];simp
theorem GD {w:World}{A:Option Addr}{ps:List Pm}{n:Nat}(hn:ps.length=n)(wW:n<=1000000000)(hv:PsV w A ps)(c:Nat)(s:Nm')(ty:Int)(k:Nat)(hk:Blk w k tPr #[.string (str s),Iv ty]) :
  Calls prog 126 #[.slice A n c,.func (.func 95) #[] #[.pointer (some ⟨k,0,none⟩)]] w fun e w'=>(∃r:Int,e=.returned (Iv r)/\decide (0<=r)=ps.any fun q=>q.s == s)/\Zw w w':=by
 have HN:=Hy hn;have HV:=Hy hv;have HF:Hid (∀W,Zw w W->∀q:Pm,Calls prog 95 #[.agg #[.string (str q.s),Iv q.ty],.pointer (some ⟨k,0,none⟩)] W fun e w'=>e=.returned (.bool (q.s == s))/\Zw w w'):=Hy fun W hW q=>
  (GK q s ty k W (hk.below hW hk.lt)).mono fun e w' h=>⟨h.1,hW.trans (h.2.mono hW.size)⟩
 clear hn hv hk;go_enter func126,ntmps126;go_wp2_with fail;go_loopw [8] (fun v8 wr=>∃j:Nat,j<=n/\v8=Iv j/\((ps.take j).any fun q=>q.s == s)=false/\Zw w wr) (fun v _=>n - (intOf v).toNat)
 case atStart=>exact ⟨0,by omega,rfl,by simp,zB _ _⟩
 case round=>
  obtain ⟨j,hj,rfl,Qp,bW⟩:=hrel;have HAL:=Hy Qp;clear Qp;by_cases hlt:j<n
  ·have xP:j<ps.length:=by rw [HN.out];exact hlt
   obtain ⟨p,hp⟩:∃p,ps[j]? =some p:=⟨_,List.getElem?_eq_getElem xP⟩;obtain ⟨g,o,rfl,hg,x0,x1⟩:=(HV.out.on bW) j p hp;have NZ:(j:Int)<n:=by omega
   have HTS:=Hy (any_take_succ (fun q=>q.s == s) ps j p hp)
   have HFF:=Hy (HF.out _ bW p);have HP:=Hy hp;clear hp;go_wp2_with fail;refine HFF.out.mono ?_;clear HFF;obtain ⟨bq,Q5⟩:∃q,(p.s == s)=q:=⟨_,rfl⟩;rw [Q5];have U0:=Hy Q5;clear Q5;rintro e w1 ⟨rfl,av⟩;cases bq with
   |true=>
    have HANY:Hid ((ps.any fun q=>q.s == s)=true):=Hy (List.any_eq_true.2 ⟨p,List.mem_of_getElem? HP.out,U0.out⟩)
    go_wp2_with fail;go_ret;exact ⟨⟨j,rfl,by rw [HANY.out];simp⟩,av⟩
   |false=>
    have HNX:Hid (((ps.take (j+1)).any fun q=>q.s == s)=false):=Hy (by rw [HTS.out,HAL.out,U0.out];rfl)
    clear bW x0 x1 hg;go_wp2_with fail;go_roundw
    case rel=>exact ⟨j+1,by omega,by go_num,HNX.out,av⟩
    case measure=>simp [intOf];omega
  ·obtain rfl:j=n:=by omega
   have HA2:Hid ((ps.any fun q=>q.s == s)=false):=Hy (by rw [<-HAL.out,<-HN.out,List.take_length])
   go_wp2_with fail;go_ret;exact ⟨⟨-1,rfl,by rw [HA2.out];decide⟩,bW⟩
theorem Hr {w:World}{A:Option Addr}{ps:List Pm}{n:Nat}(hn:ps.length=n)(wW:n<=1000000000)(hv:PsV w A ps)(c:Nat)(s:Nm')(ty:Int)(k:Nat)(hk:Blk w k tPr #[.string (str s),Iv ty]) :
  Calls prog 94 #[.slice A n c,.func (.func 95) #[] #[.pointer (some ⟨k,0,none⟩)]] w fun e w'=>e=.returned (.bool (ps.any fun q=>q.s == s))/\Zw w w':=by
 have HI:=Hy (GD hn wW hv c s ty k hk);clear hn hv hk;go_enter func94,ntmps94;go_wp2_with fail;refine HI.out.mono ?_;clear HI;rintro e w1 ⟨⟨r,rfl,hr⟩,av⟩;have HR:=Hy hr;clear hr;go_wp2_with fail;go_ret;exact ⟨by rw [<-HR.out];rfl,av⟩
theorem x8 (l:List Pm)(p:Pm)(r:List Pm)(seen:List Nm'):twice (p ::r) seen=(decide (p.s∈seen) || twice r (seen ++ [p.s])):=rfl
theorem Ip (l:List Pm)(s:Nm'):(l.any fun q=>q.s == s)=decide (s∈l.map fun q=>q.s):=by
 rw [Bool.eq_iff_iff];simp only [List.any_eq_true,beq_iff_eq,decide_eq_true_eq,List.mem_map]
theorem GJ {w:World}{A:Option Addr}{ps:List Pm}{n:Nat}(hn:ps.length=n)(wW:n<=1000000000)(hv:PsV w A ps)(c:Nat)(hc:n<=c) :
  Calls prog 53 #[.slice A n c] w fun e w'=>e=.returned (.bool (twice ps []))/\Zw w w':=by
 have HN:=Hy hn;have HV:=Hy hv;obtain ⟨tw,TG⟩:=zN (twice ps []);rw [TG];have Xp:=Hy TG;clear hn hv TG;go_enter func53,ntmps53;go_wp2_with fail;go_loopw [7] (fun v7 wr=>∃j:Nat,j<=n/\v7=Iv j/\twice ps []=twice (ps.drop j) ((ps.take j).map fun q=>q.s)/\Zw w wr) (fun v _=>n - (intOf v).toNat)
 case atStart=>exact ⟨0,by omega,rfl,by simp,zB _ _⟩
 case round=>
  obtain ⟨j,hj,rfl,Qp,bW⟩:=hrel;by_cases hlt:j<n
  ·have xP:j<ps.length:=by rw [HN.out];exact hlt
   obtain ⟨p,hp⟩:∃p,ps[j]? =some p:=⟨_,List.getElem?_eq_getElem xP⟩;have hdr:ps.drop j=p ::ps.drop (j+1):=by
    rw [List.drop_eq_getElem_cons xP]
    congr 1
    exact (zS.1 hp).2
   have Np:(ps.take (j+1)).map (fun q=>q.s)=(ps.take j).map (fun q=>q.s) ++ [p.s]:=by
    rw [List.take_add_one,hp];simp
   rw [hdr,x8 ps,<-Ip,<-Np] at Qp;obtain ⟨g,o,rfl,hg,x0,x1⟩:=(HV.out.on bW) j p hp;have NZ:(j:Int)<n:=by omega
   have av:Zw wr (wr.alloc (.cells #[.string (str p.s),Iv p.ty] tPr)):=(zB _ _).alloc (zL _) _;have bT:=Blk.new wr tPr #[.string (str p.s),Iv p.ty];have HC:=Hy (Hr (ps:=ps.take j) (n:=j) (by rw [List.length_take];omega) (by omega) (((HV.out.on bW).on av).take j) c p.s p.ty wr.heap.size bT)
   have HAL:=Hy Qp;have Cb:=Hy (bW.trans (av.mono bW.size));have hjc:(j:Int)<=c:=by omega
   clear Qp bW hp hdr Np bT;go_wp2_with fail;refine HC.out.mono ?_;clear HC av;obtain ⟨bq,Q5⟩:∃q,((ps.take j).any fun q=>q.s == p.s)=q:=⟨_,rfl⟩
   rw [Q5];have U0:=Hy Q5;clear Q5;rintro e w1 ⟨rfl,aU⟩;have Nc:=Hy (Cb.out.trans (aU.mono Cb.out.size));clear aU;cases bq with
   |true=>
    have HT:Hid (true=tw):=Hy (by rw [<-Xp.out,HAL.out,U0.out];rfl)
    go_wp2_with fail;go_ret;exact ⟨by rw [<-HT.out];rfl,Nc.out⟩
   |false=>
    have HNX:Hid (twice ps []=twice (ps.drop (j+1)) ((ps.take (j+1)).map fun q=>q.s)):=Hy (by rw [HAL.out,U0.out];rfl)
    go_wp2_with fail;go_roundw
    case rel=>exact ⟨j+1,by omega,by go_num,HNX.out,Nc.out⟩
    case measure=>simp [intOf];omega
  ·obtain rfl:j=n:=by omega
   have hdr:ps.drop j=[]:=List.drop_eq_nil_of_le (by rw [HN.out];omega)
   rw [hdr] at Qp;have HA2:=Hy (show twice ps []=false from Qp)
   clear Qp;go_wp2_with fail;go_ret;exact ⟨by rw [<-Xp.out,HA2.out];rfl,bW⟩
end
section
open Go Go.RowKit Go.Maps
theorem qY {w:World}{B n:Nat}{pv:Value}{ps:List Pm}(h:w.ownsRow B tPr 2 pv n (ps.flatMap cz))(hn:ps.length=n):∃A c,pv=.slice A n c/\n<=c/\PsV w A ps:=by
 rcases h.2 with ⟨e,h0⟩|⟨g,c,cur,hv,_,hh,U8,PI,sQ,xc⟩
 ·subst h0;refine ⟨none,0,e,Nat.le_refl _,fun j p hp=>?_⟩
  have:=(zS.1 hp).1;omega
 ·subst hv;refine ⟨_,c,rfl,U8,fun j p hp=>⟨g,0,rfl,(Array.getElem?_eq_some_iff.1 hh).1,?_,?_⟩⟩
  ·have hj:=(zS.1 hp).1;have hk:=h.cellAt (j * 2+0) (by omega)
   rw [aY cz 2 (fun _=>rfl) ps j 0 (by omega),hp] at hk
   simpa [cz] using hk
  ·have hj:=(zS.1 hp).1;have hk:=h.cellAt (j * 2+1) (by omega)
   rw [aY cz 2 (fun _=>rfl) ps j 1 (by omega),hp] at hk
   simpa [cz] using hk
def M3 (X:CkX) (S:CkS) (σ:Cs) (r:Ck Scp) (w:World) (e:Ending) (w':World):Prop:=
 (∃s,r=.ok s/\e=.returned (.tuple #[])/\CkV X S {σ with sc:=[s]} w'/\Below X.B w w'/\s.length<=X.fl.length+(σ.sc.getLast?.getD []).length)∨(∃no p,r=.er no p/\e=.panicked [{v:=.iface tFt (.agg #[Iv no,Iv p]),recovered:=false}]/\Below X.B w w')
theorem rO (f:Fn')(l:List Fn')(i:Nat)(s:Scp):jf (f ::l) i s=if 32<=i then .er 9 f.p else if (look s f.s).isSome then .er 5 f.p else
  if 8<f.ps.length then .er 9 f.p else if twice f.ps [] then .er 5 f.p else jf l (i+1) ((f.s,⟨4,i,f.ty⟩) ::s):=rfl
theorem sG {X:CkX}{S:CkS}{σ:Cs}{w:World}(h:CkV X S σ w){s0:Scp}(KC:σ.sc=[s0])(Lh:s0.length<=1000000)(kH:X.fl.length<=1000000)(WY:∀x∈X.fl,x.1.s.length<=1000000/\x.1.ps.length<=1000000)(Bt:∀v∈S.vls,∃A n c,v=.slice A n c) :
  Calls prog 25 #[ckp X] w (M3 X S σ (jf (X.fl.map (·.1)) 0 s0) w):=by
 obtain ⟨R,hR⟩:∃R:Ending->World->Prop,M3 X S σ (jf (X.fl.map (·.1)) 0 s0) w=R:=⟨_,rfl⟩;rw [hR];have HR:=Hy hR;have c1:=h.c1;have eu:=h.chk.lt;have H:=Hy4 h KC WY Bt;obtain ⟨n,hn⟩:=zN X.fl.length;have HN:=Hy hn;rw [hn] at c1 kH;clear hR h hn KC WY Bt;go_enter func25,ntmps25;go_wp2_with fail;go_loopw [10] (fun v10 wr=>∃(j:Nat) (s:Scp),j<=n/\v10=Iv j/\jf (X.fl.map (·.1)) 0 s0=jf ((X.fl.drop j).map (·.1)) j s/\s.length<=s0.length+j/\CkV X S {σ with sc:=[s]} wr/\Below X.B w wr) (fun v _=>n - (intOf v).toNat)
 case atStart=>exact ⟨0,s0,by omega,rfl,by simp,by omega,by have:=H.1;have e:=H.2.1;cases σ;simp only at e;subst e;exact this,zB _ _⟩
 case round=>
  obtain ⟨j,s,hj,rfl,Er,hsj,hC,bW⟩:=hrel;by_cases hlt:j<n
  ·have xP:j<X.fl.length:=by rw [HN.out];exact hlt
   obtain ⟨⟨f,pv⟩,hx⟩:∃x,X.fl[j]? =some x:=⟨_,List.getElem?_eq_getElem xP⟩;obtain ⟨fv,JO⟩:∃v,S.vls[j]? =some v:=⟨_,List.getElem?_eq_getElem (by rw [hC.vll];exact xP)⟩
   obtain ⟨vA,vn,vc,rfl⟩:=H.2.2.2 fv (zG JO);obtain ⟨pn,Da⟩:=zN f.ps.length;have Ie:=hC.prm (f,pv) (zG hx);obtain ⟨pA,pc,Qc,Pb,-⟩:=qY Ie.1 rfl;simp only at Qc Pb;subst Qc;rw [Da] at Pb;have y0:Ce wr X.fB (j * 6) (Ss f.s):=hC.eZ hx JO 0 (by omega)
   have y1:Ce wr X.fB (j * 6+1) (Iv f.ty):=hC.eZ hx JO 1 (by omega)
   have y2:Ce wr X.fB (j * 6+2) (.slice pA pn pc):=by rw [<-Da];exact hC.eZ hx JO 2 (by omega)
   have y3:Ce wr X.fB (j * 6+3) (Iv (f.b:Nat)):=hC.eZ hx JO 3 (by omega)
   have y4:Ce wr X.fB (j * 6+4) (Iv f.p):=hC.eZ hx JO 4 (by omega)
   have y5:Ce wr X.fB (j * 6+5) (.slice vA vn vc):=hC.eZ hx JO 5 (by omega)
   have uo:=hC.sI;have hdr:(X.fl.drop j).map (·.1)=f ::(X.fl.drop (j+1)).map (·.1):=by
    rw [List.drop_eq_getElem_cons xP,List.map_cons,(zS.1 hx).2]
   rw [hdr,rO] at Er;have QG:=H.2.2.1 _ (zG hx);simp only at QG;rw [Da] at QG;have NZ:(j:Int)<n:=by omega
   have HG:=Hy5 Er hC bW hx Da;clear Er hC bW hdr hx JO Ie Da;go_upto_region 3 with (fail);have OY:Zw wr (wr.alloc (.cells #[Ss f.s,Iv f.ty,.slice pA pn pc,Iv (f.b:Nat),Iv f.p,.slice vA vn vc] tFu)):=(zB _ _).alloc (zL _) _;have bT:=Blk.new wr tFu #[Ss f.s,Iv f.ty,.slice pA pn pc,Iv (f.b:Nat),Iv f.p,.slice vA vn vc];have AR:=HG.2.1.on OY;have Qg:=HG.2.1.fresh;obtain ⟨H1,LP⟩:=zN wr.heap.size;rw [LP] at bT;generalize MQ:wr.alloc (.cells #[Ss f.s,Iv f.ty,.slice pA pn pc,Iv (f.b:Nat),Iv f.p,.slice vA vn vc] tFu)=W1 at *;simp only [LP];obtain ⟨A3,n3,c3,Es⟩:∃A n c,S.scv=.slice A n c:=by
    obtain ⟨A3,c3,e⟩:=dL AR.sco;exact ⟨A3,_,c3,e⟩
   have Ez:=AR.c3;rw [Es] at Ez;have DV:=AR.chk.lt;have q0:Ce W1 H1 0 (Ss f.s):=bT.cell 0;have q1:Ce W1 H1 1 (Iv f.ty):=bT.cell 1;have q2:Ce W1 H1 2 (.slice pA pn pc):=bT.cell 2;have q4:Ce W1 H1 4 (Iv f.p):=bT.cell 4;have ql:=bT.lt;have qm:f.s.length<=maxLen:=by unfold maxLen;have:=QG.1;omega
   obtain ⟨bh,OG⟩:∃b,(look s f.s).isSome=b:=⟨_,rfl⟩;have Qy:Hid (∀W,Zw W1 W->Calls prog 49 #[.slice A3 n3 c3,Ss f.s] W fun e w'=>e=.returned (.bool bh)/\Zw W1 w'):=Hy fun W hW=>by
    have OT:=(AR.on hW).scs;rw [Es] at OT;rw [<-OG];exact (qC OT (k:=0) rfl (by omega) qm).mono fun e w' h=>⟨h.1,hW.trans (h.2.mono hW.size)⟩
   have Vm:Hid (∀Wx,Zw W1 Wx->Ce Wx X.b 3 (.slice A3 n3 c3)/\X.b<Wx.heap.size/\Ce Wx H1 0 (Ss f.s)/\Ce Wx H1 1 (Iv f.ty)/\Ce Wx H1 2 (.slice pA pn pc)/\Ce Wx H1 4 (Iv f.p)/\H1<Wx.heap.size):=Hy fun Wx hW=>by
    have hz:=hW.size;exact ⟨(hW.cell (p:=Ad X.b 3) DV).trans Ez,by omega,(hW.cell (p:=Ad H1 0) ql).trans q0,(hW.cell (p:=Ad H1 1) ql).trans q1,(hW.cell (p:=Ad H1 2) ql).trans q2,(hW.cell (p:=Ad H1 4) ql).trans q4,by omega⟩
   have Z5:Hid (∀W b,Zw W1 W->Calls prog 48 #[.bool b,Iv 9,Iv f.p] W fun e w'=>(b=true/\e=.panicked [{v:=.iface tFt (.agg #[Iv 9,Iv f.p]),recovered:=false}]∨b=false/\e=.returned (.tuple #[]))/\Zw W1 w'):=Hy fun W b hW=>
    (df b 9 f.p W).mono fun e w' h=>⟨h.1,by rw [<-h.2];exact hW⟩
   have RH:Hid (∀W b,Zw W1 W->Calls prog 48 #[.bool b,Iv 5,Iv f.p] W fun e w'=>(b=true/\e=.panicked [{v:=.iface tFt (.agg #[Iv 5,Iv f.p]),recovered:=false}]∨b=false/\e=.returned (.tuple #[]))/\Zw W1 w'):=Hy fun W b hW=>
    (df b 5 f.p W).mono fun e w' h=>⟨h.1,by rw [<-h.2];exact hW⟩
   have Cb:=Hy (show Below X.B w W1 from HG.2.2.1.trans (OY.mono HG.2.1.Ble))
   have Vu:Hid (∀W,Zw W1 W->32<=j->R (.panicked [{v:=.iface tFt (.agg #[Iv 9,Iv f.p]),recovered:=false}]) W):=Hy fun W hW aD=>by
    rw [<-HR.out];exact .inr ⟨9,f.p,by rw [HG.1,if_pos aD],rfl,Cb.trans (hW.mono AR.Ble)⟩
   have UZ:Hid (∀W,Zw W1 W->¬ 32<=j->bh=true->R (.panicked [{v:=.iface tFt (.agg #[Iv 5,Iv f.p]),recovered:=false}]) W):=Hy fun W hW X6 aD=>by
    rw [<-HR.out];exact .inr ⟨5,f.p,by rw [HG.1,if_neg X6,OG,aD];rfl,rfl,Cb.trans (hW.mono AR.Ble)⟩
   have Qz:=Hy6 AR bT Qg LP Es OG;have J:Zw W1 W1:=zB _ _;clear OY bT AR Qg LP MQ Es OG y0 y1 y2 y3 y4 y5 uo;go_wp2_with fail;refine (Z5 _ _ (by first|exact J|exact J.drew)).mono ?_
   rintro e v2 ⟨⟨hm,rfl⟩|⟨hm,rfl⟩,J2⟩
   ·have Re:=Hy (Vu _ J2 (by have:=of_decide_eq_true hm;omega))
    clear hm J2;go_wp2_with fail;exact aG rfl Re
   have hj32:¬ 32<=j:=by have:=of_decide_eq_false hm;omega
   have HJ32:=Hy hj32;clear hm hj32 J Ez q0 q1 q2 q4 ql DV;obtain ⟨Ez,DV,q0,q1,q2,q4,ql⟩:=Vm _ J2;have J:=J2;clear J2;go_upto_region 4 with (fail);go_cut [] (fun wx=>bh=false/\Zw W1 wx)
   case first=>
    go_region_held2 (fun Wx=>Ce Wx X.b 3 (.slice A3 n3 c3)/\X.b<Wx.heap.size/\Ce Wx H1 0 (Ss f.s)/\Ce Wx H1 1 (Iv f.ty)/\Ce Wx H1 2 (.slice pA pn pc)/\Ce Wx H1 4 (Iv f.p)/\H1<Wx.heap.size)
     (first|exact ⟨Ez,DV,q0,q1,q2,q4,ql⟩|exact Vm _ J)
     (first
      | (go_at_call 49;(with_reducible refine Calls.mono (Qy.out _ (by first|exact J|exact J.drew)) ?_);rintro e v1 ⟨rfl,J⟩)
      | (go_at_call 48;(with_reducible refine Calls.mono (RH.out _ _ (by first|exact J|exact J.drew)) ?_);rintro e v2 ⟨⟨hm,rfl⟩|⟨hm,rfl⟩,J⟩;(have J9:=Hy J;have Re:=Hy hm;clear hm;go_wp2_with fail;refine aG rfl ?_;exact UZ _ J9.out HJ32 Re);have NL:=Hy hm;clear hm))
    all_goals
     go_wp2_with fail;go_meet;exact ⟨NL,J⟩
   case rest=>
    obtain ⟨Q6,J⟩:=hcut;have HDc:Hid (∀W,Zw W1 W->Calls prog 50 #[.slice A3 n3 c3,Ss f.s,.agg #[Iv 4,Iv (j:Int),Iv f.ty]] W fun e w'=>e=.returned (.tuple #[])/\CkV X S {σ with sc:=[(f.s,(⟨4,(j:Int),f.ty⟩:Mg)) ::s]} w'/\Below X.B w w'/\Blk w' H1 tFu #[Ss f.s,Iv f.ty,.slice pA pn pc,Iv (f.b:Nat),Iv f.p,.slice vA vn vc]):=Hy fun W hW=>by
     obtain ⟨AR,bT,Qg,LP,Es,OG⟩:=Qz;have hd:=mr (AR.on hW) (k:=0) rfl (by omega) (x:=f.s) (show s.length<=2000000 by omega) qm ⟨4,(j:Int),f.ty⟩
     rw [show S.scv=.slice A3 n3 c3 from Es] at hd
     refine hd.mono fun e w' ⟨h1,h2,h3,h4⟩=>⟨h1,h2,Cb.trans ((hW.mono AR.Ble).trans h3),?_⟩
     have hz:=bT.below hW bT.lt;have e4:=h4 H1 (by have:=hW.size;have:=bT.lt;omega) (fun e=>absurd (Qg _ e) (by omega))
     exact e4.trans hz
    have Z4:Hid (∀Wx,(CkV X S {σ with sc:=[(f.s,(⟨4,(j:Int),f.ty⟩:Mg)) ::s]} Wx/\Below X.B w Wx/\Blk Wx H1 tFu #[Ss f.s,Iv f.ty,.slice pA pn pc,Iv (f.b:Nat),Iv f.p,.slice vA vn vc])->Ce Wx X.b 3 (.slice A3 n3 c3)/\X.b<Wx.heap.size/\Ce Wx H1 0 (Ss f.s)/\Ce Wx H1 1 (Iv f.ty)/\Ce Wx H1 2 (.slice pA pn pc)/\Ce Wx H1 4 (Iv f.p)/\H1<Wx.heap.size):=Hy fun Wx hW=>by
     have Es:=Qz.2.2.2.2.1;exact ⟨by rw [<-show S.scv=.slice A3 n3 c3 from Es];exact hW.1.c3,hW.1.chk.lt,hW.2.2.cell 0,hW.2.2.cell 1,hW.2.2.cell 2,hW.2.2.cell 4,hW.2.2.lt⟩
    clear Ez DV q0 q1 q2 q4 ql;obtain ⟨Ez,DV,q0,q1,q2,q4,ql⟩:=Vm _ J;have NL:=Hy Q6;clear Q6;go_upto_region 5 with (fail);go_cut [] (fun wx=>CkV X S {σ with sc:=[(f.s,(⟨4,(j:Int),f.ty⟩:Mg)) ::s]} wx/\Below X.B w wx/\Blk wx H1 tFu #[Ss f.s,Iv f.ty,.slice pA pn pc,Iv (f.b:Nat),Iv f.p,.slice vA vn vc])
    case first=>
     go_region_held2 (fun Wx=>Ce Wx X.b 3 (.slice A3 n3 c3)/\X.b<Wx.heap.size/\Ce Wx H1 0 (Ss f.s)/\Ce Wx H1 1 (Iv f.ty)/\Ce Wx H1 2 (.slice pA pn pc)/\Ce Wx H1 4 (Iv f.p)/\H1<Wx.heap.size)
      (first|exact ⟨Ez,DV,q0,q1,q2,q4,ql⟩|exact Z4 _ Xv|exact Vm _ J)
      ((go_at_call 50;(with_reducible refine Calls.mono (HDc.out _ (by first|exact J|exact J.drew)) ?_);rintro e v2 ⟨rfl,J9⟩;have Xv:=Hy J9;clear J9))
     all_goals
      go_wp2_with fail;go_meet;exact Xv
    case rest=>
     obtain ⟨Gu,TC⟩:=zQ wc;subst TC;obtain ⟨-,-,z0,z1,z2,z4,zl⟩:=Z4 _ hcut;obtain ⟨E9,qK,LK⟩:=hcut;have Xt:Hid (∀Wx,Zw Gu Wx->Ce Wx H1 0 (Ss f.s)/\Ce Wx H1 1 (Iv f.ty)/\Ce Wx H1 2 (.slice pA pn pc)/\Ce Wx H1 4 (Iv f.p)/\H1<Wx.heap.size):=Hy fun Wx hW=>by
      have hz:=hW.size;exact ⟨(hW.cell (p:=Ad H1 0) zl).trans z0,(hW.cell (p:=Ad H1 1) zl).trans z1,(hW.cell (p:=Ad H1 2) zl).trans z2,(hW.cell (p:=Ad H1 4) zl).trans z4,by omega⟩
     obtain ⟨tb,htb⟩:=zN (twice f.ps []);have UV:=Hy (show f.ps.length=pn from HG.2.2.2.2)
     have HPS:=Hy (show PsV Gu pA f.ps by
      have e0:=HG.2.2.2.1;rw [UV.out] at e0;obtain ⟨A',c',e1,-,e3⟩:=qY (E9.prm (f,.slice pA pn pc) (zG e0)).1 rfl;simp only [Value.slice.injEq] at e1;rw [e1.1];exact e3)
     have HTw:Hid (∀W,Zw Gu W->Calls prog 53 #[.slice pA pn pc] W fun e w'=>e=.returned (.bool tb)/\Zw Gu w'):=Hy fun W hW=>by
      rw [<-htb];exact (GJ UV (by omega) (HPS.on hW) pc Pb).mono fun e w' h=>⟨h.1,hW.trans (h.2.mono hW.size)⟩
     have HT9:Hid (∀W b,Zw Gu W->Calls prog 48 #[.bool b,Iv 9,Iv f.p] W fun e w'=>(b=true/\e=.panicked [{v:=.iface tFt (.agg #[Iv 9,Iv f.p]),recovered:=false}]∨b=false/\e=.returned (.tuple #[]))/\Zw Gu w'):=Hy fun W b hW=>
     (df b 9 f.p W).mono fun e w' h=>⟨h.1,by rw [<-h.2];exact hW⟩
     have YW:Hid (∀W b,Zw Gu W->Calls prog 48 #[.bool b,Iv 5,Iv f.p] W fun e w'=>(b=true/\e=.panicked [{v:=.iface tFt (.agg #[Iv 5,Iv f.p]),recovered:=false}]∨b=false/\e=.returned (.tuple #[]))/\Zw Gu w'):=Hy fun W b hW=>
     (df b 5 f.p W).mono fun e w' h=>⟨h.1,by rw [<-h.2];exact hW⟩
     have Xg:jf (X.fl.map (·.1)) 0 s0=if 8<pn then .er 9 f.p else if tb=true then .er 5 f.p else jf ((X.fl.drop (j+1)).map (·.1)) (j+1) ((f.s,⟨4,j,f.ty⟩) ::s):=by
      rw [HG.1,if_neg HJ32.out,Qz.2.2.2.2.2,NL.out,if_neg (by decide),UV.out,htb]
     have HHD:=Hy Xg;have Pv:=Hy2 E9 qK;have Ze:Hid (∀W,Zw Gu W->8<pn->R (.panicked [{v:=.iface tFt (.agg #[Iv 9,Iv f.p]),recovered:=false}]) W):=Hy fun W hW aD=>by
      rw [<-HR.out];exact .inr ⟨9,f.p,by rw [HHD.out,if_pos aD],rfl,Pv.2.trans (hW.mono Pv.1.Ble)⟩
     have HE6:Hid (∀W,Zw Gu W->¬ 8<pn->tb=true->R (.panicked [{v:=.iface tFt (.agg #[Iv 5,Iv f.p]),recovered:=false}]) W):=Hy fun W hW h8 aD=>by
      rw [<-HR.out];exact .inr ⟨5,f.p,by rw [HHD.out,if_neg h8,if_pos aD],rfl,Pv.2.trans (hW.mono Pv.1.Ble)⟩
     have J6:Zw Gu Gu:=zB _ _;clear E9 qK LK htb Xg Ez DV q0 q1 q2 q4 ql J;go_wp2_with fail;refine (HT9 _ _ (by first|exact J6|exact J6.drew)).mono ?_
     rintro e v2 ⟨⟨hm,rfl⟩|⟨hm,rfl⟩,J2⟩
     ·have Re:=Hy (Ze _ J2 (by have:=of_decide_eq_true hm;omega))
      clear hm J2;go_wp2_with fail;exact aG rfl Re
     have h8:¬ 8<pn:=by have:=of_decide_eq_false hm;omega
     have H8:=Hy h8;clear hm h8 J6 z0 z1 z2 z4 zl;obtain ⟨z0,z1,z2,z4,zl⟩:=Xt _ J2;go_upto_region 7 with (fail);go_region_held2 (fun Wx=>Ce Wx H1 0 (Ss f.s)/\Ce Wx H1 1 (Iv f.ty)/\Ce Wx H1 2 (.slice pA pn pc)/\Ce Wx H1 4 (Iv f.p)/\H1<Wx.heap.size)
      (first|exact ⟨z0,z1,z2,z4,zl⟩|exact Xt _ J2)
      (first
       | (go_at_call 53;(with_reducible refine Calls.mono (HTw.out _ (by first|exact J2|exact J2.drew)) ?_);rintro e v1 ⟨rfl,J2⟩)
       | (go_at_call 48;(with_reducible refine Calls.mono (YW.out _ _ (by first|exact J2|exact J2.drew)) ?_);rintro e v2 ⟨⟨hm,rfl⟩|⟨hm,rfl⟩,J2⟩;(have J9:=Hy J2;have Re:=Hy hm;clear hm;go_wp2_with fail;refine aG rfl ?_;exact HE6 _ J9.out H8 Re);have HM7:=Hy hm;clear hm))
     all_goals
      have PP:=Hy (show jf (X.fl.map (·.1)) 0 s0=jf ((X.fl.drop (j+1)).map (·.1)) (j+1) ((f.s,⟨4,j,f.ty⟩) ::s) by
       rw [HHD.out,if_neg H8.out,HM7.out,if_neg (by decide)])
      have Xx:=Hy (show CkV X S {σ with sc:=[(f.s,(⟨4,(j:Int),f.ty⟩:Mg)) ::s]} _/\Below X.B w _ from ⟨Pv.1.on J2,Pv.2.trans (J2.mono Pv.1.Ble)⟩)
      have TK:((f.s,(⟨4,(j:Int),f.ty⟩:Mg)) ::s).length<=s0.length+(j+1):=by simp;omega
      clear J2 z0 z1 z2 z4 zl;go_wp2_with fail;go_roundw
      case rel=>exact ⟨j+1,_,by omega,by go_num,PP,TK,Xx.1,Xx.2⟩
      case measure=>simp [intOf];omega
  ·obtain rfl:j=n:=by omega
   have hdr:(X.fl.drop j).map (·.1)=[]:=by rw [List.drop_eq_nil_of_le (by rw [HN.out];omega)];rfl
   rw [hdr] at Er;have HG:=Hy3 Er hC bW;clear Er hC bW hdr;go_wp2_with fail;go_end0;rw [<-HR.out];exact .inl ⟨s,HG.1,rfl,HG.2.1,HG.2.2,by rw [H.2.1,HN.out];simp;omega⟩
end
end Go.Proofs.YtcchdlnfeijinaaGreatDoor
