/- Parq to Lexc: PLAIN MATHEMATICS of layer parse: what is read has its shape. -/
import Derived.Test.YtcchdlnfeijinaaGreatDoorNaa
import Derived.Test.YtcchdlnfeijinaaGreatDoorProg
import Derived.Test.YtcchdlnfeijinaaGreatDoorShelf
import Derived.WalkKit
import Derived.WalkSpells
import Derived.WalkLawsBesides
import Derived.Lib.Hide
import Derived.ScopeJumps
import Derived.Lib.IndexBytes
import Derived.RowKit
import Derived.Below
import Derived.Carry
import Derived.Lib.Strings
import Derived.Deep.Draws
import Derived.RangeFuncOwn
import Derived.RangeFuncNested
import Derived.Lib.LaidTab
import Derived.Deep.MidRow
import Derived.Deep.AppendLies
import Derived.Stop.LaidErr
namespace Go.Proofs.YtcchdlnfeijinaaGreatDoor
open Go.Proofs.Tryz
set_option linter.unusedSectionVars false
set_option linter.unusedSimpArgs false
set_option linter.unusedVariables false
set_option maxHeartbeats 4000000
set_option maxRecDepth 100000
section
def Ans {α:Type} (P:α->St->Prop) (r:Rs α):Prop:=r.Sat True (fun _ _=>True) P
theorem Ans.bind {α β:Type}{P:α->St->Prop}{Q:β->St->Prop}{r:Rs α}{f:α->St->Rs β}(h:Ans P r)(hf:∀a s,P a s->Ans Q (f a s)):Ans Q (r.bind f):=Rs.Sat.bind h hf
theorem Ans.mono {α:Type}{P Q:α->St->Prop}{r:Rs α}(h:Ans P r)(hf:∀a s,P a s->Q a s):Ans Q r:=Rs.Sat.mono h hf
section
variable {V:Tok->Prop} {e:Tok} (he:e.k=4)
include he
def Vs (V:Tok->Prop) (s:St):Prop:=∀t∈s.l,V t
theorem Vs.nx {s:St}(h:Vs V s):Vs V s.nx:=fun t ht=>h t (List.mem_of_mem_tail ht)
theorem Dr {s:St}(h:pk e s≠e):pk e s∈s.l:=by
 cases hl:s.l with
 |nil=>simp [pk,hl] at h
 |cons t l=>simp [pk,hl]
theorem bL {x:List UInt8}{s:St}(hV:Vs V s):Ans (fun _ s'=>Vs V s'/\s'.c=s.c) (must e x s):=by
 unfold must;split
 ·exact ⟨Vs.nx he hV,rfl⟩
 ·trivial
theorem oZ {s:St}(hV:Vs V s):Ans (fun t s'=>Vs V s'/\s'.c=s.c/\Nm V t.s) (gF e s):=by
 unfold gF;split
 ·rename_i h;exact ⟨Vs.nx he hV,rfl,_,hV _ (Dr he fun h'=>by rw [h',yH he] at h;cases h),h,rfl⟩
 ·trivial
theorem uB {ks:List Int}{s:St}(hV:Vs V s):Ans (fun k s'=>Vs V s'/\s'.c=s.c/\k∈ks) (gz e ks s):=by
 unfold gz;split
 ·split
  ·exact ⟨Vs.nx he hV,rfl,by assumption⟩
  ·trivial
 ·trivial
theorem Ap (d:Nat)(s:St):Ans (fun _ s'=>s'=s/\d<=40) (fM e d s):=by
 unfold fM;split
 ·trivial
 ·exact ⟨rfl,by omega⟩
def PX (V:Tok->Prop) (it:It) (s:St) (a:Fo) (s':St):Prop:=Vs V s'/\s'.c=s.c+a.size/\s'.c<=4000/\Gr V [it] none a
theorem fin {it:It}{h:Hd}{k:Fo}{s s0:St}(hV:Vs V s)(hc:s.c=s0.c+k.size)(h1:okI V it h k.len)(h2:Gr V (kI it h k.len).1 (kI it h k.len).2 k) :
  Ans (PX V it s0) (bz h k s):=by
 unfold bz;split
 ·trivial
 ·exact ⟨hV,by simp [Fo.one,Fo.size];omega,by simp;omega,Gr.one h1 h2⟩
theorem NC {it:It}{h:Hd}{k:Fo}{s s0:St}(hV:Vs V s)(hc:s.c=s0.c+k.size)(h1:okI V it h k.len)(h2:Gr V (kI it h k.len).1 (kI it h k.len).2 k) :
  Ans (fun a s'=>PX V it s0 a s'/\s'.l=s.l) (bz h k s):=by
 unfold bz;split
 ·trivial
 ·exact ⟨⟨hV,by simp [Fo.one,Fo.size];omega,by simp;omega,Gr.one h1 h2⟩,rfl⟩
def PS (V:Tok->Prop) (e:Tok) (d:Nat) (s:St) (a:Fo) (s':St):Prop:=PX V (.s d false) s a s'/\(q (pk e s')=jG->Gr V [.s d true] none a)
theorem qp {d:Nat}{h:Hd}{k:Fo}{s s0:St}(hV:Vs V s)(hc:s.c=s0.c+k.size)
  (h1:∀cl,(cl=true->q (pk e s)=jG)->okS V d cl h k.len/\Gr V (kS d cl h k.len).1 (kS d cl h k.len).2 k) :
  Ans (PS V e d s0) (bz h k s):=by
 unfold bz;split
 ·trivial
 ·have h2:=h1 false (by simp)
  exact ⟨⟨hV,by simp [Fo.one,Fo.size];omega,by simp;omega,Gr.one h2.1 h2.2⟩,fun h'=>by have h3:=h1 true (fun _=>h');exact Gr.one h3.1 h3.2⟩
def lft:Md->Nat
 | .loop _ _ x=>x.size
 |_=>0
def Pre (V:Tok->Prop) (e:Tok) (s:St):Md->Prop
 | .bin _ l=>1<=l/\l<=11
 | .loop d l x=>1<=l/\l<=11/\Gr V [.e d (max l (lvl (q (pk e s))))] none x/\x.size<=s.c
 |_=>True
def Spec (V:Tok->Prop) (e:Tok) (a:Fo) (s':St):Md->Prop
 | .bin d l=>Gr V [.e d l] none a/\lvl (q (pk e s'))<l
 | .loop d l _=>Gr V [.e d l] none a/\lvl (q (pk e s'))<l
 | .opd d=>Gr V [.e d 11] none a
 | .args d=>Gr V [.e d 1] (some (.e d 1)) a
 | .stm d=>Gr V [.s d false] none a/\(q (pk e s')=jG->Gr V [.s d true] none a)
 | .blk d=>Gr V [] (some (.s (d+1) false)) a
def Po (V:Tok->Prop) (e:Tok) (m:Md) (s:St) (a:Fo) (s':St):Prop:=Vs V s'/\s'.c+lft m=s.c+a.size/\s'.c<=4000/\Spec V e a s' m
variable {r:Md->St->Rs Fo} (hr:∀m s,Vs V s->s.c<=4000->Pre V e s m->Ans (Po V e m s) (r m s))
include hr
theorem Mi {d l:Nat}{s:St}(h1:1<=l)(h2:l<=11)(hV:Vs V s)(hc:s.c<=4000):Ans (fun a s'=>PX V (.e d l) s a s'/\lvl (q (pk e s'))<l) (r (.bin d l) s):=
 (hr (.bin d l) s hV hc ⟨h1,h2⟩).mono fun a s' ⟨x1,x2,x3,x4,x5⟩=>⟨⟨x1,x2,x3,x4⟩,x5⟩
theorem rex {d:Nat}{s:St}(hV:Vs V s)(hc:s.c<=4000):Ans (PX V (.e d 1) s) (r (.bin d 1) s):=(Mi he hr (Nat.le_refl _) (by omega) hV hc).mono fun _ _ h=>h.1
theorem Jz {d:Nat}{s:St}(hV:Vs V s)(hc:s.c<=4000):Ans (PX V (.e d 11) s) (r (.opd d) s):=
 (hr (.opd d) s hV hc trivial).mono fun a s' h=>⟨h.1,h.2.1,h.2.2.1,h.2.2.2⟩
theorem FL {d:Nat}{s:St}(hV:Vs V s)(hc:s.c<=4000):Ans (PS V e d s) (r (.stm d) s):=
 (hr (.stm d) s hV hc trivial).mono fun a s' h=>⟨⟨h.1,h.2.1,h.2.2.1,h.2.2.2.1⟩,h.2.2.2.2⟩
theorem Ll {d l:Nat}{s:St}(h1:1<=l)(h2:l<=11)(hV:Vs V s)(hc:s.c<=4000):Ans (Po V e (.bin d l) s) (vR r d l s):=by
 refine (Jz he hr hV hc).bind fun a s1 ⟨a1,a2,a3,a4⟩=>(hr (.loop d l a) s1 a1 a3 ⟨h1,h2,?_,by omega⟩).mono fun b s2 ⟨b1,b2,b3,b4⟩=>⟨b1,?_,b3,b4⟩
 ·have:=yL (q (pk e s1));exact a4.mono (Nat.le_refl _) (by omega)
 ·simp only [lft] at b2 |-;omega
theorem Gn {d l:Nat}{x:Fo}{s:St}(h1:1<=l)(h2:l<=11)(hx:Gr V [.e d (max l (lvl (q (pk e s))))] none x)(hxs:x.size<=s.c)(hV:Vs V s)(hc:s.c<=4000) :
  Ans (Po V e (.loop d l x) s) (l6 e r d l x s):=by
 unfold l6;have hL:=yL (q (pk e s));split
 ·rename_i hlt;rw [show max l (lvl (q (pk e s)))=l by omega] at hx
  exact ⟨hV,rfl,hc,hx,hlt⟩
 ·rename_i hlt;have aD:pk e s≠e:=fun h'=>by rw [h',lY he] at hlt;simp [lvl] at hlt;omega
  have hq:q (pk e s)=(pk e s).s:=by
   unfold q;split
   ·rfl
   ·rename_i h';unfold q at hlt;rw [if_neg h'] at hlt;simp [lvl] at hlt;omega
  rw [show max l (lvl (q (pk e s)))=lvl (q (pk e s)) by omega] at hx
  have hl1:1<=lvl (q (pk e s))+1:=by omega
  refine (Mi he hr (d:=d) (l:=lvl (q (pk e s))+1) (s:=s.nx) hl1 (by omega) (Vs.nx he hV) hc).bind fun b s1 ⟨⟨b1,b2,b3,b4⟩,b5⟩=>?_
  refine (NC he (it:=.e d (lvl (q (pk e s)))) (s0:=⟨s.l,s.c - x.size⟩) b1 ?_ ?_ ?_).bind fun y s2 ⟨⟨y1,y2,y3,y4⟩,y5⟩=>?_
  ·rw [Fo.jH];simp only [St.nx] at b2 |-;omega
  ·simp only [okI,okE,<-hq];exact .inr (.inr (.inr (.inr (.inl ⟨by trivial,fun h'=>by omega,by omega,by trivial,by trivial,by trivial⟩))))
  ·simp only [kI,kE,<-hq];simp;exact Gr.app hx b4
  ·have e2:pk e s2=pk e s1:=by simp only [pk,y5]
   refine (hr (.loop d l y) s2 y1 y3 ⟨h1,h2,y4.mono (Nat.le_refl _) (by rw [e2];omega),by simp only at y2;omega⟩).mono fun z s3 ⟨z1,z2,z3,z4⟩=>⟨z1,?_,z3,z4⟩
   simp only [lft] at z2 y2 |-;omega
theorem Av {f:Tok}{d:Nat}{s:St}{it:It}(hf:Nm V f.s)(hit:∀n,okI V it ⟨7,f.p,0,f.s,0,0⟩ n/\kI it ⟨7,f.p,0,f.s,0,0⟩ n=([],some (.e d 1)))(hV:Vs V s)(hc:s.c<=4000):Ans (PX V it s) (dY e r f d s):=by
 refine (bL he hV).bind fun _ s1 ⟨a1,a2⟩=>?_
 refine Ans.bind (P:=fun a s'=>Vs V s'/\s'.c=s1.c+a.size/\s'.c<=4000/\Gr V [] (some (.e d 1)) a) ?_ fun a s2 ⟨b1,b2,b3,b4⟩=>(bL he b1).bind fun _ s3 ⟨c1,c2⟩=>?_
 ·split
  ·exact ⟨a1,rfl,by omega,rfl⟩
  ·exact (hr (.args d) s1 a1 (by omega) trivial).mono fun a s' ⟨x1,x2,x3,x4⟩=>⟨x1,x2,x3,by
    simp only [Spec] at x4;cases a with
    |nil=>rfl
    |cons h k r=>simpa only [Gr] using x4⟩
 ·exact fin he c1 (by omega) (hit _).1 (by rw [(hit _).2];exact b4)
theorem Hl {f:Tok}{d:Nat}{s:St}(hd:d<=40)(hf:Nm V f.s)(hV:Vs V s)(hc:s.c<=4000):Ans (PX V (.e d 11) s) (dI e r f (d+1) s):=
 (bL he hV).bind fun _ s1 ⟨a1,a2⟩=>(rex he hr a1 (by omega)).bind fun a s2 ⟨b1,b2,b3,b4⟩=>(bL he b1).bind fun _ s3 ⟨c1,c2⟩=>
  fin he c1 (by omega) (.inr (.inr (.inl ⟨rfl,hd,hf,rfl,rfl,rfl⟩))) (by simpa [kI,kE] using b4)
theorem I7 {d:Nat}{s:St}(hd:d<=40)(hV:Vs V s)(hc:s.c<=4000):Ans (PX V (.e d 11) s) (mK e r d s):=by
 refine (oZ he hV).bind fun t s1 ⟨a1,a2,a3⟩=>?_
 have up:∀a s',PX V (.e d 11) s1 a s'->PX V (.e d 11) s a s':=fun a s' ⟨x1,x2,x3,x4⟩=>⟨x1,by omega,x3,x4⟩
 split
 ·exact (Av he hr (it:=.e d 11) a3 (fun n=>⟨(show okE V d 11 ⟨7,t.p,0,t.s,0,0⟩ from .inr (.inr (.inr (.inr (.inr (.inr (.inl ⟨rfl,hd,a3,rfl,rfl,rfl⟩))))))) ,by simp [kI,kE]⟩) a1 (by omega)).mono up
 ·split
  ·exact (Hl he hr hd a3 a1 (by omega)).mono up
  ·exact fin he a1 (by simp [Fo.size];omega) (.inr (.inl ⟨rfl,hd,a3,rfl,rfl,rfl⟩)) (by simp [kI,kE,Gr])
theorem KY {d:Nat}{s:St}(hd:d<=40)(hV:Vs V s)(hc:s.c<=4000):Ans (PX V (.e d 11) s) (lC e r d s):=
 (rex he hr hV hc).bind fun a s2 ⟨b1,b2,b3,b4⟩=>(bL he b1).bind fun _ s3 ⟨c1,c2⟩=>⟨c1,by omega,by omega,Gr.paren hd b4⟩
theorem wy {x:List UInt8}{k:Int}(h:eH x=some k):k=0∨k=1∨k=2∨k=3:=by
 unfold eH at h
 repeat (split at h;(simp at h;omega))
 simp at h
theorem K7 {d:Nat}{s:St}(hd:d<=40)(hV:Vs V s)(hc:s.c<=4000):Ans (PX V (.e d 11) s) (gB e r d s):=by
 unfold gB;have hE:Ans (PX V (.e d 11) s) (lC e r d s.nx):=KY he hr (s:=s.nx) hd (Vs.nx he hV) hc;split
 ·split
  ·exact hE
  ·rename_i k hk hk0;have hk3:=wy he hr hk;refine (bL he (Vs.nx he (Vs.nx he hV))).bind fun _ s1 ⟨a1,a2⟩=>(Jz he hr a1 (by simp only [St.nx] at a2;omega)).bind fun a s2 ⟨b1,b2,b3,b4⟩=>?_
   exact fin he b1 (by simp only [St.nx] at a2;omega) (.inr (.inr (.inr (.inr (.inr (.inl ⟨rfl,hd,rfl,rfl,by simp only;omega,rfl⟩)))))) (by simpa [kI,kE] using b4)
 ·exact hE
theorem JS {d:Nat}{s:St}(hV:Vs V s)(hc:s.c<=4000):Ans (PX V (.e d 11) s) (lZ e r d s):=by
 refine (Ap he d s).bind fun _ s1 ⟨U5,hd⟩=>?_
 subst U5;split
 ·rename_i h2;have aD:pk e s1≠e:=fun h'=>by rw [h',he] at h2;cases h2
  exact fin he (Vs.nx he hV) (by simp [Fo.size,St.nx]) (.inl ⟨rfl,hd,⟨_,hV _ (Dr he aD),h2,rfl,rfl⟩,rfl,rfl⟩) (by simp [kI,kE,Gr])
 split
 ·exact I7 he hr hd hV hc
 split
 ·rename_i hq;have hs:(pk e s1).s=q (pk e s1):=by
   unfold q at hq |-;split
   ·rfl
   ·rename_i h';rw [if_neg h'] at hq;simp at hq
  refine (Jz he hr (Vs.nx he hV) (by simpa [St.nx] using hc)).bind fun a s2 ⟨b1,b2,b3,b4⟩=>?_
  exact fin he b1 (by simpa [St.nx] using b2) (.inr (.inr (.inr (.inl ⟨rfl,hd,by simp only [hs];exact hq,rfl,rfl,rfl⟩)))) (by simpa [kI,kE] using b4)
 split
 ·exact K7 he hr hd hV hc
 split
 ·exact (bL he hV).bind fun _ s2 ⟨a1,a2⟩=>(bL he a1).bind fun _ s3 ⟨b1,b2⟩=>(bL he b1).bind fun _ s4 ⟨c1,c2⟩=>
   fin he c1 (by simp [Fo.size];omega) (.inr (.inr (.inr (.inr (.inr (.inr (.inr ⟨rfl,hd,rfl,rfl,rfl,rfl⟩))))))) (by simp [kI,kE,Gr])
 ·trivial
theorem Io {d:Nat}{s:St}(hV:Vs V s)(hc:s.c<=4000):Ans (Po V e (.args d) s) (kT e r d s):=by
 refine (rex he hr hV hc).bind fun a s1 ⟨a1,a2,a3,a4⟩=>?_
 obtain ⟨h,k,rfl,x1,x2⟩:=a4.un;split
 ·refine (hr (.args d) s1.nx (Vs.nx he a1) (by simpa [St.nx] using a3) trivial).bind fun b s2 ⟨b1,b2,b3,b4⟩=>⟨b1,?_,b3,x1,x2,?_⟩
  ·simp only [lft,St.nx,Fo.jH] at *;omega
  ·cases b with
   |nil=>simp [Spec,Gr] at b4
   |cons h k r=>simpa only [Spec,Gr,Fo.app] using b4
 ·exact ⟨a1,by simp only [lft];omega,a3,x1,x2,rfl⟩
theorem Li {d:Nat}{s:St}(hV:Vs V s)(hc:s.c<=4000):Ans (Po V e (.blk d) s) (qw e r d s):=by
 unfold qw;split
 ·exact ⟨Vs.nx he hV,by simp [lft,Fo.size,St.nx],by simpa [St.nx] using hc,rfl⟩
 ·exact (FL he hr hV hc).bind fun a s1 ⟨⟨a1,a2,a3,a4⟩,_⟩=>(hr (.blk d) s1 a1 a3 trivial).bind fun b s2 ⟨b1,b2,b3,b4⟩=>
   ⟨b1,by simp only [lft,Fo.jH] at *;omega,b3,Gr.CF a4 b4⟩
theorem EN {d:Nat}{s s0:St}(h0:s.c=s0.c)(hd:d<=40)(hV:Vs V s)(hc:s.c<=4000):Ans (PS V e d s0) (bu e r d s):=
 (bL he hV).bind fun _ s1 ⟨a1,a2⟩=>(hr (.blk d) s1 a1 (by omega) trivial).bind fun a s2 ⟨b1,b2,b3,b4⟩=>
  qp he b1 (by simp only [lft] at b2;omega) fun cl _=>⟨⟨hd,rfl,rfl,.inl ⟨rfl,rfl,rfl⟩⟩,by simpa [kS,Spec] using b4⟩
theorem xe {d:Nat}{s s0:St}(h0:s.c=s0.c)(hd:d<=40)(hV:Vs V s)(hc:s.c<=4000):Ans (PS V e d s0) (bH e r d s):=
 (uB he hV).bind fun k s1 ⟨a1,a2,a3⟩=>(oZ he a1).bind fun t s2 ⟨b1,b2,b3⟩=>(bL he b1).bind fun _ s3 ⟨c1,c2⟩=>(rex he hr c1 (by omega)).bind fun a s4 ⟨d1,d2,d3,d4⟩=>(bL he d1).bind fun _ s5 ⟨f1,f2⟩=>
  qp he f1 (by omega) fun cl _=>⟨⟨hd,rfl,rfl,.inr (.inl ⟨rfl,b3,by simpa using a3⟩)⟩,by simpa [kS] using d4⟩
theorem xx {d:Nat}{s:St}(hV:Vs V s)(hc:s.c<=4000):Ans (fun a s'=>Vs V s'/\s'.c=s.c+a.size/\s'.c<=4000/\Gr V [.e (d+1) 1,.s (d+1) false] none a/\(q (pk e s')=jG->Gr V [.e (d+1) 1,.s (d+1) true] none a)) (cO e r d s):=
 (bL he hV).bind fun _ s1 ⟨a1,a2⟩=>(rex he hr a1 (by omega)).bind fun a s2 ⟨b1,b2,b3,b4⟩=>(bL he b1).bind fun _ s3 ⟨c1,c2⟩=>(FL he hr c1 (by omega)).bind fun b s4 ⟨⟨d1,d2,d3,d4⟩,d5⟩=>
  ⟨d1,by rw [Fo.jH];omega,d3,Gr.app b4 d4,fun h=>Gr.app b4 (d5 h)⟩
theorem MH {d:Nat}{s s0:St}(h0:s.c=s0.c)(hd:d<=40)(hV:Vs V s)(hc:s.c<=4000):Ans (PS V e d s0) (ifB e r d s):=by
 refine (xx he hr (s:=s.nx) (Vs.nx he hV) hc).bind fun a s1 ⟨a1,a2,a3,a4,a5⟩=>?_
 simp only [St.nx] at a2;split
 ·rename_i hq;simp only [isT,decide_eq_true_eq] at hq;refine (FL he hr (s:=s1.nx) (Vs.nx he a1) a3).bind fun b s2 ⟨⟨b1,b2,b3,b4⟩,b5⟩=>qp he b1 (by rw [Fo.jH];simp only [St.nx] at b2;omega) fun cl JQ=>?_
  have hb:Gr V [.s (d+1) cl] none b:=by cases cl with
   |false=>exact b4
   |true=>exact b5 (JQ rfl)
  have hab:Gr V [.e (d+1) 1,.s (d+1) true,.s (d+1) cl] none (a.app b):=Gr.app (a5 hq) hb;have hl:(a.app b).len=3:=hab.len;rw [hl];exact ⟨⟨hd,rfl,rfl,.inr (.inr (.inr (.inr (.inl ⟨rfl,rfl,rfl,.inl rfl⟩))))⟩,by simpa [kS] using hab⟩
 ·rename_i hq;simp only [isT,decide_eq_true_eq] at hq;refine qp he a1 (by omega) fun cl JQ=>?_
  cases cl with
  |true=>exact absurd (JQ rfl) hq
  |false=>
   have hl:a.len=2:=a4.len;rw [hl];exact ⟨⟨hd,rfl,rfl,.inr (.inr (.inr (.inr (.inl ⟨rfl,rfl,rfl,.inr ⟨rfl,rfl⟩⟩))))⟩,by simpa [kS] using a4⟩
theorem Co {d:Nat}{s s0:St}(h0:s.c=s0.c)(hd:d<=40)(hV:Vs V s)(hc:s.c<=4000):Ans (PS V e d s0) (fI e r d s):=by
 refine (xx he hr (s:=s.nx) (Vs.nx he hV) hc).bind fun a s1 ⟨a1,a2,a3,a4,a5⟩=>qp he a1 (by simp only [St.nx] at a2;omega) fun cl JQ=>?_
 have hb:Gr V [.e (d+1) 1,.s (d+1) cl] none a:=by cases cl with
  |false=>exact a4
  |true=>exact a5 (JQ rfl)
 exact ⟨⟨hd,rfl,rfl,.inr (.inr (.inr (.inr (.inr (.inl ⟨rfl,rfl,rfl⟩)))))⟩,by simpa [kS] using hb⟩
omit hr in
theorem GM {d:Nat}{s s0:St}(h0:s.c=s0.c)(hd:d<=40)(hV:Vs V s):Ans (PS V e d s0) (iB e d s):=
 (oZ he (s:=s.nx) (Vs.nx he hV)).bind fun t s1 ⟨a1,a2,a3⟩=>(bL he a1).bind fun _ s2 ⟨b1,b2⟩=>
  qp he b1 (by simp only [St.nx,Fo.size] at *;omega) fun cl _=>⟨⟨hd,rfl,rfl,.inr (.inr (.inr (.inr (.inr (.inr (.inl ⟨rfl,a3,rfl⟩))))))⟩,by simp [kS,Gr]⟩
theorem JE {d:Nat}{s s0:St}(h0:s.c=s0.c)(hd:d<=40)(hV:Vs V s)(hc:s.c<=4000):Ans (PS V e d s0) (iR e r d s):=by
 refine Ans.bind (P:=fun a s'=>Vs V s'/\s'.c=s.c+a.size/\s'.c<=4000/\((a=.nil)∨Gr V [.e (d+1) 1] none a)) ?_ fun a s2 ⟨b1,b2,b3,b4⟩=>(bL he b1).bind fun _ s3 ⟨c1,c2⟩=>qp he c1 (by omega) fun cl _=>?_
 ·split
  ·exact ⟨Vs.nx he hV,by simp [Fo.size,St.nx],by simpa [St.nx] using hc,.inl rfl⟩
  ·exact (rex he hr (s:=s.nx) (Vs.nx he hV) hc).mono fun a s' ⟨x1,x2,x3,x4⟩=>⟨x1,by simpa [St.nx] using x2,x3,.inr x4⟩
 ·rcases b4 with rfl|b4
  ·exact ⟨⟨hd,rfl,rfl,.inr (.inr (.inr (.inr (.inr (.inr (.inr (.inr (.inl ⟨rfl,rfl,rfl,by simp [Fo.len]⟩))))))))⟩,by simp [kS,Fo.len,Gr]⟩
  ·have hl:a.len=1:=b4.len;rw [hl];exact ⟨⟨hd,rfl,rfl,.inr (.inr (.inr (.inr (.inr (.inr (.inr (.inr (.inl ⟨rfl,rfl,rfl,Nat.le_refl _⟩))))))))⟩,by simpa [kS] using b4⟩
theorem JP {d:Nat}{s s0:St}(h0:s.c=s0.c)(hd:d<=40)(hV:Vs V s)(hc:s.c<=4000):Ans (PS V e d s0) (jr e r d s):=
 (bL he (s:=s.nx) (Vs.nx he hV)).bind fun _ s1 ⟨a1,a2⟩=>(rex he hr a1 (by simp only [St.nx] at a2;omega)).bind fun a s2 ⟨b1,b2,b3,b4⟩=>(bL he b1).bind fun _ s3 ⟨c1,c2⟩=>(bL he c1).bind fun _ s4 ⟨d1,d2⟩=>
  qp he d1 (by simp only [St.nx] at a2;omega) fun cl _=>⟨⟨hd,rfl,rfl,.inr (.inr (.inr (.inr (.inr (.inr (.inr (.inr (.inr (.inl ⟨rfl,rfl,rfl⟩)))))))))⟩,by simpa [kS] using b4⟩
theorem Cz {d:Nat}{s:St}(hV:Vs V s)(hc:s.c<=4000):Ans (fun a s'=>Vs V s'/\s'.c=s.c+a.size/\s'.c<=4000/\Gr V [.e (d+1) 1,.e (d+1) 1] none a) (cu e r d s):=
 (bL he hV).bind fun _ s1 ⟨a1,a2⟩=>(rex he hr a1 (by omega)).bind fun a s2 ⟨b1,b2,b3,b4⟩=>(bL he b1).bind fun _ s3 ⟨c1,c2⟩=>(bL he c1).bind fun _ s4 ⟨d1,d2⟩=>(rex he hr d1 (by omega)).bind fun b s5 ⟨f1,f2,f3,f4⟩=>(bL he f1).bind fun _ s6 ⟨g1,g2⟩=>
  ⟨g1,by rw [Fo.jH];omega,by omega,Gr.app b4 f4⟩
theorem DL {d:Nat}{s s0:St}(h0:s.c=s0.c)(hd:d<=40)(hV:Vs V s)(hc:s.c<=4000):Ans (PS V e d s0) (bV e r d s):=by
 refine (oZ he hV).bind fun t s1 ⟨a1,a2,a3⟩=>?_
 split
 ·exact (rex he hr (s:=s1.nx) (Vs.nx he a1) (by simp only [St.nx];omega)).bind fun a s2 ⟨b1,b2,b3,b4⟩=>(bL he b1).bind fun _ s3 ⟨c1,c2⟩=>
   qp he c1 (by simp only [St.nx] at b2;omega) fun cl _=>⟨⟨hd,rfl,rfl,.inr (.inr (.inl ⟨rfl,a3,rfl⟩))⟩,by simpa [kS] using b4⟩
 split
 ·exact (Cz he hr a1 (by omega)).bind fun a s2 ⟨b1,b2,b3,b4⟩=>
   qp he b1 (by omega) fun cl _=>⟨⟨hd,rfl,rfl,.inr (.inr (.inr (.inl ⟨rfl,a3,rfl⟩)))⟩,by simpa [kS] using b4⟩
 split
 ·exact (Av he hr (it:=.c d) a3 (fun n=>⟨⟨rfl,a3,rfl,rfl,rfl⟩,rfl⟩) a1 (by omega)).bind fun a s2 ⟨b1,b2,b3,b4⟩=>(bL he b1).bind fun _ s3 ⟨c1,c2⟩=>
   qp he c1 (by omega) fun cl _=>⟨⟨hd,rfl,rfl,.inr (.inr (.inr (.inr (.inr (.inr (.inr (.inr (.inr (.inr ⟨rfl,rfl,rfl⟩)))))))))⟩,by simpa [kS] using b4⟩
 split
 ·refine (FL he hr (s:=s1.nx) (Vs.nx he a1) (by simp only [St.nx];omega)).bind fun a s2 ⟨⟨b1,b2,b3,b4⟩,b5⟩=>qp he b1 (by simp only [St.nx] at b2;omega) fun cl JQ=>?_
  have hb:Gr V [.s (d+1) cl] none a:=by cases cl with
   |false=>exact b4
   |true=>exact b5 (JQ rfl)
  exact ⟨⟨hd,rfl,rfl,.inr (.inr (.inr (.inr (.inr (.inr (.inr (.inl ⟨rfl,a3,rfl⟩)))))))⟩,by simpa [kS] using hb⟩
 ·trivial
theorem Jh {d:Nat}{s:St}(hV:Vs V s)(hc:s.c<=4000):Ans (PS V e d s) (jm e r d s):=by
 refine (Ap he d s).bind fun _ s1 ⟨U5,hd⟩=>?_
 subst U5;split
 ·exact DL he hr rfl hd hV hc
 split
 ·exact EN he hr rfl hd hV hc
 split
 ·exact xe he hr rfl hd hV hc
 split
 ·exact xe he hr rfl hd hV hc
 split
 ·exact MH he hr rfl hd hV hc
 split
 ·exact Co he hr rfl hd hV hc
 split
 ·exact GM he rfl hd hV
 split
 ·exact JE he hr rfl hd hV hc
 split
 ·exact JP he hr rfl hd hV hc
 ·trivial
end
theorem Mh {V:Tok->Prop}{e:Tok}(he:e.k=4):∀n m s,Vs V s->s.c<=4000->Pre V e s m->Ans (Po V e m s) (run e n m s):=by
 intro n
 induction n with
 |zero=>intro m s _ _ _;trivial
 |succ n ih=>
  intro m s hV hc hp;cases m with
  |bin d l=>exact Ll he ih hp.1 hp.2 hV hc
  |loop d l x=>exact Gn he ih hp.1 hp.2.1 hp.2.2.1 hp.2.2.2 hV hc
  |opd d=>exact (JS he ih hV hc).mono fun a s' h=>⟨h.1,h.2.1,h.2.2.1,h.2.2.2⟩
  |args d=>exact Io he ih hV hc
  |stm d=>exact (Jh he ih hV hc).mono fun a s' h=>⟨h.1.1,h.1.2.1,h.1.2.2.1,h.1.2.2.2,h.2⟩
  |blk d=>exact Li he ih hV hc
end
section
open Go.RowKit
theorem lI (f:UInt8->Bool)(s:ByteArray)(k:Nat)(h:k<s.size):hd f (s.data.toList.drop k)=f s[k]:=by
 rw [List.drop_eq_getElem_cons (by rw [<-Lib.size_eq];exact h)]
 rfl
theorem rF (f:UInt8->Bool)(s:ByteArray)(k:Nat)(h:s.size<=k):hd f (s.data.toList.drop k)=false:=by
 rw [List.drop_of_length_le (by rw [<-Lib.size_eq];exact h)]
 rfl
theorem ik {a b:Bool}(h:a=b):Ending.returned (.bool a)=.returned (.bool b):=by rw [h]
theorem j3 {k:IntKind}{a b:Int}(h:a=b):Ending.returned (.int k a)=.returned (.int k b):=by rw [h]
theorem jw (c:UInt8)(w:World) :
  Calls prog 104 #[.int .u8 c.toNat] w fun e w'=>e=.returned (.bool (isL c))/\w=w':=by
 go_enter func104,ntmps104;go_wp2;all_goals (go_ret;refine ⟨ik ?_,rfl⟩;rw [Bool.eq_iff_iff];simp [isL];omega)
theorem aL (c:UInt8)(w:World) :
  Calls prog 106 #[.int .u8 c.toNat] w fun e w'=>e=.returned (.bool (isD c))/\w=w':=by
 go_enter func106,ntmps106;go_wp2;all_goals (go_ret;refine ⟨ik ?_,rfl⟩;rw [Bool.eq_iff_iff];simp [isD];omega)
theorem aZ (c:UInt8)(w:World) :
  Calls prog 140 #[.int .u8 c.toNat] w fun e w'=>e=.returned (.bool (isN c))/\w=w':=by
 go_enter func140,ntmps140;go_wp2_with (first
  | (go_at_call 104;refine (jw _ _).mono ?_;rintro e w1 ⟨rfl,rfl⟩)
  | (go_at_call 106;refine (aL _ _).mono ?_;rintro e w1 ⟨rfl,rfl⟩))
 all_goals (go_ret;refine ⟨ik ?_,rfl⟩;simp_all [isN])
end
section
open Go.RowKit
def n10 (c:UInt8):Bool:= !decide (c.toNat=10)
theorem Kc (c:UInt8):(c == 10)= !n10 c:=by
 have e:c=10↔c.toNat=10:=⟨fun h=>by subst h;rfl,fun h=>UInt8.toNat_inj.1 h⟩
 rw [Bool.eq_iff_iff];simp [n10,e]
theorem uX (l:List UInt8):Lib.indexByte l 10=if len n10 l<l.length then (len n10 l:Int) else -1:=by
 induction l with
 |nil=>simp [Lib.indexByte]
 |cons c r ih=>
  simp only [Lib.indexByte,Kc,len,List.length_cons];by_cases h:n10 c=true
  ·simp only [h,Bool.not_true,Bool.false_eq_true,if_false,if_true];rw [ih];by_cases h2:len n10 r<r.length
   ·have h3:((len n10 r:Int) == -1)=false:=by simp
    have h4:len n10 r+1<r.length+1:=by omega
    simp only [if_pos h2,h3,Bool.false_eq_true,if_false,if_pos h4]
    rfl
   ·have h4:¬ (len n10 r+1<r.length+1):=by omega
    simp only [if_neg h2,if_neg h4]
    rfl
  ·simp only [h,Bool.not_false,if_true,if_false,Bool.false_eq_true];rw [if_pos (by omega)];rfl
theorem Fy (l:List UInt8):sk true l=len n10 l+sk false (l.drop (len n10 l)):=by
 induction l with
 |nil=>simp [sk,len]
 |cons c r ih=>
  simp only [sk,len];by_cases h:c.toNat=10
  ·have hn:n10 c=false:=by simp [n10,h]
   have hb:isB c=true:=by simp [isB,h]
   simp [h,hn,sk,hb]
  ·have hn:n10 c=true:=by simp [n10,h]
   simp only [h,hn,decide_false,Bool.false_eq_true,if_false,if_true,List.drop_succ_cons];omega
theorem CU {c:UInt8}{r:List UInt8}(h:isB c=true):sk false (c ::r)=sk false r+1:=by simp [sk,h]
theorem Fz {l:List UInt8}(h:hd isB l=false)(h2:Lib.hasPrefix l [47,47]=false):sk false l=0:=by
 cases l with
 |nil=>rfl
 |cons c r=>
  simp only [hd] at h;have h3:(decide (c.toNat=47) && hd (fun d=>decide (d.toNat=47)) r)=false:=by
   rw [<-Bool.not_eq_true];intro h4;simp only [Bool.and_eq_true,decide_eq_true_eq] at h4;obtain ⟨h5,h6⟩:=h4;cases r with
   |nil=>simp [hd] at h6
   |cons d q=>
    simp only [hd,decide_eq_true_eq] at h6;have e1:c=47:=UInt8.toNat_inj.1 h5;have e2:d=47:=UInt8.toNat_inj.1 h6;subst e1;subst e2;simp [Lib.hasPrefix,List.isPrefixOf] at h2
  simp only [sk,h,h3,Bool.false_eq_true,if_false]
theorem mW {l:List UInt8}(h2:Lib.hasPrefix l [47,47]=true):sk false l=len n10 l+sk false (l.drop (len n10 l))/\2<=len n10 l:=by
 have h3:=List.isPrefixOf_iff_prefix.1 (show List.isPrefixOf [47,47] l=true from h2)
 obtain ⟨q,rfl⟩:=h3;have e:len n10 ([47,47] ++ q)=len n10 q+2:=by simp [len,n10]
 rw [e];have e2:sk false ([47,47] ++ q)=sk true q+2:=by simp [sk,isB,hd]
 rw [e2,Fy];refine ⟨?_,by omega⟩
 simp only [List.cons_append,List.nil_append,List.drop_succ_cons];omega
theorem kV {t:List UInt8}{a:Nat}(h:hd isB (t.drop a)=true):fV t (a+1)=fV t a:=by
 unfold fV;cases h1:t.drop a with
 |nil=>rw [h1] at h;simp [hd] at h
 |cons c r=>
  rw [h1] at h;rw [CU h,<-List.drop_drop,h1];simp only [List.drop_succ_cons,List.drop_zero];omega
theorem sS {t:List UInt8}{a:Nat}(h:hd isB (t.drop a)=false)(h2:Lib.hasPrefix (t.drop a) [47,47]=false):fV t a=a:=by
 unfold fV;rw [Fz h h2];rfl
theorem nQ {t:List UInt8}{a:Nat}(h2:Lib.hasPrefix (t.drop a) [47,47]=true):fV t (a+len n10 (t.drop a))=fV t a:=by
 unfold fV;rw [(mW h2).1,List.drop_drop];omega
theorem pV (s:ByteArray)(a:Nat)(ha:a<=s.size)(hs:s.size<=maxLen)(w:World) :
  Calls prog 103 #[.string s,.int .i64 a] w fun e w'=>e=.returned (.int .i64 ((a+len n10 (s.data.toList.drop a):Nat):Int))/\w=w':=by
 unfold maxLen at hs;have hl:=iL n10 (s.data.toList.drop a);rw [List.length_drop,<-Lib.size_eq] at hl;have VS:=uX (s.data.toList.drop a);rw [<-Lib.extract_to_end,] at VS;have hk:Calls prog 158 #[.string (s.extract a s.size),.int .u8 10] w fun e w'=>e=.returned (.int .i64 (if len n10 (s.data.toList.drop a)<s.size - a then ((len n10 (s.data.toList.drop a):Nat):Int) else -1))/\w=w':=
  (Tryz.stringslite_IndexByte (s.extract a s.size) 10 w).mono (by
   rintro e w' ⟨rfl,rfl⟩;refine ⟨j3 ?_,rfl⟩;have h0:(10:Int).toNat.toUInt8=10:=rfl;rw [h0,VS,Lib.extract_to_end,List.length_drop,<-Lib.size_eq])
 clear VS;have HK:=Lib.hid hk;clear hk;by_cases hc:len n10 (s.data.toList.drop a)<s.size - a
 ·have hk:=HK.out;rw [if_pos hc] at hk;clear HK;generalize len n10 (s.data.toList.drop a)=n at *;go_enter func103,ntmps103;go_wp2_with (first|(go_at_call 158;refine hk.mono ?_;rintro e w' ⟨rfl,rfl⟩)|go_in)
  go_ret;exact ⟨j3 (by simp),rfl⟩
 ·have hk:=HK.out;rw [if_neg hc] at hk;clear HK;have e:a+len n10 (s.data.toList.drop a)=s.size:=by omega
  rw [e];clear e hc hl;go_enter func103,ntmps103;go_wp2_with (first|(go_at_call 158;refine hk.mono ?_;rintro e w' ⟨rfl,rfl⟩)|go_in)
  go_ret;exact ⟨rfl,rfl⟩
def SkJ (s:ByteArray) (a0:Nat) (w:World) (a':Act) (w':World):Prop:=
 w'=w/\∃(a:Nat) (u2 u3 u5 u6 u7 u8 u9 u10 u11 u12 u13 u14 u15 u16 u17 u18 u19 u20 u21 u22 u23 u24 u25 u26 u27 u28 u29 u30:Value),
  a'={tmps:=#[.string s,.int .i64 a,u2,u3,.int .i64 0,u5,u6,u7,u8,u9,u10,u11,u12,u13,u14,u15,u16,u17,u18,u19,u20,u21,u22,u23,u24,u25,u26,u27,u28,u29,u30],defers:=[]}/\a<=s.size/\fV s.data.toList a=fV s.data.toList a0
def SkR (s:ByteArray) (a:Nat) (v:Value):Prop:=∃b:Nat,a<=b/\b<=s.size/\v=.int .i64 b/\fV s.data.toList b=fV s.data.toList a
def ol (s:ByteArray) (b:Nat):Bool:=Lib.hasPrefix (s.data.toList.drop b) [47,47]
theorem pu (s:ByteArray)(b:Nat)(w:World) :
  Calls prog 102 #[.string (s.extract b s.size),.string ⟨#[47,47]⟩] w fun e w'=>e=.returned (.bool (ol s b))/\w=w':=
 (Tryz.strings_HasPrefix _ _ w).mono (by rintro e w' ⟨rfl,rfl⟩;rw [Lib.extract_to_end];exact ⟨rfl,rfl⟩)
theorem mO (s:ByteArray)(a:Nat)(ha:a<=s.size)(hs:s.size<=maxLen)(w:World) :
  Calls prog 74 #[.string s,.int .i64 a] w fun e w'=>e=.returned (.int .i64 (fV s.data.toList a))/\w=w':=by
 have WL:=hs;unfold maxLen at hs;go_enter func74,ntmps74;go_wp2;refine wp_scope_jumps 0 (SkJ s a w) (fun a' _=>s.size - (intOf (a'.tmps.getD 1 undef)).toNat) rfl ?_ ?_
 ·go_wp2
  go_step3
  go_wp2
  go_loop [1] (SkR s a) (fun i=>s.size - (intOf i).toNat)
  case atStart=>exact ⟨a,Nat.le_refl _,ha,rfl,rfl⟩
  case round=>
   obtain ⟨b,hab,hb,rfl,OU⟩:=hrel;have HK:=Lib.hid OU;clear OU;have fin:hd isB (s.data.toList.drop b)=false->ol s b=false->fV s.data.toList b=b:=fun h1 h2=>sS h1 h2
   have FIN:=Lib.hid fin;clear fin;by_cases hlt:b<s.size
   ·have hh:=lI isB s b hlt;have HH:=Lib.hid hh;clear hh;by_cases h32:s[b].toNat=32
    ·have t1:((s[b].toNat:Int) == 32)=true:=by simp [h32]
     have hB:isB s[b]=true:=by simp [isB,h32]
     have HB:=Lib.hid hB;clear h32 hB;go_wp2;go_round
     case rel=>exact ⟨b+1,by omega,by omega,by go_num,(kV (HH.trans HB)).trans HK⟩
     case measure=>simp [intOf];omega
    ·have t1:((s[b].toNat:Int) == 32)=false:=by simp;omega
     by_cases h10:s[b].toNat=10
     ·have t2:((s[b].toNat:Int) == 10)=true:=by simp [h10]
      have hB:isB s[b]=true:=by simp [isB,h10]
      have HB:=Lib.hid hB;clear h32 hB h10;go_wp2;go_round
      case rel=>exact ⟨b+1,by omega,by omega,by go_num,(kV (HH.trans HB)).trans HK⟩
      case measure=>simp [intOf];omega
     ·have t2:((s[b].toNat:Int) == 10)=false:=by simp;omega
      have hB:isB s[b]=false:=by simp [isB,h32,h10]
      have HB:=Lib.hid hB;clear h32 hB h10;cases hp:ol s b
      ·have OU:fV s.data.toList a=b:=HK.symm.trans (FIN.out (HH.trans HB) hp);have HP:=Lib.hid OU;clear OU;go_wp2_with (go_at_call 102;refine (pu s b _).mono ?_;rw [hp];clear hp;rintro e w1 ⟨rfl,rfl⟩);simp only [Exit.jump];go_ret;exact ⟨j3 (by rw [HP.out]),rfl⟩
      ·have OE:=(mW (show Lib.hasPrefix (s.data.toList.drop b) [47,47]=true from hp)).2
       have hl:=iL n10 (s.data.toList.drop b);rw [List.length_drop,<-Lib.size_eq] at hl;have TJ:=nQ (show Lib.hasPrefix (s.data.toList.drop b) [47,47]=true from hp)
       have HC:=Lib.hid TJ;have HE:=Lib.hid (pV s b hb WL w);clear TJ;go_wp2_with (first
        | (go_at_call 102;refine (pu s b _).mono ?_;rw [hp];rintro e w1 ⟨rfl,rfl⟩)
        | (go_at_call 103;refine HE.mono ?_;rintro e w1 ⟨rfl,rfl⟩))
       go_step3
       have e:((b:Int)+(len n10 (s.data.toList.drop b):Int))=((b+len n10 (s.data.toList.drop b):Nat):Int):=by simp
       rw [e];refine ⟨rfl,?_⟩
       ·exact ⟨rfl,b+len n10 (s.data.toList.drop b),_,_,_,_,_,_,_,_,_,_,_,_,_,_,_,_,_,_,_,_,_,_,_,_,_,_,_,_,rfl,by omega,HC.trans HK⟩
   ·have U7:ol s b=false:=by unfold ol;rw [List.drop_of_length_le (by rw [<-Lib.size_eq];omega)];rfl
    have OU:fV s.data.toList a=b:=HK.symm.trans (FIN.out (rF _ _ _ (by omega)) U7)
    have HP:=Lib.hid OU;clear OU;go_wp2_with (go_at_call 102;refine (pu s b _).mono ?_;rw [U7];clear U7;rintro e w1 ⟨rfl,rfl⟩);simp only [Exit.jump];go_ret;exact ⟨j3 (by rw [HP.out]),rfl⟩
 ·rintro a' w' ⟨rfl,c,u2,u3,u5,u6,u7,u8,u9,u10,u11,u12,u13,u14,u15,u16,u17,u18,u19,u20,u21,u22,u23,u24,u25,u26,u27,u28,u29,u30,rfl,hc,OU⟩;have HSK:=Lib.hid OU;clear OU;go_wp2;go_loop [1] (SkR s c) (fun i=>s.size - (intOf i).toNat)
  case atStart=>exact ⟨c,Nat.le_refl _,hc,rfl,rfl⟩
  case round=>
   obtain ⟨b,hab,hb,rfl,OU⟩:=hrel;have HK:=Lib.hid OU;clear OU;have fin:hd isB (s.data.toList.drop b)=false->ol s b=false->fV s.data.toList b=b:=fun h1 h2=>sS h1 h2
   have FIN:=Lib.hid fin;clear fin;by_cases hlt:b<s.size
   ·have hh:=lI isB s b hlt;have HH:=Lib.hid hh;clear hh;by_cases h32:s[b].toNat=32
    ·have t1:((s[b].toNat:Int) == 32)=true:=by simp [h32]
     have hB:isB s[b]=true:=by simp [isB,h32]
     have HB:=Lib.hid hB;clear h32 hB;go_wp2;go_round
     case rel=>exact ⟨b+1,by omega,by omega,by go_num,(kV (HH.trans HB)).trans HK⟩
     case measure=>simp [intOf];omega
    ·have t1:((s[b].toNat:Int) == 32)=false:=by simp;omega
     by_cases h10:s[b].toNat=10
     ·have t2:((s[b].toNat:Int) == 10)=true:=by simp [h10]
      have hB:isB s[b]=true:=by simp [isB,h10]
      have HB:=Lib.hid hB;clear h32 hB h10;go_wp2;go_round
      case rel=>exact ⟨b+1,by omega,by omega,by go_num,(kV (HH.trans HB)).trans HK⟩
      case measure=>simp [intOf];omega
     ·have t2:((s[b].toNat:Int) == 10)=false:=by simp;omega
      have hB:isB s[b]=false:=by simp [isB,h32,h10]
      have HB:=Lib.hid hB;clear h32 hB h10;cases hp:ol s b
      ·have OU:fV s.data.toList c=b:=HK.symm.trans (FIN.out (HH.trans HB) hp);have HP:=Lib.hid OU;clear OU;go_wp2_with (go_at_call 102;refine (pu s b _).mono ?_;rw [hp];clear hp;rintro e w1 ⟨rfl,rfl⟩);simp only [Exit.jump];go_ret;exact ⟨j3 (by rw [<-HSK.out,HP.out]),rfl⟩
      ·have OE:=(mW (show Lib.hasPrefix (s.data.toList.drop b) [47,47]=true from hp)).2
       have hl:=iL n10 (s.data.toList.drop b);rw [List.length_drop,<-Lib.size_eq] at hl;have TJ:=nQ (show Lib.hasPrefix (s.data.toList.drop b) [47,47]=true from hp)
       have HC:=Lib.hid TJ;have HE:=Lib.hid (pV s b hb WL w');clear TJ;go_wp2_with (first
        | (go_at_call 102;refine (pu s b _).mono ?_;rw [hp];rintro e w1 ⟨rfl,rfl⟩)
        | (go_at_call 103;refine HE.mono ?_;rintro e w1 ⟨rfl,rfl⟩))
       go_step3
       have e:((b:Int)+(len n10 (s.data.toList.drop b):Int))=((b+len n10 (s.data.toList.drop b):Nat):Int):=by simp
       rw [e];refine ⟨rfl,?_,?_⟩
       ·exact ⟨rfl,b+len n10 (s.data.toList.drop b),_,_,_,_,_,_,_,_,_,_,_,_,_,_,_,_,_,_,_,_,_,_,_,_,_,_,_,_,rfl,by omega,HC.trans (HK.trans HSK)⟩
       ·simp [intOf];omega
   ·have U7:ol s b=false:=by unfold ol;rw [List.drop_of_length_le (by rw [<-Lib.size_eq];omega)];rfl
    have OU:fV s.data.toList c=b:=HK.symm.trans (FIN.out (rF _ _ _ (by omega)) U7)
    have HP:=Lib.hid OU;clear OU;go_wp2_with (go_at_call 102;refine (pu s b _).mono ?_;rw [U7];clear U7;rintro e w1 ⟨rfl,rfl⟩);simp only [Exit.jump];go_ret;exact ⟨j3 (by rw [<-HSK.out,HP.out]),rfl⟩
end
section
open Go.RowKit
abbrev str (l:List UInt8):ByteArray:=⟨l.toArray⟩
abbrev Iv (n:Int):Value:=.int .i64 n
abbrev Ce (w:World) (b o:Nat) (v:Value):Prop:=w.cell? ⟨b,o,none⟩=some v
abbrev Zw (a b:World):Prop:=Below a.heap.size a b
theorem zB (n : Nat) (w : World) : Below n w w := Below.refl n w
theorem zS {α : Type _} {l : List α} {i : Nat} {a : α} : l[i]? = some a ↔ ∃ h : i < l.length, l[i] = a := List.getElem?_eq_some_iff
theorem zE {α:Type}{l:List α}{i:Nat}(h:i<l.length):l[i]? =some l[i]:=List.getElem?_eq_getElem h
theorem zN {α:Sort _}(e:α):∃x,e=x:=⟨e,rfl⟩
theorem zQ {α:Sort _}(e:α):∃x,x=e:=⟨e,rfl⟩
theorem zL (n:Nat):n<=n:=Nat.le_refl n
theorem zT {a b c:Nat}(h:a<b)(h2:b<=c):a<c:=Nat.lt_of_lt_of_le h h2
theorem zG {α:Type}{l:List α}{i:Nat}{a:α}(h:l[i]? =some a):a∈l:=List.mem_of_getElem? h
theorem Hy {p:Prop}(h:p):RowKit.Hid p:=h
theorem Hy2 {p0 p1:Prop}(h0:p0)(h1:p1):RowKit.Hid (p0/\p1):=⟨h0,h1⟩
theorem Hy3 {p0 p1 p2:Prop}(h0:p0)(h1:p1)(h2:p2):RowKit.Hid (p0/\p1/\p2):=⟨h0,h1,h2⟩
theorem Hy4 {p0 p1 p2 p3:Prop}(h0:p0)(h1:p1)(h2:p2)(h3:p3):RowKit.Hid (p0/\p1/\p2/\p3):=⟨h0,h1,h2,h3⟩
theorem Hy5 {p0 p1 p2 p3 p4:Prop}(h0:p0)(h1:p1)(h2:p2)(h3:p3)(h4:p4):RowKit.Hid (p0/\p1/\p2/\p3/\p4):=⟨h0,h1,h2,h3,h4⟩
theorem Hy6 {p0 p1 p2 p3 p4 p5:Prop}(h0:p0)(h1:p1)(h2:p2)(h3:p3)(h4:p4)(h5:p5):RowKit.Hid (p0/\p1/\p2/\p3/\p4/\p5):=⟨h0,h1,h2,h3,h4,h5⟩
theorem Hy7 {p0 p1 p2 p3 p4 p5 p6:Prop}(h0:p0)(h1:p1)(h2:p2)(h3:p3)(h4:p4)(h5:p5)(h6:p6):RowKit.Hid (p0/\p1/\p2/\p3/\p4/\p5/\p6):=⟨h0,h1,h2,h3,h4,h5,h6⟩
theorem Hy8 {p0 p1 p2 p3 p4 p5 p6 p7:Prop}(h0:p0)(h1:p1)(h2:p2)(h3:p3)(h4:p4)(h5:p5)(h6:p6)(h7:p7):RowKit.Hid (p0/\p1/\p2/\p3/\p4/\p5/\p6/\p7):=⟨h0,h1,h2,h3,h4,h5,h6,h7⟩
theorem Hy9 {p0 p1 p2 p3 p4 p5 p6 p7 p8:Prop}(h0:p0)(h1:p1)(h2:p2)(h3:p3)(h4:p4)(h5:p5)(h6:p6)(h7:p7)(h8:p8):RowKit.Hid (p0/\p1/\p2/\p3/\p4/\p5/\p6/\p7/\p8):=⟨h0,h1,h2,h3,h4,h5,h6,h7,h8⟩
theorem Hy10 {p0 p1 p2 p3 p4 p5 p6 p7 p8 p9:Prop}(h0:p0)(h1:p1)(h2:p2)(h3:p3)(h4:p4)(h5:p5)(h6:p6)(h7:p7)(h8:p8)(h9:p9):RowKit.Hid (p0/\p1/\p2/\p3/\p4/\p5/\p6/\p7/\p8/\p9):=⟨h0,h1,h2,h3,h4,h5,h6,h7,h8,h9⟩
theorem Hy11 {p0 p1 p2 p3 p4 p5 p6 p7 p8 p9 Ty:Prop}(h0:p0)(h1:p1)(h2:p2)(h3:p3)(h4:p4)(h5:p5)(h6:p6)(h7:p7)(h8:p8)(h9:p9)(h10:Ty):RowKit.Hid (p0/\p1/\p2/\p3/\p4/\p5/\p6/\p7/\p8/\p9/\Ty):=⟨h0,h1,h2,h3,h4,h5,h6,h7,h8,h9,h10⟩
theorem Hy13 {p0 p1 p2 p3 p4 p5 p6 p7 p8 p9 Ty WF WC:Prop}(h0:p0)(h1:p1)(h2:p2)(h3:p3)(h4:p4)(h5:p5)(h6:p6)(h7:p7)(h8:p8)(h9:p9)(h10:Ty)(h11:WF)(h12:WC):RowKit.Hid (p0/\p1/\p2/\p3/\p4/\p5/\p6/\p7/\p8/\p9/\Ty/\WF/\WC):=⟨h0,h1,h2,h3,h4,h5,h6,h7,h8,h9,h10,h11,h12⟩
theorem Hy14 {p0 p1 p2 p3 p4 p5 p6 p7 p8 p9 Ty WF WC p13:Prop}(h0:p0)(h1:p1)(h2:p2)(h3:p3)(h4:p4)(h5:p5)(h6:p6)(h7:p7)(h8:p8)(h9:p9)(h10:Ty)(h11:WF)(h12:WC)(h13:p13):RowKit.Hid (p0/\p1/\p2/\p3/\p4/\p5/\p6/\p7/\p8/\p9/\Ty/\WF/\WC/\p13):=⟨h0,h1,h2,h3,h4,h5,h6,h7,h8,h9,h10,h11,h12,h13⟩
theorem Hy16 {p0 p1 p2 p3 p4 p5 p6 p7 p8 p9 Ty WF WC p13 p14 p15:Prop}(h0:p0)(h1:p1)(h2:p2)(h3:p3)(h4:p4)(h5:p5)(h6:p6)(h7:p7)(h8:p8)(h9:p9)(h10:Ty)(h11:WF)(h12:WC)(h13:p13)(h14:p14)(h15:p15):RowKit.Hid (p0/\p1/\p2/\p3/\p4/\p5/\p6/\p7/\p8/\p9/\Ty/\WF/\WC/\p13/\p14/\p15):=⟨h0,h1,h2,h3,h4,h5,h6,h7,h8,h9,h10,h11,h12,h13,h14,h15⟩
abbrev Sn : Value := .slice none 0 0
abbrev Ss (l : List UInt8) : Value := .string (str l)
abbrev Sl (b n c : Nat) : Value := .slice (some ⟨b, 0, none⟩) n c
abbrev Pt (b : Nat) : Value := .pointer (some ⟨b, 0, none⟩)
abbrev Ad (b o : Nat) : Addr := ⟨b, o, none⟩
theorem lS (l:List UInt8):(str l).size=l.length:=by rw [Lib.size_eq]
theorem yV {s:ByteArray}{l:List UInt8}(h:s.data.toList=l):s=str l:=by subst h;rfl
def Blk (W:World) (b:Nat) (t:TypeId) (cs:Array Value):Prop:=W.heap[b]? =some (.cells cs t (0,0))
section
variable {W W':World} {b:Nat} {t:TypeId} {cs:Array Value}
theorem Blk.lt (h:Blk W b t cs):b<W.heap.size:=(Array.getElem?_eq_some_iff.1 h).1
theorem Blk.cell (h:Blk W b t cs)(i:Nat):W.cell? ⟨b,i,none⟩=cs[i]?:=cell_of_row W b i cs t (0,0) h
theorem Blk.frozen (h:Blk W b t cs)(i:Nat):W.frozen? ⟨b,i,none⟩=false:=by
 unfold Blk at h;simp [World.frozen?,h]
theorem Blk.kept {row:Option Nat}(h:Blk W b t cs)(hg:W.grownBy W' row)(aD:some b≠row):Blk W' b t cs:=(hg.block b h.lt aD).trans h
theorem Blk.alloc (h:Blk W b t cs)(o:Obj):Blk (W.alloc o) b t cs:=h.kept (World.grownBy_alloc W o none) (by simp)
theorem Blk.far (h:Blk W b t cs){p:Addr}(hp:b≠p.block)(u:Value):Blk (W.setCell p u) b t cs:=(Below.heap_setCell W p u b hp).trans h
theorem Blk.below {B:Nat}(h:Blk W b t cs)(hb:Below B W W')(hl:b<B):Blk W' b t cs:=(hb.block b hl).trans h
theorem Blk.af (h:Blk W b t cs)(i:Nat)(u:Value):Blk (W.setCell ⟨b,i,none⟩ u) b t (cs.setIfInBounds i u):=by
 unfold Blk at h |-;simp [World.setCell,Array.getElem?_modify,h]
theorem Blk.not_row (h:Blk W b t cs){e:TypeId}(hte:t≠e){base size k:Nat}{v:Value}{xs:List Value}(hr:W.ownsRow base e size v k xs):some b≠v.ownBlock:=by
 rcases hr.2 with ⟨rfl,_⟩|⟨g,cap,cur,rfl,_,Kq,_⟩
 ·simp [Value.ownBlock]
 ·intro e';obtain rfl:b=g:=by simpa [Value.ownBlock] using e'
  have:=(show W.heap[b]? =_ from h).symm.trans Kq
  simp at this;exact hte this.2
end
theorem Blk.new (W:World)(t:TypeId)(cs:Array Value):Blk (W.alloc (.cells cs t)) W.heap.size t cs:=World.alloc_heap_new W _
theorem below_drewN (B:Nat)(w:World)(d:Nat):Below B w (w.drewN d):=⟨rfl,rfl,rfl,Nat.le_refl _,fun _ _=>rfl⟩
theorem bd1 (w:World):Below w.heap.size w w.drew:=⟨rfl,rfl,rfl,Nat.le_refl _,fun _ _=>rfl⟩
theorem bd2 (w:World)(o:Obj):Below w.heap.size w (w.alloc o).drew:=Below.trans ((Below.refl _ _).alloc (Nat.le_refl _) _) ⟨rfl,rfl,rfl,Nat.le_refl _,fun _ _=>rfl⟩
end
section
open Go.RowKit
theorem mQ {H:Type}{enc:TypeId×Value->H}{P:Program}{w:World}{base:Nat}{sp:Nat->Bool}{held:Bool}{fuel:Nat}{t e:TypeId}{n:Nat}{cs:List Value}{zs:List (List UInt8)}{p:List MemPlace}
  (ht:P.underlying t=some (.array n e)) (he:P.underlying e=some .string) (hce:P.cellsOf e=1) (hct:P.cellsOf t=n)
  (h:DataW.trod enc P w base sp held fuel t cs=some (.agg (zs.map fun z=>.lit (.string z)),p)):cs=zs.map fun z=>Ss z:=by
 cases fuel with
 |zero=>simp [DataW.trod] at h
 |succ fuel=>
  simp only [DataW.trod,ht,hce,hct,Nat.mul_one] at h;split at h
  ·rename_i hl;obtain ⟨xs,hm,hx⟩:=Option.map_eq_some_iff.1 h;have hxs:xs.map (·.1)=zs.map fun z=>(DataW.lit (.string z):DataW H):=by
    have:=congrArg Prod.fst hx
    simpa using this
   have Zq:xs.length=n:=by simpa using Lib.mapM_length hm
   have Ox:zs.length=n:=by
    have:=congrArg List.length hxs;simp at this;omega
   apply List.ext_getElem?;intro i;by_cases hi:i<n
   ·obtain ⟨b,hb,hf⟩:=Lib.mapM_at hm i i (by simp [hi])
    obtain ⟨z,hc,rfl,_⟩:=DataW.trod_string he hf;have h1:cs[i]? =some (.string z):=by
     have:=congrArg (·[0]?) hc
     simpa [List.getElem?_take,List.getElem?_drop] using this
    have h2:(xs.map (·.1))[i]? =some (DataW.lit (.string z.data.toList):DataW H):=by simp [hb]
    rw [hxs] at h2;simp only [List.getElem?_map,Option.map_eq_some_iff,DataW.lit.injEq,Lit.string.injEq] at h2;obtain ⟨z',hz',U3⟩:=h2;simp [h1,hz',U3]
   ·rw [List.getElem?_eq_none (by omega),List.getElem?_eq_none (by simp;omega)]
  ·cases h
abbrev gS:Nat:=0
abbrev gT:Nat:=5
abbrev gR:Nat:=4
structure Env (w:World):Prop where
 tab:Lib.TabIs prog w "internal/strconv.uint64pow10" .u64 Lib.pow10Tab
 rng:∃tp p,w.var? prog "strconv.ErrRange" =some #[.iface tp p]
 sgn:w.var? prog "mortise/lex.signs" =some (sg.map fun z=>Ss z).toArray
 szS:gS<w.heap.size
 szT:gT<w.heap.size
 szR:gR<w.heap.size
theorem nS:prog.globalNamed "mortise/lex.signs" =some gS:=by kernel_rfl
theorem nT:prog.globalNamed "internal/strconv.uint64pow10" =some gT:=by kernel_rfl
theorem nR:prog.globalNamed "strconv.ErrRange" =some gR:=by kernel_rfl
theorem mE {P:Program}{w w':World}{B:Nat}{n:String}{g:Nat}(hg:P.globalNamed n=some g)(h:Below B w w')(hB:g<B):w'.var? P n=w.var? P n:=by
 simp only [World.var?,hg,Option.bind_some,h.block g hB]
theorem mH {P:Program}{w:World}{n:String}{g:Nat}{cs:Array Value}(hg:P.globalNamed n=some g)(h:w.var? P n=some cs):g<w.heap.size:=by
 simp only [World.var?,hg,Option.bind_some] at h;rcases Nat.lt_or_ge g w.heap.size with hlt|Tj
 ·exact hlt
 ·rw [Array.getElem?_eq_none Tj] at h;cases h
theorem Env.below {w w':World}{B:Nat}(h:Env w)(hb:Below B w w')(hB:w.heap.size<=B):Env w':=by
 obtain ⟨tp,p,hr⟩:=h.rng;exact ⟨(mE nT hb (zT h.szT hB)).trans h.tab,⟨tp,p,(mE nR hb (zT h.szR hB)).trans hr⟩,(mE nS hb (zT h.szS hB)).trans h.sgn,
  zT h.szS hb.size,Nat.lt_of_lt_of_le h.szT hb.size,Nat.lt_of_lt_of_le h.szR hb.size⟩
theorem gI {W w1:World}(hb:Zw W w1):(∀b o,b<W.heap.size->w1.cell? (Ad b o)=W.cell? (Ad b o))/\(∀b o,b<W.heap.size->w1.frozen? (Ad b o)=W.frozen? (Ad b o)):=
 ⟨fun b o h=>hb.cell (p:=Ad b o) h,fun b o h=>hb.frozen (p:=Ad b o) h⟩
theorem Env.of {w0 w:World}(h:Env w0)(hb:Zw w0 w):Env w:=h.below hb (zL _)
end
section
open Go.RowKit
def iF (t:Tok):Value:=.agg #[Iv t.k,Iv t.p,Iv t.n,.string (str t.s)]
def scV (x:Sc):Value:=.tuple #[iF x.1,Iv x.2.1,Iv x.2.2]
theorem yx {fn:Func}{ty:TypeId}{b:Nat}{cs:List Value}{d:TypeDesc}(h:fn.results= #[.cell 2 ty,.tmp 3,.tmp 4])(tmps:Array Value)(P:Program)(w:World)
  (hp:tmps.getD 2 undef=.pointer (some ⟨b,0,none⟩)) (hc:w.rangeAt b 0 cs) (hu:P.underlying ty=some d) (hd:d.isRow=true) (hi:(P.info? ty).map (·.size)=some cs.length) :
  (results fn tmps).run P w=.ok (.tuple #[.agg cs.toArray,tmps.getD 3 undef,tmps.getD 4 undef]) w:=by
 simp only [results,h];simp [Sem.run_bind,Result.andThen];rw [show tmps[2]?.getD undef=.pointer (some ⟨b,0,none⟩) from by simpa using hp]
 simp [asAddr,run_loadVar_mid w b 0 ty cs d hc hu hd hi]
theorem zD:(prog.info? 92).map (·.size)=some 4:=by kernel_rfl
theorem Nj:∃d,prog.underlying 92=some d/\d.isRow=true:=⟨_,underlying92,rfl⟩
theorem Dl {fn:Func}{R:Ending->World->Prop}{a:Act}{w:World}{b:Nat}{t:Tok}{n:Nat}{no:Int}(hf:fn.results= #[.cell 2 92,.tmp 3,.tmp 4])(hd:a.defers=[])
  (h2:a.tmps.getD 2 undef=.pointer (some ⟨b,0,none⟩)) (h3:a.tmps.getD 3 undef=Iv n) (h4:a.tmps.getD 4 undef=Iv no)
  (c0:w.cell? ⟨b,0,none⟩=some (Iv t.k)) (c1:w.cell? ⟨b,1,none⟩=some (Iv t.p)) (c2:w.cell? ⟨b,2,none⟩=some (Iv t.n)) (c3:w.cell? ⟨b,3,none⟩=some (.string (str t.s)))
  (hR:R (.returned (scV (t,n,no))) w):bodyPost prog fn R .ret a w:=by
 obtain ⟨d,hu,hr⟩:=Nj;refine bodyPost_ret (v:=scV (t,n,no)) ?_ hd hR;have hc:w.rangeAt b 0 [Iv t.k,Iv t.p,Iv t.n,.string (str t.s)]:=by
  intro j v hv
  match j,hv with
  |0,hv=>cases hv;exact c0
  |1,hv=>cases hv;exact c1
  |2,hv=>cases hv;exact c2
  |3,hv=>cases hv;exact c3
  |j+4,hv=>simp at hv
 rw [yx hf a.tmps _ w h2 hc hu hr zD,h3,h4]
 rfl
abbrev Bb (w:World) (b:Nat) (t:Tok):World:=
 (((w.setCell ⟨b,0,none⟩ (Iv t.k)).setCell ⟨b,1,none⟩ (Iv t.p)).setCell ⟨b,2,none⟩ (Iv t.n)).setCell ⟨b,3,none⟩ (.string (str t.s))
theorem um {w:World}{b:Nat}{t:Tok}{cs:Array Value}{T:TypeId}{fr:Nat×Nat}(hb:w.heap[b]? =some (.cells cs T fr))(hn:cs.size=4) :
  (Bb w b t).heap[b]? =some (.cells #[Iv t.k,Iv t.p,Iv t.n,.string (str t.s)] T fr):=by
 have e:((((cs.setIfInBounds 0 (Iv t.k)).setIfInBounds 1 (Iv t.p)).setIfInBounds 2 (Iv t.n)).setIfInBounds 3 (.string (str t.s)))= #[Iv t.k,Iv t.p,Iv t.n,.string (str t.s)]:=by
  obtain ⟨l⟩:=cs
  match l,hn with
  | [a,b,c,d],_=>rfl
 rw [<-e];simp [World.setCell,Array.getElem?_modify,hb]
theorem dx {fn:Func}{R:Ending->World->Prop}{a:Act}{w:World}{b:Nat}{t:Tok}{n:Nat}{no:Int}{cs:Array Value}{T:TypeId}{fr:Nat×Nat}(hf:fn.results= #[.cell 2 92,.tmp 3,.tmp 4])(hd:a.defers=[])
  (h2:a.tmps.getD 2 undef=.pointer (some ⟨b,0,none⟩)) (h3:a.tmps.getD 3 undef=Iv n) (h4:a.tmps.getD 4 undef=Iv no)
  (hb:w.heap[b]? =some (.cells cs T fr)) (hn:cs.size=4)
  (hR:R (.returned (scV (t,n,no))) (Bb w b t)):bodyPost prog fn R .ret a (Bb w b t):=by
 have h:=um (t:=t) hb hn;exact Dl hf hd h2 h3 h4 (by rw [cell_of_row _ _ _ _ _ _ h];rfl) (by rw [cell_of_row _ _ _ _ _ _ h];rfl) (by rw [cell_of_row _ _ _ _ _ _ h];rfl) (by rw [cell_of_row _ _ _ _ _ _ h];rfl) hR
theorem aM {w0 w:World}{B b:Nat}{t:Tok}(h:Below B w0 w)(hb:B<=b):Below B w0 (Bb w b t):=
 (((h.setCell (p:=⟨b,0,none⟩) hb _).setCell (p:=⟨b,1,none⟩) hb _).setCell (p:=⟨b,2,none⟩) hb _).setCell (p:=⟨b,3,none⟩) hb _
theorem gL {fn:Func}{R:Ending->World->Prop}{a:Act}{w:World}{t:Tok}{n:Nat}{no:Int}{T:TypeId}(hf:fn.results= #[.cell 2 92,.tmp 3,.tmp 4])(hd:a.defers=[])
  (h2:a.tmps.getD 2 undef=.pointer (some ⟨w.heap.size,0,none⟩)) (h3:a.tmps.getD 3 undef=Iv n) (h4:a.tmps.getD 4 undef=Iv no)
  (hR:R (.returned (scV (t,n,no))) (w.alloc (.cells #[Iv t.k,Iv t.p,Iv t.n,.string (str t.s)] T))) :
  bodyPost prog fn R .ret a (w.alloc (.cells #[Iv t.k,Iv t.p,Iv t.n,.string (str t.s)] T)):=by
 have h:=heap_alloc_new w (.cells #[Iv t.k,Iv t.p,Iv t.n,.string (str t.s)] T);exact Dl hf hd h2 h3 h4 (by rw [cell_of_row _ _ _ _ _ _ h];rfl) (by rw [cell_of_row _ _ _ _ _ _ h];rfl) (by rw [cell_of_row _ _ _ _ _ _ h];rfl) (by rw [cell_of_row _ _ _ _ _ _ h];rfl) hR
theorem rU (s:ByteArray)(k:Nat):s.extract 0 k=str (s.data.toList.take k):=by
 apply yV;rw [Lib.extract_data];simp
theorem xm {f:UInt8->Bool}{s:ByteArray}{k:Nat}(h:k<=len f s.data.toList)(hk:k<s.size) :
  (f s[k]=true->k+1<=len f s.data.toList)/\(f s[k]=false->k=len f s.data.toList):=by
 have key:∀(l:List UInt8) (k:Nat),k<=len f l->(hk:k<l.length)->(f l[k]=true->k+1<=len f l)/\(f l[k]=false->k=len f l):=by
  intro l
  induction l with
  |nil=>intro k _ hk;simp at hk
  |cons c r ih=>
   intro k QF hk;cases k with
   |zero=>simp only [List.getElem_cons_zero,len];constructor <;> intro h <;> simp [h]
   |succ k=>
    simp only [List.getElem_cons_succ];simp only [len] at QF |-;split at QF
    ·rename_i hc;have:=ih k (by omega) (by simpa using hk)
     simp only [hc,if_true];exact ⟨fun h=>by have:=this.1 h;omega,fun h=>by have:=this.2 h;omega⟩
    ·omega
 exact key s.data.toList k h (by rw [<-Lib.size_eq];exact hk)
theorem xq {f:UInt8->Bool}{s:ByteArray}{k:Nat}(h:k<=len f s.data.toList)(hk:¬ k<s.size):k=len f s.data.toList:=by
 have:=iL f s.data.toList;rw [<-Lib.size_eq] at this;omega
theorem pF (s:ByteArray)(w:World)(hlim:s.size<=281474976710656) :
  Calls prog 90 #[.string s] w fun e w'=>e=.returned (.string s)/\Below w.heap.size w w':=by
 go_enter func90,ntmps90;go_wp2_with fail;refine (Tryz.stringslite_Clone s w hlim).mono ?_;rintro e w' ⟨rfl,hb⟩;go_wp2;go_ret;exact ⟨rfl,hb⟩
theorem uI (s:ByteArray)(hs:s.size<=maxLen)(h0:1<=len isN s.data.toList)(w:World) :
  Calls prog 105 #[.string s] w fun e w'=>e=.returned (scV (fK s.data.toList))/\Below w.heap.size w w':=by
 unfold maxLen at hs;have hl:=iL isN s.data.toList;rw [<-Lib.size_eq] at hl;go_enter func105,ntmps105;go_wp2;go_loop [5] (fun v=>∃k:Nat,k<=len isN s.data.toList/\v=Iv k) (fun i=>s.size - (intOf i).toNat)
 case atStart=>exact ⟨1,h0,rfl⟩
 case round=>
  obtain ⟨k,hk,rfl⟩:=hrel;by_cases hlt:k<s.size
  ·have Rm:=xm hk hlt;cases hc:isN s[k]
   ·have Sk:=Rm.2 hc;clear Rm hk;have HK:=Hy Sk;clear Sk;by_cases h24:24<k
    ·go_wp2_with (go_at_call 140;refine (aZ _ _).mono ?_;rw [hc];clear hc;rintro e w1 ⟨rfl,rfl⟩);have e:fK s.data.toList=(tk0,0,10):=by rw [fK,<-HK.out,if_pos h24]
     rw [e];exact gL (t:=tk0) (n:=0) (no:=10) rfl rfl rfl rfl rfl ⟨rfl,(Below.refl _ w).alloc (zL _) _⟩
    ·go_wp2_with (first
      | (go_at_call 140;refine (aZ _ _).mono ?_;rw [hc];clear hc;rintro e w1 ⟨rfl,rfl⟩)
      | (go_at_call 90;refine (pF (s.extract 0 k) _ (by rw [ByteArray.size_extract];omega)).mono ?_;rintro e w1 ⟨rfl,av⟩;obtain ⟨JQ,qA⟩:=gI av;have hblk:=(av.block w.heap.size (by simp)).trans (heap_alloc_new w _);have HB:=Hy hblk;clear hblk;have iK:=Hy av;clear av))
     have e:fK s.data.toList=(⟨1,0,0,s.data.toList.take k⟩,k,0):=by rw [fK,<-HK.out,if_neg h24]
     rw [e,rU];refine dx (t:=⟨1,0,0,s.data.toList.take k⟩) (n:=k) (no:=0) rfl rfl rfl rfl rfl HB.out rfl ⟨rfl,aM (((Below.refl _ w).alloc (zL _) _).trans (iK.out.mono (by simp))) (zL _)⟩
   ·have Sk:=Rm.1 hc;clear Rm;go_wp2_with (go_at_call 140;refine (aZ _ _).mono ?_;rw [hc];clear hc;rintro e w1 ⟨rfl,rfl⟩);go_round
    case rel=>exact ⟨k+1,by omega,by go_num⟩
    case measure=>simp [intOf];omega
  ·have Sk:=xq hk hlt;have Oq:k<=s.size:=by omega
   clear hk;have HK:=Hy Sk;clear Sk;by_cases h24:24<k
   ·go_wp2
    have e:fK s.data.toList=(tk0,0,10):=by rw [fK,<-HK.out,if_pos h24]
    rw [e];exact gL (t:=tk0) (n:=0) (no:=10) rfl rfl rfl rfl rfl ⟨rfl,(Below.refl _ w).alloc (zL _) _⟩
   ·go_wp2_with (first
     | (go_at_call 90;refine (pF (s.extract 0 k) _ (by rw [ByteArray.size_extract];omega)).mono ?_;rintro e w1 ⟨rfl,av⟩;obtain ⟨JQ,qA⟩:=gI av;have hblk:=(av.block w.heap.size (by simp)).trans (heap_alloc_new w _);have HB:=Hy hblk;clear hblk;have iK:=Hy av;clear av))
    have e:fK s.data.toList=(⟨1,0,0,s.data.toList.take k⟩,k,0):=by rw [fK,<-HK.out,if_neg h24]
    rw [e,rU];refine dx (t:=⟨1,0,0,s.data.toList.take k⟩) (n:=k) (no:=0) rfl rfl rfl rfl rfl HB.out rfl ⟨rfl,aM (((Below.refl _ w).alloc (zL _) _).trans (iK.out.mono (by simp))) (zL _)⟩
def SG:Array Value:=(sg.map fun z=>Value.string (str z)).toArray
theorem MS (i:Nat)(h:i<sg.length):SG[i]? =some (.string (str sg[i])):=by simp [SG,h]
theorem Jo:(prog.info? 169).map (·.size)=some SG.toList.length:=by kernel_rfl
theorem sgU:∃d,prog.underlying 169=some d/\d.isRow=true:=⟨_,underlying169,rfl⟩
theorem FC {w:World}(h:Env w):w.rangeAt gS 0 SG.toList:=by
 intro j v hv;rw [Nat.zero_add,World.var?_cell nS h.sgn j]
 simpa [SG] using hv
theorem Am (s p:ByteArray)(w:World) :
  Calls prog 102 #[.string s,.string p] w fun e w'=>e=.returned (.bool (List.isPrefixOf p.data.toList s.data.toList))/\w=w':=
 (Tryz.strings_HasPrefix _ _ w).mono (by rintro e w' ⟨rfl,rfl⟩;exact ⟨rfl,rfl⟩)
theorem L6 (k : Nat)(h : k < sg.length)(w : World) : (Instr.index 169 (.agg SG) (Iv k)).run prog w = .ok (.string (str sg[k])) w := by
  have h30 : (k : Int) < 30 := by have : sg.length = 30 := by decide
                                  omega
  have PL := MS k h
  have hat' : SG[k]? = some (.string (str sg[k])) := PL
  simp [Instr.index, run_underlying underlying169, asIntOf, h30, go_sem, part, Tryz.sizeOf9, Tryz.isAgg9]
  rw [if_pos (by omega), PL]
  rfl
theorem BQ {α:Type}(p:α->Bool):∀(l:List α) (k:Nat) (h:k<l.length),p l[k]=true->(l.drop k).find? p=some l[k]:=by
 intro l k h hp;have e:=List.drop_eq_getElem_cons h;rw [e,List.find?_cons,hp]
def SgN (s:ByteArray) (k:Nat):Prop:=(sg.take k).find? (fun z=>z.isPrefixOf s.data.toList)=none
theorem SgN.zero (s:ByteArray):SgN s 0:=rfl
theorem SgN.succ {s:ByteArray}{k:Nat}(h:SgN s k)(hk:k<sg.length)(hp:List.isPrefixOf sg[k] s.data.toList=false):SgN s (k+1):=by
 unfold SgN at *;rw [List.take_succ_eq_append_getElem hk,List.find?_append,h];simp [hp]
theorem SgN.none {s:ByteArray}(h:SgN s 30):ib s.data.toList=(tk0,0,1):=by
 unfold SgN at h;rw [List.take_of_length_le (by decide)] at h
 simp only [ib,h]
theorem SgN.some {s:ByteArray}{k:Nat}(h:SgN s k)(hk:k<sg.length)(hp:List.isPrefixOf sg[k] s.data.toList=true):ib s.data.toList=(⟨3,0,0,sg[k]⟩,sg[k].length,0):=by
 unfold SgN at h;have e:sg.find? (fun z=>z.isPrefixOf s.data.toList)=Option.some sg[k]:=by
  conv=>lhs;rw [<-List.take_append_drop k sg]
  rw [List.find?_append,h,Option.none_or];exact BQ _ sg k hk hp
 simp only [ib,e]
theorem uH (s:ByteArray)(hs:s.size<=maxLen)(w:World)(hE:Env w) :
  Calls prog 108 #[.string s] w fun e w'=>e=.returned (scV (ib s.data.toList))/\Below w.heap.size w w':=by
 have hR:=FC hE;have Oh:(w.alloc (.cells #[Iv 0,Iv 0,Iv 0,.string ⟨#[]⟩] 92)).rangeAt gS 0 SG.toList:=fun j v hv=>(World.cell?_alloc_lt w _ _ hE.szS).trans (hR j v hv)
 obtain ⟨d,hu,hr⟩:=sgU;have Y1:=Hy Oh;have HD:=Hy2 hu hr;clear hR Oh hu hr;go_enter func108,ntmps108;go_wp2_with (with_reducible refine wpList_load_mid rfl 169 (Operand.global 0) rfl gS 0 rfl SG.toList d Y1.out HD.out.1 HD.out.2 Jo ?_);go_loop [8] (fun v=>∃k:Nat,k<=30/\v=Iv k/\SgN s k) (fun i=>30 - (intOf i).toNat)
 case atStart=>exact ⟨0,by omega,rfl,SgN.zero s⟩
 case round=>
  obtain ⟨k,hk,rfl,hn⟩:=hrel;by_cases hlt:k<30
  ·have VS:=fun W=>L6 k hlt W
   have hS:=fun hp=>hn.some hlt hp
   have hN:=fun hp=>hn.succ hlt hp
   generalize sg[k]'hlt=z at *;have HS:=Hy hS;have HN:=Hy hN;clear hS hN hn;cases hp:List.isPrefixOf z s.data.toList
   ·have wW:=HN.out hp;have Ps:=Hy wW;clear wW;go_wp2_with (go_at_call 102;refine (Am s _ _).mono ?_;rw [show (str z).data.toList=z from rfl,hp];clear hp;rintro e w1 ⟨rfl,rfl⟩)
    go_round
    case rel=>exact ⟨k+1,by omega,by go_num,Ps.out⟩
    case measure=>simp [intOf];omega
   ·have e:=HS.out hp;have HE:=Hy e;clear e;go_wp2_with (go_at_call 102;refine (Am s _ _).mono ?_;rw [show (str z).data.toList=z from rfl,hp];clear hp;rintro e w1 ⟨rfl,rfl⟩)
    rw [HE.out];exact gL (t:=⟨3,0,0,z⟩) (n:=z.length) (no:=0) rfl rfl rfl (by simp [lS]) rfl ⟨rfl,(Below.refl _ w).alloc (zL _) _⟩
  ·obtain rfl:k=30:=by omega
   have e:=hn.none;have HE:=Hy e;clear e hn;go_wp2;rw [HE.out];exact gL (t:=tk0) (n:=0) (no:=1) rfl rfl rfl rfl rfl ⟨rfl,(Below.refl _ w).alloc (zL _) _⟩
end
end Go.Proofs.YtcchdlnfeijinaaGreatDoor
