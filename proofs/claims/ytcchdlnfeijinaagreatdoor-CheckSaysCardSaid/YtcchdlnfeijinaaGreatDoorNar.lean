/- Cro to Crc: Layer check, mathematics: statements and trees, as the document's answer goes through them, are what -/
import Derived.Test.YtcchdlnfeijinaaGreatDoorNaq
namespace Go.Proofs.YtcchdlnfeijinaaGreatDoor
open Go.Proofs.Tryz
set_option linter.unusedSimpArgs false
set_option linter.unusedVariables false
set_option maxHeartbeats 4000000
set_option maxRecDepth 100000
section
open Go Go.RowKit Go.Maps
theorem nI.app {scs:List Scp}{vs x:List Int}(h:nI scs vs):nI scs (vs ++ x):=fun s hs y hy=>by
 obtain ⟨h1,⟨j,h2,h3⟩,h4⟩:=h s hs y hy;exact ⟨h1,⟨j,h2,qE h3⟩,h4⟩
theorem ET (l:List Scp):∀(b c:Int) (x:Nm'),b+l.length<=c->((dH l b).any fun y=>decide (y.b=c) && decide (y.s=x))=false:=by
 induction l with
 |nil=>intro b c x _;rfl
 |cons s l ih=>
  intro b c x h;simp only [List.length_cons] at h;rw [dH,List.any_append,ih (b+1) c x (by omega),Bool.or_false,List.any_eq_false]
  intro y hy;obtain ⟨z,-,rfl⟩:=List.mem_map.1 hy;have:¬ b=c:=by omega
  simp [this]
theorem ES (l:List Scp)(s:Scp)(b:Int)(x:Nm'):((dH (l ++ [s]) b).any fun y=>decide (y.b=b+l.length) && decide (y.s=x))=(look s x).isSome:=by
 rw [jQ,List.any_append,ET l b _ x (Int.le_refl _),Bool.false_or,List.any_map,List.any_reverse];unfold look;rw [Option.isSome_map,Bool.eq_iff_iff,List.any_eq_true,List.find?_isSome];simp
section
variable {gs:List Gl} {fs:List Fn'} {G:Scp} {K:Kn} {lab:Nm'->Nat}
theorem Fp (E:EvR gs fs G K lab){σ:Cs}{scs:List Scp}{s:Rst}(R:Rel G σ scs s){h:Hd}{ks:List Nat}{i:Nat}(hs:Sh h)(ho:10<h.op)(Gt:arity h.op ks.length=true)(hi:i<σ.tr.length)(Oq:∀k∈ks,k<i) :
  match dh K h ks i σ with
  | .ok τ=>∃FR,Rel G τ FR (bZ gs fs K.ft lab h ks i s)/\FR.length=scs.length/\FR.dropLast=scs.dropLast
  | .er n p=>(bZ gs fs K.ft lab h ks i s).d=(n,p)/\n≠0:=by
 rw [zY ho];obtain ⟨tr,L,deep,vs,d⟩:=s;obtain ⟨h1,h2,h3,h4,h5,h6,h7,h8,h9⟩:=R;simp only at h1 h2 h4 h5 h6 |-;subst h1 h2 h4 h5 h6;have keep:Rel G σ scs ⟨σ.tr.set i (σ.tr.getD i (0,0)),dH scs 1,scs.length,σ.vs,(0,0)⟩:=by rw [qO];exact ⟨rfl,rfl,h3,rfl,rfl,rfl,h7,h8,h9⟩
 have mk:∀(τ:Cs) (t:Int×Int),τ.tr=σ.tr.set i t->τ.vs=σ.vs->τ.sc=σ.sc->(t.1=0∨t.1=1∨t.1=2)->Rel G τ scs ⟨σ.tr.set i t,dH scs 1,scs.length,σ.vs,(0,0)⟩:=fun τ t e1 e2 e3 e4=>
  ⟨e1.symm,e2.symm,e3.trans h3,rfl,rfl,rfl,by rw [e2];exact h7,by rw [e1];exact h8.set i e4,h9⟩
 have Pd:h.op=12∨h.op=13∨h.op=20->ks.take 1=ks:=fun e=>by
  have:ks.length=1:=by
   rcases e with e|e|e <;> · rw [e] at Gt;simpa [arity] using Gt
  exact List.take_of_length_le (by omega)
 have XM:h.op=14->ks.take 2=ks:=fun e=>by
  have:ks.length=2:=by rw [e] at Gt;simpa [arity] using Gt
  exact List.take_of_length_le (by omega)
 have hfst:h.op=15∨h.op=16->ks.take 1=[kid ks 0]:=fun e=>by
  have:1<=ks.length:=by
   rcases e with e|e
   ·rw [e] at Gt;simp [arity] at Gt;omega
   ·rw [e] at Gt;simp [arity] at Gt;omega
  cases ks with
  |nil=>simp at this
  |cons a l=>simp [kid]
 have hv:=uz h8 h.p;unfold dh dM;by_cases o12:h.op=12
 ·rw [if_pos o12,if_pos o12];unfold l8;simp only;rw [Pd (.inl o12),I9];have h10:=hv ks;cases LA:aO h.p σ.tr ks with
  |er n p=>
   rw [LA] at h10;simp only [Ck.aB];rw [show aN σ.tr h.p ks (0,0)=(n,p) from h10.1,cZ (d:=(n,p)) h10.2,cZ (d:=(n,p)) h10.2]
   exact ⟨rfl,h10.2⟩
  |ok u=>
   rw [LA] at h10;simp only [Ck.bind_ok];rw [show aN σ.tr h.p ks (0,0)=(0,0) from h10]
   obtain ⟨l,s,rfl⟩:∃l s,scs=l ++ [s]:=⟨scs.dropLast,scs.getLast h9,(List.dropLast_concat_getLast h9).symm⟩;have hl:(σ.sc.getLast?.getD [])=s:=by rw [h3,List.getLast?_cons];simp
   have ha:=ES l s 1 h.s;rw [show (1:Int)+l.length=((l ++ [s]).length:Nat) by simp;omega] at ha
   rw [ha,hl];cases hls:(look s h.s).isSome with
   |true=>
    simp only [iT,Ck.aB];rw [dX rfl,cZ (by simp)]
    exact ⟨rfl,by decide⟩
   |false=>
    simp only [iq,Ck.bind_ok,bP];cases h64:decide (64<=σ.vs.length) with
    |true=>
     simp only [iT,Ck.aB];rw [dX rfl];exact ⟨rfl,by decide⟩
    |false=>
     simp only [iq,Ck.bind_ok,bP];refine ⟨l ++ [(h.s,⟨1,σ.vs.length,h.to⟩) ::s],⟨?_,rfl,?_,?_,?_,rfl,?_,?_,by simp⟩,by simp,by simp⟩
     ·rfl
     ·show decl σ.sc h.s _=_
      unfold decl;rw [hl,h3,<-List.cons_append,List.dropLast_concat,List.cons_append]
     ·simp
     ·show dH (l ++ [s]) 1 ++ _=_
      rw [jQ,jQ,List.reverse_cons,List.map_append,List.append_assoc];simp;omega
     ·intro z hz y hy;rcases List.mem_append.1 hz with hz|hz
      ·exact (nI.app (x:=[h.to]) h7) z (by simp [hz]) y hy
      ·rw [List.mem_singleton] at hz;subst hz;rcases List.mem_cons.1 hy with rfl|hy
       ·exact ⟨rfl,⟨σ.vs.length,rfl,by simp⟩,hs.2.1 o12⟩
       ·exact (nI.app (x:=[h.to]) h7) s (by simp) y hy
     ·exact h8.set i (vg h8 i)
 rw [if_neg o12,if_neg o12];by_cases o13:h.op=13
 ·rw [if_pos o13,if_pos o13,h3,Pd (.inr (.inl o13))];have h10:=sW E.G h7 E.gn h;simp only;cases hr:aW h [1,2] (G ::scs) with
  |er n p=>
   rw [hr] at h10;simp only [Ck.aB];rw [iG _ _ _ _ (by rw [h10.1];exact h10.2)]
   exact h10
  |ok m=>
   rw [hr] at h10;simp only [Ck.bind_ok];rw [show (bC σ i m.rf).tr=σ.tr.set i ((σ.tr.getD i (0,0)).1,m.rf) from rfl,nM Oq,show dA gs fs σ.vs (dH scs 1) h (0,0)=((0,0),m.rf,m.vl) from h10]
   have h11:=hv ks;cases LA:aO h.p σ.tr ks with
   |er n p=>rw [LA] at h11;exact h11
   |ok u=>
    rw [LA] at h11;simp only [Ck.bind_ok];rw [show aN σ.tr h.p ks (0,0)=(0,0) from h11]
    exact ⟨scs,mk _ _ rfl rfl rfl (vg h8 i),rfl,rfl⟩
 rw [if_neg o13,if_neg o13];by_cases o14:h.op=14
 ·rw [if_pos o14,if_pos o14,h3,XM o14];have h10:=xW E.G h7 h;simp only;cases hr:aW h [3] (G ::scs) with
  |er n p=>
   rw [hr] at h10;simp only [Ck.aB];rw [iG _ _ _ _ (by rw [h10.1];exact h10.2)]
   exact h10
  |ok m=>
   rw [hr] at h10;simp only [Ck.bind_ok];rw [show (bC σ i m.rf).tr=σ.tr.set i ((σ.tr.getD i (0,0)).1,m.rf) from rfl,nM Oq,show eQ gs fs (dH scs 1) h (0,0)=((0,0),m.rf,m.vl) from h10]
   have h11:=hv ks;cases LA:aO h.p σ.tr ks with
   |er n p=>rw [LA] at h11;exact h11
   |ok u=>
    rw [LA] at h11;simp only [Ck.bind_ok];rw [show aN σ.tr h.p ks (0,0)=(0,0) from h11]
    exact ⟨scs,mk _ _ rfl rfl rfl (vg h8 i),rfl,rfl⟩
 rw [if_neg o14,if_neg o14];have Sa:∀kk:List Nat,match (aO h.p σ.tr kk).bind fun _=>Ck.ok σ with
   | .ok τ=>∃FR,Rel G τ FR ⟨σ.tr.set i (σ.tr.getD i (0,0)),dH scs 1,scs.length,σ.vs,aN σ.tr h.p kk (0,0)⟩/\FR.length=scs.length/\FR.dropLast=scs.dropLast
   | .er n p=>aN σ.tr h.p kk (0,0)=(n,p)/\n≠0:=fun kk=>by
  have h11:=hv kk;cases LA:aO h.p σ.tr kk with
  |er n p=>rw [LA] at h11;exact h11
  |ok u=>rw [LA] at h11;simp only [Ck.bind_ok];rw [show aN σ.tr h.p kk (0,0)=(0,0) from h11];exact ⟨scs,keep,rfl,rfl⟩
 by_cases o15:h.op=15∨h.op=16
 ·rw [if_pos o15,if_pos (by omega),hfst o15]
  exact Sa _
 rw [if_neg o15];by_cases o17:h.op=17
 ·rw [if_pos o17,if_neg (by omega),if_pos o17]
  have Ob:=E.lb h.s;by_cases hm:h.s∈K.lb
  ·have e1:decide (lab h.s=0)=false:=by simp only [decide_eq_false_iff_not];exact fun e=>Ob.1 e hm
   have e2:decide (h.s∈K.lb)=true:=by simp [hm]
   rw [e1,e2];simp only [Bool.not_true,iq,Ck.bind_ok,bP];exact ⟨scs,keep,rfl,rfl⟩
  ·have e1:decide (lab h.s=0)=true:=by simp only [decide_eq_true_eq];exact Ob.2 hm
   have e2:decide (h.s∈K.lb)=false:=by simp [hm]
   rw [e1,e2];simp only [Bool.not_false,iT,Ck.aB];rw [dX rfl];exact ⟨rfl,by decide⟩
 rw [if_neg o17];by_cases o19:h.op=19
 ·rw [if_pos o19,if_neg (by omega),if_neg o17,if_pos o19]
  cases hb:decide (0<ks.length) == decide (K.ft=0) with
  |true=>
   simp only [iT,Ck.aB];rw [dX rfl,iG _ _ _ _ (by simp)]
   exact ⟨rfl,by decide⟩
  |false=>
   simp only [iq,Ck.bind_ok,bP];exact Sa _
 rw [if_neg o19];by_cases o20:h.op=20
 ·rw [if_pos o20,if_pos (by omega),Pd (.inr (.inr o20))]
  exact Sa _
 ·rw [if_neg o20,if_neg (by omega),if_neg o17,if_neg o19]
  exact ⟨scs,keep,rfl,rfl⟩
end
end
section
open Go Go.RowKit Go.Maps
section
variable {gs:List Gl} {fs:List Fn'} {G:Scp} {K:Kn} {lab:Nm'->Nat}
theorem qH (ft:Int)(F:Fo):∀(c:Nat) (s:Rst),s.d.1≠0->aQ gs fs ft lab F c s=s:=by
 induction F with
 |nil=>intro c s _;rfl
 |cons h k r _ ih2=>intro c s hs;rw [aQ,if_pos hs];exact ih2 _ _ hs
theorem tT {ft:Int}{h:Hd}{ks:List Nat}{i:Nat}{s:Rst}(ho:h.op=11):bZ gs fs ft lab h ks i s=s:=by
 rw [zY (by omega)]
 unfold dM;simp only [ho,show ¬ (11:Int)=12 by decide,show ¬ (11:Int)=13 by decide,show ¬ (11:Int)=14 by decide,show ¬ ((11:Int)=15∨(11:Int)=16∨(11:Int)=20) by decide,show ¬ (11:Int)=17 by decide,show ¬ (11:Int)=19 by decide,if_false,qO]
theorem Ga (E:EvR gs fs G K lab){σ:Cs}{scs:List Scp}{s:Rst}(R:Rel G σ scs s){h:Hd}{ks:List Nat}{i:Nat}(hs:Sh h)(h11:h.op≠11)(Gt:arity h.op ks.length=true)(hi:i<σ.tr.length)(Oq:∀k∈ks,k<i) :
  match eB K h ks i σ with
  | .ok τ=>∃FR,Rel G τ FR (bZ gs fs K.ft lab h ks i s)/\FR.length=scs.length/\FR.dropLast=scs.dropLast
  | .er n p=>(bZ gs fs K.ft lab h ks i s).d=(n,p)/\n≠0:=by
 unfold eB;by_cases ho:h.op<11
 ·rw [if_pos ho];have h9:=G5 E R hs ho Gt hi Oq K.ft;cases he:dm K h ks i σ with
  |ok τ=>rw [he] at h9;exact ⟨scs,h9,rfl,rfl⟩
  |er n p=>rw [he] at h9;exact h9
 ·rw [if_neg ho];exact Fp E R hs (by omega) Gt hi Oq
theorem walk_eq (E:EvR gs fs G K lab)(F:Fo):∀(c:Nat) (σ:Cs) (scs:List Scp) (s:Rst),F.sh->F.ar->c+F.size<=σ.tr.length->Rel G σ scs s->
  match dF K F c σ with
  | .ok τ=>∃FR,Rel G τ FR (aQ gs fs K.ft lab F c s)/\FR.length=scs.length/\FR.dropLast=scs.dropLast
  | .er n p=>(aQ gs fs K.ft lab F c s).d=(n,p)/\n≠0:=by
 induction F with
 |nil=>intro c σ scs s _ _ _ R;simp only [dF,aQ];exact ⟨scs,R,rfl,rfl⟩
 |cons h k r ih1 ih2=>
  intro c σ scs s OW Gt sQ R;simp only [Fo.size] at sQ;have hd0:¬ s.d.1≠0:=by rw [R.d];simp
  simp only [dF];rw [aQ,if_neg hd0];have QY:match (if h.op=11 then (dF K k c {σ with sc:=σ.sc ++ [[]]}).bind fun τ=>Ck.ok {τ with sc:=τ.sc.dropLast} else (dF K k c σ).bind fun τ=>eB K h (k.roots c) (c+k.size) τ) with
    | .ok τ=>∃FR,Rel G τ FR (if h.op=11 then (if (aQ gs fs K.ft lab k c {s with deep:=s.deep+1}).d.1=0 then bZ gs fs K.ft lab h (k.roots c) (c+k.size) (fC s.L.length (aQ gs fs K.ft lab k c {s with deep:=s.deep+1})) else fC s.L.length (aQ gs fs K.ft lab k c {s with deep:=s.deep+1}))
      else (if (aQ gs fs K.ft lab k c s).d.1=0 then bZ gs fs K.ft lab h (k.roots c) (c+k.size) (aQ gs fs K.ft lab k c s) else aQ gs fs K.ft lab k c s))/\FR.length=scs.length/\FR.dropLast=scs.dropLast/\τ.tr.length=σ.tr.length
    | .er n p=>(if h.op=11 then (if (aQ gs fs K.ft lab k c {s with deep:=s.deep+1}).d.1=0 then bZ gs fs K.ft lab h (k.roots c) (c+k.size) (fC s.L.length (aQ gs fs K.ft lab k c {s with deep:=s.deep+1})) else fC s.L.length (aQ gs fs K.ft lab k c {s with deep:=s.deep+1}))
      else (if (aQ gs fs K.ft lab k c s).d.1=0 then bZ gs fs K.ft lab h (k.roots c) (c+k.size) (aQ gs fs K.ft lab k c s) else aQ gs fs K.ft lab k c s)).d=(n,p)/\n≠0:=by
   by_cases h11:h.op=11
   ·simp only [if_pos h11];have R1:Rel G {σ with sc:=σ.sc ++ [[]]} (scs ++ [[]]) {s with deep:=s.deep+1}:=by
     obtain ⟨a1,a2,a3,a4,a5,a6,a7,a8,a9⟩:=R;refine ⟨a1,a2,by simp [a3],by simp [a4],by simp only;rw [a5,jQ];simp,a6,?_,a8,by simp⟩
     intro z hz y hy;rcases List.mem_append.1 hz with hz|hz
     ·exact a7 z hz y hy
     ·rw [List.mem_singleton] at hz;subst hz;cases hy
    have h9:=ih1 c _ _ _ OW.2.1 Gt.2.1 (by simp only;omega) R1
    cases hv:dF K k c {σ with sc:=σ.sc ++ [[]]} with
    |er n p=>
     rw [hv] at h9;simp only [Ck.aB];rw [if_neg (by rw [h9.1];exact h9.2)]
     exact h9
    |ok τ=>
     rw [hv] at h9;obtain ⟨RO,R2,e1,e2⟩:=h9;simp only [Ck.bind_ok];rw [if_pos (by rw [R2.d]),tT h11]
     have Lu:=iP _ _ _ _ _ hv;obtain ⟨b1,b2,b3,b4,b5,b6,b7,b8,b9⟩:=R2;have e3:RO=scs ++ [RO.getLast b9]:=by
      have h8:=List.dropLast_concat_getLast b9;rw [e2,List.dropLast_concat] at h8;exact h8.symm
     have uM:(RO.length:Int) - 1=scs.length:=by rw [e1];simp
     refine ⟨scs,⟨b1,b2,?_,?_,?_,b6,?_,b8,R.ne⟩,rfl,rfl,by simpa using Lu.ln⟩
     ·show τ.sc.dropLast=_
      rw [b3,List.dropLast_cons_of_ne_nil b9,e2,List.dropLast_concat]
     ·show (aQ gs fs K.ft lab k c {s with deep:=s.deep+1}).deep - 1=_
      rw [b4];exact uM
     ·have hp:0< (aQ gs fs K.ft lab k c {s with deep:=s.deep+1}).deep - 1:=by
       rw [b4,uM];have:=List.length_pos_iff.2 R.ne;omega
      unfold fC;simp only;rw [if_pos hp,b5,e3,jQ,R.L,List.take_left]
     ·intro z hz;exact b7 z (by rw [e3];simp [hz])
   ·simp only [if_neg h11];have h9:=ih1 c σ scs s OW.2.1 Gt.2.1 (by omega) R
    cases hv:dF K k c σ with
    |er n p=>
     rw [hv] at h9;simp only [Ck.aB];rw [if_neg (by rw [h9.1];exact h9.2)]
     exact h9
    |ok κ=>
     rw [hv] at h9;obtain ⟨RO,R2,e1,e2⟩:=h9;simp only [Ck.bind_ok];rw [if_pos (by rw [R2.d])]
     have Lu:=iP _ _ _ _ _ hv;have h10:=Ga E R2 OW.1 h11 (by rw [Fo.dK];exact Gt.1) (by rw [Lu.ln];omega) (ky k c)
     cases hr:eB K h (k.roots c) (c+k.size) κ with
     |er n p=>rw [hr] at h10;exact h10
     |ok τ=>
      rw [hr] at h10;obtain ⟨Xy,R3,e3,e4⟩:=h10;exact ⟨Xy,R3,e3.trans e1,e4.trans e2,by rw [(uJ hr).1,Lu.ln]⟩
  generalize (if h.op=11 then (if (aQ gs fs K.ft lab k c {s with deep:=s.deep+1}).d.1=0 then bZ gs fs K.ft lab h (k.roots c) (c+k.size) (fC s.L.length (aQ gs fs K.ft lab k c {s with deep:=s.deep+1})) else fC s.L.length (aQ gs fs K.ft lab k c {s with deep:=s.deep+1}))
      else (if (aQ gs fs K.ft lab k c s).d.1=0 then bZ gs fs K.ft lab h (k.roots c) (c+k.size) (aQ gs fs K.ft lab k c s) else aQ gs fs K.ft lab k c s))=s2 at QY |-
  cases hm:(if h.op=11 then (dF K k c {σ with sc:=σ.sc ++ [[]]}).bind fun τ=>Ck.ok {τ with sc:=τ.sc.dropLast} else (dF K k c σ).bind fun τ=>eB K h (k.roots c) (c+k.size) τ) with
  |er n p=>
   rw [hm] at QY;simp only [Ck.aB];rw [qH _ _ _ _ (by rw [QY.1];exact QY.2)]
   exact QY
  |ok τ=>
   rw [hm] at QY;obtain ⟨RO,R2,e1,e2,e5⟩:=QY;simp only [Ck.bind_ok];have h9:=ih2 (c+k.size+1) τ RO s2 OW.2.2 Gt.2.2 (by rw [e5];omega) R2
   cases hv:dF K r (c+k.size+1) τ with
   |er n p=>rw [hv] at h9;exact h9
   |ok κ=>
    rw [hv] at h9;obtain ⟨Xy,R3,e3,e4⟩:=h9;exact ⟨Xy,R3,e3.trans e1,e4.trans e2⟩
end
end
section
open Go Go.RowKit Go.Maps
def szR (g:Gl):Int:=(if g.ty=3 then 1 else if g.ty=1 then 4 else 8) * max g.n 1
def kL (gs:List Gl):List Gl->Nat->Int->Int×Int->Int×Int
 | [],_,_,d=>d
 |g ::l,i,b,d=>kL gs l (i+1) (min (b+szR g) 1099511627776) (dN (dN d (dZ (gs.take i) g.s).isSome 5 g.p) (decide (4096<min (b+szR g) 1099511627776)) 9 g.p)
def mP (p:Int) (x:Nm'):List Nm'->Int×Int->Int×Int
 | [],d=>d
 |y ::l,d=>mP p x l (dN d (decide (y=x)) 5 p)
def uO (p:Int):List Pm->List Nm'->Int×Int->Int×Int
 | [],_,d=>d
 |q ::l,seen,d=>uO p l (seen ++ [q.s]) (mP p q.s seen d)
def pE (gs:List Gl) (fs:List Fn'):List Fn'->Nat->Int×Int->Int×Int
 | [],_,d=>d
 |f ::l,i,d=>pE gs fs l (i+1) (uO f.p f.ps [] (dN (dN (dN d (decide (32<=i)) 9 f.p) ((dZ gs f.s).isSome || (eY (fs.take i) f.s).isSome) 5 f.p) (decide (8<f.ps.length)) 9 f.p))
theorem rH (gs:List Gl):∀(l:List Gl) (i:Nat) (b:Int) (d:Int×Int),d.1≠0->kL gs l i b d=d:=by
 intro l
 induction l with
 |nil=>intro i b d _;rfl
 |cons g l ih=>intro i b d h;rw [kL,cZ h,cZ h,ih _ _ _ h]
theorem qZ (p:Int)(x:Nm'):∀(l:List Nm') (d:Int×Int),d.1≠0->mP p x l d=d:=by
 intro l
 induction l with
 |nil=>intro d _;rfl
 |cons g l ih=>intro d h;rw [mP,cZ h,ih _ h]
theorem kG (p:Int):∀(l:List Pm) (s:List Nm') (d:Int×Int),d.1≠0->uO p l s d=d:=by
 intro l
 induction l with
 |nil=>intro s d _;rfl
 |cons g l ih=>intro s d h;rw [uO,qZ _ _ _ _ h,ih _ _ h]
theorem kM (gs:List Gl)(fs:List Fn'):∀(l:List Fn') (i:Nat) (d:Int×Int),d.1≠0->pE gs fs l i d=d:=by
 intro l
 induction l with
 |nil=>intro i d _;rfl
 |cons g l ih=>intro i d h;rw [pE,cZ h,cZ h,cZ h,kG _ _ _ _ h,ih _ _ h]
theorem Dz (p:Int)(x:Nm'):∀l:List Nm',mP p x l (0,0)=if x∈l then (5,p) else (0,0):=by
 intro l
 induction l with
 |nil=>rfl
 |cons y l ih=>
  rw [mP];by_cases e:y=x
  ·rw [decide_eq_true e,dX rfl,qZ _ _ _ _ (by simp),if_pos (by simp [e])]
  ·have e2:¬ x=y:=fun h=>e h.symm
   rw [decide_eq_false e,bP,ih];simp [e2]
theorem FX (p:Int):∀(l:List Pm) (seen:List Nm'),uO p l seen (0,0)=if twice l seen then (5,p) else (0,0):=by
 intro l
 induction l with
 |nil=>intro seen;rfl
 |cons q l ih=>
  intro seen;rw [uO,Dz,twice];by_cases e:q.s∈seen
  ·rw [if_pos e,kG _ _ _ _ (by simp)];simp [e]
  ·rw [if_neg e,ih];simp [e]
theorem Jc (g:Gl):szR g=max g.n 1 * eb g.ty:=by unfold szR eb;rw [Int.mul_comm]
theorem BK (l:List Gl)(g:Gl)(x:Nm'):dZ (l ++ [g]) x=(dZ l x).or (if g.s=x then some l.length else none):=by
 unfold dZ;rw [List.findIdx?_append]
 congr 1
 by_cases e:g.s=x <;> simp [List.findIdx?_cons,e]
theorem BL (l:List Fn')(g:Fn')(x:Nm'):eY (l ++ [g]) x=(eY l x).or (if g.s=x then some l.length else none):=by
 unfold eY;rw [List.findIdx?_append]
 congr 1
 by_cases e:g.s=x <;> simp [List.findIdx?_cons,e]
theorem tV {α:Type}(y:Nm'×α)(s:List (Nm'×α))(x:Nm'):look (y ::s) x=if y.1=x then some y.2 else look s x:=by
 unfold look;rw [List.find?_cons];by_cases e:y.1=x <;> simp [e]
def ScR (s:Scp) (pg:List Gl) (pf:List Fn'):Prop:=∀x,look s x=((dZ pg x).bind fun i=>(pg[i]?).map fun g=>gMg g i).or ((eY pf x).bind fun i=>(pf[i]?).map fun f=>(⟨4,i,f.ty⟩:Mg))
theorem ScR.isSome {s:Scp}{pg:List Gl}{pf:List Fn'}(h:ScR s pg pf)(x:Nm'):(look s x).isSome=((dZ pg x).isSome || (eY pf x).isSome):=by
 rw [h x];cases h1:dZ pg x with
 |some i=>simp [List.getElem?_eq_getElem (by unfold dZ at h1;exact (List.findIdx?_eq_some_iff_getElem.1 h1).1:i<pg.length)]
 |none=>
  cases h2:eY pf x with
  |some i=>simp [List.getElem?_eq_getElem (by unfold eY at h2;exact (List.findIdx?_eq_some_iff_getElem.1 h2).1:i<pf.length)]
  |none=>rfl
theorem ScR.Nz {s:Scp}{pg:List Gl}(h:ScR s pg [])(g:Gl)(hn:look s g.s=none):ScR ((g.s,gMg g pg.length) ::s) (pg ++ [g]) []:=by
 intro x;rw [tV,BK];by_cases e:g.s=x
 ·subst e;have h1:dZ pg g.s=none:=by
   have h9:=h.isSome g.s;rw [hn] at h9;cases h2:dZ pg g.s with
   |none=>rfl
   |some i=>rw [h2] at h9;simp at h9
  simp [h1]
 ·rw [if_neg (by simpa using e),if_neg e,Option.or_none,h x]
  cases h1:dZ pg x with
  |none=>rfl
  |some i=>
   have hi:i<pg.length:=by unfold dZ at h1;exact (List.findIdx?_eq_some_iff_getElem.1 h1).1
   simp [List.getElem?_append_left hi]
theorem ScR.fP {s:Scp}{pg:List Gl}{pf:List Fn'}(h:ScR s pg pf)(f:Fn')(hn:look s f.s=none):ScR ((f.s,⟨4,pf.length,f.ty⟩) ::s) pg (pf ++ [f]):=by
 intro x;rw [tV,BL];by_cases e:f.s=x
 ·subst e;have h9:=h.isSome f.s;rw [hn] at h9;have h1:dZ pg f.s=none:=by
   cases h2:dZ pg f.s with
   |none=>rfl
   |some i=>rw [h2] at h9;simp at h9
  have h2:eY pf f.s=none:=by
   cases h3:eY pf f.s with
   |none=>rfl
   |some i=>rw [h3] at h9;simp at h9
  simp [h1,h2]
 ·rw [if_neg (by simpa using e),if_neg e,Option.or_none,h x]
  cases h1:eY pf x with
  |none=>rfl
  |some i=>
   have hi:i<pf.length:=by unfold eY at h1;exact (List.findIdx?_eq_some_iff_getElem.1 h1).1
   simp [List.getElem?_append_left hi]
theorem GQ (gs:List Gl):∀(l pre:List Gl) (b:Int) (s:Scp),gs=pre ++ l->ScR s pre []->0<=b->b<=4096->
  match eF l pre.length b s with
  | .ok G=>kL gs l pre.length b (0,0)=(0,0)/\ScR G gs []
  | .er n p=>kL gs l pre.length b (0,0)=(n,p)/\n≠0:=by
 intro l
 induction l with
 |nil=>intro pre b s e h _ _;simp only [eF,kL];exact ⟨trivial,by rw [e,List.append_nil];exact h⟩
 |cons g l ih=>
  intro pre b s e h IB av;have ht:gs.take pre.length=pre:=by rw [e,List.take_left]
  have hi:=h.isSome g.s;have hz:eY ([]:List Fn') g.s=none:=rfl;rw [hz] at hi;simp only [Option.isSome_none,Bool.or_false] at hi;have sQ:0<=szR g:=by unfold szR;split <;> (try split) <;> omega
  simp only [eF];rw [kL,ht,<-hi];cases hl:(look s g.s).isSome with
  |true=>
   rw [if_pos rfl,dX rfl,cZ (by simp),rH _ _ _ _ _ (by simp)]
   exact ⟨rfl,by decide⟩
  |false=>
   rw [if_neg (by simp),bP,<-Jc]
   by_cases h4:4096<b+szR g
   ·rw [if_pos h4,decide_eq_true (by omega:4096<min (b+szR g) 1099511627776),dX rfl,rH _ _ _ _ _ (by simp)]
    exact ⟨rfl,by decide⟩
   ·rw [if_neg h4,decide_eq_false (by omega:¬ 4096<min (b+szR g) 1099511627776),bP,show min (b+szR g) 1099511627776=b+szR g by omega]
    have h9:=ih (pre ++ [g]) (b+szR g) ((g.s,gMg g pre.length) ::s) (by rw [e,List.append_assoc];rfl) (h.Nz g (by simpa using hl)) (by omega) (by omega)
    rw [List.length_append,List.length_cons,List.length_nil] at h9;exact h9
theorem KU (gs:List Gl)(fs:List Fn'):∀(l pre:List Fn') (s:Scp),fs=pre ++ l->ScR s gs pre->
  match jf l pre.length s with
  | .ok G=>pE gs fs l pre.length (0,0)=(0,0)/\ScR G gs fs/\∀f∈l,dZ gs f.s=none
  | .er n p=>pE gs fs l pre.length (0,0)=(n,p)/\n≠0:=by
 intro l
 induction l with
 |nil=>intro pre s e h;simp only [jf,pE];exact ⟨trivial,by rw [e,List.append_nil];exact h,fun f hf=>by cases hf⟩
 |cons f l ih=>
  intro pre s e h;have ht:fs.take pre.length=pre:=by rw [e,List.take_left]
  have hi:=h.isSome f.s;rw [rO,pE,ht,<-hi];by_cases h32:32<=pre.length
  ·rw [if_pos h32,decide_eq_true h32,dX rfl,cZ (d:=(9,f.p)) (by simp),cZ (d:=(9,f.p)) (by simp),kG _ _ _ _ (by simp),kM _ _ _ _ _ (by simp)]
   exact ⟨rfl,by decide⟩
  rw [if_neg h32,decide_eq_false h32,bP];cases hl:(look s f.s).isSome with
  |true=>
   rw [if_pos rfl,dX rfl,cZ (by simp),kG _ _ _ _ (by simp),kM _ _ _ _ _ (by simp)]
   exact ⟨rfl,by decide⟩
  |false=>
   rw [if_neg (by simp),bP]
   by_cases h8:8<f.ps.length
   ·rw [if_pos h8,decide_eq_true h8,dX rfl,kG _ _ _ _ (by simp),kM _ _ _ _ _ (by simp)]
    exact ⟨rfl,by decide⟩
   rw [if_neg h8,decide_eq_false h8,bP,FX];cases TG:twice f.ps [] with
   |true=>
    rw [if_pos rfl,if_pos rfl,kM _ _ _ _ _ (by simp)]
    exact ⟨rfl,by decide⟩
   |false=>
    rw [if_neg (by simp),if_neg (by simp)]
    have h9:=ih (pre ++ [f]) ((f.s,⟨4,pre.length,f.ty⟩) ::s) (by rw [e,List.append_assoc];rfl) (h.fP f (by simpa using hl))
    rw [List.length_append,List.length_cons,List.length_nil] at h9;have hno:dZ gs f.s=none:=by
     rw [hl] at hi;cases h2:dZ gs f.s with
     |none=>rfl
     |some i=>rw [h2] at hi;simp at hi
    cases hM:jf l (pre.length+1) ((f.s,⟨4,pre.length,f.ty⟩) ::s) with
    |er n p=>simp only [hM,Nat.zero_add] at h9 |-;exact h9
    |ok G=>
     simp only [hM,Nat.zero_add] at h9 |-;exact ⟨h9.1,h9.2.1,fun g hg=>by
      rcases List.mem_cons.1 hg with rfl|hg
      ·exact hno
      ·exact h9.2.2 g hg⟩
theorem ScR.gok {G:Scp}{gs:List Gl}{fs:List Fn'}(h:ScR G gs fs):GOk gs fs G:=by
 refine ⟨fun x hx=>?_,fun x m hm=>?_⟩
 ·have h9:=h.isSome x;rw [hx] at h9;cases h1:dZ gs x with
  |some i=>rw [h1] at h9;simp at h9
  |none=>
   cases h2:eY fs x with
   |some i=>rw [h1,h2] at h9;simp at h9
   |none=>exact ⟨rfl,rfl⟩
 ·rw [h x] at hm;cases h1:dZ gs x with
  |some i=>
   have hi:i<gs.length:=by unfold dZ at h1;exact (List.findIdx?_eq_some_iff_getElem.1 h1).1
   rw [h1] at hm;simp only [Option.bind_some,List.getElem?_eq_getElem hi,Option.map_some,Option.some_or,Option.some.injEq] at hm;exact .inl ⟨i,_,rfl,List.getElem?_eq_getElem hi,hm.symm⟩
  |none=>
   rw [h1] at hm;cases h2:eY fs x with
   |none=>rw [h2] at hm;simp at hm
   |some i=>
    have hi:i<fs.length:=by unfold eY at h2;exact (List.findIdx?_eq_some_iff_getElem.1 h2).1
    rw [h2] at hm;simp only [Option.bind_none,Option.bind_some,List.getElem?_eq_getElem hi,Option.map_some,Option.none_or,Option.some.injEq] at hm;exact .inr ⟨rfl,i,_,rfl,List.getElem?_eq_getElem hi,hm.symm⟩
end
section
open Go Go.RowKit Go.Maps
theorem oJ {α:Type}{l:List α}{P:α->Bool}{m k:Nat}{a:α}(ha:l[k]? =some a)(hP:P a=true)(hk:k<m)(hn:∀j b,j<k->l[j]? =some b->P b=false):(l.take m).findIdx? P=some k:=by
 have hl:=(zS.1 ha).1;have he:=(zS.1 ha).2;rw [List.findIdx?_eq_some_iff_getElem];refine ⟨by simp;omega,by rw [List.getElem_take,he];exact hP,fun j hj=>?_⟩
 rw [List.getElem_take,hn j _ hj (zE (by omega))]
 simp
theorem oK {α:Type}{l:List α}{P:α->Bool}{m:Nat}(hn:∀j b,j<m->l[j]? =some b->P b=false):(l.take m).findIdx? P=none:=by
 rw [List.findIdx?_eq_none_iff];intro x hx;obtain ⟨j,hj,rfl⟩:=List.getElem_of_mem hx;have hj2:j<m/\j<l.length:=by simp at hj;omega
 rw [List.getElem_take];exact hn j _ hj2.1 (zE hj2.2)
theorem Jd {a b:List UInt8}(h:a≠b):((str a).toList == (str b).toList)=false:=by
 have e1:(str a).toList=a:=by simp [str]
 have e2:(str b).toList=b:=by simp [str]
 rw [e1,e2]
 simpa using h
theorem mG {a b:List UInt8}{za zb:ByteArray}(h1:str a=za)(h2:str b=zb)(h:a≠b):(za.toList == zb.toList)=false:=by rw [<-h1,<-h2];exact Jd h
section
variable {X:RX} {S:RS} {w:World}
theorem ow (h:RV X S w)(x:Nm')(m:Nat)(hm:m<=X.gs.length)(hg:X.gs.length<=1000000):Calls prog 60 #[crp X,.string (str x),Iv (m:Nat)] w fun e w'=>e=.returned (Iv (oI (dZ (X.gs.take m) x)))/\∃d,w'=w.drewN d:=by
 have c0:=h.c0;have hl:=h.chk.lt;have hr:=RdS.av h.g;obtain ⟨n,hn⟩:=zN X.gs.length;rw [hn] at c0 hr hm hg;obtain ⟨zx,OP⟩:=zN (str x);rw [OP];obtain ⟨r,O7⟩:=zN (oI (dZ (X.gs.take m) x));rw [O7];have HX:=Hy3 OP O7 hn;clear h O7 OP hn;go_enter func60,ntmps60;go_wp2_with fail;go_loopw [7] (fun v wr=>∃k:Nat,k<=m/\v=Iv k/\(∀j g,j<k->X.gs[j]? =some g->decide (g.s=x)=false)/\∃d,wr=w.drewN d) (fun v _=>m - (intOf v).toNat)
 case atStart=>exact ⟨0,by omega,rfl,fun j g hj=>by omega,0,rfl⟩
 case round=>
  obtain ⟨k,hk,rfl,hno,d,rfl⟩:=hrel;by_cases hlt:k<m
  ·obtain ⟨g,Uq⟩:∃g,X.gs[k]? =some g:=⟨_,List.getElem?_eq_getElem (by have:=HX.out.2.2;omega)⟩
   have u0:(X.gs.flatMap glC)[k * 4]? =some (.string (str g.s)):=by have h9:=aY glC 4 (fun _=>rfl) X.gs k 0 (by omega);rw [Nat.add_zero] at h9;rw [h9,Uq];rfl
   obtain ⟨b,o,hA,eu,hc⟩:=hr.get (fun e=>by rw [e] at u0;cases u0)
   have y0:=hc _ _ u0;have Qj:(k:Int)<m:=by omega
   have hkN:(k:Int)<n:=by omega
   rw [hA] at c0;by_cases he:g.s=x
   ·have HR:Hid (r=k):=Hy (by rw [<-HX.out.2.1,dZ,oJ Uq (by simpa using he) hlt hno];rfl)
    rw [he,HX.out.1] at y0;clear hno Uq u0 hc he hA;go_wp2_with fail;go_ret;exact ⟨(by rw [HR.out];try rfl),d,rfl⟩
   ·obtain ⟨z,hz⟩:=zN (str g.s);rw [hz] at y0;have s0:=mG hz HX.out.1 he;have HN:=Hy (show ∀j g,j<k+1->X.gs[j]? =some g->decide (g.s=x)=false from fun j g' hj Ir=>by
     by_cases hjk:j<k
     ·exact hno j g' hjk Ir
     ·obtain rfl:j=k:=by omega
      rw [Uq] at Ir;cases Ir
      simpa using he)
    clear hno Uq u0 hc he hA hz;go_wp2_with fail;go_roundw
    case rel=>exact ⟨k+1,by omega,by go_num,HN.out,d,rfl⟩
    case measure=>simp [intOf];omega
  ·obtain rfl:k=m:=by omega
   have HR:Hid (r= -1):=Hy (by rw [<-HX.out.2.1,dZ,oK hno];rfl)
   clear hno;go_wp2_with fail;go_ret;exact ⟨(by rw [HR.out];try rfl),d,rfl⟩
theorem rM (h:RV X S w)(x:Nm')(m:Nat)(hm:m<=X.fl.length)(hg:X.fl.length<=1000000):Calls prog 30 #[crp X,.string (str x),Iv (m:Nat)] w fun e w'=>e=.returned (Iv (oI (eY ((X.fl.map (·.1)).take m) x)))/\∃d,w'=w.drewN d:=by
 have c1:=h.c1;have hl:=h.chk.lt;have hr:=RdS.av h.f;have Bt:=h.vl;obtain ⟨n,hn⟩:=zN X.fl.length;rw [hn] at c1 hr hm hg Bt;obtain ⟨zx,OP⟩:=zN (str x);rw [OP];obtain ⟨r,O7⟩:=zN (oI (eY ((X.fl.map (·.1)).take m) x));rw [O7];have HX:=Hy3 OP O7 hn;have HV:=Hy Bt;clear h O7 OP hn Bt;go_enter func30,ntmps30;go_wp2_with fail;go_loopw [7] (fun v wr=>∃k:Nat,k<=m/\v=Iv k/\(∀(j:Nat) (g:Fn'),j<k->(X.fl.map (·.1))[j]? =some g->decide (g.s=x)=false)/\∃d,wr=w.drewN d) (fun v _=>m - (intOf v).toNat)
 case atStart=>exact ⟨0,by omega,rfl,fun j g hj=>by omega,0,rfl⟩
 case round=>
  obtain ⟨k,hk,rfl,hno,d,rfl⟩:=hrel;by_cases hlt:k<m
  ·obtain ⟨⟨g,pv⟩,Uq⟩:∃g,X.fl[k]? =some g:=⟨_,List.getElem?_eq_getElem (by have:=HX.out.2.2;omega)⟩
   obtain ⟨v,hv⟩:∃v,S.vls[k]? =some v:=⟨_,List.getElem?_eq_getElem (by have:=HV.out;omega)⟩
   have Er:(X.fl.map (·.1))[k]? =some g:=by rw [List.getElem?_map,Uq];rfl
   have u0:(dE X.fl S.vls)[k * 6]? =some (.string (str g.s)):=bQ X.fl S.vls k 0 (by omega) Uq hv
   obtain ⟨b,o,hA,eu,hc⟩:=hr.get (fun e=>by rw [e] at u0;cases u0)
   have y0:=hc _ _ u0;have Qj:(k:Int)<m:=by omega
   have hkN:(k:Int)<n:=by omega
   rw [hA] at c1;by_cases he:g.s=x
   ·have HR:Hid (r=k):=Hy (by rw [<-HX.out.2.1,eY,oJ Er (by simpa using he) hlt hno];rfl)
    rw [he,HX.out.1] at y0;clear hno Uq u0 hc he hA Er hv;go_wp2_with fail;go_ret;exact ⟨(by rw [HR.out];try rfl),d,rfl⟩
   ·obtain ⟨z,hz⟩:=zN (str g.s);rw [hz] at y0;have s0:=mG hz HX.out.1 he;have HN:=Hy (show ∀(j:Nat) (g:Fn'),j<k+1->(X.fl.map (·.1))[j]? =some g->decide (g.s=x)=false from fun j g' hj Ir=>by
     by_cases hjk:j<k
     ·exact hno j g' hjk Ir
     ·obtain rfl:j=k:=by omega
      rw [Er] at Ir;cases Ir
      simpa using he)
    clear hno Uq u0 hc he hA hz Er hv;go_wp2_with fail;go_roundw
    case rel=>exact ⟨k+1,by omega,by go_num,HN.out,d,rfl⟩
    case measure=>simp [intOf];omega
  ·obtain rfl:k=m:=by omega
   have HR:Hid (r= -1):=Hy (by rw [<-HX.out.2.1,eY,oK hno];rfl)
   clear hno;go_wp2_with fail;go_ret;exact ⟨(by rw [HR.out];try rfl),d,rfl⟩
theorem AL {L:List Vr}{x:Nm'}{k:Nat}{y:Vr}(hy:L[k]? =some y)(he:y.s=x)(hn:∀(j:Nat) (z:Vr),k<j->L[j]? =some z->z.s≠x):gy L x=some y.i:=by
 unfold gy;have hl:=(zS.1 hy).1;have h1:L.reverse.find? (fun y=>decide (y.s=x))=some y:=by
  rw [List.find?_eq_some_iff_getElem];refine ⟨by simpa using he,L.length - 1 - k,by simp;omega,?_,fun j hj=>?_⟩
  ·rw [List.getElem_reverse];have e:L.length - 1 - (L.length - 1 - k)=k:=by omega
   simp only [e];exact (zS.1 hy).2
  ·rw [List.getElem_reverse];have:=hn (L.length - 1 - j) _ (by omega) (zE (by omega))
   simpa using this
 rw [h1]
 rfl
theorem AO {L:List Vr}{x:Nm'}(hn:∀(j:Nat) (z:Vr),L[j]? =some z->z.s≠x):gy L x=none:=by
 unfold gy;have h1:L.reverse.find? (fun y=>decide (y.s=x))=none:=by
  rw [List.find?_eq_none];intro y hy;obtain ⟨j,hj,rfl⟩:=List.getElem_of_mem (List.mem_reverse.1 hy)
  simpa using hn j _ (zE hj)
 rw [h1]
 rfl
theorem AP (h:RV X S w)(x:Nm')(hL:S.L.length<=1000000):Calls prog 157 #[crp X,.string (str x)] w fun e w'=>e=.returned (Iv (oI (gy S.L x)))/\∃d,w'=w.drewN d:=by
 have c4:=h.c4;have hl:=h.chk.lt;have hr:=RdS.av h.l;obtain ⟨A,c,hv⟩:=hr.shape;rw [hv] at c4 hr;obtain ⟨n,hn⟩:=zN S.L.length;rw [hn] at c4 hr hL;obtain ⟨zx,OP⟩:=zN (str x);rw [OP];obtain ⟨r,O7⟩:=zN (oI (gy S.L x));rw [O7];have HX:=Hy3 OP O7 hn;clear h O7 OP hn hv;have hw1:IntKind.i64.wrap ((n:Int) - 1)=(n:Int) - 1:=wrap_small (by omega) (by omega)
 go_enter func157,ntmps157;go_wp2_with fail;go_loopw [5] (fun v wr=>∃k:Nat,k<=n/\v=Iv ((k:Int) - 1)/\(∀(j:Nat) (z:Vr),k<=j->S.L[j]? =some z->z.s≠x)/\∃d,wr=w.drewN d) (fun v _=>(intOf v+1).toNat)
 case atStart=>exact ⟨n,by omega,by first|rfl|go_num,fun j z hj hz=>by have:=(zS.1 hz).1;have:=HX.out.2.2;omega,0,rfl⟩
 case round=>
  obtain ⟨k,hk,rfl,hno,d,rfl⟩:=hrel;cases k with
  |succ k=>
   obtain ⟨y,hy⟩:∃y,S.L[k]? =some y:=⟨_,List.getElem?_eq_getElem (by have:=HX.out.2.2;omega)⟩
   have hu:=fun i hi=>aY vrC 3 (fun _=>rfl) S.L k i hi
   simp only [hy,Option.bind_some] at hu;have u0:(S.L.flatMap vrC)[k * 3]? =some (.string (str y.s)):=hu 0 (by omega)
   have u1:(S.L.flatMap vrC)[k * 3+1]? =some (Iv (y.i:Nat)):=hu 1 (by omega)
   obtain ⟨b,o,rfl,eu,hc⟩:=hr.get (fun e=>by rw [e] at u0;cases u0)
   have y0:=hc _ _ u0;have y1:Ce w b (o+k * 3+1) (Iv (y.i:Nat)):=hc _ _ u1;have hkN:(k:Int)<n:=by omega
   have ek:((k+1:Nat):Int) - 1=(k:Int):=by omega
   rw [ek];by_cases he:y.s=x
   ·have HR:Hid (r=(y.i:Nat)):=Hy (by rw [<-HX.out.2.1,AL hy he (fun j z hj hz=>hno j z (by omega) hz)];rfl)
    rw [he,HX.out.1] at y0;clear hno hy u0 u1 hu hc he ek;go_wp2_with fail;go_ret;exact ⟨(by rw [HR.out];try rfl),d,rfl⟩
   ·obtain ⟨z,hz⟩:=zN (str y.s);rw [hz] at y0;have s0:=mG hz HX.out.1 he;have HN:=Hy (show ∀(j:Nat) (z:Vr),k<=j->S.L[j]? =some z->z.s≠x from fun j z' hj hz'=>by
     by_cases hjk:j=k
     ·subst hjk;rw [hy] at hz';cases hz';exact he
     ·exact hno j z' (by omega) hz')
    clear hno hy u0 u1 hu hc he hz ek;go_wp2_with fail;go_roundw
    case rel=>exact ⟨k,by omega,by go_num,HN.out,d,rfl⟩
    case measure=>simp [intOf] <;> omega
  |zero=>
   have HR:Hid (r= -1):=Hy (by rw [<-HX.out.2.1,AO (fun j z hz=>hno j z (by omega) hz)];rfl)
   clear hno;go_wp2_with fail;go_ret;exact ⟨(by rw [HR.out];try rfl),d,rfl⟩
theorem mI (h:RV X S w)(x:Nm')(hg:X.gs.length<=1000000):Calls prog 60 #[crp X,.string (str x),Iv (X.gs.length:Nat)] w fun e w'=>e=.returned (Iv (oI (dZ X.gs x)))/\Zw w w':=
 (ow h x X.gs.length (zL _) hg).mono fun e w' ⟨h1,d,h2⟩=>⟨by rw [h1,List.take_length],by rw [h2];exact below_drewN _ _ _⟩
theorem vw (h:RV X S w)(x:Nm')(hg:X.fl.length<=1000000):Calls prog 30 #[crp X,.string (str x),Iv (X.fl.length:Nat)] w fun e w'=>e=.returned (Iv (oI (eY (X.fl.map (·.1)) x)))/\Zw w w':=
 (rM h x X.fl.length (zL _) hg).mono fun e w' ⟨h1,d,h2⟩=>⟨by rw [h1,List.take_of_length_le (by simp)],by rw [h2];exact below_drewN _ _ _⟩
theorem uy (h:RV X S w)(x:Nm')(hL:S.L.length<=1000000):Calls prog 157 #[crp X,.string (str x)] w fun e w'=>e=.returned (Iv (oI (gy S.L x)))/\Zw w w':=
 (AP h x hL).mono fun e w' ⟨h1,d,h2⟩=>⟨h1,by rw [h2];exact below_drewN _ _ _⟩
theorem IE (o:Option Nat):decide (0<=oI o)=o.isSome:=by
 cases o with
 |none=>rfl
 |some i=>simp [oI]
theorem yJ (h:RV X S w)(x:Nm')(hL:S.L.length<=1000000)(hg:X.gs.length<=1000000)(hf:X.fl.length<=1000000):Calls prog 156 #[crp X,.string (str x)] w fun e w'=>e=.returned (.bool (cK X.gs (X.fl.map (·.1)) S.L x))/\Zw w w':=by
 have HV:=Hy (uy h x hL);obtain ⟨o1,ho1⟩:=zN (gy S.L x);obtain ⟨o2,ho2⟩:=zN (dZ X.gs x);obtain ⟨o3,ho3⟩:=zN (eY (X.fl.map (·.1)) x);have hR:cK X.gs (X.fl.map (·.1)) S.L x=(o1.isSome || (o2.isSome || o3.isSome)):=by rw [cK,ho1,ho2,ho3]
 rw [hR];rw [ho1] at HV;have HG:Hid (∀W,Zw w W->Calls prog 60 #[crp X,.string (str x),Iv (X.gs.length:Nat)] W fun e w'=>e=.returned (Iv (oI o2))/\Zw w w'):=Hy fun W hW=>(mI (h.on hW) x hg).mono fun e w' h=>⟨by rw [h.1,ho2],hW.trans (h.2.mono hW.size)⟩
 have HF:Hid (∀W,Zw w W->Calls prog 30 #[crp X,.string (str x),Iv (X.fl.length:Nat)] W fun e w'=>e=.returned (Iv (oI o3))/\Zw w w'):=Hy fun W hW=>(vw (h.on hW) x hf).mono fun e w' h=>⟨by rw [h.1,ho3],hW.trans (h.2.mono hW.size)⟩
 have HS:Hid (∀W,Zw w W->Ce W X.b 0 (.slice X.gA X.gs.length X.gc)/\Ce W X.b 1 (.slice X.fA X.fl.length X.fc)/\X.b<W.heap.size):=Hy fun W hW=>⟨(h.on hW).c0,(h.on hW).c1,(h.on hW).chk.lt⟩
 obtain ⟨gn,qm⟩:=zN X.gs.length;obtain ⟨fn,ut⟩:=zN X.fl.length;obtain ⟨zx,OP⟩:=zN (str x);rw [OP,qm] at HG;rw [OP,ut] at HF;rw [qm,ut] at HS;rw [OP] at HV |-;have hl:=h.chk.lt;clear h hR ho1 ho2 ho3 qm ut OP hg hf hL;go_enter func156,ntmps156;go_wp2_with fail;refine HV.out.mono ?_;clear HV;rintro e w1 ⟨rfl,av⟩;cases o1 with
 |some i=>
  have q0:(0:Int)<=(i:Int):=by omega
  have HB:=Hy av;clear av;simp only [oI];go_wp2_with fail;go_ret;exact ⟨by simp,HB.out⟩
 |none=>
  obtain ⟨c0,c1,cl⟩:=HS.out _ av;have Z9:=Hy (HG.out _ av);simp only [oI];clear av HG;go_wp2_with fail;refine Z9.out.mono ?_;clear Z9;rintro e w2 ⟨rfl,aU⟩;cases o2 with
  |some i=>
   have q0:(0:Int)<=(i:Int):=by omega
   have HB:=Hy aU;clear aU c0 c1;simp only [oI];go_wp2_with fail;go_ret;exact ⟨by simp,HB.out⟩
  |none=>
   obtain ⟨c0',YM,cl'⟩:=HS.out _ aU;have Vt:=Hy (HF.out _ aU);simp only [oI];clear aU HF c0 c1;go_wp2_with fail;refine Vt.out.mono ?_;clear Vt;rintro e w3 ⟨rfl,lW⟩;have HB:=Hy lW;clear lW c0' YM;cases o3 with
   |some i=>
    have q0:(0:Int)<=(i:Int):=by omega
    simp only [oI];go_wp2_with fail;go_ret;exact ⟨by simp,HB.out⟩
   |none=>
    simp only [oI];go_wp2_with fail;go_ret;exact ⟨by simp,HB.out⟩
end
end
section
open Go Go.RowKit Go.Maps
abbrev ndV (h:Hd) (v:Value) (t:Int×Int):Value:=.agg #[Iv h.op,Iv h.p,Iv h.n,.string (str h.s),Iv h.to,v,Iv t.1,Iv t.2]
abbrev ndC (h:Hd) (v:Value) (t:Int×Int):Array Value:=#[Iv h.op,Iv h.p,Iv h.n,.string (str h.s),Iv h.to,v,Iv t.1,Iv t.2]
structure NdX (X:RX) (x:CN) (kn:Nat):Prop where
 mem:x∈X.ns
 len:x.kids.length=kn
 le:kn<=1000000
 kid:∀k∈x.kids,k<X.ns.length
 n2:X.ns.length<=1000000
structure NoP (X:RX) (S':RS) (w w':World):Prop where
 rv:RV X S' w'
 gr:w.grownBy w' (some X.b)
theorem GL {w w':World}{r:Option Nat}(h:w.grownBy w' none):w.grownBy w' r:=⟨h.os,h.tape,h.output,h.size,fun k hk _=>h.block k hk (by simp)⟩
theorem mh {w w':World}{r:Option Nat}(h:Zw w w'):w.grownBy w' r:=GL (aj h)
section
variable {X:RX} {S S':RS} {w w' w'':World}
theorem NoP.low (h:NoP X S' w w')(hb:Zw w' w''):NoP X S' w w'':=⟨h.rv.on hb,fG h.gr (mh hb)⟩
theorem NoP.refl (h:RV X S w):NoP X S w w:=⟨h,mh (zB _ _)⟩
theorem NoP.of (h:RV X S w)(hb:Zw w w'):NoP X S w w':=(NoP.refl h).low hb
theorem NoP.trans {Ry:RS}(h:NoP X S' w w')(h2:NoP X Ry w' w''):NoP X Ry w w'':=⟨h2.rv,fG h.gr h2.gr⟩
theorem NoP.before {Ry:RS}(hb:Zw w w')(h2:NoP X Ry w' w''):NoP X Ry w w'':=⟨h2.rv,fG (mh hb) h2.gr⟩
theorem dz (h:RV X S w)(bad:Bool)(no p:Int):Calls prog 31 #[crp X,.bool bad,Iv no,Iv p] w fun e w'=>e=.returned (.tuple #[])/\NoP X {S with d:=dN S.d bad no p} w w':=
 (Ka h bad no p).mono fun e w' h=>⟨h.1,h.2.1,h.2.2⟩
theorem AV {tr:List (Int×Int)}{k:Nat}{t:Int×Int}(h:tr[k]? =some t):dJ tr k=t.1:=by simp [dJ,List.getD,h]
theorem uU (h:RV X S w){x:CN}{kn:Nat}(hx:NdX X x kn)(t:Int×Int){j k:Nat}(hj:x.kids[j]? =some k):Calls prog 135 #[crp X,ndV x.h x.v t,Iv (j:Nat)] w fun e w'=>e=.returned (Iv (dJ S.tr k))/\Zw w w':=by
 have hk:=hx.kid k (zG hj);obtain ⟨y,hy⟩:∃y,X.ns[k]? =some y:=⟨_,List.getElem?_eq_getElem hk⟩;obtain ⟨u,hu⟩:∃u,S.tr[k]? =some u:=⟨_,List.getElem?_eq_getElem (by rw [h.tl];exact hk)⟩
 rw [AV hu];have xP:=(zS.1 hj).1;have uM:=hx.len;have wW:=hx.n2;have c2:=h.c2;have hl:=h.chk.lt;have rk:=RdS.av (h.ks x hx.mem).1;rw [uM] at rk;have rn:=RdS.av h.n;obtain ⟨nn,DC⟩:=zN X.ns.length;rw [DC] at c2 rn hk wW;have v1:(ints (bK x.kids))[j]? =some (Iv (k:Nat)):=by simp [ints,bK,hj]
 have v2:(aI X.ns S.tr)[k * 8+6]? =some (Iv u.1):=aV X.ns S.tr k 6 (by omega) hy hu
 obtain ⟨kA,kc,hv⟩:=rk.shape;rw [hv] at rk;obtain ⟨b1,s1,rfl,av,Ab⟩:=rk.get (fun e=>by rw [e] at v1;cases v1)
 obtain ⟨b2,s2,hA,aU,IR⟩:=rn.get (fun e=>by rw [e] at v2;cases v2)
 rw [hA] at c2;have r1:=Ab _ _ v1;have r2:Ce w b2 (s2+k * 8+6) (Iv u.1):=IR _ _ v2;obtain ⟨xh,xk,xv⟩:=x;simp only at hv uM xP hj;subst hv;obtain ⟨o1,o2,o3,o4,o5,o6⟩:=xh;obtain ⟨t1,t2⟩:=t;obtain ⟨u1,u2⟩:=u;simp only at r2 |-;have hb:Zw w (w.alloc (.cells #[Iv o1,Iv o2,Iv o3,.string (str o4),Iv o5,.slice (some ⟨b1,s1,none⟩) kn kc,Iv t1,Iv t2] tNd)):=(zB _ _).alloc (zL _) _;have k2:=Blk.new w tNd #[Iv o1,Iv o2,Iv o3,.string (str o4),Iv o5,.slice (some ⟨b1,s1,none⟩) kn kc,Iv t1,Iv t2];have q1:=(hb.cell (p:=⟨b1,s1+j,none⟩) av).trans r1;have q2:=(hb.cell (p:=⟨b2,s2+k * 8+6,none⟩) aU).trans r2;have q3:=(hb.cell (p:=⟨X.b,2,none⟩) hl).trans c2;have hjI:(j:Int)<kn:=by omega
 have Qj:(k:Int)<nn:=by omega
 clear h hx hj hy hu rk rn v1 v2 Ab IR r1 r2 c2 hA DC uM xP;go_enter func135,ntmps135;go_upto_region 1 with (fail);have lX:=zT hl hb.size;have l1:=zT av hb.size;have l2:=zT aU hb.size;generalize w.alloc (.cells #[Iv o1,Iv o2,Iv o3,.string (str o4),Iv o5,.slice (some ⟨b1,s1,none⟩) kn kc,Iv t1,Iv t2] tNd)=W at *;have m5:Ce W w.heap.size 5 (.slice (some ⟨b1,s1,none⟩) kn kc):=k2.cell 5;have ml:=k2.lt;have HB:=Hy hb;clear k2 hb;go_quiet (fail);go_wp2_with fail;go_ret;exact ⟨rfl,by first|exact HB.out|exact HB.out.drew|exact HB.out.trans (below_drewN _ _ _)⟩
theorem xZ (tr:List (Int×Int))(p:Int):∀(l:List Nat) (k:Nat) (d:Int×Int),aN tr p (l ++ [k]) d=dN (aN tr p l d) (decide (dJ tr k=0)) 6 p:=by
 intro l
 induction l with
 |nil=>intro k d;rfl
 |cons a l ih=>intro k d;simp only [List.cons_append,aN,ih]
theorem dB (h:RV X S w){x:CN}{kn:Nat}(hx:NdX X x kn)(t:Int×Int)(m:Nat)(hm:m<=kn):Calls prog 133 #[crp X,ndV x.h x.v t,Iv (m:Nat)] w fun e w'=>e=.returned (.tuple #[])/\NoP X {S with d:=aN S.tr x.h.p (x.kids.take m) S.d} w w':=by
 have hb:Zw w (w.alloc (.cells (ndC x.h x.v t) tNd)):=(zB _ _).alloc (zL _) _;have k2:=Blk.new w tNd (ndC x.h x.v t);have NR:=h.chk.lt;have h2:=h.on hb;have HX:=Hy2 hx hb;have QF:=hx.le;obtain ⟨kA,kc,hv⟩:∃A c,x.v=.slice A kn c:=by have h9:=(RdS.av (h.ks x hx.mem).1).shape;rw [hx.len] at h9;exact h9
 clear h hx;obtain ⟨xh,xk,xv⟩:=x;simp only at hv;subst hv;obtain ⟨o1,o2,o3,o4,o5,o6⟩:=xh;obtain ⟨t1,t2⟩:=t;simp only at *;go_enter func133,ntmps133;go_upto_region 1 with (fail);obtain ⟨H,hH⟩:=zN w.heap.size;rw [hH] at k2;have Wd:X.b<H:=by omega
 generalize w.alloc (.cells #[Iv o1,Iv o2,Iv o3,.string (str o4),Iv o5,.slice kA kn kc,Iv t1,Iv t2] tNd)=W at *;have K2:=Hy k2;have H2:=Hy h2;simp only [hH];clear k2 h2 hb NR hH;go_wp2_with fail;go_loopw [6] (fun v wr=>∃j:Nat,j<=m/\v=Iv j/\NoP X {S with d:=aN S.tr o2 (xk.take j) S.d} W wr) (fun v _=>m - (intOf v).toNat)
 case atStart=>exact ⟨0,by omega,rfl,by simpa [aN] using NoP.refl H2.out⟩
 case round=>
  obtain ⟨j,hj,rfl,hP⟩:=hrel;by_cases hlt:j<m
  ·obtain ⟨k,hk⟩:∃k,xk[j]? =some k:=⟨_,List.getElem?_eq_getElem (by have:=HX.out.1.len;simp only at this;omega)⟩
   have k3:=ak hP.gr K2.out (by simp;omega)
   obtain ⟨ty,hty⟩:=zN (dJ S.tr k);have HK:Hid (∀W',Zw wr W'->Calls prog 135 #[crp X,.agg #[Iv o1,Iv o2,Iv o3,.string (str o4),Iv o5,.slice kA kn kc,Iv t1,Iv t2],Iv (j:Nat)] W' fun e w'=>e=.returned (Iv ty)/\Zw wr w'):=Hy fun W' dK=>
    (uU (hP.rv.on dK) HX.out.1 (t1,t2) hk).mono fun e w' h=>⟨by rw [h.1,<-hty],dK.trans (h.2.mono dK.size)⟩
   have HN:Hid (∀W',Zw wr W'->Calls prog 31 #[crp X,.bool (decide (ty=0)),Iv 6,Iv o2] W' fun e w'=>e=.returned (.tuple #[])/\NoP X {S with d:=aN S.tr o2 (xk.take (j+1)) S.d} wr w'):=Hy fun W' dK=>
    (dz (hP.rv.on dK) (decide (ty=0)) 6 o2).mono fun e w' h=>⟨h.1,by
     have h9:=NoP.before dK h.2;rw [List.take_add_one,hk,Option.toList_some,xZ,hty];exact h9⟩
   have HS:Hid (∀Wx,Zw wr Wx->Ce Wx H 0 (Iv o1)/\Ce Wx H 1 (Iv o2)/\Ce Wx H 2 (Iv o3)/\Ce Wx H 3 (.string (str o4))/\Ce Wx H 4 (Iv o5)/\Ce Wx H 5 (.slice kA kn kc)/\Ce Wx H 6 (Iv t1)/\Ce Wx H 7 (Iv t2)/\H<Wx.heap.size):=Hy fun Wx hW=>by
    have u:=k3.below hW k3.lt;exact ⟨u.cell 0,u.cell 1,u.cell 2,u.cell 3,u.cell 4,u.cell 5,u.cell 6,u.cell 7,u.lt⟩
   have qh:Hid (∀Wx,wr.grownBy Wx (some X.b)->Ce Wx H 0 (Iv o1)/\Ce Wx H 1 (Iv o2)/\Ce Wx H 2 (Iv o3)/\Ce Wx H 3 (.string (str o4))/\Ce Wx H 4 (Iv o5)/\Ce Wx H 5 (.slice kA kn kc)/\Ce Wx H 6 (Iv t1)/\Ce Wx H 7 (Iv t2)/\H<Wx.heap.size):=Hy fun Wx hW=>by
    have u:=ak hW k3 (by simp;omega)
    exact ⟨u.cell 0,u.cell 1,u.cell 2,u.cell 3,u.cell 4,u.cell 5,u.cell 6,u.cell 7,u.lt⟩
   obtain ⟨m0,m1,m2,m3,m4,m5,m6,m7,ml⟩:=HS.out wr (zB _ _);have J:Zw wr wr:=zB _ _;have HP:=Hy hP;clear hP k3 hk hty;go_upto_region 4 with (fail);go_region_held2 (fun Wx=>Ce Wx H 0 (Iv o1)/\Ce Wx H 1 (Iv o2)/\Ce Wx H 2 (Iv o3)/\Ce Wx H 3 (.string (str o4))/\Ce Wx H 4 (Iv o5)/\Ce Wx H 5 (.slice kA kn kc)/\Ce Wx H 6 (Iv t1)/\Ce Wx H 7 (Iv t2)/\H<Wx.heap.size)
    (first|exact ⟨m0,m1,m2,m3,m4,m5,m6,m7,ml⟩|exact qh.out _ P2.gr|exact HS.out _ J)
    (first
    | (go_at_call 135;(with_reducible refine Calls.mono (HK.out _ (by first|exact J|exact J.drew)) ?_);rintro e v1 ⟨rfl,J⟩)
    | (go_at_call 31;(with_reducible refine Calls.mono (HN.out _ (by first|exact J|exact J.drew)) ?_);rintro e v2 ⟨rfl,P2⟩))
   all_goals
    have HC:=Hy (HP.out.trans (show NoP X {S with d:=aN S.tr o2 (xk.take (j+1)) S.d} wr _ from by first|exact P2|exact P2.drew))
    clear P2 HS qh HK HN m0 m1 m2 m3 m4 m5 m6 m7 ml J;go_wp2_with fail;go_roundw
    case rel=>exact ⟨j+1,by omega,by go_num,by first|exact HC.out|exact HC.out.drew⟩
    case measure=>simp [intOf];omega
  ·obtain rfl:j=m:=by omega
   have HP:=Hy hP;clear hP;go_wp2_with fail;go_end0;exact ⟨rfl,NoP.before HX.out.2 HP.out⟩
end
end
end Go.Proofs.YtcchdlnfeijinaaGreatDoor
