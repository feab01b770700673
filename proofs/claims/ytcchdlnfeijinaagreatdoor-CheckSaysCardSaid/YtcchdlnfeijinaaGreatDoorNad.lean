/- Pra to Ckp: PLAIN MATHEMATICS of layer parse: what is printed of trees: their tokens; the pieces that wait in a  -/
import Derived.Test.YtcchdlnfeijinaaGreatDoorNac
import Derived.Test.YtcchdlnfeijinaaGreatDoorNaa
import Derived.Test.YtcchdlnfeijinaaGreatDoorNab
import Derived.Lib.ItoaLen
import Derived.Test.YtcchdlnfeijinaaGreatDoorChecked
import Derived.Maps.Own
import Derived.Maps.OwnSet
import Derived.Maps.OwnOps
import Derived.Maps.Views
import Derived.StringKeys
namespace Go.Proofs.YtcchdlnfeijinaaGreatDoor
open Go.Proofs.Tryz
set_option linter.unusedSectionVars false
set_option linter.unusedSimpArgs false
set_option linter.unusedVariables false
section
def ww (t:Int):List UInt8:=if t=1 then lQ else if t=2 then iO else if t=3 then pM else pK
def jc (op:Int) (n:Nat):List (List UInt8):=
 if op=1 then [[78]]
 else if op=2 then [[83]]
 else if op=3 then [[83],[91],[48],[93]]
 else if op=4 then [[83],[48]]
 else if op=5 then [[48],[83],[49]]
 else if op=6 then [[40],[84],[41],[48]]
 else if op=7 then [[83],[40],[42,44],[41]]
 else if op=8 then [wIn,[40],[41]]
 else if op=11 then [[123],[42],[125]]
 else if op=12 then [[84],[83],[61],[48],[59]]
 else if op=13 then [[83],[61],[48],[59]]
 else if op=14 then [[83],[91],[48],[93],[61],[49],[59]]
 else if op=15 then (if 2<n then [wIf,[40],[48],[41],[49],jG,[50]] else [wIf,[40],[48],[41],[49]])
 else if op=16 then [gP,[40],[48],[41],[49]]
 else if op=17 then [jF,[83],[59]]
 else if op=18 then [[83],[58],[48]]
 else if op=19 then (if 0<n then [dS,[48],[59]] else [dS,[59]])
 else if op=20 then [mU,[40],[48],[41],[59]]
 else if op=21 then [[48],[59]]
 else []
def EH (h:Hd):List UInt8:=Lib.itoa h.n ++ if h.ty=2 then [76] else []
def MM (h:Hd) (i:Nat) (h':Hd):Bool:=
 if h'.op=5 then (if h.op=4∨h.op=6 then true else if h.op=5 then (if i=0 then decide (lvl h'.s<lvl h.s) else decide (lvl h'.s<=lvl h.s)) else false) else false
abbrev Tx:=List (List UInt8)
def yO (h:Hd) (i:Nat):Option (Hd×Tx)->Tx
 |some (h',t)=>if MM h i h' then [40] ::(t ++ [[41]]) else t
 |none=>[]
def CZ (x:List UInt8):List (Hd×Tx)->Tx
 | []=>[]
 |a ::l=>a.2 ++ l.flatMap fun b=>x ::b.2
def partT (h:Hd) (l:List (Hd×Tx)) (x:List UInt8):Tx:=
 if x=[78] then [EH h] else if x=[83] then [h.s] else if x=[84] then [ww h.to]
 else if x=[48] then yO h 0 l[0]? else if x=[49] then yO h 1 l[1]? else if x=[50] then yO h 2 l[2]?
 else if x=[42] then l.flatMap (·.2) else if x=[42,44] then CZ [44] l else [x]
def j4 (h:Hd) (l:List (Hd×Tx)):Tx:=(jc h.op l.length).flatMap (partT h l)
def Fo.tk:Fo->List (Hd×Tx)
 | .nil=>[]
 | .cons h k r=>(h,j4 h k.tk) ::r.tk
inductive Pz where
 |tk (s:List UInt8)
 |nd (h:Hd) (k:Fo) (c:Nat)
def gG (c:Nat):Fo->List Pz
 | .nil=>[]
 | .cons h k r=>.nd h k c ::gG (c+k.size+1) r
def uW (h:Hd) (i:Nat):Option Pz->List Pz
 |some (.nd h' k' c')=>if MM h i h' then [.tk [40],.nd h' k' c',.tk [41]] else [.nd h' k' c']
 |_=>[]
def Db (x:List UInt8):List Pz->List Pz
 | []=>[]
 |a ::l=>a ::l.flatMap fun b=>[.tk x,b]
def kF (h:Hd) (l:List Pz) (x:List UInt8):List Pz:=
 if x=[78] then [.tk (EH h)] else if x=[83] then [.tk h.s] else if x=[84] then [.tk (ww h.to)]
 else if x=[48] then uW h 0 l[0]? else if x=[49] then uW h 1 l[1]? else if x=[50] then uW h 2 l[2]?
 else if x=[42] then l else if x=[42,44] then Db [44] l else [.tk x]
def pcs (h:Hd) (k:Fo) (c:Nat):List Pz:=(jc h.op k.len).flatMap (kF h (gG c k))
def Pz.ht:Pz->Hd×Tx
 | .tk s=>(⟨0,0,0,[],0,0⟩,[s])
 | .nd h k _=>(h,j4 h k.tk)
def Pz.out (p:Pz):Tx:=p.ht.2
def arity (op:Int) (n:Nat):Bool:=
 if op=1∨op=2∨op=8∨op=17 then n == 0
 else if op=3∨op=4∨op=6∨op=12∨op=13∨op=18∨op=20∨op=21 then n == 1
 else if op=5∨op=14∨op=16 then n == 2
 else if op=15 then n == 2 || n == 3
 else if op=19 then n == 0 || n == 1
 else op == 7 || op == 11
def qJ (op:Int):Bool:=op == 2 || op == 3 || op == 4 || op == 5 || op == 7 || op == 12 || op == 13 || op == 14 || op == 17 || op == 18
structure NOk (h:Hd) (n:Nat):Prop where
 ar:arity h.op n=true
 nm:qJ h.op=true->h.s≠[]
 sl:h.s.length<=24
 lo: -9223372036854775808<=h.n
 hi:h.n<=9223372036854775807
 tos:0<=h.to/\h.to<=3
def Fo.ok:Fo->Prop
 | .nil=>True
 | .cons h k r=>NOk h k.len/\k.ok/\r.ok
def Pz.ok:Pz->Prop
 | .tk s=>s≠[]/\s.length<=45
 | .nd h k _=>NOk h k.len/\k.ok
def Pz.rng:Pz->List Nat
 | .tk _=>[]
 | .nd _ k c=>List.range' c (k.size+1)
def mV (l:List (Hd×Tx)):Nat:=(l.map fun a=>a.2.length).sum
end
section
theorem Fo.ky (x:Fo):∀c k,k∈x.roots c->c<=k/\k<c+x.size:=by
 induction x with
 |nil=>intro c k h;cases h
 |cons h y r _ ih=>
  intro c k hk;simp only [Fo.roots,List.mem_cons] at hk;simp only [Fo.size];rcases hk with rfl|hk
  ·omega
  ·have:=ih _ _ hk;omega
theorem Fo.Di (x:Fo):∀c,(x.roots c).Pairwise (· < ·):=by
 induction x with
 |nil=>intro c;exact List.Pairwise.nil
 |cons h y r _ ih=>
  intro c;refine List.Pairwise.cons (fun k hk=>?_) (ih _)
  have:=Fo.ky r _ _ hk;omega
def uT (l:List Nd):List Nat:=l.flatMap Nd.kids
theorem Fo.BP (x:Fo):∀c (i:Nat) (n:Nd),(x.flat c)[i]? =some n->n.kids.Pairwise (· < ·)/\∀k∈n.kids,c<=k/\k<c+i:=by
 induction x with
 |nil=>intro c i n h;simp [Fo.flat] at h
 |cons h y r ih1 ih2=>
  intro c i n hi;simp only [Fo.flat] at hi;have hl:=Fo.aD y c;by_cases h1:i<y.size
  ·rw [List.getElem?_append_left (by omega)] at hi
   exact ih1 c i n hi
  ·rw [List.getElem?_append_right (by omega),hl] at hi
   by_cases h2:i=y.size
   ·subst h2;simp at hi;subst hi;exact ⟨Fo.Di y c,fun k hk=>Fo.ky y c k hk⟩
   ·obtain ⟨j,hj⟩:∃j,i=y.size+(j+1):=⟨i - y.size - 1,by omega⟩
    subst hj;rw [show y.size+(j+1) - y.size=j+1 by omega,List.getElem?_cons_succ] at hi
    have h3:=ih2 _ j n hi;exact ⟨h3.1,fun k hk=>by have:=h3.2 k hk;omega⟩
def Fo.ar:Fo->Prop
 | .nil=>True
 | .cons h k r=>arity h.op k.len=true/\k.ar/\r.ar
theorem Fo.GZ (x:Fo):∀c,x.ar->∀n∈x.flat c,arity n.h.op n.kids.length=true:=by
 induction x with
 |nil=>intro c _ n h;cases h
 |cons h y r ih1 ih2=>
  intro c ha n hn;simp only [Fo.flat,List.mem_append,List.mem_cons] at hn;rcases hn with hn|rfl|hn
  ·exact ih1 c ha.2.1 n hn
  ·simp only [Fo.dK];exact ha.1
  ·exact ih2 _ ha.2.2 n hn
theorem Ans.and {α:Type}{P Q:α->St->Prop}{r:Rs α}(h:Ans P r)(h2:Ans Q r):Ans (fun a s=>P a s/\Q a s) r:=by
 cases r with
 |ok a s=>exact ⟨h,h2⟩
 |er n p=>trivial
 |out=>trivial
theorem Ends.ans {α:Type}{n:Nat}{s:St}{r:Rs α}(h:Ends n s r):Ans (fun _ s'=>s'.l.length+n<=s.l.length) r:=by
 cases r with
 |ok a s=>exact h
 |er n p=>trivial
 |out=>trivial
section
variable {V:Tok->Prop}
theorem It.ar {it:It}{h:Hd}{k:Fo}(h1:okI V it h k.len)(h2:Gr V (kI it h k.len).1 (kI it h k.len).2 k):arity h.op k.len=true:=by
  cases it with
  |e d lv=>
    simp only [kI] at h2;rcases h1 with h1|h1|h1|h1|h1|h1|h1|h1
    all_goals
      have ho:=h1.1;first
      | (simp [kE,ho] at h2
         have hl:=h2.len;simp at hl;simp [arity,ho,hl]
         done)
      | (simp [arity,ho];done)
      | (simp [kE,ho] at h2
         split at h2
         · have hl:=h2.len;simp at hl;simp [arity,ho,hl]
         · have hl:=h2.len;simp at hl;simp [arity,ho,hl])
  |s d cl=>
    simp only [kI] at h2;obtain ⟨-,-,-,h1⟩:=h1;rcases h1 with h1|h1|h1|h1|h1|h1|h1|h1|h1|h1|h1
    all_goals
      have ho:=h1.1;first
      | (simp [arity,ho];done)
      | (simp [kS,ho] at h2
         have hl:=h2.len;simp at hl;simp [arity,ho,hl]
         done)
      | (have hn:=h1.2.2.2
         simp [arity,ho];omega)
  |c d=>
    have ho:=h1.1;simp [arity,ho]
theorem Gr.ar {x:Fo}:∀{p:List It} {st:Option It},Gr V p st x->x.ar:=by
 induction x with
 |nil=>intro p st _;trivial
 |cons h k r ih1 ih2=>
  intro p st hg;cases p with
  |cons it p=>simp only [Gr] at hg;exact ⟨It.ar hg.1 hg.2.1,ih1 hg.2.1,ih2 hg.2.2⟩
  |nil=>
   cases st with
   |none=>simp [Gr] at hg
   |some it=>simp only [Gr] at hg;exact ⟨It.ar hg.1 hg.2.1,ih1 hg.2.1,ih2 hg.2.2⟩
structure TkV (t:Tok):Prop where
 sl:t.s.length<=24
 nm:jX t=true->t.s≠[]
 lo: -9223372036854775808<=t.n
 hi:t.n<=9223372036854775807
theorem Nm.sl (hV:∀t,V t->TkV t){x:List UInt8}(h:Nm V x):x.length<=24/\x≠[]:=by
 obtain ⟨t,h1,h2,rfl⟩:=h;exact ⟨(hV t h1).sl,(hV t h1).nm h2⟩
theorem Gm {x:List UInt8}(h:1<=lvl x):x.length<=24/\x≠[]:=by
 unfold lvl at h
 repeat (split at h;(rename_i e;first|(subst e;simp)|(rcases e with rfl|rfl <;> simp)|(rcases e with rfl|rfl|rfl <;> simp)|(rcases e with rfl|rfl|rfl|rfl <;> simp)))
 omega
theorem It.nok (hV:∀t,V t->TkV t){it:It}{h:Hd}{k:Fo}(h1:okI V it h k.len)(h2:Gr V (kI it h k.len).1 (kI it h k.len).2 k):NOk h k.len:=by
 have ha:=It.ar h1 h2;have OO:h.n=0-> -9223372036854775808<=h.n/\h.n<=9223372036854775807:=by omega
 cases it with
 |e d lv=>
  rcases h1 with ⟨ho,_,⟨t,ht,-,hn,-⟩,hs,Om⟩|⟨ho,_,hm,hn,Om,_⟩|⟨ho,_,hm,hn,Om,_⟩|⟨ho,_,hm,hn,Om,_⟩|⟨ho,_,hm,hn,Om,_⟩|⟨ho,_,hs,hn,Om,_⟩|⟨ho,_,hm,hn,Om,_⟩|⟨ho,_,hs,hn,Om,_⟩
  ·exact ⟨ha,by simp [ho,qJ],by simp [hs],hn ▸ (hV t ht).lo,hn ▸ (hV t ht).hi,by omega⟩
  ·have:=Nm.sl hV hm;exact ⟨ha,fun _=>this.2,this.1,(OO hn).1,(OO hn).2,by omega⟩
  ·have:=Nm.sl hV hm;exact ⟨ha,fun _=>this.2,this.1,(OO hn).1,(OO hn).2,by omega⟩
  ·exact ⟨ha,fun _=>by rcases hm with h|h|h <;> simp [h],by rcases hm with h|h|h <;> simp [h],(OO hn).1,(OO hn).2,by omega⟩
  ·have:=Gm hm;exact ⟨ha,fun _=>this.2,this.1,(OO hn).1,(OO hn).2,by omega⟩
  ·exact ⟨ha,by simp [ho,qJ],by simp [hs],(OO hn).1,(OO hn).2,by omega⟩
  ·have:=Nm.sl hV hm;exact ⟨ha,fun _=>this.2,this.1,(OO hn).1,(OO hn).2,by omega⟩
  ·exact ⟨ha,by simp [ho,qJ],by simp [hs],(OO hn).1,(OO hn).2,by omega⟩
 |s d cl=>
  obtain ⟨-,hn,-,h1⟩:=h1;rcases h1 with ⟨ho,hs,Om⟩|⟨ho,hm,Om⟩|⟨ho,hm,Om⟩|⟨ho,hm,Om⟩|⟨ho,hs,Om,_⟩|⟨ho,hs,Om⟩|⟨ho,hm,Om⟩|⟨ho,hm,Om⟩|⟨ho,hs,Om,_⟩|⟨ho,hs,Om⟩|⟨ho,hs,Om⟩
  all_goals
   first
   |exact ⟨ha,by simp [ho,qJ],by simp [hs],(OO hn).1,(OO hn).2,by omega⟩
   | (have:=Nm.sl hV hm;exact ⟨ha,fun _=>this.2,this.1,(OO hn).1,(OO hn).2,by omega⟩)
 |c d=>
  obtain ⟨ho,hm,hn,Om,-⟩:=h1;have:=Nm.sl hV hm;exact ⟨ha,fun _=>this.2,this.1,(OO hn).1,(OO hn).2,by omega⟩
theorem Gr.ok (hV:∀t,V t->TkV t){x:Fo}:∀{p:List It} {st:Option It},Gr V p st x->x.ok:=by
 induction x with
 |nil=>intro p st _;trivial
 |cons h k r ih1 ih2=>
  intro p st hg;cases p with
  |cons it p=>simp only [Gr] at hg;exact ⟨It.nok hV hg.1 hg.2.1,ih1 hg.2.1,ih2 hg.2.2⟩
  |nil=>
   cases st with
   |none=>simp [Gr] at hg
   |some it=>simp only [Gr] at hg;exact ⟨It.nok hV hg.1 hg.2.1,ih1 hg.2.1,ih2 hg.2.2⟩
def Bls (V:Tok->Prop):Fo->Prop
 | .nil=>True
 | .cons h k r=>h.op=11/\okI V (.s 1 false) h k.len/\Gr V (kI (.s 1 false) h k.len).1 (kI (.s 1 false) h k.len).2 k/\Bls V r
theorem Bls.app {x y:Fo}(hx:Bls V x)(hy:Bls V y):Bls V (x.app y):=by
 induction x with
 |nil=>exact hy
 |cons h k r _ ih=>exact ⟨hx.1,hx.2.1,hx.2.2.1,ih hx.2.2.2⟩
theorem Bls.ar {x:Fo}(hx:Bls V x):x.ar:=by
 induction x with
 |nil=>trivial
 |cons h k r _ ih=>exact ⟨It.ar hx.2.1 hx.2.2.1,hx.2.2.1.ar,ih hx.2.2.2⟩
theorem Bls.ok (hV:∀t,V t->TkV t){x:Fo}(hx:Bls V x):x.ok:=by
 induction x with
 |nil=>trivial
 |cons h k r _ ih=>exact ⟨It.nok hV hx.2.1 hx.2.2.1,hx.2.2.1.ok hV,ih hx.2.2.2⟩
structure GlV (V:Tok->Prop) (g:Gl):Prop where
 ty:g.ty=1∨g.ty=2∨g.ty=3
 ar:g.ty=3->1<=g.n
 nm:Nm V g.s
 n:0<=g.n/\g.n<=1024
structure FnV (V:Tok->Prop) (f:Fn'):Prop where
 ty:f.ty=0∨f.ty=1∨f.ty=2
 nm:Nm V f.s
 ps:∀p∈f.ps,(p.ty=1∨p.ty=2)/\Nm V p.s
def cnt (p:Pg):Nat:=p.g.length+p.f.length+(p.f.map fun f=>f.ps.length).sum
structure pJ (V:Tok->Prop) (K:Nat) (p:Pg) (s:St):Prop where
 ln:cnt p+s.l.length<=K
 vs:Vs V s
 c:s.c=p.t.size
 le:s.c<=4000
 rt:p.f.map (·.b)=p.t.roots 0
 bl:Bls V p.t
 gl:∀g∈p.g,GlV V g
 fn:∀f∈p.f,FnV V f
variable {e:Tok} (he:e.k=4)
include he
theorem Ii {n:Nat}{s:St}(hV:Vs V s)(hc:s.c<=4000) :
  Ans (fun b s'=>Vs V s'/\s'.c=s.c+b.size/\s'.c<=4000/\∃h k,b=Fo.one h k/\Bls V b) (bu e (run e n) 1 s):=
 (bL he hV).bind fun _ s1 ⟨a1,a2⟩=>(Mh he n (.blk 1) s1 a1 (by omega) trivial).bind fun a s2 ⟨b1,b2,b3,b4⟩=>by
  unfold bz;split
  ·trivial
  ·refine ⟨b1,?_,by simp;omega,_,_,rfl,?_⟩
   ·simp only [lft] at b2;simp only [Fo.one,Fo.size];omega
   ·simp only [Spec] at b4;exact ⟨rfl,⟨by omega,rfl,rfl,.inl ⟨rfl,rfl,rfl⟩⟩,by simpa [kI,kS] using b4,trivial⟩
theorem zW {s:St}(hV:Vs V s):Ans (fun p s'=>Vs V s'/\s'.c=s.c/\(p.ty=1∨p.ty=2)/\Nm V p.s) (iI e s):=
 (uB he hV).bind fun k s1 ⟨a1,a2,a3⟩=>(oZ he a1).bind fun t s2 ⟨b1,b2,b3⟩=>⟨b1,by omega,by simpa using a3,b3⟩
theorem Kj:∀(n:Nat) (l:List Pm)(s:St),Vs V s->(∀p∈l,(p.ty=1∨p.ty=2)/\Nm V p.s)->Ans (fun ps s'=>Vs V s'/\s'.c=s.c/\∀p∈ps,(p.ty=1∨p.ty=2)/\Nm V p.s) (iW e n l s):=by
 intro n
 induction n with
 |zero=>intro l s _ _;trivial
 |succ n ih=>
  intro l s hV hl;unfold iW;split
  ·refine (zW he (Vs.nx he hV)).bind fun p s1 ⟨a1,a2,a3⟩=>(ih (l ++ [p]) s1 a1 ?_).mono fun ps s2 ⟨b1,b2,b3⟩=>⟨b1,by simp only [St.nx] at a2;omega,b3⟩
   intro x hx;rcases List.mem_append.1 hx with hx|hx
   ·exact hl x hx
   ·simp at hx;subst hx;exact a3
  ·exact ⟨hV,rfl,hl⟩
theorem Dx {n:Nat}{s:St}(hV:Vs V s):Ans (fun ps s'=>Vs V s'/\s'.c=s.c/\∀p∈ps,(p.ty=1∨p.ty=2)/\Nm V p.s) (iw e n s):=
 (zW he hV).bind fun p s1 ⟨a1,a2,a3⟩=>(Kj he n [p] s1 a1 (fun x hx=>by simp at hx;subst hx;exact a3)).mono fun ps s2 ⟨b1,b2,b3⟩=>⟨b1,by omega,b3⟩
theorem yR {n:Nat}{kind:Int}{t:Tok}{s:St}(hk:kind=0∨kind=1∨kind=2)(ht:Nm V t.s)(hV:Vs V s)(hc:s.c<=4000) :
  Ans (fun x s'=>Vs V s'/\s'.c=s.c+x.2.size/\s'.c<=4000/\FnV V x.1/\Bls V x.2/\x.2.roots s.c=[x.1.b]) (bE e n kind t s):=by
 refine (bL he hV).bind fun _ s1 ⟨a1,a2⟩=>?_
 refine Ans.bind (P:=fun ps s'=>Vs V s'/\s'.c=s1.c/\∀p∈ps,(p.ty=1∨p.ty=2)/\Nm V p.s) ?_ fun ps s2 ⟨b1,b2,b3⟩=>?_
 ·split
  ·exact ⟨a1,rfl,fun p hp=>by cases hp⟩
  ·exact Dx he a1
 ·refine (bL he b1).bind fun _ s3 ⟨c1,c2⟩=>(Ii he c1 (by omega)).bind fun b s4 ⟨d1,d2,d3,h,k,d4,d5⟩=>?_
  refine ⟨d1,by simp only;omega,d3,⟨hk,ht,b3⟩,d5,?_⟩
  subst d4;simp only [Fo.one,Fo.roots,Fo.size] at d2 |-
  congr 1
  omega
theorem Jn {s:St}(hV:Vs V s):Ans (fun n s'=>Vs V s'/\s'.c=s.c/\1<=n/\n<=1024) (lG e s):=by
 unfold lG;split
 ·trivial
 ·split
  ·trivial
  ·exact ⟨Vs.nx he hV,rfl,by omega,by omega⟩
theorem Et {kind:Int}{t:Tok}{s:St}(hk:kind=1∨kind=2∨kind=3)(ht:Nm V t.s)(hV:Vs V s):Ans (fun g s'=>Vs V s'/\s'.c=s.c/\GlV V g) (dW e kind t s):=by
 unfold dW;split
 ·exact (bL he hV).bind fun _ s1 ⟨a1,a2⟩=>(Jn he a1).bind fun n s2 ⟨b1,b2,b3,b4⟩=>(bL he b1).bind fun _ s3 ⟨c1,c2⟩=>(bL he c1).bind fun _ s4 ⟨d1,d2⟩=>⟨d1,by omega,hk,fun _=>b3,ht,by simp only;omega,b4⟩
 ·rename_i h9;exact (bL he hV).bind fun _ s1 ⟨a1,a2⟩=>⟨a1,a2,hk,fun h'=>absurd (Or.inl h') h9,ht,by simp⟩
theorem Kh:∀(n:Nat) (l:List Pm)(s:St),Ans (fun ps s'=>ps.length+s'.l.length<=l.length+s.l.length) (iW e n l s):=by
 intro n
 induction n with
 |zero=>intro l s;trivial
 |succ n ih=>
  intro l s;unfold iW;split
  ·rename_i hq;have hn:=eG he (s:=s) (fun h'=>by simp [isT,h'] at hq)
   refine (jJ he s.nx).ans.bind fun p s1 h1=>(ih (l ++ [p]) s1).mono fun ps s2 h2=>?_
   simp only [List.length_append,List.length_cons,List.length_nil] at h2;omega
  ·exact zL _
theorem yQ (n:Nat)(k:Int)(t:Tok)(s:St)(h:4 * s.l.length+8<=n):Ans (fun x s'=>x.1.ps.length+1+s'.l.length<=s.l.length) (bE e n k t s):=by
 refine (aF he (by simp) s).ans.bind fun _ s1 h1=>?_
 refine Ans.bind (P:=fun ps s'=>ps.length+s'.l.length<=s1.l.length) ?_ fun ps s2 h2=>(aF he (by simp) s2).ans.bind fun _ s3 h3=>(mD he (wM he n) 1 s3 (by omega)).ans.bind fun b s4 h4=>?_
 ·split
  ·simp [Ans,Rs.Sat]
  ·refine (jJ he s1).ans.bind fun p s2 h2=>(Kh he n [p] s2).mono fun ps s3 h3=>?_
   simp only [List.length_cons,List.length_nil] at h3;omega
 ·show ps.length+1+s4.l.length<=s.l.length
  omega
theorem KA {n K:Nat}{p:Pg}{s:St}(hf:4 * s.l.length+4<=n)(h:pJ V K p s):Ans (pJ V K) (jM e n p s):=by
 refine ((uB he h.vs).and (kU he _ s).ans).bind fun kind s1 ⟨⟨a1,a2,a3⟩,a4⟩=>((oZ he a1).and (iJ he s1).ans).bind fun t s2 ⟨⟨b1,b2,b3⟩,b4⟩=>?_
 have hk:kind=0∨kind=1∨kind=2∨kind=3:=by simpa using a3
 have hc:=h.c;have QF:=h.le;have Fg:=h.ln;unfold cnt at Fg;split
 ·rename_i h9;have hk:kind=0∨kind=1∨kind=2:=by
   rcases h9 with h9|h9
   ·exact .inl h9
   ·omega
  refine ((yR he (n:=n) hk b3 b1 (by omega)).and (yQ he n kind t s2 (by omega))).bind fun x s3 ⟨⟨c1,c2,c3,c4,c5,c6⟩,c7⟩=>?_
  refine ⟨?_,c1,?_,c3,?_,h.bl.app c5,h.gl,?_⟩
  ·simp only [cnt,List.length_append,List.length_cons,List.length_nil,List.map_append,List.map_cons,List.map_nil,List.sum_append,List.sum_cons,List.sum_nil];omega
  ·simp only [Fo.jH];omega
  ·simp only [List.map_append,List.map_cons,List.map_nil,Fo.jB,h.rt,<-c6]
   congr 2
   omega
  ·intro f hf;rcases List.mem_append.1 hf with hf|hf
   ·exact h.fn f hf
   ·simp at hf;subst hf;exact c4
 ·rename_i h9;have hk:kind=1∨kind=2∨kind=3:=by
   have h8:kind≠0:=fun h'=>h9 (Or.inl h')
   omega
  refine ((Et he hk b3 b1).and (qb he kind t s2).ans).bind fun g s3 ⟨⟨c1,c2,c3⟩,c4⟩=>?_
  refine ⟨?_,c1,by simp only;omega,by omega,h.rt,h.bl,?_,h.fn⟩
  ·simp only [cnt,List.length_append,List.length_cons,List.length_nil];omega
  ·intro x hx;rcases List.mem_append.1 hx with hx|hx
   ·exact h.gl x hx
   ·simp at hx;subst hx;exact c3
theorem JJ {K:Nat}:∀(n:Nat) (p:Pg) (s:St),4 * s.l.length+5<=n->pJ V K p s->Ans (pJ V K) (gD e n p s):=by
 intro n
 induction n with
 |zero=>intro p s _ _;trivial
 |succ n ih=>
  intro p s hf h;unfold gD;split
  ·exact h
  ·exact ((KA he (by omega) h).and (jC he n p s (by omega)).ans).bind fun q s1 ⟨h1,h2⟩=>ih q s1 (by omega) h1
end
theorem zP {V:Tok->Prop}{l:List Tok}(hV:∀t∈l,V t):Ans (pJ V l.length) (eO l):=
 have hl:(lJ l).length<=l.length:=(List.takeWhile_sublist _).length_le
 JJ (ED l) _ _ _ (by unfold oC;simp only;omega) ⟨(by simp [cnt];exact hl),fun t ht=>hV t ((List.takeWhile_sublist _).subset ht),rfl,by simp,rfl,trivial,fun g hg=>(by cases hg),fun f hf=>(by cases hf)⟩
end
section
theorem je {f:UInt8->Bool}{l:List UInt8}(x:List UInt8)(h:l≠[]):hd f (l ++ x)=hd f l:=by
 cases l with
 |nil=>exact absurd rfl h
 |cons c r=>rfl
theorem IK {f:UInt8->Bool}{l:List UInt8}(h:hd f l=true):l≠[]:=by
 rintro rfl;simp [hd] at h
def gp:Bool->List UInt8->Option Bool
 |st,[]=>some st
 |false,c ::r=>if isB c then gp false r else if decide (c.toNat=47) && hd (fun d=>decide (d.toNat=47)) r then gp true r else none
 |true,c ::r=>if decide (c.toNat=10) then gp false r else gp true r
theorem IM (g x:List UInt8)(st st':Bool)(h:gp st g=some st'):sk st (g ++ x)=g.length+sk st' x:=by
 induction g generalizing st with
 |nil=>simp only [gp,Option.some.injEq] at h;subst h;simp
 |cons c r ih=>
  cases st
  ·simp only [gp] at h;simp only [List.cons_append,sk,List.length_cons];split at h
   ·rename_i hb;rw [if_pos hb,ih _ h];omega
   ·rename_i hb;rw [if_neg hb];split at h
    ·rename_i hc;have h2:hd (fun d=>decide (d.toNat=47)) (r ++ x)=hd (fun d=>decide (d.toNat=47)) r:=je x (IK (by simp only [Bool.and_eq_true] at hc;exact hc.2))
     rw [h2,if_pos hc,ih _ h];omega
    ·cases h
  ·simp only [gp] at h;simp only [List.cons_append,sk,List.length_cons];split at h
   ·rename_i hb;rw [if_pos hb,ih _ h];omega
   ·rename_i hb;rw [if_neg hb,ih _ h];omega
theorem Jl {d:UInt8}{q:List UInt8}:1<=sk true (d ::q):=by simp only [sk];split <;> omega
theorem LX (l:List UInt8)(st:Bool):∃st',gp st (l.take (sk st l))=some st'/\sk st' (l.drop (sk st l))=0/\(st'=true->l.drop (sk st l)=[]):=by
 induction l generalizing st with
 |nil=>exact ⟨st,by simp [gp],by simp [sk],by simp⟩
 |cons c r ih=>
  cases st
  ·by_cases hb:isB c=true
   ·obtain ⟨s,h1,h2,h3⟩:=ih false;refine ⟨s,?_,?_,?_⟩ <;> simp only [sk,if_pos hb,List.take_succ_cons,List.drop_succ_cons]
    ·simp only [gp,if_pos hb];exact h1
    ·exact h2
    ·exact h3
   ·by_cases hc:(decide (c.toNat=47) && hd (fun d=>decide (d.toNat=47)) r)=true
    ·obtain ⟨s,h1,h2,h3⟩:=ih true;refine ⟨s,?_,?_,?_⟩ <;> simp only [sk,if_neg hb,if_pos hc,List.take_succ_cons,List.drop_succ_cons]
     ·have hr:hd (fun d=>decide (d.toNat=47)) (r.take (sk true r))=hd (fun d=>decide (d.toNat=47)) r:=by
       cases r with
       |nil=>simp
       |cons d q=>
        have:=@Jl d q;obtain ⟨k,hk⟩:∃k,sk true (d ::q)=k+1:=⟨_,(Nat.sub_add_cancel this).symm⟩;rw [hk];rfl
      simp only [gp,if_neg hb,hr,if_pos hc];exact h1
     ·exact h2
     ·exact h3
    ·have e:sk false (c ::r)=0:=by simp only [sk,if_neg hb,if_neg hc]
     exact ⟨false,by rw [e];rfl,by rw [e,List.drop_zero,e],by simp⟩
  ·by_cases hb:decide (c.toNat=10)=true
   ·obtain ⟨s,h1,h2,h3⟩:=ih false;refine ⟨s,?_,?_,?_⟩ <;> simp only [sk,if_pos hb,List.take_succ_cons,List.drop_succ_cons]
    ·simp only [gp,if_pos hb];exact h1
    ·exact h2
    ·exact h3
   ·obtain ⟨s,h1,h2,h3⟩:=ih true;refine ⟨s,?_,?_,?_⟩ <;> simp only [sk,if_neg hb,List.take_succ_cons,List.drop_succ_cons]
    ·simp only [gp,if_neg hb];exact h1
    ·exact h2
    ·exact h3
abbrev Seg:=List UInt8×List UInt8×Tok
inductive Sg:List UInt8->List Seg->Prop
 |fin (g:List UInt8) (st:Bool):gp false g=some st->Sg g []
 |step (g u r:List UInt8) (tk:Tok) (tY:List Seg):gp false g=some false->u≠[]->sc (u ++ r)=(tk,u.length,0)->sk false (u ++ r)=0->Sg r tY->Sg (g ++ (u ++ r)) ((g,u,tk) ::tY)
def jb (e:Nat):Nat->List Seg->List Tok
 |_,[]=>[⟨4,e,0,[]⟩]
 |a,s ::r=>s.2.2.to ((a+s.1.length:Nat)) ::jb e (a+s.1.length+s.2.1.length) r
theorem Sg.seq {l:List UInt8}{tY:List Seg}(h:Sg l tY):∀n a,l.length<n->sq n (a+sk false l) (l.drop (sk false l))=(jb (a+l.length) a tY).map fun t=>(t,0):=by
 induction h with
 |fin g st hg=>
  intro n a hn;obtain ⟨n,rfl⟩:∃k,n=k+1:=⟨n - 1,by omega⟩
  have h1:=IM g [] false st hg;rw [List.append_nil] at h1;have h2:sk st []=0:=by simp [sk]
  have hk:sk false g=g.length:=by omega
  rw [hk,List.drop_length];simp [sq,jb]
 |step g u r tk tY hg hu hsc h0 hr ih=>
  intro n a hn;obtain ⟨n,rfl⟩:∃k,n=k+1:=⟨n - 1,by omega⟩
  have h1:=IM g (u ++ r) false false hg;have hk:sk false (g ++ (u ++ r))=g.length:=by omega
  rw [hk,List.drop_left];have aD:u ++ r≠[]:=by simp [hu]
  have PD:1<=u.length:=List.length_pos_iff.2 hu;rw [sq,if_neg aD,hsc,if_neg (by simp)]
  simp only;rw [List.drop_left,<-List.drop_drop,List.drop_left,ih n (a+g.length+u.length) (by simp at hn;omega),jb,List.map_cons]
  have e1:a+g.length+u.length+r.length=a+(g ++ (u ++ r)).length:=by simp;omega
  rw [e1]
theorem Jp (n:Nat):∀(l:List UInt8) (a:Nat),l.length<n->(∀x∈sq n (a+sk false l) (l.drop (sk false l)),x.2=0)->∃tY,Sg l tY:=by
 induction n with
 |zero=>intro l a h;omega
 |succ n ih=>
  intro l a hn Q7;obtain ⟨st,h1,h2,h3⟩:=LX l false;have hl:l=l.take (sk false l) ++ l.drop (sk false l):=(List.take_append_drop _ _).symm;generalize hx:l.drop (sk false l)=x at *;generalize hg:l.take (sk false l)=g at *;by_cases hxe:x=[]
  ·subst hxe;rw [List.append_nil] at hl;exact ⟨[],by rw [hl];exact .fin g st h1⟩
  ·have Rm:st=false:=by
    cases st
    ·rfl
    ·exact absurd (h3 rfl) hxe
   subst Rm;rw [sq,if_neg hxe] at Q7;by_cases h0:(sc x).2.2=0
   ·rw [if_neg (by simpa using h0)] at Q7
    have sQ:=nV h0;have hxs:x=x.take (sc x).2.1 ++ x.drop (sc x).2.1:=(List.take_append_drop _ _).symm;have PD:(x.take (sc x).2.1).length=(sc x).2.1:=by rw [List.length_take];omega
    have VK:(x.drop (sc x).2.1).length<n:=by
     have:l.length=g.length+x.length:=by rw [hl,List.length_append]
     rw [List.length_drop];omega
    obtain ⟨tY,hs⟩:=ih (x.drop (sc x).2.1) (a+sk false l+(sc x).2.1) VK (by
     intro y hy;apply Q7 y;rw [List.drop_drop] at hy;exact List.mem_cons_of_mem _ hy)
    refine ⟨(g,x.take (sc x).2.1,(sc x).1) ::tY,?_⟩;rw [hl];have:=Sg.step g (x.take (sc x).2.1) (x.drop (sc x).2.1) (sc x).1 tY h1 (by intro e;rw [e] at PD;simp at PD;omega) (by rw [<-hxs,PD];rw [<-h0]) (by rw [<-hxs];exact h2) hs
    rw [<-hxs] at this;exact this
   ·rw [if_pos (by simpa using h0)] at Q7
    exact absurd (Q7 _ (List.mem_singleton.2 rfl)) h0
def nx (r r':List UInt8):Prop:=r'=[]∨hd isB r'=true∨∀f,hd f r'=hd f r
end
section
theorem Hm (acc:Nat)(l:List UInt8)(c:UInt8):dv acc (l ++ [c])=dv acc l * 10+(c.toNat - 48):=by
 rw [dv,List.foldl_append,List.foldl_cons,List.foldl_nil,<-dv,dg]
theorem BX {u:Nat}(h:u<10):Lib.decDigits u=[UInt8.ofNat (48+u)]:=by rw [Lib.decDigits,dif_pos h]
theorem Hq {u:Nat}(h:¬ u<10):Lib.decDigits u=Lib.decDigits (u / 10) ++ [UInt8.ofNat (48+u % 10)]:=by rw [Lib.decDigits,dif_neg h]
theorem K8 (l:List UInt8)(h0:l≠[])(hd0:∀c q,l=c ::q->c.toNat≠48/\isD c=true):1<=dv 0 l:=by
 cases l with
 |nil=>exact absurd rfl h0
 |cons c q=>
  obtain ⟨h1,h2⟩:=hd0 c q rfl;simp only [isD,Bool.and_eq_true,decide_eq_true_eq] at h2;rw [Aq];have:=IQ q (0 * 10+(c.toNat - 48));omega
theorem pQ {c:UInt8}(h:isD c=true):UInt8.ofNat (48+(c.toNat - 48))=c:=by
 simp only [isD,Bool.and_eq_true,decide_eq_true_eq] at h;have:48+(c.toNat - 48)=c.toNat:=by omega
 rw [this];simp
theorem La (n:Nat):∀l:List UInt8,l.length=n->l≠[]->(∀c∈l,isD c=true)->(1<l.length->∀c q,l=c ::q->c.toNat≠48)->Lib.decDigits (dv 0 l)=l:=by
 induction n with
 |zero=>intro l hl h0;exact absurd (List.eq_nil_of_length_eq_zero hl) h0
 |succ n ih=>
  intro l hl h0 hd hz;obtain ⟨q,c,rfl⟩:∃q c,l=q ++ [c]:=⟨l.dropLast,l.getLast h0,(List.dropLast_concat_getLast h0).symm⟩;have hc:=hd c (by simp)
  have IR:=hc;simp only [isD,Bool.and_eq_true,decide_eq_true_eq] at IR;rw [Hm];by_cases hq:q=[]
  ·subst hq;have e:dv 0 []=0:=yY 0;rw [e,Nat.zero_mul,Nat.zero_add,BX (by omega),pQ hc]
   rfl
  ·have uM:q.length=n:=by simp at hl;exact hl
   have hq1:1<=q.length:=List.length_pos_iff.2 hq;have WX:∀a t,q=a ::t->a.toNat≠48:=by
    intro a t e;exact hz (by rw [List.length_append];simp;omega) a (t ++ [c]) (by rw [e];rfl)
   have hqd:∀a∈q,isD a=true:=fun a ha=>hd a (List.mem_append_left _ ha)
   have hp:=K8 q hq (fun a t e=>⟨WX a t e,hqd a (by rw [e];simp)⟩)
   have hi:=ih q uM hq hqd (fun _=>WX)
   generalize dv 0 q=v at *;have e1:(v * 10+(c.toNat - 48)) / 10=v:=by omega
   have e2:(v * 10+(c.toNat - 48)) % 10=c.toNat - 48:=by omega
   rw [Hq (by omega),e1,e2,hi,pQ hc]
theorem Jq {u r:List UInt8}{tk:Tok}(hu:u≠[])(h:sc (u ++ r)=(tk,u.length,0)):txt tk=u/\xX tk/\tk.k≠4:=by
 unfold sc at h;split at h
 ·unfold fK at h;split at h
  ·simp at h
  ·rename_i h24;simp only [Prod.mk.injEq] at h;obtain ⟨h1,h2,_⟩:=h;rw [h2,List.take_left] at h1;rw [h2] at h24;subst h1;exact ⟨by simp [txt],⟨by simp;omega,by simp,by simp⟩,by simp⟩
 ·split at h
  ·rename_i hD;unfold aT at h;split at h
   ·simp at h
   ·rename_i hform;split at h
    ·simp at h
    ·rename_i hmax;simp only [Prod.mk.injEq] at h;obtain ⟨h1,h2,_⟩:=h;have Ja:=rE hD;have PH:=iL isD (u ++ r);have hmem:=qy isD (u ++ r);have hb:eP (u ++ r)<=9223372036854775807:=by
      have:jK (u ++ r)<=9223372036854775807:=by unfold jK;split <;> omega
      omega
     have aD:(u ++ r).take (len isD (u ++ r))≠[]:=by
      intro e;have:=congrArg List.length e;rw [List.length_take] at this;simp only [List.length_nil] at this;omega
     have hz:1< ((u ++ r).take (len isD (u ++ r))).length->∀c q,(u ++ r).take (len isD (u ++ r))=c ::q->c.toNat≠48:=by
      intro h1 c q e e48;have hf:cB (u ++ r)=false:=by simpa using hform
      simp only [cB,Bool.or_eq_false_iff,Bool.and_eq_false_iff] at hf;rw [List.length_take] at h1;rcases hf.1 with h3|h3
      ·simp at h3;omega
      ·have:∃t,u ++ r=c ::t:=by
        cases hl:u ++ r with
        |nil=>rw [hl] at e;simp at e
        |cons a t=>
         rw [hl] at e;obtain ⟨k,hk⟩:∃k,len isD (a ::t)=k+1:=⟨len isD (a ::t) - 1,by rw [hl] at Ja;omega⟩
         rw [hk,List.take_succ_cons] at e;exact ⟨t,by rw [(List.cons.inj e).1]⟩
       obtain ⟨t,ht⟩:=this;rw [ht] at h3;simp [hd,e48] at h3
     have hdd:=La _ _ rfl aD hmem hz;have htxt:Lib.itoa (eP (u ++ r):Int) ++ fD (u ++ r)=u:=by
      have e1:Lib.itoa (eP (u ++ r):Int)=(u ++ r).take (len isD (u ++ r)):=by
       rw [Lib.itoa,if_neg (by omega),Int.toNat_natCast];exact hdd
      rw [e1];by_cases hL:lng (u ++ r)=true
      ·have hz:len isD (u ++ r)+1=u.length:=by rw [nsz,if_pos hL] at h2;exact h2
       rw [fD,if_pos hL,List.take_append_of_le_length (by omega)]
       have hL2:=hL;unfold lng at hL2;rw [List.drop_append_of_le_length (by omega)] at hL2
       generalize len isD (u ++ r)=D at *;have XL:u=u.take D ++ u.drop D:=(List.take_append_drop _ _).symm;have hdl2:(u.drop D).length=1:=by rw [List.length_drop];omega
       match hdr:u.drop D,hdl2 with
       | [x],_=>
        rw [hdr] at hL2;simp only [List.cons_append,hd,decide_eq_true_eq] at hL2;have hx:x=76:=UInt8.toNat_inj.1 hL2;rw [<-hx]
        conv=>rhs;rw [XL,hdr]
      ·have hz:len isD (u ++ r)=u.length:=by rw [nsz,if_neg hL] at h2;exact h2
       rw [fD,if_neg hL,hz,List.take_left,List.append_nil]
     subst h1;refine ⟨by simp only [txt,if_true];exact htxt,⟨?_,by show (-9223372036854775808:Int)<=(eP (u ++ r):Int);omega,by show (eP (u ++ r):Int)<=9223372036854775807;omega⟩,by simp⟩
     simp only [fD];split <;> simp
  ·unfold ib at h;split at h
   ·rename_i s hs;simp only [Prod.mk.injEq] at h;obtain ⟨h1,h2,_⟩:=h;have hp:=List.find?_some hs;have hsm:=List.mem_of_find?_eq_some hs;have hsu:s=u:=by
     obtain ⟨q,hq⟩:=List.isPrefixOf_iff_prefix.1 hp;have:=congrArg (List.take u.length) hq;rw [List.take_left,<-h2,List.take_left] at this;exact this
    subst hsu;subst h1;have:=wK s hsm;exact ⟨by simp [txt],⟨by show s.length<=24;omega,by simp,by simp⟩,by simp⟩
   ·simp at h
def us (tY:List Seg):List (List UInt8):=tY.map fun s=>s.2.1
theorem Sg.tok {l:List UInt8}{tY:List Seg}(h:Sg l tY):∀s∈tY,s.2.1≠[]/\txt s.2.2=s.2.1/\xX s.2.2/\s.2.2.k≠4:=by
 induction h with
 |fin g st hg=>intro s hs;cases hs
 |step g u r tk tY hg hu hsc h0 hr ih=>
  intro s hs;rcases List.mem_cons.1 hs with rfl|hs
  ·obtain ⟨h1,h2,h3⟩:=Jq hu hsc;exact ⟨hu,h1,h2,h3⟩
  ·exact ih s hs
def jo:List (List UInt8)->List UInt8
 | []=>[]
 |x ::r=>if r=[] then x else x ++ 32 ::jo r
theorem Sg.lex {l:List UInt8}{tY:List Seg}(h:Sg l tY)(hl:l.length<=1048576):gm l=(jb l.length 0 tY,0,0):=by
 have h1:=h.seq (l.length+1 - sk false l) 0;have h2:=wH false l;have h3:kW l=(jb l.length 0 tY).map fun t=>(t,0):=by
  have h4:=h.seq (l.length+1) 0 (by omega)
  rw [Nat.zero_add] at h4;unfold kW jY fV;rw [List.drop_zero,Nat.zero_add];rw [Nat.zero_add] at h4;rw [<-h4];apply uG
  ·rw [List.length_drop];omega
  ·rw [List.length_drop];omega
 rw [gm,if_neg (by omega),h3,zM (by simp),List.map_map]
 have:((fun x:Tok×Int=>x.1) ∘ fun t=>(t,(0:Int)))=id:=rfl
 rw [this,List.map_id]
theorem FQ {xs:List (Tok×Int)}:∀pre,(∀x∈xs,x.2=0)∨(res pre xs).2.1≠0:=by
 induction xs with
 |nil=>intro pre;exact .inl (by simp)
 |cons x xs ih=>
  intro pre;obtain ⟨t,no⟩:=x;by_cases h:no=0
  ·subst h;rcases ih (pre ++ [t]) with h1|h1
   ·exact .inl (by intro y hy;rcases List.mem_cons.1 hy with rfl|hy;rfl;exact h1 y hy)
   ·right;rw [res,if_neg (by simp)];exact h1
  ·right;rw [res,if_pos h];exact h
theorem D7 {l:List UInt8}(h:(gm l).2.1=0):l.length<=1048576/\∃tY,Sg l tY:=by
 have hl:l.length<=1048576:=by
  rcases Nat.lt_or_ge 1048576 l.length with h1|h1
  ·rw [gm,if_pos h1] at h;simp at h
  ·exact h1
 refine ⟨hl,?_⟩;rw [gm,if_neg (by omega)] at h
 rcases FQ (xs:=kW l) [] with h1|h1
 ·have h2:=wH false l;apply Jp (l.length+1) l 0 (by omega)
  intro x hx;apply h1 x;unfold kW jY fV;rw [List.drop_zero,Nat.zero_add];rw [Nat.zero_add] at hx;have e:sq (l.length+1 - sk false l) (sk false l) (l.drop (sk false l))=sq (l.length+1) (sk false l) (l.drop (sk false l)):=by
   apply uG
   ·rw [List.length_drop];omega
   ·rw [List.length_drop];omega
  rw [e];exact hx
 ·exact absurd h h1
end
section
def EOk {α:Type} (r:Rs α):Prop:=∀no p,r=.er no p->no≠0
theorem EOk.bind {α β:Type}{r:Rs α}{f:α->St->Rs β}(h:EOk r)(hf:∀a s,EOk (f a s)):EOk (r.bind f):=by
 intro no p e;cases r with
 |ok a s=>exact hf a s no p e
 |er n q=>simp only [Rs.bind,Rs.er.injEq] at e;exact h no p (by rw [e.1,e.2])
 |out=>simp [Rs.bind] at e
theorem EOk.ok {α:Type}(a:α)(s:St):EOk (Rs.ok a s):=fun no p e=>by cases e
theorem EOk.out {α:Type}:EOk (Rs.out:Rs α):=fun no p e=>by cases e
theorem EOk.er {α:Type}(n p:Int)(h:n≠0):EOk (Rs.er n p:Rs α):=fun no q e=>by simp only [Rs.er.injEq] at e;rw [<-e.1];exact h
section
variable (e:Tok)
theorem oQ {α:Type}(n:Int)(s:St)(h:n≠0):EOk (wr e n s:Rs α):=EOk.er _ _ h
theorem l5 (x:List UInt8)(s:St):EOk (must e x s):=by unfold must;split;exact EOk.ok _ _;exact oQ e 2 s (by decide)
theorem lg (s:St):EOk (gF e s):=by unfold gF;split;exact EOk.ok _ _;exact oQ e 2 s (by decide)
theorem jl (ks:List Int)(s:St):EOk (gz e ks s):=by
 unfold gz;split
 ·split
  ·exact EOk.ok _ _
  ·exact oQ e 2 s (by decide)
 ·exact oQ e 2 s (by decide)
theorem qj (h:Hd)(k:Fo)(s:St):EOk (bz h k s):=by unfold bz;split;exact EOk.er _ _ (by decide);exact EOk.ok _ _
theorem lw (d:Nat)(s:St):EOk (fM e d s):=by unfold fM;split;exact oQ e 3 s (by decide);exact EOk.ok _ _
variable {r:Md->St->Rs Fo} (hr:∀m s,EOk (r m s))
include hr
theorem Au (f:Tok)(d:Nat)(s:St):EOk (dY e r f d s):=by
 unfold dY
 repeat' (first|exact hr _ _|exact EOk.ok _ _|exact l5 e _ _|exact lg e _|exact jl e _ _|exact qj _ _ _|exact lw e _ _|exact oQ e _ _ (by decide)|refine EOk.bind ?_ (fun _ _=>?_)|split)
theorem I6 (d:Nat)(s:St):EOk (mK e r d s):=by
 unfold mK dI
 repeat' (first|exact hr _ _|exact Au e hr _ _ _|exact EOk.ok _ _|exact l5 e _ _|exact lg e _|exact jl e _ _|exact qj _ _ _|exact lw e _ _|exact oQ e _ _ (by decide)|refine EOk.bind ?_ (fun _ _=>?_)|split)
theorem JR (d:Nat)(s:St):EOk (lZ e r d s):=by
 unfold lZ wX unB gB lC inB
 repeat' (first|exact hr _ _|exact I6 e hr _ _|exact EOk.ok _ _|exact l5 e _ _|exact lg e _|exact jl e _ _|exact qj _ _ _|exact lw e _ _|exact oQ e _ _ (by decide)|refine EOk.bind ?_ (fun _ _=>?_)|split)
theorem Ep (d:Nat)(s:St):EOk (cO e r d s):=by
 unfold cO
 repeat' (first|exact hr _ _|exact EOk.ok _ _|exact l5 e _ _|exact lg e _|exact jl e _ _|exact qj _ _ _|exact lw e _ _|exact oQ e _ _ (by decide)|refine EOk.bind ?_ (fun _ _=>?_)|split)
theorem DK (d:Nat)(s:St):EOk (bV e r d s):=by
 unfold bV cu
 repeat' (first|exact hr _ _|exact Au e hr _ _ _|exact EOk.ok _ _|exact l5 e _ _|exact lg e _|exact jl e _ _|exact qj _ _ _|exact lw e _ _|exact oQ e _ _ (by decide)|refine EOk.bind ?_ (fun _ _=>?_)|split)
theorem xQ (d:Nat)(s:St):EOk (bu e r d s):=by
 unfold bu
 repeat' (first|exact hr _ _|exact EOk.ok _ _|exact l5 e _ _|exact lg e _|exact jl e _ _|exact qj _ _ _|exact lw e _ _|exact oQ e _ _ (by decide)|refine EOk.bind ?_ (fun _ _=>?_)|split)
theorem Jg (d:Nat)(s:St):EOk (jm e r d s):=by
 unfold jm bH ifB fI iB iR jr
 repeat' (first|exact hr _ _|exact DK e hr _ _|exact Ep e hr _ _|exact xQ e hr _ _|exact EOk.ok _ _|exact l5 e _ _|exact lg e _|exact jl e _ _|exact qj _ _ _|exact lw e _ _|exact oQ e _ _ (by decide)|refine EOk.bind ?_ (fun _ _=>?_)|split)
omit hr in
theorem Mf:∀n m s,EOk (run e n m s):=by
 intro n
 induction n with
 |zero=>intro m s;exact EOk.out
 |succ n ih=>
  intro m s;cases m with
  |bin d l=>exact EOk.bind (ih _ _) fun _ _=>ih _ _
  |loop d l x=>
   show EOk (l6 e (run e n) d l x s)
   unfold l6;split
   ·exact EOk.ok _ _
   ·exact EOk.bind (ih _ _) fun _ _=>EOk.bind (qj _ _ _) fun _ _=>ih _ _
  |opd d=>exact JR e ih d s
  |args d=>
   show EOk (kT e (run e n) d s)
   unfold kT;refine EOk.bind (ih _ _) fun _ _=>?_
   split
   ·exact EOk.bind (ih _ _) fun _ _=>EOk.ok _ _
   ·exact EOk.ok _ _
  |stm d=>exact Jg e ih d s
  |blk d=>
   show EOk (qw e (run e n) d s)
   unfold qw;split
   ·exact EOk.ok _ _
   ·exact EOk.bind (ih _ _) fun _ _=>EOk.bind (ih _ _) fun _ _=>EOk.ok _ _
omit hr in
theorem zV (s:St):EOk (iI e s):=EOk.bind (jl e _ _) fun _ _=>EOk.bind (lg e _) fun _ _=>EOk.ok _ _
omit hr in
theorem Ki:∀n l s,EOk (iW e n l s):=by
 intro n
 induction n with
 |zero=>intro l s;exact EOk.out
 |succ n ih=>
  intro l s;unfold iW;split
  ·exact EOk.bind (zV e _) fun _ _=>ih _ _
  ·exact EOk.ok _ _
omit hr in
theorem JI:∀n p s,EOk (gD e n p s):=by
 intro n
 induction n with
 |zero=>intro p s;exact EOk.out
 |succ n ih=>
  intro p s;unfold gD;split
  ·exact EOk.ok _ _
  ·refine EOk.bind ?_ fun _ _=>ih _ _
   unfold jM bE dW lG iw
   repeat' (first|exact zV e _|exact Ki e _ _ _|exact xQ e (Mf e n) _ _|exact EOk.ok _ _|exact l5 e _ _|exact lg e _|exact jl e _ _|exact oQ e _ _ (by decide)|refine EOk.bind ?_ (fun _ _=>?_)|split)
end
theorem FW (l:List Tok):EOk (eO l):=JI _ _ _ _
def lH (l:List UInt8):Option Pg:=
 if (gm l).2.1≠0 then none else match eO (gm l).1 with
  | .ok pg _=>some pg
  |_=>none
theorem CV {l:List UInt8}{tY:List Seg}(h:Sg l tY):tY.length<=l.length:=by
 induction h with
 |fin g st hg=>simp
 |step g u r tk tY hg hu hsc h0 hr ih=>
  have:=List.length_pos_iff.2 hu;simp only [List.length_cons,List.length_append];omega
theorem Cy (e a:Nat)(tY:List Seg):(jb e a tY).length=tY.length+1:=by
 induction tY generalizing a with
 |nil=>rfl
 |cons s q ih=>rw [jb,List.length_cons,ih,List.length_cons]
theorem Jb {l:List UInt8}{tY:List Seg}(h:Sg l tY)(e:Nat):∀a,∀t∈jb e a tY,TkV t:=by
 have ht:=h.tok;clear h
 induction tY with
 |nil=>intro a t hm;rw [jb,List.mem_singleton] at hm;subst hm;exact ⟨by simp,by simp [jX],by simp,by simp⟩
 |cons s q ih=>
  intro a t hm;rw [jb] at hm;rcases List.mem_cons.1 hm with rfl|hm
  ·obtain ⟨h1,h2,h3,h4⟩:=ht s (by simp)
   refine ⟨h3.1,fun hn=>?_,h3.2.1,h3.2.2⟩
   have hk:s.2.2.k=1:=by
    simp only [jX,Tok.to,Bool.and_eq_true] at hn;exact of_decide_eq_true hn.1
   rw [txt,if_neg (by omega)] at h2
   simp only [Tok.to,h2];exact h1
  ·exact ih (fun x hx=>ht x (List.mem_cons_of_mem _ hx)) _ t hm
theorem ma {l:List UInt8}(h:(gm l).2.1=0):l.length<=1048576/\(gm l).1.length<=l.length+1/\∀t∈(gm l).1,TkV t:=by
 obtain ⟨hl,tY,hS⟩:=D7 h;rw [hS.lex hl];exact ⟨hl,by simp only [Cy];have:=CV hS;omega,Jb hS _ _⟩
end
section
structure Mg where
 so:Int
 rf:Int
 vl:Int
 deriving DecidableEq
abbrev Nm':=List UInt8
abbrev Scp:=List (Nm'×Mg)
def look {α:Type} (l:List (Nm'×α)) (x:Nm'):Option α:=(l.find? fun y=>decide (y.1=x)).map (·.2)
def fE (l:List Scp) (x:Nm'):Option Mg:=l.reverse.findSome? fun s=>look s x
def decl (l:List Scp) (x:Nm') (m:Mg):List Scp:=l.dropLast ++ [(x,m) ::l.getLast?.getD []]
inductive Ck (α:Type) where
 |ok (a:α)
 |er (no p:Int)
def Ck.bind {α β:Type} (r:Ck α) (f:α->Ck β):Ck β:=
 match r with
 | .ok a=>f a
 | .er n p=>.er n p
def Ck.map {α β:Type} (f:α->β) (r:Ck α):Ck β:=r.bind fun a=>.ok (f a)
def refuse (b:Bool) (no p:Int):Ck Unit:=if b then .er no p else .ok ()
@[simp] theorem Ck.bind_ok {α β:Type} (a:α) (f:α->Ck β):(Ck.ok a).bind f=f a:=rfl
@[simp] theorem Ck.aB {α β:Type} (n p:Int) (f:α->Ck β):(Ck.er n p).bind f=.er n p:=rfl
@[simp] theorem iT (no p:Int):refuse true no p=.er no p:=rfl
@[simp] theorem iq (no p:Int):refuse false no p=.ok ():=rfl
theorem Ck.bind_assoc {α β γ:Type}(r:Ck α)(f:α->Ck β)(g:β->Ck γ):(r.bind f).bind g=r.bind fun a=>(f a).bind g:=by cases r <;> rfl
def eb (t:Int):Int:=if t=3 then 1 else if t=1 then 4 else 8
def gMg (g:Gl) (i:Nat):Mg:=if g.n=0 then ⟨2,-1 - i,g.ty⟩ else ⟨3,i,if g.ty=2 then 2 else 1⟩
def eF:List Gl->Nat->Int->Scp->Ck Scp
 | [],_,_,s=>.ok s
 |g ::l,i,b,s=>if (look s g.s).isSome then .er 5 g.p else
  if 4096<b+max g.n 1 * eb g.ty then .er 9 g.p else eF l (i+1) (b+max g.n 1 * eb g.ty) ((g.s,gMg g i) ::s)
def twice:List Pm->List Nm'->Bool
 | [],_=>false
 |p ::l,seen=>decide (p.s∈seen) || twice l (seen ++ [p.s])
def jf:List Fn'->Nat->Scp->Ck Scp
 | [],_,s=>.ok s
 |f ::l,i,s=>if 32<=i then .er 9 f.p else if (look s f.s).isSome then .er 5 f.p else
  if 8<f.ps.length then .er 9 f.p else if twice f.ps [] then .er 5 f.p else jf l (i+1) ((f.s,⟨4,i,f.ty⟩) ::s)
structure Cs where
 tr:List (Int×Int)
 sc:List Scp
 vs:List Int
 deriving DecidableEq
def dJ (tr:List (Int×Int)) (k:Nat):Int:=(tr.getD k (0,0)).1
def ji (t:Int):Bool:=decide (t=1) || decide (t=2)
def aO (p:Int) (tr:List (Int×Int)) (ks:List Nat):Ck Unit:=refuse (!ks.all fun k=>ji (dJ tr k)) 6 p
def aW (h:Hd) (so:List Int) (sc:List Scp):Ck Mg:=
 match fE sc h.s with
 |none=>.er 4 h.p
 |some m=>if m.so∈so then .ok m else .er 6 h.p
def iol (b:Bool):Int:=if b then 2 else 1
def iC:List (List UInt8):=[[61,61],[33,61],[60],[60,61],[62],[62,61],[38,38],[124,124]]
def jy (s:List UInt8) (l r:Bool):Bool:=if s∈iC then false else if s=[60,60]∨s=[62,62] then l else l || r
structure Kn where
 np:List Nat
 ft:Int
 lb:List Nm'
def bY (σ:Cs) (i:Nat) (t:Int):Cs:={σ with tr:=σ.tr.set i (t,(σ.tr.getD i (0,0)).2)}
def bC (σ:Cs) (i:Nat) (r:Int):Cs:={σ with tr:=σ.tr.set i ((σ.tr.getD i (0,0)).1,r)}
def kid (ks:List Nat) (j:Nat):Nat:=ks.getD j 0
def dw (tr:List (Int×Int)) (k:Nat):Bool:=decide (dJ tr k=2)
def dm (K:Kn) (h:Hd) (ks:List Nat) (i:Nat) (σ:Cs):Ck Cs:=
 if h.op=2 then (aW h [1,2] σ.sc).bind fun m=>.ok (bY (bC σ i m.rf) i m.vl)
 else if h.op=3 then (aW h [3] σ.sc).bind fun m=>(aO h.p (bY (bC σ i m.rf) i m.vl).tr ks).bind fun _=>.ok (bY (bC σ i m.rf) i m.vl)
 else if h.op=4 then (aO h.p σ.tr ks).bind fun _=>.ok (bY σ i (iol (!decide (h.s=[33]) && dw σ.tr (kid ks 0))))
 else if h.op=5 then (aO h.p σ.tr ks).bind fun _=>.ok (bY σ i (iol (jy h.s (dw σ.tr (kid ks 0)) (dw σ.tr (kid ks 1)))))
 else if h.op=6 then (aO h.p σ.tr ks).bind fun _=>.ok (bY σ i (iol (decide (h.to=2))))
 else if h.op=7 then (aW h [4] σ.sc).bind fun m=>(refuse (decide (ks.length≠K.np.getD m.rf.toNat 0)) 7 h.p).bind fun _=>(aO h.p (bY (bC σ i m.rf) i m.vl).tr ks).bind fun _=>.ok (bY (bC σ i m.rf) i m.vl)
 else if h.op=8 then .ok (bY σ i 2)
 else .ok σ
def dh (K:Kn) (h:Hd) (ks:List Nat) (i:Nat) (σ:Cs):Ck Cs:=
 if h.op=12 then (aO h.p σ.tr ks).bind fun _=>(refuse (look (σ.sc.getLast?.getD []) h.s).isSome 5 h.p).bind fun _=>(refuse (decide (64<=σ.vs.length)) 9 h.p).bind fun _=>
  .ok {(bC σ i σ.vs.length) with sc:=decl σ.sc h.s ⟨1,σ.vs.length,h.to⟩,vs:=σ.vs ++ [h.to]}
 else if h.op=13 then (aW h [1,2] σ.sc).bind fun m=>(aO h.p (bC σ i m.rf).tr ks).bind fun _=>.ok (bC σ i m.rf)
 else if h.op=14 then (aW h [3] σ.sc).bind fun m=>(aO h.p (bC σ i m.rf).tr ks).bind fun _=>.ok (bC σ i m.rf)
 else if h.op=15∨h.op=16 then (aO h.p σ.tr [kid ks 0]).bind fun _=>.ok σ
 else if h.op=17 then (refuse (!decide (h.s∈K.lb)) 8 h.p).bind fun _=>.ok σ
 else if h.op=19 then (refuse (decide (0<ks.length) == decide (K.ft=0)) 6 h.p).bind fun _=>(aO h.p σ.tr ks).bind fun _=>.ok σ
 else if h.op=20 then (aO h.p σ.tr ks).bind fun _=>.ok σ
 else .ok σ
def eB (K:Kn) (h:Hd) (ks:List Nat) (i:Nat) (σ:Cs):Ck Cs:=if h.op<11 then dm K h ks i σ else dh K h ks i σ
def dF (K:Kn):Fo->Nat->Cs->Ck Cs
  | .nil,_,σ=>.ok σ
  | .cons h k r,c,σ=>
    (if h.op=11 then (dF K k c {σ with sc:=σ.sc ++ [[]]}).bind fun τ=>.ok {τ with sc:=τ.sc.dropLast}
     else (dF K k c σ).bind fun τ=>eB K h (k.roots c) (c+k.size) τ).bind fun τ=>dF K r (c+k.size+1) τ
def jd:List Nd->List Nm'->Ck (List Nm')
 | [],l=>.ok l
 |n ::r,l=>if n.h.op=18 then (if n.h.s∈l then .er 5 n.h.p else jd r (l ++ [n.h.s])) else jd r l
def lK:List Pm->List Int->Scp->Scp
 | [],_,s=>s
 |p ::l,vs,s=>lK l (vs ++ [p.ty]) ((p.s,⟨1,vs.length,p.ty⟩) ::s)
def jT (np:List Nat) (G:Scp) (f:Fn') (h:Hd) (k:Fo) (c:Nat) (tr:List (Int×Int)):Ck (List (Int×Int)×List Int):=
 (jd (Fo.flat c (.cons h k .nil)) []).bind fun lb=>(dF ⟨np,f.ty,lb⟩ k c ⟨tr,[G,lK f.ps [] []],f.ps.map (·.ty)⟩).bind fun σ=>.ok (σ.tr,σ.vs)
def dR (np:List Nat) (G:Scp):List Fn'->Fo->Nat->List (Int×Int)->Ck (List (Int×Int)×List (List Int))
 | [],_,_,tr=>.ok (tr,[])
 |_ ::_,.nil,_,tr=>.ok (tr,[])
 |f ::l,.cons h k r,c,tr=>(jT np G f h k c tr).bind fun x=>(dR np G l r (c+k.size+1) x.1).bind fun y=>.ok (y.1,x.2 ::y.2)
def bn:List UInt8:=[109,97,105,110]
def jh (G:Scp) (fs:List Fn'):Ck Unit:=
 match look G bn with
 |none=>.er 12 0
 |some m=>if m.so≠4 then .er 12 0 else match fs[m.rf.toNat]? with
  |none=>.er 12 0
  |some f=>if f.ty≠1∨f.ps≠[] then .er 12 f.p else .ok ()
def tr0 (l:List Nd):List (Int×Int):=l.map fun n=>(if n.h.op=1 then n.h.ty else 0,0)
def aX (pg:Pg):Ck (List (Int×Int)×List (List Int)):=
 (eF pg.g 0 0 []).bind fun s=>(jf pg.f 0 s).bind fun G=>(dR (pg.f.map fun f=>f.ps.length) G pg.f pg.t 0 (tr0 (pg.t.flat 0))).bind fun y=>(jh G pg.f).bind fun _=>.ok y
end
section
def Hld (L:List Nd):Fo->Nat->Prop
 | .nil,_=>True
 | .cons h k r,c=>Hld L k c/\L[c+k.size]? =some ⟨h,k.roots c⟩/\Hld L r (c+k.size+1)
theorem En (F:Fo):∀(c:Nat) (A B:List Nd),A.length=c->Hld (A ++ F.flat c ++ B) F c:=by
 induction F with
 |nil=>intro c A B _;trivial
 |cons h k r ih1 ih2=>
  intro c A B hA;simp only [Fo.flat];have e1:A ++ (k.flat c ++ ⟨h,k.roots c⟩ ::r.flat (c+k.size+1)) ++ B=A ++ k.flat c ++ (⟨h,k.roots c⟩ ::r.flat (c+k.size+1) ++ B):=by simp
  have e2:A ++ (k.flat c ++ ⟨h,k.roots c⟩ ::r.flat (c+k.size+1)) ++ B=(A ++ k.flat c ++ [⟨h,k.roots c⟩]) ++ r.flat (c+k.size+1) ++ B:=by simp
  refine ⟨by rw [e1];exact ih1 c A _ hA,?_,by rw [e2];exact ih2 _ _ B (by simp only [List.length_append,hA,Fo.aD,List.length_cons,List.length_nil])⟩
  rw [e1,List.getElem?_append_right (by simp [hA,Fo.aD])]
  simp [hA,Fo.aD]
theorem Hld.le {L:List Nd}(F:Fo):∀c,Hld L F c->F=.nil∨c+F.size<=L.length:=by
 induction F with
 |nil=>exact fun c _=>.inl rfl
 |cons h k r ih1 ih2=>
  intro c hh
  right
  obtain ⟨h1,h2,h3⟩:=hh;have:=(List.getElem?_eq_some_iff.1 h2).1;rcases ih2 _ h3 with rfl|h4
  ·simp only [Fo.size];omega
  ·simp only [Fo.size];omega
def kq:Fo->Nat->List (Fo×Nat)
 | .nil,_=>[]
 | .cons _ k r,c=>(k,c) ::kq r (c+k.size+1)
def idq (x:Fo×Nat):Nat:=x.2+x.1.size
def rng (x:Fo×Nat):List Nat:=List.range' x.2 (x.1.size+1)
theorem Eb (F:Fo):∀c,(kq F c).map idq=F.roots c:=by
 induction F with
 |nil=>intro c;rfl
 |cons h k r _ ih=>intro c;simp [kq,idq,Fo.roots,ih]
theorem Ku (F:Fo):∀c,(kq F c).flatMap rng=List.range' c F.size:=by
 induction F with
 |nil=>intro c;rfl
 |cons h k r _ ih=>
  intro c;have e:=List.range'_append (s:=c) (m:=k.size+1) (n:=r.size) (step:=1);simp only [kq,List.flatMap_cons,rng,ih,Fo.size];rw [<-e]
  congr 2
  omega
theorem qB (x:Fo×Nat):idq x∈rng x:=by simp only [idq,rng,List.mem_range'_1];omega
theorem Dj (x:Fo×Nat):(rng x).Perm (idq x ::(kq x.1 x.2).flatMap rng):=by
 rw [Ku];have e:rng x=List.range' x.2 x.1.size ++ [idq x]:=by
  have:=List.range'_append (s:=x.2) (m:=x.1.size) (n:=1) (step:=1);simp only [rng,idq];rw [<-this];simp
 rw [e];exact List.perm_append_singleton _ _
structure Bf (c n:Nat) (D:List Nat) (Q R:List (Fo×Nat)):Prop where
 perm:(D ++ (Q ++ R).flatMap rng).Perm (List.range' c (n+1))
theorem Bf.next {c n:Nat}{D:List Nat}{x:Fo×Nat}{Q:List (Fo×Nat)}(h:Bf c n D (x ::Q) []):Bf c n (D ++ [idq x]) Q (kq x.1 x.2):=by
 refine ⟨List.Perm.trans ?_ h.perm⟩;simp only [List.append_nil,List.flatMap_append,List.flatMap_cons,List.append_assoc];refine List.Perm.append_left _ ?_;refine List.Perm.trans ?_ (List.Perm.append_right _ (Dj x).symm);simp only [List.singleton_append,List.cons_append,List.perm_cons,List.nil_append];exact List.perm_append_comm
theorem Bf.claim {c n:Nat}{D:List Nat}{Q R:List (Fo×Nat)}{y:Fo×Nat}(h:Bf c n D Q (y ::R)):(idq y ∉ D ++ Q.map idq/\c<=idq y/\idq y<c+n+1)/\Bf c n D (Q ++ [y]) R:=by
 have hn:(D ++ (Q ++ y ::R).flatMap rng).Nodup:=h.perm.nodup_iff.2 (List.nodup_range');have hm:idq y∈List.range' c (n+1):=h.perm.mem_iff.1 (by simp only [List.mem_append,List.mem_flatMap];exact .inr ⟨y,by simp,qB y⟩)
 rw [List.mem_range'_1] at hm;refine ⟨⟨?_,hm.1,by omega⟩,⟨by simpa using h.perm⟩⟩
 intro hx;rw [List.flatMap_append,List.flatMap_cons,<-List.append_assoc,List.nodup_append] at hn;have h3:=hn.2.2 (idq y);rcases List.mem_append.1 hx with hx|hx
 ·exact h3 (List.mem_append_left _ hx) _ (List.mem_append_left _ (qB y)) rfl
 ·obtain ⟨z,hz,e⟩:=List.mem_map.1 hx;exact h3 (List.mem_append_right _ (List.mem_flatMap.2 ⟨z,hz,e ▸ qB z⟩)) _ (List.mem_append_left _ (qB y)) rfl
theorem Bf.all {c n:Nat}{D:List Nat}(h:Bf c n D [] []):D.Perm (List.range' c (n+1)):=by simpa using h.perm
theorem Bf.len {c n:Nat}{D:List Nat}{Q R:List (Fo×Nat)}(h:Bf c n D Q R):D.length+Q.length+R.length<=n+1:=by
 have h1:=h.perm.length_eq;simp only [List.length_append,List.length_range',List.length_flatMap] at h1;have h2:∀l:List (Fo×Nat),l.length<=(l.map fun a=>(rng a).length).sum:=by
  intro l
  induction l with
  |nil=>simp
  |cons x l ih=>simp only [List.map_cons,List.sum_cons,List.length_cons,rng,List.length_range'] at *;omega
 have:=h2 (Q ++ R);simp only [List.length_append] at this;omega
theorem yl {c n:Nat}{D:List Nat}(h:D.Perm (List.range' c n)):((D.map fun k:Nat=>(k:Int)).mergeSort fun x y=>decide (x<=y))=(List.range' c n).map fun k:Nat=>(k:Int):=by
 have hs:((D.map fun k:Nat=>(k:Int)).mergeSort fun x y=>decide (x<=y)).Pairwise fun x y=>decide (x<=y)=true:=List.pairwise_mergeSort (fun a b c h1 h2=>by simp only [decide_eq_true_eq] at *;omega) (fun a b=>by simp only [Bool.or_eq_true,decide_eq_true_eq];omega) _
 have hp:=(List.mergeSort_perm (D.map fun k:Nat=>(k:Int)) (fun x y=>decide (x<=y))).trans (h.map _)
 refine hp.eq_of_pairwise (le:=fun x y=>decide (x<=y)=true) ?_ hs ?_
 ·intro a b _ _ h1 h2;simp only [decide_eq_true_eq] at h1 h2;omega
 ·rw [List.pairwise_map];refine (List.pairwise_lt_range' (s:=c) (n:=n)).imp ?_;intro a b h;simp only [decide_eq_true_eq];omega
end
section
open Go Go.RowKit Go.Maps
abbrev tSt:TypeId:=9
theorem IG:Keyed prog tSt:=string_keyed underlying9
theorem II {x:List UInt8}(h:x.length<=maxLen):keyOf prog tSt (Ss x)=some (.string x):=by
 have:=Go.WideMaps.keyOf_string_mk (P:=prog) (s:=str x) underlying9 (by rw [lS];exact h)
 simpa using this
abbrev Cj:=Value->Option (DataW Unit×List MemPlace)
def Mpv {α:Type} (R:Cj) (enc:α->DataW Unit) (w:World) (b n:Nat) (l:List (Nm'×α)):Prop:=
 ∃D:DataW Unit,w.ownsMap prog tSt R b n D/\∀x,Maps.has D (.string x)=(look l x).isSome/\∀m z,look l x=some m->D.atKey (.string x) z=enc m
section
variable {α:Type} {R:Cj} {enc:α->DataW Unit} {w:World} {b n:Nat} {l:List (Nm'×α)}
theorem Mpv.lt (h:Mpv R enc w b n l):b<w.heap.size:=let ⟨_,h1,_⟩:=h;h1.lt
theorem Mpv.kept {w':World}(h:Mpv R enc w b n l)(hb:w'.heap[b]? =w.heap[b]?):Mpv R enc w' b n l:=by
 obtain ⟨D,⟨es,clock,h1,h2⟩,h3⟩:=h;exact ⟨D,⟨es,clock,hb.trans h1,h2⟩,h3⟩
theorem Mpv.made (w:World):Mpv R enc (w.alloc (.map #[] 0)) w.heap.size 0 ([]:List (Nm'×α)):=
 ⟨_,World.ownsMap_made w prog tSt R,fun x=>⟨rfl,fun m z h=>by cases h⟩⟩
theorem Mpv.put {t e:TypeId}(ht:prog.underlying t=some (.map tSt e))(h:Mpv R enc w b n l)(hn:n<maxLen){x:List UInt8}(hx:x.length<=maxLen){v:Value}{m:α}{ps:List MemPlace}(hv:R v=some (enc m,ps)) :
  ∃w',(Instr.mapUpdate t (.map (some b)) (Ss x) v).run prog w=.ok () w'/\Mpv R enc w' b (n+1) ((x,m) ::l)/\w.grownBy w' (some b):=by
 obtain ⟨D,h1,h2⟩:=h;obtain ⟨w',hr,ho,hg⟩:=h1.update IG ht hn (II hx) hv;refine ⟨w',hr,⟨_,ho,fun y=>?_⟩,hg⟩
 by_cases hy:x=y
 ·subst hy;refine ⟨by rw [has_put_same h1.isMap (by trivial)];simp [look],fun m' z h=>?_⟩
  rw [atKey_put_same h1.isMap (by trivial)]
  simp [look] at h;rw [h]
 ·have aD:(Lit.string y:Lit)≠.string x:=fun e=>hy (by simpa using e.symm)
  have hl:look ((x,m) ::l) y=look l y:=by simp [look,List.find?_cons,hy]
  rw [hl];exact ⟨by rw [has_put_other aD];exact (h2 y).1,fun m' z h=>by rw [atKey_put_other aD];exact (h2 y).2 m' z h⟩
theorem Mpv.get {t e:TypeId}(ht:prog.underlying t=some (.map tSt e)){zv:Value}(hz:∀w,(zeroValue e).run prog w=.ok zv w){zd:DataW Unit}{zp:List MemPlace}(hzd:R zv=some (zd,zp))(h:Mpv R enc w b n l){x:List UInt8}(hx:x.length<=maxLen) :
  ∃v ps,(Instr.lookup t (.map (some b)) (Ss x) true).run prog w=.ok (.tuple #[v,.bool (look l x).isSome]) w/\R v=some ((match look l x with|some m=>enc m|none=>zd),ps):=by
 obtain ⟨D,h1,h2⟩:=h;obtain ⟨v,ps,hr,hv⟩:=h1.look_ok IG ht (hz w) hzd (II hx);rw [(h2 x).1] at hr;refine ⟨v,ps,hr,?_⟩;rw [hv];clear hr;have key:D.atKey (.string x) zd=(match look l x with|some m=>enc m|none=>zd):=by
  cases hl:look l x with
  |some m=>exact (h2 x).2 m zd hl
  |none=>
   have hh:Maps.has D (.string x)=false:=by rw [(h2 x).1,hl];rfl
   exact atKey_of_not_has hh zd
 rw [key]
end
abbrev tMg:TypeId:=103
abbrev tMm:TypeId:=100
abbrev tLm:TypeId:=66
def mgV (m:Mg):Value:=.agg #[Iv m.so,Iv m.rf,Iv m.vl]
def mgD (m:Mg):DataW Unit:=.agg [.lit (.int .i64 m.so),.lit (.int .i64 m.rf),.lit (.int .i64 m.vl)]
def RMg (v:Value):Option (DataW Unit×List MemPlace):=
 match v with
 | .agg cs=>match cs.toList with
  | [.int .i64 a,.int .i64 b,.int .i64 c]=>some (mgD ⟨a,b,c⟩,[])
  |_=>none
 |_=>none
theorem Dk (m:Mg):RMg (mgV m)=some (mgD m,[]):=rfl
theorem FM {v:Value}{m:Mg}{ps:List MemPlace}(h:RMg v=some (mgD m,ps)):v=mgV m:=by
 unfold RMg at h;split at h
 ·rename_i cs;split at h
  ·rename_i a b c e;simp only [mgD,Option.some.injEq,Prod.mk.injEq,DataW.agg.injEq,List.cons.injEq,DataW.lit.injEq,Lit.int.injEq,and_true,true_and] at h;obtain ⟨⟨rfl,rfl,rfl⟩,-⟩:=h;exact congrArg Value.agg (Array.ext' (by simpa using e))
  ·cases h
 ·cases h
def mz:Mg:=⟨0,0,0⟩
theorem IY (w:World):(zeroValue tMg).run prog w=.ok (mgV mz) w:=by kernel_rfl
def ScV (w:World) (b n:Nat) (l:Scp):Prop:=Mpv RMg mgD w b n l
theorem ScV.get {w:World}{b n:Nat}{l:Scp}(h:ScV w b n l){x:List UInt8}(hx:x.length<=maxLen) :
  (Instr.lookup tMm (.map (some b)) (Ss x) true).run prog w=.ok (.tuple #[mgV ((look l x).getD mz),.bool (look l x).isSome]) w:=by
 obtain ⟨v,ps,hr,hv⟩:=Mpv.get underlying100 IY (Dk mz) h hx;have e:RMg v=some (mgD ((look l x).getD mz),ps):=by
  rw [hv];cases look l x <;> rfl
 rw [FM e] at hr;exact hr
theorem ScV.put {w:World}{b n:Nat}{l:Scp}(h:ScV w b n l)(hn:n<maxLen){x:List UInt8}(hx:x.length<=maxLen)(m:Mg) :
  ∃w',(Instr.mapUpdate tMm (.map (some b)) (Ss x) (mgV m)).run prog w=.ok () w'/\ScV w' b (n+1) ((x,m) ::l)/\w.grownBy w' (some b):=
 Mpv.put underlying100 h hn hx (Dk m)
def intD (k:Int):DataW Unit:=.lit (.int .i64 k)
def RIn (v:Value):Option (DataW Unit×List MemPlace):=
 match v with
 | .int .i64 a=>some (intD a,[])
 |_=>none
theorem FN {v:Value}{k:Int}{ps:List MemPlace}(h:RIn v=some (intD k,ps)):v=Iv k:=by
 unfold RIn at h;split at h
 ·simp only [intD,Option.some.injEq,Prod.mk.injEq,DataW.lit.injEq,Lit.int.injEq,true_and] at h;rw [h.1]
 ·cases h
theorem IZ (w:World):(zeroValue 3).run prog w=.ok (Iv 0) w:=by kernel_rfl
def LbV (w:World) (b n:Nat) (l:List (Nm'×Int)):Prop:=Mpv RIn intD w b n l
theorem LbV.get {w:World}{b n:Nat}{l:List (Nm'×Int)}(h:LbV w b n l){x:List UInt8}(hx:x.length<=maxLen) :
  (Instr.lookup tLm (.map (some b)) (Ss x) true).run prog w=.ok (.tuple #[Iv ((look l x).getD 0),.bool (look l x).isSome]) w:=by
 obtain ⟨v,ps,hr,hv⟩:=Mpv.get underlying66 IZ (show RIn (Iv 0)=some (intD 0,[]) from rfl) h hx
 have e:RIn v=some (intD ((look l x).getD 0),ps):=by
  rw [hv];cases look l x <;> rfl
 rw [FN e] at hr;exact hr
theorem LbV.put {w:World}{b n:Nat}{l:List (Nm'×Int)}(h:LbV w b n l)(hn:n<maxLen){x:List UInt8}(hx:x.length<=maxLen)(k:Int) :
  ∃w',(Instr.mapUpdate tLm (.map (some b)) (Ss x) (Iv k)).run prog w=.ok () w'/\LbV w' b (n+1) ((x,k) ::l)/\w.grownBy w' (some b):=
 Mpv.put underlying66 h hn hx (show RIn (Iv k)=some (intD k,[]) from rfl)
end
end Go.Proofs.YtcchdlnfeijinaaGreatDoor
